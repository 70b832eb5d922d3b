/-
  Layer 11 (parse): a clause of a function.
-/
import Derived.Test.YtlgkjjbefoeabaaGreatDoorPGg
namespace Go.Proofs.YtlgkjjbefoeabaaGreatDoor
open Go.RowKit

set_option maxRecDepth 100000 in
set_option maxHeartbeats 6400000 in
theorem rd_fclause {T : List Tk} {rec : Ph → PM Nat} {s : Ps} (E : Env T rec (s.i + 1)) {w : World} {g : Nat} {Tv Nv : Value} {N : List Nd} (h : PS w g Tv T Nv N s) :
    Calls Tryz.prog 121 #[.pointer (some ⟨g, 0, none⟩)] w (Rd T w g Tv Nv N (phBody T rec .fclause s)) := by
  obtain ⟨res, hres⟩ : ∃ res, phBody T rec .fclause s = res := ⟨_, rfl⟩
  rw [hres]
  have HQ := Hid.mk7 hres
  have htl := h.at_.tl
  have r0 := Rg.refl h
  have hfa := Tryz.tokPlace
  have HP := Hid.mk7 (And.intro E h)
  clear hres E h
  cases h1 : knd T 1 s.i with
  | false =>
    have hre : res = .error s.i := by rw [← HQ.out]; simp [phBody, PM.bind, pNeed, h1]
    subst hre
    have c1 := rg_kind_bad r0 h1
    clear r0 h1
    go_enter Tryz.func121, Tryz.ntmps121
    go_wp2_with fail
    refine c1.mono ?_
    rintro x w1 ⟨rfl, T1⟩
    exact ⟨rfl, rfl, T1⟩
  | true =>
    have hT : 0 < T.length := by have := knd_lt (by decide) h1; omega
    have c1 := rg_kind r0 (by decide) h1
    unfold Tkn at c1
    have H1 := Hid.mk7 h1
    obtain ⟨tk, htk⟩ : ∃ tk, tokAt T s.i = tk := ⟨_, rfl⟩
    rw [htk] at c1
    obtain ⟨ok, hok⟩ : ∃ ok, tokAt T (s.i + 1) = ok := ⟨_, rfl⟩
    have HT := Hid.mk7 (And.intro htk hok)
    clear r0 h1 htk hok
    obtain ⟨tk, tt, tn, ta⟩ := tk
    obtain ⟨ok, ot, on_, oa⟩ := ok
    simp only [Tk.val] at c1
    go_enter Tryz.func121, Tryz.ntmps121
    go_wp2_with fail
    refine c1.mono ?_
    rintro x w1 ⟨rfl, r1, _⟩
    have r2 := r1.below (Below.alloc0 w1 (.cells #[.int .i64 tk, .string tt, .int .i64 tn, .int .i64 ta] 40))
    have f := r1.ps.at_.free hT w1.heap.size (Nat.le_refl _)
    have c3 := rg_peek r2
    rw [show tokAt T (⟨s.i + 1, s.N⟩ : Ps).i = ⟨ok, ot, on_, oa⟩ from HT.out.2] at c3
    simp only [Tk.val] at c3
    have HFr := Hid.mk7 f
    clear c1 r1 r2 f
    go_wp2_with fail
    refine c3.mono ?_
    rintro x w3 ⟨rfl, r3, hb3⟩
    have c4 := rd_arguments (HP.out.1.fwd (.expr 1) (by simp [okPh])) HP.out.1.whole (s := ⟨s.i + 1, s.N⟩) (Nat.le_succ _) r3.ps
    have hps := r3.ps
    have HR3 := Hid.mk7 (And.intro r3 hb3)
    clear c3 r3 hb3
    cases ha : arguments T rec ⟨s.i + 1, s.N⟩ with
    | error e =>
      have hre : res = .error e := by rw [← HQ.out]; simp [phBody, PM.bind, pNeed, pTok, H1.out, ha]
      subst hre
      rw [ha] at c4
      clear ha hps
      go_wp2_with fail
      refine c4.mono ?_
      rintro x w4 ⟨rfl, T4⟩
      exact ⟨rfl, rfl, HR3.out.1.bad T4⟩
    | ok kt =>
      obtain ⟨ks, t⟩ := kt
      have hpre : PM.bind (arguments T rec) (fun ks => pAdd ⟨25, ⟨#[]⟩, ⟨#[]⟩, 0, ks, oa⟩) ⟨s.i + 1, s.N⟩ = .ok (t.N.length, ⟨t.i, t.N ++ [⟨25, ⟨#[]⟩, ⟨#[]⟩, 0, ks, oa⟩]⟩) := by simp [PM.bind, ha, pAdd]
      obtain ⟨q1, q2, q3⟩ := (Ok2.bind (arguments_ok2 (Alike.refl T) HP.out.1.ok2 hps.ok) (k := fun ks => pAdd ⟨25, ⟨#[]⟩, ⟨#[]⟩, 0, ks, oa⟩) (k' := fun ks => pAdd ⟨25, ⟨#[]⟩, ⟨#[]⟩, 0, ks, oa⟩) fun b b' u u' hu vb _ _ => Ok2.add hu (by simp [Sh.bare, vb.1]) vb.2).fin (by omega) hps.cnt hpre
      have hrs : res = rest T rec ⟨20, tt, ⟨#[]⟩, 0, [], ta⟩ t.N.length ⟨t.i, t.N ++ [⟨25, ⟨#[]⟩, ⟨#[]⟩, 0, ks, oa⟩]⟩ := by rw [← HQ.out]; simp [phBody, PM.bind, pNeed, pTok, H1.out, ha, pAdd, HT.out.1, HT.out.2]
      have hfin := fun n => HP.out.1.rest (n := n) (p := t.N.length) q1 (by simp) q2
      have HF := Hid.mk7 (And.intro q1 (And.intro q2 (And.intro hrs (And.intro hfin q3))))
      rw [ha] at c4
      clear ha hps hpre q1 q2 q3 hrs hfin
      go_wp2_with fail
      refine c4.mono ?_
      intro x w4 hx
      obtain ⟨V4, rfl, Nv4, M4, r4, k4, S4, _⟩ := HR3.out.1.rdL hx
      obtain ⟨a4, q4, hV4, _⟩ := OwnK.sl k4.own |>.form
      subst hV4
      have c5 := rg_add r4 hT ⟨25, ⟨#[]⟩, ⟨#[]⟩, 0, .slice a4 ks.length q4, ks, oa⟩ k4 HF.out.1 HF.out.2.1
      simp only [Nd.val] at c5
      have T4 : Turned (fun k => k = g ∨ blk Nv k) (w1.alloc (.cells #[.int .i64 tk, .string tt, .int .i64 tn, .int .i64 ta] 40)) w4 := (Turned.ofBelow HR3.out.2).trans S4.t (fun _ e => .inl e)
      have HS4 := Hid.mk7 (And.intro T4 S4.n)
      have hz3 := HR3.out.2.size
      have Hz3 := Hid.mk7 hz3
      clear c4 hx r4 k4 S4 T4 hz3
      go_wp2_with fail
      refine c5.mono ?_
      rintro x w5 ⟨rfl, Nv5, r5, S5⟩
      have T5 : Turned (fun k => k = g ∨ blk Nv k) (w1.alloc (.cells #[.int .i64 tk, .string tt, .int .i64 tn, .int .i64 ta] 40)) w5 := HS4.out.1.trans S5.t (fun k e => e.elim (fun e => .inl (.inl e)) (fun e => (HS4.out.2 k e).elim (fun e => .inl (.inr e)) (fun e => .inr (Nat.le_trans Hz3.out e))))
      have hq : ¬ (w1.heap.size = g ∨ blk Nv w1.heap.size) := fun e => e.elim HFr.out.g HFr.out.n
      have n1 := T5.cell (p := ⟨w1.heap.size, 1, none⟩) (v := .string tt) (by simp) hq
      have n3 := T5.cell (p := ⟨w1.heap.size, 3, none⟩) (v := .int .i64 ta) (by simp) hq
      have c6 : Calls Tryz.prog 134 #[.pointer (some ⟨g, 0, none⟩), .agg #[.int .i64 20, .string tt, .string ⟨#[]⟩, .int .i64 0, .slice none 0 0, .int .i64 ta], .int .i64 (t.N.length : Int)] w5 (Rd T w5 g Tv Nv5 (N ++ (M4 ++ [⟨25, ⟨#[]⟩, ⟨#[]⟩, 0, .slice a4 ks.length q4, ks, oa⟩])) res) := by
        rw [HF.out.2.2.1]
        have h9 : s.i + 1 ≤ t.i := HF.out.2.2.2.2
        exact rd_rest 20 tt ⟨#[]⟩ 0 ta t.N.length ((HP.out.1.run .guard trivial).up (by show s.i + 1 ≤ t.i + 1; omega)) (HP.out.1.fwd .guard trivial) ((HP.out.1.run .body trivial).up (by show s.i + 1 ≤ t.i + 1; omega)) hT (HF.out.2.2.2.1 _) r5.ps
      have H5 := Hid.mk7 r5
      clear c5 r5 S5 T5 hq
      cases res with
      | error e =>
        go_wp2_with fail
        refine c6.mono ?_
        rintro x w6 ⟨rfl, T6⟩
        exact ⟨rfl, rfl, H5.out.bad T6⟩
      | ok bt =>
        obtain ⟨b, u⟩ := bt
        go_wp2_with fail
        refine c6.mono ?_
        intro x w6 hx
        obtain ⟨rfl, Nv6, M6, r6, _⟩ := H5.out.rd hx
        have H6 := Hid.mk7 r6
        clear c6 hx r6 n1 n3
        go_wp2
        go_ret
        exact H6.out.of
end Go.Proofs.YtlgkjjbefoeabaaGreatDoor
