/-
  Layer 11 (parse): what stands behind 'after'.
-/
import Derived.Test.YtlgkjjbefoeabaaGreatDoorPGc
namespace Go.Proofs.YtlgkjjbefoeabaaGreatDoor
open Go.RowKit

section
variable {T : List Tk} {w wr : World} {g : Nat} {Tv Nv Nv1 V : Value} {N M1 : List Nd} {s : Ps} {l : List Int}
/-- A node with its Kids is laid into a block of its own. -/
theorem MkI.of_kd (r : Rg T w wr g Tv Nv N s Nv1 M1) (k : Kd T w wr g Tv Nv1 (N ++ M1) V l) (hT : 0 < T.length) (nk : Int) (nt nm : ByteArray) (nn na : Int) : MkI T w (wr.alloc (.cells #[.int .i64 nk, .string nt, .string nm, .int .i64 nn, V, .int .i64 na] 47)) g Tv Nv N s Nv1 M1 wr.heap.size nk nt nm nn V l na := by
  obtain ⟨⟨n0, n1, n2, n3, n4, n5⟩, nf⟩ := newNode (w := wr) (.int .i64 nk) (.string nt) (.string nm) (.int .i64 nn) V (.int .i64 na) (Turned.refl (fun _ => False) _) (fun e => e)
  have f := r.ps.at_.free hT wr.heap.size (Nat.le_refl _)
  have hb := Below.alloc0 wr (.cells #[.int .i64 nk, .string nt, .string nm, .int .i64 nn, V, .int .i64 na] 47)
  have k2 := k.below hb
  exact ⟨r.below hb, ⟨n0, n1, n2, n3, n4, n5, nf, k2.own, fun e => by have := OwnK.blk_lt k.own _ e; omega, ⟨f.g, f.t, f.n, f.k⟩, fun q hq => (k2.fv q hq).2⟩, fun q hq => (k.fv q hq).1, r.size⟩
/-- One number as Kids. -/
theorem Kd.one (r : Rg T w wr g Tv Nv N s Nv1 M1) (hT : 0 < T.length) (a : Int) : Kd T w (wr.alloc (.cells #[.int .i64 a] 3)) g Tv Nv1 (N ++ M1) (.slice (some ⟨wr.heap.size, 0, none⟩) 1 1) [a] := by
  refine ⟨⟨by simp [ints], .inr ⟨wr.heap.size, 0, 1, rfl, Nat.le_refl _, by decide, by simp, fun j hj => ?_, fun j hj => ?_⟩⟩, fun k hk => ?_⟩
  · have hj1 : j < 1 := hj
    match j, hj1 with
    | 0, _ => simp [ints]
  · have hj1 : j < 1 := by omega
    match j, hj1 with
    | 0, _ => exact ⟨by simp, by rw [World.frozen?_alloc_new]⟩
  · have hk : wr.heap.size = k := hk
    subst hk
    have f := r.ps.at_.free hT wr.heap.size (Nat.le_refl _)
    exact ⟨r.size, ⟨f.g, f.t, f.n, f.k⟩⟩
end
set_option maxRecDepth 100000 in
set_option maxHeartbeats 6400000 in
theorem rd_after {T : List Tk} {rec : Ph → PM Nat} {s : Ps} (E : Env T rec (s.i + 1)) (hfin : ∀ a t, after T rec s = .ok (a, t) → S2 T t t ∧ Cnt T t) {w : World} {g : Nat} {Tv Nv : Value} {N : List Nd} (h : PS w g Tv T Nv N s) :
    Calls Tryz.prog 200 #[.pointer (some ⟨g, 0, none⟩)] w (Rd T w g Tv Nv N (after T rec s)) := by
  obtain ⟨res, hres⟩ : ∃ res, after T rec s = res := ⟨_, rfl⟩
  rw [hres]
  have HQ := Hid.mk7 hres
  have htl := h.at_.tl
  have r0 := Rg.refl h
  have hfa := Tryz.tokPlace
  have HP := Hid.mk7 (And.intro E (And.intro hfin h))
  clear hres hfin E h
  cases h1 : wrd T ⟨#[97, 102, 116, 101, 114]⟩ s.i with
  | false =>
    have hre : res = .error s.i := by rw [← HQ.out]; simp [after, PM.bind, pNeed, h1]
    subst hre
    have c1 := rg_word_bad r0 h1
    clear r0 h1
    go_enter Tryz.func200, Tryz.ntmps200
    go_wp2_with fail
    refine c1.mono ?_
    rintro x w1 ⟨rfl, T1⟩
    exact ⟨rfl, rfl, T1⟩
  | true =>
    have hT : 0 < T.length := by have := wrd_lt h1; omega
    have c1 := rg_word r0 h1
    unfold Tkn at c1
    have H1 := Hid.mk7 h1
    obtain ⟨tk, htk⟩ : ∃ tk, tokAt T s.i = tk := ⟨_, rfl⟩
    rw [htk] at c1
    have HT := Hid.mk7 htk
    clear r0 h1 htk
    obtain ⟨tk, tt, tn, ta⟩ := tk
    simp only [Tk.val] at c1
    go_enter Tryz.func200, Tryz.ntmps200
    go_wp2_with fail
    refine c1.mono ?_
    rintro x w1 ⟨rfl, r1, _⟩
    have c2 := HP.out.1.whole ⟨s.i + 1, s.N⟩ (Nat.le_refl _) _ g Tv _ _ r1.ps
    have hps1 := r1.ps
    have HR1 := Hid.mk7 r1
    clear c1 r1
    cases hw : whole rec ⟨s.i + 1, s.N⟩ with
    | error e =>
      have hre : res = .error e := by rw [← HQ.out]; simp [after, PM.bind, pNeed, H1.out, hw]
      subst hre
      rw [hw] at c2
      clear hw hps1
      go_wp2_with fail
      refine c2.mono ?_
      rintro x w2 ⟨rfl, T2⟩
      exact ⟨rfl, rfl, HR1.out.bad T2⟩
    | ok at_ =>
      obtain ⟨a, t⟩ := at_
      obtain ⟨_, _, hit, _⟩ := (HP.out.1.fwd (.expr 1) (by simp [okPh])).ok hps1.ok hps1.cnt hw
      have HW := Hid.mk7 (And.intro hw hit)
      rw [hw] at c2
      clear hw hit hps1
      go_wp2_with fail
      refine c2.mono ?_
      intro x w2 hx
      obtain ⟨rfl, Nv2, M2, r2, _⟩ := HR1.out.rd hx
      have k2 := Kd.one r2 hT (a : Int)
      have mk3 := MkI.of_kd (r2.below (Below.alloc0 w2 (.cells #[.int .i64 (a : Int)] 3))) k2 hT 24 ⟨#[]⟩ ⟨#[]⟩ 0 ta
      simp only [World.size_alloc] at mk3
      have HK := Hid.mk7 mk3
      clear c2 hx r2 k2 mk3
      cases h4 : sgn T ⟨#[45, 62]⟩ t.i with
      | false =>
        have hre : res = .error t.i := by rw [← HQ.out]; simp [after, PM.bind, pNeed, H1.out, HW.out.1, h4]
        subst hre
        have c4 := rg_sign_bad HK.out.rg h4
        clear h4
        go_wp2_with fail
        refine c4.mono ?_
        rintro x w4 ⟨rfl, T4⟩
        exact ⟨rfl, rfl, T4⟩
      | true =>
        have c4 := rg_sign HK.out.rg h4
        unfold Tkn at c4
        generalize (tokAt T t.i).val = tv4 at c4
        have HS := Hid.mk7 h4
        clear h4
        go_wp2_with fail
        refine c4.mono ?_
        rintro x w4 ⟨rfl, r4, T4⟩
        have mk4 := HK.out.to r4 (Stp.ofG T4)
        have hE4 := fun W (hW : Below w4.heap.size w4 W) => HP.out.1.run .body trivial ⟨t.i + 1, t.N⟩ (by have h9 : s.i + 1 < t.i := HW.out.2; show s.i + 1 ≤ t.i + 1; omega) W g Tv _ _ (r4.below hW).ps
        have n4 := mk4.bx.n4
        have H4 := Hid.mk7 mk4
        clear c4 r4 T4 mk4 HK
        cases hb2 : rec .body ⟨t.i + 1, t.N⟩ with
        | error e =>
          have hre : res = .error e := by rw [← HQ.out]; simp [after, PM.bind, pNeed, H1.out, HW.out.1, HS.out, hb2]
          subst hre
          simp only [hb2, fnOf, moreOf] at hE4
          clear hb2
          go_wp2_with fail
          go_region_law (rw [if_pos (by rfl)]; go_simp; go_at_call 148; refine (hE4 _ (Below.refl _ _).drew).mono ?_; rintro x w5 ⟨rfl, T5⟩; refine idle_of w5 ⟨rfl, rfl, (H4.out.rg.below (Below.refl _ _).drew).bad T5⟩ ?_)
          all_goals trivial
        | ok bt =>
          obtain ⟨bk, t2⟩ := bt
          have hre : after T rec s = .ok (t2.N.length, ⟨t2.i, t2.N ++ [⟨24, ⟨#[]⟩, ⟨#[]⟩, 0, [(a : Int), (bk : Int)], ta⟩]⟩) := by simp [after, PM.bind, pNeed, H1.out, HW.out.1, HS.out, hb2, pAdd, HT.out]
          obtain ⟨q1, q2⟩ := HP.out.2.1 _ _ hre
          have hre2 : res = .ok (t2.N.length, ⟨t2.i, t2.N ++ [⟨24, ⟨#[]⟩, ⟨#[]⟩, 0, [(a : Int), (bk : Int)], ta⟩]⟩) := HQ.out.symm.trans hre
          subst hre2
          have HF := Hid.mk7 (And.intro q1 q2)
          simp only [hb2, fnOf, moreOf] at hE4
          clear hb2 hre q1 q2
          go_wp2_with fail
          go_region_law (first
            | (rw [if_pos (by rfl)]; go_simp; go_at_call 148; refine (hE4 _ (Below.refl _ _).drew).mono ?_; intro x w5 hx; obtain ⟨rfl, Nv5, M5, m5⟩ := H4.out.rd (Below.refl _ _).drew hx; have k5 := m5.bx.n4; have q5 := m5.bx.lt; have H5 := Hid.mk7 m5; clear hx m5; dsimp only)
            | (refine step_append_k (by rfl) (.tmp 14) (.tmp 17) (by rfl) Tryz.intTypes (by rfl) (by rfl) (OwnK.turned H5.out.bx.own (Turned.alloc (fun _ => False) _ _) (fun _ _ e => e)) (SlI.one w5 _ _) (ints_one _) (by simp) (by simp) ?_; intro V6 w6 ho6 T6 hv6; obtain ⟨aV6, cV6, hV6, _, _⟩ := ho6.sl.form; subst hV6; obtain ⟨c6, f6, l6⟩ := H5.out.cell (Below.alloc0 w5 _) T6))
          all_goals
            have mk7 := H5.out.more (V2 := .slice aV6 2 cV6) hT (Below.alloc0 w5 _) ho6 T6 hv6
            have c7 := rg_add mk7.rg hT ⟨24, ⟨#[]⟩, ⟨#[]⟩, 0, .slice aV6 2 cV6, [(a : Int)] ++ [(bk : Int)], ta⟩ mk7.kd HF.out.1 HF.out.2
            simp only [Nd.val] at c7
            obtain ⟨n0, n1, n2, n3, n4', n5, _, _, _, _, _⟩ := mk7.bx
            clear mk7 ho6 T6 hv6 c6 f6
            generalize w6.setCell _ _ = w7 at c7 n0 n1 n2 n3 n4' n5 ⊢
            go_wp2_with fail
            refine c7.mono ?_
            rintro x w8 ⟨rfl, Nv8, r8, _⟩
            have H8 := Hid.mk7 r8
            clear r8 c7 n0 n1 n2 n3 n4' n5
            go_wp2
            go_ret
            exact H8.out.of
end Go.Proofs.YtlgkjjbefoeabaaGreatDoor
