/-
  Layer 11 (parse): what stands in brackets.
-/
import Derived.Test.YtlgkjjbefoeabaaGreatDoorPGf
namespace Go.Proofs.YtlgkjjbefoeabaaGreatDoor
open Go.RowKit

theorem Env.list {T : List Tk} {rec : Ph → PM Nat} {i0 : Nat} (E : Env T rec i0) {t : Ps} (ht : S2 T t t) (hc : Cnt T t) : ∀ a u, list T rec t = .ok (a, u) → S2 T u u ∧ Cnt T u := fun _ _ e => ⟨((list_ok2 (Alike.refl T) E.ok2 ht).fin (by omega) hc e).1, ((list_ok2 (Alike.refl T) E.ok2 ht).fin (by omega) hc e).2.1⟩
set_option maxRecDepth 100000 in
set_option maxHeartbeats 6400000 in
theorem rd_bracketed {T : List Tk} {rec : Ph → PM Nat} {s : Ps} (E : Env T rec (s.i + 1)) (hfin : ∀ a t, bracketed T rec (tokAt T s.i) s = .ok (a, t) → S2 T t t ∧ Cnt T t) {w : World} {g : Nat} {Tv Nv : Value} {N : List Nd} (h : PS w g Tv T Nv N s) :
    Calls Tryz.prog 185 #[.pointer (some ⟨g, 0, none⟩), (tokAt T s.i).val] w (Rd T w g Tv Nv N (bracketed T rec (tokAt T s.i) s)) := by
  obtain ⟨res, hres⟩ : ∃ res, bracketed T rec (tokAt T s.i) s = res := ⟨_, rfl⟩
  rw [hres]
  have HQ := Hid.mk7 hres
  have htl := h.at_.tl
  have hmf := Tryz.makeFn
  have HP := Hid.mk7 (And.intro E (And.intro hfin h))
  clear hres hfin E h
  generalize tokAt T s.i = t at HQ HP ⊢
  obtain ⟨tk, tt, tn, ta⟩ := t
  simp only [Tk.val]
  have r1 := (Rg.refl HP.out.2.2).below (Below.alloc0 w (.cells #[.int .i64 tk, .string tt, .int .i64 tn, .int .i64 ta] 40))
  have HR1 := Hid.mk7 r1
  clear r1
  by_cases h1 : tt = ⟨#[123]⟩
  · subst h1
    have hE := fun W (hW : Below _ _ W) => rd_enclosed_whole (HP.out.1.fwd (.expr 1) (by simp [okPh])) HP.out.1.whole ⟨#[123]⟩ ⟨#[125]⟩ (s := s) (Nat.le_refl _) (HR1.out.below hW).ps
    cases hen : enclosed T ⟨#[123]⟩ ⟨#[125]⟩ (rec (.expr 1)) s with
    | error e =>
      have hre : res = .error e := by rw [← HQ.out]; simp [bracketed, whole, PM.bind, hen]
      subst hre
      simp only [hen] at hE
      clear hen
      go_enter Tryz.func185, Tryz.ntmps185
      go_wp2_with fail
      go_region_with (go_at_call 118; refine (hE _ (Below.refl _ _).drew).mono ?_; rintro x w5 ⟨rfl, T5⟩; refine idle_of w5 ⟨rfl, rfl, (HR1.out.below (Below.refl _ _).drew).bad T5⟩ ?_)
      all_goals trivial
    | ok kt =>
      obtain ⟨ks, t⟩ := kt
      have hT : 0 < T.length := by
        cases hsg : sgn T ⟨#[123]⟩ s.i with
        | false => simp [enclosed, PM.bind, pNeed, hsg] at hen
        | true => have := sgn_lt hsg; omega
      have hre : bracketed T rec ⟨tk, ⟨#[123]⟩, tn, ta⟩ s = .ok (t.N.length, ⟨t.i, t.N ++ [⟨4, ⟨#[]⟩, ⟨#[]⟩, 0, ks, ta⟩]⟩) := by simp [bracketed, whole, PM.bind, hen, pAdd]
      obtain ⟨q1, q2⟩ := HP.out.2.1 _ _ hre
      have hre2 : res = .ok (t.N.length, ⟨t.i, t.N ++ [⟨4, ⟨#[]⟩, ⟨#[]⟩, 0, ks, ta⟩]⟩) := HQ.out.symm.trans hre
      subst hre2
      have HF := Hid.mk7 (And.intro q1 q2)
      simp only [hen] at hE
      have hfr : ∀ w5 (x : Ending), RdL T (w.alloc (.cells #[.int .i64 tk, .string ⟨#[123]⟩, .int .i64 tn, .int .i64 ta] 40)).drew g Tv Nv (N ++ []) (.ok (ks, t)) x w5 → ∃ a c, x = .returned (.slice a ks.length c) ∧ (∃ Nv5 M5, Rg T w w5 g Tv Nv N t Nv5 M5 ∧ Kd T w w5 g Tv Nv5 (N ++ M5) (.slice a ks.length c) ks) ∧ w5.cell? ⟨w.heap.size, 3, none⟩ = some (.int .i64 ta) := fun w5 x hx => by
        obtain ⟨V5, e, Nv5, M5, r5, k5, S5, _⟩ := (HR1.out.below (Below.refl _ _).drew).rdL hx
        obtain ⟨a5, c5, hV, _⟩ := OwnK.sl k5.own |>.form
        subst hV
        have f := HP.out.2.2.at_.free hT w.heap.size (Nat.le_refl _)
        refine ⟨a5, c5, e, ⟨Nv5, M5, r5, k5⟩, ?_⟩
        exact ((Turned.drew _ _).trans S5.t (fun _ e => .inl e)).cell (S := fun k => k = g ∨ blk Nv k) (by simp) (fun e => e.elim f.g f.n)
      clear hen hre q1 q2
      go_enter Tryz.func185, Tryz.ntmps185
      go_wp2_with fail
      go_region_with (first
        | (go_at_call 78; refine c6.mono ?_; rintro x w6 ⟨rfl, Nv6, r6, _⟩; have H6 := Hid.mk7 r6; clear r6)
        | (go_at_call 118; refine (hE _ (Below.refl _ _).drew).mono ?_; intro x w5 hx; obtain ⟨a5, q5, rfl, ⟨Nv5, M5, r5, k5⟩, n3⟩ := hfr _ _ hx; have c6 := rg_add r5 hT ⟨4, ⟨#[]⟩, ⟨#[]⟩, 0, .slice a5 ks.length q5, ks, ta⟩ k5 HF.out.1 HF.out.2; simp only [Nd.val] at c6; clear hx r5 k5))
      all_goals
        go_wp2
        go_ret
        exact H6.out.of
  · by_cases h2 : tt = ⟨#[91]⟩
    · subst h2
      have c2 := rd_list HP.out.1 (HP.out.1.list HP.out.2.2.ok HP.out.2.2.cnt) HR1.out.ps
      cases hl : list T rec s with
      | error e =>
        have hre : res = .error e := by rw [← HQ.out]; simp [bracketed, hl]
        subst hre
        rw [hl] at c2
        clear hl h1
        go_enter Tryz.func185, Tryz.ntmps185
        go_wp2_with fail
        refine c2.mono ?_
        rintro x w2 ⟨rfl, T2⟩
        exact ⟨rfl, rfl, HR1.out.bad T2⟩
      | ok bt =>
        obtain ⟨b, u⟩ := bt
        have hre : res = .ok (b, u) := by rw [← HQ.out]; simp [bracketed, hl]
        subst hre
        rw [hl] at c2
        clear hl h1
        go_enter Tryz.func185, Tryz.ntmps185
        go_wp2_with fail
        refine c2.mono ?_
        intro x w2 hx
        obtain ⟨rfl, Nv2, M2, r2, _⟩ := HR1.out.rd hx
        have H2 := Hid.mk7 r2
        clear c2 hx r2
        go_wp2
        go_ret
        exact H2.out.of
    · have hb1 : (tt.toList == [123]) = false := by
        have h9 := bytes_ne h1
        simpa [ByteArray.toList_eq] using h9
      have hb2 : (tt.toList == [91]) = false := by
        have h9 := bytes_ne h2
        simpa [ByteArray.toList_eq] using h9
      have HN := Hid.mk7 (And.intro h1 h2)
      clear h1 h2
      cases h3 : sgn T ⟨#[40]⟩ s.i with
      | false =>
        have hre : res = .error s.i := by rw [← HQ.out]; simp [bracketed, HN.out.1, HN.out.2, PM.bind, pNeed, h3]
        subst hre
        have c3 := rg_sign_bad HR1.out h3
        clear h3
        go_enter Tryz.func185, Tryz.ntmps185
        go_wp2_with fail
        refine c3.mono ?_
        rintro x w3 ⟨rfl, T3⟩
        exact ⟨rfl, rfl, T3⟩
      | true =>
        have c3 := rg_sign HR1.out h3
        unfold Tkn at c3
        generalize (tokAt T s.i).val = tv3 at c3
        have H3 := Hid.mk7 h3
        clear h3
        go_enter Tryz.func185, Tryz.ntmps185
        go_wp2_with fail
        refine c3.mono ?_
        rintro x w3 ⟨rfl, r3, _⟩
        have c4 := HP.out.1.whole ⟨s.i + 1, s.N⟩ (Nat.le_refl _) _ g Tv _ _ r3.ps
        have HR3 := Hid.mk7 r3
        clear c3 r3
        cases hw : whole rec ⟨s.i + 1, s.N⟩ with
        | error e =>
          have hre : res = .error e := by rw [← HQ.out]; simp [bracketed, HN.out.1, HN.out.2, PM.bind, pNeed, H3.out, hw]
          subst hre
          rw [hw] at c4
          clear hw
          go_wp2_with fail
          refine c4.mono ?_
          rintro x w4 ⟨rfl, T4⟩
          exact ⟨rfl, rfl, HR3.out.bad T4⟩
        | ok at_ =>
          obtain ⟨a, t⟩ := at_
          rw [hw] at c4
          have HW := Hid.mk7 hw
          clear hw
          go_wp2_with fail
          refine c4.mono ?_
          intro x w4 hx
          obtain ⟨rfl, Nv4, M4, r4, _⟩ := HR3.out.rd hx
          clear c4 hx
          cases h5 : sgn T ⟨#[41]⟩ t.i with
          | false =>
            have hre : res = .error t.i := by rw [← HQ.out]; simp [bracketed, HN.out.1, HN.out.2, PM.bind, pNeed, H3.out, HW.out, h5]
            subst hre
            have c5 := rg_sign_bad r4 h5
            clear r4 h5
            go_wp2_with fail
            refine c5.mono ?_
            rintro x w5 ⟨rfl, T5⟩
            exact ⟨rfl, rfl, T5⟩
          | true =>
            have hre : res = .ok (a, ⟨t.i + 1, t.N⟩) := by rw [← HQ.out]; simp [bracketed, HN.out.1, HN.out.2, PM.bind, pNeed, H3.out, HW.out, h5, PM.ret]
            subst hre
            have c5 := rg_sign r4 h5
            unfold Tkn at c5
            generalize (tokAt T t.i).val = tv5 at c5
            clear r4 h5
            go_wp2_with fail
            refine c5.mono ?_
            rintro x w5 ⟨rfl, r5, _⟩
            have H5 := Hid.mk7 r5
            clear c5 r5
            go_wp2
            go_ret
            exact H5.out.of
end Go.Proofs.YtlgkjjbefoeabaaGreatDoor
