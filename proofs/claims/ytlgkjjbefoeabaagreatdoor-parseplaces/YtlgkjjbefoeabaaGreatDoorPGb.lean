/-
  Layer 11 (parse): what stands behind a list's last element; a clause.
-/
import Derived.Test.YtlgkjjbefoeabaaGreatDoorPGa
namespace Go.Proofs.YtlgkjjbefoeabaaGreatDoor
open Go.RowKit

set_option maxRecDepth 100000 in
set_option maxHeartbeats 3200000 in
theorem rd_tail {T : List Tk} {rec : Ph → PM Nat} {s : Ps} (hr : Runs T 145 [] (whole rec) (s.i + 1)) (hT : 0 < T.length) (hfin : ∀ a t, tail T rec s = .ok (a, t) → S2 T t t ∧ Cnt T t) {w : World} {g : Nat} {Tv Nv : Value} {N : List Nd} (h : PS w g Tv T Nv N s) :
    Calls Tryz.prog 199 #[.pointer (some ⟨g, 0, none⟩)] w (Rd T w g Tv Nv N (tail T rec s)) := by
  obtain ⟨res, hres⟩ : ∃ res, tail T rec s = res := ⟨_, rfl⟩
  rw [hres]
  have HQ := Hid.mk7 hres
  have htl := h.at_.tl
  have r0 := Rg.refl h
  have c1 := rg_isSign r0 ⟨#[124]⟩
  have hfa := Tryz.tokPlace
  have HP := Hid.mk7 (And.intro hr hfin)
  clear hres hr hfin h r0
  cases h1 : sgn T ⟨#[124]⟩ s.i with
  | false =>
    rw [h1] at c1
    have H1 := Hid.mk7 h1
    clear h1
    go_enter Tryz.func199, Tryz.ntmps199
    go_wp2_with fail
    refine c1.mono ?_
    rintro x w1 ⟨rfl, r1, _⟩
    clear c1
    cases h2 : sgn T ⟨#[93]⟩ s.i with
    | false =>
      have hre : res = .error s.i := by rw [← HQ.out]; simp [tail, PM.bind, pIf, pNeed, H1.out, h2]
      subst hre
      have c2 := rg_sign_bad r1 h2
      clear r1 h2
      go_wp2_with fail
      refine c2.mono ?_
      rintro x w2 ⟨rfl, T2⟩
      exact ⟨rfl, rfl, T2⟩
    | true =>
      have hre : tail T rec s = .ok (s.N.length, ⟨s.i + 1, s.N ++ [⟨5, ⟨#[]⟩, ⟨#[]⟩, 0, [], (tokAt T s.i).at_⟩]⟩) := by simp [tail, PM.bind, pIf, pNeed, H1.out, h2, pAdd]
      obtain ⟨q1, q2⟩ := HP.out.2 _ _ hre
      have hre2 : res = .ok (s.N.length, ⟨s.i + 1, s.N ++ [⟨5, ⟨#[]⟩, ⟨#[]⟩, 0, [], (tokAt T s.i).at_⟩]⟩) := HQ.out.symm.trans hre
      subst hre2
      have HF := Hid.mk7 (And.intro q1 q2)
      have c2 := rg_sign r1 h2
      unfold Tkn at c2
      clear r1 h2 hre q1 q2 HQ
      obtain ⟨tk, htk⟩ : ∃ tk, tokAt T s.i = tk := ⟨_, rfl⟩
      rw [htk] at c2 HF
      have HT := Hid.mk7 htk
      clear htk
      obtain ⟨tk, tt, tn, ta⟩ := tk
      simp only [Tk.val] at c2
      simp only at HF
      go_wp2_with fail
      refine c2.mono ?_
      rintro x w2 ⟨rfl, r2, _⟩
      have c3 := rg_add r2 hT ⟨5, ⟨#[]⟩, ⟨#[]⟩, 0, .slice none 0 0, [], ta⟩ (Kd.nil _ _ _ _ _ _ _) HF.out.1 HF.out.2
      simp only [Nd.val] at c3
      clear c2 r2
      go_wp2_with fail
      refine c3.mono ?_
      rintro x w3 ⟨rfl, Nv3, r3, _⟩
      have H3 := Hid.mk7 r3
      clear c3 r3
      go_wp2
      go_ret
      rw [HT.out]
      exact H3.out.of
  | true =>
    rw [h1] at c1
    have hlt := sgn_lt h1
    have H1 := Hid.mk7 h1
    clear h1
    go_enter Tryz.func199, Tryz.ntmps199
    go_wp2_with fail
    refine c1.mono ?_
    rintro x w1 ⟨rfl, r1, _⟩
    clear c1
    have k1 := r1.ps.at_.c1.1
    have f1 := r1.ps.at_.c1.2
    have r2 := r1.skip 1 hlt
    rw [show ((s.i + 1 : Nat) : Int) = (s.i : Int) + 1 by omega] at r2
    have c3 := HP.out.1 ⟨s.i + 1, s.N⟩ (Nat.le_refl _) _ g Tv _ _ r2.ps
    have H2 := Hid.mk7 r2
    clear r1 r2
    cases hw : whole rec ⟨s.i + 1, s.N⟩ with
    | error e =>
      have hre : res = .error e := by rw [← HQ.out]; simp [tail, PM.bind, pIf, pSkip, H1.out, hw]
      subst hre
      rw [hw] at c3
      clear hw
      go_wp2_with fail
      refine c3.mono ?_
      rintro x w3 ⟨rfl, T3⟩
      exact ⟨rfl, rfl, H2.out.bad T3⟩
    | ok at_ =>
      obtain ⟨a, t⟩ := at_
      rw [hw] at c3
      have HW := Hid.mk7 hw
      clear hw
      go_wp2_with fail
      refine c3.mono ?_
      intro x w3 hx
      obtain ⟨rfl, Nv3, M3, r3, _⟩ := H2.out.rd hx
      clear c3 hx k1 f1
      cases h4 : sgn T ⟨#[93]⟩ t.i with
      | false =>
        have hre : res = .error t.i := by rw [← HQ.out]; simp [tail, PM.bind, pIf, pSkip, pNeed, H1.out, HW.out, h4]
        subst hre
        have c4 := rg_sign_bad r3 h4
        clear r3 h4
        go_wp2_with fail
        refine c4.mono ?_
        rintro x w4 ⟨rfl, T4⟩
        exact ⟨rfl, rfl, T4⟩
      | true =>
        have hre : res = .ok (a, ⟨t.i + 1, t.N⟩) := by rw [← HQ.out]; simp [tail, PM.bind, pIf, pSkip, pNeed, H1.out, HW.out, h4, PM.ret]
        subst hre
        have c4 := rg_sign r3 h4
        unfold Tkn at c4
        generalize (tokAt T t.i).val = tv at c4
        clear r3 h4
        go_wp2_with fail
        refine c4.mono ?_
        rintro x w4 ⟨rfl, r4, _⟩
        have H4 := Hid.mk7 r4
        clear c4 r4
        go_wp2
        go_ret
        exact H4.out.of
end Go.Proofs.YtlgkjjbefoeabaaGreatDoor
