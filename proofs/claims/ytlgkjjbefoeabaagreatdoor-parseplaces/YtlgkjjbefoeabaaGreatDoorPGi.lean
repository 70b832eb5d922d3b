/-
  Layer 11 (parse): exports.
-/
import Derived.Test.YtlgkjjbefoeabaaGreatDoorPGh
namespace Go.Proofs.YtlgkjjbefoeabaaGreatDoor
open Go.RowKit

set_option maxRecDepth 100000 in
set_option maxHeartbeats 6400000 in
theorem rd_exports {T : List Tk} {rec : Ph → PM Nat} {s : Ps} (E : Env T rec (s.i + 1)) {w : World} {g : Nat} {Tv Nv : Value} {N : List Nd} (h : PS w g Tv T Nv N s) :
    Calls Tryz.prog 99 #[.pointer (some ⟨g, 0, none⟩)] w (RdL T w g Tv Nv N (exports T rec s)) := by
  obtain ⟨res, hres⟩ : ∃ res, exports T rec s = res := ⟨_, rfl⟩
  rw [hres]
  have HQ := Hid.mk7 hres
  have htl := h.at_.tl
  have hmf := Tryz.makeFn
  have r0 := Rg.refl h
  have HP := Hid.mk7 (And.intro E h)
  clear hres E h
  go_enter Tryz.func99, Tryz.ntmps99
  cases h1 : sgn T ⟨#[45]⟩ s.i with
  | false =>
    have hre : res = .error s.i := by rw [← HQ.out]; simp [exports, PM.bind, pNeed, h1]
    subst hre
    have c1 := rg_sign_bad r0 h1
    clear h1
    go_wp2_with fail
    refine c1.mono ?_
    rintro x w1 ⟨rfl, T1⟩
    exact ⟨rfl, rfl, T1⟩
  | true =>
    have c1 := rg_sign r0 h1
    unfold Tkn at c1
    generalize (tokAt T _).val = tv1 at c1
    have H1 := Hid.mk7 h1
    clear h1
    go_wp2_with fail
    refine c1.mono ?_
    rintro x w1 ⟨rfl, r1, G1⟩
    clear c1
    cases h2 : atm T ⟨#[101, 120, 112, 111, 114, 116]⟩ (s.i + 1) with
    | false =>
      have hre : res = .error (s.i + 1) := by rw [← HQ.out]; simp [exports, PM.bind, pNeed, H1.out, h2]
      subst hre
      have c2 := rg_atom_bad r1 h2
      clear h2
      go_wp2_with fail
      refine c2.mono ?_
      rintro x w2 ⟨rfl, T2⟩
      exact ⟨rfl, rfl, T2⟩
    | true =>
      have c2 := rg_atom r1 h2
      unfold Tkn at c2
      generalize (tokAt T _).val = tv2 at c2
      have H2 := Hid.mk7 h2
      clear h2
      go_wp2_with fail
      refine c2.mono ?_
      rintro x w2 ⟨rfl, r2, G2⟩
      clear c2
      cases h3 : sgn T ⟨#[40]⟩ (s.i + 1 + 1) with
      | false =>
        have hre : res = .error (s.i + 1 + 1) := by rw [← HQ.out]; simp [exports, PM.bind, pNeed, H1.out, H2.out, h3]
        subst hre
        have c3 := rg_sign_bad r2 h3
        clear h3
        go_wp2_with fail
        refine c3.mono ?_
        rintro x w3 ⟨rfl, T3⟩
        exact ⟨rfl, rfl, T3⟩
      | true =>
        have c3 := rg_sign r2 h3
        unfold Tkn at c3
        generalize (tokAt T _).val = tv3 at c3
        have H3 := Hid.mk7 h3
        clear h3
        go_wp2_with fail
        refine c3.mono ?_
        rintro x w3 ⟨rfl, r3, G3⟩
        clear c3
        have c4 := rd_enclosed_export (HP.out.1.fwd .export trivial) (HP.out.1.run .export trivial) ⟨#[91]⟩ ⟨#[93]⟩ (s := ⟨s.i + 1 + 1 + 1, s.N⟩) (by show s.i + 1 ≤ s.i + 1 + 1 + 1 + 1; omega) r3.ps
        have HR3 := Hid.mk7 r3
        clear r3 G1 G2 G3
        cases hen : enclosed T ⟨#[91]⟩ ⟨#[93]⟩ (rec .export) ⟨s.i + 1 + 1 + 1, s.N⟩ with
        | error e =>
          have hre : res = .error e := by rw [← HQ.out]; simp [exports, PM.bind, pNeed, H1.out, H2.out, H3.out, hen]
          subst hre
          rw [hen] at c4
          clear hen
          go_wp2_with fail
          refine c4.mono ?_
          rintro x w4 ⟨rfl, T4⟩
          exact ⟨rfl, rfl, HR3.out.bad T4⟩
        | ok kt =>
          obtain ⟨ks, t⟩ := kt
          rw [hen] at c4
          have HW := Hid.mk7 hen
          clear hen
          go_wp2_with fail
          refine c4.mono ?_
          intro x w4 hx
          obtain ⟨V, rfl, Nv4, M4, r4, k4, _⟩ := HR3.out.rdL hx
          obtain ⟨aV, cV, hV, _⟩ := OwnK.sl k4.own |>.form
          subst hV
          have HK := Hid.mk7 k4
          clear c4 hx k4
          cases h5 : sgn T ⟨#[41]⟩ t.i with
          | false =>
            have hre : res = .error t.i := by rw [← HQ.out]; simp [exports, PM.bind, pNeed, H1.out, H2.out, H3.out, HW.out, h5]
            subst hre
            have c5 := rg_sign_bad r4 h5
            clear h5
            go_wp2_with fail
            refine c5.mono ?_
            rintro x w5 ⟨rfl, T5⟩
            exact ⟨rfl, rfl, T5⟩
          | true =>
            have c5 := rg_sign r4 h5
            unfold Tkn at c5
            generalize (tokAt T _).val = tv5 at c5
            have H5 := Hid.mk7 h5
            clear h5
            go_wp2_with fail
            refine c5.mono ?_
            rintro x w5 ⟨rfl, r5, G5⟩
            clear c5
            cases h6 : knd T 6 (t.i + 1) with
            | false =>
              have hre : res = .error (t.i + 1) := by rw [← HQ.out]; simp [exports, PM.bind, pNeed, H1.out, H2.out, H3.out, HW.out, H5.out, h6]
              subst hre
              have c6 := rg_kind_bad r5 h6
              clear h6
              go_wp2_with fail
              refine c6.mono ?_
              rintro x w6 ⟨rfl, T6⟩
              exact ⟨rfl, rfl, T6⟩
            | true =>
              have c6 := rg_kind r5 (by decide) h6
              unfold Tkn at c6
              generalize (tokAt T _).val = tv6 at c6
              have H6 := Hid.mk7 h6
              clear h6
              go_wp2_with fail
              refine c6.mono ?_
              rintro x w6 ⟨rfl, r6, G6⟩
              clear c6
              have H9 := Hid.mk7 (And.intro r6 ((HK.out.ofG G5).ofG G6))
              have hre : res = .ok (ks, ⟨t.i + 1 + 1, t.N⟩) := by rw [← HQ.out]; simp [exports, PM.bind, pNeed, H1.out, H2.out, H3.out, HW.out, H5.out, H6.out, PM.ret]
              subst hre
              clear r6 G6
              go_wp2
              go_ret
              exact Rg.ofL H9.out.1 H9.out.2
end Go.Proofs.YtlgkjjbefoeabaaGreatDoor
