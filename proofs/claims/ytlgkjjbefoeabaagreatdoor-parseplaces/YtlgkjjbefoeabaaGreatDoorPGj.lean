/-
  Layer 11 (parse): one export.
-/
import Derived.Test.YtlgkjjbefoeabaaGreatDoorPGi
namespace Go.Proofs.YtlgkjjbefoeabaaGreatDoor
open Go.RowKit

set_option maxRecDepth 100000 in
set_option maxHeartbeats 6400000 in
theorem rd_export {T : List Tk} {rec : Ph → PM Nat} {s : Ps} (hfin : ∀ a t, phBody T rec .export s = .ok (a, t) → S2 T t t ∧ Cnt T t) {w : World} {g : Nat} {Tv Nv : Value} {N : List Nd} (h : PS w g Tv T Nv N s) :
    Calls Tryz.prog 119 #[.pointer (some ⟨g, 0, none⟩)] w (Rd T w g Tv Nv N (phBody T rec .export s)) := by
  obtain ⟨res, hres⟩ : ∃ res, phBody T rec .export s = res := ⟨_, rfl⟩
  rw [hres]
  have HQ := Hid.mk7 hres
  have htl := h.at_.tl
  have r0 := Rg.refl h
  have hfi := Tryz.tokInt
  have HP := Hid.mk7 hfin
  clear hres hfin h
  cases h1 : knd T 1 s.i with
  | false =>
    have hre : res = .error s.i := by rw [← HQ.out]; simp [phBody, PM.bind, pNeed, h1]
    subst hre
    have c1 := rg_kind_bad r0 h1
    clear r0 h1
    go_enter Tryz.func119, Tryz.ntmps119
    go_wp2_with fail
    refine c1.mono ?_
    rintro x w1 ⟨rfl, T1⟩
    exact ⟨rfl, rfl, T1⟩
  | true =>
    have hT : 0 < T.length := by have := knd_lt (by decide) h1; omega
    have c1 := rg_kind r0 (by decide) h1
    unfold Tkn at c1
    have H1 := Hid.mk7 h1
    obtain ⟨tk, htk⟩ : ∃ tk, tokAt T s.i = tk := ⟨_, rfl⟩
    rw [htk] at c1
    obtain ⟨ok, hok⟩ : ∃ ok, tokAt T (s.i + 1 + 1) = ok := ⟨_, rfl⟩
    have HT := Hid.mk7 (And.intro htk hok)
    clear r0 h1 htk hok
    obtain ⟨tk, tt, tn, ta⟩ := tk
    obtain ⟨ok, ot, on_, oa⟩ := ok
    simp only [Tk.val] at c1
    go_enter Tryz.func119, Tryz.ntmps119
    go_wp2_with fail
    refine c1.mono ?_
    rintro x w1 ⟨rfl, r1, _⟩
    have r2 := r1.below (Below.alloc0 w1 (.cells #[.int .i64 tk, .string tt, .int .i64 tn, .int .i64 ta] 40))
    have hgl := r1.ps.at_.lt
    have HR2 := Hid.mk7 r2
    clear c1 r1 r2
    cases h2 : sgn T ⟨#[47]⟩ (s.i + 1) with
    | false =>
      have hre : res = .error (s.i + 1) := by rw [← HQ.out]; simp [phBody, PM.bind, pNeed, H1.out, h2]
      subst hre
      have c2 := rg_sign_bad HR2.out h2
      clear h2
      go_wp2_with fail
      refine c2.mono ?_
      rintro x w2 ⟨rfl, T2⟩
      exact ⟨rfl, rfl, T2⟩
    | true =>
      have c2 := rg_sign HR2.out h2
      unfold Tkn at c2
      generalize (tokAt T _).val = tv2 at c2
      have H2 := Hid.mk7 h2
      clear h2
      go_wp2_with fail
      refine c2.mono ?_
      rintro x w3 ⟨rfl, r3, G3⟩
      have hq : w1.heap.size ≠ g := by omega
      have n1 := G3.cell (p := ⟨w1.heap.size, 1, none⟩) (v := .string tt) (by simp) hq
      have n3 := G3.cell (p := ⟨w1.heap.size, 3, none⟩) (v := .int .i64 ta) (by simp) hq
      have HR3 := Hid.mk7 r3
      clear c2 r3 G3
      cases h3 : knd T 3 (s.i + 1 + 1) with
      | false =>
        have hre : res = .error (s.i + 1 + 1) := by rw [← HQ.out]; simp [phBody, PM.bind, pNeed, H1.out, H2.out, h3]
        subst hre
        have c3 := rg_kind_bad (HR3.out.below (Below.refl _ _).drew) h3
        clear h3
        go_wp2_with fail
        go_region_with (go_at_call 96; refine c3.mono ?_; rintro x w4 ⟨rfl, T4⟩; refine idle_of w4 ⟨rfl, rfl, T4⟩ ?_)
        all_goals trivial
      | true =>
        have hre : phBody T rec .export s = .ok (s.N.length, ⟨s.i + 1 + 1 + 1, s.N ++ [⟨29, tt, ⟨#[]⟩, on_, [], ta⟩]⟩) := by simp [phBody, PM.bind, pNeed, H1.out, H2.out, h3, pAdd, HT.out.1, HT.out.2]
        obtain ⟨q1, q2⟩ := HP.out _ _ hre
        have hre2 : res = .ok (s.N.length, ⟨s.i + 1 + 1 + 1, s.N ++ [⟨29, tt, ⟨#[]⟩, on_, [], ta⟩]⟩) := HQ.out.symm.trans hre
        subst hre2
        have HF := Hid.mk7 (And.intro q1 q2)
        have c3 := rg_kind (HR3.out.below (Below.refl _ _).drew) (by decide) h3
        unfold Tkn at c3
        rw [show tokAt T (⟨s.i + 1 + 1, s.N⟩ : Ps).i = ⟨ok, ot, on_, oa⟩ from HT.out.2] at c3
        simp only [Tk.val] at c3
        clear h3 hre q1 q2
        go_wp2_with fail
        go_region_with (first
          | (go_at_call 78; refine c5.mono ?_; rintro x w5 ⟨rfl, Nv5, r5, _⟩; have H5 := Hid.mk7 r5; clear r5)
          | (go_at_call 96; refine c3.mono ?_; rintro x w4 ⟨rfl, r4, G4⟩; have m1 := G4.cell (p := ⟨w1.heap.size, 1, none⟩) (v := .string tt) n1 hq; have m3 := G4.cell (p := ⟨w1.heap.size, 3, none⟩) (v := .int .i64 ta) n3 hq; have c5 := rg_add r4 hT ⟨29, tt, ⟨#[]⟩, on_, .slice none 0 0, [], ta⟩ (Kd.nil _ _ _ _ _ _ _) HF.out.1 HF.out.2; simp only [Nd.val] at c5; clear r4 G4))
        all_goals
          go_wp2
          go_ret
          exact H5.out.of
end Go.Proofs.YtlgkjjbefoeabaaGreatDoor
