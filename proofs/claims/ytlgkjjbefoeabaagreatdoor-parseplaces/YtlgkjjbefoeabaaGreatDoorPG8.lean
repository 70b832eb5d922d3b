/-
  Layer 11 (parse): phrases in brackets.
-/
import Derived.Test.YtlgkjjbefoeabaaGreatDoorPG6
import Derived.Test.YtlgkjjbefoeabaaGreatDoorPG7
namespace Go.Proofs.YtlgkjjbefoeabaaGreatDoor
open Go.RowKit

section
variable {T : List Tk} {w wr w2 : World} {g : Nat} {Tv Nv Nv1 V : Value} {N M1 : List Nd} {s t : Ps} {l : List Int}
theorem Rg.rdL (h : Rg T w wr g Tv Nv N s Nv1 M1) {x : Ending} (hr : RdL T wr g Tv Nv1 (N ++ M1) (.ok (l, t)) x w2) : ∃ V, x = .returned V ∧ ∃ Nv2 M2, Rg T w w2 g Tv Nv N t Nv2 M2 ∧ Kd T w w2 g Tv Nv2 (N ++ M2) V l ∧ Stp g Nv1 Nv2 wr w2 ∧ ∃ M3, M2 = M1 ++ M3 ∧ ∀ n ∈ M3, ∀ k, blk n.kv k → wr.heap.size ≤ k := by
  obtain ⟨V, rfl, Nv2, M3, o, p, S, ow, fv⟩ := hr
  exact ⟨V, rfl, Nv2, M1 ++ M3, h.more o p S, ⟨ow, fun k hk => ⟨Nat.le_trans h.size (fv k hk).1, by have := (fv k hk).2; rwa [List.append_assoc] at this⟩⟩, S, M3, rfl, o⟩
theorem Kd.ofG (h : Kd T w wr g Tv Nv1 N V l) (T2 : Turned (fun k => k = g) wr w2) : Kd T w w2 g Tv Nv1 N V l := ⟨OwnK.turned h.own T2 (fun k hk e => (h.fv k hk).2.g e), fun k hk => ⟨(h.fv k hk).1, ⟨(h.fv k hk).2.g, (h.fv k hk).2.t, (h.fv k hk).2.n, (h.fv k hk).2.k⟩⟩⟩
theorem Kd.nil (T : List Tk) (w wr : World) (g : Nat) (Tv Nv1 : Value) (N : List Nd) : Kd T w wr g Tv Nv1 N (.slice none 0 0) [] := ⟨OwnK.nil 1 _, fun _ e => e.elim⟩
theorem Rg.ofL (h : Rg T w wr g Tv Nv N t Nv1 M1) (k : Kd T w wr g Tv Nv1 (N ++ M1) V l) : RdL T w g Tv Nv N (.ok (l, t)) (.returned V) wr := ⟨V, rfl, Nv1, M1, h.off, h.ps, h.st, k.own, k.fv⟩
end
set_option maxRecDepth 100000 in
set_option maxHeartbeats 3200000 in
theorem rd_enclosed_whole {T : List Tk} {m : PM Nat} {i0 : Nat} (hm : Fwd T m) (hr : Runs T 145 [] m i0) (l r : ByteArray) {s : Ps} (hi : i0 ≤ s.i + 1) {w : World} {g : Nat} {Tv Nv : Value} {N : List Nd} (h : PS w g Tv T Nv N s) :
    Calls Tryz.prog 118 #[.pointer (some ⟨g, 0, none⟩), .string l, .string r, .func (.func 145) #[.pointer (some ⟨g, 0, none⟩)] #[]] w (RdL T w g Tv Nv N (enclosed T l r m s)) := by
  have r0 := Rg.refl h
  cases h1 : sgn T l s.i with
  | false =>
    have c1 := rg_sign_bad r0 h1
    rw [show enclosed T l r m s = .error s.i by simp [enclosed, PM.bind, pNeed, h1]]
    clear hm hr h r0 h1
    go_enter Tryz.func118, Tryz.ntmps118
    go_wp2_with fail
    refine c1.mono ?_
    rintro x w1 ⟨rfl, T1⟩
    exact ⟨rfl, rfl, T1⟩
  | true =>
    have c1 := rg_sign r0 h1
    cases h2 : sgn T r (s.i + 1) with
    | true =>
      rw [show enclosed T l r m s = .ok ([], ⟨s.i + 2, s.N⟩) by simp [enclosed, PM.bind, pNeed, h1, pIf, h2, PM.ret]]
      have H2 := Hid.mk7 h2
      clear hm hr h r0 h1 h2
      unfold Tkn at c1
      generalize (tokAt T s.i).val = tv at c1
      go_enter Tryz.func118, Tryz.ntmps118
      go_wp2_with fail
      refine c1.mono ?_
      rintro x w1 ⟨rfl, r1, _⟩
      have c2 := rg_isSign r1 r
      simp only [H2.out] at c2
      clear c1 r1
      go_wp2_with fail
      refine c2.mono ?_
      rintro x w2 ⟨rfl, r2, _⟩
      have c3 := rg_sign r2 (x := r) H2.out
      unfold Tkn at c3
      generalize (tokAt T _).val = tv2 at c3
      clear c2 r2
      go_wp2_with fail
      refine c3.mono ?_
      rintro x w3 ⟨rfl, r3, _⟩
      have H3 := Hid.mk7 r3
      clear c3 r3
      go_wp2
      go_ret
      exact Rg.ofL H3.out (Kd.nil _ _ _ _ _ _ _)
    | false =>
      have H2 := Hid.mk7 h2
      have H1 := Hid.mk7 h1
      have HF := Hid.mk7 (And.intro hm (And.intro hr hi))
      cases hrow : row T ⟨#[44]⟩ m ⟨s.i + 1, s.N⟩ with
      | error e =>
        rw [show enclosed T l r m s = .error e by simp [enclosed, PM.bind, pNeed, h1, pIf, h2, hrow]]
        have HW := Hid.mk7 hrow
        clear hm hr h r0 h1 h2 hrow
        unfold Tkn at c1
        generalize (tokAt T s.i).val = tv at c1
        go_enter Tryz.func118, Tryz.ntmps118
        go_wp2_with fail
        refine c1.mono ?_
        rintro x w1 ⟨rfl, r1, _⟩
        have c2 := rg_isSign r1 r
        simp only [H2.out] at c2
        clear c1 r1
        go_wp2_with fail
        refine c2.mono ?_
        rintro x w2 ⟨rfl, r2, _⟩
        have c3 := rd_row_whole HF.out.1 HF.out.2.1 ⟨#[44]⟩ (s := ⟨s.i + 1, s.N⟩) HF.out.2.2 r2.ps
        rw [HW.out] at c3
        have HR := Hid.mk7 r2
        clear c2 r2
        go_wp2_with fail
        refine c3.mono ?_
        rintro x w3 ⟨rfl, T3⟩
        exact ⟨rfl, rfl, HR.out.bad T3⟩
      | ok kt =>
        obtain ⟨ks, t⟩ := kt
        have HW := Hid.mk7 hrow
        cases h3 : sgn T r t.i with
        | false =>
          rw [show enclosed T l r m s = .error t.i by simp [enclosed, PM.bind, pNeed, h1, pIf, h2, hrow, h3]]
          have H3 := Hid.mk7 h3
          clear hm hr h r0 h1 h2 hrow h3
          unfold Tkn at c1
          generalize (tokAt T s.i).val = tv at c1
          go_enter Tryz.func118, Tryz.ntmps118
          go_wp2_with fail
          refine c1.mono ?_
          rintro x w1 ⟨rfl, r1, _⟩
          have c2 := rg_isSign r1 r
          simp only [H2.out] at c2
          clear c1 r1
          go_wp2_with fail
          refine c2.mono ?_
          rintro x w2 ⟨rfl, r2, _⟩
          have c3 := rd_row_whole HF.out.1 HF.out.2.1 ⟨#[44]⟩ (s := ⟨s.i + 1, s.N⟩) HF.out.2.2 r2.ps
          rw [HW.out] at c3
          have HR := Hid.mk7 r2
          clear c2 r2
          go_wp2_with fail
          refine c3.mono ?_
          intro x w3 hx
          obtain ⟨V, rfl, Nv3, M3, r3, _⟩ := HR.out.rdL hx
          have c4 := rg_sign_bad r3 H3.out
          clear c3 hx r3
          go_wp2_with fail
          refine c4.mono ?_
          rintro x w4 ⟨rfl, T4⟩
          exact ⟨rfl, rfl, T4⟩
        | true =>
          rw [show enclosed T l r m s = .ok (ks, ⟨t.i + 1, t.N⟩) by simp [enclosed, PM.bind, pNeed, h1, pIf, h2, hrow, h3, PM.ret]]
          have H3 := Hid.mk7 h3
          clear hm hr h r0 h1 h2 hrow h3
          unfold Tkn at c1
          generalize (tokAt T s.i).val = tv at c1
          go_enter Tryz.func118, Tryz.ntmps118
          go_wp2_with fail
          refine c1.mono ?_
          rintro x w1 ⟨rfl, r1, _⟩
          have c2 := rg_isSign r1 r
          simp only [H2.out] at c2
          clear c1 r1
          go_wp2_with fail
          refine c2.mono ?_
          rintro x w2 ⟨rfl, r2, _⟩
          have c3 := rd_row_whole HF.out.1 HF.out.2.1 ⟨#[44]⟩ (s := ⟨s.i + 1, s.N⟩) HF.out.2.2 r2.ps
          rw [HW.out] at c3
          have HR := Hid.mk7 r2
          clear c2 r2
          go_wp2_with fail
          refine c3.mono ?_
          intro x w3 hx
          obtain ⟨V, rfl, Nv3, M3, r3, k3, _⟩ := HR.out.rdL hx
          have c4 := rg_sign r3 H3.out
          unfold Tkn at c4
          generalize (tokAt T _).val = tv2 at c4
          have HK := Hid.mk7 k3
          clear c3 hx r3 k3
          go_wp2_with fail
          refine c4.mono ?_
          rintro x w4 ⟨rfl, r4, T4⟩
          have H4 := Hid.mk7 (And.intro r4 (HK.out.ofG T4))
          clear c4 r4 T4
          go_wp2
          go_ret
          exact Rg.ofL H4.out.1 H4.out.2
set_option maxRecDepth 100000 in
set_option maxHeartbeats 3200000 in
theorem rd_enclosed_export {T : List Tk} {m : PM Nat} {i0 : Nat} (hm : Fwd T m) (hr : Runs T 119 [] m i0) (l r : ByteArray) {s : Ps} (hi : i0 ≤ s.i + 1) {w : World} {g : Nat} {Tv Nv : Value} {N : List Nd} (h : PS w g Tv T Nv N s) :
    Calls Tryz.prog 118 #[.pointer (some ⟨g, 0, none⟩), .string l, .string r, .func (.func 119) #[.pointer (some ⟨g, 0, none⟩)] #[]] w (RdL T w g Tv Nv N (enclosed T l r m s)) := by
  have r0 := Rg.refl h
  cases h1 : sgn T l s.i with
  | false =>
    have c1 := rg_sign_bad r0 h1
    rw [show enclosed T l r m s = .error s.i by simp [enclosed, PM.bind, pNeed, h1]]
    clear hm hr h r0 h1
    go_enter Tryz.func118, Tryz.ntmps118
    go_wp2_with fail
    refine c1.mono ?_
    rintro x w1 ⟨rfl, T1⟩
    exact ⟨rfl, rfl, T1⟩
  | true =>
    have c1 := rg_sign r0 h1
    cases h2 : sgn T r (s.i + 1) with
    | true =>
      rw [show enclosed T l r m s = .ok ([], ⟨s.i + 2, s.N⟩) by simp [enclosed, PM.bind, pNeed, h1, pIf, h2, PM.ret]]
      have H2 := Hid.mk7 h2
      clear hm hr h r0 h1 h2
      unfold Tkn at c1
      generalize (tokAt T s.i).val = tv at c1
      go_enter Tryz.func118, Tryz.ntmps118
      go_wp2_with fail
      refine c1.mono ?_
      rintro x w1 ⟨rfl, r1, _⟩
      have c2 := rg_isSign r1 r
      simp only [H2.out] at c2
      clear c1 r1
      go_wp2_with fail
      refine c2.mono ?_
      rintro x w2 ⟨rfl, r2, _⟩
      have c3 := rg_sign r2 (x := r) H2.out
      unfold Tkn at c3
      generalize (tokAt T _).val = tv2 at c3
      clear c2 r2
      go_wp2_with fail
      refine c3.mono ?_
      rintro x w3 ⟨rfl, r3, _⟩
      have H3 := Hid.mk7 r3
      clear c3 r3
      go_wp2
      go_ret
      exact Rg.ofL H3.out (Kd.nil _ _ _ _ _ _ _)
    | false =>
      have H2 := Hid.mk7 h2
      have H1 := Hid.mk7 h1
      have HF := Hid.mk7 (And.intro hm (And.intro hr hi))
      cases hrow : row T ⟨#[44]⟩ m ⟨s.i + 1, s.N⟩ with
      | error e =>
        rw [show enclosed T l r m s = .error e by simp [enclosed, PM.bind, pNeed, h1, pIf, h2, hrow]]
        have HW := Hid.mk7 hrow
        clear hm hr h r0 h1 h2 hrow
        unfold Tkn at c1
        generalize (tokAt T s.i).val = tv at c1
        go_enter Tryz.func118, Tryz.ntmps118
        go_wp2_with fail
        refine c1.mono ?_
        rintro x w1 ⟨rfl, r1, _⟩
        have c2 := rg_isSign r1 r
        simp only [H2.out] at c2
        clear c1 r1
        go_wp2_with fail
        refine c2.mono ?_
        rintro x w2 ⟨rfl, r2, _⟩
        have c3 := rd_row_export HF.out.1 HF.out.2.1 ⟨#[44]⟩ (s := ⟨s.i + 1, s.N⟩) HF.out.2.2 r2.ps
        rw [HW.out] at c3
        have HR := Hid.mk7 r2
        clear c2 r2
        go_wp2_with fail
        refine c3.mono ?_
        rintro x w3 ⟨rfl, T3⟩
        exact ⟨rfl, rfl, HR.out.bad T3⟩
      | ok kt =>
        obtain ⟨ks, t⟩ := kt
        have HW := Hid.mk7 hrow
        cases h3 : sgn T r t.i with
        | false =>
          rw [show enclosed T l r m s = .error t.i by simp [enclosed, PM.bind, pNeed, h1, pIf, h2, hrow, h3]]
          have H3 := Hid.mk7 h3
          clear hm hr h r0 h1 h2 hrow h3
          unfold Tkn at c1
          generalize (tokAt T s.i).val = tv at c1
          go_enter Tryz.func118, Tryz.ntmps118
          go_wp2_with fail
          refine c1.mono ?_
          rintro x w1 ⟨rfl, r1, _⟩
          have c2 := rg_isSign r1 r
          simp only [H2.out] at c2
          clear c1 r1
          go_wp2_with fail
          refine c2.mono ?_
          rintro x w2 ⟨rfl, r2, _⟩
          have c3 := rd_row_export HF.out.1 HF.out.2.1 ⟨#[44]⟩ (s := ⟨s.i + 1, s.N⟩) HF.out.2.2 r2.ps
          rw [HW.out] at c3
          have HR := Hid.mk7 r2
          clear c2 r2
          go_wp2_with fail
          refine c3.mono ?_
          intro x w3 hx
          obtain ⟨V, rfl, Nv3, M3, r3, _⟩ := HR.out.rdL hx
          have c4 := rg_sign_bad r3 H3.out
          clear c3 hx r3
          go_wp2_with fail
          refine c4.mono ?_
          rintro x w4 ⟨rfl, T4⟩
          exact ⟨rfl, rfl, T4⟩
        | true =>
          rw [show enclosed T l r m s = .ok (ks, ⟨t.i + 1, t.N⟩) by simp [enclosed, PM.bind, pNeed, h1, pIf, h2, hrow, h3, PM.ret]]
          have H3 := Hid.mk7 h3
          clear hm hr h r0 h1 h2 hrow h3
          unfold Tkn at c1
          generalize (tokAt T s.i).val = tv at c1
          go_enter Tryz.func118, Tryz.ntmps118
          go_wp2_with fail
          refine c1.mono ?_
          rintro x w1 ⟨rfl, r1, _⟩
          have c2 := rg_isSign r1 r
          simp only [H2.out] at c2
          clear c1 r1
          go_wp2_with fail
          refine c2.mono ?_
          rintro x w2 ⟨rfl, r2, _⟩
          have c3 := rd_row_export HF.out.1 HF.out.2.1 ⟨#[44]⟩ (s := ⟨s.i + 1, s.N⟩) HF.out.2.2 r2.ps
          rw [HW.out] at c3
          have HR := Hid.mk7 r2
          clear c2 r2
          go_wp2_with fail
          refine c3.mono ?_
          intro x w3 hx
          obtain ⟨V, rfl, Nv3, M3, r3, k3, _⟩ := HR.out.rdL hx
          have c4 := rg_sign r3 H3.out
          unfold Tkn at c4
          generalize (tokAt T _).val = tv2 at c4
          have HK := Hid.mk7 k3
          clear c3 hx r3 k3
          go_wp2_with fail
          refine c4.mono ?_
          rintro x w4 ⟨rfl, r4, T4⟩
          have H4 := Hid.mk7 (And.intro r4 (HK.out.ofG T4))
          clear c4 r4 T4
          go_wp2
          go_ret
          exact Rg.ofL H4.out.1 H4.out.2
end Go.Proofs.YtlgkjjbefoeabaaGreatDoor
