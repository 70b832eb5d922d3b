/-
  The document's length and Frame (heddleref06).
-/
import Derived.Test.YtpbakejocjmkeaaDoorF0
namespace Go.Proofs.YtpbakejocjmkeaaDoor
open Go.RowKit


set_option maxRecDepth 100000 in
set_option maxHeartbeats 1600000 in
theorem length2 {w : World} {b : Value} {bs : List Int} (hx : Sl w b bs) (hr : Rng bs) (a : Nat) (ha : a ≤ bs.length) (hl : bs.length ≤ 140737488355328) :
    Calls Tryd.prog 32 #[.int .i64 2, b, .int .i64 a] w fun e w' => e = .returned (.int .i64 (lenAt 2 bs a)) ∧ w = w' := by
  obtain ⟨ab, cb, hf, hc, hm⟩ := hx.form
  subst hf
  unfold lenAt
  by_cases h : bs.length < a + 2
  · rw [if_pos h]
    have h1 : (bs.length : Int) - a < 2 := by omega
    clear hx
    go_enter Tryd.func32, Tryd.ntmps32
    go_wp2
    go_ret
    exact ⟨rfl, rfl⟩
  · rw [if_neg h, num2 (by omega)]
    have h1 : ¬ (bs.length : Int) - a < 2 := by omega
    rcases hx with ⟨_, hn⟩ | ⟨_, _, hn⟩ | ⟨g, off, cap, h2, _, _, h4⟩
    · subst hn; simp at h
    · subst hn; simp at h
    · cases h2
      have c0 := h4 a (by omega)
      have c1 := h4 (a + 1) (by omega)
      obtain ⟨l0, u0⟩ := hr.get (i := a) (by omega)
      obtain ⟨l1, u1⟩ := hr.get (i := a + 1) (by omega)
      generalize bs[a] = z0 at c0 l0 u0 ⊢
      generalize bs[a + 1] = z1 at c1 l1 u1 ⊢
      clear h4 hr
      generalize bs.length = L at *
      have b0 : (a : Int) < L := by omega
      have b1 : (a : Int) + 1 < L := by omega
      go_enter Tryd.func32, Tryd.ntmps32
      go_wp2
      refine wp_loop_rounds 3 ?_
      rw [rounds_succ]
      go_wp2
      rw [rounds_succ]
      go_wp2
      rw [rounds_succ]
      go_wp2
      go_ret
      exact ⟨rfl, rfl⟩
set_option maxRecDepth 100000 in
set_option maxHeartbeats 1600000 in
theorem length4 {w : World} {b : Value} {bs : List Int} (hx : Sl w b bs) (hr : Rng bs) (a : Nat) (ha : a ≤ bs.length) (hl : bs.length ≤ 140737488355328) :
    Calls Tryd.prog 32 #[.int .i64 4, b, .int .i64 a] w fun e w' => e = .returned (.int .i64 (lenAt 4 bs a)) ∧ w = w' := by
  obtain ⟨ab, cb, hf, hc, hm⟩ := hx.form
  subst hf
  unfold lenAt
  by_cases h : bs.length < a + 4
  · rw [if_pos h]
    have h1 : (bs.length : Int) - a < 4 := by omega
    clear hx
    go_enter Tryd.func32, Tryd.ntmps32
    go_wp2
    go_ret
    exact ⟨rfl, rfl⟩
  · rw [if_neg h, num4 (by omega)]
    have h1 : ¬ (bs.length : Int) - a < 4 := by omega
    rcases hx with ⟨_, hn⟩ | ⟨_, _, hn⟩ | ⟨g, off, cap, h2, _, _, h4⟩
    · subst hn; simp at h
    · subst hn; simp at h
    · cases h2
      have c0 := h4 a (by omega)
      have c1 := h4 (a + 1) (by omega)
      have c2 := h4 (a + 2) (by omega)
      have c3 := h4 (a + 3) (by omega)
      obtain ⟨l0, u0⟩ := hr.get (i := a) (by omega)
      obtain ⟨l1, u1⟩ := hr.get (i := a + 1) (by omega)
      obtain ⟨l2, u2⟩ := hr.get (i := a + 2) (by omega)
      obtain ⟨l3, u3⟩ := hr.get (i := a + 3) (by omega)
      generalize bs[a] = z0 at c0 l0 u0 ⊢
      generalize bs[a + 1] = z1 at c1 l1 u1 ⊢
      generalize bs[a + 2] = z2 at c2 l2 u2 ⊢
      generalize bs[a + 3] = z3 at c3 l3 u3 ⊢
      clear h4 hr
      generalize bs.length = L at *
      have b0 : (a : Int) < L := by omega
      have b1 : (a : Int) + 1 < L := by omega
      have b2 : (a : Int) + 2 < L := by omega
      have b3 : (a : Int) + 3 < L := by omega
      go_enter Tryd.func32, Tryd.ntmps32
      go_wp2
      refine wp_loop_rounds 5 ?_
      rw [rounds_succ]
      go_wp2
      rw [rounds_succ]
      go_wp2
      rw [rounds_succ]
      go_wp2
      rw [rounds_succ]
      go_wp2
      rw [rounds_succ]
      go_wp2
      go_ret
      exact ⟨rfl, rfl⟩

/-- Both widths. -/
theorem length_any {w : World} {b : Value} {bs : List Int} (hx : Sl w b bs) (hr : Rng bs) {n : Nat} (hn : n = 2 ∨ n = 4) (a : Nat) (ha : a ≤ bs.length) (hl : bs.length ≤ 140737488355328) :
    Calls Tryd.prog 32 #[.int .i64 n, b, .int .i64 a] w fun e w' => e = .returned (.int .i64 (lenAt n bs a)) ∧ w = w' := by
  rcases hn with rfl | rfl
  · exact length2 hx hr a ha hl
  · exact length4 hx hr a ha hl
end Go.Proofs.YtpbakejocjmkeaaDoor
