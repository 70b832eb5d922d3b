/-
  The program's length: the number that bytes are; cut: the body with which bytes begin.
-/
import Derived.Test.YtpbakejocjmkeaaDoorFrm0
import Derived.Laws.BitsAllLaws
namespace Go.Proofs.YtpbakejocjmkeaaDoor
open Go.RowKit

theorem join8 (a c : Int) (ha : 0 ≤ a ∧ a < 16777216) (hc : 0 ≤ c ∧ c < 256) : bits .or .u32 (a * 256) c = a * 256 + c := by
  obtain ⟨m, rfl⟩ : ∃ m : Nat, a = m := ⟨a.toNat, by omega⟩
  obtain ⟨k, rfl⟩ : ∃ k : Nat, c = k := ⟨c.toNat, by omega⟩
  have h := nat_join 8 (m * 256) k (by simp) (by omega)
  rw [show (m : Int) * 256 = ((m * 256 : Nat) : Int) by omega, u32_or_nat _ _ (by omega) (by omega), h]
  omega
theorem join0 (c : Int) (hc : 0 ≤ c ∧ c < 256) : bits .or .u32 0 c = c := by
  have h := join8 0 c ⟨by omega, by omega⟩ hc
  simpa using h

set_option maxRecDepth 100000 in
set_option maxHeartbeats 1600000 in
theorem frm_length2 {w : World} {a : Option Addr} {cap : Nat} {z0 z1 : Int} (hx : Sl w (.slice a 2 cap) [z0, z1]) (r0 : 0 ≤ z0 ∧ z0 < 256) (r1 : 0 ≤ z1 ∧ z1 < 256) :
    Calls Tryd.prog 41 #[.slice a 2 cap] w fun e w' => e = .returned (.int .u32 (z0 * 256 + z1)) ∧ w = w' := by
  rcases hx with ⟨_, hn⟩ | ⟨_, _, hn⟩ | ⟨g, off, cap', h2, _, _, h4⟩
  · cases hn
  · cases hn
  · cases h2
    have c0 : w.cell? ⟨g, off, none⟩ = some (.int .u8 z0) := by simpa using h4 0 (by simp)
    have c1 : w.cell? ⟨g, off + 1, none⟩ = some (.int .u8 z1) := h4 1 (by simp)
    have j0 := join0 z0 r0
    have j1 := join8 z0 z1 (by omega) r1
    clear h4
    go_enter Tryd.func41, Tryd.ntmps41
    go_wp2
    refine wp_loop_rounds 3 ?_
    rw [rounds_succ]
    go_wp2
    rw [rounds_succ]
    go_wp2
    rw [rounds_succ]
    go_wp2
    go_ret
    exact ⟨rfl, rfl⟩

set_option maxRecDepth 100000 in
set_option maxHeartbeats 1600000 in
theorem frm_length4 {w : World} {a : Option Addr} {cap : Nat} {z0 z1 z2 z3 : Int} (hx : Sl w (.slice a 4 cap) [z0, z1, z2, z3]) (r0 : 0 ≤ z0 ∧ z0 < 256) (r1 : 0 ≤ z1 ∧ z1 < 256) (r2 : 0 ≤ z2 ∧ z2 < 256) (r3 : 0 ≤ z3 ∧ z3 < 256) :
    Calls Tryd.prog 41 #[.slice a 4 cap] w fun e w' => e = .returned (.int .u32 (((z0 * 256 + z1) * 256 + z2) * 256 + z3)) ∧ w = w' := by
  rcases hx with ⟨_, hn⟩ | ⟨_, _, hn⟩ | ⟨g, off, cap', h2, _, _, h4⟩
  · cases hn
  · cases hn
  · cases h2
    have c0 : w.cell? ⟨g, off, none⟩ = some (.int .u8 z0) := by simpa using h4 0 (by simp)
    have c1 : w.cell? ⟨g, off + 1, none⟩ = some (.int .u8 z1) := h4 1 (by simp)
    have c2 : w.cell? ⟨g, off + 2, none⟩ = some (.int .u8 z2) := h4 2 (by simp)
    have c3 : w.cell? ⟨g, off + 3, none⟩ = some (.int .u8 z3) := h4 3 (by simp)
    have j0 := join0 z0 r0
    have j1 := join8 z0 z1 (by omega) r1
    have j2 := join8 (z0 * 256 + z1) z2 (by omega) r2
    have j3 := join8 ((z0 * 256 + z1) * 256 + z2) z3 (by omega) r3
    clear h4
    go_enter Tryd.func41, Tryd.ntmps41
    go_wp2
    refine wp_loop_rounds 5 ?_
    rw [rounds_succ]
    go_wp2
    rw [rounds_succ]
    go_wp2
    rw [rounds_succ]
    go_wp2
    rw [rounds_succ]
    go_wp2
    rw [rounds_succ]
    go_wp2
    go_ret
    exact ⟨rfl, rfl⟩

/-- Both widths, at the head of bytes. -/
theorem frm_length {w : World} {a : Option Addr} {cap : Nat} {bs : List Int} (hx : Sl w (.slice a bs.length cap) bs) (hr : Rng bs) {n : Nat} (hn : n = 2 ∨ n = 4) (hl : n ≤ bs.length) :
    Calls Tryd.prog 41 #[.slice a n cap] w fun e w' => e = .returned (.int .u32 (lenAt n bs 0)) ∧ w = w' := by
  have ht := hx.take hl
  have hrt := hr.take n
  unfold lenAt
  rw [if_neg (by omega), List.drop_zero]
  rcases hn with rfl | rfl
  · match bs, hl with
    | z0 :: z1 :: r, _ =>
      simp only [List.take_succ_cons, List.take_zero] at ht hrt ⊢
      exact (frm_length2 ht (hrt z0 (by simp)) (hrt z1 (by simp))).mono fun e w' ⟨h1, h2⟩ => ⟨by rw [h1]; simp [numOf], h2⟩
  · match bs, hl with
    | z0 :: z1 :: z2 :: z3 :: r, _ =>
      simp only [List.take_succ_cons, List.take_zero] at ht hrt ⊢
      exact (frm_length4 ht (hrt z0 (by simp)) (hrt z1 (by simp)) (hrt z2 (by simp)) (hrt z3 (by simp))).mono fun e w' ⟨h1, h2⟩ => ⟨by rw [h1]; simp [numOf], h2⟩

theorem numOf_lt (bs : List Int) (hr : Rng bs) : 0 ≤ numOf bs ∧ numOf bs < 256 ^ bs.length := by
  have key : ∀ (l : List Int) (n : Int) (k : Nat), Rng l → 0 ≤ n → n < 256 ^ k → 0 ≤ l.foldl (fun n z => n * 256 + z) n ∧ l.foldl (fun n z => n * 256 + z) n < 256 ^ (k + l.length) := by
    intro l
    induction l with
    | nil => intro n k _ h0 h1; exact ⟨h0, h1⟩
    | cons z r ih =>
      intro n k hr h0 h1
      have hz := hr z (by simp)
      have := ih (n * 256 + z) (k + 1) (fun y hy => hr y (by simp [hy])) (by omega) (by rw [Int.pow_succ]; omega)
      rw [show k + (z :: r).length = k + 1 + r.length by simp; omega]
      exact this
  have := key bs 0 0 hr (by omega) (by simp)
  simpa [numOf] using this
theorem lenAt_lt {n : Nat} {bs : List Int} (hn : n = 2 ∨ n = 4) (hr : Rng bs) (hl : n ≤ bs.length) : 0 ≤ lenAt n bs 0 ∧ lenAt n bs 0 < 4294967296 := by
  unfold lenAt
  rw [if_neg (by omega), List.drop_zero]
  have h := numOf_lt (bs.take n) (hr.take n)
  have hlen : (bs.take n).length = n := by simp; omega
  rw [hlen] at h
  rcases hn with rfl | rfl
  · have : (256 : Int) ^ 2 = 65536 := by decide
    omega
  · have : (256 : Int) ^ 4 = 4294967296 := by decide
    omega
end Go.Proofs.YtpbakejocjmkeaaDoor
