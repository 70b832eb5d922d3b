/-
  heddlelaw06.same: true of two lists of bodies that read alike. What is asked of the program's Split (FImplS).
-/
import Derived.Test.YtpbakejocjmkeaaDoorF9
import Derived.Deep.QuietTactic
import Derived.BigQuiet
namespace Go.Proofs.YtpbakejocjmkeaaDoor
open Go.RowKit

theorem Bodies.turned {S : Nat → Prop} {w w' : World} {B : Nat} {v : Value} {ls : List (List Int)} (h : Bodies w B v ls) (ht : Turned S w w') (hs : ∀ k, B ≤ k → k < w.heap.size → ¬ S k) : Bodies w' B v ls := by
  obtain ⟨vs, h1, h2, h0, h3⟩ := h
  refine ⟨vs, h1.turned ht (fun k hk => hs k (h0 k hk).1 (h0 k hk).2), h2, fun k hk => ⟨(h0 k hk).1, Nat.lt_of_lt_of_le (h0 k hk).2 ht.size⟩, fun i hi hj => ⟨?_, (h3 i hi hj).2⟩⟩
  exact (h3 i hi hj).1.turnedN ht (fun hne k hk => hs k ((h3 i hi hj).2 k hk) ((h3 i hi hj).1.lt hne k hk))
theorem Bodies.below {w w' : World} {B : Nat} {v : Value} {ls : List (List Int)} (h : Bodies w B v ls) (hb : Below w.heap.size w w') : Bodies w' B v ls := h.turned (Turned.ofBelow (S := fun _ => False) hb) (fun _ _ _ h => h)

set_option maxRecDepth 100000 in
set_option maxHeartbeats 1600000 in
theorem same_any {w : World} {B B' : Nat} {a b : Value} {ls : List (List Int)} (ha : Bodies w B a ls) (hb : Bodies w B' b ls) :
    Calls Tryd.prog 13 #[a, b] w fun e w' => e = .returned (.bool true) ∧ Below w.heap.size w w' := by
  obtain ⟨va, sa, la, _, ea⟩ := ha
  obtain ⟨vb, sb, lb, _, eb⟩ := hb
  obtain ⟨aa, ca, hfa, hca, hma⟩ := sa.form
  obtain ⟨ab, cb, hfb, hcb, hmb⟩ := sb.form
  rw [la] at hfa hca
  rw [lb] at hfb hcb
  subst hfa hfb
  have hl : ls.length ≤ 9223372036854775807 := by unfold maxLen at hma; omega
  have HA : Hid (SlV w (.slice aa ls.length ca) va) := sa
  have HB : Hid (SlV w (.slice ab ls.length cb) vb) := sb
  have HEa : Hid (∀ i (h1 : i < va.length) (h2 : i < ls.length), Sl w va[i] ls[i] ∧ ∀ k, blk va[i] k → B ≤ k) := ea
  have HEb : Hid (∀ i (h1 : i < vb.length) (h2 : i < ls.length), Sl w vb[i] ls[i] ∧ ∀ k, blk vb[i] k → B' ≤ k) := eb
  clear sa sb ea eb
  go_enter Tryd.func13, Tryd.ntmps13
  go_wp2_with fail
  go_loopw [5] (fun i wr => ∃ j : Nat, j ≤ ls.length ∧ i = .int .i64 j ∧ ∃ q, wr = w.drewN q) (fun i _ => ls.length - (intOf i).toNat)
  case atStart => exact ⟨0, Nat.zero_le _, rfl, 0, rfl⟩
  case round =>
    obtain ⟨j, hj, rfl, q, rfl⟩ := hrel
    by_cases hlt : j < ls.length
    · have hlti : (j : Int) < (ls.length : Int) := by omega
      have hj0 : (0 : Int) ≤ (j : Int) := by omega
      rcases HA.out with ⟨_, hn⟩ | ⟨ga, oa, ca', h1, _, _, h4⟩
      · subst hn; simp at la; omega
      rcases HB.out with ⟨_, hn⟩ | ⟨gb, ob, cb', h1', _, _, h4'⟩
      · subst hn; simp at lb; omega
      rw [la] at h1
      rw [lb] at h1'
      cases h1
      cases h1'
      have ra := h4 j (by omega)
      have rb := h4' j (by omega)
      have xa := (HEa.out j (by omega) hlt).1
      have xb := (HEb.out j (by omega) hlt).1
      obtain ⟨a1, c1, f1, _, _⟩ := xa.form
      obtain ⟨a2, c2, f2, _, _⟩ := xb.form
      rw [f1] at ra xa
      rw [f2] at rb xb
      have cva : ∀ m : Nat, (convert 22 9 (.slice a1 ls[j].length c1)).run Tryd.prog (w.drewN m) = .ok (.string (strOfNums ls[j])) (w.drewN m) := fun m => (xa.turned (⟨rfl, rfl, rfl, Nat.le_refl _, fun _ _ _ => rfl⟩ : Turned (fun _ => False) w (w.drewN m)) (fun _ _ h => h)).str
      have cvb : ∀ m : Nat, (convert 22 9 (.slice a2 ls[j].length c2)).run Tryd.prog (w.drewN m) = .ok (.string (strOfNums ls[j])) (w.drewN m) := fun m => (xb.turned (⟨rfl, rfl, rfl, Nat.le_refl _, fun _ _ _ => rfl⟩ : Turned (fun _ => False) w (w.drewN m)) (fun _ _ h => h)).str
      generalize strOfNums ls[j] = tx at cva cvb
      generalize ls[j].length = L1 at cva cvb ra rb
      clear h4 h4' xa xb f1 f2
      go_wp2_with fail
      go_quiet (fail)
      go_wp2
      go_roundw
      case rel => exact ⟨j + 1, by omega, by go_num, _, rfl⟩
      case measure => simp [intOf]; omega
    · have hge : ¬ (j : Int) < (ls.length : Int) := by omega
      go_wp2
      go_ret
      exact ⟨rfl, ⟨rfl, rfl, rfl, Nat.le_refl _, fun _ _ => rfl⟩⟩

/-- .. and its Split. -/
structure FImplS (Mem : World → Nat → (Nat → Prop) → FSt → Prop) : Prop extends FImpl Mem where
  split : ∀ (n : Int) {w : World} {b : Value} {bs : List Int}, Sl w b bs → Rng bs → bs.length ≤ 16777216 →
    Calls Tryd.prog 11 #[.int .i64 n, b] w fun e w' => ∃ V v, e = .returned (.tuple #[V, .int .i64 (splitAny n bs).2.2, v]) ∧ ErrsF w.heap.size w' v (splitAny n bs).1 ∧ Bodies w' w.heap.size V (splitAny n bs).2.1 ∧ Below w.heap.size w w'
end Go.Proofs.YtpbakejocjmkeaaDoor
