/-
  Layer 1 (atom), of lists alone: a name of a node, parted at its first '@'.
-/
import Derived.Test.YtmnibmgbicnamaaGreatDoorSPure
import Derived.Lib.Bytealg
namespace Go.Proofs.YtmnibmgbicnamaaGreatDoor
open Go.RowKit

theorem indexByte_cases (c : UInt8) : ∀ l : List UInt8, (Lib.indexByte l c = -1 ∧ c ∉ l) ∨ ∃ l1 l2, Lib.indexByte l c = (l1.length : Int) ∧ l = l1 ++ c :: l2 ∧ c ∉ l1
  | [] => .inl ⟨rfl, by simp⟩
  | b :: l => by
    rw [Lib.indexByte]
    by_cases hb : b = c
    · subst hb
      exact .inr ⟨[], l, by simp, rfl, by simp⟩
    · rw [if_neg (by simpa using hb)]
      rcases indexByte_cases c l with ⟨h1, h2⟩ | ⟨l1, l2, h1, h2, h3⟩
      · rw [h1]
        exact .inl ⟨rfl, by simp only [List.mem_cons, not_or]; exact ⟨fun h => hb h.symm, h2⟩⟩
      · rw [h1, if_neg (by simp)]
        exact .inr ⟨b :: l1, l2, by simp, by rw [h2]; rfl, by simp only [List.mem_cons, not_or]; exact ⟨fun h => hb h.symm, h3⟩⟩

def smallB (c : Int) : Bool := decide (97 ≤ c ∧ c ≤ 122)
def alnumB (c : Int) : Bool := smallB c || decide (65 ≤ c ∧ c ≤ 90) || decide (48 ≤ c ∧ c ≤ 57)
/-- May a byte stand in a part of a name? -/
def partByte (d : Bool) (c : Int) : Bool := alnumB c || decide (c = 95) || decide (c = 45) || (d && decide (c = 46))
def partB (d : Bool) (s : ByteArray) : Bool := (nums s).all (partByte d) && decide (s.size ≠ 0)

theorem scan_byte (c : Int) (h : c ≠ 64) (a : Int) : (inWordB c || decide (c = 45) || (decide (c = 46) && decide (0 ≤ a))) = partByte (decide (0 ≤ a)) c := by
  rw [Bool.eq_iff_iff]
  simp only [inWordB, partByte, alnumB, smallB, Bool.or_eq_true, Bool.and_eq_true, decide_eq_true_eq]
  omega
theorem scan_noat : ∀ (l : List Int) (i : Nat) (a : Int) (g : Bool), (64 : Int) ∉ l → nodeScan l i a g = (a, g && l.all (partByte (decide (0 ≤ a))))
  | [], i, a, g, _ => by simp [nodeScan]
  | c :: r, i, a, g, h => by
    have hc : c ≠ 64 := fun e => h (by simp [e])
    rw [nodeScan, if_neg hc, scan_noat r _ _ _ (fun e => h (by simp [e])), scan_byte c hc a, List.all_cons, Bool.and_assoc]
theorem scan_false : ∀ (l : List Int) (i : Nat) (a : Int), (nodeScan l i a false).2 = false
  | [], _, _ => rfl
  | c :: r, i, a => by
    rw [nodeScan]
    split <;> (simp only [Bool.false_and]; exact scan_false _ _ _)
theorem scan_twice : ∀ (l : List Int) (i : Nat) (a : Int) (g : Bool), 0 ≤ a → (64 : Int) ∈ l → (nodeScan l i a g).2 = false
  | [], _, _, _, _, h => by cases h
  | c :: r, i, a, g, ha, h => by
    rw [nodeScan]
    split
    · rw [decide_eq_false (by omega), Bool.and_false]; exact scan_false _ _ _
    · rename_i hc
      exact scan_twice r _ _ _ ha (by simpa [Ne.symm hc] using h)
theorem scan_cut (l1 l2 : List Int) (g : Bool) : ∀ (i : Nat) (_ : (64 : Int) ∉ l1), nodeScan (l1 ++ 64 :: l2) i (-1) g = nodeScan l2 (i + l1.length + 1) ((i + l1.length : Nat) : Int) (g && l1.all (partByte false)) := by
  induction l1 generalizing g with
  | nil => intro i _; simp [nodeScan]
  | cons c r ih =>
    intro i h
    have hc : c ≠ 64 := fun e => h (by simp [e])
    rw [List.cons_append, nodeScan, if_neg hc, ih _ _ (fun e => h (by simp [e])), scan_byte c hc (-1)]
    have e1 : i + 1 + r.length = i + (c :: r).length := by simp; omega
    rw [e1]
    simp [List.all_cons, Bool.and_assoc]

theorem nums_of (s : ByteArray) (l : List UInt8) (h : s.data.toList = l) : nums s = l.map fun b => (b.toNat : Int) := by rw [nums, h]
theorem mem64 (l : List UInt8) : (64 : Int) ∈ l.map (fun b => (b.toNat : Int)) ↔ (64 : UInt8) ∈ l := by
  constructor
  · intro h
    obtain ⟨b, hb, e⟩ := List.mem_map.1 h
    have : b = 64 := by
      apply UInt8.toNat_inj.1
      have : b.toNat = 64 := by omega
      rw [this]; rfl
    exact this ▸ hb
  · intro h; exact List.mem_map.2 ⟨64, h, rfl⟩
/-- A name that has no '@' is none. -/
theorem node_miss (s : ByteArray) (h : (64 : UInt8) ∉ s.data.toList) : nodeOk s = false := by
  unfold nodeOk
  simp only
  rw [scan_noat _ _ _ _ (by rw [nums, mem64]; exact h)]
  simp
/-- A name that has one: both parts must be such. -/
theorem node_hit (s a b : ByteArray) (h : s.data.toList = a.data.toList ++ 64 :: b.data.toList) (ha : (64 : UInt8) ∉ a.data.toList) : nodeOk s = (decide (s.size ≤ 64) && partB false a && partB true b) := by
  have hn : nums s = nums a ++ 64 :: nums b := by simp only [nums, h]; simp
  have hz : s.size = a.size + 1 + b.size := by
    have := congrArg List.length hn
    simp only [nums_length, List.length_append, List.length_cons] at this
    omega
  have hna : (64 : Int) ∉ nums a := by rw [nums, mem64]; exact ha
  unfold nodeOk
  simp only
  rw [hn, scan_cut _ _ _ _ hna]
  by_cases hb : (64 : Int) ∈ nums b
  · rw [scan_twice _ _ _ _ (by omega) hb]
    have : partB true b = false := by
      unfold partB
      rw [Bool.and_eq_false_iff]
      left
      rw [List.all_eq_false]
      exact ⟨64, hb, by decide⟩
    rw [this]
    simp
  · rw [scan_noat _ _ _ _ hb]
    simp only [nums_length]
    rw [Bool.eq_iff_iff]
    simp only [partB, Bool.and_eq_true, decide_eq_true_eq]
    have e : decide ((0 : Int) ≤ ((0 + a.size : Nat) : Int)) = true := by simp
    rw [e]
    generalize (nums a).all (partByte false) = A
    generalize (nums b).all (partByte true) = C
    constructor
    · rintro ⟨⟨⟨⟨⟨h1, h2⟩, h3⟩, h4⟩, h5⟩, h6⟩
      exact ⟨⟨h2, h3, by omega⟩, h4, by omega⟩
    · rintro ⟨⟨h2, h3, h5⟩, h4, h6⟩
      exact ⟨⟨⟨⟨⟨by omega, h2⟩, h3⟩, h4⟩, by omega⟩, by omega⟩
theorem eq_bytes' (s t : ByteArray) : s = t ↔ s.toList = t.data.toList := by
  constructor
  · rintro rfl; exact ByteArray.toList_eq s
  · intro h
    rw [ByteArray.toList_eq] at h
    apply ByteArray.ext
    exact Array.toList_inj.1 h
theorem eq_stOk' (s : ByteArray) : s = stOk ↔ s.toList = [111, 107] := eq_bytes' s stOk
theorem eq_stSim' (s : ByteArray) : s = stSim ↔ s.toList = [111, 107, 95, 115, 105, 109, 117, 108, 116, 97, 110, 101, 111, 117, 115] := eq_bytes' s stSim
theorem eq_stNok' (s : ByteArray) : s = stNok ↔ s.toList = [110, 111, 107] := eq_bytes' s stNok
theorem eq_stNot' (s : ByteArray) : s = stNot ↔ s.toList = [110, 111, 116, 95, 97, 108, 108, 111, 119, 101, 100] := eq_bytes' s stNot
theorem eq_stAlive' (s : ByteArray) : s = stAlive ↔ s.toList = [97, 108, 105, 118, 101] := eq_bytes' s stAlive
theorem empty_list' {s : ByteArray} (h : s.size ≠ 0) : s.toList.isEmpty = false := by
  rw [← decide_eq_emptyBytes]
  simp
  intro h'
  subst h'
  exact h rfl
end Go.Proofs.YtmnibmgbicnamaaGreatDoor
