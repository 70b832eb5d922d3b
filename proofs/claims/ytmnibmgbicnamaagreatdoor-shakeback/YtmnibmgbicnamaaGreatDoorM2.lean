/-
  Layer 7 (mix): the document's Digest, Same and generator; what is asked of the program's mix (MImpl).
-/
import Derived.Test.YtmnibmgbicnamaaGreatDoorM1
import Derived.Lib.Bytes
namespace Go.Proofs.YtmnibmgbicnamaaGreatDoor
open Go.RowKit

theorem firstBad_long : ∀ (zs : List Int) (i : Nat), i ≤ 255 → 255 < i + zs.length → (firstBad zs i).isSome = true
  | [], i, h1, h2 => by simp at h2; omega
  | z :: r, i, h1, h2 => by
    unfold firstBad
    by_cases hb : i = 255 ∨ z < 33 ∨ 126 < z
    · rw [if_pos hb]; rfl
    · rw [if_neg hb]
      exact firstBad_long r (i + 1) (by omega) (by simp at h2; omega)
theorem cookie_size {s : ByteArray} (h : cookieErr s = none) : s.size ≤ 255 := by
  unfold cookieErr at h
  by_cases h0 : s.size = 0
  · rw [if_pos h0] at h; cases h
  · rw [if_neg h0] at h
    apply Classical.byContradiction
    intro hc
    have := firstBad_long (nums s) 0 (by omega) (by rw [nums_length]; omega)
    cases hf : firstBad (nums s) 0 with
    | none => rw [hf] at this; cases this
    | some i => rw [hf] at h; cases h

theorem ref_digest (s : ByteArray) (hs : s.size ≤ 4611686018427387904) (n : Nat) (hn : n < 4294967296) (w : World) : Calls Tryz.prog 26 #[.string s, .int .u32 n] w fun e w' => ∃ V v, e = .returned (.tuple #[V, v]) ∧ LinksM w.heap.size w' v (cookieErr s) ∧ Own w' V (digestTold s n) ∧ Below w.heap.size w w' ∧ ∀ k, blk V k → w.heap.size ≤ k := by
  unfold digestTold
  cases hc : cookieErr s with
  | none =>
    exact (ref_digest_ok s (cookie_size hc) n hn w hc).mono fun e w' ⟨V, h1, h2, h3, h4⟩ => ⟨V, _, h1, rfl, h2, h3.below (Nat.le_refl _) (fun _ h => h.elim), h4⟩
  | some x =>
    exact (ref_digest_no s hs n w hc).mono fun e w' ⟨v, h1, h2, h3⟩ => ⟨_, v, h1, h2, .inl ⟨rfl, rfl⟩, h3, fun _ h => h.elim⟩

/-- Bytes are one another's where their texts are. -/
theorem strOfNums_inj {xs ys : List Int} (hx : ∀ z ∈ xs, 0 ≤ z ∧ z < 256) (hy : ∀ z ∈ ys, 0 ≤ z ∧ z < 256) (h : strOfNums xs = strOfNums ys) : xs = ys := by
  have h1 := congrArg (fun b : ByteArray => b.data.toList) h
  simp only [strOfNums_data] at h1
  have back : ∀ l : List Int, (∀ z ∈ l, 0 ≤ z ∧ z < 256) → (l.map fun n => UInt8.ofNat n.toNat).map (fun b => (b.toNat : Int)) = l := by
    intro l hl
    rw [List.map_map]
    conv => rhs; rw [← List.map_id l]
    apply List.map_congr_left
    intro z hz
    have := hl z hz
    have e : z.toNat % 256 = z.toNat := Nat.mod_eq_of_lt (by omega)
    simp [e]
    omega
  rw [← back xs hx, ← back ys hy, h1]
theorem bytes8_rng (a : Int) : ∀ z ∈ bytes8 a, 0 ≤ z ∧ z < 256 := by
  intro z hz
  simp only [bytes8, List.mem_cons, List.not_mem_nil, or_false] at hz
  omega
theorem digest_rng (s : ByteArray) (n : Nat) : ∀ z ∈ digestOf s n, 0 ≤ z ∧ z < 256 := fun z hz => (List.mem_append.1 hz).elim (bytes8_rng _ z) (bytes8_rng _ z)
/-- What Same tells. -/
def sameTold (s : ByteArray) (n : Nat) (ds : List Int) : Bool := decide (cookieErr s = none) && ((strOfNums (digestOf s n)).toList == (strOfNums ds).toList)

end Go.Proofs.YtmnibmgbicnamaaGreatDoor
