/-
  Layer 11 (parse), of lists alone: what is below a node rises, and holds the lower Kids of what it holds.
-/
import Derived.Test.YtipdmmncgenppaaGreatDoorPT
namespace Go.Proofs.YtipdmmncgenppaaGreatDoor

theorem set_true (m : List Bool) (a j : Nat) : (m.set a true)[j]? = some true ↔ m[j]? = some true ∨ (j < m.length ∧ a = j) := by
  by_cases h : a = j
  · subst h
    by_cases hl : a < m.length <;> simp [hl]
  · simp [List.getElem?_set_ne h, h]
theorem markL_true (p : Int → Bool) : ∀ (l : List Int) (m : List Bool) (j : Nat), (markL p l m)[j]? = some true ↔ m[j]? = some true ∨ (j < m.length ∧ ∃ k ∈ l, p k = true ∧ k.toNat = j)
  | [], m, j => by simp [markL]
  | k :: ks, m, j => by
    rw [markL, markL_true p ks]
    by_cases hp : p k = true
    · rw [if_pos hp, set_true]
      simp only [List.length_set, List.mem_cons]
      constructor
      · rintro ((h | ⟨h1, h2⟩) | ⟨h1, z, hz, h3⟩)
        · exact .inl h
        · exact .inr ⟨h1, k, .inl rfl, hp, h2⟩
        · exact .inr ⟨h1, z, .inr hz, h3⟩
      · rintro (h | ⟨h1, z, rfl | hz, h3⟩)
        · exact .inl (.inl h)
        · exact .inl (.inr ⟨h1, h3.2⟩)
        · exact .inr ⟨h1, z, hz, h3⟩
    · rw [if_neg hp]
      simp only [List.mem_cons]
      constructor
      · rintro (h | ⟨h1, z, hz, h3⟩)
        · exact .inl h
        · exact .inr ⟨h1, z, .inr hz, h3⟩
      · rintro (h | ⟨h1, z, rfl | hz, h3⟩)
        · exact .inl h
        · exact absurd h3.1 hp
        · exact .inr ⟨h1, z, hz, h3⟩
theorem downS_up (kids : Nat → List Int) : ∀ (i : Nat) (m : List Bool) (j : Nat), m[j]? = some true → (downS kids i m)[j]? = some true
  | 0, _, _, h => h
  | i + 1, m, j, h => by
    rw [downS]
    refine downS_up kids i _ j ?_
    split
    · exact (markL_true _ _ _ _).2 (.inl h)
    · exact h
theorem downS_top (kids : Nat → List Int) : ∀ (i : Nat) (m : List Bool) (j : Nat), i ≤ j + 1 → (downS kids i m)[j]? = some true → m[j]? = some true
  | 0, _, _, _, h => h
  | i + 1, m, j, hj, h => by
    rw [downS] at h
    have h1 := downS_top kids i _ j (by omega) h
    split at h1
    · rcases (markL_true _ _ _ _).1 h1 with h2 | ⟨_, k, _, h3, h4⟩
      · exact h2
      · simp [lowB] at h3; omega
    · exact h1
theorem downS_shut (kids : Nat → List Int) : ∀ (i : Nat) (m : List Bool) (j : Nat), j < i → i ≤ m.length → (downS kids i m)[j]? = some true → ∀ k ∈ kids j, lowB j k = true → (downS kids i m)[k.toNat]? = some true
  | 0, _, _, h, _, _, _, _, _ => by omega
  | i + 1, m, j, hj, hl, h, k, hk, hlow => by
    rw [downS] at h ⊢
    by_cases e : j < i
    · exact downS_shut kids i _ j e (by split <;> (try rw [markL_length]) <;> omega) h k hk hlow
    · have ej : j = i := by omega
      subst ej
      have h1 := downS_top kids j _ j (by omega) h
      have h2 : m[j]? = some true := by
        split at h1
        · rcases (markL_true _ _ _ _).1 h1 with h2 | ⟨_, k, _, h3, h4⟩
          · exact h2
          · simp [lowB] at h3; omega
        · exact h1
      refine downS_up kids j _ _ ?_
      rw [if_pos (by rw [h2]; rfl)]
      have hb : 0 ≤ k ∧ k < (j : Int) := by simpa [lowB] using hlow
      exact (markL_true _ _ _ _).2 (.inr ⟨by omega, k, hk, hlow, rfl⟩)
theorem downS_le (kids : Nat → List Int) (r : Nat) : ∀ (i : Nat) (m : List Bool), (∀ j : Nat, m[j]? = some true → j ≤ r) → ∀ j : Nat, (downS kids i m)[j]? = some true → j ≤ r
  | 0, _, h, j, hj => h j hj
  | i + 1, m, h, j, hj => by
    rw [downS] at hj
    refine downS_le kids r i _ (fun q hq => ?_) j hj
    by_cases e : (m[i]?).getD false = true
    · rw [if_pos e] at hq
      rcases (markL_true _ _ _ _).1 hq with h2 | ⟨_, k, _, h3, h4⟩
      · exact h q h2
      · have hi : m[i]? = some true := by
          cases hm : m[i]? with
          | none => rw [hm] at e; cases e
          | some b => rw [hm] at e; simpa using e
        have := h i hi
        simp [lowB] at h3
        omega
    · rw [if_neg e] at hq
      exact h q hq
theorem mem_marked : ∀ (m : List Bool) (i : Nat) (z : Int), z ∈ marked i m ↔ ∃ j : Nat, z = ((i + j : Nat) : Int) ∧ m[j]? = some true
  | [], i, z => by simp [marked]
  | b :: r, i, z => by
    have ih := mem_marked r (i + 1) z
    have key : (∃ j : Nat, z = ((i + j : Nat) : Int) ∧ (b :: r)[j]? = some true) ↔ ((z = (i : Int) ∧ b = true) ∨ ∃ j : Nat, z = ((i + 1 + j : Nat) : Int) ∧ r[j]? = some true) := by
      constructor
      · rintro ⟨j, h1, h2⟩
        cases j with
        | zero => exact .inl ⟨by simpa using h1, by simpa using h2⟩
        | succ j => exact .inr ⟨j, by rw [h1]; congr 1; omega, by simpa using h2⟩
      · rintro (⟨h1, h2⟩ | ⟨j, h1, h2⟩)
        · exact ⟨0, by simpa using h1, by simpa using h2⟩
        · exact ⟨j + 1, by rw [h1]; congr 1; omega, by simpa using h2⟩
    rw [key, ← ih, marked]
    split <;> simp_all
theorem marked_rises : ∀ (m : List Bool) (i : Nat), (marked i m).Pairwise (· < ·)
  | [], _ => by simp [marked]
  | b :: r, i => by
    rw [marked]
    split
    · refine List.pairwise_cons.2 ⟨fun z hz => ?_, marked_rises r (i + 1)⟩
      obtain ⟨j, h1, _⟩ := (mem_marked r (i + 1) z).1 hz
      omega
    · exact marked_rises r (i + 1)
/-- What is below one node. -/
theorem belowS_one (n : Nat) (kids : Nat → List Int) (r : Nat) (hr : r < n) : (belowS n kids [(r : Int)]).Pairwise (· < ·) ∧ (r : Int) ∈ belowS n kids [(r : Int)] ∧ (∀ z ∈ belowS n kids [(r : Int)], 0 ≤ z ∧ z ≤ (r : Int)) ∧
    ∀ z ∈ belowS n kids [(r : Int)], ∀ k ∈ kids z.toNat, 0 ≤ k → k < z → k ∈ belowS n kids [(r : Int)] := by
  have m0 : ∀ j : Nat, (markL (lowB n) [(r : Int)] (List.replicate n false))[j]? = some true ↔ j = r := fun j => by
    rw [markL_true]
    constructor
    · rintro (h | ⟨_, k, hk, _, h2⟩)
      · simp [List.getElem?_replicate] at h
      · simp at hk; omega
    · intro h
      subst h
      exact .inr ⟨by simpa using hr, (j : Int), by simp, by simp [lowB]; omega, by simp⟩
  have hlen : (markL (lowB n) [(r : Int)] (List.replicate n false)).length = n := by rw [markL_length]; simp
  have le := downS_le kids r n _ (fun j hj => Nat.le_of_eq ((m0 j).1 hj))
  refine ⟨marked_rises _ _, (mem_marked _ _ _).2 ⟨r, by simp, downS_up kids n _ r ((m0 r).2 rfl)⟩, fun z hz => ?_, fun z hz k hk h0 h1 => ?_⟩
  · obtain ⟨j, e, hj⟩ := (mem_marked _ _ _).1 hz
    have := le j hj
    omega
  · obtain ⟨j, e, hj⟩ := (mem_marked _ _ _).1 hz
    have hjr := le j hj
    have ez : z.toNat = j := by omega
    rw [ez] at hk
    refine (mem_marked _ _ _).2 ⟨k.toNat, by omega, ?_⟩
    exact downS_shut kids n _ j (by omega) (by omega) hj k hk (by simp [lowB]; omega)
end Go.Proofs.YtipdmmncgenppaaGreatDoor
