/-
  Layer 11 (parse), of lists alone: sets of numbers, each with a way to its own number.
-/
import Derived.Test.YtipdmmncgenppaaGreatDoorPSmA
namespace Go.Proofs.YtipdmmncgenppaaGreatDoor

/-- Ways that end: what stands at a number is nearer to its set's own. -/
structure UF (n : Nat) (s : Nat → Nat) (rep dep : Nat → Nat) : Prop where
  lt : ∀ x, x < n → s x < n
  rlt : ∀ x, x < n → rep x < n
  step : ∀ x, x < n → rep (s x) = rep x
  root : ∀ x, x < n → s x = x → rep x = x
  top : ∀ x, x < n → s (rep x) = rep x
  far : ∀ x, x < n → s x ≠ x → dep (s x) < dep x
def put (s : Nat → Nat) (i v : Nat) (x : Nat) : Nat := if x = i then v else s x
theorem put_same (s : Nat → Nat) (i v : Nat) : put s i v i = v := by simp [put]
theorem put_other (s : Nat → Nat) (i v : Nat) {x : Nat} (h : x ≠ i) : put s i v x = s x := by simp [put, h]
theorem UF.begin (n : Nat) : UF n id id (fun _ => 0) := ⟨fun _ h => h, fun _ h => h, fun _ _ => rfl, fun _ _ _ => rfl, fun _ _ => rfl, fun _ _ h => absurd rfl h⟩
theorem UF.rr {n : Nat} {s rep dep : Nat → Nat} (h : UF n s rep dep) {x : Nat} (hx : x < n) : rep (rep x) = rep x := h.root _ (h.rlt x hx) (h.top x hx)
/-- The way is made shorter. -/
theorem UF.half {n : Nat} {s rep dep : Nat → Nat} (h : UF n s rep dep) {i : Nat} (hi : i < n) (hn : s i ≠ i) : UF n (put s i (s (s i))) rep dep := by
  have a := h.lt i hi
  refine ⟨fun x hx => ?_, h.rlt, fun x hx => ?_, fun x hx hs => ?_, fun x hx => ?_, fun x hx hs => ?_⟩
  · by_cases e : x = i
    · subst e; rw [put_same]; exact h.lt _ a
    · rw [put_other _ _ _ e]; exact h.lt x hx
  · by_cases e : x = i
    · subst e; rw [put_same, h.step _ a, h.step _ hx]
    · rw [put_other _ _ _ e]; exact h.step x hx
  · by_cases e : x = i
    · subst e
      rw [put_same] at hs
      exfalso
      have d1 := h.far x hx hn
      by_cases e2 : s (s x) = s x
      · exact hn (e2 ▸ hs)
      · have d2 := h.far (s x) a e2
        rw [hs] at d2
        omega
    · rw [put_other _ _ _ e] at hs; exact h.root x hx hs
  · by_cases e : rep x = i
    · exact absurd (e ▸ h.top x hx) hn
    · rw [put_other _ _ _ e]; exact h.top x hx
  · by_cases e : x = i
    · subst e
      rw [put_same]
      have d1 := h.far x hx hn
      by_cases e2 : s (s x) = s x
      · rw [e2]; exact d1
      · have d2 := h.far (s x) a e2
        omega
    · rw [put_other _ _ _ e] at hs ⊢; exact h.far x hx hs
/-- Two sets become one. -/
theorem UF.link {n : Nat} {s rep dep : Nat → Nat} (h : UF n s rep dep) {i k : Nat} (hi : i < n) (hk : k < n) (ri : rep i = i) (rk : rep k = k) (hne : i ≠ k) :
    UF n (put s i k) (meld rep i k) (fun x => if rep x = i then dep x + dep k + 1 else dep x) := by
  have ti : s i = i := by have := h.top i hi; rwa [ri] at this
  have tk : s k = k := by have := h.top k hk; rwa [rk] at this
  have mk : meld rep i k k = k := by simp [meld, rk]; 
  refine ⟨fun x hx => ?_, fun x hx => ?_, fun x hx => ?_, fun x hx hs => ?_, fun x hx => ?_, fun x hx hs => ?_⟩
  · by_cases e : x = i
    · subst e; rw [put_same]; exact hk
    · rw [put_other _ _ _ e]; exact h.lt x hx
  · simp only [meld]; split
    · exact hk
    · exact h.rlt x hx
  · by_cases e : x = i
    · subst e; rw [put_same, mk]; simp [meld, ri]
    · rw [put_other _ _ _ e]; simp only [meld, h.step x hx]
  · by_cases e : x = i
    · subst e; rw [put_same] at hs; exact absurd hs.symm hne
    · rw [put_other _ _ _ e] at hs
      have := h.root x hx hs
      simp only [meld, this, e, if_false]
  · simp only [meld]
    split
    · rw [put_other _ _ _ (fun e => hne e.symm), tk]
    · rename_i e
      rw [put_other _ _ _ e]; exact h.top x hx
  · by_cases e : x = i
    · subst e
      rw [put_same]
      simp only [ri, rk, if_true, if_neg (Ne.symm hne)]
      omega
    · rw [put_other _ _ _ e] at hs ⊢
      have d := h.far x hx hs
      simp only [h.step x hx]
      split <;> omega
/-- How many sets there are. -/
def sets (n : Nat) (rep : Nat → Nat) : Nat := ((List.range n).filter (fun x => rep x == x)).length
theorem filter_le_of {p q : Nat → Bool} (h : ∀ x, p x = true → q x = true) : ∀ l : List Nat, (l.filter p).length ≤ (l.filter q).length
  | [] => Nat.le_refl _
  | x :: r => by
    have := filter_le_of h r
    have hx := h x
    cases hp : p x <;> cases hq : q x <;> simp_all [List.filter] <;> omega
theorem filter_lt_of {p q : Nat → Bool} (h : ∀ x, p x = true → q x = true) {i : Nat} (h1 : p i = false) (h2 : q i = true) : ∀ l : List Nat, i ∈ l → (l.filter p).length < (l.filter q).length
  | [], hi => by cases hi
  | x :: r, hi => by
    have hle := filter_le_of h r
    rcases List.mem_cons.1 hi with rfl | hi
    · simp [List.filter, h1, h2]; omega
    · have := filter_lt_of h h1 h2 r hi
      have hx := h x
      cases hp : p x <;> cases hq : q x <;> simp_all [List.filter] <;> omega
theorem sets_le (n : Nat) (rep : Nat → Nat) : sets n rep ≤ n := by
  have := List.length_filter_le (fun x => rep x == x) (List.range n)
  simpa [sets] using this
theorem sets_meld {n : Nat} {rep : Nat → Nat} {i k : Nat} (hi : i < n) (ri : rep i = i) (rk : rep k = k) (hne : i ≠ k) : sets n (meld rep i k) < sets n rep := by
  refine filter_lt_of (i := i) (fun x hx => ?_) ?_ ?_ _ (List.mem_range.2 hi)
  · simp only [beq_iff_eq, meld] at hx ⊢
    split at hx
    · subst hx; exact rk
    · exact hx
  · simp [meld, ri]; exact fun e => hne e.symm
  · simp [ri]
end Go.Proofs.YtipdmmncgenppaaGreatDoor
