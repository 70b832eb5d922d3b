/-
  Layer 11 (parse), of lists alone: the document's classes of nodes tell which trees are the same.
-/
import Derived.Test.YtipdmmncgenppaaGreatDoorPSmA
namespace Go.Proofs.YtipdmmncgenppaaGreatDoor

/-- A form's tree, down to a depth. -/
def cutF {L : Type} (F : List (L × List Nat)) : Nat → Nat → Tr L
  | 0, _ => .stub
  | n + 1, j => match F[j]? with
    | some f => .mk f.1 (f.2.map (cutF F n))
    | none => .bad
def putC (c : Nat → Option Nat) (i : Nat) (v : Option Nat) (x : Nat) : Option Nat := if x = i then v else c x
/-- Classes so far: D, the nodes that have been looked at. -/
structure CI {L : Type} (G : Gr L) (c : Nat → Option Nat) (F : List (L × List Nat)) (D : Nat → Prop) : Prop where
  nd : F.Nodup
  fk : ∀ j (h : j < F.length), ∀ q ∈ F[j].2, q < j
  has : ∀ x j, D x → c x = some j → ∃ ks, F[j]? = some (G.lab x, ks) ∧ (G.kid x).map c = ks.map some ∧ G.low x = true ∧ ∀ k ∈ G.kid x, D k
  no : ∀ x, D x → c x = none → ∃ n, ¬ G.okn n x

theorem CI.begin {L : Type} (G : Gr L) (c : Nat → Option Nat) : CI G c [] (fun _ => False) := ⟨List.nodup_nil, fun j h => by simp at h, fun _ _ h => h.elim, fun _ h => h.elim⟩
theorem CI.cut {L : Type} {G : Gr L} {c : Nat → Option Nat} {F : List (L × List Nat)} {D : Nat → Prop} (h : CI G c F D) : ∀ n x j, D x → c x = some j → G.cut n x = cutF F n j ∧ G.okn n x := by
  intro n
  induction n with
  | zero => intros; exact ⟨rfl, trivial⟩
  | succ n ih =>
    intro x j hx hc
    obtain ⟨ks, e1, e2, e3, e4⟩ := h.has x j hx hc
    have hlen : (G.kid x).length = ks.length := by simpa using congrArg List.length e2
    have hk : ∀ t (h1 : t < (G.kid x).length) (h2 : t < ks.length), c (G.kid x)[t] = some ks[t] := fun t h1 h2 => by
      have h3 : ((G.kid x).map c)[t]? = (ks.map some)[t]? := by rw [e2]
      simpa [h1, h2] using h3
    refine ⟨?_, e3, fun k hk' => ?_⟩
    · simp only [Gr.cut, e3, if_true, cutF, e1, Tr.mk.injEq, true_and]
      refine List.ext_getElem (by simpa using hlen) fun t h1 h2 => ?_
      have h1' : t < (G.kid x).length := by simpa using h1
      have h2' : t < ks.length := by simpa using h2
      simp only [List.getElem_map]
      exact (ih _ _ (e4 _ (List.getElem_mem h1')) (hk t h1' h2')).1
    · obtain ⟨t, h1, rfl⟩ := List.getElem_of_mem hk'
      exact (ih _ _ (e4 _ (List.getElem_mem h1)) (hk t h1 (by omega))).2
theorem CI.inj {L : Type} {G : Gr L} {c : Nat → Option Nat} {F : List (L × List Nat)} {D : Nat → Prop} (h : CI G c F D) : ∀ m j i, j < m → (hj : j < F.length) → (hi : i < F.length) → (∀ n, cutF F n j = cutF F n i) → j = i := by
  intro m
  induction m with
  | zero => intro j i h0; omega
  | succ m ih =>
    intro j i hm hj hi hn
    have step : ∀ n, F[j].1 = F[i].1 ∧ F[j].2.map (cutF F n) = F[i].2.map (cutF F n) := fun n => by
      have := hn (n + 1)
      simpa [cutF, hj, hi] using this
    have hlen : F[j].2.length = F[i].2.length := by simpa using congrArg List.length (step 0).2
    have e2 : F[j].2 = F[i].2 := by
      refine List.ext_getElem hlen fun t h1 h2 => ?_
      have b1 := h.fk j hj _ (List.getElem_mem h1)
      have b2 := h.fk i hi _ (List.getElem_mem h2)
      refine ih _ _ (by omega) (by omega) (by omega) fun n => ?_
      have h3 : (F[j].2.map (cutF F n))[t]? = (F[i].2.map (cutF F n))[t]? := by rw [(step n).2]
      simpa [h1, h2] using h3
    have e : F[j] = F[i] := Prod.ext (step 0).1 e2
    exact (List.getElem_inj h.nd).1 e
/-- Nodes that are the same have one class. -/
theorem CI.same {L : Type} {G : Gr L} {c : Nat → Option Nat} {F : List (L × List Nat)} {D : Nat → Prop} (h : CI G c F D) {x y : Nat} (hx : D x) (hy : D y) : G.Same x y ↔ ∃ j, c x = some j ∧ c y = some j := by
  constructor
  · intro hs
    cases e1 : c x with
    | none =>
      obtain ⟨n, hn⟩ := h.no x hx e1
      exact absurd (hs n).2.1 hn
    | some j =>
      cases e2 : c y with
      | none =>
        obtain ⟨n, hn⟩ := h.no y hy e2
        exact absurd (hs n).2.2 hn
      | some i =>
        obtain ⟨_, f1, _⟩ := h.has x j hx e1
        obtain ⟨_, f2, _⟩ := h.has y i hy e2
        obtain ⟨hj, _⟩ := List.getElem?_eq_some_iff.1 f1
        obtain ⟨hi, _⟩ := List.getElem?_eq_some_iff.1 f2
        have := h.inj (j + 1) j i (by omega) hj hi fun n => by rw [← (h.cut n x j hx e1).1, ← (h.cut n y i hy e2).1]; exact (hs n).1
        exact ⟨j, rfl, by rw [this]⟩
  · rintro ⟨j, e1, e2⟩ n
    exact ⟨by rw [(h.cut n x j hx e1).1, (h.cut n y j hy e2).1], (h.cut n x j hx e1).2, (h.cut n y j hy e2).2⟩
/-- A node that has no class. -/
theorem CI.bad {L : Type} {G : Gr L} {c : Nat → Option Nat} {F : List (L × List Nat)} {D : Nat → Prop} (h : CI G c F D) {x : Nat} (hx : ¬ D x) (hb : G.low x = false ∨ ∃ k ∈ G.kid x, D k ∧ c k = none) : CI G (putC c x none) F (fun y => D y ∨ y = x) := by
  have o : ∀ {y}, D y → putC c x none y = c y := fun {y} hy => by
    have : y ≠ x := fun e => hx (e ▸ hy)
    simp [putC, this]
  refine ⟨h.nd, h.fk, fun y j hy hc => ?_, fun y hy hc => ?_⟩
  · by_cases e : y = x
    · subst e; simp [putC] at hc
    · have hD : D y := hy.resolve_right e
      rw [o hD] at hc
      obtain ⟨ks, e1, e2, e3, e4⟩ := h.has y j hD hc
      refine ⟨ks, e1, ?_, e3, fun k hk => .inl (e4 k hk)⟩
      rw [← e2]
      exact List.map_congr_left fun k hk => o (e4 k hk)
  · by_cases e : y = x
    · subst e
      rcases hb with hb | ⟨k, hk, hD, hn⟩
      · exact ⟨1, fun hh => by simp [Gr.okn, hb] at hh⟩
      · obtain ⟨n, hn⟩ := h.no k hD hn
        exact ⟨n + 1, fun hh => hn (hh.2 k hk)⟩
    · have hD : D y := hy.resolve_right e
      rw [o hD] at hc
      exact h.no y hD hc
/-- A node of a class that there is. -/
theorem CI.old {L : Type} {G : Gr L} {c : Nat → Option Nat} {F : List (L × List Nat)} {D : Nat → Prop} (h : CI G c F D) {x j : Nat} {ks : List Nat} (hx : ¬ D x) (hl : G.low x = true) (hk : ∀ k ∈ G.kid x, D k) (hc : (G.kid x).map c = ks.map some) (hf : F[j]? = some (G.lab x, ks)) : CI G (putC c x (some j)) F (fun y => D y ∨ y = x) := by
  have o : ∀ {y}, D y → putC c x (some j) y = c y := fun {y} hy => by
    have : y ≠ x := fun e => hx (e ▸ hy)
    simp [putC, this]
  refine ⟨h.nd, h.fk, fun y i hy hi => ?_, fun y hy hi => ?_⟩
  · by_cases e : y = x
    · subst e
      simp only [putC, if_true, Option.some.injEq] at hi
      subst hi
      exact ⟨ks, hf, by rw [← hc]; exact List.map_congr_left fun k hk' => o (hk k hk'), hl, fun k hk' => .inl (hk k hk')⟩
    · have hD : D y := hy.resolve_right e
      rw [o hD] at hi
      obtain ⟨ks', e1, e2, e3, e4⟩ := h.has y i hD hi
      exact ⟨ks', e1, by rw [← e2]; exact List.map_congr_left fun k hk => o (e4 k hk), e3, fun k hk => .inl (e4 k hk)⟩
  · by_cases e : y = x
    · subst e; simp [putC] at hi
    · have hD : D y := hy.resolve_right e
      rw [o hD] at hi
      exact h.no y hD hi
/-- A new form. -/
theorem CI.more {L : Type} {G : Gr L} {c : Nat → Option Nat} {F : List (L × List Nat)} {D : Nat → Prop} (h : CI G c F D) {f : L × List Nat} (hn : f ∉ F) (hq : ∀ q ∈ f.2, q < F.length) : CI G c (F ++ [f]) D := by
  refine ⟨List.nodup_append.2 ⟨h.nd, by simp, fun a ha b hb => by simp at hb; subst hb; exact fun e => hn (e ▸ ha)⟩, fun j hj q hq' => ?_, fun y i hD hi => ?_, h.no⟩
  · by_cases e : j < F.length
    · rw [List.getElem_append_left e] at hq'
      exact h.fk j e q hq'
    · have ej : j = F.length := by simp at hj; omega
      subst ej
      simp at hq'
      exact hq q hq'
  · obtain ⟨ks, e1, e2⟩ := h.has y i hD hi
    obtain ⟨hj, _⟩ := List.getElem?_eq_some_iff.1 e1
    exact ⟨ks, by rw [List.getElem?_append_left hj]; exact e1, e2⟩
end Go.Proofs.YtipdmmncgenppaaGreatDoor
