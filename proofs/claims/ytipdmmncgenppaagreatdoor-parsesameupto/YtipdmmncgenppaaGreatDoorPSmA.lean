/-
  Layer 11 (parse), of lists alone: which trees are the same, by depth; the sets that the program keeps.
-/
import Derived.Test.YtipdmmncgenppaaGreatDoorPT
namespace Go.Proofs.YtipdmmncgenppaaGreatDoor

/-- Nodes: a label, Kids, and whether these are all lower. -/
structure Gr (L : Type) where
  lab : Nat → L
  kid : Nat → List Nat
  low : Nat → Bool
inductive Tr (L : Type) where
  | stub
  | bad
  | mk (l : L) (kids : List (Tr L))
/-- A node's tree, down to a depth. -/
def Gr.cut {L : Type} (G : Gr L) : Nat → Nat → Tr L
  | 0, _ => .stub
  | n + 1, x => if G.low x then .mk (G.lab x) ((G.kid x).map (G.cut n)) else .bad
/-- All Kids are lower, down to a depth. -/
def Gr.okn {L : Type} (G : Gr L) : Nat → Nat → Prop
  | 0, _ => True
  | n + 1, x => G.low x = true ∧ ∀ k ∈ G.kid x, G.okn n k
/-- The same but for places. -/
def Gr.Same {L : Type} (G : Gr L) (x y : Nat) : Prop := ∀ n, G.cut n x = G.cut n y ∧ G.okn n x ∧ G.okn n y

theorem Gr.Same.low {L : Type} {G : Gr L} {x y : Nat} (h : G.Same x y) : G.low x = true ∧ G.low y = true := ⟨(h 1).2.1.1, (h 1).2.2.1⟩
theorem Gr.Same.lab {L : Type} {G : Gr L} {x y : Nat} (h : G.Same x y) : G.lab x = G.lab y ∧ (G.kid x).length = (G.kid y).length := by
  have h1 := (h 1).1
  simp only [Gr.cut, h.low.1, h.low.2, if_true, Tr.mk.injEq] at h1
  exact ⟨h1.1, by simpa using congrArg List.length h1.2⟩
theorem Gr.Same.kid {L : Type} {G : Gr L} {x y : Nat} (h : G.Same x y) (j : Nat) (hx : j < (G.kid x).length) (hy : j < (G.kid y).length) : G.Same (G.kid x)[j] (G.kid y)[j] := by
  intro n
  have h1 := h (n + 1)
  refine ⟨?_, h1.2.1.2 _ (List.getElem_mem hx), h1.2.2.2 _ (List.getElem_mem hy)⟩
  have h2 := h1.1
  simp only [Gr.cut, h.low.1, h.low.2, if_true, Tr.mk.injEq] at h2
  have h3 : ((G.kid x).map (G.cut n))[j]? = ((G.kid y).map (G.cut n))[j]? := by rw [h2.2]
  simpa [hx, hy] using h3

/-- The loop's state: what is of one set, which pairs were joined, which are to be looked at. -/
structure SI {L : Type} (G : Gr L) (rep : Nat → Nat) (J : Nat → Nat → Prop) (st : List (Nat × Nat)) (x0 y0 : Nat) : Prop where
  gen : ∀ f : Nat → Tr L, (∀ x y, J x y → f x = f y) → ∀ x y, rep x = rep y → f x = f y
  endp : ∀ x y, rep x = rep y → x ≠ y → ∃ z, J x z ∨ J z x
  one : ∀ x y, J x y → rep x = rep y ∧ x ≠ y ∧ G.low x = true ∧ G.low y = true ∧ G.lab x = G.lab y ∧ (G.kid x).length = (G.kid y).length
  kids : ∀ x y, J x y → ∀ j (hx : j < (G.kid x).length) (hy : j < (G.kid y).length), (G.kid x)[j] ≠ (G.kid y)[j] ∧ (((G.kid x)[j], (G.kid y)[j]) ∈ st ∨ rep (G.kid x)[j] = rep (G.kid y)[j])
  ask : (x0, y0) ∈ st ∨ rep x0 = rep y0
  all : G.Same x0 y0 → ∀ p q, (p, q) ∈ st → G.Same p q

theorem SI.begin {L : Type} (G : Gr L) (x0 y0 : Nat) : SI G id (fun _ _ => False) [(x0, y0)] x0 y0 :=
  ⟨fun f _ x y h => by rw [show x = y from h], fun x y h hn => absurd h hn, fun _ _ h => h.elim, fun _ _ h => h.elim, .inl (by simp), fun h p q hp => by simp at hp; rw [hp.1, hp.2]; exact h⟩
theorem SI.done {L : Type} {G : Gr L} {rep : Nat → Nat} {J : Nat → Nat → Prop} {x0 y0 : Nat} (h : SI G rep J [] x0 y0) (hne : x0 ≠ y0) : G.Same x0 y0 := by
  have k : ∀ x y, J x y → ∀ j (hx : j < (G.kid x).length) (hy : j < (G.kid y).length), (G.kid x)[j] ≠ (G.kid y)[j] ∧ rep (G.kid x)[j] = rep (G.kid y)[j] := fun x y hj j hx hy => by
    obtain ⟨a, b⟩ := h.kids x y hj j hx hy
    exact ⟨a, by simpa using b⟩
  have h1 : ∀ n x y, rep x = rep y → G.cut n x = G.cut n y := by
    intro n
    induction n with
    | zero => intros; rfl
    | succ n ih =>
      refine h.gen _ fun x y hj => ?_
      obtain ⟨_, _, l1, l2, e1, e2⟩ := h.one x y hj
      simp only [Gr.cut, l1, l2, if_true, e1, Tr.mk.injEq, true_and]
      refine List.ext_getElem (by simpa using e2) fun j hx hy => ?_
      simp only [List.getElem_map]
      exact ih _ _ (k x y hj j (by simpa using hx) (by simpa using hy)).2
  have h2 : ∀ n x y, rep x = rep y → x ≠ y → G.okn n x := by
    intro n
    induction n with
    | zero => intros; trivial
    | succ n ih =>
      intro x y hr hn
      obtain ⟨z, hj | hj⟩ := h.endp x y hr hn
      · obtain ⟨_, _, l1, l2, e1, e2⟩ := h.one _ _ hj
        refine ⟨l1, fun c hc => ?_⟩
        obtain ⟨j, hx, rfl⟩ := List.getElem_of_mem hc
        obtain ⟨a, b⟩ := k _ _ hj j hx (by omega)
        exact ih _ _ b a
      · obtain ⟨_, _, l1, l2, e1, e2⟩ := h.one _ _ hj
        refine ⟨l2, fun c hc => ?_⟩
        obtain ⟨j, hx, rfl⟩ := List.getElem_of_mem hc
        obtain ⟨a, b⟩ := k _ _ hj j (by omega) hx
        exact ih _ _ b.symm (fun e => a e.symm)
  have hr : rep x0 = rep y0 := by simpa using h.ask
  exact fun n => ⟨h1 n _ _ hr, h2 n _ _ hr hne, h2 n _ _ hr.symm (fun e => hne e.symm)⟩
theorem SI.pop {L : Type} {G : Gr L} {rep : Nat → Nat} {J : Nat → Nat → Prop} {st : List (Nat × Nat)} {p q x0 y0 : Nat} (h : SI G rep J (st ++ [(p, q)]) x0 y0) (e : rep p = rep q) : SI G rep J st x0 y0 := by
  have c : ∀ {a b}, (a, b) ∈ st ++ [(p, q)] → (a, b) ∈ st ∨ rep a = rep b := fun {a b} hm => by
    rcases List.mem_append.1 hm with hm | hm
    · exact .inl hm
    · simp at hm
      exact .inr (by rw [hm.1, hm.2, e])
  exact ⟨h.gen, h.endp, h.one, fun x y hj j hx hy => ⟨(h.kids x y hj j hx hy).1, (h.kids x y hj j hx hy).2.elim c .inr⟩, h.ask.elim c .inr, fun hs a b hm => h.all hs a b (by simp [hm])⟩
/-- Two sets become one. -/
def meld (rep : Nat → Nat) (i k : Nat) (x : Nat) : Nat := if rep x = i then k else rep x
theorem SI.join {L : Type} {G : Gr L} {rep : Nat → Nat} {J : Nat → Nat → Prop} {st : List (Nat × Nat)} {p q x0 y0 : Nat} (h : SI G rep J (st ++ [(p, q)]) x0 y0) (e : rep p ≠ rep q)
    (l1 : G.low p = true) (l2 : G.low q = true) (e1 : G.lab p = G.lab q) (e2 : (G.kid p).length = (G.kid q).length) (hn : ∀ j (hx : j < (G.kid p).length) (hy : j < (G.kid q).length), (G.kid p)[j] ≠ (G.kid q)[j]) :
    SI G (meld rep (rep p) (rep q)) (fun x y => J x y ∨ (x = p ∧ y = q)) (st ++ (G.kid p).zip (G.kid q)) x0 y0 := by
  have up : ∀ {a b}, rep a = rep b → meld rep (rep p) (rep q) a = meld rep (rep p) (rep q) b := fun {a b} hr => by simp [meld, hr]
  have pq : meld rep (rep p) (rep q) p = meld rep (rep p) (rep q) q := by simp [meld]
  have c : ∀ {a b}, (a, b) ∈ st ++ [(p, q)] → (a, b) ∈ st ++ (G.kid p).zip (G.kid q) ∨ meld rep (rep p) (rep q) a = meld rep (rep p) (rep q) b := fun {a b} hm => by
    rcases List.mem_append.1 hm with hm | hm
    · exact .inl (by simp [hm])
    · simp at hm
      exact .inr (by rw [hm.1, hm.2, pq])
  have back : ∀ x y, meld rep (rep p) (rep q) x = meld rep (rep p) (rep q) y → rep x = rep y ∨ (rep x = rep p ∧ rep y = rep q) ∨ (rep x = rep q ∧ rep y = rep p) := fun x y hm => by
    simp only [meld] at hm
    split at hm <;> split at hm <;> simp_all
  refine ⟨fun f hf x y hr => ?_, fun x y hr hx => ?_, fun x y hj => ?_, fun x y hj j hx hy => ?_, h.ask.elim c (fun r => .inr (up r)), fun hs a b hm => ?_⟩
  · have g := h.gen f (fun a b hj => hf a b (.inl hj))
    have fpq := hf p q (.inr ⟨rfl, rfl⟩)
    rcases back x y hr with r | ⟨r1, r2⟩ | ⟨r1, r2⟩
    · exact g _ _ r
    · rw [g _ _ r1, g _ _ r2, fpq]
    · rw [g _ _ r1, g _ _ r2, fpq]
  · have sub : ∀ {z}, (∃ t, J z t ∨ J t z) → ∃ t, (J z t ∨ (z = p ∧ t = q)) ∨ (J t z ∨ (t = p ∧ z = q)) := fun {z} ⟨t, ht⟩ => ⟨t, ht.elim (fun a => .inl (.inl a)) (fun a => .inr (.inl a))⟩
    rcases back x y hr with r | ⟨r1, r2⟩ | ⟨r1, r2⟩
    · exact sub (h.endp x y r hx)
    · by_cases hp : x = p
      · exact ⟨q, .inl (.inr ⟨hp, rfl⟩)⟩
      · exact sub (h.endp x p r1 hp)
    · by_cases hq : x = q
      · exact ⟨p, .inr (.inr ⟨rfl, hq⟩)⟩
      · exact sub (h.endp x q r1 hq)
  · rcases hj with hj | ⟨rfl, rfl⟩
    · obtain ⟨a, b⟩ := h.one x y hj
      exact ⟨up a, b⟩
    · exact ⟨pq, fun he => e (by rw [he]), l1, l2, e1, e2⟩
  · rcases hj with hj | ⟨rfl, rfl⟩
    · obtain ⟨a, b⟩ := h.kids x y hj j hx hy
      exact ⟨a, b.elim c (fun r => .inr (up r))⟩
    · refine ⟨hn j hx hy, .inl (List.mem_append.2 (.inr ?_))⟩
      exact List.mem_iff_getElem.2 ⟨j, by simp; omega, by simp⟩
  · rcases List.mem_append.1 hm with hm | hm
    · exact h.all hs a b (by simp [hm])
    · obtain ⟨j, hj, hje⟩ := List.getElem_of_mem hm
      simp only [List.getElem_zip, Prod.mk.injEq] at hje
      simp only [List.length_zip] at hj
      obtain ⟨r1, r2⟩ := hje
      subst r1 r2
      exact (h.all hs p q (by simp)).kid j (by omega) (by omega)
end Go.Proofs.YtipdmmncgenppaaGreatDoor
