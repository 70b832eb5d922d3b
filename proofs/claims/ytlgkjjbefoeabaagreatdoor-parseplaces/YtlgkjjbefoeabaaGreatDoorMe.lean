/-
  Layer 11 (parse), of lists alone: which trees are the same, by depth; the sets that the program keeps.
  Layer 11 (parse), of lists alone: sets of numbers, each with a way to its own number.
  Layer 11 (parse): the program's sets.
  Layer 11 (parse): nodes as an argument, whole; the program's looksSame.
  The document's layer 11: class: which of the forms a node has.
  Layer 11 (parse): the two lists' nodes as one graph; the pairs that the program's Same keeps.
  Layer 11 (parse), of lists alone: the document's classes of nodes tell which trees are the same.
  The document's layer 11: classify, of lists alone: which classes the nodes so far have.
-/
import Derived.Test.YtlgkjjbefoeabaaGreatDoorMc
namespace Go.Proofs.YtlgkjjbefoeabaaGreatDoor

/-- Nodes: a label, Kids, and whether these are all lower. -/
structure Gr (L : Type) where
  lab : Nat → L
  kid : Nat → List Nat
  low : Nat → Bool
inductive Tr (L : Type) where
  | stub
  | bad
  | mk (l : L) (kids : List (Tr L))
/-- A node's tree, down to a depth. -/
def Gr.cut {L : Type} (G : Gr L) : Nat → Nat → Tr L
  | 0, _ => .stub
  | n + 1, x => if G.low x then .mk (G.lab x) ((G.kid x).map (G.cut n)) else .bad
/-- All Kids are lower, down to a depth. -/
def Gr.okn {L : Type} (G : Gr L) : Nat → Nat → Prop
  | 0, _ => True
  | n + 1, x => G.low x = true ∧ ∀ k ∈ G.kid x, G.okn n k
/-- The same but for places. -/
def Gr.Same {L : Type} (G : Gr L) (x y : Nat) : Prop := ∀ n, G.cut n x = G.cut n y ∧ G.okn n x ∧ G.okn n y

theorem Gr.Same.low {L : Type} {G : Gr L} {x y : Nat} (h : G.Same x y) : G.low x = true ∧ G.low y = true := ⟨(h 1).2.1.1, (h 1).2.2.1⟩
theorem Gr.Same.lab {L : Type} {G : Gr L} {x y : Nat} (h : G.Same x y) : G.lab x = G.lab y ∧ (G.kid x).length = (G.kid y).length := by
  have h1 := (h 1).1
  simp only [Gr.cut, h.low.1, h.low.2, if_true, Tr.mk.injEq] at h1
  exact ⟨h1.1, by simpa using congrArg List.length h1.2⟩
theorem Gr.Same.kid {L : Type} {G : Gr L} {x y : Nat} (h : G.Same x y) (j : Nat) (hx : j < (G.kid x).length) (hy : j < (G.kid y).length) : G.Same (G.kid x)[j] (G.kid y)[j] := by
  intro n
  have h1 := h (n + 1)
  refine ⟨?_, h1.2.1.2 _ (List.getElem_mem hx), h1.2.2.2 _ (List.getElem_mem hy)⟩
  have h2 := h1.1
  simp only [Gr.cut, h.low.1, h.low.2, if_true, Tr.mk.injEq] at h2
  have h3 : ((G.kid x).map (G.cut n))[j]? = ((G.kid y).map (G.cut n))[j]? := by rw [h2.2]
  simpa [hx, hy] using h3

/-- The loop's state: what is of one set, which pairs were joined, which are to be looked at. -/
structure SI {L : Type} (G : Gr L) (rep : Nat → Nat) (J : Nat → Nat → Prop) (st : List (Nat × Nat)) (x0 y0 : Nat) : Prop where
  gen : ∀ f : Nat → Tr L, (∀ x y, J x y → f x = f y) → ∀ x y, rep x = rep y → f x = f y
  endp : ∀ x y, rep x = rep y → x ≠ y → ∃ z, J x z ∨ J z x
  one : ∀ x y, J x y → rep x = rep y ∧ x ≠ y ∧ G.low x = true ∧ G.low y = true ∧ G.lab x = G.lab y ∧ (G.kid x).length = (G.kid y).length
  kids : ∀ x y, J x y → ∀ j (hx : j < (G.kid x).length) (hy : j < (G.kid y).length), (G.kid x)[j] ≠ (G.kid y)[j] ∧ (((G.kid x)[j], (G.kid y)[j]) ∈ st ∨ rep (G.kid x)[j] = rep (G.kid y)[j])
  ask : (x0, y0) ∈ st ∨ rep x0 = rep y0
  all : G.Same x0 y0 → ∀ p q, (p, q) ∈ st → G.Same p q

theorem SI.begin {L : Type} (G : Gr L) (x0 y0 : Nat) : SI G id (fun _ _ => False) [(x0, y0)] x0 y0 :=
  ⟨fun f _ x y h => by rw [show x = y from h], fun x y h hn => absurd h hn, fun _ _ h => h.elim, fun _ _ h => h.elim, .inl (by simp), fun h p q hp => by simp at hp; rw [hp.1, hp.2]; exact h⟩
theorem SI.done {L : Type} {G : Gr L} {rep : Nat → Nat} {J : Nat → Nat → Prop} {x0 y0 : Nat} (h : SI G rep J [] x0 y0) (hne : x0 ≠ y0) : G.Same x0 y0 := by
  have k : ∀ x y, J x y → ∀ j (hx : j < (G.kid x).length) (hy : j < (G.kid y).length), (G.kid x)[j] ≠ (G.kid y)[j] ∧ rep (G.kid x)[j] = rep (G.kid y)[j] := fun x y hj j hx hy => by
    obtain ⟨a, b⟩ := h.kids x y hj j hx hy
    exact ⟨a, by simpa using b⟩
  have h1 : ∀ n x y, rep x = rep y → G.cut n x = G.cut n y := by
    intro n
    induction n with
    | zero => intros; rfl
    | succ n ih =>
      refine h.gen _ fun x y hj => ?_
      obtain ⟨_, _, l1, l2, e1, e2⟩ := h.one x y hj
      simp only [Gr.cut, l1, l2, if_true, e1, Tr.mk.injEq, true_and]
      refine List.ext_getElem (by simpa using e2) fun j hx hy => ?_
      simp only [List.getElem_map]
      exact ih _ _ (k x y hj j (by simpa using hx) (by simpa using hy)).2
  have h2 : ∀ n x y, rep x = rep y → x ≠ y → G.okn n x := by
    intro n
    induction n with
    | zero => intros; trivial
    | succ n ih =>
      intro x y hr hn
      obtain ⟨z, hj | hj⟩ := h.endp x y hr hn
      · obtain ⟨_, _, l1, l2, e1, e2⟩ := h.one _ _ hj
        refine ⟨l1, fun c hc => ?_⟩
        obtain ⟨j, hx, rfl⟩ := List.getElem_of_mem hc
        obtain ⟨a, b⟩ := k _ _ hj j hx (by omega)
        exact ih _ _ b a
      · obtain ⟨_, _, l1, l2, e1, e2⟩ := h.one _ _ hj
        refine ⟨l2, fun c hc => ?_⟩
        obtain ⟨j, hx, rfl⟩ := List.getElem_of_mem hc
        obtain ⟨a, b⟩ := k _ _ hj j (by omega) hx
        exact ih _ _ b.symm (fun e => a e.symm)
  have hr : rep x0 = rep y0 := by simpa using h.ask
  exact fun n => ⟨h1 n _ _ hr, h2 n _ _ hr hne, h2 n _ _ hr.symm (fun e => hne e.symm)⟩
theorem SI.pop {L : Type} {G : Gr L} {rep : Nat → Nat} {J : Nat → Nat → Prop} {st : List (Nat × Nat)} {p q x0 y0 : Nat} (h : SI G rep J (st ++ [(p, q)]) x0 y0) (e : rep p = rep q) : SI G rep J st x0 y0 := by
  have c : ∀ {a b}, (a, b) ∈ st ++ [(p, q)] → (a, b) ∈ st ∨ rep a = rep b := fun {a b} hm => by
    rcases List.mem_append.1 hm with hm | hm
    · exact .inl hm
    · simp at hm
      exact .inr (by rw [hm.1, hm.2, e])
  exact ⟨h.gen, h.endp, h.one, fun x y hj j hx hy => ⟨(h.kids x y hj j hx hy).1, (h.kids x y hj j hx hy).2.elim c .inr⟩, h.ask.elim c .inr, fun hs a b hm => h.all hs a b (by simp [hm])⟩
/-- Two sets become one. -/
def meld (rep : Nat → Nat) (i k : Nat) (x : Nat) : Nat := if rep x = i then k else rep x
theorem SI.join {L : Type} {G : Gr L} {rep : Nat → Nat} {J : Nat → Nat → Prop} {st : List (Nat × Nat)} {p q x0 y0 : Nat} (h : SI G rep J (st ++ [(p, q)]) x0 y0) (e : rep p ≠ rep q)
    (l1 : G.low p = true) (l2 : G.low q = true) (e1 : G.lab p = G.lab q) (e2 : (G.kid p).length = (G.kid q).length) (hn : ∀ j (hx : j < (G.kid p).length) (hy : j < (G.kid q).length), (G.kid p)[j] ≠ (G.kid q)[j]) :
    SI G (meld rep (rep p) (rep q)) (fun x y => J x y ∨ (x = p ∧ y = q)) (st ++ (G.kid p).zip (G.kid q)) x0 y0 := by
  have up : ∀ {a b}, rep a = rep b → meld rep (rep p) (rep q) a = meld rep (rep p) (rep q) b := fun {a b} hr => by simp [meld, hr]
  have pq : meld rep (rep p) (rep q) p = meld rep (rep p) (rep q) q := by simp [meld]
  have c : ∀ {a b}, (a, b) ∈ st ++ [(p, q)] → (a, b) ∈ st ++ (G.kid p).zip (G.kid q) ∨ meld rep (rep p) (rep q) a = meld rep (rep p) (rep q) b := fun {a b} hm => by
    rcases List.mem_append.1 hm with hm | hm
    · exact .inl (by simp [hm])
    · simp at hm
      exact .inr (by rw [hm.1, hm.2, pq])
  have back : ∀ x y, meld rep (rep p) (rep q) x = meld rep (rep p) (rep q) y → rep x = rep y ∨ (rep x = rep p ∧ rep y = rep q) ∨ (rep x = rep q ∧ rep y = rep p) := fun x y hm => by
    simp only [meld] at hm
    split at hm <;> split at hm <;> simp_all
  refine ⟨fun f hf x y hr => ?_, fun x y hr hx => ?_, fun x y hj => ?_, fun x y hj j hx hy => ?_, h.ask.elim c (fun r => .inr (up r)), fun hs a b hm => ?_⟩
  · have g := h.gen f (fun a b hj => hf a b (.inl hj))
    have fpq := hf p q (.inr ⟨rfl, rfl⟩)
    rcases back x y hr with r | ⟨r1, r2⟩ | ⟨r1, r2⟩
    · exact g _ _ r
    · rw [g _ _ r1, g _ _ r2, fpq]
    · rw [g _ _ r1, g _ _ r2, fpq]
  · have sub : ∀ {z}, (∃ t, J z t ∨ J t z) → ∃ t, (J z t ∨ (z = p ∧ t = q)) ∨ (J t z ∨ (t = p ∧ z = q)) := fun {z} ⟨t, ht⟩ => ⟨t, ht.elim (fun a => .inl (.inl a)) (fun a => .inr (.inl a))⟩
    rcases back x y hr with r | ⟨r1, r2⟩ | ⟨r1, r2⟩
    · exact sub (h.endp x y r hx)
    · by_cases hp : x = p
      · exact ⟨q, .inl (.inr ⟨hp, rfl⟩)⟩
      · exact sub (h.endp x p r1 hp)
    · by_cases hq : x = q
      · exact ⟨p, .inr (.inr ⟨rfl, hq⟩)⟩
      · exact sub (h.endp x q r1 hq)
  · rcases hj with hj | ⟨rfl, rfl⟩
    · obtain ⟨a, b⟩ := h.one x y hj
      exact ⟨up a, b⟩
    · exact ⟨pq, fun he => e (by rw [he]), l1, l2, e1, e2⟩
  · rcases hj with hj | ⟨rfl, rfl⟩
    · obtain ⟨a, b⟩ := h.kids x y hj j hx hy
      exact ⟨a, b.elim c (fun r => .inr (up r))⟩
    · refine ⟨hn j hx hy, .inl (List.mem_append.2 (.inr ?_))⟩
      exact List.mem_iff_getElem.2 ⟨j, by simp; omega, by simp⟩
  · rcases List.mem_append.1 hm with hm | hm
    · exact h.all hs a b (by simp [hm])
    · obtain ⟨j, hj, hje⟩ := List.getElem_of_mem hm
      simp only [List.getElem_zip, Prod.mk.injEq] at hje
      simp only [List.length_zip] at hj
      obtain ⟨r1, r2⟩ := hje
      subst r1 r2
      exact (h.all hs p q (by simp)).kid j (by omega) (by omega)
end Go.Proofs.YtlgkjjbefoeabaaGreatDoor
namespace Go.Proofs.YtlgkjjbefoeabaaGreatDoor

/-- Ways that end: what stands at a number is nearer to its set's own. -/
structure UF (n : Nat) (s : Nat → Nat) (rep dep : Nat → Nat) : Prop where
  lt : ∀ x, x < n → s x < n
  rlt : ∀ x, x < n → rep x < n
  step : ∀ x, x < n → rep (s x) = rep x
  root : ∀ x, x < n → s x = x → rep x = x
  top : ∀ x, x < n → s (rep x) = rep x
  far : ∀ x, x < n → s x ≠ x → dep (s x) < dep x
def put (s : Nat → Nat) (i v : Nat) (x : Nat) : Nat := if x = i then v else s x
theorem put_same (s : Nat → Nat) (i v : Nat) : put s i v i = v := by simp [put]
theorem put_other (s : Nat → Nat) (i v : Nat) {x : Nat} (h : x ≠ i) : put s i v x = s x := by simp [put, h]
theorem UF.begin (n : Nat) : UF n id id (fun _ => 0) := ⟨fun _ h => h, fun _ h => h, fun _ _ => rfl, fun _ _ _ => rfl, fun _ _ => rfl, fun _ _ h => absurd rfl h⟩
theorem UF.rr {n : Nat} {s rep dep : Nat → Nat} (h : UF n s rep dep) {x : Nat} (hx : x < n) : rep (rep x) = rep x := h.root _ (h.rlt x hx) (h.top x hx)
/-- The way is made shorter. -/
theorem UF.half {n : Nat} {s rep dep : Nat → Nat} (h : UF n s rep dep) {i : Nat} (hi : i < n) (hn : s i ≠ i) : UF n (put s i (s (s i))) rep dep := by
  have a := h.lt i hi
  refine ⟨fun x hx => ?_, h.rlt, fun x hx => ?_, fun x hx hs => ?_, fun x hx => ?_, fun x hx hs => ?_⟩
  · by_cases e : x = i
    · subst e; rw [put_same]; exact h.lt _ a
    · rw [put_other _ _ _ e]; exact h.lt x hx
  · by_cases e : x = i
    · subst e; rw [put_same, h.step _ a, h.step _ hx]
    · rw [put_other _ _ _ e]; exact h.step x hx
  · by_cases e : x = i
    · subst e
      rw [put_same] at hs
      exfalso
      have d1 := h.far x hx hn
      by_cases e2 : s (s x) = s x
      · exact hn (e2 ▸ hs)
      · have d2 := h.far (s x) a e2
        rw [hs] at d2
        omega
    · rw [put_other _ _ _ e] at hs; exact h.root x hx hs
  · by_cases e : rep x = i
    · exact absurd (e ▸ h.top x hx) hn
    · rw [put_other _ _ _ e]; exact h.top x hx
  · by_cases e : x = i
    · subst e
      rw [put_same]
      have d1 := h.far x hx hn
      by_cases e2 : s (s x) = s x
      · rw [e2]; exact d1
      · have d2 := h.far (s x) a e2
        omega
    · rw [put_other _ _ _ e] at hs ⊢; exact h.far x hx hs
/-- Two sets become one. -/
theorem UF.link {n : Nat} {s rep dep : Nat → Nat} (h : UF n s rep dep) {i k : Nat} (hi : i < n) (hk : k < n) (ri : rep i = i) (rk : rep k = k) (hne : i ≠ k) :
    UF n (put s i k) (meld rep i k) (fun x => if rep x = i then dep x + dep k + 1 else dep x) := by
  have ti : s i = i := by have := h.top i hi; rwa [ri] at this
  have tk : s k = k := by have := h.top k hk; rwa [rk] at this
  have mk : meld rep i k k = k := by simp [meld, rk]; 
  refine ⟨fun x hx => ?_, fun x hx => ?_, fun x hx => ?_, fun x hx hs => ?_, fun x hx => ?_, fun x hx hs => ?_⟩
  · by_cases e : x = i
    · subst e; rw [put_same]; exact hk
    · rw [put_other _ _ _ e]; exact h.lt x hx
  · simp only [meld]; split
    · exact hk
    · exact h.rlt x hx
  · by_cases e : x = i
    · subst e; rw [put_same, mk]; simp [meld, ri]
    · rw [put_other _ _ _ e]; simp only [meld, h.step x hx]
  · by_cases e : x = i
    · subst e; rw [put_same] at hs; exact absurd hs.symm hne
    · rw [put_other _ _ _ e] at hs
      have := h.root x hx hs
      simp only [meld, this, e, if_false]
  · simp only [meld]
    split
    · rw [put_other _ _ _ (fun e => hne e.symm), tk]
    · rename_i e
      rw [put_other _ _ _ e]; exact h.top x hx
  · by_cases e : x = i
    · subst e
      rw [put_same]
      simp only [ri, rk, if_true, if_neg (Ne.symm hne)]
      omega
    · rw [put_other _ _ _ e] at hs ⊢
      have d := h.far x hx hs
      simp only [h.step x hx]
      split <;> omega
/-- How many sets there are. -/
def sets (n : Nat) (rep : Nat → Nat) : Nat := ((List.range n).filter (fun x => rep x == x)).length
theorem filter_le_of {p q : Nat → Bool} (h : ∀ x, p x = true → q x = true) : ∀ l : List Nat, (l.filter p).length ≤ (l.filter q).length
  | [] => Nat.le_refl _
  | x :: r => by
    have := filter_le_of h r
    have hx := h x
    cases hp : p x <;> cases hq : q x <;> simp_all [List.filter] <;> omega
theorem filter_lt_of {p q : Nat → Bool} (h : ∀ x, p x = true → q x = true) {i : Nat} (h1 : p i = false) (h2 : q i = true) : ∀ l : List Nat, i ∈ l → (l.filter p).length < (l.filter q).length
  | [], hi => by cases hi
  | x :: r, hi => by
    have hle := filter_le_of h r
    rcases List.mem_cons.1 hi with rfl | hi
    · simp [List.filter, h1, h2]; omega
    · have := filter_lt_of h h1 h2 r hi
      have hx := h x
      cases hp : p x <;> cases hq : q x <;> simp_all [List.filter] <;> omega
theorem sets_le (n : Nat) (rep : Nat → Nat) : sets n rep ≤ n := by
  have := List.length_filter_le (fun x => rep x == x) (List.range n)
  simpa [sets] using this
theorem sets_meld {n : Nat} {rep : Nat → Nat} {i k : Nat} (hi : i < n) (ri : rep i = i) (rk : rep k = k) (hne : i ≠ k) : sets n (meld rep i k) < sets n rep := by
  refine filter_lt_of (i := i) (fun x hx => ?_) ?_ ?_ _ (List.mem_range.2 hi)
  · simp only [beq_iff_eq, meld] at hx ⊢
    split at hx
    · subst hx; exact rk
    · exact hx
  · simp [meld, ri]; exact fun e => hne e.symm
  · simp [ri]
end Go.Proofs.YtlgkjjbefoeabaaGreatDoor
namespace Go.Proofs.YtlgkjjbefoeabaaGreatDoor
open Go.RowKit

end Go.Proofs.YtlgkjjbefoeabaaGreatDoor
namespace Go.Proofs.YtlgkjjbefoeabaaGreatDoor
open Go.RowKit

/-- Nodes as an argument. -/
def NdArg (w : World) (v : Value) (N : List Nd) : Prop := (∃ a cap, v = .slice a 0 cap ∧ N = []) ∨ ∃ b off cap, v = .slice (some ⟨b, off, none⟩) N.length cap ∧ ∀ j (h : j < N.length), (∀ q, q < 6 → w.cell? ⟨b, off + j * 6 + q, none⟩ = N[j].cells[q]?) ∧ SlA w N[j].kv N[j].kids
theorem NdArg.form {w : World} {v : Value} {N : List Nd} (h : NdArg w v N) : ∃ a cap, v = .slice a N.length cap := by
  rcases h with ⟨a, cap, rfl, rfl⟩ | ⟨b, off, cap, rfl, _⟩
  · exact ⟨a, cap, rfl⟩
  · exact ⟨_, cap, rfl⟩
theorem NdArg.below {w w' : World} {v : Value} {N : List Nd} (h : NdArg w v N) (hb : Below w.heap.size w w') : NdArg w' v N := by
  rcases h with h | ⟨b, off, cap, rfl, hc⟩
  · exact .inl h
  · refine .inr ⟨b, off, cap, rfl, fun j hj => ⟨fun q hq => ?_, (hc j hj).2.below hb⟩⟩
    have h0 := (hc j hj).1 q hq
    have hq6 : q < N[j].cells.length := hq
    rw [List.getElem?_eq_getElem hq6] at h0 ⊢
    exact (hb.cell (p := ⟨b, off + j * 6 + q, none⟩) (World.block_lt_of_cell? w _ h0)).trans h0
theorem NdArg.arg {w : World} {v : Value} {N : List Nd} (h : NdArg w v N) : NArg w v (kvs N) := by
  rcases h with ⟨a, cap, rfl, rfl⟩ | ⟨b, off, cap, rfl, hc⟩
  · exact .inl ⟨a, cap, rfl, rfl⟩
  · refine .inr ⟨b, off, cap, by rw [kvs_length], fun j hj => ?_⟩
    have hj' : j < N.length := by simpa [kvs] using hj
    simp only [kvs, List.getElem_map]
    exact ⟨(hc j hj').1 4 (by decide), (hc j hj').2⟩
theorem NdArg.at {w : World} {a : Option Addr} {cap : Nat} {N : List Nd} (h : NdArg w (.slice a N.length cap) N) (j : Nat) (hj : j < N.length) : ∃ b off, a = some ⟨b, off, none⟩ ∧ w.cell? ⟨b, off + j * 6, none⟩ = some (.int .i64 N[j].kind) ∧ w.cell? ⟨b, off + j * 6 + 1, none⟩ = some (.string N[j].text) ∧ w.cell? ⟨b, off + j * 6 + 2, none⟩ = some (.string N[j].mod) ∧ w.cell? ⟨b, off + j * 6 + 3, none⟩ = some (.int .i64 N[j].num) ∧ w.cell? ⟨b, off + j * 6 + 4, none⟩ = some N[j].kv ∧ w.cell? ⟨b, off + j * 6 + 5, none⟩ = some (.int .i64 N[j].at_) ∧ SlA w N[j].kv N[j].kids := by
  rcases h with ⟨a', cap', _, rfl⟩ | ⟨b, off, cap', e, hc⟩
  · simp at hj
  · simp only [Value.slice.injEq, true_and] at e
    obtain ⟨c, s⟩ := hc j hj
    exact ⟨b, off, e.1, c 0 (by decide), c 1 (by decide), c 2 (by decide), c 3 (by decide), c 4 (by decide), c 5 (by decide), s⟩
/-- Are two nodes the same, but for what their Kids are? -/
def lookB (x y : Nd) : Bool := decide (x.kind = y.kind ∧ x.text.toList = y.text.toList ∧ x.mod.toList = y.mod.toList ∧ x.num = y.num ∧ x.kids.length = y.kids.length)
end Go.Proofs.YtlgkjjbefoeabaaGreatDoor
namespace Go.Proofs.YtlgkjjbefoeabaaGreatDoor
open Go.RowKit

/-- Are two forms one? -/
def formB (x f : Nd) : Bool := lookB x f && decide (x.kids = f.kids)
theorem NodesAt.all {w : World} {Nv : Value} {N : List Nd} (h : NodesAt w Nv N) (j : Nat) (hj : j < N.length) : ∃ b off cap, Nv = .slice (some ⟨b, off, none⟩) N.length cap ∧ ∀ q, q < 6 → w.cell? ⟨b, off + j * 6 + q, none⟩ = N[j].cells[q]? := by
  obtain ⟨b, off, cap, e, _, _, hc⟩ := h.own.sl.at j hj
  exact ⟨b, off, cap, e, fun q hq => (hc q hq).1.trans (nds_get N j hj q hq)⟩
/-- A node that was laid into a block of its own. -/
structure Bx (w wr : World) (f : Nd) : Prop where
  bel : Below w.heap.size w wr
  box : ∀ q, q < 6 → wr.cell? ⟨w.heap.size, q, none⟩ = f.cells[q]?
theorem Bx.lt {w wr : World} {f : Nd} (h : Bx w wr f) : w.heap.size < wr.heap.size := World.block_lt_of_cell? wr _ (h.box 0 (by decide))
theorem Bx.below {w wr w' : World} {f : Nd} (h : Bx w wr f) (hb : Below wr.heap.size wr w') : Bx w w' f := by
  refine ⟨h.bel.trans (hb.mono h.bel.size), fun q hq => ?_⟩
  have hq6 : q < f.cells.length := hq
  have h0 := h.box q hq
  rw [List.getElem?_eq_getElem hq6] at h0 ⊢
  exact (hb.cell (p := ⟨w.heap.size, q, none⟩) h.lt).trans h0
theorem Bx.new (w : World) (f : Nd) (t : TypeId) : Bx w (w.alloc (.cells #[.int .i64 f.kind, .string f.text, .string f.mod, .int .i64 f.num, f.kv, .int .i64 f.at_] t)) f := by
  refine ⟨Below.alloc0 w _, fun q hq => ?_⟩
  match q, hq with
  | 0, _ => simp [Nd.cells]
  | 1, _ => simp [Nd.cells]
  | 2, _ => simp [Nd.cells]
  | 3, _ => simp [Nd.cells]
  | 4, _ => simp [Nd.cells]
  | 5, _ => simp [Nd.cells]
theorem take_step {l m : List Int} {k : Nat} (h1 : k < l.length) (h2 : k < m.length) (h : l.take k = m.take k) (e : l[k] = m[k]) : l.take (k + 1) = m.take (k + 1) := by
  rw [List.take_succ_eq_append_getElem h1, List.take_succ_eq_append_getElem h2, h, e]
/-- Forms in memory. -/
structure FmAt (w : World) (Fv : Value) (F : List Nd) : Prop where
  nodes : NodesAt w Fv F
  klt : ∀ j (h : j < F.length) k, blk F[j].kv k → k < w.heap.size
theorem FmAt.turned {S : Nat → Prop} {w w' : World} {Fv : Value} {F : List Nd} (h : FmAt w Fv F) (T : Turned S w w') (hn : ∀ k, blk Fv k → ¬ S k) (hk : ∀ j (h : j < F.length) k, blk F[j].kv k → ¬ S k) : FmAt w' Fv F :=
  ⟨h.nodes.turned T hn hk, fun j hj k hb => Nat.lt_of_lt_of_le (h.klt j hj k hb) T.size⟩
theorem FmAt.below {w w' : World} {Fv : Value} {F : List Nd} (h : FmAt w Fv F) (hb : Below w.heap.size w w') : FmAt w' Fv F := h.turned (Turned.ofBelow (S := fun _ => False) hb) (fun _ _ e => e) (fun _ _ _ _ e => e)
theorem FmAt.snoc {w w2 w4 : World} {Fv V4 : Value} {F : List Nd} {f : Nd} (h : FmAt w Fv F) (hk : SlI w f.kv f.kids) (hk1 : ∀ k, blk f.kv k → ¬ blk Fv k ∧ k < w.heap.size) (hb : Below w.heap.size w w2) (ho : OwnK 6 w4 V4 (F.length + 1) (nds F ++ f.cells)) (T : Turned (blk Fv) w2 w4) (hv : ∀ q, blk V4 q → blk Fv q ∨ q = w2.heap.size) :
    FmAt w4 V4 (F ++ [f]) ∧ Turned (blk Fv) w w4 ∧ ∀ k, blk V4 k → blk Fv k ∨ w.heap.size ≤ k := by
  have hz := hb.size
  have T2 : Turned (blk Fv) w w4 := (Turned.ofBelow (S := blk Fv) hb).trans T (fun _ e => .inl e)
  have hz2 := T2.size
  have hnd : ∀ j (hj : j < (F ++ [f]).length), SlI w (F ++ [f])[j].kv (F ++ [f])[j].kids ∧ ∀ k, blk (F ++ [f])[j].kv k → ¬ blk Fv k ∧ k < w.heap.size := fun j hj => by
    by_cases hjn : j < F.length
    · rw [List.getElem_append_left hjn]
      exact ⟨h.nodes.kid j hjn, fun k hk => ⟨h.nodes.off j hjn k hk, h.klt j hjn k hk⟩⟩
    · have e : j = F.length := by simp at hj; omega
      subst e
      simp only [List.getElem_append_right (Nat.le_refl _), Nat.sub_self, List.getElem_cons_zero]
      exact ⟨hk, hk1⟩
  refine ⟨⟨⟨?_, fun j hj => SlK.turned (hnd j hj).1 T2 (fun k hk => ((hnd j hj).2 k hk).1), fun j hj k hk e => (hv k e).elim ((hnd j hj).2 k hk).1 (fun e => by have := ((hnd j hj).2 k hk).2; omega)⟩, fun j hj k hk => Nat.lt_of_lt_of_le ((hnd j hj).2 k hk).2 hz2⟩, T2, fun k e => (hv k e).elim .inl (fun e => .inr (by omega))⟩
  rw [nds_snoc]
  simpa using ho
/-- What class tells. -/
def ClassTold (w : World) (Fv : Value) (F : List Nd) (f : Nd) (x : Ending) (w' : World) : Prop :=
  (∃ j, ∃ h : j < F.length, formB F[j] f = true ∧ x = .returned (.tuple #[.int .i64 (j : Nat), Fv]) ∧ Below w.heap.size w w') ∨
  ((∀ j (h : j < F.length), formB F[j] f = false) ∧ ∃ Fv', x = .returned (.tuple #[.int .i64 (F.length : Nat), Fv']) ∧ FmAt w' Fv' (F ++ [f]) ∧ Turned (blk Fv) w w' ∧ ∀ k, blk Fv' k → blk Fv k ∨ w.heap.size ≤ k)
set_option maxRecDepth 100000 in
set_option maxHeartbeats 6400000 in
theorem ref_class {w : World} {Fv : Value} {F : List Nd} {f : Nd} (hF : FmAt w Fv F) (hk : SlI w f.kv f.kids) (hk1 : ∀ k, blk f.kv k → ¬ blk Fv k ∧ k < w.heap.size) (hl : F.length ≤ 16777216) (hfk : f.kids.length ≤ 16777216) :
    Calls Tryz.prog 83 #[Fv, f.val] w (ClassTold w Fv F f) := by
  obtain ⟨aK, cK, hkv⟩ := SlI.form hk
  obtain ⟨aF, cF, hFv, _⟩ := hF.nodes.own.sl.form
  have HF := Hid.mk7 (And.intro hF (And.intro hk hk1))
  have HL := Hid.mk7 (And.intro hl hfk)
  clear hF hk hk1 hl hfk
  subst hFv
  obtain ⟨nk, nt, nm, nn, kv, kids, na⟩ := f
  simp only at hkv
  subst hkv
  simp only [Nd.val]
  go_enter Tryz.func83, Tryz.ntmps83
  go_wp2_with fail
  go_loopw [6] (fun ix wr => ∃ j : Nat, j ≤ F.length ∧ ix = .int .i64 j ∧ (∀ t (h : t < F.length), t < j → formB F[t] ⟨nk, nt, nm, nn, .slice aK kids.length cK, kids, na⟩ = false) ∧ Bx w wr ⟨nk, nt, nm, nn, .slice aK kids.length cK, kids, na⟩) (fun ix _ => F.length - (intOf ix).toNat)
  case atStart => exact ⟨0, Nat.zero_le _, rfl, fun t _ h => absurd h (Nat.not_lt_zero t), Bx.new w ⟨nk, nt, nm, nn, .slice aK kids.length cK, kids, na⟩ _⟩
  case round =>
    obtain ⟨j, hj, rfl, hno, hB⟩ := hrel
    by_cases hlt : j < F.length
    · have hji : (j : Int) < (F.length : Int) := by omega
      have hFl : (F.length : Int) ≤ 16777216 := by have := HL.out.1; omega
      obtain ⟨bF, oF, cF', eF, hc⟩ := (HF.out.1.nodes.below hB.bel).all j hlt
      simp only [Value.slice.injEq, true_and] at eF
      obtain ⟨rfl, rfl⟩ := eF
      obtain ⟨aX, cX, hkx⟩ := SlI.form (HF.out.1.nodes.kid j hlt)
      have x0 := hc 0 (by decide)
      have x1 := hc 1 (by decide)
      have x2 := hc 2 (by decide)
      have x3 := hc 3 (by decide)
      have x4 := hc 4 (by decide)
      have x5 := hc 5 (by decide)
      have y0 := hB.box 0 (by decide)
      have y1 := hB.box 1 (by decide)
      have y2 := hB.box 2 (by decide)
      have y3 := hB.box 3 (by decide)
      have y4 := hB.box 4 (by decide)
      have y5 := hB.box 5 (by decide)
      simp only [Nd.cells, List.getElem?_cons_zero, List.getElem?_cons_succ, Nat.add_zero] at x0 x1 x2 x3 x4 x5 y0 y1 y2 y3 y4 y5
      rw [hkx] at x4
      have hwlt := hB.lt
      have HN := Hid.mk7 (And.intro hno hB)
      clear hno hB hc
      have hcase : (lookB F[j] ⟨nk, nt, nm, nn, .slice aK kids.length cK, kids, na⟩ = true ∧ F[j].kind = nk ∧ F[j].text.toList = nt.toList ∧ F[j].mod.toList = nm.toList ∧ F[j].num = nn ∧ (F[j].kids.length : Int) = (kids.length : Int)) ∨ (lookB F[j] ⟨nk, nt, nm, nn, .slice aK kids.length cK, kids, na⟩ = false ∧ (¬ F[j].kind = nk ∨ (F[j].kind = nk ∧ ¬ F[j].text.toList = nt.toList) ∨ (F[j].kind = nk ∧ F[j].text.toList = nt.toList ∧ ¬ F[j].mod.toList = nm.toList) ∨ (F[j].kind = nk ∧ F[j].text.toList = nt.toList ∧ F[j].mod.toList = nm.toList ∧ ¬ F[j].num = nn) ∨ (F[j].kind = nk ∧ F[j].text.toList = nt.toList ∧ F[j].mod.toList = nm.toList ∧ F[j].num = nn ∧ ¬ (F[j].kids.length : Int) = (kids.length : Int)))) := by
        unfold lookB
        by_cases e1 : F[j].kind = nk <;> by_cases e2 : F[j].text.toList = nt.toList <;> by_cases e3 : F[j].mod.toList = nm.toList <;> by_cases e4 : F[j].num = nn <;> by_cases e5 : (F[j].kids.length : Int) = (kids.length : Int) <;> simp [e1, e2, e3, e4, e5] <;> omega
      have HM := Hid.mk7 (And.intro hkx (HF.out.1.nodes.kid j hlt))
      clear hkx
      rcases hcase with ⟨hlk, e1, e2, e3, e4, e5⟩ | ⟨hlk, hcs⟩
      · have HK := Hid.mk7 hlk
        clear hlk
        have hlen : F[j].kids.length = kids.length := by omega
        rw [hlen] at x4
        have hkl : (kids.length : Int) ≤ 16777216 := by have := HL.out.2; omega
        have HE := Hid.mk7 hlen
        clear hlen e5
        go_wp2_with fail
        go_loopw [8, 9] (fun sv ix wr2 => ∃ (k : Nat) (b : Bool), k ≤ kids.length ∧ ix = .int .i64 k ∧ sv = .bool b ∧ (b = true → F[j].kids.take k = kids.take k) ∧ (b = false → ¬ F[j].kids = kids) ∧ Bx wr wr2 ⟨nk, F[j].text, F[j].mod, nn, .slice aX kids.length cX, F[j].kids, F[j].at_⟩) (fun _ ix _ => kids.length - (intOf ix).toNat)
        case atStart => exact ⟨0, true, Nat.zero_le _, rfl, rfl, fun _ => by (simp), fun h => by (cases h), Bx.new wr ⟨nk, F[j].text, F[j].mod, nn, .slice aX kids.length cX, F[j].kids, F[j].at_⟩ _⟩
        case round =>
          clear x0 x1 x2 x3 x4 x5 y0 y1 y2 y3 y4 y5 e1 e2 e3 e4
          obtain ⟨k, b, hk, rfl, rfl, ht, hf, hB2⟩ := hrel
          have hBf := HN.out.2.below hB2.bel
          have z4 := hB2.box 4 (by decide)
          have y4 := hBf.box 4 (by decide)
          simp only [Nd.cells, List.getElem?_cons_zero, List.getElem?_cons_succ] at z4 y4
          cases b with
          | false =>
            have H2 := Hid.mk7 (And.intro (hf rfl) hBf)
            clear ht hf hBf hB2
            go_wp2
            go_roundw
            case rel =>
              refine ⟨j + 1, by omega, by go_num, fun t ht htj => ?_, H2.out.2⟩
              by_cases e : t = j
              · subst e; unfold formB; rw [HK.out]; simpa using H2.out.1
              · exact HN.out.1 t ht (by omega)
            case measure => simp [intOf]; omega
          | true =>
            by_cases hkk : k < kids.length
            · have hkki : (k : Int) < (kids.length : Int) := by omega
              have hkx : k < F[j].kids.length := by rw [HE.out]; exact hkk
              have hkx1 := HM.out.1
              have sX := SlI.any (HM.out.2) (by have := HE.out; omega)
              rw [hkx1] at sX
              obtain ⟨gX, oX, hgX, cX1⟩ := ((sX.below HN.out.2.bel).below hB2.bel).at k hkx
              have sK := SlI.any (HF.out.2.1) (by omega)
              obtain ⟨gK, oK, hgK, cK1⟩ := (sK.below hBf.bel).at k hkk
              subst hgX hgK
              have H2 := Hid.mk7 (And.intro hBf (And.intro hB2 (ht rfl)))
              clear ht hf hBf hB2 sX sK hkx1
              by_cases he : F[j].kids[k] = kids[k]
              · have H3 := Hid.mk7 (And.intro hkx he)
                rw [he] at cX1
                clear he
                go_wp2_with fail
                go_quiet (fail)
                go_wp2
                go_roundw
                case rel => exact ⟨k + 1, true, by omega, by go_num, by simp, fun _ => take_step H3.out.1 hkk H2.out.2.2 H3.out.2, fun h => by (cases h), H2.out.2.1.below (drewN_below _ _)⟩
                case measure => simp [intOf]; omega
              · have H3 := Hid.mk7 (And.intro hkx he)
                generalize F[j].kids[k] = xk at cX1 he
                generalize kids[k] = yk at cK1 he
                go_wp2_with fail
                go_quiet (fail)
                go_wp2
                go_roundw
                case rel => exact ⟨k + 1, false, by omega, by go_num, by (simpa using he), fun h => by (cases h), fun _ h => H3.out.2 (by simp [h]), H2.out.2.1.below (drewN_below _ _)⟩
                case measure => simp [intOf]; omega
            · have hge : ¬ (k : Int) < (kids.length : Int) := by omega
              have H2 := Hid.mk7 (And.intro hBf (ht rfl))
              clear ht hf hBf hB2
              go_wp2
              go_ret2
              refine .inl ⟨j, hlt, ?_, rfl, H2.out.1.bel⟩
              unfold formB
              rw [HK.out]
              have h3 := H2.out.2
              rw [List.take_of_length_le (by have := HE.out; omega), List.take_of_length_le (by omega)] at h3
              simpa using h3
      · have HK := Hid.mk7 hlk
        clear hlk
        rcases hcs with h1 | ⟨h1, h2⟩ | ⟨h1, h2, h3⟩ | ⟨h1, h2, h3, h4⟩ | ⟨h1, h2, h3, h4, h5⟩
        all_goals
          go_wp2_with fail
          refine wp_loop_rounds 1 ?_
          rw [rounds_succ]
          go_wp2
          go_roundw
          case rel =>
            refine ⟨j + 1, by omega, by go_num, fun t ht htj => ?_, HN.out.2.below ?_⟩
            · by_cases e : t = j
              · subst e; unfold formB; rw [HK.out]; rfl
              · exact HN.out.1 t ht (by omega)
            · exact Below.alloc0 _ _
          case measure => simp [intOf]; omega
    · have hge : ¬ (j : Int) < (F.length : Int) := by omega
      have hFl : (F.length : Int) ≤ 16777216 := by have := HL.out.1; omega
      have y0 := hB.box 0 (by decide)
      have y1 := hB.box 1 (by decide)
      have y2 := hB.box 2 (by decide)
      have y3 := hB.box 3 (by decide)
      have y4 := hB.box 4 (by decide)
      have y5 := hB.box 5 (by decide)
      simp only [Nd.cells, List.getElem?_cons_zero, List.getElem?_cons_succ] at y0 y1 y2 y3 y4 y5
      have HO := Hid.mk7 (fun o => (HF.out.1.nodes.below hB.bel).own.turned (Turned.alloc (fun _ => False) wr o) (fun _ _ e => e))
      have HX := Hid.mk7 (SlK.nd wr ⟨nk, nt, nm, nn, .slice aK kids.length cK, kids, na⟩)
      have hone : ∀ u ∈ (⟨nk, nt, nm, nn, .slice aK kids.length cK, kids, na⟩ : Nd).cells, u.oneCell' = true := Nd.cells_one _ rfl
      have hfit : (F.length + 1) * 80 ≤ 140737488355328 := by omega
      have HN := Hid.mk7 (And.intro hno hB)
      clear hno hB
      go_wp2_with (at_builtin; refine wpList_append_k (by rfl) (.tmp 81) (.tmp 83) (by rfl) Tryz.nodeTypes (by rfl) (by rfl) (HO.out _) HX.out hone hfit (by omega) ?_; intro V4 w4 ho4 T4 hv4)
      have hs := HF.out.1.snoc (f := ⟨nk, nt, nm, nn, .slice aK kids.length cK, kids, na⟩) HF.out.2.1 HF.out.2.2 (HN.out.2.bel.trans ((Below.alloc0 wr _).mono HN.out.2.bel.size)) ho4 T4 hv4
      have HS := Hid.mk7 hs
      clear ho4 T4 hv4 hs
      go_wp2
      go_ret2
      exact .inr ⟨fun t ht => HN.out.1 t ht (by omega), V4, rfl, HS.out.1, HS.out.2.1, HS.out.2.2⟩
end Go.Proofs.YtlgkjjbefoeabaaGreatDoor
namespace Go.Proofs.YtlgkjjbefoeabaaGreatDoor
open Go.RowKit

def Nd.lab (n : Nd) : Int × List UInt8 × List UInt8 × Int := (n.kind, n.text.toList, n.mod.toList, n.num)
/-- The nodes of two lists, the second's behind the first's. -/
def grOf (A B : List Nd) : Gr (Option (Int × List UInt8 × List UInt8 × Int)) where
  lab x := if x < A.length then A[x]?.map Nd.lab else B[x - A.length]?.map Nd.lab
  kid x := if x < A.length then (kidsOf (kvs A) x).map Int.toNat else (kidsOf (kvs B) (x - A.length)).map (fun k => A.length + k.toNat)
  low x := if x < A.length then (kidsOf (kvs A) x).all (lowB x) else (kidsOf (kvs B) (x - A.length)).all (lowB ((x - A.length : Nat) : Int))
theorem kidsOf_kvs (A : List Nd) (i : Nat) (h : i < A.length) : kidsOf (kvs A) i = A[i].kids := by simp [kidsOf, kvs, h]
theorem grOf_a (A B : List Nd) (i : Nat) (h : i < A.length) : (grOf A B).lab i = some A[i].lab ∧ (grOf A B).kid i = A[i].kids.map Int.toNat ∧ (grOf A B).low i = A[i].kids.all (lowB i) := by
  simp [grOf, h, kidsOf_kvs A i h]
theorem grOf_b (A B : List Nd) (k : Nat) (h : k < B.length) : (grOf A B).lab (A.length + k) = some B[k].lab ∧ (grOf A B).kid (A.length + k) = B[k].kids.map (fun z => A.length + z.toNat) ∧ (grOf A B).low (A.length + k) = B[k].kids.all (lowB k) := by
  have h1 : ¬ A.length + k < A.length := by omega
  have h2 : A.length + k - A.length = k := by omega
  simp [grOf, h1, h2, h, kidsOf_kvs B k h]
theorem lookB_gr (A B : List Nd) (i k : Nat) (hi : i < A.length) (hk : k < B.length) : lookB A[i] B[k] = true ↔ ((grOf A B).lab i = (grOf A B).lab (A.length + k) ∧ ((grOf A B).kid i).length = ((grOf A B).kid (A.length + k)).length) := by
  obtain ⟨a1, a2, _⟩ := grOf_a A B i hi
  obtain ⟨b1, b2, _⟩ := grOf_b A B k hk
  rw [a1, b1, a2, b2]
  simp [lookB, Nd.lab]
  constructor
  · rintro ⟨h1, h2, h3, h4, h5⟩; exact ⟨⟨h1, h2, h3, h4⟩, h5⟩
  · rintro ⟨⟨h1, h2, h3, h4⟩, h5⟩; exact ⟨h1, h2, h3, h4, h5⟩
/-- Pairs in memory. -/
def pcs (P : List (Nat × Nat)) : List Value := P.flatMap fun p => [.int .i64 p.1, .int .i64 p.2]
theorem pcs_length (P : List (Nat × Nat)) : (pcs P).length = P.length * 2 := by
  induction P with
  | nil => rfl
  | cons p r ih => simp [pcs] at *; omega
theorem pcs_snoc (P : List (Nat × Nat)) (p : Nat × Nat) : pcs (P ++ [p]) = pcs P ++ [.int .i64 p.1, .int .i64 p.2] := by simp [pcs]
theorem OwnK.popped {w : World} {v : Value} {P : List (Nat × Nat)} {p : Nat × Nat} (h : OwnK 2 w v (P.length + 1) (pcs (P ++ [p]))) : ∃ g off cap, v = .slice (some ⟨g, off, none⟩) (P.length + 1) cap ∧ P.length + 1 ≤ cap ∧ cap ≤ maxLen ∧
    w.cell? ⟨g, off + P.length * 2, none⟩ = some (.int .i64 p.1) ∧ w.cell? ⟨g, off + P.length * 2 + 1, none⟩ = some (.int .i64 p.2) ∧ OwnK 2 w (.slice (some ⟨g, off, none⟩) P.length cap) P.length (pcs P) := by
  obtain ⟨h0, ⟨_, hn⟩ | ⟨g, off, cap, rfl, h2, h3, hg, h4, h5⟩⟩ := h
  · omega
  · have hl := pcs_length P
    have e : (pcs (P ++ [p])).length = P.length * 2 + 2 := by rw [pcs_snoc]; simp [hl]
    refine ⟨g, off, cap, rfl, h2, h3, ?_, ?_, hl, .inr ⟨g, off, cap, rfl, by omega, h3, hg, fun j hj => ?_, h5⟩⟩
    · rw [h4 (P.length * 2) (by omega)]
      simp [pcs_snoc, hl]
    · have := h4 (P.length * 2 + 1) (by omega)
      rw [Nat.add_assoc, this]
      simp [pcs_snoc, hl]
    · rw [h4 j (by omega)]
      simp [pcs_snoc, hj]
theorem pcs_one (P : List (Nat × Nat)) : ∀ u ∈ pcs P, u.oneCell' = true := by
  intro u hu
  simp only [pcs, List.mem_flatMap, List.mem_cons, List.not_mem_nil, or_false] at hu
  obtain ⟨p, _, rfl | rfl⟩ := hu <;> rfl
end Go.Proofs.YtlgkjjbefoeabaaGreatDoor
namespace Go.Proofs.YtlgkjjbefoeabaaGreatDoor

/-- A form's tree, down to a depth. -/
def cutF {L : Type} (F : List (L × List Nat)) : Nat → Nat → Tr L
  | 0, _ => .stub
  | n + 1, j => match F[j]? with
    | some f => .mk f.1 (f.2.map (cutF F n))
    | none => .bad
def putC (c : Nat → Option Nat) (i : Nat) (v : Option Nat) (x : Nat) : Option Nat := if x = i then v else c x
/-- Classes so far: D, the nodes that have been looked at. -/
structure CI {L : Type} (G : Gr L) (c : Nat → Option Nat) (F : List (L × List Nat)) (D : Nat → Prop) : Prop where
  nd : F.Nodup
  fk : ∀ j (h : j < F.length), ∀ q ∈ F[j].2, q < j
  has : ∀ x j, D x → c x = some j → ∃ ks, F[j]? = some (G.lab x, ks) ∧ (G.kid x).map c = ks.map some ∧ G.low x = true ∧ ∀ k ∈ G.kid x, D k
  no : ∀ x, D x → c x = none → ∃ n, ¬ G.okn n x

theorem CI.begin {L : Type} (G : Gr L) (c : Nat → Option Nat) : CI G c [] (fun _ => False) := ⟨List.nodup_nil, fun j h => by simp at h, fun _ _ h => h.elim, fun _ h => h.elim⟩
theorem CI.cut {L : Type} {G : Gr L} {c : Nat → Option Nat} {F : List (L × List Nat)} {D : Nat → Prop} (h : CI G c F D) : ∀ n x j, D x → c x = some j → G.cut n x = cutF F n j ∧ G.okn n x := by
  intro n
  induction n with
  | zero => intros; exact ⟨rfl, trivial⟩
  | succ n ih =>
    intro x j hx hc
    obtain ⟨ks, e1, e2, e3, e4⟩ := h.has x j hx hc
    have hlen : (G.kid x).length = ks.length := by simpa using congrArg List.length e2
    have hk : ∀ t (h1 : t < (G.kid x).length) (h2 : t < ks.length), c (G.kid x)[t] = some ks[t] := fun t h1 h2 => by
      have h3 : ((G.kid x).map c)[t]? = (ks.map some)[t]? := by rw [e2]
      simpa [h1, h2] using h3
    refine ⟨?_, e3, fun k hk' => ?_⟩
    · simp only [Gr.cut, e3, if_true, cutF, e1, Tr.mk.injEq, true_and]
      refine List.ext_getElem (by simpa using hlen) fun t h1 h2 => ?_
      have h1' : t < (G.kid x).length := by simpa using h1
      have h2' : t < ks.length := by simpa using h2
      simp only [List.getElem_map]
      exact (ih _ _ (e4 _ (List.getElem_mem h1')) (hk t h1' h2')).1
    · obtain ⟨t, h1, rfl⟩ := List.getElem_of_mem hk'
      exact (ih _ _ (e4 _ (List.getElem_mem h1)) (hk t h1 (by omega))).2
theorem CI.inj {L : Type} {G : Gr L} {c : Nat → Option Nat} {F : List (L × List Nat)} {D : Nat → Prop} (h : CI G c F D) : ∀ m j i, j < m → (hj : j < F.length) → (hi : i < F.length) → (∀ n, cutF F n j = cutF F n i) → j = i := by
  intro m
  induction m with
  | zero => intro j i h0; omega
  | succ m ih =>
    intro j i hm hj hi hn
    have step : ∀ n, F[j].1 = F[i].1 ∧ F[j].2.map (cutF F n) = F[i].2.map (cutF F n) := fun n => by
      have := hn (n + 1)
      simpa [cutF, hj, hi] using this
    have hlen : F[j].2.length = F[i].2.length := by simpa using congrArg List.length (step 0).2
    have e2 : F[j].2 = F[i].2 := by
      refine List.ext_getElem hlen fun t h1 h2 => ?_
      have b1 := h.fk j hj _ (List.getElem_mem h1)
      have b2 := h.fk i hi _ (List.getElem_mem h2)
      refine ih _ _ (by omega) (by omega) (by omega) fun n => ?_
      have h3 : (F[j].2.map (cutF F n))[t]? = (F[i].2.map (cutF F n))[t]? := by rw [(step n).2]
      simpa [h1, h2] using h3
    have e : F[j] = F[i] := Prod.ext (step 0).1 e2
    exact (List.getElem_inj h.nd).1 e
/-- Nodes that are the same have one class. -/
theorem CI.same {L : Type} {G : Gr L} {c : Nat → Option Nat} {F : List (L × List Nat)} {D : Nat → Prop} (h : CI G c F D) {x y : Nat} (hx : D x) (hy : D y) : G.Same x y ↔ ∃ j, c x = some j ∧ c y = some j := by
  constructor
  · intro hs
    cases e1 : c x with
    | none =>
      obtain ⟨n, hn⟩ := h.no x hx e1
      exact absurd (hs n).2.1 hn
    | some j =>
      cases e2 : c y with
      | none =>
        obtain ⟨n, hn⟩ := h.no y hy e2
        exact absurd (hs n).2.2 hn
      | some i =>
        obtain ⟨_, f1, _⟩ := h.has x j hx e1
        obtain ⟨_, f2, _⟩ := h.has y i hy e2
        obtain ⟨hj, _⟩ := List.getElem?_eq_some_iff.1 f1
        obtain ⟨hi, _⟩ := List.getElem?_eq_some_iff.1 f2
        have := h.inj (j + 1) j i (by omega) hj hi fun n => by rw [← (h.cut n x j hx e1).1, ← (h.cut n y i hy e2).1]; exact (hs n).1
        exact ⟨j, rfl, by rw [this]⟩
  · rintro ⟨j, e1, e2⟩ n
    exact ⟨by rw [(h.cut n x j hx e1).1, (h.cut n y j hy e2).1], (h.cut n x j hx e1).2, (h.cut n y j hy e2).2⟩
/-- A node that has no class. -/
theorem CI.bad {L : Type} {G : Gr L} {c : Nat → Option Nat} {F : List (L × List Nat)} {D : Nat → Prop} (h : CI G c F D) {x : Nat} (hx : ¬ D x) (hb : G.low x = false ∨ ∃ k ∈ G.kid x, D k ∧ c k = none) : CI G (putC c x none) F (fun y => D y ∨ y = x) := by
  have o : ∀ {y}, D y → putC c x none y = c y := fun {y} hy => by
    have : y ≠ x := fun e => hx (e ▸ hy)
    simp [putC, this]
  refine ⟨h.nd, h.fk, fun y j hy hc => ?_, fun y hy hc => ?_⟩
  · by_cases e : y = x
    · subst e; simp [putC] at hc
    · have hD : D y := hy.resolve_right e
      rw [o hD] at hc
      obtain ⟨ks, e1, e2, e3, e4⟩ := h.has y j hD hc
      refine ⟨ks, e1, ?_, e3, fun k hk => .inl (e4 k hk)⟩
      rw [← e2]
      exact List.map_congr_left fun k hk => o (e4 k hk)
  · by_cases e : y = x
    · subst e
      rcases hb with hb | ⟨k, hk, hD, hn⟩
      · exact ⟨1, fun hh => by simp [Gr.okn, hb] at hh⟩
      · obtain ⟨n, hn⟩ := h.no k hD hn
        exact ⟨n + 1, fun hh => hn (hh.2 k hk)⟩
    · have hD : D y := hy.resolve_right e
      rw [o hD] at hc
      exact h.no y hD hc
/-- A node of a class that there is. -/
theorem CI.old {L : Type} {G : Gr L} {c : Nat → Option Nat} {F : List (L × List Nat)} {D : Nat → Prop} (h : CI G c F D) {x j : Nat} {ks : List Nat} (hx : ¬ D x) (hl : G.low x = true) (hk : ∀ k ∈ G.kid x, D k) (hc : (G.kid x).map c = ks.map some) (hf : F[j]? = some (G.lab x, ks)) : CI G (putC c x (some j)) F (fun y => D y ∨ y = x) := by
  have o : ∀ {y}, D y → putC c x (some j) y = c y := fun {y} hy => by
    have : y ≠ x := fun e => hx (e ▸ hy)
    simp [putC, this]
  refine ⟨h.nd, h.fk, fun y i hy hi => ?_, fun y hy hi => ?_⟩
  · by_cases e : y = x
    · subst e
      simp only [putC, if_true, Option.some.injEq] at hi
      subst hi
      exact ⟨ks, hf, by rw [← hc]; exact List.map_congr_left fun k hk' => o (hk k hk'), hl, fun k hk' => .inl (hk k hk')⟩
    · have hD : D y := hy.resolve_right e
      rw [o hD] at hi
      obtain ⟨ks', e1, e2, e3, e4⟩ := h.has y i hD hi
      exact ⟨ks', e1, by rw [← e2]; exact List.map_congr_left fun k hk => o (e4 k hk), e3, fun k hk => .inl (e4 k hk)⟩
  · by_cases e : y = x
    · subst e; simp [putC] at hi
    · have hD : D y := hy.resolve_right e
      rw [o hD] at hi
      exact h.no y hD hi
/-- A new form. -/
theorem CI.more {L : Type} {G : Gr L} {c : Nat → Option Nat} {F : List (L × List Nat)} {D : Nat → Prop} (h : CI G c F D) {f : L × List Nat} (hn : f ∉ F) (hq : ∀ q ∈ f.2, q < F.length) : CI G c (F ++ [f]) D := by
  refine ⟨List.nodup_append.2 ⟨h.nd, by simp, fun a ha b hb => by simp at hb; subst hb; exact fun e => hn (e ▸ ha)⟩, fun j hj q hq' => ?_, fun y i hD hi => ?_, h.no⟩
  · by_cases e : j < F.length
    · rw [List.getElem_append_left e] at hq'
      exact h.fk j e q hq'
    · have ej : j = F.length := by simp at hj; omega
      subst ej
      simp at hq'
      exact hq q hq'
  · obtain ⟨ks, e1, e2⟩ := h.has y i hD hi
    obtain ⟨hj, _⟩ := List.getElem?_eq_some_iff.1 e1
    exact ⟨ks, by rw [List.getElem?_append_left hj]; exact e1, e2⟩
end Go.Proofs.YtlgkjjbefoeabaaGreatDoor
namespace Go.Proofs.YtlgkjjbefoeabaaGreatDoor

abbrev Lb := Option (Int × List UInt8 × List UInt8 × Int)
/-- Forms, as lists. -/
def FA (F : List Nd) : List (Lb × List Nat) := F.map fun f => (some f.lab, f.kids.map Int.toNat)
def cval : Option Nat → Int
  | none => -1
  | some j => j
theorem formB_iff (x f : Nd) : formB x f = true ↔ x.lab = f.lab ∧ x.kids = f.kids := by
  simp only [formB, lookB, Nd.lab, Bool.and_eq_true, decide_eq_true_eq, Prod.mk.injEq]
  constructor
  · rintro ⟨⟨h1, h2, h3, h4, _⟩, h6⟩; exact ⟨⟨h1, h2, h3, h4⟩, h6⟩
  · rintro ⟨⟨h1, h2, h3, h4⟩, h6⟩; exact ⟨⟨h1, h2, h3, h4, by rw [h6]⟩, h6⟩
theorem toNat_inj : ∀ {a b : List Int}, (∀ z ∈ a, 0 ≤ z) → (∀ z ∈ b, 0 ≤ z) → a.map Int.toNat = b.map Int.toNat → a = b
  | [], [], _, _, _ => rfl
  | [], _ :: _, _, _, h => by simp at h
  | _ :: _, [], _, _, h => by simp at h
  | x :: a, y :: b, h1, h2, h => by
    simp only [List.map_cons, List.cons.injEq] at h
    have e1 := h1 x (by simp)
    have e2 := h2 y (by simp)
    rw [toNat_inj (fun z hz => h1 z (by simp [hz])) (fun z hz => h2 z (by simp [hz])) h.2, show x = y by omega]
/-- What is below a node, and its nodes' place in the graph. -/
structure Blw (G : Gr Lb) (off : Nat) (N : List Nd) (root : Nat) (bl : List Int) : Prop where
  lab : ∀ z (h : z < N.length), G.lab (off + z) = some N[z].lab
  kid : ∀ z (h : z < N.length), G.kid (off + z) = N[z].kids.map fun k => off + k.toNat
  low : ∀ z (h : z < N.length), G.low (off + z) = N[z].kids.all (lowB z)
  rise : bl.Pairwise (· < ·)
  has : (root : Int) ∈ bl
  le : ∀ z ∈ bl, 0 ≤ z ∧ z ≤ (root : Int)
  shut : ∀ z (h : z < N.length), (z : Int) ∈ bl → ∀ k ∈ N[z].kids, lowB z k = true → k ∈ bl
  rt : root < N.length
theorem Blw.before {G : Gr Lb} {off : Nat} {N : List Nd} {root : Nat} {bl : List Int} (h : Blw G off N root bl) {i : Nat} (hi : i < bl.length) {k : Int} (hk : k ∈ bl) (hlt : k < bl[i]) : ∃ t, ∃ ht : t < bl.length, t < i ∧ bl[t] = k := by
  obtain ⟨t, ht, e⟩ := List.getElem_of_mem hk
  refine ⟨t, ht, ?_, e⟩
  rcases Nat.lt_trichotomy t i with h1 | h1 | h1
  · exact h1
  · subst h1; omega
  · have := (List.pairwise_iff_getElem.1 h.rise) i t hi ht h1
    omega
/-- The nodes that have been looked at. -/
def Dn (D0 : Nat → Prop) (off : Nat) (bl : List Int) (i : Nat) (x : Nat) : Prop := D0 x ∨ ∃ t, ∃ ht : t < bl.length, t < i ∧ x = off + bl[t].toNat
structure CS (G : Gr Lb) (off : Nat) (D0 : Nat → Prop) (c0 : Nat → Option Nat) (bl : List Int) (B M : Nat) (i : Nat) (c : Nat → Option Nat) (h : List Int) (F : List Nd) : Prop where
  ci : CI G c (FA F) (Dn D0 off bl i)
  nn : ∀ f ∈ F, ∀ z ∈ f.kids, 0 ≤ z
  hv : ∀ t (ht : t < bl.length), t < i → h[bl[t].toNat]? = some (cval (c (off + bl[t].toNat)))
  len : F.length ≤ B + i
  keep : ∀ x, x < off → c x = c0 x
theorem Dn.fresh {G : Gr Lb} {off : Nat} {N : List Nd} {root : Nat} {bl : List Int} {D0 : Nat → Prop} (hB : Blw G off N root bl) (hD : ∀ x, D0 x → x < off) {i z : Nat} (hi : i < bl.length) (hz : bl[i] = (z : Int)) : ¬ Dn D0 off bl i (off + z) := by
  rintro (h | ⟨t, ht, hti, e⟩)
  · have := hD _ h; omega
  · have := (List.pairwise_iff_getElem.1 hB.rise) t i ht hi hti
    have := (hB.le _ (List.getElem_mem ht)).1
    omega
theorem Dn.succ {D0 : Nat → Prop} {off : Nat} {bl : List Int} {i z : Nat} (hi : i < bl.length) (hz : bl[i] = (z : Int)) : Dn D0 off bl (i + 1) = fun x => Dn D0 off bl i x ∨ x = off + z := by
  funext x
  refine propext ⟨?_, ?_⟩
  · rintro (h | ⟨t, ht, hti, e⟩)
    · exact .inl (.inl h)
    · by_cases h1 : t = i
      · subst h1; exact .inr (by rw [e, hz]; simp)
      · exact .inl (.inr ⟨t, ht, by omega, e⟩)
  · rintro ((h | ⟨t, ht, hti, e⟩) | h)
    · exact .inl h
    · exact .inr ⟨t, ht, by omega, e⟩
    · exact .inr ⟨i, hi, by omega, by rw [h, hz]; simp⟩
/-- A kid that is lower has been looked at. -/
theorem CS.kid {G : Gr Lb} {off : Nat} {N : List Nd} {root : Nat} {bl : List Int} {D0 : Nat → Prop} {c0 c : Nat → Option Nat} {B M i z : Nat} {h : List Int} {F : List Nd} (hC : CS G off D0 c0 bl B M i c h F) (hB : Blw G off N root bl) (hi : i < bl.length) (hz : bl[i] = (z : Int)) (hzN : z < N.length) {k : Int} (hk : k ∈ N[z].kids) (hlow : lowB z k = true) :
    Dn D0 off bl i (off + k.toNat) ∧ h[k.toNat]? = some (cval (c (off + k.toNat))) := by
  have h1 := hB.shut z hzN (by rw [← hz]; exact List.getElem_mem hi) k hk hlow
  have h2 : 0 ≤ k ∧ k < (z : Int) := by simpa [lowB] using hlow
  obtain ⟨t, ht, hti, e⟩ := hB.before hi h1 (by rw [hz]; exact h2.2)
  refine ⟨.inr ⟨t, ht, hti, by rw [e]⟩, ?_⟩
  have := hC.hv t ht hti
  rwa [e] at this
theorem CS.hvNext {off : Nat} {bl : List Int} {i z : Nat} {c : Nat → Option Nat} {h : List Int} {v : Option Nat} (hv : ∀ t (ht : t < bl.length), t < i → h[bl[t].toNat]? = some (cval (c (off + bl[t].toNat)))) (hr : bl.Pairwise (· < ·)) (hn : ∀ z ∈ bl, 0 ≤ z) (hi : i < bl.length) (hz : bl[i] = (z : Int)) (hzh : z < h.length) :
    ∀ t (ht : t < bl.length), t < i + 1 → (h.set z (cval v))[bl[t].toNat]? = some (cval (putC c (off + z) v (off + bl[t].toNat))) := by
  intro t ht hti
  by_cases e : t = i
  · subst e
    rw [hz]
    simp [putC, hzh]
  · have h1 := (List.pairwise_iff_getElem.1 hr) t i ht hi (by omega)
    have h2 := hn _ (List.getElem_mem ht)
    rw [List.getElem?_set_ne (by omega), hv t ht (by omega)]
    have : ¬ bl[t].toNat = z := by omega
    simp [putC, this]
section
variable {G : Gr Lb} {off : Nat} {N : List Nd} {root : Nat} {bl : List Int} {D0 : Nat → Prop} {c0 c : Nat → Option Nat} {B M i z : Nat} {h : List Int} {F : List Nd}
theorem CS.bad (hC : CS G off D0 c0 bl B M i c h F) (hB : Blw G off N root bl) (hD : ∀ x, D0 x → x < off) (hi : i < bl.length) (hz : bl[i] = (z : Int)) (hzN : z < N.length) (hzh : z < h.length)
    (hb : ∃ k ∈ N[z].kids, lowB z k = false ∨ (lowB z k = true ∧ c (off + k.toNat) = none)) : CS G off D0 c0 bl B M (i + 1) (putC c (off + z) none) (h.set z (-1)) F := by
  refine ⟨?_, hC.nn, CS.hvNext (v := none) hC.hv hB.rise (fun z hz => (hB.le z hz).1) hi hz hzh, by have := hC.len; omega, fun x hx => ?_⟩
  · rw [Dn.succ hi hz]
    refine hC.ci.bad (Dn.fresh hB hD hi hz) ?_
    obtain ⟨k, hk, h1 | ⟨h1, h2⟩⟩ := hb
    · left
      rw [hB.low z hzN]
      exact Bool.eq_false_iff.2 fun h3 => by rw [List.all_eq_true.1 h3 k hk] at h1; cases h1
    · right
      exact ⟨off + k.toNat, by rw [hB.kid z hzN]; exact List.mem_map.2 ⟨k, hk, rfl⟩, (hC.kid hB hi hz hzN hk h1).1, h2⟩
  · have : ¬ x = off + z := by omega
    simp [putC, this, hC.keep x hx]
/-- All Kids have classes. -/
structure Good (N : List Nd) (z off : Nat) (hz : z < N.length) (c : Nat → Option Nat) (ks : List Int) (k : Nat) : Prop where
  len : ks.length = k
  le : k ≤ N[z].kids.length
  low : ∀ t (h : t < N[z].kids.length), t < k → lowB z N[z].kids[t] = true
  cls : ∀ t (h : t < N[z].kids.length) (h2 : t < ks.length), c (off + N[z].kids[t].toNat) = some ks[t].toNat
  nn : ∀ x ∈ ks, 0 ≤ x
theorem Good.start {hz : z < N.length} : Good N z off hz c [] 0 := ⟨rfl, Nat.zero_le _, fun _ _ h => by omega, fun _ _ h => by simp at h, fun _ h => by cases h⟩
theorem Good.next {hz : z < N.length} {ks : List Int} {k : Nat} (hg : Good N z off hz c ks k) (hk : k < N[z].kids.length) (hl : lowB z N[z].kids[k] = true) {q : Nat} (hc : c (off + N[z].kids[k].toNat) = some q) : Good N z off hz c (ks ++ [(q : Int)]) (k + 1) := by
  have hl0 := hg.len
  refine ⟨by simp [hl0], hk, fun t h1 h2 => ?_, fun t h1 h2 => ?_, fun x hx => ?_⟩
  · by_cases e : t = k
    · subst e; exact hl
    · exact hg.low t h1 (by omega)
  · by_cases e : t < ks.length
    · rw [List.getElem_append_left e]; exact hg.cls t h1 e
    · have e2 : t = ks.length := by simp at h2; omega
      subst e2
      simp only [List.getElem_append_right (Nat.le_refl _), Nat.sub_self, List.getElem_cons_zero, Int.toNat_natCast]
      simp only [hl0]
      exact hc
  · rcases List.mem_append.1 hx with hx | hx
    · exact hg.nn x hx
    · simp at hx; omega
theorem Good.done {hz : z < N.length} {ks : List Int} (hg : Good N z off hz c ks N[z].kids.length) (hB : Blw G off N root bl) : G.low (off + z) = true ∧ (G.kid (off + z)).map c = (ks.map Int.toNat).map some := by
  refine ⟨(hB.low z hz).trans (List.all_eq_true.2 fun k hk => ?_), ?_⟩
  · obtain ⟨t, ht, rfl⟩ := List.getElem_of_mem hk
    exact hg.low t ht ht
  · rw [hB.kid z hz]
    refine List.ext_getElem (by simp [hg.len]) fun t h1 h2 => ?_
    simp only [List.getElem_map]
    exact hg.cls t (by simpa using h1) (by simpa using h2)
theorem FA_get {F : List Nd} {j : Nat} (hj : j < F.length) : (FA F)[j]? = some (some F[j].lab, F[j].kids.map Int.toNat) := by simp [FA, hj]
theorem CS.old (hC : CS G off D0 c0 bl B M i c h F) (hB : Blw G off N root bl) (hD : ∀ x, D0 x → x < off) (hi : i < bl.length) (hz : bl[i] = (z : Int)) (hzN : z < N.length) (hzh : z < h.length) {ks : List Int} (hg : Good N z off hzN c ks N[z].kids.length)
    {f : Nd} (hfl : f.lab = N[z].lab) (hfk : f.kids = ks) {j : Nat} (hj : j < F.length) (he : formB F[j] f = true) : CS G off D0 c0 bl B M (i + 1) (putC c (off + z) (some j)) (h.set z (j : Int)) F := by
  obtain ⟨g1, g2⟩ := hg.done hB
  obtain ⟨e1, e2⟩ := (formB_iff _ _).1 he
  refine ⟨?_, hC.nn, CS.hvNext (v := some j) hC.hv hB.rise (fun z hz => (hB.le z hz).1) hi hz hzh, by have := hC.len; omega, fun x hx => ?_⟩
  · rw [Dn.succ hi hz]
    refine hC.ci.old (Dn.fresh hB hD hi hz) g1 (fun k hk => ?_) g2 (by rw [FA_get hj, hB.lab z hzN, e1, hfl, e2, hfk])
    rw [hB.kid z hzN] at hk
    obtain ⟨q, hq, rfl⟩ := List.mem_map.1 hk
    have hlow : lowB z q = true := by
      rw [hB.low z hzN] at g1
      exact List.all_eq_true.1 g1 q hq
    exact (hC.kid hB hi hz hzN hq hlow).1
  · have : ¬ x = off + z := by omega
    simp [putC, this, hC.keep x hx]
theorem CS.more (hC : CS G off D0 c0 bl B M i c h F) (hB : Blw G off N root bl) (hD : ∀ x, D0 x → x < off) (hi : i < bl.length) (hz : bl[i] = (z : Int)) (hzN : z < N.length) (hzh : z < h.length) {ks : List Int} (hg : Good N z off hzN c ks N[z].kids.length)
    {f : Nd} (hfl : f.lab = N[z].lab) (hfk : f.kids = ks) (he : ∀ j (hj : j < F.length), formB F[j] f = false) : CS G off D0 c0 bl B M (i + 1) (putC c (off + z) (some F.length)) (h.set z (F.length : Int)) (F ++ [f]) := by
  obtain ⟨g1, g2⟩ := hg.done hB
  have hlow : ∀ q ∈ N[z].kids, lowB z q = true := fun q hq => by
    rw [hB.low z hzN] at g1
    exact List.all_eq_true.1 g1 q hq
  have hFA : FA (F ++ [f]) = FA F ++ [(some f.lab, f.kids.map Int.toNat)] := by simp [FA]
  have hnew : CI G c (FA (F ++ [f])) (Dn D0 off bl i) := by
    rw [hFA]
    refine hC.ci.more (fun hm => ?_) (fun q hq => ?_)
    · obtain ⟨x, hx, e⟩ := List.mem_map.1 hm
      obtain ⟨j, hj, rfl⟩ := List.getElem_of_mem hx
      have h1 := he j hj
      simp only [Prod.mk.injEq, Option.some.injEq] at e
      have h2 := (formB_iff F[j] f).2 ⟨e.1, toNat_inj (hC.nn _ hx) (by rw [hfk]; exact hg.nn) e.2⟩
      rw [h1] at h2
      cases h2
    · simp only [hfk] at hq
      obtain ⟨x, hx, rfl⟩ := List.mem_map.1 hq
      obtain ⟨t, ht, rfl⟩ := List.getElem_of_mem hx
      have ht2 : t < N[z].kids.length := by have := hg.len; omega
      have hc := hg.cls t ht2 ht
      have hd := (hC.kid hB hi hz hzN (List.getElem_mem ht2) (hlow _ (List.getElem_mem ht2))).1
      obtain ⟨_, h3, _⟩ := hC.ci.has _ _ hd hc
      exact (List.getElem?_eq_some_iff.1 h3).1
  refine ⟨?_, fun f' hf z hz => ?_, CS.hvNext (v := some F.length) hC.hv hB.rise (fun z hz => (hB.le z hz).1) hi hz hzh, by have := hC.len; simp; omega, fun x hx => ?_⟩
  · rw [Dn.succ hi hz]
    refine hnew.old (Dn.fresh hB hD hi hz) g1 (fun k hk => ?_) g2 (by rw [FA_get (by simp), hB.lab z hzN]; simp [hfl, hfk])
    rw [hB.kid z hzN] at hk
    obtain ⟨q, hq, rfl⟩ := List.mem_map.1 hk
    exact (hC.kid hB hi hz hzN hq (hlow q hq)).1
  · rcases List.mem_append.1 hf with hf | hf
    · exact hC.nn f' hf z hz
    · simp at hf
      subst hf
      exact hg.nn z (by rw [← hfk]; exact hz)
  · have : ¬ x = off + z := by omega
    simp [putC, this, hC.keep x hx]
/-- The root's class. -/
theorem CS.rooted (hC : CS G off D0 c0 bl B M bl.length c h F) (hB : Blw G off N root bl) : Dn D0 off bl bl.length (off + root) ∧ h[root]? = some (cval (c (off + root))) := by
  obtain ⟨t, ht, e⟩ := List.getElem_of_mem hB.has
  have := hC.hv t ht ht
  rw [e] at this
  exact ⟨.inr ⟨t, ht, ht, by rw [e]; simp⟩, by simpa using this⟩
end
end Go.Proofs.YtlgkjjbefoeabaaGreatDoor
