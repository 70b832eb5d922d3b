/-
  Slices of elements of k cells in memory: what one reads as (SlK), that one may be appended to in place (OwnK); append of two such slices, for every program.
-/
import Derived.Test.YtlgkjjbefoeabaaGreatDoorBytes
namespace Go.Proofs.YtlgkjjbefoeabaaGreatDoor
open Go.RowKit

/-- The slice v holds n elements of k cells each, cs in all. -/
def SlK (k : Nat) (w : World) (v : Value) (n : Nat) (cs : List Value) : Prop :=
  cs.length = n * k ∧ ((v = .slice none 0 0 ∧ n = 0) ∨ ∃ g off cap, v = .slice (some ⟨g, off, none⟩) n cap ∧ n ≤ cap ∧ cap ≤ maxLen ∧ ∀ j (h : j < cs.length), w.cell? ⟨g, off + j, none⟩ = some cs[j])
/-- .. and what is left of its array may be written. -/
def OwnK (k : Nat) (w : World) (v : Value) (n : Nat) (cs : List Value) : Prop :=
  cs.length = n * k ∧ ((v = .slice none 0 0 ∧ n = 0) ∨ ∃ g off cap, v = .slice (some ⟨g, off, none⟩) n cap ∧ n ≤ cap ∧ cap ≤ maxLen ∧ g < w.heap.size ∧ (∀ j (h : j < cs.length), w.cell? ⟨g, off + j, none⟩ = some cs[j]) ∧
    (∀ j, j < cap * k → (w.cell? ⟨g, off + j, none⟩).isSome = true ∧ w.frozen? ⟨g, off + j, none⟩ = false))

theorem OwnK.sl {k : Nat} {w : World} {v : Value} {n : Nat} {cs : List Value} (h : OwnK k w v n cs) : SlK k w v n cs := by
  obtain ⟨h0, h | ⟨g, off, cap, h1, h2, h3, _, h4, _⟩⟩ := h
  · exact ⟨h0, .inl h⟩
  · exact ⟨h0, .inr ⟨g, off, cap, h1, h2, h3, h4⟩⟩
theorem SlK.turned {k : Nat} {S : Nat → Prop} {w w' : World} {v : Value} {n : Nat} {cs : List Value} (h : SlK k w v n cs) (ht : Turned S w w') (hs : ∀ b, blk v b → ¬ S b) : SlK k w' v n cs := by
  obtain ⟨h0, h | ⟨g, off, cap, rfl, h2, h3, h4⟩⟩ := h
  · exact ⟨h0, .inl h⟩
  · exact ⟨h0, .inr ⟨g, off, cap, rfl, h2, h3, fun j hj => ht.cell (h4 j hj) (hs g rfl)⟩⟩
theorem OwnK.turned {k : Nat} {S : Nat → Prop} {w w' : World} {v : Value} {n : Nat} {cs : List Value} (h : OwnK k w v n cs) (ht : Turned S w w') (hs : ∀ b, blk v b → ¬ S b) : OwnK k w' v n cs := by
  obtain ⟨h0, h | ⟨g, off, cap, rfl, h2, h3, hg, h4, h5⟩⟩ := h
  · exact ⟨h0, .inl h⟩
  · refine ⟨h0, .inr ⟨g, off, cap, rfl, h2, h3, Nat.lt_of_lt_of_le hg ht.size, fun j hj => ht.cell (h4 j hj) (hs g rfl), fun j hj => ?_⟩⟩
    obtain ⟨u, hu⟩ := Option.isSome_iff_exists.1 (h5 j hj).1
    exact ⟨by rw [ht.cell hu (hs g rfl)]; rfl, by rw [ht.frozen (p := ⟨g, off + j, none⟩) hg (hs g rfl)]; exact (h5 j hj).2⟩
theorem OwnK.blk_lt {k : Nat} {w : World} {v : Value} {n : Nat} {cs : List Value} (h : OwnK k w v n cs) : ∀ b, blk v b → b < w.heap.size := by
  obtain ⟨_, ⟨rfl, _⟩ | ⟨g, off, cap, rfl, _, _, hg, _⟩⟩ := h
  · intro b hb; exact hb.elim
  · intro b hb; exact (show g = b from hb) ▸ hg
theorem SlK.form {k : Nat} {w : World} {v : Value} {n : Nat} {cs : List Value} (h : SlK k w v n cs) : ∃ a cap, v = .slice a n cap ∧ n ≤ cap ∧ cap ≤ maxLen := by
  obtain ⟨_, ⟨rfl, rfl⟩ | ⟨g, off, cap, rfl, h2, h3, _⟩⟩ := h
  · exact ⟨none, 0, rfl, Nat.le_refl _, Nat.zero_le _⟩
  · exact ⟨_, cap, rfl, h2, h3⟩
theorem SlK.nil (k : Nat) (w : World) : SlK k w (.slice none 0 0) 0 [] := ⟨by simp, .inl ⟨rfl, rfl⟩⟩
theorem OwnK.nil (k : Nat) (w : World) : OwnK k w (.slice none 0 0) 0 [] := ⟨by simp, .inl ⟨rfl, rfl⟩⟩
/-- Where an element lies. -/
theorem SlK.at {k : Nat} {w : World} {v : Value} {n : Nat} {cs : List Value} (h : SlK k w v n cs) (i : Nat) (hi : i < n) : ∃ g off cap, v = .slice (some ⟨g, off, none⟩) n cap ∧ n ≤ cap ∧ cap ≤ maxLen ∧ ∀ j, j < k → w.cell? ⟨g, off + i * k + j, none⟩ = cs[i * k + j]? ∧ (cs[i * k + j]?).isSome = true := by
  obtain ⟨h0, ⟨rfl, rfl⟩ | ⟨g, off, cap, rfl, h2, h3, h4⟩⟩ := h
  · omega
  · refine ⟨g, off, cap, rfl, h2, h3, fun j hj => ?_⟩
    have hlt : i * k + j < cs.length := by
      rw [h0]
      have : (i + 1) * k ≤ n * k := Nat.mul_le_mul_right k hi
      rw [Nat.add_mul, Nat.one_mul] at this
      omega
    rw [Nat.add_assoc, h4 _ hlt, List.getElem?_eq_getElem hlt]
    exact ⟨rfl, rfl⟩

/-- t is the type of slices in P, e that of their elements: of k cells and b bytes, z is zero. -/
structure ElTypes (P : Program) (t e : TypeId) (k b : Nat) (z : Value) : Prop where
  slice : P.underlying t = some (.slice e)
  info : ∃ i, P.info? e = some i ∧ i.zero = some z ∧ i.size = k ∧ i.bytes = b
  zero : z.cells.size = k

theorem OwnK.first {k : Nat} {P : Program} {w : World} {v : Value} {n : Nat} {cs : List Value} (h : OwnK k w v n cs) : ∃ a cap, v = .slice a n cap ∧ (Builtin.firstCells k n v).run P w.drew = .ok cs.toArray w.drew ∧ (a = none → n = 0 ∧ cap = 0) := by
  obtain ⟨h0, ⟨rfl, rfl⟩ | ⟨g, off, cap, rfl, _, _, _, h4, _⟩⟩ := h
  · have : cs = [] := List.eq_nil_of_length_eq_zero (by omega)
    subst this
    exact ⟨none, 0, rfl, run_firstCells_none w.drew k 0 0 0, fun _ => ⟨rfl, rfl⟩⟩
  · refine ⟨_, cap, rfl, run_firstCells_some w.drew k _ _ _ _ _ h0 (fun j u hj => ?_), fun h => by cases h⟩
    obtain ⟨hlt, rfl⟩ := List.getElem?_eq_some_iff.1 hj
    rw [Addr.add_lit]; exact h4 j hlt

/-- append(v, x...), both slices of elements of k cells, the first one's spare room its own. -/
theorem run_append_k {P : Program} {t e : TypeId} {k b : Nat} {z : Value} (hB : ElTypes P t e k b z) (ty : TypeId) {w : World} {v x : Value} {n m : Nat} {xs ys : List Value} (hv : OwnK k w v n xs) (hx : SlK k w x m ys) (hy1 : ∀ u ∈ ys, u.oneCell' = true) (hfit : (n + m) * b ≤ 140737488355328) (hn : n + m ≤ 4611686018427387903) :
    ∃ v' w', (Builtin.append_ #[t, t] ty #[v, x]).run P w = .ok v' w' ∧ OwnK k w' v' (n + m) (xs ++ ys) ∧ Turned (blk v) w w' ∧ ∀ q, blk v' q → blk v q ∨ q = w.heap.size := by
  obtain ⟨i, hi, hz, hsz, hby⟩ := hB.info
  have hyl := hx.1
  have hxl := hv.1
  have hsrc : Src P k t x m ys w := by
    obtain ⟨h0, ⟨rfl, rfl⟩ | ⟨g, off, cap, rfl, _, _, h4⟩⟩ := hx
    · have : ys = [] := List.eq_nil_of_length_eq_zero (by omega)
      subst this
      exact Src.ofNil w hB.slice 0
    · refine Src.ofSlice w hB.slice _ _ _ _ h0 (fun j u hj => ?_) hy1
      obtain ⟨hlt, rfl⟩ := List.getElem?_eq_some_iff.1 hj
      rw [Addr.add_lit]; exact h4 j hlt
  obtain ⟨a, cap, rfl, hold, hnone⟩ := hv.first (P := P)
  have hmul : (n + m) * k = n * k + m * k := Nat.add_mul _ _ _
  by_cases hroom : n + m ≤ cap
  · have hcapk : (n + m) * k ≤ cap * k := Nat.mul_le_mul_right k hroom
    cases a with
    | none =>
      obtain ⟨h1, h2⟩ := hnone rfl
      subst h1
      have hm : m = 0 := by omega
      subst hm h2
      have hx0 : xs = [] := List.eq_nil_of_length_eq_zero (by omega)
      have hy0 : ys = [] := List.eq_nil_of_length_eq_zero (by omega)
      subst hx0 hy0
      refine ⟨.slice none 0 0, w, ?_, ⟨by simp, .inl ⟨rfl, rfl⟩⟩, Turned.refl _ _, fun q hq => hq.elim⟩
      have hl := hsrc.len w
      have hc := hsrc.cells
      simp [Builtin.append_, run_underlying hB.slice, sizeOf, typeInfo, hi, hsz, hl, hc]
    | some a =>
      obtain ⟨_, ⟨h, _⟩ | ⟨g, off, cap', h, h2, h3, hg, h4, h5⟩⟩ := hv
      · cases h
      · cases h
        have hrun := run_append_room_src (P := P) w t t ty e i hB.slice hi g off n cap x m ys (by rw [hsz]; exact hsrc) hroom (fun j hj => by rw [hsz, Nat.add_assoc]; exact (h5 _ (by omega)).1) (fun j hj => by rw [hsz, Nat.add_assoc]; exact (h5 _ (by omega)).2)
        rw [hsz] at hrun
        have ht := Turned.setCells g ys (off + n * k) w
        have hin := World.cell?_setCells_in g ys (off + n * k) w (fun j hj => by rw [Nat.add_assoc]; exact (h5 _ (by omega)).1)
        have hout := World.cell?_setCells_out g ys (off + n * k) w
        refine ⟨_, _, hrun, ⟨by simp; omega, .inr ⟨g, off, cap, rfl, hroom, h3, Nat.lt_of_lt_of_le hg ht.size, fun j hj => ?_, fun j hj => ⟨?_, ?_⟩⟩⟩, ht.mono (fun q hq => .inl hq.symm), fun q hq => .inl hq⟩
        · by_cases hjx : j < xs.length
          · rw [hout ⟨g, off + j, none⟩ (fun _ _ => .inl (by simp; omega)), h4 j hjx, List.getElem_append_left hjx]
          · have hjy : j - xs.length < ys.length := by simp at hj; omega
            have := hin (j - xs.length) hjy
            rw [show off + n * k + (j - xs.length) = off + j by omega] at this
            rw [this, List.getElem_append_right (by omega)]
        · by_cases hjo : j < xs.length ∨ xs.length + ys.length ≤ j
          · rw [hout ⟨g, off + j, none⟩ (fun _ _ => by simp; omega)]; exact (h5 j hj).1
          · have hjy : j - xs.length < ys.length := by omega
            have := hin (j - xs.length) hjy
            rw [show off + n * k + (j - xs.length) = off + j by omega] at this
            rw [this]; rfl
        · rw [World.frozen?_setCells]; exact (h5 j hj).2
  · have hnext := nextslicecap_le (need := n + m) (old := cap) (by omega)
    have hnb : Builtin.nextslicecap (n + m) cap * b ≤ 2 * (n + m) * b := Nat.mul_le_mul_right b hnext
    have hrun := run_append_grow_src (P := P) w t t ty e i z hB.slice hi hz a n cap xs (by rw [hsz]; exact hold) x m ys (by rw [hsz]; exact hsrc) (by omega) (by omega) (by rw [hby]; rw [Nat.mul_assoc] at hnb; omega)
    have hge := grownCap_ge w (n + m) cap e
    have hle := grownCap_le_maxLen w (n + m) cap e (by unfold maxLen; omega)
    generalize grownCap w (n + m) cap e = c at hrun hge hle
    have hck : (n + m) * k ≤ c * k := Nat.mul_le_mul_right k hge
    have hsub : (c - (n + m)) * k = c * k - (n + m) * k := Nat.sub_mul _ _ _
    refine ⟨_, _, hrun, ⟨by simp; omega, .inr ⟨w.heap.size, 0, c, rfl, hge, hle, by simp, fun j hj => ?_, fun j hj => ?_⟩⟩, (Turned.drew _ _).trans (T := fun _ => False) (Turned.alloc _ _ _) (fun _ h => h.elim), fun q hq => .inr hq.symm⟩
    · rw [World.cell?_alloc_at _ _ _ _ (by simp), Nat.zero_add, Array.getElem?_append_left (by simpa using hj)]
      simp only [List.getElem?_toArray]
      exact List.getElem?_eq_getElem hj
    · refine ⟨?_, by rw [show w.heap.size = w.drew.heap.size from rfl, World.frozen?_alloc_new]⟩
      rw [World.cell?_alloc_at _ _ _ _ (by simp), Nat.zero_add]
      simp [size_zeroCells, hB.zero]
      omega

section
variable {P : Program} {t e : TypeId} {k b : Nat} {z : Value} {w : World} {v x : Value} {n m : Nat} {xs ys : List Value}

theorem wp_append_k {o : Oper} {a : Act} {K : Act → World → Prop} {Q : Exit → Act → World → Prop} (s y : Operand) (ho : o.op = .call { callee := .builtin .append, args := #[s, y], argTypes := #[t, t] })
    (hB : ElTypes P t e k b z) (hs : a.eval s = v) (hy : a.eval y = x) (hv : OwnK k w v n xs) (hx : SlK k w x m ys) (hx1 : ∀ u ∈ ys, u.oneCell' = true) (hfit : (n + m) * b ≤ 140737488355328) (hn : n + m ≤ 4611686018427387903)
    (h : ∀ v' w', OwnK k w' v' (n + m) (xs ++ ys) → Turned (blk v) w w' → (∀ q, blk v' q → blk v q ∨ q = w.heap.size) → K (a.put o.dst v') w') : o.wp P a w K Q := by
  obtain ⟨v', w', hr, h1, h2, h3⟩ := run_append_k hB o.type hv hx hx1 hfit hn
  unfold Oper.wp execOp
  simp only [ho, resolve, invoke, builtin, Sem.run_bind, Sem.run_pure, Result.andThen_ok, List.map_toArray, List.map_cons, List.map_nil, hs, hy, hr]
  exact h v' w' h1 h2 h3
theorem wpList_append_k {ops : Array Oper} {rest : List Oper} {o : Oper} {a : Act} {Q : Exit → Act → World → Prop} (hgd : o.guard = none) (s y : Operand) (ho : o.op = .call { callee := .builtin .append, args := #[s, y], argTypes := #[t, t] })
    (hB : ElTypes P t e k b z) (hs : a.eval s = v) (hy : a.eval y = x) (hv : OwnK k w v n xs) (hx : SlK k w x m ys) (hx1 : ∀ u ∈ ys, u.oneCell' = true) (hfit : (n + m) * b ≤ 140737488355328) (hn : n + m ≤ 4611686018427387903)
    (h : ∀ v' w', OwnK k w' v' (n + m) (xs ++ ys) → Turned (blk v) w w' → (∀ q, blk v' q → blk v q ∨ q = w.heap.size) → wpList P ops Q rest (a.put o.dst v') w') : wpList P ops Q (o :: rest) a w :=
  wpList_plain hgd fun _ hK => wp_append_k s y ho hB hs hy hv hx hx1 hfit hn fun v' w' h1 h2 h3 => hK _ _ (h v' w' h1 h2 h3)
theorem step_append_k {ops : Array Oper} {o : Oper} {a : Act} {K : Act → World → Prop} {Q : Exit → Act → World → Prop} {E : Prop} (hgd : o.guard = none) (s y : Operand) (ho : o.op = .call { callee := .builtin .append, args := #[s, y], argTypes := #[t, t] })
    (hB : ElTypes P t e k b z) (hs : a.eval s = v) (hy : a.eval y = x) (hv : OwnK k w v n xs) (hx : SlK k w x m ys) (hx1 : ∀ u ∈ ys, u.oneCell' = true) (hfit : (n + m) * b ≤ 140737488355328) (hn : n + m ≤ 4611686018427387903)
    (h : ∀ v' w', OwnK k w' v' (n + m) (xs ++ ys) → Turned (blk v) w w' → (∀ q, blk v' q → blk v q ∨ q = w.heap.size) → K (a.put o.dst v') w') :
    if Region.wanted o (yielded ops a.tmps) = true then Oper.wp P o a w K Q else E := by
  rw [if_pos (by simp [Region.wanted, hgd])]
  exact wp_append_k s y ho hB hs hy hv hx hx1 hfit hn h
end
end Go.Proofs.YtlgkjjbefoeabaaGreatDoor
