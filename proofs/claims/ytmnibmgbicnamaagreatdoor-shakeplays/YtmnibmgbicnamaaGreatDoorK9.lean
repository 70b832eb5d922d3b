/-
  Slices of slices in memory: what one reads as (SlV), that one may be appended to in place (OwnV); append of one-cell values.
  Slices of slices of bytes in memory: append of such; what they hold (Gather, Bodies).
  Layer 8 (shake): the program's sides in memory; small things of them.
  Layer 8 (shake): what the program's sides tell: digests, messages.
  Layer 8 (shake): which flags a node lacks, by the program.
-/
import Derived.Test.YtmnibmgbicnamaaGreatDoorK1
import Derived.Test.YtmnibmgbicnamaaGreatDoorK6
import Derived.Test.YtmnibmgbicnamaaGreatDoorK8
import Derived.Test.YtmnibmgbicnamaaGreatDoorK5
namespace Go.Proofs.YtmnibmgbicnamaaGreatDoor
open Go.RowKit

/-- The slice v holds the values vs. -/
def SlV (w : World) (v : Value) (vs : List Value) : Prop :=
  (v = .slice none 0 0 ∧ vs = []) ∨ ∃ g off cap, v = .slice (some ⟨g, off, none⟩) vs.length cap ∧ vs.length ≤ cap ∧ cap ≤ maxLen ∧ ∀ j (h : j < vs.length), w.cell? ⟨g, off + j, none⟩ = some vs[j]
/-- .. and what is left of its array may be written. -/
def OwnV (w : World) (v : Value) (vs : List Value) : Prop :=
  (v = .slice none 0 0 ∧ vs = []) ∨ ∃ g off cap, v = .slice (some ⟨g, off, none⟩) vs.length cap ∧ vs.length ≤ cap ∧ cap ≤ maxLen ∧ g < w.heap.size ∧ (∀ j (h : j < vs.length), w.cell? ⟨g, off + j, none⟩ = some vs[j]) ∧
    (∀ j, j < cap → (w.cell? ⟨g, off + j, none⟩).isSome = true ∧ w.frozen? ⟨g, off + j, none⟩ = false)

theorem OwnV.sl {w : World} {v : Value} {vs : List Value} (h : OwnV w v vs) : SlV w v vs := by
  rcases h with h | ⟨g, off, cap, h1, h2, h3, _, h4, _⟩
  · exact .inl h
  · exact .inr ⟨g, off, cap, h1, h2, h3, h4⟩
theorem SlV.turned {S : Nat → Prop} {w w' : World} {v : Value} {vs : List Value} (h : SlV w v vs) (ht : Turned S w w') (hs : ∀ k, blk v k → ¬ S k) : SlV w' v vs := by
  rcases h with h | ⟨g, off, cap, rfl, h2, h3, h4⟩
  · exact .inl h
  · exact .inr ⟨g, off, cap, rfl, h2, h3, fun j hj => ht.cell (h4 j hj) (hs g rfl)⟩
theorem OwnV.turned {S : Nat → Prop} {w w' : World} {v : Value} {vs : List Value} (h : OwnV w v vs) (ht : Turned S w w') (hs : ∀ k, blk v k → ¬ S k) : OwnV w' v vs := by
  rcases h with h | ⟨g, off, cap, rfl, h2, h3, hg, h4, h5⟩
  · exact .inl h
  · refine .inr ⟨g, off, cap, rfl, h2, h3, Nat.lt_of_lt_of_le hg ht.size, fun j hj => ht.cell (h4 j hj) (hs g rfl), fun j hj => ?_⟩
    obtain ⟨u, hu⟩ := Option.isSome_iff_exists.1 (h5 j hj).1
    exact ⟨by rw [ht.cell hu (hs g rfl)]; rfl, by rw [ht.frozen (p := ⟨g, off + j, none⟩) hg (hs g rfl)]; exact (h5 j hj).2⟩
theorem OwnV.blk_lt {w : World} {v : Value} {vs : List Value} (h : OwnV w v vs) : ∀ k, blk v k → k < w.heap.size := by
  rcases h with ⟨rfl, _⟩ | ⟨g, off, cap, rfl, _, _, hg, _⟩
  · intro k hk; exact hk.elim
  · intro k hk; exact (show g = k from hk) ▸ hg
theorem SlV.form {w : World} {v : Value} {vs : List Value} (h : SlV w v vs) : ∃ a cap, v = .slice a vs.length cap ∧ vs.length ≤ cap ∧ cap ≤ maxLen := by
  rcases h with ⟨rfl, rfl⟩ | ⟨g, off, cap, rfl, h2, h3, _⟩
  · exact ⟨none, 0, rfl, Nat.le_refl _, Nat.zero_le _⟩
  · exact ⟨_, cap, rfl, h2, h3⟩

/-- t is the type of slices of slices in P, e that of what they hold: of one cell and 24 bytes. -/
structure RowTypes (P : Program) (t e : TypeId) : Prop where
  slice : P.underlying t = some (.slice e)
  info : ∃ i, P.info? e = some i ∧ i.zero = some (.slice none 0 0) ∧ i.size = 1 ∧ i.bytes = 24

theorem OwnV.first {P : Program} {w : World} {v : Value} {xs : List Value} (h : OwnV w v xs) : ∃ a cap, v = .slice a xs.length cap ∧ (Builtin.firstCells 1 xs.length v).run P w.drew = .ok xs.toArray w.drew ∧ (a = none → xs.length = 0 ∧ cap = 0) := by
  rcases h with ⟨rfl, rfl⟩ | ⟨g, off, cap, rfl, _, _, _, h4, _⟩
  · exact ⟨none, 0, rfl, run_firstCells_none w.drew 1 0 0 0, fun _ => ⟨rfl, rfl⟩⟩
  · refine ⟨_, cap, rfl, run_firstCells_some w.drew 1 _ _ _ _ _ (by omega) (fun j u hj => ?_), fun h => by cases h⟩
    obtain ⟨hlt, rfl⟩ := List.getElem?_eq_some_iff.1 hj
    rw [Addr.add_lit]; exact h4 j hlt

/-- append(v, x...), x one value of one cell that lies at the head of a new block. -/
theorem run_append_row {P : Program} {t e : TypeId} (hB : RowTypes P t e) (ty : TypeId) {w : World} {v x : Value} {xs : List Value} (hv : OwnV w v xs) {gx : Nat} (hx : w.cell? ⟨gx, 0, none⟩ = some x) (hx1 : x.oneCell' = true) (hfit : xs.length ≤ 2199023255552) :
    ∃ v' w', (Builtin.append_ #[t, t] ty #[v, .slice (some ⟨gx, 0, none⟩) 1 1]).run P w = .ok v' w' ∧ OwnV w' v' (xs ++ [x]) ∧ Turned (blk v) w w' ∧ ∀ k, blk v' k → blk v k ∨ k = w.heap.size := by
  obtain ⟨i, hi, hz, hsz, hby⟩ := hB.info
  have hsrc : Src P 1 t (.slice (some ⟨gx, 0, none⟩) 1 1) 1 [x] w := Src.ofSlice w hB.slice _ _ _ _ rfl (fun j u hj => by
    match j, hj with
    | 0, hj => simp at hj; subst hj; rw [Addr.add_lit]; exact hx) (fun u hu => by simp at hu; subst hu; exact hx1)
  obtain ⟨a, cap, rfl, hold, hnone⟩ := hv.first (P := P)
  by_cases hroom : xs.length + 1 ≤ cap
  · cases a with
    | none =>
      obtain ⟨h1, h2⟩ := hnone rfl
      omega
    | some a =>
      rcases hv with ⟨h, _⟩ | ⟨g, off, cap', h, h2, h3, hg, h4, h5⟩
      · cases h
      · cases h
        have hrun := run_append_room_src (P := P) w t t ty e i hB.slice hi g off xs.length cap (.slice (some ⟨gx, 0, none⟩) 1 1) 1 [x] (by rw [hsz]; exact hsrc) hroom (fun j hj => by simp at hj; rw [hsz, Nat.mul_one, Nat.add_assoc]; exact (h5 _ (by omega)).1) (fun j hj => by simp at hj; rw [hsz, Nat.mul_one, Nat.add_assoc]; exact (h5 _ (by omega)).2)
        rw [hsz, Nat.mul_one] at hrun
        have ht := Turned.setCells g [x] (off + xs.length) w
        have hin := World.cell?_setCells_in g [x] (off + xs.length) w (fun j hj => by simp at hj; rw [Nat.add_assoc]; exact (h5 _ (by omega)).1)
        have hout := World.cell?_setCells_out g [x] (off + xs.length) w
        refine ⟨_, _, hrun, .inr ⟨g, off, cap, by simp, by simpa using hroom, h3, Nat.lt_of_lt_of_le hg ht.size, fun j hj => ?_, fun j hj => ⟨?_, ?_⟩⟩, ht.mono (fun k hk => .inl hk.symm), fun k hk => .inl hk⟩
        · by_cases hjx : j < xs.length
          · rw [hout ⟨g, off + j, none⟩ (fun _ _ => .inl (by simp; omega)), h4 j hjx, List.getElem_append_left hjx]
          · have hje : j = xs.length := by simp at hj; omega
            subst hje
            have := hin 0 (by simp)
            simp at this
            rw [this]
            simp
        · by_cases hjo : j < xs.length ∨ xs.length + 1 ≤ j
          · rw [hout ⟨g, off + j, none⟩ (fun _ _ => by simp; omega)]; exact (h5 j hj).1
          · have hje : j = xs.length := by omega
            subst hje
            have := hin 0 (by simp)
            simp at this
            rw [this]; rfl
        · rw [World.frozen?_setCells]; exact (h5 j hj).2
  · have hnext := nextslicecap_le (need := xs.length + 1) (old := cap) (by omega)
    have hrun := run_append_grow_src (P := P) w t t ty e i (.slice none 0 0) hB.slice hi hz a xs.length cap xs (by rw [hsz]; exact hold) (.slice (some ⟨gx, 0, none⟩) 1 1) 1 [x] (by rw [hsz]; exact hsrc) (by omega) (by omega) (by rw [hby]; omega)
    have hge := grownCap_ge w (xs.length + 1) cap e
    have hle := grownCap_le_maxLen w (xs.length + 1) cap e (by unfold maxLen; omega)
    generalize grownCap w (xs.length + 1) cap e = c at hrun hge hle
    refine ⟨_, _, hrun, .inr ⟨w.heap.size, 0, c, by simp, by simpa using hge, hle, by simp, fun j hj => ?_, fun j hj => ?_⟩, (Turned.drew _ _).trans (T := fun _ => False) (Turned.alloc _ _ _) (fun _ h => h.elim), fun k hk => .inr hk.symm⟩
    · have hj2 : j < xs.length + 1 := by simpa using hj
      rw [World.cell?_alloc_at _ _ _ _ (by simp), Nat.zero_add, Array.getElem?_append_left (by simp; omega)]
      simp only [List.getElem?_toArray]
      exact List.getElem?_eq_getElem hj
    · refine ⟨?_, by rw [show w.heap.size = w.drew.heap.size from rfl, World.frozen?_alloc_new]⟩
      rw [World.cell?_alloc_at _ _ _ _ (by simp), Nat.zero_add]
      simp [size_zeroCells, Value.cells]
      omega

section
variable {P : Program} {t e : TypeId} {w : World} {v x : Value} {xs : List Value}

theorem wp_append_row {o : Oper} {a : Act} {K : Act → World → Prop} {Q : Exit → Act → World → Prop} (s y : Operand) (ho : o.op = .call { callee := .builtin .append, args := #[s, y], argTypes := #[t, t] })
    (hB : RowTypes P t e) (hs : a.eval s = v) {gx : Nat} (hy : a.eval y = .slice (some ⟨gx, 0, none⟩) 1 1) (hv : OwnV w v xs) (hx : w.cell? ⟨gx, 0, none⟩ = some x) (hx1 : x.oneCell' = true) (hfit : xs.length ≤ 2199023255552)
    (h : ∀ v' w', OwnV w' v' (xs ++ [x]) → Turned (blk v) w w' → (∀ k, blk v' k → blk v k ∨ k = w.heap.size) → K (a.put o.dst v') w') : o.wp P a w K Q := by
  obtain ⟨v', w', hr, h1, h2, h3⟩ := run_append_row hB o.type hv hx hx1 hfit
  unfold Oper.wp execOp
  simp only [ho, resolve, invoke, builtin, Sem.run_bind, Sem.run_pure, Result.andThen_ok, List.map_toArray, List.map_cons, List.map_nil, hs, hy, hr]
  exact h v' w' h1 h2 h3
theorem wpList_append_row {ops : Array Oper} {rest : List Oper} {o : Oper} {a : Act} {Q : Exit → Act → World → Prop} (hgd : o.guard = none) (s y : Operand) (ho : o.op = .call { callee := .builtin .append, args := #[s, y], argTypes := #[t, t] })
    (hB : RowTypes P t e) (hs : a.eval s = v) {gx : Nat} (hy : a.eval y = .slice (some ⟨gx, 0, none⟩) 1 1) (hv : OwnV w v xs) (hx : w.cell? ⟨gx, 0, none⟩ = some x) (hx1 : x.oneCell' = true) (hfit : xs.length ≤ 2199023255552)
    (h : ∀ v' w', OwnV w' v' (xs ++ [x]) → Turned (blk v) w w' → (∀ k, blk v' k → blk v k ∨ k = w.heap.size) → wpList P ops Q rest (a.put o.dst v') w') : wpList P ops Q (o :: rest) a w :=
  wpList_plain hgd fun _ hK => wp_append_row s y ho hB hs hy hv hx hx1 hfit fun v' w' h1 h2 h3 => hK _ _ (h v' w' h1 h2 h3)
end
end Go.Proofs.YtmnibmgbicnamaaGreatDoor
namespace Go.Proofs.YtmnibmgbicnamaaGreatDoor
open Go.RowKit

/-- append(v, x...), both slices of slices. -/
theorem run_append_rows {P : Program} {t e : TypeId} (hB : RowTypes P t e) (ty : TypeId) {w : World} {v x : Value} {xs ys : List Value} (hv : OwnV w v xs) (hx : SlV w x ys) (hy1 : ∀ u ∈ ys, u.oneCell' = true) (hfit : xs.length + ys.length ≤ 2199023255552) :
    ∃ v' w', (Builtin.append_ #[t, t] ty #[v, x]).run P w = .ok v' w' ∧ OwnV w' v' (xs ++ ys) ∧ Turned (blk v) w w' ∧ ∀ k, blk v' k → blk v k ∨ k = w.heap.size := by
  obtain ⟨i, hi, hz, hsz, hby⟩ := hB.info
  have hsrc : Src P 1 t x ys.length ys w := by
    rcases hx with ⟨rfl, rfl⟩ | ⟨g, off, cap, rfl, _, _, h4⟩
    · exact Src.ofNil w hB.slice 0
    · refine Src.ofSlice w hB.slice _ _ _ _ (by omega) (fun j u hj => ?_) hy1
      obtain ⟨hlt, rfl⟩ := List.getElem?_eq_some_iff.1 hj
      rw [Addr.add_lit]; exact h4 j hlt
  obtain ⟨a, cap, rfl, hold, hnone⟩ := hv.first (P := P)
  by_cases hroom : xs.length + ys.length ≤ cap
  · cases a with
    | none =>
      obtain ⟨h1, h2⟩ := hnone rfl
      have hx0 : xs = [] := List.eq_nil_of_length_eq_zero h1
      have hy0 : ys = [] := List.eq_nil_of_length_eq_zero (by omega)
      subst hx0 hy0 h2
      refine ⟨.slice none 0 0, w, ?_, .inl ⟨rfl, rfl⟩, Turned.refl _ _, fun k hk => hk.elim⟩
      have hl := hsrc.len w
      have hc := hsrc.cells
      simp at hl hc
      simp [Builtin.append_, run_underlying hB.slice, sizeOf, typeInfo, hi, hsz, hl, hc]
    | some a =>
      rcases hv with ⟨h, _⟩ | ⟨g, off, cap', h, h2, h3, hg, h4, h5⟩
      · cases h
      · cases h
        have hrun := run_append_room_src (P := P) w t t ty e i hB.slice hi g off xs.length cap x ys.length ys (by rw [hsz]; exact hsrc) hroom (fun j hj => by rw [hsz, Nat.mul_one, Nat.add_assoc]; exact (h5 _ (by omega)).1) (fun j hj => by rw [hsz, Nat.mul_one, Nat.add_assoc]; exact (h5 _ (by omega)).2)
        rw [hsz, Nat.mul_one] at hrun
        have ht := Turned.setCells g ys (off + xs.length) w
        have hin := World.cell?_setCells_in g ys (off + xs.length) w (fun j hj => by rw [Nat.add_assoc]; exact (h5 _ (by omega)).1)
        have hout := World.cell?_setCells_out g ys (off + xs.length) w
        refine ⟨_, _, hrun, .inr ⟨g, off, cap, by simp, by simpa using hroom, h3, Nat.lt_of_lt_of_le hg ht.size, fun j hj => ?_, fun j hj => ⟨?_, ?_⟩⟩, ht.mono (fun k hk => .inl hk.symm), fun k hk => .inl hk⟩
        · by_cases hjx : j < xs.length
          · rw [hout ⟨g, off + j, none⟩ (fun _ _ => .inl (by simp; omega)), h4 j hjx, List.getElem_append_left hjx]
          · have hjy : j - xs.length < ys.length := by simp at hj; omega
            have := hin (j - xs.length) hjy
            rw [show off + xs.length + (j - xs.length) = off + j by omega] at this
            rw [this, List.getElem_append_right (by omega)]
        · by_cases hjo : j < xs.length ∨ xs.length + ys.length ≤ j
          · rw [hout ⟨g, off + j, none⟩ (fun _ _ => by simp; omega)]; exact (h5 j hj).1
          · have hjy : j - xs.length < ys.length := by omega
            have := hin (j - xs.length) hjy
            rw [show off + xs.length + (j - xs.length) = off + j by omega] at this
            rw [this]; rfl
        · rw [World.frozen?_setCells]; exact (h5 j hj).2
  · have hnext := nextslicecap_le (need := xs.length + ys.length) (old := cap) (by omega)
    have hrun := run_append_grow_src (P := P) w t t ty e i (.slice none 0 0) hB.slice hi hz a xs.length cap xs (by rw [hsz]; exact hold) x ys.length ys (by rw [hsz]; exact hsrc) (by omega) (by omega) (by rw [hby]; omega)
    have hge := grownCap_ge w (xs.length + ys.length) cap e
    have hle := grownCap_le_maxLen w (xs.length + ys.length) cap e (by unfold maxLen; omega)
    generalize grownCap w (xs.length + ys.length) cap e = c at hrun hge hle
    refine ⟨_, _, hrun, .inr ⟨w.heap.size, 0, c, by simp, by simpa using hge, hle, by simp, fun j hj => ?_, fun j hj => ?_⟩, (Turned.drew _ _).trans (T := fun _ => False) (Turned.alloc _ _ _) (fun _ h => h.elim), fun k hk => .inr hk.symm⟩
    · have hj2 : j < xs.length + ys.length := by simpa using hj
      rw [World.cell?_alloc_at _ _ _ _ (by simp), Nat.zero_add, Array.getElem?_append_left (by simp; omega)]
      simp only [List.getElem?_toArray]
      exact List.getElem?_eq_getElem hj
    · refine ⟨?_, by rw [show w.heap.size = w.drew.heap.size from rfl, World.frozen?_alloc_new]⟩
      rw [World.cell?_alloc_at _ _ _ _ (by simp), Nat.zero_add]
      simp [size_zeroCells, Value.cells]
      omega

section
variable {P : Program} {t e : TypeId} {w : World} {v x : Value} {xs ys : List Value}

theorem wp_append_rows {o : Oper} {a : Act} {K : Act → World → Prop} {Q : Exit → Act → World → Prop} (s y : Operand) (ho : o.op = .call { callee := .builtin .append, args := #[s, y], argTypes := #[t, t] })
    (hB : RowTypes P t e) (hs : a.eval s = v) (hy : a.eval y = x) (hv : OwnV w v xs) (hx : SlV w x ys) (hx1 : ∀ u ∈ ys, u.oneCell' = true) (hfit : xs.length + ys.length ≤ 2199023255552)
    (h : ∀ v' w', OwnV w' v' (xs ++ ys) → Turned (blk v) w w' → (∀ k, blk v' k → blk v k ∨ k = w.heap.size) → K (a.put o.dst v') w') : o.wp P a w K Q := by
  obtain ⟨v', w', hr, h1, h2, h3⟩ := run_append_rows hB o.type hv hx hx1 hfit
  unfold Oper.wp execOp
  simp only [ho, resolve, invoke, builtin, Sem.run_bind, Sem.run_pure, Result.andThen_ok, List.map_toArray, List.map_cons, List.map_nil, hs, hy, hr]
  exact h v' w' h1 h2 h3
theorem wpList_append_rows {ops : Array Oper} {rest : List Oper} {o : Oper} {a : Act} {Q : Exit → Act → World → Prop} (hgd : o.guard = none) (s y : Operand) (ho : o.op = .call { callee := .builtin .append, args := #[s, y], argTypes := #[t, t] })
    (hB : RowTypes P t e) (hs : a.eval s = v) (hy : a.eval y = x) (hv : OwnV w v xs) (hx : SlV w x ys) (hx1 : ∀ u ∈ ys, u.oneCell' = true) (hfit : xs.length + ys.length ≤ 2199023255552)
    (h : ∀ v' w', OwnV w' v' (xs ++ ys) → Turned (blk v) w w' → (∀ k, blk v' k → blk v k ∨ k = w.heap.size) → wpList P ops Q rest (a.put o.dst v') w') : wpList P ops Q (o :: rest) a w :=
  wpList_plain hgd fun _ hK => wp_append_rows s y ho hB hs hy hv hx hx1 hfit fun v' w' h1 h2 h3 => hK _ _ (h v' w' h1 h2 h3)
theorem step_append_rows {ops : Array Oper} {o : Oper} {a : Act} {K : Act → World → Prop} {Q : Exit → Act → World → Prop} {E : Prop} (hgd : o.guard = none) (s y : Operand) (ho : o.op = .call { callee := .builtin .append, args := #[s, y], argTypes := #[t, t] })
    (hB : RowTypes P t e) (hs : a.eval s = v) (hy : a.eval y = x) (hv : OwnV w v xs) (hx : SlV w x ys) (hx1 : ∀ u ∈ ys, u.oneCell' = true) (hfit : xs.length + ys.length ≤ 2199023255552)
    (h : ∀ v' w', OwnV w' v' (xs ++ ys) → Turned (blk v) w w' → (∀ k, blk v' k → blk v k ∨ k = w.heap.size) → K (a.put o.dst v') w') :
    if Region.wanted o (yielded ops a.tmps) = true then Oper.wp P o a w K Q else E := by
  rw [if_pos (by simp [Region.wanted, hgd])]
  exact wp_append_rows s y ho hB hs hy hv hx hx1 hfit h
end
/-- The slice v holds slices that read as ls; all of them lie from B on. -/
def Bodies (w : World) (B : Nat) (v : Value) (ls : List (List Int)) : Prop :=
  ∃ vs, SlV w v vs ∧ vs.length = ls.length ∧ (∀ k, blk v k → B ≤ k ∧ k < w.heap.size) ∧ ∀ i (h1 : i < vs.length) (h2 : i < ls.length), Sl w vs[i] ls[i] ∧ ∀ k, blk vs[i] k → B ≤ k
/-- .. and may be appended to. -/
structure Gather (w : World) (B : Nat) (v : Value) (vs : List Value) (ls : List (List Int)) : Prop where
  own : OwnV w v vs
  len : vs.length = ls.length
  each : ∀ i (h1 : i < vs.length) (h2 : i < ls.length), Sl w vs[i] ls[i]
  off : ∀ i (h1 : i < vs.length), ∀ k, blk vs[i] k → B ≤ k ∧ k < w.heap.size ∧ ¬ blk v k
  big : ∀ k, blk v k → B ≤ k

theorem Gather.nil (w : World) (B : Nat) : Gather w B (.slice none 0 0) [] [] := ⟨.inl ⟨rfl, rfl⟩, rfl, fun i h => absurd h (Nat.not_lt_zero i), fun i h => absurd h (Nat.not_lt_zero i), fun _ h => h.elim⟩
theorem Gather.bodies {w : World} {B : Nat} {v : Value} {vs : List Value} {ls : List (List Int)} (h : Gather w B v vs ls) : Bodies w B v ls := ⟨vs, h.own.sl, h.len, fun k hk => ⟨h.big k hk, h.own.blk_lt k hk⟩, fun i h1 h2 => ⟨h.each i h1 h2, fun k hk => (h.off i h1 k hk).1⟩⟩
theorem Gather.turned {w w' : World} {B : Nat} {v : Value} {vs : List Value} {ls : List (List Int)} (h : Gather w B v vs ls) (T : Turned (fun _ => False) w w') : Gather w' B v vs ls :=
  ⟨h.own.turned T (fun _ _ h => h), h.len, fun i h1 h2 => (h.each i h1 h2).turned T (fun _ _ h => h), fun i h1 k hk => ⟨(h.off i h1 k hk).1, Nat.lt_of_lt_of_le (h.off i h1 k hk).2.1 T.size, (h.off i h1 k hk).2.2⟩, h.big⟩
/-- One more. -/
theorem Gather.snoc {w w1 : World} {B : Nat} {v v' x : Value} {vs : List Value} {ls : List (List Int)} {l : List Int} (h : Gather w B v vs ls) (hB : B ≤ w.heap.size) (hx : Sl w x l) (hxo : ∀ k, blk x k → B ≤ k ∧ k < w.heap.size ∧ ¬ blk v k)
    (ho : OwnV w1 v' (vs ++ [x])) (ht : Turned (blk v) w w1) (hv : ∀ k, blk v' k → blk v k ∨ k = w.heap.size) : Gather w1 B v' (vs ++ [x]) (ls ++ [l]) := by
  have hz := ht.size
  refine ⟨ho, by simp [h.len], fun i h1 h2 => ?_, fun i h1 k hk => ?_, fun k hk => (hv k hk).elim (h.big k) (fun e => by omega)⟩
  · by_cases hi : i < vs.length
    · rw [List.getElem_append_left hi, List.getElem_append_left (by rw [← h.len]; exact hi)]
      exact (h.each i hi (by rw [← h.len]; exact hi)).turned ht (fun k hk => (h.off i hi k hk).2.2)
    · have e1 : i = vs.length := by simp at h1; omega
      have e2 : i = ls.length := by rw [← h.len]; exact e1
      rw [List.getElem_append_right (by omega), List.getElem_append_right (by omega)]
      simp only [e1, h.len, Nat.sub_self, List.getElem_cons_zero]
      exact hx.turned ht (fun k hk => (hxo k hk).2.2)
  · have key : B ≤ k ∧ k < w.heap.size ∧ ¬ blk v k := by
      by_cases hi : i < vs.length
      · rw [List.getElem_append_left hi] at hk
        exact h.off i hi k hk
      · rw [List.getElem_append_right (by omega)] at hk
        have e1 : i - vs.length = 0 := by simp at h1; omega
        simp only [e1, List.getElem_cons_zero] at hk
        exact hxo k hk
    exact ⟨key.1, by omega, fun hb => (hv k hb).elim key.2.2 (fun e => by omega)⟩

theorem Tryz.rows : RowTypes Tryz.prog 56 25 := by
  refine ⟨Tryz.underlying56, ?_⟩
  have h : (Tryz.prog.info? 25).map (fun i => (i.zero, i.size, i.bytes)) = some (some (.slice none 0 0), 1, 24) := by kernel_rfl
  obtain ⟨i, hi, h0, h1, h2⟩ := info_parts h
  exact ⟨i, hi, h0, h1, h2⟩

end Go.Proofs.YtmnibmgbicnamaaGreatDoor
namespace Go.Proofs.YtmnibmgbicnamaaGreatDoor
open Go.RowKit

/-- A side's cells. -/
def sdCell (g : Nat) (st : Int) (p : Pr) (si : Bool) (me : Pr) (want cookie : ByteArray) (ch : Int) : Nat → Value
  | 0 => .pointer (some ⟨g, 0, none⟩)
  | 1 => .int .i64 st
  | 2 => .string p.name
  | 3 => .int .u64 p.flags
  | 4 => .int .u32 p.creation
  | 5 => .bool si
  | 6 => .string me.name
  | 7 => .int .u64 me.flags
  | 8 => .int .u32 me.creation
  | 9 => .string want
  | 10 => .string cookie
  | _ => .int .u32 ch
theorem forall12 {p : Nat → Prop} (h0 : p 0) (h1 : p 1) (h2 : p 2) (h3 : p 3) (h4 : p 4) (h5 : p 5) (h6 : p 6) (h7 : p 7) (h8 : p 8) (h9 : p 9) (h10 : p 10) (h11 : p 11) : ∀ j, j < 12 → p j
  | 0, _ => h0 | 1, _ => h1 | 2, _ => h2 | 3, _ => h3 | 4, _ => h4 | 5, _ => h5 | 6, _ => h6 | 7, _ => h7 | 8, _ => h8 | 9, _ => h9 | 10, _ => h10 | 11, _ => h11
  | j + 12, h => by omega
/-- A side in memory, as it keeps itself: what it was made of it may have forgotten. -/
structure SideM (w : World) (g : Nat) (s : Sd) (me : Pr) (want cookie : ByteArray) (ch : Int) : Prop where
  cells : Block w g 12 (sdCell g s.state s.peer s.simult me want cookie ch)
  keeps : s.state ≠ 7 → s.state ≠ 8 → cookie = s.cookie ∧ ch = s.challenge ∧ (s.state ≤ 3 → want = s.want) ∧ (4 ≤ s.state → me = s.me)
def SideAt (w : World) (g : Nat) (s : Sd) : Prop := ∃ me want cookie ch, SideM w g s me want cookie ch
theorem SideM.turned {S : Nat → Prop} {w w' : World} {g : Nat} {s : Sd} {me : Pr} {want cookie : ByteArray} {ch : Int} (h : SideM w g s me want cookie ch) (ht : Turned S w w') (hs : ¬ S g) : SideM w' g s me want cookie ch := ⟨h.cells.turned ht hs, h.keeps⟩
theorem SideAt.turned {S : Nat → Prop} {w w' : World} {g : Nat} {s : Sd} (h : SideAt w g s) (ht : Turned S w w') (hs : ¬ S g) : SideAt w' g s := by
  obtain ⟨me, want, cookie, ch, h⟩ := h
  exact ⟨me, want, cookie, ch, h.turned ht hs⟩
theorem SideAt.below {w w' : World} {g : Nat} {s : Sd} (h : SideAt w g s) (hb : Below w.heap.size w w') : SideAt w' g s := h.turned (Turned.ofBelow (S := fun _ => False) hb) (fun h => h)
theorem SideM.lt {w : World} {g : Nat} {s : Sd} {me : Pr} {want cookie : ByteArray} {ch : Int} (h : SideM w g s me want cookie ch) : g < w.heap.size := h.cells.lt (by omega)
theorem SideAt.lt {w : World} {g : Nat} {s : Sd} (h : SideAt w g s) : g < w.heap.size := by
  obtain ⟨_, _, _, _, h⟩ := h
  exact h.lt
/-- Errors' type and the powers of ten lie in their variables. -/
structure Gd (w : World) : Prop where
  er : Er w
  tb : Tb w
theorem Gd.below {w w' : World} (h : Gd w) (hb : Below w.heap.size w w') : Gd w' := ⟨h.er.below hb, h.tb.below hb⟩
/-- How many of the first blocks are variables'. -/
theorem Gd.lt {w : World} (h : Gd w) : 0 < w.heap.size := h.er.lt

theorem Tryz.eqlSide (g : Nat) (w : World) : (binOp .eql 50 (.pointer (some ⟨g, 0, none⟩)) (.pointer (some ⟨g, 0, none⟩))).run Tryz.prog w = .ok (.bool true) w := by
  have h : ∀ d : Nat, (Op.equalIn (d + 1) 50 (.pointer (some ⟨g, 0, none⟩)) (.pointer (some ⟨g, 0, none⟩))).run Tryz.prog w = .ok true w := fun d => by simp [Op.equalIn, run_underlying Tryz.underlying50, sameAddr]
  simp only [binOp]
  simp [Op.equal, Op.maxDepth, h 9999]
theorem Tryz.eqlNilSide (a : Addr) (w : World) : (binOp .eql 50 (.pointer none) (.pointer (some a))).run Tryz.prog w = .ok (.bool false) w := by
  have h : ∀ d : Nat, (Op.equalIn (d + 1) 50 (.pointer none) (.pointer (some a))).run Tryz.prog w = .ok false w := fun d => by simp [Op.equalIn, run_underlying Tryz.underlying50]
  simp only [binOp]
  simp [Op.equal, Op.maxDepth, h 9999]
set_option maxRecDepth 100000 in
theorem sd_made {w : World} {g : Nat} {f : Nat → Value} (h : Block w g 12 f) (h0 : f 0 = .pointer (some ⟨g, 0, none⟩)) : Calls Tryz.prog 59 #[.pointer (some ⟨g, 0, none⟩)] w fun e w' => e = .returned (.bool true) ∧ w = w' := by
  obtain ⟨k0, _⟩ := h 0 (by omega)
  rw [h0] at k0
  have he := Tryz.eqlSide g
  clear h h0
  go_enter Tryz.func59, Tryz.ntmps59
  go_wp2
  go_ret
  exact ⟨rfl, rfl⟩
/-- What stands in the way of Take (or Answer). -/
def enterErr (answers : Bool) (st : Int) : List Lnk := if st = 8 then sh 0 8 else if answers = true then (if st = 5 then [] else sh 0 161) else (if st = 7 ∨ st = 5 then sh 0 161 else [])
set_option maxRecDepth 100000 in
set_option maxHeartbeats 1600000 in
theorem sd_enter {w : World} {g : Nat} {st : Int} {p : Pr} {si : Bool} {me : Pr} {want cookie : ByteArray} {ch : Int} (h : Block w g 12 (sdCell g st p si me want cookie ch)) (ans : Bool) : Calls Tryz.prog 49 #[.pointer (some ⟨g, 0, none⟩), .bool ans] w fun e w' => ∃ v, e = .returned v ∧ FaultC w.heap.size w' v (enterErr ans st) ∧ Below w.heap.size w w' := by
  have hmd := sd_made h rfl
  obtain ⟨k1, _⟩ := h 1 (by omega)
  simp only [sdCell] at k1
  have HE : Hid (∀ ls, enterErr ans st = ls → ls = enterErr ans st) := fun _ h => h.symm
  obtain ⟨ls, hls⟩ : ∃ ls, ls = enterErr ans st := ⟨_, rfl⟩
  rw [← hls]
  have HLS : Hid (ls = enterErr ans st) := hls
  clear hls h HE
  by_cases h8 : st = 8
  · subst h8
    go_enter Tryz.func49, Tryz.ntmps49
    go_wp2_with fail
    refine hmd.mono ?_
    rintro e w' ⟨rfl, rfl⟩
    go_wp2_with fail
    refine (sh_refuse _ _ _).mono ?_
    rintro e w2 ⟨v, rfl, hf, hb⟩
    have HF : Hid (FaultC w.heap.size w2 v (sh 0 8)) := hf
    obtain ⟨pb, _, rfl, _⟩ := hf
    go_wp2
    go_ret
    exact ⟨_, rfl, by rw [HLS.out]; exact HF.out, hb⟩
  have q8 : (st == 8) = false := by simpa using h8
  by_cases h5 : st = 5
  · subst h5
    cases ans with
    | true =>
      go_enter Tryz.func49, Tryz.ntmps49
      go_wp2_with fail
      refine hmd.mono ?_
      rintro e w' ⟨rfl, rfl⟩
      go_wp2
      go_ret
      exact ⟨_, rfl, by rw [HLS.out]; rfl, Below.refl _ _⟩
    | false =>
      go_enter Tryz.func49, Tryz.ntmps49
      go_wp2_with fail
      refine hmd.mono ?_
      rintro e w' ⟨rfl, rfl⟩
      go_wp2_with fail
      refine (sh_refuse _ _ _).mono ?_
      rintro e w2 ⟨v, rfl, hf, hb⟩
      have HF : Hid (FaultC w.heap.size w2 v (sh 0 161)) := hf
      obtain ⟨pb, _, rfl, _⟩ := hf
      go_wp2
      go_ret
      exact ⟨_, rfl, by rw [HLS.out]; exact HF.out, hb⟩
  have q5 : (st == 5) = false := by simpa using h5
  by_cases h7 : st = 7
  · subst h7
    have HL2 : Hid (ls = sh 0 161) := by rw [HLS.out]; cases ans <;> rfl
    go_enter Tryz.func49, Tryz.ntmps49
    go_wp2_with fail
    refine hmd.mono ?_
    rintro e w' ⟨rfl, rfl⟩
    go_wp2_with fail
    refine (sh_refuse _ _ _).mono ?_
    rintro e w2 ⟨v, rfl, hf, hb⟩
    have HF : Hid (FaultC w.heap.size w2 v (sh 0 161)) := hf
    obtain ⟨pb, _, rfl, _⟩ := hf
    go_wp2
    go_ret
    exact ⟨_, rfl, by rw [HL2.out]; exact HF.out, hb⟩
  have q7 : (st == 7) = false := by simpa using h7
  cases ans with
  | true =>
    have hL2 : ls = sh 0 161 := by rw [HLS.out]; simp [enterErr, h8, h5]
    have HL2 : Hid (ls = sh 0 161) := hL2
    clear hL2
    go_enter Tryz.func49, Tryz.ntmps49
    go_wp2_with fail
    refine hmd.mono ?_
    rintro e w' ⟨rfl, rfl⟩
    go_wp2_with fail
    refine (sh_refuse _ _ _).mono ?_
    rintro e w2 ⟨v, rfl, hf, hb⟩
    have HF : Hid (FaultC w.heap.size w2 v (sh 0 161)) := hf
    obtain ⟨pb, _, rfl, _⟩ := hf
    go_wp2
    go_ret
    exact ⟨_, rfl, by rw [HL2.out]; exact HF.out, hb⟩
  | false =>
    have hL2 : ls = [] := by rw [HLS.out]; simp [enterErr, h8, h5, h7]
    have HL2 : Hid (ls = []) := hL2
    clear hL2
    go_enter Tryz.func49, Tryz.ntmps49
    go_wp2_with fail
    refine hmd.mono ?_
    rintro e w' ⟨rfl, rfl⟩
    go_wp2
    go_ret
    exact ⟨_, rfl, by rw [HL2.out]; rfl, Below.refl _ _⟩

theorem turned12 (w : World) (g : Nat) (v : Nat → Value) : Turned (fun k => k = g) w ((((((((((((w.setCell ⟨g, 0, none⟩ (v 0)).setCell ⟨g, 1, none⟩ (v 1)).setCell ⟨g, 2, none⟩ (v 2)).setCell ⟨g, 3, none⟩ (v 3)).setCell ⟨g, 4, none⟩ (v 4)).setCell ⟨g, 5, none⟩ (v 5)).setCell ⟨g, 6, none⟩ (v 6)).setCell ⟨g, 7, none⟩ (v 7)).setCell ⟨g, 8, none⟩ (v 8)).setCell ⟨g, 9, none⟩ (v 9)).setCell ⟨g, 10, none⟩ (v 10)).setCell ⟨g, 11, none⟩ (v 11)) :=
  (((((turned7 w g (v 0) (v 1) (v 2) (v 3) (v 4) (v 5) (v 6)).trans (Turned.set1 _ g 7 (v 7)) (fun _ h => .inl h)).trans (Turned.set1 _ g 8 (v 8)) (fun _ h => .inl h)).trans (Turned.set1 _ g 9 (v 9)) (fun _ h => .inl h)).trans (Turned.set1 _ g 10 (v 10)) (fun _ h => .inl h)).trans (Turned.set1 _ g 11 (v 11)) (fun _ h => .inl h)
theorem block12 {w : World} {g : Nat} {f : Nat → Value} (h : Block w g 12 f) (v : Nat → Value) : Block ((((((((((((w.setCell ⟨g, 0, none⟩ (v 0)).setCell ⟨g, 1, none⟩ (v 1)).setCell ⟨g, 2, none⟩ (v 2)).setCell ⟨g, 3, none⟩ (v 3)).setCell ⟨g, 4, none⟩ (v 4)).setCell ⟨g, 5, none⟩ (v 5)).setCell ⟨g, 6, none⟩ (v 6)).setCell ⟨g, 7, none⟩ (v 7)).setCell ⟨g, 8, none⟩ (v 8)).setCell ⟨g, 9, none⟩ (v 9)).setCell ⟨g, 10, none⟩ (v 10)).setCell ⟨g, 11, none⟩ (v 11)) g 12 v :=
  ((((((((((((h.set 0 (v 0)).set 1 (v 1)).set 2 (v 2)).set 3 (v 3)).set 4 (v 4)).set 5 (v 5)).set 6 (v 6)).set 7 (v 7)).set 8 (v 8)).set 9 (v 9)).set 10 (v 10)).set 11 (v 11)).congr (forall12 rfl rfl rfl rfl rfl rfl rfl rfl rfl rfl rfl rfl)
set_option maxRecDepth 100000 in
set_option maxHeartbeats 1600000 in
theorem sd_die {w : World} {g : Nat} {st : Int} {p : Pr} {si : Bool} {me : Pr} {want cookie : ByteArray} {ch : Int} (h : Block w g 12 (sdCell g st p si me want cookie ch)) (s : Sd) : Calls Tryz.prog 52 #[.pointer (some ⟨g, 0, none⟩)] w fun e w' => e = .returned (.tuple #[]) ∧ SideAt w' g s.dead ∧ Turned (fun k => k = g) w w' := by
  have HB : Hid (Block w g 12 (sdCell g st p si me want cookie ch)) := h
  obtain ⟨k0, f0⟩ := h 0 (by omega)
  obtain ⟨k1, f1⟩ := h 1 (by omega)
  obtain ⟨k2, f2⟩ := h 2 (by omega)
  obtain ⟨k3, f3⟩ := h 3 (by omega)
  obtain ⟨k4, f4⟩ := h 4 (by omega)
  obtain ⟨k5, f5⟩ := h 5 (by omega)
  obtain ⟨k6, f6⟩ := h 6 (by omega)
  obtain ⟨k7, f7⟩ := h 7 (by omega)
  obtain ⟨k8, f8⟩ := h 8 (by omega)
  obtain ⟨k9, f9⟩ := h 9 (by omega)
  obtain ⟨k10, f10⟩ := h 10 (by omega)
  obtain ⟨k11, f11⟩ := h 11 (by omega)
  simp only [sdCell] at k0 k1 k2 k3 k4 k5 k6 k7 k8 k9 k10 k11
  clear h
  go_enter Tryz.func52, Tryz.ntmps52
  go_wp2
  go_end0
  refine ⟨rfl, ⟨.zero, ⟨#[]⟩, ⟨#[]⟩, 0, block12 HB.out (sdCell g 8 .zero false .zero ⟨#[]⟩ ⟨#[]⟩ 0), fun _ h8 => absurd rfl h8⟩, turned12 w g (sdCell g 8 .zero false .zero ⟨#[]⟩ ⟨#[]⟩ 0)⟩
set_option maxRecDepth 100000 in
set_option maxHeartbeats 1600000 in
theorem sd_rise {w : World} {g : Nat} {st : Int} {p : Pr} {si : Bool} {me : Pr} {want cookie : ByteArray} {ch : Int} (h : Block w g 12 (sdCell g st p si me want cookie ch)) (s : Sd) (hp : s.peer = p) (hsi : s.simult = si) : Calls Tryz.prog 106 #[.pointer (some ⟨g, 0, none⟩)] w fun e w' => e = .returned (.tuple #[]) ∧ SideAt w' g { s with state := 7 } ∧ Turned (fun k => k = g) w w' := by
  have HB : Hid (Block w g 12 (sdCell g st p si me want cookie ch)) := h
  obtain ⟨k0, f0⟩ := h 0 (by omega)
  obtain ⟨k1, f1⟩ := h 1 (by omega)
  obtain ⟨k2, f2⟩ := h 2 (by omega)
  obtain ⟨k3, f3⟩ := h 3 (by omega)
  obtain ⟨k4, f4⟩ := h 4 (by omega)
  obtain ⟨k5, f5⟩ := h 5 (by omega)
  obtain ⟨k6, f6⟩ := h 6 (by omega)
  obtain ⟨k7, f7⟩ := h 7 (by omega)
  obtain ⟨k8, f8⟩ := h 8 (by omega)
  obtain ⟨k9, f9⟩ := h 9 (by omega)
  obtain ⟨k10, f10⟩ := h 10 (by omega)
  obtain ⟨k11, f11⟩ := h 11 (by omega)
  simp only [sdCell] at k0 k1 k2 k3 k4 k5 k6 k7 k8 k9 k10 k11
  clear h
  subst hp hsi
  go_enter Tryz.func106, Tryz.ntmps106
  go_wp2
  go_end0
  have T := (Turned.set1 w g 1 (.int .i64 7)).trans (turned12 (w.setCell ⟨g, 1, none⟩ (.int .i64 7)) g (sdCell g 7 s.peer s.simult .zero ⟨#[]⟩ ⟨#[]⟩ 0)) (fun _ h => .inl h)
  exact ⟨rfl, ⟨.zero, ⟨#[]⟩, ⟨#[]⟩, 0, block12 (Block.set HB.out 1 (.int .i64 7)) (sdCell g 7 s.peer s.simult .zero ⟨#[]⟩ ⟨#[]⟩ 0), fun h7 => absurd rfl h7⟩, T⟩
set_option maxRecDepth 100000 in
set_option maxHeartbeats 1600000 in
/-- The program's Now. -/
theorem sd_now {w : World} {g : Nat} {s : Sd} (h : SideAt w g s) : Calls Tryz.prog 22 #[.pointer (some ⟨g, 0, none⟩)] w fun e w' => e = .returned (.agg #[.int .i64 s.state, .string s.peer.name, .int .u64 s.peer.flags, .int .u32 s.peer.creation, .bool s.simult]) ∧ Below w.heap.size w w' := by
  obtain ⟨me, want, cookie, ch, h⟩ := h
  have hgl := h.lt
  have hmd := fun o : Obj => sd_made (h.cells.turned (alloc0m w o) (fun h => h)) rfl
  obtain ⟨k1, _⟩ := h.cells 1 (by omega)
  obtain ⟨k2, _⟩ := h.cells 2 (by omega)
  obtain ⟨k3, _⟩ := h.cells 3 (by omega)
  obtain ⟨k4, _⟩ := h.cells 4 (by omega)
  obtain ⟨k5, _⟩ := h.cells 5 (by omega)
  simp only [sdCell] at k1 k2 k3 k4 k5
  clear h
  go_enter Tryz.func22, Tryz.ntmps22
  go_wp2_with fail
  refine (hmd _).mono ?_
  rintro e w' ⟨rfl, rfl⟩
  go_wp2
  refine bodyPost_ret (v := .agg #[.int .i64 s.state, .string s.peer.name, .int .u64 s.peer.flags, .int .u32 s.peer.creation, .bool s.simult]) (by simp [results, Tryz.results22, go_sem]) rfl ⟨rfl, ?_⟩
  exact (Below.refl _ _).alloc (Nat.le_refl _) _
end Go.Proofs.YtmnibmgbicnamaaGreatDoor
namespace Go.Proofs.YtmnibmgbicnamaaGreatDoor
open Go.RowKit

theorem digest_told {s : ByteArray} (h : cookieErr s = none) (n : Nat) : digestTold s n = digestOf s n := by
  unfold digestTold
  rw [h]
  rfl
set_option maxRecDepth 100000 in
set_option maxHeartbeats 1600000 in
theorem sd_digest {w : World} {g : Nat} {st : Int} {p : Pr} {si : Bool} {me : Pr} {want cookie : ByteArray} {ch : Int} (h : Block w g 12 (sdCell g st p si me want cookie ch)) (hc : cookieErr cookie = none) (n : Nat) (hn : n < 4294967296) (hg : Gd w) :
    Calls Tryz.prog 104 #[.pointer (some ⟨g, 0, none⟩), .int .u32 n] w fun e w' => ∃ V, e = .returned V ∧ Own w' V (digestOf cookie n) ∧ Below w.heap.size w w' ∧ ∀ k, blk V k → w.heap.size ≤ k := by
  have hsz := cookie_size hc
  have hd := mix_impl.digest cookie (by omega) n hn w hg.tb
  rw [hc, digest_told hc n] at hd
  obtain ⟨k10, _⟩ := h 10 (by omega)
  simp only [sdCell] at k10
  clear h hc
  go_enter Tryz.func104, Tryz.ntmps104
  go_wp2_with fail
  refine hd.mono ?_
  rintro e w1 ⟨V, v, rfl, he, ho, hb, hk⟩
  have he : v = .nilIface := he
  subst he
  have HN : Hid (Own w1 V (digestOf cookie n) ∧ Below w.heap.size w w1 ∧ ∀ k, blk V k → w.heap.size ≤ k) := ⟨ho, hb, hk⟩
  obtain ⟨aV, cV, LV, rfl⟩ : ∃ a c L, V = .slice a L c := ⟨_, _, _, ho.sl.form.choose_spec.choose_spec.1⟩
  clear ho hb hk hd
  go_wp2
  go_ret
  exact ⟨_, rfl, HN.out⟩
set_option maxRecDepth 100000 in
set_option maxHeartbeats 1600000 in
theorem sd_shown {w : World} {g : Nat} {st : Int} {p : Pr} {si : Bool} {me : Pr} {want cookie : ByteArray} {ch : Nat} (h : Block w g 12 (sdCell g st p si me want cookie ch)) (hc : cookieErr cookie = none) (hch : ch < 4294967296) {D : Value} {ds : List Int} (hD : Sl w D ds) (hr : ∀ z ∈ ds, 0 ≤ z ∧ z < 256) (hl : ds.length ≤ 140737488355328) (hg : Gd w) :
    Calls Tryz.prog 105 #[.pointer (some ⟨g, 0, none⟩), D] w fun e w' => e = .returned (.bool (decide (ds = digestOf cookie ch))) ∧ Below w.heap.size w w' := by
  have hsz := cookie_size hc
  have hgl : g < w.heap.size := h.lt (by omega)
  have hsm := fun q : Nat => mix_impl.same cookie (by omega) ch hch (hg.tb.below (drewN_below w q)) (hD.turned (Turned.ofBelow (S := fun _ => False) (drewN_below w q)) (fun _ _ h => h)) hr hl
  simp only [same_iff cookie ch hc ds hr] at hsm
  obtain ⟨aD, cD, LD, rfl⟩ : ∃ a c L, D = .slice a L c := ⟨_, _, _, hD.form.choose_spec.choose_spec.1⟩
  obtain ⟨k10, _⟩ := h 10 (by omega)
  obtain ⟨k11, _⟩ := h 11 (by omega)
  simp only [sdCell] at k10 k11
  generalize decide (ds = digestOf cookie ch) = bb at hsm
  clear h hc hD hr hl
  go_enter Tryz.func105, Tryz.ntmps105
  go_wp2_with fail
  go_region_held3 (fun w' => w'.cell? ⟨g, 10, none⟩ = some (.string cookie) ∧ w'.cell? ⟨g, 11, none⟩ = some (.int .u32 (ch : Nat)))
    (go_keep)
    (first | (go_at_call 115; refine (hsm 1).mono ?_; rintro e w1 ⟨rfl, hb1⟩; have s1 := (hb1.cell (p := ⟨g, 10, none⟩) hgl).trans k10; have s2 := (hb1.cell (p := ⟨g, 11, none⟩) hgl).trans k11))
  all_goals
    go_wp2
    go_ret
    exact ⟨rfl, (drewN_below w 1).trans hb1⟩
set_option maxRecDepth 100000 in
set_option maxHeartbeats 1600000 in
theorem sd_tell (m : Msg) (hm : m.Ok) (hns : m.name.size ≤ 4611686018427387904) {w : World} {D : Value} (hD : Sl w D m.digest) (her : Er w) : Calls Tryz.prog 51 #[msgV' m D] w fun e w' => ∃ V, e = .returned V ∧ Own w' V (writeOf m) ∧ Below w.heap.size w w' ∧ ∀ k, blk V k → w.heap.size ≤ k := by
  have hW := fun o : Obj => sh_Write m hm hns (hD.turned (alloc0m w o) (fun _ _ h => h)) (her.below ((Below.refl _ _).alloc (Nat.le_refl _) o))
  obtain ⟨aD, cD, LD, rfl⟩ : ∃ a c L, D = .slice a L c := ⟨_, _, _, hD.form.choose_spec.choose_spec.1⟩
  unfold msgV' at hW ⊢
  have HE : Hid (∀ m w e w', WriteTold m w e w' → WriteTold m w e w') := fun _ _ _ _ h => h
  clear hD her
  generalize hWT : writeOf m = zs
  have HWT : Hid (writeOf m = zs) := hWT
  clear hWT
  go_enter Tryz.func51, Tryz.ntmps51
  go_wp2_with fail
  refine (hW _).mono ?_
  rintro e w1 ⟨V, v, rfl, ho, hf, hb, hk⟩
  have HN : Hid (Own w1 V (writeOf m) ∧ Below w.heap.size w w1 ∧ ∀ k, blk V k → w.heap.size ≤ k) := ⟨ho, ((Below.refl _ _).alloc (Nat.le_refl _) _).trans (hb.mono (by simp)), fun k h => by have := hk k h; simp at this; omega⟩
  obtain ⟨aV, cV, LV, rfl⟩ : ∃ a c L, V = .slice a L c := ⟨_, _, _, ho.sl.form.choose_spec.choose_spec.1⟩
  have hv : (v = .nilIface) ∨ ∃ pb, v = .iface 131 (.pointer (some ⟨pb, 0, none⟩)) := by
    unfold writeErr at hf
    repeat' split at hf
    · obtain ⟨pb, _, h, _⟩ := hf; exact .inr ⟨pb, h⟩
    · obtain ⟨pb, _, _, _, h, _⟩ := hf; exact .inr ⟨pb, h⟩
    · exact .inl hf
  clear ho hf hb hk hW HE
  rcases hv with rfl | ⟨pb, rfl⟩
  all_goals
    go_wp2
    go_ret
    exact ⟨_, rfl, by rw [← HWT.out]; exact HN.out.1, HN.out.2⟩
set_option maxRecDepth 100000 in
theorem sd_peerOf (m : Msg) (D : Value) (hD : ∃ a L c, D = .slice a L c) (w : World) : Calls Tryz.prog 102 #[msgV' m D] w fun e w' => e = .returned (.agg #[.string m.name, .int .u64 m.flags, .int .u32 m.creation]) ∧ Below w.heap.size w w' := by
  obtain ⟨a, L, c, rfl⟩ := hD
  unfold msgV'
  go_enter Tryz.func102, Tryz.ntmps102
  go_wp2
  refine bodyPost_ret (v := .agg #[.string m.name, .int .u64 m.flags, .int .u32 m.creation]) (by simp [results, Tryz.results102, go_sem]) rfl ⟨rfl, ?_⟩
  exact ((Below.refl _ _).alloc (Nat.le_refl _) _).alloc (by simp) _
/-- Which refusal a node meets. -/
def peerErr (p : Pr) : List Lnk := if lacksB p.flags = true then sh 0 162 else if p.creation = 0 then sh 0 1 else []
set_option maxRecDepth 100000 in
set_option maxHeartbeats 1600000 in
theorem sd_checkPeer (p : Pr) (w : World) : Calls Tryz.prog 50 #[.agg #[.string p.name, .int .u64 p.flags, .int .u32 p.creation]] w fun e w' => ∃ v, e = .returned v ∧ FaultC w.heap.size w' v (peerErr p) ∧ Below w.heap.size w w' := by
  obtain ⟨nm, fl, cr⟩ := p
  obtain ⟨ls, hls⟩ : ∃ ls, ls = peerErr ⟨nm, fl, cr⟩ := ⟨_, rfl⟩
  rw [← hls]
  have HLS : Hid (ls = peerErr ⟨nm, fl, cr⟩) := hls
  clear hls
  simp only
  by_cases hf : bits .and .u64 fl 4345626892 = 4345626892
  · have hlk : lacksB fl = false := by unfold lacksB flagsNeeded; simp [hf]
    by_cases hc : cr = 0
    · subst hc
      have hL2 : ls = sh 0 1 := by rw [HLS.out]; simp [peerErr, hlk]
      have HL2 : Hid (ls = sh 0 1) := hL2
      clear hL2 hlk
      go_enter Tryz.func50, Tryz.ntmps50
      go_wp2_with fail
      refine (sh_refuse _ _ _).mono ?_
      rintro e w2 ⟨v, rfl, hf2, hb2⟩
      have HF : Hid (FaultC w.heap.size w2 v (sh 0 1) ∧ Below w.heap.size w w2) := ⟨hf2.mono (by simp), ((Below.refl _ _).alloc (Nat.le_refl _) _).trans (hb2.mono (by simp))⟩
      obtain ⟨pb, _, rfl, _⟩ := hf2
      clear hb2
      go_wp2
      go_ret
      exact ⟨_, rfl, by rw [HL2.out]; exact HF.out.1, HF.out.2⟩
    · have hL2 : ls = [] := by rw [HLS.out]; simp [peerErr, hlk, hc]
      have HL2 : Hid (ls = []) := hL2
      have q : (cr == 0) = false := by simpa using hc
      clear hL2 hlk
      go_enter Tryz.func50, Tryz.ntmps50
      go_wp2
      go_ret
      exact ⟨_, rfl, by rw [HL2.out]; rfl, (Below.refl _ _).alloc (Nat.le_refl _) _⟩
  · have hlk : lacksB fl = true := by unfold lacksB flagsNeeded; simp [hf]
    have hL2 : ls = sh 0 162 := by rw [HLS.out]; simp [peerErr, hlk]
    have HL2 : Hid (ls = sh 0 162) := hL2
    clear hL2 hlk
    go_enter Tryz.func50, Tryz.ntmps50
    go_wp2_with fail
    refine (sh_refuse _ _ _).mono ?_
    rintro e w2 ⟨v, rfl, hf2, hb2⟩
    have HF : Hid (FaultC w.heap.size w2 v (sh 0 162) ∧ Below w.heap.size w w2) := ⟨hf2.mono (by simp), ((Below.refl _ _).alloc (Nat.le_refl _) _).trans (hb2.mono (by simp))⟩
    obtain ⟨pb, _, rfl, _⟩ := hf2
    clear hb2
    go_wp2
    go_ret
    exact ⟨_, rfl, by rw [HL2.out]; exact HF.out.1, HF.out.2⟩
end Go.Proofs.YtmnibmgbicnamaaGreatDoor
namespace Go.Proofs.YtmnibmgbicnamaaGreatDoor
open Go.RowKit Go.Extern.Stop Go.Stop Go.Extern

theorem Tryz.noIsE (v : Value) (xT : TypeId) (w : World) : (Instr.typeAssert (.iface 89 v) xT 170 true).run Tryz.prog w = .ok (.tuple #[.nilIface, .bool false]) w := run_typeAssert_lacksB Tryz.underlying170 (by kernel_rfl) (by kernel_rfl) v xT w
theorem Tryz.noUnwrapE (v : Value) (xT : TypeId) (w : World) : (Instr.typeAssert (.iface 89 v) xT 173 true).run Tryz.prog w = .ok (.tuple #[.nilIface, .bool false]) w := run_typeAssert_lacksB Tryz.underlying173 (by kernel_rfl) (by kernel_rfl) v xT w
theorem Tryz.noUnwrapsE (v : Value) (xT : TypeId) (w : World) : (Instr.typeAssert (.iface 89 v) xT 175 true).run Tryz.prog w = .ok (.tuple #[.nilIface, .bool false]) w := run_typeAssert_lacksB Tryz.underlying175 (by kernel_rfl) (by kernel_rfl) v xT w
set_option maxRecDepth 100000 in
set_option maxHeartbeats 4000000 in
/-- errors.Is at a fault with another number. -/
theorem is_fault_not (pb : Nat) (c d : Int) (hcd : c ≠ d) (w : World) (h2 : w.cell? ⟨pb, 2, none⟩ = some (.int .i64 c)) (h3 : w.cell? ⟨pb, 3, none⟩ = some .nilIface) :
    Calls Tryz.prog 39 #[.iface 131 (.pointer (some ⟨pb, 0, none⟩)), .iface 89 (.int .i64 d)] w fun e w' => e = .returned (.bool false) ∧ w' = w := by
  have hT := @run_callFunc_extern Tryz.prog 73 _ Extern.ReflectliteType.typeOf Tryz.func73 (by kernel_rfl) (by kernel_rfl) (by kernel_rfl) (by kernel_rfl)
  have hC := @run_callFunc_extern Tryz.prog 166 _ cmpEntry Tryz.func166 (by kernel_rfl) (by kernel_rfl) (by kernel_rfl) (by kernel_rfl)
  have tT := Tryz.isTypeOf
  have cT := Tryz.isComparable
  have mR := Tryz.isMethodComparable
  have nF := Tryz.noIsF
  have uF := Tryz.hasUnwrapF
  have mU := Tryz.methodUnwrap
  have nE := Tryz.noIsE
  have uE := Tryz.noUnwrapE
  have vE := Tryz.noUnwrapsE
  have heq := Tryz.eqlErrno c d
  have hq : (c == d) = false := by simpa using hcd
  rw [hq] at heq
  have hty := run_eql_iface_types (P := Tryz.prog) 131 89 (.pointer (some ⟨pb, 0, none⟩)) (.int .i64 d) Tryz.underlying29 (by decide) w
  go_enter Tryz.func39, Tryz.ntmps39
  go_wp2
  refine wp_loop_rounds 2 ?_
  rw [rounds_succ]
  go_wp2
  rw [rounds_succ]
  go_wp2
  go_ret
  exact ⟨rfl, rfl⟩
set_option maxRecDepth 100000 in
set_option maxHeartbeats 1600000 in
theorem sd_lacks (p : Pr) (w : World) : Calls Tryz.prog 103 #[.agg #[.string p.name, .int .u64 p.flags, .int .u32 p.creation]] w fun e w' => e = .returned (.bool (lacksB p.flags)) ∧ Below w.heap.size w w' := by
  have hcp := fun o : Obj => sd_checkPeer p (w.alloc o)
  obtain ⟨nm, fl, cr⟩ := p
  simp only at hcp ⊢
  unfold peerErr at hcp
  simp only at hcp
  cases hlk : lacksB fl with
  | true =>
    rw [hlk] at hcp
    simp only [if_true] at hcp
    clear hlk
    go_enter Tryz.func103, Tryz.ntmps103
    go_wp2_with fail
    refine (hcp _).mono ?_
    rintro e w1 ⟨v, rfl, ⟨pb, _, rfl, hf⟩, hb⟩
    have his := is_fault pb 0 162 w1 (by simpa using hf.c2) (by simpa using hf.c3)
    have HB : Hid (Below w.heap.size w w1) := ((Below.refl _ _).alloc (Nat.le_refl _) _).trans (hb.mono (by simp))
    clear hb hf hcp
    go_wp2_with fail
    refine his.mono ?_
    rintro e w2 ⟨rfl, rfl⟩
    go_wp2
    go_ret
    exact ⟨rfl, HB.out⟩
  | false =>
    rw [hlk] at hcp
    simp only [Bool.false_eq_true, if_false] at hcp
    clear hlk
    by_cases hc : cr = 0
    · subst hc
      rw [if_pos rfl] at hcp
      go_enter Tryz.func103, Tryz.ntmps103
      go_wp2_with fail
      refine (hcp _).mono ?_
      rintro e w1 ⟨v, rfl, ⟨pb, _, rfl, hf⟩, hb⟩
      have his := is_fault_not pb 1 162 (by decide) w1 hf.c2 hf.c3
      have HB : Hid (Below w.heap.size w w1) := ((Below.refl _ _).alloc (Nat.le_refl _) _).trans (hb.mono (by simp))
      clear hb hf hcp
      go_wp2_with fail
      refine his.mono ?_
      rintro e w2 ⟨rfl, rfl⟩
      go_wp2
      go_ret
      exact ⟨rfl, HB.out⟩
    · rw [if_neg hc] at hcp
      clear hc
      go_enter Tryz.func103, Tryz.ntmps103
      go_wp2_with fail
      refine (hcp _).mono ?_
      rintro e w1 ⟨v, rfl, hv, hb⟩
      have hv : v = .nilIface := hv
      subst hv
      have his := is_nil 162 w1
      have HB : Hid (Below w.heap.size w w1) := ((Below.refl _ _).alloc (Nat.le_refl _) _).trans (hb.mono (by simp))
      clear hb hcp
      go_wp2_with fail
      refine his.mono ?_
      rintro e w2 ⟨rfl, rfl⟩
      go_wp2
      go_ret
      exact ⟨rfl, HB.out⟩
end Go.Proofs.YtmnibmgbicnamaaGreatDoor
