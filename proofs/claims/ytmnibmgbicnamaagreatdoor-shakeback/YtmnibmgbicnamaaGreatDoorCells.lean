/-
  Slices of slices in memory: what one reads as (SlV), that one may be appended to in place (OwnV); append of one-cell values.
-/
import Derived.Test.YtmnibmgbicnamaaGreatDoorBytes
namespace Go.Proofs.YtmnibmgbicnamaaGreatDoor
open Go.RowKit

/-- The slice v holds the values vs. -/
def SlV (w : World) (v : Value) (vs : List Value) : Prop :=
  (v = .slice none 0 0 ∧ vs = []) ∨ ∃ g off cap, v = .slice (some ⟨g, off, none⟩) vs.length cap ∧ vs.length ≤ cap ∧ cap ≤ maxLen ∧ ∀ j (h : j < vs.length), w.cell? ⟨g, off + j, none⟩ = some vs[j]
/-- .. and what is left of its array may be written. -/
def OwnV (w : World) (v : Value) (vs : List Value) : Prop :=
  (v = .slice none 0 0 ∧ vs = []) ∨ ∃ g off cap, v = .slice (some ⟨g, off, none⟩) vs.length cap ∧ vs.length ≤ cap ∧ cap ≤ maxLen ∧ g < w.heap.size ∧ (∀ j (h : j < vs.length), w.cell? ⟨g, off + j, none⟩ = some vs[j]) ∧
    (∀ j, j < cap → (w.cell? ⟨g, off + j, none⟩).isSome = true ∧ w.frozen? ⟨g, off + j, none⟩ = false)

theorem OwnV.sl {w : World} {v : Value} {vs : List Value} (h : OwnV w v vs) : SlV w v vs := by
  rcases h with h | ⟨g, off, cap, h1, h2, h3, _, h4, _⟩
  · exact .inl h
  · exact .inr ⟨g, off, cap, h1, h2, h3, h4⟩
theorem SlV.turned {S : Nat → Prop} {w w' : World} {v : Value} {vs : List Value} (h : SlV w v vs) (ht : Turned S w w') (hs : ∀ k, blk v k → ¬ S k) : SlV w' v vs := by
  rcases h with h | ⟨g, off, cap, rfl, h2, h3, h4⟩
  · exact .inl h
  · exact .inr ⟨g, off, cap, rfl, h2, h3, fun j hj => ht.cell (h4 j hj) (hs g rfl)⟩
theorem OwnV.turned {S : Nat → Prop} {w w' : World} {v : Value} {vs : List Value} (h : OwnV w v vs) (ht : Turned S w w') (hs : ∀ k, blk v k → ¬ S k) : OwnV w' v vs := by
  rcases h with h | ⟨g, off, cap, rfl, h2, h3, hg, h4, h5⟩
  · exact .inl h
  · refine .inr ⟨g, off, cap, rfl, h2, h3, Nat.lt_of_lt_of_le hg ht.size, fun j hj => ht.cell (h4 j hj) (hs g rfl), fun j hj => ?_⟩
    obtain ⟨u, hu⟩ := Option.isSome_iff_exists.1 (h5 j hj).1
    exact ⟨by rw [ht.cell hu (hs g rfl)]; rfl, by rw [ht.frozen (p := ⟨g, off + j, none⟩) hg (hs g rfl)]; exact (h5 j hj).2⟩
theorem OwnV.blk_lt {w : World} {v : Value} {vs : List Value} (h : OwnV w v vs) : ∀ k, blk v k → k < w.heap.size := by
  rcases h with ⟨rfl, _⟩ | ⟨g, off, cap, rfl, _, _, hg, _⟩
  · intro k hk; exact hk.elim
  · intro k hk; exact (show g = k from hk) ▸ hg
theorem SlV.form {w : World} {v : Value} {vs : List Value} (h : SlV w v vs) : ∃ a cap, v = .slice a vs.length cap ∧ vs.length ≤ cap ∧ cap ≤ maxLen := by
  rcases h with ⟨rfl, rfl⟩ | ⟨g, off, cap, rfl, h2, h3, _⟩
  · exact ⟨none, 0, rfl, Nat.le_refl _, Nat.zero_le _⟩
  · exact ⟨_, cap, rfl, h2, h3⟩

/-- t is the type of slices of slices in P, e that of what they hold: of one cell and 24 bytes. -/
structure RowTypes (P : Program) (t e : TypeId) : Prop where
  slice : P.underlying t = some (.slice e)
  info : ∃ i, P.info? e = some i ∧ i.zero = some (.slice none 0 0) ∧ i.size = 1 ∧ i.bytes = 24

theorem OwnV.first {P : Program} {w : World} {v : Value} {xs : List Value} (h : OwnV w v xs) : ∃ a cap, v = .slice a xs.length cap ∧ (Builtin.firstCells 1 xs.length v).run P w.drew = .ok xs.toArray w.drew ∧ (a = none → xs.length = 0 ∧ cap = 0) := by
  rcases h with ⟨rfl, rfl⟩ | ⟨g, off, cap, rfl, _, _, _, h4, _⟩
  · exact ⟨none, 0, rfl, run_firstCells_none w.drew 1 0 0 0, fun _ => ⟨rfl, rfl⟩⟩
  · refine ⟨_, cap, rfl, run_firstCells_some w.drew 1 _ _ _ _ _ (by omega) (fun j u hj => ?_), fun h => by cases h⟩
    obtain ⟨hlt, rfl⟩ := List.getElem?_eq_some_iff.1 hj
    rw [Addr.add_lit]; exact h4 j hlt

/-- append(v, x...), x one value of one cell that lies at the head of a new block. -/
theorem run_append_row {P : Program} {t e : TypeId} (hB : RowTypes P t e) (ty : TypeId) {w : World} {v x : Value} {xs : List Value} (hv : OwnV w v xs) {gx : Nat} (hx : w.cell? ⟨gx, 0, none⟩ = some x) (hx1 : x.oneCell' = true) (hfit : xs.length ≤ 2199023255552) :
    ∃ v' w', (Builtin.append_ #[t, t] ty #[v, .slice (some ⟨gx, 0, none⟩) 1 1]).run P w = .ok v' w' ∧ OwnV w' v' (xs ++ [x]) ∧ Turned (blk v) w w' ∧ ∀ k, blk v' k → blk v k ∨ k = w.heap.size := by
  obtain ⟨i, hi, hz, hsz, hby⟩ := hB.info
  have hsrc : Src P 1 t (.slice (some ⟨gx, 0, none⟩) 1 1) 1 [x] w := Src.ofSlice w hB.slice _ _ _ _ rfl (fun j u hj => by
    match j, hj with
    | 0, hj => simp at hj; subst hj; rw [Addr.add_lit]; exact hx) (fun u hu => by simp at hu; subst hu; exact hx1)
  obtain ⟨a, cap, rfl, hold, hnone⟩ := hv.first (P := P)
  by_cases hroom : xs.length + 1 ≤ cap
  · cases a with
    | none =>
      obtain ⟨h1, h2⟩ := hnone rfl
      omega
    | some a =>
      rcases hv with ⟨h, _⟩ | ⟨g, off, cap', h, h2, h3, hg, h4, h5⟩
      · cases h
      · cases h
        have hrun := run_append_room_src (P := P) w t t ty e i hB.slice hi g off xs.length cap (.slice (some ⟨gx, 0, none⟩) 1 1) 1 [x] (by rw [hsz]; exact hsrc) hroom (fun j hj => by simp at hj; rw [hsz, Nat.mul_one, Nat.add_assoc]; exact (h5 _ (by omega)).1) (fun j hj => by simp at hj; rw [hsz, Nat.mul_one, Nat.add_assoc]; exact (h5 _ (by omega)).2)
        rw [hsz, Nat.mul_one] at hrun
        have ht := Turned.setCells g [x] (off + xs.length) w
        have hin := World.cell?_setCells_in g [x] (off + xs.length) w (fun j hj => by simp at hj; rw [Nat.add_assoc]; exact (h5 _ (by omega)).1)
        have hout := World.cell?_setCells_out g [x] (off + xs.length) w
        refine ⟨_, _, hrun, .inr ⟨g, off, cap, by simp, by simpa using hroom, h3, Nat.lt_of_lt_of_le hg ht.size, fun j hj => ?_, fun j hj => ⟨?_, ?_⟩⟩, ht.mono (fun k hk => .inl hk.symm), fun k hk => .inl hk⟩
        · by_cases hjx : j < xs.length
          · rw [hout ⟨g, off + j, none⟩ (fun _ _ => .inl (by simp; omega)), h4 j hjx, List.getElem_append_left hjx]
          · have hje : j = xs.length := by simp at hj; omega
            subst hje
            have := hin 0 (by simp)
            simp at this
            rw [this]
            simp
        · by_cases hjo : j < xs.length ∨ xs.length + 1 ≤ j
          · rw [hout ⟨g, off + j, none⟩ (fun _ _ => by simp; omega)]; exact (h5 j hj).1
          · have hje : j = xs.length := by omega
            subst hje
            have := hin 0 (by simp)
            simp at this
            rw [this]; rfl
        · rw [World.frozen?_setCells]; exact (h5 j hj).2
  · have hnext := nextslicecap_le (need := xs.length + 1) (old := cap) (by omega)
    have hrun := run_append_grow_src (P := P) w t t ty e i (.slice none 0 0) hB.slice hi hz a xs.length cap xs (by rw [hsz]; exact hold) (.slice (some ⟨gx, 0, none⟩) 1 1) 1 [x] (by rw [hsz]; exact hsrc) (by omega) (by omega) (by rw [hby]; omega)
    have hge := grownCap_ge w (xs.length + 1) cap e
    have hle := grownCap_le_maxLen w (xs.length + 1) cap e (by unfold maxLen; omega)
    generalize grownCap w (xs.length + 1) cap e = c at hrun hge hle
    refine ⟨_, _, hrun, .inr ⟨w.heap.size, 0, c, by simp, by simpa using hge, hle, by simp, fun j hj => ?_, fun j hj => ?_⟩, (Turned.drew _ _).trans (T := fun _ => False) (Turned.alloc _ _ _) (fun _ h => h.elim), fun k hk => .inr hk.symm⟩
    · have hj2 : j < xs.length + 1 := by simpa using hj
      rw [World.cell?_alloc_at _ _ _ _ (by simp), Nat.zero_add, Array.getElem?_append_left (by simp; omega)]
      simp only [List.getElem?_toArray]
      exact List.getElem?_eq_getElem hj
    · refine ⟨?_, by rw [show w.heap.size = w.drew.heap.size from rfl, World.frozen?_alloc_new]⟩
      rw [World.cell?_alloc_at _ _ _ _ (by simp), Nat.zero_add]
      simp [size_zeroCells, Value.cells]
      omega

section
variable {P : Program} {t e : TypeId} {w : World} {v x : Value} {xs : List Value}

theorem wp_append_row {o : Oper} {a : Act} {K : Act → World → Prop} {Q : Exit → Act → World → Prop} (s y : Operand) (ho : o.op = .call { callee := .builtin .append, args := #[s, y], argTypes := #[t, t] })
    (hB : RowTypes P t e) (hs : a.eval s = v) {gx : Nat} (hy : a.eval y = .slice (some ⟨gx, 0, none⟩) 1 1) (hv : OwnV w v xs) (hx : w.cell? ⟨gx, 0, none⟩ = some x) (hx1 : x.oneCell' = true) (hfit : xs.length ≤ 2199023255552)
    (h : ∀ v' w', OwnV w' v' (xs ++ [x]) → Turned (blk v) w w' → (∀ k, blk v' k → blk v k ∨ k = w.heap.size) → K (a.put o.dst v') w') : o.wp P a w K Q := by
  obtain ⟨v', w', hr, h1, h2, h3⟩ := run_append_row hB o.type hv hx hx1 hfit
  unfold Oper.wp execOp
  simp only [ho, resolve, invoke, builtin, Sem.run_bind, Sem.run_pure, Result.andThen_ok, List.map_toArray, List.map_cons, List.map_nil, hs, hy, hr]
  exact h v' w' h1 h2 h3
theorem wpList_append_row {ops : Array Oper} {rest : List Oper} {o : Oper} {a : Act} {Q : Exit → Act → World → Prop} (hgd : o.guard = none) (s y : Operand) (ho : o.op = .call { callee := .builtin .append, args := #[s, y], argTypes := #[t, t] })
    (hB : RowTypes P t e) (hs : a.eval s = v) {gx : Nat} (hy : a.eval y = .slice (some ⟨gx, 0, none⟩) 1 1) (hv : OwnV w v xs) (hx : w.cell? ⟨gx, 0, none⟩ = some x) (hx1 : x.oneCell' = true) (hfit : xs.length ≤ 2199023255552)
    (h : ∀ v' w', OwnV w' v' (xs ++ [x]) → Turned (blk v) w w' → (∀ k, blk v' k → blk v k ∨ k = w.heap.size) → wpList P ops Q rest (a.put o.dst v') w') : wpList P ops Q (o :: rest) a w :=
  wpList_plain hgd fun _ hK => wp_append_row s y ho hB hs hy hv hx hx1 hfit fun v' w' h1 h2 h3 => hK _ _ (h v' w' h1 h2 h3)
end
end Go.Proofs.YtmnibmgbicnamaaGreatDoor
