/-
  append of two slices of bytes, as in Bytes, of up to as many bytes as a statement's arguments may have.
-/
import Derived.Test.YtmnibmgbicnamabGreatDoorK1
import Derived.Room.Entries
namespace Go.Proofs.YtmnibmgbicnamabGreatDoor
open Go.RowKit

/-- append(v, x...), both slices of bytes, the first one's spare room its own. -/
theorem run_append_wide {P : Program} {t e : TypeId} (hB : ByteTypes P t e) (ty : TypeId) {w : World} {v x : Value} {xs ys : List Int} (hv : Own w v xs) (hx : Sl w x ys) (hfit : xs.length + ys.length ≤ 140737488355328) :
    ∃ v' w', (Builtin.append_ #[t, t] ty #[v, x]).run P w = .ok v' w' ∧ Own w' v' (xs ++ ys) ∧ Turned (blk v) w w' ∧ ∀ k, blk v' k → blk v k ∨ k = w.heap.size := by
  obtain ⟨i, hi, hz, hsz, hby⟩ := hB.info
  have hsrc := hx.src (P := P) hB
  obtain ⟨a, cap, rfl, hold, hnone⟩ := hv.first (P := P)
  by_cases hroom : xs.length + ys.length ≤ cap
  · cases a with
    | none =>
      obtain ⟨h1, h2⟩ := hnone rfl
      have hx0 : xs = [] := List.eq_nil_of_length_eq_zero h1
      have hy0 : ys = [] := List.eq_nil_of_length_eq_zero (by omega)
      subst hx0 hy0 h2
      refine ⟨.slice none 0 0, w, ?_, .inl ⟨rfl, rfl⟩, Turned.refl _ _, fun k hk => hk.elim⟩
      have hl := hsrc.len w
      have hc := hsrc.cells
      simp [cellsOfBytes] at hl hc
      simp [Builtin.append_, run_underlying hB.slice, sizeOf, typeInfo, hi, hsz, hl, hc]
    | some a =>
      rcases hv with ⟨h, _⟩ | ⟨g, off, cap', h, h2, h3, hg, h4, h5⟩
      · cases h
      · cases h
        have hrun := run_append_room_src (P := P) w t t ty e i hB.slice hi g off xs.length cap x ys.length (cellsOfBytes ys) (by rw [hsz]; exact hsrc) hroom (fun j hj => by rw [cellsOfBytes_length] at hj; rw [hsz, Nat.mul_one, Nat.add_assoc]; exact (h5 _ (by omega)).1) (fun j hj => by rw [cellsOfBytes_length] at hj; rw [hsz, Nat.mul_one, Nat.add_assoc]; exact (h5 _ (by omega)).2)
        rw [hsz, Nat.mul_one] at hrun
        have ht := Turned.setCells g (cellsOfBytes ys) (off + xs.length) w
        have hin := World.cell?_setCells_in g (cellsOfBytes ys) (off + xs.length) w (fun j hj => by rw [cellsOfBytes_length] at hj; rw [Nat.add_assoc]; exact (h5 _ (by omega)).1)
        have hout := World.cell?_setCells_out g (cellsOfBytes ys) (off + xs.length) w
        refine ⟨_, _, hrun, .inr ⟨g, off, cap, by simp, by simpa using hroom, h3, Nat.lt_of_lt_of_le hg ht.size, fun j hj => ?_, fun j hj => ⟨?_, ?_⟩⟩, ht.mono (fun k hk => .inl hk.symm), fun k hk => .inl hk⟩
        · by_cases hjx : j < xs.length
          · rw [hout ⟨g, off + j, none⟩ (fun _ _ => .inl (by simp; omega)), h4 j hjx, List.getElem_append_left hjx]
          · have hjy : j - xs.length < (cellsOfBytes ys).length := by rw [cellsOfBytes_length]; simp at hj; omega
            have := hin (j - xs.length) hjy
            rw [show off + xs.length + (j - xs.length) = off + j by omega] at this
            rw [this, List.getElem_append_right (by omega)]
            simp [cellsOfBytes]
        · by_cases hjo : j < xs.length ∨ xs.length + ys.length ≤ j
          · rw [hout ⟨g, off + j, none⟩ (fun _ _ => by rw [cellsOfBytes_length]; simp; omega)]; exact (h5 j hj).1
          · have hjy : j - xs.length < (cellsOfBytes ys).length := by rw [cellsOfBytes_length]; omega
            have := hin (j - xs.length) hjy
            rw [show off + xs.length + (j - xs.length) = off + j by omega] at this
            rw [this]; rfl
        · rw [World.frozen?_setCells]; exact (h5 j hj).2
  · have hnext := Go.Room.nextslicecap_le' (need := xs.length + ys.length) (old := cap) (by omega)
    have hrun := run_append_grow_src (P := P) w t t ty e i (.int .u8 0) hB.slice hi hz a xs.length cap (cellsOfBytes xs) (by rw [hsz]; exact hold) x ys.length (cellsOfBytes ys) (by rw [hsz]; exact hsrc) (by omega) (by omega) (by rw [hby]; omega)
    have hge := grownCap_ge w (xs.length + ys.length) cap e
    have hle := grownCap_le_maxLen w (xs.length + ys.length) cap e (by unfold maxLen; omega)
    generalize grownCap w (xs.length + ys.length) cap e = c at hrun hge hle
    refine ⟨_, _, hrun, .inr ⟨w.heap.size, 0, c, by simp, by simpa using hge, hle, by simp, fun j hj => ?_, fun j hj => ?_⟩, (Turned.drew _ _).trans (T := fun _ => False) (Turned.alloc _ _ _) (fun _ h => h.elim), fun k hk => .inr hk.symm⟩
    · have hj2 : j < xs.length + ys.length := by simpa using hj
      rw [World.cell?_alloc_at _ _ _ _ (by simp), Nat.zero_add, Array.getElem?_append_left (by simp [cellsOfBytes]; omega)]
      simp only [List.getElem?_toArray]
      rw [show cellsOfBytes xs ++ cellsOfBytes ys = cellsOfBytes (xs ++ ys) by simp [cellsOfBytes]]
      simp only [cellsOfBytes, List.getElem?_map, List.getElem?_eq_getElem hj, Option.map_some]
    · refine ⟨?_, by rw [show w.heap.size = w.drew.heap.size from rfl, World.frozen?_alloc_new]⟩
      rw [World.cell?_alloc_at _ _ _ _ (by simp), Nat.zero_add]
      simp [cellsOfBytes, size_zeroCells, Value.cells]
      omega

section
variable {P : Program} {t e : TypeId} {w : World} {v x : Value} {xs ys : List Int}

theorem wp_append_wide {o : Oper} {a : Act} {K : Act → World → Prop} {Q : Exit → Act → World → Prop} (s y : Operand) (ho : o.op = .call { callee := .builtin .append, args := #[s, y], argTypes := #[t, t] })
    (hB : ByteTypes P t e) (hs : a.eval s = v) (hy : a.eval y = x) (hv : Own w v xs) (hx : Sl w x ys) (hfit : xs.length + ys.length ≤ 140737488355328)
    (h : ∀ v' w', Own w' v' (xs ++ ys) → Turned (blk v) w w' → (∀ k, blk v' k → blk v k ∨ k = w.heap.size) → K (a.put o.dst v') w') : o.wp P a w K Q := by
  obtain ⟨v', w', hr, h1, h2, h3⟩ := run_append_wide hB o.type hv hx hfit
  unfold Oper.wp execOp
  simp only [ho, resolve, invoke, builtin, Sem.run_bind, Sem.run_pure, Result.andThen_ok, List.map_toArray, List.map_cons, List.map_nil, hs, hy, hr]
  exact h v' w' h1 h2 h3

/-- For the walk, at a plain region's list. -/
theorem wpList_append_wide {ops : Array Oper} {rest : List Oper} {o : Oper} {a : Act} {Q : Exit → Act → World → Prop} (hgd : o.guard = none) (s y : Operand) (ho : o.op = .call { callee := .builtin .append, args := #[s, y], argTypes := #[t, t] })
    (hB : ByteTypes P t e) (hs : a.eval s = v) (hy : a.eval y = x) (hv : Own w v xs) (hx : Sl w x ys) (hfit : xs.length + ys.length ≤ 140737488355328)
    (h : ∀ v' w', Own w' v' (xs ++ ys) → Turned (blk v) w w' → (∀ k, blk v' k → blk v k ∨ k = w.heap.size) → wpList P ops Q rest (a.put o.dst v') w') : wpList P ops Q (o :: rest) a w :=
  wpList_plain hgd fun _ hK => wp_append_wide s y ho hB hs hy hv hx hfit fun v' w' h1 h2 h3 => hK _ _ (h v' w' h1 h2 h3)

end
end Go.Proofs.YtmnibmgbicnamabGreatDoor
