/-
  Slices of slices of bytes in memory: append of such; what they hold (Gather, Bodies).
-/
import Derived.Test.YtmnibmgbicnamaaGreatDoorCells
import Derived.Test.YtmnibmgbicnamaaGreatDoorSlX
namespace Go.Proofs.YtmnibmgbicnamaaGreatDoor
open Go.RowKit

/-- append(v, x...), both slices of slices. -/
theorem run_append_rows {P : Program} {t e : TypeId} (hB : RowTypes P t e) (ty : TypeId) {w : World} {v x : Value} {xs ys : List Value} (hv : OwnV w v xs) (hx : SlV w x ys) (hy1 : ∀ u ∈ ys, u.oneCell' = true) (hfit : xs.length + ys.length ≤ 2199023255552) :
    ∃ v' w', (Builtin.append_ #[t, t] ty #[v, x]).run P w = .ok v' w' ∧ OwnV w' v' (xs ++ ys) ∧ Turned (blk v) w w' ∧ ∀ k, blk v' k → blk v k ∨ k = w.heap.size := by
  obtain ⟨i, hi, hz, hsz, hby⟩ := hB.info
  have hsrc : Src P 1 t x ys.length ys w := by
    rcases hx with ⟨rfl, rfl⟩ | ⟨g, off, cap, rfl, _, _, h4⟩
    · exact Src.ofNil w hB.slice 0
    · refine Src.ofSlice w hB.slice _ _ _ _ (by omega) (fun j u hj => ?_) hy1
      obtain ⟨hlt, rfl⟩ := List.getElem?_eq_some_iff.1 hj
      rw [Addr.add_lit]; exact h4 j hlt
  obtain ⟨a, cap, rfl, hold, hnone⟩ := hv.first (P := P)
  by_cases hroom : xs.length + ys.length ≤ cap
  · cases a with
    | none =>
      obtain ⟨h1, h2⟩ := hnone rfl
      have hx0 : xs = [] := List.eq_nil_of_length_eq_zero h1
      have hy0 : ys = [] := List.eq_nil_of_length_eq_zero (by omega)
      subst hx0 hy0 h2
      refine ⟨.slice none 0 0, w, ?_, .inl ⟨rfl, rfl⟩, Turned.refl _ _, fun k hk => hk.elim⟩
      have hl := hsrc.len w
      have hc := hsrc.cells
      simp at hl hc
      simp [Builtin.append_, run_underlying hB.slice, sizeOf, typeInfo, hi, hsz, hl, hc]
    | some a =>
      rcases hv with ⟨h, _⟩ | ⟨g, off, cap', h, h2, h3, hg, h4, h5⟩
      · cases h
      · cases h
        have hrun := run_append_room_src (P := P) w t t ty e i hB.slice hi g off xs.length cap x ys.length ys (by rw [hsz]; exact hsrc) hroom (fun j hj => by rw [hsz, Nat.mul_one, Nat.add_assoc]; exact (h5 _ (by omega)).1) (fun j hj => by rw [hsz, Nat.mul_one, Nat.add_assoc]; exact (h5 _ (by omega)).2)
        rw [hsz, Nat.mul_one] at hrun
        have ht := Turned.setCells g ys (off + xs.length) w
        have hin := World.cell?_setCells_in g ys (off + xs.length) w (fun j hj => by rw [Nat.add_assoc]; exact (h5 _ (by omega)).1)
        have hout := World.cell?_setCells_out g ys (off + xs.length) w
        refine ⟨_, _, hrun, .inr ⟨g, off, cap, by simp, by simpa using hroom, h3, Nat.lt_of_lt_of_le hg ht.size, fun j hj => ?_, fun j hj => ⟨?_, ?_⟩⟩, ht.mono (fun k hk => .inl hk.symm), fun k hk => .inl hk⟩
        · by_cases hjx : j < xs.length
          · rw [hout ⟨g, off + j, none⟩ (fun _ _ => .inl (by simp; omega)), h4 j hjx, List.getElem_append_left hjx]
          · have hjy : j - xs.length < ys.length := by simp at hj; omega
            have := hin (j - xs.length) hjy
            rw [show off + xs.length + (j - xs.length) = off + j by omega] at this
            rw [this, List.getElem_append_right (by omega)]
        · by_cases hjo : j < xs.length ∨ xs.length + ys.length ≤ j
          · rw [hout ⟨g, off + j, none⟩ (fun _ _ => by simp; omega)]; exact (h5 j hj).1
          · have hjy : j - xs.length < ys.length := by omega
            have := hin (j - xs.length) hjy
            rw [show off + xs.length + (j - xs.length) = off + j by omega] at this
            rw [this]; rfl
        · rw [World.frozen?_setCells]; exact (h5 j hj).2
  · have hnext := nextslicecap_le (need := xs.length + ys.length) (old := cap) (by omega)
    have hrun := run_append_grow_src (P := P) w t t ty e i (.slice none 0 0) hB.slice hi hz a xs.length cap xs (by rw [hsz]; exact hold) x ys.length ys (by rw [hsz]; exact hsrc) (by omega) (by omega) (by rw [hby]; omega)
    have hge := grownCap_ge w (xs.length + ys.length) cap e
    have hle := grownCap_le_maxLen w (xs.length + ys.length) cap e (by unfold maxLen; omega)
    generalize grownCap w (xs.length + ys.length) cap e = c at hrun hge hle
    refine ⟨_, _, hrun, .inr ⟨w.heap.size, 0, c, by simp, by simpa using hge, hle, by simp, fun j hj => ?_, fun j hj => ?_⟩, (Turned.drew _ _).trans (T := fun _ => False) (Turned.alloc _ _ _) (fun _ h => h.elim), fun k hk => .inr hk.symm⟩
    · have hj2 : j < xs.length + ys.length := by simpa using hj
      rw [World.cell?_alloc_at _ _ _ _ (by simp), Nat.zero_add, Array.getElem?_append_left (by simp; omega)]
      simp only [List.getElem?_toArray]
      exact List.getElem?_eq_getElem hj
    · refine ⟨?_, by rw [show w.heap.size = w.drew.heap.size from rfl, World.frozen?_alloc_new]⟩
      rw [World.cell?_alloc_at _ _ _ _ (by simp), Nat.zero_add]
      simp [size_zeroCells, Value.cells]
      omega

section
variable {P : Program} {t e : TypeId} {w : World} {v x : Value} {xs ys : List Value}

theorem wp_append_rows {o : Oper} {a : Act} {K : Act → World → Prop} {Q : Exit → Act → World → Prop} (s y : Operand) (ho : o.op = .call { callee := .builtin .append, args := #[s, y], argTypes := #[t, t] })
    (hB : RowTypes P t e) (hs : a.eval s = v) (hy : a.eval y = x) (hv : OwnV w v xs) (hx : SlV w x ys) (hx1 : ∀ u ∈ ys, u.oneCell' = true) (hfit : xs.length + ys.length ≤ 2199023255552)
    (h : ∀ v' w', OwnV w' v' (xs ++ ys) → Turned (blk v) w w' → (∀ k, blk v' k → blk v k ∨ k = w.heap.size) → K (a.put o.dst v') w') : o.wp P a w K Q := by
  obtain ⟨v', w', hr, h1, h2, h3⟩ := run_append_rows hB o.type hv hx hx1 hfit
  unfold Oper.wp execOp
  simp only [ho, resolve, invoke, builtin, Sem.run_bind, Sem.run_pure, Result.andThen_ok, List.map_toArray, List.map_cons, List.map_nil, hs, hy, hr]
  exact h v' w' h1 h2 h3
theorem wpList_append_rows {ops : Array Oper} {rest : List Oper} {o : Oper} {a : Act} {Q : Exit → Act → World → Prop} (hgd : o.guard = none) (s y : Operand) (ho : o.op = .call { callee := .builtin .append, args := #[s, y], argTypes := #[t, t] })
    (hB : RowTypes P t e) (hs : a.eval s = v) (hy : a.eval y = x) (hv : OwnV w v xs) (hx : SlV w x ys) (hx1 : ∀ u ∈ ys, u.oneCell' = true) (hfit : xs.length + ys.length ≤ 2199023255552)
    (h : ∀ v' w', OwnV w' v' (xs ++ ys) → Turned (blk v) w w' → (∀ k, blk v' k → blk v k ∨ k = w.heap.size) → wpList P ops Q rest (a.put o.dst v') w') : wpList P ops Q (o :: rest) a w :=
  wpList_plain hgd fun _ hK => wp_append_rows s y ho hB hs hy hv hx hx1 hfit fun v' w' h1 h2 h3 => hK _ _ (h v' w' h1 h2 h3)
theorem step_append_rows {ops : Array Oper} {o : Oper} {a : Act} {K : Act → World → Prop} {Q : Exit → Act → World → Prop} {E : Prop} (hgd : o.guard = none) (s y : Operand) (ho : o.op = .call { callee := .builtin .append, args := #[s, y], argTypes := #[t, t] })
    (hB : RowTypes P t e) (hs : a.eval s = v) (hy : a.eval y = x) (hv : OwnV w v xs) (hx : SlV w x ys) (hx1 : ∀ u ∈ ys, u.oneCell' = true) (hfit : xs.length + ys.length ≤ 2199023255552)
    (h : ∀ v' w', OwnV w' v' (xs ++ ys) → Turned (blk v) w w' → (∀ k, blk v' k → blk v k ∨ k = w.heap.size) → K (a.put o.dst v') w') :
    if Region.wanted o (yielded ops a.tmps) = true then Oper.wp P o a w K Q else E := by
  rw [if_pos (by simp [Region.wanted, hgd])]
  exact wp_append_rows s y ho hB hs hy hv hx hx1 hfit h
end
/-- The slice v holds slices that read as ls; all of them lie from B on. -/
def Bodies (w : World) (B : Nat) (v : Value) (ls : List (List Int)) : Prop :=
  ∃ vs, SlV w v vs ∧ vs.length = ls.length ∧ (∀ k, blk v k → B ≤ k ∧ k < w.heap.size) ∧ ∀ i (h1 : i < vs.length) (h2 : i < ls.length), Sl w vs[i] ls[i] ∧ ∀ k, blk vs[i] k → B ≤ k
/-- .. and may be appended to. -/
structure Gather (w : World) (B : Nat) (v : Value) (vs : List Value) (ls : List (List Int)) : Prop where
  own : OwnV w v vs
  len : vs.length = ls.length
  each : ∀ i (h1 : i < vs.length) (h2 : i < ls.length), Sl w vs[i] ls[i]
  off : ∀ i (h1 : i < vs.length), ∀ k, blk vs[i] k → B ≤ k ∧ k < w.heap.size ∧ ¬ blk v k
  big : ∀ k, blk v k → B ≤ k

theorem Gather.nil (w : World) (B : Nat) : Gather w B (.slice none 0 0) [] [] := ⟨.inl ⟨rfl, rfl⟩, rfl, fun i h => absurd h (Nat.not_lt_zero i), fun i h => absurd h (Nat.not_lt_zero i), fun _ h => h.elim⟩
theorem Gather.bodies {w : World} {B : Nat} {v : Value} {vs : List Value} {ls : List (List Int)} (h : Gather w B v vs ls) : Bodies w B v ls := ⟨vs, h.own.sl, h.len, fun k hk => ⟨h.big k hk, h.own.blk_lt k hk⟩, fun i h1 h2 => ⟨h.each i h1 h2, fun k hk => (h.off i h1 k hk).1⟩⟩
theorem Gather.turned {w w' : World} {B : Nat} {v : Value} {vs : List Value} {ls : List (List Int)} (h : Gather w B v vs ls) (T : Turned (fun _ => False) w w') : Gather w' B v vs ls :=
  ⟨h.own.turned T (fun _ _ h => h), h.len, fun i h1 h2 => (h.each i h1 h2).turned T (fun _ _ h => h), fun i h1 k hk => ⟨(h.off i h1 k hk).1, Nat.lt_of_lt_of_le (h.off i h1 k hk).2.1 T.size, (h.off i h1 k hk).2.2⟩, h.big⟩
/-- One more. -/
theorem Gather.snoc {w w1 : World} {B : Nat} {v v' x : Value} {vs : List Value} {ls : List (List Int)} {l : List Int} (h : Gather w B v vs ls) (hB : B ≤ w.heap.size) (hx : Sl w x l) (hxo : ∀ k, blk x k → B ≤ k ∧ k < w.heap.size ∧ ¬ blk v k)
    (ho : OwnV w1 v' (vs ++ [x])) (ht : Turned (blk v) w w1) (hv : ∀ k, blk v' k → blk v k ∨ k = w.heap.size) : Gather w1 B v' (vs ++ [x]) (ls ++ [l]) := by
  have hz := ht.size
  refine ⟨ho, by simp [h.len], fun i h1 h2 => ?_, fun i h1 k hk => ?_, fun k hk => (hv k hk).elim (h.big k) (fun e => by omega)⟩
  · by_cases hi : i < vs.length
    · rw [List.getElem_append_left hi, List.getElem_append_left (by rw [← h.len]; exact hi)]
      exact (h.each i hi (by rw [← h.len]; exact hi)).turned ht (fun k hk => (h.off i hi k hk).2.2)
    · have e1 : i = vs.length := by simp at h1; omega
      have e2 : i = ls.length := by rw [← h.len]; exact e1
      rw [List.getElem_append_right (by omega), List.getElem_append_right (by omega)]
      simp only [e1, h.len, Nat.sub_self, List.getElem_cons_zero]
      exact hx.turned ht (fun k hk => (hxo k hk).2.2)
  · have key : B ≤ k ∧ k < w.heap.size ∧ ¬ blk v k := by
      by_cases hi : i < vs.length
      · rw [List.getElem_append_left hi] at hk
        exact h.off i hi k hk
      · rw [List.getElem_append_right (by omega)] at hk
        have e1 : i - vs.length = 0 := by simp at h1; omega
        simp only [e1, List.getElem_cons_zero] at hk
        exact hxo k hk
    exact ⟨key.1, by omega, fun hb => (hv k hb).elim key.2.2 (fun e => by omega)⟩

theorem Tryz.rows : RowTypes Tryz.prog 56 25 := by
  refine ⟨Tryz.underlying56, ?_⟩
  have h : (Tryz.prog.info? 25).map (fun i => (i.zero, i.size, i.bytes)) = some (some (.slice none 0 0), 1, 24) := by kernel_rfl
  obtain ⟨i, hi, h0, h1, h2⟩ := info_parts h
  exact ⟨i, hi, h0, h1, h2⟩

end Go.Proofs.YtmnibmgbicnamaaGreatDoor
