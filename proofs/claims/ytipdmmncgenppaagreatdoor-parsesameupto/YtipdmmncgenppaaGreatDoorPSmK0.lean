/-
  The document's layer 11: classify, what lies in memory.
-/
import Derived.Test.YtipdmmncgenppaaGreatDoorPSmJ
import Derived.Test.YtipdmmncgenppaaGreatDoorPZ
namespace Go.Proofs.YtipdmmncgenppaaGreatDoor
open Go.RowKit

theorem HtAt.turned {S : Nat → Prop} {w w' : World} {g : Nat} {h : List Int} (hh : HtAt w g h) (T : Turned S w w') (hs : ¬ S g) : HtAt w' g h :=
  ⟨Nat.lt_of_lt_of_le hh.lt T.size, fun j hj => ⟨T.cell (hh.c j hj).1 hs, by rw [T.frozen (p := ⟨g, j, none⟩) hh.lt hs]; exact (hh.c j hj).2⟩⟩
theorem HtAt.below {w w' : World} {g : Nat} {h : List Int} (hh : HtAt w g h) (hb : Below w.heap.size w w') : HtAt w' g h := hh.turned (Turned.ofBelow (S := fun _ => False) hb) (fun e => e)
/-- The outer loop's memory: classes in block g, what is below in bv, forms in Fv. -/
structure CM (w0 w wr : World) (Fv0 : Value) (g root : Nat) (bv : Value) (bl : List Int) (Fv : Value) (h : List Int) (F : List Nd) : Prop where
  ht : HtAt wr g h
  hl : h.length = root + 1
  fm : FmAt wr Fv F
  fg : ¬ blk Fv g
  kg : ∀ j (hj : j < F.length) k, blk F[j].kv k → k ≠ g
  bs : SlA wr bv bl
  bg : ∀ k, blk bv k → k ≠ g ∧ ¬ blk Fv k ∧ k < wr.heap.size
  T : Turned (blk Fv0) w wr
  nF : ∀ k, blk Fv k → blk Fv0 k ∨ w.heap.size ≤ k
  gw : w.heap.size ≤ g
  bel : Below w0.heap.size w0 wr
  g0 : w0.heap.size ≤ g
  f0 : ∀ k, blk Fv k → w0.heap.size ≤ k
section
variable {w0 w wr w5 : World} {Fv0 : Value} {g root : Nat} {bv : Value} {bl : List Int} {Fv : Value} {h : List Int} {F : List Nd}
theorem CM.put (m : CM w0 w wr Fv0 g root bv bl Fv h F) {z : Nat} (hz : z < h.length) (v : Int) : CM w0 w (wr.setCell ⟨g, z, none⟩ (.int .i64 v)) Fv0 g root bv bl Fv (h.set z v) F := by
  have T1 := Turned.set1 wr g z (.int .i64 v)
  exact ⟨m.ht.set z hz v, by simpa using m.hl, m.fm.turned T1 (fun k hk e => m.fg (e ▸ hk)) (fun j hj k hk e => m.kg j hj k hk e), m.fg, m.kg, m.bs.turned T1 (fun _ k hk e => (m.bg k hk).1 e), fun k hk => ⟨(m.bg k hk).1, (m.bg k hk).2.1, Nat.lt_of_lt_of_le (m.bg k hk).2.2 T1.size⟩, m.T.trans T1 (fun k e => .inr (e ▸ m.gw)), m.nF, m.gw, m.bel.trans (T1.below m.bel.size (fun k e => e ▸ m.g0)), m.g0, m.f0⟩
theorem CM.below (m : CM w0 w wr Fv0 g root bv bl Fv h F) (hb : Below wr.heap.size wr w5) : CM w0 w w5 Fv0 g root bv bl Fv h F := by
  have hz := hb.size
  exact ⟨m.ht.below hb, m.hl, m.fm.below hb, m.fg, m.kg, m.bs.below hb, fun k hk => ⟨(m.bg k hk).1, (m.bg k hk).2.1, by have := (m.bg k hk).2.2; omega⟩, m.T.trans (Turned.ofBelow (S := fun _ => False) hb) (fun _ e => e.elim), m.nF, m.gw, m.bel.trans (hb.mono m.bel.size), m.g0, m.f0⟩
/-- The forms have grown. -/
theorem CM.grown (m : CM w0 w wr Fv0 g root bv bl Fv h F) {Fv' : Value} {f : Nd} (hF : FmAt w5 Fv' (F ++ [f])) (T1 : Turned (blk Fv) wr w5) (hv : ∀ k, blk Fv' k → blk Fv k ∨ wr.heap.size ≤ k) (hk : ∀ k, blk f.kv k → k ≠ g) : CM w0 w w5 Fv0 g root bv bl Fv' h (F ++ [f]) := by
  have hz := T1.size
  have hg := m.ht.lt
  have hz0 := m.T.size
  have hz1 := m.bel.size
  refine ⟨m.ht.turned T1 m.fg, m.hl, hF, fun e => (hv g e).elim m.fg (fun e => by omega), fun j hj k hk' => ?_, m.bs.turned T1 (fun _ k hk => (m.bg k hk).2.1), fun k hk => ⟨(m.bg k hk).1, fun e => (hv k e).elim (m.bg k hk).2.1 (fun e => by have := (m.bg k hk).2.2; omega), by have := (m.bg k hk).2.2; omega⟩, m.T.trans T1 (fun k e => m.nF k e), fun k e => (hv k e).elim (m.nF k) (fun e => .inr (by omega)), m.gw, m.bel.trans (T1.below m.bel.size m.f0), m.g0, fun k e => (hv k e).elim (m.f0 k) (fun e => by omega)⟩
  by_cases hjn : j < F.length
  · rw [List.getElem_append_left hjn] at hk'
    exact m.kg j hjn k hk'
  · have e : j = F.length := by simp at hj; omega
    subst e
    simp only [List.getElem_append_right (Nat.le_refl _), Nat.sub_self, List.getElem_cons_zero] at hk'
    exact hk k hk'
end
/-- The inner loop's memory: the node in a block of its own, its form in the next one. -/
structure FK (wb wr : World) (n : Nd) (V : Value) (ks : List Int) : Prop where
  bx : Bx wb wr n
  f0 : wr.cell? ⟨wb.heap.size + 1, 0, none⟩ = some (.int .i64 n.kind)
  f1 : wr.cell? ⟨wb.heap.size + 1, 1, none⟩ = some (.string n.text)
  f2 : wr.cell? ⟨wb.heap.size + 1, 2, none⟩ = some (.string n.mod)
  f3 : wr.cell? ⟨wb.heap.size + 1, 3, none⟩ = some (.int .i64 n.num)
  f4 : wr.cell? ⟨wb.heap.size + 1, 4, none⟩ = some V
  f5 : wr.cell? ⟨wb.heap.size + 1, 5, none⟩ = some (.int .i64 0)
  fz : wr.frozen? ⟨wb.heap.size + 1, 4, none⟩ = false
  own : OwnI wr V ks
  nw : ∀ k, blk V k → wb.heap.size + 1 < k
theorem FK.new (wb : World) (n : Nd) (t : TypeId) : FK wb ((wb.alloc (.cells #[.int .i64 n.kind, .string n.text, .string n.mod, .int .i64 n.num, n.kv, .int .i64 n.at_] t)).alloc (.cells #[.int .i64 n.kind, .string n.text, .string n.mod, .int .i64 n.num, .slice none 0 0, .int .i64 0] t)) n (.slice none 0 0) [] := by
  have hs : (wb.alloc (.cells #[.int .i64 n.kind, .string n.text, .string n.mod, .int .i64 n.num, n.kv, .int .i64 n.at_] t)).heap.size = wb.heap.size + 1 := by simp
  refine ⟨(Bx.new wb n t).below (Below.alloc0 _ _), ?_, ?_, ?_, ?_, ?_, ?_, ?_, OwnK.nil 1 _, fun _ e => e.elim⟩
  · rw [← hs, World.cell?_alloc_at _ _ _ _ rfl]; simp
  · rw [← hs, World.cell?_alloc_at _ _ _ _ rfl]; simp
  · rw [← hs, World.cell?_alloc_at _ _ _ _ rfl]; simp
  · rw [← hs, World.cell?_alloc_at _ _ _ _ rfl]; simp
  · rw [← hs, World.cell?_alloc_at _ _ _ _ rfl]; simp
  · rw [← hs, World.cell?_alloc_at _ _ _ _ rfl]; simp
  · rw [← hs, World.frozen?_alloc_new]
theorem FK.lt {wb wr : World} {n : Nd} {V : Value} {ks : List Int} (h : FK wb wr n V ks) : wb.heap.size + 1 < wr.heap.size := World.block_lt_of_cell? wr _ h.f0
theorem FK.below {wb wr w' : World} {n : Nd} {V : Value} {ks : List Int} (h : FK wb wr n V ks) (hb : Below wr.heap.size wr w') : FK wb w' n V ks := by
  have c : ∀ (j : Nat) (v : Value), wr.cell? ⟨wb.heap.size + 1, j, none⟩ = some v → w'.cell? ⟨wb.heap.size + 1, j, none⟩ = some v := fun j v e => (hb.cell (p := ⟨wb.heap.size + 1, j, none⟩) h.lt).trans e
  exact ⟨h.bx.below hb, c 0 _ h.f0, c 1 _ h.f1, c 2 _ h.f2, c 3 _ h.f3, c 4 _ h.f4, c 5 _ h.f5, (hb.frozen (p := ⟨wb.heap.size + 1, 4, none⟩) h.lt).trans h.fz, OwnK.turned h.own (Turned.ofBelow (S := fun _ => False) hb) (fun _ _ e => e), h.nw⟩
theorem FK.next {wb wr w3 w4 : World} {n : Nd} {V V4 : Value} {ks : List Int} {q : Int} (h : FK wb wr n V ks) (hb : Below wr.heap.size wr w3) (ho : OwnK 1 w4 V4 (ks.length + 1) (ints ks ++ ints [q])) (T : Turned (blk V) w3 w4) (hv : ∀ k, blk V4 k → blk V k ∨ k = w3.heap.size) : FK wb (w4.setCell ⟨wb.heap.size + 1, 4, none⟩ V4) n V4 (ks ++ [q]) := by
  have h3 := h.below hb
  have hz := hb.size
  have hlt := h.lt
  have hnq : ¬ blk V (wb.heap.size + 1) := fun e => by have := h.nw _ e; omega
  have hnp : ¬ blk V wb.heap.size := fun e => by have := h.nw _ e; omega
  have hv4 : ∀ k, blk V4 k → wb.heap.size + 1 < k := fun k hk => (hv k hk).elim (h.nw k) (fun e => by omega)
  have c : ∀ (j : Nat) (v : Value), w3.cell? ⟨wb.heap.size + 1, j, none⟩ = some v → w4.cell? ⟨wb.heap.size + 1, j, none⟩ = some v := fun j v e => T.cell e hnq
  have o : ∀ (j : Nat) (v : Value), 4 ≠ j → w3.cell? ⟨wb.heap.size + 1, j, none⟩ = some v → (w4.setCell ⟨wb.heap.size + 1, 4, none⟩ V4).cell? ⟨wb.heap.size + 1, j, none⟩ = some v := fun j v hj e => by
    rw [World.cell?_setCell_other _ _ _ _ (by simp; try omega)]; exact c j v e
  have T4 := Turned.set1 w4 (wb.heap.size + 1) 4 V4
  have TT : Turned (fun k => k = wb.heap.size + 1 ∨ blk V k) w3 (w4.setCell ⟨wb.heap.size + 1, 4, none⟩ V4) := (T.mono (fun _ e => .inl (.inr e))).trans T4 (fun _ e => .inl (.inl e))
  refine ⟨⟨?_, fun j hj => ?_⟩, o 0 _ (by decide) h3.f0, o 1 _ (by decide) h3.f1, o 2 _ (by decide) h3.f2, o 3 _ (by decide) h3.f3, World.cell?_setCell_same _ _ _ (c 4 _ h3.f4), o 5 _ (by decide) h3.f5, ?_, OwnK.turned (OwnI.snoc ho) T4 (fun k hk e => by have := hv4 k hk; have e : k = wb.heap.size + 1 := e; omega), hv4⟩
  · refine h3.bx.bel.trans (TT.below h3.bx.bel.size (fun k e => ?_))
    rcases e with e | e
    · omega
    · have := h.nw k e; omega
  · have hj6 : j < n.cells.length := hj
    have e := h3.bx.box j hj
    rw [List.getElem?_eq_getElem hj6] at e ⊢
    refine TT.cell e (fun e => ?_)
    rcases e with e | e
    · simp at e
    · exact hnp e
  · rw [World.frozen?_setCell, T.frozen (p := ⟨wb.heap.size + 1, 4, none⟩) (by simp; omega) hnq]
    exact h3.fz
end Go.Proofs.YtipdmmncgenppaaGreatDoor
