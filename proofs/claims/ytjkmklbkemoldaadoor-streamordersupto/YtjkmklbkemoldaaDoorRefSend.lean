/-
  The document's Send.
-/
import Derived.Test.YtjkmklbkemoldaaDoorRefMem
namespace Go.Proofs.YtjkmklbkemoldaaDoor
open Go.RowKit

/-- A new empty slice of bytes, and a draw: nothing old has turned. -/
theorem fresh0 (w : World) (t : TypeId) : Turned (fun _ => False) w ((w.alloc (.cells #[] t)).drew) := (Turned.alloc _ _ _).trans (Turned.drew (fun _ => False) _) (fun _ h => h.elim)
theorem fresh1 {w w1 : World} {t : TypeId} (ht : Turned (blk (.slice (some ⟨w.heap.size, 0, none⟩) 0 0)) ((w.alloc (.cells #[] t)).drew) w1) : Turned (fun _ => False) w w1 :=
  (fresh0 w t).trans ht (fun _ hk => .inr (Nat.le_of_eq hk))
theorem fresh2 {w w1 w2 : World} {t : TypeId} {v1 : Value} (T1 : Turned (fun _ => False) w w1) (hb1 : ∀ k, blk v1 k → blk (.slice (some ⟨w.heap.size, 0, none⟩) 0 0) k ∨ k = ((w.alloc (.cells #[] t)).drew).heap.size) (ht2 : Turned (blk v1) w1 w2) : Turned (fun _ => False) w w2 :=
  T1.trans ht2 (fun k hk => .inr ((hb1 k hk).elim (fun h => Nat.le_of_eq h) (fun h => by simp at h; omega)))
theorem freshB {w w1 : World} {t : TypeId} {v1 v2 : Value} (T1 : Turned (fun _ => False) w w1) (hb1 : ∀ k, blk v1 k → blk (.slice (some ⟨w.heap.size, 0, none⟩) 0 0) k ∨ k = ((w.alloc (.cells #[] t)).drew).heap.size) (hb2 : ∀ k, blk v2 k → blk v1 k ∨ k = w1.heap.size) : ∀ k, blk v2 k → w.heap.size ≤ k :=
  fun k hk => (hb2 k hk).elim (fun h => (hb1 k h).elim (fun h => Nat.le_of_eq h) (fun h => by simp at h; omega)) (fun h => by have := T1.size; omega)

/-- The memory behind it. -/
theorem refSend_mem0 {w w2 : World} {g : Nat} {st : St} {U0 U1 C0 C1 U' : Value} {bs : List Int} (h : RefMem w g st U0 U1 C0 C1) (T2 : Turned (fun _ => False) w w2) (ho : Own w2 U' (st.a.und ++ bs)) (hb : ∀ k, blk U' k → w.heap.size ≤ k) :
    RefMem (((w2.setCell ⟨g, 0, none⟩ U').setCell ⟨g, 4, none⟩ (.int .i64 (wrap64 (st.a.sent + bs.length)))).drew) g { st with a := { st.a with und := st.a.und ++ bs, sent := wrap64 (st.a.sent + bs.length) } } U' U1 C0 C1 ∧
      Turned (fun k => k = g) w (((w2.setCell ⟨g, 0, none⟩ U').setCell ⟨g, 4, none⟩ (.int .i64 (wrap64 (st.a.sent + bs.length)))).drew) := by
  have hg := h.cells.lt (by omega)
  have h2 := h.turned T2 (fun _ _ h => h)
  have T3 : Turned (fun k => k = g) w2 (((w2.setCell ⟨g, 0, none⟩ U').setCell ⟨g, 4, none⟩ (.int .i64 (wrap64 (st.a.sent + bs.length)))).drew) :=
    ((Turned.setCell w2 ⟨g, 0, none⟩ _).trans (Turned.setCell _ ⟨g, 4, none⟩ _) (fun _ h => .inl h)).trans (Turned.drew (fun _ => False) _) (fun _ h => h.elim)
  have hU : Part w2 g U' (st.a.und ++ bs) := ⟨ho.sl, ho.blk_lt, fun k hk => by have := hb k hk; omega⟩
  have ns : ∀ k, k < w2.heap.size → k ≠ g → ¬ k = g := fun _ _ h => h
  refine ⟨⟨(((h2.cells.set 0 U').set 4 (.int .i64 (wrap64 (st.a.sent + bs.length)))).turned (Turned.drew (fun _ => False) _) (fun h => h)).congr (forall13 rfl rfl rfl rfl rfl rfl rfl rfl rfl rfl rfl rfl rfl), hU.turned T3 ns, h2.u1.turned T3 ns, h2.c0.turned T3 ns, h2.c1.turned T3 ns⟩, (T2.mono (fun _ h => h.elim)).trans T3 (fun _ h => .inl h)⟩

set_option maxRecDepth 100000 in
set_option maxHeartbeats 3200000 in
theorem ref_send0 (g : Nat) (st : St) (U0 U1 C0 C1 x : Value) (bs : List Int) (w : World) (h : RefMem w g st U0 U1 C0 C1) (hx : Sl w x bs) (hs : st.shut = false) (hl : (st.a.und.length : Int) + bs.length ≤ 4194304) :
    Calls Tryd.prog 23 #[.pointer (some ⟨g, 0, none⟩), .int .i64 0, x] w fun e w' => ∃ U', e = .returned (.slice none 0 0) ∧
      RefMem w' g { st with a := { st.a with und := st.a.und ++ bs, sent := wrap64 (st.a.sent + bs.length) } } U' U1 C0 C1 ∧ Turned (fun k => k = g) w w' ∧ ∀ k, blk U' k → w.heap.size ≤ k := by
  obtain ⟨aE, capE, hform, hc0, hm0⟩ := h.u0.sl.form
  subst hform
  obtain ⟨ax, capx, rfl, hcx, hmx⟩ := hx.form
  obtain ⟨kU, fU⟩ := h.cells 0 (by omega)
  obtain ⟨kS, fS⟩ := h.cells 4 (by omega)
  obtain ⟨kH, _⟩ := h.cells 12 (by omega)
  simp only [refCell] at kU kS kH
  rw [hs] at kH
  have hgl : g < w.heap.size := World.block_lt_of_cell? w _ kU
  have hx1 : Sl ((w.alloc (.cells #[] 5)).drew) (.slice ax bs.length capx) bs := hx.turned (fresh0 w _) (fun _ _ h => h)
  have hu1 : Sl ((w.alloc (.cells #[] 5)).drew) (.slice aE st.a.und.length capE) st.a.und := h.u0.sl.turned (fresh0 w _) (fun _ _ h => h)
  have ho0 : Own ((w.alloc (.cells #[] 5)).drew) (.slice (some ⟨w.heap.size, 0, none⟩) 0 0) [] := (Own.empty w _ _ rfl).turned (Turned.drew (fun _ => False) _) (fun _ _ h => h)
  have HH : Hid (RefMem w g st (.slice aE st.a.und.length capE) U1 C0 C1) := h
  have HX : Hid (Sl w (.slice ax bs.length capx) bs) := hx
  clear h hx
  go_enter Tryd.func23, Tryd.ntmps23
  go_wp2_with (go_at_call 45; refine (end_yes0 _).mono ?_; rintro e w' ⟨rfl, rfl⟩)
  go_region_law (first
      | (refine step_append_bytes (by rfl) (.tmp 33) (.tmp 39) (by rfl) Tryd.bytes (by rfl) (by rfl) ho0 hu1 (by simp; omega) ?_; intro v1 w1 ho1 ht1 hb1; have T1 := fresh1 ht1; have hx2 : Sl w1 (.slice ax bs.length capx) bs := HX.out.turned T1 (fun _ _ h => h))
      | (refine step_append_bytes (by rfl) (.tmp 40) (.tmp 41) (by rfl) Tryd.bytes (by rfl) (by rfl) ho1 hx2 (by simp; omega) ?_; intro v2 w2 ho2 ht2 hb2; have T2 := fresh2 T1 hb1 ht2; have hB2 := freshB T1 hb1 hb2; obtain ⟨a2, cap2, rfl, hc2, hm2⟩ := ho2.sl.form; have f2 : w2.frozen? ⟨g, 0, none⟩ = false := (T2.frozen (p := ⟨g, 0, none⟩) hgl (fun h => h)).trans fU; have c2 : w2.cell? ⟨g, 0, none⟩ = some (.slice aE st.a.und.length capE) := T2.cell kU (fun h => h); have f3 : w2.frozen? ⟨g, 4, none⟩ = false := (T2.frozen (p := ⟨g, 4, none⟩) hgl (fun h => h)).trans fS; have c3 : w2.cell? ⟨g, 4, none⟩ = some (.int .i64 st.a.sent) := T2.cell kS (fun h => h)))
  all_goals
    clear hx1 hu1 ho0 ho1 ht1 hb1 hx2 ht2 hb2 T1 kU kS kH
    go_wp2
    go_region
    go_wp2
    go_ret
    simp only [List.nil_append, List.length_append] at ho2 hB2
    have R := refSend_mem0 HH.out T2 ho2 hB2
    exact ⟨_, rfl, R.1, R.2, hB2⟩

/-- The memory behind it. -/
theorem refSend_mem1 {w w2 : World} {g : Nat} {st : St} {U0 U1 C0 C1 U' : Value} {bs : List Int} (h : RefMem w g st U0 U1 C0 C1) (T2 : Turned (fun _ => False) w w2) (ho : Own w2 U' (st.b.und ++ bs)) (hb : ∀ k, blk U' k → w.heap.size ≤ k) :
    RefMem (((w2.setCell ⟨g, 1, none⟩ U').setCell ⟨g, 5, none⟩ (.int .i64 (wrap64 (st.b.sent + bs.length)))).drew) g { st with b := { st.b with und := st.b.und ++ bs, sent := wrap64 (st.b.sent + bs.length) } } U0 U' C0 C1 ∧
      Turned (fun k => k = g) w (((w2.setCell ⟨g, 1, none⟩ U').setCell ⟨g, 5, none⟩ (.int .i64 (wrap64 (st.b.sent + bs.length)))).drew) := by
  have hg := h.cells.lt (by omega)
  have h2 := h.turned T2 (fun _ _ h => h)
  have T3 : Turned (fun k => k = g) w2 (((w2.setCell ⟨g, 1, none⟩ U').setCell ⟨g, 5, none⟩ (.int .i64 (wrap64 (st.b.sent + bs.length)))).drew) :=
    ((Turned.setCell w2 ⟨g, 1, none⟩ _).trans (Turned.setCell _ ⟨g, 5, none⟩ _) (fun _ h => .inl h)).trans (Turned.drew (fun _ => False) _) (fun _ h => h.elim)
  have hU : Part w2 g U' (st.b.und ++ bs) := ⟨ho.sl, ho.blk_lt, fun k hk => by have := hb k hk; omega⟩
  have ns : ∀ k, k < w2.heap.size → k ≠ g → ¬ k = g := fun _ _ h => h
  refine ⟨⟨(((h2.cells.set 1 U').set 5 (.int .i64 (wrap64 (st.b.sent + bs.length)))).turned (Turned.drew (fun _ => False) _) (fun h => h)).congr (forall13 rfl rfl rfl rfl rfl rfl rfl rfl rfl rfl rfl rfl rfl), h2.u0.turned T3 ns, hU.turned T3 ns, h2.c0.turned T3 ns, h2.c1.turned T3 ns⟩, (T2.mono (fun _ h => h.elim)).trans T3 (fun _ h => .inl h)⟩

set_option maxRecDepth 100000 in
set_option maxHeartbeats 3200000 in
theorem ref_send1 (g : Nat) (st : St) (U0 U1 C0 C1 x : Value) (bs : List Int) (w : World) (h : RefMem w g st U0 U1 C0 C1) (hx : Sl w x bs) (hs : st.shut = false) (hl : (st.b.und.length : Int) + bs.length ≤ 4194304) :
    Calls Tryd.prog 23 #[.pointer (some ⟨g, 0, none⟩), .int .i64 1, x] w fun e w' => ∃ U', e = .returned (.slice none 0 0) ∧
      RefMem w' g { st with b := { st.b with und := st.b.und ++ bs, sent := wrap64 (st.b.sent + bs.length) } } U0 U' C0 C1 ∧ Turned (fun k => k = g) w w' ∧ ∀ k, blk U' k → w.heap.size ≤ k := by
  obtain ⟨aE, capE, hform, hc0, hm0⟩ := h.u1.sl.form
  subst hform
  obtain ⟨ax, capx, rfl, hcx, hmx⟩ := hx.form
  obtain ⟨kU, fU⟩ := h.cells 1 (by omega)
  obtain ⟨kS, fS⟩ := h.cells 5 (by omega)
  obtain ⟨kH, _⟩ := h.cells 12 (by omega)
  simp only [refCell] at kU kS kH
  rw [hs] at kH
  have hgl : g < w.heap.size := World.block_lt_of_cell? w _ kU
  have hx1 : Sl ((w.alloc (.cells #[] 5)).drew) (.slice ax bs.length capx) bs := hx.turned (fresh0 w _) (fun _ _ h => h)
  have hu1 : Sl ((w.alloc (.cells #[] 5)).drew) (.slice aE st.b.und.length capE) st.b.und := h.u1.sl.turned (fresh0 w _) (fun _ _ h => h)
  have ho0 : Own ((w.alloc (.cells #[] 5)).drew) (.slice (some ⟨w.heap.size, 0, none⟩) 0 0) [] := (Own.empty w _ _ rfl).turned (Turned.drew (fun _ => False) _) (fun _ _ h => h)
  have HH : Hid (RefMem w g st U0 (.slice aE st.b.und.length capE) C0 C1) := h
  have HX : Hid (Sl w (.slice ax bs.length capx) bs) := hx
  clear h hx
  go_enter Tryd.func23, Tryd.ntmps23
  go_wp2_with (go_at_call 45; refine (end_yes1 _).mono ?_; rintro e w' ⟨rfl, rfl⟩)
  go_region_law (first
      | (refine step_append_bytes (by rfl) (.tmp 33) (.tmp 39) (by rfl) Tryd.bytes (by rfl) (by rfl) ho0 hu1 (by simp; omega) ?_; intro v1 w1 ho1 ht1 hb1; have T1 := fresh1 ht1; have hx2 : Sl w1 (.slice ax bs.length capx) bs := HX.out.turned T1 (fun _ _ h => h))
      | (refine step_append_bytes (by rfl) (.tmp 40) (.tmp 41) (by rfl) Tryd.bytes (by rfl) (by rfl) ho1 hx2 (by simp; omega) ?_; intro v2 w2 ho2 ht2 hb2; have T2 := fresh2 T1 hb1 ht2; have hB2 := freshB T1 hb1 hb2; obtain ⟨a2, cap2, rfl, hc2, hm2⟩ := ho2.sl.form; have f2 : w2.frozen? ⟨g, 1, none⟩ = false := (T2.frozen (p := ⟨g, 1, none⟩) hgl (fun h => h)).trans fU; have c2 : w2.cell? ⟨g, 1, none⟩ = some (.slice aE st.b.und.length capE) := T2.cell kU (fun h => h); have f3 : w2.frozen? ⟨g, 5, none⟩ = false := (T2.frozen (p := ⟨g, 5, none⟩) hgl (fun h => h)).trans fS; have c3 : w2.cell? ⟨g, 5, none⟩ = some (.int .i64 st.b.sent) := T2.cell kS (fun h => h)))
  all_goals
    clear hx1 hu1 ho0 ho1 ht1 hb1 hx2 ht2 hb2 T1 kU kS kH
    go_wp2
    go_region
    go_wp2
    go_ret
    simp only [List.nil_append, List.length_append] at ho2 hB2
    have R := refSend_mem1 HH.out T2 ho2 hB2
    exact ⟨_, rfl, R.1, R.2, hB2⟩
end Go.Proofs.YtjkmklbkemoldaaDoor
