/-
  The document's State.
-/
import Derived.Test.YtjkmklbkemoldaaDoorRefOk
namespace Go.Proofs.YtjkmklbkemoldaaDoor
open Go.RowKit

theorem belowCells {W w1 : World} (hb : Below W.heap.size W w1) : (∀ b o, b < W.heap.size → w1.cell? ⟨b, o, none⟩ = W.cell? ⟨b, o, none⟩) ∧ (∀ b o, b < W.heap.size → w1.frozen? ⟨b, o, none⟩ = W.frozen? ⟨b, o, none⟩) :=
  ⟨fun b o h => hb.cell (p := ⟨b, o, none⟩) h, fun b o h => hb.frozen (p := ⟨b, o, none⟩) h⟩

set_option maxRecDepth 100000 in
set_option maxHeartbeats 1600000 in
theorem ref_state_range (p : Value) (n : Int) (h0 : (n == 0) = false) (h1 : (n == 1) = false) (w : World) :
    Calls Tryd.prog 29 #[p, .int .i64 n] w fun e w' => ∃ v, e = .returned (.tuple #[.agg #[.int .i64 0, .int .i64 0, .int .i64 0, .int .i64 0, .int .i64 0, .bool false, .bool false], v]) ∧ LinkOf w.heap.size w' v 2 ∧ Below w.heap.size w w' := by
  go_enter Tryd.func29, Tryd.ntmps29
  go_wp2_with (first | (go_at_call 45; refine (end_no n h0 h1 _).mono ?_; rintro e w' ⟨rfl, rfl⟩) | fail)
  refine (no_any _ _).mono ?_
  rintro e w1 ⟨lb, rfl, hlk, hbe⟩
  obtain ⟨hc, hfz⟩ := belowCells hbe
  have hz := hbe.size
  simp at hz
  have HB : Hid (Below (w.heap.size + 1) (w.alloc (.cells #[.int .i64 0, .int .i64 0, .int .i64 0, .int .i64 0, .int .i64 0, .bool false, .bool false] 45)) w1) := by unfold Hid; simpa using hbe
  obtain ⟨lb', hlb, hv, l0, l1, l2⟩ := hlk
  cases hv
  simp at hlb
  have hne : ∀ i j : Nat, (⟨w.heap.size, i, none⟩ : Addr) ≠ ⟨lb, j, none⟩ := fun i j he => by have := congrArg Addr.block he; simp at this; omega
  clear hbe
  go_wp2
  refine bodyPost_ret (v := .tuple #[.agg #[.int .i64 0, .int .i64 0, .int .i64 0, .int .i64 0, .int .i64 0, .bool false, .bool false], .slice (some ⟨lb, 0, none⟩) 1 1]) (by simp [results, Tryd.results29, go_sem, hc]) rfl ⟨_, rfl, ⟨lb, by omega, rfl, ?_, ?_, ?_⟩, ?_⟩
  · simp only [World.cell?_setCell_other _ _ _ _ (hne _ _)]; exact l0
  · simp only [World.cell?_setCell_other _ _ _ _ (hne _ _)]; exact l1
  · simp only [World.cell?_setCell_other _ _ _ _ (hne _ _)]; exact l2
  · have hbase : Below w.heap.size w w1 := ((Below.refl _ _).alloc (Nat.le_refl _) _).trans (HB.out.mono (by omega))
    exact (((((((hbase.setCell (p := ⟨w.heap.size, 0, none⟩) (Nat.le_refl _) _).setCell (p := ⟨w.heap.size, 1, none⟩) (Nat.le_refl _) _).setCell (p := ⟨w.heap.size, 2, none⟩) (Nat.le_refl _) _).setCell (p := ⟨w.heap.size, 3, none⟩) (Nat.le_refl _) _).setCell (p := ⟨w.heap.size, 4, none⟩) (Nat.le_refl _) _).setCell (p := ⟨w.heap.size, 5, none⟩) (Nat.le_refl _) _).setCell (p := ⟨w.heap.size, 6, none⟩) (Nat.le_refl _) _)

set_option maxRecDepth 100000 in
set_option maxHeartbeats 3200000 in
theorem ref_state0 (g : Nat) (st : St) (U0 U1 C0 C1 : Value) (w : World) (h : RefMem w g st U0 U1 C0 C1) :
    Calls Tryd.prog 29 #[.pointer (some ⟨g, 0, none⟩), .int .i64 0] w fun e w' => e = .returned (.tuple #[.agg #[.int .i64 st.a.und.length, .int .i64 st.a.come.length, .int .i64 st.a.sent, .int .i64 st.a.moved, .int .i64 st.a.read, .bool st.a.stall, .bool st.shut], .slice none 0 0]) ∧ Below w.heap.size w w' := by
  obtain ⟨aU, capU, hfU, hcU, hmU⟩ := h.u0.sl.form
  subst hfU
  obtain ⟨aC, capC, hfC, hcC, hmC⟩ := h.c0.sl.form
  subst hfC
  obtain ⟨kU, _⟩ := h.cells 0 (by omega)
  simp only [refCell] at kU
  obtain ⟨kC, _⟩ := h.cells 2 (by omega)
  simp only [refCell] at kC
  obtain ⟨kS, _⟩ := h.cells 4 (by omega)
  simp only [refCell] at kS
  obtain ⟨kM, _⟩ := h.cells 6 (by omega)
  simp only [refCell] at kM
  obtain ⟨kR, _⟩ := h.cells 8 (by omega)
  simp only [refCell] at kR
  obtain ⟨kT, _⟩ := h.cells 10 (by omega)
  simp only [refCell] at kT
  obtain ⟨kH, _⟩ := h.cells 12 (by omega)
  simp only [refCell] at kH
  have hgl : g < w.heap.size := World.block_lt_of_cell? w _ kU
  have hgn : ∀ i j : Nat, (⟨w.heap.size, i, none⟩ : Addr) ≠ ⟨g, j, none⟩ := fun i j he => by have := congrArg Addr.block he; simp at this; omega
  clear h
  go_enter Tryd.func29, Tryd.ntmps29
  go_wp2_with (go_at_call 45; refine (end_yes0 _).mono ?_; rintro e w' ⟨rfl, rfl⟩)
  go_region_held3 (fun w' => w'.cell? ⟨g, 0, none⟩ = some (.slice aU st.a.und.length capU) ∧ w'.cell? ⟨g, 2, none⟩ = some (.slice aC st.a.come.length capC) ∧ w'.cell? ⟨g, 4, none⟩ = some (.int .i64 st.a.sent) ∧ w'.cell? ⟨g, 6, none⟩ = some (.int .i64 st.a.moved) ∧ w'.cell? ⟨g, 8, none⟩ = some (.int .i64 st.a.read) ∧ w'.cell? ⟨g, 10, none⟩ = some (.bool st.a.stall) ∧ w'.cell? ⟨g, 12, none⟩ = some (.bool st.shut))
    (go_keep)
    (fail)
  go_wp2
  exact bodyPost_ret (v := .tuple #[.agg #[.int .i64 st.a.und.length, .int .i64 st.a.come.length, .int .i64 st.a.sent, .int .i64 st.a.moved, .int .i64 st.a.read, .bool st.a.stall, .bool st.shut], .slice none 0 0]) (by simp [results, Tryd.results29, go_sem]) rfl ⟨rfl, ((Below.refl _ _).alloc (Nat.le_refl _) _).drew⟩

set_option maxRecDepth 100000 in
set_option maxHeartbeats 3200000 in
theorem ref_state1 (g : Nat) (st : St) (U0 U1 C0 C1 : Value) (w : World) (h : RefMem w g st U0 U1 C0 C1) :
    Calls Tryd.prog 29 #[.pointer (some ⟨g, 0, none⟩), .int .i64 1] w fun e w' => e = .returned (.tuple #[.agg #[.int .i64 st.b.und.length, .int .i64 st.b.come.length, .int .i64 st.b.sent, .int .i64 st.b.moved, .int .i64 st.b.read, .bool st.b.stall, .bool st.shut], .slice none 0 0]) ∧ Below w.heap.size w w' := by
  obtain ⟨aU, capU, hfU, hcU, hmU⟩ := h.u1.sl.form
  subst hfU
  obtain ⟨aC, capC, hfC, hcC, hmC⟩ := h.c1.sl.form
  subst hfC
  obtain ⟨kU, _⟩ := h.cells 1 (by omega)
  simp only [refCell] at kU
  obtain ⟨kC, _⟩ := h.cells 3 (by omega)
  simp only [refCell] at kC
  obtain ⟨kS, _⟩ := h.cells 5 (by omega)
  simp only [refCell] at kS
  obtain ⟨kM, _⟩ := h.cells 7 (by omega)
  simp only [refCell] at kM
  obtain ⟨kR, _⟩ := h.cells 9 (by omega)
  simp only [refCell] at kR
  obtain ⟨kT, _⟩ := h.cells 11 (by omega)
  simp only [refCell] at kT
  obtain ⟨kH, _⟩ := h.cells 12 (by omega)
  simp only [refCell] at kH
  have hgl : g < w.heap.size := World.block_lt_of_cell? w _ kU
  have hgn : ∀ i j : Nat, (⟨w.heap.size, i, none⟩ : Addr) ≠ ⟨g, j, none⟩ := fun i j he => by have := congrArg Addr.block he; simp at this; omega
  clear h
  go_enter Tryd.func29, Tryd.ntmps29
  go_wp2_with (go_at_call 45; refine (end_yes1 _).mono ?_; rintro e w' ⟨rfl, rfl⟩)
  go_region_held3 (fun w' => w'.cell? ⟨g, 1, none⟩ = some (.slice aU st.b.und.length capU) ∧ w'.cell? ⟨g, 3, none⟩ = some (.slice aC st.b.come.length capC) ∧ w'.cell? ⟨g, 5, none⟩ = some (.int .i64 st.b.sent) ∧ w'.cell? ⟨g, 7, none⟩ = some (.int .i64 st.b.moved) ∧ w'.cell? ⟨g, 9, none⟩ = some (.int .i64 st.b.read) ∧ w'.cell? ⟨g, 11, none⟩ = some (.bool st.b.stall) ∧ w'.cell? ⟨g, 12, none⟩ = some (.bool st.shut))
    (go_keep)
    (fail)
  go_wp2
  exact bodyPost_ret (v := .tuple #[.agg #[.int .i64 st.b.und.length, .int .i64 st.b.come.length, .int .i64 st.b.sent, .int .i64 st.b.moved, .int .i64 st.b.read, .bool st.b.stall, .bool st.shut], .slice none 0 0]) (by simp [results, Tryd.results29, go_sem]) rfl ⟨rfl, ((Below.refl _ _).alloc (Nat.le_refl _) _).drew⟩
end Go.Proofs.YtjkmklbkemoldaaDoor
