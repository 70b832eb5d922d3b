/-
  The document's stream: every refusal: one link with its number; nothing old has turned.
-/
import Derived.Test.YtjkmklbkemoldaaDoorRefMem
namespace Go.Proofs.YtjkmklbkemoldaaDoor
open Go.RowKit

set_option maxRecDepth 100000 in
theorem ref_send_range (g : Nat) (st : St) (U0 U1 C0 C1 : Value) (n : Int) (x : Value) (w : World) (_h : RefMem w g st U0 U1 C0 C1) (h0 : (n == 0) = false) (h1 : (n == 1) = false) :
    Calls Tryd.prog 23 #[.pointer (some ⟨g, 0, none⟩), .int .i64 n, x] w fun e w' => ∃ v, e = .returned v ∧ LinkOf w.heap.size w' v 2 ∧ Below w.heap.size w w' := by
  go_enter Tryd.func23, Tryd.ntmps23
  go_wp2_with (first | (go_at_call 45; refine (end_no n h0 h1 _).mono ?_; rintro e w' ⟨rfl, rfl⟩) | (go_at_call 46; refine (no_any _ _).mono ?_; rintro e w1 ⟨lb, rfl, hlk, hbe⟩))
  go_ret
  exact ⟨_, rfl, hlk, hbe⟩

set_option maxRecDepth 100000 in
theorem ref_move_range (g : Nat) (st : St) (U0 U1 C0 C1 : Value) (n : Int) (m : Int) (w : World) (_h : RefMem w g st U0 U1 C0 C1) (h0 : (n == 0) = false) (h1 : (n == 1) = false) :
    Calls Tryd.prog 24 #[.pointer (some ⟨g, 0, none⟩), .int .i64 n, .int .i64 m] w fun e w' => ∃ v, e = .returned v ∧ LinkOf w.heap.size w' v 2 ∧ Below w.heap.size w w' := by
  go_enter Tryd.func24, Tryd.ntmps24
  go_wp2_with (first | (go_at_call 45; refine (end_no n h0 h1 _).mono ?_; rintro e w' ⟨rfl, rfl⟩) | (go_at_call 46; refine (no_any _ _).mono ?_; rintro e w1 ⟨lb, rfl, hlk, hbe⟩))
  go_ret
  exact ⟨_, rfl, hlk, hbe⟩

set_option maxRecDepth 100000 in
theorem ref_stall_range (g : Nat) (st : St) (U0 U1 C0 C1 : Value) (n : Int) (y : Bool) (w : World) (_h : RefMem w g st U0 U1 C0 C1) (h0 : (n == 0) = false) (h1 : (n == 1) = false) :
    Calls Tryd.prog 25 #[.pointer (some ⟨g, 0, none⟩), .int .i64 n, .bool y] w fun e w' => ∃ v, e = .returned v ∧ LinkOf w.heap.size w' v 2 ∧ Below w.heap.size w w' := by
  go_enter Tryd.func25, Tryd.ntmps25
  go_wp2_with (first | (go_at_call 45; refine (end_no n h0 h1 _).mono ?_; rintro e w' ⟨rfl, rfl⟩) | (go_at_call 46; refine (no_any _ _).mono ?_; rintro e w1 ⟨lb, rfl, hlk, hbe⟩))
  go_ret
  exact ⟨_, rfl, hlk, hbe⟩

set_option maxRecDepth 100000 in
theorem ref_close_range (g : Nat) (st : St) (U0 U1 C0 C1 : Value) (n : Int) (w : World) (_h : RefMem w g st U0 U1 C0 C1) (h0 : (n == 0) = false) (h1 : (n == 1) = false) :
    Calls Tryd.prog 28 #[.pointer (some ⟨g, 0, none⟩), .int .i64 n] w fun e w' => ∃ v, e = .returned v ∧ LinkOf w.heap.size w' v 2 ∧ Below w.heap.size w w' := by
  go_enter Tryd.func28, Tryd.ntmps28
  go_wp2_with (first | (go_at_call 45; refine (end_no n h0 h1 _).mono ?_; rintro e w' ⟨rfl, rfl⟩) | (go_at_call 46; refine (no_any _ _).mono ?_; rintro e w1 ⟨lb, rfl, hlk, hbe⟩))
  go_ret
  exact ⟨_, rfl, hlk, hbe⟩

set_option maxRecDepth 100000 in
theorem ref_read_range (g : Nat) (st : St) (U0 U1 C0 C1 : Value) (n : Int) (m : Int) (w : World) (_h : RefMem w g st U0 U1 C0 C1) (h0 : (n == 0) = false) (h1 : (n == 1) = false) :
    Calls Tryd.prog 26 #[.pointer (some ⟨g, 0, none⟩), .int .i64 n, .int .i64 m] w fun e w' => ∃ v, e = .returned (.tuple #[.slice none 0 0, v]) ∧ LinkOf w.heap.size w' v 2 ∧ Below w.heap.size w w' := by
  go_enter Tryd.func26, Tryd.ntmps26
  go_wp2_with (first | (go_at_call 45; refine (end_no n h0 h1 _).mono ?_; rintro e w' ⟨rfl, rfl⟩) | (go_at_call 46; refine (no_any _ _).mono ?_; rintro e w1 ⟨lb, rfl, hlk, hbe⟩))
  go_ret2
  exact ⟨_, rfl, hlk, hbe⟩

set_option maxRecDepth 100000 in
theorem ref_send_shut0 (g : Nat) (st : St) (U0 U1 C0 C1 : Value) (x : Value) (w : World) (h : RefMem w g st U0 U1 C0 C1) (hs : st.shut = true) :
    Calls Tryd.prog 23 #[.pointer (some ⟨g, 0, none⟩), .int .i64 0, x] w fun e w' => ∃ v, e = .returned v ∧ LinkOf w.heap.size w' v 100 ∧ Below w.heap.size w w' := by
  obtain ⟨kH, _⟩ := h.cells 12 (by omega)
  simp only [refCell] at kH
  rw [hs] at kH
  clear h
  go_enter Tryd.func23, Tryd.ntmps23
  go_wp2_with (first | (go_at_call 45; refine (end_yes0 _).mono ?_; rintro e w' ⟨rfl, rfl⟩) | (go_at_call 46; refine (no_any _ _).mono ?_; rintro e w1 ⟨lb, rfl, hlk, hbe⟩))
  go_ret
  exact ⟨_, rfl, hlk, hbe⟩

set_option maxRecDepth 100000 in
theorem ref_move_shut0 (g : Nat) (st : St) (U0 U1 C0 C1 : Value) (m : Int) (w : World) (h : RefMem w g st U0 U1 C0 C1) (hs : st.shut = true) :
    Calls Tryd.prog 24 #[.pointer (some ⟨g, 0, none⟩), .int .i64 0, .int .i64 m] w fun e w' => ∃ v, e = .returned v ∧ LinkOf w.heap.size w' v 100 ∧ Below w.heap.size w w' := by
  obtain ⟨kH, _⟩ := h.cells 12 (by omega)
  simp only [refCell] at kH
  rw [hs] at kH
  clear h
  go_enter Tryd.func24, Tryd.ntmps24
  go_wp2_with (first | (go_at_call 45; refine (end_yes0 _).mono ?_; rintro e w' ⟨rfl, rfl⟩) | (go_at_call 46; refine (no_any _ _).mono ?_; rintro e w1 ⟨lb, rfl, hlk, hbe⟩))
  go_ret
  exact ⟨_, rfl, hlk, hbe⟩

set_option maxRecDepth 100000 in
theorem ref_stall_shut0 (g : Nat) (st : St) (U0 U1 C0 C1 : Value) (y : Bool) (w : World) (h : RefMem w g st U0 U1 C0 C1) (hs : st.shut = true) :
    Calls Tryd.prog 25 #[.pointer (some ⟨g, 0, none⟩), .int .i64 0, .bool y] w fun e w' => ∃ v, e = .returned v ∧ LinkOf w.heap.size w' v 100 ∧ Below w.heap.size w w' := by
  obtain ⟨kH, _⟩ := h.cells 12 (by omega)
  simp only [refCell] at kH
  rw [hs] at kH
  clear h
  go_enter Tryd.func25, Tryd.ntmps25
  go_wp2_with (first | (go_at_call 45; refine (end_yes0 _).mono ?_; rintro e w' ⟨rfl, rfl⟩) | (go_at_call 46; refine (no_any _ _).mono ?_; rintro e w1 ⟨lb, rfl, hlk, hbe⟩))
  go_ret
  exact ⟨_, rfl, hlk, hbe⟩

set_option maxRecDepth 100000 in
theorem ref_close_shut0 (g : Nat) (st : St) (U0 U1 C0 C1 : Value) (w : World) (h : RefMem w g st U0 U1 C0 C1) (hs : st.shut = true) :
    Calls Tryd.prog 28 #[.pointer (some ⟨g, 0, none⟩), .int .i64 0] w fun e w' => ∃ v, e = .returned v ∧ LinkOf w.heap.size w' v 100 ∧ Below w.heap.size w w' := by
  obtain ⟨kH, _⟩ := h.cells 12 (by omega)
  simp only [refCell] at kH
  rw [hs] at kH
  clear h
  go_enter Tryd.func28, Tryd.ntmps28
  go_wp2_with (first | (go_at_call 45; refine (end_yes0 _).mono ?_; rintro e w' ⟨rfl, rfl⟩) | (go_at_call 46; refine (no_any _ _).mono ?_; rintro e w1 ⟨lb, rfl, hlk, hbe⟩))
  go_ret
  exact ⟨_, rfl, hlk, hbe⟩

set_option maxRecDepth 100000 in
theorem ref_send_long0 (g : Nat) (st : St) (U0 U1 C0 C1 : Value) (x : Value) (bs : List Int) (w : World) (h : RefMem w g st U0 U1 C0 C1) (hs : st.shut = false) (hx : Sl w x bs) (hl : 4194304 < (st.a.und.length : Int) + bs.length) (hsm : bs.length ≤ 140737488355328) (hsu : st.a.und.length ≤ 140737488355328) :
    Calls Tryd.prog 23 #[.pointer (some ⟨g, 0, none⟩), .int .i64 0, x] w fun e w' => ∃ v, e = .returned v ∧ LinkOf w.heap.size w' v 4 ∧ Below w.heap.size w w' := by
  obtain ⟨aU, capU, hfU, hcU, hmU⟩ := h.u0.sl.form
  subst hfU
  obtain ⟨ax, capx, rfl, hcx, hmx⟩ := hx.form
  clear hx
  obtain ⟨kH, _⟩ := h.cells 12 (by omega)
  simp only [refCell] at kH
  rw [hs] at kH
  obtain ⟨kU, _⟩ := h.cells 0 (by omega)
  simp only [refCell] at kU
  clear h
  go_enter Tryd.func23, Tryd.ntmps23
  go_wp2_with (first | (go_at_call 45; refine (end_yes0 _).mono ?_; rintro e w' ⟨rfl, rfl⟩) | (go_at_call 46; refine (no_any _ _).mono ?_; rintro e w1 ⟨lb, rfl, hlk, hbe⟩))
  go_ret
  exact ⟨_, rfl, hlk, hbe⟩

set_option maxRecDepth 100000 in
theorem ref_move_neg0 (g : Nat) (st : St) (U0 U1 C0 C1 : Value) (m : Int) (w : World) (h : RefMem w g st U0 U1 C0 C1) (hs : st.shut = false) (hm : m < 0) :
    Calls Tryd.prog 24 #[.pointer (some ⟨g, 0, none⟩), .int .i64 0, .int .i64 m] w fun e w' => ∃ v, e = .returned v ∧ LinkOf w.heap.size w' v 1 ∧ Below w.heap.size w w' := by
  obtain ⟨kH, _⟩ := h.cells 12 (by omega)
  simp only [refCell] at kH
  rw [hs] at kH
  clear h
  go_enter Tryd.func24, Tryd.ntmps24
  go_wp2_with (first | (go_at_call 45; refine (end_yes0 _).mono ?_; rintro e w' ⟨rfl, rfl⟩) | (go_at_call 46; refine (no_any _ _).mono ?_; rintro e w1 ⟨lb, rfl, hlk, hbe⟩))
  go_ret
  exact ⟨_, rfl, hlk, hbe⟩

set_option maxRecDepth 100000 in
theorem ref_move_stalled0 (g : Nat) (st : St) (U0 U1 C0 C1 : Value) (m : Int) (w : World) (h : RefMem w g st U0 U1 C0 C1) (hs : st.shut = false) (hm : ¬ m < 0) (ht : st.a.stall = true) :
    Calls Tryd.prog 24 #[.pointer (some ⟨g, 0, none⟩), .int .i64 0, .int .i64 m] w fun e w' => ∃ v, e = .returned v ∧ LinkOf w.heap.size w' v 101 ∧ Below w.heap.size w w' := by
  obtain ⟨kH, _⟩ := h.cells 12 (by omega)
  simp only [refCell] at kH
  rw [hs] at kH
  obtain ⟨kT, _⟩ := h.cells 10 (by omega)
  simp only [refCell] at kT
  rw [ht] at kT
  clear h
  go_enter Tryd.func24, Tryd.ntmps24
  go_wp2_with (first | (go_at_call 45; refine (end_yes0 _).mono ?_; rintro e w' ⟨rfl, rfl⟩) | (go_at_call 46; refine (no_any _ _).mono ?_; rintro e w1 ⟨lb, rfl, hlk, hbe⟩))
  go_ret
  exact ⟨_, rfl, hlk, hbe⟩

set_option maxRecDepth 100000 in
theorem ref_move_moves0 (g : Nat) (st : St) (U0 U1 C0 C1 : Value) (m : Int) (w : World) (h : RefMem w g st U0 U1 C0 C1) (hs : st.shut = false) (hm : ¬ m < 0) (ht : st.a.stall = false) (hn : (st.a.und.length : Int) < m) :
    Calls Tryd.prog 24 #[.pointer (some ⟨g, 0, none⟩), .int .i64 0, .int .i64 m] w fun e w' => ∃ v, e = .returned v ∧ LinkOf w.heap.size w' v 102 ∧ Below w.heap.size w w' := by
  obtain ⟨aU, capU, hfU, hcU, hmU⟩ := h.u0.sl.form
  subst hfU
  obtain ⟨kH, _⟩ := h.cells 12 (by omega)
  simp only [refCell] at kH
  rw [hs] at kH
  obtain ⟨kT, _⟩ := h.cells 10 (by omega)
  simp only [refCell] at kT
  rw [ht] at kT
  obtain ⟨kU, _⟩ := h.cells 0 (by omega)
  simp only [refCell] at kU
  clear h
  go_enter Tryd.func24, Tryd.ntmps24
  go_wp2_with (first | (go_at_call 45; refine (end_yes0 _).mono ?_; rintro e w' ⟨rfl, rfl⟩) | (go_at_call 46; refine (no_any _ _).mono ?_; rintro e w1 ⟨lb, rfl, hlk, hbe⟩))
  go_ret
  exact ⟨_, rfl, hlk, hbe⟩

set_option maxRecDepth 100000 in
theorem ref_move_many0 (g : Nat) (st : St) (U0 U1 C0 C1 : Value) (m : Int) (w : World) (h : RefMem w g st U0 U1 C0 C1) (hs : st.shut = false) (hm : ¬ m < 0) (ht : st.a.stall = false) (hn : ¬ (st.a.und.length : Int) < m) (hs2 : st.a.und.length ≤ 140737488355328) (hs3 : st.b.come.length ≤ 140737488355328) (hl : 4194304 < (st.b.come.length : Int) + m) :
    Calls Tryd.prog 24 #[.pointer (some ⟨g, 0, none⟩), .int .i64 0, .int .i64 m] w fun e w' => ∃ v, e = .returned v ∧ LinkOf w.heap.size w' v 5 ∧ Below w.heap.size w w' := by
  obtain ⟨aU, capU, hfU, hcU, hmU⟩ := h.u0.sl.form
  subst hfU
  obtain ⟨aC, capC, hfC, hcC, hmC⟩ := h.c1.sl.form
  subst hfC
  obtain ⟨kH, _⟩ := h.cells 12 (by omega)
  simp only [refCell] at kH
  rw [hs] at kH
  obtain ⟨kT, _⟩ := h.cells 10 (by omega)
  simp only [refCell] at kT
  rw [ht] at kT
  obtain ⟨kU, _⟩ := h.cells 0 (by omega)
  simp only [refCell] at kU
  obtain ⟨kC, _⟩ := h.cells 3 (by omega)
  simp only [refCell] at kC
  clear h
  go_enter Tryd.func24, Tryd.ntmps24
  go_wp2_with (first | (go_at_call 45; refine (end_yes0 _).mono ?_; rintro e w' ⟨rfl, rfl⟩) | (go_at_call 46; refine (no_any _ _).mono ?_; rintro e w1 ⟨lb, rfl, hlk, hbe⟩))
  go_ret
  exact ⟨_, rfl, hlk, hbe⟩

set_option maxRecDepth 100000 in
theorem ref_read_neg0 (g : Nat) (st : St) (U0 U1 C0 C1 : Value) (m : Int) (w : World) (_h : RefMem w g st U0 U1 C0 C1) (hm : m < 0) :
    Calls Tryd.prog 26 #[.pointer (some ⟨g, 0, none⟩), .int .i64 0, .int .i64 m] w fun e w' => ∃ v, e = .returned (.tuple #[.slice none 0 0, v]) ∧ LinkOf w.heap.size w' v 1 ∧ Below w.heap.size w w' := by
  go_enter Tryd.func26, Tryd.ntmps26
  go_wp2_with (first | (go_at_call 45; refine (end_yes0 _).mono ?_; rintro e w' ⟨rfl, rfl⟩) | (go_at_call 46; refine (no_any _ _).mono ?_; rintro e w1 ⟨lb, rfl, hlk, hbe⟩))
  go_ret2
  exact ⟨_, rfl, hlk, hbe⟩

set_option maxRecDepth 100000 in
theorem ref_read_over0 (g : Nat) (st : St) (U0 U1 C0 C1 : Value) (m : Int) (w : World) (h : RefMem w g st U0 U1 C0 C1) (hs : st.shut = true) (hm : ¬ m < 0) (hc : st.a.come = []) :
    Calls Tryd.prog 26 #[.pointer (some ⟨g, 0, none⟩), .int .i64 0, .int .i64 m] w fun e w' => ∃ v, e = .returned (.tuple #[.slice none 0 0, v]) ∧ LinkOf w.heap.size w' v 8 ∧ Below w.heap.size w w' := by
  obtain ⟨aC, capC, hfC, hcC, hmC⟩ := h.c0.sl.form
  subst hfC
  obtain ⟨kH, _⟩ := h.cells 12 (by omega)
  simp only [refCell] at kH
  rw [hs] at kH
  obtain ⟨kC, _⟩ := h.cells 2 (by omega)
  simp only [refCell] at kC
  have hz : st.a.come.length = 0 := by rw [hc]; rfl
  rw [hz] at kC
  clear h
  go_enter Tryd.func26, Tryd.ntmps26
  go_wp2_with (first | (go_at_call 45; refine (end_yes0 _).mono ?_; rintro e w' ⟨rfl, rfl⟩) | (go_at_call 46; refine (no_any _ _).mono ?_; rintro e w1 ⟨lb, rfl, hlk, hbe⟩))
  go_ret2
  exact ⟨_, rfl, hlk, hbe⟩

set_option maxRecDepth 100000 in
theorem ref_send_shut1 (g : Nat) (st : St) (U0 U1 C0 C1 : Value) (x : Value) (w : World) (h : RefMem w g st U0 U1 C0 C1) (hs : st.shut = true) :
    Calls Tryd.prog 23 #[.pointer (some ⟨g, 0, none⟩), .int .i64 1, x] w fun e w' => ∃ v, e = .returned v ∧ LinkOf w.heap.size w' v 100 ∧ Below w.heap.size w w' := by
  obtain ⟨kH, _⟩ := h.cells 12 (by omega)
  simp only [refCell] at kH
  rw [hs] at kH
  clear h
  go_enter Tryd.func23, Tryd.ntmps23
  go_wp2_with (first | (go_at_call 45; refine (end_yes1 _).mono ?_; rintro e w' ⟨rfl, rfl⟩) | (go_at_call 46; refine (no_any _ _).mono ?_; rintro e w1 ⟨lb, rfl, hlk, hbe⟩))
  go_ret
  exact ⟨_, rfl, hlk, hbe⟩

set_option maxRecDepth 100000 in
theorem ref_move_shut1 (g : Nat) (st : St) (U0 U1 C0 C1 : Value) (m : Int) (w : World) (h : RefMem w g st U0 U1 C0 C1) (hs : st.shut = true) :
    Calls Tryd.prog 24 #[.pointer (some ⟨g, 0, none⟩), .int .i64 1, .int .i64 m] w fun e w' => ∃ v, e = .returned v ∧ LinkOf w.heap.size w' v 100 ∧ Below w.heap.size w w' := by
  obtain ⟨kH, _⟩ := h.cells 12 (by omega)
  simp only [refCell] at kH
  rw [hs] at kH
  clear h
  go_enter Tryd.func24, Tryd.ntmps24
  go_wp2_with (first | (go_at_call 45; refine (end_yes1 _).mono ?_; rintro e w' ⟨rfl, rfl⟩) | (go_at_call 46; refine (no_any _ _).mono ?_; rintro e w1 ⟨lb, rfl, hlk, hbe⟩))
  go_ret
  exact ⟨_, rfl, hlk, hbe⟩

set_option maxRecDepth 100000 in
theorem ref_stall_shut1 (g : Nat) (st : St) (U0 U1 C0 C1 : Value) (y : Bool) (w : World) (h : RefMem w g st U0 U1 C0 C1) (hs : st.shut = true) :
    Calls Tryd.prog 25 #[.pointer (some ⟨g, 0, none⟩), .int .i64 1, .bool y] w fun e w' => ∃ v, e = .returned v ∧ LinkOf w.heap.size w' v 100 ∧ Below w.heap.size w w' := by
  obtain ⟨kH, _⟩ := h.cells 12 (by omega)
  simp only [refCell] at kH
  rw [hs] at kH
  clear h
  go_enter Tryd.func25, Tryd.ntmps25
  go_wp2_with (first | (go_at_call 45; refine (end_yes1 _).mono ?_; rintro e w' ⟨rfl, rfl⟩) | (go_at_call 46; refine (no_any _ _).mono ?_; rintro e w1 ⟨lb, rfl, hlk, hbe⟩))
  go_ret
  exact ⟨_, rfl, hlk, hbe⟩

set_option maxRecDepth 100000 in
theorem ref_close_shut1 (g : Nat) (st : St) (U0 U1 C0 C1 : Value) (w : World) (h : RefMem w g st U0 U1 C0 C1) (hs : st.shut = true) :
    Calls Tryd.prog 28 #[.pointer (some ⟨g, 0, none⟩), .int .i64 1] w fun e w' => ∃ v, e = .returned v ∧ LinkOf w.heap.size w' v 100 ∧ Below w.heap.size w w' := by
  obtain ⟨kH, _⟩ := h.cells 12 (by omega)
  simp only [refCell] at kH
  rw [hs] at kH
  clear h
  go_enter Tryd.func28, Tryd.ntmps28
  go_wp2_with (first | (go_at_call 45; refine (end_yes1 _).mono ?_; rintro e w' ⟨rfl, rfl⟩) | (go_at_call 46; refine (no_any _ _).mono ?_; rintro e w1 ⟨lb, rfl, hlk, hbe⟩))
  go_ret
  exact ⟨_, rfl, hlk, hbe⟩

set_option maxRecDepth 100000 in
theorem ref_send_long1 (g : Nat) (st : St) (U0 U1 C0 C1 : Value) (x : Value) (bs : List Int) (w : World) (h : RefMem w g st U0 U1 C0 C1) (hs : st.shut = false) (hx : Sl w x bs) (hl : 4194304 < (st.b.und.length : Int) + bs.length) (hsm : bs.length ≤ 140737488355328) (hsu : st.b.und.length ≤ 140737488355328) :
    Calls Tryd.prog 23 #[.pointer (some ⟨g, 0, none⟩), .int .i64 1, x] w fun e w' => ∃ v, e = .returned v ∧ LinkOf w.heap.size w' v 4 ∧ Below w.heap.size w w' := by
  obtain ⟨aU, capU, hfU, hcU, hmU⟩ := h.u1.sl.form
  subst hfU
  obtain ⟨ax, capx, rfl, hcx, hmx⟩ := hx.form
  clear hx
  obtain ⟨kH, _⟩ := h.cells 12 (by omega)
  simp only [refCell] at kH
  rw [hs] at kH
  obtain ⟨kU, _⟩ := h.cells 1 (by omega)
  simp only [refCell] at kU
  clear h
  go_enter Tryd.func23, Tryd.ntmps23
  go_wp2_with (first | (go_at_call 45; refine (end_yes1 _).mono ?_; rintro e w' ⟨rfl, rfl⟩) | (go_at_call 46; refine (no_any _ _).mono ?_; rintro e w1 ⟨lb, rfl, hlk, hbe⟩))
  go_ret
  exact ⟨_, rfl, hlk, hbe⟩

set_option maxRecDepth 100000 in
theorem ref_move_neg1 (g : Nat) (st : St) (U0 U1 C0 C1 : Value) (m : Int) (w : World) (h : RefMem w g st U0 U1 C0 C1) (hs : st.shut = false) (hm : m < 0) :
    Calls Tryd.prog 24 #[.pointer (some ⟨g, 0, none⟩), .int .i64 1, .int .i64 m] w fun e w' => ∃ v, e = .returned v ∧ LinkOf w.heap.size w' v 1 ∧ Below w.heap.size w w' := by
  obtain ⟨kH, _⟩ := h.cells 12 (by omega)
  simp only [refCell] at kH
  rw [hs] at kH
  clear h
  go_enter Tryd.func24, Tryd.ntmps24
  go_wp2_with (first | (go_at_call 45; refine (end_yes1 _).mono ?_; rintro e w' ⟨rfl, rfl⟩) | (go_at_call 46; refine (no_any _ _).mono ?_; rintro e w1 ⟨lb, rfl, hlk, hbe⟩))
  go_ret
  exact ⟨_, rfl, hlk, hbe⟩

set_option maxRecDepth 100000 in
theorem ref_move_stalled1 (g : Nat) (st : St) (U0 U1 C0 C1 : Value) (m : Int) (w : World) (h : RefMem w g st U0 U1 C0 C1) (hs : st.shut = false) (hm : ¬ m < 0) (ht : st.b.stall = true) :
    Calls Tryd.prog 24 #[.pointer (some ⟨g, 0, none⟩), .int .i64 1, .int .i64 m] w fun e w' => ∃ v, e = .returned v ∧ LinkOf w.heap.size w' v 101 ∧ Below w.heap.size w w' := by
  obtain ⟨kH, _⟩ := h.cells 12 (by omega)
  simp only [refCell] at kH
  rw [hs] at kH
  obtain ⟨kT, _⟩ := h.cells 11 (by omega)
  simp only [refCell] at kT
  rw [ht] at kT
  clear h
  go_enter Tryd.func24, Tryd.ntmps24
  go_wp2_with (first | (go_at_call 45; refine (end_yes1 _).mono ?_; rintro e w' ⟨rfl, rfl⟩) | (go_at_call 46; refine (no_any _ _).mono ?_; rintro e w1 ⟨lb, rfl, hlk, hbe⟩))
  go_ret
  exact ⟨_, rfl, hlk, hbe⟩

set_option maxRecDepth 100000 in
theorem ref_move_moves1 (g : Nat) (st : St) (U0 U1 C0 C1 : Value) (m : Int) (w : World) (h : RefMem w g st U0 U1 C0 C1) (hs : st.shut = false) (hm : ¬ m < 0) (ht : st.b.stall = false) (hn : (st.b.und.length : Int) < m) :
    Calls Tryd.prog 24 #[.pointer (some ⟨g, 0, none⟩), .int .i64 1, .int .i64 m] w fun e w' => ∃ v, e = .returned v ∧ LinkOf w.heap.size w' v 102 ∧ Below w.heap.size w w' := by
  obtain ⟨aU, capU, hfU, hcU, hmU⟩ := h.u1.sl.form
  subst hfU
  obtain ⟨kH, _⟩ := h.cells 12 (by omega)
  simp only [refCell] at kH
  rw [hs] at kH
  obtain ⟨kT, _⟩ := h.cells 11 (by omega)
  simp only [refCell] at kT
  rw [ht] at kT
  obtain ⟨kU, _⟩ := h.cells 1 (by omega)
  simp only [refCell] at kU
  clear h
  go_enter Tryd.func24, Tryd.ntmps24
  go_wp2_with (first | (go_at_call 45; refine (end_yes1 _).mono ?_; rintro e w' ⟨rfl, rfl⟩) | (go_at_call 46; refine (no_any _ _).mono ?_; rintro e w1 ⟨lb, rfl, hlk, hbe⟩))
  go_ret
  exact ⟨_, rfl, hlk, hbe⟩

set_option maxRecDepth 100000 in
theorem ref_move_many1 (g : Nat) (st : St) (U0 U1 C0 C1 : Value) (m : Int) (w : World) (h : RefMem w g st U0 U1 C0 C1) (hs : st.shut = false) (hm : ¬ m < 0) (ht : st.b.stall = false) (hn : ¬ (st.b.und.length : Int) < m) (hs2 : st.b.und.length ≤ 140737488355328) (hs3 : st.a.come.length ≤ 140737488355328) (hl : 4194304 < (st.a.come.length : Int) + m) :
    Calls Tryd.prog 24 #[.pointer (some ⟨g, 0, none⟩), .int .i64 1, .int .i64 m] w fun e w' => ∃ v, e = .returned v ∧ LinkOf w.heap.size w' v 5 ∧ Below w.heap.size w w' := by
  obtain ⟨aU, capU, hfU, hcU, hmU⟩ := h.u1.sl.form
  subst hfU
  obtain ⟨aC, capC, hfC, hcC, hmC⟩ := h.c0.sl.form
  subst hfC
  obtain ⟨kH, _⟩ := h.cells 12 (by omega)
  simp only [refCell] at kH
  rw [hs] at kH
  obtain ⟨kT, _⟩ := h.cells 11 (by omega)
  simp only [refCell] at kT
  rw [ht] at kT
  obtain ⟨kU, _⟩ := h.cells 1 (by omega)
  simp only [refCell] at kU
  obtain ⟨kC, _⟩ := h.cells 2 (by omega)
  simp only [refCell] at kC
  clear h
  go_enter Tryd.func24, Tryd.ntmps24
  go_wp2_with (first | (go_at_call 45; refine (end_yes1 _).mono ?_; rintro e w' ⟨rfl, rfl⟩) | (go_at_call 46; refine (no_any _ _).mono ?_; rintro e w1 ⟨lb, rfl, hlk, hbe⟩))
  go_ret
  exact ⟨_, rfl, hlk, hbe⟩

set_option maxRecDepth 100000 in
theorem ref_read_neg1 (g : Nat) (st : St) (U0 U1 C0 C1 : Value) (m : Int) (w : World) (_h : RefMem w g st U0 U1 C0 C1) (hm : m < 0) :
    Calls Tryd.prog 26 #[.pointer (some ⟨g, 0, none⟩), .int .i64 1, .int .i64 m] w fun e w' => ∃ v, e = .returned (.tuple #[.slice none 0 0, v]) ∧ LinkOf w.heap.size w' v 1 ∧ Below w.heap.size w w' := by
  go_enter Tryd.func26, Tryd.ntmps26
  go_wp2_with (first | (go_at_call 45; refine (end_yes1 _).mono ?_; rintro e w' ⟨rfl, rfl⟩) | (go_at_call 46; refine (no_any _ _).mono ?_; rintro e w1 ⟨lb, rfl, hlk, hbe⟩))
  go_ret2
  exact ⟨_, rfl, hlk, hbe⟩

set_option maxRecDepth 100000 in
theorem ref_read_over1 (g : Nat) (st : St) (U0 U1 C0 C1 : Value) (m : Int) (w : World) (h : RefMem w g st U0 U1 C0 C1) (hs : st.shut = true) (hm : ¬ m < 0) (hc : st.b.come = []) :
    Calls Tryd.prog 26 #[.pointer (some ⟨g, 0, none⟩), .int .i64 1, .int .i64 m] w fun e w' => ∃ v, e = .returned (.tuple #[.slice none 0 0, v]) ∧ LinkOf w.heap.size w' v 8 ∧ Below w.heap.size w w' := by
  obtain ⟨aC, capC, hfC, hcC, hmC⟩ := h.c1.sl.form
  subst hfC
  obtain ⟨kH, _⟩ := h.cells 12 (by omega)
  simp only [refCell] at kH
  rw [hs] at kH
  obtain ⟨kC, _⟩ := h.cells 3 (by omega)
  simp only [refCell] at kC
  have hz : st.b.come.length = 0 := by rw [hc]; rfl
  rw [hz] at kC
  clear h
  go_enter Tryd.func26, Tryd.ntmps26
  go_wp2_with (first | (go_at_call 45; refine (end_yes1 _).mono ?_; rintro e w' ⟨rfl, rfl⟩) | (go_at_call 46; refine (no_any _ _).mono ?_; rintro e w1 ⟨lb, rfl, hlk, hbe⟩))
  go_ret2
  exact ⟨_, rfl, hlk, hbe⟩

set_option maxRecDepth 100000 in
theorem ref_break_shut (g : Nat) (st : St) (U0 U1 C0 C1 : Value) (w : World) (h : RefMem w g st U0 U1 C0 C1) (hs : st.shut = true) :
    Calls Tryd.prog 27 #[.pointer (some ⟨g, 0, none⟩)] w fun e w' => ∃ v, e = .returned v ∧ LinkOf w.heap.size w' v 100 ∧ Below w.heap.size w w' := by
  obtain ⟨kH, _⟩ := h.cells 12 (by omega)
  simp only [refCell] at kH
  rw [hs] at kH
  clear h
  go_enter Tryd.func27, Tryd.ntmps27
  go_wp2_with (first | (go_at_call 46; refine (no_any _ _).mono ?_; rintro e w1 ⟨lb, rfl, hlk, hbe⟩))
  go_ret
  exact ⟨_, rfl, hlk, hbe⟩
end Go.Proofs.YtjkmklbkemoldaaDoor
