/-
  The document's Move, Stall, Break and Close, where nothing is wrong.
-/
import Derived.Test.YtjkmklbkemoldaaDoorRefMove
namespace Go.Proofs.YtjkmklbkemoldaaDoor
open Go.RowKit

set_option maxRecDepth 100000 in
theorem ref_move0 (g : Nat) (st : St) (U0 U1 C0 C1 : Value) (n : Nat) (w : World) (h : RefMem w g st U0 U1 C0 C1) (hs : st.shut = false) (ht : st.a.stall = false) (hn : n ≤ st.a.und.length) (hs2 : st.a.und.length ≤ 16777216) (hs3 : st.b.come.length ≤ 16777216) (hl : ¬ 4194304 < (st.b.come.length : Int) + n) :
    Calls Tryd.prog 24 #[.pointer (some ⟨g, 0, none⟩), .int .i64 0, .int .i64 n] w fun e w' => ∃ U' C', e = .returned (.slice none 0 0) ∧ RefMem w' g { st with a := { st.a with und := st.a.und.drop n }, b := { st.b with come := st.b.come ++ st.a.und.take n, moved := wrap64 (st.b.moved + n) } } U' U1 C0 C' ∧ Turned (fun k => k = g) w w' ∧ (∀ k, blk U' k → w.heap.size ≤ k) ∧ ∀ k, blk C' k → w.heap.size ≤ k := by
  obtain ⟨aU, capU, hfU, hcU, hmU⟩ := h.u0.sl.form
  subst hfU
  obtain ⟨aC, capC, hfC, hcC, hmC⟩ := h.c1.sl.form
  subst hfC
  obtain ⟨kH, _⟩ := h.cells 12 (by omega)
  simp only [refCell] at kH
  rw [hs] at kH
  obtain ⟨kT, _⟩ := h.cells 10 (by omega)
  simp only [refCell] at kT
  rw [ht] at kT
  obtain ⟨kU, _⟩ := h.cells 0 (by omega)
  simp only [refCell] at kU
  obtain ⟨kC, _⟩ := h.cells 3 (by omega)
  simp only [refCell] at kC
  have hn1 : ¬ (st.a.und.length : Int) < (n : Int) := by omega
  have hn0 : ¬ (n : Int) < 0 := by omega
  have HH : Hid (RefMem w g st (.slice aU st.a.und.length capU) U1 C0 (.slice aC st.b.come.length capC)) := h
  clear h
  go_enter Tryd.func24, Tryd.ntmps24
  go_wp2_with (first | (go_at_call 45; refine (end_yes0 _).mono ?_; rintro e w' ⟨rfl, rfl⟩) | (go_at_call 47; refine (ref_mv0 g st _ _ _ _ n _ HH.out hn hs2 hs3).mono ?_; rintro e w1 ⟨U', C', rfl, R, T, hU, hC⟩))
  go_ret
  exact ⟨U', C', rfl, R, T, hU, hC⟩

set_option maxRecDepth 100000 in
theorem ref_stall0 (g : Nat) (st : St) (U0 U1 C0 C1 : Value) (y : Bool) (w : World) (h : RefMem w g st U0 U1 C0 C1) (hs : st.shut = false) :
    Calls Tryd.prog 25 #[.pointer (some ⟨g, 0, none⟩), .int .i64 0, .bool y] w fun e w' => e = .returned (.slice none 0 0) ∧ RefMem w' g { st with a := { st.a with stall := y } } U0 U1 C0 C1 ∧ Turned (fun k => k = g) w w' := by
  obtain ⟨kH, _⟩ := h.cells 12 (by omega)
  simp only [refCell] at kH
  rw [hs] at kH
  obtain ⟨kT, fT⟩ := h.cells 10 (by omega)
  simp only [refCell] at kT
  have HH : Hid (RefMem w g st U0 U1 C0 C1) := h
  clear h
  go_enter Tryd.func25, Tryd.ntmps25
  go_wp2_with (go_at_call 45; refine (end_yes0 _).mono ?_; rintro e w' ⟨rfl, rfl⟩)
  go_ret
  exact ⟨rfl, HH.out.setStall0 y, Turned.setCell w ⟨g, 10, none⟩ _⟩

set_option maxRecDepth 100000 in
theorem ref_move1 (g : Nat) (st : St) (U0 U1 C0 C1 : Value) (n : Nat) (w : World) (h : RefMem w g st U0 U1 C0 C1) (hs : st.shut = false) (ht : st.b.stall = false) (hn : n ≤ st.b.und.length) (hs2 : st.b.und.length ≤ 16777216) (hs3 : st.a.come.length ≤ 16777216) (hl : ¬ 4194304 < (st.a.come.length : Int) + n) :
    Calls Tryd.prog 24 #[.pointer (some ⟨g, 0, none⟩), .int .i64 1, .int .i64 n] w fun e w' => ∃ U' C', e = .returned (.slice none 0 0) ∧ RefMem w' g { st with b := { st.b with und := st.b.und.drop n }, a := { st.a with come := st.a.come ++ st.b.und.take n, moved := wrap64 (st.a.moved + n) } } U0 U' C' C1 ∧ Turned (fun k => k = g) w w' ∧ (∀ k, blk U' k → w.heap.size ≤ k) ∧ ∀ k, blk C' k → w.heap.size ≤ k := by
  obtain ⟨aU, capU, hfU, hcU, hmU⟩ := h.u1.sl.form
  subst hfU
  obtain ⟨aC, capC, hfC, hcC, hmC⟩ := h.c0.sl.form
  subst hfC
  obtain ⟨kH, _⟩ := h.cells 12 (by omega)
  simp only [refCell] at kH
  rw [hs] at kH
  obtain ⟨kT, _⟩ := h.cells 11 (by omega)
  simp only [refCell] at kT
  rw [ht] at kT
  obtain ⟨kU, _⟩ := h.cells 1 (by omega)
  simp only [refCell] at kU
  obtain ⟨kC, _⟩ := h.cells 2 (by omega)
  simp only [refCell] at kC
  have hn1 : ¬ (st.b.und.length : Int) < (n : Int) := by omega
  have hn0 : ¬ (n : Int) < 0 := by omega
  have HH : Hid (RefMem w g st U0 (.slice aU st.b.und.length capU) (.slice aC st.a.come.length capC) C1) := h
  clear h
  go_enter Tryd.func24, Tryd.ntmps24
  go_wp2_with (first | (go_at_call 45; refine (end_yes1 _).mono ?_; rintro e w' ⟨rfl, rfl⟩) | (go_at_call 47; refine (ref_mv1 g st _ _ _ _ n _ HH.out hn hs2 hs3).mono ?_; rintro e w1 ⟨U', C', rfl, R, T, hU, hC⟩))
  go_ret
  exact ⟨U', C', rfl, R, T, hU, hC⟩

set_option maxRecDepth 100000 in
theorem ref_stall1 (g : Nat) (st : St) (U0 U1 C0 C1 : Value) (y : Bool) (w : World) (h : RefMem w g st U0 U1 C0 C1) (hs : st.shut = false) :
    Calls Tryd.prog 25 #[.pointer (some ⟨g, 0, none⟩), .int .i64 1, .bool y] w fun e w' => e = .returned (.slice none 0 0) ∧ RefMem w' g { st with b := { st.b with stall := y } } U0 U1 C0 C1 ∧ Turned (fun k => k = g) w w' := by
  obtain ⟨kH, _⟩ := h.cells 12 (by omega)
  simp only [refCell] at kH
  rw [hs] at kH
  obtain ⟨kT, fT⟩ := h.cells 11 (by omega)
  simp only [refCell] at kT
  have HH : Hid (RefMem w g st U0 U1 C0 C1) := h
  clear h
  go_enter Tryd.func25, Tryd.ntmps25
  go_wp2_with (go_at_call 45; refine (end_yes1 _).mono ?_; rintro e w' ⟨rfl, rfl⟩)
  go_ret
  exact ⟨rfl, HH.out.setStall1 y, Turned.setCell w ⟨g, 11, none⟩ _⟩

theorem Part.nil (w : World) (g : Nat) : Part w g (.slice none 0 0) [] := ⟨.inl ⟨rfl, rfl⟩, fun _ h => h.elim, fun _ h => h.elim⟩

set_option maxRecDepth 100000 in
theorem ref_break (g : Nat) (st : St) (U0 U1 C0 C1 : Value) (w : World) (h : RefMem w g st U0 U1 C0 C1) (hs : st.shut = false) :
    Calls Tryd.prog 27 #[.pointer (some ⟨g, 0, none⟩)] w fun e w' => e = .returned (.slice none 0 0) ∧ RefMem w' g { a := { st.a with und := [] }, b := { st.b with und := [] }, shut := true } (.slice none 0 0) (.slice none 0 0) C0 C1 ∧ Turned (fun k => k = g) w w' := by
  obtain ⟨kH, fH⟩ := h.cells 12 (by omega)
  simp only [refCell] at kH
  rw [hs] at kH
  obtain ⟨k0, f0⟩ := h.cells 0 (by omega)
  simp only [refCell] at k0
  obtain ⟨k1, f1⟩ := h.cells 1 (by omega)
  simp only [refCell] at k1
  have HH : Hid (RefMem w g st U0 U1 C0 C1) := h
  clear h
  go_enter Tryd.func27, Tryd.ntmps27
  go_wp2
  go_region
  all_goals
    go_wp2
    go_ret
    exact ⟨rfl, (((HH.out.setShut true).setUnd0 (Part.nil _ _)).setUnd1 (Part.nil _ _)).drew, (((Turned.setCell w ⟨g, 12, none⟩ _).trans (Turned.setCell _ ⟨g, 0, none⟩ _) (fun _ h => .inl h)).trans (Turned.setCell _ ⟨g, 1, none⟩ _) (fun _ h => .inl h)).trans (Turned.drew (fun _ => False) _) (fun _ h => h.elim)⟩

set_option maxRecDepth 100000 in
theorem ref_close0 (g : Nat) (st : St) (U0 U1 C0 C1 : Value) (w : World) (h : RefMem w g st U0 U1 C0 C1) (hs : st.shut = false) (hs2 : st.a.und.length ≤ 16777216) (hs3 : st.b.come.length ≤ 16777216) :
    Calls Tryd.prog 28 #[.pointer (some ⟨g, 0, none⟩), .int .i64 0] w fun e w' => ∃ C', e = .returned (.slice none 0 0) ∧ RefMem w' g { a := { st.a with und := [] }, b := { st.b with und := [], come := st.b.come ++ st.a.und, moved := wrap64 (st.b.moved + st.a.und.length) }, shut := true } (.slice none 0 0) (.slice none 0 0) C0 C' ∧ Turned (fun k => k = g) w w' ∧ ∀ k, blk C' k → w.heap.size ≤ k := by
  obtain ⟨aU, capU, hfU, hcU, hmU⟩ := h.u0.sl.form
  subst hfU
  obtain ⟨kH, _⟩ := h.cells 12 (by omega)
  simp only [refCell] at kH
  rw [hs] at kH
  obtain ⟨kU, _⟩ := h.cells 0 (by omega)
  simp only [refCell] at kU
  have HH : Hid (RefMem w g st (.slice aU st.a.und.length capU) U1 C0 C1) := h
  clear h
  go_enter Tryd.func28, Tryd.ntmps28
  go_wp2_with (first | (go_at_call 45; refine (end_yes0 _).mono ?_; rintro e w' ⟨rfl, rfl⟩) | (go_at_call 47; refine (ref_mv0 g st _ _ _ _ st.a.und.length _ HH.out (Nat.le_refl _) hs2 hs3).mono ?_; rintro e w1 ⟨U', C', rfl, R, T, hU, hC⟩) | (go_at_call 27; refine (ref_break g _ _ _ _ _ _ R hs).mono ?_; rintro e w2 ⟨rfl, R2, T2⟩))
  go_ret
  refine ⟨C', rfl, ?_, T.trans T2 (fun _ h => .inl h), hC⟩
  simpa only [List.take_length] using R2

set_option maxRecDepth 100000 in
theorem ref_close1 (g : Nat) (st : St) (U0 U1 C0 C1 : Value) (w : World) (h : RefMem w g st U0 U1 C0 C1) (hs : st.shut = false) (hs2 : st.b.und.length ≤ 16777216) (hs3 : st.a.come.length ≤ 16777216) :
    Calls Tryd.prog 28 #[.pointer (some ⟨g, 0, none⟩), .int .i64 1] w fun e w' => ∃ C', e = .returned (.slice none 0 0) ∧ RefMem w' g { a := { st.a with und := [], come := st.a.come ++ st.b.und, moved := wrap64 (st.a.moved + st.b.und.length) }, b := { st.b with und := [] }, shut := true } (.slice none 0 0) (.slice none 0 0) C' C1 ∧ Turned (fun k => k = g) w w' ∧ ∀ k, blk C' k → w.heap.size ≤ k := by
  obtain ⟨aU, capU, hfU, hcU, hmU⟩ := h.u1.sl.form
  subst hfU
  obtain ⟨kH, _⟩ := h.cells 12 (by omega)
  simp only [refCell] at kH
  rw [hs] at kH
  obtain ⟨kU, _⟩ := h.cells 1 (by omega)
  simp only [refCell] at kU
  have HH : Hid (RefMem w g st U0 (.slice aU st.b.und.length capU) C0 C1) := h
  clear h
  go_enter Tryd.func28, Tryd.ntmps28
  go_wp2_with (first | (go_at_call 45; refine (end_yes1 _).mono ?_; rintro e w' ⟨rfl, rfl⟩) | (go_at_call 47; refine (ref_mv1 g st _ _ _ _ st.b.und.length _ HH.out (Nat.le_refl _) hs2 hs3).mono ?_; rintro e w1 ⟨U', C', rfl, R, T, hU, hC⟩) | (go_at_call 27; refine (ref_break g _ _ _ _ _ _ R hs).mono ?_; rintro e w2 ⟨rfl, R2, T2⟩))
  go_ret
  refine ⟨C', rfl, ?_, T.trans T2 (fun _ h => .inl h), hC⟩
  simpa only [List.take_length] using R2
end Go.Proofs.YtjkmklbkemoldaaDoor
