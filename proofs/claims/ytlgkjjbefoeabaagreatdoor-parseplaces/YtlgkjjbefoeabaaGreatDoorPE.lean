/-
  Layer 10 (lex): the program's tokens, by what they begin with.
-/
import Derived.Test.YtlgkjjbefoeabaaGreatDoorPD
namespace Go.Proofs.YtlgkjjbefoeabaaGreatDoor
open Go.RowKit

theorem Below.alloc0 (w : World) (o : Obj) : Below w.heap.size w (w.alloc o) := (Below.refl _ _).alloc (Nat.le_refl _) o
theorem Below.setNew {w w1 : World} (h : Below w.heap.size w w1) (j : Nat) (v : Value) : Below w.heap.size w (w1.setCell ⟨w.heap.size, j, none⟩ v) := h.trans ((Turned.setCell w1 ⟨w.heap.size, j, none⟩ v).below h.size (fun _ hi => Nat.le_of_eq hi.symm))
def tokZero : Nat → Value
  | 0 => .int .i64 0
  | 1 => .string ⟨#[]⟩
  | 2 => .int .i64 0
  | _ => .int .i64 0
/-- A token's cells, new and unwritten. -/
theorem newTok {w w1 : World} (hb : Below (w.alloc (.cells #[.int .i64 0, .string ⟨#[]⟩, .int .i64 0, .int .i64 0] 40)).heap.size (w.alloc (.cells #[.int .i64 0, .string ⟨#[]⟩, .int .i64 0, .int .i64 0] 40)) w1) :
    (w1.cell? ⟨w.heap.size, 0, none⟩ = some (.int .i64 0) ∧ w1.frozen? ⟨w.heap.size, 0, none⟩ = false) ∧ (w1.cell? ⟨w.heap.size, 1, none⟩ = some (.string ⟨#[]⟩) ∧ w1.frozen? ⟨w.heap.size, 1, none⟩ = false) ∧ (w1.cell? ⟨w.heap.size, 2, none⟩ = some (.int .i64 0) ∧ w1.frozen? ⟨w.heap.size, 2, none⟩ = false) ∧ (w1.cell? ⟨w.heap.size, 3, none⟩ = some (.int .i64 0) ∧ w1.frozen? ⟨w.heap.size, 3, none⟩ = false) := by
  have B : Block (w.alloc (.cells #[.int .i64 0, .string ⟨#[]⟩, .int .i64 0, .int .i64 0] 40)) w.heap.size 4 tokZero := by
    intro j hj
    refine ⟨?_, by rw [World.frozen?_alloc_new]⟩
    match j, hj with
    | 0, _ => simp [tokZero]
    | 1, _ => simp [tokZero]
    | 2, _ => simp [tokZero]
    | 3, _ => simp [tokZero]
  have C := B.turned (Turned.ofBelow (S := fun _ => False) hb) (fun h => h)
  exact ⟨C 0 (by omega), C 1 (by omega), C 2 (by omega), C 3 (by omega)⟩
set_option maxRecDepth 100000 in
set_option maxHeartbeats 1600000 in
/-- A sign. -/
theorem lx_tok_sign (s : ByteArray) (a : Nat) (ha : a < s.size) (c : Int) (hc : (s[a].toNat : Int) = c) (h1 : smallB c = false) (h2 : ¬ c = 39) (h3 : capB c = false) (h4 : ¬ c = 95) (h5 : digB c = false) (h6 : ¬ c = 36) (h7 : ¬ c = 46)
    (t : Tk) (e : Int) (w : World) (hr : ∀ o : Obj, Calls Tryz.prog 115 #[.string s, .int .i64 a] (w.alloc o) (TokTold t e (w.alloc o))) :
    Calls Tryz.prog 92 #[.string s, .int .i64 a] w (TokTold t e w) := by
  obtain ⟨tk, tt, tn, ta⟩ := t
  have k1 := fun w => lx_small c w
  have k3 := fun w => lx_cap c w
  have k5 := fun w => lx_dig c w
  simp only [h1] at k1
  simp only [h3] at k3
  simp only [h5] at k5
  have hai : (a : Int) < (s.size : Int) := by omega
  clear h1 h3 h5
  go_enter Tryz.func92, Tryz.ntmps92
  go_wp2_with (first | (go_at_call 104; refine (k1 _).mono ?_; rintro e w1 ⟨rfl, rfl⟩) | (go_at_call 108; refine (k3 _).mono ?_; rintro e w1 ⟨rfl, rfl⟩) | (go_at_call 110; refine (k5 _).mono ?_; rintro e w1 ⟨rfl, rfl⟩))
  refine (hr _).mono ?_
  rintro x w1 ⟨rfl, hb1⟩
  obtain ⟨⟨c0, f0⟩, ⟨c1, f1⟩, ⟨c2, f2⟩, ⟨c3, f3⟩⟩ := newTok hb1
  have HB := Hid.mk7 ((Below.alloc0 w _).trans (hb1.mono (by simp)))
  clear hr hb1
  simp only [Tk.val]
  go_wp2
  refine bodyPost_ret (v := .tuple #[.agg #[.int .i64 tk, .string tt, .int .i64 tn, .int .i64 ta], .int .i64 e, .nilIface]) ?_ rfl ⟨rfl, ?_⟩
  · simp [results, Tryz.results92, go_sem, c0, c1, c2, c3]
  · exact Below.setNew (Below.setNew (Below.setNew (Below.setNew HB.out 0 _) 1 _) 2 _) 3 _
set_option maxRecDepth 100000 in
set_option maxHeartbeats 1600000 in
/-- An atom. -/
theorem lx_tok_atom (s : ByteArray) (hs : s.size ≤ 4611686018427387904) (a : Nat) (ha : a < s.size) (c : Int) (hc : (s[a].toNat : Int) = c) (h1 : smallB c = true) (k : Nat) (hk : k ≤ (s.extract a s.size).size) (hrun : runLen wordB (s.extract a s.size) (s.extract a s.size).size 0 = k) (e2 : Nat) (hp : PlainAt ((s.extract a s.size).extract 0 k) 0 e2)
    (t : Tk) (e : Int) (w : World) (hr : ∀ o : Obj, Calls Tryz.prog 107 #[.string s, .int .i64 a] (w.alloc o) (TokTold t e (w.alloc o))) :
    Calls Tryz.prog 92 #[.string s, .int .i64 a] w (TokTold t e w) := by
  obtain ⟨tk, tt, tn, ta⟩ := t
  have hz : (s.extract a s.size).size = s.size - a := by simp
  have k1 := fun w => lx_small c w
  simp only [h1] at k1
  have k2 := fun w => lx_word_at (s.extract a s.size) (by omega) k hk hrun w
  have k4 := fun w => lx_free hp w
  have hai : (a : Int) < (s.size : Int) := by omega
  clear hp hrun h1
  go_enter Tryz.func92, Tryz.ntmps92
  go_wp2_with (first | (go_at_call 104; refine (k1 _).mono ?_; rintro e w1 ⟨rfl, rfl⟩) | (go_at_call 105; refine (k2 _).mono ?_; rintro e w1 ⟨rfl, rfl⟩) | (go_at_call 106; refine (k4 _).mono ?_; rintro e w1 ⟨rfl, rfl⟩))
  refine (hr _).mono ?_
  rintro x w1 ⟨rfl, hb1⟩
  obtain ⟨⟨c0, f0⟩, ⟨c1, f1⟩, ⟨c2, f2⟩, ⟨c3, f3⟩⟩ := newTok hb1
  have HB := Hid.mk7 ((Below.alloc0 w _).trans (hb1.mono (by simp)))
  clear hr hb1
  simp only [Tk.val]
  go_wp2
  refine bodyPost_ret (v := .tuple #[.agg #[.int .i64 tk, .string tt, .int .i64 tn, .int .i64 ta], .int .i64 e, .nilIface]) ?_ rfl ⟨rfl, ?_⟩
  · simp [results, Tryz.results92, go_sem, c0, c1, c2, c3]
  · exact Below.setNew (Below.setNew (Below.setNew (Below.setNew HB.out 0 _) 1 _) 2 _) 3 _
set_option maxRecDepth 100000 in
set_option maxHeartbeats 1600000 in
/-- A variable. -/
theorem lx_tok_var (s : ByteArray) (a : Nat) (ha : a < s.size) (c : Int) (hc : (s[a].toNat : Int) = c) (h1 : smallB c = false) (h2 : ¬ c = 39) (h3 : capB c = true)
    (t : Tk) (e : Int) (w : World) (hr : ∀ o : Obj, Calls Tryz.prog 109 #[.string s, .int .i64 a] (w.alloc o) (TokTold t e (w.alloc o))) :
    Calls Tryz.prog 92 #[.string s, .int .i64 a] w (TokTold t e w) := by
  obtain ⟨tk, tt, tn, ta⟩ := t
  have k1 := fun w => lx_small c w
  have k3 := fun w => lx_cap c w
  simp only [h1] at k1
  simp only [h3] at k3
  have hai : (a : Int) < (s.size : Int) := by omega
  clear h1 h3
  go_enter Tryz.func92, Tryz.ntmps92
  go_wp2_with (first | (go_at_call 104; refine (k1 _).mono ?_; rintro e w1 ⟨rfl, rfl⟩) | (go_at_call 108; refine (k3 _).mono ?_; rintro e w1 ⟨rfl, rfl⟩))
  refine (hr _).mono ?_
  rintro x w1 ⟨rfl, hb1⟩
  obtain ⟨⟨c0, f0⟩, ⟨c1, f1⟩, ⟨c2, f2⟩, ⟨c3, f3⟩⟩ := newTok hb1
  have HB := Hid.mk7 ((Below.alloc0 w _).trans (hb1.mono (by simp)))
  clear hr hb1
  simp only [Tk.val]
  go_wp2
  refine bodyPost_ret (v := .tuple #[.agg #[.int .i64 tk, .string tt, .int .i64 tn, .int .i64 ta], .int .i64 e, .nilIface]) ?_ rfl ⟨rfl, ?_⟩
  · simp [results, Tryz.results92, go_sem, c0, c1, c2, c3]
  · exact Below.setNew (Below.setNew (Below.setNew (Below.setNew HB.out 0 _) 1 _) 2 _) 3 _
set_option maxRecDepth 100000 in
set_option maxHeartbeats 1600000 in
/-- A number. -/
theorem lx_tok_int (s : ByteArray) (_hs : s.size ≤ 4611686018427387904) (a : Nat) (ha : a < s.size) (c : Int) (hc : (s[a].toNat : Int) = c) (h1 : smallB c = false) (h2 : ¬ c = 39) (h3 : capB c = false) (h4 : ¬ c = 95) (h5 : digB c = true) (n k : Nat) (hk0 : ¬ (k : Int) = 0) (e : Int) (he : wrap64 (a + k) = e)
    (w : World) (hn : ∀ o : Obj, Calls Tryz.prog 111 #[.string (s.extract a s.size)] (w.alloc o) fun x w' => x = .returned (.tuple #[.int .i64 n, .int .i64 k]) ∧ Below (w.alloc o).heap.size (w.alloc o) w') :
    Calls Tryz.prog 92 #[.string s, .int .i64 a] w (TokTold ⟨3, ⟨#[]⟩, n, a⟩ e w) := by
  have k1 := fun w => lx_small c w
  have k3 := fun w => lx_cap c w
  have k5 := fun w => lx_dig c w
  simp only [h1] at k1
  simp only [h3] at k3
  simp only [h5] at k5
  have kt := fun w => lx_tell a n k 201 hk0 e he w
  have hai : (a : Int) < (s.size : Int) := by omega
  clear h1 h3 h5 he
  go_enter Tryz.func92, Tryz.ntmps92
  go_wp2_with (first | (go_at_call 104; refine (k1 _).mono ?_; rintro e w1 ⟨rfl, rfl⟩) | (go_at_call 108; refine (k3 _).mono ?_; rintro e w1 ⟨rfl, rfl⟩) | (go_at_call 110; refine (k5 _).mono ?_; rintro e w1 ⟨rfl, rfl⟩))
  refine (hn _).mono ?_
  rintro x w1 ⟨rfl, hb1⟩
  go_wp2_with fail
  refine (kt _).mono ?_
  rintro x w2 ⟨rfl, hb2⟩
  have hb := hb1.trans (hb2.mono hb1.size)
  obtain ⟨⟨c0, f0⟩, ⟨c1, f1⟩, ⟨c2, f2⟩, ⟨c3, f3⟩⟩ := newTok hb
  have HB := Hid.mk7 ((Below.alloc0 w _).trans (hb.mono (by simp)))
  clear hn hb1 hb2 hb kt
  simp only [Tk.val]
  go_wp2
  refine bodyPost_ret (v := .tuple #[.agg #[.int .i64 3, .string ⟨#[]⟩, .int .i64 n, .int .i64 a], .int .i64 e, .nilIface]) ?_ rfl ⟨rfl, ?_⟩
  · simp [results, Tryz.results92, go_sem, c0, c1, c2, c3]
  · exact Below.setNew (Below.setNew (Below.setNew (Below.setNew HB.out 0 _) 1 _) 2 _) 3 _
set_option maxRecDepth 100000 in
set_option maxHeartbeats 1600000 in
/-- The dot that ends a form. -/
theorem lx_tok_dot (s : ByteArray) (_hs : s.size ≤ 4611686018427387904) (a : Nat) (ha : a < s.size) (hc : (s[a].toNat : Int) = 46) (hn : ∀ w, Calls Tryz.prog 114 #[.string (s.extract (a + 1) s.size)] w fun x w' => x = .returned (.bool true) ∧ w = w') (w : World) :
    Calls Tryz.prog 92 #[.string s, .int .i64 a] w (TokTold ⟨6, ⟨#[]⟩, 0, a⟩ (a + 1 : Nat) w) := by
  have k1 := fun w => lx_small 46 w
  have k3 := fun w => lx_cap 46 w
  have k5 := fun w => lx_dig 46 w
  simp only [show smallB 46 = false by decide] at k1
  simp only [show capB 46 = false by decide] at k3
  simp only [show digB 46 = false by decide] at k5
  have hai : (a : Int) < (s.size : Int) := by omega
  have hai1 : ¬ (s.size : Int) < (a : Int) + 1 := by omega
  go_enter Tryz.func92, Tryz.ntmps92
  go_wp2_with (first | (go_at_call 104; refine (k1 _).mono ?_; rintro e w1 ⟨rfl, rfl⟩) | (go_at_call 108; refine (k3 _).mono ?_; rintro e w1 ⟨rfl, rfl⟩) | (go_at_call 110; refine (k5 _).mono ?_; rintro e w1 ⟨rfl, rfl⟩) | (go_at_call 114; refine (hn _).mono ?_; rintro e w1 ⟨rfl, rfl⟩))
  refine bodyPost_ret (v := .tuple #[.agg #[.int .i64 6, .string ⟨#[]⟩, .int .i64 0, .int .i64 a], .int .i64 (a + 1 : Nat), .nilIface]) ?_ rfl ⟨rfl, ?_⟩
  · simp [results, Tryz.results92, go_sem]
  · exact Below.alloc0 w _
end Go.Proofs.YtlgkjjbefoeabaaGreatDoor
