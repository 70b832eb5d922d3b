/-
  Layer 11 (parse): the program's parser takes tokens.
-/
import Derived.Test.YtlgkjjbefoeabaaGreatDoorPH
namespace Go.Proofs.YtlgkjjbefoeabaaGreatDoor
open Go.RowKit

theorem PAt.next {w w1 : World} {g : Nat} {Tv : Value} {T : List Tk} {i : Nat} {Nv : Value} {N : List Nd} (h : PAt w g Tv T i Nv N) (j : Nat) (hj : j ≤ T.length) (hw : w1 = w.setCell ⟨g, 1, none⟩ (.int .i64 j)) : PAt w1 g Tv T j Nv N ∧ Turned (fun k => k = g) w w1 := by
  subst hw
  have T1 := Turned.setCell w ⟨g, 1, none⟩ (.int .i64 j)
  refine ⟨⟨?_, ⟨World.cell?_setCell_same _ _ _ h.c1.1, ?_⟩, ⟨?_, ?_⟩, h.tok.turned T1 (fun k hk e => (h.tg k hk).1 e), h.tg, h.own.turned T1 (fun k hk e => h.ng ((show k = g from e) ▸ hk)), h.ng, fun q hq => ⟨(h.kid q hq).1.turned T1 (fun k hk e => ((h.kid q hq).2 k hk).1 e), fun k hk => ⟨((h.kid q hq).2 k hk).1, ((h.kid q hq).2 k hk).2.1, Nat.lt_of_lt_of_le ((h.kid q hq).2 k hk).2.2 T1.size⟩⟩, hj, h.tl⟩, T1⟩
  · rw [World.cell?_setCell_other _ _ _ _ (by simp)]; exact h.c0
  · rw [World.frozen?_setCell]; exact h.c1.2
  · rw [World.cell?_setCell_other _ _ _ _ (by simp)]; exact h.c2.1
  · rw [World.frozen?_setCell]; exact h.c2.2
/-- A call that takes the next token. -/
def Took (w : World) (g : Nat) (Tv : Value) (T : List Tk) (i : Nat) (Nv : Value) (N : List Nd) (x : Ending) (w' : World) : Prop := x = .returned (tokAt T i).val ∧ PAt w' g Tv T (i + 1) Nv N ∧ Turned (fun k => k = g) w w'
theorem Turned.set1 (w : World) (g j : Nat) (v : Value) : Turned (fun k => k = g) w (w.setCell ⟨g, j, none⟩ v) := Turned.setCell w ⟨g, j, none⟩ v
/-- Four cells written. -/
def lay4 (w : World) (q : Nat) (t : Tk) : World := (((w.setCell ⟨q, 0, none⟩ (.int .i64 t.kind)).setCell ⟨q, 1, none⟩ (.string t.text)).setCell ⟨q, 2, none⟩ (.int .i64 t.num)).setCell ⟨q, 3, none⟩ (.int .i64 t.at_)
theorem lay4_turned (w : World) (q : Nat) (t : Tk) : Turned (fun k => k = q) w (lay4 w q t) :=
  (((Turned.set1 w q 0 _).trans (Turned.set1 _ q 1 _) (fun _ e => .inl e)).trans (Turned.set1 _ q 2 _) (fun _ e => .inl e)).trans (Turned.set1 _ q 3 _) (fun _ e => .inl e)
theorem lay4_range (w : World) (q : Nat) (t : Tk) {v0 v1 v2 v3 : Value} (h0 : w.cell? ⟨q, 0, none⟩ = some v0) (h1 : w.cell? ⟨q, 1, none⟩ = some v1) (h2 : w.cell? ⟨q, 2, none⟩ = some v2) (h3 : w.cell? ⟨q, 3, none⟩ = some v3) : (lay4 w q t).rangeAt q 0 t.cells := by
  have k0 : (w.setCell ⟨q, 0, none⟩ (.int .i64 t.kind)).cell? ⟨q, 0, none⟩ = some (.int .i64 t.kind) := World.cell?_setCell_same _ _ _ h0
  have o : ∀ (W : World) (i j : Nat) (v u : Value), W.cell? ⟨q, j, none⟩ = some u → i ≠ j → (W.setCell ⟨q, i, none⟩ v).cell? ⟨q, j, none⟩ = some u := fun W i j v u h hij => by
    rw [World.cell?_setCell_other _ _ _ _ (by simp; try omega)]; exact h
  have a1 := World.cell?_setCell_same (w.setCell ⟨q, 0, none⟩ (.int .i64 t.kind)) ⟨q, 1, none⟩ (.string t.text) (o w 0 1 _ _ h1 (by omega))
  have a2 := World.cell?_setCell_same ((w.setCell ⟨q, 0, none⟩ (.int .i64 t.kind)).setCell ⟨q, 1, none⟩ (.string t.text)) ⟨q, 2, none⟩ (.int .i64 t.num) (o _ 1 2 _ _ (o w 0 2 _ _ h2 (by omega)) (by omega))
  have a3 := World.cell?_setCell_same (((w.setCell ⟨q, 0, none⟩ (.int .i64 t.kind)).setCell ⟨q, 1, none⟩ (.string t.text)).setCell ⟨q, 2, none⟩ (.int .i64 t.num)) ⟨q, 3, none⟩ (.int .i64 t.at_) (o _ 2 3 _ _ (o _ 1 3 _ _ (o w 0 3 _ _ h3 (by omega)) (by omega)) (by omega))
  intro j v hj
  rw [Nat.zero_add]
  match j, hj with
  | 0, hj => simp [Tk.cells] at hj; subst hj; exact o _ 3 0 _ _ (o _ 2 0 _ _ (o _ 1 0 _ _ k0 (by omega)) (by omega)) (by omega)
  | 1, hj => simp [Tk.cells] at hj; subst hj; exact o _ 3 1 _ _ (o _ 2 1 _ _ a1 (by omega)) (by omega)
  | 2, hj => simp [Tk.cells] at hj; subst hj; exact o _ 3 2 _ _ a2 (by omega)
  | 3, hj => simp [Tk.cells] at hj; subst hj; exact a3
  | j + 4, hj => simp [Tk.cells] at hj
theorem rangeAt_turned {S : Nat → Prop} {w w' : World} {b o : Nat} {cs : List Value} (h : w.rangeAt b o cs) (T : Turned S w w') (hs : ¬ S b) : w'.rangeAt b o cs := fun j v hv => T.cell (h j v hv) hs
/-- A function whose one result is a token in a cell of its own. -/
theorem results_tok {fn : Func} {p : Tmp} (h : fn.results = #[.cell p 40]) {tmps : Array Value} {q : Nat} (hp : tmps.getD p undef = .pointer (some ⟨q, 0, none⟩)) {W : World} {t : Tk} (hr : W.rangeAt q 0 t.cells) : (results fn tmps).run Tryz.prog W = .ok t.val W := by
  have hl := run_loadVar_mid (P := Tryz.prog) W q 0 40 t.cells _ hr Tryz.underlying40 rfl (by kernel_rfl)
  have e : (results fn tmps).run Tryz.prog W = ((asAddr (tmps.getD p undef)).run Tryz.prog W).andThen fun a w₁ => (loadVar 40 a).run Tryz.prog w₁ := by
    simp only [results, h]
    simp [Sem.run_bind, Result.andThen]
  rw [e, hp]
  have e2 : (asAddr (.pointer (some ⟨q, 0, none⟩))).run Tryz.prog W = .ok ⟨q, 0, none⟩ W := rfl
  rw [e2]
  simp only [Result.andThen, hl, Tk.val, Tk.cells]
/-- A block that is not the parser's. -/
structure Free (w : World) (g : Nat) (Tv Nv : Value) (N : List Nd) (q : Nat) : Prop where
  g : q ≠ g
  t : ¬ blk Tv q
  n : ¬ blk Nv q
  k : ∀ j (h : j < N.length), ¬ blk N[j].kv q
theorem SlK.blk_lt {k : Nat} {w : World} {v : Value} {n : Nat} {cs : List Value} (h : SlK k w v n cs) (hk : 0 < k) (hn : 0 < n) : ∀ b, blk v b → b < w.heap.size := by
  obtain ⟨h0, ⟨rfl, _⟩ | ⟨g, off, cap, rfl, _, _, h4⟩⟩ := h
  · intro b hb; exact hb.elim
  · intro b hb
    have hlt : 0 < cs.length := by rw [h0]; exact Nat.mul_pos hn hk
    exact (show g = b from hb) ▸ World.block_lt_of_cell? w _ (h4 0 hlt)
theorem PAt.free {w : World} {g : Nat} {Tv : Value} {T : List Tk} {i : Nat} {Nv : Value} {N : List Nd} (h : PAt w g Tv T i Nv N) (hT : 0 < T.length) (q : Nat) (hq : w.heap.size ≤ q) : Free w g Tv Nv N q :=
  ⟨by have := h.lt; omega, fun e => by have := h.tok.blk_lt (by omega) hT q e; omega, fun e => by have := h.own.blk_lt q e; omega, fun j hj e => by have := ((h.kid j hj).2 q e).2.2; omega⟩
theorem PAt.off {w w' : World} {g q : Nat} {Tv : Value} {T : List Tk} {i : Nat} {Nv : Value} {N : List Nd} {w0 : World} (h : PAt w g Tv T i Nv N) (f : Free w0 g Tv Nv N q) (ht : Turned (fun k => k = q) w w') : PAt w' g Tv T i Nv N :=
  h.turned ht (fun e => f.g e.symm) (fun k hk e => f.t ((show k = q from e) ▸ hk)) (fun k hk e => f.n ((show k = q from e) ▸ hk)) (fun j hj k hk e => f.k j hj ((show k = q from e) ▸ hk))
/-- The parser behind a token that was taken and laid in a new block. -/
theorem PAt.took {w w1 : World} {g : Nat} {Tv : Value} {T : List Tk} {i : Nat} {Nv : Value} {N : List Nd} (h : PAt w g Tv T i Nv N) (hi : i < T.length) (B1 : Below w.heap.size w w1) (t : Tk) (o : Obj) : PAt ((lay4 (w1.setCell ⟨g, 1, none⟩ (.int .i64 ((i : Int) + 1))) w.heap.size t).alloc o) g Tv T (i + 1) Nv N ∧ Turned (fun k => k = g) w ((lay4 (w1.setCell ⟨g, 1, none⟩ (.int .i64 ((i : Int) + 1))) w.heap.size t).alloc o) := by
  obtain ⟨h2, T2⟩ := (h.below B1).next (i + 1) hi rfl
  have f := h.free (by omega) w.heap.size (Nat.le_refl _)
  have T3 := lay4_turned (w1.setCell ⟨g, 1, none⟩ (.int .i64 ((i : Int) + 1))) w.heap.size t
  refine ⟨(h2.off f T3).below (Below.alloc0 _ o), ?_⟩
  exact ((Turned.ofBelow (S := fun k => k = g) B1).trans T2 (fun _ e => .inl e)).trans (T3.trans (Turned.alloc (fun _ => False) _ o) (fun _ e => e.elim)) (fun _ e => .inr (Nat.le_of_eq e.symm))
set_option maxRecDepth 100000 in
set_option maxHeartbeats 1600000 in
theorem ps_need {w : World} {g : Nat} {Tv : Value} {T : List Tk} {i : Nat} {Nv : Value} {N : List Nd} (h : PAt w g Tv T i Nv N) (hi : i < T.length) : Calls Tryz.prog 116 #[.pointer (some ⟨g, 0, none⟩), .bool true] w (Took w g Tv T i Nv N) := by
  have hp := fun o => ps_peek (h.below (Below.alloc0 w o))
  have H := Hid.mk7 h
  have htl := h.tl
  unfold Took
  generalize tokAt T i = t at hp ⊢
  obtain ⟨tk, tt, tn, ta⟩ := t
  simp only [Tk.val] at hp ⊢
  clear h
  go_enter Tryz.func116, Tryz.ntmps116
  go_wp2_with fail
  refine (hp _).mono ?_
  rintro x w1 ⟨rfl, hb1⟩
  have HB := Hid.mk7 hb1
  have B1 := (Below.alloc0 w _).trans (hb1.mono (by simp))
  have h1 := H.out.below B1
  have hc1 := h1.c1.1
  have hf1 := h1.c1.2
  obtain ⟨⟨c0, f0⟩, ⟨c1, f1⟩, ⟨c2, f2⟩, ⟨c3, f3⟩⟩ := newTok hb1
  have hgl := H.out.lt
  have hz1 := B1.size
  have hgl1 := h1.lt
  have hlt1 : w.heap.size < w1.heap.size := by have := hb1.size; simp at this; omega
  have HB1 := Hid.mk7 (And.intro B1 h1)
  clear hp hb1 B1 h1
  go_wp2
  have o : ∀ (j : Nat) (v u : Value), w1.cell? ⟨w.heap.size, j, none⟩ = some u → (w1.setCell ⟨g, 1, none⟩ v).cell? ⟨w.heap.size, j, none⟩ = some u := fun j v u h => by
    rw [World.cell?_setCell_other _ _ _ _ (by simp; try omega)]; exact h
  have hr := rangeAt_turned (lay4_range _ w.heap.size ⟨tk, tt, tn, ta⟩ (o 0 (.int .i64 ((i : Int) + 1)) _ c0) (o 1 _ _ c1) (o 2 _ _ c2) (o 3 _ _ c3)) (Turned.alloc (fun _ => False) _ (.cells #[.int .i64 tk, .string tt, .int .i64 tn, .int .i64 ta] 40)) (fun h => h)
  refine bodyPost_ret (v := (⟨tk, tt, tn, ta⟩ : Tk).val) (results_tok Tryz.results116 rfl hr) rfl ⟨rfl, ?_⟩
  · exact H.out.took hi HB1.out.1 ⟨tk, tt, tn, ta⟩ _
theorem Tryz.tokKind (a b c d : Value) (w : World) : (Instr.field 40 (.agg #[a, b, c, d]) 0).run Tryz.prog w = .ok a w := by kernel_rfl
theorem Tryz.tokText (a b c d : Value) (w : World) : (Instr.field 40 (.agg #[a, b, c, d]) 1).run Tryz.prog w = .ok b w := by kernel_rfl
theorem Tryz.tokInt (a b c d : Value) (w : World) : (Instr.field 40 (.agg #[a, b, c, d]) 2).run Tryz.prog w = .ok c w := by kernel_rfl
theorem Tryz.tokPlace (a b c d : Value) (w : World) : (Instr.field 40 (.agg #[a, b, c, d]) 3).run Tryz.prog w = .ok d w := by kernel_rfl
/-- A token's cells in a block of one's own, whatever the parser did. -/
theorem newTokT {w w2 : World} {g : Nat} (hg : g < w.heap.size) (T2 : Turned (fun k => k = g) (w.alloc (.cells #[.int .i64 0, .string ⟨#[]⟩, .int .i64 0, .int .i64 0] 40)) w2) :
    (w2.cell? ⟨w.heap.size, 0, none⟩ = some (.int .i64 0) ∧ w2.frozen? ⟨w.heap.size, 0, none⟩ = false) ∧ (w2.cell? ⟨w.heap.size, 1, none⟩ = some (.string ⟨#[]⟩) ∧ w2.frozen? ⟨w.heap.size, 1, none⟩ = false) ∧ (w2.cell? ⟨w.heap.size, 2, none⟩ = some (.int .i64 0) ∧ w2.frozen? ⟨w.heap.size, 2, none⟩ = false) ∧ (w2.cell? ⟨w.heap.size, 3, none⟩ = some (.int .i64 0) ∧ w2.frozen? ⟨w.heap.size, 3, none⟩ = false) := by
  obtain ⟨⟨c0, f0⟩, ⟨c1, f1⟩, ⟨c2, f2⟩, ⟨c3, f3⟩⟩ := newTok (Below.refl (w.alloc (.cells #[.int .i64 0, .string ⟨#[]⟩, .int .i64 0, .int .i64 0] 40)).heap.size _)
  have hn : ¬ w.heap.size = g := by omega
  have fz : ∀ j, w2.frozen? ⟨w.heap.size, j, none⟩ = _ := fun j => T2.frozen (p := ⟨w.heap.size, j, none⟩) (by simp) hn
  exact ⟨⟨T2.cell c0 hn, (fz 0).trans f0⟩, ⟨T2.cell c1 hn, (fz 1).trans f1⟩, ⟨T2.cell c2 hn, (fz 2).trans f2⟩, ⟨T2.cell c3 hn, (fz 3).trans f3⟩⟩
theorem PAt.tookOn {w w2 : World} {g : Nat} {Tv : Value} {T : List Tk} {i : Nat} {Nv : Value} {N : List Nd} (h : PAt w g Tv T i Nv N) (hT : 0 < T.length) {o : Obj} (h2 : PAt w2 g Tv T (i + 1) Nv N) (T2 : Turned (fun k => k = g) (w.alloc o) w2) (t : Tk) : PAt (lay4 w2 w.heap.size t) g Tv T (i + 1) Nv N ∧ Turned (fun k => k = g) w (lay4 w2 w.heap.size t) := by
  have f := h.free hT w.heap.size (Nat.le_refl _)
  have T3 := lay4_turned w2 w.heap.size t
  exact ⟨h2.off f T3, ((Turned.alloc (fun k => k = g) w o).trans T2 (fun _ e => .inl e)).trans T3 (fun _ e => .inr (Nat.le_of_eq e.symm))⟩
set_option maxRecDepth 100000 in
set_option maxHeartbeats 1600000 in
theorem ps_kind {w : World} {g : Nat} {Tv : Value} {T : List Tk} {i : Nat} {Nv : Value} {N : List Nd} (h : PAt w g Tv T i Nv N) (hi : i < T.length) (k : Int) (hk : (tokAt T i).kind = k) : Calls Tryz.prog 96 #[.pointer (some ⟨g, 0, none⟩), .int .i64 k] w (Took w g Tv T i Nv N) := by
  have H := Hid.mk7 h
  have hgl := h.lt
  have hp := fun o => ps_peek (h.below (Below.alloc0 w o))
  have hn := fun o (w1 : World) (hb : Below (w.alloc o).heap.size (w.alloc o) w1) => ps_need ((h.below (Below.alloc0 w o)).below hb) hi
  subst hk
  have hfk := Tryz.tokKind
  unfold Took at hn ⊢
  generalize tokAt T i = t at hp hn ⊢
  obtain ⟨tk, tt, tn, ta⟩ := t
  simp only [Tk.val] at hp hn ⊢
  clear h
  go_enter Tryz.func96, Tryz.ntmps96
  go_wp2_with fail
  refine (hp _).mono ?_
  rintro x w1 ⟨rfl, hb1⟩
  go_wp2_with fail
  refine (hn _ _ hb1).mono ?_
  rintro x w2 ⟨rfl, h2, T2⟩
  have T3 := (Turned.ofBelow (S := fun k => k = g) hb1).trans T2 (fun _ e => .inl e)
  obtain ⟨⟨c0, f0⟩, ⟨c1, f1⟩, ⟨c2, f2⟩, ⟨c3, f3⟩⟩ := newTokT hgl T3
  have HN := Hid.mk7 (H.out.tookOn (by omega) h2 T3 ⟨tk, tt, tn, ta⟩)
  clear hp hn hb1 h2 T2 T3
  go_wp2
  have hr := lay4_range _ w.heap.size ⟨tk, tt, tn, ta⟩ c0 c1 c2 c3
  exact bodyPost_ret (v := (⟨tk, tt, tn, ta⟩ : Tk).val) (results_tok Tryz.results96 rfl hr) rfl ⟨rfl, HN.out⟩
set_option maxRecDepth 100000 in
set_option maxHeartbeats 1600000 in
theorem ps_sign {w : World} {g : Nat} {Tv : Value} {T : List Tk} {i : Nat} {Nv : Value} {N : List Nd} (h : PAt w g Tv T i Nv N) (hi : i < T.length) (s : ByteArray) (hk : isTk 5 s (tokAt T i) = true) : Calls Tryz.prog 94 #[.pointer (some ⟨g, 0, none⟩), .string s] w (Took w g Tv T i Nv N) := by
  have H := Hid.mk7 h
  have hgl := h.lt
  have hp := fun o => ps_isSign (h.below (Below.alloc0 w o)) s
  have hn := fun o (w1 : World) (hb : Below (w.alloc o).heap.size (w.alloc o) w1) => ps_need ((h.below (Below.alloc0 w o)).below hb) hi
  simp only [hk] at hp
  clear hk
  unfold Took at hn ⊢
  generalize tokAt T i = t at hn ⊢
  obtain ⟨tk, tt, tn, ta⟩ := t
  simp only [Tk.val] at hn ⊢
  clear h
  go_enter Tryz.func94, Tryz.ntmps94
  go_wp2_with fail
  refine (hp _).mono ?_
  rintro x w1 ⟨rfl, hb1⟩
  go_wp2_with fail
  refine (hn _ _ hb1).mono ?_
  rintro x w2 ⟨rfl, h2, T2⟩
  have T3 := (Turned.ofBelow (S := fun k => k = g) hb1).trans T2 (fun _ e => .inl e)
  obtain ⟨⟨c0, f0⟩, ⟨c1, f1⟩, ⟨c2, f2⟩, ⟨c3, f3⟩⟩ := newTokT hgl T3
  have HN := Hid.mk7 (H.out.tookOn (by omega) h2 T3 ⟨tk, tt, tn, ta⟩)
  clear hp hn hb1 h2 T2 T3
  go_wp2
  have hr := lay4_range _ w.heap.size ⟨tk, tt, tn, ta⟩ c0 c1 c2 c3
  exact bodyPost_ret (v := (⟨tk, tt, tn, ta⟩ : Tk).val) (results_tok Tryz.results94 rfl hr) rfl ⟨rfl, HN.out⟩
set_option maxRecDepth 100000 in
set_option maxHeartbeats 1600000 in
theorem ps_atom {w : World} {g : Nat} {Tv : Value} {T : List Tk} {i : Nat} {Nv : Value} {N : List Nd} (h : PAt w g Tv T i Nv N) (hi : i < T.length) (s : ByteArray) (hk : isTk 1 s (tokAt T i) = true) : Calls Tryz.prog 95 #[.pointer (some ⟨g, 0, none⟩), .string s] w (Took w g Tv T i Nv N) := by
  have H := Hid.mk7 h
  have hgl := h.lt
  have hp := fun o => ps_peek (h.below (Below.alloc0 w o))
  have hq : ∀ o (w0 : World), Below (w.alloc o).heap.size (w.alloc o) w0 → Calls Tryz.prog 117 #[(tokAt T i).val, .int .i64 1, .string s] w0 fun x w' => x = .returned (.bool true) ∧ Below (w.alloc o).heap.size (w.alloc o) w' := fun o w0 hb => (ps_is (tokAt T i) 1 s w0).mono (fun x w' hx => ⟨by rw [hx.1]; exact congrArg Ending.returned (congrArg Value.bool hk), hb.trans (hx.2.mono hb.size)⟩)
  have hn := fun o (w1 : World) (hb : Below (w.alloc o).heap.size (w.alloc o) w1) => ps_need ((h.below (Below.alloc0 w o)).below hb) hi
  clear hk
  unfold Took at hn ⊢
  generalize tokAt T i = t at hp hq hn ⊢
  obtain ⟨tk, tt, tn, ta⟩ := t
  simp only [Tk.val] at hp hq hn ⊢
  clear h
  go_enter Tryz.func95, Tryz.ntmps95
  go_wp2_with fail
  refine (hp _).mono ?_
  rintro x w0 ⟨rfl, hb0⟩
  go_wp2_with fail
  refine (hq _ _ hb0).mono ?_
  rintro x w1 ⟨rfl, hb1⟩
  clear hb0
  go_wp2_with fail
  refine (hn _ _ hb1).mono ?_
  rintro x w2 ⟨rfl, h2, T2⟩
  have T3 := (Turned.ofBelow (S := fun k => k = g) hb1).trans T2 (fun _ e => .inl e)
  obtain ⟨⟨c0, f0⟩, ⟨c1, f1⟩, ⟨c2, f2⟩, ⟨c3, f3⟩⟩ := newTokT hgl T3
  have HN := Hid.mk7 (H.out.tookOn (by omega) h2 T3 ⟨tk, tt, tn, ta⟩)
  clear hp hn hb1 h2 T2 T3
  go_wp2
  have hr := lay4_range _ w.heap.size ⟨tk, tt, tn, ta⟩ c0 c1 c2 c3
  exact bodyPost_ret (v := (⟨tk, tt, tn, ta⟩ : Tk).val) (results_tok Tryz.results95 rfl hr) rfl ⟨rfl, HN.out⟩
end Go.Proofs.YtlgkjjbefoeabaaGreatDoor
