/-
  Layer 11 (parse): the program's parser keeps a node.
-/
import Derived.Test.YtlgkjjbefoeabaaGreatDoorPI
namespace Go.Proofs.YtlgkjjbefoeabaaGreatDoor
open Go.RowKit

/-- What the parser's calls may turn: its own block, its nodes. -/
structure Stp (g : Nat) (Nv Nv' : Value) (w w' : World) : Prop where
  t : Turned (fun k => k = g ∨ blk Nv k) w w'
  n : ∀ k, blk Nv' k → blk Nv k ∨ w.heap.size ≤ k
theorem Stp.trans {g : Nat} {Na Nb Nc : Value} {a b c : World} (h : Stp g Na Nb a b) (k : Stp g Nb Nc b c) : Stp g Na Nc a c :=
  ⟨h.t.trans k.t (fun i hi => hi.elim (fun e => .inl (.inl e)) (fun e => (h.n i e).elim (fun e => .inl (.inr e)) .inr)), fun i hi => (k.n i hi).elim (h.n i) (fun e => .inr (Nat.le_trans h.t.size e))⟩
theorem Stp.ofG {g : Nat} {Nv : Value} {a b : World} (h : Turned (fun k => k = g) a b) : Stp g Nv Nv a b := ⟨h.mono (fun _ e => .inl (.inl e)), fun _ e => .inl e⟩
theorem Stp.ofB {g : Nat} {Nv : Value} {a b : World} (h : Below a.heap.size a b) : Stp g Nv Nv a b := ⟨Turned.ofBelow h, fun _ e => .inl e⟩
theorem Tryz.nodeTypes : ElTypes Tryz.prog 28 47 6 80 (.agg #[.int .i64 0, .string ⟨#[]⟩, .string ⟨#[]⟩, .int .i64 0, .slice none 0 0, .int .i64 0]) := by
  refine ⟨Tryz.underlying28, ?_, by simp [Value.cells]⟩
  have h : (Tryz.prog.info? 47).map (fun i => (i.zero, i.size, i.bytes)) = some (some (.agg #[.int .i64 0, .string ⟨#[]⟩, .string ⟨#[]⟩, .int .i64 0, .slice none 0 0, .int .i64 0]), 6, 80) := by kernel_rfl
  obtain ⟨i, hi, h0, h1, h2⟩ := info_parts h
  exact ⟨i, hi, h0, h1, h2⟩
/-- A node's Kids, as a node that is to be kept has them. -/
structure KidOk (w : World) (g : Nat) (Nv kv : Value) (kids : List Int) : Prop where
  sl : SlI w kv kids
  off : ∀ k, blk kv k → k ≠ g ∧ ¬ blk Nv k ∧ k < w.heap.size
theorem KidOk.nil (w : World) (g : Nat) (Nv : Value) : KidOk w g Nv (.slice none 0 0) [] := ⟨⟨rfl, .inl ⟨rfl, rfl⟩⟩, fun _ h => h.elim⟩
theorem SlI.form {w : World} {v : Value} {l : List Int} (h : SlI w v l) : ∃ a cap, v = .slice a l.length cap := by
  obtain ⟨a, cap, e, _⟩ := SlK.form h
  exact ⟨a, cap, e⟩
theorem Nd.cells_one (n : Nd) (h : n.kv.oneCell' = true) : ∀ u ∈ n.cells, u.oneCell' = true := by
  intro u hu
  simp only [Nd.cells, List.mem_cons, List.not_mem_nil, or_false] at hu
  rcases hu with rfl | rfl | rfl | rfl | rfl | rfl <;> first | rfl | exact h
theorem SlK.nd (w : World) (n : Nd) : SlK 6 (w.alloc (.cells #[.int .i64 n.kind, .string n.text, .string n.mod, .int .i64 n.num, n.kv, .int .i64 n.at_] 47)) (.slice (some ⟨w.heap.size, 0, none⟩) 1 1) 1 n.cells := by
  refine ⟨rfl, .inr ⟨w.heap.size, 0, 1, rfl, Nat.le_refl _, by decide, fun j hj => ?_⟩⟩
  have hj6 : j < 6 := hj
  match j, hj6 with
  | 0, _ => simp [Nd.cells]
  | 1, _ => simp [Nd.cells]
  | 2, _ => simp [Nd.cells]
  | 3, _ => simp [Nd.cells]
  | 4, _ => simp [Nd.cells]
  | 5, _ => simp [Nd.cells]
/-- A call that keeps a node. -/
def Added (w : World) (g : Nat) (Tv : Value) (T : List Tk) (i : Nat) (Nv : Value) (N : List Nd) (n : Nd) (x : Ending) (w' : World) : Prop := x = .returned (.int .i64 N.length) ∧ ∃ Nv', PAt w' g Tv T i Nv' (N ++ [n]) ∧ Stp g Nv Nv' w w'
theorem PAt.added {w w2 w3 w4 : World} {g : Nat} {Tv : Value} {T : List Tk} {i : Nat} {Nv Nv' : Value} {N : List Nd} (h : PAt w g Tv T i Nv N) (hT : 0 < T.length) (n : Nd) (hk : KidOk w g Nv n.kv n.kids) (hb : Below w.heap.size w w2) (ho : OwnK 6 w3 Nv' (N.length + 1) (nds N ++ n.cells)) (T3 : Turned (blk Nv) w2 w3) (hn : ∀ q, blk Nv' q → blk Nv q ∨ q = w2.heap.size) (e4 : w4 = w3.setCell ⟨g, 2, none⟩ Nv') : PAt w4 g Tv T i Nv' (N ++ [n]) ∧ Stp g Nv Nv' w w4 := by
  subst e4
  have h2 := h.below hb
  have hz := hb.size
  have hgl := h.lt
  have T4 := Turned.setCell w3 ⟨g, 2, none⟩ Nv'
  have htl := h.tok.blk_lt (by omega) hT
  have hng' : ¬ blk Nv' g := fun e => (hn g e).elim h.ng (fun e => by omega)
  have g3 : ∀ j, w3.cell? ⟨g, j, none⟩ = w2.cell? ⟨g, j, none⟩ := fun j => World.cell?_of_block (T3.block g h2.lt h.ng)
  have f3 : ∀ j, w3.frozen? ⟨g, j, none⟩ = w2.frozen? ⟨g, j, none⟩ := fun j => T3.frozen (p := ⟨g, j, none⟩) h2.lt h.ng
  have T5 : Turned (fun k => k = g ∨ blk Nv k) w2 (w3.setCell ⟨g, 2, none⟩ Nv') := (T3.mono (fun _ e => .inl (.inr e))).trans T4 (fun _ e => .inl (.inl e))
  refine ⟨⟨?_, ⟨?_, ?_⟩, ⟨World.cell?_setCell_same _ _ _ ((g3 2).trans h2.c2.1), ?_⟩, h2.tok.turned T5 (fun k hk e => e.elim (h.tg k hk).1 (h.tg k hk).2), fun k hk => ⟨(h.tg k hk).1, fun e => (hn k e).elim (h.tg k hk).2 (fun e => by have := htl k hk; omega)⟩, ?_, hng', ?_, h.il, h.tl⟩, ⟨(Turned.ofBelow (S := fun k => k = g ∨ blk Nv k) hb).trans T5 (fun _ e => .inl e), fun k e => (hn k e).elim .inl (fun e => .inr (by omega))⟩⟩
  · rw [World.cell?_setCell_other _ _ _ _ (by simp), g3]; exact h2.c0
  · rw [World.cell?_setCell_other _ _ _ _ (by simp), g3]; exact h2.c1.1
  · rw [World.frozen?_setCell, f3]; exact h2.c1.2
  · rw [World.frozen?_setCell, f3]; exact h2.c2.2
  · rw [nds_snoc]
    have := ho.turned T4 (fun k hk e => hng' ((show k = g from e) ▸ hk))
    simpa using this
  · intro j hj
    have key : ∀ (v : Value) (l : List Int), SlI w v l → (∀ k, blk v k → k ≠ g ∧ ¬ blk Nv k ∧ k < w.heap.size) → SlI (w3.setCell ⟨g, 2, none⟩ Nv') v l ∧ ∀ k, blk v k → k ≠ g ∧ ¬ blk Nv' k ∧ k < (w3.setCell ⟨g, 2, none⟩ Nv').heap.size := fun v l hs hv =>
      ⟨SlK.turned (SlK.turned hs (Turned.ofBelow (S := fun _ => False) hb) (fun _ _ e => e)) T5 (fun k hk e => e.elim (hv k hk).1 (hv k hk).2.1), fun k hk => ⟨(hv k hk).1, fun e => (hn k e).elim (hv k hk).2.1 (fun e => by have := (hv k hk).2.2; omega), by have := (hv k hk).2.2; have := T5.size; omega⟩⟩
    by_cases hjn : j < N.length
    · rw [List.getElem_append_left hjn]
      exact key _ _ (h.kid j hjn).1 (h.kid j hjn).2
    · have e : j = N.length := by simp at hj; omega
      subst e
      simp only [List.getElem_append_right (Nat.le_refl _), Nat.sub_self, List.getElem_cons_zero]
      exact key _ _ hk.sl hk.off
set_option maxRecDepth 100000 in
set_option maxHeartbeats 1600000 in
theorem ps_add {w : World} {g : Nat} {Tv : Value} {T : List Tk} {i : Nat} {Nv : Value} {N : List Nd} (h : PAt w g Tv T i Nv N) (hT : 0 < T.length) (n : Nd) (hk : KidOk w g Nv n.kv n.kids) (hN : N.length ≤ 1073741824) : Calls Tryz.prog 78 #[.pointer (some ⟨g, 0, none⟩), n.val] w (Added w g Tv T i Nv N n) := by
  have H := Hid.mk7 h
  have HK := Hid.mk7 hk
  have hgl := h.lt
  have hc2 := h.c2.1
  have hf2 := h.c2.2
  have hng := h.ng
  obtain ⟨aN, cN, hNv, _⟩ := h.own.sl.form
  have HO := Hid.mk7 (fun o1 o2 => h.own.turned (Turned.ofBelow (S := fun _ => False) ((Below.alloc0 w o1).trans ((Below.alloc0 (w.alloc o1) o2).mono (by simp)))) (fun _ _ e => e))
  have HX := Hid.mk7 (fun o1 => SlK.nd (w.alloc o1) n)
  have hone : ∀ u ∈ n.cells, u.oneCell' = true := Nd.cells_one n (by obtain ⟨a, c, e⟩ := SlI.form hk.sl; rw [e]; rfl)
  have hfit : (N.length + 1) * 80 ≤ 140737488355328 := by omega
  have hcA := Hid.mk7 (fun o1 o2 => (h.below ((Below.alloc0 w o1).trans ((Below.alloc0 (w.alloc o1) o2).mono (by simp)))).c2)
  have hlA := Hid.mk7 (fun o1 o2 => (h.below ((Below.alloc0 w o1).trans ((Below.alloc0 (w.alloc o1) o2).mono (by simp)))).lt)
  subst hNv
  unfold Added
  obtain ⟨nk, nt, nm, nn, kv, kids, na⟩ := n
  obtain ⟨aK, cK, hkv⟩ := SlI.form hk.sl
  simp only at hkv
  subst hkv
  simp only [Nd.val, World.size_alloc] at HX ⊢
  clear h hk
  go_enter Tryz.func78, Tryz.ntmps78
  go_wp2_with fail
  go_region_law (refine step_append_k (by rfl) (.tmp 9) (.tmp 11) (by rfl) Tryz.nodeTypes (by rfl) (by rfl) (HO.out _ _) (HX.out _) hone hfit (by omega) ?_; intro v4 w4 ho4 T4 hb4; have c4 := T4.cell (p := ⟨g, 2, none⟩) (hcA.out _ _).1 hng; have f4 := (T4.frozen (p := ⟨g, 2, none⟩) (hlA.out _ _) hng).trans (hcA.out _ _).2; obtain ⟨a4, cap4, rfl, _, _⟩ := ho4.sl.form)
  all_goals
    have HF := Hid.mk7 (H.out.added hT ⟨nk, nt, nm, nn, .slice aK kids.length cK, kids, na⟩ HK.out ((Below.alloc0 w _).trans ((Below.alloc0 (w.alloc _) _).mono (by simp))).drew ho4 T4 hb4 rfl)
    have c5 := HF.out.1.c2.1
    generalize w4.setCell _ _ = w5 at HF c5 ⊢
    clear ho4 T4 hb4 c4 f4 hc2 hf2
    go_wp2
    go_ret
    exact ⟨by simp, _, HF.out⟩
end Go.Proofs.YtlgkjjbefoeabaaGreatDoor
