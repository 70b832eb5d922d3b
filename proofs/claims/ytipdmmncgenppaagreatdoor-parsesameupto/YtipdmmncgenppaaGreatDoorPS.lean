/-
  Layer 11 (parse): the program's grow: the parser's run under a deferred recover.
-/
import Derived.Test.YtipdmmncgenppaaGreatDoorPR
import Derived.Defers
import Derived.Recover
namespace Go.Proofs.YtipdmmncgenppaaGreatDoor
open Go.RowKit

set_option maxRecDepth 100000 in
/-- Behind a run without a panic the deferred call does nothing. -/
theorem ps_idle (a b c : Value) (w : World) : CallsD Tryz.prog 39 #[a, b, c] .returning w fun e u' w' => e = .returned (.tuple #[]) ∧ u' = .returning ∧ w' = w := by
  refine callsD_of_wpS Tryz.func39 rfl fun c₀ cs hu => ?_
  apply wpS_seq
  apply wpS_region
  simp [wpOpsS, go_sem, recoverD, hu, Tryz.ntmps39, Exit.thenS]
  apply wpS_seq
  apply wpS_region
  simp [wpOpsS, go_sem, Array.replicate, Exit.thenS]
  refine wpS_cond (t := false) (by simp [Act.eval]) ?_
  simp only [Bool.false_eq_true, if_false]
  refine wpS_of_wp (wp_skip ?_)
  cases c₀
  simp_all [bodyPostS, results, Tryz.results39]
/-- Nodes in memory. -/
structure NodesAt (w : World) (Nv : Value) (N : List Nd) : Prop where
  own : OwnK 6 w Nv N.length (nds N)
  kid : ∀ j (h : j < N.length), SlI w N[j].kv N[j].kids
  off : ∀ j (h : j < N.length) k, blk N[j].kv k → ¬ blk Nv k
theorem PAt.nodes {w : World} {g : Nat} {Tv : Value} {T : List Tk} {i : Nat} {Nv : Value} {N : List Nd} (h : PAt w g Tv T i Nv N) : NodesAt w Nv N := ⟨h.own, fun j hj => (h.kid j hj).1, fun j hj k hk => ((h.kid j hj).2 k hk).2.1⟩
theorem NodesAt.turned {S : Nat → Prop} {w w' : World} {Nv : Value} {N : List Nd} (h : NodesAt w Nv N) (T : Turned S w w') (hn : ∀ k, blk Nv k → ¬ S k) (hk : ∀ j (h : j < N.length) k, blk N[j].kv k → ¬ S k) : NodesAt w' Nv N := ⟨h.own.turned T hn, fun j hj => SlK.turned (h.kid j hj) T (hk j hj), h.off⟩
/-- A cell that may be written. -/
def Cl (w : World) (k : Nat) (v : Value) : Prop := w.cell? ⟨k, 0, none⟩ = some v ∧ w.frozen? ⟨k, 0, none⟩ = false
theorem Cl.new (w : World) (v : Value) (t : TypeId) : Cl (w.alloc (.cells #[v] t)) w.heap.size v := ⟨by simp, by rw [World.frozen?_alloc_new]⟩
theorem Cl.turned {S : Nat → Prop} {w w' : World} {k : Nat} {v : Value} (h : Cl w k v) (T : Turned S w w') (hs : ¬ S k) : Cl w' k v := ⟨T.cell h.1 hs, by rw [T.frozen (p := ⟨k, 0, none⟩) (World.block_lt_of_cell? w _ h.1) hs]; exact h.2⟩
theorem Cl.alloc {w : World} {k : Nat} {v : Value} (h : Cl w k v) (o : Obj) : Cl (w.alloc o) k v := h.turned (Turned.alloc (fun _ => False) w o) (fun e => e)
/-- A parser that was just made. -/
theorem PAt.start {w : World} {aT : Option Addr} {cT : Nat} {T : List Tk} (hT : 0 < T.length) (hT2 : T.length ≤ 65536) (h : SlK 4 w (.slice aT T.length cT) T.length (toks T)) : PAt (w.alloc (.cells #[.slice aT T.length cT, .int .i64 0, .slice none 0 0] 88)) w.heap.size (.slice aT T.length cT) T 0 (.slice none 0 0) [] :=
  ⟨by simp, ⟨by simp, by rw [World.frozen?_alloc_new]⟩, ⟨by simp, by rw [World.frozen?_alloc_new]⟩, h.turned (Turned.alloc (fun _ => False) _ _) (fun _ _ e => e), fun k hk => ⟨by have := h.blk_lt (by omega) hT k hk; omega, fun e => e⟩, OwnK.nil 6 _, fun e => e, fun j hj => absurd hj (Nat.not_lt_zero j), Nat.zero_le _, hT2⟩
set_option maxRecDepth 100000 in
set_option maxHeartbeats 3200000 in
theorem ps_grow (T : List Tk) (hT : 0 < T.length) (hT2 : T.length ≤ 65536) (M : Nat → List Sh) (r : Nat → Nat) (hE : Phrase 0 41 [] T 0 T.length M r) {w : World} {Tv : Value} (htok : SlK 4 w Tv T.length (toks T)) :
    Calls Tryz.prog 28 #[Tv] w fun x w' => ∃ Nv N, x = .returned (.tuple #[Nv, .int .i64 (r 0 : Nat), .nilIface]) ∧ N.map Nd.sh = M 0 ∧ NodesAt w' Nv N ∧ Below w.heap.size w w' := by
  have hmf := Tryz.makeFn
  obtain ⟨aT, cT, hTv, _⟩ := htok.form
  subst hTv
  have HT := Hid.mk7 htok
  have hbT := htok.blk_lt (by omega) hT
  go_enter_defers Tryz.func28, Tryz.ntmps28
  go_wp2_with fail
  have B3 := ((Below.alloc0 w (.cells #[.slice none 0 0] 22)).trans ((Below.alloc0 _ (.cells #[.int .i64 0] 3)).mono (by simp))).trans ((Below.alloc0 _ (.cells #[.nilIface] 36)).mono (by simp; omega))
  have tok3 := HT.out.turned (Turned.ofBelow (S := fun _ => False) B3) (fun _ _ e => e)
  have p4 := PAt.start hT hT2 tok3
  simp only [World.size_alloc] at p4
  have hE4 := hE _ _ _ _ _ p4 (Nat.le_refl _)
  simp only [List.length_nil] at hE4
  refine hE4.mono ?_
  rintro x w5 ⟨rfl, Nv5, M5, e5, o5, p5, S5⟩
  rw [List.nil_append] at p5
  have l2 := (((Cl.new w (.slice none 0 0) 22).alloc (.cells #[.int .i64 0] 3)).alloc (.cells #[.nilIface] 36)).alloc (.cells #[.slice aT T.length cT, .int .i64 0, .slice none 0 0] 88)
  have l3 := ((Cl.new (w.alloc (.cells #[.slice none 0 0] 22)) (.int .i64 0) 3).alloc (.cells #[.nilIface] 36)).alloc (.cells #[.slice aT T.length cT, .int .i64 0, .slice none 0 0] 88)
  have l4 := (Cl.new ((w.alloc (.cells #[.slice none 0 0] 22)).alloc (.cells #[.int .i64 0] 3)) .nilIface 36).alloc (.cells #[.slice aT T.length cT, .int .i64 0, .slice none 0 0] 88)
  simp only [World.size_alloc] at l3 l4
  obtain ⟨q2, f2⟩ := l2.turned S5.t (fun e => e.elim (fun e => by omega) (fun e => e))
  obtain ⟨q3, f3⟩ := l3.turned S5.t (fun e => e.elim (fun e => by omega) (fun e => e))
  obtain ⟨q4, f4⟩ := l4.turned S5.t (fun e => e.elim (fun e => by omega) (fun e => e))
  have c2 := p5.c2.1
  obtain ⟨aN, cN, hNv, _⟩ := p5.own.sl.form
  subst hNv
  have H5 := Hid.mk7 (And.intro e5 (And.intro o5 (And.intro p5 S5)))
  clear hE4 p4 tok3 e5 o5 p5 S5 l2 l3 l4
  go_wp2_with fail
  go_region
  go_wp2
  have Ta := Turned.set1 w5 (w.heap.size + 1) 0 (.int .i64 (r 0 : Int))
  have Tb := Turned.set1 (w5.setCell ⟨w.heap.size + 1, 0, none⟩ (.int .i64 (r 0 : Int))) w.heap.size 0 (.slice aN M5.length cN)
  have Tc := Turned.set1 ((w5.setCell ⟨w.heap.size + 1, 0, none⟩ (.int .i64 (r 0 : Int))).setCell ⟨w.heap.size, 0, none⟩ (.slice aN M5.length cN)) (w.heap.size + 1) 0 (.int .i64 (r 0 : Int))
  have Td := Turned.set1 (((w5.setCell ⟨w.heap.size + 1, 0, none⟩ (.int .i64 (r 0 : Int))).setCell ⟨w.heap.size, 0, none⟩ (.slice aN M5.length cN)).setCell ⟨w.heap.size + 1, 0, none⟩ (.int .i64 (r 0 : Int))) (w.heap.size + 1 + 1) 0 .nilIface
  have y2 := World.cell?_setCell_same (w5.setCell ⟨w.heap.size + 1, 0, none⟩ (.int .i64 (r 0 : Int))) ⟨w.heap.size, 0, none⟩ (.slice aN M5.length cN) (Ta.cell q2 (fun e => by have e : w.heap.size = w.heap.size + 1 := e; omega))
  have z2 := Td.cell (Tc.cell y2 (fun e => by have e : w.heap.size = w.heap.size + 1 := e; omega)) (fun e => by have e : w.heap.size = w.heap.size + 1 + 1 := e; omega)
  have x3 := World.cell?_setCell_same w5 ⟨w.heap.size + 1, 0, none⟩ (.int .i64 (r 0 : Int)) q3
  have y3 := World.cell?_setCell_same _ ⟨w.heap.size + 1, 0, none⟩ (.int .i64 (r 0 : Int)) (Tb.cell x3 (fun e => by have e : w.heap.size + 1 = w.heap.size := e; omega))
  have z3 := Td.cell y3 (fun e => by have e : w.heap.size + 1 = w.heap.size + 1 + 1 := e; omega)
  have z4 := World.cell?_setCell_same _ ⟨w.heap.size + 1 + 1, 0, none⟩ .nilIface (Tc.cell (Tb.cell (Ta.cell q4 (fun e => by have e : w.heap.size + 1 + 1 = w.heap.size + 1 := e; omega)) (fun e => by have e : w.heap.size + 1 + 1 = w.heap.size := e; omega)) (fun e => by have e : w.heap.size + 1 + 1 = w.heap.size + 1 := e; omega))
  have TT : Turned (fun k => k = w.heap.size ∨ k = w.heap.size + 1 ∨ k = w.heap.size + 1 + 1) w5 _ := (((Ta.mono (fun _ e => .inl (.inr (.inl e)))).trans Tb (fun _ e => .inl (.inl e))).trans Tc (fun _ e => .inl (.inr (.inl e)))).trans Td (fun _ e => .inl (.inr (.inr e)))
  have HF := Hid.mk7 TT
  clear Ta Tb Tc Td y2 x3 y3 TT q2 q3 q4 f2 f3 f4 c2
  generalize (((w5.setCell ⟨w.heap.size + 1, 0, none⟩ (.int .i64 (r 0 : Int))).setCell ⟨w.heap.size, 0, none⟩ (.slice aN M5.length cN)).setCell ⟨w.heap.size + 1, 0, none⟩ (.int .i64 (r 0 : Int))).setCell ⟨w.heap.size + 1 + 1, 0, none⟩ .nilIface = w9 at HF z2 z3 z4 ⊢
  refine leaves_cons (f := 39) (args := #[.pointer (some ⟨w.heap.size, 0, none⟩), .pointer (some ⟨w.heap.size + 1, 0, none⟩), .pointer (some ⟨w.heap.size + 1 + 1, 0, none⟩)]) (by simp) (by simp [go_sem]) ?_
  refine (ps_idle _ _ _ _).mono ?_
  rintro e u' w'' ⟨rfl, rfl, rfl⟩
  simp [Leaves, settle, results, Tryz.results28, go_sem, z2, z3, z4]
  obtain ⟨e5, o5, p5, S5⟩ := H5.out
  have b4 := B3.trans ((Below.alloc0 _ (.cells #[.slice aT T.length cT, .int .i64 0, .slice none 0 0] 88)).mono B3.size)
  have b5 := b4.trans (S5.t.below b4.size (fun k e => e.elim (fun e => by have e : k = w.heap.size + 1 + 1 + 1 := e; omega) (fun e => e.elim)))
  have b9 := b5.trans (HF.out.below b5.size (fun k e => by have e : k = w.heap.size ∨ k = w.heap.size + 1 ∨ k = w.heap.size + 1 + 1 := e; omega))
  refine ⟨M5, e5, (p5.nodes.turned HF.out (fun k hk e => ?_) (fun j hj k hk e => ?_)).turned (Turned.drew (fun _ => False) _) (fun _ _ e => e) (fun _ _ _ _ e => e), b9.drew⟩
  · have e : k = w.heap.size ∨ k = w.heap.size + 1 ∨ k = w.heap.size + 1 + 1 := e
    have := (S5.n k hk).elim (fun e => e.elim) id
    simp at this
    omega
  · have e : k = w.heap.size ∨ k = w.heap.size + 1 ∨ k = w.heap.size + 1 + 1 := e
    have := o5 _ (List.getElem_mem hj) k hk
    simp at this
    omega
end Go.Proofs.YtipdmmncgenppaaGreatDoor
