/-
  Layer 11 (parse): the program's programs of one module; the parser's run.
  Layer 11 (parse): the program's grow: the parser's run under a deferred recover.
  Layer 11 (parse), of lists alone: what is below some nodes. The program's meet.
  Layer 11 (parse): the program's Below.
  Layer 11 (parse): the program's limit, where it refuses nothing.
  Layer 11 (parse): the program's tree of the text that every statement asks for.
  Layer 11 (parse): the program's Parse and Text of that text; the statements' question whether it is alive.
  Layer 11 (parse), of lists alone: what is below a node rises, and holds the lower Kids of what it holds.
  The document's layer 11: Below.
  Layer 11 (parse): the statements' question whether the program is alive.
-/
import Derived.Test.YtlgkjjbefoeabaaGreatDoorPQ
import Derived.Defers
import Derived.Recover
import Derived.Laws.MakeOwn
namespace Go.Proofs.YtlgkjjbefoeabaaGreatDoor
open Go.RowKit

set_option maxRecDepth 100000 in
set_option maxHeartbeats 3200000 in
theorem ps_program (b0 : Nat) (hbB : b0 ≤ 400) (T : List Tk) (hT : 0 < T.length) (M : Nat → List Sh) (r : Nat → Nat) (hM : ∀ n, (M n).length ≤ 200) (hE : Phrase b0 77 [] T 0 T.length M r) :
    Phrase b0 49 [] T 0 T.length (fun n => M n ++ [⟨28, ⟨#[]⟩, ⟨#[]⟩, 0, [(r n : Int)], (tokAt T 0).at_⟩]) (fun n => n + (M n).length) := by
  intro w g Tv Nv N h hN
  show Calls Tryz.prog 49 #[.pointer (some ⟨g, 0, none⟩)] w _
  have hp := ps_peek h
  have hfa := Tryz.tokPlace
  have H := Hid.mk7 h
  obtain ⟨aT, cT, hTv, _⟩ := h.tok.form
  unfold ReadTo
  generalize tokAt T 0 = t at hp ⊢
  obtain ⟨tk, tt, tn, ta⟩ := t
  simp only [Tk.val] at hp
  simp only
  clear h
  go_enter Tryz.func49, Tryz.ntmps49
  go_wp2_with fail
  refine hp.mono ?_
  rintro x w1 ⟨rfl, hb1⟩
  have hE1 := hE w1 g Tv Nv N (H.out.below hb1) hN
  have HB1 := Hid.mk7 hb1
  clear hp hb1
  go_wp2_with fail
  refine hE1.mono ?_
  rintro x w2 ⟨rfl, Nv2, M2, e2, o2, p2, S2⟩
  have B2 := (Below.alloc0 w2 (.cells #[.int .i64 (r N.length : Int)] 3)).trans ((Below.alloc0 _ (.cells #[.int .i64 28, .string ⟨#[]⟩, .string ⟨#[]⟩, .int .i64 0, .slice (some ⟨w2.heap.size, 0, none⟩) 1 1, .int .i64 ta] 47)).mono (by simp))
  have p3 := p2.below B2
  have kk : KidOk (w2.alloc (.cells #[.int .i64 (r N.length : Int)] 3)) g Nv2 (.slice (some ⟨w2.heap.size, 0, none⟩) 1 1) [(r N.length : Int)] := ⟨SlI.one w2 _ _, fun k hk => by
    have hk : w2.heap.size = k := hk
    subst hk
    exact ⟨by have := p2.lt; omega, fun e => by have := p2.own.blk_lt _ e; omega, by simp⟩⟩
  have k3 := kk.below (Below.alloc0 _ (.cells #[.int .i64 28, .string ⟨#[]⟩, .string ⟨#[]⟩, .int .i64 0, .slice (some ⟨w2.heap.size, 0, none⟩) 1 1, .int .i64 ta] 47))
  have hM2 : M2.length = (M N.length).length := by have := congrArg List.length e2; simpa using this
  have hMl := hM N.length
  have ha := fun W (hW : Below _ _ W) => ps_add (p3.below hW) hT ⟨28, ⟨#[]⟩, ⟨#[]⟩, 0, .slice (some ⟨w2.heap.size, 0, none⟩) 1 1, [(r N.length : Int)], ta⟩ (k3.below hW) (by simp; omega)
  have c0 := p2.c0
  have c1 := p2.c1.1
  rw [hTv] at c0
  have hgl := p2.lt
  have hge : decide ((T.length : Int) < (T.length : Int)) = false := by simp
  have hz2 := S2.t.size
  have hz1 := HB1.out.size
  have H2 := Hid.mk7 (And.intro e2 (And.intro o2 (((Stp.ofB HB1.out).trans S2).trans (Stp.ofB B2))))
  clear hE1 e2 o2 p2 S2 B2 p3 kk k3
  go_wp2_with fail
  refine wp_loop_rounds 1 ?_
  rw [rounds_succ]
  go_wp2_with fail
  go_region
  go_wp2_with fail
  refine (ha _ (Below.refl _ _).drew).mono ?_
  rintro x w4 ⟨rfl, Nv4, p4, S4⟩
  have H4 := Hid.mk7 (And.intro p4 ((Stp.ofB (Below.refl _ _).drew).trans S4))
  clear p4 S4 ha c0 c1
  go_wp2
  go_ret
  refine ⟨by simp, Nv4, M2 ++ [⟨28, ⟨#[]⟩, ⟨#[]⟩, 0, .slice (some ⟨w2.heap.size, 0, none⟩) 1 1, [(r N.length : Int)], ta⟩], by simp [H2.out.1, Nd.sh], fun n hn q hq => ?_, by simpa [List.append_assoc] using H4.out.1, H2.out.2.2.trans H4.out.2⟩
  simp only [List.mem_append, List.mem_cons, List.not_mem_nil, or_false] at hn
  rcases hn with hn | rfl
  · exact Nat.le_trans hz1 (H2.out.2.1 n hn q hq)
  · have hq : w2.heap.size = q := hq
    omega
end Go.Proofs.YtlgkjjbefoeabaaGreatDoor
namespace Go.Proofs.YtlgkjjbefoeabaaGreatDoor
open Go.RowKit

set_option maxRecDepth 100000 in
/-- Behind a run without a panic the deferred call does nothing. -/
theorem ps_idle (a b c : Value) (w : World) : CallsD Tryz.prog 47 #[a, b, c] .returning w fun e u' w' => e = .returned (.tuple #[]) ∧ u' = .returning ∧ w' = w := by
  refine callsD_of_wpS Tryz.func47 rfl fun c₀ cs hu => ?_
  apply wpS_seq
  apply wpS_region
  simp [wpOpsS, go_sem, recoverD, hu, Tryz.ntmps47, Exit.thenS]
  apply wpS_seq
  apply wpS_region
  simp [wpOpsS, go_sem, Array.replicate, Exit.thenS]
  refine wpS_cond (t := false) (by simp [Act.eval]) ?_
  simp only [Bool.false_eq_true, if_false]
  refine wpS_of_wp (wp_skip ?_)
  cases c₀
  simp_all [bodyPostS, results, Tryz.results47]
/-- Nodes in memory. -/
structure NodesAt (w : World) (Nv : Value) (N : List Nd) : Prop where
  own : OwnK 6 w Nv N.length (nds N)
  kid : ∀ j (h : j < N.length), SlI w N[j].kv N[j].kids
  off : ∀ j (h : j < N.length) k, blk N[j].kv k → ¬ blk Nv k
theorem PAt.nodes {w : World} {g : Nat} {Tv : Value} {T : List Tk} {i : Nat} {Nv : Value} {N : List Nd} (h : PAt w g Tv T i Nv N) : NodesAt w Nv N := ⟨h.own, fun j hj => (h.kid j hj).1, fun j hj k hk => ((h.kid j hj).2 k hk).2.1⟩
theorem NodesAt.turned {S : Nat → Prop} {w w' : World} {Nv : Value} {N : List Nd} (h : NodesAt w Nv N) (T : Turned S w w') (hn : ∀ k, blk Nv k → ¬ S k) (hk : ∀ j (h : j < N.length) k, blk N[j].kv k → ¬ S k) : NodesAt w' Nv N := ⟨h.own.turned T hn, fun j hj => SlK.turned (h.kid j hj) T (hk j hj), h.off⟩
/-- A cell that may be written. -/
def Cl (w : World) (k : Nat) (v : Value) : Prop := w.cell? ⟨k, 0, none⟩ = some v ∧ w.frozen? ⟨k, 0, none⟩ = false
theorem Cl.new (w : World) (v : Value) (t : TypeId) : Cl (w.alloc (.cells #[v] t)) w.heap.size v := ⟨by simp, by rw [World.frozen?_alloc_new]⟩
theorem Cl.turned {S : Nat → Prop} {w w' : World} {k : Nat} {v : Value} (h : Cl w k v) (T : Turned S w w') (hs : ¬ S k) : Cl w' k v := ⟨T.cell h.1 hs, by rw [T.frozen (p := ⟨k, 0, none⟩) (World.block_lt_of_cell? w _ h.1) hs]; exact h.2⟩
theorem Cl.alloc {w : World} {k : Nat} {v : Value} (h : Cl w k v) (o : Obj) : Cl (w.alloc o) k v := h.turned (Turned.alloc (fun _ => False) w o) (fun e => e)
/-- A parser that was just made. -/
theorem PAt.start {w : World} {aT : Option Addr} {cT : Nat} {T : List Tk} (hT : 0 < T.length) (hT2 : T.length ≤ 65536) (h : SlK 4 w (.slice aT T.length cT) T.length (toks T)) : PAt (w.alloc (.cells #[.slice aT T.length cT, .int .i64 0, .slice none 0 0] 89)) w.heap.size (.slice aT T.length cT) T 0 (.slice none 0 0) [] :=
  ⟨by simp, ⟨by simp, by rw [World.frozen?_alloc_new]⟩, ⟨by simp, by rw [World.frozen?_alloc_new]⟩, h.turned (Turned.alloc (fun _ => False) _ _) (fun _ _ e => e), fun k hk => ⟨by have := h.blk_lt (by omega) hT k hk; omega, fun e => e⟩, OwnK.nil 6 _, fun e => e, fun j hj => absurd hj (Nat.not_lt_zero j), Nat.zero_le _, hT2⟩
set_option maxRecDepth 100000 in
set_option maxHeartbeats 3200000 in
theorem ps_grow (T : List Tk) (hT : 0 < T.length) (hT2 : T.length ≤ 65536) (M : Nat → List Sh) (r : Nat → Nat) (hE : Phrase 0 49 [] T 0 T.length M r) {w : World} {Tv : Value} (htok : SlK 4 w Tv T.length (toks T)) :
    Calls Tryz.prog 19 #[Tv] w fun x w' => ∃ Nv N, x = .returned (.tuple #[Nv, .int .i64 (r 0 : Nat), .nilIface]) ∧ N.map Nd.sh = M 0 ∧ NodesAt w' Nv N ∧ Below w.heap.size w w' := by
  have hmf := Tryz.makeFn
  obtain ⟨aT, cT, hTv, _⟩ := htok.form
  subst hTv
  have HT := Hid.mk7 htok
  have hbT := htok.blk_lt (by omega) hT
  go_enter_defers Tryz.func19, Tryz.ntmps19
  go_wp2_with fail
  have B3 := ((Below.alloc0 w (.cells #[.slice none 0 0] 28)).trans ((Below.alloc0 _ (.cells #[.int .i64 0] 3)).mono (by simp))).trans ((Below.alloc0 _ (.cells #[.nilIface] 30)).mono (by simp; omega))
  have tok3 := HT.out.turned (Turned.ofBelow (S := fun _ => False) B3) (fun _ _ e => e)
  have p4 := PAt.start hT hT2 tok3
  simp only [World.size_alloc] at p4
  have hE4 := hE _ _ _ _ _ p4 (Nat.le_refl _)
  simp only [List.length_nil] at hE4
  refine hE4.mono ?_
  rintro x w5 ⟨rfl, Nv5, M5, e5, o5, p5, S5⟩
  rw [List.nil_append] at p5
  have l2 := (((Cl.new w (.slice none 0 0) 28).alloc (.cells #[.int .i64 0] 3)).alloc (.cells #[.nilIface] 30)).alloc (.cells #[.slice aT T.length cT, .int .i64 0, .slice none 0 0] 89)
  have l3 := ((Cl.new (w.alloc (.cells #[.slice none 0 0] 28)) (.int .i64 0) 3).alloc (.cells #[.nilIface] 30)).alloc (.cells #[.slice aT T.length cT, .int .i64 0, .slice none 0 0] 89)
  have l4 := (Cl.new ((w.alloc (.cells #[.slice none 0 0] 28)).alloc (.cells #[.int .i64 0] 3)) .nilIface 30).alloc (.cells #[.slice aT T.length cT, .int .i64 0, .slice none 0 0] 89)
  simp only [World.size_alloc] at l3 l4
  obtain ⟨q2, f2⟩ := l2.turned S5.t (fun e => e.elim (fun e => by omega) (fun e => e))
  obtain ⟨q3, f3⟩ := l3.turned S5.t (fun e => e.elim (fun e => by omega) (fun e => e))
  obtain ⟨q4, f4⟩ := l4.turned S5.t (fun e => e.elim (fun e => by omega) (fun e => e))
  have c2 := p5.c2.1
  obtain ⟨aN, cN, hNv, _⟩ := p5.own.sl.form
  subst hNv
  have H5 := Hid.mk7 (And.intro e5 (And.intro o5 (And.intro p5 S5)))
  clear hE4 p4 tok3 e5 o5 p5 S5 l2 l3 l4
  go_wp2_with fail
  go_region
  go_wp2
  have Ta := Turned.set1 w5 (w.heap.size + 1) 0 (.int .i64 (r 0 : Int))
  have Tb := Turned.set1 (w5.setCell ⟨w.heap.size + 1, 0, none⟩ (.int .i64 (r 0 : Int))) w.heap.size 0 (.slice aN M5.length cN)
  have Tc := Turned.set1 ((w5.setCell ⟨w.heap.size + 1, 0, none⟩ (.int .i64 (r 0 : Int))).setCell ⟨w.heap.size, 0, none⟩ (.slice aN M5.length cN)) (w.heap.size + 1) 0 (.int .i64 (r 0 : Int))
  have Td := Turned.set1 (((w5.setCell ⟨w.heap.size + 1, 0, none⟩ (.int .i64 (r 0 : Int))).setCell ⟨w.heap.size, 0, none⟩ (.slice aN M5.length cN)).setCell ⟨w.heap.size + 1, 0, none⟩ (.int .i64 (r 0 : Int))) (w.heap.size + 1 + 1) 0 .nilIface
  have y2 := World.cell?_setCell_same (w5.setCell ⟨w.heap.size + 1, 0, none⟩ (.int .i64 (r 0 : Int))) ⟨w.heap.size, 0, none⟩ (.slice aN M5.length cN) (Ta.cell q2 (fun e => by have e : w.heap.size = w.heap.size + 1 := e; omega))
  have z2 := Td.cell (Tc.cell y2 (fun e => by have e : w.heap.size = w.heap.size + 1 := e; omega)) (fun e => by have e : w.heap.size = w.heap.size + 1 + 1 := e; omega)
  have x3 := World.cell?_setCell_same w5 ⟨w.heap.size + 1, 0, none⟩ (.int .i64 (r 0 : Int)) q3
  have y3 := World.cell?_setCell_same _ ⟨w.heap.size + 1, 0, none⟩ (.int .i64 (r 0 : Int)) (Tb.cell x3 (fun e => by have e : w.heap.size + 1 = w.heap.size := e; omega))
  have z3 := Td.cell y3 (fun e => by have e : w.heap.size + 1 = w.heap.size + 1 + 1 := e; omega)
  have z4 := World.cell?_setCell_same _ ⟨w.heap.size + 1 + 1, 0, none⟩ .nilIface (Tc.cell (Tb.cell (Ta.cell q4 (fun e => by have e : w.heap.size + 1 + 1 = w.heap.size + 1 := e; omega)) (fun e => by have e : w.heap.size + 1 + 1 = w.heap.size := e; omega)) (fun e => by have e : w.heap.size + 1 + 1 = w.heap.size + 1 := e; omega))
  have TT : Turned (fun k => k = w.heap.size ∨ k = w.heap.size + 1 ∨ k = w.heap.size + 1 + 1) w5 _ := (((Ta.mono (fun _ e => .inl (.inr (.inl e)))).trans Tb (fun _ e => .inl (.inl e))).trans Tc (fun _ e => .inl (.inr (.inl e)))).trans Td (fun _ e => .inl (.inr (.inr e)))
  have HF := Hid.mk7 TT
  clear Ta Tb Tc Td y2 x3 y3 TT q2 q3 q4 f2 f3 f4 c2
  generalize (((w5.setCell ⟨w.heap.size + 1, 0, none⟩ (.int .i64 (r 0 : Int))).setCell ⟨w.heap.size, 0, none⟩ (.slice aN M5.length cN)).setCell ⟨w.heap.size + 1, 0, none⟩ (.int .i64 (r 0 : Int))).setCell ⟨w.heap.size + 1 + 1, 0, none⟩ .nilIface = w9 at HF z2 z3 z4 ⊢
  refine leaves_cons (f := 47) (args := #[.pointer (some ⟨w.heap.size, 0, none⟩), .pointer (some ⟨w.heap.size + 1, 0, none⟩), .pointer (some ⟨w.heap.size + 1 + 1, 0, none⟩)]) (by simp) (by simp [go_sem]) ?_
  refine (ps_idle _ _ _ _).mono ?_
  rintro e u' w'' ⟨rfl, rfl, rfl⟩
  simp [Leaves, settle, results, Tryz.results19, go_sem, z2, z3, z4]
  obtain ⟨e5, o5, p5, S5⟩ := H5.out
  have b4 := B3.trans ((Below.alloc0 _ (.cells #[.slice aT T.length cT, .int .i64 0, .slice none 0 0] 89)).mono B3.size)
  have b5 := b4.trans (S5.t.below b4.size (fun k e => e.elim (fun e => by have e : k = w.heap.size + 1 + 1 + 1 := e; omega) (fun e => e.elim)))
  have b9 := b5.trans (HF.out.below b5.size (fun k e => by have e : k = w.heap.size ∨ k = w.heap.size + 1 ∨ k = w.heap.size + 1 + 1 := e; omega))
  refine ⟨M5, e5, (p5.nodes.turned HF.out (fun k hk e => ?_) (fun j hj k hk e => ?_)).turned (Turned.drew (fun _ => False) _) (fun _ _ e => e) (fun _ _ _ _ e => e), b9.drew⟩
  · have e : k = w.heap.size ∨ k = w.heap.size + 1 ∨ k = w.heap.size + 1 + 1 := e
    have := (S5.n k hk).elim (fun e => e.elim) id
    simp at this
    omega
  · have e : k = w.heap.size ∨ k = w.heap.size + 1 ∨ k = w.heap.size + 1 + 1 := e
    have := o5 _ (List.getElem_mem hj) k hk
    simp at this
    omega
end Go.Proofs.YtlgkjjbefoeabaaGreatDoor
namespace Go.Proofs.YtlgkjjbefoeabaaGreatDoor
open Go.RowKit

/-- Marks the numbers that are such. -/
def markL (p : Int → Bool) : List Int → List Bool → List Bool
  | [], m => m
  | k :: ks, m => markL p ks (if p k then m.set k.toNat true else m)
def lowB (i : Int) (k : Int) : Bool := decide (0 ≤ k ∧ k < i)
/-- From the highest down, marks the Kids of what is marked. -/
def downS (kids : Nat → List Int) : Nat → List Bool → List Bool
  | 0, m => m
  | i + 1, m => downS kids i (if (m[i]?).getD false then markL (lowB i) (kids i) m else m)
/-- Which places are marked. -/
def marked : Nat → List Bool → List Int
  | _, [] => []
  | i, b :: r => if b then (i : Int) :: marked (i + 1) r else marked (i + 1) r
/-- What is below some of n nodes. -/
def belowS (n : Nat) (kids : Nat → List Int) (roots : List Int) : List Int := marked 0 (downS kids n (markL (lowB n) roots (List.replicate n false)))

theorem markL_length (p : Int → Bool) : ∀ (l : List Int) (m : List Bool), (markL p l m).length = m.length
  | [], _ => rfl
  | k :: ks, m => by rw [markL, markL_length p ks]; split <;> simp
theorem downS_length (kids : Nat → List Int) : ∀ (i : Nat) (m : List Bool), (downS kids i m).length = m.length
  | 0, _ => rfl
  | i + 1, m => by rw [downS, downS_length kids i]; split <;> simp [markL_length]
theorem marked_le : ∀ (l : List Bool) (i : Nat), (marked i l).length ≤ l.length
  | [], _ => Nat.le_refl _
  | b :: r, i => by
    have := marked_le r (i + 1)
    rw [marked]
    split <;> simp <;> omega
theorem belowS_le (n : Nat) (kids : Nat → List Int) (roots : List Int) : (belowS n kids roots).length ≤ n := by
  have := marked_le (downS kids n (markL (lowB n) roots (List.replicate n false))) 0
  rw [downS_length, markL_length, List.length_replicate] at this
  exact this
/-- Marks in a block of one's own. -/
structure MetAt (w : World) (g : Nat) (m : List Bool) : Prop where
  lt : g < w.heap.size
  c : ∀ j (h : j < m.length), w.cell? ⟨g, j, none⟩ = some (.bool m[j]) ∧ w.frozen? ⟨g, j, none⟩ = false
theorem MetAt.turned {S : Nat → Prop} {w w' : World} {g : Nat} {m : List Bool} (h : MetAt w g m) (T : Turned S w w') (hs : ¬ S g) : MetAt w' g m :=
  ⟨Nat.lt_of_lt_of_le h.lt T.size, fun j hj => ⟨T.cell (h.c j hj).1 hs, by rw [T.frozen (p := ⟨g, j, none⟩) h.lt hs]; exact (h.c j hj).2⟩⟩
theorem MetAt.set {w : World} {g : Nat} {m : List Bool} (h : MetAt w g m) (k : Nat) (hk : k < m.length) : MetAt (w.setCell ⟨g, k, none⟩ (.bool true)) g (m.set k true) := by
  refine ⟨by simp [World.setCell]; exact h.lt, fun j hj => ⟨?_, by rw [World.frozen?_setCell]; exact (h.c j (by simpa using hj)).2⟩⟩
  have hj' : j < m.length := by simpa using hj
  by_cases hkj : k = j
  · subst hkj
    rw [World.cell?_setCell_same _ _ _ (h.c k hk).1]
    simp
  · rw [World.cell?_setCell_other _ _ _ _ (by simp; try omega), (h.c j hj').1]
    simp [List.getElem_set_ne hkj]
/-- Numbers that a slice holds, wherever it lies. -/
def SlA (w : World) (v : Value) (l : List Int) : Prop := (∃ a cap, v = .slice a 0 cap ∧ l = []) ∨ ∃ g off cap, v = .slice (some ⟨g, off, none⟩) l.length cap ∧ l.length ≤ 4611686018427387903 ∧ ∀ j (h : j < l.length), w.cell? ⟨g, off + j, none⟩ = some (.int .i64 l[j])
theorem SlA.form {w : World} {v : Value} {l : List Int} (h : SlA w v l) : ∃ a cap, v = .slice a l.length cap ∧ l.length ≤ 4611686018427387903 := by
  rcases h with ⟨a, cap, rfl, rfl⟩ | ⟨g, off, cap, rfl, h2, _⟩
  · exact ⟨a, cap, rfl, by simp⟩
  · exact ⟨_, cap, rfl, h2⟩
theorem SlA.at {w : World} {a : Option Addr} {cap : Nat} {l : List Int} (h : SlA w (.slice a l.length cap) l) (j : Nat) (hj : j < l.length) : ∃ g off, a = some ⟨g, off, none⟩ ∧ w.cell? ⟨g, off + j, none⟩ = some (.int .i64 l[j]) := by
  rcases h with ⟨a', cap', _, rfl⟩ | ⟨g, off, cap', e, _, hc⟩
  · simp at hj
  · simp only [Value.slice.injEq, true_and] at e
    exact ⟨g, off, e.1, hc j hj⟩
theorem SlA.blk {w : World} {v : Value} {l : List Int} (h : SlA w v l) (hl : 0 < l.length) : ∀ k, Go.Proofs.YtlgkjjbefoeabaaGreatDoor.blk v k → k < w.heap.size := by
  rcases h with ⟨a, cap, rfl, rfl⟩ | ⟨g, off, cap, rfl, _, hc⟩
  · simp at hl
  · intro k hk
    exact (show g = k from hk) ▸ World.block_lt_of_cell? w _ (hc 0 hl)
theorem SlA.turned {S : Nat → Prop} {w w' : World} {v : Value} {l : List Int} (h : SlA w v l) (T : Turned S w w') (hs : 0 < l.length → ∀ k, Go.Proofs.YtlgkjjbefoeabaaGreatDoor.blk v k → ¬ S k) : SlA w' v l := by
  rcases h with h | ⟨g, off, cap, rfl, h2, hc⟩
  · exact .inl h
  · exact .inr ⟨g, off, cap, rfl, h2, fun j hj => T.cell (hc j hj) (hs (by omega) g rfl)⟩
theorem SlI.any {w : World} {v : Value} {l : List Int} (h : SlI w v l) (hl : l.length ≤ 4611686018427387903) : SlA w v l := by
  obtain ⟨_, ⟨rfl, h0⟩ | ⟨g, off, cap, rfl, _, _, hc⟩⟩ := h
  · exact .inl ⟨none, 0, rfl, List.eq_nil_of_length_eq_zero h0⟩
  · exact .inr ⟨g, off, cap, rfl, hl, fun j hj => by rw [hc j (by rw [ints_length]; exact hj)]; simp [ints]⟩
set_option maxRecDepth 100000 in
theorem ps_isLower (k i : Int) (w : World) : Calls Tryz.prog 79 #[.int .i64 k, .int .i64 i] w fun e w' => e = .returned (.bool (lowB i k)) ∧ w = w' := by
  go_enter Tryz.func79, Tryz.ntmps79
  go_wp2
  all_goals go_ret
  all_goals
    refine ⟨congrArg Ending.returned (congrArg Value.bool ?_), rfl⟩
    rw [Bool.eq_iff_iff]
    simp [lowB]
    try omega
set_option maxRecDepth 100000 in
theorem ps_isNode (a : Option Addr) (n cap : Nat) (k : Int) (w : World) : Calls Tryz.prog 50 #[.slice a n cap, .int .i64 k] w fun e w' => e = .returned (.bool (lowB n k)) ∧ w = w' := by
  go_enter Tryz.func50, Tryz.ntmps50
  go_wp2
  all_goals go_ret
  all_goals
    refine ⟨congrArg Ending.returned (congrArg Value.bool ?_), rfl⟩
    rw [Bool.eq_iff_iff]
    simp [lowB]
    try omega
end Go.Proofs.YtlgkjjbefoeabaaGreatDoor
namespace Go.Proofs.YtlgkjjbefoeabaaGreatDoor
open Go.RowKit

theorem make_one {P : Program} {t e : TypeId} {b : Nat} {z : Value} (hB : ElTypes P t e 1 b z) (hz1 : z.cells = #[z]) (w : World) (n : Nat) (h : b * n ≤ 281474976710656) (hn : n ≤ 4611686018427387903) : ∃ w1, (Instr.makeSlice t (.int .i64 (n : Int)) (.int .i64 (n : Int))).run P w = .ok (.slice (some ⟨w.heap.size, 0, none⟩) n n) w1 ∧ Below w.heap.size w w1 ∧ w.heap.size < w1.heap.size ∧ Block w1 w.heap.size n (fun _ => z) := by
  obtain ⟨i, hi, hz, hsz, hby⟩ := hB.info
  have hb' : (b : Int) * (n : Int) ≤ 281474976710656 := by
    have h : ((b * n : Nat) : Int) ≤ 281474976710656 := by omega
    rwa [Int.natCast_mul] at h
  have hr := run_make (P := P) w t e i z hB.slice hi hz .i64 .i64 n n (by omega) (by omega) (by rw [hby]; exact hb') (by omega)
  rw [Int.toNat_natCast, hsz, Nat.mul_one] at hr
  refine ⟨_, hr, Below.alloc0 w _, by simp, fun j hj => ⟨?_, by rw [World.frozen?_alloc_new]⟩⟩
  rw [World.cell?_alloc_at _ _ _ _ rfl]
  have hj' : j < (madeCells z.cells n).size := by rw [size_madeCells]; exact hj
  rw [Array.getElem?_eq_getElem hj']
  simp [madeCells, hz1, Nat.mod_one]
theorem Tryz.boolTypes : ElTypes Tryz.prog 90 4 1 1 (.bool false) := by
  refine ⟨Tryz.underlying90, ?_, by simp [Value.cells]⟩
  have h : (Tryz.prog.info? 4).map (fun i => (i.zero, i.size, i.bytes)) = some (some (.bool false), 1, 1) := by kernel_rfl
  obtain ⟨i, hi, h0, h1, h2⟩ := info_parts h
  exact ⟨i, hi, h0, h1, h2⟩
theorem markL_drop (p : Int → Bool) (l : List Int) (j : Nat) (hj : j < l.length) (m : List Bool) : markL p (l.drop j) m = markL p (l.drop (j + 1)) (if p l[j] then m.set l[j].toNat true else m) := by
  rw [List.drop_eq_getElem_cons hj, markL]
set_option maxRecDepth 100000 in
set_option maxHeartbeats 1600000 in
theorem ps_meet {w : World} {g : Nat} {m : List Bool} (hm : MetAt w g m) {v : Value} {l : List Int} (hl : SlA w v l) (hg : 0 < l.length → ∀ k, blk v k → k ≠ g) (i : Nat) (hi : i ≤ m.length) : Calls Tryz.prog 51 #[.slice (some ⟨g, 0, none⟩) m.length m.length, v, .int .i64 i] w fun x w' => x = .returned (.tuple #[]) ∧ MetAt w' g (markL (lowB i) l m) ∧ Turned (fun k => k = g) w w' := by
  obtain ⟨a, cap, hv, hll⟩ := hl.form
  subst hv
  have HL := Hid.mk7 hl
  have HG := Hid.mk7 hg
  have HM := Hid.mk7 hm
  clear hl hg hm
  go_enter Tryz.func51, Tryz.ntmps51
  go_wp2_with fail
  go_loopw [10] (fun ix wr => ∃ (j : Nat) (mr : List Bool), j ≤ l.length ∧ ix = .int .i64 j ∧ mr.length = m.length ∧ markL (lowB i) (l.drop j) mr = markL (lowB i) l m ∧ MetAt wr g mr ∧ Turned (fun k => k = g) w wr) (fun ix _ => l.length - (intOf ix).toNat)
  case atStart => exact ⟨0, m, Nat.zero_le _, rfl, rfl, rfl, HM.out, Turned.refl _ _⟩
  case round =>
    obtain ⟨j, mr, hj, rfl, hlen, hrest, hmr, ht⟩ := hrel
    have H := Hid.mk7 (And.intro hrest (And.intro hmr ht))
    by_cases hlt : j < l.length
    · have hji : (j : Int) < (l.length : Int) := by omega
      obtain ⟨b, off, rfl, hc⟩ := (HL.out.turned ht (fun h0 k hk e => HG.out h0 k hk e)).at j hlt
      have hlow := ps_isLower l[j] i
      have hstep := markL_drop (lowB i) l j hlt mr
      cases hb : lowB i l[j] with
      | true =>
        simp only [hb] at hlow hstep
        have hx : 0 ≤ l[j] ∧ l[j] < (i : Int) := by simpa [lowB] using hb
        obtain ⟨q, hq⟩ : ∃ q : Nat, l[j] = (q : Int) := ⟨l[j].toNat, by omega⟩
        have hqi : q < mr.length := by omega
        have hqi' : (q : Int) < (m.length : Int) := by omega
        obtain ⟨cq, fq⟩ := hmr.c q hqi
        rw [hq] at hc hlow
        have HN := Hid.mk7 (And.intro (show markL (lowB i) (l.drop (j + 1)) (mr.set q true) = markL (lowB i) l m by rw [← hrest, hstep, hq]; simp) (And.intro (hmr.set q hqi) (ht.trans (Turned.set1 _ g q (.bool true)) (fun _ e => .inl e))))
        clear hrest hmr ht hstep hb hx H
        go_wp2_with (go_at_call 79; refine (hlow _).mono ?_; rintro e w1 ⟨rfl, rfl⟩)
        go_roundw
        case rel => exact ⟨j + 1, mr.set q true, by omega, by go_num, by simpa using hlen, HN.out.1, HN.out.2.1, HN.out.2.2⟩
        case measure => simp [intOf]; omega
      | false =>
        simp only [hb] at hlow hstep
        have HN := Hid.mk7 (And.intro (show markL (lowB i) (l.drop (j + 1)) mr = markL (lowB i) l m by rw [← hrest, hstep]; simp) (And.intro hmr ht))
        clear hrest hmr ht hstep hb H
        go_wp2_with (go_at_call 79; refine (hlow _).mono ?_; rintro e w1 ⟨rfl, rfl⟩)
        go_roundw
        case rel => exact ⟨j + 1, mr, by omega, by go_num, hlen, HN.out.1, HN.out.2.1, HN.out.2.2⟩
        case measure => simp [intOf]; omega
    · have hge : ¬ (j : Int) < (l.length : Int) := by omega
      have he : mr = markL (lowB i) l m := by rw [← hrest, List.drop_of_length_le (by omega)]; rfl
      clear hrest hmr ht
      go_wp2
      go_end0
      exact ⟨rfl, he ▸ H.out.2.1, H.out.2.2⟩
/-- Nodes as an argument: their Kids. -/
def NArg (w : World) (v : Value) (K : List (Value × List Int)) : Prop := (∃ a cap, v = .slice a 0 cap ∧ K = []) ∨ ∃ b off cap, v = .slice (some ⟨b, off, none⟩) K.length cap ∧ ∀ j (h : j < K.length), w.cell? ⟨b, off + j * 6 + 4, none⟩ = some K[j].1 ∧ SlA w K[j].1 K[j].2
theorem NArg.form {w : World} {v : Value} {K : List (Value × List Int)} (h : NArg w v K) : ∃ a cap, v = .slice a K.length cap := by
  rcases h with ⟨a, cap, rfl, rfl⟩ | ⟨b, off, cap, rfl, _⟩
  · exact ⟨a, cap, rfl⟩
  · exact ⟨_, cap, rfl⟩
theorem NArg.at {w : World} {a : Option Addr} {cap : Nat} {K : List (Value × List Int)} (h : NArg w (.slice a K.length cap) K) (j : Nat) (hj : j < K.length) : ∃ b off, a = some ⟨b, off, none⟩ ∧ w.cell? ⟨b, off + j * 6 + 4, none⟩ = some K[j].1 ∧ SlA w K[j].1 K[j].2 := by
  rcases h with ⟨a', cap', _, rfl⟩ | ⟨b, off, cap', e, hc⟩
  · simp at hj
  · simp only [Value.slice.injEq, true_and] at e
    exact ⟨b, off, e.1, hc j hj⟩
theorem SlA.below {w w' : World} {v : Value} {l : List Int} (h : SlA w v l) (hb : Below w.heap.size w w') : SlA w' v l := h.turned (Turned.ofBelow (S := fun _ => False) hb) (fun _ _ _ e => e)
theorem NArg.below {w w' : World} {v : Value} {K : List (Value × List Int)} (h : NArg w v K) (hb : Below w.heap.size w w') : NArg w' v K := by
  rcases h with h | ⟨b, off, cap, rfl, hc⟩
  · exact .inl h
  · exact .inr ⟨b, off, cap, rfl, fun j hj => ⟨(hb.cell (p := ⟨b, off + j * 6 + 4, none⟩) (World.block_lt_of_cell? w _ (hc j hj).1)).trans (hc j hj).1, (hc j hj).2.below hb⟩⟩
/-- The Kids of a node. -/
def kidsOf (K : List (Value × List Int)) (i : Nat) : List Int := ((K[i]?).map (·.2)).getD []
theorem kidsOf_at (K : List (Value × List Int)) (i : Nat) (h : i < K.length) : kidsOf K i = K[i].2 := by simp [kidsOf, h]
theorem MetAt.new {w : World} {g n : Nat} (h : Block w g n (fun _ => .bool false)) (hl : g < w.heap.size) : MetAt w g (List.replicate n false) := ⟨hl, fun j hj => by
  have := h j (by simpa using hj)
  simpa using this⟩
theorem Turned.toBelow {w wr w' : World} {g : Nat} (hb : Below w.heap.size w wr) (T : Turned (fun k => k = g) wr w') (hg : w.heap.size ≤ g) : Below w.heap.size w w' := hb.trans (T.below hb.size (fun _ e => by have e := e; subst e; exact hg))
theorem marked_drop (m : List Bool) (j : Nat) (hj : j < m.length) : marked j (m.drop j) = (if m[j] then [(j : Int)] else []) ++ marked (j + 1) (m.drop (j + 1)) := by
  rw [List.drop_eq_getElem_cons hj, marked]
  split <;> simp
set_option maxRecDepth 100000 in
set_option maxHeartbeats 6400000 in
theorem ps_Below {w : World} {lv rv : Value} {K : List (Value × List Int)} {roots : List Int} (hL : NArg w lv K) (hR : SlA w rv roots) (hK : K.length ≤ 2199023255552) :
    Calls Tryz.prog 21 #[lv, rv] w fun x w' => ∃ V, x = .returned V ∧ OwnI w' V (belowS K.length (kidsOf K) roots) ∧ Below w.heap.size w w' ∧ ∀ k, blk V k → w.heap.size ≤ k := by
  obtain ⟨aL, cL, hlv⟩ := hL.form
  subst hlv
  obtain ⟨aR, cR, hrv, hrl⟩ := hR.form
  subst hrv
  have HL := Hid.mk7 hL
  have HR := Hid.mk7 hR
  obtain ⟨w1, hmk, hb1, hz1, hB1⟩ := make_one Tryz.boolTypes (by simp [Value.cells]) w K.length (by omega) (by omega)
  have HM := Hid.mk7 (And.intro hb1 (And.intro hz1 (MetAt.new hB1 hz1)))
  clear hL hR hb1 hz1 hB1
  go_enter Tryz.func21, Tryz.ntmps21
  go_wp2_with fail
  go_loopw [17] (fun ix wr => ∃ (j : Nat) (mr : List Bool), j ≤ roots.length ∧ ix = .int .i64 j ∧ mr.length = K.length ∧ markL (lowB K.length) (roots.drop j) mr = markL (lowB K.length) roots (List.replicate K.length false) ∧ MetAt wr w.heap.size mr ∧ Below w.heap.size w wr) (fun ix _ => roots.length - (intOf ix).toNat)
  case atStart => exact ⟨0, _, Nat.zero_le _, rfl, by simp, rfl, HM.out.2.2, HM.out.1⟩
  case round =>
    obtain ⟨j, mr, hj, rfl, hlen, hrest, hmr, hb⟩ := hrel
    by_cases hlt : j < roots.length
    · have hji : (j : Int) < (roots.length : Int) := by omega
      obtain ⟨b, off, rfl, hc⟩ := (HR.out.below hb).at j hlt
      have hlow := ps_isNode aL K.length cL roots[j]
      have hstep := markL_drop (lowB K.length) roots j hlt mr
      cases hbb : lowB K.length roots[j] with
      | true =>
        simp only [hbb] at hlow hstep
        have hx : 0 ≤ roots[j] ∧ roots[j] < (K.length : Int) := by simpa [lowB] using hbb
        obtain ⟨q, hq⟩ : ∃ q : Nat, roots[j] = (q : Int) := ⟨roots[j].toNat, by omega⟩
        have hqi : q < mr.length := by omega
        have hqi' : (q : Int) < (K.length : Int) := by omega
        obtain ⟨cq, fq⟩ := hmr.c q hqi
        rw [hq] at hc hlow
        have HN := Hid.mk7 (And.intro (show markL (lowB K.length) (roots.drop (j + 1)) (mr.set q true) = markL (lowB K.length) roots (List.replicate K.length false) by rw [← hrest, hstep, hq]; simp) (And.intro (hmr.set q hqi) (Turned.toBelow hb (Turned.set1 _ w.heap.size q (.bool true)) (Nat.le_refl _))))
        clear hrest hmr hb hstep hbb hx
        go_wp2_with (go_at_call 50; refine (hlow _).mono ?_; rintro e w1 ⟨rfl, rfl⟩)
        go_roundw
        case rel => exact ⟨j + 1, mr.set q true, by omega, by go_num, by simpa using hlen, HN.out.1, HN.out.2.1, HN.out.2.2⟩
        case measure => simp [intOf]; omega
      | false =>
        simp only [hbb] at hlow hstep
        have HN := Hid.mk7 (And.intro (show markL (lowB K.length) (roots.drop (j + 1)) mr = markL (lowB K.length) roots (List.replicate K.length false) by rw [← hrest, hstep]; simp) (And.intro hmr hb))
        clear hrest hmr hb hstep hbb
        go_wp2_with (go_at_call 50; refine (hlow _).mono ?_; rintro e w1 ⟨rfl, rfl⟩)
        go_roundw
        case rel => exact ⟨j + 1, mr, by omega, by go_num, hlen, HN.out.1, HN.out.2.1, HN.out.2.2⟩
        case measure => simp [intOf]; omega
    · have hge : ¬ (j : Int) < (roots.length : Int) := by omega
      have he : mr = markL (lowB K.length) roots (List.replicate K.length false) := by rw [← hrest, List.drop_of_length_le (by omega)]; rfl
      have HD : Hid (belowS K.length (kidsOf K) roots = marked 0 (downS (kidsOf K) K.length mr)) := by rw [he]; exact rfl
      have H1 := Hid.mk7 (And.intro hmr hb)
      clear hrest he hmr hb HM hmk
      go_wp2_with fail
      clear hge hlt hj
      go_loopw [8] (fun ix wr => ∃ (j : Nat) (mr : List Bool), j ≤ K.length ∧ ix = .int .i64 ((j : Int) - 1) ∧ mr.length = K.length ∧ marked 0 (downS (kidsOf K) j mr) = belowS K.length (kidsOf K) roots ∧ MetAt wr w.heap.size mr ∧ Below w.heap.size w wr) (fun ix _ => (intOf ix + 1).toNat)
      case atStart => exact ⟨K.length, mr, Nat.le_refl _, rfl, hlen, HD.out.symm, H1.out.1, H1.out.2⟩
      case round =>
        clear HD H1 hlen
        obtain ⟨j2, m2, hj2, rfl, hlen2, hrest2, hm2, hb2⟩ := hrel
        cases j2 with
        | succ i =>
          have ei : ((i + 1 : Nat) : Int) - 1 = (i : Int) := by omega
          rw [ei]
          have hin : i < K.length := by omega
          have hini : (i : Int) < (K.length : Int) := by omega
          have him : i < m2.length := by omega
          have hpos : (0 : Int) ≤ (i : Int) := by omega
          obtain ⟨cm, fm⟩ := hm2.c i him
          rw [downS] at hrest2
          have egd : (m2[i]?).getD false = m2[i] := by simp [him]
          rw [egd] at hrest2
          cases hmi : m2[i] with
          | false =>
            rw [hmi] at cm hrest2
            have HN := Hid.mk7 (And.intro (show marked 0 (downS (kidsOf K) i m2) = _ from by simpa using hrest2) (And.intro hm2 hb2))
            clear hrest2 hm2 hb2 egd hmi
            go_wp2
            go_roundw
            case rel => exact ⟨i, m2, by omega, by go_num, hlen2, HN.out.1, HN.out.2.1, HN.out.2.2⟩
            case measure => simp [intOf]
          | true =>
            rw [hmi] at cm hrest2
            obtain ⟨b, off, rfl, hck, hsk⟩ := (HL.out.below hb2).at i hin
            obtain ⟨ak, ck, hkv, _⟩ := hsk.form
            have hoff : 0 < K[i].2.length → ∀ k, blk K[i].1 k → k ≠ w.heap.size := fun h0 k hk e => by
              obtain ⟨_, _, _, _, hs0⟩ := HL.out.at i hin
              have := hs0.blk h0 k hk
              omega
            have hmt := ps_meet hm2 hsk hoff i (by omega)
            rw [hlen2] at hmt
            have hbl : b < (w.heap.size) := by
              obtain ⟨b0, off0, e0, hc0, _⟩ := HL.out.at i hin
              simp only [Option.some.injEq, Addr.mk.injEq, and_true] at e0
              rw [e0.1]
              exact World.block_lt_of_cell? w _ hc0
            rw [kidsOf_at K i hin] at hrest2
            have HN := Hid.mk7 (And.intro (show marked 0 (downS (kidsOf K) i (markL (lowB i) K[i].2 m2)) = _ from by simpa using hrest2) hb2)
            clear hrest2 hm2 hb2 egd hmi hsk hoff
            generalize hkd : K[i].1 = kv at hck hkv hmt
            subst hkv
            go_wp2_with fail
            refine hmt.mono ?_
            rintro x w5 ⟨rfl, hm5, T5⟩
            have H5 := Hid.mk7 (And.intro hm5 (Turned.toBelow HN.out.2 T5 (Nat.le_refl _)))
            clear hm5 T5 hmt hck cm fm
            go_wp2
            go_roundw
            case rel => exact ⟨i, markL (lowB i) K[i].2 m2, by omega, by go_num, by rw [markL_length]; exact hlen2, HN.out.1, H5.out.1, H5.out.2⟩
            case measure => simp [intOf]
        | zero =>
          have hneg : ¬ (0 : Int) ≤ (((0 : Nat) : Int) - 1) := by omega
          have HD2 := Hid.mk7 hrest2
          have H2 := Hid.mk7 (And.intro hm2 hb2)
          clear hrest2 hm2 hb2
          go_wp2_with fail
          clear hneg
          go_loopw [9, 49] (fun V ix wr => ∃ (j : Nat) (acc : List Int), j ≤ K.length ∧ ix = .int .i64 j ∧ acc.length ≤ j ∧ acc ++ marked j (m2.drop j) = belowS K.length (kidsOf K) roots ∧ OwnI wr V acc ∧ (∀ k, blk V k → w.heap.size < k) ∧ MetAt wr w.heap.size m2 ∧ Below w.heap.size w wr) (fun _ ix _ => K.length - (intOf ix).toNat)
          case atStart => exact ⟨0, [], Nat.zero_le _, rfl, Nat.le_refl _, HD2.out, OwnK.nil 1 _, fun _ e => e.elim, H2.out.1, H2.out.2⟩
          case round =>
            clear HD2 H2
            obtain ⟨j3, acc, hj3, rfl, hal, hrest3, ho3, hof3, hm3, hb3⟩ := hrel
            obtain ⟨aV, cV, hV, _⟩ := OwnK.sl ho3 |>.form
            subst hV
            by_cases hlt : j3 < K.length
            · have hji : (j3 : Int) < (K.length : Int) := by omega
              have him : j3 < m2.length := by omega
              obtain ⟨cm, fm⟩ := hm3.c j3 him
              rw [marked_drop m2 j3 him] at hrest3
              cases hmi : m2[j3] with
              | false =>
                rw [hmi] at cm hrest3
                have HN := Hid.mk7 (And.intro (show acc ++ marked (j3 + 1) (m2.drop (j3 + 1)) = _ from by simpa using hrest3) (And.intro ho3 (And.intro hof3 (And.intro hm3 hb3))))
                clear hrest3 ho3 hof3 hm3 hb3 hmi
                go_wp2
                go_roundw
                case rel => exact ⟨j3 + 1, acc, by omega, by go_num, by omega, HN.out.1, HN.out.2.1, HN.out.2.2.1, HN.out.2.2.2.1, HN.out.2.2.2.2⟩
                case measure => simp [intOf]; omega
              | true =>
                rw [hmi] at cm hrest3
                have hfit : (acc.length + [(j3 : Int)].length) * 8 ≤ 140737488355328 := by simp; omega
                have hfit2 : acc.length + [(j3 : Int)].length ≤ 4611686018427387903 := by simp; omega
                have HN := Hid.mk7 (And.intro (show (acc ++ [(j3 : Int)]) ++ marked (j3 + 1) (m2.drop (j3 + 1)) = _ from by simpa using hrest3) (And.intro ho3 (And.intro hof3 (And.intro hm3 hb3))))
                clear hrest3 ho3 hof3 hm3 hb3 hmi
                go_wp2_with (at_builtin; refine wpList_append_k (by rfl) (.tmp 55) (.tmp 57) (by rfl) Tryz.intTypes (by rfl) (by rfl) (OwnK.turned HN.out.2.1 (Turned.alloc (fun _ => False) _ _) (fun _ _ e => e)) (SlI.one _ _ _) (ints_one _) hfit hfit2 ?_; intro V4 w4 ho4 T4 hv4)
                obtain ⟨e3, ho3, hof3, hm3, hb3⟩ := HN.out
                have hz3 := hb3.size
                have hmlt := hm3.lt
                have B4 := hb3.trans ((Below.alloc0 _ (.cells #[.int .i64 (j3 : Int)] 3)).mono hz3)
                have H4 := Hid.mk7 (And.intro (OwnI.snoc ho4) (And.intro (show ∀ k, blk V4 k → w.heap.size < k from fun k hk => (hv4 k hk).elim (hof3 k) (fun e => by simp at e; omega)) (And.intro ((hm3.turned (Turned.alloc (fun _ => False) _ (.cells #[.int .i64 (j3 : Int)] 3)) (fun e => e)).turned T4 (fun e => by have := hof3 _ e; omega)) (B4.trans (T4.below B4.size (fun k hk => Nat.le_of_lt (hof3 k hk)))))))
                clear ho4 T4 hv4 e3 ho3 hof3 hm3 hb3 B4
                go_wp2
                go_roundw
                case rel => exact ⟨j3 + 1, acc ++ [(j3 : Int)], by omega, by go_num, by simp; omega, HN.out.1, H4.out.1, H4.out.2.1, H4.out.2.2.1, H4.out.2.2.2⟩
                case measure => simp [intOf]; omega
            · have hge : ¬ (j3 : Int) < (K.length : Int) := by omega
              have he : acc = belowS K.length (kidsOf K) roots := by rw [← hrest3, List.drop_of_length_le (by omega)]; simp [marked]
              have HE := Hid.mk7 he
              have HN := Hid.mk7 (And.intro ho3 (And.intro hb3 hof3))
              clear hrest3 ho3 hof3 hm3 hb3 he
              go_wp2
              go_ret
              exact ⟨_, rfl, by rw [← HE.out]; exact HN.out.1, HN.out.2.1, fun k hk => Nat.le_of_lt (HN.out.2.2 k hk)⟩
end Go.Proofs.YtlgkjjbefoeabaaGreatDoor
namespace Go.Proofs.YtlgkjjbefoeabaaGreatDoor
open Go.RowKit

/-- The highest of some heights. -/
def highest (h : List Int) : List Int → Int → Int
  | [], x => x
  | k :: ks, x => highest h ks (max x ((h[k.toNat]?).getD 0))
/-- The heights of nodes, in their order. -/
def heightsS (kids : Nat → List Int) : List Int → List Int → List Int
  | [], h => h
  | i :: r, h => heightsS kids r (h.set i.toNat (highest h (kids i.toNat) 0 + 1))
theorem heightsS_length (kids : Nat → List Int) : ∀ (l h : List Int), (heightsS kids l h).length = h.length
  | [], _ => rfl
  | i :: r, h => by rw [heightsS, heightsS_length kids r]; simp
/-- Heights in a block of one's own. -/
structure HtAt (w : World) (g : Nat) (h : List Int) : Prop where
  lt : g < w.heap.size
  c : ∀ j (hj : j < h.length), w.cell? ⟨g, j, none⟩ = some (.int .i64 h[j]) ∧ w.frozen? ⟨g, j, none⟩ = false
theorem HtAt.set {w : World} {g : Nat} {h : List Int} (hh : HtAt w g h) (k : Nat) (hk : k < h.length) (x : Int) : HtAt (w.setCell ⟨g, k, none⟩ (.int .i64 x)) g (h.set k x) := by
  refine ⟨by simp [World.setCell]; exact hh.lt, fun j hj => ⟨?_, by rw [World.frozen?_setCell]; exact (hh.c j (by simpa using hj)).2⟩⟩
  have hj' : j < h.length := by simpa using hj
  by_cases hkj : k = j
  · subst hkj
    rw [World.cell?_setCell_same _ _ _ (hh.c k hk).1]
    simp
  · rw [World.cell?_setCell_other _ _ _ _ (by simp; try omega), (hh.c j hj').1]
    simp [List.getElem_set_ne hkj]
theorem HtAt.new {w : World} {g n : Nat} (h : Block w g n (fun _ => .int .i64 0)) (hl : g < w.heap.size) : HtAt w g (List.replicate n 0) := ⟨hl, fun j hj => by
  have := h j (by simpa using hj)
  simpa using this⟩
theorem highest_bounds (h : List Int) (B : Int) (hB : ∀ x ∈ h, 0 ≤ x ∧ x ≤ B) (hB0 : 0 ≤ B) : ∀ (l : List Int) (x : Int), 0 ≤ x → x ≤ B → 0 ≤ highest h l x ∧ highest h l x ≤ B
  | [], x, h0, h1 => ⟨h0, h1⟩
  | k :: ks, x, h0, h1 => by
    have hg : 0 ≤ (h[k.toNat]?).getD 0 ∧ (h[k.toNat]?).getD 0 ≤ B := by
      cases e : h[k.toNat]? with
      | none => simp; omega
      | some y => simp; exact hB y (List.mem_of_getElem? e)
    rw [highest]
    exact highest_bounds h B hB hB0 ks _ (by omega) (by omega)
theorem highest_drop (h l : List Int) (j : Nat) (hj : j < l.length) (x : Int) : highest h (l.drop j) x = highest h (l.drop (j + 1)) (max x ((h[l[j].toNat]?).getD 0)) := by
  rw [List.drop_eq_getElem_cons hj, highest]
theorem heightsS_drop (kids : Nat → List Int) (l : List Int) (j : Nat) (hj : j < l.length) (h : List Int) : heightsS kids (l.drop j) h = heightsS kids (l.drop (j + 1)) (h.set l[j].toNat (highest h (kids l[j].toNat) 0 + 1)) := by
  rw [List.drop_eq_getElem_cons hj, heightsS]
set_option maxRecDepth 100000 in
set_option maxHeartbeats 6400000 in
theorem ps_limit {w : World} {lv tv : Value} {K : List (Value × List Int)} {tree : List Int} (hL : NArg w lv K) (hR : SlA w tv tree) (hK : K.length ≤ 1099511627776) (hin : ∀ i ∈ tree, 0 ≤ i ∧ i < (K.length : Int)) (hkid : ∀ i < K.length, ∀ k ∈ kidsOf K i, 0 ≤ k ∧ k < (K.length : Int)) (ht : tree.length ≤ 65536) (t0 : 0 < tree.length) (hlast : ((heightsS (kidsOf K) tree (List.replicate K.length 0))[tree[tree.length - 1].toNat]?).getD 0 ≤ 500) :
    Calls Tryz.prog 20 #[lv, tv] w fun x w' => x = .returned .nilIface ∧ Below w.heap.size w w' := by
  obtain ⟨aL, cL, hlv⟩ := hL.form
  subst hlv
  obtain ⟨aR, cR, hrv, hrl⟩ := hR.form
  subst hrv
  have HL := Hid.mk7 hL
  have HR := Hid.mk7 hR
  have HI := Hid.mk7 hin
  have HK := Hid.mk7 hkid
  have HLast := Hid.mk7 hlast
  obtain ⟨w1, hmk, hb1, hz1, hB1⟩ := make_one Tryz.intTypes (by simp [Value.cells]) w K.length (by omega) (by omega)
  have HM := Hid.mk7 (And.intro hb1 (And.intro hz1 (HtAt.new hB1 hz1)))
  have h65 : ¬ (65536 : Int) < (tree.length : Int) := by omega
  clear hL hR hb1 hz1 hB1 hin hkid hlast
  go_enter Tryz.func20, Tryz.ntmps20
  go_wp2_with fail
  clear h65 hmk
  go_loopw [20] (fun ix wr => ∃ (j : Nat) (h : List Int), j ≤ tree.length ∧ ix = .int .i64 j ∧ h.length = K.length ∧ (∀ x ∈ h, 0 ≤ x ∧ x ≤ (j : Int)) ∧ heightsS (kidsOf K) (tree.drop j) h = heightsS (kidsOf K) tree (List.replicate K.length 0) ∧ HtAt wr w.heap.size h ∧ Below w.heap.size w wr) (fun ix _ => tree.length - (intOf ix).toNat)
  case atStart => exact ⟨0, _, Nat.zero_le _, rfl, by simp, fun x hx => by rw [List.mem_replicate] at hx; omega, rfl, HM.out.2.2, HM.out.1⟩
  case round =>
    clear HM
    obtain ⟨j, h, hj, rfl, hlen, hbd, hrest, hht, hb⟩ := hrel
    by_cases hlt : j < tree.length
    · have hji : (j : Int) < (tree.length : Int) := by omega
      obtain ⟨b, off, rfl, hc⟩ := (HR.out.below hb).at j hlt
      obtain ⟨hx0, hx1⟩ := HI.out tree[j] (List.getElem_mem hlt)
      obtain ⟨q, hq⟩ : ∃ q : Nat, tree[j] = (q : Int) := ⟨tree[j].toNat, by omega⟩
      have hqK : q < K.length := by omega
      have hqKi : (q : Int) < (K.length : Int) := by omega
      rw [hq] at hc
      obtain ⟨bL, oL, rfl, hck, hsk⟩ := (HL.out.below hb).at q hqK
      have hkd := HK.out q hqK
      rw [kidsOf_at K q hqK] at hkd
      have hstep := heightsS_drop (kidsOf K) tree j hlt h
      rw [hq, Int.toNat_natCast, kidsOf_at K q hqK] at hstep
      obtain ⟨ak, ck, hkv, hkl⟩ := hsk.form
      have HS := Hid.mk7 hsk
      have HH := Hid.mk7 (And.intro hht (And.intro hb (And.intro hbd (hrest.symm.trans hstep))))
      generalize hkk : K[q].1 = kv at hck hkv HS
      generalize hkx : K[q].2 = kl at hkd hkv HS HH hkl
      subst hkv
      clear hht hb hsk hstep hbd hrest hq
      go_wp2_with fail
      clear hck hc
      go_loopw [8, 30] (fun x8 ix wr2 => ∃ (i : Nat) (x : Int), i ≤ kl.length ∧ ix = .int .i64 i ∧ x8 = .int .i64 x ∧ 0 ≤ x ∧ x ≤ (j : Int) ∧ highest h (kl.drop i) x = highest h kl 0 ∧ wr2 = wr) (fun _ ix _ => kl.length - (intOf ix).toNat)
      case atStart => exact ⟨0, 0, Nat.zero_le _, rfl, rfl, Int.le_refl _, by omega, rfl, rfl⟩
      case round =>
        obtain ⟨i, x, hi, rfl, rfl, hxa, hxb, hrx, rfl⟩ := hrel
        by_cases hil : i < kl.length
        · have hili : (i : Int) < (kl.length : Int) := by omega
          obtain ⟨bk, ok, rfl, hc⟩ := HS.out.at i hil
          obtain ⟨hk0, hk1⟩ := hkd kl[i] (List.getElem_mem hil)
          obtain ⟨y, hy⟩ : ∃ y : Nat, kl[i] = (y : Int) := ⟨kl[i].toNat, by omega⟩
          have hyK : y < h.length := by omega
          have hyKi : (y : Int) < (K.length : Int) := by omega
          rw [hy] at hc
          obtain ⟨cy, fy⟩ := HH.out.1.c y hyK
          have hstep2 := highest_drop h kl i hil x
          rw [hy, Int.toNat_natCast] at hstep2
          have egd : (h[y]?).getD 0 = h[y] := by simp [hyK]
          rw [egd] at hstep2
          obtain ⟨hy0, hy1⟩ := HH.out.2.2.1 h[y] (List.getElem_mem hyK)
          have HX := Hid.mk7 (hrx.symm.trans hstep2)
          generalize h[y] = z at cy hy0 hy1 HX
          clear hrx hstep2 egd hy hk0 hk1
          go_wp2
          go_roundw
          case rel => exact ⟨i + 1, max x z, by omega, by go_num, rfl, by omega, by omega, HX.out.symm, trivial⟩
          case measure => simp [intOf]; omega
        · have hge : ¬ (i : Int) < (kl.length : Int) := by omega
          have he : x = highest h kl 0 := by rw [← hrx, List.drop_of_length_le (by omega)]; rfl
          obtain ⟨cq, fq⟩ := HH.out.1.c q (by omega)
          have hqh : q < h.length := by omega
          have HE := Hid.mk7 he
          have HN := Hid.mk7 (And.intro (HH.out.1.set q hqh (x + 1)) (Turned.toBelow HH.out.2.1 (Turned.set1 _ w.heap.size q (.int .i64 (x + 1))) (Nat.le_refl _)))
          have hbd := Hid.mk7 HH.out.2.2.1
          clear hrx he
          go_wp2
          go_roundw
          case rel =>
            refine ⟨j + 1, h.set q (x + 1), by omega, by go_num, by simpa using hlen, fun y hy => ?_, ?_, HN.out.1, HN.out.2⟩
            · rcases List.mem_or_eq_of_mem_set hy with hy | rfl
              · have := hbd.out y hy; omega
              · omega
            · rw [HE.out]; exact HH.out.2.2.2.symm
          case measure => simp [intOf]; omega
    · have hge : ¬ (j : Int) < (tree.length : Int) := by omega
      have he : h = heightsS (kidsOf K) tree (List.replicate K.length 0) := by rw [← hrest, List.drop_of_length_le (by omega)]; rfl
      have hla : tree.length - 1 < tree.length := by omega
      obtain ⟨b, off, rfl, hc⟩ := (HR.out.below hb).at (tree.length - 1) hla
      obtain ⟨hx0, hx1⟩ := HI.out tree[tree.length - 1] (List.getElem_mem hla)
      obtain ⟨q, hq⟩ : ∃ q : Nat, tree[tree.length - 1] = (q : Int) := ⟨tree[tree.length - 1].toNat, by omega⟩
      have hqh : q < h.length := by omega
      have hqi : (q : Int) < (K.length : Int) := by omega
      obtain ⟨cq, fq⟩ := hht.c q hqh
      have hl5 : h[q] ≤ 500 := by
        have := HLast.out
        rw [← he, hq, Int.toNat_natCast] at this
        simpa [hqh] using this
      have h500 : ¬ (500 : Int) < h[q] := by omega
      rw [hq] at hc
      have hlen1 : (tree.length : Int) - 1 = ((tree.length - 1 : Nat) : Int) := by omega
      have hlt1 : ((tree.length - 1 : Nat) : Int) < (tree.length : Int) := by omega
      have HB := Hid.mk7 hb
      generalize h[q] = z at cq h500
      generalize tree.length - 1 = tl at hc hlen1 hlt1
      clear hb hht hrest he hbd hq hl5 hx0 hx1 hla
      go_wp2
      go_ret
      exact ⟨rfl, HB.out⟩
end Go.Proofs.YtlgkjjbefoeabaaGreatDoor
namespace Go.Proofs.YtlgkjjbefoeabaaGreatDoor
open Go.RowKit

theorem T0_length : T0.length = 17 := rfl
theorem lvDot : Lv tk16 0 := ps_lv_dot _ _ _
theorem lvShut : Lv tk9 0 := ps_lv_sign _ _ _ _ ps_lv_shut
theorem lvPlus : Lv tk12 6 := ps_lv_sign _ _ _ _ ps_lv_plus
theorem lvTimes : Lv tk14 7 := ps_lv_sign _ _ _ _ ps_lv_times
def shX8 : Sh := ⟨3, ⟨#[88]⟩, ⟨#[]⟩, 0, [], 14⟩
def shX11 : Sh := ⟨3, ⟨#[88]⟩, ⟨#[]⟩, 0, [], 20⟩
def sh1 : Sh := ⟨1, ⟨#[]⟩, ⟨#[]⟩, 1, [], 24⟩
def sh2 : Sh := ⟨1, ⟨#[]⟩, ⟨#[]⟩, 2, [], 28⟩
theorem arg0 (b : Nat) (hb : b ≤ 1000) : Phrase b 145 [] T0 8 9 (fun _ => [shX8]) (fun n => n) :=
  ps_whole b T0 8 9 _ _ (ps_exp_leaf b hb T0 8 (by decide) (.inl rfl) 1 0 lvShut (by decide))
theorem exp2 (b : Nat) (hb : b ≤ 1000) : Phrase b 156 [.int .i64 8] T0 15 16 (fun _ => [sh2]) (fun n => n) :=
  ps_exp_leaf b hb T0 15 (by decide) (.inr rfl) 8 0 lvDot (by decide)
/-- The nodes of the product. -/
def mProd (n : Nat) : List Sh := [sh1, sh2, ⟨15, ⟨#[42]⟩, ⟨#[]⟩, 0, [(n : Int), ((n + 1 : Nat) : Int)], 26⟩]
theorem expProd (b : Nat) (hb : b ≤ 400) : Phrase b 156 [.int .i64 7] T0 13 16 mProd (fun n => n + 2) :=
  ps_exp_one b (by omega) T0 13 16 (by decide) (.inr rfl) 7 7 8 7 0 lvTimes (by decide) (by decide) ⟨by decide, by decide, by decide, by decide⟩ ps_sides7 _ _ (fun _ => by simp) (exp2 (b + 1) (by omega)) lvDot (by decide)
def mSum (n : Nat) : List Sh := shX11 :: mProd (n + 1) ++ [⟨15, ⟨#[43]⟩, ⟨#[]⟩, 0, [(n : Int), ((n + 1 + 2 : Nat) : Int)], 22⟩]
theorem expSum (b : Nat) (hb : b ≤ 300) : Phrase b 156 [.int .i64 1] T0 11 16 mSum (fun n => n + 1 + (mProd (n + 1)).length) :=
  ps_exp_one b (by omega) T0 11 16 (by decide) (.inl rfl) 1 6 7 6 0 lvPlus (by decide) (by decide) ⟨by decide, by decide, by decide, by decide⟩ ps_sides6 _ _ (fun _ => by simp [mProd]) (expProd (b + 1) (by omega)) lvDot (by decide)
def mBody (n : Nat) : List Sh := mSum n ++ [⟨23, ⟨#[]⟩, ⟨#[]⟩, 0, [((n + 4 : Nat) : Int)], 20⟩]
theorem body0 (b : Nat) (hb : b ≤ 300) : Phrase b 148 [] T0 11 16 mBody (fun n => n + 5) :=
  ps_body b (by omega) T0 11 16 (by decide) _ _ (fun _ => by simp [mSum, mProd]) (ps_whole b T0 11 16 _ _ (expSum b hb)) (by decide)
def mFun (n : Nat) : List Sh := [shX8] ++ [⟨25, ⟨#[]⟩, ⟨#[]⟩, 0, [(n : Int)], 13⟩] ++ mBody (n + 2) ++ [⟨20, ⟨#[102]⟩, ⟨#[]⟩, 0, [(n : Int) + 1, ((n + 2 + 5 : Nat) : Int)], 12⟩]
theorem fun0 (b : Nat) (hb : b ≤ 200) : Phrase b 121 [] T0 6 16 mFun (fun n => n + 2 + (mBody (n + 2)).length) :=
  ps_fun b (by omega) T0 6 9 16 (by decide) (by decide) _ _ _ _ (fun _ => rfl) (fun _ => by simp [mBody, mSum, mProd]) (arg0 b (by omega)) (body0 (b + 2) (by omega)) rfl (by decide) (by decide) (by decide) (by decide) (by decide) (by decide)
def mFunction (n : Nat) : List Sh := mFun n ++ [⟨26, ⟨#[102]⟩, ⟨#[]⟩, 1, [((n + 8 : Nat) : Int)], 12⟩]
theorem function0 (b : Nat) (hb : b ≤ 200) : Phrase b 100 [] T0 6 17 mFunction (fun n => n + 9) :=
  ps_function b (by omega) T0 6 16 (by decide) mFun (fun n => n + 2 + (mBody (n + 2)).length) (fun _ => by simp [mFun, mBody, mSum, mProd]) (fun0 b hb) (by decide) rfl (fun n => ⟨20, ⟨#[102]⟩, ⟨#[]⟩, 0, [(n : Int) + 1, ((n + 2 + 5 : Nat) : Int)], 12⟩) (fun n => ⟨25, ⟨#[]⟩, ⟨#[]⟩, 0, [(n : Int)], 13⟩) (fun n => n + 1) (fun n => [((n + 2 + 5 : Nat) : Int)])
    (fun n => ⟨by
      rw [show n + 2 + (mBody (n + 2)).length - n = 8 by simp [mBody, mSum, mProd]; omega]
      rfl, by omega, rfl, by omega, by rw [show n + 1 - n = 1 by omega]; rfl⟩)
def mModule (n : Nat) : List Sh := mFunction n ++ [⟨27, ⟨#[109]⟩, ⟨#[]⟩, 0, [((n + 9 : Nat) : Int)], 0⟩]
theorem module0 (b : Nat) (hb : b ≤ 200) : Phrase b 77 [] T0 0 17 mModule (fun n => n + 10) :=
  ps_module b (by omega) T0 0 (by decide) _ _ (fun _ => by simp [mFunction, mFun, mBody, mSum, mProd]) (function0 b hb) (by decide) (by decide) (by decide) rfl (by decide) rfl (by decide)
def mProgram (n : Nat) : List Sh := mModule n ++ [⟨28, ⟨#[]⟩, ⟨#[]⟩, 0, [((n + 10 : Nat) : Int)], 0⟩]
theorem program0 : Phrase 0 49 [] T0 0 17 mProgram (fun n => n + 11) :=
  ps_program 0 (by omega) T0 (by decide) _ _ (fun _ => by simp [mModule, mFunction, mFun, mBody, mSum, mProd]) (module0 0 (by omega))
end Go.Proofs.YtlgkjjbefoeabaaGreatDoor
namespace Go.Proofs.YtlgkjjbefoeabaaGreatDoor
open Go.RowKit

def NF : List Sh := mProgram 0
theorem NF_length : NF.length = 12 := by decide
/-- The Kids of that tree's nodes. -/
def kidsF (i : Nat) : List Int := ((NF[i]?).map (·.kids)).getD []
theorem belowF : belowS 12 kidsF [11] = [0, 1, 2, 3, 4, 5, 6, 7, 8, 9, 10, 11] := by decide +kernel
theorem heightsF : ((heightsS kidsF [0, 1, 2, 3, 4, 5, 6, 7, 8, 9, 10, 11] (List.replicate 12 0))[11]?).getD 0 ≤ 500 := by decide +kernel
theorem kidsF_low : ∀ i < 12, ∀ k ∈ kidsF i, 0 ≤ k ∧ k < 12 := by decide +kernel
/-- Nodes' Kids, with their values. -/
def kvs (N : List Nd) : List (Value × List Int) := N.map fun n => (n.kv, n.kids)
theorem kvs_length (N : List Nd) : (kvs N).length = N.length := by simp [kvs]
theorem kids_of {N : List Nd} (h : N.map Nd.sh = NF) : kidsOf (kvs N) = kidsF := by
  funext i
  unfold kidsOf kidsF kvs
  rw [← h]
  cases e : N[i]? with
  | none => simp [e]
  | some n => simp [e, Nd.sh]
theorem NodesAt.cells {w : World} {Nv : Value} {N : List Nd} (h : NodesAt w Nv N) (j : Nat) (hj : j < N.length) : ∃ b off cap, Nv = .slice (some ⟨b, off, none⟩) N.length cap ∧ w.cell? ⟨b, off + j * 6, none⟩ = some (.int .i64 N[j].kind) ∧ w.cell? ⟨b, off + j * 6 + 1, none⟩ = some (.string N[j].text) ∧ w.cell? ⟨b, off + j * 6 + 4, none⟩ = some N[j].kv := by
  obtain ⟨b, off, cap, e, _, _, hc⟩ := h.own.sl.at j hj
  have c : ∀ q, q < 6 → w.cell? ⟨b, off + j * 6 + q, none⟩ = N[j].cells[q]? := fun q hq => (hc q hq).1.trans (nds_get N j hj q hq)
  exact ⟨b, off, cap, e, c 0 (by decide), c 1 (by decide), c 4 (by decide)⟩
theorem NodesAt.arg {w : World} {Nv : Value} {N : List Nd} (h : NodesAt w Nv N) (hn : 0 < N.length) (hs : ∀ n ∈ N, n.kids.length ≤ 4611686018427387903) : NArg w Nv (kvs N) := by
  obtain ⟨b, off, cap, e, _⟩ := h.cells 0 hn
  refine .inr ⟨b, off, cap, by rw [kvs_length]; exact e, fun j hj => ?_⟩
  have hj' : j < N.length := by simpa [kvs] using hj
  obtain ⟨b', off', cap', e', _, _, c4⟩ := h.cells j hj'
  rw [e] at e'
  simp only [Value.slice.injEq, Option.some.injEq, Addr.mk.injEq, and_true, true_and] at e'
  obtain ⟨⟨rfl, rfl⟩, rfl⟩ := e'
  simp only [kvs, List.getElem_map]
  exact ⟨c4, (h.kid j hj').any (hs _ (List.getElem_mem hj'))⟩
theorem NodesAt.below {w w' : World} {Nv : Value} {N : List Nd} (h : NodesAt w Nv N) (hb : Below w.heap.size w w') : NodesAt w' Nv N := h.turned (Turned.ofBelow (S := fun _ => False) hb) (fun _ _ e => e) (fun _ _ _ _ e => e)
set_option maxRecDepth 100000 in
set_option maxHeartbeats 1600000 in
theorem ps_Parse {w : World} {Tv : Value} (htok : SlK 4 w Tv 17 (toks T0)) :
    Calls Tryz.prog 7 #[Tv] w fun x w' => ∃ Nv N, x = .returned (.tuple #[Nv, .int .i64 11, .nilIface]) ∧ N.map Nd.sh = NF ∧ NodesAt w' Nv N ∧ Below w.heap.size w w' := by
  have hg := ps_grow T0 (by decide) (by decide) mProgram (fun n => n + 11) program0 htok
  obtain ⟨aT, cT, hTv, _⟩ := htok.form
  subst hTv
  clear htok
  go_enter Tryz.func7, Tryz.ntmps7
  go_wp2_with fail
  refine hg.mono ?_
  rintro x w1 ⟨Nv, N, rfl, e1, h1, hb1⟩
  have hNl : N.length = 12 := by have := congrArg List.length e1; simpa [mProgram, mModule, mFunction, mFun, mBody, mSum, mProd] using this
  have hks : ∀ n ∈ N, n.kids.length ≤ 4611686018427387903 := fun n hn => by
    have h2 : n.sh ∈ NF := by rw [show NF = N.map Nd.sh from e1.symm]; exact List.mem_map_of_mem hn
    have h3 : ∀ s ∈ NF, s.kids.length ≤ 4611686018427387903 := by decide +kernel
    exact h3 _ h2
  have a1 := h1.arg (by omega) hks
  have B2 := Below.alloc0 w1 (.cells #[.int .i64 (11 : Int)] 3)
  have hbl := ps_Below (a1.below B2) (SlI.any (SlI.one w1 11 3) (by simp)) (by rw [kvs_length]; omega)
  rw [kvs_length, hNl, kids_of e1, belowF] at hbl
  obtain ⟨aN, cN, hNv, _⟩ := h1.own.sl.form
  subst hNv
  have H1 := Hid.mk7 (And.intro e1 (And.intro h1 (And.intro hb1 (And.intro a1 B2))))
  rw [hNl] at hbl
  clear hg e1 h1 hb1 a1 B2
  go_wp2_with fail
  refine hbl.mono ?_
  rintro x w3 ⟨V, rfl, ho3, hb3, _⟩
  have B3 := H1.out.2.2.2.2.trans (hb3.mono H1.out.2.2.2.2.size)
  have a3 := H1.out.2.2.2.1.below B3
  have hli := ps_limit a3 (SlI.any (OwnK.sl ho3) (by simp)) (by rw [kvs_length]; omega) (by rw [kvs_length, hNl]; decide) (by rw [kvs_length, hNl, kids_of H1.out.1]; exact kidsF_low) (by decide) (by decide) (by rw [kvs_length, hNl, kids_of H1.out.1]; exact heightsF)
  obtain ⟨aV, cV, hV, _⟩ := OwnK.sl ho3 |>.form
  subst hV
  have H3 := Hid.mk7 B3
  rw [hNl] at hli
  clear hbl ho3 hb3 a3 B3
  go_wp2_with fail
  refine hli.mono ?_
  rintro x w4 ⟨rfl, hb4⟩
  have H4 := Hid.mk7 (H3.out.trans (hb4.mono H3.out.size))
  clear hli hb4
  go_wp2
  go_ret3
  refine ⟨.slice aN N.length cN, N, by rw [hNl]; rfl, H1.out.1, H1.out.2.1.below H4.out, H1.out.2.2.1.trans (H4.out.mono H1.out.2.2.1.size)⟩
set_option maxRecDepth 100000 in
theorem er_as_nil (t : Value) (w : World) : Calls Tryz.prog 22 #[.nilIface, t] w fun e w' => e = .returned (.bool false) ∧ w = w' := by
  go_enter Tryz.func22, Tryz.ntmps22
  go_wp2
  go_ret
  exact ⟨rfl, rfl⟩
set_option maxRecDepth 100000 in
set_option maxHeartbeats 1600000 in
theorem ps_Text {w : World} (hw : SgAt w) :
    Calls Tryz.prog 17 #[.string S0] w fun x w' => ∃ Nv N, x = .returned (.tuple #[Nv, .int .i64 11, .nilIface]) ∧ N.map Nd.sh = NF ∧ NodesAt w' Nv N ∧ Below w.heap.size w w' := by
  have hs := lx_Scan w hw
  clear hw
  generalize S0 = s0 at hs ⊢
  go_enter Tryz.func17, Tryz.ntmps17
  go_wp2_with fail
  refine hs.mono ?_
  rintro x w1 ⟨V, rfl, ho, hb1, _⟩
  have hp := ps_Parse ho.sl
  obtain ⟨aV, cV, hV, _⟩ := ho.sl.form
  subst hV
  have HB1 := Hid.mk7 hb1
  clear hs ho hb1
  go_wp2_with fail
  refine hp.mono ?_
  rintro x w2 ⟨Nv, N, rfl, e2, h2, hb2⟩
  obtain ⟨aN, cN, hNv, _⟩ := h2.own.sl.form
  have hNl : N.length = 12 := by have := congrArg List.length e2; simpa [NF_length] using this
  rw [hNl] at hNv
  subst hNv
  have ha := fun t w => er_as_nil t w
  have H2 := Hid.mk7 (And.intro e2 (And.intro h2 (HB1.out.trans (hb2.mono HB1.out.size))))
  clear hp e2 h2 hb2
  go_wp2_with (go_at_call 22; refine (ha _ _).mono ?_; rintro x w3 ⟨rfl, rfl⟩)
  go_ret3
  exact ⟨_, N, rfl, H2.out.1, H2.out.2.1.below (Below.alloc0 w2 _), H2.out.2.2.trans ((Below.alloc0 w2 _).mono H2.out.2.2.size)⟩
end Go.Proofs.YtlgkjjbefoeabaaGreatDoor
namespace Go.Proofs.YtlgkjjbefoeabaaGreatDoor

theorem set_true (m : List Bool) (a j : Nat) : (m.set a true)[j]? = some true ↔ m[j]? = some true ∨ (j < m.length ∧ a = j) := by
  by_cases h : a = j
  · subst h
    by_cases hl : a < m.length <;> simp [hl]
  · simp [List.getElem?_set_ne h, h]
theorem markL_true (p : Int → Bool) : ∀ (l : List Int) (m : List Bool) (j : Nat), (markL p l m)[j]? = some true ↔ m[j]? = some true ∨ (j < m.length ∧ ∃ k ∈ l, p k = true ∧ k.toNat = j)
  | [], m, j => by simp [markL]
  | k :: ks, m, j => by
    rw [markL, markL_true p ks]
    by_cases hp : p k = true
    · rw [if_pos hp, set_true]
      simp only [List.length_set, List.mem_cons]
      constructor
      · rintro ((h | ⟨h1, h2⟩) | ⟨h1, z, hz, h3⟩)
        · exact .inl h
        · exact .inr ⟨h1, k, .inl rfl, hp, h2⟩
        · exact .inr ⟨h1, z, .inr hz, h3⟩
      · rintro (h | ⟨h1, z, rfl | hz, h3⟩)
        · exact .inl (.inl h)
        · exact .inl (.inr ⟨h1, h3.2⟩)
        · exact .inr ⟨h1, z, hz, h3⟩
    · rw [if_neg hp]
      simp only [List.mem_cons]
      constructor
      · rintro (h | ⟨h1, z, hz, h3⟩)
        · exact .inl h
        · exact .inr ⟨h1, z, .inr hz, h3⟩
      · rintro (h | ⟨h1, z, rfl | hz, h3⟩)
        · exact .inl h
        · exact absurd h3.1 hp
        · exact .inr ⟨h1, z, hz, h3⟩
theorem downS_up (kids : Nat → List Int) : ∀ (i : Nat) (m : List Bool) (j : Nat), m[j]? = some true → (downS kids i m)[j]? = some true
  | 0, _, _, h => h
  | i + 1, m, j, h => by
    rw [downS]
    refine downS_up kids i _ j ?_
    split
    · exact (markL_true _ _ _ _).2 (.inl h)
    · exact h
theorem downS_top (kids : Nat → List Int) : ∀ (i : Nat) (m : List Bool) (j : Nat), i ≤ j + 1 → (downS kids i m)[j]? = some true → m[j]? = some true
  | 0, _, _, _, h => h
  | i + 1, m, j, hj, h => by
    rw [downS] at h
    have h1 := downS_top kids i _ j (by omega) h
    split at h1
    · rcases (markL_true _ _ _ _).1 h1 with h2 | ⟨_, k, _, h3, h4⟩
      · exact h2
      · simp [lowB] at h3; omega
    · exact h1
theorem downS_shut (kids : Nat → List Int) : ∀ (i : Nat) (m : List Bool) (j : Nat), j < i → i ≤ m.length → (downS kids i m)[j]? = some true → ∀ k ∈ kids j, lowB j k = true → (downS kids i m)[k.toNat]? = some true
  | 0, _, _, h, _, _, _, _, _ => by omega
  | i + 1, m, j, hj, hl, h, k, hk, hlow => by
    rw [downS] at h ⊢
    by_cases e : j < i
    · exact downS_shut kids i _ j e (by split <;> (try rw [markL_length]) <;> omega) h k hk hlow
    · have ej : j = i := by omega
      subst ej
      have h1 := downS_top kids j _ j (by omega) h
      have h2 : m[j]? = some true := by
        split at h1
        · rcases (markL_true _ _ _ _).1 h1 with h2 | ⟨_, k, _, h3, h4⟩
          · exact h2
          · simp [lowB] at h3; omega
        · exact h1
      refine downS_up kids j _ _ ?_
      rw [if_pos (by rw [h2]; rfl)]
      have hb : 0 ≤ k ∧ k < (j : Int) := by simpa [lowB] using hlow
      exact (markL_true _ _ _ _).2 (.inr ⟨by omega, k, hk, hlow, rfl⟩)
theorem downS_le (kids : Nat → List Int) (r : Nat) : ∀ (i : Nat) (m : List Bool), (∀ j : Nat, m[j]? = some true → j ≤ r) → ∀ j : Nat, (downS kids i m)[j]? = some true → j ≤ r
  | 0, _, h, j, hj => h j hj
  | i + 1, m, h, j, hj => by
    rw [downS] at hj
    refine downS_le kids r i _ (fun q hq => ?_) j hj
    by_cases e : (m[i]?).getD false = true
    · rw [if_pos e] at hq
      rcases (markL_true _ _ _ _).1 hq with h2 | ⟨_, k, _, h3, h4⟩
      · exact h q h2
      · have hi : m[i]? = some true := by
          cases hm : m[i]? with
          | none => rw [hm] at e; cases e
          | some b => rw [hm] at e; simpa using e
        have := h i hi
        simp [lowB] at h3
        omega
    · rw [if_neg e] at hq
      exact h q hq
theorem mem_marked : ∀ (m : List Bool) (i : Nat) (z : Int), z ∈ marked i m ↔ ∃ j : Nat, z = ((i + j : Nat) : Int) ∧ m[j]? = some true
  | [], i, z => by simp [marked]
  | b :: r, i, z => by
    have ih := mem_marked r (i + 1) z
    have key : (∃ j : Nat, z = ((i + j : Nat) : Int) ∧ (b :: r)[j]? = some true) ↔ ((z = (i : Int) ∧ b = true) ∨ ∃ j : Nat, z = ((i + 1 + j : Nat) : Int) ∧ r[j]? = some true) := by
      constructor
      · rintro ⟨j, h1, h2⟩
        cases j with
        | zero => exact .inl ⟨by simpa using h1, by simpa using h2⟩
        | succ j => exact .inr ⟨j, by rw [h1]; congr 1; omega, by simpa using h2⟩
      · rintro (⟨h1, h2⟩ | ⟨j, h1, h2⟩)
        · exact ⟨0, by simpa using h1, by simpa using h2⟩
        · exact ⟨j + 1, by rw [h1]; congr 1; omega, by simpa using h2⟩
    rw [key, ← ih, marked]
    split <;> simp_all
theorem marked_rises : ∀ (m : List Bool) (i : Nat), (marked i m).Pairwise (· < ·)
  | [], _ => by simp [marked]
  | b :: r, i => by
    rw [marked]
    split
    · refine List.pairwise_cons.2 ⟨fun z hz => ?_, marked_rises r (i + 1)⟩
      obtain ⟨j, h1, _⟩ := (mem_marked r (i + 1) z).1 hz
      omega
    · exact marked_rises r (i + 1)
/-- What is below one node. -/
theorem belowS_one (n : Nat) (kids : Nat → List Int) (r : Nat) (hr : r < n) : (belowS n kids [(r : Int)]).Pairwise (· < ·) ∧ (r : Int) ∈ belowS n kids [(r : Int)] ∧ (∀ z ∈ belowS n kids [(r : Int)], 0 ≤ z ∧ z ≤ (r : Int)) ∧
    ∀ z ∈ belowS n kids [(r : Int)], ∀ k ∈ kids z.toNat, 0 ≤ k → k < z → k ∈ belowS n kids [(r : Int)] := by
  have m0 : ∀ j : Nat, (markL (lowB n) [(r : Int)] (List.replicate n false))[j]? = some true ↔ j = r := fun j => by
    rw [markL_true]
    constructor
    · rintro (h | ⟨_, k, hk, _, h2⟩)
      · simp [List.getElem?_replicate] at h
      · simp at hk; omega
    · intro h
      subst h
      exact .inr ⟨by simpa using hr, (j : Int), by simp, by simp [lowB]; omega, by simp⟩
  have hlen : (markL (lowB n) [(r : Int)] (List.replicate n false)).length = n := by rw [markL_length]; simp
  have le := downS_le kids r n _ (fun j hj => Nat.le_of_eq ((m0 j).1 hj))
  refine ⟨marked_rises _ _, (mem_marked _ _ _).2 ⟨r, by simp, downS_up kids n _ r ((m0 r).2 rfl)⟩, fun z hz => ?_, fun z hz k hk h0 h1 => ?_⟩
  · obtain ⟨j, e, hj⟩ := (mem_marked _ _ _).1 hz
    have := le j hj
    omega
  · obtain ⟨j, e, hj⟩ := (mem_marked _ _ _).1 hz
    have hjr := le j hj
    have ez : z.toNat = j := by omega
    rw [ez] at hk
    refine (mem_marked _ _ _).2 ⟨k.toNat, by omega, ?_⟩
    exact downS_shut kids n _ j (by omega) (by omega) hj k hk (by simp [lowB]; omega)
end Go.Proofs.YtlgkjjbefoeabaaGreatDoor
namespace Go.Proofs.YtlgkjjbefoeabaaGreatDoor
open Go.RowKit

set_option maxRecDepth 100000 in
set_option maxHeartbeats 6400000 in
theorem ref_Below {w : World} {lv rv : Value} {K : List (Value × List Int)} {roots : List Int} (hL : NArg w lv K) (hR : SlA w rv roots) (hK : K.length ≤ 2199023255552) :
    Calls Tryz.prog 65 #[lv, rv] w fun x w' => ∃ V, x = .returned V ∧ OwnI w' V (belowS K.length (kidsOf K) roots) ∧ Below w.heap.size w w' ∧ ∀ k, blk V k → w.heap.size ≤ k := by
  obtain ⟨aL, cL, hlv⟩ := hL.form
  subst hlv
  obtain ⟨aR, cR, hrv, hrl⟩ := hR.form
  subst hrv
  have HL := Hid.mk7 hL
  have HR := Hid.mk7 hR
  obtain ⟨w1, hmk, hb1, hz1, hB1⟩ := make_one Tryz.boolTypes (by simp [Value.cells]) w K.length (by omega) (by omega)
  have HM := Hid.mk7 (And.intro hb1 (And.intro hz1 (MetAt.new hB1 hz1)))
  clear hL hR hb1 hz1 hB1
  go_enter Tryz.func65, Tryz.ntmps65
  go_wp2_with fail
  go_loopw [6] (fun ix wr => ∃ (j : Nat) (mr : List Bool), j ≤ roots.length ∧ ix = .int .i64 j ∧ mr.length = K.length ∧ markL (lowB K.length) (roots.drop j) mr = markL (lowB K.length) roots (List.replicate K.length false) ∧ MetAt wr w.heap.size mr ∧ Below w.heap.size w wr) (fun ix _ => roots.length - (intOf ix).toNat)
  case atStart => exact ⟨0, _, Nat.zero_le _, rfl, by simp, rfl, HM.out.2.2, HM.out.1⟩
  case round =>
    obtain ⟨j, mr, hj, rfl, hlen, hrest, hmr, hb⟩ := hrel
    by_cases hlt : j < roots.length
    · have hji : (j : Int) < (roots.length : Int) := by omega
      obtain ⟨b, off, rfl, hc⟩ := (HR.out.below hb).at j hlt
      have hstep := markL_drop (lowB K.length) roots j hlt mr
      cases hbb : lowB K.length roots[j] with
      | true =>
        simp only [hbb] at hstep
        have hx : 0 ≤ roots[j] ∧ roots[j] < (K.length : Int) := by simpa [lowB] using hbb
        obtain ⟨q, hq⟩ : ∃ q : Nat, roots[j] = (q : Int) := ⟨roots[j].toNat, by omega⟩
        have hqi : q < mr.length := by omega
        have hqi' : (q : Int) < (K.length : Int) := by omega
        have hq0 : (0 : Int) ≤ (q : Int) := by omega
        obtain ⟨cq, fq⟩ := hmr.c q hqi
        rw [hq] at hc
        have HN := Hid.mk7 (And.intro (show markL (lowB K.length) (roots.drop (j + 1)) (mr.set q true) = markL (lowB K.length) roots (List.replicate K.length false) by rw [← hrest, hstep, hq]; simp) (And.intro (hmr.set q hqi) (Turned.toBelow hb (Turned.set1 _ w.heap.size q (.bool true)) (Nat.le_refl _))))
        clear hrest hmr hb hstep hbb hx
        go_wp2
        go_roundw
        case rel => exact ⟨j + 1, mr.set q true, by omega, by go_num, by simpa using hlen, HN.out.1, HN.out.2.1, HN.out.2.2⟩
        case measure => simp [intOf]; omega
      | false =>
        simp only [hbb] at hstep
        have hx : ¬ (0 ≤ roots[j] ∧ roots[j] < (K.length : Int)) := by simpa [lowB] using hbb
        have HN := Hid.mk7 (And.intro (show markL (lowB K.length) (roots.drop (j + 1)) mr = markL (lowB K.length) roots (List.replicate K.length false) by rw [← hrest, hstep]; simp) (And.intro hmr hb))
        generalize roots[j] = rj at hc hx
        clear hrest hmr hb hstep hbb
        by_cases h0 : (0 : Int) ≤ rj
        · have h1 : ¬ rj < (K.length : Int) := fun h => hx ⟨h0, h⟩
          clear hx
          go_wp2
          go_roundw
          case rel => exact ⟨j + 1, mr, by omega, by go_num, hlen, HN.out.1, HN.out.2.1, HN.out.2.2⟩
          case measure => simp [intOf]; omega
        · clear hx
          go_wp2
          go_roundw
          case rel => exact ⟨j + 1, mr, by omega, by go_num, hlen, HN.out.1, HN.out.2.1, HN.out.2.2⟩
          case measure => simp [intOf]; omega
    · have hge : ¬ (j : Int) < (roots.length : Int) := by omega
      have he : mr = markL (lowB K.length) roots (List.replicate K.length false) := by rw [← hrest, List.drop_of_length_le (by omega)]; rfl
      have HD : Hid (belowS K.length (kidsOf K) roots = marked 0 (downS (kidsOf K) K.length mr)) := by rw [he]; exact rfl
      have H1 := Hid.mk7 (And.intro hmr hb)
      clear hrest he hmr hb HM hmk
      go_wp2_with fail
      clear hge hlt hj
      go_loopw [7] (fun ix wr => ∃ (j : Nat) (mr : List Bool), j ≤ K.length ∧ ix = .int .i64 ((j : Int) - 1) ∧ mr.length = K.length ∧ marked 0 (downS (kidsOf K) j mr) = belowS K.length (kidsOf K) roots ∧ MetAt wr w.heap.size mr ∧ Below w.heap.size w wr) (fun ix _ => (intOf ix + 1).toNat)
      case atStart => exact ⟨K.length, mr, Nat.le_refl _, rfl, hlen, HD.out.symm, H1.out.1, H1.out.2⟩
      case round =>
        clear HD H1 hlen
        obtain ⟨j2, m2, hj2, rfl, hlen2, hrest2, hm2, hb2⟩ := hrel
        cases j2 with
        | succ i =>
          have ei : ((i + 1 : Nat) : Int) - 1 = (i : Int) := by omega
          rw [ei]
          have hin : i < K.length := by omega
          have hini : (i : Int) < (K.length : Int) := by omega
          have him : i < m2.length := by omega
          have hpos : (0 : Int) ≤ (i : Int) := by omega
          obtain ⟨cm, fm⟩ := hm2.c i him
          rw [downS] at hrest2
          have egd : (m2[i]?).getD false = m2[i] := by simp [him]
          rw [egd] at hrest2
          cases hmi : m2[i] with
          | false =>
            rw [hmi] at cm hrest2
            have HN := Hid.mk7 (And.intro (show marked 0 (downS (kidsOf K) i m2) = _ from by simpa using hrest2) (And.intro hm2 hb2))
            clear hrest2 hm2 hb2 egd hmi
            go_wp2_with fail
            refine wp_loop_rounds 1 ?_
            rw [rounds_succ]
            go_wp2
            go_roundw
            case rel => exact ⟨i, m2, by omega, by go_num, hlen2, HN.out.1, HN.out.2.1, HN.out.2.2⟩
            case measure => simp [intOf]
          | true =>
            rw [hmi] at cm hrest2
            have hm2i : m2[i]? = some true := by rw [List.getElem?_eq_getElem him, hmi]
            obtain ⟨b, off, rfl, hck, hsk⟩ := (HL.out).at i hin
            obtain ⟨ak, ck, hkv, hkl⟩ := hsk.form
            rw [kidsOf_at K i hin] at hrest2
            have HN := Hid.mk7 (And.intro (show marked 0 (downS (kidsOf K) i (markL (lowB i) K[i].2 m2)) = _ from by simpa using hrest2) (And.intro hm2 hb2))
            have HS := Hid.mk7 hsk
            generalize hkd : K[i].1 = kv at hck hkv HS
            generalize hkx : K[i].2 = kl at hkv HS HN hkl
            subst hkv
            have HC := Hid.mk7 hck
            clear hrest2 hm2 hb2 egd hmi hsk hck cm fm
            go_wp2_with fail
            go_loopw [8] (fun ix wr2 => ∃ (k : Nat) (mr : List Bool), k ≤ kl.length ∧ ix = .int .i64 k ∧ mr.length = K.length ∧ mr[i]? = some true ∧ markL (lowB i) (kl.drop k) mr = markL (lowB i) kl m2 ∧ MetAt wr2 w.heap.size mr ∧ Below w.heap.size w wr2) (fun ix _ => kl.length - (intOf ix).toNat)
            case atStart => exact ⟨0, m2, Nat.zero_le _, rfl, hlen2, hm2i, rfl, HN.out.2.1, HN.out.2.2⟩
            case round =>
              obtain ⟨k, mr, hk, rfl, hlen3, hmi3, hrest3, hm3, hb3⟩ := hrel
              have him3 : i < mr.length := by omega
              obtain ⟨cm, fm⟩ := hm3.c i him3
              have emi : mr[i] = true := by rw [List.getElem?_eq_getElem him3] at hmi3; exact Option.some.inj hmi3
              rw [emi] at cm
              have hck := (hb3.cell (p := ⟨b, off + i * 6 + 4, none⟩) (World.block_lt_of_cell? w _ HC.out)).trans HC.out
              by_cases hkl2 : k < kl.length
              · have hkli : (k : Int) < (kl.length : Int) := by omega
                obtain ⟨bk, ok, rfl, hcv⟩ := (HS.out.below hb3).at k hkl2
                have hstep := markL_drop (lowB i) kl k hkl2 mr
                cases hbb : lowB i kl[k] with
                | true =>
                  simp only [hbb] at hstep
                  have hx : 0 ≤ kl[k] ∧ kl[k] < (i : Int) := by simpa [lowB] using hbb
                  obtain ⟨q, hq⟩ : ∃ q : Nat, kl[k] = (q : Int) := ⟨kl[k].toNat, by omega⟩
                  have hqi : q < mr.length := by omega
                  have hqi' : (q : Int) < (K.length : Int) := by omega
                  have hqlt : (q : Int) < (i : Int) := by omega
                  have hq0 : (0 : Int) ≤ (q : Int) := by omega
                  obtain ⟨cq, fq⟩ := hm3.c q hqi
                  rw [hq] at hcv
                  have HN3 := Hid.mk7 (And.intro (show markL (lowB i) (kl.drop (k + 1)) (mr.set q true) = markL (lowB i) kl m2 by rw [← hrest3, hstep, hq]; simp) (And.intro (hm3.set q hqi) (And.intro (Turned.toBelow hb3 (Turned.set1 _ w.heap.size q (.bool true)) (Nat.le_refl _)) (show (mr.set q true)[i]? = some true by rw [List.getElem?_set_ne (by omega)]; exact hmi3))))
                  clear hrest3 hm3 hb3 hstep hbb hx emi hmi3
                  go_wp2
                  go_roundw
                  case rel => exact ⟨k + 1, mr.set q true, by omega, by go_num, by simpa using hlen3, HN3.out.2.2.2, HN3.out.1, HN3.out.2.1, HN3.out.2.2.1⟩
                  case measure => simp [intOf]; omega
                | false =>
                  simp only [hbb] at hstep
                  have hx : ¬ (0 ≤ kl[k] ∧ kl[k] < (i : Int)) := by simpa [lowB] using hbb
                  have HN3 := Hid.mk7 (And.intro (show markL (lowB i) (kl.drop (k + 1)) mr = markL (lowB i) kl m2 by rw [← hrest3, hstep]; simp) (And.intro hm3 (And.intro hb3 hmi3)))
                  generalize kl[k] = kd at hcv hx
                  clear hrest3 hm3 hb3 hstep hbb emi hmi3
                  by_cases h0 : (0 : Int) ≤ kd
                  · have h1 : ¬ kd < (i : Int) := fun h => hx ⟨h0, h⟩
                    clear hx
                    go_wp2
                    go_roundw
                    case rel => exact ⟨k + 1, mr, by omega, by go_num, hlen3, HN3.out.2.2.2, HN3.out.1, HN3.out.2.1, HN3.out.2.2.1⟩
                    case measure => simp [intOf]; omega
                  · clear hx
                    go_wp2
                    go_roundw
                    case rel => exact ⟨k + 1, mr, by omega, by go_num, hlen3, HN3.out.2.2.2, HN3.out.1, HN3.out.2.1, HN3.out.2.2.1⟩
                    case measure => simp [intOf]; omega
              · have hge : ¬ (k : Int) < (kl.length : Int) := by omega
                have he : mr = markL (lowB i) kl m2 := by rw [← hrest3, List.drop_of_length_le (by omega)]; rfl
                have H3 := Hid.mk7 (And.intro hm3 (And.intro hb3 he))
                clear hrest3 hm3 hb3 he emi hmi3
                go_wp2
                go_roundw
                case rel => exact ⟨i, mr, by omega, by go_num, hlen3, by rw [H3.out.2.2]; exact HN.out.1, H3.out.1, H3.out.2.1⟩
                case measure => simp [intOf]
        | zero =>
          have hneg : ¬ (0 : Int) ≤ (((0 : Nat) : Int) - 1) := by omega
          have HD2 := Hid.mk7 hrest2
          have H2 := Hid.mk7 (And.intro hm2 hb2)
          clear hrest2 hm2 hb2
          go_wp2_with fail
          clear hneg
          go_loopw [9, 10] (fun V ix wr => ∃ (j : Nat) (acc : List Int), j ≤ K.length ∧ ix = .int .i64 j ∧ acc.length ≤ j ∧ acc ++ marked j (m2.drop j) = belowS K.length (kidsOf K) roots ∧ OwnI wr V acc ∧ (∀ k, blk V k → w.heap.size < k) ∧ MetAt wr w.heap.size m2 ∧ Below w.heap.size w wr) (fun _ ix _ => K.length - (intOf ix).toNat)
          case atStart => exact ⟨0, [], Nat.zero_le _, rfl, Nat.le_refl _, HD2.out, OwnK.nil 1 _, fun _ e => e.elim, H2.out.1, H2.out.2⟩
          case round =>
            clear HD2 H2
            obtain ⟨j3, acc, hj3, rfl, hal, hrest3, ho3, hof3, hm3, hb3⟩ := hrel
            obtain ⟨aV, cV, hV, _⟩ := OwnK.sl ho3 |>.form
            subst hV
            by_cases hlt : j3 < K.length
            · have hji : (j3 : Int) < (K.length : Int) := by omega
              have him : j3 < m2.length := by omega
              obtain ⟨cm, fm⟩ := hm3.c j3 him
              rw [marked_drop m2 j3 him] at hrest3
              cases hmi : m2[j3] with
              | false =>
                rw [hmi] at cm hrest3
                have HN := Hid.mk7 (And.intro (show acc ++ marked (j3 + 1) (m2.drop (j3 + 1)) = _ from by simpa using hrest3) (And.intro ho3 (And.intro hof3 (And.intro hm3 hb3))))
                clear hrest3 ho3 hof3 hm3 hb3 hmi
                go_wp2
                go_roundw
                case rel => exact ⟨j3 + 1, acc, by omega, by go_num, by omega, HN.out.1, HN.out.2.1, HN.out.2.2.1, HN.out.2.2.2.1, HN.out.2.2.2.2⟩
                case measure => simp [intOf]; omega
              | true =>
                rw [hmi] at cm hrest3
                have hfit : (acc.length + [(j3 : Int)].length) * 8 ≤ 140737488355328 := by simp; omega
                have hfit2 : acc.length + [(j3 : Int)].length ≤ 4611686018427387903 := by simp; omega
                have HN := Hid.mk7 (And.intro (show (acc ++ [(j3 : Int)]) ++ marked (j3 + 1) (m2.drop (j3 + 1)) = _ from by simpa using hrest3) (And.intro ho3 (And.intro hof3 (And.intro hm3 hb3))))
                clear hrest3 ho3 hof3 hm3 hb3 hmi
                go_wp2_with (at_builtin; refine wpList_append_k (by rfl) (.tmp 104) (.tmp 106) (by rfl) Tryz.intTypes (by rfl) (by rfl) (OwnK.turned HN.out.2.1 (Turned.alloc (fun _ => False) _ _) (fun _ _ e => e)) (SlI.one _ _ _) (ints_one _) hfit hfit2 ?_; intro V4 w4 ho4 T4 hv4)
                obtain ⟨e3, ho3, hof3, hm3, hb3⟩ := HN.out
                have hz3 := hb3.size
                have hmlt := hm3.lt
                have B4 := hb3.trans ((Below.alloc0 _ (.cells #[.int .i64 (j3 : Int)] 3)).mono hz3)
                have H4 := Hid.mk7 (And.intro (OwnI.snoc ho4) (And.intro (show ∀ k, blk V4 k → w.heap.size < k from fun k hk => (hv4 k hk).elim (hof3 k) (fun e => by simp at e; omega)) (And.intro ((hm3.turned (Turned.alloc (fun _ => False) _ (.cells #[.int .i64 (j3 : Int)] 3)) (fun e => e)).turned T4 (fun e => by have := hof3 _ e; omega)) (B4.trans (T4.below B4.size (fun k hk => Nat.le_of_lt (hof3 k hk)))))))
                clear ho4 T4 hv4 e3 ho3 hof3 hm3 hb3 B4
                go_wp2
                go_roundw
                case rel => exact ⟨j3 + 1, acc ++ [(j3 : Int)], by omega, by go_num, by simp; omega, HN.out.1, H4.out.1, H4.out.2.1, H4.out.2.2.1, H4.out.2.2.2⟩
                case measure => simp [intOf]; omega
            · have hge : ¬ (j3 : Int) < (K.length : Int) := by omega
              have he : acc = belowS K.length (kidsOf K) roots := by rw [← hrest3, List.drop_of_length_le (by omega)]; simp [marked]
              have HE := Hid.mk7 he
              have HN := Hid.mk7 (And.intro ho3 (And.intro hb3 hof3))
              clear hrest3 ho3 hof3 hm3 hb3 he
              go_wp2
              go_ret
              exact ⟨_, rfl, by rw [← HE.out]; exact HN.out.1, HN.out.2.1, fun k hk => Nat.le_of_lt (HN.out.2.2 k hk)⟩
end Go.Proofs.YtlgkjjbefoeabaaGreatDoor
namespace Go.Proofs.YtlgkjjbefoeabaaGreatDoor
open Go.RowKit

set_option maxRecDepth 100000 in
set_option maxHeartbeats 1600000 in
theorem law_alive {w : World} (hw : SgAt w) : Calls Tryz.prog 6 #[] w fun x w' => x = .returned (.bool true) ∧ Below w.heap.size w w' := by
  have ht := ps_Text hw
  have eS : (.string S0 : Value) = .string ⟨#[45, 109, 111, 100, 117, 108, 101, 40, 109, 41, 46, 32, 102, 40, 88, 41, 32, 45, 62, 32, 88, 32, 43, 32, 49, 32, 42, 32, 50, 46]⟩ := rfl
  rw [eS] at ht
  clear eS hw
  go_enter Tryz.func6, Tryz.ntmps6
  go_wp2_with fail
  refine ht.mono ?_
  rintro x w1 ⟨Nv, N, rfl, e1, h1, hb1⟩
  have hNl : N.length = 12 := by have := congrArg List.length e1; simpa [NF_length] using this
  have hsh : ∀ j (h : j < N.length), N[j].sh = NF[j]'(by rw [NF_length]; omega) := fun j h => by
    have h2 : (N.map Nd.sh)[j]'(by simpa using h) = N[j].sh := by simp
    rw [← h2]
    congr 1
  obtain ⟨b, off, cap, hNv, k11, _, v11⟩ := h1.cells 11 (by omega)
  have s11 : N[11].kids = [10] := congrArg Sh.kids (hsh 11 (by omega))
  have q11 : N[11].kind = 28 := congrArg Sh.kind (hsh 11 (by omega))
  obtain ⟨ak, ck, hkv⟩ := SlI.form (h1.kid 11 (by omega))
  rw [s11] at hkv
  rw [hkv] at v11
  rw [q11] at k11
  have cell : ∀ j (h : j < N.length), w1.cell? ⟨b, off + j * 6, none⟩ = some (.int .i64 N[j].kind) ∧ w1.cell? ⟨b, off + j * 6 + 1, none⟩ = some (.string N[j].text) := fun j h => by
    obtain ⟨b', off', cap', e', c0, c1, _⟩ := h1.cells j h
    rw [hNv] at e'
    simp only [Value.slice.injEq, Option.some.injEq, Addr.mk.injEq, and_true, true_and] at e'
    obtain ⟨⟨rfl, rfl⟩, rfl⟩ := e'
    exact ⟨c0, c1⟩
  have zne : ∀ j (h : j < N.length), j ≤ 4 → ¬ N[j].kind = 15 := fun j h hj4 => by
    rw [show N[j].kind = (NF[j]'(by rw [NF_length]; omega)).kind from congrArg Sh.kind (hsh j h)]
    have : ∀ j (h : j < NF.length), j ≤ 4 → ¬ NF[j].kind = 15 := by decide +kernel
    exact this j _ hj4
  have q5 : N[5].kind = 15 ∧ N[5].text = ⟨#[42]⟩ := ⟨congrArg Sh.kind (hsh 5 (by omega)), congrArg Sh.text (hsh 5 (by omega))⟩
  have q6 : N[6].kind = 15 ∧ N[6].text = ⟨#[43]⟩ := ⟨congrArg Sh.kind (hsh 6 (by omega)), congrArg Sh.text (hsh 6 (by omega))⟩
  have k11' : w1.cell? ⟨b, off + 66, none⟩ = some (.int .i64 28) := k11
  have v11' : w1.cell? ⟨b, off + 70, none⟩ = some (.slice ak 1 ck) := v11
  have HC := Hid.mk7 (And.intro cell (And.intro zne (And.intro q5 q6)))
  rw [hNl] at hNv
  subst hNv
  have HB := Hid.mk7 hb1
  clear ht e1 h1 hb1 hsh k11 v11 s11 q11 hkv cell zne q5 q6
  go_wp2_with fail
  clear k11' v11'
  go_loopw [4] (fun ix wr => ∃ j : Nat, j ≤ 6 ∧ ix = .int .i64 j ∧ wr = w1) (fun ix _ => 7 - (intOf ix).toNat)
  case atStart => exact ⟨0, by omega, rfl, rfl⟩
  case round =>
    obtain ⟨j, hj, rfl, rfl⟩ := hrel
    have hjN : j < N.length := by omega
    have hji : (j : Int) < 12 := by omega
    obtain ⟨cj, tj⟩ := HC.out.1 j hjN
    by_cases h4 : j ≤ 4
    · have hne := HC.out.2.1 j hjN h4
      generalize N[j].kind = kd at cj hne
      generalize N[j].text = tx at tj
      go_wp2
      go_roundw
      case rel => exact ⟨j + 1, by omega, by go_num, trivial⟩
      case measure => simp [intOf]; omega
    · by_cases h5 : j = 5
      · subst h5
        rw [HC.out.2.2.1.1] at cj
        rw [HC.out.2.2.1.2] at tj
        go_wp2
        go_roundw
        case rel => exact ⟨6, by omega, rfl, trivial⟩
        case measure => simp [intOf]
      · obtain rfl : j = 6 := by omega
        rw [HC.out.2.2.2.1] at cj
        rw [HC.out.2.2.2.2] at tj
        go_wp2
        go_ret
        exact ⟨rfl, HB.out⟩
end Go.Proofs.YtlgkjjbefoeabaaGreatDoor
