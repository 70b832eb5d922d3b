/-
  The program's stream does what is asked of it (Impl, ImplOwn): each of its calls answers as the document says, and touches its own memory alone.
-/
import Derived.Test.YtjkmklbkemoldaaDoorStrmMove
import Derived.Test.YtjkmklbkemoldaaDoorStrmShut
import Derived.Test.YtjkmklbkemoldaaDoorStrmChange
import Derived.Test.YtjkmklbkemoldaaDoorStrmNew
import Derived.Test.YtjkmklbkemoldaaDoorStrmState
import Derived.Test.YtjkmklbkemoldaaDoorOwn
namespace Go.Proofs.YtjkmklbkemoldaaDoor
open Go.RowKit

/-- The stream at sb has the state st, and lies in the blocks of S. -/
def StrMem (w : World) (sb : Nat) (S : Nat → Prop) (st : St) : Prop := ∃ f x y, Ends w sb f 1 8 x y st.a st.b st.shut ∧ S = ownBlk sb x y

def Out (w : World) (sb : Nat) (S : Nat → Prop) (w' : World) (v : Value) (r : Option Int × St) : Prop :=
  ∃ S', Errs w.heap.size w' v r.1 ∧ StrMem w' sb S' r.2 ∧ Turned S w w' ∧ ∀ k, S' k → S k ∨ w.heap.size ≤ k

set_option maxRecDepth 100000 in
theorem via_send {w : World} {sb : Nat} {R : Value → World → Prop} (e : Int) (b : Value) (h : Calls Tryd.prog 30 #[.pointer (some ⟨sb, 0, none⟩), .int .i64 e, .func (.func 31) #[b] #[]] w fun e w' => ∃ v, e = .returned v ∧ R v w') :
    Calls Tryd.prog 14 #[.pointer (some ⟨sb, 0, none⟩), .int .i64 e, b] w fun e w' => ∃ v, e = .returned v ∧ R v w' := by
  have hmf : ∀ (fn : Fn) (first cap : Array Value) (w : World), (Instr.makeFunc fn first cap).run Tryd.prog w = .ok (.func fn first cap) w := fun _ _ _ _ => rfl
  go_enter Tryd.func14, Tryd.ntmps14
  go_wp2_with fail
  refine h.mono ?_
  rintro e w1 ⟨v, rfl, hR⟩
  go_wp2
  go_ret
  exact ⟨v, rfl, hR⟩
set_option maxRecDepth 100000 in
theorem via_move {w : World} {sb : Nat} {R : Value → World → Prop} (e m : Int) (h : Calls Tryd.prog 30 #[.pointer (some ⟨sb, 0, none⟩), .int .i64 e, .func (.func 32) #[.int .i64 m] #[]] w fun e w' => ∃ v, e = .returned v ∧ R v w') :
    Calls Tryd.prog 15 #[.pointer (some ⟨sb, 0, none⟩), .int .i64 e, .int .i64 m] w fun e w' => ∃ v, e = .returned v ∧ R v w' := by
  have hmf : ∀ (fn : Fn) (first cap : Array Value) (w : World), (Instr.makeFunc fn first cap).run Tryd.prog w = .ok (.func fn first cap) w := fun _ _ _ _ => rfl
  go_enter Tryd.func15, Tryd.ntmps15
  go_wp2_with fail
  refine h.mono ?_
  rintro e w1 ⟨v, rfl, hR⟩
  go_wp2
  go_ret
  exact ⟨v, rfl, hR⟩
set_option maxRecDepth 100000 in
theorem via_set {w : World} {sb : Nat} {R : Value → World → Prop} (e : Int) (yes : Bool) (h : Calls Tryd.prog 30 #[.pointer (some ⟨sb, 0, none⟩), .int .i64 e, .func (.func 33) #[.bool yes] #[]] w fun e w' => ∃ v, e = .returned v ∧ R v w') :
    Calls Tryd.prog 16 #[.pointer (some ⟨sb, 0, none⟩), .int .i64 e, .bool yes] w fun e w' => ∃ v, e = .returned v ∧ R v w' := by
  have hmf : ∀ (fn : Fn) (first cap : Array Value) (w : World), (Instr.makeFunc fn first cap).run Tryd.prog w = .ok (.func fn first cap) w := fun _ _ _ _ => rfl
  go_enter Tryd.func16, Tryd.ntmps16
  go_wp2_with fail
  refine h.mono ?_
  rintro e w1 ⟨v, rfl, hR⟩
  go_wp2
  go_ret
  exact ⟨v, rfl, hR⟩
set_option maxRecDepth 100000 in
theorem via_finish {w : World} {sb : Nat} {R : Value → World → Prop} (e : Int) (h : Calls Tryd.prog 30 #[.pointer (some ⟨sb, 0, none⟩), .int .i64 e, .func (.func 41) #[.pointer (some ⟨sb, 0, none⟩)] #[]] w fun e w' => ∃ v, e = .returned v ∧ R v w') :
    Calls Tryd.prog 19 #[.pointer (some ⟨sb, 0, none⟩), .int .i64 e] w fun e w' => ∃ v, e = .returned v ∧ R v w' := by
  have hmf : ∀ (fn : Fn) (first cap : Array Value) (w : World), (Instr.makeFunc fn first cap).run Tryd.prog w = .ok (.func fn first cap) w := fun _ _ _ _ => rfl
  go_enter Tryd.func19, Tryd.ntmps19
  go_wp2_with fail
  refine h.mono ?_
  rintro e w1 ⟨v, rfl, hR⟩
  go_wp2
  go_ret
  exact ⟨v, rfl, hR⟩

section
variable {w : World} {sb : Nat} {f : Nat → Value} {x y : SideV} {st : St}

theorem out_ref {c : Int} {v : Value} {w' : World} (E : Ends w sb f 1 8 x y st.a st.b st.shut) (hf : FaultOf w.heap.size w' v c) (T : Turned (fun _ => False) w w') : Out w sb (ownBlk sb x y) w' v (some c, st) :=
  ⟨_, hf, ⟨f, x, y, E.fresh T, rfl⟩, T.mono (fun _ h => h.elim), fun _ h => .inl h⟩
theorem out_done {w' : World} (st' : St) (d : Done w sb 1 8 x y w' st'.a st'.b st'.shut) : Out w sb (ownBlk sb x y) w' .nilIface (none, st') := by
  obtain ⟨f', x', y', E', T, hS⟩ := d
  exact ⟨_, rfl, ⟨f', x', y', E', rfl⟩, T, hS⟩
theorem fault_mono {B B' : Nat} {w' : World} {v : Value} {c : Int} (h : FaultOf B w' v c) (hb : B' ≤ B) : FaultOf B' w' v c := by
  obtain ⟨pb, h0, h1⟩ := h
  exact ⟨pb, Nat.le_trans hb h0, h1⟩
/-- A refusal of a call's work. -/
theorem out_work {c : Int} {v : Value} {w1 w' : World} (E : Ends w sb f 1 8 x y st.a st.b st.shut) (T : Turned (fun _ => False) w w1) (hf : FaultOf w1.heap.size w' v c) (hb : Below w1.heap.size w1 w') : Out w sb (ownBlk sb x y) w' v (some c, st) :=
  out_ref E (fault_mono hf T.size) (T.trans (Turned.ofBelow hb) (fun _ h => .inl h))
theorem at0 : st.at 0 = st.a := rfl
theorem at1 : st.at 1 = st.b := rfl
theorem other0 : st.other 0 = st.b := rfl
theorem other1 : st.other 1 = st.a := rfl

theorem impl_send (E : Ends w sb f 1 8 x y st.a st.b st.shut) (hok : st.Ok) (e : Int) {b : Value} {bs : List Int} (hx : Sl w b bs) :
    Calls Tryd.prog 14 #[.pointer (some ⟨sb, 0, none⟩), .int .i64 e, b] w fun ev w' => ∃ v, ev = .returned v ∧ Out w sb (ownBlk sb x y) w' v (st.send e bs) := by
  refine via_send (R := fun v w' => Out w sb (ownBlk sb x y) w' v (st.send e bs)) e b ?_
  by_cases hb : bad e = true
  · have hr : st.send e bs = (some 2, st) := by unfold St.send; rw [if_pos hb]
    rw [hr]
    exact (change_bad E e (bad_no hb).1 (bad_no hb).2 _).mono fun ev w' ⟨v, h1, h2, h3⟩ => ⟨v, h1, out_ref E h2 (Turned.ofBelow h3)⟩
  by_cases hs : st.shut = true
  · have hr : st.send e bs = (some 100, st) := by unfold St.send; rw [if_neg hb, if_pos hs]
    rw [hr]
    have E1 := E
    rw [hs] at E1
    exact (change_shut E1 e (bad_yes hb) _).mono fun ev w' ⟨v, h1, h2, h3⟩ => ⟨v, h1, out_ref E h2 (Turned.ofBelow h3)⟩
  have hs' : st.shut = false := by simpa using hs
  have E1 := E
  rw [hs'] at E1
  have hca := hok.oa hs'
  have hcb := hok.ob hs'
  have hua := hok.ua
  have hub := hok.ub
  rcases bad_yes hb with rfl | rfl
  · by_cases hl : 4194304 < (st.a.und.length : Int) + bs.length
    · have hr : st.send 0 bs = (some 4, st) := by unfold St.send; rw [if_neg hb, if_neg hs, at0, if_pos hl]
      rw [hr]
      exact change_send0 E1 _ (fun w1 T => (send_long (E.fresh T) (hx.turned T (fun _ _ h => h)) hua hl).mono fun ev w' ⟨v, h1, h2, h3⟩ => ⟨v, h1, out_work E T h2 h3⟩)
    · have hr : st.send 0 bs = (none, st.up 0 { st.a with und := st.a.und ++ bs, sent := wrap64 (st.a.sent + bs.length) }) := by unfold St.send; rw [if_neg hb, if_neg hs, at0, if_neg hl]
      rw [hr]
      exact change_send0 E1 _ (fun w1 T => (send_ok (E.fresh T) (hx.turned T (fun _ _ h => h)) (by omega)).mono fun ev w' ⟨h1, h2⟩ => ⟨_, h1, out_done _ (h2.fresh T)⟩)
  · by_cases hl : 4194304 < (st.b.und.length : Int) + bs.length
    · have hr : st.send 1 bs = (some 4, st) := by unfold St.send; rw [if_neg hb, if_neg hs, at1, if_pos hl]
      rw [hr]
      exact change_send1 E1 _ (fun w1 T => (send_long (E.fresh T).swap (hx.turned T (fun _ _ h => h)) hub hl).mono fun ev w' ⟨v, h1, h2, h3⟩ => ⟨v, h1, out_work E T h2 h3⟩)
    · have hr : st.send 1 bs = (none, st.up 1 { st.b with und := st.b.und ++ bs, sent := wrap64 (st.b.sent + bs.length) }) := by unfold St.send; rw [if_neg hb, if_neg hs, at1, if_neg hl]
      rw [hr]
      exact change_send1 E1 _ (fun w1 T => (send_ok (E.fresh T).swap (hx.turned T (fun _ _ h => h)) (by omega)).mono fun ev w' ⟨h1, h2⟩ => ⟨_, h1, out_done _ (h2.swap.fresh T)⟩)

theorem impl_move (E : Ends w sb f 1 8 x y st.a st.b st.shut) (hok : st.Ok) (e m : Int) :
    Calls Tryd.prog 15 #[.pointer (some ⟨sb, 0, none⟩), .int .i64 e, .int .i64 m] w fun ev w' => ∃ v, ev = .returned v ∧ Out w sb (ownBlk sb x y) w' v (st.move e m) := by
  refine via_move (R := fun v w' => Out w sb (ownBlk sb x y) w' v (st.move e m)) e m ?_
  by_cases hb : bad e = true
  · have hr : st.move e m = (some 2, st) := by unfold St.move; rw [if_pos hb]
    rw [hr]
    exact (change_bad E e (bad_no hb).1 (bad_no hb).2 _).mono fun ev w' ⟨v, h1, h2, h3⟩ => ⟨v, h1, out_ref E h2 (Turned.ofBelow h3)⟩
  by_cases hs : st.shut = true
  · have hr : st.move e m = (some 100, st) := by unfold St.move; rw [if_neg hb, if_pos hs]
    rw [hr]
    have E1 := E
    rw [hs] at E1
    exact (change_shut E1 e (bad_yes hb) _).mono fun ev w' ⟨v, h1, h2, h3⟩ => ⟨v, h1, out_ref E h2 (Turned.ofBelow h3)⟩
  have hs' : st.shut = false := by simpa using hs
  have E1 := E
  rw [hs'] at E1
  have hca := hok.oa hs'
  have hcb := hok.ob hs'
  have hua := hok.ua
  have hub := hok.ub
  rcases bad_yes hb with rfl | rfl
  · by_cases hm : m < 0
    · have hr : st.move 0 m = (some 1, st) := by unfold St.move; rw [if_neg hb, if_neg hs, if_pos hm]
      rw [hr]
      exact change_move0 E1 _ (fun w1 T => (move_arg m hm w1 _ _).mono fun ev w' ⟨v, h1, h2, h3⟩ => ⟨v, h1, out_work E T h2 h3⟩)
    by_cases hst : st.a.stall = true
    · have hr : st.move 0 m = (some 101, st) := by unfold St.move; rw [if_neg hb, if_neg hs, if_neg hm, at0, if_pos hst]
      rw [hr]
      exact change_move0 E1 _ (fun w1 T => (move_stalled (E.fresh T) m hm hst).mono fun ev w' ⟨v, h1, h2, h3⟩ => ⟨v, h1, out_work E T h2 h3⟩)
    have hst' : st.a.stall = false := by simpa using hst
    by_cases hl : (st.a.und.length : Int) < m
    · have hr : st.move 0 m = (some 102, st) := by unfold St.move; rw [if_neg hb, if_neg hs, if_neg hm, at0, if_neg hst, if_pos hl]
      rw [hr]
      exact change_move0 E1 _ (fun w1 T => (move_moves (E.fresh T) m hm hst' (by omega) hl).mono fun ev w' ⟨v, h1, h2, h3⟩ => ⟨v, h1, out_work E T h2 h3⟩)
    by_cases hl2 : 4194304 < (st.b.come.length : Int) + m
    · have hr : st.move 0 m = (some 5, st) := by unfold St.move; rw [if_neg hb, if_neg hs, if_neg hm, at0, if_neg hst, if_neg hl, other0, if_pos hl2]
      rw [hr]
      exact change_move0 E1 _ (fun w1 T => (move_many (E.fresh T) m hm hst' (by omega) (by omega) hl hl2).mono fun ev w' ⟨v, h1, h2, h3⟩ => ⟨v, h1, out_work E T h2 h3⟩)
    · have hr : st.move 0 m = (none, st.mv 0 m.toNat) := by unfold St.move; rw [if_neg hb, if_neg hs, if_neg hm, at0, if_neg hst, if_neg hl, other0, if_neg hl2]
      rw [hr]
      exact change_move0 E1 _ (fun w1 T => (move_ok (E.fresh T) m hm hst' (by omega) (by omega) hl hl2).mono fun ev w' ⟨h1, h2⟩ => ⟨_, h1, out_done _ (h2.fresh T)⟩)
  · by_cases hm : m < 0
    · have hr : st.move 1 m = (some 1, st) := by unfold St.move; rw [if_neg hb, if_neg hs, if_pos hm]
      rw [hr]
      exact change_move1 E1 _ (fun w1 T => (move_arg m hm w1 _ _).mono fun ev w' ⟨v, h1, h2, h3⟩ => ⟨v, h1, out_work E T h2 h3⟩)
    by_cases hst : st.b.stall = true
    · have hr : st.move 1 m = (some 101, st) := by unfold St.move; rw [if_neg hb, if_neg hs, if_neg hm, at1, if_pos hst]
      rw [hr]
      exact change_move1 E1 _ (fun w1 T => (move_stalled (E.fresh T).swap m hm hst).mono fun ev w' ⟨v, h1, h2, h3⟩ => ⟨v, h1, out_work E T h2 h3⟩)
    have hst' : st.b.stall = false := by simpa using hst
    by_cases hl : (st.b.und.length : Int) < m
    · have hr : st.move 1 m = (some 102, st) := by unfold St.move; rw [if_neg hb, if_neg hs, if_neg hm, at1, if_neg hst, if_pos hl]
      rw [hr]
      exact change_move1 E1 _ (fun w1 T => (move_moves (E.fresh T).swap m hm hst' (by omega) hl).mono fun ev w' ⟨v, h1, h2, h3⟩ => ⟨v, h1, out_work E T h2 h3⟩)
    by_cases hl2 : 4194304 < (st.a.come.length : Int) + m
    · have hr : st.move 1 m = (some 5, st) := by unfold St.move; rw [if_neg hb, if_neg hs, if_neg hm, at1, if_neg hst, if_neg hl, other1, if_pos hl2]
      rw [hr]
      exact change_move1 E1 _ (fun w1 T => (move_many (E.fresh T).swap m hm hst' (by omega) (by omega) hl hl2).mono fun ev w' ⟨v, h1, h2, h3⟩ => ⟨v, h1, out_work E T h2 h3⟩)
    · have hr : st.move 1 m = (none, st.mv 1 m.toNat) := by unfold St.move; rw [if_neg hb, if_neg hs, if_neg hm, at1, if_neg hst, if_neg hl, other1, if_neg hl2]
      rw [hr]
      exact change_move1 E1 _ (fun w1 T => (move_ok (E.fresh T).swap m hm hst' (by omega) (by omega) hl hl2).mono fun ev w' ⟨h1, h2⟩ => ⟨_, h1, out_done _ (h2.swap.fresh T)⟩)

theorem impl_set (E : Ends w sb f 1 8 x y st.a st.b st.shut) (hok : st.Ok) (e : Int) (yes : Bool) :
    Calls Tryd.prog 16 #[.pointer (some ⟨sb, 0, none⟩), .int .i64 e, .bool yes] w fun ev w' => ∃ v, ev = .returned v ∧ Out w sb (ownBlk sb x y) w' v (st.stall e yes) := by
  refine via_set (R := fun v w' => Out w sb (ownBlk sb x y) w' v (st.stall e yes)) e yes ?_
  by_cases hb : bad e = true
  · have hr : st.stall e yes = (some 2, st) := by unfold St.stall; rw [if_pos hb]
    rw [hr]
    exact (change_bad E e (bad_no hb).1 (bad_no hb).2 _).mono fun ev w' ⟨v, h1, h2, h3⟩ => ⟨v, h1, out_ref E h2 (Turned.ofBelow h3)⟩
  by_cases hs : st.shut = true
  · have hr : st.stall e yes = (some 100, st) := by unfold St.stall; rw [if_neg hb, if_pos hs]
    rw [hr]
    have E1 := E
    rw [hs] at E1
    exact (change_shut E1 e (bad_yes hb) _).mono fun ev w' ⟨v, h1, h2, h3⟩ => ⟨v, h1, out_ref E h2 (Turned.ofBelow h3)⟩
  have hs' : st.shut = false := by simpa using hs
  have E1 := E
  rw [hs'] at E1
  have hca := hok.oa hs'
  have hcb := hok.ob hs'
  have hua := hok.ua
  have hub := hok.ub
  rcases bad_yes hb with rfl | rfl
  · have hr : st.stall 0 yes = (none, st.up 0 { st.a with stall := yes }) := by unfold St.stall; rw [if_neg hb, if_neg hs, at0]
    rw [hr]
    exact change_set0 E1 _ (fun w1 T => (set_ok (E.fresh T) yes).mono fun ev w' ⟨h1, h2⟩ => ⟨_, h1, out_done _ (h2.fresh T)⟩)
  · have hr : st.stall 1 yes = (none, st.up 1 { st.b with stall := yes }) := by unfold St.stall; rw [if_neg hb, if_neg hs, at1]
    rw [hr]
    exact change_set1 E1 _ (fun w1 T => (set_ok (E.fresh T).swap yes).mono fun ev w' ⟨h1, h2⟩ => ⟨_, h1, out_done _ (h2.swap.fresh T)⟩)

theorem impl_finish (E : Ends w sb f 1 8 x y st.a st.b st.shut) (hok : st.Ok) (e : Int) :
    Calls Tryd.prog 19 #[.pointer (some ⟨sb, 0, none⟩), .int .i64 e] w fun ev w' => ∃ v, ev = .returned v ∧ Out w sb (ownBlk sb x y) w' v (st.close e) := by
  refine via_finish (R := fun v w' => Out w sb (ownBlk sb x y) w' v (st.close e)) e ?_
  by_cases hb : bad e = true
  · have hr : st.close e = (some 2, st) := by unfold St.close; rw [if_pos hb]
    rw [hr]
    exact (change_bad E e (bad_no hb).1 (bad_no hb).2 _).mono fun ev w' ⟨v, h1, h2, h3⟩ => ⟨v, h1, out_ref E h2 (Turned.ofBelow h3)⟩
  by_cases hs : st.shut = true
  · have hr : st.close e = (some 100, st) := by unfold St.close; rw [if_neg hb, if_pos hs]
    rw [hr]
    have E1 := E
    rw [hs] at E1
    exact (change_shut E1 e (bad_yes hb) _).mono fun ev w' ⟨v, h1, h2, h3⟩ => ⟨v, h1, out_ref E h2 (Turned.ofBelow h3)⟩
  have hs' : st.shut = false := by simpa using hs
  have E1 := E
  rw [hs'] at E1
  have hca := hok.oa hs'
  have hcb := hok.ob hs'
  have hua := hok.ua
  have hub := hok.ub
  rcases bad_yes hb with rfl | rfl
  · have hr : st.close 0 = (none, ⟨{ st.a with und := [] }, { st.b with und := [], come := st.b.come ++ st.a.und, moved := wrap64 (st.b.moved + st.a.und.length) }, true⟩) := by
      unfold St.close
      rw [if_neg hb, if_neg hs, at0]
      show (none, St.cut (St.mv st 0 st.a.und.length)) = _
      simp [St.mv, St.both, St.cut, St.at, St.other]
    rw [hr]
    exact change_finish0 E1 _ (fun w1 T => (finish_any (E.fresh T) (by omega) (by omega)).mono fun ev w' ⟨h1, h2⟩ => ⟨_, h1, out_done ⟨{ st.a with und := [] }, { st.b with und := [], come := st.b.come ++ st.a.und, moved := wrap64 (st.b.moved + st.a.und.length) }, true⟩ (h2.fresh T)⟩)
  · have hr : st.close 1 = (none, ⟨{ st.a with und := [], come := st.a.come ++ st.b.und, moved := wrap64 (st.a.moved + st.b.und.length) }, { st.b with und := [] }, true⟩) := by
      unfold St.close
      rw [if_neg hb, if_neg hs, at1]
      show (none, St.cut (St.mv st 1 st.b.und.length)) = _
      simp [St.mv, St.both, St.cut, St.at, St.other]
    rw [hr]
    exact change_finish1 E1 _ (fun w1 T => (finish_any (E.fresh T).swap (by omega) (by omega)).mono fun ev w' ⟨h1, h2⟩ => ⟨_, h1, out_done ⟨{ st.a with und := [], come := st.a.come ++ st.b.und, moved := wrap64 (st.a.moved + st.b.und.length) }, { st.b with und := [] }, true⟩ (h2.swap.fresh T)⟩)

set_option maxRecDepth 100000 in
theorem impl_break (E : Ends w sb f 1 8 x y st.a st.b st.shut) :
    Calls Tryd.prog 18 #[.pointer (some ⟨sb, 0, none⟩)] w fun ev w' => ∃ v, ev = .returned v ∧ Out w sb (ownBlk sb x y) w' v st.break := by
  by_cases hs : st.shut = true
  · have hr : st.break = (some 100, st) := by unfold St.break; rw [if_pos hs]
    rw [hr]
    have E1 := E
    rw [hs] at E1
    have he := enter_shut E1 0 (.inl rfl)
    have HE : Hid (Ends w sb f 1 8 x y st.a st.b st.shut) := E
    clear E E1 hr
    go_enter Tryd.func18, Tryd.ntmps18
    go_wp2_with fail
    refine he.mono ?_
    rintro e w1 ⟨v, rfl, hf, hb⟩
    have hf' := hf
    obtain ⟨pb, _, rfl, _⟩ := hf
    go_wp2
    go_ret
    exact ⟨_, rfl, out_ref HE.out hf' (Turned.ofBelow hb)⟩
  · have hr : st.break = (none, st.cut) := by unfold St.break; rw [if_neg hs]
    rw [hr]
    have hs' : st.shut = false := by simpa using hs
    have hsh := shut_any E
    have E1 := E
    rw [hs'] at E1
    have he := enter_ok E1 0 (.inl rfl)
    clear E E1 hr hs
    go_enter Tryd.func18, Tryd.ntmps18
    go_wp2_with fail
    refine he.mono ?_
    rintro e w1 ⟨rfl, rfl⟩
    go_wp2_with fail
    refine hsh.mono ?_
    rintro e w2 ⟨rfl, hd⟩
    go_wp2
    go_ret
    exact ⟨_, rfl, out_done st.cut hd⟩

/-- What is asked of a Read. -/
def OutR (w : World) (sb : Nat) (S : Nat → Prop) (w' : World) (V v : Value) (r : Option Int × List Int × St) : Prop :=
  ∃ S', Errs w.heap.size w' v r.1 ∧ Own w' V r.2.1 ∧ StrMem w' sb S' r.2.2 ∧ Turned S w w' ∧ (∀ k, S' k → S k ∨ w.heap.size ≤ k) ∧ ∀ k, blk V k → w.heap.size ≤ k ∧ k < w'.heap.size ∧ ¬ S' k
theorem outR_ref {c : Int} {v : Value} {w' : World} (E : Ends w sb f 1 8 x y st.a st.b st.shut) (hf : FaultOf w.heap.size w' v c) (hb : Below w.heap.size w w') : OutR w sb (ownBlk sb x y) w' (.slice none 0 0) v (some c, [], st) :=
  ⟨_, hf, .inl ⟨rfl, rfl⟩, ⟨f, x, y, E.below hb, rfl⟩, Turned.ofBelow hb, fun _ h => .inl h, fun _ h => h.elim⟩
theorem outR_done0 {w' : World} {V : Value} {zs : List Int} (st' : St) (hV : Own w' V zs) (d : ReadDone w sb 1 8 x y w' V st'.a st'.b st'.shut) : OutR w sb (ownBlk sb x y) w' V .nilIface (none, zs, st') := by
  obtain ⟨f', x', y', E', T, hS, hv⟩ := d
  exact ⟨_, rfl, hV, ⟨f', x', y', E', rfl⟩, T, hS, hv⟩
theorem outR_done1 {w' : World} {V : Value} {zs : List Int} (st' : St) (hV : Own w' V zs) (d : ReadDone w sb 8 1 y x w' V st'.b st'.a st'.shut) : OutR w sb (ownBlk sb x y) w' V .nilIface (none, zs, st') := by
  obtain ⟨f', x', y', E', T, hS, hv⟩ := d
  exact ⟨_, rfl, hV, ⟨f', y', x', E'.swap, rfl⟩, T.mono (fun k h => .inl (ownBlk_swap h)), fun k hk => (hS k (ownBlk_swap hk)).imp ownBlk_swap id, fun k hk => ⟨(hv k hk).1, (hv k hk).2.1, fun h => (hv k hk).2.2 (ownBlk_swap h)⟩⟩

theorem impl_read (E : Ends w sb f 1 8 x y st.a st.b st.shut) (hok : st.Ok) (e m : Int) :
    Calls Tryd.prog 17 #[.pointer (some ⟨sb, 0, none⟩), .int .i64 e, .int .i64 m] w fun ev w' => ∃ V v, ev = .returned (.tuple #[V, v]) ∧ OutR w sb (ownBlk sb x y) w' V v (st.read e m) := by
  by_cases hb : bad e = true
  · have hr : st.read e m = (some 2, [], st) := by unfold St.read; rw [if_pos hb]
    rw [hr]
    exact (read_bad E e m (bad_no hb).1 (bad_no hb).2).mono fun ev w' ⟨v, h1, h2, h3⟩ => ⟨_, v, h1, outR_ref E h2 h3⟩
  have hca := hok.ca
  have hcb := hok.cb
  rcases bad_yes hb with rfl | rfl
  · by_cases hm : m < 0
    · have hr : st.read 0 m = (some 1, [], st) := by unfold St.read; rw [if_neg hb, if_pos hm]
      rw [hr]
      exact (read_arg E 0 m (.inl ⟨rfl, rfl⟩) hm).mono fun ev w' ⟨v, h1, h2, h3⟩ => ⟨_, v, h1, outR_ref E h2 h3⟩
    by_cases hse : st.shut = true ∧ st.a.come = []
    · have hr : st.read 0 m = (some 8, [], st) := by unfold St.read; rw [if_neg hb, if_neg hm, at0, if_pos hse]
      rw [hr]
      have E1 := E
      rw [hse.1] at E1
      exact (read_end E1 0 m (.inl ⟨rfl, rfl⟩) hm hse.2).mono fun ev w' ⟨v, h1, h2, h3⟩ => ⟨_, v, h1, outR_ref E h2 h3⟩
    have hr : st.read 0 m = (none, st.a.come.take (st.takes 0 m), st.up 0 { st.a with come := st.a.come.drop (st.takes 0 m), read := wrap64 (st.a.read + st.takes 0 m) }) := by unfold St.read; rw [if_neg hb, if_neg hm, at0, if_neg hse]
    rw [hr]
    have hk : st.takes 0 m ≤ st.a.come.length ∧ (((st.a.come.length : Int) < m ∧ st.takes 0 m = st.a.come.length) ∨ (¬ (st.a.come.length : Int) < m ∧ m = ((st.takes 0 m : Nat) : Int))) := by
      unfold St.takes
      rw [at0]
      by_cases h1 : m < (st.a.come.length : Int)
      · rw [if_pos h1]; omega
      · rw [if_neg h1]; omega
    by_cases hs : st.shut = true
    · have E1 := E
      rw [hs] at E1
      refine (read_take1 E1 0 m (.inl ⟨rfl, rfl⟩) hm (fun h => hse ⟨hs, h⟩) (by omega) _ hk.1 hk.2).mono fun ev w' ⟨V, h1, h2, h3⟩ => ⟨V, _, h1, outR_done0 _ h2 ?_⟩
      show ReadDone w sb _ _ _ _ w' V _ _ st.shut
      rw [hs]; exact h3
    · have hs' : st.shut = false := by simpa using hs
      have E1 := E
      rw [hs'] at E1
      refine (read_take0 E1 0 m (.inl ⟨rfl, rfl⟩) hm (by omega) _ hk.1 hk.2).mono fun ev w' ⟨V, h1, h2, h3⟩ => ⟨V, _, h1, outR_done0 _ h2 ?_⟩
      show ReadDone w sb _ _ _ _ w' V _ _ st.shut
      rw [hs']; exact h3
  · by_cases hm : m < 0
    · have hr : st.read 1 m = (some 1, [], st) := by unfold St.read; rw [if_neg hb, if_pos hm]
      rw [hr]
      exact (read_arg E.swap 1 m (.inr ⟨rfl, rfl⟩) hm).mono fun ev w' ⟨v, h1, h2, h3⟩ => ⟨_, v, h1, outR_ref E h2 h3⟩
    by_cases hse : st.shut = true ∧ st.b.come = []
    · have hr : st.read 1 m = (some 8, [], st) := by unfold St.read; rw [if_neg hb, if_neg hm, at1, if_pos hse]
      rw [hr]
      have E1 := E.swap
      rw [hse.1] at E1
      exact (read_end E1 1 m (.inr ⟨rfl, rfl⟩) hm hse.2).mono fun ev w' ⟨v, h1, h2, h3⟩ => ⟨_, v, h1, outR_ref E h2 h3⟩
    have hr : st.read 1 m = (none, st.b.come.take (st.takes 1 m), st.up 1 { st.b with come := st.b.come.drop (st.takes 1 m), read := wrap64 (st.b.read + st.takes 1 m) }) := by unfold St.read; rw [if_neg hb, if_neg hm, at1, if_neg hse]
    rw [hr]
    have hk : st.takes 1 m ≤ st.b.come.length ∧ (((st.b.come.length : Int) < m ∧ st.takes 1 m = st.b.come.length) ∨ (¬ (st.b.come.length : Int) < m ∧ m = ((st.takes 1 m : Nat) : Int))) := by
      unfold St.takes
      rw [at1]
      by_cases h1 : m < (st.b.come.length : Int)
      · rw [if_pos h1]; omega
      · rw [if_neg h1]; omega
    by_cases hs : st.shut = true
    · have E1 := E.swap
      rw [hs] at E1
      refine (read_take1 E1 1 m (.inr ⟨rfl, rfl⟩) hm (fun h => hse ⟨hs, h⟩) (by omega) _ hk.1 hk.2).mono fun ev w' ⟨V, h1, h2, h3⟩ => ⟨V, _, h1, outR_done1 _ h2 ?_⟩
      show ReadDone w sb _ _ _ _ w' V _ _ st.shut
      rw [hs]; exact h3
    · have hs' : st.shut = false := by simpa using hs
      have E1 := E.swap
      rw [hs'] at E1
      refine (read_take0 E1 1 m (.inr ⟨rfl, rfl⟩) hm (by omega) _ hk.1 hk.2).mono fun ev w' ⟨V, h1, h2, h3⟩ => ⟨V, _, h1, outR_done1 _ h2 ?_⟩
      show ReadDone w sb _ _ _ _ w' V _ _ st.shut
      rw [hs']; exact h3

theorem impl_state (E : Ends w sb f 1 8 x y st.a st.b st.shut) (hok : st.Ok) (e : Int) :
    Calls Tryd.prog 20 #[.pointer (some ⟨sb, 0, none⟩), .int .i64 e] w fun ev w' => ∃ v, ev = .returned (.tuple #[st.pipe e, v]) ∧ Errs w.heap.size w' v (St.stateErr e) ∧ Below w.heap.size w w' := by
  by_cases hb : bad e = true
  · have hr : St.stateErr e = some 2 := by unfold St.stateErr; rw [if_pos hb]
    have hp : st.pipe e = .agg #[.int .i64 0, .int .i64 0, .int .i64 0, .int .i64 0, .int .i64 0, .bool false, .bool false] := by unfold St.pipe; rw [if_pos hb]
    rw [hr, hp]
    exact (state_bad E e (bad_no hb).1 (bad_no hb).2).mono fun ev w' ⟨v, h1, h2, h3⟩ => ⟨v, h1, h2, h3⟩
  have hr : St.stateErr e = none := by unfold St.stateErr; rw [if_neg hb]
  have hca := hok.ca
  have hcb := hok.cb
  have hua := hok.ua
  have hub := hok.ub
  rw [hr]
  have hp : st.pipe e = .agg #[.int .i64 (st.at e).und.length, .int .i64 (st.at e).come.length, .int .i64 (st.at e).sent, .int .i64 (st.at e).moved, .int .i64 (st.at e).read, .bool (st.at e).stall, .bool st.shut] := by unfold St.pipe; rw [if_neg hb]
  rw [hp]
  rcases bad_yes hb with rfl | rfl
  · exact (state_ok E 0 (.inl ⟨rfl, rfl⟩) (by omega) (by omega)).mono fun ev w' ⟨h1, h2⟩ => ⟨_, h1, rfl, h2⟩
  · exact (state_ok E.swap 1 (.inr ⟨rfl, rfl⟩) (by omega) (by omega)).mono fun ev w' ⟨h1, h2⟩ => ⟨_, h1, rfl, h2⟩
end

/-- The program's stream does what is asked of it. -/
theorem strm_impl : ImplOwn StrMem where
  lt := by rintro w sb S st ⟨f, x, y, E, rfl⟩; exact E.lt
  turned := by rintro w w' sb S T st ⟨f, x, y, E, rfl⟩ ht hs; exact ⟨f, x, y, E.turned ht hs, rfl⟩
  new := fun w => (new_any w).mono fun ev w' ⟨sb, f, h1, h2, h3, h4⟩ => ⟨sb, _, h1, ⟨f, zeroV, zeroV, h2, rfl⟩, h3, fun k hk => by
    rcases hk with rfl | (h | h) | (h | h)
    · exact h4
    · exact h.elim
    · exact h.elim
    · exact h.elim
    · exact h.elim⟩
  send := by
    rintro w sb S st ⟨f, x, y, E, rfl⟩ hok e b bs hx _ _
    exact (impl_send E hok e hx).mono fun ev w' ⟨v, h1, S', h2⟩ => ⟨v, S', h1, h2⟩
  move := by
    rintro w sb S st ⟨f, x, y, E, rfl⟩ hok e m
    exact (impl_move E hok e m).mono fun ev w' ⟨v, h1, S', h2⟩ => ⟨v, S', h1, h2⟩
  stall := by
    rintro w sb S st ⟨f, x, y, E, rfl⟩ hok e yes
    exact (impl_set E hok e yes).mono fun ev w' ⟨v, h1, S', h2⟩ => ⟨v, S', h1, h2⟩
  brk := by
    rintro w sb S st ⟨f, x, y, E, rfl⟩ hok
    exact (impl_break E).mono fun ev w' ⟨v, h1, S', h2⟩ => ⟨v, S', h1, h2⟩
  close := by
    rintro w sb S st ⟨f, x, y, E, rfl⟩ hok e
    exact (impl_finish E hok e).mono fun ev w' ⟨v, h1, S', h2⟩ => ⟨v, S', h1, h2⟩
  read := by
    rintro w sb S st ⟨f, x, y, E, rfl⟩ hok e m
    exact (impl_read E hok e m).mono fun ev w' ⟨V, v, h1, S', h2, h3, h4⟩ => ⟨V, v, S', h1, h2, h3.sl, h4⟩
  state := by
    rintro w sb S st ⟨f, x, y, E, rfl⟩ hok e
    exact impl_state E hok e
  readOwn := by
    rintro w sb S st ⟨f, x, y, E, rfl⟩ hok e m
    exact (impl_read E hok e m).mono fun ev w' ⟨V, v, h1, S', h2⟩ => ⟨V, v, S', h1, h2⟩
end Go.Proofs.YtjkmklbkemoldaaDoor
