/-
  The document's stream: one contract a call, whatever its arguments, in the words of Spec.
-/
import Derived.Test.YtjkmklbkemoldaaDoorSpec
namespace Go.Proofs.YtjkmklbkemoldaaDoor
open Go.RowKit

/-- R, and the blocks that have been made since. -/
def grow (R : Nat → Prop) (w w' : World) : Nat → Prop := fun k => R k ∨ (w.heap.size ≤ k ∧ k < w'.heap.size)

/-- The document's stream at block g, all of it in blocks of R. -/
def RefAt (w : World) (g : Nat) (R : Nat → Prop) (st : St) : Prop :=
  ∃ U0 U1 C0 C1, RefMem w g st U0 U1 C0 C1 ∧ R g ∧ (∀ k, blk U0 k → R k) ∧ (∀ k, blk U1 k → R k) ∧ (∀ k, blk C0 k → R k) ∧ (∀ k, blk C1 k → R k) ∧ ∀ k, R k → k < w.heap.size

theorem Part.apart {S : Nat → Prop} {w w' : World} {g : Nat} {v : Value} {zs : List Int} (h : Part w g v zs) (ht : Turned S w w') (hs : ∀ k, blk v k → ¬ S k) : Part w' g v zs :=
  ⟨h.sl.turned ht hs, fun k hk => Nat.lt_of_lt_of_le (h.lt k hk) ht.size, h.ne⟩

theorem RefAt.turned {S R : Nat → Prop} {w w' : World} {g : Nat} {st : St} (h : RefAt w g R st) (ht : Turned S w w') (hs : ∀ k, R k → ¬ S k) : RefAt w' g R st := by
  obtain ⟨U0, U1, C0, C1, h, hg, b0, b1, b2, b3, hl⟩ := h
  exact ⟨U0, U1, C0, C1, ⟨h.cells.turned ht (hs g hg), h.u0.apart ht (fun k hk => hs k (b0 k hk)), h.u1.apart ht (fun k hk => hs k (b1 k hk)), h.c0.apart ht (fun k hk => hs k (b2 k hk)), h.c1.apart ht (fun k hk => hs k (b3 k hk))⟩, hg, b0, b1, b2, b3, fun k hk => Nat.lt_of_lt_of_le (hl k hk) ht.size⟩

theorem RefAt.wider {R : Nat → Prop} {w w0 : World} {g : Nat} {st : St} (h : RefAt w g R st) : RefAt w g (grow R w0 w) st := by
  obtain ⟨U0, U1, C0, C1, h, hg, b0, b1, b2, b3, hl⟩ := h
  exact ⟨U0, U1, C0, C1, h, .inl hg, fun k hk => .inl (b0 k hk), fun k hk => .inl (b1 k hk), fun k hk => .inl (b2 k hk), fun k hk => .inl (b3 k hk), fun k hk => hk.elim (hl k) (·.2)⟩

theorem RefAt.same {R : Nat → Prop} {w w' : World} {g : Nat} {st : St} (h : RefAt w g R st) (hb : Below w.heap.size w w') : RefAt w' g (grow R w w') st :=
  (h.turned (S := fun _ => False) (Turned.ofBelow hb) (fun _ _ h => h)).wider

theorem doc_send {w : World} {g : Nat} {R : Nat → Prop} {st : St} (hR : RefAt w g R st) (hok : st.Ok) (e : Int) {x : Value} {bs : List Int} (hx : Sl w x bs) (hbs : bs.length ≤ 140737488355328) :
    Calls Tryd.prog 23 #[.pointer (some ⟨g, 0, none⟩), .int .i64 e, x] w fun ev w' => ∃ v, ev = .returned v ∧ Links w.heap.size w' v (st.send e bs).1 ∧ RefAt w' g (grow R w w') (st.send e bs).2 ∧ Turned (fun k => k = g) w w' := by
  have hR0 := hR
  obtain ⟨U0, U1, C0, C1, h, hg, b0, b1, b2, b3, hl⟩ := hR
  by_cases hb : bad e = true
  · obtain ⟨e0, e1⟩ := bad_no hb
    rw [show st.send e bs = (some 2, st) by simp [St.send, hb]]
    refine (ref_send_range g st U0 U1 C0 C1 e x w h e0 e1).mono ?_
    rintro ev w' ⟨v, rfl, hlk, hb⟩
    exact ⟨v, rfl, hlk, hR0.same hb, Turned.ofBelow hb⟩
  · rcases bad_yes hb with rfl | rfl
    · by_cases hs : st.shut = true
      · rw [show st.send 0 bs = (some 100, st) by simp [St.send, bad, hs]]
        refine (ref_send_shut0 g st U0 U1 C0 C1 x w h hs).mono ?_
        rintro ev w' ⟨v, rfl, hlk, hb⟩
        exact ⟨v, rfl, hlk, hR0.same hb, Turned.ofBelow hb⟩
      · have hs : st.shut = false := by simpa using hs
        by_cases hlo : 4194304 < (st.a.und.length : Int) + bs.length
        · rw [show st.send 0 bs = (some 4, st) by simp [St.send, bad, hs, St.at, hlo]]
          refine (ref_send_long0 g st U0 U1 C0 C1 x bs w h hs hx hlo hbs (Nat.le_trans hok.ua (by omega))).mono ?_
          rintro ev w' ⟨v, rfl, hlk, hb⟩
          exact ⟨v, rfl, hlk, hR0.same hb, Turned.ofBelow hb⟩
        · rw [show st.send 0 bs = (none, { st with a := { st.a with und := st.a.und ++ bs, sent := wrap64 (st.a.sent + bs.length) } }) by simp [St.send, bad, hs, St.at, St.up, hlo]]
          refine (ref_send0 g st U0 U1 C0 C1 x bs w h hx hs (by omega)).mono ?_
          rintro ev w' ⟨U', rfl, Rr, T, hU⟩
          exact ⟨_, rfl, rfl, ⟨_, _, _, _, Rr, .inl hg, fun k hk => .inr ⟨hU k hk, Rr.u0.lt k hk⟩, fun k hk => .inl (b1 k hk), fun k hk => .inl (b2 k hk), fun k hk => .inl (b3 k hk), fun k hk => hk.elim (fun h => Nat.lt_of_lt_of_le (hl k h) T.size) (·.2)⟩, T⟩
    · by_cases hs : st.shut = true
      · rw [show st.send 1 bs = (some 100, st) by simp [St.send, bad, hs]]
        refine (ref_send_shut1 g st U0 U1 C0 C1 x w h hs).mono ?_
        rintro ev w' ⟨v, rfl, hlk, hb⟩
        exact ⟨v, rfl, hlk, hR0.same hb, Turned.ofBelow hb⟩
      · have hs : st.shut = false := by simpa using hs
        by_cases hlo : 4194304 < (st.b.und.length : Int) + bs.length
        · rw [show st.send 1 bs = (some 4, st) by simp [St.send, bad, hs, St.at, hlo]]
          refine (ref_send_long1 g st U0 U1 C0 C1 x bs w h hs hx hlo hbs (Nat.le_trans hok.ub (by omega))).mono ?_
          rintro ev w' ⟨v, rfl, hlk, hb⟩
          exact ⟨v, rfl, hlk, hR0.same hb, Turned.ofBelow hb⟩
        · rw [show st.send 1 bs = (none, { st with b := { st.b with und := st.b.und ++ bs, sent := wrap64 (st.b.sent + bs.length) } }) by simp [St.send, bad, hs, St.at, St.up, hlo]]
          refine (ref_send1 g st U0 U1 C0 C1 x bs w h hx hs (by omega)).mono ?_
          rintro ev w' ⟨U', rfl, Rr, T, hU⟩
          exact ⟨_, rfl, rfl, ⟨_, _, _, _, Rr, .inl hg, fun k hk => .inl (b0 k hk), fun k hk => .inr ⟨hU k hk, Rr.u1.lt k hk⟩, fun k hk => .inl (b2 k hk), fun k hk => .inl (b3 k hk), fun k hk => hk.elim (fun h => Nat.lt_of_lt_of_le (hl k h) T.size) (·.2)⟩, T⟩

theorem doc_stall {w : World} {g : Nat} {R : Nat → Prop} {st : St} (hR : RefAt w g R st) (_hok : st.Ok) (e : Int) (y : Bool) :
    Calls Tryd.prog 25 #[.pointer (some ⟨g, 0, none⟩), .int .i64 e, .bool y] w fun ev w' => ∃ v, ev = .returned v ∧ Links w.heap.size w' v (st.stall e y).1 ∧ RefAt w' g (grow R w w') (st.stall e y).2 ∧ Turned (fun k => k = g) w w' := by
  have hR0 := hR
  obtain ⟨U0, U1, C0, C1, h, hg, b0, b1, b2, b3, hl⟩ := hR
  by_cases hb : bad e = true
  · obtain ⟨e0, e1⟩ := bad_no hb
    rw [show st.stall e y = (some 2, st) by simp [St.stall, hb]]
    refine (ref_stall_range g st U0 U1 C0 C1 e y w h e0 e1).mono ?_
    rintro ev w' ⟨v, rfl, hlk, hb⟩
    exact ⟨v, rfl, hlk, hR0.same hb, Turned.ofBelow hb⟩
  · rcases bad_yes hb with rfl | rfl
    · by_cases hs : st.shut = true
      · rw [show st.stall 0 y = (some 100, st) by simp [St.stall, bad, hs]]
        refine (ref_stall_shut0 g st U0 U1 C0 C1 y w h hs).mono ?_
        rintro ev w' ⟨v, rfl, hlk, hb⟩
        exact ⟨v, rfl, hlk, hR0.same hb, Turned.ofBelow hb⟩
      · have hs : st.shut = false := by simpa using hs
        rw [show st.stall 0 y = (none, { st with a := { st.a with stall := y } }) by simp [St.stall, bad, hs, St.at, St.up]]
        refine (ref_stall0 g st U0 U1 C0 C1 y w h hs).mono ?_
        rintro ev w' ⟨rfl, Rr, T⟩
        exact ⟨_, rfl, rfl, ⟨_, _, _, _, Rr, .inl hg, fun k hk => .inl (b0 k hk), fun k hk => .inl (b1 k hk), fun k hk => .inl (b2 k hk), fun k hk => .inl (b3 k hk), fun k hk => hk.elim (fun h => Nat.lt_of_lt_of_le (hl k h) T.size) (·.2)⟩, T⟩
    · by_cases hs : st.shut = true
      · rw [show st.stall 1 y = (some 100, st) by simp [St.stall, bad, hs]]
        refine (ref_stall_shut1 g st U0 U1 C0 C1 y w h hs).mono ?_
        rintro ev w' ⟨v, rfl, hlk, hb⟩
        exact ⟨v, rfl, hlk, hR0.same hb, Turned.ofBelow hb⟩
      · have hs : st.shut = false := by simpa using hs
        rw [show st.stall 1 y = (none, { st with b := { st.b with stall := y } }) by simp [St.stall, bad, hs, St.at, St.up]]
        refine (ref_stall1 g st U0 U1 C0 C1 y w h hs).mono ?_
        rintro ev w' ⟨rfl, Rr, T⟩
        exact ⟨_, rfl, rfl, ⟨_, _, _, _, Rr, .inl hg, fun k hk => .inl (b0 k hk), fun k hk => .inl (b1 k hk), fun k hk => .inl (b2 k hk), fun k hk => .inl (b3 k hk), fun k hk => hk.elim (fun h => Nat.lt_of_lt_of_le (hl k h) T.size) (·.2)⟩, T⟩

theorem doc_break {w : World} {g : Nat} {R : Nat → Prop} {st : St} (hR : RefAt w g R st) (_hok : st.Ok) :
    Calls Tryd.prog 27 #[.pointer (some ⟨g, 0, none⟩)] w fun ev w' => ∃ v, ev = .returned v ∧ Links w.heap.size w' v (st.break).1 ∧ RefAt w' g (grow R w w') (st.break).2 ∧ Turned (fun k => k = g) w w' := by
  have hR0 := hR
  obtain ⟨U0, U1, C0, C1, h, hg, b0, b1, b2, b3, hl⟩ := hR
  by_cases hs : st.shut = true
  · rw [show st.break = (some 100, st) by simp [St.break, hs]]
    refine (ref_break_shut g st U0 U1 C0 C1 w h hs).mono ?_
    rintro ev w' ⟨v, rfl, hlk, hb⟩
    exact ⟨v, rfl, hlk, hR0.same hb, Turned.ofBelow hb⟩
  · have hs : st.shut = false := by simpa using hs
    rw [show st.break = (none, st.cut) by simp [St.break, hs]]
    refine (ref_break g st U0 U1 C0 C1 w h hs).mono ?_
    rintro ev w' ⟨rfl, Rr, T⟩
    exact ⟨_, rfl, rfl, ⟨_, _, _, _, Rr, .inl hg, fun k hk => hk.elim, fun k hk => hk.elim, fun k hk => .inl (b2 k hk), fun k hk => .inl (b3 k hk), fun k hk => hk.elim (fun h => Nat.lt_of_lt_of_le (hl k h) T.size) (·.2)⟩, T⟩

theorem doc_close {w : World} {g : Nat} {R : Nat → Prop} {st : St} (hR : RefAt w g R st) (hok : st.Ok) (e : Int) :
    Calls Tryd.prog 28 #[.pointer (some ⟨g, 0, none⟩), .int .i64 e] w fun ev w' => ∃ v, ev = .returned v ∧ Links w.heap.size w' v (st.close e).1 ∧ RefAt w' g (grow R w w') (st.close e).2 ∧ Turned (fun k => k = g) w w' := by
  have hR0 := hR
  obtain ⟨U0, U1, C0, C1, h, hg, b0, b1, b2, b3, hl⟩ := hR
  by_cases hb : bad e = true
  · obtain ⟨e0, e1⟩ := bad_no hb
    rw [show st.close e = (some 2, st) by simp [St.close, hb]]
    refine (ref_close_range g st U0 U1 C0 C1 e w h e0 e1).mono ?_
    rintro ev w' ⟨v, rfl, hlk, hb⟩
    exact ⟨v, rfl, hlk, hR0.same hb, Turned.ofBelow hb⟩
  · rcases bad_yes hb with rfl | rfl
    · by_cases hs : st.shut = true
      · rw [show st.close 0 = (some 100, st) by simp [St.close, bad, hs]]
        refine (ref_close_shut0 g st U0 U1 C0 C1 w h hs).mono ?_
        rintro ev w' ⟨v, rfl, hlk, hb⟩
        exact ⟨v, rfl, hlk, hR0.same hb, Turned.ofBelow hb⟩
      · have hs : st.shut = false := by simpa using hs
        rw [show st.close 0 = (none, { a := { st.a with und := [] }, b := { st.b with und := [], come := st.b.come ++ st.a.und, moved := wrap64 (st.b.moved + st.a.und.length) }, shut := true }) by simp [St.close, bad, hs, St.at, St.other, St.both, St.mv, St.cut]]
        refine (ref_close0 g st U0 U1 C0 C1 w h hs (Nat.le_trans hok.ua (by omega)) (Nat.le_trans hok.cb (by omega))).mono ?_
        rintro ev w' ⟨C', rfl, Rr, T, hC⟩
        exact ⟨_, rfl, rfl, ⟨_, _, _, _, Rr, .inl hg, fun k hk => hk.elim, fun k hk => hk.elim, fun k hk => .inl (b2 k hk), fun k hk => .inr ⟨hC k hk, Rr.c1.lt k hk⟩, fun k hk => hk.elim (fun h => Nat.lt_of_lt_of_le (hl k h) T.size) (·.2)⟩, T⟩
    · by_cases hs : st.shut = true
      · rw [show st.close 1 = (some 100, st) by simp [St.close, bad, hs]]
        refine (ref_close_shut1 g st U0 U1 C0 C1 w h hs).mono ?_
        rintro ev w' ⟨v, rfl, hlk, hb⟩
        exact ⟨v, rfl, hlk, hR0.same hb, Turned.ofBelow hb⟩
      · have hs : st.shut = false := by simpa using hs
        rw [show st.close 1 = (none, { a := { st.a with und := [], come := st.a.come ++ st.b.und, moved := wrap64 (st.a.moved + st.b.und.length) }, b := { st.b with und := [] }, shut := true }) by simp [St.close, bad, hs, St.at, St.other, St.both, St.mv, St.cut]]
        refine (ref_close1 g st U0 U1 C0 C1 w h hs (Nat.le_trans hok.ub (by omega)) (Nat.le_trans hok.ca (by omega))).mono ?_
        rintro ev w' ⟨C', rfl, Rr, T, hC⟩
        exact ⟨_, rfl, rfl, ⟨_, _, _, _, Rr, .inl hg, fun k hk => hk.elim, fun k hk => hk.elim, fun k hk => .inr ⟨hC k hk, Rr.c0.lt k hk⟩, fun k hk => .inl (b3 k hk), fun k hk => hk.elim (fun h => Nat.lt_of_lt_of_le (hl k h) T.size) (·.2)⟩, T⟩

theorem doc_move {w : World} {g : Nat} {R : Nat → Prop} {st : St} (hR : RefAt w g R st) (hok : st.Ok) (e m : Int) :
    Calls Tryd.prog 24 #[.pointer (some ⟨g, 0, none⟩), .int .i64 e, .int .i64 m] w fun ev w' => ∃ v, ev = .returned v ∧ Links w.heap.size w' v (st.move e m).1 ∧ RefAt w' g (grow R w w') (st.move e m).2 ∧ Turned (fun k => k = g) w w' := by
  have hR0 := hR
  obtain ⟨U0, U1, C0, C1, h, hg, b0, b1, b2, b3, hl⟩ := hR
  by_cases hb : bad e = true
  · obtain ⟨e0, e1⟩ := bad_no hb
    rw [show st.move e m = (some 2, st) by simp [St.move, hb]]
    refine (ref_move_range g st U0 U1 C0 C1 e m w h e0 e1).mono ?_
    rintro ev w' ⟨v, rfl, hlk, hb⟩
    exact ⟨v, rfl, hlk, hR0.same hb, Turned.ofBelow hb⟩
  · rcases bad_yes hb with rfl | rfl
    · by_cases hs : st.shut = true
      · rw [show st.move 0 m = (some 100, st) by simp [St.move, bad, hs]]
        refine (ref_move_shut0 g st U0 U1 C0 C1 m w h hs).mono ?_
        rintro ev w' ⟨v, rfl, hlk, hb⟩
        exact ⟨v, rfl, hlk, hR0.same hb, Turned.ofBelow hb⟩
      · have hs : st.shut = false := by simpa using hs
        by_cases hm : m < 0
        · rw [show st.move 0 m = (some 1, st) by simp [St.move, bad, hs, hm]]
          refine (ref_move_neg0 g st U0 U1 C0 C1 m w h hs hm).mono ?_
          rintro ev w' ⟨v, rfl, hlk, hb⟩
          exact ⟨v, rfl, hlk, hR0.same hb, Turned.ofBelow hb⟩
        · by_cases ht : st.a.stall = true
          · rw [show st.move 0 m = (some 101, st) by simp [St.move, bad, hs, St.at, hm, ht]]
            refine (ref_move_stalled0 g st U0 U1 C0 C1 m w h hs hm ht).mono ?_
            rintro ev w' ⟨v, rfl, hlk, hb⟩
            exact ⟨v, rfl, hlk, hR0.same hb, Turned.ofBelow hb⟩
          · have ht : st.a.stall = false := by simpa using ht
            by_cases hn : (st.a.und.length : Int) < m
            · rw [show st.move 0 m = (some 102, st) by simp [St.move, bad, hs, St.at, hm, ht, hn]]
              refine (ref_move_moves0 g st U0 U1 C0 C1 m w h hs hm ht hn).mono ?_
              rintro ev w' ⟨v, rfl, hlk, hb⟩
              exact ⟨v, rfl, hlk, hR0.same hb, Turned.ofBelow hb⟩
            · by_cases hlo : 4194304 < (st.b.come.length : Int) + m
              · rw [show st.move 0 m = (some 5, st) by simp [St.move, bad, hs, St.at, St.other, hm, ht, hn, hlo]]
                refine (ref_move_many0 g st U0 U1 C0 C1 m w h hs hm ht hn (Nat.le_trans hok.ua (by omega)) (Nat.le_trans hok.cb (by omega)) hlo).mono ?_
                rintro ev w' ⟨v, rfl, hlk, hb⟩
                exact ⟨v, rfl, hlk, hR0.same hb, Turned.ofBelow hb⟩
              · obtain ⟨n, rfl⟩ : ∃ n : Nat, m = n := ⟨m.toNat, by omega⟩
                rw [show st.move 0 (n : Int) = (none, { st with a := { st.a with und := st.a.und.drop n }, b := { st.b with come := st.b.come ++ st.a.und.take n, moved := wrap64 (st.b.moved + n) } }) by simp [St.move, bad, hs, St.at, St.other, ht, hn, hlo, St.mv, St.both]]
                refine (ref_move0 g st U0 U1 C0 C1 n w h hs ht (by omega) (Nat.le_trans hok.ua (by omega)) (Nat.le_trans hok.cb (by omega)) hlo).mono ?_
                rintro ev w' ⟨U', C', rfl, Rr, T, hU, hC⟩
                exact ⟨_, rfl, rfl, ⟨_, _, _, _, Rr, .inl hg, fun k hk => .inr ⟨hU k hk, Rr.u0.lt k hk⟩, fun k hk => .inl (b1 k hk), fun k hk => .inl (b2 k hk), fun k hk => .inr ⟨hC k hk, Rr.c1.lt k hk⟩, fun k hk => hk.elim (fun h => Nat.lt_of_lt_of_le (hl k h) T.size) (·.2)⟩, T⟩
    · by_cases hs : st.shut = true
      · rw [show st.move 1 m = (some 100, st) by simp [St.move, bad, hs]]
        refine (ref_move_shut1 g st U0 U1 C0 C1 m w h hs).mono ?_
        rintro ev w' ⟨v, rfl, hlk, hb⟩
        exact ⟨v, rfl, hlk, hR0.same hb, Turned.ofBelow hb⟩
      · have hs : st.shut = false := by simpa using hs
        by_cases hm : m < 0
        · rw [show st.move 1 m = (some 1, st) by simp [St.move, bad, hs, hm]]
          refine (ref_move_neg1 g st U0 U1 C0 C1 m w h hs hm).mono ?_
          rintro ev w' ⟨v, rfl, hlk, hb⟩
          exact ⟨v, rfl, hlk, hR0.same hb, Turned.ofBelow hb⟩
        · by_cases ht : st.b.stall = true
          · rw [show st.move 1 m = (some 101, st) by simp [St.move, bad, hs, St.at, hm, ht]]
            refine (ref_move_stalled1 g st U0 U1 C0 C1 m w h hs hm ht).mono ?_
            rintro ev w' ⟨v, rfl, hlk, hb⟩
            exact ⟨v, rfl, hlk, hR0.same hb, Turned.ofBelow hb⟩
          · have ht : st.b.stall = false := by simpa using ht
            by_cases hn : (st.b.und.length : Int) < m
            · rw [show st.move 1 m = (some 102, st) by simp [St.move, bad, hs, St.at, hm, ht, hn]]
              refine (ref_move_moves1 g st U0 U1 C0 C1 m w h hs hm ht hn).mono ?_
              rintro ev w' ⟨v, rfl, hlk, hb⟩
              exact ⟨v, rfl, hlk, hR0.same hb, Turned.ofBelow hb⟩
            · by_cases hlo : 4194304 < (st.a.come.length : Int) + m
              · rw [show st.move 1 m = (some 5, st) by simp [St.move, bad, hs, St.at, St.other, hm, ht, hn, hlo]]
                refine (ref_move_many1 g st U0 U1 C0 C1 m w h hs hm ht hn (Nat.le_trans hok.ub (by omega)) (Nat.le_trans hok.ca (by omega)) hlo).mono ?_
                rintro ev w' ⟨v, rfl, hlk, hb⟩
                exact ⟨v, rfl, hlk, hR0.same hb, Turned.ofBelow hb⟩
              · obtain ⟨n, rfl⟩ : ∃ n : Nat, m = n := ⟨m.toNat, by omega⟩
                rw [show st.move 1 (n : Int) = (none, { st with b := { st.b with und := st.b.und.drop n }, a := { st.a with come := st.a.come ++ st.b.und.take n, moved := wrap64 (st.a.moved + n) } }) by simp [St.move, bad, hs, St.at, St.other, ht, hn, hlo, St.mv, St.both]]
                refine (ref_move1 g st U0 U1 C0 C1 n w h hs ht (by omega) (Nat.le_trans hok.ub (by omega)) (Nat.le_trans hok.ca (by omega)) hlo).mono ?_
                rintro ev w' ⟨U', C', rfl, Rr, T, hU, hC⟩
                exact ⟨_, rfl, rfl, ⟨_, _, _, _, Rr, .inl hg, fun k hk => .inl (b0 k hk), fun k hk => .inr ⟨hU k hk, Rr.u1.lt k hk⟩, fun k hk => .inr ⟨hC k hk, Rr.c0.lt k hk⟩, fun k hk => .inl (b3 k hk), fun k hk => hk.elim (fun h => Nat.lt_of_lt_of_le (hl k h) T.size) (·.2)⟩, T⟩
end Go.Proofs.YtjkmklbkemoldaaDoor
