/-
  The document's New, Read and State, in the words of Spec; that every call keeps the bounds of a state.
-/
import Derived.Test.YtjkmklbkemoldaaDoorRefDoc
namespace Go.Proofs.YtjkmklbkemoldaaDoor
open Go.RowKit

theorem doc_new (w : World) : Calls Tryd.prog 10 #[] w fun ev w' => ∃ g, ev = .returned (.pointer (some ⟨g, 0, none⟩)) ∧ RefAt w' g (fun k => k = g) St.fresh ∧ Below w.heap.size w w' ∧ w.heap.size ≤ g := by
  go_enter Tryd.func10, Tryd.ntmps10
  go_wp2
  go_ret
  refine ⟨w.heap.size, rfl, ⟨_, _, _, _, ⟨?_, Part.nil _ _, Part.nil _ _, Part.nil _ _, Part.nil _ _⟩, rfl, fun _ h => h.elim, fun _ h => h.elim, fun _ h => h.elim, fun _ h => h.elim, fun k hk => by subst hk; simp⟩, (Below.refl _ _).alloc (Nat.le_refl _) _, Nat.le_refl _⟩
  refine forall13 ?_ ?_ ?_ ?_ ?_ ?_ ?_ ?_ ?_ ?_ ?_ ?_ ?_
  all_goals exact ⟨by simp [refCell, St.fresh], World.frozen?_alloc_new _ _ _ _⟩

theorem doc_state {w : World} {g : Nat} {R : Nat → Prop} {st : St} (hR : RefAt w g R st) (e : Int) :
    Calls Tryd.prog 29 #[.pointer (some ⟨g, 0, none⟩), .int .i64 e] w fun ev w' => ∃ v, ev = .returned (.tuple #[st.pipe e, v]) ∧ Links w.heap.size w' v (St.stateErr e) ∧ Below w.heap.size w w' := by
  obtain ⟨U0, U1, C0, C1, h, _⟩ := hR
  by_cases hb : bad e = true
  · obtain ⟨e0, e1⟩ := bad_no hb
    rw [show st.pipe e = .agg #[.int .i64 0, .int .i64 0, .int .i64 0, .int .i64 0, .int .i64 0, .bool false, .bool false] by simp [St.pipe, hb], show St.stateErr e = some 2 by simp [St.stateErr, hb]]
    exact ref_state_range _ e e0 e1 w
  · rcases bad_yes hb with rfl | rfl
    · refine (ref_state0 g st U0 U1 C0 C1 w h).mono ?_
      rintro ev w' ⟨rfl, hB⟩
      exact ⟨_, rfl, rfl, hB⟩
    · refine (ref_state1 g st U0 U1 C0 C1 w h).mono ?_
      rintro ev w' ⟨rfl, hB⟩
      exact ⟨_, rfl, rfl, hB⟩

theorem doc_read {w : World} {g : Nat} {R : Nat → Prop} {st : St} (hR : RefAt w g R st) (hok : st.Ok) (e m : Int) :
    Calls Tryd.prog 26 #[.pointer (some ⟨g, 0, none⟩), .int .i64 e, .int .i64 m] w fun ev w' => ∃ V v, ev = .returned (.tuple #[V, v]) ∧ Links w.heap.size w' v (st.read e m).1 ∧ Sl w' V (st.read e m).2.1 ∧ RefAt w' g (grow R w w') (st.read e m).2.2 ∧ Turned (fun k => k = g) w w' := by
  have hR0 := hR
  obtain ⟨U0, U1, C0, C1, h, hg, b0, b1, b2, b3, hl⟩ := hR
  by_cases hb : bad e = true
  · obtain ⟨e0, e1⟩ := bad_no hb
    rw [show st.read e m = (some 2, [], st) by simp [St.read, hb]]
    refine (ref_read_range g st U0 U1 C0 C1 e m w h e0 e1).mono ?_
    rintro ev w' ⟨v, rfl, hlk, hbe⟩
    exact ⟨_, v, rfl, hlk, .inl ⟨rfl, rfl⟩, hR0.same hbe, Turned.ofBelow hbe⟩
  · rcases bad_yes hb with rfl | rfl
    · by_cases hm : m < 0
      · rw [show st.read 0 m = (some 1, [], st) by simp [St.read, bad, hm]]
        refine (ref_read_neg0 g st U0 U1 C0 C1 m w h hm).mono ?_
        rintro ev w' ⟨v, rfl, hlk, hbe⟩
        exact ⟨_, v, rfl, hlk, .inl ⟨rfl, rfl⟩, hR0.same hbe, Turned.ofBelow hbe⟩
      · by_cases ho : st.shut = true ∧ st.a.come = []
        · rw [show st.read 0 m = (some 8, [], st) by simp [St.read, bad, hm, St.at, ho.1, ho.2]]
          refine (ref_read_over0 g st U0 U1 C0 C1 m w h ho.1 hm ho.2).mono ?_
          rintro ev w' ⟨v, rfl, hlk, hbe⟩
          exact ⟨_, v, rfl, hlk, .inl ⟨rfl, rfl⟩, hR0.same hbe, Turned.ofBelow hbe⟩
        · have hc3 : st.a.come.length ≤ 16777216 := Nat.le_trans hok.ca (by omega)
          by_cases hlt : m < (st.a.come.length : Int)
          · obtain ⟨n, rfl⟩ : ∃ n : Nat, m = n := ⟨m.toNat, by omega⟩
            rw [show st.read 0 (n : Int) = (none, st.a.come.take n, { st with a := { st.a with come := st.a.come.drop n, read := wrap64 (st.a.read + n) } }) by simp [St.read, bad, St.at, St.up, St.takes, ho, hlt]]
            by_cases hs : st.shut = true
            · refine (ref_read0sa g st U0 U1 C0 C1 n hlt w h hs (fun hn => ho ⟨hs, hn⟩) hc3).mono ?_
              rintro ev w' ⟨V, C', rfl, hV, Rr, T, hBV, hBC, hN⟩
              exact ⟨_, _, rfl, rfl, hV, ⟨_, _, _, _, Rr, .inl hg, fun k hk => .inl (b0 k hk), fun k hk => .inl (b1 k hk), fun k hk => .inr ⟨hBC k hk, Rr.c0.lt k hk⟩, fun k hk => .inl (b3 k hk), fun k hk => hk.elim (fun h => Nat.lt_of_lt_of_le (hl k h) T.size) (·.2)⟩, T⟩
            · refine (ref_read0a g st U0 U1 C0 C1 n hlt w h (by simpa using hs) hc3).mono ?_
              rintro ev w' ⟨V, C', rfl, hV, Rr, T, hBV, hBC, hN⟩
              exact ⟨_, _, rfl, rfl, hV, ⟨_, _, _, _, Rr, .inl hg, fun k hk => .inl (b0 k hk), fun k hk => .inl (b1 k hk), fun k hk => .inr ⟨hBC k hk, Rr.c0.lt k hk⟩, fun k hk => .inl (b3 k hk), fun k hk => hk.elim (fun h => Nat.lt_of_lt_of_le (hl k h) T.size) (·.2)⟩, T⟩
          · rw [show st.read 0 m = (none, st.a.come.take st.a.come.length, { st with a := { st.a with come := st.a.come.drop st.a.come.length, read := wrap64 (st.a.read + st.a.come.length) } }) by simp [St.read, bad, St.at, St.up, St.takes, ho, hlt, hm]]
            by_cases hs : st.shut = true
            · refine (ref_read0sb g st U0 U1 C0 C1 _ m hm hlt rfl w h hs (fun hn => ho ⟨hs, hn⟩) hc3).mono ?_
              rintro ev w' ⟨V, C', rfl, hV, Rr, T, hBV, hBC, hN⟩
              exact ⟨_, _, rfl, rfl, hV, ⟨_, _, _, _, Rr, .inl hg, fun k hk => .inl (b0 k hk), fun k hk => .inl (b1 k hk), fun k hk => .inr ⟨hBC k hk, Rr.c0.lt k hk⟩, fun k hk => .inl (b3 k hk), fun k hk => hk.elim (fun h => Nat.lt_of_lt_of_le (hl k h) T.size) (·.2)⟩, T⟩
            · refine (ref_read0b g st U0 U1 C0 C1 _ m hm hlt rfl w h (by simpa using hs) hc3).mono ?_
              rintro ev w' ⟨V, C', rfl, hV, Rr, T, hBV, hBC, hN⟩
              exact ⟨_, _, rfl, rfl, hV, ⟨_, _, _, _, Rr, .inl hg, fun k hk => .inl (b0 k hk), fun k hk => .inl (b1 k hk), fun k hk => .inr ⟨hBC k hk, Rr.c0.lt k hk⟩, fun k hk => .inl (b3 k hk), fun k hk => hk.elim (fun h => Nat.lt_of_lt_of_le (hl k h) T.size) (·.2)⟩, T⟩
    · by_cases hm : m < 0
      · rw [show st.read 1 m = (some 1, [], st) by simp [St.read, bad, hm]]
        refine (ref_read_neg1 g st U0 U1 C0 C1 m w h hm).mono ?_
        rintro ev w' ⟨v, rfl, hlk, hbe⟩
        exact ⟨_, v, rfl, hlk, .inl ⟨rfl, rfl⟩, hR0.same hbe, Turned.ofBelow hbe⟩
      · by_cases ho : st.shut = true ∧ st.b.come = []
        · rw [show st.read 1 m = (some 8, [], st) by simp [St.read, bad, hm, St.at, ho.1, ho.2]]
          refine (ref_read_over1 g st U0 U1 C0 C1 m w h ho.1 hm ho.2).mono ?_
          rintro ev w' ⟨v, rfl, hlk, hbe⟩
          exact ⟨_, v, rfl, hlk, .inl ⟨rfl, rfl⟩, hR0.same hbe, Turned.ofBelow hbe⟩
        · have hc3 : st.b.come.length ≤ 16777216 := Nat.le_trans hok.cb (by omega)
          by_cases hlt : m < (st.b.come.length : Int)
          · obtain ⟨n, rfl⟩ : ∃ n : Nat, m = n := ⟨m.toNat, by omega⟩
            rw [show st.read 1 (n : Int) = (none, st.b.come.take n, { st with b := { st.b with come := st.b.come.drop n, read := wrap64 (st.b.read + n) } }) by simp [St.read, bad, St.at, St.up, St.takes, ho, hlt]]
            by_cases hs : st.shut = true
            · refine (ref_read1sa g st U0 U1 C0 C1 n hlt w h hs (fun hn => ho ⟨hs, hn⟩) hc3).mono ?_
              rintro ev w' ⟨V, C', rfl, hV, Rr, T, hBV, hBC, hN⟩
              exact ⟨_, _, rfl, rfl, hV, ⟨_, _, _, _, Rr, .inl hg, fun k hk => .inl (b0 k hk), fun k hk => .inl (b1 k hk), fun k hk => .inl (b2 k hk), fun k hk => .inr ⟨hBC k hk, Rr.c1.lt k hk⟩, fun k hk => hk.elim (fun h => Nat.lt_of_lt_of_le (hl k h) T.size) (·.2)⟩, T⟩
            · refine (ref_read1a g st U0 U1 C0 C1 n hlt w h (by simpa using hs) hc3).mono ?_
              rintro ev w' ⟨V, C', rfl, hV, Rr, T, hBV, hBC, hN⟩
              exact ⟨_, _, rfl, rfl, hV, ⟨_, _, _, _, Rr, .inl hg, fun k hk => .inl (b0 k hk), fun k hk => .inl (b1 k hk), fun k hk => .inl (b2 k hk), fun k hk => .inr ⟨hBC k hk, Rr.c1.lt k hk⟩, fun k hk => hk.elim (fun h => Nat.lt_of_lt_of_le (hl k h) T.size) (·.2)⟩, T⟩
          · rw [show st.read 1 m = (none, st.b.come.take st.b.come.length, { st with b := { st.b with come := st.b.come.drop st.b.come.length, read := wrap64 (st.b.read + st.b.come.length) } }) by simp [St.read, bad, St.at, St.up, St.takes, ho, hlt, hm]]
            by_cases hs : st.shut = true
            · refine (ref_read1sb g st U0 U1 C0 C1 _ m hm hlt rfl w h hs (fun hn => ho ⟨hs, hn⟩) hc3).mono ?_
              rintro ev w' ⟨V, C', rfl, hV, Rr, T, hBV, hBC, hN⟩
              exact ⟨_, _, rfl, rfl, hV, ⟨_, _, _, _, Rr, .inl hg, fun k hk => .inl (b0 k hk), fun k hk => .inl (b1 k hk), fun k hk => .inl (b2 k hk), fun k hk => .inr ⟨hBC k hk, Rr.c1.lt k hk⟩, fun k hk => hk.elim (fun h => Nat.lt_of_lt_of_le (hl k h) T.size) (·.2)⟩, T⟩
            · refine (ref_read1b g st U0 U1 C0 C1 _ m hm hlt rfl w h (by simpa using hs) hc3).mono ?_
              rintro ev w' ⟨V, C', rfl, hV, Rr, T, hBV, hBC, hN⟩
              exact ⟨_, _, rfl, rfl, hV, ⟨_, _, _, _, Rr, .inl hg, fun k hk => .inl (b0 k hk), fun k hk => .inl (b1 k hk), fun k hk => .inl (b2 k hk), fun k hk => .inr ⟨hBC k hk, Rr.c1.lt k hk⟩, fun k hk => hk.elim (fun h => Nat.lt_of_lt_of_le (hl k h) T.size) (·.2)⟩, T⟩

theorem St.Ok.fresh : St.fresh.Ok := ⟨by simp [St.fresh], by simp [St.fresh], by simp [St.fresh], by simp [St.fresh], fun _ => by simp [St.fresh], fun _ => by simp [St.fresh]⟩
theorem St.Ok.send {st : St} (h : st.Ok) (e : Int) (bs : List Int) : (st.send e bs).2.Ok := by
  unfold St.send
  split
  · exact h
  · rename_i hb
    split
    · exact h
    · split
      · exact h
      · rename_i hl
        rcases bad_yes hb with rfl | rfl
        · simp [St.at] at hl; exact ⟨by simp [St.up, St.at]; omega, h.ub, h.ca, h.cb, h.oa, h.ob⟩
        · simp [St.at] at hl; exact ⟨h.ua, by simp [St.up, St.at]; omega, h.ca, h.cb, h.oa, h.ob⟩
theorem St.Ok.stall {st : St} (h : st.Ok) (e : Int) (y : Bool) : (st.stall e y).2.Ok := by
  unfold St.stall
  split
  · exact h
  · rename_i hb
    split
    · exact h
    · rcases bad_yes hb with rfl | rfl
      · exact ⟨h.ua, h.ub, h.ca, h.cb, h.oa, h.ob⟩
      · exact ⟨h.ua, h.ub, h.ca, h.cb, h.oa, h.ob⟩
theorem St.Ok.break {st : St} (h : st.Ok) : st.break.2.Ok := by
  unfold St.break
  split
  · exact h
  · exact ⟨by simp [St.cut], by simp [St.cut], h.ca, h.cb, fun hs => by simp [St.cut] at hs, fun hs => by simp [St.cut] at hs⟩
theorem St.Ok.move {st : St} (h : st.Ok) (e m : Int) : (st.move e m).2.Ok := by
  unfold St.move
  split
  · exact h
  · rename_i hb
    split
    · exact h
    · split
      · exact h
      · split
        · exact h
        · split
          · exact h
          · split
            · exact h
            · rename_i h1 h2 h3 h4
              rcases bad_yes hb with rfl | rfl
              · simp [St.other, St.at] at h4 h3
                have := h.ua
                have := h.ca
                exact ⟨by simp [St.mv, St.both, St.at]; omega, h.ub, h.ca, by simp [St.mv, St.both, St.at, St.other]; omega, h.oa, fun _ => by simp [St.mv, St.both, St.at, St.other]; omega⟩
              · simp [St.other, St.at] at h4 h3
                have := h.ub
                have := h.cb
                exact ⟨h.ua, by simp [St.mv, St.both, St.at]; omega, by simp [St.mv, St.both, St.at, St.other]; omega, h.cb, fun _ => by simp [St.mv, St.both, St.at, St.other]; omega, h.ob⟩
theorem St.Ok.close {st : St} (h : st.Ok) (e : Int) : (st.close e).2.Ok := by
  unfold St.close
  split
  · exact h
  · rename_i hb
    split
    · exact h
    · rename_i hs
      have ha := h.oa (by simpa using hs)
      have hb2 := h.ob (by simpa using hs)
      have := h.ua
      have := h.ub
      rcases bad_yes hb with rfl | rfl
      · exact ⟨by simp [St.cut], by simp [St.cut], h.ca, by simp [St.cut, St.mv, St.both, St.at, St.other]; omega, fun hs => by simp [St.cut] at hs, fun hs => by simp [St.cut] at hs⟩
      · exact ⟨by simp [St.cut], by simp [St.cut], by simp [St.cut, St.mv, St.both, St.at, St.other]; omega, h.cb, fun hs => by simp [St.cut] at hs, fun hs => by simp [St.cut] at hs⟩
theorem St.Ok.read {st : St} (h : st.Ok) (e m : Int) : (st.read e m).2.2.Ok := by
  unfold St.read
  split
  · exact h
  · rename_i hb
    split
    · exact h
    · split
      · exact h
      · have hca := h.ca
        have hcb := h.cb
        rcases bad_yes hb with rfl | rfl
        · exact ⟨h.ua, h.ub, by simp [St.up, St.at]; omega, h.cb, fun hs => by have := h.oa hs; simp [St.up, St.at]; omega, h.ob⟩
        · exact ⟨h.ua, h.ub, h.ca, by simp [St.up, St.at]; omega, h.oa, fun hs => by have := h.ob hs; simp [St.up, St.at]; omega⟩
end Go.Proofs.YtjkmklbkemoldaaDoor
