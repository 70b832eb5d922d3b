/-
  heddlelaw05.StreamOrders: what an end has read is a beginning of what the other one has sent: of states alone.
-/
import Derived.Test.YtjkmklbkemoldaaDoorImpl
namespace Go.Proofs.YtjkmklbkemoldaaDoor
open Go.RowKit

/-- sa, sb: what the ends have sent; ra, rb: what they have read. -/
structure St.Trail (st : St) (sa sb ra rb : List Int) : Prop where
  a : ∃ t, sb = ra ++ st.a.come ++ st.b.und ++ t ∧ (st.shut = false → t = [])
  b : ∃ t, sa = rb ++ st.b.come ++ st.a.und ++ t ∧ (st.shut = false → t = [])

theorem St.Trail.fresh : St.fresh.Trail [] [] [] [] := ⟨⟨[], rfl, fun _ => rfl⟩, ⟨[], rfl, fun _ => rfl⟩⟩

theorem St.Trail.send0 {st : St} {sa sb ra rb bs : List Int} (h : st.Trail sa sb ra rb) : (st.send 0 bs).2.Trail (if (st.send 0 bs).1 = none then sa ++ bs else sa) sb ra rb := by
  unfold St.send
  rw [if_neg (by simp [bad])]
  split
  · simpa using h
  · rename_i hs
    have hs : st.shut = false := by simpa using hs
    split
    · simpa using h
    · obtain ⟨t, h1, h2⟩ := h.b
      have := h2 hs
      subst this
      refine ⟨h.a, ⟨[], ?_, fun _ => rfl⟩⟩
      simp [St.up, St.at, h1]
theorem St.Trail.send1 {st : St} {sa sb ra rb bs : List Int} (h : st.Trail sa sb ra rb) : (st.send 1 bs).2.Trail sa (if (st.send 1 bs).1 = none then sb ++ bs else sb) ra rb := by
  unfold St.send
  rw [if_neg (by simp [bad])]
  split
  · simpa using h
  · rename_i hs
    have hs : st.shut = false := by simpa using hs
    split
    · simpa using h
    · obtain ⟨t, h1, h2⟩ := h.a
      have := h2 hs
      subst this
      refine ⟨⟨[], ?_, fun _ => rfl⟩, h.b⟩
      simp [St.up, St.at, h1]
theorem St.Trail.mv {st : St} {sa sb ra rb : List Int} (h : st.Trail sa sb ra rb) {e : Int} (he : e = 0 ∨ e = 1) (n : Nat) : (st.mv e n).Trail sa sb ra rb := by
  obtain ⟨t, h1, h2⟩ := h.a
  obtain ⟨u, h3, h4⟩ := h.b
  rcases he with rfl | rfl
  · refine ⟨⟨t, h1, h2⟩, ⟨u, ?_, h4⟩⟩
    simp only [St.mv, St.both, St.at, St.other, if_true]
    rw [h3]
    simp [List.append_assoc]
  · refine ⟨⟨t, ?_, h2⟩, ⟨u, h3, h4⟩⟩
    simp only [St.mv, St.both, St.at, St.other]
    rw [h1]
    simp [List.append_assoc]
theorem St.Trail.move {st : St} {sa sb ra rb : List Int} (h : st.Trail sa sb ra rb) (e n : Int) : (st.move e n).2.Trail sa sb ra rb := by
  unfold St.move
  split
  · exact h
  · rename_i hb
    split
    · exact h
    · split
      · exact h
      · split
        · exact h
        · split
          · exact h
          · split
            · exact h
            · exact h.mv (bad_yes hb) _
theorem St.Trail.stall {st : St} {sa sb ra rb : List Int} (h : st.Trail sa sb ra rb) (e : Int) (y : Bool) : (st.stall e y).2.Trail sa sb ra rb := by
  unfold St.stall
  split
  · exact h
  · rename_i hb
    split
    · exact h
    · rcases bad_yes hb with rfl | rfl
      · exact ⟨h.a, h.b⟩
      · exact ⟨h.a, h.b⟩
theorem St.Trail.cut {st : St} {sa sb ra rb : List Int} (h : st.Trail sa sb ra rb) : st.cut.Trail sa sb ra rb := by
  obtain ⟨t, h1, _⟩ := h.a
  obtain ⟨u, h3, _⟩ := h.b
  exact ⟨⟨st.b.und ++ t, by simp [St.cut, h1], fun h => by cases h⟩, ⟨st.a.und ++ u, by simp [St.cut, h3], fun h => by cases h⟩⟩
theorem St.Trail.break {st : St} {sa sb ra rb : List Int} (h : st.Trail sa sb ra rb) : st.break.2.Trail sa sb ra rb := by
  unfold St.break
  split
  · exact h
  · exact h.cut
theorem St.Trail.close {st : St} {sa sb ra rb : List Int} (h : st.Trail sa sb ra rb) (e : Int) : (st.close e).2.Trail sa sb ra rb := by
  unfold St.close
  split
  · exact h
  · rename_i hb
    split
    · exact h
    · exact (h.mv (bad_yes hb) _).cut
theorem St.Trail.read0 {st : St} {sa sb ra rb : List Int} (h : st.Trail sa sb ra rb) (m : Int) : (st.read 0 m).2.2.Trail sa sb (ra ++ (st.read 0 m).2.1) rb := by
  unfold St.read
  rw [if_neg (by simp [bad])]
  split
  · simpa using h
  · split
    · simpa using h
    · obtain ⟨t, h1, h2⟩ := h.a
      refine ⟨⟨t, ?_, h2⟩, h.b⟩
      simp only [St.up, St.at, if_true]
      rw [List.append_assoc ra, List.take_append_drop]
      exact h1
theorem St.Trail.read1 {st : St} {sa sb ra rb : List Int} (h : st.Trail sa sb ra rb) (m : Int) : (st.read 1 m).2.2.Trail sa sb ra (rb ++ (st.read 1 m).2.1) := by
  unfold St.read
  rw [if_neg (by simp [bad])]
  split
  · simpa using h
  · split
    · simpa using h
    · obtain ⟨t, h1, h2⟩ := h.b
      refine ⟨h.a, ⟨t, ?_, h2⟩⟩
      simp only [St.up, St.at]
      simp only [show ¬ (1 : Int) = 0 by decide, if_false]
      rw [List.append_assoc rb, List.take_append_drop]
      exact h1
/-- What the law asks of each state. -/
theorem St.Trail.asks {st : St} {sa sb ra rb : List Int} (h : st.Trail sa sb ra rb) : (ra.length ≤ sb.length ∧ sb.take ra.length = ra) ∧ (rb.length ≤ sa.length ∧ sa.take rb.length = rb) := by
  obtain ⟨t, h1, _⟩ := h.a
  obtain ⟨u, h3, _⟩ := h.b
  subst h1 h3
  exact ⟨⟨by simp, by simp [List.append_assoc]⟩, ⟨by simp, by simp [List.append_assoc]⟩⟩
end Go.Proofs.YtjkmklbkemoldaaDoor
