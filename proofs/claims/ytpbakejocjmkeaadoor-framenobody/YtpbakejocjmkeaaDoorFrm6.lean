/-
  The program's reader: Feed.
-/
import Derived.Test.YtpbakejocjmkeaaDoorFrm5
namespace Go.Proofs.YtpbakejocjmkeaaDoor
open Go.RowKit

set_option maxRecDepth 100000 in
theorem frm_feed_dead {w : World} {rb : Nat} {f : FSt} {B : Value} (h : PrMem w rb f B) (hd : f.dead = true) (b : Value) :
    Calls Tryd.prog 16 #[.pointer (some ⟨rb, 0, none⟩), b] w fun e w' => ∃ v, e = .returned v ∧ FaultAt w.heap.size w' v (f.bytes, 120) ∧ Below w.heap.size w w' := by
  have he := frm_enter_dead h hd
  clear h
  go_enter Tryd.func16, Tryd.ntmps16
  go_wp2_with fail
  refine he.mono ?_
  rintro e w1 ⟨v, rfl, hf, hb⟩
  have HF : Hid (FaultAt w.heap.size w1 v (f.bytes, 120)) := hf
  obtain ⟨pb, hpb, rfl, _⟩ := hf
  go_wp2
  go_ret
  exact ⟨_, rfl, HF.out, hb⟩

set_option maxRecDepth 100000 in
theorem frm_feed_long {w : World} {rb : Nat} {f : FSt} {B : Value} (h : PrMem w rb f B) (hd : f.dead = false) (hh : f.held.length ≤ 16777216) {b : Value} {bs : List Int} (hx : Sl w b bs) (hl : 16777216 < (f.held.length : Int) + bs.length) :
    Calls Tryd.prog 16 #[.pointer (some ⟨rb, 0, none⟩), b] w fun e w' => ∃ v, e = .returned v ∧ FaultAt w.heap.size w' v (0, 4) ∧ Below w.heap.size w w' := by
  obtain ⟨ab, cb, hf, hc, hm⟩ := hx.form
  subst hf
  have he := frm_enter_ok h hd
  have k2 := (h.cells 2 (by omega)).1
  simp only [prCell] at k2
  clear h hx
  have h1 : (16777216 : Int) - f.held.length < bs.length := by omega
  go_enter Tryd.func16, Tryd.ntmps16
  go_wp2_with (first | (go_at_call 33; refine he.mono ?_; rintro e w' ⟨rfl, rfl⟩) | (go_at_call 25; refine (frm_refuse _ _ _).mono ?_; rintro e w1 ⟨v, rfl, hf, hb⟩))
  go_ret
  exact ⟨v, rfl, hf, hb⟩

set_option maxRecDepth 100000 in
set_option maxHeartbeats 1600000 in
theorem frm_feed_ok {w : World} {rb : Nat} {f : FSt} {B : Value} (h : PrMem w rb f B) (hd : f.dead = false) {b : Value} {bs : List Int} (hx : Sl w b bs) (hl : ¬ 16777216 < (f.held.length : Int) + bs.length) :
    Calls Tryd.prog 16 #[.pointer (some ⟨rb, 0, none⟩), b] w fun e w' => e = .returned .nilIface ∧ ∃ B', PrMem w' rb { f with held := f.held ++ bs } B' ∧ Turned (prS rb B) w w' ∧ ∀ k, blk B' k → blk B k ∨ w.heap.size ≤ k := by
  obtain ⟨ab, cb, hf, hc, hm⟩ := hx.form
  subst hf
  obtain ⟨pre, hpl, hown⟩ := h.own hd
  obtain ⟨aB, cB, hfB, hcB, hmB⟩ := hown.sl.form
  subst hfB
  have he := frm_enter_ok h hd
  obtain ⟨k7, f7⟩ := h.cells 7 (by omega)
  obtain ⟨k2, f2⟩ := h.cells 2 (by omega)
  simp only [prCell] at k7 k2
  have hgl : rb < w.heap.size := World.block_lt_of_cell? w _ k7
  have HH : Hid (PrMem w rb f (.slice aB (pre ++ f.held).length cB)) := h
  have hne := h.ne
  have h1 : ¬ (16777216 : Int) - f.held.length < bs.length := by omega
  have hpL : (pre ++ f.held).length + bs.length ≤ 33554432 := by simp; omega
  generalize hL : (pre ++ f.held).length = LL at *
  clear h
  go_enter Tryd.func16, Tryd.ntmps16
  go_wp2_with (first
    | (go_at_call 33; refine he.mono ?_; rintro e w' ⟨rfl, rfl⟩)
    | (at_builtin; refine wpList_append_bytes (by rfl) (.tmp 25) (.tmp 26) (by rfl) Tryd.bytes (by rfl) (by rfl) hown hx (by omega) ?_; intro v1 w1 ho1 ht1 hb1; obtain ⟨a1, c1, L1, rfl⟩ : ∃ a1 c1 L1, v1 = .slice a1 L1 c1 := ⟨_, _, _, ho1.sl.form.choose_spec.choose_spec.1⟩; have HO1 := ho1; have j7 := ht1.cell (p := ⟨rb, 7, none⟩) k7 (fun h => hne _ h rfl); have j2 := ht1.cell (p := ⟨rb, 2, none⟩) k2 (fun h => hne _ h rfl); have g7 := (ht1.frozen (p := ⟨rb, 7, none⟩) hgl (fun h => hne _ h rfl)).trans f7; have g2 := (ht1.frozen (p := ⟨rb, 2, none⟩) hgl (fun h => hne _ h rfl)).trans f2; clear ho1))
  go_ret
  have T3 := (Turned.setCell w1 ⟨rb, 7, none⟩ (.slice a1 L1 c1)).trans (Turned.setCell _ ⟨rb, 2, none⟩ (.int .i64 ((f.held.length : Int) + bs.length))) (fun _ h => .inl h)
  have hgn : ∀ k, blk (.slice a1 L1 c1) k → ¬ k = rb := fun k hk he => by
    rcases hb1 k hk with h | h
    · exact hne k h he
    · omega
  refine ⟨rfl, .slice a1 L1 c1, ⟨(((HH.out.cells.turned ht1 (fun h => hne _ h rfl)).set 7 _).set 2 _).congr (forall8 rfl rfl ?_ rfl rfl rfl rfl rfl), fun _ => ⟨pre, hpl, ?_⟩, fun k hk => (HO1.turned T3 hgn).blk_lt k hk, hgn⟩, (ht1.mono (T := prS rb (.slice aB LL cB)) (fun k h => .inl (.inr h))).trans T3 (fun k h => .inl (.inl h)), fun k hk => (hb1 k hk).imp id (fun h => Nat.le_of_eq h.symm)⟩
  · simp [prCell]
  · have := HO1.turned T3 hgn
    rw [List.append_assoc] at this
    exact this
end Go.Proofs.YtpbakejocjmkeaaDoor
