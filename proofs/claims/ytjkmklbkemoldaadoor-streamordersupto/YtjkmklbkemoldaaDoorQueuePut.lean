/-
  The program's queues of bytes: put and take.
-/
import Derived.Test.YtjkmklbkemoldaaDoorQueue
namespace Go.Proofs.YtjkmklbkemoldaaDoor
open Go.RowKit

set_option maxRecDepth 100000 in
set_option maxHeartbeats 3200000 in
theorem put_any {w : World} {sb o : Nat} {f : Nat → Value} {V x : Value} {xs ys : List Int} (hb : Block w sb 16 f) (ho : o < 16) (hV : f o = V) (hown : Own w V xs) (hx : Sl w x ys) (hfit : xs.length + ys.length ≤ 1099511627776) (hne : ∀ k, blk V k → k ≠ sb) :
    Calls Tryd.prog 48 #[.pointer (some ⟨sb, o, none⟩), x] w fun e w' => ∃ V', e = .returned (.tuple #[]) ∧ Own w' V' (xs ++ ys) ∧ Block w' sb 16 (fset f o V') ∧ Turned (fun k => k = sb ∨ blk V k) w w' ∧ ∀ k, blk V' k → blk V k ∨ w.heap.size ≤ k := by
  obtain ⟨k0, f0⟩ := hb o ho
  rw [hV] at k0
  have hsb : sb < w.heap.size := World.block_lt_of_cell? w _ k0
  obtain ⟨aV, capV, hf, hc, hm⟩ := hown.sl.form
  subst hf
  obtain ⟨ax, capx, rfl, hcx, hmx⟩ := hx.form
  have HB : Hid (Block w sb 16 f) := hb
  have HN : Hid (∀ k, blk (.slice aV xs.length capV) k → k ≠ sb) := hne
  clear hb hne
  go_enter Tryd.func48, Tryd.ntmps48
  go_wp2_with (at_builtin; refine wpList_append_bytes (by rfl) (.tmp 8) (.tmp 9) (by rfl) Tryd.bytes (by rfl) (by rfl) hown hx (by omega) ?_; intro v1 w1 ho1 ht1 hb1; obtain ⟨a1, cap1, rfl, hc1, hm1⟩ := ho1.sl.form; have c1 : w1.cell? ⟨sb, o, none⟩ = some (.slice aV xs.length capV) := ht1.cell k0 (fun h => HN.out _ h rfl); have f1 : w1.frozen? ⟨sb, o, none⟩ = false := (ht1.frozen (p := ⟨sb, o, none⟩) hsb (fun h => HN.out _ h rfl)).trans f0)
  go_end0
  simp only [List.length_append] at ho1 hb1
  have T2 := Turned.setCell w1 ⟨sb, o, none⟩ (.slice a1 (xs.length + ys.length) cap1)
  have hn1 : ∀ k, blk (.slice a1 (xs.length + ys.length) cap1) k → ¬ k = sb := fun k hk he => (hb1 k hk).elim (fun h => HN.out k h he) (fun h => by omega)
  refine ⟨_, rfl, ho1.turned T2 hn1, ((HB.out.turned ht1 (fun h => HN.out _ h rfl)).set o _), (ht1.mono (T := fun k => k = sb ∨ blk (.slice aV xs.length capV) k) (fun k h => .inl (.inr h))).trans T2 (fun k h => .inl (.inl h)), fun k hk => (hb1 k hk).elim .inl (fun h => .inr (by omega))⟩
end Go.Proofs.YtjkmklbkemoldaaDoor
