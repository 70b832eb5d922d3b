/-
  heddlelaw06.FrameNobody: its walk.
-/
import Derived.Test.YtpbakejocjmkeaaDoorFNobody0
namespace Go.Proofs.YtpbakejocjmkeaaDoor
open Go.RowKit

/-- What the walk knows of the memory that the law itself has made: the one link, a reader of zeroes, the row of two pointers; and of the variable errors.errorType. -/
structure LaidN (B : Nat) (w : World) : Prop where
  big : B + 2 < w.heap.size
  l0 : w.cell? ⟨B, 0, none⟩ = some (.string ⟨#[102, 114, 97, 109, 101]⟩)
  l1 : w.cell? ⟨B, 1, none⟩ = some (.int .i64 0)
  l2 : w.cell? ⟨B, 2, none⟩ = some (.int .i64 3)
  z0 : w.cell? ⟨B + 1, 0, none⟩ = some (.pointer none)
  s0 : w.cell? ⟨B + 1 + 1, 0, none⟩ = some (.pointer none)
  s1 : w.cell? ⟨B + 1 + 1, 1, none⟩ = some (.pointer (some ⟨B + 1, 0, none⟩))
  er : Er w
theorem LaidN.below {B : Nat} {w w' : World} (h : LaidN B w) (hb : Below w.heap.size w w') : LaidN B w' := by
  have hc : ∀ (p : Addr) (v : Value), w.cell? p = some v → w'.cell? p = some v := fun p v hv => (hb.cell (World.block_lt_of_cell? w _ hv)).trans hv
  exact ⟨Nat.lt_of_lt_of_le h.big hb.size, hc _ _ h.l0, hc _ _ h.l1, hc _ _ h.l2, hc _ _ h.z0, hc _ _ h.s0, hc _ _ h.s1, h.er.below hb⟩
theorem FaultAt.below {B : Nat} {w w' : World} {v : Value} {x : Int × Int} (h : FaultAt B w v x) (hb : Below w.heap.size w w') : FaultAt B w' v x := ErrsF.turned (oc := some x) h (Turned.ofBelow (S := fun _ => False) hb) (fun _ _ _ h => h)
/-- Refused of such a fault and the link. -/
theorem refused_zero {B B' : Nat} {v : Value} {cap : Nat} (w : World) (hL : LaidN B w) (hf : FaultAt B' w v (0, 3)) :
    Calls Tryd.prog 9 #[v, .slice (some ⟨B, 0, none⟩) 1 cap] w fun ev w' => ev = .returned (.bool true) ∧ Below w.heap.size w w' := by
  obtain ⟨pb, _, rfl, h1, h2, h3, h4⟩ := hf
  exact refused_fault pb 0 B cap _ _ _ w hL.er h1 h2 h3 h4 hL.l0 hL.l1 hL.l2

set_option maxRecDepth 100000 in
set_option maxHeartbeats 3200000 in
theorem nobody_any (x : Value) (w : World) (her : Er w) :
    Calls Tryd.prog 6 #[x] w fun ev w' => ev = .returned (.bool true) ∧ Below w.heap.size w w' := by
  go_enter Tryd.func6, Tryd.ntmps6
  go_wp2_with (go_at_call 23; refine (one_any _ _ _ _).mono ?_; rintro e w' ⟨rfl, rfl⟩)
  have hB : Below w.heap.size w (((w.alloc (.cells #[.string ⟨#[102, 114, 97, 109, 101]⟩, .int .i64 0, .int .i64 3] 76)).alloc (.cells #[.pointer none, .int .i64 0, .int .i64 0, .int .i64 0, .int .i64 0, .int .i64 0, .bool false, .slice none 0 0] 65)).alloc (.cells #[.pointer none, .pointer (some ⟨w.heap.size + 1, 0, none⟩)] 40)) := by
    refine Below.alloc (Below.alloc (Below.alloc (Below.refl _ _) ?_ _) ?_ _) ?_ _
    all_goals simp
    all_goals omega
  have hL : LaidN w.heap.size (((w.alloc (.cells #[.string ⟨#[102, 114, 97, 109, 101]⟩, .int .i64 0, .int .i64 3] 76)).alloc (.cells #[.pointer none, .int .i64 0, .int .i64 0, .int .i64 0, .int .i64 0, .int .i64 0, .bool false, .slice none 0 0] 65)).alloc (.cells #[.pointer none, .pointer (some ⟨w.heap.size + 1, 0, none⟩)] 40)) := by
    exact ⟨by simp, by go_simp, by go_simp, by go_simp, by go_simp, by go_simp, by go_simp, her.below hB⟩
  have hq : ∀ (w : World) (a : Option Addr) (n c n' c' : Nat), (binOp .neq 22 (.slice a n c) (.slice none n' c')).run Tryd.prog w = .ok (.bool (!a.isNone)) w := fun w a n c n' c' => run_neq_slice_nil_any w _ _ a n c n' c' Tryd.underlying22
  clear her
  go_loopw [16] (fun i wr => ∃ j : Nat, j ≤ 2 ∧ i = .int .i64 j ∧ LaidN w.heap.size wr ∧ Below w.heap.size w wr) (fun i _ => 2 - (intOf i).toNat)
  case atStart => exact ⟨0, by omega, rfl, hL, hB⟩
  case round =>
    obtain ⟨j, hj, rfl, hL, hB⟩ := hrel
    by_cases hlt : j < 2
    · obtain ⟨s, hs, hn⟩ : ∃ s, wr.cell? ⟨w.heap.size + 1 + 1, j, none⟩ = some s ∧ Nobody wr s := by
        have : j = 0 ∨ j = 1 := by omega
        rcases this with rfl | rfl
        · exact ⟨_, hL.s0, .inl rfl⟩
        · exact ⟨_, hL.s1, .inr ⟨_, _, rfl, hL.z0⟩⟩
      have hlt' : (j : Int) < 2 := by omega
      go_wp2_with fail
      refine (next_nobody s _ hn).mono ?_
      rintro ev w1 ⟨v1, rfl, hf1, hb1⟩
      have HB1 : Hid (Below w.heap.size w w1 ∧ LaidN w.heap.size w1 ∧ Nobody w1 s ∧ FaultAt wr.heap.size w1 v1 (0, 3)) := ⟨hB.trans (hb1.mono hB.size), hL.below hb1, hn.below hb1, hf1⟩
      clear hs hL hn hB hb1 hf1
      go_wp2_with fail
      refine (feed_nobody s x _ HB1.out.2.2.1).mono ?_
      rintro ev w2 ⟨v2, rfl, hf2, hb2⟩
      have HB2 : Hid (Below w.heap.size w w2 ∧ LaidN w.heap.size w2 ∧ Nobody w2 s ∧ FaultAt wr.heap.size w2 v1 (0, 3)) := ⟨HB1.out.1.trans (hb2.mono HB1.out.1.size), HB1.out.2.1.below hb2, HB1.out.2.2.1.below hb2, HB1.out.2.2.2.below hb2⟩
      have hrf := refused_zero (cap := 1) w2 HB2.out.2.1 hf2
      clear hb2 HB1 hf2
      go_wp2_with fail
      refine hrf.mono ?_
      rintro ev w3 ⟨rfl, hb3⟩
      have HB3 : Hid (Below w.heap.size w w3 ∧ LaidN w.heap.size w3 ∧ Nobody w3 s ∧ FaultAt wr.heap.size w3 v1 (0, 3)) := ⟨HB2.out.1.trans (hb3.mono HB2.out.1.size), HB2.out.2.1.below hb3, HB2.out.2.2.1.below hb3, HB2.out.2.2.2.below hb3⟩
      have hrf := refused_zero (cap := 1) w3 HB3.out.2.1 HB3.out.2.2.2
      clear hb3 HB2
      go_wp2_with fail
      refine hrf.mono ?_
      rintro ev w4 ⟨rfl, hb4⟩
      have HB4 : Hid (Below w.heap.size w w4 ∧ LaidN w.heap.size w4 ∧ Nobody w4 s) := ⟨HB3.out.1.trans (hb4.mono HB3.out.1.size), HB3.out.2.1.below hb4, HB3.out.2.2.1.below hb4⟩
      clear hb4 HB3 hrf
      go_wp2_with fail
      refine (widen_nobody s _ HB4.out.2.2).mono ?_
      rintro ev w5 ⟨v5, rfl, hf5, hb5⟩
      have HB5 : Hid (Below w.heap.size w w5 ∧ LaidN w.heap.size w5 ∧ Nobody w5 s) := ⟨HB4.out.1.trans (hb5.mono HB4.out.1.size), HB4.out.2.1.below hb5, HB4.out.2.2.below hb5⟩
      have hrf := refused_zero (cap := 1) w5 HB5.out.2.1 hf5
      clear hb5 HB4 hf5
      go_wp2_with fail
      refine hrf.mono ?_
      rintro ev w6 ⟨rfl, hb6⟩
      have HB6 : Hid (Below w.heap.size w w6 ∧ LaidN w.heap.size w6 ∧ Nobody w6 s) := ⟨HB5.out.1.trans (hb6.mono HB5.out.1.size), HB5.out.2.1.below hb6, HB5.out.2.2.below hb6⟩
      clear hb6 HB5 hrf
      go_wp2_with fail
      refine (state_nobody s _ HB6.out.2.2).mono ?_
      rintro ev w7 ⟨rfl, hb7⟩
      have HB7 : Hid (Below w.heap.size w w7 ∧ LaidN w.heap.size w7) := ⟨HB6.out.1.trans (hb7.mono HB6.out.1.size), HB6.out.2.1.below hb7⟩
      clear hb7 HB6
      go_wp2_with fail
      go_roundw
      case rel => exact ⟨j + 1, by omega, by go_num, HB7.out.2, HB7.out.1⟩
      case measure => simp [intOf]; omega
    · have hge : ¬ (j : Int) < 2 := by omega
      go_wp2_with fail
      refine (awake_any frm_impl _).mono ?_
      rintro ev w1 ⟨rfl, hb⟩
      go_wp2
      go_ret
      exact ⟨rfl, hB.trans (hb.mono hB.size)⟩
end Go.Proofs.YtpbakejocjmkeaaDoor
