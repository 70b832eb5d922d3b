/-
  heddlelaw05.StreamNobody: its walk.
-/
import Derived.Test.YtjkmklbkemoldabDoorNobody7
import Derived.Test.YtjkmklbkemoldabDoorAlive
namespace Go.Proofs.YtjkmklbkemoldabDoor
open Go.RowKit Go.Extern.Stop Go.Stop Go.Extern

/-- What the walk knows of the memory that the law itself has made: its argument, the one link, a stream of zeroes, the row of two pointers; and of the variable errors.errorType. -/
structure Laid (B : Nat) (k e n : Int) (y : Bool) (x : Value) (w : World) : Prop where
  big : B + 3 < w.heap.size
  a1 : w.cell? ⟨B, 1, none⟩ = some (.int .i64 e)
  a2 : w.cell? ⟨B, 2, none⟩ = some (.int .i64 n)
  a3 : w.cell? ⟨B, 3, none⟩ = some (.bool y)
  a4 : w.cell? ⟨B, 4, none⟩ = some x
  l0 : w.cell? ⟨B + 1, 0, none⟩ = some (.string ⟨#[115, 116, 114, 101, 97, 109]⟩)
  l1 : w.cell? ⟨B + 1, 1, none⟩ = some (.int .i64 0)
  l2 : w.cell? ⟨B + 1, 2, none⟩ = some (.int .i64 3)
  z0 : w.cell? ⟨B + 1 + 1, 0, none⟩ = some (.pointer none)
  s0 : w.cell? ⟨B + 1 + 1 + 1, 0, none⟩ = some (.pointer none)
  s1 : w.cell? ⟨B + 1 + 1 + 1, 1, none⟩ = some (.pointer (some ⟨B + 1 + 1, 0, none⟩))
  er : w.cell? ⟨0, 0, none⟩ = some (.iface 94 (.agg #[.pointer (some ⟨1, 38, none⟩)]))

theorem Laid.below {B : Nat} {k e n : Int} {y : Bool} {x : Value} {w w' : World} (h : Laid B k e n y x w) (hb : Below w.heap.size w w') : Laid B k e n y x w' := by
  have hc : ∀ (p : Addr) (v : Value), w.cell? p = some v → w'.cell? p = some v := fun p v hv => (hb.cell (World.block_lt_of_cell? w _ hv)).trans hv
  exact ⟨Nat.lt_of_lt_of_le h.big hb.size, hc _ _ h.a1, hc _ _ h.a2, hc _ _ h.a3, hc _ _ h.a4, hc _ _ h.l0, hc _ _ h.l1, hc _ _ h.l2, hc _ _ h.z0, hc _ _ h.s0, hc _ _ h.s1, hc _ _ h.er⟩

theorem FaultOf.below {B : Nat} {w w' : World} {v : Value} {c : Int} (h : FaultOf B w v c) (hb : Below w.heap.size w w') : FaultOf B w' v c := by
  have hc : ∀ (p : Addr) (v : Value), w.cell? p = some v → w'.cell? p = some v := fun p v hv => (hb.cell (World.block_lt_of_cell? w _ hv)).trans hv
  obtain ⟨pb, h0, rfl, h1, h2, h3, h4⟩ := h
  exact ⟨pb, h0, rfl, hc _ _ h1, hc _ _ h2, hc _ _ h3, hc _ _ h4⟩

/-- Refused of such a fault and the link. -/
theorem refused_of {B B' : Nat} {k e n : Int} {y : Bool} {x v : Value} {cap : Nat} (w : World) (hL : Laid B k e n y x w) (hf : FaultOf B' w v 3) :
    Calls Tryd.prog 7 #[v, .slice (some ⟨B + 1, 0, none⟩) 1 cap] w fun ev w' => ev = .returned (.bool true) ∧ Below w.heap.size w w' := by
  obtain ⟨pb, _, rfl, h1, h2, h3, h4⟩ := hf
  exact refused_fault pb 0 (B + 1) cap _ _ _ w hL.er h1 h2 h3 h4 hL.l0 hL.l1 hL.l2

set_option maxRecDepth 100000 in
set_option maxHeartbeats 3200000 in
theorem nobody_any (halive : ∀ w : World, w.cell? ⟨0, 0, none⟩ = some (.iface 94 (.agg #[.pointer (some ⟨1, 38, none⟩)])) → Calls Tryd.prog 13 #[] w fun e w' => e = .returned (.bool true) ∧ Below w.heap.size w w')
    (k e n : Int) (y : Bool) (x : Value) (w : World) (hg : w.cell? ⟨0, 0, none⟩ = some (.iface 94 (.agg #[.pointer (some ⟨1, 38, none⟩)]))) :
    Calls Tryd.prog 3 #[.agg #[.int .i64 k, .int .i64 e, .int .i64 n, .bool y, x]] w fun ev w' => ev = .returned (.bool true) ∧ Below w.heap.size w w' := by
  have HA : Hid (∀ w : World, w.cell? ⟨0, 0, none⟩ = some (.iface 94 (.agg #[.pointer (some ⟨1, 38, none⟩)])) → Calls Tryd.prog 13 #[] w fun e w' => e = .returned (.bool true) ∧ Below w.heap.size w w') := halive
  clear halive
  go_enter Tryd.func3, Tryd.ntmps3
  go_wp2_with (go_at_call 4; refine (one_any _ _ _ _).mono ?_; rintro e w' ⟨rfl, rfl⟩)
  have hL : Laid w.heap.size k e n y x ((((w.alloc (.cells #[.int .i64 k, .int .i64 e, .int .i64 n, .bool y, x] 24)).alloc (.cells #[.string ⟨#[115, 116, 114, 101, 97, 109]⟩, .int .i64 0, .int .i64 3] 54)).alloc (.cells #[.pointer none, .slice none 0 0, .int .i64 0, .slice none 0 0, .int .i64 0, .int .i64 0, .int .i64 0, .bool false, .slice none 0 0, .int .i64 0, .slice none 0 0, .int .i64 0, .int .i64 0, .int .i64 0, .bool false, .bool false] 35)).alloc (.cells #[.pointer none, .pointer (some ⟨w.heap.size + 1 + 1, 0, none⟩)] 25)) := by
    have hlt : 0 < w.heap.size := World.block_lt_of_cell? w _ hg
    refine ⟨by simp, by go_simp, by go_simp, by go_simp, by go_simp, by go_simp, by go_simp, by go_simp, by go_simp, by go_simp, by go_simp, ?_⟩
    rw [World.cell?_alloc_lt _ _ ⟨0, 0, none⟩ (by simp), World.cell?_alloc_lt _ _ ⟨0, 0, none⟩ (by simp), World.cell?_alloc_lt _ _ ⟨0, 0, none⟩ (by simp), World.cell?_alloc_lt _ _ ⟨0, 0, none⟩ hlt]; exact hg
  have hB : Below w.heap.size w ((((w.alloc (.cells #[.int .i64 k, .int .i64 e, .int .i64 n, .bool y, x] 24)).alloc (.cells #[.string ⟨#[115, 116, 114, 101, 97, 109]⟩, .int .i64 0, .int .i64 3] 54)).alloc (.cells #[.pointer none, .slice none 0 0, .int .i64 0, .slice none 0 0, .int .i64 0, .int .i64 0, .int .i64 0, .bool false, .slice none 0 0, .int .i64 0, .slice none 0 0, .int .i64 0, .int .i64 0, .int .i64 0, .bool false, .bool false] 35)).alloc (.cells #[.pointer none, .pointer (some ⟨w.heap.size + 1 + 1, 0, none⟩)] 25)) := by
    refine Below.alloc (Below.alloc (Below.alloc (Below.alloc (Below.refl _ _) ?_ _) ?_ _) ?_ _) ?_ _
    all_goals simp
    all_goals omega
  clear hg
  go_loopw [17] (fun i wr => ∃ j : Nat, j ≤ 2 ∧ i = .int .i64 j ∧ Laid w.heap.size k e n y x wr ∧ Below w.heap.size w wr) (fun i _ => 2 - (intOf i).toNat)
  case atStart => exact ⟨0, by omega, rfl, hL, hB⟩
  case round =>
    obtain ⟨j, hj, rfl, hL, hB⟩ := hrel
    by_cases hlt : j < 2
    · obtain ⟨s, hs, hn⟩ : ∃ s, wr.cell? ⟨w.heap.size + 1 + 1 + 1, j, none⟩ = some s ∧ Nobody wr s := by
        have : j = 0 ∨ j = 1 := by omega
        rcases this with rfl | rfl
        · exact ⟨_, hL.s0, .inl rfl⟩
        · exact ⟨_, hL.s1, .inr ⟨_, _, rfl, hL.z0⟩⟩
      have hlt' : (j : Int) < 2 := by omega
      have a1 := hL.a1
      have a2 := hL.a2
      go_wp2_with fail
      refine (read_nobody s e n _ hn).mono ?_
      rintro ev w1 ⟨v1, rfl, hf1, hb1⟩
      have hB1 : Below w.heap.size w w1 := hB.trans (hb1.mono hB.size)
      have hL1 := hL.below hb1
      have hn1 := hn.below hb1
      clear a1 a2 hs hL hn hB hb1
      have a1 := hL1.a1
      go_wp2_with fail
      refine (state_nobody s e _ hn1).mono ?_
      rintro ev w2 ⟨v2, rfl, hf2, hb2⟩
      have hB2 : Below w.heap.size w w2 := hB1.trans (hb2.mono hB1.size)
      have hL2 := hL1.below hb2
      have hn2 := hn1.below hb2
      have hf1 := hf1.below hb2
      clear a1 hL1 hn1 hB1 hb2
      have a1 := hL2.a1
      have a4 := hL2.a4
      have hz : w.heap.size < w2.heap.size := by have := hL2.big; omega
      go_wp2_with fail
      have hbA := (Below.refl w2.heap.size w2).alloc (Nat.le_refl _) (.cells #[.int .i64 0, .int .i64 0, .int .i64 0, .int .i64 0, .int .i64 0, .bool false, .bool false] 42)
      have hL2' := hL2.below hbA
      have hn2' := hn2.below hbA
      have hB2' : Below w.heap.size w _ := hB2.trans (hbA.mono hB2.size)
      have hf1 := hf1.below hbA
      have hf2 := hf2.below hbA
      clear hL2 hn2 hB2 hbA
      clear a1 a4
      refine (send_nobody s e x _ hn2').mono ?_
      rintro ev w3 ⟨v, rfl, hf, hb⟩
      have hB3 : Below w.heap.size w w3 := hB2'.trans (hb.mono hB2'.size)
      have hL3 := hL2'.below hb
      have hn3 := hn2'.below hb
      have hf1 := hf1.below hb
      have hf2 := hf2.below hb
      clear hL2' hn2' hB2' hb
      go_wp2_with fail
      refine (refused_of _ hL3 hf).mono ?_
      rintro ev w4 ⟨rfl, hb⟩
      have hB4 : Below w.heap.size w w4 := hB3.trans (hb.mono hB3.size)
      have hL4 := hL3.below hb
      have hn4 := hn3.below hb
      have hf1 := hf1.below hb
      have hf2 := hf2.below hb
      clear hL3 hn3 hB3 hb
      have a1 := hL4.a1
      have a2 := hL4.a2
      go_wp2_with fail
      clear a1 a2
      refine (move_nobody s e n _ hn4).mono ?_
      rintro ev w5 ⟨v, rfl, hf, hb⟩
      have hB5 : Below w.heap.size w w5 := hB4.trans (hb.mono hB4.size)
      have hL5 := hL4.below hb
      have hn5 := hn4.below hb
      have hf1 := hf1.below hb
      have hf2 := hf2.below hb
      clear hL4 hn4 hB4 hb
      go_wp2_with fail
      refine (refused_of _ hL5 hf).mono ?_
      rintro ev w6 ⟨rfl, hb⟩
      have hB6 : Below w.heap.size w w6 := hB5.trans (hb.mono hB5.size)
      have hL6 := hL5.below hb
      have hn6 := hn5.below hb
      have hf1 := hf1.below hb
      have hf2 := hf2.below hb
      clear hL5 hn5 hB5 hb
      have a1 := hL6.a1
      have a3 := hL6.a3
      go_wp2_with fail
      clear a1 a3
      refine (stall_nobody s e y _ hn6).mono ?_
      rintro ev w7 ⟨v, rfl, hf, hb⟩
      have hB7 : Below w.heap.size w w7 := hB6.trans (hb.mono hB6.size)
      have hL7 := hL6.below hb
      have hn7 := hn6.below hb
      have hf1 := hf1.below hb
      have hf2 := hf2.below hb
      clear hL6 hn6 hB6 hb
      go_wp2_with fail
      refine (refused_of _ hL7 hf).mono ?_
      rintro ev w8 ⟨rfl, hb⟩
      have hB8 : Below w.heap.size w w8 := hB7.trans (hb.mono hB7.size)
      have hL8 := hL7.below hb
      have hn8 := hn7.below hb
      have hf1 := hf1.below hb
      have hf2 := hf2.below hb
      clear hL7 hn7 hB7 hb
      go_wp2_with fail
      refine (refused_of _ hL8 hf1).mono ?_
      rintro ev w9 ⟨rfl, hb⟩
      have hB9 : Below w.heap.size w w9 := hB8.trans (hb.mono hB8.size)
      have hL9 := hL8.below hb
      have hn9 := hn8.below hb
      have hf1 := hf1.below hb
      have hf2 := hf2.below hb
      clear hL8 hn8 hB8 hb
      go_wp2_with fail
      refine (refused_of _ hL9 hf2).mono ?_
      rintro ev w10 ⟨rfl, hb⟩
      have hB10 : Below w.heap.size w w10 := hB9.trans (hb.mono hB9.size)
      have hL10 := hL9.below hb
      have hn10 := hn9.below hb
      have hf1 := hf1.below hb
      have hf2 := hf2.below hb
      clear hL9 hn9 hB9 hb
      go_wp2_with fail
      refine (break_nobody s _ hn10).mono ?_
      rintro ev w11 ⟨v, rfl, hf, hb⟩
      have hB11 : Below w.heap.size w w11 := hB10.trans (hb.mono hB10.size)
      have hL11 := hL10.below hb
      have hn11 := hn10.below hb
      have hf1 := hf1.below hb
      have hf2 := hf2.below hb
      clear hL10 hn10 hB10 hb
      go_wp2_with fail
      refine (refused_of _ hL11 hf).mono ?_
      rintro ev w12 ⟨rfl, hb⟩
      have hB12 : Below w.heap.size w w12 := hB11.trans (hb.mono hB11.size)
      have hL12 := hL11.below hb
      have hn12 := hn11.below hb
      have hf1 := hf1.below hb
      have hf2 := hf2.below hb
      clear hL11 hn11 hB11 hb
      have a1 := hL12.a1
      go_wp2_with fail
      clear a1
      refine (close_nobody s e _ hn12).mono ?_
      rintro ev w13 ⟨v, rfl, hf, hb⟩
      have hB13 : Below w.heap.size w w13 := hB12.trans (hb.mono hB12.size)
      have hL13 := hL12.below hb
      have hn13 := hn12.below hb
      have hf1 := hf1.below hb
      have hf2 := hf2.below hb
      clear hL12 hn12 hB12 hb
      go_wp2_with fail
      refine (refused_of _ hL13 hf).mono ?_
      rintro ev w14 ⟨rfl, hb⟩
      have hB14 : Below w.heap.size w w14 := hB13.trans (hb.mono hB13.size)
      have hL14 := hL13.below hb
      have hn14 := hn13.below hb
      have hf1 := hf1.below hb
      have hf2 := hf2.below hb
      clear hL13 hn13 hB13 hb
      go_wp2_with fail
      go_roundw
      case rel => exact ⟨j + 1, by omega, by go_num, hL14, hB14⟩
      case measure => simp [intOf]; omega
    · have hge : ¬ (j : Int) < 2 := by omega
      go_wp2_with fail
      refine (HA.out _ hL.er).mono ?_
      rintro ev w1 ⟨rfl, hb⟩
      go_wp2
      go_ret
      exact ⟨rfl, hB.trans (hb.mono hB.size)⟩
end Go.Proofs.YtjkmklbkemoldabDoor
