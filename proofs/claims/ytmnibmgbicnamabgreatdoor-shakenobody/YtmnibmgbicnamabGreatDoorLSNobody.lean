/-
  heddlelaw08.ShakeNobody: its walk.
-/
import Derived.Test.YtmnibmgbicnamabGreatDoorKd
namespace Go.Proofs.YtmnibmgbicnamabGreatDoor
open Go.RowKit

/-- A side that nobody made: nil, or its first cell is. -/
def NoSide (w : World) (p : Option Addr) : Prop := p = none ∨ ∃ g, p = some ⟨g, 0, none⟩ ∧ w.cell? ⟨g, 0, none⟩ = some (.pointer none)
theorem NoSide.below {w w' : World} {p : Option Addr} (h : NoSide w p) (hb : Below w.heap.size w w') : NoSide w' p := by
  rcases h with h | ⟨g, h, hc⟩
  · exact .inl h
  · exact .inr ⟨g, h, (hb.cell (p := ⟨g, 0, none⟩) (World.block_lt_of_cell? w _ hc)).trans hc⟩
set_option maxRecDepth 100000 in
theorem no_made {w : World} {p : Option Addr} (h : NoSide w p) : Calls Tryz.prog 26 #[.pointer p] w fun e w' => e = .returned (.bool false) ∧ w = w' := by
  have hq := Tryz.eqlNilSide
  rcases h with rfl | ⟨g, rfl, hc⟩
  · go_enter Tryz.func26, Tryz.ntmps26
    go_wp2
    go_ret
    exact ⟨rfl, rfl⟩
  · go_enter Tryz.func26, Tryz.ntmps26
    go_wp2
    go_ret
    exact ⟨rfl, rfl⟩
set_option maxRecDepth 100000 in
theorem no_enter {w : World} {p : Option Addr} (h : NoSide w p) (b : Bool) : Calls Tryz.prog 16 #[.pointer p, .bool b] w fun e w' => ∃ v, e = .returned v ∧ FaultC w.heap.size w' v (sh 0 3) ∧ Below w.heap.size w w' := by
  have hm := no_made h
  go_enter Tryz.func16, Tryz.ntmps16
  go_wp2_with fail
  refine hm.mono ?_
  rintro e w1 ⟨rfl, rfl⟩
  have hr := sh_refuse 0 3 w
  go_wp2_with fail
  refine hr.mono ?_
  rintro e w2 ⟨v, rfl, hf, hb⟩
  have H : Hid (FaultC w.heap.size w2 v (sh 0 3) ∧ Below w.heap.size w w2) := ⟨hf, hb⟩
  clear hf hb hr hm
  go_wp2
  go_ret
  exact ⟨v, rfl, H.out⟩
set_option maxRecDepth 100000 in
theorem no_take {w : World} {p : Option Addr} (h : NoSide w p) (B : Value) : Calls Tryz.prog 6 #[.pointer p, B] w fun e w' => ∃ v, e = .returned (.tuple #[.slice none 0 0, v]) ∧ FaultC w.heap.size w' v (sh 0 3) ∧ Below w.heap.size w w' := by
  have he := no_enter h false
  go_enter Tryz.func6, Tryz.ntmps6
  go_wp2_with fail
  refine he.mono ?_
  rintro e w1 ⟨v, rfl, hf, hb⟩
  have H : Hid (FaultC w.heap.size w1 v (sh 0 3) ∧ Below w.heap.size w w1) := ⟨hf, hb⟩
  obtain ⟨pb, _, rfl, _⟩ := hf
  clear hb he h
  go_wp2
  go_ret2
  exact ⟨_, rfl, H.out⟩
set_option maxRecDepth 100000 in
theorem no_answer {w : World} {p : Option Addr} (h : NoSide w p) (st : ByteArray) : Calls Tryz.prog 7 #[.pointer p, .string st] w fun e w' => ∃ v, e = .returned (.tuple #[.slice none 0 0, v]) ∧ FaultC w.heap.size w' v (sh 0 3) ∧ Below w.heap.size w w' := by
  have he := no_enter h true
  go_enter Tryz.func7, Tryz.ntmps7
  go_wp2_with fail
  refine he.mono ?_
  rintro e w1 ⟨v, rfl, hf, hb⟩
  have H : Hid (FaultC w.heap.size w1 v (sh 0 3) ∧ Below w.heap.size w w1) := ⟨hf, hb⟩
  obtain ⟨pb, _, rfl, _⟩ := hf
  clear hb he h
  go_wp2
  go_ret2
  exact ⟨_, rfl, H.out⟩
set_option maxRecDepth 100000 in
theorem no_now {w : World} {p : Option Addr} (h : NoSide w p) : Calls Tryz.prog 9 #[.pointer p] w fun e w' => e = .returned (.agg #[.int .i64 0, .string ⟨#[]⟩, .int .u64 0, .int .u32 0, .bool false]) ∧ Below w.heap.size w w' := by
  have hm := fun W h => no_made (w := W) (p := p) h
  have HN := Hid.mk7 h
  clear h
  go_enter Tryz.func9, Tryz.ntmps9
  go_wp2_with fail
  refine (hm _ (HN.out.below ((Below.refl _ _).alloc (Nat.le_refl _) _))).mono ?_
  rintro e w' ⟨rfl, rfl⟩
  clear hm
  go_wp2
  refine bodyPost_ret (v := .agg #[.int .i64 0, .string ⟨#[]⟩, .int .u64 0, .int .u32 0, .bool false]) (by simp [results, Tryz.results9, go_sem]) rfl ⟨rfl, ?_⟩
  exact (Below.refl _ _).alloc (Nat.le_refl _) _
set_option maxRecDepth 100000 in
set_option maxHeartbeats 6400000 in
theorem nobody_any (b : List Int) (st : ByteArray) {w : World} {B : Value} (hB : Sl w B b) (hG : Gd w) :
    Calls Tryz.prog 3 #[B, .string st] w fun e w' => e = .returned (.bool true) ∧ Below w.heap.size w w' := by
  obtain ⟨aB, cB, rfl, _, _⟩ := hB.form
  have HG := Hid.mk7 hG
  generalize b.length = LB
  clear hB hG
  go_enter Tryz.func3, Tryz.ntmps3
  go_wp2_with (go_at_call 5; refine (one_any _ _ _ _).mono ?_; rintro ev w1 ⟨rfl, rfl⟩)
  obtain ⟨W0, hW0⟩ : ∃ W0, W0 = (((w.alloc (.cells #[.string ⟨#[115, 104, 97, 107, 101]⟩, .int .i64 0, .int .i64 3] 61)).alloc (.cells #[.pointer none, .int .i64 0, .string ⟨#[]⟩, .int .u64 0, .int .u32 0, .bool false, .string ⟨#[]⟩, .int .u64 0, .int .u32 0, .string ⟨#[]⟩, .string ⟨#[]⟩, .int .u32 0] 35)).alloc (.cells #[.pointer none, .pointer (some ⟨w.heap.size + 1, 0, none⟩)] 23)) := ⟨_, rfl⟩
  have bW : Below w.heap.size w W0 := by rw [hW0]; exact (((Below.refl _ _).alloc (Nat.le_refl _) _).alloc (by simp) _).alloc (by simp; omega) _
  have HLK : Hid (LinksC w.heap.size W0 (.slice (some ⟨w.heap.size, 0, none⟩) 1 1) (sh 0 3)) := by
    have h : LinksC w.heap.size W0 (.slice (some ⟨w.heap.size, 0, none⟩) 1 1) (sh 0 3) := by
      rw [hW0]
      exact (((LinksC.ofNew w ⟨lyShake, 0, 3⟩).below ((Below.refl _ _).alloc (Nat.le_refl _) _)).below ((Below.refl _ _).alloc (Nat.le_refl _) _))
    exact h
  obtain ⟨wx, hwx⟩ : ∃ wx, wx = w.alloc (.cells #[.string ⟨#[115, 104, 97, 107, 101]⟩, .int .i64 0, .int .i64 3] 61) := ⟨_, rfl⟩
  obtain ⟨wy, hwy⟩ : ∃ wy, wy = wx.alloc (.cells #[.pointer none, .int .i64 0, .string ⟨#[]⟩, .int .u64 0, .int .u32 0, .bool false, .string ⟨#[]⟩, .int .u64 0, .int .u32 0, .string ⟨#[]⟩, .string ⟨#[]⟩, .int .u32 0] 35) := ⟨_, rfl⟩
  have hzx : wx.heap.size = w.heap.size + 1 := by rw [hwx, World.size_alloc]
  have hzy : wy.heap.size = w.heap.size + 1 + 1 := by rw [hwy, World.size_alloc, hzx]
  have hWy : W0 = wy.alloc (.cells #[.pointer none, .pointer (some ⟨w.heap.size + 1, 0, none⟩)] 23) := by rw [hW0, hwy, hwx]
  have c0 : W0.cell? ⟨w.heap.size + 1 + 1, 0, none⟩ = some (.pointer none) := by rw [hWy, ← hzy]; simp
  have c1 : W0.cell? ⟨w.heap.size + 1 + 1, 1, none⟩ = some (.pointer (some ⟨w.heap.size + 1, 0, none⟩)) := by rw [← hzy, hWy]; simp
  have c2 : W0.cell? ⟨w.heap.size + 1, 0, none⟩ = some (.pointer none) := by
    have hy : wy.cell? ⟨wx.heap.size, 0, none⟩ = some (.pointer none) := by rw [hwy]; simp
    rw [hzx] at hy
    rw [hWy]
    exact (((Below.refl wy.heap.size wy).alloc (Nat.le_refl _) _).cell (p := ⟨w.heap.size + 1, 0, none⟩) (by rw [hzy]; simp)).trans hy
  clear hwx hwy hzx hzy hWy
  have HC : Hid (W0.cell? ⟨w.heap.size + 1 + 1, 0, none⟩ = some (.pointer none) ∧ W0.cell? ⟨w.heap.size + 1 + 1, 1, none⟩ = some (.pointer (some ⟨w.heap.size + 1, 0, none⟩)) ∧ W0.cell? ⟨w.heap.size + 1, 0, none⟩ = some (.pointer none)) := ⟨c0, c1, c2⟩
  have HW := Hid.mk7 bW
  rw [← hW0]
  clear hW0 bW c0 c1 c2
  go_loopw [19] (fun ii wr => ∃ j : Nat, ii = .int .i64 j ∧ j ≤ 2 ∧ Below W0.heap.size W0 wr) (fun ii _ => 2 - (intOf ii).toNat)
  case atStart => exact ⟨0, rfl, by omega, Below.refl _ _⟩
  case round =>
    obtain ⟨j, rfl, hj, hb⟩ := hrel
    have hj3 : j = 0 ∨ j = 1 ∨ j = 2 := by omega
    rcases hj3 with rfl | rfl | rfl
    · simp only [Int.natCast_zero]
      have hNo : NoSide wr none := .inl rfl
      have hcl : wr.cell? ⟨w.heap.size + 1 + 1, 0, none⟩ = some (.pointer none) := (hb.cell (p := ⟨w.heap.size + 1 + 1, 0, none⟩) (World.block_lt_of_cell? _ _ HC.out.1)).trans HC.out.1
      have htk := no_take hNo (.slice aB LB cB)
      have HR : Hid (Below W0.heap.size W0 wr ∧ NoSide wr none) := ⟨hb, hNo⟩
      clear hb hNo
      go_wp2_with fail
      refine htk.mono ?_
      rintro e w2 ⟨v2, rfl, hf2, hb2⟩
      have H2 : Hid (Below W0.heap.size W0 w2 ∧ NoSide w2 none ∧ FaultC W0.heap.size w2 v2 (sh 0 3)) := ⟨HR.out.1.trans (hb2.mono HR.out.1.size), HR.out.2.below hb2, hf2.mono HR.out.1.size⟩
      have han := no_answer H2.out.2.1 st
      obtain ⟨p2, _, hv2, _⟩ := hf2
      subst hv2
      clear hb2 htk hcl HR
      go_wp2_with fail
      refine han.mono ?_
      rintro e w3 ⟨v3, rfl, hf3, hb3⟩
      have H3 : Hid (Below W0.heap.size W0 w3 ∧ NoSide w3 none ∧ FaultC W0.heap.size w3 (.iface 98 (.pointer (some ⟨p2, 0, none⟩))) (sh 0 3) ∧ FaultC W0.heap.size w3 v3 (sh 0 3)) := ⟨H2.out.1.trans (hb3.mono H2.out.1.size), H2.out.2.1.below hb3, H2.out.2.2.below hb3, hf3.mono H2.out.1.size⟩
      have hre := refused_bothC (HG.out.below (HW.out.trans (H3.out.1.mono HW.out.size))).er H3.out.2.2.1 (HLK.out.below H3.out.1)
      obtain ⟨p3, _, hv3, _⟩ := hf3
      subst hv3
      clear hb3 han H2
      go_wp2_with fail
      refine hre.mono ?_
      rintro e w4 ⟨rfl, hb4⟩
      have H4 : Hid (Below W0.heap.size W0 w4 ∧ NoSide w4 none ∧ FaultC W0.heap.size w4 (.iface 98 (.pointer (some ⟨p3, 0, none⟩))) (sh 0 3)) := ⟨H3.out.1.trans (hb4.mono H3.out.1.size), H3.out.2.1.below hb4, H3.out.2.2.2.below hb4⟩
      have hre2 := refused_bothC (HG.out.below (HW.out.trans (H4.out.1.mono HW.out.size))).er H4.out.2.2 (HLK.out.below H4.out.1)
      clear hb4 hre H3
      go_wp2_with fail
      refine hre2.mono ?_
      rintro e w5 ⟨rfl, hb5⟩
      have H5 : Hid (Below W0.heap.size W0 w5 ∧ NoSide w5 none) := ⟨H4.out.1.trans (hb5.mono H4.out.1.size), H4.out.2.1.below hb5⟩
      have hnw := no_now H5.out.2
      clear hb5 hre2 H4
      go_wp2_with fail
      refine hnw.mono ?_
      rintro e w6 ⟨rfl, hb6⟩
      have H6 : Hid (Below W0.heap.size W0 w6) := H5.out.1.trans (hb6.mono H5.out.1.size)
      clear hb6 hnw H5
      go_wp2
      go_roundw
      case rel => exact ⟨1, by go_num, by omega, H6.out⟩
      case measure => simp [intOf]
    · simp only [Int.natCast_one]
      have hNo : NoSide wr (some ⟨w.heap.size + 1, 0, none⟩) := .inr ⟨_, rfl, (hb.cell (p := ⟨w.heap.size + 1, 0, none⟩) (World.block_lt_of_cell? _ _ HC.out.2.2)).trans HC.out.2.2⟩
      have hcl : wr.cell? ⟨w.heap.size + 1 + 1, 1, none⟩ = some (.pointer (some ⟨w.heap.size + 1, 0, none⟩)) := (hb.cell (p := ⟨w.heap.size + 1 + 1, 1, none⟩) (World.block_lt_of_cell? _ _ HC.out.2.1)).trans HC.out.2.1
      have htk := no_take hNo (.slice aB LB cB)
      have HR : Hid (Below W0.heap.size W0 wr ∧ NoSide wr (some ⟨w.heap.size + 1, 0, none⟩)) := ⟨hb, hNo⟩
      clear hb hNo
      go_wp2_with fail
      refine htk.mono ?_
      rintro e w2 ⟨v2, rfl, hf2, hb2⟩
      have H2 : Hid (Below W0.heap.size W0 w2 ∧ NoSide w2 (some ⟨w.heap.size + 1, 0, none⟩) ∧ FaultC W0.heap.size w2 v2 (sh 0 3)) := ⟨HR.out.1.trans (hb2.mono HR.out.1.size), HR.out.2.below hb2, hf2.mono HR.out.1.size⟩
      have han := no_answer H2.out.2.1 st
      obtain ⟨p2, _, hv2, _⟩ := hf2
      subst hv2
      clear hb2 htk hcl HR
      go_wp2_with fail
      refine han.mono ?_
      rintro e w3 ⟨v3, rfl, hf3, hb3⟩
      have H3 : Hid (Below W0.heap.size W0 w3 ∧ NoSide w3 (some ⟨w.heap.size + 1, 0, none⟩) ∧ FaultC W0.heap.size w3 (.iface 98 (.pointer (some ⟨p2, 0, none⟩))) (sh 0 3) ∧ FaultC W0.heap.size w3 v3 (sh 0 3)) := ⟨H2.out.1.trans (hb3.mono H2.out.1.size), H2.out.2.1.below hb3, H2.out.2.2.below hb3, hf3.mono H2.out.1.size⟩
      have hre := refused_bothC (HG.out.below (HW.out.trans (H3.out.1.mono HW.out.size))).er H3.out.2.2.1 (HLK.out.below H3.out.1)
      obtain ⟨p3, _, hv3, _⟩ := hf3
      subst hv3
      clear hb3 han H2
      go_wp2_with fail
      refine hre.mono ?_
      rintro e w4 ⟨rfl, hb4⟩
      have H4 : Hid (Below W0.heap.size W0 w4 ∧ NoSide w4 (some ⟨w.heap.size + 1, 0, none⟩) ∧ FaultC W0.heap.size w4 (.iface 98 (.pointer (some ⟨p3, 0, none⟩))) (sh 0 3)) := ⟨H3.out.1.trans (hb4.mono H3.out.1.size), H3.out.2.1.below hb4, H3.out.2.2.2.below hb4⟩
      have hre2 := refused_bothC (HG.out.below (HW.out.trans (H4.out.1.mono HW.out.size))).er H4.out.2.2 (HLK.out.below H4.out.1)
      clear hb4 hre H3
      go_wp2_with fail
      refine hre2.mono ?_
      rintro e w5 ⟨rfl, hb5⟩
      have H5 : Hid (Below W0.heap.size W0 w5 ∧ NoSide w5 (some ⟨w.heap.size + 1, 0, none⟩)) := ⟨H4.out.1.trans (hb5.mono H4.out.1.size), H4.out.2.1.below hb5⟩
      have hnw := no_now H5.out.2
      clear hb5 hre2 H4
      go_wp2_with fail
      refine hnw.mono ?_
      rintro e w6 ⟨rfl, hb6⟩
      have H6 : Hid (Below W0.heap.size W0 w6) := H5.out.1.trans (hb6.mono H5.out.1.size)
      clear hb6 hnw H5
      go_wp2
      go_roundw
      case rel => exact ⟨2, by go_num, by omega, H6.out⟩
      case measure => simp [intOf]
    · have HE : Hid (Below w.heap.size w wr) := HW.out.trans (hb.mono HW.out.size)
      have haw := law_awake (HG.out.below HE.out)
      clear hb
      go_wp2_with fail
      refine haw.mono ?_
      rintro e w2 ⟨rfl, hb2⟩
      have H2 : Hid (Below w.heap.size w w2) := HE.out.trans (hb2.mono HE.out.size)
      clear hb2 haw
      go_wp2
      go_ret
      exact ⟨rfl, H2.out⟩
end Go.Proofs.YtmnibmgbicnamabGreatDoor
