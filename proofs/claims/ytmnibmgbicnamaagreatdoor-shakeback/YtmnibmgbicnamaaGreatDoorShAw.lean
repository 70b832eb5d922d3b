/-
  heddlelaw08.awake.
-/
import Derived.Test.YtmnibmgbicnamaaGreatDoorShZ
import Derived.Lib.SlBytesConst
namespace Go.Proofs.YtmnibmgbicnamaaGreatDoor
open Go.RowKit

def nodeN : Pr := ⟨⟨#[110, 64, 104]⟩, 4345626892, 1⟩
def nodeM : Pr := ⟨⟨#[109, 64, 104]⟩, 4345626892, 2⟩
def ckC : ByteArray := ⟨#[99]⟩
theorem wake_n : nodeN.Ok := ⟨⟨by decide, by decide⟩, by decide, by decide⟩
theorem wake_m : nodeM.Ok := ⟨⟨by decide, by decide⟩, by decide, by decide⟩
theorem wake_1 : madeErr nodeN nodeM.name true ckC = [] := by decide +kernel
theorem wake_2 : madeErr nodeM ⟨#[]⟩ false ckC = [] := by decide +kernel
theorem wake_3 : readOf 2 [115, 111, 107, 97, 121] = (sh 1 160, Msg.zero) := by kernel_rfl
theorem wake_met : (metAll nodeN nodeM ckC ckC 5 6).1.state = 7 ∧ (metAll nodeN nodeM ckC ckC 5 6).1.peer = nodeM ∧ (metAll nodeN nodeM ckC ckC 5 6).2.1.state = 7 ∧ (metAll nodeN nodeM ckC ckC 5 6).2.1.peer = nodeN := by
  obtain ⟨h, _⟩ := met_told nodeN nodeM ckC ckC 5 6 wake_n wake_m (by decide) (by decide) wake_1 wake_2
  obtain ⟨h1, h2, h3⟩ := h rfl
  obtain ⟨h4, h5⟩ := h3 rfl
  exact ⟨h4, h5, h1, h2⟩
theorem law_peer (nm : ByteArray) (cr : Int) (w : World) : Calls Tryz.prog 40 #[.string nm, .int .u32 cr] w fun e w' => e = .returned (.agg #[.string nm, .int .u64 4345626892, .int .u32 cr]) ∧ Below w.heap.size w w' := by
  go_enter Tryz.func40, Tryz.ntmps40
  go_wp2
  refine bodyPost_ret (v := .agg #[.string nm, .int .u64 4345626892, .int .u32 cr]) (by simp [results, Tryz.results40, go_sem]) rfl ⟨rfl, ?_⟩
  exact (Below.refl _ _).alloc (Nat.le_refl _) _
set_option maxRecDepth 100000 in
set_option maxHeartbeats 6400000 in
theorem law_awake {w : World} (hG : Gd w) : Calls Tryz.prog 12 #[] w fun e w' => e = .returned (.bool true) ∧ Below w.heap.size w w' := by
  have HG := Hid.mk7 hG
  clear hG
  have hcv := fun (w : World) (C : Array Value) (n c : Nat) => Lib.run_convert_bytes_const (P := Tryz.prog) w 25 5 C n c Tryz.underlying25 Tryz.underlying5
  have hp1 := law_peer nodeN.name nodeN.creation w
  unfold nodeN at hp1
  go_enter Tryz.func12, Tryz.ntmps12
  go_wp2_with fail
  refine hp1.mono ?_
  rintro e w1 ⟨rfl, hb1⟩
  have hp2 := law_peer nodeM.name nodeM.creation w1
  unfold nodeM at hp2
  have H1 := Hid.mk7 hb1
  clear hb1 hp1
  go_wp2_with fail
  refine hp2.mono ?_
  rintro e w2 ⟨rfl, hb2⟩
  have H2 : Hid (Below w.heap.size w w2) := H1.out.trans (hb2.mono H1.out.size)
  have hmt := law_met nodeN nodeM wake_n wake_m ckC ckC 5 6 (by decide) (by decide) (by decide) (by decide) (by decide) (by decide) (HG.out.below H2.out)
  simp only [nodeN, nodeM, ckC] at hmt
  clear hb2 hp2 H1
  go_wp2_with fail
  refine hmt.mono ?_
  rintro e w3 (⟨h, _, _⟩ | ⟨_, _, gx, gy, rfl, hx, hy, hgx, hgy, hb3⟩)
  · exact absurd h (fun h => h.elim (fun h => h wake_1) (fun h => h wake_2))
  have hx : SideAt w3 gx (metAll nodeN nodeM ckC ckC 5 6).1 := hx
  have hy : SideAt w3 gy (metAll nodeN nodeM ckC ckC 5 6).2.1 := hy
  obtain ⟨m1, m2, m3, m4⟩ := wake_met
  have hnx := sd_now hx
  rw [m1, m2] at hnx
  generalize (metAll nodeN nodeM ckC ckC 5 6).1.simult = s1 at hnx
  have HY := Hid.mk7 hy
  have H3 : Hid (Below w.heap.size w w3) := H2.out.trans (hb3.mono H2.out.size)
  simp only [nodeM] at hnx
  clear hx hy hb3 hmt hgx hgy H2 m1 m2
  go_wp2_with fail
  refine hnx.mono ?_
  rintro e w4 ⟨rfl, hb4⟩
  have hny := sd_now (HY.out.below hb4)
  rw [m3, m4] at hny
  generalize (metAll nodeN nodeM ckC ckC 5 6).2.1.simult = s2 at hny
  have H4 : Hid (Below w.heap.size w w4) := H3.out.trans (hb4.mono H3.out.size)
  simp only [nodeN] at hny
  clear hb4 hnx H3 m3 m4 HY
  go_wp2_with fail
  refine hny.mono ?_
  rintro e w5 ⟨rfl, hb5⟩
  have H5 : Hid (Below w.heap.size w w5) := H4.out.trans (hb5.mono H4.out.size)
  obtain ⟨wa, hwa⟩ : ∃ wa, wa = w5.alloc (.cells #[.int .i64 7, .string ⟨#[109, 64, 104]⟩, .int .u64 4345626892, .int .u32 2, .bool s1] 66) := ⟨_, rfl⟩
  obtain ⟨wb, hwb⟩ : ∃ wb, wb = wa.alloc (.cells #[.int .i64 7, .string ⟨#[110, 64, 104]⟩, .int .u64 4345626892, .int .u32 1, .bool s2] 66) := ⟨_, rfl⟩
  obtain ⟨wc, hwc⟩ : ∃ wc, wc = wb.alloc (.cells #[.int .u8 115, .int .u8 111, .int .u8 107, .int .u8 97, .int .u8 121] 5 (5, 6)) := ⟨_, rfl⟩
  have ba : Below w5.heap.size w5 wa := by rw [hwa]; exact (Below.refl _ _).alloc (Nat.le_refl _) _
  have bb : Below wa.heap.size wa wb := by rw [hwb]; exact (Below.refl _ _).alloc (Nat.le_refl _) _
  have bc : Below wb.heap.size wb wc := by rw [hwc]; exact (Below.refl _ _).alloc (Nat.le_refl _) _
  have sa : wa.heap.size = w5.heap.size + 1 := by rw [hwa]; simp
  have sb : wb.heap.size = w5.heap.size + 1 + 1 := by rw [hwb]; simp [sa]
  have bbc : Below wa.heap.size wa wc := bb.trans (bc.mono bb.size)
  have pa : wc.cell? ⟨w5.heap.size, 0, none⟩ = some (.int .i64 7) ∧ wc.cell? ⟨w5.heap.size, 1, none⟩ = some (.string ⟨#[109, 64, 104]⟩) := ⟨(bbc.cell (p := ⟨w5.heap.size, 0, none⟩) (by simp; omega)).trans (by rw [hwa]; simp), (bbc.cell (p := ⟨w5.heap.size, 1, none⟩) (by simp; omega)).trans (by rw [hwa]; simp)⟩
  have pb : wc.cell? ⟨wa.heap.size, 0, none⟩ = some (.int .i64 7) ∧ wc.cell? ⟨wa.heap.size, 3, none⟩ = some (.int .u32 1) := ⟨(bc.cell (p := ⟨wa.heap.size, 0, none⟩) (by simp; omega)).trans (by rw [hwb]; simp), (bc.cell (p := ⟨wa.heap.size, 3, none⟩) (by simp; omega)).trans (by rw [hwb]; simp)⟩
  have hsl : Sl wc (.slice (some ⟨wb.heap.size, 0, none⟩) 5 5) [115, 111, 107, 97, 121] := by
    rw [hwc]
    refine .inr (.inr ⟨wb.heap.size, 0, 5, rfl, by simp, by unfold maxLen; omega, fun j hj => ?_⟩)
    have h5 : j = 0 ∨ j = 1 ∨ j = 2 ∨ j = 3 ∨ j = 4 := by simp at hj; omega
    rcases h5 with rfl | rfl | rfl | rfl | rfl <;> (rw [World.cell?_alloc_mark]; rfl)
  have bw : Below w.heap.size w wc := H5.out.trans ((ba.trans (bbc.mono ba.size)).mono H5.out.size)
  have hrd := sh_read 2 hsl (by decide) (by decide) (HG.out.below bw).er
  have hcv5 := hcv wb #[.int .u8 115, .int .u8 111, .int .u8 107, .int .u8 97, .int .u8 121] 5 5
  simp only [List.size_toArray, List.length_cons, List.length_nil, Nat.zero_add, Nat.reduceAdd] at hcv5
  rw [sb] at hsl hrd hcv5
  rw [sa] at pb
  have HW : Hid (Below w.heap.size w wc ∧ (wc.cell? ⟨w5.heap.size, 0, none⟩ = some (.int .i64 7) ∧ wc.cell? ⟨w5.heap.size, 1, none⟩ = some (.string ⟨#[109, 64, 104]⟩)) ∧ (wc.cell? ⟨w5.heap.size + 1, 0, none⟩ = some (.int .i64 7) ∧ wc.cell? ⟨w5.heap.size + 1, 3, none⟩ = some (.int .u32 1))) := ⟨bw, pa, pb⟩
  rw [← hwc] at hcv5
  have HE : Hid (wc = ((w5.alloc (.cells #[.int .i64 7, .string ⟨#[109, 64, 104]⟩, .int .u64 4345626892, .int .u32 2, .bool s1] 66)).alloc (.cells #[.int .i64 7, .string ⟨#[110, 64, 104]⟩, .int .u64 4345626892, .int .u32 1, .bool s2] 66)).alloc (.cells #[.int .u8 115, .int .u8 111, .int .u8 107, .int .u8 97, .int .u8 121] 5 (5, 6))) := by
    have h : wc = ((w5.alloc (.cells #[.int .i64 7, .string ⟨#[109, 64, 104]⟩, .int .u64 4345626892, .int .u32 2, .bool s1] 66)).alloc (.cells #[.int .i64 7, .string ⟨#[110, 64, 104]⟩, .int .u64 4345626892, .int .u32 1, .bool s2] 66)).alloc (.cells #[.int .u8 115, .int .u8 111, .int .u8 107, .int .u8 97, .int .u8 121] 5 (5, 6)) := by rw [hwc, hwb, hwa]
    exact h
  rw [hwb, hwa] at hcv5
  clear hwa hwb hwc ba bb bc bbc sa sb pa pb hsl bw hcv hb5 hny H4
  go_wp2_with fail
  refine hrd.mono ?_
  unfold ReadTold
  rw [wake_3]
  rintro e w6 ⟨D, v, rfl, hf6, hD6, _, hb6⟩
  have hf6 : FaultC wc.heap.size w6 v (sh 1 160) := hf6
  obtain ⟨aD, cD, hDf, _, _⟩ := hD6.form
  subst hDf
  have H6 : Hid (Below w.heap.size w w6 ∧ FaultC wc.heap.size w6 v (sh 1 160)) := ⟨HW.out.1.trans (hb6.mono HW.out.1.size), hf6⟩
  have q0 := (hb6.cell (p := ⟨w5.heap.size, 0, none⟩) (World.block_lt_of_cell? _ _ HW.out.2.1.1)).trans HW.out.2.1.1
  have q1 := (hb6.cell (p := ⟨w5.heap.size, 1, none⟩) (World.block_lt_of_cell? _ _ HW.out.2.1.2)).trans HW.out.2.1.2
  have q2 := (hb6.cell (p := ⟨w5.heap.size + 1, 0, none⟩) (World.block_lt_of_cell? _ _ HW.out.2.2.1)).trans HW.out.2.2.1
  have q3 := (hb6.cell (p := ⟨w5.heap.size + 1, 3, none⟩) (World.block_lt_of_cell? _ _ HW.out.2.2.2)).trans HW.out.2.2.2
  have hz1 : w5.heap.size + 1 < w6.heap.size := World.block_lt_of_cell? w6 _ q2
  have hz0 : w5.heap.size < w6.heap.size := World.block_lt_of_cell? w6 _ q0
  unfold msgV'
  simp only [Msg.zero]
  obtain ⟨pb, _, rfl, _⟩ := hf6
  clear hD6 hb6 hrd hcv5 HW HE H5
  obtain ⟨wm, hwm⟩ : ∃ wm, wm = w6.alloc (.cells #[.int .i64 0, .int .u64 0, .int .u32 0, .int .u32 0, .string ⟨#[]⟩, .string ⟨#[]⟩, .slice aD 0 cD] 27) := ⟨_, rfl⟩
  obtain ⟨wn, hwn⟩ : ∃ wn, wn = wm.alloc (.cells #[.string ⟨#[115, 104, 97, 107, 101]⟩, .int .i64 1, .int .i64 160] 102) := ⟨_, rfl⟩
  have bm : Below w6.heap.size w6 wm := by rw [hwm]; exact (Below.refl _ _).alloc (Nat.le_refl _) _
  have bn : Below wm.heap.size wm wn := by rw [hwn]; exact (Below.refl _ _).alloc (Nat.le_refl _) _
  have sm : wm.heap.size = w6.heap.size + 1 := by rw [hwm]; simp
  have hlc : LinksC wm.heap.size wn (.slice (some ⟨wm.heap.size, 0, none⟩) 1 1) (sh 1 160) := ⟨wm.heap.size, 1, Nat.le_refl _, rfl, by rw [hwn]; exact ⟨by simp [lyShake], by simp, by simp⟩⟩
  have bmn : Below w6.heap.size w6 wn := bm.trans (bn.mono bm.size)
  have bwn : Below w.heap.size w wn := H6.out.1.trans (bmn.mono H6.out.1.size)
  have hre := refused_bothC (HG.out.below bwn).er (H6.out.2.below bmn) hlc
  have HN := Hid.mk7 bwn
  rw [sm] at hre
  rw [hwn, hwm] at hre
  have HSZ : Hid (w.heap.size ≤ wn.heap.size) := bwn.size
  have HWN : Hid (wn = (w6.alloc (.cells #[.int .i64 0, .int .u64 0, .int .u32 0, .int .u32 0, .string ⟨#[]⟩, .string ⟨#[]⟩, .slice aD 0 cD] 27)).alloc (.cells #[.string ⟨#[115, 104, 97, 107, 101]⟩, .int .i64 1, .int .i64 160] 102)) := by
    have h : wn = (w6.alloc (.cells #[.int .i64 0, .int .u64 0, .int .u32 0, .int .u32 0, .string ⟨#[]⟩, .string ⟨#[]⟩, .slice aD 0 cD] 27)).alloc (.cells #[.string ⟨#[115, 104, 97, 107, 101]⟩, .int .i64 1, .int .i64 160] 102) := by rw [hwn, hwm]
    exact h
  clear hwm hwn bm bn sm hlc bmn bwn
  go_wp2_with (first
      | (go_at_call 41; refine (one_any _ _ _ _).mono ?_; rintro ev w7 ⟨rfl, rfl⟩)
      | fail)
  refine hre.mono ?_
  rintro e w8 ⟨rfl, hb8⟩
  rw [← HWN.out] at hb8
  have H8 : Hid (Below w.heap.size w w8) := HN.out.trans (hb8.mono HSZ.out)
  clear hb8 hre
  go_wp2
  go_ret
  exact ⟨rfl, H8.out⟩
end Go.Proofs.YtmnibmgbicnamaaGreatDoor
