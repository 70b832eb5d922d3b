/-
  Layer 8 (shake): the program's numbers out of bytes, widths of fields.
-/
import Derived.Test.YtmnibmgbicnamaaGreatDoorShI
namespace Go.Proofs.YtmnibmgbicnamaaGreatDoor
open Go.RowKit

set_option maxRecDepth 100000 in
set_option maxHeartbeats 1600000 in
theorem sh_numb {w : World} {B : Value} {b : List Int} (hB : Sl w B b) (hr : ∀ z ∈ b, 0 ≤ z ∧ z < 256) (hl : b.length ≤ 8) : Calls Tryz.prog 96 #[B] w fun e w' => e = .returned (.int .u64 (numAt b 0 b.length)) ∧ w = w' := by
  generalize hm : numAt b 0 b.length = m
  have HM : Hid (numAt b 0 b.length = m) := hm
  clear hm
  have HB : Hid (∀ (g off cap : Nat), B = .slice (some ⟨g, off, none⟩) b.length cap → True) := fun _ _ _ _ => trivial
  obtain ⟨a, cap, rfl, hcap, hmax⟩ := hB.form
  have HC : Hid (∀ j (h : j < b.length), ∃ g off, a = some ⟨g, off, none⟩ ∧ w.cell? ⟨g, off + j, none⟩ = some (.int .u8 b[j])) := fun j hj => by
    rcases hB with ⟨_, rfl⟩ | ⟨_, _, rfl⟩ | ⟨g, off, cap', h1, h2, h3, h4⟩
    · simp at hj
    · simp at hj
    · injection h1 with h1
      exact ⟨g, off, h1, h4 j hj⟩
  have HR : Hid (∀ z ∈ b, 0 ≤ z ∧ z < 256) := hr
  clear hB hr HB
  go_enter Tryz.func96, Tryz.ntmps96
  go_wp2_with fail
  go_loopw [3, 8] (fun vv ii wr => ∃ j : Nat, ii = .int .i64 j ∧ j ≤ b.length ∧ vv = .int .u64 (numAt b 0 j) ∧ w = wr) (fun _ ii _ => b.length - (intOf ii).toNat)
  case atStart => exact ⟨0, rfl, Nat.zero_le _, rfl, rfl⟩
  case round =>
    obtain ⟨j, rfl, hj, rfl, rfl⟩ := hrel
    by_cases hlt : j < b.length
    · have hlti : (j : Int) < (b.length : Int) := by omega
      obtain ⟨g, off, rfl, hx⟩ := HC.out j hlt
      have hst := numAt_step b 0 j (by omega)
      have hv := numAt_rng b HR.out 0 j (by omega)
      have hp := pow256 j 8 (Nat.le_refl _) (by omega)
      have hc := HR.out b[j] (List.getElem_mem (by omega))
      simp only [Nat.zero_add] at hst
      generalize b[j] = c at hx hst hc
      have HST : Hid (numAt b 0 (j + 1) = numAt b 0 j * 256 + c) := hst
      have hv1 : 0 ≤ numAt b 0 j ∧ numAt b 0 j < 72057594037927936 := by omega
      have hor := or_join (numAt b 0 j) c hv1 hc
      clear hst hv hp
      generalize numAt b 0 j = v at hv1 hor HST
      obtain ⟨v0, v1⟩ := hv1
      obtain ⟨c0, c1⟩ := hc
      go_wp2
      go_roundw
      case rel => exact ⟨j + 1, by go_num, by omega, by rw [HST.out], trivial⟩
      case measure => simp [intOf]; omega
    · have hge : ¬ (j : Int) < (b.length : Int) := by omega
      obtain rfl : j = b.length := by omega
      rw [HM.out]
      go_wp2
      go_ret
      exact ⟨rfl, rfl⟩
/-- 'x[:n]' of a slice of bytes. -/
theorem run_cutTo {P : Program} {t e : TypeId} (hB : ByteTypes P t e) {a : Option Addr} {len cap n : Nat} (h : n ≤ cap) (W : World) :
    (Instr.slice t (.slice a len cap) none (some (.int .i64 (n : Int))) none).run P W = .ok (.slice a n cap) W := by
  obtain ⟨i, hi, hz, hsz, hby⟩ := hB.info
  have b2 := run_sliceBound (P := P) (w := W) .i64 (n : Int) cap .sliceAcap (by omega) (by omega)
  simp [Instr.slice, run_underlying hB.slice, Instr.sliceBounds, b2, sizeOf, typeInfo, hi]
  intro _
  cases a <;> simp [Addr.add]
set_option maxRecDepth 100000 in
set_option maxHeartbeats 1600000 in
theorem sh_width (f : Int) (hf : 0 ≤ f ∧ f ≤ 5) {w : World} {B : Value} {b : List Int} (hB : Sl w B b) (hr : ∀ z ∈ b, 0 ≤ z ∧ z < 256) (hl : b.length ≤ 140737488355328) : Calls Tryz.prog 75 #[.int .i64 f, B] w fun e w' => e = .returned (.int .i64 (widthOf f b)) ∧ w = w' := by
  have h6 : f = 0 ∨ f = 1 ∨ f = 2 ∨ f = 3 ∨ f = 4 ∨ f = 5 := by omega
  obtain ⟨a, cap, rfl, hcap, hmax⟩ := hB.form
  have HB : Hid (Sl w (.slice a b.length cap) b) := hB
  have HR : Hid (∀ z ∈ b, 0 ≤ z ∧ z < 256) := hr
  clear hB hr
  rcases h6 with rfl | rfl | rfl | rfl | rfl | rfl
  · go_enter Tryz.func75, Tryz.ntmps75
    go_wp2
    go_ret
    exact ⟨rfl, rfl⟩
  · go_enter Tryz.func75, Tryz.ntmps75
    go_wp2
    go_ret
    exact ⟨rfl, rfl⟩
  · go_enter Tryz.func75, Tryz.ntmps75
    go_wp2
    go_ret
    exact ⟨rfl, rfl⟩
  · by_cases h2 : b.length < 2
    · have h2i : (b.length : Int) < 2 := by omega
      have HW : Hid (widthOf 3 b = 2) := by
        have : widthOf 3 b = if b.length < 2 then 2 else 2 + (numAt b 0 2).toNat := rfl
        rw [this, if_pos h2]
        rfl
      go_enter Tryz.func75, Tryz.ntmps75
      go_wp2
      go_ret
      exact ⟨by rw [HW.out]; rfl, rfl⟩
    · have h2i : ¬ (b.length : Int) < 2 := by omega
      have hn := sh_numb (HB.out.take (n := 2) (by omega)) (fun z hz => HR.out z (List.mem_of_mem_take hz)) (by simp; omega)
      rw [numAt_take] at hn
      have hv := numAt_rng b HR.out 0 2 (by omega)
      have hc2 : ∀ W : World, (Instr.slice 25 (.slice a b.length cap) none (some (.int .i64 2)) none).run Tryz.prog W = .ok (.slice a 2 cap) W := fun W => run_cutTo Tryz.bytes (a := a) (len := b.length) (cap := cap) (n := 2) (by omega) W
      have HW : Hid ((widthOf 3 b : Int) = 2 + numAt b 0 2) := by
        have : widthOf 3 b = if b.length < 2 then 2 else 2 + (numAt b 0 2).toNat := rfl
        have h3 : (widthOf 3 b : Int) = 2 + numAt b 0 2 := by
          rw [this, if_neg h2]
          omega
        exact h3
      generalize numAt b 0 2 = v at hn hv HW
      obtain ⟨hv0, hv1⟩ := hv
      have hv1 : v < 65536 := by simpa using hv1
      go_enter Tryz.func75, Tryz.ntmps75
      go_wp2_with fail
      refine hn.mono ?_
      rintro e w' ⟨rfl, rfl⟩
      go_wp2
      go_ret
      exact ⟨by rw [HW.out]; rfl, rfl⟩
  · go_enter Tryz.func75, Tryz.ntmps75
    go_wp2
    go_ret
    exact ⟨rfl, rfl⟩
  · go_enter Tryz.func75, Tryz.ntmps75
    go_wp2
    go_ret
    exact ⟨rfl, rfl⟩
end Go.Proofs.YtmnibmgbicnamaaGreatDoor
