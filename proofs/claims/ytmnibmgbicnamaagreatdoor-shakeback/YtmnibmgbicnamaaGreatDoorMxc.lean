/-
  Layer 7 (mix): the program's absorb and stir.
-/
import Derived.Test.YtmnibmgbicnamaaGreatDoorMxa
namespace Go.Proofs.YtmnibmgbicnamaaGreatDoor
open Go.RowKit

set_option maxRecDepth 100000 in
set_option maxHeartbeats 1600000 in
/-- A text of ASCII alone is taken in byte by byte. -/
theorem mix_absorb (t : ByteArray) (ha : ∀ i (h : i < t.size), t[i].toNat < 128) (w : World) : Calls Tryz.prog 119 #[.string t] w fun e w' => e = .returned (.tuple #[.int .u64 (mixBytes (14695981039346656037, 88172645463325252) (nums t)).1, .int .u64 (mixBytes (14695981039346656037, 88172645463325252) (nums t)).2]) ∧ Below w.heap.size w w' := by
  have HA : Hid (∀ i (h : i < t.size), t[i].toNat < 128) := ha
  generalize hm : mixBytes (14695981039346656037, 88172645463325252) (nums t) = m
  have HM : Hid (mixBytes (14695981039346656037, 88172645463325252) (nums t) = m) := hm
  clear ha hm
  go_enter Tryz.func119, Tryz.ntmps119
  go_wp2_with fail
  go_loopw [2, 3] (fun aa bb wr => ∃ pos : Nat, wr = w.iter t pos ∧ pos ≤ t.size ∧ aa = .int .u64 (mixBytes (14695981039346656037, 88172645463325252) ((nums t).take pos)).1 ∧ bb = .int .u64 (mixBytes (14695981039346656037, 88172645463325252) ((nums t).take pos)).2) (fun _ _ wr => t.size - wr.iterPos w.heap.size)
  case atStart => exact ⟨0, rfl, Nat.zero_le _, rfl, rfl⟩
  case round =>
    obtain ⟨pos, rfl, hp, rfl, rfl⟩ := hrel
    by_cases hlt : pos < t.size
    · have hnx : ∀ ty, (Instr.next (.pointer (some ⟨w.heap.size, 0, none⟩)) true ty).run Tryz.prog (w.iter t pos) = _ := fun ty => run_next_any w t pos ty hlt
      have hlt' : pos < (nums t).length := by rw [nums_length]; exact hlt
      rw [decode_ascii t pos hlt (HA.out pos hlt)] at hnx
      have htk : (nums t).take (pos + 1) = (nums t).take pos ++ [(t[pos].toNat : Int)] := by rw [List.take_add_one, List.getElem?_eq_getElem hlt', nums_get t pos hlt hlt']; rfl
      have hsn := mixBytes_snoc (14695981039346656037, 88172645463325252) ((nums t).take pos) (t[pos].toNat : Int)
      rw [← htk] at hsn
      have hc : t[pos].toNat < 128 := HA.out pos hlt
      obtain ⟨ua, ub⟩ := mixBytes_u64 ((nums t).take pos) (14695981039346656037, 88172645463325252) ⟨by decide, by decide⟩ ⟨by decide, by decide⟩
      generalize mixBytes (14695981039346656037, 88172645463325252) ((nums t).take pos) = p at hsn ua ub ⊢
      generalize t[pos].toNat = z at hnx hsn hc
      have hz1 : IntKind.u64.wrap (z : Int) = (z : Int) := by rw [IntKind.wrap_u64]; omega
      clear htk hlt'
      go_wp2
      go_roundw
      case rel =>
        refine ⟨pos + 1, rfl, by omega, ?_, ?_⟩
        · rw [hsn]
          simp only [IntKind.wrap_u64]
          rfl
        · rw [hsn]
          simp only [IntKind.wrap_u64]
          rfl
      case measure => simp; omega
    · have hnx : ∀ ty, (Instr.next (.pointer (some ⟨w.heap.size, 0, none⟩)) true ty).run Tryz.prog (w.iter t pos) = _ := fun ty => run_next_end w t pos ty hlt
      have hpe : pos = t.size := by omega
      have htk : (nums t).take pos = nums t := List.take_of_length_le (by rw [nums_length]; omega)
      rw [htk, HM.out]
      clear hpe htk
      go_wp2
      go_ret2
      exact ⟨rfl, iter_below _ _ _⟩

set_option maxRecDepth 100000 in
set_option maxHeartbeats 1600000 in
theorem mix_stir (p : Int × Int) (ua : U64 p.1) (ub : U64 p.2) (w : World) : Calls Tryz.prog 118 #[.int .u64 p.1, .int .u64 p.2] w fun e w' => e = .returned (.tuple #[.int .u64 (stirN 4 p).1, .int .u64 (stirN 4 p).2]) ∧ w = w' := by
  generalize hm : stirN 4 p = m
  have HM : Hid (stirN 4 p = m) := hm
  clear hm
  go_enter Tryz.func118, Tryz.ntmps118
  go_wp2_with fail
  go_loopw [0, 1, 6] (fun aa bb ii wr => ∃ j : Nat, ii = .int .i64 j ∧ j ≤ 4 ∧ aa = .int .u64 (stirN j p).1 ∧ bb = .int .u64 (stirN j p).2 ∧ U64 (stirN j p).1 ∧ U64 (stirN j p).2 ∧ w = wr) (fun _ _ ii _ => 4 - (intOf ii).toNat)
  case atStart => exact ⟨0, rfl, by omega, rfl, rfl, ua, ub, rfl⟩
  case round =>
    obtain ⟨j, rfl, hj, rfl, rfl, ua, ub, rfl⟩ := hrel
    by_cases hlt : j < 4
    · have hlti : (j : Int) < 4 := by omega
      have hst : stirN (j + 1) p = stir (stirN j p) := rfl
      generalize stirN j p = q at hst ua ub ⊢
      go_wp2_with fail
      refine ⟨⟨j + 1, by simp, by omega, ?_, ?_, ?_, ?_, trivial⟩, by simp [intOf]; omega⟩
      · rw [hst]
        simp only [IntKind.wrap_u64]
        rfl
      · rw [hst]
        simp only [IntKind.wrap_u64]
        rfl
      · rw [hst]; exact U64.mod _
      · rw [hst]; exact U64.mod _
    · have hge : ¬ (j : Int) < 4 := by omega
      obtain rfl : j = 4 := by omega
      rw [HM.out]
      go_wp2
      go_ret2
      exact ⟨rfl, rfl⟩
end Go.Proofs.YtmnibmgbicnamaaGreatDoor
