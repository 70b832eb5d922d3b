/-
  Layer 8 (shake): the document's numbers out of bytes.
-/
import Derived.Test.YtmnibmgbicnamaaGreatDoorS4
namespace Go.Proofs.YtmnibmgbicnamaaGreatDoor
open Go.RowKit

theorem numAt_step (b : List Int) (i k : Nat) (h : i + k < b.length) : numAt b i (k + 1) = numAt b i k * 256 + b[i + k] := by
  unfold numAt
  rw [List.take_add_one, List.getElem?_drop, List.getElem?_eq_getElem h, Option.toList_some, List.foldl_append]
  rfl
theorem numAt_rng (b : List Int) (hr : ∀ z ∈ b, 0 ≤ z ∧ z < 256) (i : Nat) : ∀ k, i + k ≤ b.length → 0 ≤ numAt b i k ∧ numAt b i k < (256 ^ k : Nat)
  | 0, _ => by simp [numAt]
  | k + 1, h => by
    have ih := numAt_rng b hr i k (by omega)
    have hz := hr b[i + k] (List.getElem_mem (by omega))
    rw [numAt_step b i k (by omega)]
    generalize numAt b i k = v at ih
    rw [Nat.pow_succ]
    generalize 256 ^ k = p at ih
    omega
theorem or_join (v c : Int) (hv : 0 ≤ v ∧ v < 72057594037927936) (hc : 0 ≤ c ∧ c < 256) : bits .or .u64 (v * 256) c = v * 256 + c := by
  obtain ⟨m, rfl⟩ : ∃ m : Nat, v = (m : Int) := ⟨v.toNat, by omega⟩
  obtain ⟨k, rfl⟩ : ∃ k : Nat, c = (k : Int) := ⟨c.toNat, by omega⟩
  have h := nat_join 8 (m * 256) k (by simp) (by omega)
  rw [show (m : Int) * 256 = ((m * 256 : Nat) : Int) by omega, u64_or_nat _ _ (by omega) (by omega), h]
  omega
theorem pow256 (j n : Nat) (hn : n ≤ 8) (h : j < n) : 256 ^ j ≤ 72057594037927936 := by
  have h7 : j ≤ 7 := by omega
  have : 256 ^ j ≤ 256 ^ 7 := Nat.pow_le_pow_right (by omega) h7
  omega

set_option maxRecDepth 100000 in
set_option maxHeartbeats 1600000 in
theorem ref_num {w : World} {B : Value} {b : List Int} (hB : Sl w B b) (hr : ∀ z ∈ b, 0 ≤ z ∧ z < 256) (i n : Nat) (hn : n ≤ 8) (hn1 : 1 ≤ n) (hl : i + n ≤ b.length) (hb : b.length ≤ 140737488355328) : Calls Tryz.prog 46 #[B, .int .i64 i, .int .i64 n] w fun e w' => e = .returned (.int .u64 (numAt b i n)) ∧ w = w' := by
  generalize hm : numAt b i n = m
  have HM : Hid (numAt b i n = m) := hm
  clear hm
  rcases hB with ⟨rfl, rfl⟩ | ⟨a, rfl, rfl⟩ | ⟨g, off, cap, rfl, h2, h3, h4⟩
  · simp at hl; omega
  · simp at hl; omega
  · have H4 : Hid (∀ j (h : j < b.length), w.cell? ⟨g, off + j, none⟩ = some (.int .u8 b[j])) := h4
    have HR : Hid (∀ z ∈ b, 0 ≤ z ∧ z < 256) := hr
    clear h4 hr
    go_enter Tryz.func46, Tryz.ntmps46
    go_wp2_with fail
    go_loopw [7, 8] (fun vv ii wr => ∃ j : Nat, ii = .int .i64 j ∧ j ≤ n ∧ vv = .int .u64 (numAt b i j) ∧ w = wr) (fun _ ii _ => n - (intOf ii).toNat)
    case atStart => exact ⟨0, rfl, Nat.zero_le _, rfl, rfl⟩
    case round =>
      obtain ⟨j, rfl, hj, rfl, rfl⟩ := hrel
      by_cases hlt : j < n
      · have hlti : (j : Int) < (n : Int) := by omega
        have hx := H4.out (i + j) (by omega)
        have hst := numAt_step b i j (by omega)
        have hv := numAt_rng b HR.out i j (by omega)
        have hp := pow256 j n hn hlt
        have hc := HR.out b[i + j] (List.getElem_mem (by omega))
        generalize b[i + j] = c at hx hst hc
        have HST : Hid (numAt b i (j + 1) = numAt b i j * 256 + c) := hst
        have hv1 : 0 ≤ numAt b i j ∧ numAt b i j < 72057594037927936 := by omega
        have hor := or_join (numAt b i j) c hv1 hc
        have hbd : (i : Int) + (j : Int) < (b.length : Int) := by omega
        have hbd0 : (0 : Int) ≤ (i : Int) + (j : Int) := by omega
        clear hst hv hp
        generalize numAt b i j = v at hv1 hor HST
        obtain ⟨v0, v1⟩ := hv1
        go_wp2
        go_roundw
        case rel => exact ⟨j + 1, by go_num, by omega, by rw [HST.out], trivial⟩
        case measure => simp [intOf]; omega
      · have hge : ¬ (j : Int) < (n : Int) := by omega
        obtain rfl : j = n := by omega
        rw [HM.out]
        go_wp2
        go_ret
        exact ⟨rfl, rfl⟩
end Go.Proofs.YtmnibmgbicnamaaGreatDoor
