/-
  Layer 7 (mix): the document's decimal digits are those of the library's shelf (Lib.decDigits).
-/
import Derived.Test.YtmnibmgbicnamaaGreatDoorM1
import Derived.Lib.ItoaNum
namespace Go.Proofs.YtmnibmgbicnamaaGreatDoor
open Go.RowKit

theorem digit_byte (x : Nat) (h : x < 10) : ((UInt8.ofNat (48 + x)).toNat : Int) = 48 + (x : Int) := by
  have : (UInt8.ofNat (48 + x)).toNat = (48 + x) % 256 := by simp
  rw [this]
  omega
theorem digFrom_dec : ∀ (k n : Nat) (acc : List Int), n ≠ 0 → n < 10 ^ k → digFrom k n acc = (Lib.decDigits n).map (fun b => (b.toNat : Int)) ++ acc
  | 0, n, acc, h0, h => by simp at h; omega
  | k + 1, n, acc, h0, h => by
    rw [digFrom_step k n acc h0]
    by_cases h10 : n < 10
    · have hz : n / 10 = 0 := by omega
      have hm : n % 10 = n := by omega
      rw [hz, digFrom_zero, Lib.decDigits_one h10, hm]
      simp only [List.map_cons, List.map_nil, List.singleton_append, digit_byte n h10]
    · have hd : n / 10 ≠ 0 := by omega
      rw [digFrom_dec k (n / 10) _ hd (by rw [Nat.pow_succ] at h; omega)]
      have he : Lib.decDigits n = Lib.decDigits (n / 10) ++ [UInt8.ofNat (48 + n % 10)] := by rw [Lib.decDigits, dif_neg h10]
      rw [he, List.map_append, List.append_assoc]
      simp only [List.map_cons, List.map_nil, List.singleton_append, digit_byte (n % 10) (by omega)]
theorem digits_dec (n : Nat) (hn : n < 4294967296) : digitsOf n = (Lib.decDigits n).map (fun b => (b.toNat : Int)) := by
  unfold digitsOf
  by_cases h0 : n = 0
  · subst h0
    rw [if_pos rfl, Lib.decDigits_one (by omega)]
    rfl
  · rw [if_neg h0, digFrom_dec 10 n [] h0 (by omega), List.append_nil]
end Go.Proofs.YtmnibmgbicnamaaGreatDoor
