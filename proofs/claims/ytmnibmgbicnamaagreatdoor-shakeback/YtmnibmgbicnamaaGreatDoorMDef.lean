/-
  Layer 7 (mix), of lists of bytes alone: cookies, digests, challenges.
-/
import Derived.WalkKit
import Derived.Laws.BitsAllLaws
namespace Go.Proofs.YtmnibmgbicnamaaGreatDoor
open Go.RowKit

/-- A text's bytes. -/
def nums (s : ByteArray) : List Int := s.data.toList.map fun b => (b.toNat : Int)
theorem nums_length (s : ByteArray) : (nums s).length = s.size := by
  unfold nums
  rw [List.length_map]
  rfl
theorem nums_get (s : ByteArray) (i : Nat) (h : i < s.size) (h' : i < (nums s).length) : (nums s)[i] = (s[i].toNat : Int) := by simp [nums]; rfl
theorem nums_rng (s : ByteArray) : ∀ z ∈ nums s, 0 ≤ z ∧ z < 256 := by
  intro z hz
  obtain ⟨b, _, rfl⟩ := List.mem_map.1 hz
  have := b.toNat_lt
  omega
/-- Where a byte stands that may not be. -/
def firstBad : List Int → Nat → Option Nat
  | [], _ => none
  | z :: r, i => if i = 255 ∨ z < 33 ∨ 126 < z then some i else firstBad r (i + 1)
/-- Where, and with which number, a text is refused. -/
def cookieErr (s : ByteArray) : Option (Int × Int) := if s.size = 0 then some (0, 140) else (firstBad (nums s) 0).map fun (i : Nat) => (Int.ofNat i, (140 : Int))
theorem firstBad_step (s : ByteArray) (i : Nat) (h : i < s.size) : firstBad ((nums s).drop i) i = if i = 255 ∨ (s[i].toNat : Int) < 33 ∨ 126 < (s[i].toNat : Int) then some i else firstBad ((nums s).drop (i + 1)) (i + 1) := by
  have h' : i < (nums s).length := by rw [nums_length]; exact h
  rw [List.drop_eq_getElem_cons h', nums_get s i h h']
  rfl
theorem firstBad_end (s : ByteArray) : firstBad ((nums s).drop s.size) s.size = none := by rw [List.drop_eq_nil_of_le (by rw [nums_length]; exact Nat.le_refl _)]; rfl

def mixA (a c : Int) : Int := bits .xor .u64 a c * 1099511628211 % 18446744073709551616
def mixB (b c : Int) : Int := ((b + c) % 18446744073709551616 * 6364136223846793005 % 18446744073709551616 + 1442695040888963407) % 18446744073709551616
def mixBytes (p : Int × Int) (zs : List Int) : Int × Int := zs.foldl (fun p c => (mixA p.1 c, mixB p.2 c)) p
def stir (p : Int × Int) : Int × Int :=
  (bits .xor .u64 p.1 (p.2 / 536870912) * 18397679294719823053 % 18446744073709551616, bits .xor .u64 p.2 (bits .xor .u64 p.1 (p.2 / 536870912) * 18397679294719823053 % 18446744073709551616 / 4294967296) * 14181476777654086739 % 18446744073709551616)
def stirN : Nat → Int × Int → Int × Int
  | 0, p => p
  | k + 1, p => stir (stirN k p)
/-- Eight bytes, the highest first. -/
def bytes8 (a : Int) : List Int := [a / 72057594037927936 % 256, a / 281474976710656 % 256, a / 1099511627776 % 256, a / 4294967296 % 256, a / 16777216 % 256, a / 65536 % 256, a / 256 % 256, a % 256]
/-- Decimal digits. -/
def digFrom : Nat → Nat → List Int → List Int
  | 0, _, acc => acc
  | k + 1, n, acc => if n = 0 then acc else digFrom k (n / 10) ((48 + (n % 10 : Nat) : Int) :: acc)
def digitsOf (n : Nat) : List Int := if n = 0 then [48] else digFrom 10 n []
def mixed (zs : List Int) : Int × Int := stir (stir (stir (stir (mixBytes (14695981039346656037, 88172645463325252) zs))))
def digestOf (s : ByteArray) (n : Nat) : List Int := bytes8 (mixed (nums s ++ digitsOf n)).1 ++ bytes8 (mixed (nums s ++ digitsOf n)).2
theorem digest_length (s : ByteArray) (n : Nat) : (digestOf s n).length = 16 := rfl
/-- What Digest tells. -/
def digestTold (s : ByteArray) (n : Nat) : List Int := if (cookieErr s).isSome = true then [] else digestOf s n
/-- A generator's step. -/
def genS (s : Int) : Int := (s + 11400714819323198485) % 18446744073709551616
def genA (z : Int) : Int := bits .xor .u64 z (z / 1073741824) * 13787848793156543929 % 18446744073709551616
def genB (z : Int) : Int := bits .xor .u64 z (z / 134217728) * 10723151780598845931 % 18446744073709551616
def genC (z : Int) : Int := bits .xor .u64 z (z / 2147483648)
def chal (s : Int) : Int := genC (genB (genA s)) / 4294967296 % 4294967296
/-- Numbers of 64 bits. -/
def U64 (x : Int) : Prop := 0 ≤ x ∧ x < 18446744073709551616
theorem U64.mod (x : Int) : U64 (x % 18446744073709551616) := ⟨by omega, by omega⟩
theorem U64.xor (x y : Int) : U64 (bits .xor .u64 x y) := by
  unfold bits
  rw [IntKind.wrap_u64]
  exact U64.mod _
theorem mixBytes_snoc (p : Int × Int) (zs : List Int) (c : Int) : mixBytes p (zs ++ [c]) = (mixA (mixBytes p zs).1 c, mixB (mixBytes p zs).2 c) := by simp [mixBytes]
theorem mixBytes_u64 : ∀ (zs : List Int) (p : Int × Int), U64 p.1 → U64 p.2 → U64 (mixBytes p zs).1 ∧ U64 (mixBytes p zs).2
  | [], _, h1, h2 => ⟨h1, h2⟩
  | c :: r, p, _, _ => mixBytes_u64 r (mixA p.1 c, mixB p.2 c) (U64.mod _) (U64.mod _)
end Go.Proofs.YtmnibmgbicnamaaGreatDoor
