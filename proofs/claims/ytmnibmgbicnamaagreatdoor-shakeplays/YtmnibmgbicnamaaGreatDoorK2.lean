/-
  Layer 7 (mix), of lists of bytes alone: cookies, digests, challenges.
  Layer 7 (mix): what both the document's and the program's answers are told by: links and faults with a place; the document's Cookie.
  Layer 7 (mix): the document's digits and Digest.
  Layer 7 (mix): the document's Digest, Same and generator; what is asked of the program's mix (MImpl).
  Layer 7 (mix): what is asked of the program's mix (MImpl); heddlelaw07.alive.
  Layer 8 (shake), of lists of bytes alone: names of nodes, messages, what is written and read, what a side does.
  Layer 8 (shake), of lists of bytes alone: what is written is read as itself, and what is read is written as itself.
-/
import Derived.WalkKit
import Derived.Laws.BitsAllLaws
import Derived.Test.YtmnibmgbicnamaaGreatDoorK1
import Derived.Test.YtmnibmgbicnamaaGreatDoorChecked
import Derived.Deep.RegionHeld3
import Derived.Deep.RegionLaw
import Derived.Laws.BytesArg
import Derived.WalkSpells
import Derived.RegionTactic
import Derived.Laws.Closers25
import Derived.Deep.DeepCutAuto
import Derived.Laws.IdiomStrings
import Derived.Lib.Bytes
import Derived.Lib.LaidTab
import Derived.Lib.ItoaNum
namespace Go.Proofs.YtmnibmgbicnamaaGreatDoor
open Go.RowKit

/-- A text's bytes. -/
def nums (s : ByteArray) : List Int := s.data.toList.map fun b => (b.toNat : Int)
theorem nums_length (s : ByteArray) : (nums s).length = s.size := by
  unfold nums
  rw [List.length_map]
  rfl
theorem nums_get (s : ByteArray) (i : Nat) (h : i < s.size) (h' : i < (nums s).length) : (nums s)[i] = (s[i].toNat : Int) := by simp [nums]; rfl
theorem nums_rng (s : ByteArray) : ∀ z ∈ nums s, 0 ≤ z ∧ z < 256 := by
  intro z hz
  obtain ⟨b, _, rfl⟩ := List.mem_map.1 hz
  have := b.toNat_lt
  omega
/-- Where a byte stands that may not be. -/
def firstBad : List Int → Nat → Option Nat
  | [], _ => none
  | z :: r, i => if i = 255 ∨ z < 33 ∨ 126 < z then some i else firstBad r (i + 1)
/-- Where, and with which number, a text is refused. -/
def cookieErr (s : ByteArray) : Option (Int × Int) := if s.size = 0 then some (0, 140) else (firstBad (nums s) 0).map fun (i : Nat) => (Int.ofNat i, (140 : Int))
theorem firstBad_step (s : ByteArray) (i : Nat) (h : i < s.size) : firstBad ((nums s).drop i) i = if i = 255 ∨ (s[i].toNat : Int) < 33 ∨ 126 < (s[i].toNat : Int) then some i else firstBad ((nums s).drop (i + 1)) (i + 1) := by
  have h' : i < (nums s).length := by rw [nums_length]; exact h
  rw [List.drop_eq_getElem_cons h', nums_get s i h h']
  rfl
theorem firstBad_end (s : ByteArray) : firstBad ((nums s).drop s.size) s.size = none := by rw [List.drop_eq_nil_of_le (by rw [nums_length]; exact Nat.le_refl _)]; rfl

def mixA (a c : Int) : Int := bits .xor .u64 a c * 1099511628211 % 18446744073709551616
def mixB (b c : Int) : Int := ((b + c) % 18446744073709551616 * 6364136223846793005 % 18446744073709551616 + 1442695040888963407) % 18446744073709551616
def mixBytes (p : Int × Int) (zs : List Int) : Int × Int := zs.foldl (fun p c => (mixA p.1 c, mixB p.2 c)) p
def stir (p : Int × Int) : Int × Int :=
  (bits .xor .u64 p.1 (p.2 / 536870912) * 18397679294719823053 % 18446744073709551616, bits .xor .u64 p.2 (bits .xor .u64 p.1 (p.2 / 536870912) * 18397679294719823053 % 18446744073709551616 / 4294967296) * 14181476777654086739 % 18446744073709551616)
def stirN : Nat → Int × Int → Int × Int
  | 0, p => p
  | k + 1, p => stir (stirN k p)
/-- Eight bytes, the highest first. -/
def bytes8 (a : Int) : List Int := [a / 72057594037927936 % 256, a / 281474976710656 % 256, a / 1099511627776 % 256, a / 4294967296 % 256, a / 16777216 % 256, a / 65536 % 256, a / 256 % 256, a % 256]
/-- Decimal digits. -/
def digFrom : Nat → Nat → List Int → List Int
  | 0, _, acc => acc
  | k + 1, n, acc => if n = 0 then acc else digFrom k (n / 10) ((48 + (n % 10 : Nat) : Int) :: acc)
def digitsOf (n : Nat) : List Int := if n = 0 then [48] else digFrom 10 n []
def mixed (zs : List Int) : Int × Int := stir (stir (stir (stir (mixBytes (14695981039346656037, 88172645463325252) zs))))
def digestOf (s : ByteArray) (n : Nat) : List Int := bytes8 (mixed (nums s ++ digitsOf n)).1 ++ bytes8 (mixed (nums s ++ digitsOf n)).2
theorem digest_length (s : ByteArray) (n : Nat) : (digestOf s n).length = 16 := rfl
/-- What Digest tells. -/
def digestTold (s : ByteArray) (n : Nat) : List Int := if (cookieErr s).isSome = true then [] else digestOf s n
/-- A generator's step. -/
def genS (s : Int) : Int := (s + 11400714819323198485) % 18446744073709551616
def genA (z : Int) : Int := bits .xor .u64 z (z / 1073741824) * 13787848793156543929 % 18446744073709551616
def genB (z : Int) : Int := bits .xor .u64 z (z / 134217728) * 10723151780598845931 % 18446744073709551616
def genC (z : Int) : Int := bits .xor .u64 z (z / 2147483648)
def chal (s : Int) : Int := genC (genB (genA s)) / 4294967296 % 4294967296
/-- Numbers of 64 bits. -/
def U64 (x : Int) : Prop := 0 ≤ x ∧ x < 18446744073709551616
theorem U64.mod (x : Int) : U64 (x % 18446744073709551616) := ⟨by omega, by omega⟩
theorem U64.xor (x y : Int) : U64 (bits .xor .u64 x y) := by
  unfold bits
  rw [IntKind.wrap_u64]
  exact U64.mod _
theorem mixBytes_snoc (p : Int × Int) (zs : List Int) (c : Int) : mixBytes p (zs ++ [c]) = (mixA (mixBytes p zs).1 c, mixB (mixBytes p zs).2 c) := by simp [mixBytes]
theorem mixBytes_u64 : ∀ (zs : List Int) (p : Int × Int), U64 p.1 → U64 p.2 → U64 (mixBytes p zs).1 ∧ U64 (mixBytes p zs).2
  | [], _, h1, h2 => ⟨h1, h2⟩
  | c :: r, p, _, _ => mixBytes_u64 r (mixA p.1 c, mixB p.2 c) (U64.mod _) (U64.mod _)
end Go.Proofs.YtmnibmgbicnamaaGreatDoor
namespace Go.Proofs.YtmnibmgbicnamaaGreatDoor
open Go.RowKit

theorem Tryz.bytes : ByteTypes Tryz.prog 25 5 := by
  refine ⟨Tryz.underlying25, ?_⟩
  have h : (Tryz.prog.info? 5).map (fun i => (i.zero, i.size, i.bytes)) = some (some (.int .u8 0), 1, 1) := by kernel_rfl
  obtain ⟨i, hi, h0, h1, h2⟩ := info_parts h
  exact ⟨i, hi, h0, h1, h2⟩
theorem alloc0m (w : World) (o : Obj) : Turned (fun _ => False) w (w.alloc o) := Turned.alloc _ _ _
theorem Sl.str {w : World} {v : Value} {zs : List Int} (h : Sl w v zs) : (convert 25 9 v).run Tryz.prog w = .ok (.string (strOfNums zs)) w := by
  rcases h with ⟨rfl, rfl⟩ | ⟨a, rfl, rfl⟩ | ⟨g, off, cap, rfl, _, _, h4⟩
  · exact run_convert_bytes_nil w _ _ Tryz.underlying25 Tryz.underlying5 0 0 _ Tryz.underlying9
  · rw [run_convert_bytes_string w _ _ _ _ _ _ Tryz.underlying25 Tryz.underlying5 Tryz.underlying9]
    have hl : (loadCells a 0).run Tryz.prog w = .ok #[] w := by simpa using run_loadCells_list (P := Tryz.prog) w a [] (fun j v hj => by simp at hj)
    simp [Conv.bytesToString, strOfNums, hl]
    rfl
  · exact run_convert_bytes_arg w _ _ Tryz.underlying25 Tryz.underlying5 g off zs.length cap zs rfl (fun i hi => by rw [h4 i hi]; simp [List.getD, List.getElem?_eq_getElem hi]) _ Tryz.underlying9

/-- One link, in a block from B on, of layer mix. -/
def LinkAt (B : Nat) (w : World) (v : Value) (x : Int × Int) : Prop := ∃ lb, B ≤ lb ∧ v = .slice (some ⟨lb, 0, none⟩) 1 1 ∧ w.cell? ⟨lb, 0, none⟩ = some (.string ⟨#[109, 105, 120]⟩) ∧ w.cell? ⟨lb, 1, none⟩ = some (.int .i64 x.1) ∧ w.cell? ⟨lb, 2, none⟩ = some (.int .i64 x.2)
def LinksM (B : Nat) (w : World) (v : Value) : Option (Int × Int) → Prop
  | none => v = .slice none 0 0
  | some x => LinkAt B w v x
theorem LinksM.turned {B : Nat} {w w' : World} {v : Value} {oc : Option (Int × Int)} {S : Nat → Prop} (h : LinksM B w v oc) (ht : Turned S w w') (hs : ∀ k, B ≤ k → k < w.heap.size → ¬ S k) : LinksM B w' v oc := by
  cases oc with
  | none => exact h
  | some c =>
    obtain ⟨lb, h0, rfl, h1, h2, h3⟩ := h
    have hp := hs lb h0 (World.block_lt_of_cell? w _ h1)
    exact ⟨lb, h0, rfl, ht.cell h1 hp, ht.cell h2 hp, ht.cell h3 hp⟩
theorem LinksM.below {B : Nat} {w w' : World} {v : Value} {oc : Option (Int × Int)} (h : LinksM B w v oc) (hb : Below w.heap.size w w') : LinksM B w' v oc := h.turned (Turned.ofBelow (S := fun _ => False) hb) (fun _ _ _ h => h)

/-- A fault, in a block from B on, of layer mix with nothing under it. -/
def FaultAt (B : Nat) (w : World) (v : Value) (x : Int × Int) : Prop := ∃ pb, B ≤ pb ∧ v = .iface 131 (.pointer (some ⟨pb, 0, none⟩)) ∧ w.cell? ⟨pb, 0, none⟩ = some (.string ⟨#[109, 105, 120]⟩) ∧ w.cell? ⟨pb, 1, none⟩ = some (.int .i64 x.1) ∧ w.cell? ⟨pb, 2, none⟩ = some (.int .i64 x.2) ∧ w.cell? ⟨pb, 3, none⟩ = some .nilIface
def ErrsM (B : Nat) (w : World) (v : Value) : Option (Int × Int) → Prop
  | none => v = .nilIface
  | some x => FaultAt B w v x
theorem ErrsM.turned {B : Nat} {w w' : World} {v : Value} {oc : Option (Int × Int)} {S : Nat → Prop} (h : ErrsM B w v oc) (ht : Turned S w w') (hs : ∀ k, B ≤ k → k < w.heap.size → ¬ S k) : ErrsM B w' v oc := by
  cases oc with
  | none => exact h
  | some c =>
    obtain ⟨pb, h0, rfl, h1, h2, h3, h4⟩ := h
    have hp := hs pb h0 (World.block_lt_of_cell? w _ h1)
    exact ⟨pb, h0, rfl, ht.cell h1 hp, ht.cell h2 hp, ht.cell h3 hp, ht.cell h4 hp⟩
theorem ErrsM.below {B : Nat} {w w' : World} {v : Value} {oc : Option (Int × Int)} (h : ErrsM B w v oc) (hb : Below w.heap.size w w') : ErrsM B w' v oc := h.turned (Turned.ofBelow (S := fun _ => False) hb) (fun _ _ _ h => h)
/-- The variable errors.errorType. -/
def Er (w : World) : Prop := w.cell? ⟨0, 0, none⟩ = some (.iface 168 (.agg #[.pointer (some ⟨5, 29, none⟩)]))
theorem Er.turned {S : Nat → Prop} {w w' : World} (h : Er w) (ht : Turned S w w') (hs : ¬ S 0) : Er w' := ht.cell h hs
theorem Er.below {w w' : World} (h : Er w) (hb : Below w.heap.size w w') : Er w' := (hb.cell (p := ⟨0, 0, none⟩) (World.block_lt_of_cell? w _ h)).trans h

/-- Refused of what both tell. -/
theorem refused_bothM {B B' : Nat} {w : World} {v l : Value} {oc : Option (Int × Int)} (her : Er w) (he : ErrsM B w v oc) (hl : LinksM B' w l oc) :
    Calls Tryz.prog 11 #[v, l] w fun ev w' => ev = .returned (.bool true) ∧ Below w.heap.size w w' := by
  cases oc with
  | none =>
    have hv : v = .nilIface := he
    have hl' : l = .slice none 0 0 := hl
    subst hv hl'
    refine (refused_nil w none 0).mono ?_
    rintro ev w' ⟨rfl, rfl⟩
    exact ⟨rfl, Below.refl _ _⟩
  | some c =>
    obtain ⟨pb, _, rfl, h1, h2, h3, h4⟩ := he
    obtain ⟨lb, _, rfl, l1, l2, l3⟩ := hl
    exact refused_fault pb 0 lb 1 _ _ _ w her h1 h2 h3 h4 l1 l2 l3
theorem one_any (ly : ByteArray) (a c : Int) (w : World) : Calls Tryz.prog 41 #[.string ly, .int .i64 a, .int .i64 c] w fun e w' => e = .returned (.slice (some ⟨w.heap.size, 0, none⟩) 1 1) ∧ w' = w.alloc (.cells #[.string ly, .int .i64 a, .int .i64 c] 102) := by
  go_enter Tryz.func41, Tryz.ntmps41
  go_wp2
  go_ret
  exact ⟨rfl, rfl⟩
/-- The document's refusal. -/
theorem no_any (a c : Int) (w : World) : Calls Tryz.prog 86 #[.int .i64 a, .int .i64 c] w fun e w' => ∃ v, e = .returned v ∧ LinksM w.heap.size w' v (some (a, c)) ∧ Below w.heap.size w w' := by
  go_enter Tryz.func86, Tryz.ntmps86
  go_wp2
  go_ret
  exact ⟨_, rfl, ⟨_, Nat.le_refl _, rfl, by simp, by simp, by simp⟩, (Below.refl _ _).alloc (Nat.le_refl _) _⟩
set_option maxRecDepth 100000 in
set_option maxHeartbeats 1600000 in
/-- The document's Cookie. -/
theorem ref_cookie (s : ByteArray) (hs : s.size ≤ 4611686018427387904) (w : World) : Calls Tryz.prog 61 #[.string s] w fun e w' => ∃ v, e = .returned v ∧ LinksM w.heap.size w' v (cookieErr s) ∧ Below w.heap.size w w' := by
  unfold cookieErr
  by_cases h0 : s.size = 0
  · rw [if_pos h0]
    obtain rfl : s = ⟨#[]⟩ := by
      apply ByteArray.ext
      exact Array.eq_empty_of_size_eq_zero h0
    go_enter Tryz.func61, Tryz.ntmps61
    go_wp2_with (go_at_call 86; refine (no_any _ _ _).mono ?_; rintro e w1 ⟨v, rfl, hf, hb⟩)
    go_ret
    exact ⟨v, rfl, hf, hb⟩
  · rw [if_neg h0]
    generalize hoc : (firstBad (nums s) 0).map (fun (i : Nat) => (Int.ofNat i, (140 : Int))) = oc
    have HOC : Hid ((firstBad (nums s) 0).map (fun (i : Nat) => (Int.ofNat i, (140 : Int))) = oc) := hoc
    clear hoc
    have hE : s.toList.isEmpty = false := by
      rw [← decide_eq_emptyBytes]
      simp
      intro h
      subst h
      exact h0 rfl
    go_enter Tryz.func61, Tryz.ntmps61
    go_wp2_with fail
    go_loopw [3] (fun ii wr => ∃ j : Nat, ii = .int .i64 j ∧ j ≤ s.size ∧ firstBad ((nums s).drop j) j = firstBad (nums s) 0 ∧ w = wr) (fun ii _ => s.size - (intOf ii).toNat)
    case atStart => exact ⟨0, rfl, Nat.zero_le _, rfl, rfl⟩
    case round =>
      obtain ⟨j, rfl, hj, hfb, rfl⟩ := hrel
      by_cases hlt : j < s.size
      · have hlti : (j : Int) < (s.size : Int) := by omega
        have hj0 : (0 : Int) ≤ (j : Int) := by omega
        rw [firstBad_step s j hlt] at hfb
        have hidx : ∀ W : World, (Instr.index 9 (.string s) (.int .i64 (j : Int))).run Tryz.prog W = .ok (.int .u8 (s[j].toNat : Int)) W := fun W => by
          rw [run_index_string W _ _ _ _ Tryz.underlying9, dif_pos ⟨hj0, hlti⟩]
          simp
        generalize (s[j].toNat : Int) = c at hidx hfb
        by_cases h255 : j = 255
        · rw [if_pos (.inl h255)] at hfb
          subst h255
          have hoc := HOC.out
          rw [← hfb] at hoc
          have hoc : some ((255 : Int), (140 : Int)) = oc := hoc
          subst hoc
          go_wp2_with (go_at_call 86; refine (no_any _ _ _).mono ?_; rintro e w1 ⟨v, rfl, hf, hb⟩)
          go_ret
          exact ⟨v, rfl, hf, hb⟩
        · have hq : ((j : Int) == 255) = false := by simp; omega
          by_cases h33 : c < 33
          · rw [if_pos (.inr (.inl h33))] at hfb
            have hoc := HOC.out
            rw [← hfb] at hoc
            have hoc : some ((j : Int), (140 : Int)) = oc := hoc
            subst hoc
            go_wp2_with (go_at_call 86; refine (no_any _ _ _).mono ?_; rintro e w1 ⟨v, rfl, hf, hb⟩)
            go_ret
            exact ⟨v, rfl, hf, hb⟩
          · by_cases h126 : 126 < c
            · rw [if_pos (.inr (.inr h126))] at hfb
              have hoc := HOC.out
              rw [← hfb] at hoc
              have hoc : some ((j : Int), (140 : Int)) = oc := hoc
              subst hoc
              go_wp2_with (go_at_call 86; refine (no_any _ _ _).mono ?_; rintro e w1 ⟨v, rfl, hf, hb⟩)
              go_ret
              exact ⟨v, rfl, hf, hb⟩
            · rw [if_neg (by omega)] at hfb
              have HFB : Hid (firstBad ((nums s).drop (j + 1)) (j + 1) = firstBad (nums s) 0) := hfb
              clear hfb
              go_wp2
              go_roundw
              case rel => exact ⟨j + 1, by go_num, by omega, HFB.out, trivial⟩
              case measure => simp [intOf]; omega
      · have hge : ¬ (j : Int) < (s.size : Int) := by omega
        obtain rfl : j = s.size := by omega
        rw [firstBad_end] at hfb
        have hoc := HOC.out
        rw [← hfb] at hoc
        have hoc : none = oc := hoc
        subst hoc
        go_wp2
        go_ret
        exact ⟨_, rfl, rfl, Below.refl _ _⟩
end Go.Proofs.YtmnibmgbicnamaaGreatDoor
namespace Go.Proofs.YtmnibmgbicnamaaGreatDoor
open Go.RowKit

theorem Sl.one (w : World) (t : TypeId) (x : Int) : Own (w.alloc (.cells #[.int .u8 x] t)) (.slice (some ⟨w.heap.size, 0, none⟩) 1 1) [x] := by
  refine .inr ⟨w.heap.size, 0, 1, rfl, Nat.le_refl _, by decide, by simp, fun j hj => ?_, fun j hj => ?_⟩
  · have : j = 0 := by simpa using hj
    subst this
    simp
  · have : j = 0 := by omega
    subst this
    exact ⟨by simp, by simp⟩
/-- '[]byte(s)'. -/
theorem conv_bytes (w : World) (s : ByteArray) (hs : s.size ≤ maxLen) : ∃ cap w1, (convert 9 25 (.string s)).run Tryz.prog w = .ok (.slice (some ⟨w.heap.size, 0, none⟩) s.size cap) w1 ∧ Own w1 (.slice (some ⟨w.heap.size, 0, none⟩) s.size cap) (nums s) ∧ Turned (fun _ => False) w w1 := by
  have hr := run_bytes_of_string (P := Tryz.prog) w 9 25 5 s Tryz.underlying9 Tryz.underlying25 Tryz.underlying5
  have hge := grownCap_ge w s.size 0 5
  have hle := grownCap_le_maxLen w s.size 0 5 hs
  generalize grownCap w s.size 0 5 = c at hr hge hle
  refine ⟨c, _, hr, ?_, (Turned.drew (fun _ => False) w).trans (alloc0m w.drew _) (fun _ h => h.elim)⟩
  have hl := nums_length s
  have hsz : (bytesRow s c).size = c := by
    have : s.data.size = s.size := rfl
    simp [bytesRow]
    omega
  refine .inr ⟨w.heap.size, 0, c, by rw [hl], by rw [hl]; exact hge, hle, by simp, fun j hj => ?_, fun j hj => ?_⟩
  · have hj' : j < s.size := by rw [← hl]; exact hj
    have hjd : j < s.data.size := hj'
    rw [Nat.zero_add, show w.heap.size = w.drew.heap.size from rfl, World.cell?_alloc_mark, nums_get s j hj' hj]
    unfold bytesRow
    rw [Array.getElem?_append_left (by simpa using hjd), Array.getElem?_map, Array.getElem?_eq_getElem hjd]
    rfl
  · rw [Nat.zero_add, show w.heap.size = w.drew.heap.size from rfl, World.cell?_alloc_mark, World.frozen?_alloc_mark, hsz]
    refine ⟨?_, by simp; omega⟩
    rw [Array.getElem?_eq_getElem (by rw [hsz]; exact hj)]
    rfl
theorem digFrom_zero (k : Nat) (acc : List Int) : digFrom k 0 acc = acc := by cases k <;> rfl
theorem digFrom_step (k n : Nat) (acc : List Int) (h : n ≠ 0) : digFrom (k + 1) n acc = digFrom k (n / 10) ((48 + (n % 10 : Nat) : Int) :: acc) := by
  show (if n = 0 then acc else _) = _
  rw [if_neg h]

theorem digFrom_rng : ∀ (k n : Nat) (acc : List Int), (∀ z ∈ acc, 0 ≤ z ∧ z < 256) → ∀ z ∈ digFrom k n acc, 0 ≤ z ∧ z < 256
  | 0, _, _, h => h
  | k + 1, n, acc, h => by
    unfold digFrom
    by_cases h0 : n = 0
    · rw [if_pos h0]; exact h
    · rw [if_neg h0]
      exact digFrom_rng k (n / 10) _ (fun z hz => by
        rcases List.mem_cons.1 hz with rfl | hz
        · omega
        · exact h z hz)
theorem digits_rng (n : Nat) : ∀ z ∈ digitsOf n, 0 ≤ z ∧ z < 256 := by
  unfold digitsOf
  by_cases h0 : n = 0
  · rw [if_pos h0]; intro z hz; simp at hz; omega
  · rw [if_neg h0]; exact digFrom_rng 10 n [] (fun z hz => by cases hz)

set_option maxRecDepth 100000 in
set_option maxHeartbeats 1600000 in
theorem ref_digits (n : Nat) (hn : n < 4294967296) (w : World) : Calls Tryz.prog 62 #[.int .u32 n] w fun e w' => ∃ V, e = .returned V ∧ Own w' V (digitsOf n) ∧ (digitsOf n).length ≤ 10 ∧ Turned (fun _ => False) w w' ∧ ∀ k, blk V k → w.heap.size ≤ k := by
  unfold digitsOf
  by_cases h0 : n = 0
  · subst h0
    rw [if_pos rfl]
    have HT := fun t : TypeId => Sl.one w t 48
    go_enter Tryz.func62, Tryz.ntmps62
    go_wp2
    go_ret
    exact ⟨_, rfl, HT _, by decide, alloc0m w _, fun k hk => Nat.le_of_eq hk⟩
  · rw [if_neg h0]
    have hq : ((n : Int) == 0) = false := by simp; omega
    go_enter Tryz.func62, Tryz.ntmps62
    go_wp2_with fail
    go_loopw [0, 3] (fun nn bb wr => ∃ (n' k : Nat) (acc : List Int), nn = .int .u32 n' ∧ n' < 4294967296 ∧ n' < 10 ^ k ∧ k + acc.length ≤ 10 ∧ digFrom k n' acc = digFrom 10 n [] ∧ Own wr bb acc ∧ Turned (fun _ => False) w wr ∧ ∀ q, blk bb q → w.heap.size ≤ q) (fun nn _ _ => (intOf nn).toNat)
    case atStart => exact ⟨n, 10, [], rfl, hn, by omega, by simp, rfl, .inl ⟨rfl, rfl⟩, Turned.refl _ _, fun _ h => h.elim⟩
    case round =>
      obtain ⟨n', k, acc, rfl, hn', hk, hl, hd, ho, hT, hb⟩ := hrel
      by_cases hz : n' = 0
      · have hz' : ¬ (0 : Int) < (n' : Int) := by omega
        subst hz
        rw [digFrom_zero] at hd
        have HD : Hid (acc = digFrom 10 n []) := hd
        have HO : Hid (Own wr u3 acc ∧ Turned (fun _ => False) w wr ∧ ∀ q, blk u3 q → w.heap.size ≤ q) := ⟨ho, hT, hb⟩
        clear hd ho hT hb
        go_wp2
        go_ret
        rw [← HD.out]
        exact ⟨_, rfl, HO.out.1, by omega, HO.out.2.1, HO.out.2.2⟩
      · have hz' : (0 : Int) < (n' : Int) := by omega
        obtain ⟨k', rfl⟩ : ∃ k', k = k' + 1 := ⟨k - 1, by cases k with | zero => simp at hk; omega | succ k => rfl⟩
        rw [digFrom_step k' n' acc hz] at hd
        have hw1 : IntKind.u32.wrap (48 + (n' : Int) % 10) = 48 + (n' : Int) % 10 := by rw [IntKind.wrap_u32]; omega
        have hw2 : IntKind.u8.wrap (48 + (n' : Int) % 10) = 48 + (n' : Int) % 10 := by rw [IntKind.wrap_u8]; omega
        have hm0 : 0 ≤ (n' : Int) % 10 := by omega
        have hm1 : (n' : Int) % 10 < 10 := by omega
        have hlt : n' / 10 < 10 ^ k' := by rw [Nat.pow_succ] at hk; omega
        have HD : Hid (digFrom k' (n' / 10) ((48 + (n' : Int) % 10) :: acc) = digFrom 10 n []) := by rw [show (48 + (n' : Int) % 10) = (48 + (n' % 10 : Nat) : Int) by omega]; exact hd
        have HO : Hid (Own wr u3 acc ∧ Turned (fun _ => False) w wr ∧ ∀ q, blk u3 q → w.heap.size ≤ q) := ⟨ho, hT, hb⟩
        obtain ⟨a3, c3, L3, rfl⟩ : ∃ a c L, u3 = .slice a L c := ⟨_, _, _, ho.sl.form.choose_spec.choose_spec.1⟩
        have HT := fun t : TypeId => Sl.one wr t (48 + (n' : Int) % 10)
        have HA := fun o : Obj => (ho.turned (alloc0m wr o) (fun _ _ h => h)).sl
        clear hd ho hT hb
        go_wp2_with (at_builtin; refine wpList_append_bytes (by rfl) (.tmp 13) (.tmp 14) (by rfl) Tryz.bytes (by rfl) (by rfl) (HT _) (HA _) (by simp; omega) ?_; intro v1 w1 ho1 ht1 hb1; have HO1 : Hid (Own w1 v1 ([48 + (n' : Int) % 10] ++ acc) ∧ Turned (fun _ => False) wr w1 ∧ ∀ q, blk v1 q → wr.heap.size ≤ q) := ⟨ho1, (alloc0m wr _).trans ht1 (fun _ hk => .inr (Nat.le_of_eq hk)), fun q hq => (hb1 q hq).elim (fun h => Nat.le_of_eq h) (fun h => by simp at h; omega)⟩; clear ho1 ht1 hb1)
        go_roundw
        case rel =>
          obtain ⟨h1, h2, h3⟩ := HO.out
          obtain ⟨o1, o2, o3⟩ := HO1.out
          exact ⟨n' / 10, k', (48 + (n' : Int) % 10) :: acc, by simp, by omega, hlt, by simp; omega, HD.out, o1, h2.trans o2 (fun _ h => h.elim), fun q hq => Nat.le_trans h2.size (o3 q hq)⟩
        case measure => simp [intOf]; omega
theorem Hid.mk7 {p : Prop} (h : p) : Hid p := h
/-- A byte behind what is there. -/
theorem appended {w wr w1 : World} {o : Obj} {v v1 : Value} {zs : List Int} (hT : Turned (fun _ => False) w wr) (hb : ∀ q, blk v q → w.heap.size ≤ q) (ho1 : Own w1 v1 zs) (ht1 : Turned (blk v) (wr.alloc o) w1) (hb1 : ∀ k, blk v1 k → blk v k ∨ k = (wr.alloc o).heap.size) :
    Own w1 v1 zs ∧ Turned (fun _ => False) w w1 ∧ ∀ q, blk v1 q → w.heap.size ≤ q :=
  ⟨ho1, (hT.trans (alloc0m wr o) (fun _ h => h.elim)).trans ht1 (fun k hk => .inr (hb k hk)), fun k hk => (hb1 k hk).elim (hb k) (fun h => by have := hT.size; simp at h; omega)⟩
set_option maxRecDepth 100000 in
set_option maxHeartbeats 1600000 in
theorem ref_digest_no (s : ByteArray) (hs : s.size ≤ 4611686018427387904) (n : Nat) (w : World) {x : Int × Int} (hc : cookieErr s = some x) : Calls Tryz.prog 26 #[.string s, .int .u32 n] w fun e w' => ∃ v, e = .returned (.tuple #[.slice none 0 0, v]) ∧ LinksM w.heap.size w' v (some x) ∧ Below w.heap.size w w' := by
  have hck := ref_cookie s hs w
  rw [hc] at hck
  go_enter Tryz.func26, Tryz.ntmps26
  go_wp2_with fail
  refine hck.mono ?_
  rintro e w1 ⟨v, rfl, hf, hb⟩
  have HF : Hid (LinksM w.heap.size w1 v (some x)) := hf
  obtain ⟨lb, _, rfl, _⟩ := hf
  go_wp2
  go_ret2
  exact ⟨_, rfl, HF.out, hb⟩

set_option maxRecDepth 100000 in
set_option maxHeartbeats 3200000 in
theorem ref_digest_ok (s : ByteArray) (hs : s.size ≤ 255) (n : Nat) (hn : n < 4294967296) (w : World) (hc : cookieErr s = none) : Calls Tryz.prog 26 #[.string s, .int .u32 n] w fun e w' => ∃ V, e = .returned (.tuple #[V, .slice none 0 0]) ∧ Own w' V (digestOf s n) ∧ Turned (fun _ => False) w w' ∧ ∀ k, blk V k → w.heap.size ≤ k := by
  have hck := ref_cookie s (by omega) w
  rw [hc] at hck
  go_enter Tryz.func26, Tryz.ntmps26
  go_wp2_with fail
  refine hck.mono ?_
  rintro e w1 ⟨v, rfl, hf, hb⟩
  have hf' : v = .slice none 0 0 := hf
  subst hf'
  clear hf hck
  obtain ⟨c2, w2, hcv, ho2, T2⟩ := conv_bytes w1 s (by unfold maxLen; omega)
  have HO2 : Hid (Own w2 (.slice (some ⟨w1.heap.size, 0, none⟩) s.size c2) (nums s) ∧ Turned (fun _ => False) w w2 ∧ w.heap.size ≤ w1.heap.size) := ⟨ho2, (Turned.ofBelow (S := fun _ => False) hb).trans T2 (fun _ h => h.elim), hb.size⟩
  clear ho2 T2 hb
  go_wp2_with fail
  refine (ref_digits n hn w2).mono ?_
  rintro e w3 ⟨D, rfl, hoD, hlD, T3, hbD⟩
  obtain ⟨h2, hT2, hz⟩ := HO2.out
  have h3 : Own w3 (.slice (some ⟨w1.heap.size, 0, none⟩) s.size c2) (nums s) := h2.turned T3 (fun _ _ h => h)
  have HT3 : Hid (Turned (fun _ => False) w w3 ∧ w.heap.size ≤ w1.heap.size) := ⟨hT2.trans T3 (fun _ h => h.elim), hz⟩
  have hDs := hoD.sl
  obtain ⟨aD, cD, LD, rfl⟩ : ∃ a c L, D = .slice a L c := ⟨_, _, _, hDs.form.choose_spec.choose_spec.1⟩
  have hnl := nums_length s
  clear h2 hT2 hz HO2 T3 hbD hoD
  obtain ⟨ts, hts⟩ : ∃ ts, ts = nums s ++ digitsOf n := ⟨_, rfl⟩
  have HD : Hid (digestOf s n = bytes8 (stirN 4 (mixBytes (14695981039346656037, 88172645463325252) ts)).1 ++ bytes8 (stirN 4 (mixBytes (14695981039346656037, 88172645463325252) ts)).2) := by rw [hts]; rfl
  have hl4 : ts.length ≤ 265 := by rw [hts, List.length_append, hnl]; omega
  have HTS : Hid (ts = nums s ++ digitsOf n) := hts
  have HDL : Hid ((nums s).length = s.size ∧ (digitsOf n).length ≤ 10) := ⟨hnl, hlD⟩
  have HR : Hid (∀ z ∈ ts, 0 ≤ z ∧ z < 256) := by
    rw [hts]
    intro z hz
    rcases List.mem_append.1 hz with hz | hz
    · exact nums_rng s z hz
    · exact digits_rng n z hz
  clear hts hcv hlD hnl
  go_wp2_with (at_builtin; refine wpList_append_bytes (by rfl) (.tmp 23) (.tmp 25) (by rfl) Tryz.bytes (by rfl) (by rfl) h3 hDs (by have := HDL.out; omega) ?_; intro v4 w4 ho4 ht4 hb4; have HT4 : Hid (Turned (fun _ => False) w w4) := HT3.out.1.trans ht4 (fun k (hk : w1.heap.size = k) => .inr (by have := HT3.out.2; omega)); rw [← HTS.out] at ho4; have hs4 := ho4.sl; obtain ⟨a4, c4, hv4, hc4, _⟩ := hs4.form; subst hv4; have HS4 : Hid (Sl w4 (.slice a4 ts.length c4) ts) := hs4; clear ht4 hb4 h3 hDs HT3 ho4 hs4)
  go_loopw [7, 8, 10] (fun aa bb ii wr => ∃ j : Nat, ii = .int .i64 j ∧ j ≤ ts.length ∧ aa = .int .u64 (mixBytes (14695981039346656037, 88172645463325252) (ts.take j)).1 ∧ bb = .int .u64 (mixBytes (14695981039346656037, 88172645463325252) (ts.take j)).2 ∧ w4 = wr) (fun _ _ ii _ => ts.length - (intOf ii).toNat)
  case atStart => exact ⟨0, rfl, Nat.zero_le _, rfl, rfl, rfl⟩
  case round =>
    obtain ⟨j, rfl, hj, rfl, rfl, rfl⟩ := hrel
    by_cases hlt : j < ts.length
    · have hlti : (j : Int) < (ts.length : Int) := by omega
      have hj0 : (0 : Int) ≤ (j : Int) := by omega
      rcases HS4.out with ⟨_, hn0⟩ | ⟨_, _, hn0⟩ | ⟨g4, o4, c4', hv, _, _, h4⟩
      · subst hn0; simp at hlt
      · subst hn0; simp at hlt
      · cases hv
        have c0 := h4 j hlt
        have htk : ts.take (j + 1) = ts.take j ++ [ts[j]] := by rw [List.take_add_one, List.getElem?_eq_getElem hlt]; rfl
        have hnx := mixBytes_snoc (14695981039346656037, 88172645463325252) (ts.take j) ts[j]
        rw [← htk] at hnx
        obtain ⟨ua, ub⟩ := mixBytes_u64 (ts.take j) (14695981039346656037, 88172645463325252) ⟨by decide, by decide⟩ ⟨by decide, by decide⟩
        generalize mixBytes (14695981039346656037, 88172645463325252) (ts.take j) = p at hnx ua ub ⊢
        have hz := HR.out ts[j] (List.getElem_mem hlt)
        generalize ts[j] = z at c0 hnx hz
        clear h4
        go_wp2_with fail
        refine ⟨⟨j + 1, by simp, by omega, ?_, ?_, trivial⟩, by simp [intOf]; omega⟩
        · rw [hnx]
          simp only [IntKind.wrap_u64]
          rfl
        · rw [hnx]
          simp only [IntKind.wrap_u64]
          rfl
    · have hge : ¬ (j : Int) < (ts.length : Int) := by omega
      obtain rfl : j = ts.length := by omega
      rw [List.take_length]
      obtain ⟨ua, ub⟩ := mixBytes_u64 ts (14695981039346656037, 88172645463325252) ⟨by decide, by decide⟩ ⟨by decide, by decide⟩
      generalize mixBytes (14695981039346656037, 88172645463325252) ts = p at HD ua ub ⊢
      go_wp2_with fail
      go_loopw [7, 8, 12] (fun aa bb ii wr => ∃ j : Nat, ii = .int .i64 j ∧ j ≤ 4 ∧ aa = .int .u64 (stirN j p).1 ∧ bb = .int .u64 (stirN j p).2 ∧ U64 (stirN j p).1 ∧ U64 (stirN j p).2 ∧ w4 = wr) (fun _ _ ii _ => 4 - (intOf ii).toNat)
      case atStart => exact ⟨0, rfl, by omega, rfl, rfl, ua, ub, rfl⟩
      case round =>
        obtain ⟨j, rfl, hj, rfl, rfl, ua, ub, rfl⟩ := hrel
        by_cases hlt : j < 4
        · have hlti : (j : Int) < 4 := by omega
          have hst : stirN (j + 1) p = stir (stirN j p) := rfl
          generalize stirN j p = q at hst ua ub ⊢
          go_wp2_with fail
          refine ⟨⟨j + 1, by simp, by omega, ?_, ?_, ?_, ?_, trivial⟩, by simp [intOf]; omega⟩
          · rw [hst]
            simp only [IntKind.wrap_u64]
            rfl
          · rw [hst]
            simp only [IntKind.wrap_u64]
            rfl
          · rw [hst]; exact U64.mod _
          · rw [hst]; exact U64.mod _
        · have hge : ¬ (j : Int) < 4 := by omega
          obtain rfl : j = 4 := by omega
          generalize stirN 4 p = q at HD ua ub ⊢
          go_wp2_with fail
          go_loopw [13, 14] (fun oo ii wr => ∃ j : Nat, ii = .int .i64 (7 - (j : Int)) ∧ j ≤ 8 ∧ Own wr oo ((bytes8 q.1).take j) ∧ Turned (fun _ => False) w wr ∧ ∀ q, blk oo q → w.heap.size ≤ q) (fun _ ii _ => (intOf ii + 1).toNat)
          case atStart => exact ⟨0, rfl, by omega, .inl ⟨rfl, rfl⟩, HT4.out, fun _ h => h.elim⟩
          case round =>
            obtain ⟨j, rfl, hj, ho, hT, hb⟩ := hrel
            obtain ⟨ao, co, Lo, rfl⟩ : ∃ a c L, u13 = .slice a L c := ⟨_, _, _, ho.sl.form.choose_spec.choose_spec.1⟩
            by_cases h8 : j = 8
            · subst h8
              have HO3 : Hid (Own wr (.slice ao Lo co) (bytes8 q.1) ∧ Turned (fun _ => False) w wr ∧ ∀ q, blk (.slice ao Lo co) q → w.heap.size ≤ q) := ⟨ho, hT, hb⟩
              clear ho hT hb
              rw [show (7 - ((8 : Nat) : Int)) = -1 from rfl]
              go_wp2_with fail
              go_loopw [13, 15] (fun oo ii wr => ∃ j : Nat, ii = .int .i64 (7 - (j : Int)) ∧ j ≤ 8 ∧ Own wr oo (bytes8 q.1 ++ (bytes8 q.2).take j) ∧ Turned (fun _ => False) w wr ∧ ∀ q, blk oo q → w.heap.size ≤ q) (fun _ ii _ => (intOf ii + 1).toNat)
              case atStart => exact ⟨0, rfl, by omega, by simpa using HO3.out.1, HO3.out.2.1, HO3.out.2.2⟩
              case round =>
                obtain ⟨j, rfl, hj, ho, hT, hb⟩ := hrel
                obtain ⟨ao, co, Lo, rfl⟩ : ∃ a c L, u13 = .slice a L c := ⟨_, _, _, ho.sl.form.choose_spec.choose_spec.1⟩
                by_cases h8 : j = 8
                · subst h8
                  have HO4 : Hid (Own wr (.slice ao Lo co) (bytes8 q.1 ++ bytes8 q.2) ∧ Turned (fun _ => False) w wr ∧ ∀ q, blk (.slice ao Lo co) q → w.heap.size ≤ q) := ⟨ho, hT, hb⟩
                  clear ho hT hb
                  go_wp2
                  go_ret2
                  obtain ⟨o1, o2, o3⟩ := HO4.out
                  exact ⟨_, rfl, by rw [HD.out]; exact o1, o2, o3⟩
                · have h7 : j = 0 ∨ j = 1 ∨ j = 2 ∨ j = 3 ∨ j = 4 ∨ j = 5 ∨ j = 6 ∨ j = 7 := by omega
                  have HO : Hid (Own wr (.slice ao Lo co) (bytes8 q.1 ++ (bytes8 q.2).take j) ∧ Turned (fun _ => False) w wr ∧ ∀ q, blk (.slice ao Lo co) q → w.heap.size ≤ q) := ⟨ho, hT, hb⟩
                  have HA := fun o : Obj => ho.turned (alloc0m wr o) (fun _ _ h => h)
                  have hlen : (bytes8 q.1 ++ (bytes8 q.2).take j).length + 1 ≤ 70368744177664 := by simp [bytes8]; omega
                  clear ho hT hb
                  rcases h7 with rfl | rfl | rfl | rfl | rfl | rfl | rfl | rfl
                  · go_wp2_with (at_builtin; refine wpList_append_bytes (by rfl) (.tmp 79) (.tmp 85) (by rfl) Tryz.bytes (by rfl) (by rfl) (HA _) (Sl.one wr _ _).sl hlen ?_; intro v1 w5 ho1 ht1 hb1; have HN := Hid.mk7 (appended HO.out.2.1 HO.out.2.2 ho1 ht1 hb1); clear ho1 ht1 hb1)
                    go_roundw
                    case rel => exact ⟨1, by simp, by omega, by rw [show bytes8 q.1 ++ (bytes8 q.2).take 1 = (bytes8 q.1 ++ (bytes8 q.2).take 0) ++ [_] from by rw [List.append_assoc]; rfl]; exact HN.out.1, HN.out.2.1, HN.out.2.2⟩
                    case measure => simp [intOf]
                  · go_wp2_with (at_builtin; refine wpList_append_bytes (by rfl) (.tmp 79) (.tmp 85) (by rfl) Tryz.bytes (by rfl) (by rfl) (HA _) (Sl.one wr _ _).sl hlen ?_; intro v1 w5 ho1 ht1 hb1; have HN := Hid.mk7 (appended HO.out.2.1 HO.out.2.2 ho1 ht1 hb1); clear ho1 ht1 hb1)
                    go_roundw
                    case rel => exact ⟨2, by simp, by omega, by rw [show bytes8 q.1 ++ (bytes8 q.2).take 2 = (bytes8 q.1 ++ (bytes8 q.2).take 1) ++ [_] from by rw [List.append_assoc]; rfl]; exact HN.out.1, HN.out.2.1, HN.out.2.2⟩
                    case measure => simp [intOf]
                  · go_wp2_with (at_builtin; refine wpList_append_bytes (by rfl) (.tmp 79) (.tmp 85) (by rfl) Tryz.bytes (by rfl) (by rfl) (HA _) (Sl.one wr _ _).sl hlen ?_; intro v1 w5 ho1 ht1 hb1; have HN := Hid.mk7 (appended HO.out.2.1 HO.out.2.2 ho1 ht1 hb1); clear ho1 ht1 hb1)
                    go_roundw
                    case rel => exact ⟨3, by simp, by omega, by rw [show bytes8 q.1 ++ (bytes8 q.2).take 3 = (bytes8 q.1 ++ (bytes8 q.2).take 2) ++ [_] from by rw [List.append_assoc]; rfl]; exact HN.out.1, HN.out.2.1, HN.out.2.2⟩
                    case measure => simp [intOf]
                  · go_wp2_with (at_builtin; refine wpList_append_bytes (by rfl) (.tmp 79) (.tmp 85) (by rfl) Tryz.bytes (by rfl) (by rfl) (HA _) (Sl.one wr _ _).sl hlen ?_; intro v1 w5 ho1 ht1 hb1; have HN := Hid.mk7 (appended HO.out.2.1 HO.out.2.2 ho1 ht1 hb1); clear ho1 ht1 hb1)
                    go_roundw
                    case rel => exact ⟨4, by simp, by omega, by rw [show bytes8 q.1 ++ (bytes8 q.2).take 4 = (bytes8 q.1 ++ (bytes8 q.2).take 3) ++ [_] from by rw [List.append_assoc]; rfl]; exact HN.out.1, HN.out.2.1, HN.out.2.2⟩
                    case measure => simp [intOf]
                  · go_wp2_with (at_builtin; refine wpList_append_bytes (by rfl) (.tmp 79) (.tmp 85) (by rfl) Tryz.bytes (by rfl) (by rfl) (HA _) (Sl.one wr _ _).sl hlen ?_; intro v1 w5 ho1 ht1 hb1; have HN := Hid.mk7 (appended HO.out.2.1 HO.out.2.2 ho1 ht1 hb1); clear ho1 ht1 hb1)
                    go_roundw
                    case rel => exact ⟨5, by simp, by omega, by rw [show bytes8 q.1 ++ (bytes8 q.2).take 5 = (bytes8 q.1 ++ (bytes8 q.2).take 4) ++ [_] from by rw [List.append_assoc]; rfl]; exact HN.out.1, HN.out.2.1, HN.out.2.2⟩
                    case measure => simp [intOf]
                  · go_wp2_with (at_builtin; refine wpList_append_bytes (by rfl) (.tmp 79) (.tmp 85) (by rfl) Tryz.bytes (by rfl) (by rfl) (HA _) (Sl.one wr _ _).sl hlen ?_; intro v1 w5 ho1 ht1 hb1; have HN := Hid.mk7 (appended HO.out.2.1 HO.out.2.2 ho1 ht1 hb1); clear ho1 ht1 hb1)
                    go_roundw
                    case rel => exact ⟨6, by simp, by omega, by rw [show bytes8 q.1 ++ (bytes8 q.2).take 6 = (bytes8 q.1 ++ (bytes8 q.2).take 5) ++ [_] from by rw [List.append_assoc]; rfl]; exact HN.out.1, HN.out.2.1, HN.out.2.2⟩
                    case measure => simp [intOf]
                  · go_wp2_with (at_builtin; refine wpList_append_bytes (by rfl) (.tmp 79) (.tmp 85) (by rfl) Tryz.bytes (by rfl) (by rfl) (HA _) (Sl.one wr _ _).sl hlen ?_; intro v1 w5 ho1 ht1 hb1; have HN := Hid.mk7 (appended HO.out.2.1 HO.out.2.2 ho1 ht1 hb1); clear ho1 ht1 hb1)
                    go_roundw
                    case rel => exact ⟨7, by simp, by omega, by rw [show bytes8 q.1 ++ (bytes8 q.2).take 7 = (bytes8 q.1 ++ (bytes8 q.2).take 6) ++ [_] from by rw [List.append_assoc]; rfl]; exact HN.out.1, HN.out.2.1, HN.out.2.2⟩
                    case measure => simp [intOf]
                  · go_wp2_with (at_builtin; refine wpList_append_bytes (by rfl) (.tmp 79) (.tmp 85) (by rfl) Tryz.bytes (by rfl) (by rfl) (HA _) (Sl.one wr _ _).sl hlen ?_; intro v1 w5 ho1 ht1 hb1; have HN := Hid.mk7 (appended HO.out.2.1 HO.out.2.2 ho1 ht1 hb1); clear ho1 ht1 hb1)
                    go_roundw
                    case rel => exact ⟨8, by simp, by omega, by rw [show bytes8 q.1 ++ (bytes8 q.2).take 8 = (bytes8 q.1 ++ (bytes8 q.2).take 7) ++ [_] from by rw [List.append_assoc]; rfl]; exact HN.out.1, HN.out.2.1, HN.out.2.2⟩
                    case measure => simp [intOf]
            · have h7 : j = 0 ∨ j = 1 ∨ j = 2 ∨ j = 3 ∨ j = 4 ∨ j = 5 ∨ j = 6 ∨ j = 7 := by omega
              have HO : Hid (Own wr (.slice ao Lo co) ((bytes8 q.1).take j) ∧ Turned (fun _ => False) w wr ∧ ∀ q, blk (.slice ao Lo co) q → w.heap.size ≤ q) := ⟨ho, hT, hb⟩
              have HA := fun o : Obj => ho.turned (alloc0m wr o) (fun _ _ h => h)
              have hlen : ((bytes8 q.1).take j).length + 1 ≤ 70368744177664 := by simp [bytes8]; omega
              clear ho hT hb
              rcases h7 with rfl | rfl | rfl | rfl | rfl | rfl | rfl | rfl
              · go_wp2_with (at_builtin; refine wpList_append_bytes (by rfl) (.tmp 67) (.tmp 73) (by rfl) Tryz.bytes (by rfl) (by rfl) (HA _) (Sl.one wr _ _).sl hlen ?_; intro v1 w5 ho1 ht1 hb1; have HN := Hid.mk7 (appended HO.out.2.1 HO.out.2.2 ho1 ht1 hb1); clear ho1 ht1 hb1)
                go_roundw
                case rel => exact ⟨1, by simp, by omega, HN.out.1, HN.out.2.1, HN.out.2.2⟩
                case measure => simp [intOf]
              · go_wp2_with (at_builtin; refine wpList_append_bytes (by rfl) (.tmp 67) (.tmp 73) (by rfl) Tryz.bytes (by rfl) (by rfl) (HA _) (Sl.one wr _ _).sl hlen ?_; intro v1 w5 ho1 ht1 hb1; have HN := Hid.mk7 (appended HO.out.2.1 HO.out.2.2 ho1 ht1 hb1); clear ho1 ht1 hb1)
                go_roundw
                case rel => exact ⟨2, by simp, by omega, HN.out.1, HN.out.2.1, HN.out.2.2⟩
                case measure => simp [intOf]
              · go_wp2_with (at_builtin; refine wpList_append_bytes (by rfl) (.tmp 67) (.tmp 73) (by rfl) Tryz.bytes (by rfl) (by rfl) (HA _) (Sl.one wr _ _).sl hlen ?_; intro v1 w5 ho1 ht1 hb1; have HN := Hid.mk7 (appended HO.out.2.1 HO.out.2.2 ho1 ht1 hb1); clear ho1 ht1 hb1)
                go_roundw
                case rel => exact ⟨3, by simp, by omega, HN.out.1, HN.out.2.1, HN.out.2.2⟩
                case measure => simp [intOf]
              · go_wp2_with (at_builtin; refine wpList_append_bytes (by rfl) (.tmp 67) (.tmp 73) (by rfl) Tryz.bytes (by rfl) (by rfl) (HA _) (Sl.one wr _ _).sl hlen ?_; intro v1 w5 ho1 ht1 hb1; have HN := Hid.mk7 (appended HO.out.2.1 HO.out.2.2 ho1 ht1 hb1); clear ho1 ht1 hb1)
                go_roundw
                case rel => exact ⟨4, by simp, by omega, HN.out.1, HN.out.2.1, HN.out.2.2⟩
                case measure => simp [intOf]
              · go_wp2_with (at_builtin; refine wpList_append_bytes (by rfl) (.tmp 67) (.tmp 73) (by rfl) Tryz.bytes (by rfl) (by rfl) (HA _) (Sl.one wr _ _).sl hlen ?_; intro v1 w5 ho1 ht1 hb1; have HN := Hid.mk7 (appended HO.out.2.1 HO.out.2.2 ho1 ht1 hb1); clear ho1 ht1 hb1)
                go_roundw
                case rel => exact ⟨5, by simp, by omega, HN.out.1, HN.out.2.1, HN.out.2.2⟩
                case measure => simp [intOf]
              · go_wp2_with (at_builtin; refine wpList_append_bytes (by rfl) (.tmp 67) (.tmp 73) (by rfl) Tryz.bytes (by rfl) (by rfl) (HA _) (Sl.one wr _ _).sl hlen ?_; intro v1 w5 ho1 ht1 hb1; have HN := Hid.mk7 (appended HO.out.2.1 HO.out.2.2 ho1 ht1 hb1); clear ho1 ht1 hb1)
                go_roundw
                case rel => exact ⟨6, by simp, by omega, HN.out.1, HN.out.2.1, HN.out.2.2⟩
                case measure => simp [intOf]
              · go_wp2_with (at_builtin; refine wpList_append_bytes (by rfl) (.tmp 67) (.tmp 73) (by rfl) Tryz.bytes (by rfl) (by rfl) (HA _) (Sl.one wr _ _).sl hlen ?_; intro v1 w5 ho1 ht1 hb1; have HN := Hid.mk7 (appended HO.out.2.1 HO.out.2.2 ho1 ht1 hb1); clear ho1 ht1 hb1)
                go_roundw
                case rel => exact ⟨7, by simp, by omega, HN.out.1, HN.out.2.1, HN.out.2.2⟩
                case measure => simp [intOf]
              · go_wp2_with (at_builtin; refine wpList_append_bytes (by rfl) (.tmp 67) (.tmp 73) (by rfl) Tryz.bytes (by rfl) (by rfl) (HA _) (Sl.one wr _ _).sl hlen ?_; intro v1 w5 ho1 ht1 hb1; have HN := Hid.mk7 (appended HO.out.2.1 HO.out.2.2 ho1 ht1 hb1); clear ho1 ht1 hb1)
                go_roundw
                case rel => exact ⟨8, by simp, by omega, HN.out.1, HN.out.2.1, HN.out.2.2⟩
                case measure => simp [intOf]
end Go.Proofs.YtmnibmgbicnamaaGreatDoor
namespace Go.Proofs.YtmnibmgbicnamaaGreatDoor
open Go.RowKit

theorem firstBad_long : ∀ (zs : List Int) (i : Nat), i ≤ 255 → 255 < i + zs.length → (firstBad zs i).isSome = true
  | [], i, h1, h2 => by simp at h2; omega
  | z :: r, i, h1, h2 => by
    unfold firstBad
    by_cases hb : i = 255 ∨ z < 33 ∨ 126 < z
    · rw [if_pos hb]; rfl
    · rw [if_neg hb]
      exact firstBad_long r (i + 1) (by omega) (by simp at h2; omega)
theorem cookie_size {s : ByteArray} (h : cookieErr s = none) : s.size ≤ 255 := by
  unfold cookieErr at h
  by_cases h0 : s.size = 0
  · rw [if_pos h0] at h; cases h
  · rw [if_neg h0] at h
    apply Classical.byContradiction
    intro hc
    have := firstBad_long (nums s) 0 (by omega) (by rw [nums_length]; omega)
    cases hf : firstBad (nums s) 0 with
    | none => rw [hf] at this; cases this
    | some i => rw [hf] at h; cases h

theorem ref_digest (s : ByteArray) (hs : s.size ≤ 4611686018427387904) (n : Nat) (hn : n < 4294967296) (w : World) : Calls Tryz.prog 26 #[.string s, .int .u32 n] w fun e w' => ∃ V v, e = .returned (.tuple #[V, v]) ∧ LinksM w.heap.size w' v (cookieErr s) ∧ Own w' V (digestTold s n) ∧ Below w.heap.size w w' ∧ ∀ k, blk V k → w.heap.size ≤ k := by
  unfold digestTold
  cases hc : cookieErr s with
  | none =>
    exact (ref_digest_ok s (cookie_size hc) n hn w hc).mono fun e w' ⟨V, h1, h2, h3, h4⟩ => ⟨V, _, h1, rfl, h2, h3.below (Nat.le_refl _) (fun _ h => h.elim), h4⟩
  | some x =>
    exact (ref_digest_no s hs n w hc).mono fun e w' ⟨v, h1, h2, h3⟩ => ⟨_, v, h1, h2, .inl ⟨rfl, rfl⟩, h3, fun _ h => h.elim⟩

/-- Bytes are one another's where their texts are. -/
theorem strOfNums_inj {xs ys : List Int} (hx : ∀ z ∈ xs, 0 ≤ z ∧ z < 256) (hy : ∀ z ∈ ys, 0 ≤ z ∧ z < 256) (h : strOfNums xs = strOfNums ys) : xs = ys := by
  have h1 := congrArg (fun b : ByteArray => b.data.toList) h
  simp only [strOfNums_data] at h1
  have back : ∀ l : List Int, (∀ z ∈ l, 0 ≤ z ∧ z < 256) → (l.map fun n => UInt8.ofNat n.toNat).map (fun b => (b.toNat : Int)) = l := by
    intro l hl
    rw [List.map_map]
    conv => rhs; rw [← List.map_id l]
    apply List.map_congr_left
    intro z hz
    have := hl z hz
    have e : z.toNat % 256 = z.toNat := Nat.mod_eq_of_lt (by omega)
    simp [e]
    omega
  rw [← back xs hx, ← back ys hy, h1]
theorem bytes8_rng (a : Int) : ∀ z ∈ bytes8 a, 0 ≤ z ∧ z < 256 := by
  intro z hz
  simp only [bytes8, List.mem_cons, List.not_mem_nil, or_false] at hz
  omega
theorem digest_rng (s : ByteArray) (n : Nat) : ∀ z ∈ digestOf s n, 0 ≤ z ∧ z < 256 := fun z hz => (List.mem_append.1 hz).elim (bytes8_rng _ z) (bytes8_rng _ z)
/-- What Same tells. -/
def sameTold (s : ByteArray) (n : Nat) (ds : List Int) : Bool := decide (cookieErr s = none) && ((strOfNums (digestOf s n)).toList == (strOfNums ds).toList)

end Go.Proofs.YtmnibmgbicnamaaGreatDoor
namespace Go.Proofs.YtmnibmgbicnamaaGreatDoor
open Go.RowKit

theorem Tryz.pow10 : Tryz.prog.globalNamed "internal/strconv.uint64pow10" = some 2 := by kernel_rfl
/-- The powers of ten lie in their variable. -/
def Tb (w : World) : Prop := Lib.TabIs Tryz.prog w "internal/strconv.uint64pow10" .u64 Lib.pow10Tab
theorem Tb.lt {w : World} (h : Tb w) : 2 < w.heap.size := World.block_lt_of_cell? w _ (Lib.TabIs.cell h Tryz.pow10 0 (by decide))
theorem Tb.below {w w' : World} (h : Tb w) (hb : Below w.heap.size w w') : Tb w' := var?_below hb Tryz.pow10 h.lt h
/-- The program's cookies and digests. -/
structure MImpl : Prop where
  cookie : ∀ (s : ByteArray) (_ : s.size ≤ 4611686018427387904) (w : World), Calls Tryz.prog 100 #[.string s] w fun e w' => ∃ v, e = .returned v ∧ ErrsM w.heap.size w' v (cookieErr s) ∧ Below w.heap.size w w'
  digest : ∀ (s : ByteArray) (_ : s.size ≤ 4611686018427387904) (n : Nat) (_ : n < 4294967296) (w : World), Tb w → Calls Tryz.prog 114 #[.string s, .int .u32 n] w fun e w' => ∃ V v, e = .returned (.tuple #[V, v]) ∧ ErrsM w.heap.size w' v (cookieErr s) ∧ Own w' V (digestTold s n) ∧ Below w.heap.size w w' ∧ ∀ k, blk V k → w.heap.size ≤ k
  same : ∀ (s : ByteArray) (_ : s.size ≤ 4611686018427387904) (n : Nat) (_ : n < 4294967296) {w : World} {D : Value} {ds : List Int}, Tb w → Sl w D ds → (∀ z ∈ ds, 0 ≤ z ∧ z < 256) → ds.length ≤ 140737488355328 → Calls Tryz.prog 115 #[.string s, .int .u32 n, D] w fun e w' => e = .returned (.bool (sameTold s n ds)) ∧ Below w.heap.size w w'

theorem same_self (s : ByteArray) (n : Nat) (h : cookieErr s = none) : sameTold s n (digestOf s n) = true := by
  unfold sameTold
  rw [h]
  simp
/-- One's own digest alone. -/
theorem same_iff (s : ByteArray) (n : Nat) (h : cookieErr s = none) (ds : List Int) (hr : ∀ z ∈ ds, 0 ≤ z ∧ z < 256) : sameTold s n ds = decide (ds = digestOf s n) := by
  unfold sameTold
  rw [h]
  by_cases he : ds = digestOf s n
  · subst he; simp
  · rw [decide_eq_false he]
    simp only [decide_true, Bool.true_and, beq_eq_false_iff_ne]
    intro hc
    rw [ByteArray.toList_eq, ByteArray.toList_eq] at hc
    refine he (strOfNums_inj hr (digest_rng s n) ?_)
    apply ByteArray.ext
    exact (Array.toList_inj.1 hc).symm

def sec : ByteArray := ⟨#[115, 101, 99, 114, 101, 116]⟩
theorem sec_ck : cookieErr sec = none := by decide +kernel
theorem sec_78 : ¬ digestOf sec 7 = digestOf sec 8 := by decide +kernel
theorem sec_8 : sameTold sec 8 (digestOf sec 7) = false := by
  rw [same_iff sec 8 sec_ck _ (digest_rng _ _)]
  exact decide_eq_false sec_78

end Go.Proofs.YtmnibmgbicnamaaGreatDoor
namespace Go.Proofs.YtmnibmgbicnamaaGreatDoor
open Go.RowKit

/-- One fault of a chain. -/
structure Lnk where
  layer : ByteArray
  at_ : Int
  code : Int
def lyShake : ByteArray := ⟨#[115, 104, 97, 107, 101]⟩
def lyAtom : ByteArray := ⟨#[97, 116, 111, 109]⟩
def lyMix : ByteArray := ⟨#[109, 105, 120]⟩
/-- A refusal of layer shake's own. -/
def sh (a c : Int) : List Lnk := [⟨lyShake, a, c⟩]
/-- A refusal of a name that is none. -/
def shName (a : Int) : List Lnk := [⟨lyShake, a, 24⟩, ⟨lyAtom, 0, 24⟩]
/-- A refusal of a cookie that is none. -/
def shCookie (x : Int × Int) : List Lnk := [⟨lyShake, 0, x.2⟩, ⟨lyMix, x.1, x.2⟩]

/-- May a byte stand in a name (but '@', '-' and '.')? -/
def inWordB (c : Int) : Bool := (decide (97 ≤ c) && decide (c ≤ 122)) || (decide (65 ≤ c) && decide (c ≤ 90)) || (decide (48 ≤ c) && decide (c ≤ 57)) || decide (c = 95) || decide (c = 64)
/-- A name's bytes gone through: where the last '@' stands, and whether all may be. -/
def nodeScan : List Int → Nat → Int → Bool → Int × Bool
  | [], _, a, g => (a, g)
  | c :: r, i, a, g => if c = 64 then nodeScan r (i + 1) i (g && decide (a < 0)) else nodeScan r (i + 1) a (g && (inWordB c || decide (c = 45) || (decide (c = 46) && decide (0 ≤ a))))
def nodeOk (s : ByteArray) : Bool :=
  let p := nodeScan (nums s) 0 (-1) (decide (3 ≤ s.size) && decide (s.size ≤ 64))
  p.2 && decide (1 ≤ p.1) && decide (p.1 ≠ (s.size : Int) - 1)

/-- The flags without which a node may not. -/
def flagsNeeded : Int := 4345626892
def lacksB (f : Int) : Bool := decide (bits .and .u64 f flagsNeeded ≠ flagsNeeded)

def stOk : ByteArray := ⟨#[111, 107]⟩
def stSim : ByteArray := ⟨#[111, 107, 95, 115, 105, 109, 117, 108, 116, 97, 110, 101, 111, 117, 115]⟩
def stNok : ByteArray := ⟨#[110, 111, 107]⟩
def stNot : ByteArray := ⟨#[110, 111, 116, 95, 97, 108, 108, 111, 119, 101, 100]⟩
def stAlive : ByteArray := ⟨#[97, 108, 105, 118, 101]⟩
def isSt (s : ByteArray) : Bool := decide (s = stOk) || decide (s = stSim) || decide (s = stNok) || decide (s = stNot) || decide (s = stAlive)

/-- A message. -/
structure Msg where
  kind : Int
  flags : Int
  creation : Int
  challenge : Int
  name : ByteArray
  status : ByteArray
  digest : List Int
def Msg.zero : Msg := ⟨0, 0, 0, 0, ⟨#[]⟩, ⟨#[]⟩, []⟩
/-- A message's numbers and bytes are such. -/
structure Msg.Ok (m : Msg) : Prop where
  flags : U64 m.flags
  creation : 0 ≤ m.creation ∧ m.creation < 4294967296
  challenge : 0 ≤ m.challenge ∧ m.challenge < 4294967296
  digest : ∀ z ∈ m.digest, 0 ≤ z ∧ z < 256

/-- May a message of its kind have what it has? -/
def fits (m : Msg) : Prop :=
  (m.kind = 1 ∨ m.kind = 3 ∨ (m.flags = 0 ∧ m.creation = 0 ∧ m.name.size = 0)) ∧ (m.kind = 3 ∨ m.kind = 4 ∨ m.challenge = 0) ∧
  (if m.kind = 2 then isSt m.status = true else m.status.size = 0) ∧ (if m.kind = 4 ∨ m.kind = 5 then m.digest.length = 16 else m.digest.length = 0 ∧ 1 ≤ m.kind ∧ m.kind ≤ 5)
instance (m : Msg) : Decidable (fits m) := by unfold fits; infer_instance
def be2 (n : Int) : List Int := [n / 256 % 256, n % 256]
def be4 (n : Int) : List Int := [n / 16777216 % 256, n / 65536 % 256, n / 256 % 256, n % 256]
/-- A message's bytes. -/
def bytesOfMsg (m : Msg) : List Int :=
  if m.kind = 2 then 115 :: nums m.status
  else if m.kind = 4 then 114 :: (be4 m.challenge ++ m.digest)
  else if m.kind = 5 then 97 :: m.digest
  else 78 :: (bytes8 m.flags ++ ((if m.kind = 3 then be4 m.challenge else []) ++ (be4 m.creation ++ (be2 m.name.size ++ nums m.name))))
def writeErr (m : Msg) : List Lnk := if ¬ fits m then sh 0 1 else if (m.kind = 1 ∨ m.kind = 3) ∧ nodeOk m.name = false then shName 0 else []
def writeOf (m : Msg) : List Int := if ¬ fits m then [] else if (m.kind = 1 ∨ m.kind = 3) ∧ nodeOk m.name = false then [] else bytesOfMsg m

def letterOf (k : Int) : Int := if k = 1 ∨ k = 3 then 78 else if k = 2 then 115 else if k = 4 then 114 else 97
def headLen (k : Int) : Nat := if k = 1 then 15 else if k = 3 then 19 else if k = 4 then 21 else 17
/-- The number in n bytes. -/
def numAt (b : List Int) (i n : Nat) : Int := ((b.drop i).take n).foldl (fun v z => v * 256 + z) 0
def endOf (k : Int) (b : List Int) : Nat := if k = 1 ∨ k = 3 then headLen k + (numAt b (headLen k - 2) 2).toNat else headLen k
/-- What Read tells: its refusal, and the message. -/
def readOf (k : Int) (b : List Int) : List Lnk × Msg :=
  if k < 1 ∨ 5 < k then (sh 0 1, .zero)
  else if b.length = 0 ∨ b.getD 0 0 ≠ letterOf k then (sh 0 160, .zero)
  else if k = 2 then (if isSt (strOfNums (b.drop 1)) = true then ([], { Msg.zero with kind := 2, status := strOfNums (b.drop 1) }) else (sh 1 160, .zero))
  else if b.length < headLen k then (sh b.length 160, .zero)
  else if b.length < endOf k b then (sh b.length 160, .zero)
  else if endOf k b < b.length then (sh (endOf k b) 160, .zero)
  else if k = 4 then ([], { Msg.zero with kind := 4, challenge := numAt b 1 4, digest := b.drop 5 })
  else if k = 5 then ([], { Msg.zero with kind := 5, digest := b.drop 1 })
  else if nodeOk (strOfNums (b.drop (headLen k))) = false then (shName (headLen k), .zero)
  else ([], { Msg.zero with kind := k, flags := numAt b 1 8, creation := numAt b (headLen k - 6) 4, challenge := if k = 3 then numAt b 9 4 else 0, name := strOfNums (b.drop (headLen k)) })

/-- A node as the handshake shows it. -/
structure Pr where
  name : ByteArray
  flags : Int
  creation : Int
def Pr.zero : Pr := ⟨⟨#[]⟩, 0, 0⟩
/-- A side. -/
structure Sd where
  state : Int
  peer : Pr
  simult : Bool
  me : Pr
  want : ByteArray
  cookie : ByteArray
  challenge : Nat
/-- Which refusal a side's making meets. -/
def madeErr (me : Pr) (peer : ByteArray) (begins : Bool) (cookie : ByteArray) : List Lnk :=
  if nodeOk me.name = false then shName 0 else if begins = true ∧ nodeOk peer = false then shName 0
  else if lacksB me.flags = true then sh 0 162 else if me.creation = 0 then sh 0 1 else if begins = true ∧ peer = me.name then sh 0 6
  else match cookieErr cookie with
    | some x => shCookie x
    | none => []
def madeOf (state : Int) (me : Pr) (peer cookie : ByteArray) (challenge : Nat) : Sd := ⟨state, .zero, false, me, peer, cookie, challenge⟩
def nameMsg (p : Pr) : Msg := { Msg.zero with kind := 1, flags := p.flags, creation := p.creation, name := p.name }
def Sd.kind (s : Sd) : Int := if s.state = 1 then 2 else if s.state = 2 then 3 else if s.state = 3 then 5 else if s.state = 4 then 1 else 4
def Sd.dead (s : Sd) : Sd := { s with state := 8, peer := .zero, simult := false }
/-- What a message does: a refusal's number (0: none), the side, the messages to be sent. -/
def Sd.took (s : Sd) (m : Msg) : Int × Sd × List Msg :=
  if m.kind = 2 then (if m.status = stOk ∨ m.status = stSim then (0, { s with state := 2, simult := decide (m.status = stSim) }, []) else (164, s, []))
  else if m.kind = 3 then (if m.name = s.want ∧ lacksB m.flags = false then (0, { s with state := 3, peer := ⟨m.name, m.flags, m.creation⟩ }, [{ Msg.zero with kind := 4, challenge := s.challenge, digest := digestOf s.cookie m.challenge.toNat }]) else (162, s, []))
  else if m.kind = 1 then (0, { s with state := 5, peer := ⟨m.name, m.flags, m.creation⟩ }, [])
  else if m.digest = digestOf s.cookie s.challenge then (0, { s with state := 7 }, if m.kind = 5 then [] else [{ Msg.zero with kind := 5, digest := digestOf s.cookie m.challenge.toNat }])
  else (163, s, [])
/-- Take: the refusal, the side, the bytes to be sent. -/
def Sd.take (s : Sd) (b : List Int) : List Lnk × Sd × List (List Int) :=
  if s.state = 8 then (sh 0 8, s, []) else if s.state = 7 ∨ s.state = 5 then (sh 0 161, s, [])
  else if (readOf s.kind b).1 ≠ [] then ((readOf s.kind b).1, s.dead, [])
  else if (s.took (readOf s.kind b).2).1 = 0 then ([], (s.took (readOf s.kind b).2).2.1, (s.took (readOf s.kind b).2).2.2.map writeOf)
  else (sh 0 (s.took (readOf s.kind b).2).1, s.dead, [])
def Sd.statusFor (s : Sd) (st : ByteArray) : ByteArray := if lacksB s.peer.flags = true ∨ s.peer.creation = 0 ∨ s.peer.name = s.me.name then stNot else st
def statusMsg (st : ByteArray) : Msg := { Msg.zero with kind := 2, status := st }
def Sd.challengeMsg (s : Sd) : Msg := { Msg.zero with kind := 3, flags := s.me.flags, challenge := s.challenge, creation := s.me.creation, name := s.me.name }
/-- Answer: likewise. -/
def Sd.answer (s : Sd) (st : ByteArray) : List Lnk × Sd × List (List Int) :=
  if s.state = 8 then (sh 0 8, s, []) else if s.state ≠ 5 then (sh 0 161, s, []) else if isSt st = false then (sh 0 1, s, [])
  else if s.statusFor st = stOk ∨ s.statusFor st = stSim then ([], { s with state := 6, simult := decide (s.statusFor st = stSim) }, [writeOf (statusMsg (s.statusFor st)), writeOf s.challengeMsg])
  else ([], s.dead, [writeOf (statusMsg (s.statusFor st))])
instance : DecidableEq Lnk := fun a b => by
  cases a; cases b
  simp only [Lnk.mk.injEq]
  infer_instance
end Go.Proofs.YtmnibmgbicnamaaGreatDoor
namespace Go.Proofs.YtmnibmgbicnamaaGreatDoor
open Go.RowKit

theorem cons_of {b : List Int} {n : Nat} (h : n + 1 ≤ b.length) : ∃ x t, b = x :: t ∧ n ≤ t.length := by
  cases b with
  | nil => simp at h
  | cons x t => exact ⟨x, t, rfl, by simpa using h⟩
theorem strOf_nums (s : ByteArray) : strOfNums (nums s) = s := by
  apply ByteArray.ext
  apply Array.toList_inj.1
  rw [strOfNums_data, nums, List.map_map]
  conv => rhs; rw [← List.map_id s.data.toList]
  apply List.map_congr_left
  intro b _
  simp
theorem nums_strOf {zs : List Int} (h : ∀ z ∈ zs, 0 ≤ z ∧ z < 256) : nums (strOfNums zs) = zs := strOfNums_inj (nums_rng _) h (strOf_nums _)
theorem strOf_size (zs : List Int) : (strOfNums zs).size = zs.length := by
  have h := congrArg List.length (strOfNums_data zs)
  simpa using h
theorem empty_size {s : ByteArray} (h : s.size = 0) : s = ⟨#[]⟩ := by
  apply ByteArray.ext
  exact Array.eq_empty_of_size_eq_zero h
theorem be4_num (n : Int) (h : 0 ≤ n ∧ n < 4294967296) (r : List Int) : ((be4 n ++ r).take 4).foldl (fun v z => v * 256 + z) 0 = n := by
  simp only [be4, List.cons_append, List.take, List.foldl, List.nil_append]
  omega
theorem bytes8_num (n : Int) (h : U64 n) (r : List Int) : ((bytes8 n ++ r).take 8).foldl (fun v z => v * 256 + z) 0 = n := by
  obtain ⟨h0, h1⟩ := h
  simp only [bytes8, List.cons_append, List.take, List.foldl, List.nil_append]
  omega
theorem be2_num (n : Int) (h : 0 ≤ n ∧ n < 65536) (r : List Int) : ((be2 n ++ r).take 2).foldl (fun v z => v * 256 + z) 0 = n := by
  simp only [be2, List.cons_append, List.take, List.foldl, List.nil_append]
  omega
theorem nodeOk_size {s : ByteArray} (h : nodeOk s = true) : 3 ≤ s.size ∧ s.size ≤ 64 := by
  have key : ∀ (zs : List Int) (i : Nat) (a : Int) (g : Bool), (nodeScan zs i a g).2 = true → g = true := by
    intro zs
    induction zs with
    | nil => exact fun _ _ _ h => h
    | cons c r ih =>
      intro i a g h
      unfold nodeScan at h
      by_cases h64 : c = 64
      · rw [if_pos h64] at h
        have := ih _ _ _ h
        cases g
        · simp at this
        · rfl
      · rw [if_neg h64] at h
        have := ih _ _ _ h
        cases g
        · simp at this
        · rfl
  unfold nodeOk at h
  simp only [Bool.and_eq_true, decide_eq_true_eq] at h
  have := key _ _ _ _ h.1.1
  simpa using this

theorem bytes_k1 (m : Msg) (h : m.kind = 1) : bytesOfMsg m = 78 :: (bytes8 m.flags ++ (be4 m.creation ++ (be2 m.name.size ++ nums m.name))) := by
  unfold bytesOfMsg
  rw [if_neg (by omega), if_neg (by omega), if_neg (by omega), if_neg (by omega)]
  rfl
theorem bytes_k2 (m : Msg) (h : m.kind = 2) : bytesOfMsg m = 115 :: nums m.status := by
  unfold bytesOfMsg
  rw [if_pos h]
theorem bytes_k3 (m : Msg) (h : m.kind = 3) : bytesOfMsg m = 78 :: (bytes8 m.flags ++ (be4 m.challenge ++ (be4 m.creation ++ (be2 m.name.size ++ nums m.name)))) := by
  unfold bytesOfMsg
  rw [if_neg (by omega), if_neg (by omega), if_neg (by omega), if_pos h]
theorem bytes_k4 (m : Msg) (h : m.kind = 4) : bytesOfMsg m = 114 :: (be4 m.challenge ++ m.digest) := by
  unfold bytesOfMsg
  rw [if_neg (by omega), if_pos h]
theorem bytes_k5 (m : Msg) (h : m.kind = 5) : bytesOfMsg m = 97 :: m.digest := by
  unfold bytesOfMsg
  rw [if_neg (by omega), if_neg (by omega), if_pos h]

/-- What is written is read as itself. -/
theorem read_write (m : Msg) (hm : m.Ok) (hf : fits m) (hn : (m.kind = 1 ∨ m.kind = 3) → nodeOk m.name = true) : readOf m.kind (bytesOfMsg m) = ([], m) := by
  obtain ⟨k, fl, cr, ch, nm, st, dg⟩ := m
  obtain ⟨hfl, hcr, hch, hdg⟩ := hm
  obtain ⟨f1, f2, f3, f4⟩ := hf
  simp only at hfl hcr hch hdg f1 f2 f3 f4 hn ⊢
  have hk : k = 1 ∨ k = 2 ∨ k = 3 ∨ k = 4 ∨ k = 5 := by
    by_cases h45 : k = 4 ∨ k = 5
    · omega
    · rw [if_neg h45] at f4; omega
  rcases hk with rfl | rfl | rfl | rfl | rfl
  · have hz := nodeOk_size (hn (.inl rfl))
    rw [if_neg (by omega)] at f3
    rw [if_neg (by omega)] at f4
    obtain rfl := empty_size f3
    obtain rfl : dg = [] := List.eq_nil_of_length_eq_zero f4.1
    obtain rfl : ch = 0 := by omega
    have e : bytesOfMsg ⟨1, fl, cr, 0, nm, ⟨#[]⟩, []⟩ = 78 :: (bytes8 fl ++ (be4 cr ++ (be2 nm.size ++ nums nm))) := by simp [bytesOfMsg]
    have hl : (78 :: (bytes8 fl ++ (be4 cr ++ (be2 nm.size ++ nums nm)))).length = 15 + nm.size := by simp [bytes8, be4, be2, nums_length]; omega
    have n1 : numAt (78 :: (bytes8 fl ++ (be4 cr ++ (be2 nm.size ++ nums nm)))) 1 8 = fl := bytes8_num fl hfl _
    have n2 : numAt (78 :: (bytes8 fl ++ (be4 cr ++ (be2 nm.size ++ nums nm)))) 9 4 = cr := be4_num cr hcr _
    have n3 : numAt (78 :: (bytes8 fl ++ (be4 cr ++ (be2 nm.size ++ nums nm)))) 13 2 = nm.size := be2_num nm.size (by omega) _
    have dr : (78 :: (bytes8 fl ++ (be4 cr ++ (be2 nm.size ++ nums nm)))).drop 15 = nums nm := rfl
    have h0 : (78 :: (bytes8 fl ++ (be4 cr ++ (be2 nm.size ++ nums nm)))).getD 0 0 = 78 := rfl
    rw [e]
    generalize 78 :: (bytes8 fl ++ (be4 cr ++ (be2 nm.size ++ nums nm))) = b at hl n1 n2 n3 dr h0
    have he : endOf 1 b = 15 + nm.size := by simp [endOf, headLen, n3]
    unfold readOf
    rw [if_neg (by omega), if_neg (by rw [h0, hl]; simp [letterOf]), if_neg (by omega), if_neg (by rw [hl]; simp [headLen]), if_neg (by rw [he, hl]; omega), if_neg (by rw [he, hl]; omega), if_neg (by omega), if_neg (by omega)]
    simp only [headLen, if_true, dr, strOf_nums, hn (.inl rfl), n1, n2, Msg.zero]
    simp
  · rw [if_pos rfl] at f3
    rw [if_neg (by omega)] at f4
    obtain rfl : dg = [] := List.eq_nil_of_length_eq_zero f4.1
    obtain rfl : ch = 0 := by omega
    have h3 : fl = 0 ∧ cr = 0 ∧ nm.size = 0 := by omega
    obtain ⟨rfl, rfl, h3⟩ := h3
    obtain rfl := empty_size h3
    unfold readOf
    rw [if_neg (by omega), if_neg (by simp [bytesOfMsg, letterOf]), if_pos rfl]
    simp only [bytesOfMsg, if_true, List.drop_succ_cons, List.drop_zero, strOf_nums, f3]
    rfl
  · have hz := nodeOk_size (hn (.inr rfl))
    rw [if_neg (by omega)] at f3
    rw [if_neg (by omega)] at f4
    obtain rfl := empty_size f3
    obtain rfl : dg = [] := List.eq_nil_of_length_eq_zero f4.1
    have e : bytesOfMsg ⟨3, fl, cr, ch, nm, ⟨#[]⟩, []⟩ = 78 :: (bytes8 fl ++ (be4 ch ++ (be4 cr ++ (be2 nm.size ++ nums nm)))) := by simp [bytesOfMsg]
    have hl : (78 :: (bytes8 fl ++ (be4 ch ++ (be4 cr ++ (be2 nm.size ++ nums nm))))).length = 19 + nm.size := by simp [bytes8, be4, be2, nums_length]; omega
    have n1 : numAt (78 :: (bytes8 fl ++ (be4 ch ++ (be4 cr ++ (be2 nm.size ++ nums nm))))) 1 8 = fl := bytes8_num fl hfl _
    have n4 : numAt (78 :: (bytes8 fl ++ (be4 ch ++ (be4 cr ++ (be2 nm.size ++ nums nm))))) 9 4 = ch := be4_num ch hch _
    have n2 : numAt (78 :: (bytes8 fl ++ (be4 ch ++ (be4 cr ++ (be2 nm.size ++ nums nm))))) 13 4 = cr := be4_num cr hcr _
    have n3 : numAt (78 :: (bytes8 fl ++ (be4 ch ++ (be4 cr ++ (be2 nm.size ++ nums nm))))) 17 2 = nm.size := be2_num nm.size (by omega) _
    have dr : (78 :: (bytes8 fl ++ (be4 ch ++ (be4 cr ++ (be2 nm.size ++ nums nm))))).drop 19 = nums nm := rfl
    have h0 : (78 :: (bytes8 fl ++ (be4 ch ++ (be4 cr ++ (be2 nm.size ++ nums nm))))).getD 0 0 = 78 := rfl
    rw [e]
    generalize 78 :: (bytes8 fl ++ (be4 ch ++ (be4 cr ++ (be2 nm.size ++ nums nm)))) = b at hl n1 n2 n3 n4 dr h0
    have he : endOf 3 b = 19 + nm.size := by simp [endOf, headLen, n3]
    unfold readOf
    rw [if_neg (by omega), if_neg (by rw [h0, hl]; simp [letterOf]), if_neg (by omega), if_neg (by rw [hl]; simp [headLen]), if_neg (by rw [he, hl]; omega), if_neg (by rw [he, hl]; omega), if_neg (by omega), if_neg (by omega)]
    have hh : headLen 3 = 19 := rfl
    simp only [hh, if_true, dr, strOf_nums, hn (.inr rfl), n1, n2, n4, Msg.zero]
    simp
  · rw [if_neg (by omega)] at f3
    rw [if_pos (by omega)] at f4
    obtain rfl := empty_size f3
    have h3 : fl = 0 ∧ cr = 0 ∧ nm.size = 0 := by omega
    obtain ⟨rfl, rfl, h3⟩ := h3
    obtain rfl := empty_size h3
    have e : bytesOfMsg ⟨4, 0, 0, ch, ⟨#[]⟩, ⟨#[]⟩, dg⟩ = 114 :: (be4 ch ++ dg) := by simp [bytesOfMsg]
    have hl : (114 :: (be4 ch ++ dg)).length = 21 := by simp [be4, f4]
    have n1 : numAt (114 :: (be4 ch ++ dg)) 1 4 = ch := be4_num ch hch _
    have dr : (114 :: (be4 ch ++ dg)).drop 5 = dg := rfl
    have h0 : (114 :: (be4 ch ++ dg)).getD 0 0 = 114 := rfl
    rw [e]
    generalize 114 :: (be4 ch ++ dg) = b at hl n1 dr h0
    have he : endOf 4 b = 21 := by simp [endOf, headLen]
    unfold readOf
    rw [if_neg (by omega), if_neg (by rw [h0, hl]; simp [letterOf]), if_neg (by omega), if_neg (by rw [hl]; simp [headLen]), if_neg (by rw [he, hl]; omega), if_neg (by rw [he, hl]; omega), if_pos rfl, dr, n1]
    rfl
  · rw [if_neg (by omega)] at f3
    rw [if_pos (by omega)] at f4
    obtain rfl := empty_size f3
    have h3 : fl = 0 ∧ cr = 0 ∧ nm.size = 0 := by omega
    obtain ⟨rfl, rfl, h3⟩ := h3
    obtain rfl := empty_size h3
    obtain rfl : ch = 0 := by omega
    have e : bytesOfMsg ⟨5, 0, 0, 0, ⟨#[]⟩, ⟨#[]⟩, dg⟩ = 97 :: dg := by simp [bytesOfMsg]
    have hl : (97 :: dg).length = 17 := by simp [f4]
    have he : endOf 5 (97 :: dg) = 17 := by simp [endOf, headLen]
    rw [e]
    unfold readOf
    rw [if_neg (by omega), if_neg (by rw [hl]; simp [letterOf]), if_neg (by omega), if_neg (by rw [hl]; simp [headLen]), if_neg (by rw [he, hl]; omega), if_neg (by rw [he, hl]; omega), if_neg (by omega), if_pos rfl]
    rfl

/-- What is read is written as just these bytes. -/
theorem write_read (k : Int) (b : List Int) (hr : ∀ z ∈ b, 0 ≤ z ∧ z < 256) (h : (readOf k b).1 = []) : fits (readOf k b).2 ∧ (((readOf k b).2.kind = 1 ∨ (readOf k b).2.kind = 3) → nodeOk (readOf k b).2.name = true) ∧ bytesOfMsg (readOf k b).2 = b ∧ (readOf k b).2.Ok ∧ (readOf k b).2.kind = k := by
  by_cases hk0 : k < 1 ∨ 5 < k
  · unfold readOf at h; rw [if_pos hk0] at h; cases h
  by_cases hl0 : b.length = 0 ∨ b.getD 0 0 ≠ letterOf k
  · unfold readOf at h; rw [if_neg hk0, if_pos hl0] at h; cases h
  have hk : k = 1 ∨ k = 2 ∨ k = 3 ∨ k = 4 ∨ k = 5 := by omega
  rcases hk with rfl | rfl | rfl | rfl | rfl
  · by_cases h1 : b.length < headLen 1
    · unfold readOf at h; rw [if_neg hk0, if_neg hl0, if_neg (by omega), if_pos h1] at h; cases h
    by_cases h2 : b.length < endOf 1 b
    · unfold readOf at h; rw [if_neg hk0, if_neg hl0, if_neg (by omega), if_neg h1, if_pos h2] at h; cases h
    by_cases h3 : endOf 1 b < b.length
    · unfold readOf at h; rw [if_neg hk0, if_neg hl0, if_neg (by omega), if_neg h1, if_neg h2, if_pos h3] at h; cases h
    by_cases h4 : nodeOk (strOfNums (b.drop (headLen 1))) = false
    · unfold readOf at h; rw [if_neg hk0, if_neg hl0, if_neg (by omega), if_neg h1, if_neg h2, if_neg h3, if_neg (by omega), if_neg (by omega), if_pos h4] at h; cases h
    have e : readOf 1 b = ([], { Msg.zero with kind := 1, flags := numAt b 1 8, creation := numAt b 9 4, challenge := 0, name := strOfNums (b.drop 15) }) := by
      unfold readOf; rw [if_neg hk0, if_neg hl0, if_neg (by omega), if_neg h1, if_neg h2, if_neg h3, if_neg (by omega), if_neg (by omega), if_neg h4]
      rfl
    rw [e]
    clear e h
    have hh : headLen 1 = 15 := rfl
    have hend : endOf 1 b = 15 + (numAt b 13 2).toNat := rfl
    rw [hend] at h2 h3
    rw [hh] at h1 h4
    have hb0 : b.getD 0 0 = 78 := by simpa [letterOf] using fun h => hl0 (.inr h)
    obtain ⟨b0, t0, rfl, q0⟩ := cons_of (n := 14) (b := b) (by omega)
    obtain ⟨b1, t1, rfl, q1⟩ := cons_of (n := 13) (b := t0) (by omega)
    obtain ⟨b2, t2, rfl, q2⟩ := cons_of (n := 12) (b := t1) (by omega)
    obtain ⟨b3, t3, rfl, q3⟩ := cons_of (n := 11) (b := t2) (by omega)
    obtain ⟨b4, t4, rfl, q4⟩ := cons_of (n := 10) (b := t3) (by omega)
    obtain ⟨b5, t5, rfl, q5⟩ := cons_of (n := 9) (b := t4) (by omega)
    obtain ⟨b6, t6, rfl, q6⟩ := cons_of (n := 8) (b := t5) (by omega)
    obtain ⟨b7, t7, rfl, q7⟩ := cons_of (n := 7) (b := t6) (by omega)
    obtain ⟨b8, t8, rfl, q8⟩ := cons_of (n := 6) (b := t7) (by omega)
    obtain ⟨b9, t9, rfl, q9⟩ := cons_of (n := 5) (b := t8) (by omega)
    obtain ⟨b10, t10, rfl, q10⟩ := cons_of (n := 4) (b := t9) (by omega)
    obtain ⟨b11, t11, rfl, q11⟩ := cons_of (n := 3) (b := t10) (by omega)
    obtain ⟨b12, t12, rfl, q12⟩ := cons_of (n := 2) (b := t11) (by omega)
    obtain ⟨b13, t13, rfl, q13⟩ := cons_of (n := 1) (b := t12) (by omega)
    obtain ⟨b14, t14, rfl, q14⟩ := cons_of (n := 0) (b := t13) (by omega)
    have r0 := hr b0 (by simp)
    have r1 := hr b1 (by simp)
    have r2 := hr b2 (by simp)
    have r3 := hr b3 (by simp)
    have r4 := hr b4 (by simp)
    have r5 := hr b5 (by simp)
    have r6 := hr b6 (by simp)
    have r7 := hr b7 (by simp)
    have r8 := hr b8 (by simp)
    have r9 := hr b9 (by simp)
    have r10 := hr b10 (by simp)
    have r11 := hr b11 (by simp)
    have r12 := hr b12 (by simp)
    have r13 := hr b13 (by simp)
    have r14 := hr b14 (by simp)
    have hdr : (b0 :: b1 :: b2 :: b3 :: b4 :: b5 :: b6 :: b7 :: b8 :: b9 :: b10 :: b11 :: b12 :: b13 :: b14 :: t14).drop 15 = t14 := rfl
    have hv2 : numAt (b0 :: b1 :: b2 :: b3 :: b4 :: b5 :: b6 :: b7 :: b8 :: b9 :: b10 :: b11 :: b12 :: b13 :: b14 :: t14) 13 2 = b13 * 256 + b14 := by simp only [numAt, List.drop, List.take, List.foldl]; omega
    have hv8 : numAt (b0 :: b1 :: b2 :: b3 :: b4 :: b5 :: b6 :: b7 :: b8 :: b9 :: b10 :: b11 :: b12 :: b13 :: b14 :: t14) 1 8 = ((((((b1 * 256 + b2) * 256 + b3) * 256 + b4) * 256 + b5) * 256 + b6) * 256 + b7) * 256 + b8 := by simp only [numAt, List.drop, List.take, List.foldl]; omega
    have hvc : numAt (b0 :: b1 :: b2 :: b3 :: b4 :: b5 :: b6 :: b7 :: b8 :: b9 :: b10 :: b11 :: b12 :: b13 :: b14 :: t14) 9 4 = ((b9 * 256 + b10) * 256 + b11) * 256 + b12 := by simp only [numAt, List.drop, List.take, List.foldl]; omega
    have hlen : (b0 :: b1 :: b2 :: b3 :: b4 :: b5 :: b6 :: b7 :: b8 :: b9 :: b10 :: b11 :: b12 :: b13 :: b14 :: t14).length = 15 + t14.length := by simp; omega
    have hb0 : b0 = 78 := hb0
    rw [hv2, hlen] at h2 h3
    rw [hdr] at h4 ⊢
    rw [hv8, hvc]
    have hrt : ∀ z ∈ t14, 0 ≤ z ∧ z < 256 := fun z hz => hr z (by simp [hz])
    have hsz := strOf_size t14
    have hnn := nums_strOf hrt
    have hok : nodeOk (strOfNums t14) = true := by simpa using h4
    have hlt : t14.length = (b13 * 256 + b14).toNat := by omega
    clear hv2 hv8 hvc hdr hlen h1 h2 h3 h4 hend hl0 hr
    refine ⟨⟨.inl rfl, .inr (.inr rfl), by simp [Msg.zero]; rfl, by simp [Msg.zero]⟩, fun _ => hok, ?_, ⟨⟨by simp only []; omega, by simp only []; omega⟩, ⟨by simp only []; omega, by simp only []; omega⟩, ⟨by simp only []; omega, by simp only []; omega⟩, fun z hz => by cases hz⟩, rfl⟩
    rw [bytes_k1 _ rfl]
    simp only [bytes8, be4, be2, hnn, hsz, hlt, List.cons_append, List.nil_append, List.cons.injEq, and_true]
    omega
  · by_cases h1 : isSt (strOfNums (b.drop 1)) = true
    · have e : readOf 2 b = ([], { Msg.zero with kind := 2, status := strOfNums (b.drop 1) }) := by unfold readOf; rw [if_neg hk0, if_neg hl0, if_pos rfl, if_pos h1]
      rw [e]
      obtain ⟨b0, t0, rfl, _⟩ := cons_of (n := 0) (b := b) (by omega)
      have hb0 : b0 = 115 := by simpa [letterOf] using fun h => hl0 (.inr h)
      have hrt : ∀ z ∈ t0, 0 ≤ z ∧ z < 256 := fun z hz => hr z (by simp [hz])
      refine ⟨⟨.inr (.inr ⟨rfl, rfl, rfl⟩), .inr (.inr rfl), h1, by simp [Msg.zero]⟩, fun h => by simp at h, ?_, ⟨⟨by simp [Msg.zero], by simp [Msg.zero]⟩, ⟨by simp [Msg.zero], by simp [Msg.zero]⟩, ⟨by simp [Msg.zero], by simp [Msg.zero]⟩, fun z hz => by cases hz⟩, rfl⟩
      simp only [bytesOfMsg, if_true, List.drop_succ_cons, List.drop_zero, nums_strOf hrt, hb0]
    · unfold readOf at h; rw [if_neg hk0, if_neg hl0, if_pos rfl, if_neg h1] at h; cases h
  · by_cases h1 : b.length < headLen 3
    · unfold readOf at h; rw [if_neg hk0, if_neg hl0, if_neg (by omega), if_pos h1] at h; cases h
    by_cases h2 : b.length < endOf 3 b
    · unfold readOf at h; rw [if_neg hk0, if_neg hl0, if_neg (by omega), if_neg h1, if_pos h2] at h; cases h
    by_cases h3 : endOf 3 b < b.length
    · unfold readOf at h; rw [if_neg hk0, if_neg hl0, if_neg (by omega), if_neg h1, if_neg h2, if_pos h3] at h; cases h
    by_cases h4 : nodeOk (strOfNums (b.drop (headLen 3))) = false
    · unfold readOf at h; rw [if_neg hk0, if_neg hl0, if_neg (by omega), if_neg h1, if_neg h2, if_neg h3, if_neg (by omega), if_neg (by omega), if_pos h4] at h; cases h
    have e : readOf 3 b = ([], { Msg.zero with kind := 3, flags := numAt b 1 8, creation := numAt b 13 4, challenge := numAt b 9 4, name := strOfNums (b.drop 19) }) := by
      unfold readOf; rw [if_neg hk0, if_neg hl0, if_neg (by omega), if_neg h1, if_neg h2, if_neg h3, if_neg (by omega), if_neg (by omega), if_neg h4]
      rfl
    rw [e]
    clear e h
    have hh : headLen 3 = 19 := rfl
    have hend : endOf 3 b = 19 + (numAt b 17 2).toNat := rfl
    rw [hend] at h2 h3
    rw [hh] at h1 h4
    have hb0 : b.getD 0 0 = 78 := by simpa [letterOf] using fun h => hl0 (.inr h)
    obtain ⟨b0, t0, rfl, q0⟩ := cons_of (n := 18) (b := b) (by omega)
    obtain ⟨b1, t1, rfl, q1⟩ := cons_of (n := 17) (b := t0) (by omega)
    obtain ⟨b2, t2, rfl, q2⟩ := cons_of (n := 16) (b := t1) (by omega)
    obtain ⟨b3, t3, rfl, q3⟩ := cons_of (n := 15) (b := t2) (by omega)
    obtain ⟨b4, t4, rfl, q4⟩ := cons_of (n := 14) (b := t3) (by omega)
    obtain ⟨b5, t5, rfl, q5⟩ := cons_of (n := 13) (b := t4) (by omega)
    obtain ⟨b6, t6, rfl, q6⟩ := cons_of (n := 12) (b := t5) (by omega)
    obtain ⟨b7, t7, rfl, q7⟩ := cons_of (n := 11) (b := t6) (by omega)
    obtain ⟨b8, t8, rfl, q8⟩ := cons_of (n := 10) (b := t7) (by omega)
    obtain ⟨b9, t9, rfl, q9⟩ := cons_of (n := 9) (b := t8) (by omega)
    obtain ⟨b10, t10, rfl, q10⟩ := cons_of (n := 8) (b := t9) (by omega)
    obtain ⟨b11, t11, rfl, q11⟩ := cons_of (n := 7) (b := t10) (by omega)
    obtain ⟨b12, t12, rfl, q12⟩ := cons_of (n := 6) (b := t11) (by omega)
    obtain ⟨b13, t13, rfl, q13⟩ := cons_of (n := 5) (b := t12) (by omega)
    obtain ⟨b14, t14, rfl, q14⟩ := cons_of (n := 4) (b := t13) (by omega)
    obtain ⟨b15, t15, rfl, q15⟩ := cons_of (n := 3) (b := t14) (by omega)
    obtain ⟨b16, t16, rfl, q16⟩ := cons_of (n := 2) (b := t15) (by omega)
    obtain ⟨b17, t17, rfl, q17⟩ := cons_of (n := 1) (b := t16) (by omega)
    obtain ⟨b18, t18, rfl, q18⟩ := cons_of (n := 0) (b := t17) (by omega)
    have r0 := hr b0 (by simp)
    have r1 := hr b1 (by simp)
    have r2 := hr b2 (by simp)
    have r3 := hr b3 (by simp)
    have r4 := hr b4 (by simp)
    have r5 := hr b5 (by simp)
    have r6 := hr b6 (by simp)
    have r7 := hr b7 (by simp)
    have r8 := hr b8 (by simp)
    have r9 := hr b9 (by simp)
    have r10 := hr b10 (by simp)
    have r11 := hr b11 (by simp)
    have r12 := hr b12 (by simp)
    have r13 := hr b13 (by simp)
    have r14 := hr b14 (by simp)
    have r15 := hr b15 (by simp)
    have r16 := hr b16 (by simp)
    have r17 := hr b17 (by simp)
    have r18 := hr b18 (by simp)
    have hdr : (b0 :: b1 :: b2 :: b3 :: b4 :: b5 :: b6 :: b7 :: b8 :: b9 :: b10 :: b11 :: b12 :: b13 :: b14 :: b15 :: b16 :: b17 :: b18 :: t18).drop 19 = t18 := rfl
    have hv2 : numAt (b0 :: b1 :: b2 :: b3 :: b4 :: b5 :: b6 :: b7 :: b8 :: b9 :: b10 :: b11 :: b12 :: b13 :: b14 :: b15 :: b16 :: b17 :: b18 :: t18) 17 2 = b17 * 256 + b18 := by simp only [numAt, List.drop, List.take, List.foldl]; omega
    have hv8 : numAt (b0 :: b1 :: b2 :: b3 :: b4 :: b5 :: b6 :: b7 :: b8 :: b9 :: b10 :: b11 :: b12 :: b13 :: b14 :: b15 :: b16 :: b17 :: b18 :: t18) 1 8 = ((((((b1 * 256 + b2) * 256 + b3) * 256 + b4) * 256 + b5) * 256 + b6) * 256 + b7) * 256 + b8 := by simp only [numAt, List.drop, List.take, List.foldl]; omega
    have hvc : numAt (b0 :: b1 :: b2 :: b3 :: b4 :: b5 :: b6 :: b7 :: b8 :: b9 :: b10 :: b11 :: b12 :: b13 :: b14 :: b15 :: b16 :: b17 :: b18 :: t18) 13 4 = ((b13 * 256 + b14) * 256 + b15) * 256 + b16 := by simp only [numAt, List.drop, List.take, List.foldl]; omega
    have hvh : numAt (b0 :: b1 :: b2 :: b3 :: b4 :: b5 :: b6 :: b7 :: b8 :: b9 :: b10 :: b11 :: b12 :: b13 :: b14 :: b15 :: b16 :: b17 :: b18 :: t18) 9 4 = ((b9 * 256 + b10) * 256 + b11) * 256 + b12 := by simp only [numAt, List.drop, List.take, List.foldl]; omega
    have hlen : (b0 :: b1 :: b2 :: b3 :: b4 :: b5 :: b6 :: b7 :: b8 :: b9 :: b10 :: b11 :: b12 :: b13 :: b14 :: b15 :: b16 :: b17 :: b18 :: t18).length = 19 + t18.length := by simp; omega
    have hb0 : b0 = 78 := hb0
    rw [hv2, hlen] at h2 h3
    rw [hdr] at h4 ⊢
    rw [hv8, hvc, hvh]
    have hrt : ∀ z ∈ t18, 0 ≤ z ∧ z < 256 := fun z hz => hr z (by simp [hz])
    have hsz := strOf_size t18
    have hnn := nums_strOf hrt
    have hok : nodeOk (strOfNums t18) = true := by simpa using h4
    have hlt : t18.length = (b17 * 256 + b18).toNat := by omega
    clear hv2 hv8 hvc hvh hdr hlen h1 h2 h3 h4 hend hl0 hr
    refine ⟨⟨.inr (.inl rfl), .inl rfl, by simp [Msg.zero]; rfl, by simp [Msg.zero]⟩, fun _ => hok, ?_, ⟨⟨by simp only []; omega, by simp only []; omega⟩, ⟨by simp only []; omega, by simp only []; omega⟩, ⟨by simp only []; omega, by simp only []; omega⟩, fun z hz => by cases hz⟩, rfl⟩
    rw [bytes_k3 _ rfl]
    simp only [bytes8, be4, be2, hnn, hsz, hlt, List.cons_append, List.nil_append, List.cons.injEq, and_true]
    omega
  · by_cases h1 : b.length < headLen 4
    · unfold readOf at h; rw [if_neg hk0, if_neg hl0, if_neg (by omega), if_pos h1] at h; cases h
    by_cases h2 : b.length < endOf 4 b
    · unfold readOf at h; rw [if_neg hk0, if_neg hl0, if_neg (by omega), if_neg h1, if_pos h2] at h; cases h
    by_cases h3 : endOf 4 b < b.length
    · unfold readOf at h; rw [if_neg hk0, if_neg hl0, if_neg (by omega), if_neg h1, if_neg h2, if_pos h3] at h; cases h
    have e : readOf 4 b = ([], { Msg.zero with kind := 4, challenge := numAt b 1 4, digest := b.drop 5 }) := by unfold readOf; rw [if_neg hk0, if_neg hl0, if_neg (by omega), if_neg h1, if_neg h2, if_neg h3, if_pos rfl]
    rw [e]
    have hend : endOf 4 b = 21 := rfl
    rw [hend] at h2 h3
    have hb0 : b.getD 0 0 = 114 := by simpa [letterOf] using fun h => hl0 (.inr h)
    clear e h hl0
    obtain ⟨b0, t0, rfl, q0⟩ := cons_of (n := 4) (b := b) (by omega)
    obtain ⟨b1, t1, rfl, q1⟩ := cons_of (n := 3) (b := t0) (by omega)
    obtain ⟨b2, t2, rfl, q2⟩ := cons_of (n := 2) (b := t1) (by omega)
    obtain ⟨b3, t3, rfl, q3⟩ := cons_of (n := 1) (b := t2) (by omega)
    obtain ⟨b4, t4, rfl, q4⟩ := cons_of (n := 0) (b := t3) (by omega)
    have r0 := hr b0 (by simp)
    have r1 := hr b1 (by simp)
    have r2 := hr b2 (by simp)
    have r3 := hr b3 (by simp)
    have r4 := hr b4 (by simp)
    have hb0 : b0 = 114 := hb0
    have hdr : (b0 :: b1 :: b2 :: b3 :: b4 :: t4).drop 5 = t4 := rfl
    have hvh : numAt (b0 :: b1 :: b2 :: b3 :: b4 :: t4) 1 4 = ((b1 * 256 + b2) * 256 + b3) * 256 + b4 := by simp only [numAt, List.drop, List.take, List.foldl]; omega
    rw [hvh]
    rw [hdr]
    have hlen : t4.length = 16 := by simp at h2 h3; omega
    refine ⟨⟨.inr (.inr ⟨rfl, rfl, rfl⟩), .inr (.inl rfl), by simp [Msg.zero]; rfl, by simpa [Msg.zero] using hlen⟩, fun h => by simp at h, ?_, ⟨⟨by simp [Msg.zero], by simp [Msg.zero]⟩, ⟨by simp [Msg.zero], by simp [Msg.zero]⟩, ⟨by simp only []; omega, by simp only []; omega⟩, fun z hz => hr z (by simp at hz; simp [hz])⟩, rfl⟩
    rw [bytes_k4 _ rfl]
    simp only [be4, List.cons_append, List.nil_append, List.cons.injEq, and_true]
    omega
  · by_cases h1 : b.length < headLen 5
    · unfold readOf at h; rw [if_neg hk0, if_neg hl0, if_neg (by omega), if_pos h1] at h; cases h
    by_cases h2 : b.length < endOf 5 b
    · unfold readOf at h; rw [if_neg hk0, if_neg hl0, if_neg (by omega), if_neg h1, if_pos h2] at h; cases h
    by_cases h3 : endOf 5 b < b.length
    · unfold readOf at h; rw [if_neg hk0, if_neg hl0, if_neg (by omega), if_neg h1, if_neg h2, if_pos h3] at h; cases h
    have e : readOf 5 b = ([], { Msg.zero with kind := 5, digest := b.drop 1 }) := by unfold readOf; rw [if_neg hk0, if_neg hl0, if_neg (by omega), if_neg h1, if_neg h2, if_neg h3, if_neg (by omega), if_pos rfl]
    rw [e]
    have hend : endOf 5 b = 17 := rfl
    rw [hend] at h2 h3
    have hb0 : b.getD 0 0 = 97 := by simpa [letterOf] using fun h => hl0 (.inr h)
    clear e h hl0
    obtain ⟨b0, t0, rfl, q0⟩ := cons_of (n := 0) (b := b) (by omega)
    have r0 := hr b0 (by simp)
    have hb0 : b0 = 97 := hb0
    have hdr : (b0 :: t0).drop 1 = t0 := rfl
    rw [hdr]
    have hlen : t0.length = 16 := by simp at h2 h3; omega
    refine ⟨⟨.inr (.inr ⟨rfl, rfl, rfl⟩), .inr (.inr rfl), by simp [Msg.zero]; rfl, by simpa [Msg.zero] using hlen⟩, fun h => by simp at h, ?_, ⟨⟨by simp [Msg.zero], by simp [Msg.zero]⟩, ⟨by simp [Msg.zero], by simp [Msg.zero]⟩, ⟨by simp [Msg.zero], by simp [Msg.zero]⟩, fun z hz => hr z (by simp at hz; simp [hz])⟩, rfl⟩
    rw [bytes_k5 _ rfl, hb0]
end Go.Proofs.YtmnibmgbicnamaaGreatDoor
