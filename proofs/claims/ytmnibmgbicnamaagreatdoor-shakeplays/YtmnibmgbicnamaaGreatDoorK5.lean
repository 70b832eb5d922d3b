/-
  Layer 7 (mix): the program's faults; its Cookie, where it goes through the text by a range over it.
  Layer 7 (mix): decimal digits, as strconv writes them.
  Layer 7 (mix): the program's absorb and stir.
  Layer 7 (mix): the program's appendNumber.
  Layer 7 (mix): the document's decimal digits are those of the library's shelf (Lib.decDigits).
  Layer 7 (mix): the program's Digest.
  Layer 7 (mix): the program's Same; the program's mix is an MImpl.
-/
import Derived.Test.YtmnibmgbicnamaaGreatDoorK2
import Derived.Laws.RangeAny
import Derived.Deep.DeepCutAuto
import Derived.Test.YtmnibmgbicnamaaGreatDoorShelf
import Derived.Lib.Walk
import Derived.Lib.ItoaWalk
import Derived.Lib.ItoaMem
import Derived.Lib.AppendIntMem
import Derived.Lib.Slices
import Derived.Lib.Hide
import Derived.BigCall
import Derived.BigGuard
import Derived.CellFam
import Derived.Lib.ItoaNum
import Derived.Test.YtmnibmgbicnamaaGreatDoorK1
namespace Go.Proofs.YtmnibmgbicnamaaGreatDoor
open Go.RowKit

theorem mix_refuse (a c : Int) (w : World) : Calls Tryz.prog 113 #[.int .i64 a, .int .i64 c] w fun e w' => ∃ v, e = .returned v ∧ FaultAt w.heap.size w' v (a, c) ∧ Below w.heap.size w w' := by
  go_enter Tryz.func113, Tryz.ntmps113
  go_wp2
  go_ret
  exact ⟨_, rfl, ⟨_, Nat.le_refl _, rfl, by simp, by simp, by simp, by simp⟩, (Below.refl _ _).alloc (Nat.le_refl _) _⟩
theorem iter_below (w : World) (s : ByteArray) (pos : Nat) : Below w.heap.size w (w.iter s pos) := (Below.refl _ _).alloc (Nat.le_refl _) _
theorem iter_size (w : World) (s : ByteArray) (pos : Nat) : w.heap.size ≤ (w.iter s pos).heap.size := (iter_below w s pos).size
/-- Where and what a range over a text finds: its byte, or a rune above all bytes. -/
theorem rune_at (s : ByteArray) (pos : Nat) (h : pos < s.size) : ((s[pos].toNat : Int) ≤ 126 → Utf8.decode s pos = (s[pos].toNat, 1)) ∧ (126 < (s[pos].toNat : Int) → 126 < ((Utf8.decode s pos).1 : Int)) := by
  refine ⟨fun ha => decode_ascii s pos h (by omega), fun ha => ?_⟩
  by_cases h7 : s[pos].toNat < 128
  · rw [decode_ascii s pos h h7]; exact ha
  · have := (decode_high s pos h (by omega)).1
    omega

set_option maxRecDepth 100000 in
set_option maxHeartbeats 1600000 in
theorem mix_cookie (s : ByteArray) (hs : s.size ≤ 4611686018427387904) (w : World) : Calls Tryz.prog 100 #[.string s] w fun e w' => ∃ v, e = .returned v ∧ ErrsM w.heap.size w' v (cookieErr s) ∧ Below w.heap.size w w' := by
  unfold cookieErr
  by_cases h0 : s.size = 0
  · rw [if_pos h0]
    obtain rfl : s = ⟨#[]⟩ := by
      apply ByteArray.ext
      exact Array.eq_empty_of_size_eq_zero h0
    go_enter Tryz.func100, Tryz.ntmps100
    go_wp2_with (go_at_call 113; refine (mix_refuse _ _ _).mono ?_; rintro e w1 ⟨v, rfl, hf, hb⟩)
    go_ret
    exact ⟨v, rfl, hf, hb⟩
  · rw [if_neg h0]
    generalize hoc : (firstBad (nums s) 0).map (fun (i : Nat) => (Int.ofNat i, (140 : Int))) = oc
    have HOC : Hid ((firstBad (nums s) 0).map (fun (i : Nat) => (Int.ofNat i, (140 : Int))) = oc) := hoc
    clear hoc
    have hE : s.toList.isEmpty = false := by
      rw [← decide_eq_emptyBytes]
      simp
      intro h
      subst h
      exact h0 rfl
    go_enter Tryz.func100, Tryz.ntmps100
    go_wp2_with fail
    go_loopw [] (fun wr => ∃ pos : Nat, wr = w.iter s pos ∧ pos ≤ s.size ∧ pos ≤ 255 ∧ firstBad ((nums s).drop pos) pos = firstBad (nums s) 0) (fun wr => s.size - wr.iterPos w.heap.size)
    case atStart => exact ⟨0, rfl, Nat.zero_le _, by omega, rfl⟩
    case round =>
      obtain ⟨pos, rfl, hp, hp5, hfb⟩ := hrel
      by_cases hlt : pos < s.size
      · have hnx : ∀ ty, (Instr.next (.pointer (some ⟨w.heap.size, 0, none⟩)) true ty).run Tryz.prog (w.iter s pos) = _ := fun ty => run_next_any w s pos ty hlt
        rw [firstBad_step s pos hlt] at hfb
        obtain ⟨hr1, hr2⟩ := rune_at s pos hlt
        obtain ⟨r, wd, hdec⟩ : ∃ r wd : Nat, Utf8.decode s pos = (r, wd) := ⟨_, _, rfl⟩
        rw [hdec] at hnx hr1 hr2
        have hz := iter_size w s (pos + wd)
        have bad : (pos = 255 ∨ (s[pos].toNat : Int) < 33 ∨ 126 < (s[pos].toNat : Int)) → some ((pos : Int), (140 : Int)) = oc := fun h => by
          rw [if_pos h] at hfb
          have hoc := HOC.out
          rw [← hfb] at hoc
          exact hoc
        have ret : ∀ (v : Value) (w1 : World), some ((pos : Int), (140 : Int)) = oc → FaultAt (w.iter s (pos + wd)).heap.size w1 v (pos, 140) → Below (w.iter s (pos + wd)).heap.size (w.iter s (pos + wd)) w1 → ErrsM w.heap.size w1 v oc ∧ Below w.heap.size w w1 := fun v w1 ho hf hb => by
          subst ho
          obtain ⟨pb, h1, h2⟩ := hf
          exact ⟨⟨pb, Nat.le_trans hz h1, h2⟩, (iter_below w s (pos + wd)).trans (hb.mono hz)⟩
        have RET := Hid.mk7 ret
        by_cases h255 : pos = 255
        · have hoc := bad (.inl h255)
          clear bad ret hr1 hr2 hdec hz hfb
          subst h255
          go_wp2_with (go_at_call 113; refine (mix_refuse _ _ _).mono ?_; rintro e w1 ⟨v, rfl, hf, hb⟩)
          go_ret
          exact ⟨v, rfl, RET.out v w1 hoc hf hb⟩
        · have hq : ((pos : Int) == 255) = false := by simp; omega
          by_cases h33 : (s[pos].toNat : Int) < 33
          · have hoc := bad (.inr (.inl h33))
            have h1 := hr1 (by omega)
            have hr : (r : Int) < 33 := by simp only [Prod.mk.injEq] at h1; omega
            clear bad ret hr1 hr2 hdec hz hfb h1 h33
            go_wp2_with (go_at_call 113; refine (mix_refuse _ _ _).mono ?_; rintro e w1 ⟨v, rfl, hf, hb⟩)
            go_ret
            exact ⟨v, rfl, RET.out v w1 hoc hf hb⟩
          · by_cases h126 : 126 < (s[pos].toNat : Int)
            · have hoc := bad (.inr (.inr h126))
              have hr : 126 < (r : Int) := hr2 h126
              have hr3 : ¬ (r : Int) < 33 := by omega
              clear bad ret hr1 hr2 hdec hz hfb h33 h126
              go_wp2_with (go_at_call 113; refine (mix_refuse _ _ _).mono ?_; rintro e w1 ⟨v, rfl, hf, hb⟩)
              go_ret
              exact ⟨v, rfl, RET.out v w1 hoc hf hb⟩
            · rw [if_neg (by omega)] at hfb
              have h1 := hr1 (by omega)
              simp only [Prod.mk.injEq] at h1
              obtain ⟨hr, rfl⟩ := h1
              have hr3 : ¬ (r : Int) < 33 := by omega
              have hr4 : ¬ 126 < (r : Int) := by omega
              have HFB : Hid (firstBad ((nums s).drop (pos + 1)) (pos + 1) = firstBad (nums s) 0) := hfb
              clear bad ret RET hr1 hr2 hdec hz hfb h33 h126 hr
              go_wp2
              go_roundw
              case rel => exact ⟨pos + 1, rfl, by omega, by omega, HFB.out⟩
              case measure => simp; omega
      · have hnx : ∀ ty, (Instr.next (.pointer (some ⟨w.heap.size, 0, none⟩)) true ty).run Tryz.prog (w.iter s pos) = _ := fun ty => run_next_end w s pos ty hlt
        have hpe : pos = s.size := by omega
        have hend := firstBad_end s
        rw [← hpe] at hend
        rw [hend] at hfb
        have hoc := HOC.out
        rw [← hfb] at hoc
        have hoc : none = oc := hoc
        subst hoc
        clear hpe hend hfb
        go_wp2
        go_ret
        exact ⟨_, rfl, rfl, iter_below _ _ _⟩
end Go.Proofs.YtmnibmgbicnamaaGreatDoor
namespace Go.Proofs.YtmnibmgbicnamaaGreatDoor
open Go.RowKit Go.Sort Go.Lib

set_option maxRecDepth 100000 in
set_option maxHeartbeats 6400000 in
theorem fmt_in (u : Nat) (hu32 : u < 4294967296) (w : World) (htb : Tb w) : Calls Tryz.prog 127 #[.int .u64 u, .int .i64 10] w fun e w' => e = .returned (.string ⟨(Lib.decDigits u).toArray⟩) ∧ Below w.heap.size w w' := by
  by_cases h100 : u < 100
  · go_enter Tryz.func127, Tryz.ntmps127
    go_wp2_with (go_at_call 130; refine (Tryz.internal_strconv_small u h100 _).mono ?_; rintro e w' ⟨rfl, rfl⟩)
    go_ret
    exact ⟨rfl, Below.refl _ _⟩
  · have hu1 : 1 ≤ u := by omega
    have hu64 : u < 18446744073709551616 := by omega
    have hnd20 : Lib.nDigits u ≤ 20 := by have := Lib.numDigits_eq u hu1 hu64; split at this <;> omega
    have hal : Tryz.prog.arrayLen 210 = 24 := by kernel_rfl
    have hel : Tryz.prog.elem 210 = 5 := by kernel_rfl
    have hsl : ∀ W, (Instr.sliceAt 210 (.pointer (some ⟨w.heap.size, 0, none⟩)) none (some (.int .i64 (Lib.nDigits u : Int))) none).run Tryz.prog W = .ok (.slice (some ⟨w.heap.size, 0, none⟩) (Lib.nDigits u) 24) W := fun W => by
      rw [run_sliceAt_array_h W 210 ⟨w.heap.size, 0, none⟩ (by kernel_rfl) .i64 (Lib.nDigits u : Int) (by omega) (by rw [hal]; omega)]
      rw [hal, hel]
      go_simp
    have hH0 := Lib.holds_zero0 w 210 (Lib.nDigits u) (by omega)
    have hfmt := Tryz.internal_strconv_formatBase10 w.heap.size 0 24 u (Array.replicate (Lib.nDigits u) 0) (w.alloc (.cells Lib.zeros24 210)) hH0 (by rw [Array.size_replicate]; exact Lib.lt_pow_nDigits u) hu64 (by rw [Array.size_replicate]; omega)
    rw [Array.size_replicate] at hfmt
    have HH0 := Lib.hid hH0
    have iu : (100 : Int) ≤ (u : Int) := by omega
    clear hH0 hal hel h100
    go_enter Tryz.func127, Tryz.ntmps127
    go_wp2_with (first
      | (go_at_call 131; refine (Tryz.internal_strconv_numDigits u hu1 hu64 _ (Lib.tabIs_alloc htb _)).mono ?_; rintro e w' ⟨rfl, rfl⟩))
    go_at_call 132
    refine hfmt.mono ?_
    rintro e w' ⟨rfl, k, v', dk, rfl, hF⟩
    have hcv : (convert 25 9 (.slice (some ⟨w.heap.size, 0, none⟩) (Lib.nDigits u) 24)).run Tryz.prog ((putRow (fun (b : UInt8) => Value.int .u8 (b.toNat : Int)) (w.alloc (.cells Lib.zeros24 210)) w.heap.size 0 dk).drewN k) = .ok (.string ⟨(Lib.decDigits u).toArray⟩) ((putRow (fun (b : UInt8) => Value.int .u8 (b.toNat : Int)) (w.alloc (.cells Lib.zeros24 210)) w.heap.size 0 dk).drewN k) := by
      have h := run_convert_bytes_back (P := Tryz.prog) ((putRow (fun (b : UInt8) => Value.int .u8 (b.toNat : Int)) (w.alloc (.cells Lib.zeros24 210)) w.heap.size 0 dk).drewN k) 25 9 5 ⟨w.heap.size, 0, none⟩ 24 (Lib.decDigits u) Tryz.underlying25 Tryz.underlying5 Tryz.underlying9 (fun j hj => by
        rw [Lib.row_is_numeral hF j hj, Lib.add_plain, World.cell?_drewN]
        exact cell?_putRow (fun (b : UInt8) => Value.int .u8 (b.toNat : Int)) _ w.heap.size 0 _ dk HH0.out (by rw [hF.size, Array.size_replicate]) j (by rw [hF.size]; rw [Lib.decDigits_length] at hj; exact hj))
      rw [Lib.decDigits_length] at h
      exact h
    obtain ⟨os, eo⟩ := Lib.fin_at w (.cells Lib.zeros24 210) dk k 0
    have hB : Below w.heap.size w ((putRow (fun (b : UInt8) => Value.int .u8 (b.toNat : Int)) (w.alloc (.cells Lib.zeros24 210)) w.heap.size 0 dk).drewN k) := by rw [eo]; exact Lib.below_grow w.heap.size w (Nat.le_refl _) k os
    have HB := Lib.hid hB
    clear hB eo HH0 hfmt
    go_wp2
    go_ret
    exact ⟨rfl, HB.out⟩

set_option maxRecDepth 100000 in
theorem fmt_uint (u : Nat) (hu32 : u < 4294967296) (w : World) (htb : Tb w) : Calls Tryz.prog 120 #[.int .u64 u, .int .i64 10] w fun e w' => e = .returned (.string ⟨(Lib.decDigits u).toArray⟩) ∧ Below w.heap.size w w' := by
  go_enter Tryz.func120, Tryz.ntmps120
  go_wp2_with (go_at_call 127; refine (fmt_in u hu32 w htb).mono ?_; rintro e w' ⟨rfl, hb⟩)
  go_ret
  exact ⟨rfl, hb⟩
end Go.Proofs.YtmnibmgbicnamaaGreatDoor
namespace Go.Proofs.YtmnibmgbicnamaaGreatDoor
open Go.RowKit

set_option maxRecDepth 100000 in
set_option maxHeartbeats 1600000 in
/-- A text of ASCII alone is taken in byte by byte. -/
theorem mix_absorb (t : ByteArray) (ha : ∀ i (h : i < t.size), t[i].toNat < 128) (w : World) : Calls Tryz.prog 119 #[.string t] w fun e w' => e = .returned (.tuple #[.int .u64 (mixBytes (14695981039346656037, 88172645463325252) (nums t)).1, .int .u64 (mixBytes (14695981039346656037, 88172645463325252) (nums t)).2]) ∧ Below w.heap.size w w' := by
  have HA : Hid (∀ i (h : i < t.size), t[i].toNat < 128) := ha
  generalize hm : mixBytes (14695981039346656037, 88172645463325252) (nums t) = m
  have HM : Hid (mixBytes (14695981039346656037, 88172645463325252) (nums t) = m) := hm
  clear ha hm
  go_enter Tryz.func119, Tryz.ntmps119
  go_wp2_with fail
  go_loopw [2, 3] (fun aa bb wr => ∃ pos : Nat, wr = w.iter t pos ∧ pos ≤ t.size ∧ aa = .int .u64 (mixBytes (14695981039346656037, 88172645463325252) ((nums t).take pos)).1 ∧ bb = .int .u64 (mixBytes (14695981039346656037, 88172645463325252) ((nums t).take pos)).2) (fun _ _ wr => t.size - wr.iterPos w.heap.size)
  case atStart => exact ⟨0, rfl, Nat.zero_le _, rfl, rfl⟩
  case round =>
    obtain ⟨pos, rfl, hp, rfl, rfl⟩ := hrel
    by_cases hlt : pos < t.size
    · have hnx : ∀ ty, (Instr.next (.pointer (some ⟨w.heap.size, 0, none⟩)) true ty).run Tryz.prog (w.iter t pos) = _ := fun ty => run_next_any w t pos ty hlt
      have hlt' : pos < (nums t).length := by rw [nums_length]; exact hlt
      rw [decode_ascii t pos hlt (HA.out pos hlt)] at hnx
      have htk : (nums t).take (pos + 1) = (nums t).take pos ++ [(t[pos].toNat : Int)] := by rw [List.take_add_one, List.getElem?_eq_getElem hlt', nums_get t pos hlt hlt']; rfl
      have hsn := mixBytes_snoc (14695981039346656037, 88172645463325252) ((nums t).take pos) (t[pos].toNat : Int)
      rw [← htk] at hsn
      have hc : t[pos].toNat < 128 := HA.out pos hlt
      obtain ⟨ua, ub⟩ := mixBytes_u64 ((nums t).take pos) (14695981039346656037, 88172645463325252) ⟨by decide, by decide⟩ ⟨by decide, by decide⟩
      generalize mixBytes (14695981039346656037, 88172645463325252) ((nums t).take pos) = p at hsn ua ub ⊢
      generalize t[pos].toNat = z at hnx hsn hc
      have hz1 : IntKind.u64.wrap (z : Int) = (z : Int) := by rw [IntKind.wrap_u64]; omega
      clear htk hlt'
      go_wp2
      go_roundw
      case rel =>
        refine ⟨pos + 1, rfl, by omega, ?_, ?_⟩
        · rw [hsn]
          simp only [IntKind.wrap_u64]
          rfl
        · rw [hsn]
          simp only [IntKind.wrap_u64]
          rfl
      case measure => simp; omega
    · have hnx : ∀ ty, (Instr.next (.pointer (some ⟨w.heap.size, 0, none⟩)) true ty).run Tryz.prog (w.iter t pos) = _ := fun ty => run_next_end w t pos ty hlt
      have hpe : pos = t.size := by omega
      have htk : (nums t).take pos = nums t := List.take_of_length_le (by rw [nums_length]; omega)
      rw [htk, HM.out]
      clear hpe htk
      go_wp2
      go_ret2
      exact ⟨rfl, iter_below _ _ _⟩

set_option maxRecDepth 100000 in
set_option maxHeartbeats 1600000 in
theorem mix_stir (p : Int × Int) (ua : U64 p.1) (ub : U64 p.2) (w : World) : Calls Tryz.prog 118 #[.int .u64 p.1, .int .u64 p.2] w fun e w' => e = .returned (.tuple #[.int .u64 (stirN 4 p).1, .int .u64 (stirN 4 p).2]) ∧ w = w' := by
  generalize hm : stirN 4 p = m
  have HM : Hid (stirN 4 p = m) := hm
  clear hm
  go_enter Tryz.func118, Tryz.ntmps118
  go_wp2_with fail
  go_loopw [0, 1, 6] (fun aa bb ii wr => ∃ j : Nat, ii = .int .i64 j ∧ j ≤ 4 ∧ aa = .int .u64 (stirN j p).1 ∧ bb = .int .u64 (stirN j p).2 ∧ U64 (stirN j p).1 ∧ U64 (stirN j p).2 ∧ w = wr) (fun _ _ ii _ => 4 - (intOf ii).toNat)
  case atStart => exact ⟨0, rfl, by omega, rfl, rfl, ua, ub, rfl⟩
  case round =>
    obtain ⟨j, rfl, hj, rfl, rfl, ua, ub, rfl⟩ := hrel
    by_cases hlt : j < 4
    · have hlti : (j : Int) < 4 := by omega
      have hst : stirN (j + 1) p = stir (stirN j p) := rfl
      generalize stirN j p = q at hst ua ub ⊢
      go_wp2_with fail
      refine ⟨⟨j + 1, by simp, by omega, ?_, ?_, ?_, ?_, trivial⟩, by simp [intOf]; omega⟩
      · rw [hst]
        simp only [IntKind.wrap_u64]
        rfl
      · rw [hst]
        simp only [IntKind.wrap_u64]
        rfl
      · rw [hst]; exact U64.mod _
      · rw [hst]; exact U64.mod _
    · have hge : ¬ (j : Int) < 4 := by omega
      obtain rfl : j = 4 := by omega
      rw [HM.out]
      go_wp2
      go_ret2
      exact ⟨rfl, rfl⟩
end Go.Proofs.YtmnibmgbicnamaaGreatDoor
namespace Go.Proofs.YtmnibmgbicnamaaGreatDoor
open Go.RowKit

/-- A byte behind what is there. -/
theorem appendedV {w wr w1 : World} {o : Obj} {V v v1 : Value} {zs : List Int} (hT : Turned (blk V) w wr) (hb : ∀ q, blk v q → blk V q ∨ w.heap.size ≤ q) (ho1 : Own w1 v1 zs) (ht1 : Turned (blk v) (wr.alloc o) w1) (hb1 : ∀ k, blk v1 k → blk v k ∨ k = (wr.alloc o).heap.size) :
    Own w1 v1 zs ∧ Turned (blk V) w w1 ∧ ∀ q, blk v1 q → blk V q ∨ w.heap.size ≤ q :=
  ⟨ho1, (hT.trans (alloc0m wr o) (fun _ h => h.elim)).trans ht1 hb, fun k hk => (hb1 k hk).elim (hb k) (fun h => .inr (by have := hT.size; simp at h; omega))⟩

set_option maxRecDepth 100000 in
set_option maxHeartbeats 1600000 in
theorem mix_append (n : Int) {w : World} {V : Value} {zs : List Int} (hl : zs.length ≤ 8) (ho : Own w V zs) : Calls Tryz.prog 121 #[V, .int .u64 n] w fun e w' => ∃ V', e = .returned V' ∧ Own w' V' (zs ++ bytes8 n) ∧ Turned (blk V) w w' ∧ ∀ k, blk V' k → blk V k ∨ w.heap.size ≤ k := by
  have HO0 : Hid (Own w V zs) := ho
  clear ho
  go_enter Tryz.func121, Tryz.ntmps121
  go_wp2_with fail
  go_loopw [0, 5] (fun oo ii wr => ∃ j : Nat, ii = .int .i64 (56 - 8 * (j : Int)) ∧ j ≤ 8 ∧ Own wr oo (zs ++ (bytes8 n).take j) ∧ Turned (blk V) w wr ∧ ∀ q, blk oo q → blk V q ∨ w.heap.size ≤ q) (fun _ ii _ => (intOf ii + 8).toNat)
  case atStart => exact ⟨0, rfl, by omega, by simpa using HO0.out, Turned.refl _ _, fun _ h => .inl h⟩
  case round =>
    obtain ⟨j, rfl, hj, ho, hT, hb⟩ := hrel
    obtain ⟨ao, co, Lo, rfl⟩ : ∃ a c L, u0 = .slice a L c := ⟨_, _, _, ho.sl.form.choose_spec.choose_spec.1⟩
    by_cases h8 : j = 8
    · subst h8
      have HO : Hid (Own wr (.slice ao Lo co) (zs ++ bytes8 n) ∧ Turned (blk V) w wr ∧ ∀ q, blk (.slice ao Lo co) q → blk V q ∨ w.heap.size ≤ q) := ⟨ho, hT, hb⟩
      clear ho hT hb
      go_wp2
      go_ret
      exact ⟨_, rfl, HO.out⟩
    · have h7 : j = 0 ∨ j = 1 ∨ j = 2 ∨ j = 3 ∨ j = 4 ∨ j = 5 ∨ j = 6 ∨ j = 7 := by omega
      have HO : Hid (Own wr (.slice ao Lo co) (zs ++ (bytes8 n).take j) ∧ Turned (blk V) w wr ∧ ∀ q, blk (.slice ao Lo co) q → blk V q ∨ w.heap.size ≤ q) := ⟨ho, hT, hb⟩
      have HA := fun o : Obj => ho.turned (alloc0m wr o) (fun _ _ h => h)
      have hlen : (zs ++ (bytes8 n).take j).length + 1 ≤ 70368744177664 := by simp [bytes8]; omega
      clear ho hT hb
      rcases h7 with rfl | rfl | rfl | rfl | rfl | rfl | rfl | rfl
      · go_wp2_with (at_builtin; refine wpList_append_bytes (by rfl) (.tmp 10) (.tmp 15) (by rfl) Tryz.bytes (by rfl) (by rfl) (HA _) (Sl.one wr _ _).sl hlen ?_; intro v1 w5 ho1 ht1 hb1; have HN := Hid.mk7 (appendedV HO.out.2.1 HO.out.2.2 ho1 ht1 hb1); clear ho1 ht1 hb1)
        go_roundw
        case rel => exact ⟨1, by simp, by omega, by rw [show zs ++ (bytes8 n).take 1 = (zs ++ (bytes8 n).take 0) ++ [_] from by rw [List.append_assoc]; rfl]; exact HN.out.1, HN.out.2.1, HN.out.2.2⟩
        case measure => simp [intOf]
      · go_wp2_with (at_builtin; refine wpList_append_bytes (by rfl) (.tmp 10) (.tmp 15) (by rfl) Tryz.bytes (by rfl) (by rfl) (HA _) (Sl.one wr _ _).sl hlen ?_; intro v1 w5 ho1 ht1 hb1; have HN := Hid.mk7 (appendedV HO.out.2.1 HO.out.2.2 ho1 ht1 hb1); clear ho1 ht1 hb1)
        go_roundw
        case rel => exact ⟨2, by simp, by omega, by rw [show zs ++ (bytes8 n).take 2 = (zs ++ (bytes8 n).take 1) ++ [_] from by rw [List.append_assoc]; rfl]; exact HN.out.1, HN.out.2.1, HN.out.2.2⟩
        case measure => simp [intOf]
      · go_wp2_with (at_builtin; refine wpList_append_bytes (by rfl) (.tmp 10) (.tmp 15) (by rfl) Tryz.bytes (by rfl) (by rfl) (HA _) (Sl.one wr _ _).sl hlen ?_; intro v1 w5 ho1 ht1 hb1; have HN := Hid.mk7 (appendedV HO.out.2.1 HO.out.2.2 ho1 ht1 hb1); clear ho1 ht1 hb1)
        go_roundw
        case rel => exact ⟨3, by simp, by omega, by rw [show zs ++ (bytes8 n).take 3 = (zs ++ (bytes8 n).take 2) ++ [_] from by rw [List.append_assoc]; rfl]; exact HN.out.1, HN.out.2.1, HN.out.2.2⟩
        case measure => simp [intOf]
      · go_wp2_with (at_builtin; refine wpList_append_bytes (by rfl) (.tmp 10) (.tmp 15) (by rfl) Tryz.bytes (by rfl) (by rfl) (HA _) (Sl.one wr _ _).sl hlen ?_; intro v1 w5 ho1 ht1 hb1; have HN := Hid.mk7 (appendedV HO.out.2.1 HO.out.2.2 ho1 ht1 hb1); clear ho1 ht1 hb1)
        go_roundw
        case rel => exact ⟨4, by simp, by omega, by rw [show zs ++ (bytes8 n).take 4 = (zs ++ (bytes8 n).take 3) ++ [_] from by rw [List.append_assoc]; rfl]; exact HN.out.1, HN.out.2.1, HN.out.2.2⟩
        case measure => simp [intOf]
      · go_wp2_with (at_builtin; refine wpList_append_bytes (by rfl) (.tmp 10) (.tmp 15) (by rfl) Tryz.bytes (by rfl) (by rfl) (HA _) (Sl.one wr _ _).sl hlen ?_; intro v1 w5 ho1 ht1 hb1; have HN := Hid.mk7 (appendedV HO.out.2.1 HO.out.2.2 ho1 ht1 hb1); clear ho1 ht1 hb1)
        go_roundw
        case rel => exact ⟨5, by simp, by omega, by rw [show zs ++ (bytes8 n).take 5 = (zs ++ (bytes8 n).take 4) ++ [_] from by rw [List.append_assoc]; rfl]; exact HN.out.1, HN.out.2.1, HN.out.2.2⟩
        case measure => simp [intOf]
      · go_wp2_with (at_builtin; refine wpList_append_bytes (by rfl) (.tmp 10) (.tmp 15) (by rfl) Tryz.bytes (by rfl) (by rfl) (HA _) (Sl.one wr _ _).sl hlen ?_; intro v1 w5 ho1 ht1 hb1; have HN := Hid.mk7 (appendedV HO.out.2.1 HO.out.2.2 ho1 ht1 hb1); clear ho1 ht1 hb1)
        go_roundw
        case rel => exact ⟨6, by simp, by omega, by rw [show zs ++ (bytes8 n).take 6 = (zs ++ (bytes8 n).take 5) ++ [_] from by rw [List.append_assoc]; rfl]; exact HN.out.1, HN.out.2.1, HN.out.2.2⟩
        case measure => simp [intOf]
      · go_wp2_with (at_builtin; refine wpList_append_bytes (by rfl) (.tmp 10) (.tmp 15) (by rfl) Tryz.bytes (by rfl) (by rfl) (HA _) (Sl.one wr _ _).sl hlen ?_; intro v1 w5 ho1 ht1 hb1; have HN := Hid.mk7 (appendedV HO.out.2.1 HO.out.2.2 ho1 ht1 hb1); clear ho1 ht1 hb1)
        go_roundw
        case rel => exact ⟨7, by simp, by omega, by rw [show zs ++ (bytes8 n).take 7 = (zs ++ (bytes8 n).take 6) ++ [_] from by rw [List.append_assoc]; rfl]; exact HN.out.1, HN.out.2.1, HN.out.2.2⟩
        case measure => simp [intOf]
      · go_wp2_with (at_builtin; refine wpList_append_bytes (by rfl) (.tmp 10) (.tmp 15) (by rfl) Tryz.bytes (by rfl) (by rfl) (HA _) (Sl.one wr _ _).sl hlen ?_; intro v1 w5 ho1 ht1 hb1; have HN := Hid.mk7 (appendedV HO.out.2.1 HO.out.2.2 ho1 ht1 hb1); clear ho1 ht1 hb1)
        go_roundw
        case rel => exact ⟨8, by simp, by omega, by rw [show zs ++ (bytes8 n).take 8 = (zs ++ (bytes8 n).take 7) ++ [_] from by rw [List.append_assoc]; rfl]; exact HN.out.1, HN.out.2.1, HN.out.2.2⟩
        case measure => simp [intOf]
end Go.Proofs.YtmnibmgbicnamaaGreatDoor
namespace Go.Proofs.YtmnibmgbicnamaaGreatDoor
open Go.RowKit

theorem digit_byte (x : Nat) (h : x < 10) : ((UInt8.ofNat (48 + x)).toNat : Int) = 48 + (x : Int) := by
  have : (UInt8.ofNat (48 + x)).toNat = (48 + x) % 256 := by simp
  rw [this]
  omega
theorem digFrom_dec : ∀ (k n : Nat) (acc : List Int), n ≠ 0 → n < 10 ^ k → digFrom k n acc = (Lib.decDigits n).map (fun b => (b.toNat : Int)) ++ acc
  | 0, n, acc, h0, h => by simp at h; omega
  | k + 1, n, acc, h0, h => by
    rw [digFrom_step k n acc h0]
    by_cases h10 : n < 10
    · have hz : n / 10 = 0 := by omega
      have hm : n % 10 = n := by omega
      rw [hz, digFrom_zero, Lib.decDigits_one h10, hm]
      simp only [List.map_cons, List.map_nil, List.singleton_append, digit_byte n h10]
    · have hd : n / 10 ≠ 0 := by omega
      rw [digFrom_dec k (n / 10) _ hd (by rw [Nat.pow_succ] at h; omega)]
      have he : Lib.decDigits n = Lib.decDigits (n / 10) ++ [UInt8.ofNat (48 + n % 10)] := by rw [Lib.decDigits, dif_neg h10]
      rw [he, List.map_append, List.append_assoc]
      simp only [List.map_cons, List.map_nil, List.singleton_append, digit_byte (n % 10) (by omega)]
theorem digits_dec (n : Nat) (hn : n < 4294967296) : digitsOf n = (Lib.decDigits n).map (fun b => (b.toNat : Int)) := by
  unfold digitsOf
  by_cases h0 : n = 0
  · subst h0
    rw [if_pos rfl, Lib.decDigits_one (by omega)]
    rfl
  · rw [if_neg h0, digFrom_dec 10 n [] h0 (by omega), List.append_nil]
end Go.Proofs.YtmnibmgbicnamaaGreatDoor
namespace Go.Proofs.YtmnibmgbicnamaaGreatDoor
open Go.RowKit

theorem firstBad_none : ∀ (zs : List Int) (i : Nat), firstBad zs i = none → ∀ z ∈ zs, 33 ≤ z ∧ z ≤ 126
  | [], _, _, z, hz => by cases hz
  | y :: r, i, h, z, hz => by
    unfold firstBad at h
    by_cases hb : i = 255 ∨ y < 33 ∨ 126 < y
    · rw [if_pos hb] at h; cases h
    · rw [if_neg hb] at h
      rcases List.mem_cons.1 hz with rfl | hz
      · omega
      · exact firstBad_none r (i + 1) h z hz
theorem cookie_ascii {s : ByteArray} (h : cookieErr s = none) : ∀ z ∈ nums s, z < 128 := by
  unfold cookieErr at h
  by_cases h0 : s.size = 0
  · rw [if_pos h0] at h; cases h
  · rw [if_neg h0] at h
    have hf : firstBad (nums s) 0 = none := by
      cases hf : firstBad (nums s) 0 with
      | none => rfl
      | some i => rw [hf] at h; cases h
    intro z hz
    have := firstBad_none _ _ hf z hz
    omega
theorem cookie_code {s : ByteArray} {x : Int × Int} (h : cookieErr s = some x) : x.2 = 140 := by
  unfold cookieErr at h
  by_cases h0 : s.size = 0
  · rw [if_pos h0] at h; cases h; rfl
  · rw [if_neg h0] at h
    cases hf : firstBad (nums s) 0 with
    | none => rw [hf] at h; cases h
    | some i => rw [hf] at h; cases h; rfl
theorem digits_ascii (n : Nat) : ∀ z ∈ digitsOf n, z < 128 := by
  have hd : ∀ (k m : Nat) (acc : List Int), (∀ z ∈ acc, z < 128) → ∀ z ∈ digFrom k m acc, z < 128 := by
    intro k
    induction k with
    | zero => exact fun _ _ h => h
    | succ k ih =>
      intro m acc h
      unfold digFrom
      by_cases h0 : m = 0
      · rw [if_pos h0]; exact h
      · rw [if_neg h0]
        exact ih _ _ (fun z hz => by
          rcases List.mem_cons.1 hz with rfl | hz
          · omega
          · exact h z hz)
  unfold digitsOf
  by_cases h0 : n = 0
  · rw [if_pos h0]; intro z hz; simp at hz; omega
  · rw [if_neg h0]; exact hd 10 n [] (fun z hz => by cases hz)
theorem dec_len (n : Nat) (hn : n < 4294967296) : (Lib.decDigits n).length ≤ 20 := by
  rw [Lib.decDigits_length]
  by_cases h0 : n < 10
  · rw [Lib.nDigits_small h0]; omega
  · have := Lib.numDigits_eq n (by omega) (by omega)
    split at this <;> omega
/-- The text that is taken in. -/
theorem nums_both (s : ByteArray) (n : Nat) (hn : n < 4294967296) : nums (s ++ ⟨(Lib.decDigits n).toArray⟩) = nums s ++ digitsOf n := by
  rw [digits_dec n hn]
  simp [nums]
theorem both_ascii {s : ByteArray} (h : cookieErr s = none) (n : Nat) (hn : n < 4294967296) : ∀ i (h : i < (s ++ (⟨(Lib.decDigits n).toArray⟩ : ByteArray)).size), (s ++ (⟨(Lib.decDigits n).toArray⟩ : ByteArray))[i].toNat < 128 := by
  intro i hi
  have h1 : i < (nums (s ++ (⟨(Lib.decDigits n).toArray⟩ : ByteArray))).length := by rw [nums_length]; exact hi
  have h2 := List.getElem_mem h1
  rw [nums_get _ i hi h1] at h2
  rw [nums_both s n hn] at h2
  rcases List.mem_append.1 h2 with h2 | h2
  · have := cookie_ascii h _ h2; omega
  · have := digits_ascii n _ h2; omega

/-- 'make([]byte, 0, 16)'. -/
theorem make16 (w : World) : ∃ w1, (Instr.makeSlice 25 (.int .i64 0) (.int .i64 16)).run Tryz.prog w = .ok (.slice (some ⟨w.heap.size, 0, none⟩) 0 16) w1 ∧ Turned (fun _ => False) w w1 ∧ Own w1 (.slice (some ⟨w.heap.size, 0, none⟩) 0 16) [] := by
  obtain ⟨i, hi, hz, hsz, hby⟩ := Tryz.bytes.info
  have hr := run_make (P := Tryz.prog) w 25 5 i (.int .u8 0) Tryz.bytes.slice hi hz .i64 .i64 0 16 (by omega) (by omega) (by rw [hby]; omega) (by omega)
  rw [hsz] at hr
  refine ⟨_, hr, alloc0m w _, .inr ⟨w.heap.size, 0, 16, rfl, by simp, by decide, by simp, fun j hj => absurd hj (Nat.not_lt_zero j), fun j hj => ⟨?_, by rw [World.frozen?_alloc_new]⟩⟩⟩
  rw [World.cell?_alloc_at _ _ _ _ rfl]
  have hj' : 0 + j < (madeCells (Value.int .u8 0).cells (Int.toNat 16 * 1)).size := by rw [size_madeCells]; simpa using hj
  rw [Array.getElem?_eq_getElem hj']
  rfl

set_option maxRecDepth 100000 in
set_option maxHeartbeats 1600000 in
theorem mix_digest_no (s : ByteArray) (hs : s.size ≤ 4611686018427387904) (n : Nat) (w : World) {x : Int × Int} (hc : cookieErr s = some x) : Calls Tryz.prog 114 #[.string s, .int .u32 n] w fun e w' => ∃ v, e = .returned (.tuple #[.slice none 0 0, v]) ∧ FaultAt w.heap.size w' v x ∧ Below w.heap.size w w' := by
  have hck := mix_cookie s hs w
  rw [hc] at hck
  go_enter Tryz.func114, Tryz.ntmps114
  go_wp2_with fail
  refine hck.mono ?_
  rintro e w1 ⟨v, rfl, hf, hb⟩
  have HF : Hid (FaultAt w.heap.size w1 v x) := hf
  obtain ⟨pb, _, rfl, _⟩ := hf
  go_wp2
  go_ret2
  exact ⟨_, rfl, HF.out, hb⟩

set_option maxRecDepth 100000 in
set_option maxHeartbeats 3200000 in
theorem mix_digest_ok (s : ByteArray) (hs : s.size ≤ 255) (n : Nat) (hn : n < 4294967296) (w : World) (htb : Tb w) (hc : cookieErr s = none) : Calls Tryz.prog 114 #[.string s, .int .u32 n] w fun e w' => ∃ V, e = .returned (.tuple #[V, .nilIface]) ∧ Own w' V (digestOf s n) ∧ Below w.heap.size w w' ∧ ∀ k, blk V k → w.heap.size ≤ k := by
  have hck := mix_cookie s (by omega) w
  rw [hc] at hck
  have HC : Hid (cookieErr s = none) := hc
  have hdl := dec_len n hn
  clear hc
  go_enter Tryz.func114, Tryz.ntmps114
  go_wp2_with fail
  refine hck.mono ?_
  rintro e w1 ⟨v, rfl, hf, hb1⟩
  have hf' : v = .nilIface := hf
  subst hf'
  have htb1 := htb.below hb1
  have HB1 : Hid (Below w.heap.size w w1) := hb1
  clear hf hck hb1 htb
  go_wp2_with fail
  refine (fmt_uint n hn w1 htb1).mono ?_
  rintro e w2 ⟨rfl, hb2⟩
  have HB2 : Hid (Below w.heap.size w w2) := HB1.out.trans (hb2.mono HB1.out.size)
  clear hb2 htb1
  have habs := mix_absorb _ (both_ascii HC.out n hn) w2
  rw [nums_both s n hn] at habs
  have HD : Hid (digestOf s n = bytes8 (stirN 4 (mixBytes (14695981039346656037, 88172645463325252) (nums s ++ digitsOf n))).1 ++ bytes8 (stirN 4 (mixBytes (14695981039346656037, 88172645463325252) (nums s ++ digitsOf n))).2) := by exact rfl
  obtain ⟨ua, ub⟩ := mixBytes_u64 (nums s ++ digitsOf n) (14695981039346656037, 88172645463325252) ⟨by decide, by decide⟩ ⟨by decide, by decide⟩
  generalize mixBytes (14695981039346656037, 88172645463325252) (nums s ++ digitsOf n) = p at habs HD ua ub
  go_wp2_with fail
  refine habs.mono ?_
  rintro e w3 ⟨rfl, hb3⟩
  have HB3 : Hid (Below w.heap.size w w3) := HB2.out.trans (hb3.mono HB2.out.size)
  clear hb3 habs
  have hst := mix_stir p ua ub w3
  generalize stirN 4 p = q at hst HD
  go_wp2_with fail
  refine hst.mono ?_
  rintro e w3' ⟨rfl, rfl⟩
  clear hst ua ub
  obtain ⟨w4, hmk, T4, ho4⟩ := make16 w3
  have hap := mix_append q.1 (by simp) ho4
  have HB4 : Hid (Turned (fun _ => False) w w4 ∧ w.heap.size ≤ w3.heap.size) := ⟨(Turned.ofBelow (S := fun _ => False) HB3.out).trans T4 (fun _ h => h.elim), HB3.out.size⟩
  clear T4 ho4
  go_wp2_with fail
  refine hap.mono ?_
  rintro e w5 ⟨V5, rfl, ho5, T5, hb5⟩
  have hap2 := mix_append q.2 (by simp [bytes8]) ho5
  have HB5 : Hid (Turned (fun _ => False) w w5 ∧ ∀ k, blk V5 k → w.heap.size ≤ k) := ⟨HB4.out.1.trans T5 (fun k (hk : w3.heap.size = k) => .inr (by have := HB4.out.2; omega)), fun k hk => (hb5 k hk).elim (fun (h : w3.heap.size = k) => by have := HB4.out.2; omega) (fun h => by have := HB4.out.1.size; omega)⟩
  obtain ⟨a5, c5, L5, rfl⟩ : ∃ a c L, V5 = .slice a L c := ⟨_, _, _, ho5.sl.form.choose_spec.choose_spec.1⟩
  clear hmk hap ho5 T5 hb5
  go_wp2_with fail
  refine hap2.mono ?_
  rintro e w6 ⟨V6, rfl, ho6, T6, hb6⟩
  rw [List.nil_append, ← HD.out] at ho6
  have HB6 : Hid (Own w6 V6 (digestOf s n) ∧ Below w.heap.size w w6 ∧ ∀ k, blk V6 k → w.heap.size ≤ k) := ⟨ho6, (HB5.out.1.trans T6 (fun k hk => .inr (HB5.out.2 k hk))).below (Nat.le_refl _) (fun _ h => h.elim), fun k hk => (hb6 k hk).elim (HB5.out.2 k) (fun h => by have := HB5.out.1.size; omega)⟩
  obtain ⟨a6, c6, L6, rfl⟩ : ∃ a c L, V6 = .slice a L c := ⟨_, _, _, ho6.sl.form.choose_spec.choose_spec.1⟩
  clear hap2 ho6 T6 hb6
  go_wp2
  go_ret2
  exact ⟨_, rfl, HB6.out⟩

theorem mix_digest (s : ByteArray) (hs : s.size ≤ 4611686018427387904) (n : Nat) (hn : n < 4294967296) (w : World) (htb : Tb w) : Calls Tryz.prog 114 #[.string s, .int .u32 n] w fun e w' => ∃ V v, e = .returned (.tuple #[V, v]) ∧ ErrsM w.heap.size w' v (cookieErr s) ∧ Own w' V (digestTold s n) ∧ Below w.heap.size w w' ∧ ∀ k, blk V k → w.heap.size ≤ k := by
  unfold digestTold
  cases hc : cookieErr s with
  | none => exact (mix_digest_ok s (cookie_size hc) n hn w htb hc).mono fun e w' ⟨V, h1, h2, h3, h4⟩ => ⟨V, _, h1, rfl, h2, h3, h4⟩
  | some x => exact (mix_digest_no s hs n w hc).mono fun e w' ⟨v, h1, h2, h3⟩ => ⟨_, v, h1, h2, .inl ⟨rfl, rfl⟩, h3, fun _ h => h.elim⟩
end Go.Proofs.YtmnibmgbicnamaaGreatDoor
namespace Go.Proofs.YtmnibmgbicnamaaGreatDoor
open Go.RowKit

theorem Tryz.eqlNilE (v : Value) (w : World) : (binOp .eql 29 .nilIface (.iface 89 v)).run Tryz.prog w = .ok (.bool false) w := by
  have h : ∀ d : Nat, (Op.equalIn (d + 1) 29 .nilIface (.iface 89 v)).run Tryz.prog w = .ok false w := fun d => by simp [Op.equalIn, run_underlying Tryz.underlying29]
  simp only [binOp]
  simp [Op.equal, Op.maxDepth, h 9999]
set_option maxRecDepth 100000 in
theorem is_nil (d : Int) (w : World) : Calls Tryz.prog 39 #[.nilIface, .iface 89 (.int .i64 d)] w fun e w' => e = .returned (.bool false) ∧ w = w' := by
  have he := Tryz.eqlNilE
  go_enter Tryz.func39, Tryz.ntmps39
  go_wp2
  go_ret
  exact ⟨rfl, rfl⟩

set_option maxRecDepth 100000 in
theorem bytes_equal {w : World} {v x : Value} {zs ys : List Int} (hv : Sl w v zs) (hx : Sl w x ys) : Calls Tryz.prog 122 #[v, x] w fun e w' => e = .returned (.bool ((strOfNums zs).toList == (strOfNums ys).toList)) ∧ w = w' := by
  have hcx := hv.str
  have hcy := hx.str
  obtain ⟨a, c, L, rfl⟩ : ∃ a c L, v = .slice a L c := ⟨_, _, _, hv.form.choose_spec.choose_spec.1⟩
  obtain ⟨a', c', L', rfl⟩ : ∃ a c L, x = .slice a L c := ⟨_, _, _, hx.form.choose_spec.choose_spec.1⟩
  generalize strOfNums zs = s at hcx ⊢
  generalize strOfNums ys = t at hcy ⊢
  clear hv hx
  go_enter Tryz.func122, Tryz.ntmps122
  go_wp2
  go_ret
  exact ⟨rfl, rfl⟩

set_option maxRecDepth 100000 in
set_option maxHeartbeats 1600000 in
theorem mix_same (s : ByteArray) (hs : s.size ≤ 4611686018427387904) (n : Nat) (hn : n < 4294967296) {w : World} {D : Value} {ds : List Int} (htb : Tb w) (hD : Sl w D ds) : Calls Tryz.prog 115 #[.string s, .int .u32 n, D] w fun e w' => e = .returned (.bool (sameTold s n ds)) ∧ Below w.heap.size w w' := by
  unfold sameTold
  obtain ⟨aD, cD, LD, rfl⟩ : ∃ a c L, D = .slice a L c := ⟨_, _, _, hD.form.choose_spec.choose_spec.1⟩
  cases hc : cookieErr s with
  | some x =>
    have hdg := mix_digest_no s hs n w hc
    have hx2 := cookie_code hc
    clear hD
    go_enter Tryz.func115, Tryz.ntmps115
    go_wp2_with fail
    refine hdg.mono ?_
    rintro e w1 ⟨v, rfl, hf, hb⟩
    obtain ⟨pb, _, rfl, _, _, h2, h3⟩ := hf
    rw [hx2] at h2
    have his := is_fault pb 0 140 w1 (by simpa using h2) (by simpa using h3)
    clear h2 h3
    go_wp2_with fail
    refine his.mono ?_
    rintro e w2 ⟨rfl, rfl⟩
    go_wp2
    go_ret
    exact ⟨by simp, hb⟩
  | none =>
    have hdg := mix_digest_ok s (cookie_size hc) n hn w htb hc
    have HD : Hid (Sl w (.slice aD LD cD) ds) := hD
    clear hD
    go_enter Tryz.func115, Tryz.ntmps115
    go_wp2_with fail
    refine hdg.mono ?_
    rintro e w1 ⟨V, rfl, ho, hb, _⟩
    have heq := bytes_equal ho.sl (HD.out.turned (Turned.ofBelow (S := fun _ => False) hb) (fun _ _ h => h))
    obtain ⟨aV, cV, LV, rfl⟩ : ∃ a c L, V = .slice a L c := ⟨_, _, _, ho.sl.form.choose_spec.choose_spec.1⟩
    have HB : Hid (Below w.heap.size w w1) := hb
    clear hb ho
    have his := is_nil 140 w1
    go_wp2_with fail
    refine his.mono ?_
    rintro e w2 ⟨rfl, rfl⟩
    go_wp2_with fail
    refine heq.mono ?_
    rintro e w3 ⟨rfl, rfl⟩
    go_wp2
    go_ret
    exact ⟨by simp, HB.out⟩

/-- The program's mix is what is asked of it. -/
theorem mix_impl : MImpl where
  cookie := mix_cookie
  digest := mix_digest
  same := fun s hs n hn _ _ _ htb hD _ _ => mix_same s hs n hn htb hD
end Go.Proofs.YtmnibmgbicnamaaGreatDoor
