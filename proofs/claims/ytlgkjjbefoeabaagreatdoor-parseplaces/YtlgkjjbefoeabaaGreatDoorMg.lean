/-
  Layers 1 and 10, the document's: questions on bytes; how far runs go; refusals.
  Layer 1, the document's: refusals; code points; escapes.
  Layers 1 and 10, the document's: values of digits.
  Layers 1 and 10, the document's: escapes; reserved words.
  Layer 1, the document's: the atom that begins at a place of a text.
  Layer 10, the document's: numbers in a text.
  Layer 10, the document's: characters in a text.
  Layer 10, the document's: the character at a place.
  Layer 10, the document's: the token at a place.
  Layer 10, the document's: the tokens of any text, or a refusal; that it ends.
-/
import Derived.Test.YtlgkjjbefoeabaaGreatDoorPF
import Derived.Test.YtlgkjjbefoeabaaGreatDoorMc
import Derived.Test.YtlgkjjbefoeabaaGreatDoorPQ
import Derived.WalkSpells
namespace Go.Proofs.YtlgkjjbefoeabaaGreatDoor
open Go.RowKit

theorem str_at (s : ByteArray) (j : Nat) (h : j < s.size) (W : World) : (Instr.index 9 (.string s) (.int .i64 (j : Int))).run Tryz.prog W = .ok (.int .u8 (s[j].toNat : Int)) W := by
  rw [run_index_string W _ _ _ _ Tryz.underlying9, dif_pos ⟨by omega, by omega⟩]
  simp
def upB (c : Int) : Bool := capB c || decide (c = 95)
set_option maxRecDepth 100000 in
theorem rf_small (c : Int) (w : World) : Calls Tryz.prog 35 #[.int .u8 c] w fun e w' => e = .returned (.bool (smallB c)) ∧ w = w' := by
  go_enter Tryz.func35, Tryz.ntmps35
  go_wp2
  all_goals go_ret
  all_goals
    refine ⟨congrArg Ending.returned (congrArg Value.bool ?_), rfl⟩
    rw [Bool.eq_iff_iff]
    simp [smallB]
    try omega
set_option maxRecDepth 100000 in
theorem rf_inWord (c : Int) (w : World) : Calls Tryz.prog 66 #[.int .u8 c] w fun e w' => e = .returned (.bool (wordB c)) ∧ w = w' := by
  have hs := rf_small c w
  cases h : smallB c
  all_goals
    rw [h] at hs
    go_enter Tryz.func66, Tryz.ntmps66
    go_wp2_with (go_at_call 35; refine hs.mono ?_; rintro e w' ⟨rfl, rfl⟩)
    all_goals go_ret
    all_goals
      refine ⟨congrArg Ending.returned (congrArg Value.bool ?_), rfl⟩
      rw [Bool.eq_iff_iff]
      simp [wordB, alnumB, capB, digB, h]
      try omega
set_option maxRecDepth 100000 in
theorem rf_upper (c : Int) (w : World) : Calls Tryz.prog 39 #[.int .u8 c] w fun e w' => e = .returned (.bool (upB c)) ∧ w = w' := by
  go_enter Tryz.func39, Tryz.ntmps39
  go_wp2
  all_goals go_ret
  all_goals
    refine ⟨congrArg Ending.returned (congrArg Value.bool ?_), rfl⟩
    rw [Bool.eq_iff_iff]
    simp [upB, capB]
    try omega
set_option maxRecDepth 100000 in
theorem rf_digit (c : Int) (w : World) : Calls Tryz.prog 40 #[.int .u8 c] w fun e w' => e = .returned (.bool (digB c)) ∧ w = w' := by
  go_enter Tryz.func40, Tryz.ntmps40
  go_wp2
  all_goals go_ret
  all_goals
    refine ⟨congrArg Ending.returned (congrArg Value.bool ?_), rfl⟩
    rw [Bool.eq_iff_iff]
    simp [digB]
    try omega
set_option maxRecDepth 100000 in
theorem rf_blank (c : Int) (w : World) : Calls Tryz.prog 33 #[.int .u8 c] w fun e w' => e = .returned (.bool (blankB c)) ∧ w = w' := by
  go_enter Tryz.func33, Tryz.ntmps33
  go_wp2
  all_goals go_ret
  all_goals
    refine ⟨congrArg Ending.returned (congrArg Value.bool ?_), rfl⟩
    rw [Bool.eq_iff_iff]
    simp [blankB]
    try omega
set_option maxRecDepth 100000 in
theorem rf_value (c : Int) (w : World) : Calls Tryz.prog 70 #[.int .u8 c] w fun e w' => (∃ z : Int, e = .returned (.int .i64 z)) ∧ w = w' := by
  have hs := rf_digit c w
  cases h : digB c
  all_goals
    rw [h] at hs
    go_enter Tryz.func70, Tryz.ntmps70
    go_wp2_with (go_at_call 40; refine hs.mono ?_; rintro e w' ⟨rfl, rfl⟩)
    all_goals go_ret
    all_goals exact ⟨⟨_, rfl⟩, rfl⟩
set_option maxRecDepth 100000 in
theorem rf_hex (c : Int) (w : World) : Calls Tryz.prog 103 #[.int .u8 c] w fun e w' => (∃ z : Int, e = .returned (.int .i64 z)) ∧ w = w' := by
  go_enter Tryz.func103, Tryz.ntmps103
  go_wp2
  all_goals go_ret
  all_goals exact ⟨⟨_, rfl⟩, rfl⟩
set_option maxRecDepth 100000 in
/-- The place behind a word. -/
theorem rf_word (s : ByteArray) (hs : s.size ≤ 65536) (i : Nat) (hi : i ≤ s.size) (w : World) : Calls Tryz.prog 34 #[.string s, .int .i64 (i : Int)] w fun e w' => (∃ j : Nat, e = .returned (.int .i64 (j : Int)) ∧ i ≤ j ∧ j ≤ s.size ∧ ∀ h : i < s.size, wordB (s[i].toNat : Int) = true → i < j) ∧ w = w' := by
  go_enter Tryz.func34, Tryz.ntmps34
  go_wp2_with fail
  go_loopw [1] (fun ii wr => ∃ j : Nat, ii = .int .i64 (j : Int) ∧ i ≤ j ∧ j ≤ s.size ∧ w = wr) (fun ii _ => s.size - (intOf ii).toNat)
  case atStart => exact ⟨i, rfl, Nat.le_refl _, hi, rfl⟩
  case round =>
    obtain ⟨j, rfl, h1, h2, rfl⟩ := hrel
    by_cases hlt : j < s.size
    · have hlti : (j : Int) < (s.size : Int) := by omega
      have hix := str_at s j hlt
      have hq := fun W => rf_inWord (s[j].toNat : Int) W
      cases hw : wordB (s[j].toNat : Int) with
      | true =>
        rw [hw] at hq
        generalize (s[j].toNat : Int) = c at hix hq hw
        go_wp2_with fail
        refine (hq _).mono ?_
        rintro e w' ⟨rfl, rfl⟩
        go_wp2
        go_roundw
        case rel => exact ⟨j + 1, by go_num, by omega, by omega, trivial⟩
        case measure => simp [intOf]; omega
      | false =>
        rw [hw] at hq
        have HW := Hid.mk7 hw
        clear hw
        have hne : ∀ h : i < s.size, wordB (s[i].toNat : Int) = true → i < j := fun h e => by
          rcases Nat.eq_or_lt_of_le h1 with rfl | h3
          · rw [HW.out] at e; cases e
          · exact h3
        have HN := Hid.mk7 hne
        clear hne HW
        generalize (s[j].toNat : Int) = c at hix hq
        go_wp2_with fail
        refine (hq _).mono ?_
        rintro e w' ⟨rfl, rfl⟩
        go_wp2
        go_ret
        exact ⟨⟨j, rfl, h1, h2, HN.out⟩, rfl⟩
    · have hge : ¬ (j : Int) < (s.size : Int) := by omega
      go_wp2
      go_ret
      exact ⟨⟨j, rfl, h1, h2, fun h _ => by omega⟩, rfl⟩
set_option maxRecDepth 100000 in
set_option maxHeartbeats 1600000 in
/-- The place behind blanks and comments. -/
theorem rf_skip (s : ByteArray) (hs : s.size ≤ 65536) (i : Nat) (hi : i ≤ s.size) (w : World) : Calls Tryz.prog 15 #[.string s, .int .i64 (i : Int)] w fun e w' => (∃ j : Nat, e = .returned (.int .i64 (j : Int)) ∧ i ≤ j ∧ j ≤ s.size) ∧ w = w' := by
  go_enter Tryz.func15, Tryz.ntmps15
  go_wp2_with fail
  go_loopw [1] (fun ii wr => ∃ j : Nat, ii = .int .i64 (j : Int) ∧ i ≤ j ∧ j ≤ s.size ∧ w = wr) (fun ii _ => s.size - (intOf ii).toNat)
  case atStart => exact ⟨i, rfl, Nat.le_refl _, hi, rfl⟩
  case round =>
    obtain ⟨j, rfl, h1, h2, rfl⟩ := hrel
    by_cases hlt : j < s.size
    · have hlti : (j : Int) < (s.size : Int) := by omega
      have hix := str_at s j hlt
      have hq := fun W => rf_blank (s[j].toNat : Int) W
      obtain ⟨c, hcE⟩ : ∃ c : Int, (s[j].toNat : Int) = c := ⟨_, rfl⟩
      rw [hcE] at hix hq
      have HC := Hid.mk7 hcE
      clear hcE
      by_cases hp : c = 37
      · subst hp
        have e37 : blankB 37 = false := by decide
        rw [e37] at hq
        go_wp2_with fail
        refine (hq _).mono ?_
        rintro e w' ⟨rfl, rfl⟩
        go_wp2_with fail
        clear hix hq
        go_loopw [1] (fun ii wr => ∃ k : Nat, ii = .int .i64 (k : Int) ∧ j ≤ k ∧ k ≤ s.size ∧ w = wr) (fun ii _ => s.size - (intOf ii).toNat)
        case atStart => exact ⟨j, rfl, Nat.le_refl _, h2, rfl⟩
        case round =>
          obtain ⟨k, rfl, h3, h4, rfl⟩ := hrel
          by_cases hlk : k < s.size
          · have hlki : (k : Int) < (s.size : Int) := by omega
            have hiy := str_at s k hlk
            by_cases h10 : (s[k].toNat : Int) = 10
            · have hjk : j < k := by
                rcases Nat.eq_or_lt_of_le h3 with rfl | h5
                · have h6 := HC.out
                  rw [h10] at h6
                  cases h6
                · exact h5
              rw [h10] at hiy
              clear h10
              go_wp2
              go_roundw
              case rel => exact ⟨k, rfl, by omega, h4, trivial⟩
              case measure => simp [intOf]; omega
            · generalize (s[k].toNat : Int) = d at hiy h10
              have h10b : (d == 10) = false := by simpa using h10
              go_wp2
              go_roundw
              case rel => exact ⟨k + 1, by go_num, by omega, by omega, trivial⟩
              case measure => simp [intOf]; omega
          · have hgek : ¬ (k : Int) < (s.size : Int) := by omega
            go_wp2
            go_roundw
            case rel => exact ⟨k, rfl, by omega, h4, trivial⟩
            case measure => simp [intOf]; omega
      · have hpb : (c == 37) = false := by simpa using hp
        cases hb : blankB c with
        | true =>
          rw [hb] at hq
          go_wp2_with fail
          refine (hq _).mono ?_
          rintro e w' ⟨rfl, rfl⟩
          go_wp2
          go_roundw
          case rel => exact ⟨j + 1, by go_num, by omega, by omega, trivial⟩
          case measure => simp [intOf]; omega
        | false =>
          rw [hb] at hq
          go_wp2_with fail
          refine (hq _).mono ?_
          rintro e w' ⟨rfl, rfl⟩
          go_wp2
          go_ret
          exact ⟨⟨j, rfl, h1, h2⟩, rfl⟩
    · have hge : ¬ (j : Int) < (s.size : Int) := by omega
      go_wp2
      go_ret
      exact ⟨⟨j, rfl, h1, h2⟩, rfl⟩
end Go.Proofs.YtlgkjjbefoeabaaGreatDoor
namespace Go.Proofs.YtlgkjjbefoeabaaGreatDoor
open Go.RowKit

/-- A chain of one fault. -/
def Lk1 (w : World) (v : Value) : Prop := ∃ lb ly a c, v = .slice (some ⟨lb, 0, none⟩) 1 1 ∧ w.cell? ⟨lb, 0, none⟩ = some (.string ly) ∧ w.cell? ⟨lb, 1, none⟩ = some (.int .i64 a) ∧ w.cell? ⟨lb, 2, none⟩ = some (.int .i64 c)
/-- A chain of faults, at least one. -/
def LkE (v : Value) : Prop := ∃ a n cap, v = .slice (some a) (n + 1) cap
theorem Lk1.e {w : World} {v : Value} (h : Lk1 w v) : LkE v := by
  obtain ⟨lb, _, _, _, rfl, _⟩ := h
  exact ⟨_, 0, _, rfl⟩
theorem Lk1.below {w w' : World} {v : Value} (h : Lk1 w v) (hb : Below w.heap.size w w') : Lk1 w' v := by
  obtain ⟨lb, ly, a, c, rfl, h1, h2, h3⟩ := h
  have hl : lb < w.heap.size := World.block_lt_of_cell? w _ h1
  exact ⟨lb, ly, a, c, rfl, (hb.cell (p := ⟨lb, 0, none⟩) hl).trans h1, (hb.cell (p := ⟨lb, 1, none⟩) hl).trans h2, (hb.cell (p := ⟨lb, 2, none⟩) hl).trans h3⟩
theorem rf_one (ly : ByteArray) (a c : Int) (w : World) : Calls Tryz.prog 32 #[.string ly, .int .i64 a, .int .i64 c] w fun e w' => e = .returned (.slice (some ⟨w.heap.size, 0, none⟩) 1 1) ∧ w' = w.alloc (.cells #[.string ly, .int .i64 a, .int .i64 c] 59) := by
  go_enter Tryz.func32, Tryz.ntmps32
  go_wp2
  go_ret
  exact ⟨rfl, rfl⟩
theorem Lk1.new (w : World) (ly : ByteArray) (a c : Int) : Lk1 (w.alloc (.cells #[.string ly, .int .i64 a, .int .i64 c] 59)) (.slice (some ⟨w.heap.size, 0, none⟩) 1 1) := ⟨_, ly, a, c, rfl, by simp, by simp, by simp⟩
theorem rf_no10 (a c : Int) (w : World) : Calls Tryz.prog 14 #[.int .i64 a, .int .i64 c] w fun e w' => ∃ v, e = .returned v ∧ Lk1 w' v ∧ Below w.heap.size w w' := by
  have h := rf_one ⟨#[108, 101, 120]⟩ a c w
  go_enter Tryz.func14, Tryz.ntmps14
  go_wp2_with fail
  refine h.mono ?_
  rintro e w1 ⟨rfl, rfl⟩
  go_wp2
  go_ret
  exact ⟨_, rfl, Lk1.new w _ a c, (Below.refl _ _).alloc (Nat.le_refl _) _⟩
theorem rf_no01 (a c : Int) (w : World) : Calls Tryz.prog 67 #[.int .i64 a, .int .i64 c] w fun e w' => ∃ v, e = .returned v ∧ Lk1 w' v ∧ Below w.heap.size w w' := by
  have h := rf_one ⟨#[97, 116, 111, 109]⟩ a c w
  go_enter Tryz.func67, Tryz.ntmps67
  go_wp2_with fail
  refine h.mono ?_
  rintro e w1 ⟨rfl, rfl⟩
  go_wp2
  go_ret
  exact ⟨_, rfl, Lk1.new w _ a c, (Below.refl _ _).alloc (Nat.le_refl _) _⟩
theorem Tryz.linkTypes : ElTypes Tryz.prog 24 59 3 32 (.agg #[.string ⟨#[]⟩, .int .i64 0, .int .i64 0]) := by
  refine ⟨Tryz.underlying24, ?_, by simp [Value.cells]⟩
  have h : (Tryz.prog.info? 59).map (fun i => (i.zero, i.size, i.bytes)) = some (some (.agg #[.string ⟨#[]⟩, .int .i64 0, .int .i64 0]), 3, 32) := by kernel_rfl
  obtain ⟨i, hi, h0, h1, h2⟩ := info_parts h
  exact ⟨i, hi, h0, h1, h2⟩
theorem SlK.link {w : World} {lb : Nat} {ly : ByteArray} {a c : Int} (h1 : w.cell? ⟨lb, 0, none⟩ = some (.string ly)) (h2 : w.cell? ⟨lb, 1, none⟩ = some (.int .i64 a)) (h3 : w.cell? ⟨lb, 2, none⟩ = some (.int .i64 c)) : SlK 3 w (.slice (some ⟨lb, 0, none⟩) 1 1) 1 [.string ly, .int .i64 a, .int .i64 c] := by
  refine ⟨rfl, .inr ⟨lb, 0, 1, rfl, Nat.le_refl _, by decide, fun j hj => ?_⟩⟩
  have hj1 : j < 3 := hj
  match j, hj1 with
  | 0, _ => simpa using h1
  | 1, _ => simpa using h2
  | 2, _ => simpa using h3
set_option maxRecDepth 100000 in
set_option maxHeartbeats 1600000 in
theorem rf_over (ly : ByteArray) (a c : Int) {l : Value} (w : World) (hl : Lk1 w l) : Calls Tryz.prog 38 #[.string ly, .int .i64 a, .int .i64 c, l] w fun e w' => ∃ v, e = .returned v ∧ LkE v ∧ Below w.heap.size w w' := by
  obtain ⟨lb, ly2, a2, c2, rfl, h1, h2, h3⟩ := hl
  have hlb : lb < w.heap.size := World.block_lt_of_cell? w _ h1
  have HB := Hid.mk7 (fun o => Below.alloc0 w o)
  have HL := Hid.mk7 (SlK.link h1 h2 h3)
  have HX := Hid.mk7 (fun o => SlK.link (w := w.alloc (.cells #[.string ly, .int .i64 a, .int .i64 c] o)) (lb := w.heap.size) (ly := ly) (a := a) (c := c) (by simp) (by simp) (by simp))
  have one3 : ∀ (x : ByteArray) (p q : Int), ∀ u ∈ [Value.string x, .int .i64 p, .int .i64 q], u.oneCell' = true := fun x p q u hu => by
    simp only [List.mem_cons, List.not_mem_nil, or_false] at hu
    rcases hu with rfl | rfl | rfl <;> rfl
  have HO := Hid.mk7 one3
  clear h1 h2 h3 one3
  go_enter Tryz.func38, Tryz.ntmps38
  go_wp2_with (at_builtin; first
    | (refine wpList_append_k (by rfl) (.tmp 10) (.tmp 15) (by rfl) Tryz.linkTypes (by rfl) (by rfl) (OwnK.nil 3 _) (HX.out _) (HO.out _ _ _) (by decide) (by decide) ?_; intro V1 w1 ho1 ht1 hv1; have HV1 := Hid.mk7 (And.intro ho1 (And.intro ht1 hv1)); obtain ⟨aV1, cV1, hV1, _, _⟩ := ho1.sl.form; subst hV1; clear ho1 ht1 hv1)
    | (refine wpList_append_k (by rfl) (.tmp 17) (.tmp 18) (by rfl) Tryz.linkTypes (by rfl) (by rfl) HV1.out.1 ((HL.out.turned (Turned.alloc (fun _ => False) _ _) (fun _ _ e => e)).turned HV1.out.2.1 (fun k hk e => e.elim)) (HO.out _ _ _) (by decide) (by decide) ?_; intro V2 w2 ho2 ht2 hv2; have HV2 := Hid.mk7 (And.intro ho2 (And.intro ht2 hv2)); obtain ⟨aV2, cV2, hV2, _, _⟩ := ho2.sl.form; subst hV2; clear ho2 ht2 hv2))
  go_ret
  obtain ⟨ho1, ht1, hv1⟩ := HV1.out
  obtain ⟨ho2, ht2, _⟩ := HV2.out
  have hb1 := (HB.out (.cells #[.string ly, .int .i64 a, .int .i64 c] 59)).trans (ht1.below (B := w.heap.size) (by simp) (fun k e => e.elim))
  have hb2 := hb1.trans (ht2.below (B := w.heap.size) hb1.size (fun k e => (hv1 k e).elim (fun e => e.elim) (fun e => by simp at e; omega)))
  obtain ⟨b, off, cap, hV, _⟩ := ho2.sl.at 0 (by decide)
  refine ⟨_, rfl, ?_, hb2⟩
  simp only [Value.slice.injEq] at hV
  rw [hV.1]
  exact ⟨_, 1, _, rfl⟩
set_option maxRecDepth 100000 in
set_option maxHeartbeats 1600000 in
/-- How many bytes a code point has. -/
theorem rf_point (s : ByteArray) (hs : s.size ≤ 65536) (i : Nat) (hi : i < s.size) (w : World) : Calls Tryz.prog 88 #[.string s, .int .i64 (i : Int)] w fun e w' => (∃ n : Nat, e = .returned (.int .i64 (n : Int)) ∧ n ≤ 4) ∧ w = w' := by
  have hix := str_at s i hi
  have hc0 : 0 ≤ (s[i].toNat : Int) ∧ (s[i].toNat : Int) < 256 := by have := s[i].toNat_lt; omega
  generalize (s[i].toNat : Int) = c at hix hc0
  by_cases h1 : c < 128
  · go_enter Tryz.func88, Tryz.ntmps88
    go_wp2
    go_ret
    exact ⟨⟨1, rfl, by decide⟩, rfl⟩
  · by_cases h2 : 194 ≤ c ∧ c ≤ 223
    · obtain ⟨h2a, h2b⟩ := h2
      by_cases hfit : (s.size : Int) < (i : Int) + 2
      · go_enter Tryz.func88, Tryz.ntmps88
        go_wp2
        go_ret
        exact ⟨⟨0, rfl, by decide⟩, rfl⟩
      · go_enter Tryz.func88, Tryz.ntmps88
        go_wp2_with fail
        go_loopw [7, 8] (fun vv kk wr => ∃ (z : Int) (k : Nat), vv = .int .i64 z ∧ kk = .int .i64 (k : Int) ∧ 1 ≤ k ∧ k ≤ 2 ∧ w = wr) (fun _ kk _ => 2 - (intOf kk).toNat)
        case atStart => exact ⟨_, 1, rfl, rfl, by omega, by omega, rfl⟩
        case round =>
          obtain ⟨z, k, rfl, rfl, hk1, hk2, rfl⟩ := hrel
          by_cases hk : k < 2
          · have hki : (k : Int) < 2 := by omega
            have hiy := str_at s (i + k) (by omega)
            rw [show ((i + k : Nat) : Int) = (i : Int) + (k : Int) by omega] at hiy
            generalize ((s[i + k]'(by omega)).toNat : Int) = d at hiy
            go_wp2
            all_goals first
              | (go_ret; exact ⟨⟨0, rfl, by decide⟩, rfl⟩)
              | (go_roundw
                 case rel => exact ⟨_, k + 1, rfl, by go_num, by omega, by omega, trivial⟩
                 case measure => simp [intOf]; omega)
          · have hki : ¬ (k : Int) < 2 := by omega
            go_wp2
            all_goals go_ret
            all_goals first | exact ⟨⟨0, rfl, by decide⟩, rfl⟩ | exact ⟨⟨2, rfl, by decide⟩, rfl⟩
    · by_cases h3 : 224 ≤ c ∧ c ≤ 239
      · obtain ⟨h3a, h3b⟩ := h3
        have h2c : ¬ c ≤ 223 := by omega
        have h2d : 194 ≤ c := by omega
        clear h2
        by_cases hfit : (s.size : Int) < (i : Int) + 3
        · go_enter Tryz.func88, Tryz.ntmps88
          go_wp2
          go_ret
          exact ⟨⟨0, rfl, by decide⟩, rfl⟩
        · go_enter Tryz.func88, Tryz.ntmps88
          go_wp2_with fail
          go_loopw [7, 8] (fun vv kk wr => ∃ (z : Int) (k : Nat), vv = .int .i64 z ∧ kk = .int .i64 (k : Int) ∧ 1 ≤ k ∧ k ≤ 3 ∧ w = wr) (fun _ kk _ => 3 - (intOf kk).toNat)
          case atStart => exact ⟨_, 1, rfl, rfl, by omega, by omega, rfl⟩
          case round =>
            obtain ⟨z, k, rfl, rfl, hk1, hk2, rfl⟩ := hrel
            by_cases hk : k < 3
            · have hki : (k : Int) < 3 := by omega
              have hiy := str_at s (i + k) (by omega)
              rw [show ((i + k : Nat) : Int) = (i : Int) + (k : Int) by omega] at hiy
              generalize ((s[i + k]'(by omega)).toNat : Int) = d at hiy
              go_wp2
              all_goals first
                | (go_ret; exact ⟨⟨0, rfl, by decide⟩, rfl⟩)
                | (go_roundw
                   case rel => exact ⟨_, k + 1, rfl, by go_num, by omega, by omega, trivial⟩
                   case measure => simp [intOf]; omega)
            · have hki : ¬ (k : Int) < 3 := by omega
              go_wp2
              all_goals go_ret
              all_goals first | exact ⟨⟨0, rfl, by decide⟩, rfl⟩ | exact ⟨⟨3, rfl, by decide⟩, rfl⟩
      · by_cases h4 : 240 ≤ c ∧ c ≤ 244
        · obtain ⟨h4a, h4b⟩ := h4
          have h2c : ¬ c ≤ 223 := by omega
          have h2d : 194 ≤ c := by omega
          have h3c : ¬ c ≤ 239 := by omega
          have h3d : 224 ≤ c := by omega
          clear h2 h3
          by_cases hfit : (s.size : Int) < (i : Int) + 4
          · go_enter Tryz.func88, Tryz.ntmps88
            go_wp2
            go_ret
            exact ⟨⟨0, rfl, by decide⟩, rfl⟩
          · go_enter Tryz.func88, Tryz.ntmps88
            go_wp2_with fail
            go_loopw [7, 8] (fun vv kk wr => ∃ (z : Int) (k : Nat), vv = .int .i64 z ∧ kk = .int .i64 (k : Int) ∧ 1 ≤ k ∧ k ≤ 4 ∧ w = wr) (fun _ kk _ => 4 - (intOf kk).toNat)
            case atStart => exact ⟨_, 1, rfl, rfl, by omega, by omega, rfl⟩
            case round =>
              obtain ⟨z, k, rfl, rfl, hk1, hk2, rfl⟩ := hrel
              by_cases hk : k < 4
              · have hki : (k : Int) < 4 := by omega
                have hiy := str_at s (i + k) (by omega)
                rw [show ((i + k : Nat) : Int) = (i : Int) + (k : Int) by omega] at hiy
                generalize ((s[i + k]'(by omega)).toNat : Int) = d at hiy
                go_wp2
                all_goals first
                  | (go_ret; exact ⟨⟨0, rfl, by decide⟩, rfl⟩)
                  | (go_roundw
                     case rel => exact ⟨_, k + 1, rfl, by go_num, by omega, by omega, trivial⟩
                     case measure => simp [intOf]; omega)
              · have hki : ¬ (k : Int) < 4 := by omega
                go_wp2
                all_goals go_ret
                all_goals first | exact ⟨⟨0, rfl, by decide⟩, rfl⟩ | exact ⟨⟨4, rfl, by decide⟩, rfl⟩
        · go_enter Tryz.func88, Tryz.ntmps88
          go_wp2
          all_goals first | (exfalso; omega) | (go_ret; exact ⟨⟨0, rfl, by decide⟩, rfl⟩)
set_option maxRecDepth 100000 in
theorem rf_UTF (s : ByteArray) (hs : s.size ≤ 65536) (w : World) : Calls Tryz.prog 72 #[.string s] w fun e w' => (∃ z : Int, e = .returned (.int .i64 z)) ∧ w = w' := by
  go_enter Tryz.func72, Tryz.ntmps72
  go_wp2_with fail
  go_loopw [3] (fun ii wr => ∃ j : Nat, ii = .int .i64 (j : Int) ∧ j ≤ s.size + 4 ∧ w = wr) (fun ii _ => s.size - (intOf ii).toNat)
  case atStart => exact ⟨0, rfl, by omega, rfl⟩
  case round =>
    obtain ⟨j, rfl, h1, rfl⟩ := hrel
    by_cases hlt : j < s.size
    · have hlti : (j : Int) < (s.size : Int) := by omega
      have hp := fun W => rf_point s hs j hlt W
      go_wp2_with fail
      refine (hp _).mono ?_
      rintro e w' ⟨⟨n, rfl, hn⟩, rfl⟩
      by_cases h0 : n = 0
      · subst h0
        go_wp2
        go_ret
        exact ⟨⟨_, rfl⟩, rfl⟩
      · have h0b : ((n : Int) == 0) = false := by simp; omega
        clear hp
        go_wp2
        go_roundw
        case rel => exact ⟨j + n, by go_num, by omega, trivial⟩
        case measure => simp [intOf]; omega
    · have hge : ¬ (j : Int) < (s.size : Int) := by omega
      go_wp2
      go_ret
      exact ⟨⟨_, rfl⟩, rfl⟩
end Go.Proofs.YtlgkjjbefoeabaaGreatDoor
namespace Go.Proofs.YtlgkjjbefoeabaaGreatDoor
open Go.RowKit

def hexZ (c : Int) : Int := if 48 ≤ c ∧ c ≤ 57 then c - 48 else if 97 ≤ c ∧ c ≤ 102 then c - 97 + 10 else if 65 ≤ c ∧ c ≤ 70 then c - 65 + 10 else -1
def valZ (c : Int) : Int := if 48 ≤ c ∧ c ≤ 57 then c - 48 else if 97 ≤ c ∧ c ≤ 122 then c - 97 + 10 else if 65 ≤ c ∧ c ≤ 90 then c - 65 + 10 else 99
set_option maxRecDepth 100000 in
theorem rf_hexZ (c : Int) (h0 : 0 ≤ c) (h1 : c < 256) (w : World) : Calls Tryz.prog 103 #[.int .u8 c] w fun e w' => e = .returned (.int .i64 (hexZ c)) ∧ w = w' := by
  obtain ⟨z, hz⟩ : ∃ z, hexZ c = z := ⟨_, rfl⟩
  rw [hz]
  have HZ := Hid.mk7 hz
  clear hz
  go_enter Tryz.func103, Tryz.ntmps103
  go_wp2
  all_goals go_ret
  all_goals
    refine ⟨congrArg Ending.returned (congrArg (Value.int .i64) ?_), rfl⟩
    rw [← HZ.out]
    unfold hexZ
    repeat' split
  all_goals first | omega | (simp at *; omega)
set_option maxRecDepth 100000 in
theorem rf_valZ (c : Int) (h0 : 0 ≤ c) (h1 : c < 256) (w : World) : Calls Tryz.prog 70 #[.int .u8 c] w fun e w' => e = .returned (.int .i64 (valZ c)) ∧ w = w' := by
  obtain ⟨z, hz⟩ : ∃ z, valZ c = z := ⟨_, rfl⟩
  rw [hz]
  have HZ := Hid.mk7 hz
  clear hz
  have hs := rf_digit c w
  cases h : digB c
  all_goals
    rw [h] at hs
    have hd := h
    unfold digB at hd
    have HD := Hid.mk7 hd
    clear h hd
    go_enter Tryz.func70, Tryz.ntmps70
    go_wp2_with (go_at_call 40; refine hs.mono ?_; rintro e w' ⟨rfl, rfl⟩)
    all_goals go_ret
    all_goals
      refine ⟨congrArg Ending.returned (congrArg (Value.int .i64) ?_), rfl⟩
      have hd := HD.out
      simp at hd
      rw [← HZ.out]
      unfold valZ
      repeat' split
  all_goals first | omega | (simp at *; omega)
end Go.Proofs.YtlgkjjbefoeabaaGreatDoor
namespace Go.Proofs.YtlgkjjbefoeabaaGreatDoor
open Go.RowKit

theorem str_cut (s : ByteArray) (a b : Nat) (h : a ≤ b) (hb : b ≤ s.size) (W : World) : (Instr.slice 9 (.string s) (some (.int .i64 (a : Int))) (some (.int .i64 (b : Int))) none).run Tryz.prog W = .ok (.string (s.extract a b)) W := by
  rw [run_slice_string W 9 s .i64 .i64 (a : Int) (b : Int) Tryz.underlying9 (by omega) (by omega) (by omega)]
  simp
theorem str_byte (s : ByteArray) (j : Nat) (h : j < s.size) : 0 ≤ (s[j].toNat : Int) ∧ (s[j].toNat : Int) < 256 := by
  have := s[j].toNat_lt
  omega
set_option maxRecDepth 100000 in
set_option maxHeartbeats 1600000 in
theorem rf_escape (s : ByteArray) (hs : s.size ≤ 65536) (i : Nat) (hi0 : i ≤ s.size) (w : World) : Calls Tryz.prog 87 #[.string s, .int .i64 (i : Int)] w fun e w' => (∃ (b : Int) (n : Nat), e = .returned (.tuple #[.int .u8 b, .int .i64 (n : Int)]) ∧ n ≤ 3) ∧ Below w.heap.size w w' := by
  by_cases hi : i < s.size
  · have hii : ¬ (s.size : Int) ≤ (i : Int) := by omega
    have hix := str_at s i hi
    generalize (s[i].toNat : Int) = c at hix
    by_cases h39 : c = 39
    · subst h39
      go_enter Tryz.func87, Tryz.ntmps87
      go_wp2
      all_goals go_ret2
      all_goals exact ⟨⟨_, 1, rfl, by decide⟩, Below.refl _ _⟩
    · have e39 : (c == 39) = false := by simpa using h39
      by_cases h92 : c = 92
      · subst h92
        go_enter Tryz.func87, Tryz.ntmps87
        go_wp2
        all_goals go_ret2
        all_goals exact ⟨⟨_, 1, rfl, by decide⟩, Below.refl _ _⟩
      · have e92 : (c == 92) = false := by simpa using h92
        by_cases h110 : c = 110
        · subst h110
          go_enter Tryz.func87, Tryz.ntmps87
          go_wp2
          all_goals go_ret2
          all_goals exact ⟨⟨_, 1, rfl, by decide⟩, Below.refl _ _⟩
        · have e110 : (c == 110) = false := by simpa using h110
          by_cases h116 : c = 116
          · subst h116
            go_enter Tryz.func87, Tryz.ntmps87
            go_wp2
            all_goals go_ret2
            all_goals exact ⟨⟨_, 1, rfl, by decide⟩, Below.refl _ _⟩
          · have e116 : (c == 116) = false := by simpa using h116
            by_cases h114 : c = 114
            · subst h114
              go_enter Tryz.func87, Tryz.ntmps87
              go_wp2
              all_goals go_ret2
              all_goals exact ⟨⟨_, 1, rfl, by decide⟩, Below.refl _ _⟩
            · have e114 : (c == 114) = false := by simpa using h114
              by_cases h120 : c = 120
              · subst h120
                by_cases h2 : i + 2 < s.size
                · have h2i : (i : Int) + 2 < (s.size : Int) := by omega
                  have hx1 := str_at s (i + 1) (by omega)
                  have hx2 := str_at s (i + 2) h2
                  obtain ⟨b1, b2⟩ := str_byte s (i + 1) (by omega)
                  obtain ⟨b3, b4⟩ := str_byte s (i + 2) h2
                  rw [show ((i + 1 : Nat) : Int) = (i : Int) + 1 by omega] at hx1
                  rw [show ((i + 2 : Nat) : Int) = (i : Int) + 2 by omega] at hx2
                  have hq1 := fun W => rf_hexZ _ b1 b2 W
                  have hq2 := fun W => rf_hexZ _ b3 b4 W
                  generalize ((s[i + 1]'(by omega)).toNat : Int) = d1 at hx1 hq1 b1 b2
                  generalize ((s[i + 2]'h2).toNat : Int) = d2 at hx2 hq2 b3 b4
                  generalize hexZ d1 = z1 at hq1
                  generalize hexZ d2 = z2 at hq2
                  clear b1 b2 b3 b4
                  by_cases hz1 : 0 ≤ z1
                  · by_cases hz2 : 0 ≤ z2
                    · go_enter Tryz.func87, Tryz.ntmps87; go_wp2_with fail
                      refine (hq1 _).mono ?_
                      rintro e w' ⟨rfl, rfl⟩
                      go_wp2_with fail
                      refine (hq2 _).mono ?_
                      rintro e w' ⟨rfl, rfl⟩
                      go_wp2_with fail
                      go_quiet (first | (go_at_call_of 103 d1; exact Calls.quiet_of_same ((hq1 _).mono fun _ _ h => ⟨h.1, h.2.symm⟩)) | (go_at_call_of 103 d2; exact Calls.quiet_of_same ((hq2 _).mono fun _ _ h => ⟨h.1, h.2.symm⟩)))
                      go_wp2
                      go_ret2
                      exact ⟨⟨_, 3, rfl, by decide⟩, drewN_below w _⟩
                    · have hz2b : ¬ 0 ≤ z2 := hz2
                      go_enter Tryz.func87, Tryz.ntmps87; go_wp2_with fail
                      refine (hq1 _).mono ?_
                      rintro e w' ⟨rfl, rfl⟩
                      go_wp2_with fail
                      refine (hq2 _).mono ?_
                      rintro e w' ⟨rfl, rfl⟩
                      go_wp2
                      go_ret2
                      exact ⟨⟨_, 0, rfl, by decide⟩, Below.refl _ _⟩
                  · go_enter Tryz.func87, Tryz.ntmps87; go_wp2_with fail
                    refine (hq1 _).mono ?_
                    rintro e w' ⟨rfl, rfl⟩
                    go_wp2
                    go_ret2
                    exact ⟨⟨_, 0, rfl, by decide⟩, Below.refl _ _⟩
                · have h2i : ¬ (i : Int) + 2 < (s.size : Int) := by omega
                  go_enter Tryz.func87, Tryz.ntmps87; go_wp2
                  go_ret2
                  exact ⟨⟨_, 0, rfl, by decide⟩, Below.refl _ _⟩
              · have e120 : (c == 120) = false := by simpa using h120
                go_enter Tryz.func87, Tryz.ntmps87; go_wp2
                all_goals go_ret2
                all_goals exact ⟨⟨_, 0, rfl, by decide⟩, Below.refl _ _⟩
  · have hii : (s.size : Int) ≤ (i : Int) := by omega
    go_enter Tryz.func87, Tryz.ntmps87
    go_wp2
    go_ret2
    exact ⟨⟨_, 0, rfl, by decide⟩, Below.refl _ _⟩
/-- Some truth value. -/
def BoolTold (e : Ending) : Prop := ∃ b : Bool, e = .returned (.bool b)
def RSV : Array Value := #[.string ⟨#[97, 102, 116, 101, 114]⟩, .string ⟨#[97, 110, 100]⟩, .string ⟨#[97, 110, 100, 97, 108, 115, 111]⟩, .string ⟨#[98, 101, 103, 105, 110]⟩, .string ⟨#[99, 97, 115, 101]⟩, .string ⟨#[99, 97, 116, 99, 104]⟩, .string ⟨#[100, 105, 118]⟩, .string ⟨#[101, 110, 100]⟩, .string ⟨#[102, 117, 110]⟩, .string ⟨#[105, 102]⟩, .string ⟨#[110, 111, 116]⟩, .string ⟨#[111, 102]⟩, .string ⟨#[111, 114]⟩, .string ⟨#[111, 114, 101, 108, 115, 101]⟩, .string ⟨#[114, 101, 99, 101, 105, 118, 101]⟩, .string ⟨#[114, 101, 109]⟩, .string ⟨#[116, 114, 121]⟩, .string ⟨#[119, 104, 101, 110]⟩, .string ⟨#[120, 111, 114]⟩]
theorem RSV_get : ∀ j, j < 19 → ∃ x : ByteArray, RSV[j]? = some (.string x)
  | 0, _ => ⟨_, rfl⟩
  | 1, _ => ⟨_, rfl⟩
  | 2, _ => ⟨_, rfl⟩
  | 3, _ => ⟨_, rfl⟩
  | 4, _ => ⟨_, rfl⟩
  | 5, _ => ⟨_, rfl⟩
  | 6, _ => ⟨_, rfl⟩
  | 7, _ => ⟨_, rfl⟩
  | 8, _ => ⟨_, rfl⟩
  | 9, _ => ⟨_, rfl⟩
  | 10, _ => ⟨_, rfl⟩
  | 11, _ => ⟨_, rfl⟩
  | 12, _ => ⟨_, rfl⟩
  | 13, _ => ⟨_, rfl⟩
  | 14, _ => ⟨_, rfl⟩
  | 15, _ => ⟨_, rfl⟩
  | 16, _ => ⟨_, rfl⟩
  | 17, _ => ⟨_, rfl⟩
  | 18, _ => ⟨_, rfl⟩
  | j + 19, h => by omega
set_option maxRecDepth 100000 in
set_option maxHeartbeats 1600000 in
theorem rf_reserved (s : ByteArray) (w : World) : Calls Tryz.prog 36 #[.string s] w fun e w' => BoolTold e ∧ Below w.heap.size w w' := by
  have hw : ∀ j (v : Value), RSV[j]? = some v → (w.alloc (.cells #[.string ⟨#[97, 102, 116, 101, 114]⟩, .string ⟨#[97, 110, 100]⟩, .string ⟨#[97, 110, 100, 97, 108, 115, 111]⟩, .string ⟨#[98, 101, 103, 105, 110]⟩, .string ⟨#[99, 97, 115, 101]⟩, .string ⟨#[99, 97, 116, 99, 104]⟩, .string ⟨#[100, 105, 118]⟩, .string ⟨#[101, 110, 100]⟩, .string ⟨#[102, 117, 110]⟩, .string ⟨#[105, 102]⟩, .string ⟨#[110, 111, 116]⟩, .string ⟨#[111, 102]⟩, .string ⟨#[111, 114]⟩, .string ⟨#[111, 114, 101, 108, 115, 101]⟩, .string ⟨#[114, 101, 99, 101, 105, 118, 101]⟩, .string ⟨#[114, 101, 109]⟩, .string ⟨#[116, 114, 121]⟩, .string ⟨#[119, 104, 101, 110]⟩, .string ⟨#[120, 111, 114]⟩] 9)).cell? ⟨w.heap.size, j, none⟩ = some v := fun j v hv => by
    rw [World.cell?_alloc_at _ _ _ _ rfl]
    exact hv
  have HW := Hid.mk7 hw
  have HB := Hid.mk7 (Below.alloc0 w (.cells #[.string ⟨#[97, 102, 116, 101, 114]⟩, .string ⟨#[97, 110, 100]⟩, .string ⟨#[97, 110, 100, 97, 108, 115, 111]⟩, .string ⟨#[98, 101, 103, 105, 110]⟩, .string ⟨#[99, 97, 115, 101]⟩, .string ⟨#[99, 97, 116, 99, 104]⟩, .string ⟨#[100, 105, 118]⟩, .string ⟨#[101, 110, 100]⟩, .string ⟨#[102, 117, 110]⟩, .string ⟨#[105, 102]⟩, .string ⟨#[110, 111, 116]⟩, .string ⟨#[111, 102]⟩, .string ⟨#[111, 114]⟩, .string ⟨#[111, 114, 101, 108, 115, 101]⟩, .string ⟨#[114, 101, 99, 101, 105, 118, 101]⟩, .string ⟨#[114, 101, 109]⟩, .string ⟨#[116, 114, 121]⟩, .string ⟨#[119, 104, 101, 110]⟩, .string ⟨#[120, 111, 114]⟩] 9))
  clear hw
  go_enter Tryz.func36, Tryz.ntmps36
  go_wp2_with fail
  generalize w.alloc _ = w1 at HW HB ⊢
  go_loopw [4] (fun ii wr => ∃ j : Nat, ii = .int .i64 (j : Int) ∧ j ≤ 19 ∧ w1 = wr) (fun ii _ => 19 - (intOf ii).toNat)
  case atStart => exact ⟨0, rfl, by omega, rfl⟩
  case round =>
    obtain ⟨j, rfl, h1, rfl⟩ := hrel
    by_cases hlt : j < 19
    · have hlti : (j : Int) < 19 := by omega
      obtain ⟨x, hx⟩ := RSV_get j hlt
      have hc := HW.out j _ hx
      clear hx
      by_cases he : x = s
      · subst he
        go_wp2
        go_ret
        exact ⟨⟨_, rfl⟩, HB.out⟩
      · have heb : (x.toList == s.toList) = false := by simpa using bytes_ne he
        go_wp2
        go_roundw
        case rel => exact ⟨j + 1, by go_num, by omega, trivial⟩
        case measure => simp [intOf]; omega
    · have hge : ¬ (j : Int) < 19 := by omega
      go_wp2
      go_ret
      exact ⟨⟨_, rfl⟩, HB.out⟩
end Go.Proofs.YtlgkjjbefoeabaaGreatDoor
namespace Go.Proofs.YtlgkjjbefoeabaaGreatDoor
open Go.RowKit

theorem Tryz.byteTypes : ByteTypes Tryz.prog 143 5 := by
  refine ⟨Tryz.underlying143, ?_⟩
  have h : (Tryz.prog.info? 5).map (fun i => (i.zero, i.size, i.bytes)) = some (some (.int .u8 0), 1, 1) := by kernel_rfl
  obtain ⟨i, hi, h0, h1, h2⟩ := info_parts h
  exact ⟨i, hi, h0, h1, h2⟩
theorem Sl.byte1 (w : World) (t : TypeId) (x : Int) : Sl (w.alloc (.cells #[.int .u8 x] t)) (.slice (some ⟨w.heap.size, 0, none⟩) 1 1) [x] := by
  refine .inr (.inr ⟨w.heap.size, 0, 1, rfl, Nat.le_refl _, by decide, fun j hj => ?_⟩)
  have hj1 : j < 1 := hj
  match j, hj1 with
  | 0, _ => simp
theorem Sl.text {w : World} {v : Value} {zs : List Int} (h : Sl w v zs) : (convert 143 9 v).run Tryz.prog w = .ok (.string (strOfNums zs)) w := by
  rcases h with ⟨rfl, rfl⟩ | ⟨a, rfl, rfl⟩ | ⟨g, off, cap, rfl, _, _, h4⟩
  · exact run_convert_bytes_nil w _ _ Tryz.underlying143 Tryz.underlying5 0 0 _ Tryz.underlying9
  · rw [run_convert_bytes_string w _ _ _ _ _ _ Tryz.underlying143 Tryz.underlying5 Tryz.underlying9]
    have hl : (loadCells a 0).run Tryz.prog w = .ok #[] w := by simpa using run_loadCells_list (P := Tryz.prog) w a [] (fun j v hj => by simp at hj)
    simp [Conv.bytesToString, strOfNums, hl]
    rfl
  · exact run_convert_bytes_arg w _ _ Tryz.underlying143 Tryz.underlying5 g off zs.length cap zs rfl (fun i hi => by rw [h4 i hi]; simp [List.getD, List.getElem?_eq_getElem hi]) _ Tryz.underlying9
/-- An atom's text and the place behind it, or a refusal. -/
def AtomTold (s : ByteArray) (from_ : Nat) (w : World) (e : Ending) (w' : World) : Prop :=
  (∃ v, e = .returned (.tuple #[.string ⟨#[]⟩, .int .i64 0, v]) ∧ Lk1 w' v ∧ Below w.heap.size w w') ∨ ∃ (x : ByteArray) (j : Nat), e = .returned (.tuple #[.string x, .int .i64 (j : Int), .slice none 0 0]) ∧ from_ < j ∧ j ≤ s.size ∧ Below w.heap.size w w'
/-- The state of the loop over what is quoted. -/
structure QuI (s : ByteArray) (f : Nat) (w wr : World) (bv : Value) (j : Nat) (zs : List Int) : Prop where
  lo : f < j
  hi : j ≤ s.size + 4
  own : Own wr bv zs
  len : zs.length ≤ j
  bl : Below w.heap.size w wr
  new : ∀ k, blk bv k → w.heap.size ≤ k
theorem QuI.more {s : ByteArray} {f : Nat} {w wr w2 : World} {bv V2 : Value} {j i : Nat} {zs : List Int} {c : Int} {o : Obj} (h : QuI s f w wr bv j zs) (hi : j < i) (hi2 : i ≤ s.size + 4) (ho : Own w2 V2 (zs ++ [c])) (ht : Turned (blk bv) (wr.alloc o) w2) (hv : ∀ k, blk V2 k → blk bv k ∨ k = (wr.alloc o).heap.size) : QuI s f w w2 V2 i (zs ++ [c]) := by
  have hz := h.bl.size
  have b1 := h.bl.trans ((Below.alloc0 wr o).mono hz)
  refine ⟨by have := h.lo; omega, hi2, ho, by have := h.len; simp; omega, b1.trans (ht.below b1.size h.new), fun k hk => (hv k hk).elim (h.new k) (fun e => by simp at e; omega)⟩
set_option maxRecDepth 100000 in
set_option maxHeartbeats 3200000 in
theorem rf_quoted (s : ByteArray) (hs : s.size ≤ 65536) (f : Nat) (hf : f < s.size) (w : World) : Calls Tryz.prog 68 #[.string s, .int .i64 (f : Int)] w (AtomTold s f w) := by
  go_enter Tryz.func68, Tryz.ntmps68
  go_wp2_with fail
  go_loopw [7, 8] (fun bv ii wr => ∃ (j : Nat) (zs : List Int), ii = .int .i64 (j : Int) ∧ QuI s f w wr bv j zs) (fun _ ii _ => s.size - (intOf ii).toNat)
  case atStart => exact ⟨f + 1, [], by go_num, ⟨by omega, by omega, .inl ⟨rfl, rfl⟩, by simp, Below.refl _ _, fun _ e => e.elim⟩⟩
  case round =>
    obtain ⟨j, zs, rfl, hQ⟩ := hrel
    obtain ⟨aV, cV, hV, _, _⟩ := hQ.own.sl.form
    subst hV
    have HQ := Hid.mk7 hQ
    have hj4 := hQ.hi
    have hzl := hQ.len
    clear hQ
    by_cases hlt : j < s.size
    · have hlti : (j : Int) < (s.size : Int) := by omega
      have hix := str_at s j hlt
      generalize (s[j].toNat : Int) = c at hix
      by_cases h39 : c = 39
      · subst h39
        have hge : ¬ (s.size : Int) ≤ (j : Int) := by omega
        by_cases h255 : (255 : Int) < (zs.length : Int)
        · have hR := rf_no01 ((f : Int)) 4 wr
          go_wp2_with fail
          refine hR.mono ?_
          rintro e w2 ⟨v, rfl, hv, hb2⟩
          have HV := Hid.mk7 (And.intro hv (HQ.out.bl.trans (hb2.mono HQ.out.bl.size)))
          obtain ⟨lb, ly, la, lc, hve, _⟩ := hv
          subst hve
          clear hR hb2
          go_wp2
          go_ret3
          exact .inl ⟨_, rfl, HV.out⟩
        · have hcv : (convert 143 9 (.slice aV zs.length cV)).run Tryz.prog wr = .ok (.string (strOfNums zs)) wr := Sl.text HQ.out.own.sl
          have hU := rf_UTF (strOfNums zs) (by rw [strOfNums_size]; omega) wr
          generalize strOfNums zs = x at hcv hU
          go_wp2_with fail
          refine hU.mono ?_
          rintro e w' ⟨⟨z, rfl⟩, rfl⟩
          by_cases hz : 0 ≤ z
          · have hR := rf_no01 ((f : Int)) 23 wr
            go_wp2_with fail
            refine hR.mono ?_
            rintro e w2 ⟨v, rfl, hv, hb2⟩
            have HV := Hid.mk7 (And.intro hv (HQ.out.bl.trans (hb2.mono HQ.out.bl.size)))
            obtain ⟨lb, ly, la, lc, hve, _⟩ := hv
            subst hve
            clear hR hb2
            go_wp2
            go_ret3
            exact .inl ⟨_, rfl, HV.out⟩
          · go_wp2
            go_ret3
            exact .inr ⟨x, j + 1, by go_num, by have := HQ.out.lo; omega, by omega, HQ.out.bl⟩
      · have e39 : (c == 39) = false := by simpa using h39
        by_cases h32 : c < 32
        · have hR := rf_no01 ((f : Int)) 21 wr
          go_wp2_with fail
          refine hR.mono ?_
          rintro e w2 ⟨v, rfl, hv, hb2⟩
          have HV := Hid.mk7 (And.intro hv (HQ.out.bl.trans (hb2.mono HQ.out.bl.size)))
          obtain ⟨lb, ly, la, lc, hve, _⟩ := hv
          subst hve
          clear hR hb2
          go_wp2
          go_ret3
          exact .inl ⟨_, rfl, HV.out⟩
        · by_cases h127 : c = 127
          · subst h127
            have hR := rf_no01 ((f : Int)) 21 wr
            go_wp2_with fail
            refine hR.mono ?_
            rintro e w2 ⟨v, rfl, hv, hb2⟩
            have HV := Hid.mk7 (And.intro hv (HQ.out.bl.trans (hb2.mono HQ.out.bl.size)))
            obtain ⟨lb, ly, la, lc, hve, _⟩ := hv
            subst hve
            clear hR hb2
            go_wp2
            go_ret3
            exact .inl ⟨_, rfl, HV.out⟩
          · have e127 : (c == 127) = false := by simpa using h127
            by_cases h92 : c = 92
            · subst h92
              by_cases hend : j + 1 = s.size
              · have hendI : (j : Int) + 1 = (s.size : Int) := by omega
                have hR := rf_no01 ((f : Int)) 21 wr
                go_wp2_with fail
                refine hR.mono ?_
                rintro e w2 ⟨v, rfl, hv, hb2⟩
                have HV := Hid.mk7 (And.intro hv (HQ.out.bl.trans (hb2.mono HQ.out.bl.size)))
                obtain ⟨lb, ly, la, lc, hve, _⟩ := hv
                subst hve
                clear hR hb2
                go_wp2
                go_ret3
                exact .inl ⟨_, rfl, HV.out⟩
              · have hendI : ((j : Int) + 1 == (s.size : Int)) = false := by simp; omega
                have hE := rf_escape s hs (j + 1) (by omega) wr
                rw [show ((j + 1 : Nat) : Int) = (j : Int) + 1 by omega] at hE
                go_wp2_with fail
                refine hE.mono ?_
                rintro e w3 ⟨⟨d, n, rfl, hn⟩, hb3⟩
                have HB3 := Hid.mk7 (HQ.out.bl.trans (hb3.mono HQ.out.bl.size))
                have HO3 := Hid.mk7 (HQ.out.own.turned (Turned.ofBelow (S := fun _ => False) hb3) (fun _ _ e => e))
                clear hE hb3 hix
                by_cases hn0 : n = 0
                · subst hn0
                  have hR := rf_no01 ((j : Int)) 22 w3
                  go_wp2_with fail
                  refine hR.mono ?_
                  rintro e w2 ⟨v, rfl, hv, hb2⟩
                  have HV := Hid.mk7 (And.intro hv (HB3.out.trans (hb2.mono HB3.out.size)))
                  obtain ⟨lb, ly, la, lc, hve, _⟩ := hv
                  subst hve
                  clear hR hb2
                  go_wp2
                  go_ret3
                  exact .inl ⟨_, rfl, HV.out⟩
                · have en0 : ((n : Int) == 0) = false := by simp; omega
                  have HQ3 : Hid (QuI s f w w3 (.slice aV zs.length cV) j zs) := ⟨HQ.out.lo, HQ.out.hi, HO3.out, HQ.out.len, HB3.out, HQ.out.new⟩
                  have hfit : zs.length + [d].length ≤ 70368744177664 := by simp; omega
                  have HFit := Hid.mk7 hfit
                  clear hfit
                  go_wp2_with (at_builtin; refine wpList_append_bytes (by rfl) (.tmp 65) (.tmp 67) (by rfl) Tryz.byteTypes (by rfl) (by rfl) (HQ3.out.own.turned (Turned.alloc (fun _ => False) _ _) (fun _ _ e => e)) (Sl.byte1 _ _ _) HFit.out ?_; intro V4 w4 ho4 ht4 hv4; have HQ4 := Hid.mk7 (HQ3.out.more (i := j + 1 + n) (by omega) (by omega) ho4 ht4 hv4); clear ho4 ht4 hv4)
                  go_roundw
                  case rel => exact ⟨j + 1 + n, _, by go_num, HQ4.out⟩
                  case measure => simp [intOf]; omega
            · have e92 : (c == 92) = false := by simpa using h92
              have hfit : zs.length + [c].length ≤ 70368744177664 := by simp; omega
              have HFit := Hid.mk7 hfit
              clear hfit
              go_wp2_with (at_builtin; refine wpList_append_bytes (by rfl) (.tmp 39) (.tmp 43) (by rfl) Tryz.byteTypes (by rfl) (by rfl) (HQ.out.own.turned (Turned.alloc (fun _ => False) _ _) (fun _ _ e => e)) (Sl.byte1 _ _ _) HFit.out ?_; intro V4 w4 ho4 ht4 hv4; have HQ4 := Hid.mk7 (HQ.out.more (i := j + 1) (by omega) (by omega) ho4 ht4 hv4); clear ho4 ht4 hv4)
              go_roundw
              case rel => exact ⟨j + 1, _, by go_num, HQ4.out⟩
              case measure => simp [intOf]; omega
    · have hge : ¬ (j : Int) < (s.size : Int) := by omega
      have hge2 : (s.size : Int) ≤ (j : Int) := by omega
      have hR := rf_no01 ((f : Int)) 21 wr
      go_wp2_with fail
      refine hR.mono ?_
      rintro e w2 ⟨v, rfl, hv, hb2⟩
      have HV := Hid.mk7 (And.intro hv (HQ.out.bl.trans (hb2.mono HQ.out.bl.size)))
      obtain ⟨lb, ly, la, lc, hve, _⟩ := hv
      subst hve
      clear hR hb2
      go_wp2
      go_ret3
      exact .inl ⟨_, rfl, HV.out⟩
set_option maxRecDepth 100000 in
set_option maxHeartbeats 3200000 in
theorem rf_atomScan (s : ByteArray) (hs : s.size ≤ 65536) (f : Nat) (hf : f < s.size) (w : World) : Calls Tryz.prog 37 #[.string s, .int .i64 (f : Int)] w (AtomTold s f w) := by
  have hix := str_at s f hf
  have hfi : ¬ (s.size : Int) < (f : Int) := by omega
  have hfe : ((f : Int) == (s.size : Int)) = false := by simp; omega
  have hf0 : ¬ (f : Int) < 0 := by omega
  have hsm := fun W => rf_small (s[f].toNat : Int) W
  obtain ⟨c, hcE⟩ : ∃ c : Int, (s[f].toNat : Int) = c := ⟨_, rfl⟩
  rw [hcE] at hix hsm
  have HC := Hid.mk7 hcE
  clear hcE
  by_cases h39 : c = 39
  · subst h39
    have e39 : smallB 39 = false := by decide
    rw [e39] at hsm
    have hq := rf_quoted s hs f hf w
    go_enter Tryz.func37, Tryz.ntmps37
    go_wp2_with fail
    refine (hsm _).mono ?_
    rintro e w' ⟨rfl, rfl⟩
    go_wp2_with fail
    refine hq.mono ?_
    rintro e w1 (⟨v, rfl, hv, hb⟩ | ⟨x, j, rfl, h1, h2, hb⟩)
    · have HV := Hid.mk7 (And.intro hv hb)
      obtain ⟨lb, ly, la, lc, hve, _⟩ := hv
      subst hve
      clear hq hb
      go_wp2
      go_ret3
      exact .inl ⟨_, rfl, HV.out⟩
    · clear hq
      have HB := Hid.mk7 hb
      clear hb
      go_wp2
      go_ret3
      exact .inr ⟨x, j, rfl, h1, h2, HB.out⟩
  · have e39 : (c == 39) = false := by simpa using h39
    cases hsb : smallB c with
    | false =>
      rw [hsb] at hsm
      clear hsb
      go_enter Tryz.func37, Tryz.ntmps37
      go_wp2_with fail
      refine (hsm _).mono ?_
      rintro e w' ⟨rfl, rfl⟩
      have hR := rf_no01 ((f : Int)) 20 w
      go_wp2_with fail
      refine hR.mono ?_
      rintro e w2 ⟨v, rfl, hv, hb2⟩
      have HV := Hid.mk7 (And.intro hv hb2)
      obtain ⟨lb, ly, la, lc, hve, _⟩ := hv
      subst hve
      clear hR hb2
      go_wp2
      go_ret3
      exact .inl ⟨_, rfl, HV.out⟩
    | true =>
      rw [hsb] at hsm
      have hwd : wordB (s[f].toNat : Int) = true := by rw [HC.out]; simp [wordB, alnumB, hsb]
      have HW := Hid.mk7 hwd
      clear hsb hwd
      go_enter Tryz.func37, Tryz.ntmps37
      go_wp2_with fail
      refine (hsm _).mono ?_
      rintro e w' ⟨rfl, rfl⟩
      go_wp2_with fail
      clear hix hsm
      go_loopw [7] (fun ii wr => ∃ j : Nat, ii = .int .i64 (j : Int) ∧ f ≤ j ∧ j ≤ s.size ∧ w = wr) (fun ii _ => s.size - (intOf ii).toNat)
      case atStart => exact ⟨f, rfl, Nat.le_refl _, by omega, rfl⟩
      case round =>
        obtain ⟨j, rfl, h1, h2, rfl⟩ := hrel
        by_cases hgo : ∃ h : j < s.size, wordB (s[j].toNat : Int) = true
        · obtain ⟨hlt, hw⟩ := hgo
          have hlti : (j : Int) < (s.size : Int) := by omega
          have hix := str_at s j hlt
          have hq := fun W => rf_inWord (s[j].toNat : Int) W
          rw [hw] at hq
          generalize (s[j].toNat : Int) = d at hix hq hw
          go_wp2_with fail
          refine (hq _).mono ?_
          rintro e w' ⟨rfl, rfl⟩
          go_wp2
          go_roundw
          case rel => exact ⟨j + 1, by go_num, by omega, by omega, trivial⟩
          case measure => simp [intOf]; omega
        · have hfj : f < j := by
            rcases Nat.eq_or_lt_of_le h1 with rfl | h3
            · exact (hgo ⟨hf, HW.out⟩).elim
            · exact h3
          have hsub : (j : Int) - (f : Int) = ((j - f : Nat) : Int) := by omega
          have hcut := str_cut s f j h1 h2
          by_cases h255 : (255 : Int) < (j : Int) - (f : Int)
          · by_cases hlt : j < s.size
            · have hlti : (j : Int) < (s.size : Int) := by omega
              have hix := str_at s j hlt
              have hq := fun W => rf_inWord (s[j].toNat : Int) W
              have hwf : wordB (s[j].toNat : Int) = false := by
                cases h9 : wordB (s[j].toNat : Int) with
                | false => rfl
                | true => exact (hgo ⟨hlt, h9⟩).elim
              rw [hwf] at hq
              generalize (s[j].toNat : Int) = d at hix hq
              clear hgo hwf hsub
              go_wp2_with fail
              refine (hq _).mono ?_
              rintro e w' ⟨rfl, rfl⟩
              have hR := rf_no01 ((f : Int)) 4 w
              go_wp2_with fail
              refine hR.mono ?_
              rintro e w2 ⟨v, rfl, hv, hb2⟩
              have HV := Hid.mk7 (And.intro hv hb2)
              obtain ⟨lb, ly, la, lc, hve, _⟩ := hv
              subst hve
              clear hR hb2
              go_wp2
              go_ret3
              exact .inl ⟨_, rfl, HV.out⟩
            · have hge : ¬ (j : Int) < (s.size : Int) := by omega
              clear hgo hsub
              have hR := rf_no01 ((f : Int)) 4 w
              go_wp2_with fail
              refine hR.mono ?_
              rintro e w2 ⟨v, rfl, hv, hb2⟩
              have HV := Hid.mk7 (And.intro hv hb2)
              obtain ⟨lb, ly, la, lc, hve, _⟩ := hv
              subst hve
              clear hR hb2
              go_wp2
              go_ret3
              exact .inl ⟨_, rfl, HV.out⟩
          · have hRs := fun W => rf_reserved (s.extract f j) W
            generalize s.extract f j = x at hcut hRs
            by_cases hlt : j < s.size
            · have hlti : (j : Int) < (s.size : Int) := by omega
              have hix := str_at s j hlt
              have hq := fun W => rf_inWord (s[j].toNat : Int) W
              have hwf : wordB (s[j].toNat : Int) = false := by
                cases h9 : wordB (s[j].toNat : Int) with
                | false => rfl
                | true => exact (hgo ⟨hlt, h9⟩).elim
              rw [hwf] at hq
              generalize (s[j].toNat : Int) = d at hix hq
              clear hgo hwf hsub
              go_wp2_with fail
              refine (hq _).mono ?_
              rintro e w' ⟨rfl, rfl⟩
              go_wp2_with fail
              refine (hRs _).mono ?_
              rintro e w3 ⟨⟨b, rfl⟩, hb3⟩
              have HB3 := Hid.mk7 hb3
              clear hRs hb3
              cases b with
              | true =>
                have hR := rf_no01 ((f : Int)) 20 w3
                go_wp2_with fail
                refine hR.mono ?_
                rintro e w2 ⟨v, rfl, hv, hb2⟩
                have HV := Hid.mk7 (And.intro hv (HB3.out.trans (hb2.mono HB3.out.size)))
                obtain ⟨lb, ly, la, lc, hve, _⟩ := hv
                subst hve
                clear hR hb2
                go_wp2
                go_ret3
                exact .inl ⟨_, rfl, HV.out⟩
              | false =>
                go_wp2
                go_ret3
                exact .inr ⟨x, j, rfl, hfj, h2, HB3.out⟩
            · have hge : ¬ (j : Int) < (s.size : Int) := by omega
              clear hgo hsub
              go_wp2_with fail
              refine (hRs _).mono ?_
              rintro e w3 ⟨⟨b, rfl⟩, hb3⟩
              have HB3 := Hid.mk7 hb3
              clear hRs hb3
              cases b with
              | true =>
                have hR := rf_no01 ((f : Int)) 20 w3
                go_wp2_with fail
                refine hR.mono ?_
                rintro e w2 ⟨v, rfl, hv, hb2⟩
                have HV := Hid.mk7 (And.intro hv (HB3.out.trans (hb2.mono HB3.out.size)))
                obtain ⟨lb, ly, la, lc, hve, _⟩ := hv
                subst hve
                clear hR hb2
                go_wp2
                go_ret3
                exact .inl ⟨_, rfl, HV.out⟩
              | false =>
                go_wp2
                go_ret3
                exact .inr ⟨x, j, rfl, hfj, h2, HB3.out⟩
end Go.Proofs.YtlgkjjbefoeabaaGreatDoor
namespace Go.Proofs.YtlgkjjbefoeabaaGreatDoor
open Go.RowKit

/-- A token and the place behind it, or a refusal. -/
def TokT (s : ByteArray) (a : Nat) (w : World) (e : Ending) (w' : World) : Prop :=
  (∃ v, e = .returned (.tuple #[zeroTk.val, .int .i64 0, v]) ∧ LkE v ∧ Below w.heap.size w w') ∨ ∃ (t : Tk) (j : Nat), e = .returned (.tuple #[t.val, .int .i64 (j : Int), .slice none 0 0]) ∧ a < j ∧ j ≤ s.size ∧ Below w.heap.size w w'
/-- A number, and whether it is one. -/
def NumTold (e : Ending) : Prop := ∃ (z : Int) (b : Bool), e = .returned (.tuple #[.int .i64 z, .bool b])
set_option maxRecDepth 100000 in
set_option maxHeartbeats 1600000 in
theorem rf_number (s : ByteArray) (hs : s.size ≤ 65536) (base : Int) (h2 : 2 ≤ base) (h36 : base ≤ 36) (w : World) : Calls Tryz.prog 69 #[.string s, .int .i64 base] w fun e w' => NumTold e ∧ w = w' := by
  have hb0 : ¬ base = 0 := by omega
  go_enter Tryz.func69, Tryz.ntmps69
  go_wp2_with fail
  go_loopw [6, 7] (fun nn ii wr => ∃ (z : Int) (j : Nat), nn = .int .i64 z ∧ ii = .int .i64 (j : Int) ∧ j ≤ s.size ∧ w = wr) (fun _ ii _ => s.size - (intOf ii).toNat)
  case atStart => exact ⟨0, 0, rfl, rfl, by omega, rfl⟩
  case round =>
    obtain ⟨z, j, rfl, rfl, h1, rfl⟩ := hrel
    by_cases hlt : j < s.size
    · have hlti : (j : Int) < (s.size : Int) := by omega
      have hix := str_at s j hlt
      have hq := fun W => rf_value (s[j].toNat : Int) W
      generalize (s[j].toNat : Int) = c at hix hq
      go_wp2_with fail
      refine (hq _).mono ?_
      rintro e w' ⟨⟨v, rfl⟩, rfl⟩
      clear hq hix
      go_wp2
      all_goals first
        | (go_ret2; exact ⟨⟨_, _, rfl⟩, rfl⟩)
        | (go_roundw
           case rel => exact ⟨_, j + 1, rfl, by go_num, by omega, trivial⟩
           case measure => simp [intOf]; omega)
    · have hge : ¬ (j : Int) < (s.size : Int) := by omega
      go_wp2
      go_ret2
      exact ⟨⟨_, _, rfl⟩, rfl⟩
set_option maxRecDepth 100000 in
set_option maxHeartbeats 3200000 in
theorem rf_figure (s : ByteArray) (hs : s.size ≤ 65536) (a : Nat) (ha : a < s.size) (hd : digB (s[a].toNat : Int) = true) (w : World) : Calls Tryz.prog 41 #[.string s, .int .i64 (a : Int)] w (TokT s a w) := by
  have HD := Hid.mk7 hd
  clear hd
  go_enter Tryz.func41, Tryz.ntmps41
  go_wp2_with fail
  go_loopw [7] (fun ii wr => ∃ j : Nat, ii = .int .i64 (j : Int) ∧ a ≤ j ∧ j ≤ s.size ∧ w.alloc (.cells #[.int .i64 0, .string ⟨#[]⟩, .int .i64 0, .int .i64 0] 40) = wr) (fun ii _ => s.size - (intOf ii).toNat)
  case atStart => exact ⟨a, rfl, Nat.le_refl _, by omega, rfl⟩
  case round =>
    obtain ⟨j, rfl, h1, h2, rfl⟩ := hrel
    by_cases hgo : ∃ h : j < s.size, digB (s[j].toNat : Int) = true
    · obtain ⟨hlt, hw⟩ := hgo
      have hlti : (j : Int) < (s.size : Int) := by omega
      have hix := str_at s j hlt
      have hq := fun W => rf_digit (s[j].toNat : Int) W
      rw [hw] at hq
      generalize (s[j].toNat : Int) = d at hix hq hw
      go_wp2_with fail
      refine (hq _).mono ?_
      rintro e w' ⟨rfl, rfl⟩
      go_wp2
      go_roundw
      case rel => exact ⟨j + 1, by go_num, by omega, by omega, trivial⟩
      case measure => simp [intOf]; omega
    · have hfj : a < j := by
        rcases Nat.eq_or_lt_of_le h1 with rfl | h3
        · exact (hgo ⟨ha, HD.out⟩).elim
        · exact h3
      have hcut := str_cut s a j h1 h2
      have hN := fun W => rf_number (s.extract a j) (by rw [ByteArray.size_extract]; omega) 10 (by omega) (by omega) W
      generalize s.extract a j = x at hcut hN
      by_cases hlt : j < s.size
      · have hlti : (j : Int) < (s.size : Int) := by omega
        have hix := str_at s j hlt
        have hq := fun W => rf_digit (s[j].toNat : Int) W
        have hwf : digB (s[j].toNat : Int) = false := by
          cases h9 : digB (s[j].toNat : Int) with
          | false => rfl
          | true => exact (hgo ⟨hlt, h9⟩).elim
        rw [hwf] at hq
        generalize (s[j].toNat : Int) = d at hix hq
        clear hgo hwf
        go_wp2_with fail
        refine (hq _).mono ?_
        rintro e w' ⟨rfl, rfl⟩
        go_wp2_with fail
        refine (hN _).mono ?_
        rintro e w' ⟨⟨z, b, rfl⟩, rfl⟩
        clear hq hN hcut
        by_cases h35 : d = 35
        · subst h35
          go_wp2_with fail
          go_loopw [10] (fun ii wr => ∃ k : Nat, ii = .int .i64 (k : Int) ∧ j < k ∧ k ≤ s.size ∧ w.alloc (.cells #[.int .i64 0, .string ⟨#[]⟩, .int .i64 0, .int .i64 0] 40) = wr) (fun ii _ => s.size - (intOf ii).toNat)
          case atStart => exact ⟨j + 1, by go_num, by omega, by omega, rfl⟩
          case round =>
            obtain ⟨k, rfl, h3, h4, rfl⟩ := hrel
            by_cases hlk : k < s.size
            · have hlki : (k : Int) < (s.size : Int) := by omega
              have hiy := str_at s k hlk
              have hv := fun W => rf_value (s[k].toNat : Int) W
              generalize (s[k].toNat : Int) = d2 at hiy hv
              go_wp2_with fail
              refine (hv _).mono ?_
              rintro e w' ⟨⟨v, rfl⟩, rfl⟩
              clear hv hiy
              by_cases h99 : v < 99
              · go_wp2
                go_roundw
                case rel => exact ⟨k + 1, by go_num, by omega, by omega, trivial⟩
                case measure => simp [intOf]; omega
              · cases b with
                | false =>
                  have hR := fun W => rf_no10 (a : Int) 201 W
                  go_wp2_with fail
                  refine (hR _).mono ?_
                  rintro e w2 ⟨v, rfl, hv, hb2⟩
                  have HV := Hid.mk7 (And.intro hv.e ((Below.alloc0 w _).trans (hb2.mono (by simp))))
                  obtain ⟨⟨c0, f0⟩, ⟨c1, f1⟩, ⟨c2, f2⟩, ⟨c3, f3⟩⟩ := newTok hb2
                  obtain ⟨lb, ly, la, lc, hve, _⟩ := hv
                  subst hve
                  clear hR hb2
                  go_wp2
                  refine bodyPost_ret (v := .tuple #[zeroTk.val, .int .i64 0, .slice (some ⟨lb, 0, none⟩) 1 1]) (by simp [results, Tryz.results41, go_sem, Tk.val, zeroTk, c0, c1, c2, c3]) rfl ?_
                  exact .inl ⟨_, rfl, HV.out.1, Below.tok4 HV.out.2 zeroTk⟩
                | true =>
                  by_cases hz2 : z < 2
                  · have hR := fun W => rf_no10 (a : Int) 201 W
                    go_wp2_with fail
                    refine (hR _).mono ?_
                    rintro e w2 ⟨v, rfl, hv, hb2⟩
                    have HV := Hid.mk7 (And.intro hv.e ((Below.alloc0 w _).trans (hb2.mono (by simp))))
                    obtain ⟨⟨c0, f0⟩, ⟨c1, f1⟩, ⟨c2, f2⟩, ⟨c3, f3⟩⟩ := newTok hb2
                    obtain ⟨lb, ly, la, lc, hve, _⟩ := hv
                    subst hve
                    clear hR hb2
                    go_wp2
                    refine bodyPost_ret (v := .tuple #[zeroTk.val, .int .i64 0, .slice (some ⟨lb, 0, none⟩) 1 1]) (by simp [results, Tryz.results41, go_sem, Tk.val, zeroTk, c0, c1, c2, c3]) rfl ?_
                    exact .inl ⟨_, rfl, HV.out.1, Below.tok4 HV.out.2 zeroTk⟩
                  · by_cases hz36 : (36 : Int) < z
                    · have hR := fun W => rf_no10 (a : Int) 201 W
                      go_wp2_with fail
                      refine (hR _).mono ?_
                      rintro e w2 ⟨v, rfl, hv, hb2⟩
                      have HV := Hid.mk7 (And.intro hv.e ((Below.alloc0 w _).trans (hb2.mono (by simp))))
                      obtain ⟨⟨c0, f0⟩, ⟨c1, f1⟩, ⟨c2, f2⟩, ⟨c3, f3⟩⟩ := newTok hb2
                      obtain ⟨lb, ly, la, lc, hve, _⟩ := hv
                      subst hve
                      clear hR hb2
                      go_wp2
                      refine bodyPost_ret (v := .tuple #[zeroTk.val, .int .i64 0, .slice (some ⟨lb, 0, none⟩) 1 1]) (by simp [results, Tryz.results41, go_sem, Tk.val, zeroTk, c0, c1, c2, c3]) rfl ?_
                      exact .inl ⟨_, rfl, HV.out.1, Below.tok4 HV.out.2 zeroTk⟩
                    · have hcut := str_cut s (j + 1) k (by omega) h4
                      rw [show ((j + 1 : Nat) : Int) = (j : Int) + 1 by omega] at hcut
                      have hN := fun W => rf_number (s.extract (j + 1) k) (by rw [ByteArray.size_extract]; omega) z (by omega) (by omega) W
                      generalize s.extract (j + 1) k = x2 at hcut hN
                      go_wp2_with fail
                      refine (hN _).mono ?_
                      rintro e w' ⟨⟨z2, b2, rfl⟩, rfl⟩
                      clear hN hcut
                      cases b2 with
                      | false =>
                        have hR := fun W => rf_no10 (a : Int) 201 W
                        go_wp2_with fail
                        refine (hR _).mono ?_
                        rintro e w2 ⟨v, rfl, hv, hb2⟩
                        have HV := Hid.mk7 (And.intro hv.e ((Below.alloc0 w _).trans (hb2.mono (by simp))))
                        obtain ⟨⟨c0, f0⟩, ⟨c1, f1⟩, ⟨c2, f2⟩, ⟨c3, f3⟩⟩ := newTok hb2
                        obtain ⟨lb, ly, la, lc, hve, _⟩ := hv
                        subst hve
                        clear hR hb2
                        go_wp2
                        refine bodyPost_ret (v := .tuple #[zeroTk.val, .int .i64 0, .slice (some ⟨lb, 0, none⟩) 1 1]) (by simp [results, Tryz.results41, go_sem, Tk.val, zeroTk, c0, c1, c2, c3]) rfl ?_
                        exact .inl ⟨_, rfl, HV.out.1, Below.tok4 HV.out.2 zeroTk⟩
                      | true =>
                        go_wp2
                        refine bodyPost_ret (v := .tuple #[(⟨3, ⟨#[]⟩, z2, (a : Int)⟩ : Tk).val, .int .i64 (k : Nat), .slice none 0 0]) (by simp [results, Tryz.results41, go_sem, Tk.val]) rfl ?_
                        exact .inr ⟨_, _, rfl, by omega, by omega, Below.alloc0 w _⟩
            · have hgek : ¬ (k : Int) < (s.size : Int) := by omega
              cases b with
              | false =>
                have hR := fun W => rf_no10 (a : Int) 201 W
                go_wp2_with fail
                refine (hR _).mono ?_
                rintro e w2 ⟨v, rfl, hv, hb2⟩
                have HV := Hid.mk7 (And.intro hv.e ((Below.alloc0 w _).trans (hb2.mono (by simp))))
                obtain ⟨⟨c0, f0⟩, ⟨c1, f1⟩, ⟨c2, f2⟩, ⟨c3, f3⟩⟩ := newTok hb2
                obtain ⟨lb, ly, la, lc, hve, _⟩ := hv
                subst hve
                clear hR hb2
                go_wp2
                refine bodyPost_ret (v := .tuple #[zeroTk.val, .int .i64 0, .slice (some ⟨lb, 0, none⟩) 1 1]) (by simp [results, Tryz.results41, go_sem, Tk.val, zeroTk, c0, c1, c2, c3]) rfl ?_
                exact .inl ⟨_, rfl, HV.out.1, Below.tok4 HV.out.2 zeroTk⟩
              | true =>
                by_cases hz2 : z < 2
                · have hR := fun W => rf_no10 (a : Int) 201 W
                  go_wp2_with fail
                  refine (hR _).mono ?_
                  rintro e w2 ⟨v, rfl, hv, hb2⟩
                  have HV := Hid.mk7 (And.intro hv.e ((Below.alloc0 w _).trans (hb2.mono (by simp))))
                  obtain ⟨⟨c0, f0⟩, ⟨c1, f1⟩, ⟨c2, f2⟩, ⟨c3, f3⟩⟩ := newTok hb2
                  obtain ⟨lb, ly, la, lc, hve, _⟩ := hv
                  subst hve
                  clear hR hb2
                  go_wp2
                  refine bodyPost_ret (v := .tuple #[zeroTk.val, .int .i64 0, .slice (some ⟨lb, 0, none⟩) 1 1]) (by simp [results, Tryz.results41, go_sem, Tk.val, zeroTk, c0, c1, c2, c3]) rfl ?_
                  exact .inl ⟨_, rfl, HV.out.1, Below.tok4 HV.out.2 zeroTk⟩
                · by_cases hz36 : (36 : Int) < z
                  · have hR := fun W => rf_no10 (a : Int) 201 W
                    go_wp2_with fail
                    refine (hR _).mono ?_
                    rintro e w2 ⟨v, rfl, hv, hb2⟩
                    have HV := Hid.mk7 (And.intro hv.e ((Below.alloc0 w _).trans (hb2.mono (by simp))))
                    obtain ⟨⟨c0, f0⟩, ⟨c1, f1⟩, ⟨c2, f2⟩, ⟨c3, f3⟩⟩ := newTok hb2
                    obtain ⟨lb, ly, la, lc, hve, _⟩ := hv
                    subst hve
                    clear hR hb2
                    go_wp2
                    refine bodyPost_ret (v := .tuple #[zeroTk.val, .int .i64 0, .slice (some ⟨lb, 0, none⟩) 1 1]) (by simp [results, Tryz.results41, go_sem, Tk.val, zeroTk, c0, c1, c2, c3]) rfl ?_
                    exact .inl ⟨_, rfl, HV.out.1, Below.tok4 HV.out.2 zeroTk⟩
                  · have hcut := str_cut s (j + 1) k (by omega) h4
                    rw [show ((j + 1 : Nat) : Int) = (j : Int) + 1 by omega] at hcut
                    have hN := fun W => rf_number (s.extract (j + 1) k) (by rw [ByteArray.size_extract]; omega) z (by omega) (by omega) W
                    generalize s.extract (j + 1) k = x2 at hcut hN
                    go_wp2_with fail
                    refine (hN _).mono ?_
                    rintro e w' ⟨⟨z2, b2, rfl⟩, rfl⟩
                    clear hN hcut
                    cases b2 with
                    | false =>
                      have hR := fun W => rf_no10 (a : Int) 201 W
                      go_wp2_with fail
                      refine (hR _).mono ?_
                      rintro e w2 ⟨v, rfl, hv, hb2⟩
                      have HV := Hid.mk7 (And.intro hv.e ((Below.alloc0 w _).trans (hb2.mono (by simp))))
                      obtain ⟨⟨c0, f0⟩, ⟨c1, f1⟩, ⟨c2, f2⟩, ⟨c3, f3⟩⟩ := newTok hb2
                      obtain ⟨lb, ly, la, lc, hve, _⟩ := hv
                      subst hve
                      clear hR hb2
                      go_wp2
                      refine bodyPost_ret (v := .tuple #[zeroTk.val, .int .i64 0, .slice (some ⟨lb, 0, none⟩) 1 1]) (by simp [results, Tryz.results41, go_sem, Tk.val, zeroTk, c0, c1, c2, c3]) rfl ?_
                      exact .inl ⟨_, rfl, HV.out.1, Below.tok4 HV.out.2 zeroTk⟩
                    | true =>
                      go_wp2
                      refine bodyPost_ret (v := .tuple #[(⟨3, ⟨#[]⟩, z2, (a : Int)⟩ : Tk).val, .int .i64 (k : Nat), .slice none 0 0]) (by simp [results, Tryz.results41, go_sem, Tk.val]) rfl ?_
                      exact .inr ⟨_, _, rfl, by omega, by omega, Below.alloc0 w _⟩
        · have e35 : (d == 35) = false := by simpa using h35
          cases b with
          | false =>
            have hR := fun W => rf_no10 (a : Int) 201 W
            go_wp2_with fail
            refine (hR _).mono ?_
            rintro e w2 ⟨v, rfl, hv, hb2⟩
            have HV := Hid.mk7 (And.intro hv.e ((Below.alloc0 w _).trans (hb2.mono (by simp))))
            obtain ⟨⟨c0, f0⟩, ⟨c1, f1⟩, ⟨c2, f2⟩, ⟨c3, f3⟩⟩ := newTok hb2
            obtain ⟨lb, ly, la, lc, hve, _⟩ := hv
            subst hve
            clear hR hb2
            go_wp2
            refine bodyPost_ret (v := .tuple #[zeroTk.val, .int .i64 0, .slice (some ⟨lb, 0, none⟩) 1 1]) (by simp [results, Tryz.results41, go_sem, Tk.val, zeroTk, c0, c1, c2, c3]) rfl ?_
            exact .inl ⟨_, rfl, HV.out.1, Below.tok4 HV.out.2 zeroTk⟩
          | true =>
            go_wp2
            refine bodyPost_ret (v := .tuple #[(⟨3, ⟨#[]⟩, z, (a : Int)⟩ : Tk).val, .int .i64 (j : Nat), .slice none 0 0]) (by simp [results, Tryz.results41, go_sem, Tk.val]) rfl ?_
            exact .inr ⟨_, _, rfl, hfj, by omega, Below.alloc0 w _⟩
      · have hge : ¬ (j : Int) < (s.size : Int) := by omega
        clear hgo
        go_wp2_with fail
        refine (hN _).mono ?_
        rintro e w' ⟨⟨z, b, rfl⟩, rfl⟩
        clear hN hcut
        cases b with
        | false =>
          have hR := fun W => rf_no10 (a : Int) 201 W
          go_wp2_with fail
          refine (hR _).mono ?_
          rintro e w2 ⟨v, rfl, hv, hb2⟩
          have HV := Hid.mk7 (And.intro hv.e ((Below.alloc0 w _).trans (hb2.mono (by simp))))
          obtain ⟨⟨c0, f0⟩, ⟨c1, f1⟩, ⟨c2, f2⟩, ⟨c3, f3⟩⟩ := newTok hb2
          obtain ⟨lb, ly, la, lc, hve, _⟩ := hv
          subst hve
          clear hR hb2
          go_wp2
          refine bodyPost_ret (v := .tuple #[zeroTk.val, .int .i64 0, .slice (some ⟨lb, 0, none⟩) 1 1]) (by simp [results, Tryz.results41, go_sem, Tk.val, zeroTk, c0, c1, c2, c3]) rfl ?_
          exact .inl ⟨_, rfl, HV.out.1, Below.tok4 HV.out.2 zeroTk⟩
        | true =>
          go_wp2
          refine bodyPost_ret (v := .tuple #[(⟨3, ⟨#[]⟩, z, (a : Int)⟩ : Tk).val, .int .i64 (j : Nat), .slice none 0 0]) (by simp [results, Tryz.results41, go_sem, Tk.val]) rfl ?_
          exact .inr ⟨_, _, rfl, hfj, by omega, Below.alloc0 w _⟩
end Go.Proofs.YtlgkjjbefoeabaaGreatDoor
namespace Go.Proofs.YtlgkjjbefoeabaaGreatDoor
open Go.RowKit

/-- A number, and how many bytes it takes. -/
def EscTold (s : ByteArray) (e : Ending) : Prop := ∃ (z : Int) (n : Nat), e = .returned (.tuple #[.int .i64 z, .int .i64 (n : Int)]) ∧ n ≤ 3 ∧ n ≤ s.size
set_option maxRecDepth 100000 in
set_option maxHeartbeats 1600000 in
theorem rf_escape10 (s : ByteArray) (hs : s.size ≤ 65536) (w : World) : Calls Tryz.prog 71 #[.string s] w fun e w' => EscTold s e ∧ Below w.heap.size w w' := by
  by_cases he : s = ⟨#[]⟩
  · subst he
    go_enter Tryz.func71, Tryz.ntmps71
    go_wp2
    go_ret2
    exact ⟨⟨_, 0, rfl, by decide, by decide⟩, Below.refl _ _⟩
  · have hne : (s.toList == []) = false := list_ne he
    have h0 : 0 < s.size := by
      rcases Nat.eq_zero_or_pos s.size with h | h
      · exact (he (ByteArray.ext (Array.eq_empty_of_size_eq_zero h))).elim
      · exact h
    have hix := str_at s 0 h0
    have hix : ∀ W : World, (Instr.index 9 (.string s) (.int .i64 0)).run Tryz.prog W = .ok (.int .u8 ((s[0]'h0).toNat : Int)) W := hix
    generalize ((s[0]'h0).toNat : Int) = c at hix
    clear he
    by_cases h110 : c = 110
    · subst h110
      go_enter Tryz.func71, Tryz.ntmps71
      go_wp2
      all_goals go_ret2
      all_goals exact ⟨⟨_, 1, rfl, by decide, h0⟩, Below.refl _ _⟩
    · have e110 : (c == 110) = false := by simpa using h110
      by_cases h116 : c = 116
      · subst h116
        go_enter Tryz.func71, Tryz.ntmps71
        go_wp2
        all_goals go_ret2
        all_goals exact ⟨⟨_, 1, rfl, by decide, h0⟩, Below.refl _ _⟩
      · have e116 : (c == 116) = false := by simpa using h116
        by_cases h114 : c = 114
        · subst h114
          go_enter Tryz.func71, Tryz.ntmps71
          go_wp2
          all_goals go_ret2
          all_goals exact ⟨⟨_, 1, rfl, by decide, h0⟩, Below.refl _ _⟩
        · have e114 : (c == 114) = false := by simpa using h114
          by_cases h115 : c = 115
          · subst h115
            go_enter Tryz.func71, Tryz.ntmps71
            go_wp2
            all_goals go_ret2
            all_goals exact ⟨⟨_, 1, rfl, by decide, h0⟩, Below.refl _ _⟩
          · have e115 : (c == 115) = false := by simpa using h115
            by_cases h92 : c = 92
            · subst h92
              go_enter Tryz.func71, Tryz.ntmps71
              go_wp2
              all_goals go_ret2
              all_goals exact ⟨⟨_, 1, rfl, by decide, h0⟩, Below.refl _ _⟩
            · have e92 : (c == 92) = false := by simpa using h92
              by_cases h39 : c = 39
              · subst h39
                go_enter Tryz.func71, Tryz.ntmps71
                go_wp2
                all_goals go_ret2
                all_goals exact ⟨⟨_, 1, rfl, by decide, h0⟩, Below.refl _ _⟩
              · have e39 : (c == 39) = false := by simpa using h39
                by_cases h34 : c = 34
                · subst h34
                  go_enter Tryz.func71, Tryz.ntmps71
                  go_wp2
                  all_goals go_ret2
                  all_goals exact ⟨⟨_, 1, rfl, by decide, h0⟩, Below.refl _ _⟩
                · have e34 : (c == 34) = false := by simpa using h34
                  by_cases h120 : c = 120
                  · subst h120
                    by_cases h2 : 2 < s.size
                    · have h2i : (2 : Int) < (s.size : Int) := by omega
                      have hx1 := str_at s 1 (by omega)
                      have hx2 := str_at s 2 h2
                      obtain ⟨b1, b2⟩ := str_byte s 1 (by omega)
                      obtain ⟨b3, b4⟩ := str_byte s 2 h2
                      have hx1 : ∀ W : World, (Instr.index 9 (.string s) (.int .i64 1)).run Tryz.prog W = .ok (.int .u8 ((s[1]'(by omega)).toNat : Int)) W := hx1
                      have hx2 : ∀ W : World, (Instr.index 9 (.string s) (.int .i64 2)).run Tryz.prog W = .ok (.int .u8 ((s[2]'h2).toNat : Int)) W := hx2
                      have hq1 := fun W => rf_valZ _ b1 b2 W
                      have hq2 := fun W => rf_valZ _ b3 b4 W
                      generalize ((s[1]'(by omega)).toNat : Int) = d1 at hx1 hq1 b1 b2
                      generalize ((s[2]'h2).toNat : Int) = d2 at hx2 hq2 b3 b4
                      generalize valZ d1 = z1 at hq1
                      generalize valZ d2 = z2 at hq2
                      clear b1 b2 b3 b4
                      by_cases hz1 : z1 < 16
                      · by_cases hz2 : z2 < 16
                        · go_enter Tryz.func71, Tryz.ntmps71; go_wp2_with fail
                          refine (hq1 _).mono ?_
                          rintro e w' ⟨rfl, rfl⟩
                          go_wp2_with fail
                          refine (hq2 _).mono ?_
                          rintro e w' ⟨rfl, rfl⟩
                          go_wp2_with fail
                          go_quiet (first | (go_at_call_of 70 d1; exact Calls.quiet_of_same ((hq1 _).mono fun _ _ h => ⟨h.1, h.2.symm⟩)) | (go_at_call_of 70 d2; exact Calls.quiet_of_same ((hq2 _).mono fun _ _ h => ⟨h.1, h.2.symm⟩)))
                          go_wp2
                          go_ret2
                          exact ⟨⟨_, 3, rfl, by decide, by omega⟩, drewN_below w _⟩
                        · go_enter Tryz.func71, Tryz.ntmps71; go_wp2_with fail
                          refine (hq1 _).mono ?_
                          rintro e w' ⟨rfl, rfl⟩
                          go_wp2_with fail
                          refine (hq2 _).mono ?_
                          rintro e w' ⟨rfl, rfl⟩
                          go_wp2
                          go_ret2
                          exact ⟨⟨_, 0, rfl, by decide, by omega⟩, Below.refl _ _⟩
                      · go_enter Tryz.func71, Tryz.ntmps71; go_wp2_with fail
                        refine (hq1 _).mono ?_
                        rintro e w' ⟨rfl, rfl⟩
                        go_wp2
                        go_ret2
                        exact ⟨⟨_, 0, rfl, by decide, by omega⟩, Below.refl _ _⟩
                    · have h2i : ¬ (2 : Int) < (s.size : Int) := by omega
                      go_enter Tryz.func71, Tryz.ntmps71; go_wp2
                      go_ret2
                      exact ⟨⟨_, 0, rfl, by decide, by omega⟩, Below.refl _ _⟩
                  · have e120 : (c == 120) = false := by simpa using h120
                    go_enter Tryz.func71, Tryz.ntmps71; go_wp2
                    all_goals go_ret2
                    all_goals exact ⟨⟨_, 0, rfl, by decide, by omega⟩, Below.refl _ _⟩
/-- Some number. -/
def IntTold (e : Ending) : Prop := ∃ z : Int, e = .returned (.int .i64 z)
set_option maxRecDepth 100000 in
set_option maxHeartbeats 1600000 in
theorem rf_point10 (s : ByteArray) (hs : s.size ≤ 4) (h0 : 0 < s.size) (w : World) : Calls Tryz.prog 73 #[.string s] w fun e w' => IntTold e ∧ w = w' := by
  have hix := str_at s 0 h0
  have hix : ∀ W : World, (Instr.index 9 (.string s) (.int .i64 0)).run Tryz.prog W = .ok (.int .u8 ((s[0]'h0).toNat : Int)) W := hix
  generalize ((s[0]'h0).toNat : Int) = c at hix
  by_cases n2 : (s.size : Int) = 2
  · have m2 : ((s.size : Int) == 2) = true := by simpa using n2
    go_enter Tryz.func73, Tryz.ntmps73
    go_wp2_with fail
    go_loopw [3, 4] (fun vv ii wr => ∃ (z : Int) (j : Nat), vv = .int .i64 z ∧ ii = .int .i64 (j : Int) ∧ 1 ≤ j ∧ j ≤ s.size ∧ w = wr) (fun _ ii _ => s.size - (intOf ii).toNat)
    case atStart => exact ⟨_, 1, rfl, rfl, by omega, by omega, rfl⟩
    case round =>
      obtain ⟨z, j, rfl, rfl, h1, h2, rfl⟩ := hrel
      by_cases hlt : j < s.size
      · have hlti : (j : Int) < (s.size : Int) := by omega
        have hiy := str_at s j hlt
        generalize (s[j].toNat : Int) = d at hiy
        go_wp2
        go_roundw
        case rel => exact ⟨_, j + 1, rfl, by go_num, by omega, by omega, trivial⟩
        case measure => simp [intOf]; omega
      · have hge : ¬ (j : Int) < (s.size : Int) := by omega
        go_wp2
        go_ret
        exact ⟨⟨_, rfl⟩, rfl⟩
  · have m2 : ((s.size : Int) == 2) = false := by simpa using n2
    by_cases n3 : (s.size : Int) = 3
    · have m3 : ((s.size : Int) == 3) = true := by simpa using n3
      go_enter Tryz.func73, Tryz.ntmps73
      go_wp2_with fail
      go_loopw [3, 4] (fun vv ii wr => ∃ (z : Int) (j : Nat), vv = .int .i64 z ∧ ii = .int .i64 (j : Int) ∧ 1 ≤ j ∧ j ≤ s.size ∧ w = wr) (fun _ ii _ => s.size - (intOf ii).toNat)
      case atStart => exact ⟨_, 1, rfl, rfl, by omega, by omega, rfl⟩
      case round =>
        obtain ⟨z, j, rfl, rfl, h1, h2, rfl⟩ := hrel
        by_cases hlt : j < s.size
        · have hlti : (j : Int) < (s.size : Int) := by omega
          have hiy := str_at s j hlt
          generalize (s[j].toNat : Int) = d at hiy
          go_wp2
          go_roundw
          case rel => exact ⟨_, j + 1, rfl, by go_num, by omega, by omega, trivial⟩
          case measure => simp [intOf]; omega
        · have hge : ¬ (j : Int) < (s.size : Int) := by omega
          go_wp2
          go_ret
          exact ⟨⟨_, rfl⟩, rfl⟩
    · have m3 : ((s.size : Int) == 3) = false := by simpa using n3
      by_cases n4 : (s.size : Int) = 4
      · have m4 : ((s.size : Int) == 4) = true := by simpa using n4
        go_enter Tryz.func73, Tryz.ntmps73
        go_wp2_with fail
        go_loopw [3, 4] (fun vv ii wr => ∃ (z : Int) (j : Nat), vv = .int .i64 z ∧ ii = .int .i64 (j : Int) ∧ 1 ≤ j ∧ j ≤ s.size ∧ w = wr) (fun _ ii _ => s.size - (intOf ii).toNat)
        case atStart => exact ⟨_, 1, rfl, rfl, by omega, by omega, rfl⟩
        case round =>
          obtain ⟨z, j, rfl, rfl, h1, h2, rfl⟩ := hrel
          by_cases hlt : j < s.size
          · have hlti : (j : Int) < (s.size : Int) := by omega
            have hiy := str_at s j hlt
            generalize (s[j].toNat : Int) = d at hiy
            go_wp2
            go_roundw
            case rel => exact ⟨_, j + 1, rfl, by go_num, by omega, by omega, trivial⟩
            case measure => simp [intOf]; omega
          · have hge : ¬ (j : Int) < (s.size : Int) := by omega
            go_wp2
            go_ret
            exact ⟨⟨_, rfl⟩, rfl⟩
      · have m4 : ((s.size : Int) == 4) = false := by simpa using n4
        go_enter Tryz.func73, Tryz.ntmps73
        go_wp2_with fail
        go_loopw [3, 4] (fun vv ii wr => ∃ (z : Int) (j : Nat), vv = .int .i64 z ∧ ii = .int .i64 (j : Int) ∧ 1 ≤ j ∧ j ≤ s.size ∧ w = wr) (fun _ ii _ => s.size - (intOf ii).toNat)
        case atStart => exact ⟨_, 1, rfl, rfl, by omega, by omega, rfl⟩
        case round =>
          obtain ⟨z, j, rfl, rfl, h1, h2, rfl⟩ := hrel
          by_cases hlt : j < s.size
          · have hlti : (j : Int) < (s.size : Int) := by omega
            have hiy := str_at s j hlt
            generalize (s[j].toNat : Int) = d at hiy
            go_wp2
            go_roundw
            case rel => exact ⟨_, j + 1, rfl, by go_num, by omega, by omega, trivial⟩
            case measure => simp [intOf]; omega
          · have hge : ¬ (j : Int) < (s.size : Int) := by omega
            go_wp2
            go_ret
            exact ⟨⟨_, rfl⟩, rfl⟩
end Go.Proofs.YtlgkjjbefoeabaaGreatDoor
namespace Go.Proofs.YtlgkjjbefoeabaaGreatDoor
open Go.RowKit

theorem str_from (s : ByteArray) (a : Nat) (h : a ≤ s.size) (W : World) : (Instr.slice 9 (.string s) (some (.int .i64 (a : Int))) none none).run Tryz.prog W = .ok (.string (s.extract a s.size)) W := by
  rw [run_slice_string_l W 9 s Tryz.underlying9 .i64 (a : Int) (by omega) (by omega)]
  simp
set_option maxRecDepth 100000 in
set_option maxHeartbeats 6400000 in
theorem rf_char (s : ByteArray) (hs : s.size ≤ 65536) (a : Nat) (ha : a < s.size) (w : World) : Calls Tryz.prog 42 #[.string s, .int .i64 (a : Int)] w (TokT s a w) := by
  by_cases h1 : a + 1 < s.size
  · have h1i : ¬ (s.size : Int) ≤ (a : Int) + 1 := by omega
    have hix := str_at s (a + 1) h1
    rw [show ((a + 1 : Nat) : Int) = (a : Int) + 1 by omega] at hix
    generalize ((s[a + 1]'h1).toNat : Int) = c at hix
    by_cases h32 : c < 32
    · go_enter Tryz.func42, Tryz.ntmps42
      have hR := fun W => rf_no10 (a : Int) 202 W
      go_wp2_with fail
      refine (hR _).mono ?_
      rintro e w2 ⟨v, rfl, hv, hb2⟩
      have B2 : Below (w.alloc (.cells #[.int .i64 0, .string ⟨#[]⟩, .int .i64 0, .int .i64 0] 40)).heap.size (w.alloc (.cells #[.int .i64 0, .string ⟨#[]⟩, .int .i64 0, .int .i64 0] 40)) w2 := (Below.alloc0 _ (.cells #[.int .i64 3, .string ⟨#[]⟩, .int .i64 0, .int .i64 (a : Int)] 40)).trans (hb2.mono (by simp))
      have HV := Hid.mk7 (And.intro hv.e ((Below.alloc0 w (.cells #[.int .i64 0, .string ⟨#[]⟩, .int .i64 0, .int .i64 0] 40)).trans (B2.mono (by simp))))
      obtain ⟨⟨c0, f0⟩, ⟨c1, f1⟩, ⟨c2, f2⟩, ⟨c3, f3⟩⟩ := newTok B2
      obtain ⟨lb, ly, la, lc, hve, _⟩ := hv
      subst hve
      clear hR hb2 B2 
      go_wp2
      refine bodyPost_ret (v := .tuple #[zeroTk.val, .int .i64 0, .slice (some ⟨lb, 0, none⟩) 1 1]) (by simp [results, Tryz.results42, go_sem, Tk.val, zeroTk, c0, c1, c2, c3]) rfl ?_
      exact .inl ⟨_, rfl, HV.out.1, Below.tok4 HV.out.2 zeroTk⟩
    · by_cases h127 : c = 127
      · subst h127
        go_enter Tryz.func42, Tryz.ntmps42
        have hR := fun W => rf_no10 (a : Int) 202 W
        go_wp2_with fail
        refine (hR _).mono ?_
        rintro e w2 ⟨v, rfl, hv, hb2⟩
        have B2 : Below (w.alloc (.cells #[.int .i64 0, .string ⟨#[]⟩, .int .i64 0, .int .i64 0] 40)).heap.size (w.alloc (.cells #[.int .i64 0, .string ⟨#[]⟩, .int .i64 0, .int .i64 0] 40)) w2 := (Below.alloc0 _ (.cells #[.int .i64 3, .string ⟨#[]⟩, .int .i64 0, .int .i64 (a : Int)] 40)).trans (hb2.mono (by simp))
        have HV := Hid.mk7 (And.intro hv.e ((Below.alloc0 w (.cells #[.int .i64 0, .string ⟨#[]⟩, .int .i64 0, .int .i64 0] 40)).trans (B2.mono (by simp))))
        obtain ⟨⟨c0, f0⟩, ⟨c1, f1⟩, ⟨c2, f2⟩, ⟨c3, f3⟩⟩ := newTok B2
        obtain ⟨lb, ly, la, lc, hve, _⟩ := hv
        subst hve
        clear hR hb2 B2 
        go_wp2
        refine bodyPost_ret (v := .tuple #[zeroTk.val, .int .i64 0, .slice (some ⟨lb, 0, none⟩) 1 1]) (by simp [results, Tryz.results42, go_sem, Tk.val, zeroTk, c0, c1, c2, c3]) rfl ?_
        exact .inl ⟨_, rfl, HV.out.1, Below.tok4 HV.out.2 zeroTk⟩
      · have e127 : (c == 127) = false := by simpa using h127
        by_cases h92 : c = 92
        · subst h92
          have hcut := str_from s (a + 2) (by omega)
          rw [show ((a + 2 : Nat) : Int) = (a : Int) + 2 by omega] at hcut
          have hE := fun W => rf_escape10 (s.extract (a + 2) s.size) (by rw [ByteArray.size_extract]; omega) W
          have hxs : (s.extract (a + 2) s.size).size = s.size - (a + 2) := by rw [ByteArray.size_extract]; omega
          have HXS := Hid.mk7 hxs
          clear hxs
          generalize s.extract (a + 2) s.size = x at hcut hE HXS
          go_enter Tryz.func42, Tryz.ntmps42
          go_wp2_with fail
          refine (hE _).mono ?_
          rintro e w3 ⟨⟨z, n, rfl, hn3, hnx⟩, hb3⟩
          have hnx2 : a + 2 + n ≤ s.size := by rw [HXS.out] at hnx; omega
          have B3 : Below (w.alloc (.cells #[.int .i64 0, .string ⟨#[]⟩, .int .i64 0, .int .i64 0] 40)).heap.size (w.alloc (.cells #[.int .i64 0, .string ⟨#[]⟩, .int .i64 0, .int .i64 0] 40)) w3 := (Below.alloc0 _ (.cells #[.int .i64 3, .string ⟨#[]⟩, .int .i64 0, .int .i64 (a : Int)] 40)).trans (hb3.mono (by simp))
          obtain ⟨⟨t0, z0⟩, ⟨t1, z1⟩, ⟨t2, z2⟩, ⟨t3, z3⟩⟩ := newTok B3
          obtain ⟨p0, p1, p2, p3⟩ := keptTok (w := w.alloc (.cells #[.int .i64 0, .string ⟨#[]⟩, .int .i64 0, .int .i64 0] 40)) (t := ⟨3, ⟨#[]⟩, 0, (a : Int)⟩) hb3
          have g2 : w3.frozen? ⟨(w.alloc (.cells #[.int .i64 0, .string ⟨#[]⟩, .int .i64 0, .int .i64 0] 40)).heap.size, 2, none⟩ = false := (hb3.frozen (p := ⟨(w.alloc (.cells #[.int .i64 0, .string ⟨#[]⟩, .int .i64 0, .int .i64 0] 40)).heap.size, 2, none⟩) (by simp)).trans (by rw [World.frozen?_alloc_new])
          simp only [World.size_alloc] at p0 p1 p2 p3 g2
          have HB3 := Hid.mk7 B3
          clear hE hb3 B3 hcut hnx
          by_cases hn0 : n = 0
          · subst hn0
            have hR := fun W => rf_no10 (a : Int) 202 W
            go_wp2_with fail
            refine (hR _).mono ?_
            rintro e w2 ⟨v, rfl, hv, hb2⟩
            have B2 : Below (w.alloc (.cells #[.int .i64 0, .string ⟨#[]⟩, .int .i64 0, .int .i64 0] 40)).heap.size (w.alloc (.cells #[.int .i64 0, .string ⟨#[]⟩, .int .i64 0, .int .i64 0] 40)) w2 := HB3.out.trans (hb2.mono HB3.out.size)
            have HV := Hid.mk7 (And.intro hv.e ((Below.alloc0 w (.cells #[.int .i64 0, .string ⟨#[]⟩, .int .i64 0, .int .i64 0] 40)).trans (B2.mono (by simp))))
            obtain ⟨⟨c0, f0⟩, ⟨c1, f1⟩, ⟨c2, f2⟩, ⟨c3, f3⟩⟩ := newTok B2
            obtain ⟨lb, ly, la, lc, hve, _⟩ := hv
            subst hve
            clear hR hb2 B2 p0 p1 p2 p3 g2 t0 t1 t2 t3 z0 z1 z2 z3
            go_wp2
            refine bodyPost_ret (v := .tuple #[zeroTk.val, .int .i64 0, .slice (some ⟨lb, 0, none⟩) 1 1]) (by simp [results, Tryz.results42, go_sem, Tk.val, zeroTk, c0, c1, c2, c3]) rfl ?_
            exact .inl ⟨_, rfl, HV.out.1, Below.tok4 HV.out.2 zeroTk⟩
          · have en0 : ((n : Int) == 0) = false := by simp; omega
            go_wp2
            refine bodyPost_ret (v := .tuple #[(⟨3, ⟨#[]⟩, z, (a : Int)⟩ : Tk).val, .int .i64 ((a + 2 + n : Nat) : Int), .slice none 0 0]) (by simp [results, Tryz.results42, go_sem, Tk.val, t0, t1, t2, t3]) rfl ?_
            exact .inr ⟨_, _, rfl, by omega, hnx2, Below.tok4 (Below.setCell ((Below.alloc0 w (.cells #[.int .i64 0, .string ⟨#[]⟩, .int .i64 0, .int .i64 0] 40)).trans (HB3.out.mono (by simp))) (by simp) _) ⟨3, ⟨#[]⟩, z, (a : Int)⟩⟩
        · have e92 : (c == 92) = false := by simpa using h92
          go_enter Tryz.func42, Tryz.ntmps42
          go_wp2_with fail
          clear hix
          go_loopw [10] (fun ii wr => ∃ n : Nat, ii = .int .i64 (n : Int) ∧ 1 ≤ n ∧ n ≤ 5 ∧ (w.alloc (.cells #[.int .i64 0, .string ⟨#[]⟩, .int .i64 0, .int .i64 0] 40)).alloc (.cells #[.int .i64 3, .string ⟨#[]⟩, .int .i64 0, .int .i64 (a : Int)] 40) = wr) (fun ii _ => 5 - (intOf ii).toNat)
          case atStart => exact ⟨1, rfl, by omega, by omega, rfl⟩
          case round =>
            obtain ⟨n, rfl, hn1, hn5, rfl⟩ := hrel
            by_cases h4 : n ≤ 4
            · have h4i : (n : Int) ≤ 4 := by omega
              by_cases hfit : a + 1 + n ≤ s.size
              · have hfiti : (a : Int) + 1 + (n : Int) ≤ (s.size : Int) := by omega
                have hcut := str_cut s (a + 1) (a + 1 + n) (by omega) hfit
                rw [show ((a + 1 : Nat) : Int) = (a : Int) + 1 by omega, show ((a + 1 + n : Nat) : Int) = (a : Int) + 1 + (n : Int) by omega] at hcut
                have hxs : (s.extract (a + 1) (a + 1 + n)).size = n := by rw [ByteArray.size_extract]; omega
                have hU := fun W => rf_UTF (s.extract (a + 1) (a + 1 + n)) (by omega) W
                have hP := fun W => rf_point10 (s.extract (a + 1) (a + 1 + n)) (by omega) (by omega) W
                generalize s.extract (a + 1) (a + 1 + n) = x at hcut hU hP
                clear hxs
                go_wp2_with fail
                refine (hU _).mono ?_
                rintro e w' ⟨⟨z, rfl⟩, rfl⟩
                by_cases hz : z < 0
                · go_wp2_with fail
                  refine (hP _).mono ?_
                  rintro e w' ⟨⟨y, rfl⟩, rfl⟩
                  clear hU hP hcut
                  go_wp2
                  refine bodyPost_ret (v := .tuple #[(⟨3, ⟨#[]⟩, y, (a : Int)⟩ : Tk).val, .int .i64 ((a + 1 + n : Nat) : Int), .slice none 0 0]) (by simp [results, Tryz.results42, go_sem, Tk.val]) rfl ?_
                  exact .inr ⟨_, _, rfl, by omega, hfit, (Below.alloc0 w _).trans ((Below.alloc0 _ _).mono (by simp))⟩
                · clear hU hP hcut
                  go_wp2
                  go_roundw
                  case rel => exact ⟨n + 1, by go_num, by omega, by omega, trivial⟩
                  case measure => simp [intOf]; omega
              · have hfiti : ¬ (a : Int) + 1 + (n : Int) ≤ (s.size : Int) := by omega
                have hR := fun W => rf_no10 (a : Int) 202 W
                go_wp2_with fail
                refine (hR _).mono ?_
                rintro e w2 ⟨v, rfl, hv, hb2⟩
                have B2 : Below (w.alloc (.cells #[.int .i64 0, .string ⟨#[]⟩, .int .i64 0, .int .i64 0] 40)).heap.size (w.alloc (.cells #[.int .i64 0, .string ⟨#[]⟩, .int .i64 0, .int .i64 0] 40)) w2 := (Below.alloc0 _ (.cells #[.int .i64 3, .string ⟨#[]⟩, .int .i64 0, .int .i64 (a : Int)] 40)).trans (hb2.mono (by simp))
                have HV := Hid.mk7 (And.intro hv.e ((Below.alloc0 w (.cells #[.int .i64 0, .string ⟨#[]⟩, .int .i64 0, .int .i64 0] 40)).trans (B2.mono (by simp))))
                obtain ⟨⟨c0, f0⟩, ⟨c1, f1⟩, ⟨c2, f2⟩, ⟨c3, f3⟩⟩ := newTok B2
                obtain ⟨lb, ly, la, lc, hve, _⟩ := hv
                subst hve
                clear hR hb2 B2 
                go_wp2
                refine bodyPost_ret (v := .tuple #[zeroTk.val, .int .i64 0, .slice (some ⟨lb, 0, none⟩) 1 1]) (by simp [results, Tryz.results42, go_sem, Tk.val, zeroTk, c0, c1, c2, c3]) rfl ?_
                exact .inl ⟨_, rfl, HV.out.1, Below.tok4 HV.out.2 zeroTk⟩
            · have h4i : ¬ (n : Int) ≤ 4 := by omega
              have hR := fun W => rf_no10 (a : Int) 202 W
              go_wp2_with fail
              refine (hR _).mono ?_
              rintro e w2 ⟨v, rfl, hv, hb2⟩
              have B2 : Below (w.alloc (.cells #[.int .i64 0, .string ⟨#[]⟩, .int .i64 0, .int .i64 0] 40)).heap.size (w.alloc (.cells #[.int .i64 0, .string ⟨#[]⟩, .int .i64 0, .int .i64 0] 40)) w2 := (Below.alloc0 _ (.cells #[.int .i64 3, .string ⟨#[]⟩, .int .i64 0, .int .i64 (a : Int)] 40)).trans (hb2.mono (by simp))
              have HV := Hid.mk7 (And.intro hv.e ((Below.alloc0 w (.cells #[.int .i64 0, .string ⟨#[]⟩, .int .i64 0, .int .i64 0] 40)).trans (B2.mono (by simp))))
              obtain ⟨⟨c0, f0⟩, ⟨c1, f1⟩, ⟨c2, f2⟩, ⟨c3, f3⟩⟩ := newTok B2
              obtain ⟨lb, ly, la, lc, hve, _⟩ := hv
              subst hve
              clear hR hb2 B2 
              go_wp2
              refine bodyPost_ret (v := .tuple #[zeroTk.val, .int .i64 0, .slice (some ⟨lb, 0, none⟩) 1 1]) (by simp [results, Tryz.results42, go_sem, Tk.val, zeroTk, c0, c1, c2, c3]) rfl ?_
              exact .inl ⟨_, rfl, HV.out.1, Below.tok4 HV.out.2 zeroTk⟩
  · have h1i : (s.size : Int) ≤ (a : Int) + 1 := by omega
    go_enter Tryz.func42, Tryz.ntmps42
    have hR := fun W => rf_no10 (a : Int) 202 W
    go_wp2_with fail
    refine (hR _).mono ?_
    rintro e w2 ⟨v, rfl, hv, hb2⟩
    have B2 : Below (w.alloc (.cells #[.int .i64 0, .string ⟨#[]⟩, .int .i64 0, .int .i64 0] 40)).heap.size (w.alloc (.cells #[.int .i64 0, .string ⟨#[]⟩, .int .i64 0, .int .i64 0] 40)) w2 := (Below.alloc0 _ (.cells #[.int .i64 3, .string ⟨#[]⟩, .int .i64 0, .int .i64 (a : Int)] 40)).trans (hb2.mono (by simp))
    have HV := Hid.mk7 (And.intro hv.e ((Below.alloc0 w (.cells #[.int .i64 0, .string ⟨#[]⟩, .int .i64 0, .int .i64 0] 40)).trans (B2.mono (by simp))))
    obtain ⟨⟨c0, f0⟩, ⟨c1, f1⟩, ⟨c2, f2⟩, ⟨c3, f3⟩⟩ := newTok B2
    obtain ⟨lb, ly, la, lc, hve, _⟩ := hv
    subst hve
    clear hR hb2 B2 
    go_wp2
    refine bodyPost_ret (v := .tuple #[zeroTk.val, .int .i64 0, .slice (some ⟨lb, 0, none⟩) 1 1]) (by simp [results, Tryz.results42, go_sem, Tk.val, zeroTk, c0, c1, c2, c3]) rfl ?_
    exact .inl ⟨_, rfl, HV.out.1, Below.tok4 HV.out.2 zeroTk⟩
end Go.Proofs.YtlgkjjbefoeabaaGreatDoor
namespace Go.Proofs.YtlgkjjbefoeabaaGreatDoor
open Go.RowKit

theorem Tryz.neqLk (a : Option Addr) (l c : Nat) (W : World) : (binOp .neq 24 (.slice a l c) (.slice none 0 0)).run Tryz.prog W = .ok (.bool (!a.isNone)) W := run_neq_slice_nil_any W _ _ a l c 0 0 Tryz.underlying24
def SGV : Array Value := #[.string ⟨#[61, 58, 61]⟩, .string ⟨#[61, 47, 61]⟩, .string ⟨#[45, 62]⟩, .string ⟨#[61, 61]⟩, .string ⟨#[47, 61]⟩, .string ⟨#[61, 60]⟩, .string ⟨#[62, 61]⟩, .string ⟨#[43, 43]⟩, .string ⟨#[45, 45]⟩, .string ⟨#[40]⟩, .string ⟨#[41]⟩, .string ⟨#[91]⟩, .string ⟨#[93]⟩, .string ⟨#[123]⟩, .string ⟨#[125]⟩, .string ⟨#[44]⟩, .string ⟨#[59]⟩, .string ⟨#[58]⟩, .string ⟨#[124]⟩, .string ⟨#[33]⟩, .string ⟨#[61]⟩, .string ⟨#[43]⟩, .string ⟨#[45]⟩, .string ⟨#[42]⟩, .string ⟨#[47]⟩, .string ⟨#[60]⟩, .string ⟨#[62]⟩]
theorem SGV_get : ∀ j, j < 27 → ∃ x : ByteArray, SGV[j]? = some (.string x) ∧ 1 ≤ x.size ∧ x.size ≤ 3
  | 0, _ => ⟨_, rfl, by decide, by decide⟩
  | 1, _ => ⟨_, rfl, by decide, by decide⟩
  | 2, _ => ⟨_, rfl, by decide, by decide⟩
  | 3, _ => ⟨_, rfl, by decide, by decide⟩
  | 4, _ => ⟨_, rfl, by decide, by decide⟩
  | 5, _ => ⟨_, rfl, by decide, by decide⟩
  | 6, _ => ⟨_, rfl, by decide, by decide⟩
  | 7, _ => ⟨_, rfl, by decide, by decide⟩
  | 8, _ => ⟨_, rfl, by decide, by decide⟩
  | 9, _ => ⟨_, rfl, by decide, by decide⟩
  | 10, _ => ⟨_, rfl, by decide, by decide⟩
  | 11, _ => ⟨_, rfl, by decide, by decide⟩
  | 12, _ => ⟨_, rfl, by decide, by decide⟩
  | 13, _ => ⟨_, rfl, by decide, by decide⟩
  | 14, _ => ⟨_, rfl, by decide, by decide⟩
  | 15, _ => ⟨_, rfl, by decide, by decide⟩
  | 16, _ => ⟨_, rfl, by decide, by decide⟩
  | 17, _ => ⟨_, rfl, by decide, by decide⟩
  | 18, _ => ⟨_, rfl, by decide, by decide⟩
  | 19, _ => ⟨_, rfl, by decide, by decide⟩
  | 20, _ => ⟨_, rfl, by decide, by decide⟩
  | 21, _ => ⟨_, rfl, by decide, by decide⟩
  | 22, _ => ⟨_, rfl, by decide, by decide⟩
  | 23, _ => ⟨_, rfl, by decide, by decide⟩
  | 24, _ => ⟨_, rfl, by decide, by decide⟩
  | 25, _ => ⟨_, rfl, by decide, by decide⟩
  | 26, _ => ⟨_, rfl, by decide, by decide⟩
  | j + 27, h => by omega
set_option maxRecDepth 100000 in
theorem rf_signs (w : World) : Calls Tryz.prog 43 #[] w fun e w' => e = .returned (.slice (some ⟨w.heap.size, 0, none⟩) 27 27) ∧ Below w.heap.size w w' ∧ ∀ j, j < 27 → ∃ x : ByteArray, w'.cell? ⟨w.heap.size, j, none⟩ = some (.string x) ∧ 1 ≤ x.size ∧ x.size ≤ 3 := by
  have hw : ∀ j, j < 27 → ∃ x : ByteArray, (w.alloc (.cells #[.string ⟨#[61, 58, 61]⟩, .string ⟨#[61, 47, 61]⟩, .string ⟨#[45, 62]⟩, .string ⟨#[61, 61]⟩, .string ⟨#[47, 61]⟩, .string ⟨#[61, 60]⟩, .string ⟨#[62, 61]⟩, .string ⟨#[43, 43]⟩, .string ⟨#[45, 45]⟩, .string ⟨#[40]⟩, .string ⟨#[41]⟩, .string ⟨#[91]⟩, .string ⟨#[93]⟩, .string ⟨#[123]⟩, .string ⟨#[125]⟩, .string ⟨#[44]⟩, .string ⟨#[59]⟩, .string ⟨#[58]⟩, .string ⟨#[124]⟩, .string ⟨#[33]⟩, .string ⟨#[61]⟩, .string ⟨#[43]⟩, .string ⟨#[45]⟩, .string ⟨#[42]⟩, .string ⟨#[47]⟩, .string ⟨#[60]⟩, .string ⟨#[62]⟩] 9)).cell? ⟨w.heap.size, j, none⟩ = some (.string x) ∧ 1 ≤ x.size ∧ x.size ≤ 3 := fun j hj => by
    obtain ⟨x, hx, h1, h2⟩ := SGV_get j hj
    refine ⟨x, ?_, h1, h2⟩
    rw [World.cell?_alloc_at _ _ _ _ rfl]
    exact hx
  have HW := Hid.mk7 hw
  clear hw
  go_enter Tryz.func43, Tryz.ntmps43
  go_wp2
  go_ret
  exact ⟨rfl, Below.alloc0 w _, HW.out⟩
set_option maxRecDepth 100000 in
set_option maxHeartbeats 6400000 in
theorem rf_token_small (s : ByteArray) (hs : s.size ≤ 65536) (a : Nat) (ha : a < s.size) (h : smallB (s[a].toNat : Int) = true) (w : World) : Calls Tryz.prog 16 #[.string s, .int .i64 (a : Int)] w (TokT s a w) := by
  have hix := str_at s a ha
  have hwd := fun W => rf_word s hs a (by omega) W
  have hsm := fun W => rf_small (s[a].toNat : Int) W
  have hup := fun W => rf_upper (s[a].toNat : Int) W
  have hdg := fun W => rf_digit (s[a].toNat : Int) W
  rw [h] at hsm
  have hw : wordB (s[a].toNat : Int) = true := by simp [wordB, alnumB, h]
  have HW := Hid.mk7 hw
  clear h hw hup hdg
  generalize hcE : (s[a].toNat : Int) = c at hix hsm
  clear hcE
  go_enter Tryz.func16, Tryz.ntmps16
  go_wp2_with fail
  refine (hwd _).mono ?_
  rintro e w' ⟨⟨j, rfl, hj1, hj2, hj3⟩, rfl⟩
  have HJ := Hid.mk7 hj3
  clear hj3 hwd
  have haj : a < j := HJ.out ha HW.out
  have hcut := str_cut s a j hj1 hj2
  have hRs := fun W => rf_reserved (s.extract a j) W
  generalize s.extract a j = x at hcut hRs
  go_wp2_with fail
  refine (hsm _).mono ?_
  rintro e w' ⟨rfl, rfl⟩
  go_wp2_with fail
  refine (hRs _).mono ?_
  rintro e w3 ⟨⟨b, rfl⟩, hb3⟩
  have HB3 := Hid.mk7 hb3
  clear hRs hb3
  cases b with
  | true =>
    obtain ⟨⟨t0, z0⟩, ⟨t1, z1⟩, ⟨t2, z2⟩, ⟨t3, z3⟩⟩ := newTok HB3.out
    go_wp2
    refine bodyPost_ret (v := .tuple #[(⟨4, x, 0, (a : Int)⟩ : Tk).val, .int .i64 ((j : Nat) : Int), .slice none 0 0]) (by simp [results, Tryz.results16, go_sem, Tk.val, t0, t1, t2, t3]) rfl ?_
    exact .inr ⟨_, _, rfl, haj, hj2, Below.tok4 ((Below.alloc0 w _).trans (HB3.out.mono (by simp))) ⟨4, x, 0, (a : Int)⟩⟩
  | false =>
    go_wp2_with fail
    refine (hsm _).mono ?_
    rintro e w' ⟨rfl, rfl⟩
    clear hcut hix hsm
    have hA := fun W => rf_atomScan s hs a ha W
    have hnq := Tryz.neqLk
    go_wp2_with fail
    refine (hA _).mono ?_
    rintro e w4 (⟨v, rfl, hv, hb⟩ | ⟨x, k, rfl, hk1, hk2, hb⟩)
    · have HB4 := Hid.mk7 (HB3.out.trans (hb.mono HB3.out.size))
      have hO := rf_over ⟨#[108, 101, 120]⟩ (a : Int)
      obtain ⟨lb, ly, la, lc, hve, l0, l1, l2⟩ := hv
      subst hve
      have hO := hO lc w4 ⟨lb, ly, la, lc, rfl, l0, l1, l2⟩
      clear hA hb HB3
      go_wp2_with fail
      refine hO.mono ?_
      rintro e w5 ⟨v, rfl, hv, hb5⟩
      have HB3 := Hid.mk7 (HB4.out.trans (hb5.mono HB4.out.size))
      have HE := Hid.mk7 hv
      obtain ⟨av, nv, cv, hve⟩ := hv
      subst hve
      clear hO hb5 l0 l1 l2 HB4
      obtain ⟨⟨t0, z0⟩, ⟨t1, z1⟩, ⟨t2, z2⟩, ⟨t3, z3⟩⟩ := newTok HB3.out
      go_wp2
      refine bodyPost_ret (v := .tuple #[zeroTk.val, .int .i64 0, .slice (some av) (nv + 1) cv]) (by simp [results, Tryz.results16, go_sem, Tk.val, zeroTk, t0, t1, t2, t3]) rfl ?_
      exact .inl ⟨_, rfl, HE.out, Below.tok4 ((Below.alloc0 w _).trans (HB3.out.mono (by simp))) zeroTk⟩
    · have HB4 := Hid.mk7 (HB3.out.trans (hb.mono HB3.out.size))
      clear hA hb HB3
      have HB3 := HB4
      obtain ⟨⟨t0, z0⟩, ⟨t1, z1⟩, ⟨t2, z2⟩, ⟨t3, z3⟩⟩ := newTok HB3.out
      go_wp2
      refine bodyPost_ret (v := .tuple #[(⟨1, x, 0, (a : Int)⟩ : Tk).val, .int .i64 ((k : Nat) : Int), .slice none 0 0]) (by simp [results, Tryz.results16, go_sem, Tk.val, t0, t1, t2, t3]) rfl ?_
      exact .inr ⟨_, _, rfl, hk1, hk2, Below.tok4 ((Below.alloc0 w _).trans (HB3.out.mono (by simp))) ⟨1, x, 0, (a : Int)⟩⟩
set_option maxRecDepth 100000 in
set_option maxHeartbeats 6400000 in
theorem rf_token_quote (s : ByteArray) (hs : s.size ≤ 65536) (a : Nat) (ha : a < s.size) (h : (s[a].toNat : Int) = 39) (w : World) : Calls Tryz.prog 16 #[.string s, .int .i64 (a : Int)] w (TokT s a w) := by
  have hix := str_at s a ha
  have hwd := fun W => rf_word s hs a (by omega) W
  have hsm := fun W => rf_small (s[a].toNat : Int) W
  have hup := fun W => rf_upper (s[a].toNat : Int) W
  have hdg := fun W => rf_digit (s[a].toNat : Int) W
  have e39 : smallB 39 = false := by decide
  rw [h] at hix hsm
  rw [e39] at hsm
  clear hup hdg
  go_enter Tryz.func16, Tryz.ntmps16
  go_wp2_with fail
  refine (hwd _).mono ?_
  rintro e w' ⟨⟨j, rfl, hj1, hj2, hj3⟩, rfl⟩
  have HJ := Hid.mk7 hj3
  clear hj3 hwd
  go_wp2_with fail
  refine (hsm _).mono ?_
  rintro e w' ⟨rfl, rfl⟩
  go_wp2_with fail
  refine (hsm _).mono ?_
  rintro e w' ⟨rfl, rfl⟩
  clear hix hsm
  have HB3 : Hid (Below (w.alloc (.cells #[.int .i64 0, .string ⟨#[]⟩, .int .i64 0, .int .i64 0] 40)).heap.size (w.alloc (.cells #[.int .i64 0, .string ⟨#[]⟩, .int .i64 0, .int .i64 0] 40)) (w.alloc (.cells #[.int .i64 0, .string ⟨#[]⟩, .int .i64 0, .int .i64 0] 40))) := Below.refl _ _
  have hA := fun W => rf_atomScan s hs a ha W
  have hnq := Tryz.neqLk
  go_wp2_with fail
  refine (hA _).mono ?_
  rintro e w4 (⟨v, rfl, hv, hb⟩ | ⟨x, k, rfl, hk1, hk2, hb⟩)
  · have HB4 := Hid.mk7 (HB3.out.trans (hb.mono HB3.out.size))
    have hO := rf_over ⟨#[108, 101, 120]⟩ (a : Int)
    obtain ⟨lb, ly, la, lc, hve, l0, l1, l2⟩ := hv
    subst hve
    have hO := hO lc w4 ⟨lb, ly, la, lc, rfl, l0, l1, l2⟩
    clear hA hb HB3
    go_wp2_with fail
    refine hO.mono ?_
    rintro e w5 ⟨v, rfl, hv, hb5⟩
    have HB3 := Hid.mk7 (HB4.out.trans (hb5.mono HB4.out.size))
    have HE := Hid.mk7 hv
    obtain ⟨av, nv, cv, hve⟩ := hv
    subst hve
    clear hO hb5 l0 l1 l2 HB4
    obtain ⟨⟨t0, z0⟩, ⟨t1, z1⟩, ⟨t2, z2⟩, ⟨t3, z3⟩⟩ := newTok HB3.out
    go_wp2
    refine bodyPost_ret (v := .tuple #[zeroTk.val, .int .i64 0, .slice (some av) (nv + 1) cv]) (by simp [results, Tryz.results16, go_sem, Tk.val, zeroTk, t0, t1, t2, t3]) rfl ?_
    exact .inl ⟨_, rfl, HE.out, Below.tok4 ((Below.alloc0 w _).trans (HB3.out.mono (by simp))) zeroTk⟩
  · have HB4 := Hid.mk7 (HB3.out.trans (hb.mono HB3.out.size))
    clear hA hb HB3
    have HB3 := HB4
    obtain ⟨⟨t0, z0⟩, ⟨t1, z1⟩, ⟨t2, z2⟩, ⟨t3, z3⟩⟩ := newTok HB3.out
    go_wp2
    refine bodyPost_ret (v := .tuple #[(⟨1, x, 0, (a : Int)⟩ : Tk).val, .int .i64 ((k : Nat) : Int), .slice none 0 0]) (by simp [results, Tryz.results16, go_sem, Tk.val, t0, t1, t2, t3]) rfl ?_
    exact .inr ⟨_, _, rfl, hk1, hk2, Below.tok4 ((Below.alloc0 w _).trans (HB3.out.mono (by simp))) ⟨1, x, 0, (a : Int)⟩⟩
set_option maxRecDepth 100000 in
set_option maxHeartbeats 6400000 in
theorem rf_token_upper (s : ByteArray) (hs : s.size ≤ 65536) (a : Nat) (ha : a < s.size) (hn : smallB (s[a].toNat : Int) = false) (h39 : ¬ (s[a].toNat : Int) = 39) (h : upB (s[a].toNat : Int) = true) (w : World) : Calls Tryz.prog 16 #[.string s, .int .i64 (a : Int)] w (TokT s a w) := by
  have hix := str_at s a ha
  have hwd := fun W => rf_word s hs a (by omega) W
  have hsm := fun W => rf_small (s[a].toNat : Int) W
  have hup := fun W => rf_upper (s[a].toNat : Int) W
  have hdg := fun W => rf_digit (s[a].toNat : Int) W
  rw [hn] at hsm
  rw [h] at hup
  have hw : wordB (s[a].toNat : Int) = true := by
    simp [upB] at h
    rcases h with h | h
    · simp [wordB, alnumB, h]
    · simp [wordB, h]
  have HW := Hid.mk7 hw
  clear h hw hdg hn
  generalize hcE : (s[a].toNat : Int) = c at hix hsm hup h39
  clear hcE
  have e39 : (c == 39) = false := by simpa using h39
  go_enter Tryz.func16, Tryz.ntmps16
  go_wp2_with fail
  refine (hwd _).mono ?_
  rintro e w' ⟨⟨j, rfl, hj1, hj2, hj3⟩, rfl⟩
  have HJ := Hid.mk7 hj3
  clear hj3 hwd
  have haj : a < j := HJ.out ha HW.out
  have hcut := str_cut s a j hj1 hj2
  generalize s.extract a j = x at hcut
  go_wp2_with fail
  refine (hsm _).mono ?_
  rintro e w' ⟨rfl, rfl⟩
  go_wp2_with fail
  refine (hsm _).mono ?_
  rintro e w' ⟨rfl, rfl⟩
  go_wp2_with fail
  refine (hup _).mono ?_
  rintro e w' ⟨rfl, rfl⟩
  by_cases h255 : (255 : Int) < (j : Int) - (a : Int)
  · have hR := fun W => rf_no10 (a : Int) 4 W
    go_wp2_with fail
    refine (hR _).mono ?_
    rintro e w2 ⟨v, rfl, hv, hb2⟩
    have HV := Hid.mk7 (And.intro hv.e ((Below.alloc0 w _).trans (hb2.mono (by simp))))
    obtain ⟨⟨c0, f0⟩, ⟨c1, f1⟩, ⟨c2, f2⟩, ⟨c3, f3⟩⟩ := newTok hb2
    obtain ⟨lb, ly, la, lc, hve, _⟩ := hv
    subst hve
    clear hR hb2
    go_wp2
    refine bodyPost_ret (v := .tuple #[zeroTk.val, .int .i64 0, .slice (some ⟨lb, 0, none⟩) 1 1]) (by simp [results, Tryz.results16, go_sem, Tk.val, zeroTk, c0, c1, c2, c3]) rfl ?_
    exact .inl ⟨_, rfl, HV.out.1, Below.tok4 HV.out.2 zeroTk⟩
  · go_wp2
    refine bodyPost_ret (v := .tuple #[(⟨2, x, 0, (a : Int)⟩ : Tk).val, .int .i64 ((j : Nat) : Int), .slice none 0 0]) (by simp [results, Tryz.results16, go_sem, Tk.val]) rfl ?_
    exact .inr ⟨_, _, rfl, haj, hj2, Below.alloc0 w _⟩
set_option maxRecDepth 100000 in
set_option maxHeartbeats 6400000 in
theorem rf_token_digit (s : ByteArray) (hs : s.size ≤ 65536) (a : Nat) (ha : a < s.size) (hn : smallB (s[a].toNat : Int) = false) (h39 : ¬ (s[a].toNat : Int) = 39) (hu : upB (s[a].toNat : Int) = false) (h : digB (s[a].toNat : Int) = true) (w : World) : Calls Tryz.prog 16 #[.string s, .int .i64 (a : Int)] w (TokT s a w) := by
  have hix := str_at s a ha
  have hwd := fun W => rf_word s hs a (by omega) W
  have hsm := fun W => rf_small (s[a].toNat : Int) W
  have hup := fun W => rf_upper (s[a].toNat : Int) W
  have hdg := fun W => rf_digit (s[a].toNat : Int) W
  rw [hn] at hsm
  rw [hu] at hup
  rw [h] at hdg
  have HH := Hid.mk7 h
  clear h hn hu
  generalize hcE : (s[a].toNat : Int) = c at hix hsm hup hdg h39
  clear hcE
  have e39 : (c == 39) = false := by simpa using h39
  go_enter Tryz.func16, Tryz.ntmps16
  go_wp2_with fail
  refine (hwd _).mono ?_
  rintro e w' ⟨⟨j, rfl, hj1, hj2, hj3⟩, rfl⟩
  have HJ := Hid.mk7 hj3
  clear hj3 hwd
  go_wp2_with fail
  refine (hsm _).mono ?_
  rintro e w' ⟨rfl, rfl⟩
  go_wp2_with fail
  refine (hsm _).mono ?_
  rintro e w' ⟨rfl, rfl⟩
  go_wp2_with fail
  refine (hup _).mono ?_
  rintro e w' ⟨rfl, rfl⟩
  go_wp2_with fail
  refine (hdg _).mono ?_
  rintro e w' ⟨rfl, rfl⟩
  clear hix hsm hup hdg
  have hF := fun W => rf_figure s hs a ha HH.out W
  go_wp2_with fail
  refine (hF _).mono ?_
  rintro e w4 (⟨v, rfl, hv, hb⟩ | ⟨t, k, rfl, hk1, hk2, hb⟩)
  · have HE := Hid.mk7 hv
    have HB3 := Hid.mk7 hb
    obtain ⟨av, nv, cv, hve⟩ := hv
    subst hve
    simp only [Tk.val, zeroTk]
    clear hF hb
    obtain ⟨⟨t0, z0⟩, ⟨t1, z1⟩, ⟨t2, z2⟩, ⟨t3, z3⟩⟩ := newTok HB3.out
    go_wp2
    refine bodyPost_ret (v := .tuple #[zeroTk.val, .int .i64 0, .slice (some av) (nv + 1) cv]) (by simp [results, Tryz.results16, go_sem, Tk.val, zeroTk, t0, t1, t2, t3]) rfl ?_
    exact .inl ⟨_, rfl, HE.out, Below.tok4 ((Below.alloc0 w _).trans (HB3.out.mono (by simp))) zeroTk⟩
  · have HB3 := Hid.mk7 hb
    obtain ⟨tk, tt, tn, ta⟩ := t
    simp only [Tk.val]
    clear hF hb
    obtain ⟨⟨t0, z0⟩, ⟨t1, z1⟩, ⟨t2, z2⟩, ⟨t3, z3⟩⟩ := newTok HB3.out
    go_wp2
    refine bodyPost_ret (v := .tuple #[(⟨tk, tt, tn, ta⟩ : Tk).val, .int .i64 ((k : Nat) : Int), .slice none 0 0]) (by simp [results, Tryz.results16, go_sem, Tk.val, t0, t1, t2, t3]) rfl ?_
    exact .inr ⟨_, _, rfl, hk1, hk2, Below.tok4 ((Below.alloc0 w _).trans (HB3.out.mono (by simp))) ⟨tk, tt, tn, ta⟩⟩
set_option maxRecDepth 100000 in
set_option maxHeartbeats 6400000 in
theorem rf_token_char (s : ByteArray) (hs : s.size ≤ 65536) (a : Nat) (ha : a < s.size) (h : (s[a].toNat : Int) = 36) (w : World) : Calls Tryz.prog 16 #[.string s, .int .i64 (a : Int)] w (TokT s a w) := by
  have hix := str_at s a ha
  have hwd := fun W => rf_word s hs a (by omega) W
  have hsm := fun W => rf_small (s[a].toNat : Int) W
  have hup := fun W => rf_upper (s[a].toNat : Int) W
  have hdg := fun W => rf_digit (s[a].toNat : Int) W
  have e1 : smallB 36 = false := by decide
  have e2 : upB 36 = false := by decide
  have e3 : digB 36 = false := by decide
  rw [h] at hix hsm hup hdg
  rw [e1] at hsm
  rw [e2] at hup
  rw [e3] at hdg
  go_enter Tryz.func16, Tryz.ntmps16
  go_wp2_with fail
  refine (hwd _).mono ?_
  rintro e w' ⟨⟨j, rfl, hj1, hj2, hj3⟩, rfl⟩
  have HJ := Hid.mk7 hj3
  clear hj3 hwd
  go_wp2_with fail
  refine (hsm _).mono ?_
  rintro e w' ⟨rfl, rfl⟩
  go_wp2_with fail
  refine (hsm _).mono ?_
  rintro e w' ⟨rfl, rfl⟩
  go_wp2_with fail
  refine (hup _).mono ?_
  rintro e w' ⟨rfl, rfl⟩
  go_wp2_with fail
  refine (hdg _).mono ?_
  rintro e w' ⟨rfl, rfl⟩
  clear hix hsm hup hdg
  have hF := fun W => rf_char s hs a ha W
  go_wp2_with fail
  refine (hF _).mono ?_
  rintro e w4 (⟨v, rfl, hv, hb⟩ | ⟨t, k, rfl, hk1, hk2, hb⟩)
  · have HE := Hid.mk7 hv
    have HB3 := Hid.mk7 hb
    obtain ⟨av, nv, cv, hve⟩ := hv
    subst hve
    simp only [Tk.val, zeroTk]
    clear hF hb
    obtain ⟨⟨t0, z0⟩, ⟨t1, z1⟩, ⟨t2, z2⟩, ⟨t3, z3⟩⟩ := newTok HB3.out
    go_wp2
    refine bodyPost_ret (v := .tuple #[zeroTk.val, .int .i64 0, .slice (some av) (nv + 1) cv]) (by simp [results, Tryz.results16, go_sem, Tk.val, zeroTk, t0, t1, t2, t3]) rfl ?_
    exact .inl ⟨_, rfl, HE.out, Below.tok4 ((Below.alloc0 w _).trans (HB3.out.mono (by simp))) zeroTk⟩
  · have HB3 := Hid.mk7 hb
    obtain ⟨tk, tt, tn, ta⟩ := t
    simp only [Tk.val]
    clear hF hb
    obtain ⟨⟨t0, z0⟩, ⟨t1, z1⟩, ⟨t2, z2⟩, ⟨t3, z3⟩⟩ := newTok HB3.out
    go_wp2
    refine bodyPost_ret (v := .tuple #[(⟨tk, tt, tn, ta⟩ : Tk).val, .int .i64 ((k : Nat) : Int), .slice none 0 0]) (by simp [results, Tryz.results16, go_sem, Tk.val, t0, t1, t2, t3]) rfl ?_
    exact .inr ⟨_, _, rfl, hk1, hk2, Below.tok4 ((Below.alloc0 w _).trans (HB3.out.mono (by simp))) ⟨tk, tt, tn, ta⟩⟩
set_option maxRecDepth 100000 in
set_option maxHeartbeats 6400000 in
theorem rf_token_dot (s : ByteArray) (hs : s.size ≤ 65536) (a : Nat) (ha : a < s.size) (h : (s[a].toNat : Int) = 46) (w : World) : Calls Tryz.prog 16 #[.string s, .int .i64 (a : Int)] w (TokT s a w) := by
  have hix := str_at s a ha
  have hwd := fun W => rf_word s hs a (by omega) W
  have hsm := fun W => rf_small (s[a].toNat : Int) W
  have hup := fun W => rf_upper (s[a].toNat : Int) W
  have hdg := fun W => rf_digit (s[a].toNat : Int) W
  have e1 : smallB 46 = false := by decide
  have e2 : upB 46 = false := by decide
  have e3 : digB 46 = false := by decide
  rw [h] at hix hsm hup hdg
  rw [e1] at hsm
  rw [e2] at hup
  rw [e3] at hdg
  go_enter Tryz.func16, Tryz.ntmps16
  go_wp2_with fail
  refine (hwd _).mono ?_
  rintro e w' ⟨⟨j, rfl, hj1, hj2, hj3⟩, rfl⟩
  have HJ := Hid.mk7 hj3
  clear hj3 hwd
  go_wp2_with fail
  refine (hsm _).mono ?_
  rintro e w' ⟨rfl, rfl⟩
  go_wp2_with fail
  refine (hsm _).mono ?_
  rintro e w' ⟨rfl, rfl⟩
  go_wp2_with fail
  refine (hup _).mono ?_
  rintro e w' ⟨rfl, rfl⟩
  go_wp2_with fail
  refine (hdg _).mono ?_
  rintro e w' ⟨rfl, rfl⟩
  clear hsm hup hdg
  by_cases h1 : a + 1 < s.size
  · have h1i : (a : Int) + 1 < (s.size : Int) := by omega
    have hiy := str_at s (a + 1) h1
    rw [show ((a + 1 : Nat) : Int) = (a : Int) + 1 by omega] at hiy
    have hbl := fun W => rf_blank ((s[a + 1]'h1).toNat : Int) W
    generalize ((s[a + 1]'h1).toNat : Int) = d at hiy hbl
    cases hb : blankB d with
    | true =>
      rw [hb] at hbl
      go_wp2_with fail
      refine (hbl _).mono ?_
      rintro e w' ⟨rfl, rfl⟩
      go_wp2
      refine bodyPost_ret (v := .tuple #[(⟨6, ⟨#[]⟩, 0, (a : Int)⟩ : Tk).val, .int .i64 ((a + 1 : Nat) : Int), .slice none 0 0]) (by simp [results, Tryz.results16, go_sem, Tk.val]) rfl ?_
      exact .inr ⟨_, _, rfl, by omega, by omega, Below.alloc0 w _⟩
    | false =>
      rw [hb] at hbl
      by_cases h37 : d = 37
      · subst h37
        go_wp2_with fail
        refine (hbl _).mono ?_
        rintro e w' ⟨rfl, rfl⟩
        go_wp2
        refine bodyPost_ret (v := .tuple #[(⟨6, ⟨#[]⟩, 0, (a : Int)⟩ : Tk).val, .int .i64 ((a + 1 : Nat) : Int), .slice none 0 0]) (by simp [results, Tryz.results16, go_sem, Tk.val]) rfl ?_
        exact .inr ⟨_, _, rfl, by omega, by omega, Below.alloc0 w _⟩
      · have e37 : (d == 37) = false := by simpa using h37
        go_wp2_with fail
        refine (hbl _).mono ?_
        rintro e w' ⟨rfl, rfl⟩
        have hR := fun W => rf_no10 (a : Int) 200 W
        go_wp2_with fail
        refine (hR _).mono ?_
        rintro e w2 ⟨v, rfl, hv, hb2⟩
        have HV := Hid.mk7 (And.intro hv.e ((Below.alloc0 w _).trans (hb2.mono (by simp))))
        obtain ⟨⟨c0, f0⟩, ⟨c1, f1⟩, ⟨c2, f2⟩, ⟨c3, f3⟩⟩ := newTok hb2
        obtain ⟨lb, ly, la, lc, hve, _⟩ := hv
        subst hve
        clear hR hb2
        go_wp2
        refine bodyPost_ret (v := .tuple #[zeroTk.val, .int .i64 0, .slice (some ⟨lb, 0, none⟩) 1 1]) (by simp [results, Tryz.results16, go_sem, Tk.val, zeroTk, c0, c1, c2, c3]) rfl ?_
        exact .inl ⟨_, rfl, HV.out.1, Below.tok4 HV.out.2 zeroTk⟩
  · have h1i : ¬ (a : Int) + 1 < (s.size : Int) := by omega
    go_wp2
    refine bodyPost_ret (v := .tuple #[(⟨6, ⟨#[]⟩, 0, (a : Int)⟩ : Tk).val, .int .i64 ((a + 1 : Nat) : Int), .slice none 0 0]) (by simp [results, Tryz.results16, go_sem, Tk.val]) rfl ?_
    exact .inr ⟨_, _, rfl, by omega, by omega, Below.alloc0 w _⟩
set_option maxRecDepth 100000 in
set_option maxHeartbeats 6400000 in
theorem rf_token_sign (s : ByteArray) (hs : s.size ≤ 65536) (a : Nat) (ha : a < s.size) (hn : smallB (s[a].toNat : Int) = false) (h39 : ¬ (s[a].toNat : Int) = 39) (hu : upB (s[a].toNat : Int) = false) (hdf : digB (s[a].toNat : Int) = false) (h36 : ¬ (s[a].toNat : Int) = 36) (h46 : ¬ (s[a].toNat : Int) = 46) (w : World) : Calls Tryz.prog 16 #[.string s, .int .i64 (a : Int)] w (TokT s a w) := by
  have hix := str_at s a ha
  have hwd := fun W => rf_word s hs a (by omega) W
  have hsm := fun W => rf_small (s[a].toNat : Int) W
  have hup := fun W => rf_upper (s[a].toNat : Int) W
  have hdg := fun W => rf_digit (s[a].toNat : Int) W
  rw [hn] at hsm
  rw [hu] at hup
  rw [hdf] at hdg
  clear hn hu hdf
  generalize hcE : (s[a].toNat : Int) = c at hix hsm hup hdg h39 h36 h46
  clear hcE
  have e39 : (c == 39) = false := by simpa using h39
  have e36 : (c == 36) = false := by simpa using h36
  have e46 : (c == 46) = false := by simpa using h46
  clear h39 h36 h46
  go_enter Tryz.func16, Tryz.ntmps16
  go_wp2_with fail
  refine (hwd _).mono ?_
  rintro e w' ⟨⟨j, rfl, hj1, hj2, hj3⟩, rfl⟩
  have HJ := Hid.mk7 hj3
  clear hj3 hwd
  go_wp2_with fail
  refine (hsm _).mono ?_
  rintro e w' ⟨rfl, rfl⟩
  go_wp2_with fail
  refine (hsm _).mono ?_
  rintro e w' ⟨rfl, rfl⟩
  go_wp2_with fail
  refine (hup _).mono ?_
  rintro e w' ⟨rfl, rfl⟩
  go_wp2_with fail
  refine (hdg _).mono ?_
  rintro e w' ⟨rfl, rfl⟩
  clear hup hdg
  have hG := rf_signs
  go_wp2_with fail
  refine (hG _).mono ?_
  rintro e w4 ⟨rfl, HS⟩
  go_wp2_with fail
  obtain ⟨hb4, hcells⟩ := HS
  have HB3 := Hid.mk7 hb4
  have HCs := Hid.mk7 hcells
  have l4 : (w.alloc (.cells #[.int .i64 0, .string ⟨#[]⟩, .int .i64 0, .int .i64 0] 40)).heap.size < w4.heap.size := by
    obtain ⟨x, hx, _⟩ := hcells 0 (by omega)
    exact World.block_lt_of_cell? w4 _ hx
  simp only [World.size_alloc] at l4
  clear hb4 hcells hG hix hsm
  go_loopw [13] (fun ii wr => ∃ k : Nat, ii = .int .i64 (k : Int) ∧ k ≤ 27 ∧ Below w4.heap.size w4 wr) (fun ii _ => 27 - (intOf ii).toNat)
  case atStart => exact ⟨0, rfl, by omega, Below.refl _ _⟩
  case round =>
    obtain ⟨k, rfl, hk27, hbr⟩ := hrel
    have HBr := Hid.mk7 hbr
    clear hbr
    by_cases hk : k < 27
    · have hki : (k : Int) < 27 := by omega
      obtain ⟨x, hx, hx1, hx3⟩ := HCs.out k hk
      have hcx := (HBr.out.cell (p := ⟨(w.alloc (.cells #[.int .i64 0, .string ⟨#[]⟩, .int .i64 0, .int .i64 0] 40)).heap.size, k, none⟩) (by simp; omega)).trans hx
      simp only [World.size_alloc] at hcx
      clear hx
      have lr : w.heap.size + 1 < wr.heap.size := World.block_lt_of_cell? wr _ hcx
      by_cases hfit : a + x.size ≤ s.size
      · have hg : (x.size : Int) ≤ (s.size : Int) - (a : Int) := by omega
        have hcut := str_cut s a (a + x.size) (by omega) hfit
        rw [show ((a + x.size : Nat) : Int) = (a : Int) + (x.size : Int) by omega] at hcut
        generalize s.extract a (a + x.size) = y at hcut
        by_cases hy : y = x
        · subst hy
          have HB5 := Hid.mk7 (HB3.out.trans (HBr.out.mono HB3.out.size))
          obtain ⟨⟨t0, z0⟩, ⟨t1, z1⟩, ⟨t2, z2⟩, ⟨t3, z3⟩⟩ := newTok HB5.out
          go_wp2_with fail
          go_quiet (fail)
          go_wp2_with fail
          go_region
          all_goals
            go_wp2
            refine bodyPost_ret (v := .tuple #[(⟨5, y, 0, (a : Int)⟩ : Tk).val, .int .i64 ((a + y.size : Nat) : Int), .slice none 0 0]) (by simp [results, Tryz.results16, go_sem, Tk.val, t0, t1, t2, t3]) rfl ?_
            exact .inr ⟨_, _, rfl, by omega, hfit, Below.tok4 (((Below.alloc0 w _).trans (HB5.out.mono (by simp))).trans ((drewN_below wr _).mono (Nat.le_trans (by simp) HB5.out.size))) ⟨5, y, 0, (a : Int)⟩⟩
        · have hyb : (y.toList == x.toList) = false := by simpa using bytes_ne hy
          have hg2 : decide (y.toList = x.toList) = false := by simpa using bytes_ne hy
          go_wp2_with fail
          go_quiet (fail)
          go_wp2
          go_roundw
          case rel => exact ⟨k + 1, by go_num, by omega, HBr.out.trans ((drewN_below wr _).mono HBr.out.size)⟩
          case measure => simp [intOf]; omega
      · have hg : decide ((x.size : Int) ≤ (s.size : Int) - (a : Int)) = false := by simp; omega
        go_wp2_with fail
        go_quiet (fail)
        go_wp2
        go_roundw
        case rel => exact ⟨k + 1, by go_num, by omega, HBr.out.trans ((drewN_below wr _).mono HBr.out.size)⟩
        case measure => simp [intOf]; omega
    · have hki : ¬ (k : Int) < 27 := by omega
      have hR := fun W => rf_no10 (a : Int) 200 W
      go_wp2_with fail
      refine (hR _).mono ?_
      rintro e w6 ⟨v, rfl, hv, hb6⟩
      have HB7 := Hid.mk7 ((HB3.out.trans (HBr.out.mono HB3.out.size)).trans (hb6.mono (Nat.le_trans HB3.out.size HBr.out.size)))
      have HE := Hid.mk7 hv.e
      obtain ⟨lb, ly, la, lc, hve, _⟩ := hv
      subst hve
      clear hR hb6
      obtain ⟨⟨t0, z0⟩, ⟨t1, z1⟩, ⟨t2, z2⟩, ⟨t3, z3⟩⟩ := newTok HB7.out
      go_wp2
      refine bodyPost_ret (v := .tuple #[zeroTk.val, .int .i64 0, .slice (some ⟨lb, 0, none⟩) 1 1]) (by simp [results, Tryz.results16, go_sem, Tk.val, zeroTk, t0, t1, t2, t3]) rfl ?_
      exact .inl ⟨_, rfl, HE.out, Below.tok4 ((Below.alloc0 w _).trans (HB7.out.mono (by simp))) zeroTk⟩
theorem rf_token (s : ByteArray) (hs : s.size ≤ 65536) (a : Nat) (ha : a < s.size) (w : World) : Calls Tryz.prog 16 #[.string s, .int .i64 (a : Int)] w (TokT s a w) := by
  cases hn : smallB (s[a].toNat : Int) with
  | true => exact rf_token_small s hs a ha hn w
  | false =>
    by_cases h39 : (s[a].toNat : Int) = 39
    · exact rf_token_quote s hs a ha h39 w
    · cases hu : upB (s[a].toNat : Int) with
      | true => exact rf_token_upper s hs a ha hn h39 hu w
      | false =>
        cases hd : digB (s[a].toNat : Int) with
        | true => exact rf_token_digit s hs a ha hn h39 hu hd w
        | false =>
          by_cases h36 : (s[a].toNat : Int) = 36
          · exact rf_token_char s hs a ha h36 w
          · by_cases h46 : (s[a].toNat : Int) = 46
            · exact rf_token_dot s hs a ha h46 w
            · exact rf_token_sign s hs a ha hn h39 hu hd h36 h46 w
end Go.Proofs.YtlgkjjbefoeabaaGreatDoor
namespace Go.Proofs.YtlgkjjbefoeabaaGreatDoor
open Go.RowKit

/-- Some tokens, or a refusal. -/
def ScanTold (w : World) (e : Ending) (w' : World) : Prop :=
  (∃ v, e = .returned (.tuple #[.slice none 0 0, v]) ∧ LkE v ∧ Below w.heap.size w w') ∨ ∃ V T, e = .returned (.tuple #[V, .slice none 0 0]) ∧ OwnK 4 w' V T.length (toks T) ∧ T.length ≤ 65536 ∧ (∀ k, blk V k → w.heap.size ≤ k) ∧ Below w.heap.size w w'
/-- Where the document's scan stands. -/
structure ScI (s : ByteArray) (w wr : World) (V : Value) (j : Nat) (T : List Tk) : Prop where
  hi : j ≤ s.size
  own : OwnK 4 wr V T.length (toks T)
  len : T.length ≤ 65536
  new : ∀ k, blk V k → w.heap.size ≤ k
  bl : Below w.heap.size w wr
theorem ScI.below {s : ByteArray} {w wr w2 : World} {V : Value} {j : Nat} {T : List Tk} (h : ScI s w wr V j T) (hb : Below wr.heap.size wr w2) : ScI s w w2 V j T := ⟨h.hi, h.own.turned (Turned.ofBelow (S := fun _ => False) hb) (fun _ _ e => e), h.len, h.new, h.bl.trans (hb.mono h.bl.size)⟩
theorem ScI.more {s : ByteArray} {w wr w2 w3 : World} {V V2 : Value} {j i : Nat} {T : List Tk} {t : Tk} (h : ScI s w wr V j T) (hi : i ≤ s.size) (hl : T.length < 65536) (hb : Below wr.heap.size wr w2) (ho : OwnK 4 w3 V2 (T.length + 1) (toks T ++ t.cells)) (ht : Turned (blk V) w2 w3) (hv : ∀ k, blk V2 k → blk V k ∨ k = w2.heap.size) : ScI s w w3 V2 i (T ++ [t]) := by
  have b2 := h.bl.trans (hb.mono h.bl.size)
  refine ⟨hi, by rw [toks_snoc, List.length_append]; exact ho, by simp; omega, fun k hk => (hv k hk).elim (h.new k) (fun e => by have := b2.size; omega), b2.trans (ht.below b2.size h.new)⟩
set_option maxRecDepth 100000 in
set_option maxHeartbeats 3200000 in
theorem rf_Scan (s : ByteArray) (w : World) : Calls Tryz.prog 5 #[.string s] w (ScanTold w) := by
  have hnq := Tryz.neqLk
  by_cases hs : s.size ≤ 65536
  · have hsi : ¬ (65536 : Int) < (s.size : Int) := by omega
    have hk := rf_skip s hs 0 (by omega) w
    have hk : Calls Tryz.prog 15 #[.string s, .int .i64 0] w fun e w' => (∃ j : Nat, e = .returned (.int .i64 (j : Int)) ∧ 0 ≤ j ∧ j ≤ s.size) ∧ w = w' := hk
    go_enter Tryz.func5, Tryz.ntmps5
    go_wp2_with fail
    refine hk.mono ?_
    rintro e w' ⟨⟨j0, rfl, _, hj0⟩, rfl⟩
    clear hk
    go_wp2_with fail
    go_loopw [4, 5] (fun lv ii wr => ∃ (j : Nat) (T : List Tk), ii = .int .i64 (j : Int) ∧ ScI s w wr lv j T) (fun _ ii _ => s.size - (intOf ii).toNat)
    case atStart => exact ⟨j0, [], rfl, ⟨hj0, OwnK.nil 4 _, by simp, fun _ e => e.elim, Below.refl _ _⟩⟩
    case round =>
      obtain ⟨j, T, rfl, hI⟩ := hrel
      obtain ⟨aV, cV, hV, _⟩ := hI.own.sl.form
      subst hV
      have HI := Hid.mk7 hI
      have hTl := hI.len
      have hjs := hI.hi
      clear hI
      by_cases hlt : j < s.size
      · have hlti : (j : Int) < (s.size : Int) := by omega
        by_cases hmany : 65536 ≤ T.length
        · have hmi : (65536 : Int) ≤ (T.length : Int) := by omega
          have hR := rf_no10 (j : Int) 5 wr
          go_wp2_with fail
          refine hR.mono ?_
          rintro e w2 ⟨v, rfl, hv, hb2⟩
          have HV := Hid.mk7 (And.intro hv.e (HI.out.bl.trans (hb2.mono HI.out.bl.size)))
          obtain ⟨lb, ly, la, lc, hve, _⟩ := hv
          subst hve
          clear hR hb2
          go_wp2
          go_ret2
          exact .inl ⟨_, rfl, HV.out⟩
        · have hmi : ¬ (65536 : Int) ≤ (T.length : Int) := by omega
          have hT := rf_token s hs j hlt wr
          go_wp2_with fail
          refine hT.mono ?_
          rintro e w4 (⟨v, rfl, hv, hb⟩ | ⟨t, k, rfl, hk1, hk2, hb⟩)
          · have HV := Hid.mk7 (And.intro hv (HI.out.bl.trans (hb.mono HI.out.bl.size)))
            obtain ⟨av, nv, cv, hve⟩ := hv
            subst hve
            simp only [Tk.val, zeroTk]
            clear hT hb
            go_wp2
            go_ret2
            exact .inl ⟨_, rfl, HV.out.1, HV.out.2.trans ((Below.alloc0 w4 _).mono HV.out.2.size)⟩
          · obtain ⟨tk, tt, tn, ta⟩ := t
            simp only [Tk.val]
            have HB := Hid.mk7 (fun o1 o2 => hb.trans (((Below.alloc0 w4 o1).trans ((Below.alloc0 (w4.alloc o1) o2).mono (by simp))).mono hb.size))
            have HX := Hid.mk7 (fun o1 => SlK.tok (w4.alloc o1) ⟨tk, tt, tn, ta⟩)
            simp only [World.size_alloc] at HX
            have hfit : (T.length + 1) * 40 ≤ 140737488355328 := by omega
            have hfit2 : T.length + 1 ≤ 4611686018427387903 := by omega
            have HF := Hid.mk7 (And.intro hfit hfit2)
            clear hT hb hfit hfit2
            go_wp2_with (at_builtin; refine wpList_append_k (by rfl) (.tmp 34) (.tmp 36) (by rfl) Tryz.tokTypes (by rfl) (by rfl) (HI.out.own.turned (Turned.ofBelow (S := fun _ => False) (HB.out _ _)) (fun _ _ h => h)) (HX.out _) (Tk.cells_one _) HF.out.1 HF.out.2 ?_; intro V5 w5 ho5 ht5 hv5; have HN := Hid.mk7 (fun i hi => HI.out.more (i := i) hi (by omega) (HB.out _ _) ho5 ht5 hv5); obtain ⟨aV5, cV5, hV5, _⟩ := ho5.sl.form; subst hV5; clear ho5 ht5 hv5)
            have hK := rf_skip s hs k hk2 w5
            refine hK.mono ?_
            rintro e w' ⟨⟨i, rfl, hi1, hi2⟩, rfl⟩
            clear hK
            go_wp2
            go_roundw
            case rel => exact ⟨i, _, rfl, HN.out i hi2⟩
            case measure => simp [intOf]; omega
      · have hge : ¬ (j : Int) < (s.size : Int) := by omega
        go_wp2
        go_ret2
        exact .inr ⟨_, T, rfl, HI.out.own, HI.out.len, HI.out.new, HI.out.bl⟩
  · have hsi : (65536 : Int) < (s.size : Int) := by omega
    have hR := rf_no10 0 4 w
    go_enter Tryz.func5, Tryz.ntmps5
    go_wp2_with fail
    refine hR.mono ?_
    rintro e w2 ⟨v, rfl, hv, hb2⟩
    have HV := Hid.mk7 (And.intro hv.e hb2)
    obtain ⟨lb, ly, la, lc, hve, _⟩ := hv
    subst hve
    clear hR hb2
    go_wp2
    go_ret2
    exact .inl ⟨_, rfl, HV.out⟩
end Go.Proofs.YtlgkjjbefoeabaaGreatDoor
