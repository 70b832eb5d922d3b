/-
  Layer 7 (mix): what both the document's and the program's answers are told by: links and faults with a place; the document's Cookie.
-/
import Derived.Test.YtmnibmgbicnamaaGreatDoorMDef
import Derived.Test.YtmnibmgbicnamaaGreatDoorRefused
import Derived.Test.YtmnibmgbicnamaaGreatDoorBytes
import Derived.Test.YtmnibmgbicnamaaGreatDoorChecked
import Derived.Deep.RegionHeld3
import Derived.Deep.RegionLaw
import Derived.Laws.BytesArg
import Derived.WalkSpells
import Derived.RegionTactic
import Derived.Laws.Closers25
namespace Go.Proofs.YtmnibmgbicnamaaGreatDoor
open Go.RowKit

theorem Tryz.bytes : ByteTypes Tryz.prog 25 5 := by
  refine ⟨Tryz.underlying25, ?_⟩
  have h : (Tryz.prog.info? 5).map (fun i => (i.zero, i.size, i.bytes)) = some (some (.int .u8 0), 1, 1) := by kernel_rfl
  obtain ⟨i, hi, h0, h1, h2⟩ := info_parts h
  exact ⟨i, hi, h0, h1, h2⟩
theorem alloc0m (w : World) (o : Obj) : Turned (fun _ => False) w (w.alloc o) := Turned.alloc _ _ _
theorem Sl.str {w : World} {v : Value} {zs : List Int} (h : Sl w v zs) : (convert 25 9 v).run Tryz.prog w = .ok (.string (strOfNums zs)) w := by
  rcases h with ⟨rfl, rfl⟩ | ⟨a, rfl, rfl⟩ | ⟨g, off, cap, rfl, _, _, h4⟩
  · exact run_convert_bytes_nil w _ _ Tryz.underlying25 Tryz.underlying5 0 0 _ Tryz.underlying9
  · rw [run_convert_bytes_string w _ _ _ _ _ _ Tryz.underlying25 Tryz.underlying5 Tryz.underlying9]
    have hl : (loadCells a 0).run Tryz.prog w = .ok #[] w := by simpa using run_loadCells_list (P := Tryz.prog) w a [] (fun j v hj => by simp at hj)
    simp [Conv.bytesToString, strOfNums, hl]
    rfl
  · exact run_convert_bytes_arg w _ _ Tryz.underlying25 Tryz.underlying5 g off zs.length cap zs rfl (fun i hi => by rw [h4 i hi]; simp [List.getD, List.getElem?_eq_getElem hi]) _ Tryz.underlying9

/-- One link, in a block from B on, of layer mix. -/
def LinkAt (B : Nat) (w : World) (v : Value) (x : Int × Int) : Prop := ∃ lb, B ≤ lb ∧ v = .slice (some ⟨lb, 0, none⟩) 1 1 ∧ w.cell? ⟨lb, 0, none⟩ = some (.string ⟨#[109, 105, 120]⟩) ∧ w.cell? ⟨lb, 1, none⟩ = some (.int .i64 x.1) ∧ w.cell? ⟨lb, 2, none⟩ = some (.int .i64 x.2)
def LinksM (B : Nat) (w : World) (v : Value) : Option (Int × Int) → Prop
  | none => v = .slice none 0 0
  | some x => LinkAt B w v x
theorem LinksM.turned {B : Nat} {w w' : World} {v : Value} {oc : Option (Int × Int)} {S : Nat → Prop} (h : LinksM B w v oc) (ht : Turned S w w') (hs : ∀ k, B ≤ k → k < w.heap.size → ¬ S k) : LinksM B w' v oc := by
  cases oc with
  | none => exact h
  | some c =>
    obtain ⟨lb, h0, rfl, h1, h2, h3⟩ := h
    have hp := hs lb h0 (World.block_lt_of_cell? w _ h1)
    exact ⟨lb, h0, rfl, ht.cell h1 hp, ht.cell h2 hp, ht.cell h3 hp⟩
theorem LinksM.below {B : Nat} {w w' : World} {v : Value} {oc : Option (Int × Int)} (h : LinksM B w v oc) (hb : Below w.heap.size w w') : LinksM B w' v oc := h.turned (Turned.ofBelow (S := fun _ => False) hb) (fun _ _ _ h => h)

/-- A fault, in a block from B on, of layer mix with nothing under it. -/
def FaultAt (B : Nat) (w : World) (v : Value) (x : Int × Int) : Prop := ∃ pb, B ≤ pb ∧ v = .iface 131 (.pointer (some ⟨pb, 0, none⟩)) ∧ w.cell? ⟨pb, 0, none⟩ = some (.string ⟨#[109, 105, 120]⟩) ∧ w.cell? ⟨pb, 1, none⟩ = some (.int .i64 x.1) ∧ w.cell? ⟨pb, 2, none⟩ = some (.int .i64 x.2) ∧ w.cell? ⟨pb, 3, none⟩ = some .nilIface
def ErrsM (B : Nat) (w : World) (v : Value) : Option (Int × Int) → Prop
  | none => v = .nilIface
  | some x => FaultAt B w v x
theorem ErrsM.turned {B : Nat} {w w' : World} {v : Value} {oc : Option (Int × Int)} {S : Nat → Prop} (h : ErrsM B w v oc) (ht : Turned S w w') (hs : ∀ k, B ≤ k → k < w.heap.size → ¬ S k) : ErrsM B w' v oc := by
  cases oc with
  | none => exact h
  | some c =>
    obtain ⟨pb, h0, rfl, h1, h2, h3, h4⟩ := h
    have hp := hs pb h0 (World.block_lt_of_cell? w _ h1)
    exact ⟨pb, h0, rfl, ht.cell h1 hp, ht.cell h2 hp, ht.cell h3 hp, ht.cell h4 hp⟩
theorem ErrsM.below {B : Nat} {w w' : World} {v : Value} {oc : Option (Int × Int)} (h : ErrsM B w v oc) (hb : Below w.heap.size w w') : ErrsM B w' v oc := h.turned (Turned.ofBelow (S := fun _ => False) hb) (fun _ _ _ h => h)
/-- The variable errors.errorType. -/
def Er (w : World) : Prop := w.cell? ⟨0, 0, none⟩ = some (.iface 168 (.agg #[.pointer (some ⟨5, 29, none⟩)]))
theorem Er.turned {S : Nat → Prop} {w w' : World} (h : Er w) (ht : Turned S w w') (hs : ¬ S 0) : Er w' := ht.cell h hs
theorem Er.below {w w' : World} (h : Er w) (hb : Below w.heap.size w w') : Er w' := (hb.cell (p := ⟨0, 0, none⟩) (World.block_lt_of_cell? w _ h)).trans h

/-- Refused of what both tell. -/
theorem refused_bothM {B B' : Nat} {w : World} {v l : Value} {oc : Option (Int × Int)} (her : Er w) (he : ErrsM B w v oc) (hl : LinksM B' w l oc) :
    Calls Tryz.prog 11 #[v, l] w fun ev w' => ev = .returned (.bool true) ∧ Below w.heap.size w w' := by
  cases oc with
  | none =>
    have hv : v = .nilIface := he
    have hl' : l = .slice none 0 0 := hl
    subst hv hl'
    refine (refused_nil w none 0).mono ?_
    rintro ev w' ⟨rfl, rfl⟩
    exact ⟨rfl, Below.refl _ _⟩
  | some c =>
    obtain ⟨pb, _, rfl, h1, h2, h3, h4⟩ := he
    obtain ⟨lb, _, rfl, l1, l2, l3⟩ := hl
    exact refused_fault pb 0 lb 1 _ _ _ w her h1 h2 h3 h4 l1 l2 l3
theorem one_any (ly : ByteArray) (a c : Int) (w : World) : Calls Tryz.prog 41 #[.string ly, .int .i64 a, .int .i64 c] w fun e w' => e = .returned (.slice (some ⟨w.heap.size, 0, none⟩) 1 1) ∧ w' = w.alloc (.cells #[.string ly, .int .i64 a, .int .i64 c] 102) := by
  go_enter Tryz.func41, Tryz.ntmps41
  go_wp2
  go_ret
  exact ⟨rfl, rfl⟩
/-- The document's refusal. -/
theorem no_any (a c : Int) (w : World) : Calls Tryz.prog 86 #[.int .i64 a, .int .i64 c] w fun e w' => ∃ v, e = .returned v ∧ LinksM w.heap.size w' v (some (a, c)) ∧ Below w.heap.size w w' := by
  go_enter Tryz.func86, Tryz.ntmps86
  go_wp2
  go_ret
  exact ⟨_, rfl, ⟨_, Nat.le_refl _, rfl, by simp, by simp, by simp⟩, (Below.refl _ _).alloc (Nat.le_refl _) _⟩
set_option maxRecDepth 100000 in
set_option maxHeartbeats 1600000 in
/-- The document's Cookie. -/
theorem ref_cookie (s : ByteArray) (hs : s.size ≤ 4611686018427387904) (w : World) : Calls Tryz.prog 61 #[.string s] w fun e w' => ∃ v, e = .returned v ∧ LinksM w.heap.size w' v (cookieErr s) ∧ Below w.heap.size w w' := by
  unfold cookieErr
  by_cases h0 : s.size = 0
  · rw [if_pos h0]
    obtain rfl : s = ⟨#[]⟩ := by
      apply ByteArray.ext
      exact Array.eq_empty_of_size_eq_zero h0
    go_enter Tryz.func61, Tryz.ntmps61
    go_wp2_with (go_at_call 86; refine (no_any _ _ _).mono ?_; rintro e w1 ⟨v, rfl, hf, hb⟩)
    go_ret
    exact ⟨v, rfl, hf, hb⟩
  · rw [if_neg h0]
    generalize hoc : (firstBad (nums s) 0).map (fun (i : Nat) => (Int.ofNat i, (140 : Int))) = oc
    have HOC : Hid ((firstBad (nums s) 0).map (fun (i : Nat) => (Int.ofNat i, (140 : Int))) = oc) := hoc
    clear hoc
    have hE : s.toList.isEmpty = false := by
      rw [← decide_eq_emptyBytes]
      simp
      intro h
      subst h
      exact h0 rfl
    go_enter Tryz.func61, Tryz.ntmps61
    go_wp2_with fail
    go_loopw [3] (fun ii wr => ∃ j : Nat, ii = .int .i64 j ∧ j ≤ s.size ∧ firstBad ((nums s).drop j) j = firstBad (nums s) 0 ∧ w = wr) (fun ii _ => s.size - (intOf ii).toNat)
    case atStart => exact ⟨0, rfl, Nat.zero_le _, rfl, rfl⟩
    case round =>
      obtain ⟨j, rfl, hj, hfb, rfl⟩ := hrel
      by_cases hlt : j < s.size
      · have hlti : (j : Int) < (s.size : Int) := by omega
        have hj0 : (0 : Int) ≤ (j : Int) := by omega
        rw [firstBad_step s j hlt] at hfb
        have hidx : ∀ W : World, (Instr.index 9 (.string s) (.int .i64 (j : Int))).run Tryz.prog W = .ok (.int .u8 (s[j].toNat : Int)) W := fun W => by
          rw [run_index_string W _ _ _ _ Tryz.underlying9, dif_pos ⟨hj0, hlti⟩]
          simp
        generalize (s[j].toNat : Int) = c at hidx hfb
        by_cases h255 : j = 255
        · rw [if_pos (.inl h255)] at hfb
          subst h255
          have hoc := HOC.out
          rw [← hfb] at hoc
          have hoc : some ((255 : Int), (140 : Int)) = oc := hoc
          subst hoc
          go_wp2_with (go_at_call 86; refine (no_any _ _ _).mono ?_; rintro e w1 ⟨v, rfl, hf, hb⟩)
          go_ret
          exact ⟨v, rfl, hf, hb⟩
        · have hq : ((j : Int) == 255) = false := by simp; omega
          by_cases h33 : c < 33
          · rw [if_pos (.inr (.inl h33))] at hfb
            have hoc := HOC.out
            rw [← hfb] at hoc
            have hoc : some ((j : Int), (140 : Int)) = oc := hoc
            subst hoc
            go_wp2_with (go_at_call 86; refine (no_any _ _ _).mono ?_; rintro e w1 ⟨v, rfl, hf, hb⟩)
            go_ret
            exact ⟨v, rfl, hf, hb⟩
          · by_cases h126 : 126 < c
            · rw [if_pos (.inr (.inr h126))] at hfb
              have hoc := HOC.out
              rw [← hfb] at hoc
              have hoc : some ((j : Int), (140 : Int)) = oc := hoc
              subst hoc
              go_wp2_with (go_at_call 86; refine (no_any _ _ _).mono ?_; rintro e w1 ⟨v, rfl, hf, hb⟩)
              go_ret
              exact ⟨v, rfl, hf, hb⟩
            · rw [if_neg (by omega)] at hfb
              have HFB : Hid (firstBad ((nums s).drop (j + 1)) (j + 1) = firstBad (nums s) 0) := hfb
              clear hfb
              go_wp2
              go_roundw
              case rel => exact ⟨j + 1, by go_num, by omega, HFB.out, trivial⟩
              case measure => simp [intOf]; omega
      · have hge : ¬ (j : Int) < (s.size : Int) := by omega
        obtain rfl : j = s.size := by omega
        rw [firstBad_end] at hfb
        have hoc := HOC.out
        rw [← hfb] at hoc
        have hoc : none = oc := hoc
        subst hoc
        go_wp2
        go_ret
        exact ⟨_, rfl, rfl, Below.refl _ _⟩
end Go.Proofs.YtmnibmgbicnamaaGreatDoor
