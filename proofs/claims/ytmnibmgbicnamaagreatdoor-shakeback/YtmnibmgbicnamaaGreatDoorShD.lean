/-
  Layer 8 (shake): which messages fit (the program's fits); numbers and fields as bytes.
-/
import Derived.Test.YtmnibmgbicnamaaGreatDoorShC
import Derived.Test.YtmnibmgbicnamaaGreatDoorMxd
namespace Go.Proofs.YtmnibmgbicnamaaGreatDoor
open Go.RowKit

theorem fields_few (k : Int) : (fieldsOf k).length ≤ 6 := by
  unfold fieldsOf
  repeat' split
  all_goals simp
/-- All fields of a message are such as its kind asks. -/
def goodAll (fs : List Int) (m : Msg) : Bool := goodB fs m 0 && goodB fs m 1 && goodB fs m 2 && goodB fs m 3 && goodB fs m 4 && goodB fs m 5
theorem good_fits (m : Msg) (hk : 1 ≤ m.kind ∧ m.kind ≤ 5) : goodAll (fieldsOf m.kind) m = decide (fits m) := by
  obtain ⟨k, fl, cr, ch, nm, st, dg⟩ := m
  have h5 : k = 1 ∨ k = 2 ∨ k = 3 ∨ k = 4 ∨ k = 5 := by simp only at hk; omega
  rw [Bool.eq_iff_iff]
  rcases h5 with rfl | rfl | rfl | rfl | rfl
  all_goals
    simp [goodAll, goodB, fieldsOf, mayB, zeroB, fits]
    try (constructor <;> (intro h; simp_all))
theorem all_of (p : Int → Bool) (h : ∀ f : Nat, f < 6 → p f = true) : (p 0 && p 1 && p 2 && p 3 && p 4 && p 5) = true := by
  have h0 := h 0 (by omega)
  have h1 := h 1 (by omega)
  have h2 := h 2 (by omega)
  have h3 := h 3 (by omega)
  have h4 := h 4 (by omega)
  have h5 := h 5 (by omega)
  simp at h0 h1 h2 h3 h4 h5
  simp [h0, h1, h2, h3, h4, h5]
theorem all_not (p : Int → Bool) (f : Nat) (hf : f < 6) (h : p f = false) : (p 0 && p 1 && p 2 && p 3 && p 4 && p 5) = false := by
  have : f = 0 ∨ f = 1 ∨ f = 2 ∨ f = 3 ∨ f = 4 ∨ f = 5 := by omega
  rcases this with rfl | rfl | rfl | rfl | rfl | rfl <;> simp at h <;> simp [h]
set_option maxRecDepth 100000 in
set_option maxHeartbeats 3200000 in
theorem sh_fits {w : World} {B : Nat} {L V : Value} {fs : List Int} (hL : ∃ x, L = .int .u8 x) (hV : Fl w B V fs) (hl : fs.length ≤ 6) (m : Msg) (a : Option Addr) (c : Nat) : Calls Tryz.prog 28 #[.agg #[L, V], msgV' m (.slice a m.digest.length c)] w fun e w' => e = .returned (.bool (goodAll fs m)) ∧ Below w.heap.size w w' := by
  have HH : Hid (∀ W (_ : Below w.heap.size w W) f, Calls Tryz.prog 30 #[.agg #[L, V], .int .i64 f] W fun e w' => e = .returned (.bool (decide (f ∈ fs))) ∧ Below W.heap.size W w') := fun W h f => sh_has hL (hV.below h) hl f
  have HM : Hid (∀ W (f : Nat) (_ : f < 6), Calls Tryz.prog 63 #[.int .i64 f, msgV' m (.slice a m.digest.length c)] W fun e w' => e = .returned (.bool (mayB f m)) ∧ Below W.heap.size W w') := fun W f hf => sh_may f (by omega) m a c W
  have HZ : Hid (∀ W (f : Nat) (_ : f < 6), Calls Tryz.prog 64 #[.int .i64 f, msgV' m (.slice a m.digest.length c)] W fun e w' => e = .returned (.bool (zeroB f m)) ∧ Below W.heap.size W w') := fun W f hf => sh_zero f (by omega) m a c W
  have HG : Hid ((∀ f : Nat, f < 6 → goodB fs m f = true) → goodAll fs m = true) := all_of (goodB fs m)
  have HGN : Hid (∀ f : Nat, f < 6 → goodB fs m f = false → goodAll fs m = false) := fun f hf h => all_not (goodB fs m) f hf h
  obtain ⟨x, rfl⟩ := hL
  obtain ⟨g, _, hg, rfl, _⟩ := hV
  unfold msgV' at HM HZ ⊢
  generalize goodAll fs m = GA at HG HGN
  go_enter Tryz.func28, Tryz.ntmps28
  go_wp2_with fail
  go_loopw [6] (fun i wr => ∃ j : Nat, j ≤ 6 ∧ i = .int .i64 j ∧ (∀ f : Nat, f < j → goodB fs m f = true) ∧ ShapeAt wr w.heap.size (.int .u8 x) (.slice (some ⟨g, 0, none⟩) fs.length fs.length) ∧ MsgAt wr (w.heap.size + 1) m (.slice a m.digest.length c) ∧ Below w.heap.size w wr) (fun i _ => 6 - (intOf i).toNat)
  case atStart =>
    refine ⟨0, Nat.zero_le _, rfl, fun f h => absurd h (Nat.not_lt_zero f), (ShapeAt.ofNew w _ _ _).below ((Below.refl _ _).alloc (by simp) _), ?_, ((Below.refl _ _).alloc (Nat.le_refl _) _).alloc (by simp) _⟩
    have := MsgAt.ofNew (w.alloc (.cells #[.int .u8 x, .slice (some ⟨g, 0, none⟩) fs.length fs.length] 85)) m (.slice a m.digest.length c) 27
    simpa using this
  case round =>
    obtain ⟨j, hj, rfl, hall, hS, hM, hB⟩ := hrel
    by_cases hlt : j < 6
    · have hlti : (j : Int) < 6 := by omega
      have hh := HH.out wr hB j
      have HB : Hid (ShapeAt wr w.heap.size (.int .u8 x) (.slice (some ⟨g, 0, none⟩) fs.length fs.length) ∧ MsgAt wr (w.heap.size + 1) m (.slice a m.digest.length c) ∧ Below w.heap.size w wr) := ⟨hS, hM, hB⟩
      obtain ⟨k0, k1⟩ := hS
      clear hB hM
      by_cases hin : (j : Int) ∈ fs
      · have hin1 : goodB fs m j = mayB j m := by unfold goodB; rw [if_pos hin]
        have HIN : Hid (goodB fs m j = mayB j m) := hin1
        clear hin1
        have HIN2 : Hid ((j : Int) ∈ fs) := hin
        rw [decide_eq_true hin] at hh
        clear hin
        go_wp2_with fail
        refine hh.mono ?_
        rintro e w1 ⟨rfl, hb1⟩
        have hma := HM.out w1 j hlt
        have HB1 : Hid (ShapeAt w1 w.heap.size (.int .u8 x) (.slice (some ⟨g, 0, none⟩) fs.length fs.length) ∧ MsgAt w1 (w.heap.size + 1) m (.slice a m.digest.length c) ∧ Below w.heap.size w w1) := ⟨HB.out.1.below hb1, HB.out.2.1.below hb1, HB.out.2.2.trans (hb1.mono HB.out.2.2.size)⟩
        obtain ⟨m0, m1, m2, m3, m4, m5, m6⟩ := HB1.out.2.1
        clear hb1 hh k0 k1 HB
        cases hmy : mayB j m with
        | true =>
          rw [hmy] at hma
          have HJ : Hid (∀ f : Nat, f < j + 1 → goodB fs m f = true) := fun f hf => by
            by_cases he : f = j
            · subst he; exact HIN.out.trans hmy
            · exact hall f (by omega)
          clear HIN hmy hall
          go_wp2_with fail
          refine hma.mono ?_
          rintro e w2 ⟨rfl, hb2⟩
          have HB2 : Hid (ShapeAt w2 w.heap.size (.int .u8 x) (.slice (some ⟨g, 0, none⟩) fs.length fs.length) ∧ MsgAt w2 (w.heap.size + 1) m (.slice a m.digest.length c) ∧ Below w.heap.size w w2) := ⟨HB1.out.1.below hb2, HB1.out.2.1.below hb2, HB1.out.2.2.trans (hb2.mono HB1.out.2.2.size)⟩
          obtain ⟨k0, k1⟩ := HB2.out.1
          have hh2 := HH.out w2 HB2.out.2.2 j
          rw [decide_eq_true HIN2.out] at hh2
          clear hb2 hma HB1 m0 m1 m2 m3 m4 m5 m6
          go_wp2_with fail
          refine hh2.mono ?_
          rintro e w3 ⟨rfl, hb3⟩
          have HB3 : Hid (ShapeAt w3 w.heap.size (.int .u8 x) (.slice (some ⟨g, 0, none⟩) fs.length fs.length) ∧ MsgAt w3 (w.heap.size + 1) m (.slice a m.digest.length c) ∧ Below w.heap.size w w3) := ⟨HB2.out.1.below hb3, HB2.out.2.1.below hb3, HB2.out.2.2.trans (hb3.mono HB2.out.2.2.size)⟩
          clear hb3 hh2 HB2 k0 k1
          go_wp2
          go_roundw
          case rel => exact ⟨j + 1, by omega, by go_num, HJ.out, HB3.out⟩
          case measure => simp [intOf]; omega
        | false =>
          rw [hmy] at hma
          have HJ : Hid (GA = false) := HGN.out j hlt (HIN.out.trans hmy)
          clear HIN hmy hall
          go_wp2_with fail
          refine hma.mono ?_
          rintro e w2 ⟨rfl, hb2⟩
          have HB2 : Hid (Below w.heap.size w w2) := HB1.out.2.2.trans (hb2.mono HB1.out.2.2.size)
          clear hb2 hma HB1 m0 m1 m2 m3 m4 m5 m6
          go_wp2
          go_ret
          exact ⟨by rw [HJ.out]; rfl, HB2.out⟩
      · have hin1 : goodB fs m j = zeroB j m := by unfold goodB; rw [if_neg hin]
        have HIN : Hid (goodB fs m j = zeroB j m) := hin1
        clear hin1
        have HIN2 : Hid ((j : Int) ∉ fs) := hin
        rw [decide_eq_false hin] at hh
        clear hin
        go_wp2_with fail
        refine hh.mono ?_
        rintro e w1 ⟨rfl, hb1⟩
        have HB1 : Hid (ShapeAt w1 w.heap.size (.int .u8 x) (.slice (some ⟨g, 0, none⟩) fs.length fs.length) ∧ MsgAt w1 (w.heap.size + 1) m (.slice a m.digest.length c) ∧ Below w.heap.size w w1) := ⟨HB.out.1.below hb1, HB.out.2.1.below hb1, HB.out.2.2.trans (hb1.mono HB.out.2.2.size)⟩
        have hh2 := HH.out w1 HB1.out.2.2 j
        rw [decide_eq_false HIN2.out] at hh2
        obtain ⟨k0', k1'⟩ := HB1.out.1
        clear hb1 hh k0 k1 HB
        go_wp2_with fail
        refine hh2.mono ?_
        rintro e w2 ⟨rfl, hb2⟩
        have HB2 : Hid (ShapeAt w2 w.heap.size (.int .u8 x) (.slice (some ⟨g, 0, none⟩) fs.length fs.length) ∧ MsgAt w2 (w.heap.size + 1) m (.slice a m.digest.length c) ∧ Below w.heap.size w w2) := ⟨HB1.out.1.below hb2, HB1.out.2.1.below hb2, HB1.out.2.2.trans (hb2.mono HB1.out.2.2.size)⟩
        obtain ⟨m0, m1, m2, m3, m4, m5, m6⟩ := HB2.out.2.1
        have hze := HZ.out w2 j hlt
        clear hb2 hh2 k0' k1' HB1
        cases hmy : zeroB j m with
        | true =>
          rw [hmy] at hze
          have HJ : Hid (∀ f : Nat, f < j + 1 → goodB fs m f = true) := fun f hf => by
            by_cases he : f = j
            · subst he; exact HIN.out.trans hmy
            · exact hall f (by omega)
          clear HIN hmy hall
          go_wp2_with fail
          refine hze.mono ?_
          rintro e w3 ⟨rfl, hb3⟩
          have HB3 : Hid (ShapeAt w3 w.heap.size (.int .u8 x) (.slice (some ⟨g, 0, none⟩) fs.length fs.length) ∧ MsgAt w3 (w.heap.size + 1) m (.slice a m.digest.length c) ∧ Below w.heap.size w w3) := ⟨HB2.out.1.below hb3, HB2.out.2.1.below hb3, HB2.out.2.2.trans (hb3.mono HB2.out.2.2.size)⟩
          clear hb3 hze HB2 m0 m1 m2 m3 m4 m5 m6
          go_wp2
          go_roundw
          case rel => exact ⟨j + 1, by omega, by go_num, HJ.out, HB3.out⟩
          case measure => simp [intOf]; omega
        | false =>
          rw [hmy] at hze
          have HJ : Hid (GA = false) := HGN.out j hlt (HIN.out.trans hmy)
          clear HIN hmy hall
          go_wp2_with fail
          refine hze.mono ?_
          rintro e w3 ⟨rfl, hb3⟩
          have HB3 : Hid (Below w.heap.size w w3) := HB2.out.2.2.trans (hb3.mono HB2.out.2.2.size)
          clear hb3 hze HB2 m0 m1 m2 m3 m4 m5 m6
          go_wp2
          go_ret
          exact ⟨by rw [HJ.out]; rfl, HB3.out⟩
    · have hge : ¬ (j : Int) < 6 := by omega
      have hG := HG.out (fun f hf => hall f (by omega))
      have HGG : Hid (GA = true) := hG
      clear hG hall hS hM
      go_wp2
      go_ret
      exact ⟨by rw [HGG.out]; rfl, hB⟩
end Go.Proofs.YtmnibmgbicnamaaGreatDoor
