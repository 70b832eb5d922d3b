/-
  heddlelaw07.MixOwn: its walk, given the program's mix and generators that nobody made.
-/
import Derived.Test.YtldpolbgdhgomaaDoorM3
import Derived.Deep.DeepCutAuto
namespace Go.Proofs.YtldpolbgdhgomaaDoor
open Go.RowKit

/-- A slice that may be written. -/
def Writes (w : World) (v : Value) (L : Nat) : Prop := ∃ a c, v = .slice a L c ∧ ∀ j, j < L → ∃ g off, a = some ⟨g, off, none⟩ ∧ (w.cell? ⟨g, off + j, none⟩).isSome = true ∧ w.frozen? ⟨g, off + j, none⟩ = false
theorem Own.writes {w : World} {v : Value} {zs : List Int} (h : Own w v zs) : Writes w v zs.length := by
  rcases h with ⟨rfl, rfl⟩ | ⟨g, off, cap, rfl, h2, h3, hg, h4, h5⟩
  · exact ⟨none, 0, rfl, fun j hj => absurd hj (Nat.not_lt_zero j)⟩
  · exact ⟨_, cap, rfl, fun j hj => ⟨g, off, rfl, h5 j (by omega)⟩⟩
theorem Writes.set {w : World} {v : Value} {L : Nat} (h : Writes w v L) {g o : Nat} {u x : Value} (hu : w.cell? ⟨g, o, none⟩ = some u) : Writes (w.setCell ⟨g, o, none⟩ x) v L := by
  obtain ⟨a, c, rfl, h⟩ := h
  refine ⟨a, c, rfl, fun j hj => ?_⟩
  obtain ⟨g', off, rfl, h1, h2⟩ := h j hj
  refine ⟨g', off, rfl, ?_, by rw [World.frozen?_setCell]; exact h2⟩
  by_cases he : (⟨g, o, none⟩ : Addr) = ⟨g', off + j, none⟩
  · rw [← he, World.cell?_setCell_same _ _ _ hu]; rfl
  · rw [World.cell?_setCell_other _ _ _ _ he]; exact h1

/-- Generators that nobody made. -/
structure MNo (No : World → Value → Prop) : Prop where
  below : ∀ {w w' : World} {g : Value}, No w g → Below w.heap.size w w' → No w' g
  nil : ∀ w : World, No w (.pointer none)
  zero : ∀ w : World, No (w.alloc (.cells #[.pointer none, .int .u64 0, .int .i64 0] 53)) (.pointer (some ⟨w.heap.size, 0, none⟩))
  next : ∀ {w : World} {g : Value}, No w g → Calls Tryd.prog 17 #[g] w fun e w' => ∃ v, e = .returned (.tuple #[.int .u32 0, v]) ∧ FaultAt w.heap.size w' v (0, 3) ∧ Below w.heap.size w w'
  count : ∀ {w : World} {g : Value}, No w g → Calls Tryd.prog 19 #[g] w fun e w' => e = .returned (.int .i64 0) ∧ Below w.heap.size w w'

/-- What the law itself has laid: the row of two pointers, nil and a generator of zeroes. -/
structure LaidG (No : World → Value → Prop) (w w6 wr : World) : Prop where
  s0 : wr.cell? ⟨w6.heap.size + 1, 0, none⟩ = some (.pointer none)
  s1 : wr.cell? ⟨w6.heap.size + 1, 1, none⟩ = some (.pointer (some ⟨w6.heap.size, 0, none⟩))
  no : No wr (.pointer (some ⟨w6.heap.size, 0, none⟩))
  below0 : Below w.heap.size w wr
theorem LaidG.below {No : World → Value → Prop} (G : MNo No) {w w6 wr wr' : World} (h : LaidG No w w6 wr) (hb : Below wr.heap.size wr wr') : LaidG No w w6 wr' := by
  have hc : ∀ (p : Addr) (v : Value), wr.cell? p = some v → wr'.cell? p = some v := fun p v hv => (hb.cell (World.block_lt_of_cell? wr _ hv)).trans hv
  exact ⟨hc _ _ h.s0, hc _ _ h.s1, G.below h.no hb, h.below0.trans (hb.mono h.below0.size)⟩

set_option maxRecDepth 100000 in
set_option maxHeartbeats 3200000 in
theorem own_any {No : World → Value → Prop} (I : MImpl) (G : MNo No) (s : ByteArray) (hs : s.size ≤ 4611686018427387904) (n : Nat) (hn : n < 4294967296) (w : World) (her : Er w) (htb : Tb w) :
    Calls Tryd.prog 7 #[.string s, .int .u32 n] w fun ev w' => ev = .returned (.bool true) ∧ Below w.heap.size w w' := by
  have hl : (digestTold s n).length ≤ 16 := by
    unfold digestTold
    by_cases h : (cookieErr s).isSome = true
    · rw [if_pos h]; simp
    · rw [if_neg h, digest_length]; omega
  go_enter Tryd.func7, Tryd.ntmps7
  go_wp2_with fail
  refine (I.digest s hs n hn w htb).mono ?_
  rintro ev w1 ⟨V1, v1, rfl, he1, ho1, hb1, hk1⟩
  obtain ⟨a1, c1, hV1, _, _⟩ := ho1.sl.form
  obtain ⟨L, hL⟩ : ∃ L, L = (digestTold s n).length := ⟨_, rfl⟩
  rw [← hL] at hV1 hl
  subst hV1
  have hwr := ho1.writes
  rw [← hL] at hwr
  have H1 : Hid (ErrsM w.heap.size w1 v1 (cookieErr s) ∧ Below w.heap.size w w1 ∧ (∀ k, blk (.slice a1 L c1) k → w.heap.size ≤ k) ∧ Writes w1 (.slice a1 L c1) L) := ⟨he1, hb1, hk1, hwr⟩
  have hL0 : cookieErr s = none ∨ L = 0 := by
    cases hc : cookieErr s with
    | none => exact .inl rfl
    | some x => exact .inr (by rw [hL]; unfold digestTold; rw [hc]; rfl)
  have HL0 : Hid (cookieErr s = none ∨ L = 0) := hL0
  clear he1 ho1 hb1 hk1 hwr hL hL0
  go_wp2_with fail
  go_loopw [25] (fun ii wr => ∃ j : Nat, ii = .int .i64 j ∧ j ≤ L ∧ Turned (fun k => 0 < L ∧ blk (.slice a1 L c1) k) w1 wr ∧ Writes wr (.slice a1 L c1) L) (fun ii _ => L - (intOf ii).toNat)
  case atStart => exact ⟨0, rfl, Nat.zero_le _, Turned.refl _ _, H1.out.2.2.2⟩
  case round =>
    obtain ⟨j, rfl, hj, hT, hWr⟩ := hrel
    by_cases hlt : j < L
    · have hlti : (j : Int) < (L : Int) := by omega
      have hj0 : (0 : Int) ≤ (j : Int) := by omega
      have hWr' := hWr
      obtain ⟨a, c, hac, hcell⟩ := hWr'
      obtain ⟨g, off, ha, h1, h2⟩ := hcell j hlt
      cases hac
      subst ha
      obtain ⟨u, hu⟩ := Option.isSome_iff_exists.1 h1
      have HT : Hid (Turned (fun k => 0 < L ∧ blk (.slice (some ⟨g, off, none⟩) L c1) k) w1 wr ∧ Writes wr (.slice (some ⟨g, off, none⟩) L c1) L) := ⟨hT, hWr⟩
      clear hT hWr hcell h1
      go_wp2
      go_roundw
      case rel => exact ⟨j + 1, by go_num, by omega, HT.out.1.trans (Turned.setCell wr ⟨g, off + j, none⟩ _) (fun k hk => .inl ⟨by omega, hk.symm⟩), HT.out.2.set hu⟩
      case measure => simp [intOf]; omega
    · have hge : ¬ (j : Int) < (L : Int) := by omega
      have HE : Hid (ErrsM w.heap.size wr v1 (cookieErr s) ∧ Below w.heap.size w wr) := by
        obtain ⟨he1, hb1, hk1, _⟩ := H1.out
        refine ⟨?_, hb1.trans (hT.below hb1.size (fun k hk => hk1 k hk.2))⟩
        rcases HL0.out with h | h
        · rw [h] at he1 ⊢; exact he1
        · exact he1.turned hT (fun k _ _ hk => by have := hk.1; omega)
      have hdg := I.digest s hs n hn wr (htb.below HE.out.2)
      clear hT hWr H1
      go_wp2_with fail
      refine hdg.mono ?_
      rintro ev w3 ⟨V3, v3, rfl, he3, ho3, hb3, _⟩
      have H3 : Hid (ErrsM w.heap.size w3 v1 (cookieErr s) ∧ ErrsM wr.heap.size w3 v3 (cookieErr s) ∧ Own w3 V3 (digestTold s n) ∧ Below w.heap.size w w3) := ⟨HE.out.1.below hb3, he3, ho3, HE.out.2.trans (hb3.mono HE.out.2.size)⟩
      have hrd := ref_digest s hs n hn w3
      clear he3 ho3 hb3 HE hdg
      go_wp2_with fail
      refine hrd.mono ?_
      rintro ev w4 ⟨V4, v4, rfl, hl4, ho4, hb4, _⟩
      obtain ⟨e1, e3, o3, b3⟩ := H3.out
      have B4 := b3.trans (hb4.mono b3.size)
      have hrf := refused_bothM (her.below B4) (e1.below hb4) hl4
      have H4 : Hid (ErrsM wr.heap.size w4 v3 (cookieErr s) ∧ LinksM w3.heap.size w4 v4 (cookieErr s) ∧ Own w4 V3 (digestTold s n) ∧ Own w4 V4 (digestTold s n) ∧ Below w.heap.size w w4) := ⟨e3.below hb4, hl4, o3.turned (Turned.ofBelow (S := fun _ => False) hb4) (fun _ _ h => h), ho4, B4⟩
      obtain ⟨a3, c3, L3, rfl⟩ : ∃ a c L, V3 = .slice a L c := ⟨_, _, _, o3.sl.form.choose_spec.choose_spec.1⟩
      obtain ⟨a4, c4, L4, rfl⟩ : ∃ a c L, V4 = .slice a L c := ⟨_, _, _, ho4.sl.form.choose_spec.choose_spec.1⟩
      clear e1 e3 o3 b3 B4 hl4 ho4 hb4 hrd H3
      go_wp2_with fail
      refine hrf.mono ?_
      rintro ev w5 ⟨rfl, hb5⟩
      obtain ⟨e3, l4, o3, o4, b4⟩ := H4.out
      have B5 := b4.trans (hb5.mono b4.size)
      have hrf2 := refused_bothM (her.below B5) (e3.below hb5) (l4.below hb5)
      have H5 : Hid (Own w5 (.slice a3 L3 c3) (digestTold s n) ∧ Own w5 (.slice a4 L4 c4) (digestTold s n) ∧ Below w.heap.size w w5) := ⟨o3.turned (Turned.ofBelow (S := fun _ => False) hb5) (fun _ _ h => h), o4.turned (Turned.ofBelow (S := fun _ => False) hb5) (fun _ _ h => h), B5⟩
      clear e3 l4 o3 o4 b4 B5 hb5 hrf H4
      go_wp2_with fail
      refine hrf2.mono ?_
      rintro ev w6 ⟨rfl, hb6⟩
      have T6 : Turned (fun _ => False) w5 w6 := Turned.ofBelow hb6
      have hcx := (H5.out.1.turned T6 (fun _ _ h => h)).sl.str
      have hcy := (H5.out.2.1.turned T6 (fun _ _ h => h)).sl.str
      generalize strOfNums (digestTold s n) = tx at hcx hcy
      have HB6 : Hid (Below w.heap.size w w6) := H5.out.2.2.trans (hb6.mono H5.out.2.2.size)
      clear hb6 T6 hrf2 H5
      go_wp2_with fail
      have hZ : LaidG No w w6 ((w6.alloc (.cells #[.pointer none, .int .u64 0, .int .i64 0] 53)).alloc (.cells #[.pointer none, .pointer (some ⟨w6.heap.size, 0, none⟩)] 42)) := by
        have B1 : Below w.heap.size w (w6.alloc (.cells #[.pointer none, .int .u64 0, .int .i64 0] 53)) := HB6.out.alloc HB6.out.size _
        have b2 := (Below.refl _ (w6.alloc (.cells #[.pointer none, .int .u64 0, .int .i64 0] 53))).alloc (Nat.le_refl _) (.cells #[.pointer none, .pointer (some ⟨w6.heap.size, 0, none⟩)] 42)
        exact ⟨by go_simp, by go_simp, G.below (G.zero w6) b2, B1.trans (b2.mono B1.size)⟩
      have HZ : Hid (LaidG No w w6 ((w6.alloc (.cells #[.pointer none, .int .u64 0, .int .i64 0] 53)).alloc (.cells #[.pointer none, .pointer (some ⟨w6.heap.size, 0, none⟩)] 42))) := hZ
      clear hZ HB6
      go_loopw [66] (fun ii wq => ∃ j : Nat, j ≤ 2 ∧ ii = .int .i64 j ∧ LaidG No w w6 wq) (fun ii _ => 2 - (intOf ii).toNat)
      case atStart => exact ⟨0, by omega, rfl, HZ.out⟩
      case round =>
        obtain ⟨j, hj, rfl, hL⟩ := hrel
        by_cases hlt : j < 2
        · obtain ⟨g, hg, hn⟩ : ∃ g, wr.cell? ⟨w6.heap.size + 1, j, none⟩ = some g ∧ No wr g := by
            have : j = 0 ∨ j = 1 := by omega
            rcases this with rfl | rfl
            · exact ⟨_, hL.s0, G.nil _⟩
            · exact ⟨_, hL.s1, hL.no⟩
          have hlt' : (j : Int) < 2 := by omega
          have hnx := G.next hn
          have HLn : Hid (LaidG No w w6 wr ∧ No wr g) := ⟨hL, hn⟩
          clear hL hn
          go_wp2_with fail
          refine hnx.mono ?_
          rintro ev wa ⟨va, rfl, hfa, hba⟩
          have HLa : Hid (LaidG No w w6 wa ∧ No wa g ∧ FaultAt wr.heap.size wa va (0, 3)) := ⟨HLn.out.1.below G hba, G.below HLn.out.2 hba, hfa⟩
          clear hnx hfa hba
          go_wp2_with fail
          refine (one_any _ _ _ wa).mono ?_
          rintro ev wb ⟨rfl, rfl⟩
          have hb1 := (Below.refl _ wa).alloc (Nat.le_refl _) (.cells #[.string ⟨#[109, 105, 120]⟩, .int .i64 0, .int .i64 3] 59)
          have HLb : Hid (LaidG No w w6 (wa.alloc (.cells #[.string ⟨#[109, 105, 120]⟩, .int .i64 0, .int .i64 3] 59)) ∧ No (wa.alloc (.cells #[.string ⟨#[109, 105, 120]⟩, .int .i64 0, .int .i64 3] 59)) g) := ⟨HLa.out.1.below G hb1, G.below HLa.out.2.1 hb1⟩
          have hrf := refused_bothM (oc := some (0, 3)) (B := wr.heap.size) (B' := wa.heap.size) (w := wa.alloc (.cells #[.string ⟨#[109, 105, 120]⟩, .int .i64 0, .int .i64 3] 59)) (v := va) (l := .slice (some ⟨wa.heap.size, 0, none⟩) 1 1) (her.below HLb.out.1.below0) (ErrsM.below (oc := some (0, 3)) HLa.out.2.2 hb1) ⟨_, Nat.le_refl _, rfl, by simp, by simp, by simp⟩
          clear hb1
          go_wp2_with fail
          refine hrf.mono ?_
          rintro ev wd ⟨rfl, hbd⟩
          have HLd : Hid (LaidG No w w6 wd ∧ No wd g) := ⟨HLb.out.1.below G hbd, G.below HLb.out.2 hbd⟩
          have hct := G.count HLd.out.2
          clear hrf hbd
          go_wp2_with fail
          refine hct.mono ?_
          rintro ev we ⟨rfl, hbe⟩
          have HLe : Hid (LaidG No w w6 we) := HLd.out.1.below G hbe
          clear hct hbe
          go_wp2_with fail
          go_roundw
          case rel => exact ⟨j + 1, by omega, by go_num, HLe.out⟩
          case measure => simp [intOf]; omega
        · have hge : ¬ (j : Int) < 2 := by omega
          go_wp2_with fail
          refine (alive_any I wr (htb.below hL.below0)).mono ?_
          rintro ev wz ⟨rfl, hbz⟩
          go_wp2
          go_ret
          exact ⟨rfl, hL.below0.trans (hbz.mono hL.below0.size)⟩
end Go.Proofs.YtldpolbgdhgomaaDoor
