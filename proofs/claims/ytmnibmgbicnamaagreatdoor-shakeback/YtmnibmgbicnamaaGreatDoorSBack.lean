/-
  heddlelaw08.ShakeBack: its walk.
-/
import Derived.Test.YtmnibmgbicnamaaGreatDoorRSame
namespace Go.Proofs.YtmnibmgbicnamaaGreatDoor
open Go.RowKit

set_option maxRecDepth 100000 in
set_option maxHeartbeats 6400000 in
theorem back_any (m : Msg) (hm : m.Ok) (hns : m.name.size ≤ 4611686018427387904) (k : Int) (c : List Int) (hrc : ∀ z ∈ c, 0 ≤ z ∧ z < 256) (hlc : c.length ≤ 140737488355328) {w : World} {D C : Value} (hD : Sl w D m.digest) (hC : Sl w C c) (hG : Gd w) :
    Calls Tryz.prog 5 #[msgV' m D, .int .i64 k, C] w fun e w' => e = .returned (.bool true) ∧ Below w.heap.size w w' := by
  obtain ⟨aC, cC, rfl, _, _⟩ := hC.form
  obtain ⟨aD, cD, rfl, _, _⟩ := hD.form
  have HC := Hid.mk7 hC
  have HD := Hid.mk7 hD
  have HG := Hid.mk7 hG
  have HRC := Hid.mk7 hrc
  have HLC := Hid.mk7 hlc
  have HRO := Hid.mk7 (read_ok k c hrc)
  have HWR : Hid ((readOf k c).1 = [] → writeOf (readOf k c).2 = c ∧ writeErr (readOf k c).2 = []) := fun h => by
    obtain ⟨h1, h2, h3, h4⟩ := write_read k c hrc h
    refine ⟨(writeOf_ok h1 h2).trans h3, ?_⟩
    unfold writeErr
    rw [if_neg (by simpa using h1), if_neg (fun h => by rw [h2 h.1] at h; exact absurd h.2 (by decide))]
  have HNS : Hid ((readOf k c).1 = [] → (readOf k c).2.name.size ≤ 4611686018427387904) := fun h => by
    obtain ⟨h1, h2, _⟩ := write_read k c hrc h
    have := (fits_small h1 h2).1
    omega
  have HMK : Hid (writeErr m = [] → readOf m.kind (writeOf m) = ([], m)) := fun h => by
    have hf : fits m := Classical.byContradiction fun hf => by
      unfold writeErr at h
      rw [if_pos hf] at h
      cases h
    have hn : (m.kind = 1 ∨ m.kind = 3) → nodeOk m.name = true := fun hk => by
      cases hx : nodeOk m.name with
      | true => rfl
      | false =>
        unfold writeErr at h
        rw [if_neg (by simpa using hf), if_pos ⟨hk, hx⟩] at h
        cases h
    rw [writeOf_ok hf hn]
    exact read_write m hm hf hn
  have HBW : Hid (Byts (writeOf m)) := Byts.write m hm.digest
  obtain ⟨wa, hwa⟩ : ∃ wa, wa = w.alloc (.cells #[.int .i64 m.kind, .int .u64 m.flags, .int .u32 m.creation, .int .u32 m.challenge, .string m.name, .string m.status, .slice aD m.digest.length cD] 27) := ⟨_, rfl⟩
  have ba : Below w.heap.size w wa := by rw [hwa]; exact (Below.refl _ _).alloc (Nat.le_refl _) _
  have hma : MsgAt wa w.heap.size m (.slice aD m.digest.length cD) := by rw [hwa]; exact ⟨by simp, by simp, by simp, by simp, by simp, by simp, by simp⟩
  have haw := law_awake (hG.below ba)
  have H0 : Hid (Below w.heap.size w wa ∧ MsgAt wa w.heap.size m (.slice aD m.digest.length cD)) := ⟨ba, hma⟩
  have HM : Hid (m.Ok ∧ m.name.size ≤ 4611686018427387904) := ⟨hm, hns⟩
  have HMV : Hid (msgV' m (.slice aD m.digest.length cD) = .agg #[.int .i64 m.kind, .int .u64 m.flags, .int .u32 m.creation, .int .u32 m.challenge, .string m.name, .string m.status, .slice aD m.digest.length cD]) := rfl
  have HWA := Hid.mk7 hwa
  rw [HMV.out]
  clear hD hC hG hrc hlc ba hma hm hns hwa
  go_enter Tryz.func5, Tryz.ntmps5
  go_wp2_with fail
  rw [← HWA.out]
  refine haw.mono ?_
  rintro e w1 ⟨rfl, hb1⟩
  have H1 : Hid (Below w.heap.size w w1 ∧ MsgAt w1 w.heap.size m (.slice aD m.digest.length cD)) := ⟨H0.out.1.trans (hb1.mono H0.out.1.size), H0.out.2.below hb1⟩
  obtain ⟨m0, m1, m2, m3, m4, m5, m6⟩ := H1.out.2
  have hw1 := sh_Write m HM.out.1 HM.out.2 (HD.out.turned (Turned.ofBelow (S := fun _ => False) H1.out.1) (fun _ _ h => h)) (HG.out.below H1.out.1).er
  rw [HMV.out] at hw1
  clear hb1 haw H0 HWA
  go_wp2_with fail
  refine hw1.mono ?_
  rintro e w2 ⟨V2, v2, rfl, ho2, hf2, hb2, hk2⟩
  have H2 : Hid (Below w.heap.size w w2 ∧ MsgAt w2 w.heap.size m (.slice aD m.digest.length cD) ∧ Own w2 V2 (writeOf m)) := ⟨H1.out.1.trans (hb2.mono H1.out.1.size), H1.out.2.below hb2, ho2⟩
  obtain ⟨a2, c2, h2f, _, _⟩ := ho2.sl.form
  clear ho2 hb2 hk2 hw1 m0 m1 m2 m3 m4 m5 m6 H1
  have HB2 : Hid (Below w.heap.size w w2) := H2.out.1
  generalize (writeOf m).length = L2 at h2f
  subst h2f
  rcases fault_cases hf2 with ⟨hls2, rfl⟩ | ⟨hls2, pb2, rfl⟩
  · have hrm := sh_read m.kind H2.out.2.2.sl HBW.out.1 (by have := HBW.out.2; omega) (HG.out.below H2.out.1).er
    unfold ReadTold at hrm
    rw [HMK.out hls2] at hrm
    obtain ⟨m0, m1, m2, m3, m4, m5, m6⟩ := H2.out.2.1
    have hzm := H2.out.2.1.lt
    clear hf2 hls2
    go_wp2_with fail
    refine hrm.mono ?_
    rintro e w3 ⟨D3, v3, rfl, hf3, hD3, hk3, hb3⟩
    have hf3 : v3 = .nilIface := hf3
    subst hf3
    obtain ⟨a3, c3, h3f, _, _⟩ := hD3.form
    subst h3f
    have H3 : Hid (Below w.heap.size w w3 ∧ MsgAt w3 w.heap.size m (.slice aD m.digest.length cD) ∧ Sl w3 (.slice a3 m.digest.length c3) m.digest) := ⟨H2.out.1.trans (hb3.mono H2.out.1.size), H2.out.2.1.below hb3, hD3⟩
    have hz3 := H3.out.2.1.lt
    clear hb3 hD3 hk3 hrm m0 m1 m2 m3 m4 m5 m6 HB2 hzm
    obtain ⟨m0, m1, m2, m3, m4, m5, m6⟩ := H3.out.2.1
    have bq := (Below.refl w3.heap.size w3).alloc (Nat.le_refl _) (.cells #[.int .i64 m.kind, .int .u64 m.flags, .int .u32 m.creation, .int .u32 m.challenge, .string m.name, .string m.status, .slice a3 m.digest.length c3] 27)
    have bwq := H3.out.1.trans (bq.mono H3.out.1.size)
    have hsm := ref_same_eq m (HD.out.turned (Turned.ofBelow (S := fun _ => False) bwq) (fun _ _ h => h)) (H3.out.2.2.turned (Turned.ofBelow (S := fun _ => False) bq) (fun _ _ h => h))
    have HQ := Hid.mk7 bwq
    unfold msgV' at hsm
    unfold msgV'
    clear bq bwq
    go_wp2_with fail
    refine hsm.mono ?_
    rintro e w4 ⟨rfl, hb4⟩
    have HB4 : Hid (Below w.heap.size w w4) := HQ.out.trans (hb4.mono HQ.out.size)
    clear hb4 hsm m0 m1 m2 m3 m4 m5 m6 H3 hz3 H2 HQ
    have hCw4 : Sl w4 (.slice aC c.length cC) c := HC.out.turned (Turned.ofBelow (S := fun _ => False) HB4.out) (fun _ _ h => h)
    have hrd2 := sh_read k hCw4 HRC.out HLC.out (HG.out.below HB4.out).er
    clear hCw4
    go_wp2_with fail
    refine hrd2.mono ?_
    rintro e x1 ⟨D5, v5, rfl, hf5, hD5, _, hb5⟩
    have HX1 : Hid (Below w.heap.size w x1 ∧ Sl x1 D5 (readOf k c).2.digest) := ⟨HB4.out.trans (hb5.mono HB4.out.size), hD5⟩
    obtain ⟨a5, c5, h5f, _, _⟩ := hD5.form
    subst h5f
    clear hb5 hrd2 hD5
    rcases fault_cases hf5 with ⟨hls, rfl⟩ | ⟨hls, pb5, rfl⟩
    · have hok := HRO.out
      have hwr0 := HWR.out hls
      have hns2 : (readOf k c).2.name.size ≤ 4611686018427387904 := HNS.out hls
      clear hf5
      generalize (readOf k c).2 = n at hok hwr0 hns2 HX1
      obtain ⟨nk, nfl, ncr, nch, nnm, nst, ndg⟩ := n
      unfold msgV'
      simp only at hns2 HX1 ⊢
      have hwt2 := fun W2 (hb : Below x1.heap.size x1 W2) => sh_Write ⟨nk, nfl, ncr, nch, nnm, nst, ndg⟩ hok hns2 (w := W2) (D := .slice a5 ndg.length c5) (HX1.out.2.turned (Turned.ofBelow (S := fun _ => False) hb) (fun _ _ h => h)) (HG.out.below (HX1.out.1.trans (hb.mono HX1.out.1.size))).er
      have hwt3 := hwt2 _ ((Below.refl _ _).alloc (Nat.le_refl _) (.cells #[.int .i64 nk, .int .u64 nfl, .int .u32 ncr, .int .u32 nch, .string nnm, .string nst, .slice a5 ndg.length c5] 27))
      unfold msgV' WriteTold at hwt3
      rw [hwr0.1, hwr0.2] at hwt3
      simp only at hwt3
      have HB3 : Hid (Below w.heap.size w (x1.alloc (.cells #[.int .i64 nk, .int .u64 nfl, .int .u32 ncr, .int .u32 nch, .string nnm, .string nst, .slice a5 ndg.length c5] 27))) := HX1.out.1.alloc HX1.out.1.size _
      clear hwt2 hwr0 hok hns2 hls
      go_wp2_with fail
      refine hwt3.mono ?_
      rintro e x2 ⟨V6, v6, rfl, ho6, hf6, hb6, _⟩
      have hf6 : v6 = .nilIface := hf6
      subst hf6
      have B6 : Below w.heap.size w x2 := HB3.out.trans (hb6.mono HB3.out.size)
      obtain ⟨a6, c6, h6f, _, _⟩ := ho6.sl.form
      subst h6f
      have cv6 := ho6.sl.str
      have cvc := (HC.out.turned (Turned.ofBelow (S := fun _ => False) B6) (fun _ _ h => h)).str
      have HB6 := Hid.mk7 B6
      clear ho6 hb6 hwt3 B6
      go_wp2
      go_ret
      exact ⟨rfl, HB6.out⟩
    · have hzz := (read_zero k c).resolve_left hls
      rw [hzz]
      unfold msgV'
      simp only [Msg.zero]
      have HB4 := Hid.mk7 HX1.out.1
      clear hf5 hls HX1 hzz
      go_wp2
      go_ret
      exact ⟨rfl, HB4.out.alloc HB4.out.size _⟩
  · clear hf2 hls2
    clear H2
    have hCw2 : Sl w2 (.slice aC c.length cC) c := HC.out.turned (Turned.ofBelow (S := fun _ => False) HB2.out) (fun _ _ h => h)
    have hrd2 := sh_read k hCw2 HRC.out HLC.out (HG.out.below HB2.out).er
    clear hCw2
    go_wp2_with fail
    refine hrd2.mono ?_
    rintro e x1 ⟨D5, v5, rfl, hf5, hD5, _, hb5⟩
    have HX1 : Hid (Below w.heap.size w x1 ∧ Sl x1 D5 (readOf k c).2.digest) := ⟨HB2.out.trans (hb5.mono HB2.out.size), hD5⟩
    obtain ⟨a5, c5, h5f, _, _⟩ := hD5.form
    subst h5f
    clear hb5 hrd2 hD5
    rcases fault_cases hf5 with ⟨hls, rfl⟩ | ⟨hls, pb5, rfl⟩
    · have hok := HRO.out
      have hwr0 := HWR.out hls
      have hns2 : (readOf k c).2.name.size ≤ 4611686018427387904 := HNS.out hls
      clear hf5
      generalize (readOf k c).2 = n at hok hwr0 hns2 HX1
      obtain ⟨nk, nfl, ncr, nch, nnm, nst, ndg⟩ := n
      unfold msgV'
      simp only at hns2 HX1 ⊢
      have hwt2 := fun W2 (hb : Below x1.heap.size x1 W2) => sh_Write ⟨nk, nfl, ncr, nch, nnm, nst, ndg⟩ hok hns2 (w := W2) (D := .slice a5 ndg.length c5) (HX1.out.2.turned (Turned.ofBelow (S := fun _ => False) hb) (fun _ _ h => h)) (HG.out.below (HX1.out.1.trans (hb.mono HX1.out.1.size))).er
      have hwt3 := hwt2 _ ((Below.refl _ _).alloc (Nat.le_refl _) (.cells #[.int .i64 nk, .int .u64 nfl, .int .u32 ncr, .int .u32 nch, .string nnm, .string nst, .slice a5 ndg.length c5] 27))
      unfold msgV' WriteTold at hwt3
      rw [hwr0.1, hwr0.2] at hwt3
      simp only at hwt3
      have HB3 : Hid (Below w.heap.size w (x1.alloc (.cells #[.int .i64 nk, .int .u64 nfl, .int .u32 ncr, .int .u32 nch, .string nnm, .string nst, .slice a5 ndg.length c5] 27))) := HX1.out.1.alloc HX1.out.1.size _
      clear hwt2 hwr0 hok hns2 hls
      go_wp2_with fail
      refine hwt3.mono ?_
      rintro e x2 ⟨V6, v6, rfl, ho6, hf6, hb6, _⟩
      have hf6 : v6 = .nilIface := hf6
      subst hf6
      have B6 : Below w.heap.size w x2 := HB3.out.trans (hb6.mono HB3.out.size)
      obtain ⟨a6, c6, h6f, _, _⟩ := ho6.sl.form
      subst h6f
      have cv6 := ho6.sl.str
      have cvc := (HC.out.turned (Turned.ofBelow (S := fun _ => False) B6) (fun _ _ h => h)).str
      have HB6 := Hid.mk7 B6
      clear ho6 hb6 hwt3 B6
      go_wp2
      go_ret
      exact ⟨rfl, HB6.out⟩
    · have hzz := (read_zero k c).resolve_left hls
      rw [hzz]
      unfold msgV'
      simp only [Msg.zero]
      have HB4 := Hid.mk7 HX1.out.1
      clear hf5 hls HX1 hzz
      go_wp2
      go_ret
      exact ⟨rfl, HB4.out.alloc HB4.out.size _⟩
end Go.Proofs.YtmnibmgbicnamaaGreatDoor
