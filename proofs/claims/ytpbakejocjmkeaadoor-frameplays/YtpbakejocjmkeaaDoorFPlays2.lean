/-
  heddlelaw06.FramePlays: its walk at a width that is one.
-/
import Derived.Test.YtpbakejocjmkeaaDoorFPlays
namespace Go.Proofs.YtpbakejocjmkeaaDoor
open Go.RowKit

set_option maxRecDepth 100000 in
set_option maxHeartbeats 6400000 in
theorem plays_ok {Mem : World → Nat → (Nat → Prop) → FSt → Prop} (I : FImpl Mem) (n : Nat) (hn : n = 2 ∨ n = 4) (v : Value) (w : World) (her : Er w) (hv : ScriptF w v) :
    Calls Tryd.prog 5 #[.int .i64 n, v] w fun ev w' => ev = .returned (.bool true) ∧ Below w.heap.size w w' := by
  have hq : ∀ (w : World) (a : Option Addr) (n c n' c' : Nat), (binOp .neq 27 (.slice a n c) (.slice none n' c')).run Tryd.prog w = .ok (.bool (!a.isNone)) w := fun w a n c n' c' => run_neq_slice_nil_any w _ _ a n c n' c' Tryd.underlying27
  obtain ⟨a, len, cap, rfl, hlen, hops⟩ := hv
  have hlt : 0 < w.heap.size := World.block_lt_of_cell? w _ her
  have HO : Hid (∀ j, j < len → ∃ b off, a = some ⟨b, off, none⟩ ∧ ∃ k x bs, w.cell? ⟨b, off + j * 2, none⟩ = some (.int .i64 k) ∧ w.cell? ⟨b, off + j * 2 + 1, none⟩ = some x ∧ Sl w x bs ∧ Rng bs ∧ bs.length ≤ 140737488355328) := hops
  clear hops
  go_enter Tryd.func5, Tryd.ntmps5
  go_wp2_with fail
  refine (I.new n w hn).mono ?_
  rintro ev w1 ⟨rb, S1, rfl, hm1, hb1, hS1⟩
  go_wp2_with fail
  refine (refNew_ok n hn w1).mono ?_
  rintro ev w2 ⟨g, R2, rfl, hr2, hb2, hR2⟩
  have hs1 := hb1.size
  have hs2 := hb2.size
  have hB2 : Below w.heap.size w w2 := hb1.trans (hb2.mono hs1)
  have P0 : FPair Mem w.heap.size w2 rb g S1 R2 (FSt.fresh n) :=
    ⟨I.turned hm1 (Turned.ofBelow (S := fun _ => False) hb2) (fun _ _ h => h), hr2, FSt.Ok.fresh hn, fun k hk he => by have := I.lt hm1 k hk; have := hR2 k he; omega, hS1, fun k hk => by have := hR2 k hk; omega, her.below hB2, hlt, by omega⟩
  have hrf := refused_bothF (B := 0) (B' := 0) (oc := none) P0.er rfl rfl
  clear hm1 hb1 hr2 hb2 hR2 hS1
  go_wp2_with fail
  refine hrf.mono ?_
  rintro ev w3 ⟨rfl, hb3⟩
  have P3 := P0.below I hb3
  have hB3 : Below w.heap.size w w3 := hB2.trans (hb3.mono P0.big)
  clear P0 hb3 hB2 hrf
  go_wp2_with fail
  refine (awake_any I w3).mono ?_
  rintro ev w4 ⟨rfl, hb4⟩
  have P4 := P3.below I hb4
  have hB4 : Below w.heap.size w w4 := hB3.trans (hb4.mono P3.big)
  clear P3 hb4 hB3
  go_wp2_with fail
  go_loopw [9] (fun i wr => ∃ j : Nat, j ≤ len ∧ i = .int .i64 j ∧ Below w.heap.size w wr ∧ ∃ S R f, FPair Mem w.heap.size wr rb g S R f) (fun i _ => len - (intOf i).toNat)
  case atStart => exact ⟨0, Nat.zero_le _, rfl, hB4, _, _, _, P4⟩
  case round =>
    clear P4 hB4
    obtain ⟨j, hj, rfl, hB, S, R, f, P⟩ := hrel
    by_cases hlt2 : j < len
    · obtain ⟨b, off, rfl, k, x, bs, c0, c1, hx, hrg, hbs⟩ := HO.out j hlt2
      have hbl : b < w.heap.size := World.block_lt_of_cell? w _ c0
      have d0 := (hB.cell (p := ⟨b, off + j * 2, none⟩) hbl).trans c0
      have d1 := (hB.cell (p := ⟨b, off + j * 2 + 1, none⟩) hbl).trans c1
      have hxw : Sl wr x bs := hx.turnedN (Turned.ofBelow (S := fun _ => False) hB) (fun _ _ _ h => h)
      have hxS : bs ≠ [] → ∀ q, blk x q → ¬ S q := fun hne q hq hs => by have h1 := hx.lt hne q hq; have h2 := P.bS q hs; omega
      have hlti : (j : Int) < (len : Int) := by omega
      have hj0 : (0 : Int) ≤ (j : Int) := by omega
      clear c0 c1
      go_upto_block 2 with fail
      go_cut [10, 11, 12, 13, 14, 15, 16] from 47 to 104 (fun v10 v11 v12 v13 v14 v15 v16 wc => v10 = .bool true ∧ Below w.heap.size w wc ∧ ∃ S R f, FPair Mem w.heap.size wc rb g S R f)
      case first =>
        have hgl : g < wr.heap.size := P.ref.own.2 g P.ref.own.1
        by_cases k1 : k = 1
        · subst k1
          clear hxw hxS hx hrg d1
          go_wp2_with fail
          refine (I.next P.mem P.ok).mono ?_
          rintro ev w3 ⟨V3, v3, S3, rfl, he3, hV3, hbV3, hm3, T3, hS3⟩
          go_wp2_with fail
          refine (ref_next (P.refAt T3) P.ok).mono ?_
          rintro ev w4 ⟨V4, v4, rfl, hl4, hV4, hbV4, hr4, T4⟩
          have N := P.next I P.ok.next hm3 T3 hS3 hr4 T4
          have c3 := (hV3.turned T4 (fun q hq he => by have := (hbV3 q hq).1; have he : q = g := he; omega)).str
          have c4 := hV4.str
          have hr := refused_bothF N.1.er (he3.turned T4 (fun q hq _ he => by have he : q = g := he; omega)) hl4
          have HN : Hid (FPair Mem w.heap.size w4 rb g S3 (growF R w3 w4) f.next.2.2 ∧ Below w.heap.size wr w4) := N
          have HB : Hid (Below w.heap.size w wr) := hB
          generalize f.next.2.1.isSome = bb
          generalize strOfNums (bodyOf f.next.2.1) = tx at c3 c4
          clear hV3 hV4 hbV3 hbV4 hm3 hr4 T3 T4 hS3 he3 hl4 N P hB d0
          go_wp2_with fail
          refine hr.mono ?_
          rintro ev w5 ⟨rfl, hb5⟩
          go_wp2
          go_meet
          have B4 := HB.out.trans HN.out.2
          exact ⟨rfl, B4.trans (hb5.mono B4.size), _, _, _, HN.out.1.below I hb5⟩
        by_cases k2 : k = 2
        · subst k2
          clear hxw hxS hx hrg d1
          go_wp2_with fail
          refine (I.widen P.mem P.ok).mono ?_
          rintro ev w3 ⟨v3, S3, rfl, he3, hm3, T3, hS3⟩
          go_wp2_with fail
          refine (ref_widen (P.refAt T3) P.ok).mono ?_
          rintro ev w4 ⟨v4, rfl, hl4, hr4, T4⟩
          have N := P.next I P.ok.widen hm3 T3 hS3 hr4 T4
          have hr := refused_bothF N.1.er (he3.turned T4 (fun q hq _ he => by have he : q = g := he; omega)) hl4
          have HN : Hid (FPair Mem w.heap.size w4 rb g S3 (growF R w3 w4) f.widen.2 ∧ Below w.heap.size wr w4) := N
          have HB : Hid (Below w.heap.size w wr) := hB
          clear hm3 hr4 T3 T4 hS3 he3 hl4 N P hB d0
          go_wp2_with fail
          refine hr.mono ?_
          rintro ev w5 ⟨rfl, hb5⟩
          go_wp2
          go_meet
          have B4 := HB.out.trans HN.out.2
          exact ⟨rfl, B4.trans (hb5.mono B4.size), _, _, _, HN.out.1.below I hb5⟩
        by_cases k0 : k = 0
        · subst k0
          have hSb : ¬ S b := fun h => by have := P.bS b h; omega
          have hgb : ¬ b = g := fun h => by have := P.bR g P.ref.own.1; omega
          have Td := Turned.drew (fun _ => False) wr
          have Pd := P.below I ((Below.refl wr.heap.size wr).drew)
          have hxd : Sl wr.drew x bs := hxw.turned Td (fun _ _ h => h)
          have hfd := I.feed Pd.mem Pd.ok hxd hrg hbs hxS
          have HP : Hid (FPair Mem w.heap.size wr.drew rb g S R f) := Pd
          have HX : Hid (Sl wr.drew x bs) := hxd
          have HXS : Hid (bs ≠ [] → ∀ q, blk x q → ¬ S q) := hxS
          have HB : Hid (Below w.heap.size w wr) := hB
          have HXL : Hid (bs ≠ [] → ∀ q, blk x q → q < w.heap.size) := fun hne => hx.lt hne
          have hbl2 : b < wr.heap.size := by have := hB.size; omega
          have hrd := fun (w3 : World) (hr : RdAt w3 g R f) (hx3 : Sl w3 x bs) => ref_feed hr HP.out.ok hx3 hbs
          have HRD : Hid (∀ (w3 : World) (hr : RdAt w3 g R f) (hx3 : Sl w3 x bs), _) := hrd
          clear hrd hxw hxS hx Td Pd hxd P hB
          go_wp2_with fail
          go_region_held3 (fun w' => w'.cell? ⟨b, off + j * 2 + 1, none⟩ = some x)
            (go_keep)
            (first
              | (go_at_call 16; refine hfd.mono ?_; rintro ev w3 ⟨v3, S3, rfl, he3, hm3, T3, hS3⟩; have s3 := T3.cell (p := ⟨b, off + j * 2 + 1, none⟩) d1 hSb; have hr3 := HP.out.refAt T3; have hx3 := HX.out.turnedN T3 HXS.out; have HE3 : Hid (ErrsF _ w3 v3 _) := he3; have HM3 : Hid (Mem w3 rb S3 _) := hm3; have HT3 : Hid (Turned S wr.drew w3) := T3; have HS3 : Hid (∀ k, S3 k → S k ∨ wr.drew.heap.size ≤ k) := hS3; clear he3 hm3 T3 hS3)
              | (go_at_call 17; refine (HRD.out w3 hr3 hx3).mono ?_; rintro ev w4 ⟨v4, rfl, hl4, hr4, T4⟩; have s4 := T4.cell (p := ⟨b, off + j * 2 + 1, none⟩) s3 hgb; have N := HP.out.next I (HP.out.ok.feed hrg) HM3.out HT3.out HS3.out hr4 T4; have hr := refused_bothF N.1.er (HE3.out.turned T4 (fun q hq _ he => by have he : q = g := he; have hq : wr.heap.size ≤ q := hq; omega)) hl4; have HN : Hid (FPair Mem w.heap.size w4 rb g S3 _ _ ∧ Below w.heap.size wr.drew w4) := N; clear N hl4 hr4 T4)
              | (go_at_call 9; refine hr.mono ?_; rintro ev w5 ⟨rfl, hb5⟩; have s5 := (hb5.cell (p := ⟨b, off + j * 2 + 1, none⟩) (World.block_lt_of_cell? w4 _ s4)).trans s4))
          all_goals
            go_wp2
            go_meet
            have B4 : Below w.heap.size w w4 := (HB.out.drew).trans HN.out.2
            exact ⟨rfl, B4.trans (hb5.mono B4.size), _, _, _, HN.out.1.below I hb5⟩
        have k0 : (k == 0) = false := by simpa using k0
        have k1 : (k == 1) = false := by simpa using k1
        have k2 : (k == 2) = false := by simpa using k2
        go_wp2
        go_meet
        exact ⟨rfl, hB, _, _, _, P⟩
      case rest =>
        obtain ⟨rfl, hBc, S', R', f', P'⟩ := hcut
        clear d0 d1 hxw hxS hx hrg P hB
        obtain ⟨B', hmB, _, _, _⟩ := P'.ref
        obtain ⟨q0, _⟩ := hmB.cells 0 (by omega)
        obtain ⟨q1, _⟩ := hmB.cells 1 (by omega)
        obtain ⟨q2, _⟩ := hmB.cells 2 (by omega)
        obtain ⟨q3, _⟩ := hmB.cells 3 (by omega)
        obtain ⟨q4, _⟩ := hmB.cells 4 (by omega)
        obtain ⟨q5, _⟩ := hmB.cells 5 (by omega)
        simp only [rdCell] at q0 q1 q2 q3 q4 q5
        have hgc : g < wc.heap.size := World.block_lt_of_cell? wc _ q0
        have hst := fun (W : World) (T : Turned (fun _ => False) wc W) => I.state (I.turned P'.mem T (fun _ _ h => h)) P'.ok
        simp only [FSt.framing] at hst
        have HST : Hid (∀ (W : World) (T : Turned (fun _ => False) wc W), _) := hst
        have HP : Hid (FPair Mem w.heap.size wc rb g S' R' f') := P'
        have HBc : Hid (Below w.heap.size w wc) := hBc
        clear hst hmB P' hBc
        generalize f'.held.length = HL at q1 HST
        generalize f'.width = WD at q0 HST
        go_wp2_with fail
        go_region_held3 (fun w' => w'.cell? ⟨g, 0, none⟩ = some (.int .i64 (WD : Nat)) ∧ w'.cell? ⟨g, 1, none⟩ = some (.int .i64 (HL : Nat)) ∧ w'.cell? ⟨g, 2, none⟩ = some (.int .i64 f'.frames) ∧ w'.cell? ⟨g, 3, none⟩ = some (.int .i64 f'.ticks) ∧ w'.cell? ⟨g, 4, none⟩ = some (.int .i64 f'.bytes) ∧ w'.cell? ⟨g, 5, none⟩ = some (.bool f'.dead))
          (go_keep)
          (first | (go_at_call 22; refine (HST.out _ (Turned.drew _ _)).mono ?_; rintro ev w6 ⟨rfl, hb6⟩; have r0 := (hb6.cell (p := ⟨g, 0, none⟩) hgc).trans q0; have r1 := (hb6.cell (p := ⟨g, 1, none⟩) hgc).trans q1; have r2 := (hb6.cell (p := ⟨g, 2, none⟩) hgc).trans q2; have r3 := (hb6.cell (p := ⟨g, 3, none⟩) hgc).trans q3; have r4 := (hb6.cell (p := ⟨g, 4, none⟩) hgc).trans q4; have r5 := (hb6.cell (p := ⟨g, 5, none⟩) hgc).trans q5))
        all_goals
          have HB6 : Hid (Below wc.heap.size wc w6) := ((Below.refl wc.heap.size wc).drew).trans hb6
          clear hb6 r0 r1 r2 r3 r4 r5 q0 q1 q2 q3 q4 q5
          go_wp2
          go_roundw
          case rel => exact ⟨j + 1, by omega, by go_num, HBc.out.trans (HB6.out.mono HBc.out.size), _, _, _, HP.out.below I HB6.out⟩
          case measure => simp [intOf]; omega
    · have hge : ¬ (j : Int) < (len : Int) := by omega
      go_wp2
      go_ret
      exact ⟨rfl, hB⟩

theorem plays_any {Mem : World → Nat → (Nat → Prop) → FSt → Prop} (I : FImpl Mem) (n : Int) (v : Value) (w : World) (her : Er w) (hv : ScriptF w v) :
    Calls Tryd.prog 5 #[.int .i64 n, v] w fun ev w' => ev = .returned (.bool true) ∧ Below w.heap.size w w' := by
  by_cases h : n ≠ 2 ∧ n ≠ 4
  · exact plays_bad I n h.1 h.2 v w her
  · have hn : n = 2 ∨ n = 4 := by omega
    rcases hn with rfl | rfl
    · exact plays_ok I 2 (.inl rfl) v w her hv
    · exact plays_ok I 4 (.inr rfl) v w her hv
end Go.Proofs.YtpbakejocjmkeaaDoor
