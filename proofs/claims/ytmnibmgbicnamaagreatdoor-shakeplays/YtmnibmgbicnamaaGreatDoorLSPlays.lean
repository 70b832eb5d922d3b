/-
  heddlelaw08.ShakePlays: its walk.
-/
import Derived.Test.YtmnibmgbicnamaaGreatDoorLSKnows
import Derived.Test.YtmnibmgbicnamaaGreatDoorKj
namespace Go.Proofs.YtmnibmgbicnamaaGreatDoor
open Go.RowKit

/-- What holds of both sides while calls come. -/
structure PI (w wr : World) (gx gy : Nat) (cookie : ByteArray) (ch : Nat) (s : Sd) : Prop where
  k : KI w wr gx cookie ch s
  y : RSide wr gy s
  ne : gx ≠ gy
  yw : w.heap.size ≤ gy
theorem PI.below {w wr w' : World} {gx gy : Nat} {cookie : ByteArray} {ch : Nat} {s : Sd} (h : PI w wr gx gy cookie ch s) (hb : Below wr.heap.size wr w') : PI w w' gx gy cookie ch s := ⟨h.k.below hb, h.y.below hb, h.ne, h.yw⟩
/-- Behind a call of both. -/
theorem KI.other {w wr w' : World} {gx gy : Nat} {cookie : ByteArray} {ch : Nat} {s : Sd} (h : KI w wr gx cookie ch s) (T : Turned (fun k => k = gy) wr w') (hne : gx ≠ gy) (hy : w.heap.size ≤ gy) (hb : Big gy) (hl : gy ≤ wr.heap.size) : KI w w' gx cookie ch s :=
  ⟨h.x.turned T (fun e => hne e), h.o, h.f, h.gd.turned T hb hl, h.b.trans (T.below h.b.size (fun k hk => by have hk : k = gy := hk; omega)), h.xw, h.xb, h.ck, h.cn, h.ns⟩
set_option maxRecDepth 100000 in
set_option maxHeartbeats 12800000 in
theorem plays_any (bg : Bool) (me : Pr) (hme : me.Ok) (peer cookie : ByteArray) (ch : Nat) (hch : ch < 4294967296) (hns : me.name.size ≤ 4611686018427387904) (hps : peer.size ≤ 4611686018427387904) (hcs : cookie.size ≤ 4611686018427387904) (l : List Op8) {w : World} {L : Value} (hL : OpsAt w L l) (hG : Gd w) :
    Calls Tryz.prog 6 #[startV bg me peer cookie ch, L] w fun e w' => e = .returned (.bool true) ∧ Below w.heap.size w w' := by
  obtain ⟨aL, cL, rfl⟩ := hL.form
  obtain ⟨wa, hwa⟩ : ∃ wa, wa = w.alloc (.cells #[.bool bg, .string me.name, .int .u64 me.flags, .int .u32 me.creation, .string peer, .string cookie, .int .u32 ch] 48) := ⟨_, rfl⟩
  have ba : Below w.heap.size w wa := by rw [hwa]; exact (Below.refl _ _).alloc (Nat.le_refl _) _
  have hsd := law_sides bg me hme peer cookie ch hns hps hcs (hG.below ba)
  have H0 := Hid.mk7 ba
  have HWA := Hid.mk7 hwa
  have HG := Hid.mk7 hG
  have HL := Hid.mk7 hL
  have HOK := Hid.mk7 (sidesOf_ok bg me hme peer cookie ch hch)
  have HNS := Hid.mk7 hns
  have haw : Hid (∀ W, Gd W → Calls Tryz.prog 12 #[] W fun e w' => e = .returned (.bool true) ∧ Below W.heap.size W w') := fun W h => law_awake h
  unfold startV at hsd ⊢
  unfold SidesTold at hsd
  clear hwa ba hG hme hL hch hns hps hcs
  go_enter Tryz.func6, Tryz.ntmps6
  go_wp2_with fail
  rw [← HWA.out]
  refine hsd.mono ?_
  rintro e w1 (⟨_, rfl, hb1⟩ | ⟨hls, gx, gy, rfl, hgx, hgy, hne, hsx, hsy, hb1⟩)
  · have H1 : Hid (Below w.heap.size w w1) := H0.out.trans (hb1.mono H0.out.size)
    clear hb1 hsd H0 HWA
    go_wp2_with fail
    refine (haw.out _ (HG.out.below H1.out)).mono ?_
    rintro e w2 ⟨rfl, hb2⟩
    have H2 : Hid (Below w.heap.size w w2) := H1.out.trans (hb2.mono H1.out.size)
    clear hb2 H1
    go_wp2_with fail
    go_loopw [8] (fun ii wr => ii = .int .i64 0 ∧ Below w.heap.size w wr) (fun _ _ => 0)
    case atStart => exact ⟨rfl, H2.out⟩
    case round =>
      obtain ⟨rfl, hb⟩ := hrel
      have HB := Hid.mk7 hb
      clear hb
      by_cases hl0 : (0 : Int) < (l.length : Int)
      all_goals
        go_wp2
        go_ret
        exact ⟨rfl, HB.out⟩
  · have hck := sides_cookie hls
    obtain ⟨o1, o2, o3, o4, o5⟩ := HOK.out hck
    have B1 : Below w.heap.size w w1 := H0.out.trans (hb1.mono H0.out.size)
    have hbig : ∀ g, wa.heap.size ≤ g → Big g := fun g hg => ⟨by have h1 := HG.out.er.lt; have h2 := H0.out.size; omega, by have h1 := HG.out.tb.lt; have h2 := H0.out.size; omega⟩
    have HBY : Hid (Big gy) := hbig gy hgy
    have P1 : PI w w1 gx gy cookie ch (sidesOf bg me peer cookie ch) := ⟨⟨hsx, o1, o2, HG.out.below B1, B1, Nat.le_trans H0.out.size hgx, hbig gx hgx, o3, o4, by rw [o5]; exact HNS.out⟩, hsy, hne, Nat.le_trans H0.out.size hgy⟩
    have H1 := Hid.mk7 P1
    generalize sidesOf bg me peer cookie ch = s0 at H1
    clear hls hgx hgy hsx hsy hb1 hck o1 o2 o3 o4 o5 B1 hbig P1 hsd H0 HWA HOK
    go_wp2_with fail
    refine (haw.out _ H1.out.k.gd).mono ?_
    rintro e w2 ⟨rfl, hb2⟩
    have H2 := Hid.mk7 (H1.out.below hb2)
    clear hb2 H1 haw
    have HLS : Hid (l.length ≤ 140737488355328) := by
      rcases HL.out with ⟨_, _, _, h⟩ | ⟨_, _, _, _, h, _⟩
      · have h : l.length ≤ 140737488355328 := by rw [h]; simp
        exact h
      · exact h
    have HNE : Hid (gx ≠ gy) := H2.out.ne
    have HYW : Hid (w.heap.size ≤ gy) := H2.out.yw
    go_wp2_with fail
    go_loopw [8] (fun ii wr => ∃ (j : Nat) (s : Sd), ii = .int .i64 j ∧ j ≤ l.length ∧ PI w wr gx gy cookie ch s) (fun ii _ => l.length - (intOf ii).toNat)
    case atStart => exact ⟨0, s0, rfl, Nat.zero_le _, H2.out⟩
    case round =>
      obtain ⟨j, s, rfl, hj, hP⟩ := hrel
      by_cases hjl : j < l.length
      case neg =>
        have hge : ¬ (j : Int) < (l.length : Int) := by omega
        have HF := Hid.mk7 hP.k.b
        clear hP
        go_wp2
        go_ret
        exact ⟨rfl, HF.out⟩
      case pos =>
        have hji : (j : Int) < (l.length : Int) := by omega
        have hlsz := HLS.out
        obtain ⟨g, off, D, haL, hop⟩ := (HL.out).at j hjl
        have HOP : Hid (∀ W, Below w.heap.size w W → OpAt W g (off + j * 2) l[j] D) := fun W h => hop.below h
        have hop := HOP.out wr hP.k.b
        subst haL
        obtain ⟨x, hx⟩ : ∃ x, x = l[j] := ⟨_, rfl⟩
        have H3 : Hid (PI w wr gx gy cookie ch s ∧ OpAt wr g (off + j * 2) l[j] D) := ⟨hP, hop⟩
        rw [← hx] at H3 HOP
        have o0 := H3.out.2.c0
        have o1 := H3.out.2.c1
        obtain ⟨aD, cD, hDf, _, _⟩ := H3.out.2.sl.form
        subst hDf
        clear hP hop hx
        by_cases hst : x.st.size = 0
        case pos =>
          have hse := empty_size hst
          rw [hse] at o1
          have htk := sd_take H3.out.1.k.xb H3.out.1.k.x H3.out.1.k.o H3.out.1.k.f H3.out.1.k.gd H3.out.2.sl H3.out.2.rg H3.out.2.sz
          have HSO : Hid s.Ok := H3.out.1.k.o
          have hgyl : gy < wr.heap.size := H3.out.1.y.lt
          go_wp2_with fail
          refine htk.mono ?_
          rintro e w5 ⟨V5, v5, vs5, rfl, hf5, hg5, hs5, ht5⟩
          have k5 := H3.out.1.k.take H3.out.2.rg hs5 ht5
          have H5 : Hid (KI w w5 gx cookie ch (s.take x.b).2.1 ∧ RSide w5 gy s ∧ OpAt w5 g (off + j * 2) x (.slice aD x.b.length cD) ∧ FaultC wr.heap.size w5 v5 (s.take x.b).1 ∧ Gather w5 wr.heap.size V5 vs5 (s.take x.b).2.2) := ⟨k5, H3.out.1.y.turned ht5 (fun e => HNE.out e.symm), HOP.out w5 k5.b, hf5, hg5⟩
          have hrt := rs_take H5.out.2.1 HSO.out H5.out.2.2.1.sl H5.out.2.2.1.rg H5.out.2.2.1.sz
          obtain ⟨a5, c5, hV5, _⟩ := hg5.own.sl.form
          subst hV5
          have HZZ : Hid (wr.heap.size ≤ w5.heap.size) := ht5.size
          clear hf5 hg5 hs5 ht5 k5 htk o0 o1
          have o0 := H5.out.2.2.1.c0
          have o1 := H5.out.2.2.1.c1
          rw [hse] at o1
          have hz5 : wr.heap.size ≤ w5.heap.size := HZZ.out
          go_wp2_with fail
          refine hrt.mono ?_
          rintro e w6 ⟨V6, v6, vs6, rfl, hl6, hg6, hr6, ht6⟩
          have k6 := H5.out.1.other ht6 HNE.out HYW.out HBY.out (by omega)
          have H6 : Hid (PI w w6 gx gy cookie ch (s.take x.b).2.1 ∧ FaultC wr.heap.size w6 v5 (s.take x.b).1 ∧ LinksC w5.heap.size w6 v6 (s.take x.b).1 ∧ OpAt w6 g (off + j * 2) x (.slice aD x.b.length cD)) := ⟨⟨k6, hr6, HNE.out, HYW.out⟩, H5.out.2.2.2.1.turned ht6 (fun k hk _ he => by have he : k = gy := he; omega), hl6, HOP.out w6 k6.b⟩
          have hsa := ref_sames (H5.out.2.2.2.2.turnedS ht6 (fun k hk => by have hk : k = gy := hk; omega)) hg6 (by have := take_few s x.b; omega)
          obtain ⟨a6, c6, hV6, _⟩ := hg6.own.sl.form
          subst hV6
          obtain ⟨al, Ll, cl, hvl⟩ := links_form hl6
          subst hvl
          generalize (s.take x.b).2.1 = s' at H6
          clear hl6 hg6 hr6 ht6 k6 hrt H5 o0 o1
          go_wp2_with fail
          refine hsa.mono ?_
          rintro e w7 ⟨rfl, hb7⟩
          have H7 : Hid (PI w w7 gx gy cookie ch s') := H6.out.1.below hb7
          have hre := refused_bothC H7.out.k.gd.er (H6.out.2.1.below hb7) (H6.out.2.2.1.below hb7)
          clear hb7 hsa H6
          go_wp2_with fail
          refine hre.mono ?_
          rintro e w8 ⟨rfl, hb8⟩
          have H8 : Hid (PI w w8 gx gy cookie ch s') := H7.out.below hb8
          obtain ⟨y0, _⟩ := H8.out.y 0 (by omega)
          obtain ⟨y1, _⟩ := H8.out.y 1 (by omega)
          obtain ⟨y2, _⟩ := H8.out.y 2 (by omega)
          obtain ⟨y3, _⟩ := H8.out.y 3 (by omega)
          obtain ⟨y4, _⟩ := H8.out.y 4 (by omega)
          simp only [rsCell] at y0 y1 y2 y3 y4
          have hx8 : SideAt w8.drew gx s' := H8.out.k.x.turned (Turned.drew (fun _ => False) w8) (fun h => h)
          have hnow := sd_now hx8
          have hgy8 : gy < w8.heap.size := H8.out.y.lt
          have z0 : w8.drew.cell? ⟨gy, 0, none⟩ = some (.int .i64 s'.state) := y0
          have z1 : w8.drew.cell? ⟨gy, 1, none⟩ = some (.string s'.peer.name) := y1
          have z2 : w8.drew.cell? ⟨gy, 2, none⟩ = some (.int .u64 s'.peer.flags) := y2
          have z3 : w8.drew.cell? ⟨gy, 3, none⟩ = some (.int .u32 s'.peer.creation) := y3
          have z4 : w8.drew.cell? ⟨gy, 4, none⟩ = some (.bool s'.simult) := y4
          clear hb8 hre H7 hx8
          go_wp2_with fail
          go_region_held3 (fun w' => w'.cell? ⟨gy, 0, none⟩ = some (.int .i64 s'.state) ∧ w'.cell? ⟨gy, 1, none⟩ = some (.string s'.peer.name) ∧ w'.cell? ⟨gy, 2, none⟩ = some (.int .u64 s'.peer.flags) ∧ w'.cell? ⟨gy, 3, none⟩ = some (.int .u32 s'.peer.creation) ∧ w'.cell? ⟨gy, 4, none⟩ = some (.bool s'.simult))
            (go_keep)
            ((go_at_call 22; refine hnow.mono ?_; rintro e w9 ⟨rfl, hb9⟩; have d0 : w9.cell? ⟨gy, 0, none⟩ = some (.int .i64 s'.state) := (hb9.cell (p := ⟨gy, 0, none⟩) hgy8).trans z0; have d1 : w9.cell? ⟨gy, 1, none⟩ = some (.string s'.peer.name) := (hb9.cell (p := ⟨gy, 1, none⟩) hgy8).trans z1; have d2 : w9.cell? ⟨gy, 2, none⟩ = some (.int .u64 s'.peer.flags) := (hb9.cell (p := ⟨gy, 2, none⟩) hgy8).trans z2; have d3 : w9.cell? ⟨gy, 3, none⟩ = some (.int .u32 s'.peer.creation) := (hb9.cell (p := ⟨gy, 3, none⟩) hgy8).trans z3; have d4 : w9.cell? ⟨gy, 4, none⟩ = some (.bool s'.simult) := (hb9.cell (p := ⟨gy, 4, none⟩) hgy8).trans z4; have H9 : Hid (PI w w9 gx gy cookie ch s') := H8.out.below (((Below.refl w8.heap.size w8).drew).trans hb9); clear hb9))
          all_goals
            go_wp2
            go_roundw
            case rel => exact ⟨j + 1, s', by go_num, by omega, H9.out⟩
            case measure => simp [intOf]; omega
        case neg =>
          have hse := empty_list hst
          have htk := sd_answer H3.out.1.k.xb H3.out.1.k.x H3.out.1.k.o H3.out.1.k.f H3.out.1.k.gd H3.out.1.k.ns x.st
          have HSO : Hid (s.Ok ∧ s.me.name.size ≤ 4611686018427387904) := ⟨H3.out.1.k.o, H3.out.1.k.ns⟩
          have hgyl : gy < wr.heap.size := H3.out.1.y.lt
          go_wp2_with fail
          refine htk.mono ?_
          rintro e w5 ⟨V5, v5, vs5, rfl, hf5, hg5, hs5, ht5⟩
          have k5 := H3.out.1.k.answer hs5 ht5
          have H5 : Hid (KI w w5 gx cookie ch (s.answer x.st).2.1 ∧ RSide w5 gy s ∧ OpAt w5 g (off + j * 2) x (.slice aD x.b.length cD) ∧ FaultC wr.heap.size w5 v5 (s.answer x.st).1 ∧ Gather w5 wr.heap.size V5 vs5 (s.answer x.st).2.2) := ⟨k5, H3.out.1.y.turned ht5 (fun e => HNE.out e.symm), HOP.out w5 k5.b, hf5, hg5⟩
          have hrt := rs_answer H5.out.2.1 HSO.out.1 HSO.out.2 x.st
          obtain ⟨a5, c5, hV5, _⟩ := hg5.own.sl.form
          subst hV5
          have HZZ : Hid (wr.heap.size ≤ w5.heap.size) := ht5.size
          clear hf5 hg5 hs5 ht5 k5 htk o0 o1
          have o0 := H5.out.2.2.1.c0
          have o1 := H5.out.2.2.1.c1
          skip
          have hz5 : wr.heap.size ≤ w5.heap.size := HZZ.out
          go_wp2_with fail
          refine hrt.mono ?_
          rintro e w6 ⟨V6, v6, vs6, rfl, hl6, hg6, hr6, ht6⟩
          have k6 := H5.out.1.other ht6 HNE.out HYW.out HBY.out (by omega)
          have H6 : Hid (PI w w6 gx gy cookie ch (s.answer x.st).2.1 ∧ FaultC wr.heap.size w6 v5 (s.answer x.st).1 ∧ LinksC w5.heap.size w6 v6 (s.answer x.st).1 ∧ OpAt w6 g (off + j * 2) x (.slice aD x.b.length cD)) := ⟨⟨k6, hr6, HNE.out, HYW.out⟩, H5.out.2.2.2.1.turned ht6 (fun k hk _ he => by have he : k = gy := he; omega), hl6, HOP.out w6 k6.b⟩
          have hsa := ref_sames (H5.out.2.2.2.2.turnedS ht6 (fun k hk => by have hk : k = gy := hk; omega)) hg6 (by have := answer_few s x.st; omega)
          obtain ⟨a6, c6, hV6, _⟩ := hg6.own.sl.form
          subst hV6
          obtain ⟨al, Ll, cl, hvl⟩ := links_form hl6
          subst hvl
          generalize (s.answer x.st).2.1 = s' at H6
          clear hl6 hg6 hr6 ht6 k6 hrt H5 o0 o1
          go_wp2_with fail
          refine hsa.mono ?_
          rintro e w7 ⟨rfl, hb7⟩
          have H7 : Hid (PI w w7 gx gy cookie ch s') := H6.out.1.below hb7
          have hre := refused_bothC H7.out.k.gd.er (H6.out.2.1.below hb7) (H6.out.2.2.1.below hb7)
          clear hb7 hsa H6
          go_wp2_with fail
          refine hre.mono ?_
          rintro e w8 ⟨rfl, hb8⟩
          have H8 : Hid (PI w w8 gx gy cookie ch s') := H7.out.below hb8
          obtain ⟨y0, _⟩ := H8.out.y 0 (by omega)
          obtain ⟨y1, _⟩ := H8.out.y 1 (by omega)
          obtain ⟨y2, _⟩ := H8.out.y 2 (by omega)
          obtain ⟨y3, _⟩ := H8.out.y 3 (by omega)
          obtain ⟨y4, _⟩ := H8.out.y 4 (by omega)
          simp only [rsCell] at y0 y1 y2 y3 y4
          have hx8 : SideAt w8.drew gx s' := H8.out.k.x.turned (Turned.drew (fun _ => False) w8) (fun h => h)
          have hnow := sd_now hx8
          have hgy8 : gy < w8.heap.size := H8.out.y.lt
          have z0 : w8.drew.cell? ⟨gy, 0, none⟩ = some (.int .i64 s'.state) := y0
          have z1 : w8.drew.cell? ⟨gy, 1, none⟩ = some (.string s'.peer.name) := y1
          have z2 : w8.drew.cell? ⟨gy, 2, none⟩ = some (.int .u64 s'.peer.flags) := y2
          have z3 : w8.drew.cell? ⟨gy, 3, none⟩ = some (.int .u32 s'.peer.creation) := y3
          have z4 : w8.drew.cell? ⟨gy, 4, none⟩ = some (.bool s'.simult) := y4
          clear hb8 hre H7 hx8
          go_wp2_with fail
          go_region_held3 (fun w' => w'.cell? ⟨gy, 0, none⟩ = some (.int .i64 s'.state) ∧ w'.cell? ⟨gy, 1, none⟩ = some (.string s'.peer.name) ∧ w'.cell? ⟨gy, 2, none⟩ = some (.int .u64 s'.peer.flags) ∧ w'.cell? ⟨gy, 3, none⟩ = some (.int .u32 s'.peer.creation) ∧ w'.cell? ⟨gy, 4, none⟩ = some (.bool s'.simult))
            (go_keep)
            ((go_at_call 22; refine hnow.mono ?_; rintro e w9 ⟨rfl, hb9⟩; have d0 : w9.cell? ⟨gy, 0, none⟩ = some (.int .i64 s'.state) := (hb9.cell (p := ⟨gy, 0, none⟩) hgy8).trans z0; have d1 : w9.cell? ⟨gy, 1, none⟩ = some (.string s'.peer.name) := (hb9.cell (p := ⟨gy, 1, none⟩) hgy8).trans z1; have d2 : w9.cell? ⟨gy, 2, none⟩ = some (.int .u64 s'.peer.flags) := (hb9.cell (p := ⟨gy, 2, none⟩) hgy8).trans z2; have d3 : w9.cell? ⟨gy, 3, none⟩ = some (.int .u32 s'.peer.creation) := (hb9.cell (p := ⟨gy, 3, none⟩) hgy8).trans z3; have d4 : w9.cell? ⟨gy, 4, none⟩ = some (.bool s'.simult) := (hb9.cell (p := ⟨gy, 4, none⟩) hgy8).trans z4; have H9 : Hid (PI w w9 gx gy cookie ch s') := H8.out.below (((Below.refl w8.heap.size w8).drew).trans hb9); clear hb9))
          all_goals
            go_wp2
            go_roundw
            case rel => exact ⟨j + 1, s', by go_num, by omega, H9.out⟩
            case measure => simp [intOf]; omega
end Go.Proofs.YtmnibmgbicnamaaGreatDoor
