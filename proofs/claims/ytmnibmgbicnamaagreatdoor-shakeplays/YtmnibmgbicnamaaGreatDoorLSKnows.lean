/-
  heddlelaw08.ShakeKnows: its walk.
-/
import Derived.Test.YtmnibmgbicnamaaGreatDoorKe
namespace Go.Proofs.YtmnibmgbicnamaaGreatDoor
open Go.RowKit

/-- A call of a side. -/
structure Op8 where
  b : List Int
  st : ByteArray
/-- Calls in memory. -/
structure OpAt (W : World) (g off : Nat) (x : Op8) (D : Value) : Prop where
  c0 : W.cell? ⟨g, off, none⟩ = some D
  c1 : W.cell? ⟨g, off + 1, none⟩ = some (.string x.st)
  sl : Sl W D x.b
  rg : ∀ z ∈ x.b, 0 ≤ z ∧ z < 256
  sz : x.b.length ≤ 140737488355328
def OpsAt (W : World) (v : Value) (l : List Op8) : Prop := (∃ a cap, v = .slice a 0 cap ∧ l = []) ∨ ∃ g off cap, v = .slice (some ⟨g, off, none⟩) l.length cap ∧ l.length ≤ 140737488355328 ∧ ∀ j (h : j < l.length), ∃ D, OpAt W g (off + j * 2) l[j] D
theorem OpAt.below {w w' : World} {g off : Nat} {x : Op8} {D : Value} (h : OpAt w g off x D) (hb : Below w.heap.size w w') : OpAt w' g off x D :=
  ⟨(hb.cell (p := ⟨g, off, none⟩) (World.block_lt_of_cell? w _ h.c0)).trans h.c0, (hb.cell (p := ⟨g, off + 1, none⟩) (World.block_lt_of_cell? w _ h.c1)).trans h.c1, h.sl.turned (Turned.ofBelow (S := fun _ => False) hb) (fun _ _ h => h), h.rg, h.sz⟩
theorem OpsAt.form {w : World} {v : Value} {l : List Op8} (h : OpsAt w v l) : ∃ a cap, v = .slice a l.length cap := by
  rcases h with ⟨a, cap, rfl, rfl⟩ | ⟨g, off, cap, rfl, _⟩
  · exact ⟨a, cap, rfl⟩
  · exact ⟨_, cap, rfl⟩
theorem OpsAt.at {w : World} {a : Option Addr} {cap : Nat} {l : List Op8} (h : OpsAt w (.slice a l.length cap) l) (j : Nat) (hj : j < l.length) : ∃ g off D, a = some ⟨g, off, none⟩ ∧ OpAt w g (off + j * 2) l[j] D := by
  rcases h with ⟨_, _, _, rfl⟩ | ⟨g, off, cap', h1, _, h2⟩
  · simp at hj
  · injection h1 with h1 _ _
    obtain ⟨D, hD⟩ := h2 j hj
    exact ⟨g, off, D, h1, hD⟩
theorem take_me (s : Sd) (b : List Int) : (s.take b).2.1.me = s.me := by
  unfold Sd.take
  repeat' split
  · rfl
  · rfl
  · rfl
  · unfold Sd.took
    repeat' split
    all_goals rfl
  · rfl
theorem answer_me (s : Sd) (st : ByteArray) : (s.answer st).2.1.me = s.me := by
  unfold Sd.answer
  repeat' split
  all_goals rfl
/-- What holds of the program's side while calls come. -/
structure KI (w wr : World) (gx : Nat) (cookie : ByteArray) (ch : Nat) (s : Sd) : Prop where
  x : SideAt wr gx s
  o : s.Ok
  f : s.Fresh
  gd : Gd wr
  b : Below w.heap.size w wr
  xw : w.heap.size ≤ gx
  xb : Big gx
  ck : s.cookie = cookie
  cn : s.challenge = ch
  ns : s.me.name.size ≤ 4611686018427387904
theorem KI.below {w wr w' : World} {gx : Nat} {cookie : ByteArray} {ch : Nat} {s : Sd} (h : KI w wr gx cookie ch s) (hb : Below wr.heap.size wr w') : KI w w' gx cookie ch s :=
  ⟨h.x.below hb, h.o, h.f, h.gd.below hb, h.b.trans (hb.mono h.b.size), h.xw, h.xb, h.ck, h.cn, h.ns⟩
theorem KI.take {w wr w' : World} {gx : Nat} {cookie : ByteArray} {ch : Nat} {s : Sd} {l : List Int} (h : KI w wr gx cookie ch s) (hr : ∀ z ∈ l, 0 ≤ z ∧ z < 256) (hs : SideAt w' gx (s.take l).2.1) (T : Turned (fun k => k = gx) wr w') : KI w w' gx cookie ch (s.take l).2.1 :=
  ⟨hs, h.o.take hr, h.f.take hr, h.gd.turned T h.xb (Nat.le_of_lt h.x.lt), h.b.trans (T.below h.b.size (fun k hk => by have hk : k = gx := hk; have := h.xw; omega)), h.xw, h.xb, (take_keeps s l).1.trans h.ck, (take_keeps s l).2.trans h.cn, by rw [take_me]; exact h.ns⟩
theorem KI.answer {w wr w' : World} {gx : Nat} {cookie : ByteArray} {ch : Nat} {s : Sd} {st : ByteArray} (h : KI w wr gx cookie ch s) (hs : SideAt w' gx (s.answer st).2.1) (T : Turned (fun k => k = gx) wr w') : KI w w' gx cookie ch (s.answer st).2.1 :=
  ⟨hs, h.o.answer st, h.f.answer st, h.gd.turned T h.xb (Nat.le_of_lt h.x.lt), h.b.trans (T.below h.b.size (fun k hk => by have hk : k = gx := hk; have := h.xw; omega)), h.xw, h.xb, (answer_keeps s st).1.trans h.ck, (answer_keeps s st).2.trans h.cn, by rw [answer_me]; exact h.ns⟩
theorem sidesOf_ok (bg : Bool) (me : Pr) (hme : me.Ok) (peer cookie : ByteArray) (ch : Nat) (hch : ch < 4294967296) (hc : cookieErr cookie = none) : (sidesOf bg me peer cookie ch).Ok ∧ (sidesOf bg me peer cookie ch).Fresh ∧ (sidesOf bg me peer cookie ch).cookie = cookie ∧ (sidesOf bg me peer cookie ch).challenge = ch ∧ (sidesOf bg me peer cookie ch).me = me := by
  unfold sidesOf
  split
  · exact ⟨⟨by simp [madeOf], by simp [madeOf], .zero, hme, hch, fun _ _ => hc⟩, fun _ => rfl, rfl, rfl, rfl⟩
  · exact ⟨⟨by simp [madeOf], by simp [madeOf], .zero, hme, hch, fun _ _ => hc⟩, fun _ => rfl, rfl, rfl, rfl⟩
theorem sides_cookie {bg : Bool} {me : Pr} {peer cookie : ByteArray} (h : sidesErr bg me peer cookie = []) : cookieErr cookie = none := by
  unfold sidesErr at h
  split at h
  · exact (made_none h).2.2.2.2
  · exact (made_none h).2.2.2.2
set_option maxRecDepth 100000 in
set_option maxHeartbeats 6400000 in
theorem knows_any (bg : Bool) (me : Pr) (hme : me.Ok) (peer cookie : ByteArray) (ch : Nat) (hch : ch < 4294967296) (hns : me.name.size ≤ 4611686018427387904) (hps : peer.size ≤ 4611686018427387904) (hcs : cookie.size ≤ 4611686018427387904) (l : List Op8) {w : World} {L : Value} (hL : OpsAt w L l) (hG : Gd w) :
    Calls Tryz.prog 8 #[startV bg me peer cookie ch, L] w fun e w' => e = .returned (.bool true) ∧ Below w.heap.size w w' := by
  obtain ⟨aL, cL, rfl⟩ := hL.form
  obtain ⟨wa, hwa⟩ : ∃ wa, wa = w.alloc (.cells #[.bool bg, .string me.name, .int .u64 me.flags, .int .u32 me.creation, .string peer, .string cookie, .int .u32 ch] 48) := ⟨_, rfl⟩
  have ba : Below w.heap.size w wa := by rw [hwa]; exact (Below.refl _ _).alloc (Nat.le_refl _) _
  have sa : StartAt wa w.heap.size bg me peer cookie ch := by rw [hwa]; exact ⟨by simp, by simp, by simp, by simp, by simp, by simp, by simp⟩
  have hsd := law_sides bg me hme peer cookie ch hns hps hcs (hG.below ba)
  have H0 : Hid (Below w.heap.size w wa ∧ StartAt wa w.heap.size bg me peer cookie ch) := ⟨ba, sa⟩
  have HWA := Hid.mk7 hwa
  have HG := Hid.mk7 hG
  have HL := Hid.mk7 hL
  have HDG := Hid.mk7 (ref_digest cookie hcs ch hch)
  have HOK := Hid.mk7 (sidesOf_ok bg me hme peer cookie ch hch)
  have HNS := Hid.mk7 hns
  have hfld : ∀ (W : World) (a b c d e : Value), (Instr.field 66 (.agg #[a, b, c, d, e]) 0).run Tryz.prog W = .ok a W := fun _ _ _ _ _ _ => by kernel_rfl
  have haw : Hid (∀ W, Gd W → Calls Tryz.prog 12 #[] W fun e w' => e = .returned (.bool true) ∧ Below W.heap.size W w') := fun W h => law_awake h
  unfold startV at hsd ⊢
  unfold SidesTold at hsd
  clear hwa ba sa hG hme hL hch hns hps hcs
  go_enter Tryz.func8, Tryz.ntmps8
  go_wp2_with fail
  rw [← HWA.out]
  refine hsd.mono ?_
  rintro e w1 (⟨_, rfl, hb1⟩ | ⟨hls, gx, gy, rfl, hgx, hgy, _, hsx, _, hb1⟩)
  · have H1 : Hid (Below w.heap.size w w1) := H0.out.1.trans (hb1.mono H0.out.1.size)
    clear hb1 hsd H0 HWA
    go_wp2_with fail
    refine (haw.out _ (HG.out.below H1.out)).mono ?_
    rintro e w2 ⟨rfl, hb2⟩
    have H2 : Hid (Below w.heap.size w w2) := H1.out.trans (hb2.mono H1.out.size)
    clear hb2 H1
    go_wp2
    go_ret
    exact ⟨rfl, H2.out⟩
  · have hck := sides_cookie hls
    obtain ⟨o1, o2, o3, o4, o5⟩ := HOK.out hck
    have B1 : Below w.heap.size w w1 := H0.out.1.trans (hb1.mono H0.out.1.size)
    have hbig : Big gx := ⟨by have h1 := HG.out.er.lt; have h2 := H0.out.1.size; omega, by have h1 := HG.out.tb.lt; have h2 := H0.out.1.size; omega⟩
    have K1 : KI w w1 gx cookie ch (sidesOf bg me peer cookie ch) := ⟨hsx, o1, o2, HG.out.below B1, B1, Nat.le_trans H0.out.1.size hgx, hbig, o3, o4, by rw [o5]; exact HNS.out⟩
    have H1 : Hid (KI w w1 gx cookie ch (sidesOf bg me peer cookie ch) ∧ StartAt w1 w.heap.size bg me peer cookie ch) := ⟨K1, H0.out.2.below hb1⟩
    have HCK := Hid.mk7 hck
    generalize sidesOf bg me peer cookie ch = s0 at H1
    clear hls hgx hgy hsx hb1 hck o1 o2 o3 o4 o5 B1 hbig K1 hsd H0 HWA HOK
    go_wp2_with fail
    refine (haw.out _ H1.out.1.gd).mono ?_
    rintro e w2 ⟨rfl, hb2⟩
    have H2 : Hid (KI w w2 gx cookie ch s0 ∧ StartAt w2 w.heap.size bg me peer cookie ch) := ⟨H1.out.1.below hb2, H1.out.2.below hb2⟩
    obtain ⟨c0, c1, c2, c3, c4, c5, c6⟩ := H2.out.2
    clear hb2 H1 haw
    have hdg := HDG.out w2
    have e0 : digestTold cookie ch = digestOf cookie ch := by unfold digestTold; rw [HCK.out]; rfl
    rw [e0] at hdg
    clear e0 HDG
    go_wp2_with fail
    refine hdg.mono ?_
    rintro e w3 ⟨V3, v3, rfl, _, ho3, hb3, hk3⟩
    have H3 : Hid (KI w w3 gx cookie ch s0 ∧ Sl w3 V3 (digestOf cookie ch) ∧ ∀ k, blk V3 k → gx < k) := ⟨H2.out.1.below hb3, ho3.sl, fun k hk => by have h1 := hk3 k hk; have h2 := H2.out.1.x.lt; omega⟩
    obtain ⟨a3, c3', L3, hV3⟩ : ∃ a c L, V3 = .slice a L c := ⟨_, _, _, ho3.sl.form.choose_spec.choose_spec.1⟩
    subst hV3
    clear ho3 hb3 hk3 hdg H2 c0 c1 c2 c3 c4 c5 c6
    have HLS : Hid (l.length ≤ 140737488355328) := by
      rcases HL.out with ⟨_, _, _, h⟩ | ⟨_, _, _, _, h, _⟩
      · have h : l.length ≤ 140737488355328 := by rw [h]; simp
        exact h
      · exact h
    go_wp2_with fail
    go_loopw [10] (fun ii wr => ∃ (j : Nat) (s : Sd), ii = .int .i64 j ∧ j ≤ l.length ∧ KI w wr gx cookie ch s ∧ Sl wr (.slice a3 L3 c3') (digestOf cookie ch)) (fun ii _ => l.length - (intOf ii).toNat)
    case atStart => exact ⟨0, s0, rfl, Nat.zero_le _, H3.out.1, H3.out.2.1⟩
    case round =>
      obtain ⟨j, s, rfl, hj, hK, hd⟩ := hrel
      by_cases hjl : j < l.length
      case neg =>
        have hge : ¬ (j : Int) < (l.length : Int) := by omega
        have HF := Hid.mk7 hK.b
        clear hK hd
        go_wp2
        go_ret
        exact ⟨rfl, HF.out⟩
      case pos =>
        have hji : (j : Int) < (l.length : Int) := by omega
        have hlsz := HLS.out
        obtain ⟨g, off, D, haL, hop⟩ := (HL.out).at j hjl
        have HOP : Hid (∀ W, Below w.heap.size w W → OpAt W g (off + j * 2) l[j] D) := fun W h => hop.below h
        have hop := HOP.out wr hK.b
        have hnow := sd_now hK.x
        subst haL
        have HR : Hid (KI w wr gx cookie ch s ∧ Sl wr (.slice a3 L3 c3') (digestOf cookie ch) ∧ OpAt wr g (off + j * 2) l[j] D) := ⟨hK, hd, hop⟩
        clear hK hd hop
        go_wp2_with fail
        refine hnow.mono ?_
        rintro e w4 ⟨rfl, hb4⟩
        have H4 : Hid (KI w w4 gx cookie ch s ∧ Sl w4 (.slice a3 L3 c3') (digestOf cookie ch) ∧ OpAt w4 g (off + j * 2) l[j] D) := ⟨HR.out.1.below hb4, HR.out.2.1.turned (Turned.ofBelow (S := fun _ => False) hb4) (fun _ _ h => h), HR.out.2.2.below hb4⟩
        obtain ⟨x, hx⟩ : ∃ x, x = l[j] := ⟨_, rfl⟩
        rw [← hx] at H4 HOP
        have o0 := H4.out.2.2.c0
        have o1 := H4.out.2.2.c1
        obtain ⟨aD, cD, hDf, _, _⟩ := H4.out.2.2.sl.form
        subst hDf
        clear hb4 hnow HR hx
        by_cases hst : x.st.size = 0
        case pos =>
          have hse := empty_size hst
          rw [hse] at o1
          have htk := sd_take H4.out.1.xb H4.out.1.x H4.out.1.o H4.out.1.f H4.out.1.gd H4.out.2.2.sl H4.out.2.2.rg H4.out.2.2.sz
          go_wp2_with fail
          refine htk.mono ?_
          rintro e w5 ⟨V5, v5, vs5, rfl, hf5, hg5, hs5, ht5⟩
          have k5 := H4.out.1.take H4.out.2.2.rg hs5 ht5
          have H5 : Hid (KI w w5 gx cookie ch (s.take x.b).2.1 ∧ Sl w5 (.slice a3 L3 c3') (digestOf cookie ch) ∧ OpAt w5 g (off + j * 2) x (.slice aD x.b.length cD)) := ⟨k5, H4.out.2.1.turned ht5 (fun k hk he => by have he : k = gx := he; have := H3.out.2.2 k hk; omega), HOP.out w5 k5.b⟩
          have hnow := sd_now H5.out.1.x
          have hup := take_up s x.b H4.out.2.2.rg H4.out.1.o
          rw [H4.out.1.ck, H4.out.1.cn] at hup
          have HUP := Hid.mk7 hup
          clear hf5 hg5 hs5 ht5 k5 htk H4 o0 o1 hup
          have o0 := H5.out.2.2.c0
          have o1 := H5.out.2.2.c1
          rw [hse] at o1
          generalize (s.take x.b).2.1 = s' at hnow HUP H5
          by_cases h7 : s'.state = 7
          case neg =>
            have hq : (s'.state == 7) = false := by simp [h7]
            clear HUP
            go_wp2_with fail
            refine hnow.mono ?_
            rintro e w6 ⟨rfl, hb6⟩
            have H6 : Hid (KI w w6 gx cookie ch s' ∧ Sl w6 (.slice a3 L3 c3') (digestOf cookie ch)) := ⟨H5.out.1.below hb6, H5.out.2.1.turned (Turned.ofBelow (S := fun _ => False) hb6) (fun _ _ h => h)⟩
            clear hb6 hnow H5 o0 o1
            go_wp2
            go_roundw
            case rel => exact ⟨j + 1, s', by go_num, by omega, H6.out.1, H6.out.2⟩
            case measure => simp [intOf]; omega
          case pos =>
            rw [h7] at hnow
            by_cases hw7 : s.state = 7
            case pos =>
              rw [hw7]
              clear HUP h7 hw7
              go_wp2_with fail
              refine hnow.mono ?_
              rintro e w6 ⟨rfl, hb6⟩
              have H6 : Hid (KI w w6 gx cookie ch s' ∧ Sl w6 (.slice a3 L3 c3') (digestOf cookie ch)) := ⟨H5.out.1.below hb6, H5.out.2.1.turned (Turned.ofBelow (S := fun _ => False) hb6) (fun _ _ h => h)⟩
              clear hb6 hnow H5 o0 o1
              go_wp2
              go_roundw
              case rel => exact ⟨j + 1, s', by go_num, by omega, H6.out.1, H6.out.2⟩
              case measure => simp [intOf]; omega
            case neg =>
              have hq2 : (s.state == 7) = false := by simp [hw7]
              obtain ⟨hs36, h17, hdr⟩ := HUP.out hw7 h7
              clear HUP h7 hw7
              have h17i : (17 : Int) ≤ (x.b.length : Int) := by omega
              have hbsz : (x.b.length : Int) ≤ 140737488355328 := by have := H5.out.2.2.sz; omega
              obtain ⟨aF, haF⟩ : ∃ aF : Option Addr, aF = if cD = x.b.length - 16 then aD else aD.map (·.add (x.b.length - 16)) := ⟨_, rfl⟩
              have e16 : x.b.length - (x.b.length - 16) = 16 := by omega
              have hc2 : ∀ W : World, (Instr.slice 25 (.slice aD x.b.length cD) (some (.int .i64 ((x.b.length : Int) - 16))) none none).run Tryz.prog W = .ok (.slice aF 16 (cD - (x.b.length - 16))) W := fun W => by
                have h := run_cutFrom Tryz.bytes (a := aD) (len := x.b.length) (cap := cD) (l := x.b.length - 16) (by omega) W
                rw [e16, ← haF] at h
                rw [show (x.b.length : Int) - 16 = ((x.b.length - 16 : Nat) : Int) by omega]
                exact h
              have hsF : Sl w5 (.slice aF 16 (cD - (x.b.length - 16))) (digestOf cookie ch) := by
                have h := Sl.drop (n := x.b.length - 16) H5.out.2.2.sl (by omega)
                rw [hdr, e16, ← haF] at h
                exact h
              have HSF := Hid.mk7 hsF
              clear haF e16 hdr hsF
              go_wp2_with fail
              refine hnow.mono ?_
              rintro e w6 ⟨rfl, hb6⟩
              have H6 : Hid (Below w.heap.size w w6) := (H5.out.1.below hb6).b
              have hdw : ∀ n, Turned (fun _ => False) w6 (w6.drewN n) := fun n => ⟨rfl, rfl, rfl, Nat.le_refl _, fun _ _ _ => rfl⟩
              have cv1 := fun n => ((HSF.out.turned (Turned.ofBelow (S := fun _ => False) hb6) (fun _ _ h => h)).turned (hdw n) (fun _ _ h => h)).str
              have cv2 := fun n => ((H5.out.2.1.turned (Turned.ofBelow (S := fun _ => False) hb6) (fun _ _ h => h)).turned (hdw n) (fun _ _ h => h)).str
              clear hdw
              have p0 := (H5.out.2.2.below hb6).c0
              have p1 := (H5.out.2.2.below hb6).c1
              rw [hse] at p1
              generalize strOfNums (digestOf cookie ch) = z at cv1 cv2
              clear hb6 hnow H5 o0 o1 HSF
              rcases hs36 with h3 | h6
              · rw [h3]
                rw [h3] at hq2
                go_wp2
                go_quiet (fail)
                go_wp2
                go_ret
                exact ⟨rfl, below_drewN H6.out nq⟩
              · rw [h6]
                rw [h6] at hq2
                go_wp2
                go_quiet (fail)
                go_wp2
                go_ret
                exact ⟨rfl, below_drewN H6.out nq⟩
        case neg =>
          have hse := empty_list hst
          have htk := sd_answer H4.out.1.xb H4.out.1.x H4.out.1.o H4.out.1.f H4.out.1.gd H4.out.1.ns x.st
          go_wp2_with fail
          refine htk.mono ?_
          rintro e w5 ⟨V5, v5, vs5, rfl, hf5, hg5, hs5, ht5⟩
          have k5 := H4.out.1.answer hs5 ht5
          have H5 : Hid (KI w w5 gx cookie ch (s.answer x.st).2.1 ∧ Sl w5 (.slice a3 L3 c3') (digestOf cookie ch) ∧ OpAt w5 g (off + j * 2) x (.slice aD x.b.length cD)) := ⟨k5, H4.out.2.1.turned ht5 (fun k hk he => by have he : k = gx := he; have := H3.out.2.2 k hk; omega), HOP.out w5 k5.b⟩
          have hnow := sd_now H5.out.1.x
          have HUP := Hid.mk7 (answer_up s x.st)
          clear hf5 hg5 hs5 ht5 k5 htk H4 o0 o1
          have o0 := H5.out.2.2.c0
          have o1 := H5.out.2.2.c1
          generalize (s.answer x.st).2.1 = s' at hnow HUP H5
          by_cases h7 : s'.state = 7
          case neg =>
            have hq : (s'.state == 7) = false := by simp [h7]
            clear HUP
            go_wp2_with fail
            refine hnow.mono ?_
            rintro e w6 ⟨rfl, hb6⟩
            have H6 : Hid (KI w w6 gx cookie ch s' ∧ Sl w6 (.slice a3 L3 c3') (digestOf cookie ch)) := ⟨H5.out.1.below hb6, H5.out.2.1.turned (Turned.ofBelow (S := fun _ => False) hb6) (fun _ _ h => h)⟩
            clear hb6 hnow H5 o0 o1
            go_wp2
            go_roundw
            case rel => exact ⟨j + 1, s', by go_num, by omega, H6.out.1, H6.out.2⟩
            case measure => simp [intOf]; omega
          case pos =>
            rw [h7] at hnow
            have hw7 := HUP.out h7
            rw [hw7]
            clear HUP h7 hw7
            go_wp2_with fail
            refine hnow.mono ?_
            rintro e w6 ⟨rfl, hb6⟩
            have H6 : Hid (KI w w6 gx cookie ch s' ∧ Sl w6 (.slice a3 L3 c3') (digestOf cookie ch)) := ⟨H5.out.1.below hb6, H5.out.2.1.turned (Turned.ofBelow (S := fun _ => False) hb6) (fun _ _ h => h)⟩
            clear hb6 hnow H5 o0 o1
            go_wp2
            go_roundw
            case rel => exact ⟨j + 1, s', by go_num, by omega, H6.out.1, H6.out.2⟩
            case measure => simp [intOf]; omega
end Go.Proofs.YtmnibmgbicnamaaGreatDoor
