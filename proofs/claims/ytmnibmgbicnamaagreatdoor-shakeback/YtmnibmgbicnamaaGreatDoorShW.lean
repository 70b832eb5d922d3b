/-
  Layer 8 (shake): what stands in the way of a side, by the program (permit).
-/
import Derived.Test.YtmnibmgbicnamaaGreatDoorShV
import Derived.Test.YtmnibmgbicnamaaGreatDoorShR
namespace Go.Proofs.YtmnibmgbicnamaaGreatDoor
open Go.RowKit

/-- What permit tells. -/
def permitErr (me : Pr) (cookie : ByteArray) : Option ByteArray → List Lnk
  | none => madeErr me ⟨#[]⟩ false cookie
  | some p => madeErr me p true cookie
def peersOf : Option ByteArray → List ByteArray
  | none => []
  | some p => [p]
theorem fault_of_mix {B : Nat} {w : World} {v : Value} {x : Int × Int} (h : FaultAt B w v x) : FaultC B w v [⟨lyMix, x.1, x.2⟩] := by
  obtain ⟨pb, h1, h2, c0, c1, c2, c3⟩ := h
  exact ⟨pb, h1, h2, c0, c1, c2, c3⟩
theorem fault_cases' {B : Nat} {w : World} {v : Value} : ∀ {ls : List Lnk}, FaultC B w v ls → (ls = [] ∧ v = .nilIface) ∨ (ls ≠ [] ∧ ∃ pb, v = .iface 131 (.pointer (some ⟨pb, 0, none⟩)))
  | [], h => .inl ⟨rfl, h⟩
  | [_], ⟨pb, _, h, _⟩ => .inr ⟨by simp, pb, h⟩
  | [_, _], ⟨pb, _, _, _, h, _⟩ => .inr ⟨by simp, pb, h⟩
  | _ :: _ :: _ :: _, h => h.elim
/-- The end of permit: the cookie. -/
theorem tail_err (me : Pr) (cookie : ByteArray) (op : Option ByteArray) (h1 : nodeOk me.name = true) (h2 : ∀ p, op = some p → nodeOk p = true) : permitErr me cookie op = if peerErr me ≠ [] then peerErr me else if op = some me.name then sh 0 6 else match cookieErr cookie with
    | some x => shCookie x
    | none => [] := by
  by_cases hl : lacksB me.flags = true
  · have hpe : peerErr me = sh 0 162 := by unfold peerErr; rw [if_pos hl]
    rw [hpe, if_pos (by simp [sh])]
    cases op with
    | none => simp [permitErr, madeErr, h1, hl]
    | some p => simp [permitErr, madeErr, h1, h2 p rfl, hl]
  · have hl' : lacksB me.flags = false := by simpa using hl
    by_cases hc : me.creation = 0
    · have hpe : peerErr me = sh 0 1 := by unfold peerErr; rw [if_neg hl, if_pos hc]
      rw [hpe, if_pos (by simp [sh])]
      cases op with
      | none => simp [permitErr, madeErr, h1, hl', hc]
      | some p => simp [permitErr, madeErr, h1, h2 p rfl, hl', hc]
    · have hpe : peerErr me = [] := by unfold peerErr; rw [if_neg hl, if_neg hc]
      rw [hpe, if_neg (by simp)]
      cases op with
      | none => simp [permitErr, madeErr, h1, hl', hc]; rfl
      | some p =>
        by_cases hp : p = me.name
        · simp [permitErr, madeErr, h1, hl', hc, hp]
        · simp [permitErr, madeErr, h1, h2 p rfl, hl', hc, hp]; rfl
set_option maxRecDepth 100000 in
set_option maxHeartbeats 12800000 in
theorem sd_permit (me : Pr) (cookie : ByteArray) (op : Option ByteArray) (hns : me.name.size ≤ 4611686018427387904) (hps : ∀ p, op = some p → p.size ≤ 4611686018427387904) (hcs : cookie.size ≤ 4611686018427387904) {w : World} {P : Value} (hP : Tx w P (peersOf op)) (hG : Gd w) :
    Calls Tryz.prog 77 #[.agg #[.string me.name, .int .u64 me.flags, .int .u32 me.creation], .string cookie, P] w fun e w' => ∃ v, e = .returned v ∧ FaultC w.heap.size w' v (permitErr me cookie op) ∧ Below w.heap.size w w' := by
  have hpl : (peersOf op).length ≤ 1 := by cases op <;> simp [peersOf]
  obtain ⟨aP, cP, rfl, _⟩ := hP.form
  obtain ⟨ls, hls⟩ : ∃ ls, ls = permitErr me cookie op := ⟨_, rfl⟩
  rw [← hls]
  have HLS := Hid.mk7 hls
  have HP := Hid.mk7 hP
  have HG := Hid.mk7 hG
  have HPS := Hid.mk7 hps
  have HTE := Hid.mk7 (tail_err me cookie op)
  have hcc := fun (W : World) (gs : Nat) (a b : Value) (h0 : W.cell? ⟨gs, 0, none⟩ = some a) (h1 : W.cell? ⟨gs, 1, none⟩ = some b) (ha : Tx W a [me.name]) (hb : Tx W b (peersOf op)) => tx_concat me.name (peersOf op) hpl h0 h1 ha hb
  have HCC := Hid.mk7 hcc
  clear hls hP hG hps hcc
  obtain ⟨nm, fl, cr⟩ := me
  simp only at hns HCC HTE ⊢
  go_enter Tryz.func77, Tryz.ntmps77
  go_wp2_with fail
  obtain ⟨wa, hwa⟩ : ∃ wa, wa = w.alloc (.cells #[.string nm, .int .u64 fl, .int .u32 cr] 46) := ⟨_, rfl⟩
  obtain ⟨wb, hwb⟩ : ∃ wb, wb = wa.alloc (.cells #[.string nm] 9) := ⟨_, rfl⟩
  obtain ⟨wc, hwc⟩ : ∃ wc, wc = wb.alloc (.cells #[.slice (some ⟨wa.heap.size, 0, none⟩) 1 1, .slice aP (peersOf op).length cP] 180) := ⟨_, rfl⟩
  have ba : Below w.heap.size w wa := by rw [hwa]; exact (Below.refl _ _).alloc (Nat.le_refl _) _
  have bb : Below wa.heap.size wa wb := by rw [hwb]; exact (Below.refl _ _).alloc (Nat.le_refl _) _
  have bc : Below wb.heap.size wb wc := by rw [hwc]; exact (Below.refl _ _).alloc (Nat.le_refl _) _
  have bab := ba.trans (bb.mono ba.size)
  have bac := bab.trans (bc.mono bab.size)
  have pa : PeerAt wa w.heap.size ⟨nm, fl, cr⟩ := by rw [hwa]; exact PeerAt.ofNew w ⟨nm, fl, cr⟩ _
  have tb : Tx wb (.slice (some ⟨wa.heap.size, 0, none⟩) 1 1) [nm] := by rw [hwb]; exact Tx.one wa nm _
  have c0 : wc.cell? ⟨wb.heap.size, 0, none⟩ = some (.slice (some ⟨wa.heap.size, 0, none⟩) 1 1) := by rw [hwc]; simp
  have c1 : wc.cell? ⟨wb.heap.size, 1, none⟩ = some (.slice aP (peersOf op).length cP) := by rw [hwc]; simp
  have hcall := HCC.out wc wb.heap.size _ _ c0 c1 (tb.below bc) (HP.out.below bac)
  have H0 : Hid (Below w.heap.size w wc ∧ PeerAt wc w.heap.size ⟨nm, fl, cr⟩) := ⟨bac, (pa.below bb).below bc⟩
  have hgoal := hcall
  rw [hwc, hwb, hwa] at hgoal
  simp only [World.size_alloc] at hgoal
  refine hgoal.mono ?_
  clear hgoal
  rintro e w1 ⟨V, rfl, hV, hb1⟩
  have hb1' : Below wc.heap.size wc w1 := by
    rw [hwc, hwb, hwa]
    simp only [World.size_alloc]
    exact hb1
  have H1 : Hid (Below w.heap.size w w1 ∧ PeerAt w1 w.heap.size ⟨nm, fl, cr⟩ ∧ Tx w1 V (nm :: peersOf op)) := ⟨H0.out.1.trans (hb1'.mono H0.out.1.size), H0.out.2.below hb1', hV⟩
  obtain ⟨aV, cV, rfl, _⟩ := hV.form
  have hcell := Hid.mk7 hV.cell
  clear hwa hwb hwc ba bb bc bab bac pa tb c0 c1 hcall hb1 hb1' hV HCC H0 wa wb wc
  cases op with
  | none =>
    have hnm := sh_name 0 nm hns w1 (HG.out.er.below H1.out.1)
    obtain ⟨gV, rfl, hx0⟩ := H1.out.2.2.cell 0 (by simp)
    simp only [List.getElem_cons_zero] at hx0
    simp only [peersOf, List.length_cons, List.length_nil, Nat.zero_add] at hcell ⊢
    go_wp2_with fail
    refine wp_loop_rounds 2 ?_
    rw [rounds_succ]
    cases hok : nodeOk nm with
    | false =>
      rw [hok] at hnm
      have HTB : Hid (permitErr ⟨nm, fl, cr⟩ cookie none = shName 0) := by
        have h : permitErr ⟨nm, fl, cr⟩ cookie none = shName 0 := by simp [permitErr, madeErr, hok]
        exact h
      clear hok
      go_wp2_with fail
      refine hnm.mono ?_
      rintro e w2 ⟨v2, rfl, hf2, hb2⟩
      have hf2 : FaultC w1.heap.size w2 v2 (shName 0) := hf2
      have HN := Hid.mk7 (And.intro (hf2.mono H1.out.1.size) (H1.out.1.trans (hb2.mono H1.out.1.size)))
      obtain ⟨pb, qb, _, _, rfl, _⟩ := hf2
      clear hb2 hnm
      go_wp2
      go_ret
      exact ⟨_, rfl, by rw [HLS.out, HTB.out]; exact HN.out.1, HN.out.2⟩
    | true =>
      rw [hok] at hnm
      have HOK := Hid.mk7 hok
      clear hok
      go_wp2_with fail
      refine hnm.mono ?_
      rintro e wL ⟨v2, rfl, hf2, hb2⟩
      have hf2 : v2 = .nilIface := hf2
      subst hf2
      have HW : Hid (Below w.heap.size w wL ∧ PeerAt wL w.heap.size ⟨nm, fl, cr⟩) := ⟨H1.out.1.trans (hb2.mono H1.out.1.size), H1.out.2.1.below hb2⟩
      clear hb2 hnm hx0
      go_wp2_with fail
      rw [rounds_succ]
      have HT5 := Hid.mk7 (HTE.out HOK.out (fun _ h => by cases h))
      obtain ⟨p0, p1, p2⟩ := HW.out.2
      simp only at p0 p1 p2
      have hcp := sd_checkPeer ⟨nm, fl, cr⟩ wL
      simp only at hcp
      go_wp2_with fail
      refine hcp.mono ?_
      rintro e w5 ⟨v5, rfl, hf5, hb5⟩
      have H5 : Hid (Below w.heap.size w w5 ∧ PeerAt w5 w.heap.size ⟨nm, fl, cr⟩ ∧ FaultC w.heap.size w5 v5 (peerErr ⟨nm, fl, cr⟩)) := ⟨HW.out.1.trans (hb5.mono HW.out.1.size), HW.out.2.below hb5, hf5.mono HW.out.1.size⟩
      clear hb5 hcp p0 p1 p2
      rcases fault_cases' hf5 with ⟨hpe, rfl⟩ | ⟨hpe, pb, rfl⟩
      · have HT6 := Hid.mk7 (HT5.out.trans (if_neg (fun h => h hpe)))
        have hct := tx_contains (HP.out.below H5.out.1) (by omega) nm
        obtain ⟨p0, p1, p2⟩ := H5.out.2.1
        simp only at p0 p1 p2
        clear hf5 hpe
        go_wp2_with fail
        refine hct.mono ?_
        rintro e w5' ⟨bb, rfl, hbb, rfl⟩
        have HBB := Hid.mk7 hbb
        clear hct hbb p0 p1 p2
        cases bb with
        | true =>
          have hin := (HBB.out).1 rfl
          have HT7 := Hid.mk7 (HT6.out.trans (if_pos (by simp [peersOf] at hin)))
          clear hin
          go_wp2_with fail
          refine (sh_refuse _ _ _).mono ?_
          rintro e w6 ⟨v6, rfl, hf6, hb6⟩
          have HN := Hid.mk7 (And.intro (hf6.mono H5.out.1.size) (H5.out.1.trans (hb6.mono H5.out.1.size)))
          obtain ⟨pb, _, rfl, _⟩ := hf6
          clear hb6
          go_wp2
          go_ret
          exact ⟨_, rfl, by rw [HLS.out, HT7.out]; exact HN.out.1, HN.out.2⟩
        | false =>
          have hin : ¬ nm ∈ peersOf none := fun h => absurd (HBB.out.2 h) (by decide)
          have HT7 := Hid.mk7 (HT6.out.trans (if_neg (fun h => hin (by rw [h]; simp [peersOf]))))
          have hck := mix_cookie cookie hcs w5
          clear hin
          cases hce : cookieErr cookie with
          | none =>
            rw [hce] at hck
            have hT8 := HT7.out
            rw [hce] at hT8
            have HT8 := Hid.mk7 hT8
            clear hce hT8
            go_wp2_with fail
            refine hck.mono ?_
            rintro e w6 ⟨v6, rfl, hf6, hb6⟩
            have hf6 : v6 = .nilIface := hf6
            subst hf6
            have H6 := Hid.mk7 (H5.out.1.trans (hb6.mono H5.out.1.size))
            clear hb6 hck
            go_wp2_with fail
            refine (sh_wrap_nil _ _).mono ?_
            rintro e w7 ⟨rfl, hb7⟩
            go_wp2
            go_ret
            exact ⟨_, rfl, by rw [HLS.out, HT8.out]; rfl, H6.out.trans (hb7.mono H6.out.size)⟩
          | some x =>
            rw [hce] at hck
            have hT8 := HT7.out
            rw [hce] at hT8
            have HT8 := Hid.mk7 hT8
            clear hce hT8
            go_wp2_with fail
            refine hck.mono ?_
            rintro e w6 ⟨v6, rfl, hf6, hb6⟩
            have hf6 := fault_of_mix hf6
            have B6 := H5.out.1.trans (hb6.mono H5.out.1.size)
            have hwr := sh_wrap_one 0 ⟨lyMix, x.1, x.2⟩ (HG.out.er.below B6) (hf6.mono H5.out.1.size)
            have H6 := Hid.mk7 B6
            obtain ⟨pb, _, rfl, _⟩ := hf6
            clear hb6 hck B6
            go_wp2_with fail
            refine hwr.mono ?_
            rintro e w7 ⟨v7, rfl, hf7, hb7⟩
            have HN := Hid.mk7 (And.intro hf7 (H6.out.trans (hb7.mono H6.out.size)))
            obtain ⟨pb7, qb7, _, _, rfl, _⟩ := hf7
            clear hb7 hwr
            go_wp2
            go_ret
            exact ⟨_, rfl, by rw [HLS.out, HT8.out]; exact HN.out.1, HN.out.2⟩
      · have HT6 := Hid.mk7 (HT5.out.trans (if_pos hpe))
        clear hf5 hpe
        go_wp2
        go_ret
        exact ⟨_, rfl, by rw [HLS.out, HT6.out]; exact H5.out.2.2, H5.out.1⟩
  | some p =>
    have hnm := sh_name 0 nm hns w1 (HG.out.er.below H1.out.1)
    obtain ⟨gV, rfl, hx0⟩ := H1.out.2.2.cell 0 (by simp)
    obtain ⟨gV', hgV', hx1⟩ := H1.out.2.2.cell 1 (by simp [peersOf])
    injection hgV' with hgV'
    injection hgV' with hgV'
    subst hgV'
    simp only [List.getElem_cons_zero, List.getElem_cons_succ, peersOf] at hx0 hx1
    have hgl : gV < w1.heap.size := World.block_lt_of_cell? w1 _ hx0
    simp only [peersOf, List.length_cons, List.length_nil, Nat.zero_add] at hcell ⊢
    go_wp2_with fail
    refine wp_loop_rounds 3 ?_
    rw [rounds_succ]
    cases hok : nodeOk nm with
    | false =>
      rw [hok] at hnm
      have HTB : Hid (permitErr ⟨nm, fl, cr⟩ cookie (some p) = shName 0) := by
        have h : permitErr ⟨nm, fl, cr⟩ cookie (some p) = shName 0 := by simp [permitErr, madeErr, hok]
        exact h
      clear hok
      go_wp2_with fail
      refine hnm.mono ?_
      rintro e w2 ⟨v2, rfl, hf2, hb2⟩
      have hf2 : FaultC w1.heap.size w2 v2 (shName 0) := hf2
      have HN := Hid.mk7 (And.intro (hf2.mono H1.out.1.size) (H1.out.1.trans (hb2.mono H1.out.1.size)))
      obtain ⟨pb, qb, _, _, rfl, _⟩ := hf2
      clear hb2 hnm
      go_wp2
      go_ret
      exact ⟨_, rfl, by rw [HLS.out, HTB.out]; exact HN.out.1, HN.out.2⟩
    | true =>
      rw [hok] at hnm
      have HOK := Hid.mk7 hok
      clear hok
      go_wp2_with fail
      refine hnm.mono ?_
      rintro e w2 ⟨v2, rfl, hf2, hb2⟩
      have hf2 : v2 = .nilIface := hf2
      subst hf2
      have H2 : Hid (Below w.heap.size w w2 ∧ PeerAt w2 w.heap.size ⟨nm, fl, cr⟩) := ⟨H1.out.1.trans (hb2.mono H1.out.1.size), H1.out.2.1.below hb2⟩
      have hy1 := (hb2.cell (p := ⟨gV, 1, none⟩) hgl).trans hx1
      have hnp := sh_name 0 p (HPS.out p rfl) w2 (HG.out.er.below H2.out.1)
      clear hb2 hnm hx0 hx1
      go_wp2_with fail
      rw [rounds_succ]
      cases hok2 : nodeOk p with
      | false =>
        rw [hok2] at hnp
        have HTB : Hid (permitErr ⟨nm, fl, cr⟩ cookie (some p) = shName 0) := by
          have h : permitErr ⟨nm, fl, cr⟩ cookie (some p) = shName 0 := by have := HOK.out; simp [permitErr, madeErr, this, hok2]
          exact h
        clear hok2
        go_wp2_with fail
        refine hnp.mono ?_
        rintro e w3 ⟨v3, rfl, hf3, hb3⟩
        have hf3 : FaultC w2.heap.size w3 v3 (shName 0) := hf3
        have HN := Hid.mk7 (And.intro (hf3.mono H2.out.1.size) (H2.out.1.trans (hb3.mono H2.out.1.size)))
        obtain ⟨pb, qb, _, _, rfl, _⟩ := hf3
        clear hb3 hnp
        go_wp2
        go_ret
        exact ⟨_, rfl, by rw [HLS.out, HTB.out]; exact HN.out.1, HN.out.2⟩
      | true =>
        rw [hok2] at hnp
        have HOK2 := Hid.mk7 hok2
        clear hok2
        go_wp2_with fail
        refine hnp.mono ?_
        rintro e wL ⟨v3, rfl, hf3, hb3⟩
        have hf3 : v3 = .nilIface := hf3
        subst hf3
        have HW : Hid (Below w.heap.size w wL ∧ PeerAt wL w.heap.size ⟨nm, fl, cr⟩) := ⟨H2.out.1.trans (hb3.mono H2.out.1.size), H2.out.2.below hb3⟩
        clear hb3 hnp hy1
        go_wp2_with fail
        rw [rounds_succ]
        have HT5 := Hid.mk7 (HTE.out HOK.out (fun q h => by injection h with h; subst h; exact HOK2.out))
        obtain ⟨p0, p1, p2⟩ := HW.out.2
        simp only at p0 p1 p2
        have hcp := sd_checkPeer ⟨nm, fl, cr⟩ wL
        simp only at hcp
        go_wp2_with fail
        refine hcp.mono ?_
        rintro e w5 ⟨v5, rfl, hf5, hb5⟩
        have H5 : Hid (Below w.heap.size w w5 ∧ PeerAt w5 w.heap.size ⟨nm, fl, cr⟩ ∧ FaultC w.heap.size w5 v5 (peerErr ⟨nm, fl, cr⟩)) := ⟨HW.out.1.trans (hb5.mono HW.out.1.size), HW.out.2.below hb5, hf5.mono HW.out.1.size⟩
        clear hb5 hcp p0 p1 p2
        rcases fault_cases' hf5 with ⟨hpe, rfl⟩ | ⟨hpe, pb, rfl⟩
        · have HT6 := Hid.mk7 (HT5.out.trans (if_neg (fun h => h hpe)))
          have hct := tx_contains (HP.out.below H5.out.1) (by omega) nm
          obtain ⟨p0, p1, p2⟩ := H5.out.2.1
          simp only at p0 p1 p2
          clear hf5 hpe
          go_wp2_with fail
          refine hct.mono ?_
          rintro e w5' ⟨bb, rfl, hbb, rfl⟩
          have HBB := Hid.mk7 hbb
          clear hct hbb p0 p1 p2
          cases bb with
          | true =>
            have hin := (HBB.out).1 rfl
            have HT7 := Hid.mk7 (HT6.out.trans (if_pos (by simp [peersOf] at hin; rw [hin])))
            clear hin
            go_wp2_with fail
            refine (sh_refuse _ _ _).mono ?_
            rintro e w6 ⟨v6, rfl, hf6, hb6⟩
            have HN := Hid.mk7 (And.intro (hf6.mono H5.out.1.size) (H5.out.1.trans (hb6.mono H5.out.1.size)))
            obtain ⟨pb, _, rfl, _⟩ := hf6
            clear hb6
            go_wp2
            go_ret
            exact ⟨_, rfl, by rw [HLS.out, HT7.out]; exact HN.out.1, HN.out.2⟩
          | false =>
            have hin : ¬ nm ∈ peersOf (some p) := fun h => absurd (HBB.out.2 h) (by decide)
            have HT7 := Hid.mk7 (HT6.out.trans (if_neg (fun h => hin (by rw [h]; simp [peersOf]))))
            have hck := mix_cookie cookie hcs w5
            clear hin
            cases hce : cookieErr cookie with
            | none =>
              rw [hce] at hck
              have hT8 := HT7.out
              rw [hce] at hT8
              have HT8 := Hid.mk7 hT8
              clear hce hT8
              go_wp2_with fail
              refine hck.mono ?_
              rintro e w6 ⟨v6, rfl, hf6, hb6⟩
              have hf6 : v6 = .nilIface := hf6
              subst hf6
              have H6 := Hid.mk7 (H5.out.1.trans (hb6.mono H5.out.1.size))
              clear hb6 hck
              go_wp2_with fail
              refine (sh_wrap_nil _ _).mono ?_
              rintro e w7 ⟨rfl, hb7⟩
              go_wp2
              go_ret
              exact ⟨_, rfl, by rw [HLS.out, HT8.out]; rfl, H6.out.trans (hb7.mono H6.out.size)⟩
            | some x =>
              rw [hce] at hck
              have hT8 := HT7.out
              rw [hce] at hT8
              have HT8 := Hid.mk7 hT8
              clear hce hT8
              go_wp2_with fail
              refine hck.mono ?_
              rintro e w6 ⟨v6, rfl, hf6, hb6⟩
              have hf6 := fault_of_mix hf6
              have B6 := H5.out.1.trans (hb6.mono H5.out.1.size)
              have hwr := sh_wrap_one 0 ⟨lyMix, x.1, x.2⟩ (HG.out.er.below B6) (hf6.mono H5.out.1.size)
              have H6 := Hid.mk7 B6
              obtain ⟨pb, _, rfl, _⟩ := hf6
              clear hb6 hck B6
              go_wp2_with fail
              refine hwr.mono ?_
              rintro e w7 ⟨v7, rfl, hf7, hb7⟩
              have HN := Hid.mk7 (And.intro hf7 (H6.out.trans (hb7.mono H6.out.size)))
              obtain ⟨pb7, qb7, _, _, rfl, _⟩ := hf7
              clear hb7 hwr
              go_wp2
              go_ret
              exact ⟨_, rfl, by rw [HLS.out, HT8.out]; exact HN.out.1, HN.out.2⟩
        · have HT6 := Hid.mk7 (HT5.out.trans (if_pos hpe))
          clear hf5 hpe
          go_wp2
          go_ret
          exact ⟨_, rfl, by rw [HLS.out, HT6.out]; exact H5.out.2.2, H5.out.1⟩
end Go.Proofs.YtmnibmgbicnamaaGreatDoor
