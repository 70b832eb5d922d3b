/-
  Layer 8 (shake): the program's Begin and Wait.
-/
import Derived.Test.YtmnibmgbicnamaaGreatDoorShW
import Derived.Test.YtmnibmgbicnamaaGreatDoorShT
namespace Go.Proofs.YtmnibmgbicnamaaGreatDoor
open Go.RowKit

set_option maxRecDepth 100000 in
set_option maxHeartbeats 1600000 in
theorem sd_start {w : World} {g : Nat} {p0 : Option Addr} {st0 : Int} {p me : Pr} {si : Bool} {want ck0 : ByteArray} {ch0 : Int} (hg : ∀ j, j < 12 → w.cell? ⟨g, j, none⟩ = some (if j = 0 then .pointer p0 else sdCell g st0 p si me want ck0 ch0 j) ∧ w.frozen? ⟨g, j, none⟩ = false) (st : Int) (cookie : ByteArray) (hc : cookie.size ≤ 281474976710656) (ch : Int) : Calls Tryz.prog 79 #[.pointer (some ⟨g, 0, none⟩), .int .i64 st, .string cookie, .int .u32 ch] w fun e w' => e = .returned (.tuple #[]) ∧ Block w' g 12 (sdCell g st p si me want cookie ch) ∧ Turned (fun k => k = g) w w' := by
  have hcl := clone_text cookie hc
  have HB : Hid (Block w g 12 (fun j => if j = 0 then .pointer p0 else sdCell g st0 p si me want ck0 ch0 j)) := hg
  obtain ⟨k0, f0⟩ := hg 0 (by omega)
  obtain ⟨k1, f1⟩ := hg 1 (by omega)
  simp only [sdCell, if_true] at k0
  simp only [sdCell] at k1
  clear hg
  have hgl : g < w.heap.size := World.block_lt_of_cell? w _ k0
  go_enter Tryz.func79, Tryz.ntmps79
  go_wp2_with fail
  refine (hcl _).mono ?_
  rintro e w1 ⟨rfl, hb1⟩
  have T0 := (Turned.set1 w g 0 (.pointer (some ⟨g, 0, none⟩))).trans (Turned.set1 _ g 1 (.int .i64 st)) (fun _ h => .inl h)
  have B1 := ((Block.set (Block.set HB.out 0 (.pointer (some ⟨g, 0, none⟩))) 1 (.int .i64 st)).turned (Turned.ofBelow (S := fun _ => False) hb1) (fun h => h))
  have T1 := T0.trans (Turned.ofBelow (S := fun _ => False) hb1) (fun _ h => h.elim)
  have H1 := Hid.mk7 (And.intro B1 T1)
  obtain ⟨k10, f10⟩ := B1 10 (by omega)
  obtain ⟨k11, f11⟩ := B1 11 (by omega)
  simp at k10 k11
  clear T0 B1 T1 hb1 k0 k1 f0 f1 hcl
  go_wp2
  go_end0
  refine ⟨rfl, (((Block.set (Block.set H1.out.1 10 (.string cookie)) 11 (.int .u32 ch))).congr (forall12 rfl rfl rfl rfl rfl rfl rfl rfl rfl rfl rfl rfl)), (H1.out.2.trans (Turned.set1 _ g 10 _) (fun _ h => .inl h)).trans (Turned.set1 _ g 11 _) (fun _ h => .inl h)⟩
/-- What Begin tells. -/
def BeginTold (me : Pr) (peer cookie : ByteArray) (ch : Nat) (w : World) (e : Ending) (w' : World) : Prop :=
  (madeErr me peer true cookie ≠ [] ∧ ∃ v, e = .returned (.tuple #[.pointer none, .slice none 0 0, v]) ∧ FaultC w.heap.size w' v (madeErr me peer true cookie) ∧ Below w.heap.size w w') ∨
  (madeErr me peer true cookie = [] ∧ ∃ g V, e = .returned (.tuple #[.pointer (some ⟨g, 0, none⟩), V, .nilIface]) ∧ w.heap.size ≤ g ∧ SideAt w' g (madeOf 1 me peer cookie ch) ∧ Own w' V (writeOf (nameMsg me)) ∧ (∀ k, blk V k → w.heap.size ≤ k ∧ k ≠ g) ∧ Below w.heap.size w w')
/-- What Wait tells. -/
def WaitTold (me : Pr) (cookie : ByteArray) (ch : Nat) (w : World) (e : Ending) (w' : World) : Prop :=
  (madeErr me ⟨#[]⟩ false cookie ≠ [] ∧ ∃ v, e = .returned (.tuple #[.pointer none, v]) ∧ FaultC w.heap.size w' v (madeErr me ⟨#[]⟩ false cookie) ∧ Below w.heap.size w w') ∨
  (madeErr me ⟨#[]⟩ false cookie = [] ∧ ∃ g, e = .returned (.tuple #[.pointer (some ⟨g, 0, none⟩), .nilIface]) ∧ w.heap.size ≤ g ∧ SideAt w' g (madeOf 4 me ⟨#[]⟩ cookie ch) ∧ Below w.heap.size w w')
theorem PeerAt.val {w : World} {g : Nat} {p : Pr} (h : PeerAt w g p) : w.cell? ⟨g, 0, none⟩ = some (.string p.name) ∧ w.cell? ⟨g, 1, none⟩ = some (.int .u64 p.flags) ∧ w.cell? ⟨g, 2, none⟩ = some (.int .u32 p.creation) := ⟨h.c0, h.c1, h.c2⟩
set_option maxRecDepth 100000 in
set_option maxHeartbeats 6400000 in
theorem sd_begin (me : Pr) (hme : me.Ok) (peer cookie : ByteArray) (ch : Nat) (hns : me.name.size ≤ 4611686018427387904) (hps : peer.size ≤ 4611686018427387904) (hcs : cookie.size ≤ 4611686018427387904) {w : World} (hG : Gd w) :
    Calls Tryz.prog 47 #[.agg #[.string me.name, .int .u64 me.flags, .int .u32 me.creation], .string peer, .string cookie, .int .u32 ch] w (BeginTold me peer cookie ch w) := by
  obtain ⟨wa, hwa⟩ : ∃ wa, wa = w.alloc (.cells #[.string me.name, .int .u64 me.flags, .int .u32 me.creation] 46) := ⟨_, rfl⟩
  obtain ⟨wb, hwb⟩ : ∃ wb, wb = wa.alloc (.cells #[.string peer] 9) := ⟨_, rfl⟩
  have ba : Below w.heap.size w wa := by rw [hwa]; exact (Below.refl _ _).alloc (Nat.le_refl _) _
  have bb : Below wa.heap.size wa wb := by rw [hwb]; exact (Below.refl _ _).alloc (Nat.le_refl _) _
  have pa : PeerAt wa w.heap.size me := by rw [hwa]; exact PeerAt.ofNew w me _
  have tb : Tx wb (.slice (some ⟨wa.heap.size, 0, none⟩) 1 1) (peersOf (some peer)) := by rw [hwb]; exact Tx.one wa peer _
  have bab := ba.trans (bb.mono ba.size)
  have hpm := sd_permit me cookie (some peer) hns (fun p h => by injection h with h; subst h; exact hps) hcs tb (hG.below bab)
  have H0 : Hid (Below w.heap.size w wb ∧ PeerAt wb w.heap.size me) := ⟨bab, pa.below bb⟩
  have hpe : permitErr me cookie (some peer) = madeErr me peer true cookie := rfl
  rw [hpe] at hpm
  have HWB : Hid (wb.heap.size = w.heap.size + 1 + 1) := by
    have h : wb.heap.size = w.heap.size + 1 + 1 := by rw [hwb, hwa]; simp
    exact h
  rw [hwb, hwa] at hpm
  simp only [World.size_alloc] at hpm
  have HG := Hid.mk7 hG
  have HME := Hid.mk7 hme
  have HMN : Hid (madeErr me peer true cookie = [] → nodeOk me.name = true ∧ nodeOk peer = true ∧ cookieErr cookie = none) := fun h => ⟨(made_none h).1, ((made_none h).2.1 rfl).1, (made_none h).2.2.2.2⟩
  have hwbg : ∀ W, Below (w.heap.size + 1 + 1) (((w.alloc (.cells #[.string me.name, .int .u64 me.flags, .int .u32 me.creation] 46)).alloc (.cells #[.string peer] 9))) W → Below wb.heap.size wb W := fun W h => by rw [HWB.out, hwb, hwa]; exact h
  have HWG := Hid.mk7 hwbg
  unfold BeginTold
  generalize madeErr me peer true cookie = ls at hpm HMN ⊢
  clear hwa hwb ba bb pa tb bab hG hme hpe hwbg
  go_enter Tryz.func47, Tryz.ntmps47
  go_wp2_with fail
  refine hpm.mono ?_
  rintro e w1 ⟨v, rfl, hf1, hb1⟩
  have hb1' := HWG.out w1 hb1
  have H1 : Hid (Below w.heap.size w w1 ∧ PeerAt w1 w.heap.size me ∧ FaultC w.heap.size w1 v ls) := ⟨H0.out.1.trans (hb1'.mono H0.out.1.size), H0.out.2.below hb1', hf1.mono (by omega)⟩
  clear hb1 hb1' hpm HWG
  rcases fault_cases hf1 with ⟨hls, rfl⟩ | ⟨hls, pb, rfl⟩
  · obtain ⟨hn1, hn2, hce⟩ := HMN.out hls
    have hpz := (nodeOk_size hn2).2
    have hcz := cookie_size hce
    have HLS := Hid.mk7 hls
    have HCE := Hid.mk7 hce
    obtain ⟨p0, p1, p2⟩ := H1.out.2.1
    have hcl := clone_text peer (by omega) w1
    clear hf1 hls hn1 hn2 hce
    go_wp2_with fail
    refine hcl.mono ?_
    rintro e w2 ⟨rfl, hb2⟩
    have H2 : Hid (Below w.heap.size w w2 ∧ PeerAt w2 w.heap.size me) := ⟨H1.out.1.trans (hb2.mono H1.out.1.size), H1.out.2.1.below hb2⟩
    clear hb2 hcl p0 p1 p2
    go_wp2_with fail
    have hz2 := H2.out.1.size
    have A3 := (Below.refl w2.heap.size w2).alloc (Nat.le_refl _) (.cells #[.pointer none, .int .i64 0, .string ⟨#[]⟩, .int .u64 0, .int .u32 0, .bool false, .string ⟨#[]⟩, .int .u64 0, .int .u32 0, .string peer, .string ⟨#[]⟩, .int .u32 0] 117)
    have hstt := sd_start (w := w2.alloc (.cells #[.pointer none, .int .i64 0, .string ⟨#[]⟩, .int .u64 0, .int .u32 0, .bool false, .string ⟨#[]⟩, .int .u64 0, .int .u32 0, .string peer, .string ⟨#[]⟩, .int .u32 0] 117)) (g := w2.heap.size) (p0 := none) (st0 := 0) (p := .zero) (me := .zero) (si := false) (want := peer) (ck0 := ⟨#[]⟩) (ch0 := 0) (forall12 ⟨by simp, by rw [World.frozen?_alloc_new]⟩ ⟨by simp [sdCell], by rw [World.frozen?_alloc_new]⟩ ⟨by simp [sdCell, Pr.zero], by rw [World.frozen?_alloc_new]⟩ ⟨by simp [sdCell, Pr.zero], by rw [World.frozen?_alloc_new]⟩ ⟨by simp [sdCell, Pr.zero], by rw [World.frozen?_alloc_new]⟩ ⟨by simp [sdCell], by rw [World.frozen?_alloc_new]⟩ ⟨by simp [sdCell, Pr.zero], by rw [World.frozen?_alloc_new]⟩ ⟨by simp [sdCell, Pr.zero], by rw [World.frozen?_alloc_new]⟩ ⟨by simp [sdCell, Pr.zero], by rw [World.frozen?_alloc_new]⟩ ⟨by simp [sdCell], by rw [World.frozen?_alloc_new]⟩ ⟨by simp [sdCell], by rw [World.frozen?_alloc_new]⟩ ⟨by simp [sdCell], by rw [World.frozen?_alloc_new]⟩) 1 cookie (by omega) ch
    have H3 : Hid (Below w2.heap.size w2 (w2.alloc (.cells #[.pointer none, .int .i64 0, .string ⟨#[]⟩, .int .u64 0, .int .u32 0, .bool false, .string ⟨#[]⟩, .int .u64 0, .int .u32 0, .string peer, .string ⟨#[]⟩, .int .u32 0] 117))) := A3
    clear A3
    refine hstt.mono ?_
    rintro e w4 ⟨rfl, hB4, hT4⟩
    have b24 : Below w2.heap.size w2 w4 := H3.out.trans (hT4.below (by simp) (fun k hk => Nat.le_of_eq hk.symm))
    have H4 : Hid (Block w4 w2.heap.size 12 (sdCell w2.heap.size 1 .zero false .zero peer cookie ch) ∧ Below w.heap.size w w4 ∧ PeerAt w4 w.heap.size me) := ⟨hB4, H2.out.1.trans (b24.mono hz2), H2.out.2.below b24⟩
    obtain ⟨p0, p1, p2⟩ := H4.out.2.2
    have hgl4 : w2.heap.size < w4.heap.size := hB4.lt (by omega)
    have htl := sd_tell (nameMsg me) ⟨HME.out.flags, HME.out.creation, z32, fun z hz => by cases hz⟩ hns (w := w4) (D := .slice none 0 0) (.inl ⟨rfl, rfl⟩) (HG.out.below H4.out.2.1).er
    unfold msgV' at htl
    simp only [nameMsg, Msg.zero] at htl
    generalize hWz : writeOf _ = zs at htl
    have HWz : Hid (writeOf (nameMsg me) = zs) := hWz
    clear hWz hB4 hT4 b24 hstt
    go_wp2_with fail
    refine htl.mono ?_
    rintro e w5 ⟨V, rfl, ho5, hb5, hk5⟩
    have H5 : Hid (Own w5 V zs ∧ Below w4.heap.size w4 w5 ∧ ∀ k, blk V k → w4.heap.size ≤ k) := ⟨ho5, hb5, hk5⟩
    obtain ⟨aV, cV, LV, rfl⟩ : ∃ a c L, V = .slice a L c := ⟨_, _, _, ho5.sl.form.choose_spec.choose_spec.1⟩
    clear ho5 hb5 hk5 htl p0 p1 p2
    go_wp2
    go_ret3
    obtain ⟨q1, q2, q3⟩ := H5.out
    have hz4 := H4.out.2.1.size
    refine .inr ⟨HLS.out, w2.heap.size, _, rfl, hz2, ⟨.zero, peer, cookie, ch, H4.out.1.turned (Turned.ofBelow (S := fun _ => False) q2) (fun h => h), fun _ _ => ⟨rfl, rfl, fun _ => rfl, fun h => absurd h (show ¬ (4 : Int) ≤ 1 by decide)⟩⟩, by rw [HWz.out]; exact q1, fun k hk => ⟨by have := q3 k hk; omega, by have := q3 k hk; omega⟩, H4.out.2.1.trans (q2.mono hz4)⟩
  · have HLS := Hid.mk7 hls
    clear hf1 hls
    go_wp2
    go_ret3
    exact .inl ⟨HLS.out, _, rfl, H1.out.2.2, H1.out.1⟩
set_option maxRecDepth 100000 in
set_option maxHeartbeats 6400000 in
theorem sd_wait (me : Pr) (cookie : ByteArray) (ch : Nat) (hns : me.name.size ≤ 4611686018427387904) (hcs : cookie.size ≤ 4611686018427387904) {w : World} (hG : Gd w) :
    Calls Tryz.prog 48 #[.agg #[.string me.name, .int .u64 me.flags, .int .u32 me.creation], .string cookie, .int .u32 ch] w (WaitTold me cookie ch w) := by
  obtain ⟨wa, hwa⟩ : ∃ wa, wa = w.alloc (.cells #[.string me.name, .int .u64 me.flags, .int .u32 me.creation] 46) := ⟨_, rfl⟩
  have ba : Below w.heap.size w wa := by rw [hwa]; exact (Below.refl _ _).alloc (Nat.le_refl _) _
  have pa : PeerAt wa w.heap.size me := by rw [hwa]; exact PeerAt.ofNew w me _
  have hpm := sd_permit me cookie none hns (fun p h => by cases h) hcs (w := wa) (P := .slice none 0 0) (.inl ⟨rfl, rfl⟩) (hG.below ba)
  have H0 : Hid (Below w.heap.size w wa ∧ PeerAt wa w.heap.size me) := ⟨ba, pa⟩
  have hpe : permitErr me cookie none = madeErr me ⟨#[]⟩ false cookie := rfl
  rw [hpe] at hpm
  have HWB : Hid (wa.heap.size = w.heap.size + 1) := by
    have h : wa.heap.size = w.heap.size + 1 := by rw [hwa]; simp
    exact h
  rw [hwa] at hpm
  simp only [World.size_alloc] at hpm
  have HMN : Hid (madeErr me ⟨#[]⟩ false cookie = [] → nodeOk me.name = true ∧ cookieErr cookie = none) := fun h => ⟨(made_none h).1, (made_none h).2.2.2.2⟩
  have hwbg : ∀ W, Below (w.heap.size + 1) (w.alloc (.cells #[.string me.name, .int .u64 me.flags, .int .u32 me.creation] 46)) W → Below wa.heap.size wa W := fun W h => by rw [HWB.out, hwa]; exact h
  have HWG := Hid.mk7 hwbg
  unfold WaitTold
  generalize madeErr me ⟨#[]⟩ false cookie = ls at hpm HMN ⊢
  clear hwa ba pa hG hpe hwbg
  go_enter Tryz.func48, Tryz.ntmps48
  go_wp2_with fail
  refine hpm.mono ?_
  rintro e w1 ⟨v, rfl, hf1, hb1⟩
  have hb1' := HWG.out w1 hb1
  have H1 : Hid (Below w.heap.size w w1 ∧ PeerAt w1 w.heap.size me ∧ FaultC w.heap.size w1 v ls) := ⟨H0.out.1.trans (hb1'.mono H0.out.1.size), H0.out.2.below hb1', hf1.mono (by omega)⟩
  clear hb1 hb1' hpm HWG
  rcases fault_cases hf1 with ⟨hls, rfl⟩ | ⟨hls, pb, rfl⟩
  · obtain ⟨hn1, hce⟩ := HMN.out hls
    have hpz := (nodeOk_size hn1).2
    have hcz := cookie_size hce
    have HLS := Hid.mk7 hls
    obtain ⟨p0, p1, p2⟩ := H1.out.2.1
    have hw1 : w.heap.size < w1.heap.size := World.block_lt_of_cell? w1 _ p0
    have hcl := fun W : World => clone_text me.name (by omega) W
    clear hf1 hls hn1 hce
    go_wp2_with fail
    refine (hcl _).mono ?_
    rintro e w2 ⟨rfl, hb2⟩
    obtain ⟨wc, hwc⟩ : ∃ wc, wc = w1.alloc (.cells #[.pointer none, .int .i64 0, .string ⟨#[]⟩, .int .u64 0, .int .u32 0, .bool false, .string me.name, .int .u64 me.flags, .int .u32 me.creation, .string ⟨#[]⟩, .string ⟨#[]⟩, .int .u32 0] 117) := ⟨_, rfl⟩
    have hbc : Below w1.heap.size w1 wc := by rw [hwc]; exact (Below.refl _ _).alloc (Nat.le_refl _) _
    have hblc : Block wc w1.heap.size 12 (fun j => if j = 0 then .pointer none else sdCell w1.heap.size 0 .zero false me ⟨#[]⟩ ⟨#[]⟩ 0 j) := by
      rw [hwc]
      exact forall12 ⟨by simp, by rw [World.frozen?_alloc_new]⟩ ⟨by simp [sdCell], by rw [World.frozen?_alloc_new]⟩ ⟨by simp [sdCell, Pr.zero], by rw [World.frozen?_alloc_new]⟩ ⟨by simp [sdCell, Pr.zero], by rw [World.frozen?_alloc_new]⟩ ⟨by simp [sdCell, Pr.zero], by rw [World.frozen?_alloc_new]⟩ ⟨by simp [sdCell], by rw [World.frozen?_alloc_new]⟩ ⟨by simp [sdCell], by rw [World.frozen?_alloc_new]⟩ ⟨by simp [sdCell], by rw [World.frozen?_alloc_new]⟩ ⟨by simp [sdCell], by rw [World.frozen?_alloc_new]⟩ ⟨by simp [sdCell], by rw [World.frozen?_alloc_new]⟩ ⟨by simp [sdCell], by rw [World.frozen?_alloc_new]⟩ ⟨by simp [sdCell], by rw [World.frozen?_alloc_new]⟩
    rw [← hwc] at hb2
    have hbl2 := hblc.turned (Turned.ofBelow (S := fun _ => False) hb2) (fun h => h)
    have b12 : Below w1.heap.size w1 w2 := hbc.trans (hb2.mono hbc.size)
    have H2 : Hid (Block w2 w1.heap.size 12 (fun j => if j = 0 then .pointer none else sdCell w1.heap.size 0 .zero false me ⟨#[]⟩ ⟨#[]⟩ 0 j) ∧ Below w.heap.size w w2) := ⟨hbl2, H1.out.1.trans (b12.mono H1.out.1.size)⟩
    obtain ⟨k6, f6⟩ := hbl2 6 (by omega)
    simp [sdCell] at k6
    clear hwc hbc hblc hb2 hbl2 b12 hcl p0 p1 p2
    have hbs := Block.set H2.out.1 6 (.string me.name)
    have hstt := sd_start (w := w2.setCell ⟨w1.heap.size, 6, none⟩ (.string me.name)) (g := w1.heap.size) (p0 := none) (st0 := 0) (p := .zero) (me := me) (si := false) (want := ⟨#[]⟩) (ck0 := ⟨#[]⟩) (ch0 := 0) (hbs.congr (forall12 rfl rfl rfl rfl rfl rfl rfl rfl rfl rfl rfl rfl)) 4 cookie (by omega) ch
    have T2 := Hid.mk7 (Turned.set1 w2 w1.heap.size 6 (.string me.name))
    clear hbs
    go_wp2_with fail
    refine hstt.mono ?_
    rintro e w4 ⟨rfl, hB4, hT4⟩
    have hz1 := H1.out.1.size
    have hz2 := H2.out.2.size
    have hlt2 : w1.heap.size < w2.heap.size := H2.out.1.lt (by omega)
    have b24 : Below w.heap.size w2 w4 := (T2.out.below (B := w.heap.size) hz2 (fun k hk => by have hk : k = w1.heap.size := hk; omega)).trans (hT4.below (by simp; omega) (fun k hk => by have hk : k = w1.heap.size := hk; omega))
    have HN : Hid (Block w4 w1.heap.size 12 (sdCell w1.heap.size 4 .zero false me ⟨#[]⟩ cookie ch) ∧ Below w.heap.size w w4) := ⟨hB4, H2.out.2.trans b24⟩
    clear hB4 hT4 b24 hstt k6 f6
    go_wp2
    go_ret2
    exact .inr ⟨HLS.out, w1.heap.size, rfl, hz1, ⟨me, ⟨#[]⟩, cookie, ch, HN.out.1, fun _ _ => ⟨rfl, rfl, fun h => absurd h (show ¬ (4 : Int) ≤ 3 by decide), fun _ => rfl⟩⟩, HN.out.2⟩
  · have HLS := Hid.mk7 hls
    clear hf1 hls
    go_wp2
    go_ret2
    exact .inl ⟨HLS.out, _, rfl, H1.out.2.2, H1.out.1⟩
end Go.Proofs.YtmnibmgbicnamaaGreatDoor
