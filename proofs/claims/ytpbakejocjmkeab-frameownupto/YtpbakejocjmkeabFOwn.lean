/-
  heddlelaw06.FrameOwn: its walk, over the landed frames.
-/
import Derived.Test.YtpbakejocjmkeabFrmImpl
import Derived.Deep.DeepCutAuto
import Derived.Deep.CutBlock
namespace Go.Proofs.Ytpbakejocjmkeab
open Go.RowKit

/-- Next, and that its body may be written. -/
theorem frm_next_own {w : World} {rb : Nat} {S : Nat → Prop} {f : FSt} (hm : PrAt w rb S f) (hok : f.Ok) :
    Calls Try.prog 8 #[.pointer (some ⟨rb, 0, none⟩)] w fun e w' => ∃ V v S', e = .returned (.tuple #[V, .bool f.next.2.1.isSome, v]) ∧ Own w' V (bodyOf f.next.2.1) ∧ (∀ k, blk V k → w.heap.size ≤ k ∧ k < w'.heap.size ∧ ¬ S' k) ∧ PrAt w' rb S' f.next.2.2 ∧ Turned S w w' ∧ ∀ k, S' k → S k ∨ w.heap.size ≤ k := by
  obtain ⟨B, hm, hS⟩ := hm
  have keep : ∀ {w' : World}, Below w.heap.size w w' → PrAt w' rb S f ∧ Turned S w w' ∧ ∀ k, S k → S k ∨ w.heap.size ≤ k := fun {w'} hb => ⟨⟨B, hm.below hb, hS⟩, Turned.ofBelow hb, fun k hk => .inl hk⟩
  have hT : ∀ {w' : World}, Turned (fun k => k = rb) w w' → Turned S w w' := fun h => h.mono (fun k hk => .inl ((hS k).2 (.inl hk)))
  by_cases hd : f.dead = true
  · have hr : f.next = (some (f.bytes, 120), none, f) := by unfold FSt.next; rw [if_pos hd]
    rw [hr]
    exact (frm_next_dead hm hd).mono fun e w' ⟨v, h1, h2, h3⟩ => ⟨_, v, S, h1, .inl ⟨rfl, rfl⟩, fun _ hk => hk.elim, keep h3⟩
  have hd' : f.dead = false := by simpa using hd
  by_cases hl : most f.width < f.len
  · have hr : f.next = (some (f.bytes, 120), none, { f with dead := true }) := by unfold FSt.next; rw [if_neg hd, if_pos hl]
    rw [hr]
    exact (frm_next_big hm hok hd' hl).mono fun e w' ⟨v, h1, h2, h3, h4⟩ => ⟨_, v, prS rb (.slice none 0 0), h1, .inl ⟨rfl, rfl⟩, fun _ hk => hk.elim, h3.at_, hT h4, fun k hk => hk.elim (fun h => .inl ((hS k).2 (.inl h))) (fun h => h.elim)⟩
  by_cases hn : f.len < 0 ∨ (f.held.length : Int) - f.width < f.len
  · have hr : f.next = (none, none, f) := by unfold FSt.next; rw [if_neg hd, if_neg hl, if_pos hn]
    rw [hr]
    exact (frm_next_none hm hok hd' hl hn).mono fun e w' ⟨h1, q, h2⟩ => by
      subst h2
      exact ⟨_, _, S, h1, .inl ⟨rfl, rfl⟩, fun _ hk => hk.elim, keep ((Turned.drewN (fun _ => False) w q).below (Nat.le_refl _) (fun _ h => h.elim))⟩
  · rw [FSt.past_next hd hl hn]
    have h0 : f.len = (f.len.toNat : Int) := by omega
    exact (frm_next_ok hm hok hd' hl h0 (by omega)).mono fun e w' ⟨V, B', h1, h2, h3, h4, h5, h6⟩ => ⟨V, _, prS rb B', h1, h2, fun k hk => ⟨(h3 k hk).1, h2.blk_lt k hk, (h3 k hk).2⟩, h4.at_, hT h5, fun k hk => hk.elim (fun h => .inl ((hS k).2 (.inl h))) (fun h => (h6 k h).imp (fun h => (hS k).2 (.inr h)) id)⟩

set_option maxRecDepth 100000 in
set_option maxHeartbeats 3200000 in
/-- Of other widths. -/
theorem own_width (n : Int) (b : Value) (bs : List Int) (w : World) (hw : n ≠ 2 ∧ n ≠ 4) (hx : Sl w b bs) (hr : Rng bs) (hl : bs.length ≤ 16777216) :
    Calls Try.prog 3 #[.int .i64 n, b] w fun ev w' => ev = .returned (.bool true) ∧ Below w.heap.size w w' := by
  obtain ⟨ab, cb, hbf, hcb, hmb⟩ := hx.form
  subst hbf
  have hx1 := fun t : TypeId => hx.turned (alloc0f w (.cells #[] t)) (fun _ _ h => h)
  have ho0 := fun t : TypeId => Own.empty w t _ rfl
  clear hx
  go_enter Try.func3, Try.ntmps3
  go_wp2_with (at_builtin; refine wpList_append_bytes (by rfl) (.tmp 26) (.tmp 27) (by rfl) Try.bytes (by rfl) (by rfl) (ho0 _) (hx1 _) (by simp; omega) ?_; intro v1 w1 ho1 ht1 hb1; have T1 : Turned (fun _ => False) w w1 := (alloc0f w _).trans ht1 (fun _ hk => .inr (Nat.le_of_eq hk)); simp only [List.nil_append] at ho1; have HO1 : Hid (Own w1 v1 bs ∧ Turned (fun _ => False) w w1) := ⟨ho1, T1⟩; obtain ⟨a1, c1, L1, rfl⟩ : ∃ a1 c1 L1, v1 = .slice a1 L1 c1 := ⟨_, _, _, ho1.sl.form.choose_spec.choose_spec.1⟩; clear ho1 ht1 hb1 T1 hx1)
  refine (frm_split n HO1.out.1.sl hr hl).mono ?_
  have hsa : splitAny n bs = (some (0, 1), [], 0) := by unfold splitAny; rw [if_pos hw]
  rw [hsa]
  rintro ev w2 ⟨V2, v2, rfl, he2, hV2, hb2⟩
  have HB2 : Hid (Below w.heap.size w w2) := (HO1.out.2.below (Nat.le_refl _) (fun _ h => h.elim)).trans (hb2.mono HO1.out.2.size)
  obtain ⟨pb2, _, rfl, _⟩ := he2
  clear hV2 hb2
  go_wp2_with fail
  refine (frm_new_bad n _ hw.1 hw.2).mono ?_
  rintro ev w3 ⟨v3, rfl, he3, hb3⟩
  obtain ⟨pb3, _, rfl, _⟩ := he3
  have HB3 : Hid (Below w.heap.size w w3) := HB2.out.trans (hb3.mono HB2.out.size)
  clear hb3
  go_wp2_with fail
  refine (awake_any frm_impl w3).mono ?_
  rintro ev w4 ⟨rfl, hb4⟩
  have HB4 : Hid (Below w.heap.size w w4) := HB3.out.trans (hb4.mono HB3.out.size)
  clear hb4
  go_wp2
  go_ret
  exact ⟨rfl, HB4.out⟩

/-- A slice that may be written, and is. -/
def Writes (w : World) (v : Value) (L : Nat) : Prop := ∃ a c, v = .slice a L c ∧ ∀ j, j < L → ∃ g off, a = some ⟨g, off, none⟩ ∧ (w.cell? ⟨g, off + j, none⟩).isSome = true ∧ w.frozen? ⟨g, off + j, none⟩ = false
theorem Own.writes {w : World} {v : Value} {zs : List Int} (h : Own w v zs) : Writes w v zs.length := by
  rcases h with ⟨rfl, rfl⟩ | ⟨g, off, cap, rfl, h2, h3, hg, h4, h5⟩
  · exact ⟨none, 0, rfl, fun j hj => absurd hj (Nat.not_lt_zero j)⟩
  · exact ⟨_, cap, rfl, fun j hj => ⟨g, off, rfl, h5 j (by omega)⟩⟩
theorem Writes.turned {S : Nat → Prop} {w w' : World} {v : Value} {L : Nat} (h : Writes w v L) (ht : Turned S w w') (hs : ∀ k, blk v k → ¬ S k) : Writes w' v L := by
  obtain ⟨a, c, rfl, h⟩ := h
  refine ⟨a, c, rfl, fun j hj => ?_⟩
  obtain ⟨g, off, rfl, h1, h2⟩ := h j hj
  obtain ⟨u, hu⟩ := Option.isSome_iff_exists.1 h1
  exact ⟨g, off, rfl, by rw [ht.cell hu (hs g rfl)]; rfl, by rw [ht.frozen (p := ⟨g, off + j, none⟩) (World.block_lt_of_cell? w _ hu) (hs g rfl)]; exact h2⟩
theorem Writes.set {w : World} {v : Value} {L : Nat} (h : Writes w v L) {g o : Nat} {u x : Value} (hu : w.cell? ⟨g, o, none⟩ = some u) : Writes (w.setCell ⟨g, o, none⟩ x) v L := by
  obtain ⟨a, c, rfl, h⟩ := h
  refine ⟨a, c, rfl, fun j hj => ?_⟩
  obtain ⟨g', off, rfl, h1, h2⟩ := h j hj
  refine ⟨g', off, rfl, ?_, by rw [World.frozen?_setCell]; exact h2⟩
  by_cases he : (⟨g, o, none⟩ : Addr) = ⟨g', off + j, none⟩
  · rw [← he, World.cell?_setCell_same _ _ _ hu]; rfl
  · rw [World.cell?_setCell_other _ _ _ _ he]; exact h1

/-- What the first part leaves. -/
structure OwnA (w w1 w2 w6 : World) (rb : Nat) (S6 : Nat → Prop) (f2 : FSt) (C l x : Value) (bs body : List Int) (ls : List (List Int)) : Prop where
  below : Below w.heap.size w w6
  ok : f2.Ok
  mem : PrAt w6 rb S6 f2
  low : ∀ k, S6 k → w2.heap.size ≤ k
  c : Own w6 C bs
  cAt : ∀ k, blk C k → w.heap.size ≤ k ∧ k < w1.heap.size
  z1 : w1.heap.size ≤ w2.heap.size
  z0 : w.heap.size ≤ w1.heap.size
  bodies : Bodies w2 w1.heap.size l ls
  turned : Turned (fun k => k < w1.heap.size ∨ w2.heap.size ≤ k) w2 w6
  xo : Own w6 x body
  xAt : ∀ k, blk x k → w2.heap.size ≤ k ∧ ¬ S6 k

/-- Both readers, in one state, apart. -/
structure PairO (w wr : World) (rb g : Nat) (S R : Nat → Prop) (f : FSt) : Prop where
  mem : PrAt wr rb S f
  ok : f.Ok
  ref : RdAt wr g R f
  apart : ∀ k, S k → ¬ R k
  low : ∀ k, S k → w.heap.size ≤ k
  high : ∀ k, R k → w.heap.size ≤ k
  below : Below w.heap.size w wr

set_option maxRecDepth 100000 in
set_option maxHeartbeats 6400000 in
theorem own_ok (m : Nat) (hm : m = 2 ∨ m = 4) (b : Value) (bs : List Int) (w : World) (hx : Sl w b bs) (hr : Rng bs) (hl : bs.length ≤ 16777216) :
    Calls Try.prog 3 #[.int .i64 m, b] w fun ev w' => ev = .returned (.bool true) ∧ Below w.heap.size w w' := by
  obtain ⟨ab, cb, hbf, hcb, hmb⟩ := hx.form
  subst hbf
  have hx1 := fun t : TypeId => hx.turned (alloc0f w (.cells #[] t)) (fun _ _ h => h)
  have ho0 := fun t : TypeId => Own.empty w t _ rfl
  have HX : Hid (Sl w (.slice ab bs.length cb) bs) := hx
  clear hx
  go_enter Try.func3, Try.ntmps3
  go_wp2_with (at_builtin; refine wpList_append_bytes (by rfl) (.tmp 26) (.tmp 27) (by rfl) Try.bytes (by rfl) (by rfl) (ho0 _) (hx1 _) (by simp; omega) ?_; intro v1 w1 ho1 ht1 hb1; have T1 : Turned (fun _ => False) w w1 := (alloc0f w _).trans ht1 (fun _ hk => .inr (Nat.le_of_eq hk)); have hk1 : ∀ k, blk v1 k → w.heap.size ≤ k ∧ k < w1.heap.size := (fun k hk => ⟨(hb1 k hk).elim (fun h => Nat.le_of_eq h) (fun h => by simp at h; omega), ho1.blk_lt k hk⟩); simp only [List.nil_append] at ho1; have HO1 : Hid (Own w1 v1 bs ∧ Turned (fun _ => False) w w1 ∧ ∀ k, blk v1 k → w.heap.size ≤ k ∧ k < w1.heap.size) := ⟨ho1, T1, hk1⟩; obtain ⟨a1, c1, hv1, _, _⟩ := ho1.sl.form; subst hv1; clear ho1 ht1 hb1 T1 hx1 hk1)
  refine (frm_split m HO1.out.1.sl hr hl).mono ?_
  have hsa : splitAny m bs = splitOf m bs := by unfold splitAny; rw [if_neg (by omega), Int.toNat_natCast]
  rw [hsa]
  rintro ev w2 ⟨V2, v2, rfl, he2, hV2, hb2⟩
  have HB2 : Hid (Bodies w2 w1.heap.size V2 (splitOf m bs).2.1 ∧ Below w1.heap.size w1 w2) := ⟨hV2, hb2⟩
  clear hV2 hb2 he2
  generalize (splitOf m bs).2.2 = K2
  go_wp2_with fail
  refine (frm_impl.new m _ hm).mono ?_
  rintro ev w3 ⟨rb, S3, rfl, hm3, hb3, hS3⟩
  have HM3 : Hid (PrAt w3 rb S3 (FSt.fresh m) ∧ Below w2.heap.size w2 w3 ∧ ∀ k, S3 k → w2.heap.size ≤ k) := ⟨hm3, hb3, hS3⟩
  clear hm3 hb3 hS3
  go_wp2_with fail
  refine (awake_any frm_impl w3).mono ?_
  rintro ev w4 ⟨rfl, hb4⟩
  have hm4 : PrAt w4 rb S3 (FSt.fresh m) := HM3.out.1.turned (Turned.ofBelow (S := fun _ => False) hb4) (fun _ _ h => h)
  have B14 : Below w1.heap.size w1 w4 := (HB2.out.2.trans (HM3.out.2.1.mono HB2.out.2.size)).trans (hb4.mono (HB2.out.2.trans (HM3.out.2.1.mono HB2.out.2.size)).size)
  have B24 : Below w2.heap.size w2 w4 := HM3.out.2.1.trans (hb4.mono HM3.out.2.1.size)
  have hc4 : Own w4 (.slice a1 bs.length c1) bs := HO1.out.1.turned (Turned.ofBelow (S := fun _ => False) B14) (fun _ _ h => h)
  have hz12 := HB2.out.2.size
  have hfd := frm_impl.feed hm4 (FSt.Ok.fresh hm) hc4.sl hr (by omega) (fun _ k hk hs => by have := (HO1.out.2.2 k hk).2; have := HM3.out.2.2 k hs; omega)
  have hfeed : (FSt.fresh m).feed bs = (none, { FSt.fresh m with held := bs }) := by
    unfold FSt.feed FSt.fresh
    rw [if_neg (by simp), if_neg (by simp; omega)]
    simp
  rw [hfeed] at hfd
  have hok1 : FSt.Ok { FSt.fresh m with held := bs } := ⟨hm, hl, hr⟩
  generalize hf1 : ({ FSt.fresh m with held := bs } : FSt) = f1 at hfd hok1
  have HF1 : Hid ((FSt.fresh m).feed bs = (none, f1)) := hfeed.trans (by rw [hf1])
  have H4 : Hid (Own w4 (.slice a1 bs.length c1) bs ∧ Below w1.heap.size w1 w4 ∧ Below w2.heap.size w2 w4 ∧ ∀ k, S3 k → w2.heap.size ≤ k) := ⟨hc4, B14, B24, HM3.out.2.2⟩
  clear hb4 hm4 B14 B24 hc4 hfeed hf1
  have hbl : ¬ (16777216 : Int) < (bs.length : Int) := by omega
  go_wp2_with fail
  refine hfd.mono ?_
  rintro ev w5 ⟨v5, S5, rfl, he5, hm5, T5, hS5⟩
  have he5 : v5 = .nilIface := he5
  subst he5
  have hnx := frm_next_own hm5 hok1
  have HS5 : Hid (PrAt w5 rb S5 f1 ∧ Turned S3 w4 w5 ∧ ∀ k, S5 k → S3 k ∨ w4.heap.size ≤ k) := ⟨hm5, T5, hS5⟩
  have hok2 := hok1.next
  clear hm5 T5 hS5 hfd
  go_wp2_with fail
  refine hnx.mono ?_
  rintro ev w6 ⟨V6, v6, S6, rfl, ho6, hk6, hm6, T6, hS6⟩
  have HA : Hid (OwnA w w1 w2 w6 rb S6 f1.next.2.2 (.slice a1 bs.length c1) V2 V6 bs (bodyOf f1.next.2.1) (splitOf m bs).2.1) := by
    obtain ⟨hm5, T5, hS5⟩ := HS5.out
    obtain ⟨hc4, B14, B24, hS3⟩ := H4.out
    obtain ⟨_, T1, hcA⟩ := HO1.out
    have z24 := B24.size
    have z45 := T5.size
    have hS5l : ∀ k, S5 k → w2.heap.size ≤ k := fun k hk => (hS5 k hk).elim (hS3 k) (fun h => by omega)
    have T46 : Turned (fun k => w2.heap.size ≤ k) w4 w6 := (T5.mono (fun k hk => .inl (hS3 k hk))).trans T6 (fun k hk => .inl (hS5l k hk))
    have T26 : Turned (fun k => w2.heap.size ≤ k) w2 w6 := (Turned.ofBelow (S := fun k => w2.heap.size ≤ k) B24).trans T46 (fun _ h => .inl h)
    have hc6 : Own w6 (.slice a1 bs.length c1) bs := hc4.turned T46 (fun k hk h => by have := (hcA k hk).2; have h : w2.heap.size ≤ k := h; omega)
    have B0 : Below w.heap.size w w4 := (T1.below (Nat.le_refl _) (fun _ h => h.elim)).trans (B14.mono T1.size)
    exact ⟨B0.trans (T46.below B0.size (fun k hk => by have hk : w2.heap.size ≤ k := hk; have := T1.size; omega)), hok2, hm6, fun k hk => (hS6 k hk).elim (hS5l k) (fun h => by omega), hc6, hcA, hz12, T1.size, HB2.out.1, T26.mono (fun k hk => .inl (.inr hk)), ho6, fun k hk => ⟨by have := (hk6 k hk).1; omega, (hk6 k hk).2.2⟩⟩
  clear ho6 hk6 hm6 T6 hS6 HS5 H4 HO1 HB2 HM3 hnx
  have hA := HA.out
  have hcC := hA.c.sl.str
  have hcB := (HX.out.turned (Turned.ofBelow (S := fun _ => False) hA.below) (fun _ _ h => h)).str
  clear hA
  go_wp2_with fail
  go_loopw [81] (fun ii wr => ∃ j : Nat, ii = .int .i64 j ∧ j ≤ bs.length ∧ Turned (blk (.slice a1 bs.length c1)) w6 wr ∧ Writes wr (.slice a1 bs.length c1) bs.length) (fun ii _ => bs.length - (intOf ii).toNat)
  case atStart => exact ⟨0, rfl, Nat.zero_le _, Turned.refl _ _, HA.out.c.writes⟩
  case round =>
    obtain ⟨j, rfl, hj, hT, hWr⟩ := hrel
    by_cases hlt : j < bs.length
    · have hlti : (j : Int) < (bs.length : Int) := by omega
      have hj0 : (0 : Int) ≤ (j : Int) := by omega
      have hWr' := hWr
      obtain ⟨a, c, hac, hcell⟩ := hWr'
      obtain ⟨g, off, ha, h1, h2⟩ := hcell j hlt
      cases hac
      subst ha
      obtain ⟨u, hu⟩ := Option.isSome_iff_exists.1 h1
      have HT : Hid (Turned (blk (.slice (some ⟨g, off, none⟩) bs.length c1)) w6 wr ∧ Writes wr (.slice (some ⟨g, off, none⟩) bs.length c1) bs.length) := ⟨hT, hWr⟩
      clear hT hWr hcell h1
      go_wp2
      go_roundw
      case rel => exact ⟨j + 1, by go_num, by omega, HT.out.1.trans (Turned.setCell wr ⟨g, off + j, none⟩ _) (fun k hk => .inl hk.symm), HT.out.2.set hu⟩
      case measure => simp [intOf]; omega
    · have hge : ¬ (j : Int) < (bs.length : Int) := by omega
      have HT : Hid (Turned (blk (.slice a1 bs.length c1)) w6 wr) := hT
      clear hT hWr
      have hxr : Sl wr (.slice ab bs.length cb) bs := by
        have h6 := HX.out.turned (Turned.ofBelow (S := fun _ => False) HA.out.below) (fun _ _ h => h)
        exact h6.turnedN HT.out (fun hne k hk hc => by have := HX.out.lt hne k hk; have := (HA.out.cAt k hc).1; omega)
      have hsp := ref_split m hxr hr hl
      rw [hsa] at hsp
      clear hxr
      go_wp2_with fail
      refine hsp.mono ?_
      rintro ev w8 ⟨V8, v8, rfl, _, hV8, hb8⟩
      have HB8 : Hid (Bodies w8 wr.heap.size V8 (splitOf m bs).2.1 ∧ Below wr.heap.size wr w8) := ⟨hV8, hb8⟩
      clear hV8 hb8 hsp
      generalize (splitOf m bs).2.2 = K8
      go_wp2_with fail
      refine (refNew_ok m hm w8).mono ?_
      rintro ev w9 ⟨g, R9, rfl, hr9, hb9, hR9⟩
      have B89 : Below wr.heap.size wr w9 := HB8.out.2.trans (hb9.mono HB8.out.2.size)
      have B09 : Below w.heap.size w w9 := by
        have h7 : Below w.heap.size w wr := HA.out.below.trans (HT.out.below HA.out.below.size (fun k hk => (HA.out.cAt k hk).1))
        exact h7.trans (B89.mono h7.size)
      have hx9 : Sl w9 (.slice ab bs.length cb) bs := HX.out.turned (Turned.ofBelow (S := fun _ => False) B09) (fun _ _ h => h)
      have hfd9 := ref_feed hr9 (FSt.Ok.fresh hm) hx9 (by omega)
      rw [HF1.out] at hfd9
      have H9 : Hid (Below w.heap.size w w9 ∧ Below w8.heap.size w8 w9 ∧ ∀ k, R9 k → w8.heap.size ≤ k) := ⟨B09, hb9, hR9⟩
      have hRl9 : ∀ k, R9 k → k < w9.heap.size := by obtain ⟨_, _, _, _, h⟩ := hr9; exact h
      have hg9 : R9 g := by obtain ⟨_, _, h, _, _⟩ := hr9; exact h
      have HR9 : Hid ((∀ k, R9 k → k < w9.heap.size) ∧ R9 g) := ⟨hRl9, hg9⟩
      clear hb9 B89 B09 hx9 hR9 hr9 hRl9 hg9
      go_wp2_with fail
      refine hfd9.mono ?_
      rintro ev w10 ⟨v10, rfl, _, hr10, T10⟩
      have hnx10 := ref_next hr10 hok1
      have HT10 : Hid (Turned (fun k => k = g) w9 w10) := T10
      clear hr10 T10 hfd9
      go_wp2_with fail
      refine hnx10.mono ?_
      rintro ev w11 ⟨V11, v11, rfl, _, hs11, hk11, hr11, T11⟩
      have hA := HA.out
      obtain ⟨B09, B89, hR9l⟩ := H9.out
      obtain ⟨hV8, B78⟩ := HB8.out
      have z8 : wr.heap.size ≤ w8.heap.size := B78.size
      have z7 : w6.heap.size ≤ wr.heap.size := HT.out.size
      have z9 : w8.heap.size ≤ w9.heap.size := B89.size
      have z10 := HT10.out.size
      have z11 := T11.size
      have hg8 : w8.heap.size ≤ g := hR9l g HR9.out.2
      have z26 : w2.heap.size ≤ w6.heap.size := hA.turned.size
      have T911 : Turned (fun k => k = g) w9 w11 := HT10.out.trans T11 (fun _ h => .inl h)
      have T811 : Turned (fun k => k = g) w8 w11 := (Turned.ofBelow (S := fun k => k = g) B89).trans T911 (fun _ h => .inl h)
      have T711 : Turned (fun k => w8.heap.size ≤ k) wr w11 := (Turned.ofBelow (S := fun k => w8.heap.size ≤ k) B78).trans T811 (fun k (h : k = g) => .inl (by omega))
      have T611 : Turned (fun k => k < w1.heap.size ∨ w6.heap.size ≤ k) w6 w11 := (HT.out.mono (T := fun k => k < w1.heap.size ∨ w6.heap.size ≤ k) (fun k hk => .inl (.inl (hA.cAt k hk).2))).trans T711 (fun k (h : w8.heap.size ≤ k) => .inl (.inr (by omega)))
      have T211 : Turned (fun k => k < w1.heap.size ∨ w2.heap.size ≤ k) w2 w11 := hA.turned.trans T611 (fun k h => .inl (h.imp id (fun h => by omega)))
      have B011 : Below w.heap.size w w11 := B09.trans (T911.below B09.size (fun k (h : k = g) => by have := hA.below.size; omega))
      have hl11 : Bodies w11 w1.heap.size V2 (splitOf m bs).2.1 := hA.bodies.turned T211 (fun k h1 h2 h3 => by omega)
      have hm11 : Bodies w11 wr.heap.size V8 (splitOf m bs).2.1 := hV8.turned T811 (fun k h1 h2 (h3 : k = g) => by omega)
      have hxb : ∀ k, blk V6 k → ¬ (k < w1.heap.size ∨ w6.heap.size ≤ k) := fun k hk h => by have := (hA.xAt k hk).1; have := hA.xo.blk_lt k hk; have := hA.z1; omega
      have hx11 : Own w11 V6 (bodyOf f1.next.2.1) := hA.xo.turned T611 hxb
      have hmem11 : PrAt w11 rb S6 f1.next.2.2 := hA.mem.turned T611 (fun k hk h => by have := hA.low k hk; have := hA.mem.lt k hk; have := hA.z1; omega)
      have hRl : ∀ k, growF (growF R9 w9 w10) w10 w11 k → w8.heap.size ≤ k := fun k hk => by
        rcases hk with (h | h) | h
        · exact hR9l k h
        · omega
        · omega
      have hsm := same_any hl11 hm11
      have HP : Hid (PrAt w11 rb S6 f1.next.2.2 ∧ RdAt w11 g (growF (growF R9 w9 w10) w10 w11) f1.next.2.2 ∧ (∀ k, S6 k → w.heap.size ≤ k ∧ k < w6.heap.size) ∧ (∀ k, growF (growF R9 w9 w10) w10 w11 k → w6.heap.size ≤ k) ∧ Own w11 V6 (bodyOf f1.next.2.1) ∧ Sl w11 V11 (bodyOf f1.next.2.1) ∧ (∀ k, blk V6 k → w.heap.size ≤ k ∧ k < w6.heap.size ∧ ¬ S6 k) ∧ Below w.heap.size w w11) :=
        ⟨hmem11, hr11, fun k hk => ⟨by have := hA.low k hk; have := hA.z1; have := hA.z0; omega, hA.mem.lt k hk⟩, fun k hk => by have := hRl k hk; omega, hx11, hs11, fun k hk => ⟨by have := (hA.xAt k hk).1; have := hA.z1; have := hA.z0; omega, hA.xo.blk_lt k hk, (hA.xAt k hk).2⟩, B011⟩
      generalize growF (growF R9 w9 w10) w10 w11 = R11 at HP
      generalize hbd : bodyOf f1.next.2.1 = body at HP
      generalize f1.next.2.2 = f2 at HP hok2
      generalize f1.next.2.1.isSome = isx
      have hz06 : w.heap.size ≤ w6.heap.size := hA.below.size
      clear hA B09 B89 hR9l hV8 B78 z8 z7 z9 z10 z11 hg8 z26 T911 T811 T711 T611 T211 B011 hl11 hm11 hxb hx11 hmem11 hRl hs11 hk11 hr11 T11 hnx10 H9 HB8 HR9 HT10 HT HF1 hbd HA
      obtain ⟨ax, cx, Lx, rfl⟩ : ∃ ax cx Lx, V6 = .slice ax Lx cx := ⟨_, _, _, HP.out.2.2.2.2.1.sl.form.choose_spec.choose_spec.1⟩
      obtain ⟨ay, cy, Ly, rfl⟩ : ∃ ay cy Ly, V11 = .slice ay Ly cy := ⟨_, _, _, HP.out.2.2.2.2.2.1.form.choose_spec.choose_spec.1⟩
      go_wp2_with fail
      refine hsm.mono ?_
      rintro ev w12 ⟨rfl, hb12⟩
      have T12 : Turned (fun _ => False) w11 w12 := Turned.ofBelow hb12
      have hcx := (HP.out.2.2.2.2.1.turned T12 (fun _ _ h => h)).sl.str
      have hcy := (HP.out.2.2.2.2.2.1.turned T12 (fun _ _ h => h)).str
      have hLx : Lx = body.length := by obtain ⟨_, _, h, _, _⟩ := HP.out.2.2.2.2.1.sl.form; cases h; rfl
      have HQ : Hid (PrAt w12 rb S6 f2 ∧ RdAt w12 g R11 f2 ∧ (∀ k, S6 k → w.heap.size ≤ k ∧ k < w6.heap.size) ∧ (∀ k, R11 k → w6.heap.size ≤ k) ∧ (∀ k, blk (.slice ax Lx cx) k → w.heap.size ≤ k ∧ k < w6.heap.size ∧ ¬ S6 k) ∧ Below w.heap.size w w12 ∧ Writes w12 (.slice ax Lx cx) Lx) := by
        obtain ⟨h1, h2, h3, h4, h5, _, h7, h8⟩ := HP.out
        have hw := (h5.turned T12 (fun _ _ h => h)).writes
        rw [← hLx] at hw
        exact ⟨h1.turned T12 (fun _ _ h => h), h2.turned T12 (fun _ _ h => h), h3, h4, h7, h8.trans (hb12.mono h8.size), hw⟩
      have hLb : Lx ≤ 9223372036854775807 := by
        obtain ⟨_, _, h, h1, h2⟩ := HP.out.2.2.2.2.1.sl.form
        cases h
        unfold maxLen at h2
        omega
      have hxx : (isx != isx) = false := by cases isx <;> rfl
      have HZ6 : Hid (w.heap.size ≤ w6.heap.size) := hz06
      generalize strOfNums body = tx at hcx hcy
      clear hb12 T12 hsm HP hLx
      go_wp2_with fail
      go_loopw [127] (fun ii wq => ∃ j : Nat, ii = .int .i64 j ∧ j ≤ Lx ∧ Turned (blk (.slice ax Lx cx)) w12 wq ∧ Writes wq (.slice ax Lx cx) Lx) (fun ii _ => Lx - (intOf ii).toNat)
      case atStart => exact ⟨0, rfl, Nat.zero_le _, Turned.refl _ _, HQ.out.2.2.2.2.2.2⟩
      case round =>
        obtain ⟨j, rfl, hj, hT, hWr⟩ := hrel
        by_cases hlt : j < Lx
        · have hlti : (j : Int) < (Lx : Int) := by omega
          have hj0 : (0 : Int) ≤ (j : Int) := by omega
          have hWr' := hWr
          obtain ⟨a, c, hac, hcell⟩ := hWr'
          obtain ⟨gx, off, ha, h1, h2⟩ := hcell j hlt
          cases hac
          subst ha
          obtain ⟨u, hu⟩ := Option.isSome_iff_exists.1 h1
          have HT : Hid (Turned (blk (.slice (some ⟨gx, off, none⟩) Lx cx)) w12 wr ∧ Writes wr (.slice (some ⟨gx, off, none⟩) Lx cx) Lx) := ⟨hT, hWr⟩
          clear hT hWr hcell h1 hcx hcy
          go_wp2
          go_roundw
          case rel => exact ⟨j + 1, by go_num, by omega, HT.out.1.trans (Turned.setCell wr ⟨gx, off + j, none⟩ _) (fun k hk => .inl hk.symm), HT.out.2.set hu⟩
          case measure => simp [intOf]; omega
        · have hge : ¬ (j : Int) < (Lx : Int) := by omega
          have HL : Hid (∃ (S R : Nat → Prop) (f : FSt), PairO w wr rb g S R f) := by
            obtain ⟨h1, h2, h3, h4, h5, h6, _⟩ := HQ.out
            refine ⟨S6, R11, f2, h1.turned hT (fun k hk hb => (h5 k hb).2.2 hk), hok2, h2.turned hT (fun k hk hb => by have := h4 k hk; have := (h5 k hb).2.1; omega), fun k hk hr => by have := (h3 k hk).2; have := h4 k hr; omega, fun k hk => (h3 k hk).1, fun k hk => ?_, h6.trans (hT.below h6.size (fun k hk => (h5 k hk).1))⟩
            have := h4 k hk
            have := HZ6.out
            omega
          clear hT hWr hcx hcy HQ
          go_wp2_with fail
          go_loopw [25] (fun kk wq => ∃ k : Nat, kk = .int .i64 k ∧ k ≤ 3 ∧ ∃ (S R : Nat → Prop) (f : FSt), PairO w wq rb g S R f) (fun kk _ => 3 - (intOf kk).toNat)
          case atStart => exact ⟨0, rfl, by omega, HL.out⟩
          case round =>
            obtain ⟨k, rfl, hk, S, R, f, P⟩ := hrel
            by_cases hk3 : k < 3
            · have hki : (k : Int) < 3 := by omega
              have hnx := frm_next_own P.mem P.ok
              have HPP : Hid (PairO w wr rb g S R f) := P
              clear P
              go_wp2_with fail
              refine hnx.mono ?_
              rintro ev wa ⟨Va, va, Sa, rfl, hoa, hka, hma, Ta, hSa⟩
              have hnr := ref_next (HPP.out.ref.turned Ta (fun q hq hs => HPP.out.apart q hs hq)) HPP.out.ok
              have HMa : Hid (Own wa Va (bodyOf f.next.2.1) ∧ (∀ q, blk Va q → wr.heap.size ≤ q ∧ q < wa.heap.size ∧ ¬ Sa q) ∧ PrAt wa rb Sa f.next.2.2 ∧ Turned S wr wa ∧ ∀ q, Sa q → S q ∨ wr.heap.size ≤ q) := ⟨hoa, hka, hma, Ta, hSa⟩
              clear hoa hka hma Ta hSa hnx
              go_wp2_with fail
              refine hnr.mono ?_
              rintro ev wb ⟨Vb, vb, rfl, _, hsb, hkb, hrb, Tb⟩
              obtain ⟨hoa, hka, hma, Ta, hSa⟩ := HMa.out
              have hgR : R g := by obtain ⟨_, _, h, _, _⟩ := HPP.out.ref; exact h
              have hRl : ∀ q, R q → q < wr.heap.size := by obtain ⟨_, _, _, _, h⟩ := HPP.out.ref; exact h
              have hgSa : ¬ Sa g := fun h => (hSa g h).elim (fun h => HPP.out.apart g h hgR) (fun h => by have := hRl g hgR; omega)
              have hoB : Own wb Va (bodyOf f.next.2.1) := hoa.turned Tb (fun q hq (he : q = g) => by have := (hka q hq).1; have := hRl g hgR; omega)
              have hcx := hoB.sl.str
              have hcy := hsb.str
              have hza := Ta.size
              have HN : Hid (∃ (S R : Nat → Prop) (f : FSt), PairO w wb rb g S R f) := by
                refine ⟨Sa, growF R wa wb, f.next.2.2, hma.turned Tb (fun q hq (he : q = g) => hgSa (he ▸ hq)), HPP.out.ok.next, hrb, fun q hq hr => ?_, fun q hq => (hSa q hq).elim (HPP.out.low q) (fun h => by have := HPP.out.below.size; omega), fun q hq => hq.elim (HPP.out.high q) (fun h => by have := HPP.out.below.size; omega), ?_⟩
                · rcases hr with hr | hr
                  · exact (hSa q hq).elim (fun h => HPP.out.apart q h hr) (fun h => by have := hRl q hr; omega)
                  · have := hma.lt q hq; omega
                · have h1 := HPP.out.below.trans (Ta.below HPP.out.below.size (HPP.out.low))
                  exact h1.trans (Tb.below h1.size (fun q (he : q = g) => he ▸ HPP.out.high g hgR))
              obtain ⟨ax', cx', Lx', rfl⟩ : ∃ ax cx Lx, Va = .slice ax Lx cx := ⟨_, _, _, hoB.sl.form.choose_spec.choose_spec.1⟩
              obtain ⟨ay', cy', Ly', rfl⟩ : ∃ ay cy Ly, Vb = .slice ay Ly cy := ⟨_, _, _, hsb.form.choose_spec.choose_spec.1⟩
              generalize f.next.2.1.isSome = iy
              have hyy : (iy != iy) = false := by cases iy <;> rfl
              generalize strOfNums (bodyOf f.next.2.1) = ty at hcx hcy
              clear hoa hka hma Ta hSa hgR hRl hgSa hoB hsb hkb hrb Tb hnr HMa hza
              go_wp2
              go_roundw
              case rel => exact ⟨k + 1, by go_num, by omega, HN.out⟩
              case measure => simp [intOf]; omega
            · have hki : ¬ (k : Int) < 3 := by omega
              have HB : Hid (Below w.heap.size w wr) := P.below
              clear P
              go_wp2
              go_ret
              exact ⟨rfl, HB.out⟩

theorem own_any (n : Int) (b : Value) (bs : List Int) (w : World) (hx : Sl w b bs) (hr : Rng bs) (hl : bs.length ≤ 16777216) :
    Calls Try.prog 3 #[.int .i64 n, b] w fun ev w' => ev = .returned (.bool true) ∧ Below w.heap.size w w' := by
  by_cases hw : n ≠ 2 ∧ n ≠ 4
  · exact own_width n b bs w hw hx hr hl
  · obtain ⟨m, rfl⟩ : ∃ m : Nat, n = (m : Int) := ⟨n.toNat, by omega⟩
    exact own_ok m (by omega) b bs w hx hr hl
end Go.Proofs.Ytpbakejocjmkeab
