/-
  The program's Split.
-/
import Derived.Test.YtpbakejocjmkeaaDoorFrm3
import Derived.Deep.DeepCutAuto
namespace Go.Proofs.YtpbakejocjmkeaaDoor
open Go.RowKit

theorem lenAt_drop {n a : Nat} {bs : List Int} (h : a ≤ bs.length) : lenAt n (bs.drop a) 0 = lenAt n bs a := by
  unfold lenAt
  by_cases hl : bs.length < a + n
  · rw [if_pos hl, if_pos (by simp; omega)]
  · rw [if_neg hl, if_neg (by simp; omega), List.drop_zero]

set_option maxRecDepth 100000 in
theorem frm_split_arg (n : Int) (h2 : n ≠ 2) (h4 : n ≠ 4) (b : Value) (w : World) :
    Calls Tryd.prog 11 #[.int .i64 n, b] w fun e w' => ∃ v, e = .returned (.tuple #[.slice none 0 0, .int .i64 0, v]) ∧ FaultAt w.heap.size w' v (0, 1) ∧ Below w.heap.size w w' := by
  go_enter Tryd.func11, Tryd.ntmps11
  go_wp2_with fail
  refine (frm_greatest_no n h2 h4 w).mono ?_
  rintro e w' ⟨rfl, rfl⟩
  go_wp2_with (go_at_call 25; refine (frm_refuse _ _ _).mono ?_; rintro e w1 ⟨v, rfl, hf, hb⟩)
  go_ret3
  exact ⟨v, rfl, hf, hb⟩

set_option maxRecDepth 100000 in
set_option maxHeartbeats 3200000 in
theorem frm_split_ok (n : Nat) (hn : n = 2 ∨ n = 4) {b : Value} {bs : List Int} {w : World} (hx : Sl w b bs) (hr : Rng bs) (hl : bs.length ≤ 16777216) :
    Calls Tryd.prog 11 #[.int .i64 n, b] w fun e w' => ∃ V v, e = .returned (.tuple #[V, .int .i64 (splitOf n bs).2.2, v]) ∧ ErrsF w.heap.size w' v (splitOf n bs).1 ∧ Bodies w' w.heap.size V (splitOf n bs).2.1 ∧ Below w.heap.size w w' := by
  obtain ⟨ab, cb, hf, hc, hm⟩ := hx.form
  subst hf
  have hg := frm_greatest n hn w
  have hn1 : 1 ≤ n := by omega
  have hn4 : n ≤ 4 := by omega
  have HX : Hid (Sl w (.slice ab bs.length cb) bs) := hx
  have HS : Hid (∀ (k a : Nat) acc, splitFrom n bs (k + 1) a acc = if most n < lenAt n bs a then (some ((a : Int), (120 : Int)), [], 0) else if lenAt n bs a < 0 ∨ (bs.length : Int) - a - n < lenAt n bs a then (none, acc, a) else splitFrom n bs k (a + n + (lenAt n bs a).toNat) (acc ++ [(bs.drop (a + n)).take (lenAt n bs a).toNat])) := fun k a acc => rfl
  clear hx
  go_enter Tryd.func11, Tryd.ntmps11
  go_wp2_with fail
  refine hg.mono ?_
  rintro e w' ⟨rfl, rfl⟩
  go_wp2_with fail
  go_loopw [9, 10] (fun o i wr => ∃ (a k : Nat) (acc : List (List Int)) (vs : List Value), a ≤ bs.length ∧ i = .int .i64 a ∧ bs.length < a + k ∧ splitFrom n bs k a acc = splitOf n bs ∧ acc.length ≤ a ∧ Gather wr w.heap.size o vs acc ∧ Below w.heap.size w wr) (fun _ i _ => bs.length - (intOf i).toNat)
  case atStart => exact ⟨0, bs.length + 1, [], [], Nat.zero_le _, rfl, by omega, rfl, Nat.zero_le _, Gather.nil _ _, Below.refl _ _⟩
  case round =>
    obtain ⟨a, k, acc, vs, ha, rfl, hk, hsp, hacc, hG, hB⟩ := hrel
    obtain ⟨k', rfl⟩ : ∃ k', k = k' + 1 := ⟨k - 1, by omega⟩
    rw [HS.out] at hsp
    have hxr : Sl wr (.slice ab bs.length cb) bs := HX.out.turned (Turned.ofBelow (S := fun _ => False) hB) (fun _ _ h => h)
    obtain ⟨aD, haD⟩ : ∃ aD, aD = (if cb = a then ab else ab.map (·.add a)) := ⟨_, rfl⟩
    have hct := fun W : World => run_cutFrom Tryd.bytes (a := ab) (len := bs.length) (cap := cb) (l := a) ha W
    have hD : Sl wr (.slice aD (bs.length - a) (cb - a)) (bs.drop a) := by rw [haD]; exact hxr.drop ha
    rw [← haD] at hct
    clear haD
    have hdl : (bs.drop a).length = bs.length - a := by simp
    have hld := lenAt_drop (n := n) ha
    by_cases hbig : most n < lenAt n bs a
    · rw [if_pos hbig] at hsp
      have hcut := frm_cut_bad hD (hr.drop a) hn a (by rw [hld]; exact hbig)
      have HSP := Hid.mk6 hsp
      have HB : Hid (Below w.heap.size w wr) := hB
      clear hG hsp hxr hB hD hbig hld
      go_wp2_with fail
      refine hcut.mono ?_
      rintro e w1 ⟨v, rfl, hf, hb⟩
      have HF : Hid (FaultAt wr.heap.size w1 v (a, 120)) := hf
      obtain ⟨pb, hpb, rfl, _⟩ := hf
      go_wp2
      go_ret3
      rw [← HSP.out]
      refine ⟨_, _, rfl, ?_, ⟨[], .inl ⟨rfl, rfl⟩, rfl, fun _ hk => hk.elim, fun i h => absurd h (Nat.not_lt_zero i)⟩, HB.out.trans (hb.mono HB.out.size)⟩
      obtain ⟨lb, h0, h1⟩ := HF.out
      exact ⟨lb, Nat.le_trans HB.out.size h0, h1⟩
    rw [if_neg hbig] at hsp
    by_cases hstop : lenAt n bs a < 0 ∨ (bs.length : Int) - a - n < lenAt n bs a
    · rw [if_pos hstop] at hsp
      have hcut := frm_cut_wait hD (hr.drop a) hn a (by omega) (by rw [hld]; exact hbig) (by rw [hld, hdl]; omega)
      have HSP := Hid.mk6 hsp
      have HB : Hid (Below w.heap.size w wr) := hB
      have HG : Hid (Gather wr w.heap.size u9 vs acc) := hG
      clear hG hsp hxr hB hD hbig hld hstop
      go_wp2_with fail
      refine hcut.mono ?_
      rintro e w' ⟨rfl, rfl⟩
      go_wp2
      go_ret3
      rw [← HSP.out]
      exact ⟨_, _, rfl, rfl, HG.out.bodies, HB.out⟩
    · rw [if_neg hstop] at hsp
      obtain ⟨m, hmL⟩ : ∃ m : Nat, lenAt n bs a = (m : Int) := ⟨(lenAt n bs a).toNat, by omega⟩
      have hcut := frm_cut_ok (m := m) hD (hr.drop a) hn a (by omega) (by rw [hld]; exact hbig) (by rw [hld]; exact hmL) (by omega)
      rw [hmL] at hbig hstop hsp
      rw [Int.toNat_natCast] at hsp
      have hfits : a + n + m ≤ bs.length := by omega
      rw [List.drop_drop] at hcut
      have HB : Hid (Below w.heap.size w wr) := hB
      have HG : Hid (Gather wr w.heap.size u9 vs acc) := hG
      have HSP : Hid (splitFrom n bs k' (a + n + m) (acc ++ [(bs.drop (a + n)).take m]) = splitOf n bs) := hsp
      have hml : ((bs.drop (a + n)).take m).length = m := by simp; omega
      have hcell : ∀ (W : World) (t : TypeId) (x : Value), (W.alloc (.cells #[x] t)).cell? ⟨W.heap.size, 0, none⟩ = some x := fun W t x => by simp
      have hvl : vs.length ≤ 2199023255552 := by have := hG.len; omega
      clear hsp hxr hD hstop hmL hB hG hld hbig
      go_wp2_with fail
      refine hcut.mono ?_
      rintro e w' ⟨aF, rfl, hF, hFb, rfl⟩
      have hcl := clone_any hF (by rw [hml]; omega)
      clear hF hFb hcut
      go_wp2_with fail
      refine hcl.mono ?_
      rintro e w1 ⟨v1, rfl, ho1, T1, hk1⟩
      have HG2 := fun o : Obj => (HG.out.turned T1).turned (alloc0f w1 o)
      obtain ⟨a1, c1, hv1f, _, _⟩ := ho1.sl.form
      rw [hml] at hv1f
      subst hv1f
      have hcx := fun t : TypeId => hcell w1 t (.slice a1 m c1)
      have HO1 : Hid (Own w1 (.slice a1 m c1) ((bs.drop (a + n)).take m) ∧ Turned (fun _ => False) wr w1 ∧ ∀ k, blk (.slice a1 m c1) k → wr.heap.size ≤ k) := ⟨ho1, T1, hk1⟩
      clear ho1 T1 hk1 hcl
      go_wp2_with (at_builtin; refine wpList_append_row (by rfl) (.tmp 39) (.tmp 42) (by rfl) Tryd.rows (by rfl) (by rfl) (HG2 _).own (hcx _) rfl hvl ?_; intro v2 w2 ho2 ht2 hb2)
      obtain ⟨ho1, T1, hk1⟩ := HO1.out
      have z1 := T1.size
      have zB := HB.out.size
      have HN := (HG2 _).snoc (l := (bs.drop (a + n)).take m) (by simp; omega) (ho1.sl.turned (alloc0f w1 _) (fun _ _ h => h)) (fun k hk => ⟨by have := hk1 k hk; omega, by have := ho1.blk_lt k hk; simp; omega, fun hb => by have := hk1 k hk; have := HG.out.own.blk_lt k hb; omega⟩) ho2 ht2 hb2
      have BN : Below w.heap.size w w2 := ((HB.out.trans (T1.below zB (fun _ h => h.elim))).alloc (by omega) _).trans (ht2.below (by simp; omega) (fun k hk => HG.out.big k hk))
      refine ⟨⟨a + n + m, k', _, _, hfits, by simp; omega, by omega, HSP.out, by simp; omega, HN, BN⟩, ?_⟩
      simp [intOf]
      omega

theorem frm_split (n : Int) {b : Value} {bs : List Int} {w : World} (hx : Sl w b bs) (hr : Rng bs) (hl : bs.length ≤ 16777216) :
    Calls Tryd.prog 11 #[.int .i64 n, b] w fun e w' => ∃ V v, e = .returned (.tuple #[V, .int .i64 (splitAny n bs).2.2, v]) ∧ ErrsF w.heap.size w' v (splitAny n bs).1 ∧ Bodies w' w.heap.size V (splitAny n bs).2.1 ∧ Below w.heap.size w w' := by
  unfold splitAny
  by_cases h : n ≠ 2 ∧ n ≠ 4
  · rw [if_pos h]
    exact (frm_split_arg n h.1 h.2 b w).mono fun e w' ⟨v, h1, h2, h3⟩ => ⟨_, v, h1, h2, ⟨[], .inl ⟨rfl, rfl⟩, rfl, fun _ hk => hk.elim, fun i h => absurd h (Nat.not_lt_zero i)⟩, h3⟩
  · rw [if_neg h]
    have hn : n = 2 ∨ n = 4 := by omega
    rcases hn with rfl | rfl
    · exact frm_split_ok 2 (.inl rfl) hx hr hl
    · exact frm_split_ok 4 (.inr rfl) hx hr hl
end Go.Proofs.YtpbakejocjmkeaaDoor
