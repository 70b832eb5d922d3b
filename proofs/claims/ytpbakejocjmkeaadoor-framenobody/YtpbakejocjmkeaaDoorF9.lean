/-
  The document's Split (heddleref06).
-/
import Derived.Test.YtpbakejocjmkeaaDoorF7
import Derived.Test.YtpbakejocjmkeaaDoorCells
import Derived.Deep.DeepCutAuto
namespace Go.Proofs.YtpbakejocjmkeaaDoor
open Go.RowKit



/-- The slice v holds slices that read as ls; all of them lie from B on. -/
def Bodies (w : World) (B : Nat) (v : Value) (ls : List (List Int)) : Prop :=
  ∃ vs, SlV w v vs ∧ vs.length = ls.length ∧ (∀ k, blk v k → B ≤ k ∧ k < w.heap.size) ∧ ∀ i (h1 : i < vs.length) (h2 : i < ls.length), Sl w vs[i] ls[i] ∧ ∀ k, blk vs[i] k → B ≤ k
/-- .. and may be appended to. -/
structure Gather (w : World) (B : Nat) (v : Value) (vs : List Value) (ls : List (List Int)) : Prop where
  own : OwnV w v vs
  len : vs.length = ls.length
  each : ∀ i (h1 : i < vs.length) (h2 : i < ls.length), Sl w vs[i] ls[i]
  off : ∀ i (h1 : i < vs.length), ∀ k, blk vs[i] k → B ≤ k ∧ k < w.heap.size ∧ ¬ blk v k
  big : ∀ k, blk v k → B ≤ k

theorem Gather.nil (w : World) (B : Nat) : Gather w B (.slice none 0 0) [] [] := ⟨.inl ⟨rfl, rfl⟩, rfl, fun i h => absurd h (Nat.not_lt_zero i), fun i h => absurd h (Nat.not_lt_zero i), fun _ h => h.elim⟩
theorem Gather.bodies {w : World} {B : Nat} {v : Value} {vs : List Value} {ls : List (List Int)} (h : Gather w B v vs ls) : Bodies w B v ls := ⟨vs, h.own.sl, h.len, fun k hk => ⟨h.big k hk, h.own.blk_lt k hk⟩, fun i h1 h2 => ⟨h.each i h1 h2, fun k hk => (h.off i h1 k hk).1⟩⟩
theorem Gather.turned {w w' : World} {B : Nat} {v : Value} {vs : List Value} {ls : List (List Int)} (h : Gather w B v vs ls) (T : Turned (fun _ => False) w w') : Gather w' B v vs ls :=
  ⟨h.own.turned T (fun _ _ h => h), h.len, fun i h1 h2 => (h.each i h1 h2).turned T (fun _ _ h => h), fun i h1 k hk => ⟨(h.off i h1 k hk).1, Nat.lt_of_lt_of_le (h.off i h1 k hk).2.1 T.size, (h.off i h1 k hk).2.2⟩, h.big⟩
/-- One more. -/
theorem Gather.snoc {w w1 : World} {B : Nat} {v v' x : Value} {vs : List Value} {ls : List (List Int)} {l : List Int} (h : Gather w B v vs ls) (hB : B ≤ w.heap.size) (hx : Sl w x l) (hxo : ∀ k, blk x k → B ≤ k ∧ k < w.heap.size ∧ ¬ blk v k)
    (ho : OwnV w1 v' (vs ++ [x])) (ht : Turned (blk v) w w1) (hv : ∀ k, blk v' k → blk v k ∨ k = w.heap.size) : Gather w1 B v' (vs ++ [x]) (ls ++ [l]) := by
  have hz := ht.size
  refine ⟨ho, by simp [h.len], fun i h1 h2 => ?_, fun i h1 k hk => ?_, fun k hk => (hv k hk).elim (h.big k) (fun e => by omega)⟩
  · by_cases hi : i < vs.length
    · rw [List.getElem_append_left hi, List.getElem_append_left (by rw [← h.len]; exact hi)]
      exact (h.each i hi (by rw [← h.len]; exact hi)).turned ht (fun k hk => (h.off i hi k hk).2.2)
    · have e1 : i = vs.length := by simp at h1; omega
      have e2 : i = ls.length := by rw [← h.len]; exact e1
      rw [List.getElem_append_right (by omega), List.getElem_append_right (by omega)]
      simp only [e1, h.len, Nat.sub_self, List.getElem_cons_zero]
      exact hx.turned ht (fun k hk => (hxo k hk).2.2)
  · have key : B ≤ k ∧ k < w.heap.size ∧ ¬ blk v k := by
      by_cases hi : i < vs.length
      · rw [List.getElem_append_left hi] at hk
        exact h.off i hi k hk
      · rw [List.getElem_append_right (by omega)] at hk
        have e1 : i - vs.length = 0 := by simp at h1; omega
        simp only [e1, List.getElem_cons_zero] at hk
        exact hxo k hk
    exact ⟨key.1, by omega, fun hb => (hv k hb).elim key.2.2 (fun e => by omega)⟩

theorem Hid.mk6 {p : Prop} (h : p) : Hid p := h
theorem Tryd.rows : RowTypes Tryd.prog 33 22 := by
  refine ⟨Tryd.underlying33, ?_⟩
  have h : (Tryd.prog.info? 22).map (fun i => (i.zero, i.size, i.bytes)) = some (some (.slice none 0 0), 1, 24) := by kernel_rfl
  obtain ⟨i, hi, h0, h1, h2⟩ := info_parts h
  exact ⟨i, hi, h0, h1, h2⟩

set_option maxRecDepth 100000 in
theorem refSplit_arg (n : Int) (h2 : n ≠ 2) (h4 : n ≠ 4) (b : Value) (w : World) :
    Calls Tryd.prog 12 #[.int .i64 n, b] w fun e w' => ∃ v, e = .returned (.tuple #[.slice none 0 0, .int .i64 0, v]) ∧ LinksF w.heap.size w' v (some (0, 1)) ∧ Below w.heap.size w w' := by
  have hm : most n = -1 := by unfold most; rw [if_neg h2, if_neg h4]
  go_enter Tryd.func12, Tryd.ntmps12
  go_wp2_with fail
  refine (greatest_any n w).mono ?_
  rintro e w' ⟨rfl, rfl⟩
  rw [hm]
  go_wp2_with (go_at_call 27; refine (no_any _ _ _).mono ?_; rintro e w1 ⟨v, rfl, hf, hb⟩)
  go_ret3
  exact ⟨v, rfl, hf, hb⟩

set_option maxRecDepth 100000 in
set_option maxHeartbeats 3200000 in
theorem refSplit_ok (n : Nat) (hn : n = 2 ∨ n = 4) {b : Value} {bs : List Int} {w : World} (hx : Sl w b bs) (hr : Rng bs) (hl : bs.length ≤ 16777216) :
    Calls Tryd.prog 12 #[.int .i64 n, b] w fun e w' => ∃ V v, e = .returned (.tuple #[V, .int .i64 (splitOf n bs).2.2, v]) ∧ LinksF w.heap.size w' v (splitOf n bs).1 ∧ Bodies w' w.heap.size V (splitOf n bs).2.1 ∧ Below w.heap.size w w' := by
  obtain ⟨ab, cb, hf, hc, hm⟩ := hx.form
  subst hf
  have hm0 : ¬ most n < 0 := by rcases hn with rfl | rfl <;> decide
  have hg := greatest_any n w
  have hn1 : 1 ≤ n := by omega
  have hn4 : n ≤ 4 := by omega
  have HX : Hid (Sl w (.slice ab bs.length cb) bs) := hx
  have HLn : Hid (∀ (W : World) (a : Nat), Sl W (.slice ab bs.length cb) bs → a ≤ bs.length → Calls Tryd.prog 32 #[.int .i64 n, .slice ab bs.length cb, .int .i64 a] W fun e w' => e = .returned (.int .i64 (lenAt n bs a)) ∧ W = w') := fun W a h ha => length_any h hr hn a ha (by omega)
  have HS : Hid (∀ (k a : Nat) acc, splitFrom n bs (k + 1) a acc = if most n < lenAt n bs a then (some ((a : Int), (120 : Int)), [], 0) else if lenAt n bs a < 0 ∨ (bs.length : Int) - a - n < lenAt n bs a then (none, acc, a) else splitFrom n bs k (a + n + (lenAt n bs a).toNat) (acc ++ [(bs.drop (a + n)).take (lenAt n bs a).toNat])) := fun k a acc => rfl
  clear hx
  go_enter Tryd.func12, Tryd.ntmps12
  go_wp2_with fail
  refine hg.mono ?_
  rintro e w' ⟨rfl, rfl⟩
  go_wp2_with fail
  go_loopw [8, 9] (fun o i wr => ∃ (a k : Nat) (acc : List (List Int)) (vs : List Value), a ≤ bs.length ∧ i = .int .i64 a ∧ bs.length < a + k ∧ splitFrom n bs k a acc = splitOf n bs ∧ acc.length ≤ a ∧ Gather wr w.heap.size o vs acc ∧ Below w.heap.size w wr) (fun _ i _ => bs.length - (intOf i).toNat)
  case atStart => exact ⟨0, bs.length + 1, [], [], Nat.zero_le _, rfl, by omega, rfl, Nat.zero_le _, Gather.nil _ _, Below.refl _ _⟩
  case round =>
    obtain ⟨a, k, acc, vs, ha, rfl, hk, hsp, hacc, hG, hB⟩ := hrel
    obtain ⟨k', rfl⟩ : ∃ k', k = k' + 1 := ⟨k - 1, by omega⟩
    rw [HS.out] at hsp
    have hxr : Sl wr (.slice ab bs.length cb) bs := HX.out.turned (Turned.ofBelow (S := fun _ => False) hB) (fun _ _ h => h)
    have hlen := HLn.out wr a hxr ha
    by_cases hbig : most n < lenAt n bs a
    · rw [if_pos hbig] at hsp
      generalize lenAt n bs a = L at hlen hbig
      have HSP := Hid.mk6 hsp
      have HB : Hid (Below w.heap.size w wr) := hB
      clear hG hsp hxr hB
      go_wp2_with fail
      refine hlen.mono ?_
      rintro e w' ⟨rfl, rfl⟩
      go_wp2_with fail
      refine (no_any _ _ _).mono ?_
      rintro e w1 ⟨v, rfl, hf, hb⟩
      go_wp2
      go_ret3
      rw [← HSP.out]
      refine ⟨_, v, rfl, ?_, ⟨[], .inl ⟨rfl, rfl⟩, rfl, fun _ hk => hk.elim, fun i h => absurd h (Nat.not_lt_zero i)⟩, HB.out.trans (hb.mono HB.out.size)⟩
      obtain ⟨lb, h0, h1⟩ := hf
      exact ⟨lb, Nat.le_trans HB.out.size h0, h1⟩
    rw [if_neg hbig] at hsp
    by_cases hstop : lenAt n bs a < 0 ∨ (bs.length : Int) - a - n < lenAt n bs a
    · rw [if_pos hstop] at hsp
      generalize lenAt n bs a = L at hlen hbig hstop
      have HSP := Hid.mk6 hsp
      have HB : Hid (Below w.heap.size w wr) := hB
      have HG : Hid (Gather wr w.heap.size u8 vs acc) := hG
      clear hG hsp hxr hB
      by_cases h0 : L < 0
      · clear hstop
        go_wp2_with fail
        refine hlen.mono ?_
        rintro e w' ⟨rfl, rfl⟩
        go_wp2
        go_ret3
        rw [← HSP.out]
        exact ⟨_, _, rfl, rfl, HG.out.bodies, HB.out⟩
      · have h1 : (bs.length : Int) - a - n < L := hstop.resolve_left h0
        clear hstop
        go_wp2_with fail
        refine hlen.mono ?_
        rintro e w' ⟨rfl, rfl⟩
        go_wp2
        go_ret3
        rw [← HSP.out]
        exact ⟨_, _, rfl, rfl, HG.out.bodies, HB.out⟩
    · rw [if_neg hstop] at hsp
      obtain ⟨m, hmL⟩ : ∃ m : Nat, lenAt n bs a = (m : Int) := ⟨(lenAt n bs a).toNat, by omega⟩
      rw [hmL] at hlen hbig hstop hsp
      rw [Int.toNat_natCast] at hsp
      have h0 : ¬ (m : Int) < 0 := by omega
      have h1 : ¬ (bs.length : Int) - a - n < (m : Int) := fun h => hstop (.inr h)
      have hfits : a + n + m ≤ bs.length := by omega
      obtain ⟨aF, haF⟩ : ∃ aF, aF = (if cb = a + n then ab else ab.map (·.add (a + n))) := ⟨_, rfl⟩
      have hc2 := fun W : World => run_cut2 Tryd.bytes (a := ab) (len := bs.length) (cap := cb) (l := a + n) (n := m) (by omega) W
      have hF : Sl wr (.slice aF m (cb - (a + n))) ((bs.drop (a + n)).take m) := by
        rw [haF]
        have h1 := hxr.drop (n := a + n) (by omega)
        have h2 : (bs.drop (a + n)).length = bs.length - (a + n) := by simp
        rw [← h2] at h1
        exact h1.take (by rw [h2]; omega)
      rw [← haF] at hc2
      simp only [Int.natCast_add] at hc2
      have hFa := fun t : TypeId => hF.turned (alloc0f wr (.cells #[] t)) (fun _ _ h => h)
      have ho0 := fun t : TypeId => Own.empty wr t _ rfl
      have HB : Hid (Below w.heap.size w wr) := hB
      have HG : Hid (Gather wr w.heap.size u8 vs acc) := hG
      have HSP : Hid (splitFrom n bs k' (a + n + m) (acc ++ [(bs.drop (a + n)).take m]) = splitOf n bs) := hsp
      have hml : ((bs.drop (a + n)).take m).length = m := by simp; omega
      have hcell : ∀ (W : World) (t : TypeId) (x : Value), (W.alloc (.cells #[x] t)).cell? ⟨W.heap.size, 0, none⟩ = some x := fun W t x => by simp
      have hvl : vs.length ≤ 2199023255552 := by have := hG.len; omega
      clear hsp hxr hF haF hstop hmL hB hG
      go_wp2_with fail
      refine hlen.mono ?_
      rintro e w' ⟨rfl, rfl⟩
      go_wp2_with (first
        | (at_builtin; refine wpList_append_bytes (by rfl) (.tmp 40) (.tmp 50) (by rfl) Tryd.bytes (by rfl) (by rfl) (ho0 _) (hFa _) (by simp; omega) ?_; intro v1 w1 ho1 ht1 hb1; have T1 : Turned (fun _ => False) wr w1 := (alloc0f wr _).trans ht1 (fun _ hk => .inr (Nat.le_of_eq hk)); have hk1 : ∀ k, blk v1 k → wr.heap.size ≤ k := fun k hk => (hb1 k hk).elim (fun h => Nat.le_of_eq h) (fun h => by simp at h; omega); simp only [List.nil_append] at ho1; have HG2 := fun o : Obj => (HG.out.turned T1).turned (alloc0f w1 o); obtain ⟨a1, c1, hv1f, _, _⟩ := ho1.sl.form; rw [hml] at hv1f; subst hv1f; have hcx := fun t : TypeId => hcell w1 t (.slice a1 m c1); clear ht1 hb1)
        | (at_builtin; refine wpList_append_row (by rfl) (.tmp 39) (.tmp 52) (by rfl) Tryd.rows (by rfl) (by rfl) (HG2 _).own (hcx _) rfl hvl ?_; intro v2 w2 ho2 ht2 hb2))
      have z1 := T1.size
      have zB := HB.out.size
      have HN := (HG2 _).snoc (l := (bs.drop (a + n)).take m) (by simp; omega) (ho1.sl.turned (alloc0f w1 _) (fun _ _ h => h)) (fun k hk => ⟨by have := hk1 k hk; omega, by have := ho1.blk_lt k hk; simp; omega, fun hb => by have := hk1 k hk; have := HG.out.own.blk_lt k hb; omega⟩) ho2 ht2 hb2
      have BN : Below w.heap.size w w2 := ((HB.out.trans (T1.below zB (fun _ h => h.elim))).alloc (by omega) _).trans (ht2.below (by simp; omega) (fun k hk => HG.out.big k hk))
      refine ⟨⟨a + n + m, k', _, _, hfits, by simp, by omega, HSP.out, by simp; omega, HN, BN⟩, ?_⟩
      simp [intOf]
      omega

theorem ref_split (n : Int) {b : Value} {bs : List Int} {w : World} (hx : Sl w b bs) (hr : Rng bs) (hl : bs.length ≤ 16777216) :
    Calls Tryd.prog 12 #[.int .i64 n, b] w fun e w' => ∃ V v, e = .returned (.tuple #[V, .int .i64 (splitAny n bs).2.2, v]) ∧ LinksF w.heap.size w' v (splitAny n bs).1 ∧ Bodies w' w.heap.size V (splitAny n bs).2.1 ∧ Below w.heap.size w w' := by
  unfold splitAny
  by_cases h : n ≠ 2 ∧ n ≠ 4
  · rw [if_pos h]
    exact (refSplit_arg n h.1 h.2 b w).mono fun e w' ⟨v, h1, h2, h3⟩ => ⟨_, v, h1, h2, ⟨[], .inl ⟨rfl, rfl⟩, rfl, fun _ hk => hk.elim, fun i h => absurd h (Nat.not_lt_zero i)⟩, h3⟩
  · rw [if_neg h]
    have hn : n = 2 ∨ n = 4 := by omega
    rcases hn with rfl | rfl
    · exact refSplit_ok 2 (.inl rfl) hx hr hl
    · exact refSplit_ok 4 (.inr rfl) hx hr hl
end Go.Proofs.YtpbakejocjmkeaaDoor
