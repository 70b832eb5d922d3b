/-
  The program's reader: told.
-/
import Derived.Test.YtpbakejocjmkeaaDoorFrm7
namespace Go.Proofs.YtpbakejocjmkeaaDoor
open Go.RowKit

/-- What told makes of the numbers. -/
def toldW (w : World) (rb : Nat) (f : FSt) (m K : Nat) : World := ((w.setCell ⟨rb, 2, none⟩ (.int .i64 (K : Int))).setCell ⟨rb, 5, none⟩ (.int .i64 (wrap64 (f.bytes + ((f.width : Int) + (m : Int)))))).setCell ⟨rb, 3, none⟩ (.int .i64 (wrap64 (f.frames + 1)))
def toldT (w : World) (rb : Nat) (f : FSt) (m K : Nat) (tick : Bool) : World := if tick = true then (toldW w rb f m K).setCell ⟨rb, 4, none⟩ (.int .i64 (wrap64 (f.ticks + 1))) else toldW w rb f m K
theorem told_turned (w : World) (rb : Nat) (f : FSt) (m K : Nat) (tick : Bool) : Turned (fun k => k = rb) w (toldT w rb f m K tick) := by
  have T := ((Turned.setCell w ⟨rb, 2, none⟩ (.int .i64 (K : Int))).trans (Turned.setCell _ ⟨rb, 5, none⟩ (.int .i64 (wrap64 (f.bytes + ((f.width : Int) + (m : Int)))))) (fun _ h => .inl h)).trans (Turned.setCell _ ⟨rb, 3, none⟩ (.int .i64 (wrap64 (f.frames + 1)))) (fun _ h => .inl h)
  unfold toldT
  cases tick with
  | false => rw [if_neg (by decide)]; exact T
  | true => rw [if_pos rfl]; exact T.trans (Turned.setCell _ ⟨rb, 4, none⟩ _) (fun _ h => .inl h)
theorem told_block {w : World} {rb : Nat} {f : FSt} {B : Value} {m K : Nat} (h : Block w rb 8 (prCell rb f B)) (hK : f.held.length = f.width + m + K) (tick : Bool) : Block (toldT w rb f m K tick) rb 8 (prCell rb (f.past m tick) B) := by
  have e2 : (f.held.drop (f.width + m)).length = K := by simp; omega
  have b0 : Block (toldW w rb f m K) rb 8 (prCell rb (f.past m false) B) := by
    refine (((h.set 2 (.int .i64 (K : Int))).set 5 (.int .i64 (wrap64 (f.bytes + ((f.width : Int) + (m : Int)))))).set 3 (.int .i64 (wrap64 (f.frames + 1)))).congr (forall8 rfl rfl ?_ rfl rfl ?_ rfl rfl)
    · show _ = Value.int .i64 ((f.held.drop (f.width + m)).length : Int)
      rw [e2]; rfl
    · show _ = Value.int .i64 (wrap64 (f.bytes + ((f.width + m : Nat) : Int)))
      rw [Int.natCast_add]; rfl
  unfold toldT
  cases tick with
  | false => rw [if_neg (by decide)]; exact b0
  | true => rw [if_pos rfl]; exact (b0.set 4 (.int .i64 (wrap64 (f.ticks + 1)))).congr (forall8 rfl rfl rfl rfl rfl rfl rfl rfl)
theorem past_dead (f : FSt) (m : Nat) (t : Bool) : (f.past m t).dead = f.dead := rfl

set_option maxRecDepth 100000 in
set_option maxHeartbeats 3200000 in
theorem frm_told {w : World} {rb m : Nat} {f : FSt} {B : Value} (h : PrMem w rb f B) (hd : f.dead = false) (hok : f.Ok) (hm : f.width + m ≤ f.held.length) :
    Calls Tryd.prog 36 #[.pointer (some ⟨rb, 0, none⟩), .int .i64 m] w fun e w' => e = .returned (.tuple #[]) ∧ ∃ B', PrMem w' rb (f.past m (decide (f.width = 4 ∧ m = 0))) B' ∧ Turned (fun k => k = rb) w w' ∧ ∀ k, blk B' k → blk B k ∨ w.heap.size ≤ k := by
  obtain ⟨pre, hpl, hown⟩ := h.own hd
  obtain ⟨aB, cB, hfB, hcB, hmB⟩ := hown.sl.form
  obtain ⟨K, hK⟩ : ∃ K, f.held.length = f.width + m + K := ⟨f.held.length - (f.width + m), by omega⟩
  have hh := hok.held
  have hw4 : f.width ≤ 4 := by rcases hok.width with h | h <;> omega
  obtain ⟨p, hp⟩ : ∃ p, p = pre.length + (f.width + m) := ⟨_, rfl⟩
  have hLL : (pre ++ f.held).length = p + K := by simp; omega
  rw [hLL] at hfB hcB
  subst hfB
  obtain ⟨k1, _⟩ := h.cells 1 (by omega)
  obtain ⟨k2, f2⟩ := h.cells 2 (by omega)
  obtain ⟨k3, f3⟩ := h.cells 3 (by omega)
  obtain ⟨k4, f4⟩ := h.cells 4 (by omega)
  obtain ⟨k5, f5⟩ := h.cells 5 (by omega)
  obtain ⟨k7, f7⟩ := h.cells 7 (by omega)
  simp only [prCell] at k1 k2 k3 k4 k5 k7
  have hgl : rb < w.heap.size := World.block_lt_of_cell? w _ k1
  have eH : (f.held.length : Int) - ((f.width : Int) + (m : Int)) = (K : Int) := by omega
  have eG : ((p + K : Nat) : Int) - (K : Int) = (p : Int) := by omega
  -- what the last step must show
  have hsplit : pre ++ f.held = (pre ++ f.held.take (f.width + m)) ++ f.held.drop (f.width + m) := by rw [List.append_assoc, List.take_append_drop]
  have hpre' : (pre ++ f.held.take (f.width + m)).length = p := by simp; omega
  have hKd : (f.held.drop (f.width + m)).length = K := by simp; omega
  have HE : Hid (∀ t : Bool, Block (toldT w rb f m K t) rb 8 (prCell rb (f.past m t) (.slice aB (p + K) cB)) ∧ Turned (fun k => k = rb) w (toldT w rb f m K t)) := fun t => ⟨told_block h.cells hK t, told_turned w rb f m K t⟩
  have HO : Hid (Own w (.slice aB (p + K) cB) ((pre ++ f.held.take (f.width + m)) ++ f.held.drop (f.width + m))) := hsplit ▸ hown
  have HN : Hid ((∀ k, blk (.slice aB (p + K) cB) k → k ≠ rb) ∧ ∀ k, blk (.slice aB (p + K) cB) k → k < w.heap.size) := ⟨h.ne, h.lt⟩
  have hnotick : ∀ {t : Bool}, toldT w rb f m K false = toldW w rb f m K := fun {t} => rfl
  have HK : Hid (f.held.length = f.width + m + K) := hK
  have HKd : Hid ((f.held.drop (f.width + m)).length = K ∧ (pre ++ f.held.take (f.width + m)).length = p) := ⟨hKd, hpre'⟩
  have hp1 : p ≤ 33554432 := by omega
  have hp0 : p + K ≤ 33554432 := by omega
  have hK1 : K ≤ 16777216 := by omega
  clear h hown hsplit hK hKd hLL hp hpre'
  by_cases hgone : p < K
  · have hge : ¬ (K : Int) ≤ (p : Int) := by omega
    -- nothing is dropped
    have HF : Hid (∀ (t : Bool) (q : Nat), PrMem ((toldT w rb f m K t).drewN q) rb (f.past m t) (.slice aB (p + K) cB) ∧ Turned (fun k => k = rb) w ((toldT w rb f m K t).drewN q)) := fun t q => by
      obtain ⟨b, T⟩ := HE.out t
      have Tq := Turned.drewN (fun _ => False) (toldT w rb f m K t) q
      have T2 : Turned (fun k => k = rb) w ((toldT w rb f m K t).drewN q) := T.trans Tq (fun _ h => h.elim)
      exact ⟨⟨b.turned Tq (fun h => h), fun _ => ⟨_, by rw [HKd.out.2]; omega, HO.out.turned T2 HN.out.1⟩, fun k hk => Nat.lt_of_lt_of_le (HN.out.2 k hk) T2.size, HN.out.1⟩, T2⟩
    by_cases hw : f.width = 4
    · have hq : ((f.width : Int) == 4) = true := by simp; omega
      by_cases hz : m = 0
      · have hzz : ((m : Int) == 0) = true := by simp; omega
        have ht : decide (f.width = 4 ∧ m = 0) = true := by simp [hw, hz]
        rw [ht]
        clear ht hw hz
        go_enter Tryd.func36, Tryd.ntmps36
        go_wp2_with fail
        go_region
        go_wp2
        go_end0
        obtain ⟨r1, r2⟩ := HF.out true 1
        exact ⟨rfl, _, r1, r2, fun k hk => .inl hk⟩
      · have hzz : ((m : Int) == 0) = false := by simp; omega
        have ht : decide (f.width = 4 ∧ m = 0) = false := by simp [hz]
        rw [ht]
        clear ht hw hz
        go_enter Tryd.func36, Tryd.ntmps36
        go_wp2_with fail
        go_region
        go_wp2
        go_end0
        obtain ⟨r1, r2⟩ := HF.out false 1
        exact ⟨rfl, _, r1, r2, fun k hk => .inl hk⟩
    · have hq : ((f.width : Int) == 4) = false := by simp; omega
      have ht : decide (f.width = 4 ∧ m = 0) = false := by simp [hw]
      rw [ht]
      clear ht hw
      go_enter Tryd.func36, Tryd.ntmps36
      go_wp2_with fail
      go_region
      go_wp2
      go_end0
      obtain ⟨r1, r2⟩ := HF.out false 1
      exact ⟨rfl, _, r1, r2, fun k hk => .inl hk⟩
  · have hge : (K : Int) ≤ (p : Int) := by omega
    -- what is held is cloned
    obtain ⟨aD, haD⟩ : ∃ aD, aD = (if cB = p then aB else aB.map (·.add p)) := ⟨_, rfl⟩
    have hDB : ∀ k, blk (.slice aD K (cB - p)) k → blk (.slice aB (p + K) cB) k := fun k hk => by rw [haD] at hk; exact blk_if k hk
    have hDs : Sl w (.slice aD K (cB - p)) (f.held.drop (f.width + m)) := by
      have h1 := HO.out.sl
      have h2 : ((pre ++ f.held.take (f.width + m)) ++ f.held.drop (f.width + m)).length = p + K := by rw [List.length_append, HKd.out.1, HKd.out.2]
      rw [← h2] at h1
      have h3 := h1.drop (n := p) (by rw [h2]; omega)
      rw [h2, Nat.add_sub_cancel_left, ← haD, List.drop_append, HKd.out.2, Nat.sub_self, List.drop_zero, List.drop_eq_nil_of_le (by rw [HKd.out.2]; exact Nat.le_refl _), List.nil_append] at h3
      exact h3
    have HD : Hid (∀ (t : Bool) (q : Nat), Sl ((toldT w rb f m K t).drewN q) (.slice aD K (cB - p)) (f.held.drop (f.width + m))) := fun t q => by
      obtain ⟨b, T⟩ := HE.out t
      exact (hDs.turned T (fun k hk => HN.out.1 k (hDB k hk))).turned (Turned.drewN (fun _ => False) _ q) (fun _ _ h => h)
    have HH : Hid (∀ (t : Bool) (q : Nat), Calls Tryd.prog 34 #[.pointer (some ⟨rb, 0, none⟩)] ((toldT w rb f m K t).drewN q) fun e w' => e = .returned (.slice aD K (cB - p)) ∧ ∃ q', w' = (toldT w rb f m K t).drewN q') := fun t q => by
      obtain ⟨b, T⟩ := HE.out t
      have b2 := b.turned (Turned.drewN (fun _ => False) _ q) (fun h => h)
      have c7 := (b2 7 (by omega)).1
      have c2 := (b2 2 (by omega)).1
      have c2' : ((toldT w rb f m K t).drewN q).cell? ⟨rb, 2, none⟩ = some (.int .i64 (K : Int)) := by
        rw [c2]
        show some (Value.int .i64 ((f.held.drop (f.width + m)).length : Int)) = _
        rw [HKd.out.1]
      refine (frm_held c7 c2' (by omega)).mono ?_
      rintro e w' ⟨h1, q', h2⟩
      exact ⟨by rw [h1, ← haD], q + q', by rw [h2]; simp [World.drewN, Nat.add_assoc]⟩
    have HF : Hid (∀ (t : Bool) (q : Nat) (w6 : World) (V6 : Value), Own w6 V6 (f.held.drop (f.width + m)) → Turned (fun _ => False) ((toldT w rb f m K t).drewN q) w6 → (∀ k, blk V6 k → ((toldT w rb f m K t).drewN q).heap.size ≤ k) →
        PrMem (w6.setCell ⟨rb, 7, none⟩ V6) rb (f.past m t) V6 ∧ Turned (fun k => k = rb) w (w6.setCell ⟨rb, 7, none⟩ V6) ∧ ∀ k, blk V6 k → w.heap.size ≤ k) := fun t q w6 V6 ho6 ht6 hb6 => by
      obtain ⟨b, T⟩ := HE.out t
      have Tq := Turned.drewN (fun _ => False) (toldT w rb f m K t) q
      have T6 : Turned (fun k => k = rb) w w6 := (T.trans Tq (fun _ h => h.elim)).trans ht6 (fun _ h => h.elim)
      have TS := Turned.setCell w6 ⟨rb, 7, none⟩ V6
      have hz : w.heap.size ≤ ((toldT w rb f m K t).drewN q).heap.size := (T.trans Tq (fun _ h => h.elim)).size
      have hn6 : ∀ k, blk V6 k → ¬ k = rb := fun k hk he => by have := hb6 k hk; omega
      have h6 := ho6.turned TS hn6
      exact ⟨⟨(((b.turned Tq (fun h => h)).turned ht6 (fun h => h)).set 7 V6).congr (forall8 rfl rfl rfl rfl rfl rfl rfl rfl), fun _ => ⟨[], by simp, by rw [List.nil_append]; exact h6⟩, fun k hk => h6.blk_lt k hk, hn6⟩, T6.trans TS (fun _ h => .inl h), fun k hk => Nat.le_trans hz (hb6 k hk)⟩
    have hdl : (f.held.drop (f.width + m)).length ≤ 1099511627776 := by rw [HKd.out.1]; omega
    clear hDs hDB haD
    by_cases hw : f.width = 4
    · have hq : ((f.width : Int) == 4) = true := by simp; omega
      by_cases hz : m = 0
      · have hzz : ((m : Int) == 0) = true := by simp; omega
        have ht : decide (f.width = 4 ∧ m = 0) = true := by simp [hw, hz]
        rw [ht]
        clear ht hw hz
        go_enter Tryd.func36, Tryd.ntmps36
        go_wp2_with fail
        go_region
        go_wp2_with fail
        refine (HH.out true 1).mono ?_
        rintro e w5 ⟨rfl, q, rfl⟩
        go_wp2_with fail
        refine (clone_any (HD.out true q) hdl).mono ?_
        rintro e w6 ⟨V6, rfl, ho6, ht6, hb6⟩
        have HR : Hid _ := HF.out true q w6 V6 ho6 ht6 hb6
        obtain ⟨c7, g7⟩ := (((HE.out true).1.turned (Turned.drewN (fun _ => False) _ q) (fun h => h)).turned ht6 (fun h => h)) 7 (by omega)
        simp only [prCell] at c7
        obtain ⟨a6, cap6, L6, rfl⟩ : ∃ a6 cap6 L6, V6 = .slice a6 L6 cap6 := ⟨_, _, _, ho6.sl.form.choose_spec.choose_spec.1⟩
        clear ho6 ht6 hb6 k1 k2 k3 k4 k5 k7 f2 f3 f4 f5 f7
        go_wp2
        go_end0
        obtain ⟨r1, r2, r3⟩ := HR.out
        exact ⟨rfl, _, r1, r2, fun k hk => .inr (r3 k hk)⟩
      · have hzz : ((m : Int) == 0) = false := by simp; omega
        have ht : decide (f.width = 4 ∧ m = 0) = false := by simp [hz]
        rw [ht]
        clear ht hw hz
        go_enter Tryd.func36, Tryd.ntmps36
        go_wp2_with fail
        go_region
        go_wp2_with fail
        refine (HH.out false 1).mono ?_
        rintro e w5 ⟨rfl, q, rfl⟩
        go_wp2_with fail
        refine (clone_any (HD.out false q) hdl).mono ?_
        rintro e w6 ⟨V6, rfl, ho6, ht6, hb6⟩
        have HR : Hid _ := HF.out false q w6 V6 ho6 ht6 hb6
        obtain ⟨c7, g7⟩ := (((HE.out false).1.turned (Turned.drewN (fun _ => False) _ q) (fun h => h)).turned ht6 (fun h => h)) 7 (by omega)
        simp only [prCell] at c7
        obtain ⟨a6, cap6, L6, rfl⟩ : ∃ a6 cap6 L6, V6 = .slice a6 L6 cap6 := ⟨_, _, _, ho6.sl.form.choose_spec.choose_spec.1⟩
        clear ho6 ht6 hb6 k1 k2 k3 k4 k5 k7 f2 f3 f4 f5 f7
        go_wp2
        go_end0
        obtain ⟨r1, r2, r3⟩ := HR.out
        exact ⟨rfl, _, r1, r2, fun k hk => .inr (r3 k hk)⟩
    · have hq : ((f.width : Int) == 4) = false := by simp; omega
      have ht : decide (f.width = 4 ∧ m = 0) = false := by simp [hw]
      rw [ht]
      clear ht hw
      go_enter Tryd.func36, Tryd.ntmps36
      go_wp2_with fail
      go_region
      go_wp2_with fail
      refine (HH.out false 1).mono ?_
      rintro e w5 ⟨rfl, q, rfl⟩
      go_wp2_with fail
      refine (clone_any (HD.out false q) hdl).mono ?_
      rintro e w6 ⟨V6, rfl, ho6, ht6, hb6⟩
      have HR : Hid _ := HF.out false q w6 V6 ho6 ht6 hb6
      obtain ⟨c7, g7⟩ := (((HE.out false).1.turned (Turned.drewN (fun _ => False) _ q) (fun h => h)).turned ht6 (fun h => h)) 7 (by omega)
      simp only [prCell] at c7
      obtain ⟨a6, cap6, L6, rfl⟩ : ∃ a6 cap6 L6, V6 = .slice a6 L6 cap6 := ⟨_, _, _, ho6.sl.form.choose_spec.choose_spec.1⟩
      clear ho6 ht6 hb6 k1 k2 k3 k4 k5 k7 f2 f3 f4 f5 f7
      go_wp2
      go_end0
      obtain ⟨r1, r2, r3⟩ := HR.out
      exact ⟨rfl, _, r1, r2, fun k hk => .inr (r3 k hk)⟩
end Go.Proofs.YtpbakejocjmkeaaDoor
