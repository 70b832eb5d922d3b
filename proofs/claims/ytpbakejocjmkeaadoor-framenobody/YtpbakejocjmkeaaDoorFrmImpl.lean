/-
  The program's reader: Next, where a body is there; the program's frames are what is asked (FImplS).
-/
import Derived.Test.YtpbakejocjmkeaaDoorFrm9
namespace Go.Proofs.YtpbakejocjmkeaaDoor
open Go.RowKit

set_option maxRecDepth 100000 in
set_option maxHeartbeats 1600000 in
theorem frm_cut_at {w : World} {ab aF : Option Addr} {cb L n m : Nat} (hLb : L ≤ 1099511627776) (hc : L ≤ cb) (hn4 : n ≤ 4) (at_ M : Int) (hlen : Calls Tryd.prog 41 #[.slice ab n cb] w fun e w' => e = .returned (.int .u32 (m : Int)) ∧ w = w') (hg : Calls Tryd.prog 24 #[.int .i64 n] w fun e w' => e = .returned (.tuple #[.int .i64 M, .bool true]) ∧ w = w') (hM : 0 ≤ M ∧ M ≤ 131072) (hb : ¬ M < (m : Int)) (hw : n + m ≤ L)
    (hc3 : ∀ W : World, (Instr.slice 22 (.slice ab L cb) (some (.int .i64 (n : Int))) (some (.int .i64 ((n : Int) + (m : Int)))) (some (.int .i64 ((n : Int) + (m : Int))))).run Tryd.prog W = .ok (.slice aF m m) W) :
    Calls Tryd.prog 30 #[.int .i64 n, .slice ab L cb, .int .i64 at_] w fun e w' => e = .returned (.tuple #[.slice aF m m, .bool true, .nilIface]) ∧ w = w' := by
  have h1 : ¬ (L : Int) < (n : Int) := by omega
  have hnc : (n : Int) ≤ cb := by omega
  have h2 : ¬ (L : Int) < (n : Int) + (m : Int) := by omega
  go_enter Tryd.func30, Tryd.ntmps30
  go_wp2_with fail
  refine hg.mono ?_
  rintro e w' ⟨rfl, rfl⟩
  go_wp2_with fail
  refine hlen.mono ?_
  rintro e w' ⟨rfl, rfl⟩
  go_wp2
  go_ret3
  exact ⟨rfl, rfl⟩

/-- cut, in whatever world that has drawn some more. -/
theorem frm_cut_val {w : World} {ab : Option Addr} {cb : Nat} {bs : List Int} (hx : Sl w (.slice ab bs.length cb) bs) (hr : Rng bs) {n m : Nat} (hn : n = 2 ∨ n = 4) (at_ : Int) (hl : bs.length ≤ 1099511627776) (hb : ¬ most n < lenAt n bs 0) (hL : lenAt n bs 0 = m) (hw : n + m ≤ bs.length) :
    ∃ aF, (∀ q, Calls Tryd.prog 30 #[.int .i64 n, .slice ab bs.length cb, .int .i64 at_] (w.drewN q) fun e w' => e = .returned (.tuple #[.slice aF m m, .bool true, .nilIface]) ∧ ∃ q', w' = w.drewN q') ∧ Sl w (.slice aF m m) ((bs.drop n).take m) ∧ ∀ k, blk (.slice aF m m) k → blk (.slice ab bs.length cb) k := by
  obtain ⟨ab', cb', hf, hc, hm⟩ := hx.form
  cases hf
  refine ⟨if m = 0 then ab else ab.map (·.add n), fun q => ?_, ?_, fun k hk => blk_if k hk⟩
  · have hxq := hx.turned (Turned.drewN (fun _ => False) w q) (fun _ _ h => h)
    have hlen := frm_length hxq hr hn (by omega)
    rw [hL] at hlen hb
    refine (frm_cut_at hl hc (by omega) at_ (most n) hlen (frm_greatest n hn _) (by rcases hn with rfl | rfl <;> decide) hb hw (fun W => run_cut3 Tryd.bytes (by omega) W)).mono ?_
    rintro e w' ⟨h1, rfl⟩
    exact ⟨h1, q, rfl⟩
  · have e1 : (bs.take n).length = n := by simp; omega
    have e2 : n + (bs.drop n).length = bs.length := by simp; omega
    have h := Sl.part (w := w) (a := ab) (cap := cb) (pre := bs.take n) (zs := bs.drop n) (by rw [e1, e2, List.take_append_drop]; exact hx) (n := m) (by simp; omega)
    rw [e1] at h
    exact h

set_option maxRecDepth 100000 in
set_option maxHeartbeats 1600000 in
theorem frm_next_ok {w : World} {rb m : Nat} {f : FSt} {B : Value} (h : PrMem w rb f B) (hok : f.Ok) (hd : f.dead = false) (hl : ¬ most f.width < f.len) (hL : f.len = m) (hm : f.width + m ≤ f.held.length) :
    Calls Tryd.prog 18 #[.pointer (some ⟨rb, 0, none⟩)] w fun e w' => ∃ V B', e = .returned (.tuple #[V, .bool true, .nilIface]) ∧ Own w' V ((f.held.drop f.width).take m) ∧ (∀ k, blk V k → w.heap.size ≤ k ∧ ¬ prS rb B' k) ∧ PrMem w' rb (f.past m (decide (f.width = 4 ∧ m = 0))) B' ∧ Turned (fun k => k = rb) w w' ∧ ∀ k, blk B' k → blk B k ∨ w.heap.size ≤ k := by
  have he := frm_enter_ok h hd
  obtain ⟨aD, c, hheld, hD, hDB⟩ := h.heldSl hd hok
  have k1 := (h.cells 1 (by omega)).1
  have k5 := (h.cells 5 (by omega)).1
  simp only [prCell] at k1 k5
  have hrb : rb < w.heap.size := World.block_lt_of_cell? w _ k1
  have hne := h.ne
  obtain ⟨ht0, hheldlen⟩ : (∀ q, Calls Tryd.prog 36 #[.pointer (some ⟨rb, 0, none⟩), .int .i64 m] (w.drewN q) fun e w' => e = .returned (.tuple #[]) ∧ ∃ B', PrMem w' rb (f.past m (decide (f.width = 4 ∧ m = 0))) B' ∧ Turned (fun k => k = rb) w w' ∧ ∀ k, blk B' k → blk B k ∨ w.heap.size ≤ k) ∧ f.held.length ≤ 16777216 := by
    refine ⟨fun q => (frm_told (h.turned (Turned.drewN (fun _ => False) w q) (fun h => h) (fun _ _ h => h)) hd hok hm).mono ?_, hok.held⟩
    rintro e w' ⟨h1, B', h2, h3, h4⟩
    exact ⟨h1, B', h2, (Turned.drewN (fun k => k = rb) w q).trans h3 (fun _ h => .inl h), h4⟩
  -- where the body lies
  obtain ⟨aF, hcut, hF, hFB⟩ := frm_cut_val hD hok.rng hok.width f.bytes (by omega) hl hL hm
  have HF : Hid (Sl w (.slice aF m m) ((f.held.drop f.width).take m) ∧ ∀ k, blk (.slice aF m m) k → blk B k) := ⟨hF, fun k hk => hDB k (hFB k hk)⟩
  have HN : Hid ((∀ k, blk B k → k ≠ rb) ∧ rb < w.heap.size ∧ ∀ k, blk B k → k < w.heap.size) := ⟨hne, hrb, h.lt⟩
  have HT := Hid.mk6 ht0
  have hml : ((f.held.drop f.width).take m).length = m := by simp; omega
  have hmle : m ≤ 16777216 := by omega
  clear h hD hDB hl hF hFB hne hrb ht0 hL
  go_enter Tryd.func18, Tryd.ntmps18
  go_wp2_with (first | (go_at_call 33; refine he.mono ?_; rintro e w' ⟨rfl, rfl⟩))
  go_quiet (first | (go_at_call 34; exact hheld _) | (go_at_call 30; exact hcut _))
  go_wp2_with fail
  refine (HT.out _).mono ?_
  rintro e w2 ⟨rfl, B', hm2, T2, hB2⟩
  have hF2 : Sl w2 (.slice aF m m) ((f.held.drop f.width).take m) := HF.out.1.turned T2 (fun k hk => HN.out.1 k (HF.out.2 k hk))
  have HM2 : Hid (PrMem w2 rb (f.past m (decide (f.width = 4 ∧ m = 0))) B' ∧ Turned (fun k => k = rb) w w2 ∧ ∀ k, blk B' k → blk B k ∨ w.heap.size ≤ k) := ⟨hm2, T2, hB2⟩
  clear hm2 T2 hB2
  go_wp2_with fail
  refine (clone_any hF2 (by rw [hml]; omega)).mono ?_
  rintro e w3 ⟨V3, rfl, ho3, ht3, hb3⟩
  have HM3 : Hid (Own w3 V3 ((f.held.drop f.width).take m) ∧ Turned (fun _ => False) w2 w3 ∧ ∀ k, blk V3 k → w2.heap.size ≤ k) := ⟨ho3, ht3, hb3⟩
  obtain ⟨a3, c3, L3, rfl⟩ : ∃ a3 c3 L3, V3 = .slice a3 L3 c3 := ⟨_, _, _, ho3.sl.form.choose_spec.choose_spec.1⟩
  clear ho3 ht3 hb3 hF2
  go_wp2
  go_ret3
  obtain ⟨hm2, T2, hB2⟩ := HM2.out
  obtain ⟨ho3, ht3, hb3⟩ := HM3.out
  refine ⟨_, B', rfl, ho3, fun k hk => ⟨Nat.le_trans T2.size (hb3 k hk), fun hs => ?_⟩, hm2.turned ht3 (fun h => h) (fun _ _ h => h), T2.trans ht3 (fun _ h => h.elim), hB2⟩
  have h1 := hb3 k hk
  rcases hs with rfl | hs
  · have := HN.out.2.1; have := T2.size; omega
  · have := hm2.lt k hs; omega

theorem frm_impl : FImpl PrAt where
  lt := fun h => h.lt
  turned := fun h ht hs => h.turned ht hs
  frame := fun n hx _ => frm_frame n hx
  newBad := fun n w h2 h4 => frm_new_bad n w h2 h4
  new := fun n w hn => (frm_new n w hn).mono fun e w' ⟨rb, B, h1, h2, h3, h4⟩ => ⟨rb, prS rb B, h1, h2.at_, h3, h4⟩
  feed := fun {w rb S f} hm hok {b bs} hx hr hl hne => by
    obtain ⟨B, hm, hS⟩ := hm
    have keep : ∀ {w' : World}, Below w.heap.size w w' → PrAt w' rb S f ∧ Turned S w w' ∧ ∀ k, S k → S k ∨ w.heap.size ≤ k := fun {w'} hb => ⟨⟨B, hm.below hb, hS⟩, Turned.ofBelow hb, fun k hk => .inl hk⟩
    unfold FSt.feed
    by_cases hd : f.dead = true
    · rw [if_pos hd]
      exact (frm_feed_dead hm hd b).mono fun e w' ⟨v, h1, h2, h3⟩ => ⟨v, S, h1, h2, keep h3⟩
    rw [if_neg hd]
    have hd' : f.dead = false := by simpa using hd
    by_cases hlo : 16777216 < (f.held.length : Int) + bs.length
    · rw [if_pos hlo]
      exact (frm_feed_long hm hd' hok.held hx hlo).mono fun e w' ⟨v, h1, h2, h3⟩ => ⟨v, S, h1, h2, keep h3⟩
    rw [if_neg hlo]
    exact (frm_feed_ok hm hd' hx hlo).mono fun e w' ⟨h1, B', h2, h3, h4⟩ => ⟨_, prS rb B', h1, rfl, h2.at_, h3.mono (fun k hk => .inl ((hS k).2 hk)), fun k hk => hk.elim (fun h => .inl ((hS k).2 (.inl h))) (fun h => (h4 k h).imp (fun h => (hS k).2 (.inr h)) id)⟩
  next := fun {w rb S f} hm hok => by
    obtain ⟨B, hm, hS⟩ := hm
    have keep : ∀ {w' : World}, Below w.heap.size w w' → PrAt w' rb S f ∧ Turned S w w' ∧ ∀ k, S k → S k ∨ w.heap.size ≤ k := fun {w'} hb => ⟨⟨B, hm.below hb, hS⟩, Turned.ofBelow hb, fun k hk => .inl hk⟩
    have hT : ∀ {w' : World}, Turned (fun k => k = rb) w w' → Turned S w w' := fun h => h.mono (fun k hk => .inl ((hS k).2 (.inl hk)))
    by_cases hd : f.dead = true
    · have hr : f.next = (some (f.bytes, 120), none, f) := by unfold FSt.next; rw [if_pos hd]
      rw [hr]
      exact (frm_next_dead hm hd).mono fun e w' ⟨v, h1, h2, h3⟩ => ⟨_, v, S, h1, h2, .inl ⟨rfl, rfl⟩, fun _ hk => hk.elim, keep h3⟩
    have hd' : f.dead = false := by simpa using hd
    by_cases hl : most f.width < f.len
    · have hr : f.next = (some (f.bytes, 120), none, { f with dead := true }) := by unfold FSt.next; rw [if_neg hd, if_pos hl]
      rw [hr]
      exact (frm_next_big hm hok hd' hl).mono fun e w' ⟨v, h1, h2, h3, h4⟩ => ⟨_, v, prS rb (.slice none 0 0), h1, h2, .inl ⟨rfl, rfl⟩, fun _ hk => hk.elim, h3.at_, hT h4, fun k hk => hk.elim (fun h => .inl ((hS k).2 (.inl h))) (fun h => h.elim)⟩
    by_cases hn : f.len < 0 ∨ (f.held.length : Int) - f.width < f.len
    · have hr : f.next = (none, none, f) := by unfold FSt.next; rw [if_neg hd, if_neg hl, if_pos hn]
      rw [hr]
      exact (frm_next_none hm hok hd' hl hn).mono fun e w' ⟨h1, q, h2⟩ => by
        subst h2
        exact ⟨_, _, S, h1, rfl, .inl ⟨rfl, rfl⟩, fun _ hk => hk.elim, keep ((Turned.drewN (fun _ => False) w q).below (Nat.le_refl _) (fun _ h => h.elim))⟩
    · rw [FSt.past_next hd hl hn]
      have h0 : f.len = (f.len.toNat : Int) := by omega
      exact (frm_next_ok hm hok hd' hl h0 (by omega)).mono fun e w' ⟨V, B', h1, h2, h3, h4, h5, h6⟩ => ⟨V, _, prS rb B', h1, rfl, h2.sl, fun k hk => ⟨(h3 k hk).1, h2.blk_lt k hk, (h3 k hk).2⟩, h4.at_, hT h5, fun k hk => hk.elim (fun h => .inl ((hS k).2 (.inl h))) (fun h => (h6 k h).imp (fun h => (hS k).2 (.inr h)) id)⟩
  widen := fun {w rb S f} hm hok => by
    obtain ⟨B, hm, hS⟩ := hm
    have keep : ∀ {w' : World}, Below w.heap.size w w' → PrAt w' rb S f ∧ Turned S w w' ∧ ∀ k, S k → S k ∨ w.heap.size ≤ k := fun {w'} hb => ⟨⟨B, hm.below hb, hS⟩, Turned.ofBelow hb, fun k hk => .inl hk⟩
    unfold FSt.widen
    by_cases hd : f.dead = true
    · rw [if_pos hd]
      exact (frm_widen_dead hm hd).mono fun e w' ⟨v, h1, h2, h3⟩ => ⟨v, S, h1, h2, keep h3⟩
    rw [if_neg hd]
    have hd' : f.dead = false := by simpa using hd
    by_cases h4 : f.width = 4
    · rw [if_pos h4]
      exact (frm_widen_twice hm hd' h4).mono fun e w' ⟨v, h1, h2, h3⟩ => ⟨v, S, h1, h2, keep h3⟩
    rw [if_neg h4]
    exact (frm_widen_ok hm hd' (hok.width.resolve_right h4)).mono fun e w' ⟨h1, h2, h3⟩ => ⟨_, S, h1, rfl, ⟨B, h2, hS⟩, h3.mono (fun k hk => .inl ((hS k).2 (.inl hk))), fun k hk => .inl hk⟩
  state := fun hm _ => by
    obtain ⟨B, hm, hS⟩ := hm
    exact frm_state hm

theorem frm_implS : FImplS PrAt := { frm_impl with split := fun n {_ _ _} hx hr hl => frm_split n hx hr hl }
end Go.Proofs.YtpbakejocjmkeaaDoor
