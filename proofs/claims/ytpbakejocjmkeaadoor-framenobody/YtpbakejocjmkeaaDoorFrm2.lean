/-
  The program's cut: the body with which bytes begin.
-/
import Derived.Test.YtpbakejocjmkeaaDoorFrm1
namespace Go.Proofs.YtpbakejocjmkeaaDoor
open Go.RowKit

/-- What tells that there is no body yet. -/
theorem few_len {n : Nat} {bs : List Int} (h : bs.length < n) : lenAt n bs 0 = -1 := by unfold lenAt; rw [if_pos (by omega)]

set_option maxRecDepth 100000 in
set_option maxHeartbeats 1600000 in
theorem frm_cut_wait {w : World} {b : Value} {bs : List Int} (hx : Sl w b bs) (hr : Rng bs) {n : Nat} (hn : n = 2 ∨ n = 4) (at_ : Int) (hl : bs.length ≤ 1099511627776) (hb : ¬ most n < lenAt n bs 0) (hw : lenAt n bs 0 < 0 ∨ (bs.length : Int) - n < lenAt n bs 0) :
    Calls Tryd.prog 30 #[.int .i64 n, b, .int .i64 at_] w fun e w' => e = .returned (.tuple #[.slice none 0 0, .bool false, .nilIface]) ∧ w = w' := by
  obtain ⟨ab, cb, hf, hc, hm⟩ := hx.form
  subst hf
  by_cases hfew : bs.length < n
  · have h1 : (bs.length : Int) < (n : Int) := by omega
    clear hx hb hw
    go_enter Tryd.func30, Tryd.ntmps30
    go_wp2
    go_ret3
    exact ⟨rfl, rfl⟩
  · have h1 : ¬ (bs.length : Int) < (n : Int) := by omega
    obtain ⟨l0, l1⟩ := lenAt_lt hn hr (by omega)
    have hlen := frm_length hx hr hn (by omega)
    have hg := frm_greatest n hn w
    have hw' : (bs.length : Int) < (n : Int) + lenAt n bs 0 := by omega
    have hmm : 0 ≤ most n ∧ most n ≤ 131072 := by rcases hn with rfl | rfl <;> decide
    have hn4 : n ≤ 4 := by omega
    have hnc : (n : Int) ≤ cb := by omega
    generalize lenAt n bs 0 = L at *
    generalize most n = M at *
    clear hx hr hw
    go_enter Tryd.func30, Tryd.ntmps30
    go_wp2_with fail
    refine hg.mono ?_
    rintro e w' ⟨rfl, rfl⟩
    go_wp2_with fail
    refine hlen.mono ?_
    rintro e w' ⟨rfl, rfl⟩
    go_wp2
    go_ret3
    exact ⟨rfl, rfl⟩

set_option maxRecDepth 100000 in
set_option maxHeartbeats 1600000 in
theorem frm_cut_bad {w : World} {b : Value} {bs : List Int} (hx : Sl w b bs) (hr : Rng bs) {n : Nat} (hn : n = 2 ∨ n = 4) (at_ : Int) (hb : most n < lenAt n bs 0) :
    Calls Tryd.prog 30 #[.int .i64 n, b, .int .i64 at_] w fun e w' => ∃ v, e = .returned (.tuple #[.slice none 0 0, .bool false, v]) ∧ FaultAt w.heap.size w' v (at_, 120) ∧ Below w.heap.size w w' := by
  obtain ⟨ab, cb, hf, hc, hm⟩ := hx.form
  subst hf
  have hmm : 0 ≤ most n ∧ most n ≤ 131072 := by rcases hn with rfl | rfl <;> decide
  have hfew : ¬ bs.length < n := fun h => by rw [few_len h] at hb; omega
  have h1 : ¬ (bs.length : Int) < (n : Int) := by omega
  obtain ⟨l0, l1⟩ := lenAt_lt hn hr (by omega)
  have hlen := frm_length hx hr hn (by omega)
  have hg := frm_greatest n hn w
  have hn4 : n ≤ 4 := by omega
  have hnc : (n : Int) ≤ cb := by omega
  generalize lenAt n bs 0 = L at *
  generalize most n = M at *
  clear hx hr
  go_enter Tryd.func30, Tryd.ntmps30
  go_wp2_with fail
  refine hg.mono ?_
  rintro e w' ⟨rfl, rfl⟩
  go_wp2_with fail
  refine hlen.mono ?_
  rintro e w' ⟨rfl, rfl⟩
  go_wp2_with fail
  refine (frm_refuse _ _ _).mono ?_
  rintro e w1 ⟨v, rfl, hf, hb⟩
  go_wp2
  go_ret3
  exact ⟨v, rfl, hf, hb⟩

set_option maxRecDepth 100000 in
set_option maxHeartbeats 1600000 in
theorem frm_cut_ok {w : World} {b : Value} {bs : List Int} (hx : Sl w b bs) (hr : Rng bs) {n m : Nat} (hn : n = 2 ∨ n = 4) (at_ : Int) (hl : bs.length ≤ 1099511627776) (hb : ¬ most n < lenAt n bs 0) (hL : lenAt n bs 0 = m) (hw : n + m ≤ bs.length) :
    Calls Tryd.prog 30 #[.int .i64 n, b, .int .i64 at_] w fun e w' => ∃ aF, e = .returned (.tuple #[.slice aF m m, .bool true, .nilIface]) ∧ Sl w (.slice aF m m) ((bs.drop n).take m) ∧ (∀ k, blk (.slice aF m m) k → blk b k) ∧ w = w' := by
  obtain ⟨ab, cb, hf, hc, hm⟩ := hx.form
  subst hf
  have hmm : 0 ≤ most n ∧ most n ≤ 131072 := by rcases hn with rfl | rfl <;> decide
  have h1 : ¬ (bs.length : Int) < (n : Int) := by omega
  have hlen := frm_length hx hr hn (by omega)
  have hg := frm_greatest n hn w
  have hn4 : n ≤ 4 := by omega
  have hnc : (n : Int) ≤ cb := by omega
  rw [hL] at hlen hb
  have h2 : ¬ (bs.length : Int) < (n : Int) + (m : Int) := by omega
  obtain ⟨aF, haF⟩ : ∃ aF, aF = (if m = 0 then ab else ab.map (·.add n)) := ⟨_, rfl⟩
  have hc3 := fun W : World => run_cut3 Tryd.bytes (a := ab) (len := bs.length) (cap := cb) (l := n) (n := m) (by omega) W
  have hF : Sl w (.slice aF m m) ((bs.drop n).take m) := by
    rw [haF]
    have e1 : (bs.take n).length = n := by simp; omega
    have e2 : n + (bs.drop n).length = bs.length := by simp; omega
    have h := Sl.part (w := w) (a := ab) (cap := cb) (pre := bs.take n) (zs := bs.drop n) (by rw [e1, e2, List.take_append_drop]; exact hx) (n := m) (by simp; omega)
    rw [e1] at h
    exact h
  have hFB : ∀ k, blk (.slice aF m m) k → blk (.slice ab bs.length cb) k := fun k hk => by rw [haF] at hk; exact blk_if k hk
  rw [← haF] at hc3
  have HF : Hid (Sl w (.slice aF m m) ((bs.drop n).take m) ∧ ∀ k, blk (.slice aF m m) k → blk (.slice ab bs.length cb) k) := ⟨hF, hFB⟩
  generalize most n = M at *
  clear hx hr hF hFB haF hL
  go_enter Tryd.func30, Tryd.ntmps30
  go_wp2_with fail
  refine hg.mono ?_
  rintro e w' ⟨rfl, rfl⟩
  go_wp2_with fail
  refine hlen.mono ?_
  rintro e w' ⟨rfl, rfl⟩
  go_wp2
  go_ret3
  exact ⟨aF, rfl, HF.out.1, HF.out.2, rfl⟩
end Go.Proofs.YtpbakejocjmkeaaDoor
