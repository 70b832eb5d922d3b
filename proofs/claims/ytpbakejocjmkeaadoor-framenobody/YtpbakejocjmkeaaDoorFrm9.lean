/-
  The program's reader: Next.
-/
import Derived.Test.YtpbakejocjmkeaaDoorFrm8
namespace Go.Proofs.YtpbakejocjmkeaaDoor
open Go.RowKit

set_option maxRecDepth 100000 in
theorem frm_next_dead {w : World} {rb : Nat} {f : FSt} {B : Value} (h : PrMem w rb f B) (hd : f.dead = true) :
    Calls Tryd.prog 18 #[.pointer (some ⟨rb, 0, none⟩)] w fun e w' => ∃ v, e = .returned (.tuple #[.slice none 0 0, .bool false, v]) ∧ FaultAt w.heap.size w' v (f.bytes, 120) ∧ Below w.heap.size w w' := by
  have he := frm_enter_dead h hd
  clear h
  go_enter Tryd.func18, Tryd.ntmps18
  go_wp2_with fail
  refine he.mono ?_
  rintro e w1 ⟨v, rfl, hf, hb⟩
  have HF : Hid (FaultAt w.heap.size w1 v (f.bytes, 120)) := hf
  obtain ⟨pb, hpb, rfl, _⟩ := hf
  go_wp2
  go_ret3
  exact ⟨_, rfl, HF.out, hb⟩

/-- What is held, as a slice. -/
theorem PrMem.heldSl {w : World} {rb : Nat} {f : FSt} {B : Value} (h : PrMem w rb f B) (hd : f.dead = false) (hok : f.Ok) :
    ∃ aD c, (∀ q, Calls Tryd.prog 34 #[.pointer (some ⟨rb, 0, none⟩)] (w.drewN q) fun e w' => e = .returned (.slice aD f.held.length c) ∧ ∃ q', w' = w.drewN q') ∧ Sl w (.slice aD f.held.length c) f.held ∧ ∀ k, blk (.slice aD f.held.length c) k → blk B k := by
  obtain ⟨pre, hpl, hown⟩ := h.own hd
  obtain ⟨aB, cB, hfB, hcB, hmB⟩ := hown.sl.form
  have hh := hok.held
  have hLL : (pre ++ f.held).length = pre.length + f.held.length := by simp
  rw [hLL] at hfB hcB
  subst hfB
  have c7 := (h.cells 7 (by omega)).1
  have c2 := (h.cells 2 (by omega)).1
  refine ⟨if cB = pre.length then aB else aB.map (·.add pre.length), cB - pre.length, fun q => ?_, ?_, fun k hk => blk_if k hk⟩
  · have T := Turned.drewN (fun _ => False) w q
    refine (frm_held (T.cell c7 (fun h => h)) (T.cell c2 (fun h => h)) (by omega)).mono ?_
    rintro e w' ⟨h1, q', h2⟩
    exact ⟨h1, q + q', by rw [h2]; simp [World.drewN, Nat.add_assoc]⟩
  · have h1 := hown.sl
    rw [← hLL] at h1
    have h3 := h1.drop (n := pre.length) (by rw [hLL]; omega)
    rw [hLL, Nat.add_sub_cancel_left, List.drop_left] at h3
    exact h3

set_option maxRecDepth 100000 in
set_option maxHeartbeats 1600000 in
theorem frm_next_big {w : World} {rb : Nat} {f : FSt} {B : Value} (h : PrMem w rb f B) (hok : f.Ok) (hd : f.dead = false) (hl : most f.width < f.len) :
    Calls Tryd.prog 18 #[.pointer (some ⟨rb, 0, none⟩)] w fun e w' => ∃ v, e = .returned (.tuple #[.slice none 0 0, .bool false, v]) ∧ FaultAt w.heap.size w' v (f.bytes, 120) ∧ PrMem w' rb { f with dead := true } (.slice none 0 0) ∧ Turned (fun k => k = rb) w w' := by
  have he := frm_enter_ok h hd
  obtain ⟨aD, c, hheld, hD, hDB⟩ := h.heldSl hd hok
  have k1 := (h.cells 1 (by omega)).1
  have k5 := (h.cells 5 (by omega)).1
  simp only [prCell] at k1 k5
  have HH : Hid (PrMem w rb f B) := h
  have HC : Hid (∀ q, Calls Tryd.prog 30 #[.int .i64 f.width, .slice aD f.held.length c, .int .i64 f.bytes] (w.drewN q) fun e w' => ∃ v, e = .returned (.tuple #[.slice none 0 0, .bool false, v]) ∧ FaultAt w.heap.size w' v (f.bytes, 120) ∧ Below w.heap.size (w.drewN q) w') := fun q => frm_cut_bad (hD.turned (Turned.drewN (fun _ => False) w q) (fun _ _ h => h)) hok.rng hok.width f.bytes hl
  have hrb : rb < w.heap.size := World.block_lt_of_cell? w _ k1
  have HB : Hid (∀ (w6 : World) (q : Nat), Below w.heap.size (w.drewN q) w6 → PrMem w6 rb f B ∧ Turned (fun k => k = rb) w w6) := fun w6 q hb => by
    have T : Turned (fun _ => False) w w6 := (Turned.drewN (fun _ => False) w q).trans (Turned.ofBelow (S := fun _ => False) hb) (fun _ h => h.elim)
    exact ⟨HH.out.turned T (fun h => h) (fun _ _ h => h), T.mono (fun _ h => h.elim)⟩
  clear h hD hDB hl
  go_enter Tryd.func18, Tryd.ntmps18
  go_wp2_with (first | (go_at_call 33; refine he.mono ?_; rintro e w' ⟨rfl, rfl⟩))
  go_region_with (first
    | (go_at_call 34; refine (hheld _).mono ?_; rintro e w5 ⟨rfl, q, rfl⟩)
    | (go_at_call 30; refine (HC.out _).mono ?_; rintro e w6 ⟨v, rfl, hf, hb⟩; have HM := Hid.mk6 (And.intro hf (HB.out w6 _ hb)); obtain ⟨pb, _, rfl, _⟩ := hf; clear hb))
  all_goals
    go_wp2_with fail
    refine (frm_die HM.out.2.1).mono ?_
    rintro e w7 ⟨rfl, hm7, T7⟩
    have hf7 : FaultAt w.heap.size w7 (.iface 83 (.pointer (some ⟨pb, 0, none⟩))) (f.bytes, 120) := ErrsF.turned (oc := some (f.bytes, 120)) HM.out.1 T7 (fun k hk _ he => by omega)
    have HM7 := Hid.mk6 (And.intro hf7 (And.intro hm7 (HM.out.2.2.trans T7 (fun _ h => .inl h))))
    clear hf7 hm7 T7
    go_wp2
    go_ret3
    exact ⟨_, rfl, HM7.out.1, HM7.out.2.1, HM7.out.2.2⟩

set_option maxRecDepth 100000 in
set_option maxHeartbeats 1600000 in
theorem frm_next_none {w : World} {rb : Nat} {f : FSt} {B : Value} (h : PrMem w rb f B) (hok : f.Ok) (hd : f.dead = false) (hl : ¬ most f.width < f.len) (hn : f.len < 0 ∨ (f.held.length : Int) - f.width < f.len) :
    Calls Tryd.prog 18 #[.pointer (some ⟨rb, 0, none⟩)] w fun e w' => e = .returned (.tuple #[.slice none 0 0, .bool false, .nilIface]) ∧ ∃ q, w' = w.drewN q := by
  have he := frm_enter_ok h hd
  obtain ⟨aD, c, hheld, hD, hDB⟩ := h.heldSl hd hok
  have k1 := (h.cells 1 (by omega)).1
  have k5 := (h.cells 5 (by omega)).1
  simp only [prCell] at k1 k5
  have HC : Hid (∀ q, Calls Tryd.prog 30 #[.int .i64 f.width, .slice aD f.held.length c, .int .i64 f.bytes] (w.drewN q) fun e w' => e = .returned (.tuple #[.slice none 0 0, .bool false, .nilIface]) ∧ ∃ q', w' = w.drewN q') := fun q => (frm_cut_wait (hD.turned (Turned.drewN (fun _ => False) w q) (fun _ _ h => h)) hok.rng hok.width f.bytes (by have := hok.held; omega) hl hn).mono fun e w' ⟨h1, h2⟩ => ⟨h1, q, h2.symm⟩
  clear h hD hDB hl hn
  go_enter Tryd.func18, Tryd.ntmps18
  go_wp2_with (first | (go_at_call 33; refine he.mono ?_; rintro e w' ⟨rfl, rfl⟩))
  go_quiet (first | (go_at_call 34; exact hheld _) | (go_at_call 30; exact HC.out _))
  go_wp2
  go_ret3
  exact ⟨rfl, _, rfl⟩
end Go.Proofs.YtpbakejocjmkeaaDoor
