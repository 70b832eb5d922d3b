/-
  The document's Next (heddleref06.Reader).
-/
import Derived.Test.YtpbakejocjmkeaaDoorF3
namespace Go.Proofs.YtpbakejocjmkeaaDoor
open Go.RowKit

set_option maxRecDepth 100000 in
theorem refNext_dead {w : World} {g : Nat} {f : FSt} {B : Value} (h : RdMem w g f B) (hd : f.dead = true) :
    Calls Tryd.prog 19 #[.pointer (some ⟨g, 0, none⟩)] w fun e w' => ∃ v, e = .returned (.tuple #[.slice none 0 0, .bool false, v]) ∧ LinksF w.heap.size w' v (some (f.bytes, 120)) ∧ Below w.heap.size w w' := by
  have k5 := (h.cells 5 (by omega)).1
  have k4 := (h.cells 4 (by omega)).1
  simp only [rdCell, hd] at k4 k5
  clear h
  go_enter Tryd.func19, Tryd.ntmps19
  go_wp2_with (go_at_call 27; refine (no_any _ _ _).mono ?_; rintro e w1 ⟨v, rfl, hf, hb⟩)
  go_ret3
  exact ⟨v, rfl, hf, hb⟩

set_option maxRecDepth 100000 in
set_option maxHeartbeats 1600000 in
theorem refNext_big {w : World} {g : Nat} {f : FSt} {B : Value} (h : RdMem w g f B) (hok : f.Ok) (hd : f.dead = false) (hl : most f.width < f.len) :
    Calls Tryd.prog 19 #[.pointer (some ⟨g, 0, none⟩)] w fun e w' => ∃ v, e = .returned (.tuple #[.slice none 0 0, .bool false, v]) ∧ LinksF w.heap.size w' v (some (f.bytes, 120)) ∧ RdMem w' g { f with dead := true } B ∧ Turned (fun k => k = g) w w' := by
  obtain ⟨aB, cB, hfB, hcB, hmB⟩ := h.sl.form
  subst hfB
  obtain ⟨k5, f5⟩ := h.cells 5 (by omega)
  obtain ⟨k4, _⟩ := h.cells 4 (by omega)
  obtain ⟨k0, _⟩ := h.cells 0 (by omega)
  obtain ⟨k6, _⟩ := h.cells 6 (by omega)
  simp only [rdCell, hd] at k0 k4 k5 k6
  have hlen := length_any h.sl hok.rng hok.width 0 (Nat.zero_le _) (by have := hok.held; omega)
  have hgr := greatest_any f.width w
  have HH : Hid (RdMem w g f (.slice aB f.held.length cB)) := h
  have hl' : most f.width < lenAt f.width f.held 0 := hl
  generalize lenAt f.width f.held 0 = L at hl' hlen
  generalize most f.width = M at hl' hgr
  clear h hl
  go_enter Tryd.func19, Tryd.ntmps19
  go_wp2_with fail
  refine hlen.mono ?_
  rintro e w' ⟨rfl, rfl⟩
  go_wp2_with fail
  refine hgr.mono ?_
  rintro e w' ⟨rfl, rfl⟩
  go_wp2_with fail
  refine (no_any _ _ _).mono ?_
  rintro e w1 ⟨v, rfl, hf, hb⟩
  have T3 := Turned.setCell w ⟨g, 5, none⟩ (.bool true)
  have h := HH.out
  have R : RdMem (w.setCell ⟨g, 5, none⟩ (.bool true)) g { f with dead := true } (.slice aB f.held.length cB) := ⟨(h.cells.set 5 (.bool true)).congr (forall7 rfl rfl rfl rfl rfl rfl rfl), h.sl.turned T3 h.ne, fun k hk => Nat.lt_of_lt_of_le (h.lt k hk) T3.size, h.ne⟩
  have hsz : (w.setCell ⟨g, 5, none⟩ (.bool true)).heap.size = w.heap.size := by simp [World.setCell]
  rw [hsz] at hf
  have HF : Hid (LinksF w.heap.size w1 v (some (f.bytes, 120))) := hf
  have HR : Hid (RdMem w1 g { f with dead := true } (.slice aB f.held.length cB)) := R.turned (Turned.ofBelow (S := fun _ => False) hb) (fun h => h) (fun _ _ h => h)
  have HT : Hid (Turned (fun k => k = g) w w1) := T3.trans (Turned.ofBelow (S := fun _ => False) hb) (fun _ h => h.elim)
  clear R T3 h hf hb hsz
  go_wp2
  go_ret3
  exact ⟨v, rfl, HF.out, HR.out, HT.out⟩

set_option maxRecDepth 100000 in
set_option maxHeartbeats 1600000 in
theorem refNext_none {w : World} {g : Nat} {f : FSt} {B : Value} (h : RdMem w g f B) (hok : f.Ok) (hd : f.dead = false) (hl : ¬ most f.width < f.len) (hn : f.len < 0 ∨ (f.held.length : Int) - f.width < f.len) :
    Calls Tryd.prog 19 #[.pointer (some ⟨g, 0, none⟩)] w fun e w' => e = .returned (.tuple #[.slice none 0 0, .bool false, .slice none 0 0]) ∧ w = w' := by
  obtain ⟨aB, cB, hfB, hcB, hmB⟩ := h.sl.form
  subst hfB
  obtain ⟨k5, f5⟩ := h.cells 5 (by omega)
  obtain ⟨k0, _⟩ := h.cells 0 (by omega)
  obtain ⟨k6, _⟩ := h.cells 6 (by omega)
  simp only [rdCell, hd] at k0 k5 k6
  have hlen := length_any h.sl hok.rng hok.width 0 (Nat.zero_le _) (by have := hok.held; omega)
  have hgr := greatest_any f.width w
  have hl' : ¬ most f.width < lenAt f.width f.held 0 := hl
  have hn' : lenAt f.width f.held 0 < 0 ∨ (f.held.length : Int) - f.width < lenAt f.width f.held 0 := hn
  have hw4 : f.width ≤ 4 := by rcases hok.width with h | h <;> omega
  have hh := hok.held
  generalize lenAt f.width f.held 0 = L at hl' hlen hn'
  generalize most f.width = M at hl' hgr
  clear h hl hn hok
  by_cases h0 : L < 0
  · clear hn'
    go_enter Tryd.func19, Tryd.ntmps19
    go_wp2_with fail
    refine hlen.mono ?_
    rintro e w' ⟨rfl, rfl⟩
    go_wp2_with fail
    refine hgr.mono ?_
    rintro e w' ⟨rfl, rfl⟩
    go_wp2
    go_ret3
    exact ⟨rfl, rfl⟩
  · have h1 : (f.held.length : Int) - f.width < L := hn'.resolve_left h0
    clear hn'
    go_enter Tryd.func19, Tryd.ntmps19
    go_wp2_with fail
    refine hlen.mono ?_
    rintro e w' ⟨rfl, rfl⟩
    go_wp2_with fail
    refine hgr.mono ?_
    rintro e w' ⟨rfl, rfl⟩
    go_wp2
    go_ret3
    exact ⟨rfl, rfl⟩
end Go.Proofs.YtpbakejocjmkeaaDoor
