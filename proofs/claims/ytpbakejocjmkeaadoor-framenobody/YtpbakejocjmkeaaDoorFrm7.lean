/-
  The program's reader: held, die, told.
-/
import Derived.Test.YtpbakejocjmkeaaDoorFrm6
import Derived.Deep.QuietTactic
import Derived.BigQuiet
namespace Go.Proofs.YtpbakejocjmkeaaDoor
open Go.RowKit

theorem Turned.drewN (S : Nat → Prop) (w : World) (n : Nat) : Turned S w (w.drewN n) := ⟨rfl, rfl, rfl, Nat.le_refl _, fun _ _ _ => rfl⟩

set_option maxRecDepth 100000 in
theorem frm_held {w : World} {rb p H cB : Nat} {aB : Option Addr} (h7 : w.cell? ⟨rb, 7, none⟩ = some (.slice aB (p + H) cB)) (h2 : w.cell? ⟨rb, 2, none⟩ = some (.int .i64 H)) (hl : p + H ≤ 1099511627776) :
    Calls Tryd.prog 34 #[.pointer (some ⟨rb, 0, none⟩)] w fun e w' => e = .returned (.slice (if cB = p then aB else aB.map (·.add p)) H (cB - p)) ∧ ∃ q, w' = w.drewN q := by
  have hct := fun W : World => run_cutFrom Tryd.bytes (a := aB) (len := p + H) (cap := cB) (l := p) (by omega) W
  obtain ⟨aD, haD⟩ : ∃ aD, aD = (if cB = p then aB else aB.map (·.add p)) := ⟨_, rfl⟩
  rw [← haD] at hct ⊢
  clear haD
  have e1 : ((p + H : Nat) : Int) - (H : Int) = (p : Int) := by omega
  have e2 : p + H - p = H := by omega
  rw [e2] at hct
  go_enter Tryd.func34, Tryd.ntmps34
  go_wp2
  go_region
  go_wp2
  go_ret
  exact ⟨rfl, 1, rfl⟩

set_option maxRecDepth 100000 in
theorem frm_die {w : World} {rb : Nat} {f : FSt} {B : Value} (h : PrMem w rb f B) :
    Calls Tryd.prog 35 #[.pointer (some ⟨rb, 0, none⟩)] w fun e w' => e = .returned (.tuple #[]) ∧ PrMem w' rb { f with dead := true } (.slice none 0 0) ∧ Turned (fun k => k = rb) w w' := by
  obtain ⟨k6, f6⟩ := h.cells 6 (by omega)
  obtain ⟨k7, f7⟩ := h.cells 7 (by omega)
  simp only [prCell] at k6 k7
  have HH : Hid (PrMem w rb f B) := h
  clear h
  go_enter Tryd.func35, Tryd.ntmps35
  go_wp2
  go_end0
  have h := HH.out
  have T3 := (Turned.setCell w ⟨rb, 6, none⟩ (.bool true)).trans (Turned.setCell _ ⟨rb, 7, none⟩ (.slice none 0 0)) (fun _ h => .inl h)
  exact ⟨rfl, ⟨((h.cells.set 6 (.bool true)).set 7 (.slice none 0 0)).congr (forall8 rfl rfl rfl rfl rfl rfl rfl rfl), fun hd => by simp at hd, fun _ hk => hk.elim, fun _ hk => hk.elim⟩, T3⟩
end Go.Proofs.YtpbakejocjmkeaaDoor
