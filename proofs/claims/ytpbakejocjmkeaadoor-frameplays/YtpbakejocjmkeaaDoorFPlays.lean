/-
  heddlelaw06.FramePlays: its walk, given the program's frames.
-/
import Derived.Test.YtpbakejocjmkeaaDoorF8
import Derived.Deep.DeepCutAuto
import Derived.Deep.CutBlock
namespace Go.Proofs.YtpbakejocjmkeaaDoor
open Go.RowKit

/-- A row of calls in memory. -/
def ScriptF (w : World) (v : Value) : Prop :=
  ∃ a len cap, v = .slice a len cap ∧ len ≤ 140737488355328 ∧ ∀ j, j < len → ∃ b off, a = some ⟨b, off, none⟩ ∧ ∃ k x bs, w.cell? ⟨b, off + j * 2, none⟩ = some (.int .i64 k) ∧ w.cell? ⟨b, off + j * 2 + 1, none⟩ = some x ∧ Sl w x bs ∧ Rng bs ∧ bs.length ≤ 140737488355328

set_option maxRecDepth 100000 in
set_option maxHeartbeats 3200000 in
theorem plays_bad {Mem : World → Nat → (Nat → Prop) → FSt → Prop} (I : FImpl Mem) (n : Int) (h2 : n ≠ 2) (h4 : n ≠ 4) (v : Value) (w : World) (her : Er w) :
    Calls Tryd.prog 5 #[.int .i64 n, v] w fun ev w' => ev = .returned (.bool true) ∧ Below w.heap.size w w' := by
  have hq : ∀ (w : World) (a : Option Addr) (n c n' c' : Nat), (binOp .neq 27 (.slice a n c) (.slice none n' c')).run Tryd.prog w = .ok (.bool (!a.isNone)) w := fun w a n c n' c' => run_neq_slice_nil_any w _ _ a n c n' c' Tryd.underlying27
  go_enter Tryd.func5, Tryd.ntmps5
  go_wp2_with fail
  refine (I.newBad n w h2 h4).mono ?_
  rintro ev w1 ⟨v1, rfl, he1, hb1⟩
  go_wp2_with fail
  refine (refNew_arg n h2 h4 w1).mono ?_
  rintro ev w2 ⟨v2, rfl, hl2, hb2⟩
  have B2 := hb1.trans (hb2.mono hb1.size)
  have hr := refused_bothF (her.below B2) (he1.turned (Turned.ofBelow (S := fun _ => False) hb2) (fun _ _ _ h => h)) hl2
  obtain ⟨lb, _, rfl, _⟩ := hl2
  clear he1 hb1 hb2
  go_wp2_with fail
  refine hr.mono ?_
  rintro ev w3 ⟨rfl, hb3⟩
  go_wp2_with fail
  refine (awake_any I w3).mono ?_
  rintro ev w4 ⟨rfl, hb4⟩
  go_wp2
  go_ret
  have B3 := B2.trans (hb3.mono B2.size)
  exact ⟨rfl, B3.trans (hb4.mono B3.size)⟩
end Go.Proofs.YtpbakejocjmkeaaDoor
