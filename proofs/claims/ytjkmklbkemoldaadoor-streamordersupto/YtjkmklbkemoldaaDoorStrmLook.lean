/-
  look: an end of a stream that may be closed; Read.
-/
import Derived.Test.YtjkmklbkemoldaaDoorStrmSend
namespace Go.Proofs.YtjkmklbkemoldaaDoor
open Go.RowKit

section
variable {w : World} {sb : Nat} {f : Nat → Value} {x y : SideV} {s o : Side} {sh : Bool}

set_option maxRecDepth 100000 in
theorem look_bad (E : Ends w sb f 1 8 x y s o sh) (n : Int) (h0 : (n == 0) = false) (h1 : (n == 1) = false) : Calls Tryd.prog 34 #[.pointer (some ⟨sb, 0, none⟩), .int .i64 n] w fun e w' => ∃ v, e = .returned (.tuple #[.pointer none, .bool false, v]) ∧ FaultOf w.heap.size w' v 2 ∧ Below w.heap.size w w' := by
  go_enter Tryd.func34, Tryd.ntmps34
  go_wp2_with fail
  refine (enter_bad E n h0 h1).mono ?_
  rintro e w1 ⟨v, rfl, hf, hb⟩
  have hf' := hf
  obtain ⟨pb, _, rfl, f0, f1, f2, f3⟩ := hf
  have his := is_other pb 0 2 100 (by decide) w1 f2 f3
  have HF : Hid (FaultOf w.heap.size w1 (.iface 98 (.pointer (some ⟨pb, 0, none⟩))) 2) := hf'
  clear hf' f0 f1 f2 f3 E
  go_wp2_with (go_at_call 44; refine his.mono ?_; rintro e w' ⟨rfl, rfl⟩)
  go_ret3
  exact ⟨_, rfl, HF.out, hb⟩

set_option maxRecDepth 100000 in
theorem look_open (E : Ends w sb f 1 8 x y s o false) (n : Int) (ox : Nat) (hn : (n = 0 ∧ ox = 1) ∨ (n = 1 ∧ ox = 8)) : Calls Tryd.prog 34 #[.pointer (some ⟨sb, 0, none⟩), .int .i64 n] w fun e w' => e = .returned (.tuple #[.pointer (some ⟨sb, ox, none⟩), .bool false, .nilIface]) ∧ w = w' := by
  have he := enter_ok E n (by omega)
  have his := is_nil 100 w
  clear E
  rcases hn with ⟨rfl, rfl⟩ | ⟨rfl, rfl⟩
  all_goals
    go_enter Tryd.func34, Tryd.ntmps34
    go_wp2_with (first | (go_at_call 39; refine he.mono ?_; rintro e w' ⟨rfl, rfl⟩) | (go_at_call 44; refine his.mono ?_; rintro e w' ⟨rfl, rfl⟩))
    go_ret3
    exact ⟨rfl, rfl⟩

set_option maxRecDepth 100000 in
theorem look_shut (E : Ends w sb f 1 8 x y s o true) (n : Int) (ox : Nat) (hn : (n = 0 ∧ ox = 1) ∨ (n = 1 ∧ ox = 8)) : Calls Tryd.prog 34 #[.pointer (some ⟨sb, 0, none⟩), .int .i64 n] w fun e w' => e = .returned (.tuple #[.pointer (some ⟨sb, ox, none⟩), .bool true, .nilIface]) ∧ Below w.heap.size w w' := by
  have he := enter_shut E n (by omega)
  clear E
  rcases hn with ⟨rfl, rfl⟩ | ⟨rfl, rfl⟩
  all_goals
    go_enter Tryd.func34, Tryd.ntmps34
    go_wp2_with fail
    refine he.mono ?_
    rintro e w1 ⟨v, rfl, hf, hb⟩
    obtain ⟨pb, _, rfl, f0, f1, f2, f3⟩ := hf
    have his := is_fault pb 0 100 w1 f2 f3
    clear f0 f1 f2 f3
    go_wp2_with (go_at_call 44; refine his.mono ?_; rintro e w' ⟨rfl, hw'⟩; have hw'' := hw'.symm; subst hw'')
    go_ret3
    exact ⟨rfl, hb⟩

/-- Both. -/
theorem look_any (E : Ends w sb f 1 8 x y s o sh) (n : Int) (ox : Nat) (hn : (n = 0 ∧ ox = 1) ∨ (n = 1 ∧ ox = 8)) : Calls Tryd.prog 34 #[.pointer (some ⟨sb, 0, none⟩), .int .i64 n] w fun e w' => e = .returned (.tuple #[.pointer (some ⟨sb, ox, none⟩), .bool sh, .nilIface]) ∧ Below w.heap.size w w' := by
  cases sh with
  | true => exact look_shut E n ox hn
  | false => exact (look_open E n ox hn).mono fun e w' h => ⟨h.1, h.2 ▸ Below.refl _ _⟩
end
end Go.Proofs.YtjkmklbkemoldaaDoor
