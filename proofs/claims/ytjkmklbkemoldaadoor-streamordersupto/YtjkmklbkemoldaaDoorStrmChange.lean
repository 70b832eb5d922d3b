/-
  change: a call's work is done at an end of an open stream, or refused.
-/
import Derived.Test.YtjkmklbkemoldaaDoorStrmErr
namespace Go.Proofs.YtjkmklbkemoldaaDoor
open Go.RowKit

section
variable {w : World} {sb : Nat} {f : Nat → Value} {x y : SideV} {s o : Side} {sh : Bool}

set_option maxRecDepth 100000 in
theorem change_bad (E : Ends w sb f 1 8 x y s o sh) (n : Int) (h0 : (n == 0) = false) (h1 : (n == 1) = false) (work : Value) : Calls Tryd.prog 30 #[.pointer (some ⟨sb, 0, none⟩), .int .i64 n, work] w fun e w' => ∃ v, e = .returned v ∧ FaultOf w.heap.size w' v 2 ∧ Below w.heap.size w w' := by
  go_enter Tryd.func30, Tryd.ntmps30
  go_wp2_with fail
  refine (enter_bad E n h0 h1).mono ?_
  rintro e w1 ⟨v, rfl, hf, hb⟩
  have hf' := hf
  obtain ⟨pb, _, rfl, _⟩ := hf
  go_wp2
  go_ret
  exact ⟨_, rfl, hf', hb⟩

set_option maxRecDepth 100000 in
theorem change_shut (E : Ends w sb f 1 8 x y s o true) (n : Int) (hn : n = 0 ∨ n = 1) (work : Value) : Calls Tryd.prog 30 #[.pointer (some ⟨sb, 0, none⟩), .int .i64 n, work] w fun e w' => ∃ v, e = .returned v ∧ FaultOf w.heap.size w' v 100 ∧ Below w.heap.size w w' := by
  go_enter Tryd.func30, Tryd.ntmps30
  go_wp2_with fail
  refine (enter_shut E n hn).mono ?_
  rintro e w1 ⟨v, rfl, hf, hb⟩
  have hf' := hf
  obtain ⟨pb, _, rfl, _⟩ := hf
  go_wp2
  go_ret
  exact ⟨_, rfl, hf', hb⟩

set_option maxRecDepth 100000 in
set_option maxHeartbeats 3200000 in
theorem change_send0 (E : Ends w sb f 1 8 x y s o false) (r : Value) {R : Value → World → Prop} (hk : ∀ w1, Turned (fun _ => False) w w1 → Calls Tryd.prog 31 #[r, .pointer (some ⟨sb, 1, none⟩), .pointer (some ⟨sb, 8, none⟩)] w1 fun e w' => ∃ v, e = .returned v ∧ R v w') :
    Calls Tryd.prog 30 #[.pointer (some ⟨sb, 0, none⟩), .int .i64 0, .func (.func 31) #[r] #[]] w fun e w' => ∃ v, e = .returned v ∧ R v w' := by
  go_enter Tryd.func30, Tryd.ntmps30
  go_wp2_with fail
  refine (enter_ok E 0 (by decide)).mono ?_
  rintro e w' ⟨rfl, rfl⟩
  clear E
  go_wp2_with fail
  go_region_with ((go_at_call 31; refine (hk _ (Turned.drew _ _)).mono ?_; rintro e w1 ⟨v, rfl, hR⟩))
  all_goals
    go_wp2
    go_ret
    exact ⟨v, rfl, hR⟩

set_option maxRecDepth 100000 in
set_option maxHeartbeats 3200000 in
theorem change_send1 (E : Ends w sb f 1 8 x y s o false) (r : Value) {R : Value → World → Prop} (hk : ∀ w1, Turned (fun _ => False) w w1 → Calls Tryd.prog 31 #[r, .pointer (some ⟨sb, 8, none⟩), .pointer (some ⟨sb, 1, none⟩)] w1 fun e w' => ∃ v, e = .returned v ∧ R v w') :
    Calls Tryd.prog 30 #[.pointer (some ⟨sb, 0, none⟩), .int .i64 1, .func (.func 31) #[r] #[]] w fun e w' => ∃ v, e = .returned v ∧ R v w' := by
  go_enter Tryd.func30, Tryd.ntmps30
  go_wp2_with fail
  refine (enter_ok E 1 (by decide)).mono ?_
  rintro e w' ⟨rfl, rfl⟩
  clear E
  go_wp2_with fail
  go_region_with ((go_at_call 31; refine (hk _ (Turned.drew _ _)).mono ?_; rintro e w1 ⟨v, rfl, hR⟩))
  all_goals
    go_wp2
    go_ret
    exact ⟨v, rfl, hR⟩

set_option maxRecDepth 100000 in
set_option maxHeartbeats 3200000 in
theorem change_move0 (E : Ends w sb f 1 8 x y s o false) (r : Value) {R : Value → World → Prop} (hk : ∀ w1, Turned (fun _ => False) w w1 → Calls Tryd.prog 32 #[r, .pointer (some ⟨sb, 1, none⟩), .pointer (some ⟨sb, 8, none⟩)] w1 fun e w' => ∃ v, e = .returned v ∧ R v w') :
    Calls Tryd.prog 30 #[.pointer (some ⟨sb, 0, none⟩), .int .i64 0, .func (.func 32) #[r] #[]] w fun e w' => ∃ v, e = .returned v ∧ R v w' := by
  go_enter Tryd.func30, Tryd.ntmps30
  go_wp2_with fail
  refine (enter_ok E 0 (by decide)).mono ?_
  rintro e w' ⟨rfl, rfl⟩
  clear E
  go_wp2_with fail
  go_region_with ((go_at_call 32; refine (hk _ (Turned.drew _ _)).mono ?_; rintro e w1 ⟨v, rfl, hR⟩))
  all_goals
    go_wp2
    go_ret
    exact ⟨v, rfl, hR⟩

set_option maxRecDepth 100000 in
set_option maxHeartbeats 3200000 in
theorem change_move1 (E : Ends w sb f 1 8 x y s o false) (r : Value) {R : Value → World → Prop} (hk : ∀ w1, Turned (fun _ => False) w w1 → Calls Tryd.prog 32 #[r, .pointer (some ⟨sb, 8, none⟩), .pointer (some ⟨sb, 1, none⟩)] w1 fun e w' => ∃ v, e = .returned v ∧ R v w') :
    Calls Tryd.prog 30 #[.pointer (some ⟨sb, 0, none⟩), .int .i64 1, .func (.func 32) #[r] #[]] w fun e w' => ∃ v, e = .returned v ∧ R v w' := by
  go_enter Tryd.func30, Tryd.ntmps30
  go_wp2_with fail
  refine (enter_ok E 1 (by decide)).mono ?_
  rintro e w' ⟨rfl, rfl⟩
  clear E
  go_wp2_with fail
  go_region_with ((go_at_call 32; refine (hk _ (Turned.drew _ _)).mono ?_; rintro e w1 ⟨v, rfl, hR⟩))
  all_goals
    go_wp2
    go_ret
    exact ⟨v, rfl, hR⟩

set_option maxRecDepth 100000 in
set_option maxHeartbeats 3200000 in
theorem change_set0 (E : Ends w sb f 1 8 x y s o false) (r : Value) {R : Value → World → Prop} (hk : ∀ w1, Turned (fun _ => False) w w1 → Calls Tryd.prog 33 #[r, .pointer (some ⟨sb, 1, none⟩), .pointer (some ⟨sb, 8, none⟩)] w1 fun e w' => ∃ v, e = .returned v ∧ R v w') :
    Calls Tryd.prog 30 #[.pointer (some ⟨sb, 0, none⟩), .int .i64 0, .func (.func 33) #[r] #[]] w fun e w' => ∃ v, e = .returned v ∧ R v w' := by
  go_enter Tryd.func30, Tryd.ntmps30
  go_wp2_with fail
  refine (enter_ok E 0 (by decide)).mono ?_
  rintro e w' ⟨rfl, rfl⟩
  clear E
  go_wp2_with fail
  go_region_with ((go_at_call 33; refine (hk _ (Turned.drew _ _)).mono ?_; rintro e w1 ⟨v, rfl, hR⟩))
  all_goals
    go_wp2
    go_ret
    exact ⟨v, rfl, hR⟩

set_option maxRecDepth 100000 in
set_option maxHeartbeats 3200000 in
theorem change_set1 (E : Ends w sb f 1 8 x y s o false) (r : Value) {R : Value → World → Prop} (hk : ∀ w1, Turned (fun _ => False) w w1 → Calls Tryd.prog 33 #[r, .pointer (some ⟨sb, 8, none⟩), .pointer (some ⟨sb, 1, none⟩)] w1 fun e w' => ∃ v, e = .returned v ∧ R v w') :
    Calls Tryd.prog 30 #[.pointer (some ⟨sb, 0, none⟩), .int .i64 1, .func (.func 33) #[r] #[]] w fun e w' => ∃ v, e = .returned v ∧ R v w' := by
  go_enter Tryd.func30, Tryd.ntmps30
  go_wp2_with fail
  refine (enter_ok E 1 (by decide)).mono ?_
  rintro e w' ⟨rfl, rfl⟩
  clear E
  go_wp2_with fail
  go_region_with ((go_at_call 33; refine (hk _ (Turned.drew _ _)).mono ?_; rintro e w1 ⟨v, rfl, hR⟩))
  all_goals
    go_wp2
    go_ret
    exact ⟨v, rfl, hR⟩

set_option maxRecDepth 100000 in
set_option maxHeartbeats 3200000 in
theorem change_finish0 (E : Ends w sb f 1 8 x y s o false) (r : Value) {R : Value → World → Prop} (hk : ∀ w1, Turned (fun _ => False) w w1 → Calls Tryd.prog 41 #[r, .pointer (some ⟨sb, 1, none⟩), .pointer (some ⟨sb, 8, none⟩)] w1 fun e w' => ∃ v, e = .returned v ∧ R v w') :
    Calls Tryd.prog 30 #[.pointer (some ⟨sb, 0, none⟩), .int .i64 0, .func (.func 41) #[r] #[]] w fun e w' => ∃ v, e = .returned v ∧ R v w' := by
  go_enter Tryd.func30, Tryd.ntmps30
  go_wp2_with fail
  refine (enter_ok E 0 (by decide)).mono ?_
  rintro e w' ⟨rfl, rfl⟩
  clear E
  go_wp2_with fail
  go_region_with ((go_at_call 41; refine (hk _ (Turned.drew _ _)).mono ?_; rintro e w1 ⟨v, rfl, hR⟩))
  all_goals
    go_wp2
    go_ret
    exact ⟨v, rfl, hR⟩

set_option maxRecDepth 100000 in
set_option maxHeartbeats 3200000 in
theorem change_finish1 (E : Ends w sb f 1 8 x y s o false) (r : Value) {R : Value → World → Prop} (hk : ∀ w1, Turned (fun _ => False) w w1 → Calls Tryd.prog 41 #[r, .pointer (some ⟨sb, 8, none⟩), .pointer (some ⟨sb, 1, none⟩)] w1 fun e w' => ∃ v, e = .returned v ∧ R v w') :
    Calls Tryd.prog 30 #[.pointer (some ⟨sb, 0, none⟩), .int .i64 1, .func (.func 41) #[r] #[]] w fun e w' => ∃ v, e = .returned v ∧ R v w' := by
  go_enter Tryd.func30, Tryd.ntmps30
  go_wp2_with fail
  refine (enter_ok E 1 (by decide)).mono ?_
  rintro e w' ⟨rfl, rfl⟩
  clear E
  go_wp2_with fail
  go_region_with ((go_at_call 41; refine (hk _ (Turned.drew _ _)).mono ?_; rintro e w1 ⟨v, rfl, hR⟩))
  all_goals
    go_wp2
    go_ret
    exact ⟨v, rfl, hR⟩
end
end Go.Proofs.YtjkmklbkemoldaaDoor
