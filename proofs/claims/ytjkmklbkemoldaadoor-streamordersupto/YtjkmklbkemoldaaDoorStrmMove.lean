/-
  The work of a Move, at an end, with its refusals.
-/
import Derived.Test.YtjkmklbkemoldaaDoorStrmPass
namespace Go.Proofs.YtjkmklbkemoldaaDoor
open Go.RowKit

section
variable {w : World} {sb ox oo : Nat} {f : Nat → Value} {x y : SideV} {s o : Side} {sh : Bool}

theorem below_drewd {B : Nat} {a b : World} (h : Below B a b) : Below B a b.drew := h.drew

set_option maxRecDepth 100000 in
theorem move_arg (m : Int) (hm : m < 0) (w : World) (a b : Value) :
    Calls Tryd.prog 32 #[.int .i64 m, a, b] w fun e w' => ∃ v, e = .returned v ∧ FaultOf w.heap.size w' v 1 ∧ Below w.heap.size w w' := by
  go_enter Tryd.func32, Tryd.ntmps32
  go_wp2_with (go_at_call 35; refine (refuse_any _ _).mono ?_; rintro e w1 ⟨v, rfl, hf, hb⟩)
  go_ret
  exact ⟨v, rfl, hf, hb⟩

set_option maxRecDepth 100000 in
theorem move_stalled (E : Ends w sb f ox oo x y s o sh) (m : Int) (hm : ¬ m < 0) (hst : s.stall = true) :
    Calls Tryd.prog 32 #[.int .i64 m, .pointer (some ⟨sb, ox, none⟩), .pointer (some ⟨sb, oo, none⟩)] w fun e w' => ∃ v, e = .returned v ∧ FaultOf w.heap.size w' v 101 ∧ Below w.heap.size w w' := by
  have hlt := E.ox_lt
  have c6 := (E.cells (ox + 6) (by omega)).1
  rw [E.cx.stall, hst] at c6
  clear E
  go_enter Tryd.func32, Tryd.ntmps32
  go_wp2_with (go_at_call 35; refine (refuse_any _ _).mono ?_; rintro e w1 ⟨v, rfl, hf, hb⟩)
  go_ret
  exact ⟨v, rfl, hf, hb⟩

set_option maxRecDepth 100000 in
theorem move_moves (E : Ends w sb f ox oo x y s o sh) (m : Int) (hm : ¬ m < 0) (hst : s.stall = false) (hu : s.und.length ≤ 16777216) (hl : (s.und.length : Int) < m) :
    Calls Tryd.prog 32 #[.int .i64 m, .pointer (some ⟨sb, ox, none⟩), .pointer (some ⟨sb, oo, none⟩)] w fun e w' => ∃ v, e = .returned v ∧ FaultOf w.heap.size w' v 102 ∧ Below w.heap.size w w' := by
  have hlt := E.ox_lt
  have c6 := (E.cells (ox + 6) (by omega)).1
  rw [E.cx.stall, hst] at c6
  obtain ⟨aU, capU, hU, k0, k1⟩ := E.under
  have hp := E.mx.und.le
  have hz : x.p + s.und.length ≤ 1099511627776 := by omega
  clear E
  go_enter Tryd.func32, Tryd.ntmps32
  go_wp2_with (first | (go_at_call_of 36 ox; refine (size_any k0 k1 hz).mono ?_; rintro e w' ⟨rfl, rfl⟩) | (go_at_call 35; refine (refuse_any _ _).mono ?_; rintro e w1 ⟨v, rfl, hf, hb⟩))
  go_ret
  exact ⟨v, rfl, hf, (Below.refl _ _).drew.trans hb⟩

set_option maxRecDepth 100000 in
theorem move_many (E : Ends w sb f ox oo x y s o sh) (m : Int) (hm : ¬ m < 0) (hst : s.stall = false) (hu : s.und.length ≤ 16777216) (hc : o.come.length ≤ 4194304) (hl : ¬ (s.und.length : Int) < m) (hl2 : 4194304 < (o.come.length : Int) + m) :
    Calls Tryd.prog 32 #[.int .i64 m, .pointer (some ⟨sb, ox, none⟩), .pointer (some ⟨sb, oo, none⟩)] w fun e w' => ∃ v, e = .returned v ∧ FaultOf w.heap.size w' v 5 ∧ Below w.heap.size w w' := by
  have hlt := E.ox_lt
  have c6 := (E.cells (ox + 6) (by omega)).1
  rw [E.cx.stall, hst] at c6
  obtain ⟨aU, capU, hU, k0, k1⟩ := E.under
  have hp := E.mx.und.le
  have hz : x.p + s.und.length ≤ 1099511627776 := by omega
  obtain ⟨aC, capC, hC, q0, q1⟩ := E.swap.come
  have hq := E.my.come.le
  have hzq : y.q + o.come.length ≤ 1099511627776 := by omega
  have hsub : (4194304 - (o.come.length : Int)) < m := by omega
  clear E
  go_enter Tryd.func32, Tryd.ntmps32
  go_wp2_with (first | (go_at_call_of 36 ox; refine (size_any k0 k1 hz).mono ?_; rintro e w' ⟨rfl, rfl⟩) | (go_at_call_of 36 oo; refine (size_any (w := w.drew) q0 q1 hzq).mono ?_; rintro e w' ⟨rfl, rfl⟩) | (go_at_call 35; refine (refuse_any _ _).mono ?_; rintro e w1 ⟨v, rfl, hf, hb⟩))
  go_ret
  exact ⟨v, rfl, hf, (Below.refl _ _).drew.drew.trans hb⟩

set_option maxRecDepth 100000 in
set_option maxHeartbeats 3200000 in
theorem move_ok (E : Ends w sb f ox oo x y s o sh) (m : Int) (hm : ¬ m < 0) (hst : s.stall = false) (hu : s.und.length ≤ 16777216) (hc : o.come.length ≤ 4194304) (hl : ¬ (s.und.length : Int) < m) (hl2 : ¬ 4194304 < (o.come.length : Int) + m) :
    Calls Tryd.prog 32 #[.int .i64 m, .pointer (some ⟨sb, ox, none⟩), .pointer (some ⟨sb, oo, none⟩)] w fun e w' => e = .returned .nilIface ∧ Done w sb ox oo x y w' { s with und := s.und.drop m.toNat } { o with come := o.come ++ s.und.take m.toNat, moved := wrap64 (o.moved + m.toNat) } sh := by
  obtain ⟨n, rfl⟩ : ∃ n : Nat, m = (n : Int) := ⟨m.toNat, by omega⟩
  rw [Int.toNat_natCast]
  have hlt := E.ox_lt
  have c6 := (E.cells (ox + 6) (by omega)).1
  rw [E.cx.stall, hst] at c6
  obtain ⟨aU, capU, hU, k0, k1⟩ := E.under
  have hp := E.mx.und.le
  have hz : x.p + s.und.length ≤ 1099511627776 := by omega
  obtain ⟨aC, capC, hC, q0, q1⟩ := E.swap.come
  have hq := E.my.come.le
  have hzq : y.q + o.come.length ≤ 1099511627776 := by omega
  have hsub : ¬ (4194304 - (o.come.length : Int)) < (n : Int) := by omega
  have Td : Turned (fun _ => False) w w.drew.drew := (Turned.drew (fun _ => False) w).trans (Turned.drew (fun _ => False) _) (fun _ h => .inl h)
  have hpass := pass_any (E.fresh Td) (n := n) (by omega) hu (by omega)
  have HT : Hid (Turned (fun _ => False) w w.drew.drew) := Td
  clear E Td
  go_enter Tryd.func32, Tryd.ntmps32
  go_wp2_with (first | (go_at_call_of 36 ox; refine (size_any k0 k1 hz).mono ?_; rintro e w' ⟨rfl, rfl⟩) | (go_at_call_of 36 oo; refine (size_any (w := w.drew) q0 q1 hzq).mono ?_; rintro e w' ⟨rfl, rfl⟩) | (go_at_call 49; refine hpass.mono ?_; rintro e w1 ⟨rfl, hd⟩))
  go_ret
  exact ⟨rfl, hd.fresh HT.out⟩
end
end Go.Proofs.YtjkmklbkemoldaaDoor
