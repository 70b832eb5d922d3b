/-
  How a stream ends: shut; finish.
-/
import Derived.Test.YtjkmklbkemoldaaDoorStrmPass
namespace Go.Proofs.YtjkmklbkemoldaaDoor
open Go.RowKit

section
variable {w : World} {sb ox oo : Nat} {f : Nat → Value} {x y : SideV} {s o : Side} {sh : Bool}

set_option maxRecDepth 100000 in
set_option maxHeartbeats 3200000 in
theorem shut0 (E : Ends w sb f 1 8 x y s o sh) :
    Calls Tryd.prog 40 #[.pointer (some ⟨sb, 0, none⟩)] w fun e w' => e = .returned (.tuple #[]) ∧ Done w sb 1 8 x y w' { s with und := [] } { o with und := [] } true := by
  obtain ⟨c1, f1⟩ := E.cells 1 (by omega)
  obtain ⟨c2, f2⟩ := E.cells 2 (by omega)
  obtain ⟨c8, f8⟩ := E.cells 8 (by omega)
  obtain ⟨c9, f9⟩ := E.cells 9 (by omega)
  obtain ⟨c15, f15⟩ := E.cells 15 (by omega)
  have HE : Hid (Ends w sb f 1 8 x y s o sh) := E
  clear E
  go_enter Tryd.func40, Tryd.ntmps40
  go_wp2
  refine wp_loop_rounds 3 ?_
  rw [rounds_succ]
  go_wp2
  rw [rounds_succ]
  go_wp2
  rw [rounds_succ]
  go_wp2
  go_end0
  have E := HE.out
  have TA : Turned (fun k => k = sb) w _ := ((((Turned.setCell w ⟨sb, 1, none⟩ (.slice none 0 0)).trans (Turned.setCell _ ⟨sb, 2, none⟩ (.int .i64 0)) (fun _ h => .inl h)).trans (Turned.setCell _ ⟨sb, 8, none⟩ (.slice none 0 0)) (fun _ h => .inl h)).trans (Turned.setCell _ ⟨sb, 9, none⟩ (.int .i64 0)) (fun _ h => .inl h)).trans (Turned.setCell _ ⟨sb, 15, none⟩ (.bool true)) (fun _ h => .inl h)
  have hB := ((((E.cells.set 1 (.slice none 0 0)).set 2 (.int .i64 0)).set 8 (.slice none 0 0)).set 9 (.int .i64 0)).set 15 (.bool true)
  refine ⟨rfl, _, { x with U := .slice none 0 0, p := 0 }, { y with U := .slice none 0 0, p := 0 }, ⟨E.off, hB, E.self, rfl, ?_, ?_, ⟨Q.empty _, E.mx.come.turned TA E.mx.nC, E.mx.read, fun k h => h.elim, E.mx.nC, fun k h => h.elim⟩, ⟨Q.empty _, E.my.come.turned TA E.my.nC, E.my.read, fun k h => h.elim, E.my.nC, fun k h => h.elim⟩, ?_⟩, TA.mono (fun k h => .inl (.inl h)), ?_⟩
  · exact ((((((E.cx.set_u (.slice none 0 0)).set_p 0).far (i := 8) (u := .slice none 0 0) (by omega)).far (i := 9) (u := .int .i64 0) (by omega)).far (i := 15) (u := .bool true) (by omega)).same rfl rfl rfl)
  · exact ((((((E.cy.far (i := 1) (u := .slice none 0 0) (by omega)).far (i := 2) (u := .int .i64 0) (by omega)).set_u (.slice none 0 0)).set_p 0).far (i := 15) (u := .bool true) (by omega)).same rfl rfl rfl)
  · rintro k (h | h) (g | g)
    · exact h.elim
    · exact h.elim
    · exact g.elim
    · exact E.ap k (.inr h) (.inr g)
  · rintro k (h | (h | h) | (h | h))
    · exact .inl (.inl h)
    · exact h.elim
    · exact .inl (.inr (.inl (.inr h)))
    · exact h.elim
    · exact .inl (.inr (.inr (.inr h)))

theorem shut_any (E : Ends w sb f ox oo x y s o sh) :
    Calls Tryd.prog 40 #[.pointer (some ⟨sb, 0, none⟩)] w fun e w' => e = .returned (.tuple #[]) ∧ Done w sb ox oo x y w' { s with und := [] } { o with und := [] } true := by
  rcases E.off with ⟨rfl, rfl⟩ | ⟨rfl, rfl⟩
  · exact shut0 E
  · exact (shut0 E.swap).mono fun e w' h => ⟨h.1, h.2.swap⟩

set_option maxRecDepth 100000 in
set_option maxHeartbeats 3200000 in
theorem finish_any (E : Ends w sb f ox oo x y s o sh) (hu : s.und.length ≤ 16777216) (hc : o.come.length ≤ 16777216) :
    Calls Tryd.prog 41 #[.pointer (some ⟨sb, 0, none⟩), .pointer (some ⟨sb, ox, none⟩), .pointer (some ⟨sb, oo, none⟩)] w fun e w' => e = .returned .nilIface ∧ Done w sb ox oo x y w' { s with und := [] } { o with und := [], come := o.come ++ s.und, moved := wrap64 (o.moved + s.und.length) } true := by
  obtain ⟨aU, capU, hU, k0, k1⟩ := E.under
  have hp := E.mx.und.le
  have hz : x.p + s.und.length ≤ 1099511627776 := by omega
  have Td := Turned.drew (fun _ => False) w
  have hpass := pass_any (E.fresh Td) (n := s.und.length) (Nat.le_refl _) hu hc
  rw [List.take_length] at hpass
  have HT : Hid (Turned (fun _ => False) w w.drew) := Td
  clear E Td
  go_enter Tryd.func41, Tryd.ntmps41
  go_wp2_with (first | (go_at_call 36; refine (size_any k0 k1 hz).mono ?_; rintro e w' ⟨rfl, rfl⟩) | (go_at_call 49; refine hpass.mono ?_; rintro e w1 ⟨rfl, f1, x1, y1, E1, T1, S1⟩) | (go_at_call 40; refine (shut_any E1).mono ?_; rintro e w2 ⟨rfl, hd⟩))
  go_ret
  exact ⟨rfl, (hd.step T1 S1).fresh HT.out⟩
end
end Go.Proofs.YtjkmklbkemoldaaDoor
