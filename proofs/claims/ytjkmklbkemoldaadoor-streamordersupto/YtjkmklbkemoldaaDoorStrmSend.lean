/-
  The work of a Send and of a Stall, at an end.
-/
import Derived.Test.YtjkmklbkemoldaaDoorStrmErr
namespace Go.Proofs.YtjkmklbkemoldaaDoor
open Go.RowKit

section
variable {w : World} {sb ox oo : Nat} {f : Nat → Value} {x y : SideV} {s o : Side} {sh : Bool}

theorem Ends.ox_lt (E : Ends w sb f ox oo x y s o sh) : ox + 6 < 16 := by have := E.off; omega
theorem Ends.oo_lt (E : Ends w sb f ox oo x y s o sh) : oo + 6 < 16 := by have := E.off; omega
/-- The two cells of what is under way. -/
theorem Ends.under (E : Ends w sb f ox oo x y s o sh) : ∃ a cap, x.U = .slice a (x.p + s.und.length) cap ∧ w.cell? ⟨sb, ox, none⟩ = some (.slice a (x.p + s.und.length) cap) ∧ w.cell? ⟨sb, ox + 1, none⟩ = some (.int .i64 (x.p : Nat)) := by
  obtain ⟨a, cap, h, _, _⟩ := E.mx.und.form
  have := E.ox_lt
  refine ⟨a, cap, h, ?_, ?_⟩
  · rw [(E.cells ox (by omega)).1, E.cx.u, h]
  · rw [(E.cells (ox + 1) (by omega)).1, E.cx.p]
/-- The two cells of what has come. -/
theorem Ends.come (E : Ends w sb f ox oo x y s o sh) : ∃ a cap, x.C = .slice a (x.q + s.come.length) cap ∧ w.cell? ⟨sb, ox + 2, none⟩ = some (.slice a (x.q + s.come.length) cap) ∧ w.cell? ⟨sb, ox + 2 + 1, none⟩ = some (.int .i64 (x.q : Nat)) := by
  obtain ⟨a, cap, h, _, _⟩ := E.mx.come.form
  have := E.ox_lt
  refine ⟨a, cap, h, ?_, ?_⟩
  · rw [(E.cells (ox + 2) (by omega)).1, E.cx.c, h]
  · rw [(E.cells (ox + 3) (by omega)).1, E.cx.q]

/-- What a put to what is under way makes, and the sum. -/
theorem Ends.sent {w1 : World} {U' : Value} {bs : List Int} {n : Int} (E : Ends w sb f ox oo x y s o sh) (hb : Block w1 sb 16 (fset f ox U')) (hq : Q w1 U' x.p (s.und ++ bs)) (T : Turned (fun k => k = sb ∨ blk x.U k) w w1) (hk : ∀ k, blk U' k → blk x.U k ∨ w.heap.size ≤ k) :
    Done w sb ox oo x y (w1.setCell ⟨sb, ox + 4, none⟩ (.int .i64 n)) { s with und := s.und ++ bs, sent := n } o sh := by
  have ho := E.off
  have T2 := Turned.setCell w1 ⟨sb, ox + 4, none⟩ (.int .i64 n)
  have TA : Turned (fun k => k = sb ∨ blk x.U k) w (w1.setCell ⟨sb, ox + 4, none⟩ (.int .i64 n)) := T.trans T2 (fun k h => .inl (.inl h))
  have hl := E.lt
  have nC : ∀ k, blk x.C k → ¬ (k = sb ∨ blk x.U k) := fun k hk h => h.elim (E.mx.nC k hk) (fun h => E.mx.ap k h hk)
  have nY : ∀ k, sideBlk y k → ¬ (k = sb ∨ blk x.U k) := fun k hk h => h.elim (fun h => hk.elim (fun hk => E.my.nU k hk h) (fun hk => E.my.nC k hk h)) (fun h => E.ap k (.inl h) hk)
  have nU : ∀ k, blk U' k → k ≠ sb := fun k h => (hk k h).elim (E.mx.nU k) (fun h2 => by have := E.sb_lt; omega)
  refine ⟨_, { x with U := U' }, y, ⟨ho, hb.set (ox + 4) _, ?_, ?_, ((E.cx.set_u U').set_sent n).same rfl rfl rfl, (E.cy.far (by omega)).far (by omega), ⟨hq.turned T2 nU, E.mx.come.turned TA nC, E.mx.read, nU, E.mx.nC, fun k h hC => (hk k h).elim (fun h => E.mx.ap k h hC) (fun h => by have := E.mx.come.lt k hC; omega)⟩, E.my.turned TA nY, ?_⟩, TA.mono (fun k h => .inl (h.elim .inl (fun h => .inr (.inl (.inl h))))), ?_⟩
  · show fset (fset f ox U') (ox + 4) _ 0 = _
    rw [fset_ne (by omega), fset_ne (by omega)]; exact E.self
  · show fset (fset f ox U') (ox + 4) _ 15 = _
    rw [fset_ne (by omega), fset_ne (by omega)]; exact E.shut
  · rintro k (h | h) hy
    · exact (hk k h).elim (fun h => E.ap k (.inl h) hy) (fun h => by have := E.my.lt k hy; omega)
    · exact E.ap k (.inr h) hy
  · rintro k (h | (h | h) | h)
    · exact .inl (.inl h)
    · exact (hk k h).imp (fun h => .inr (.inl (.inl h))) id
    · exact .inl (.inr (.inl (.inr h)))
    · exact .inl (.inr (.inr h))

set_option maxRecDepth 100000 in
set_option maxHeartbeats 3200000 in
theorem send_ok (E : Ends w sb f ox oo x y s o sh) {b : Value} {bs : List Int} (hx : Sl w b bs) (hl : (s.und.length : Int) + bs.length ≤ 4194304) :
    Calls Tryd.prog 31 #[b, .pointer (some ⟨sb, ox, none⟩), .pointer (some ⟨sb, oo, none⟩)] w fun e w' => e = .returned .nilIface ∧ Done w sb ox oo x y w' { s with und := s.und ++ bs, sent := wrap64 (s.sent + bs.length) } o sh := by
  obtain ⟨aU, capU, hU, k0, k1⟩ := E.under
  have hp := E.mx.und.le
  have hlt := E.ox_lt
  have hz : x.p + s.und.length ≤ 1099511627776 := by omega
  obtain ⟨ax, capx, rfl, hcx, hmx⟩ := hx.form
  have hsub : ¬ (4194304 - (s.und.length : Int)) < (bs.length : Int) := by omega
  obtain ⟨pre, hpre, hple, hown⟩ := E.mx.und
  have Td := Turned.drew (fun _ => False) w
  have hBd := E.cells.turned Td (fun h => h)
  have hxd := hx.turned Td (fun _ _ h => h)
  have hod := hown.turned Td (fun _ _ h => h)
  have hfit : (pre ++ s.und).length + bs.length ≤ 1099511627776 := by simp; omega
  have hput := put_any hBd (by omega) E.cx.u hod hxd hfit E.mx.nU
  have HE : Hid (Ends w sb f ox oo x y s o sh) := E
  have HP : Hid (pre.length = x.p) := hpre
  have hT : Hid (Turned (fun _ => False) w w.drew) := Td
  have h4 : (fset f ox) = fset f ox := rfl
  clear hx Td hBd hxd hod hfit hown E h4
  go_enter Tryd.func31, Tryd.ntmps31
  go_wp2_with (first | (go_at_call 36; refine (size_any k0 k1 hz).mono ?_; rintro e w' ⟨rfl, rfl⟩) | (go_at_call 48; refine hput.mono ?_; rintro e w1 ⟨U', rfl, ho1, hb1, ht1, hk1⟩; obtain ⟨c4, f4⟩ := hb1 (ox + 4) (by omega); rw [fset_ne (by omega), HE.out.cx.sent] at c4; have HB : Hid (Block w1 sb 16 (fset f ox U')) := hb1; clear hb1))
  go_ret
  refine ⟨rfl, HE.out.sent HB.out ⟨pre, HP.out, by simp; have := HE.out.mx.und.le; omega, by rw [← List.append_assoc]; exact ho1⟩ ((hT.out.mono (fun _ h => h.elim)).trans ht1 (fun k h => .inl h)) hk1⟩

set_option maxRecDepth 100000 in
theorem send_long (E : Ends w sb f ox oo x y s o sh) {b : Value} {bs : List Int} (hx : Sl w b bs) (hu : s.und.length ≤ 4194304) (hl : 4194304 < (s.und.length : Int) + bs.length) :
    Calls Tryd.prog 31 #[b, .pointer (some ⟨sb, ox, none⟩), .pointer (some ⟨sb, oo, none⟩)] w fun e w' => ∃ v, e = .returned v ∧ FaultOf w.heap.size w' v 4 ∧ Below w.heap.size w w' := by
  obtain ⟨aU, capU, hU, k0, k1⟩ := E.under
  have hp := E.mx.und.le
  have hz : x.p + s.und.length ≤ 1099511627776 := by omega
  obtain ⟨ax, capx, rfl, hcx, hmx⟩ := hx.form
  have hsub : (4194304 - (s.und.length : Int)) < (bs.length : Int) := by omega
  clear hx E
  go_enter Tryd.func31, Tryd.ntmps31
  go_wp2_with (first | (go_at_call 36; refine (size_any k0 k1 hz).mono ?_; rintro e w' ⟨rfl, rfl⟩) | (go_at_call 35; refine (refuse_any _ _).mono ?_; rintro e w1 ⟨v, rfl, hf, hb⟩))
  go_ret
  exact ⟨v, rfl, hf, (Below.refl _ _).drew.trans hb⟩

set_option maxRecDepth 100000 in
theorem set_ok (E : Ends w sb f ox oo x y s o sh) (yes : Bool) :
    Calls Tryd.prog 33 #[.bool yes, .pointer (some ⟨sb, ox, none⟩), .pointer (some ⟨sb, oo, none⟩)] w fun e w' => e = .returned .nilIface ∧ Done w sb ox oo x y w' { s with stall := yes } o sh := by
  have hlt := E.ox_lt
  obtain ⟨c6, f6⟩ := E.cells (ox + 6) (by omega)
  rw [E.cx.stall] at c6
  have HE : Hid (Ends w sb f ox oo x y s o sh) := E
  clear E
  go_enter Tryd.func33, Tryd.ntmps33
  go_wp2
  go_ret
  have E := HE.out
  have ho := E.off
  have T2 := Turned.setCell w ⟨sb, ox + 6, none⟩ (.bool yes)
  have nx : ∀ k, sideBlk x k → ¬ k = sb := fun k h he => h.elim (fun h => E.mx.nU k h he) (fun h => E.mx.nC k h he)
  have ny : ∀ k, sideBlk y k → ¬ k = sb := fun k h he => h.elim (fun h => E.my.nU k h he) (fun h => E.my.nC k h he)
  have M := E.mx.turned T2 nx
  refine ⟨rfl, fset f (ox + 6) (.bool yes), x, y, ⟨ho, E.cells.set (ox + 6) _, ?_, ?_, E.cx.set_stall yes, E.cy.far (by omega), ⟨M.und, M.come, M.read, M.nU, M.nC, M.ap⟩, E.my.turned T2 ny, E.ap⟩, T2.mono (fun k h => .inl (.inl h)), fun k h => .inl h⟩
  · rw [fset_ne (by omega)]; exact E.self
  · rw [fset_ne (by omega)]; exact E.shut
end
end Go.Proofs.YtjkmklbkemoldaaDoor
