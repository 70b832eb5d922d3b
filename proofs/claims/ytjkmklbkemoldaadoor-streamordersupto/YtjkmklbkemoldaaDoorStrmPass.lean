/-
  The work of a Move, at an end: bytes that are under way come to the other one.
-/
import Derived.Test.YtjkmklbkemoldaaDoorStrmSend
namespace Go.Proofs.YtjkmklbkemoldaaDoor
open Go.RowKit

section
variable {w : World} {sb ox oo : Nat} {f : Nat → Value} {x y : SideV} {s o : Side} {sh : Bool}

theorem Ends.passed {w1 w2 : World} {V' C' : Value} {p' n : Nat} {m : Int} (E : Ends w sb f ox oo x y s o sh) (hB : Block w2 sb 16 (fset (fset (fset f ox V') (ox + 1) (.int .i64 (p' : Nat))) (oo + 2) C')) (hU : Q w1 V' p' (s.und.drop n)) (hC : Q w2 C' y.q (o.come ++ s.und.take n))
    (T1 : Turned (fun k => k = sb) w w1) (T2 : Turned (fun k => k = sb ∨ blk y.C k) w1 w2) (hk1 : ∀ k, blk V' k → blk x.U k ∨ w.heap.size ≤ k) (hk2 : ∀ k, blk C' k → blk y.C k ∨ w1.heap.size ≤ k) (hread : o.read = wrap64 (m - ((o.come ++ s.und.take n).length : Nat))) :
    Done w sb ox oo x y (w2.setCell ⟨sb, oo + 5, none⟩ (.int .i64 m)) { s with und := s.und.drop n } { o with come := o.come ++ s.und.take n, moved := m } sh := by
  have ho := E.off
  have hsb := E.sb_lt
  have hz1 := T1.size
  have hz2 := T2.size
  have T3 := Turned.setCell w2 ⟨sb, oo + 5, none⟩ (.int .i64 m)
  have T23 : Turned (fun k => k = sb ∨ blk y.C k) w1 (w2.setCell ⟨sb, oo + 5, none⟩ (.int .i64 m)) := T2.trans T3 (fun k h => .inl (.inl h))
  have TA : Turned (fun k => k = sb ∨ blk y.C k) w (w2.setCell ⟨sb, oo + 5, none⟩ (.int .i64 m)) := (T1.mono (T := fun k => k = sb ∨ blk y.C k) (fun k h => .inl (.inl h))).trans T23 (fun k h => .inl h)
  have nV : ∀ k, blk V' k → k ≠ sb := fun k h => (hk1 k h).elim (E.mx.nU k) (fun h2 => by omega)
  have nC : ∀ k, blk C' k → k ≠ sb := fun k h => (hk2 k h).elim (E.my.nC k) (fun h2 => by omega)
  have aVC : ∀ k, blk V' k → ¬ (k = sb ∨ blk y.C k) := fun k h h2 => h2.elim (nV k h) (fun h2 => (hk1 k h).elim (fun h => E.ap k (.inl h) (.inr h2)) (fun h => by have := E.my.come.lt k h2; omega))
  have aXC : ∀ k, blk x.C k → ¬ (k = sb ∨ blk y.C k) := fun k h h2 => h2.elim (E.mx.nC k h) (fun h2 => E.ap k (.inr h) (.inr h2))
  have aYU : ∀ k, blk y.U k → ¬ (k = sb ∨ blk y.C k) := fun k h h2 => h2.elim (E.my.nU k h) (fun h2 => E.my.ap k h h2)
  refine ⟨_, { x with U := V', p := p' }, { y with C := C' }, ⟨ho, hB.set (oo + 5) _, ?_, ?_, ?_, ?_, ⟨hU.turned T23 aVC, E.mx.come.turned TA aXC, E.mx.read, nV, E.mx.nC, ?_⟩, ⟨E.my.und.turned TA aYU, hC.turned T3 nC, hread, E.my.nU, nC, ?_⟩, ?_⟩, TA.mono (fun k h => .inl (h.elim .inl (fun h => .inr (.inr (.inr h))))), ?_⟩
  · show fset (fset (fset (fset f ox V') (ox + 1) _) (oo + 2) C') (oo + 5) _ 0 = _
    rw [fset_ne (by omega), fset_ne (by omega), fset_ne (by omega), fset_ne (by omega)]; exact E.self
  · show fset (fset (fset (fset f ox V') (ox + 1) _) (oo + 2) C') (oo + 5) _ 15 = _
    rw [fset_ne (by omega), fset_ne (by omega), fset_ne (by omega), fset_ne (by omega)]; exact E.shut
  · exact (((((E.cx.set_u V').set_p p').far (by omega)).far (by omega)).same rfl rfl rfl)
  · exact ((((E.cy.far (by omega)).far (by omega)).set_c C').set_moved m).same rfl rfl rfl
  · exact fun k h hC => (hk1 k h).elim (fun h => E.mx.ap k h hC) (fun h => by have := E.mx.come.lt k hC; omega)
  · exact fun k h hC => (hk2 k hC).elim (fun hC => E.my.ap k h hC) (fun hC => by have := E.my.und.lt k h; omega)
  · rintro k (h | h) (g | g)
    · exact (hk1 k h).elim (fun h => E.ap k (.inl h) (.inl g)) (fun h => by have := E.my.und.lt k g; omega)
    · exact (hk2 k g).elim (fun g => aVC k h (.inr g)) (fun g => by have := hU.lt k h; omega)
    · exact E.ap k (.inr h) (.inl g)
    · exact (hk2 k g).elim (fun g => aXC k h (.inr g)) (fun g => by have := E.mx.come.lt k h; omega)
  · rintro k (h | (h | h) | (h | h))
    · exact .inl (.inl h)
    · exact (hk1 k h).imp (fun h => .inr (.inl (.inl h))) id
    · exact .inl (.inr (.inl (.inr h)))
    · exact .inl (.inr (.inr (.inl h)))
    · exact (hk2 k h).elim (fun h => .inl (.inr (.inr (.inr h)))) (fun h => .inr (by omega))

theorem readPut {r m : Int} {c n : Nat} (h : r = wrap64 (m - (c : Nat))) : r = wrap64 (wrap64 (m + n) - ((c + n : Nat) : Int)) := by
  subst h; unfold wrap64; omega

set_option maxRecDepth 100000 in
set_option maxHeartbeats 3200000 in
theorem pass_any (E : Ends w sb f ox oo x y s o sh) {n : Nat} (hn : n ≤ s.und.length) (hu : s.und.length ≤ 16777216) (hc : o.come.length ≤ 16777216) :
    Calls Tryd.prog 49 #[.pointer (some ⟨sb, ox, none⟩), .int .i64 n, .pointer (some ⟨sb, oo, none⟩)] w fun e w' => e = .returned (.tuple #[]) ∧ Done w sb ox oo x y w' { s with und := s.und.drop n } { o with come := o.come ++ s.und.take n, moved := wrap64 (o.moved + n) } sh := by
  have hxl := E.ox_lt
  have hol := E.oo_lt
  have hoff := E.off
  have Td := Turned.drew (fun _ => False) w
  have Ed := E.fresh Td
  have htake := take_any (n := n) Ed.cells (o := ox) (by omega) Ed.cx.u Ed.cx.p Ed.mx.und hn (by omega) Ed.mx.nU
  obtain ⟨pre, hpre, hple, hown⟩ := Ed.my.come
  have hfit : (pre ++ o.come).length + (s.und.take n).length ≤ 1099511627776 := by simp; omega
  have hln : (s.und.take n).length = n := by simp; omega
  have HE : Hid (Ends w sb f ox oo x y s o sh) := E
  have HEd : Hid (Ends w.drew sb f ox oo x y s o sh) := Ed
  have HO : Hid (Own w.drew y.C (pre ++ o.come)) := hown
  have HP : Hid (pre.length = y.q) := hpre
  have HQ : Hid (y.q ≤ o.come.length) := hple
  clear E Ed Td hown hpre hple
  go_enter Tryd.func49, Tryd.ntmps49
  go_wp2_with fail
  go_region_with (first
    | (go_at_call 38; refine htake.mono ?_; rintro e w1 ⟨F1, V1, p1, rfl, hs1, hF1, hq1, hb1, ht1, hk1⟩; have hput := put_any (o := oo + 2) hb1 (by omega) ((fset_ne (by omega)).trans ((fset_ne (by omega)).trans HEd.out.cy.c)) (HO.out.turned ht1 HEd.out.my.nC) hs1 hfit HEd.out.my.nC; have HT1 : Hid (Turned (fun k => k = sb) w.drew w1) := ht1; have HQ1 : Hid (Q w1 V1 p1 (s.und.drop n)) := hq1; have HK1 : Hid (∀ k, blk V1 k → blk x.U k ∨ w.drew.heap.size ≤ k) := hk1; clear hs1 hF1 hq1 hb1 ht1 hk1)
    | (go_at_call 48; refine hput.mono ?_; rintro e w2 ⟨C2, rfl, ho2, hb2, ht2, hk2⟩; obtain ⟨c5, f5⟩ := hb2 (oo + 5) (by omega); rw [fset_ne (by omega), fset_ne (by omega), fset_ne (by omega), HEd.out.cy.moved] at c5; have HB2 : Hid (Block w2 sb 16 _) := hb2; have HT2 : Hid (Turned _ w1 w2) := ht2; clear hb2 ht2))
  all_goals
    go_wp2
    go_end0
    refine ⟨rfl, Done.fresh (Turned.drew (fun _ => False) w) (HEd.out.passed HB2.out HQ1.out ⟨pre, HP.out, by have := HQ.out; simp; omega, by rw [← List.append_assoc]; exact ho2⟩ HT1.out HT2.out HK1.out hk2 ?_)⟩
    rw [List.length_append, hln]
    exact readPut HE.out.my.read
end
end Go.Proofs.YtjkmklbkemoldaaDoor
