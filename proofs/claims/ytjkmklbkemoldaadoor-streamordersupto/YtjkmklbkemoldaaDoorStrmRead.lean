/-
  Read.
-/
import Derived.Test.YtjkmklbkemoldaaDoorStrmLook
namespace Go.Proofs.YtjkmklbkemoldaaDoor
open Go.RowKit

section
variable {w : World} {sb ox oo : Nat} {f : Nat → Value} {x y : SideV} {s o : Side} {sh : Bool}

/-- look, whichever end is called the own one. -/
theorem look_end (E : Ends w sb f ox oo x y s o sh) (n : Int) (hn : (n = 0 ∧ ox = 1) ∨ (n = 1 ∧ ox = 8)) : Calls Tryd.prog 34 #[.pointer (some ⟨sb, 0, none⟩), .int .i64 n] w fun e w' => e = .returned (.tuple #[.pointer (some ⟨sb, ox, none⟩), .bool sh, .nilIface]) ∧ Below w.heap.size w w' := by
  rcases E.off with ⟨rfl, rfl⟩ | ⟨rfl, rfl⟩
  · exact look_any E n 1 hn
  · exact look_any E.swap n 8 hn

set_option maxRecDepth 100000 in
theorem read_bad (E : Ends w sb f 1 8 x y s o sh) (n m : Int) (h0 : (n == 0) = false) (h1 : (n == 1) = false) : Calls Tryd.prog 17 #[.pointer (some ⟨sb, 0, none⟩), .int .i64 n, .int .i64 m] w fun e w' => ∃ v, e = .returned (.tuple #[.slice none 0 0, v]) ∧ FaultOf w.heap.size w' v 2 ∧ Below w.heap.size w w' := by
  go_enter Tryd.func17, Tryd.ntmps17
  go_wp2_with fail
  refine (look_bad E n h0 h1).mono ?_
  rintro e w1 ⟨v, rfl, hf, hb⟩
  have hf' := hf
  obtain ⟨pb, _, rfl, _⟩ := hf
  go_wp2
  go_ret2
  exact ⟨_, rfl, hf', hb⟩

set_option maxRecDepth 100000 in
theorem read_arg (E : Ends w sb f ox oo x y s o sh) (n m : Int) (hn : (n = 0 ∧ ox = 1) ∨ (n = 1 ∧ ox = 8)) (hm : m < 0) : Calls Tryd.prog 17 #[.pointer (some ⟨sb, 0, none⟩), .int .i64 n, .int .i64 m] w fun e w' => ∃ v, e = .returned (.tuple #[.slice none 0 0, v]) ∧ FaultOf w.heap.size w' v 1 ∧ Below w.heap.size w w' := by
  have hl := look_end E n hn
  clear E
  go_enter Tryd.func17, Tryd.ntmps17
  go_wp2_with (first | (go_at_call 34; refine hl.mono ?_; rintro e w1 ⟨rfl, hb⟩) | (go_at_call 35; refine (refuse_any _ _).mono ?_; rintro e w2 ⟨v, rfl, hf, hb2⟩))
  go_ret2
  obtain ⟨pb, hpb, hr⟩ := hf
  exact ⟨v, rfl, ⟨pb, Nat.le_trans hb.size hpb, hr⟩, hb.trans (hb2.mono hb.size)⟩

set_option maxRecDepth 100000 in
theorem read_end (E : Ends w sb f ox oo x y s o true) (n m : Int) (hn : (n = 0 ∧ ox = 1) ∨ (n = 1 ∧ ox = 8)) (hm : ¬ m < 0) (hc : s.come = []) : Calls Tryd.prog 17 #[.pointer (some ⟨sb, 0, none⟩), .int .i64 n, .int .i64 m] w fun e w' => ∃ v, e = .returned (.tuple #[.slice none 0 0, v]) ∧ FaultOf w.heap.size w' v 8 ∧ Below w.heap.size w w' := by
  have hl := look_end E n hn
  obtain ⟨aC, capC, hC, k0, k1⟩ := E.come
  have hq := E.mx.come.le
  rw [hc] at hq k0
  have hz : x.q + [].length (α := Int) ≤ 1099511627776 := by simp at hq ⊢; omega
  have hlt : sb < w.heap.size := E.sb_lt
  clear E
  go_enter Tryd.func17, Tryd.ntmps17
  go_wp2_with (first | (go_at_call 34; refine hl.mono ?_; rintro e w1 ⟨rfl, hb⟩; have j0 : w1.cell? ⟨sb, ox + 2, none⟩ = _ := (hb.cell (p := ⟨sb, ox + 2, none⟩) hlt).trans k0; have j1 : w1.cell? ⟨sb, ox + 2 + 1, none⟩ = _ := (hb.cell (p := ⟨sb, ox + 2 + 1, none⟩) hlt).trans k1; have HJ0 : Hid (w1.cell? ⟨sb, ox + 2, none⟩ = _) := j0; have HJ1 : Hid (w1.cell? ⟨sb, ox + 2 + 1, none⟩ = _) := j1; clear j0 j1) | (go_at_call 36; refine (size_any HJ0.out HJ1.out hz).mono ?_; rintro e w' ⟨rfl, rfl⟩) | (go_at_call 35; refine (refuse_any _ _).mono ?_; rintro e w2 ⟨v, rfl, hf, hb2⟩))
  go_ret2
  obtain ⟨pb, hpb, hr⟩ := hf
  have hz1 := hb.size
  have hz2 : w1.drew.heap.size = w1.heap.size := rfl
  exact ⟨v, rfl, ⟨pb, by omega, hr⟩, hb.trans (((Below.refl w.heap.size w1).drew).trans (hb2.mono (by omega)))⟩

/-- What Read makes of the stream. -/
def ReadDone (w : World) (sb ox oo : Nat) (x y : SideV) (w' : World) (V : Value) (s o : Side) (sh : Bool) : Prop :=
  ∃ f x' y', Ends w' sb f ox oo x' y' s o sh ∧ Turned (ownBlk sb x y) w w' ∧ (∀ k, ownBlk sb x' y' k → ownBlk sb x y k ∨ w.heap.size ≤ k) ∧ ∀ k, blk V k → w.heap.size ≤ k ∧ k < w'.heap.size ∧ ¬ ownBlk sb x' y' k

theorem readTake {r m : Int} {c k : Nat} (hk : k ≤ c) (h : r = wrap64 (m - (c : Nat))) : wrap64 (r + k) = wrap64 (m - ((c - k : Nat) : Int)) := by
  subst h; unfold wrap64; omega

theorem Ends.taken {w1 w2 w3 : World} {C' V : Value} {q' k : Nat} (E : Ends w sb f ox oo x y s o sh) (hk : k ≤ s.come.length) (T0 : Turned (fun _ => False) w w1) (hB : Block w2 sb 16 (fset (fset f (ox + 2) C') (ox + 2 + 1) (.int .i64 (q' : Nat)))) (hC : Q w2 C' q' (s.come.drop k))
    (T1 : Turned (fun k => k = sb) w1 w2) (hk1 : ∀ k, blk C' k → blk x.C k ∨ w1.heap.size ≤ k) (T2 : Turned (fun _ => False) w2 w3) (hV : ∀ k, blk V k → w2.heap.size ≤ k) (hV3 : ∀ k, blk V k → k < w3.heap.size) :
    ReadDone w sb ox oo x y w3 V { s with come := s.come.drop k, read := wrap64 (s.read + k) } o sh := by
  have ho := E.off
  have hsb := E.sb_lt
  have z0 := T0.size
  have z1 := T1.size
  have z2 := T2.size
  have TA : Turned (fun k => k = sb) w w3 := ((T0.mono (T := fun k => k = sb) (fun _ h => h.elim)).trans T1 (fun _ h => .inl h)).trans T2 (fun _ h => h.elim)
  have nC : ∀ k, blk C' k → k ≠ sb := fun k h => (hk1 k h).elim (E.mx.nC k) (fun h2 => by omega)
  have ny : ∀ k, sideBlk y k → ¬ k = sb := fun k h he => h.elim (fun h => E.my.nU k h he) (fun h => E.my.nC k h he)
  refine ⟨_, { x with C := C', q := q' }, y, ⟨ho, hB.turned T2 (fun h => h), ?_, ?_, ((E.cx.set_c C').set_q q').same rfl rfl rfl, (E.cy.far (by omega)).far (by omega), ⟨E.mx.und.turned TA E.mx.nU, hC.turned T2 (fun _ _ h => h), ?_, E.mx.nU, nC, ?_⟩, E.my.turned TA ny, ?_⟩, TA.mono (fun k h => .inl (.inl h)), ?_, ?_⟩
  · rw [fset_ne (by omega), fset_ne (by omega)]; exact E.self
  · rw [fset_ne (by omega), fset_ne (by omega)]; exact E.shut
  · show wrap64 (s.read + k) = wrap64 (s.moved - ((s.come.drop k).length : Nat))
    rw [List.length_drop]; exact readTake hk E.mx.read
  · exact fun k h hC => (hk1 k hC).elim (fun hC => E.mx.ap k h hC) (fun hC => by have := E.mx.und.lt k h; omega)
  · rintro k (h | h) g
    · exact E.ap k (.inl h) g
    · exact (hk1 k h).elim (fun h => E.ap k (.inr h) g) (fun h => by have := E.my.lt k g; omega)
  · rintro k (h | (h | h) | h)
    · exact .inl (.inl h)
    · exact .inl (.inr (.inl (.inl h)))
    · exact (hk1 k h).elim (fun h => .inl (.inr (.inl (.inr h)))) (fun h => .inr (by omega))
    · exact .inl (.inr (.inr h))
  · intro k h
    have g2 := hV k h
    refine ⟨by omega, hV3 k h, ?_⟩
    rintro (g | (g | g) | g)
    · omega
    · have := E.mx.und.lt k g; omega
    · have := hC.lt k g; omega
    · have := E.my.lt k g; omega

/-- What a take makes. -/
def TakePost (w : World) (sb o n : Nat) (f : Nat → Value) (V : Value) (zs : List Int) (e : Ending) (w' : World) : Prop :=
  ∃ F V' p', e = .returned F ∧ Sl w' F (zs.take n) ∧ (∀ k, blk F k → blk V k) ∧ Q w' V' p' (zs.drop n) ∧ Block w' sb 16 (fset (fset f o V') (o + 1) (.int .i64 (p' : Nat))) ∧ Turned (fun k => k = sb) w w' ∧ ∀ k, blk V' k → blk V k ∨ w.heap.size ≤ k

theorem come_take (E : Ends w sb f ox oo x y s o sh) {k : Nat} (hk : k ≤ s.come.length) (hc : s.come.length ≤ 16777216) {w1 : World} (hb : Below w.heap.size w w1) :
    Calls Tryd.prog 38 #[.pointer (some ⟨sb, ox + 2, none⟩), .int .i64 k] w1.drew (TakePost w1.drew sb (ox + 2) k f x.C s.come) := by
  have hxl := E.ox_lt
  have E1 := (E.below hb).fresh (Turned.drew (fun _ => False) _)
  exact take_any (n := k) E1.cells (o := ox + 2) (by omega) E1.cx.c E1.cx.q E1.mx.come hk (by omega) E1.mx.nC

theorem Hid.mk' {p : Prop} (h : p) : Hid p := h

set_option maxRecDepth 100000 in
set_option maxHeartbeats 1600000 in
theorem read_take0 (E : Ends w sb f ox oo x y s o false) (n m : Int) (hn : (n = 0 ∧ ox = 1) ∨ (n = 1 ∧ ox = 8)) (hm : ¬ m < 0) (hc : s.come.length ≤ 16777216) (k : Nat) (hk : k ≤ s.come.length) (hmk : ((s.come.length : Int) < m ∧ k = s.come.length) ∨ (¬ (s.come.length : Int) < m ∧ m = (k : Int))) :
    Calls Tryd.prog 17 #[.pointer (some ⟨sb, 0, none⟩), .int .i64 n, .int .i64 m] w fun e w' => ∃ V, e = .returned (.tuple #[V, .nilIface]) ∧ Own w' V (s.come.take k) ∧ ReadDone w sb ox oo x y w' V { s with come := s.come.drop k, read := wrap64 (s.read + k) } o false := by
  have hl := look_end E n hn
  obtain ⟨aC, capC, hC, k0, k1⟩ := E.come
  have hq := E.mx.come.le
  have hlt : sb < w.heap.size := E.sb_lt
  obtain ⟨L, hL⟩ : ∃ L, L = s.come.length := ⟨_, rfl⟩
  have HE : Hid (Ends w sb f ox oo x y s o false) := E
  have HK : Hid (k ≤ s.come.length) := hk
  have HC : Hid (s.come.length ≤ 16777216) := hc
  have htl : (s.come.take k).length ≤ 1099511627776 := by simp; omega
  rw [← hL] at k0 hq hc hmk
  have hz : x.q + L ≤ 1099511627776 := by omega
  clear E hk hL
  rcases hmk with ⟨h1, h2⟩ | ⟨h1, h2⟩
  all_goals
    subst h2
    go_enter Tryd.func17, Tryd.ntmps17
    go_wp2_with fail
    refine hl.mono ?_
    rintro e w1 ⟨rfl, hb⟩
    have j0 : Hid (w1.cell? ⟨sb, ox + 2, none⟩ = _) := (hb.cell (p := ⟨sb, ox + 2, none⟩) hlt).trans k0
    have j1 : Hid (w1.cell? ⟨sb, ox + 2 + 1, none⟩ = _) := (hb.cell (p := ⟨sb, ox + 2 + 1, none⟩) hlt).trans k1
    have htk := Hid.mk' (come_take HE.out HK.out HC.out hb)
    have HB : Hid (Below w.heap.size w w1) := hb
    clear k0 k1 hl hb
    go_wp2_with fail
    refine (size_any j0.out j1.out hz).mono ?_
    rintro e w' ⟨rfl, rfl⟩
    clear j0 j1
    go_wp2_with fail
    refine htk.out.mono ?_
    rintro e w2 ⟨F2, C2, q2, rfl, hs2, hF2, hq2, hb2, ht2, hk2⟩
    have hcl := clone_any hs2 htl
    have R := fun (w3 : World) (V3 : Value) ht3 hb3 hlt3 => HE.out.taken (w3 := w3) (V := V3) HK.out ((Turned.ofBelow (S := fun _ => False) HB.out).trans (Turned.drew (fun _ => False) _) (fun _ h => .inl h)) hb2 hq2 ht2 hk2 ht3 hb3 hlt3
    have HR := Hid.mk' R
    clear R hs2 hF2 hq2 hb2 ht2 hk2 htk
    go_wp2_with fail
    refine hcl.mono ?_
    rintro e w3 ⟨V3, rfl, ho3, ht3, hb3⟩
    have HD := Hid.mk' (HR.out w3 V3 ht3 hb3 ho3.blk_lt)
    clear HR ht3 hb3 hcl
    go_wp2
    go_ret2
    exact ⟨V3, rfl, ho3, HD.out⟩

set_option maxRecDepth 100000 in
set_option maxHeartbeats 1600000 in
theorem read_take1 (E : Ends w sb f ox oo x y s o true) (n m : Int) (hn : (n = 0 ∧ ox = 1) ∨ (n = 1 ∧ ox = 8)) (hm : ¬ m < 0) (hne : s.come ≠ []) (hc : s.come.length ≤ 16777216) (k : Nat) (hk : k ≤ s.come.length) (hmk : ((s.come.length : Int) < m ∧ k = s.come.length) ∨ (¬ (s.come.length : Int) < m ∧ m = (k : Int))) :
    Calls Tryd.prog 17 #[.pointer (some ⟨sb, 0, none⟩), .int .i64 n, .int .i64 m] w fun e w' => ∃ V, e = .returned (.tuple #[V, .nilIface]) ∧ Own w' V (s.come.take k) ∧ ReadDone w sb ox oo x y w' V { s with come := s.come.drop k, read := wrap64 (s.read + k) } o true := by
  have hl := look_end E n hn
  obtain ⟨aC, capC, hC, k0, k1⟩ := E.come
  have hq := E.mx.come.le
  have hlt : sb < w.heap.size := E.sb_lt
  obtain ⟨L, hL⟩ : ∃ L, L = s.come.length := ⟨_, rfl⟩
  have hL0 : ((L : Int) == 0) = false := by
    have h0 : L ≠ 0 := fun h => hne (List.eq_nil_of_length_eq_zero (hL ▸ h))
    simp; omega
  clear hne
  have HE : Hid (Ends w sb f ox oo x y s o true) := E
  have HK : Hid (k ≤ s.come.length) := hk
  have HC : Hid (s.come.length ≤ 16777216) := hc
  have htl : (s.come.take k).length ≤ 1099511627776 := by simp; omega
  rw [← hL] at k0 hq hc hmk
  have hz : x.q + L ≤ 1099511627776 := by omega
  clear E hk hL
  rcases hmk with ⟨h1, h2⟩ | ⟨h1, h2⟩
  all_goals
    subst h2
    go_enter Tryd.func17, Tryd.ntmps17
    go_wp2_with fail
    refine hl.mono ?_
    rintro e w1 ⟨rfl, hb⟩
    have j0 : Hid (w1.cell? ⟨sb, ox + 2, none⟩ = _) := (hb.cell (p := ⟨sb, ox + 2, none⟩) hlt).trans k0
    have j1 : Hid (w1.cell? ⟨sb, ox + 2 + 1, none⟩ = _) := (hb.cell (p := ⟨sb, ox + 2 + 1, none⟩) hlt).trans k1
    have htk := Hid.mk' (come_take HE.out HK.out HC.out hb)
    have HB : Hid (Below w.heap.size w w1) := hb
    clear k0 k1 hl hb
    go_wp2_with fail
    refine (size_any j0.out j1.out hz).mono ?_
    rintro e w' ⟨rfl, rfl⟩
    clear j0 j1
    go_wp2_with fail
    refine htk.out.mono ?_
    rintro e w2 ⟨F2, C2, q2, rfl, hs2, hF2, hq2, hb2, ht2, hk2⟩
    have hcl := clone_any hs2 htl
    have R := fun (w3 : World) (V3 : Value) ht3 hb3 hlt3 => HE.out.taken (w3 := w3) (V := V3) HK.out ((Turned.ofBelow (S := fun _ => False) HB.out).trans (Turned.drew (fun _ => False) _) (fun _ h => .inl h)) hb2 hq2 ht2 hk2 ht3 hb3 hlt3
    have HR := Hid.mk' R
    clear R hs2 hF2 hq2 hb2 ht2 hk2 htk
    go_wp2_with fail
    refine hcl.mono ?_
    rintro e w3 ⟨V3, rfl, ho3, ht3, hb3⟩
    have HD := Hid.mk' (HR.out w3 V3 ht3 hb3 ho3.blk_lt)
    clear HR ht3 hb3 hcl
    go_wp2
    go_ret2
    exact ⟨V3, rfl, ho3, HD.out⟩

end
end Go.Proofs.YtjkmklbkemoldaaDoor
