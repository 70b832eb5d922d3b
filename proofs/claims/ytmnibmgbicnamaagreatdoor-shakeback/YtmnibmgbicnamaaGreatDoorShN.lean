/-
  Layer 8 (shake): the program's sides in memory; small things of them.
-/
import Derived.Test.YtmnibmgbicnamaaGreatDoorShM
import Derived.Test.YtmnibmgbicnamaaGreatDoorSlRows
import Derived.Test.YtmnibmgbicnamaaGreatDoorMxf
namespace Go.Proofs.YtmnibmgbicnamaaGreatDoor
open Go.RowKit

/-- A side's cells. -/
def sdCell (g : Nat) (st : Int) (p : Pr) (si : Bool) (me : Pr) (want cookie : ByteArray) (ch : Int) : Nat → Value
  | 0 => .pointer (some ⟨g, 0, none⟩)
  | 1 => .int .i64 st
  | 2 => .string p.name
  | 3 => .int .u64 p.flags
  | 4 => .int .u32 p.creation
  | 5 => .bool si
  | 6 => .string me.name
  | 7 => .int .u64 me.flags
  | 8 => .int .u32 me.creation
  | 9 => .string want
  | 10 => .string cookie
  | _ => .int .u32 ch
theorem forall12 {p : Nat → Prop} (h0 : p 0) (h1 : p 1) (h2 : p 2) (h3 : p 3) (h4 : p 4) (h5 : p 5) (h6 : p 6) (h7 : p 7) (h8 : p 8) (h9 : p 9) (h10 : p 10) (h11 : p 11) : ∀ j, j < 12 → p j
  | 0, _ => h0 | 1, _ => h1 | 2, _ => h2 | 3, _ => h3 | 4, _ => h4 | 5, _ => h5 | 6, _ => h6 | 7, _ => h7 | 8, _ => h8 | 9, _ => h9 | 10, _ => h10 | 11, _ => h11
  | j + 12, h => by omega
/-- A side in memory, as it keeps itself: what it was made of it may have forgotten. -/
structure SideM (w : World) (g : Nat) (s : Sd) (me : Pr) (want cookie : ByteArray) (ch : Int) : Prop where
  cells : Block w g 12 (sdCell g s.state s.peer s.simult me want cookie ch)
  keeps : s.state ≠ 7 → s.state ≠ 8 → cookie = s.cookie ∧ ch = s.challenge ∧ (s.state ≤ 3 → want = s.want) ∧ (4 ≤ s.state → me = s.me)
def SideAt (w : World) (g : Nat) (s : Sd) : Prop := ∃ me want cookie ch, SideM w g s me want cookie ch
theorem SideM.turned {S : Nat → Prop} {w w' : World} {g : Nat} {s : Sd} {me : Pr} {want cookie : ByteArray} {ch : Int} (h : SideM w g s me want cookie ch) (ht : Turned S w w') (hs : ¬ S g) : SideM w' g s me want cookie ch := ⟨h.cells.turned ht hs, h.keeps⟩
theorem SideAt.turned {S : Nat → Prop} {w w' : World} {g : Nat} {s : Sd} (h : SideAt w g s) (ht : Turned S w w') (hs : ¬ S g) : SideAt w' g s := by
  obtain ⟨me, want, cookie, ch, h⟩ := h
  exact ⟨me, want, cookie, ch, h.turned ht hs⟩
theorem SideAt.below {w w' : World} {g : Nat} {s : Sd} (h : SideAt w g s) (hb : Below w.heap.size w w') : SideAt w' g s := h.turned (Turned.ofBelow (S := fun _ => False) hb) (fun h => h)
theorem SideM.lt {w : World} {g : Nat} {s : Sd} {me : Pr} {want cookie : ByteArray} {ch : Int} (h : SideM w g s me want cookie ch) : g < w.heap.size := h.cells.lt (by omega)
theorem SideAt.lt {w : World} {g : Nat} {s : Sd} (h : SideAt w g s) : g < w.heap.size := by
  obtain ⟨_, _, _, _, h⟩ := h
  exact h.lt
/-- Errors' type and the powers of ten lie in their variables. -/
structure Gd (w : World) : Prop where
  er : Er w
  tb : Tb w
theorem Gd.below {w w' : World} (h : Gd w) (hb : Below w.heap.size w w') : Gd w' := ⟨h.er.below hb, h.tb.below hb⟩
/-- How many of the first blocks are variables'. -/
theorem Gd.lt {w : World} (h : Gd w) : 0 < w.heap.size := h.er.lt

theorem Tryz.eqlSide (g : Nat) (w : World) : (binOp .eql 50 (.pointer (some ⟨g, 0, none⟩)) (.pointer (some ⟨g, 0, none⟩))).run Tryz.prog w = .ok (.bool true) w := by
  have h : ∀ d : Nat, (Op.equalIn (d + 1) 50 (.pointer (some ⟨g, 0, none⟩)) (.pointer (some ⟨g, 0, none⟩))).run Tryz.prog w = .ok true w := fun d => by simp [Op.equalIn, run_underlying Tryz.underlying50, sameAddr]
  simp only [binOp]
  simp [Op.equal, Op.maxDepth, h 9999]
theorem Tryz.eqlNilSide (a : Addr) (w : World) : (binOp .eql 50 (.pointer none) (.pointer (some a))).run Tryz.prog w = .ok (.bool false) w := by
  have h : ∀ d : Nat, (Op.equalIn (d + 1) 50 (.pointer none) (.pointer (some a))).run Tryz.prog w = .ok false w := fun d => by simp [Op.equalIn, run_underlying Tryz.underlying50]
  simp only [binOp]
  simp [Op.equal, Op.maxDepth, h 9999]
set_option maxRecDepth 100000 in
theorem sd_made {w : World} {g : Nat} {f : Nat → Value} (h : Block w g 12 f) (h0 : f 0 = .pointer (some ⟨g, 0, none⟩)) : Calls Tryz.prog 59 #[.pointer (some ⟨g, 0, none⟩)] w fun e w' => e = .returned (.bool true) ∧ w = w' := by
  obtain ⟨k0, _⟩ := h 0 (by omega)
  rw [h0] at k0
  have he := Tryz.eqlSide g
  clear h h0
  go_enter Tryz.func59, Tryz.ntmps59
  go_wp2
  go_ret
  exact ⟨rfl, rfl⟩
/-- What stands in the way of Take (or Answer). -/
def enterErr (answers : Bool) (st : Int) : List Lnk := if st = 8 then sh 0 8 else if answers = true then (if st = 5 then [] else sh 0 161) else (if st = 7 ∨ st = 5 then sh 0 161 else [])
set_option maxRecDepth 100000 in
set_option maxHeartbeats 1600000 in
theorem sd_enter {w : World} {g : Nat} {st : Int} {p : Pr} {si : Bool} {me : Pr} {want cookie : ByteArray} {ch : Int} (h : Block w g 12 (sdCell g st p si me want cookie ch)) (ans : Bool) : Calls Tryz.prog 49 #[.pointer (some ⟨g, 0, none⟩), .bool ans] w fun e w' => ∃ v, e = .returned v ∧ FaultC w.heap.size w' v (enterErr ans st) ∧ Below w.heap.size w w' := by
  have hmd := sd_made h rfl
  obtain ⟨k1, _⟩ := h 1 (by omega)
  simp only [sdCell] at k1
  have HE : Hid (∀ ls, enterErr ans st = ls → ls = enterErr ans st) := fun _ h => h.symm
  obtain ⟨ls, hls⟩ : ∃ ls, ls = enterErr ans st := ⟨_, rfl⟩
  rw [← hls]
  have HLS : Hid (ls = enterErr ans st) := hls
  clear hls h HE
  by_cases h8 : st = 8
  · subst h8
    go_enter Tryz.func49, Tryz.ntmps49
    go_wp2_with fail
    refine hmd.mono ?_
    rintro e w' ⟨rfl, rfl⟩
    go_wp2_with fail
    refine (sh_refuse _ _ _).mono ?_
    rintro e w2 ⟨v, rfl, hf, hb⟩
    have HF : Hid (FaultC w.heap.size w2 v (sh 0 8)) := hf
    obtain ⟨pb, _, rfl, _⟩ := hf
    go_wp2
    go_ret
    exact ⟨_, rfl, by rw [HLS.out]; exact HF.out, hb⟩
  have q8 : (st == 8) = false := by simpa using h8
  by_cases h5 : st = 5
  · subst h5
    cases ans with
    | true =>
      go_enter Tryz.func49, Tryz.ntmps49
      go_wp2_with fail
      refine hmd.mono ?_
      rintro e w' ⟨rfl, rfl⟩
      go_wp2
      go_ret
      exact ⟨_, rfl, by rw [HLS.out]; rfl, Below.refl _ _⟩
    | false =>
      go_enter Tryz.func49, Tryz.ntmps49
      go_wp2_with fail
      refine hmd.mono ?_
      rintro e w' ⟨rfl, rfl⟩
      go_wp2_with fail
      refine (sh_refuse _ _ _).mono ?_
      rintro e w2 ⟨v, rfl, hf, hb⟩
      have HF : Hid (FaultC w.heap.size w2 v (sh 0 161)) := hf
      obtain ⟨pb, _, rfl, _⟩ := hf
      go_wp2
      go_ret
      exact ⟨_, rfl, by rw [HLS.out]; exact HF.out, hb⟩
  have q5 : (st == 5) = false := by simpa using h5
  by_cases h7 : st = 7
  · subst h7
    have HL2 : Hid (ls = sh 0 161) := by rw [HLS.out]; cases ans <;> rfl
    go_enter Tryz.func49, Tryz.ntmps49
    go_wp2_with fail
    refine hmd.mono ?_
    rintro e w' ⟨rfl, rfl⟩
    go_wp2_with fail
    refine (sh_refuse _ _ _).mono ?_
    rintro e w2 ⟨v, rfl, hf, hb⟩
    have HF : Hid (FaultC w.heap.size w2 v (sh 0 161)) := hf
    obtain ⟨pb, _, rfl, _⟩ := hf
    go_wp2
    go_ret
    exact ⟨_, rfl, by rw [HL2.out]; exact HF.out, hb⟩
  have q7 : (st == 7) = false := by simpa using h7
  cases ans with
  | true =>
    have hL2 : ls = sh 0 161 := by rw [HLS.out]; simp [enterErr, h8, h5]
    have HL2 : Hid (ls = sh 0 161) := hL2
    clear hL2
    go_enter Tryz.func49, Tryz.ntmps49
    go_wp2_with fail
    refine hmd.mono ?_
    rintro e w' ⟨rfl, rfl⟩
    go_wp2_with fail
    refine (sh_refuse _ _ _).mono ?_
    rintro e w2 ⟨v, rfl, hf, hb⟩
    have HF : Hid (FaultC w.heap.size w2 v (sh 0 161)) := hf
    obtain ⟨pb, _, rfl, _⟩ := hf
    go_wp2
    go_ret
    exact ⟨_, rfl, by rw [HL2.out]; exact HF.out, hb⟩
  | false =>
    have hL2 : ls = [] := by rw [HLS.out]; simp [enterErr, h8, h5, h7]
    have HL2 : Hid (ls = []) := hL2
    clear hL2
    go_enter Tryz.func49, Tryz.ntmps49
    go_wp2_with fail
    refine hmd.mono ?_
    rintro e w' ⟨rfl, rfl⟩
    go_wp2
    go_ret
    exact ⟨_, rfl, by rw [HL2.out]; rfl, Below.refl _ _⟩

theorem turned12 (w : World) (g : Nat) (v : Nat → Value) : Turned (fun k => k = g) w ((((((((((((w.setCell ⟨g, 0, none⟩ (v 0)).setCell ⟨g, 1, none⟩ (v 1)).setCell ⟨g, 2, none⟩ (v 2)).setCell ⟨g, 3, none⟩ (v 3)).setCell ⟨g, 4, none⟩ (v 4)).setCell ⟨g, 5, none⟩ (v 5)).setCell ⟨g, 6, none⟩ (v 6)).setCell ⟨g, 7, none⟩ (v 7)).setCell ⟨g, 8, none⟩ (v 8)).setCell ⟨g, 9, none⟩ (v 9)).setCell ⟨g, 10, none⟩ (v 10)).setCell ⟨g, 11, none⟩ (v 11)) :=
  (((((turned7 w g (v 0) (v 1) (v 2) (v 3) (v 4) (v 5) (v 6)).trans (Turned.set1 _ g 7 (v 7)) (fun _ h => .inl h)).trans (Turned.set1 _ g 8 (v 8)) (fun _ h => .inl h)).trans (Turned.set1 _ g 9 (v 9)) (fun _ h => .inl h)).trans (Turned.set1 _ g 10 (v 10)) (fun _ h => .inl h)).trans (Turned.set1 _ g 11 (v 11)) (fun _ h => .inl h)
theorem block12 {w : World} {g : Nat} {f : Nat → Value} (h : Block w g 12 f) (v : Nat → Value) : Block ((((((((((((w.setCell ⟨g, 0, none⟩ (v 0)).setCell ⟨g, 1, none⟩ (v 1)).setCell ⟨g, 2, none⟩ (v 2)).setCell ⟨g, 3, none⟩ (v 3)).setCell ⟨g, 4, none⟩ (v 4)).setCell ⟨g, 5, none⟩ (v 5)).setCell ⟨g, 6, none⟩ (v 6)).setCell ⟨g, 7, none⟩ (v 7)).setCell ⟨g, 8, none⟩ (v 8)).setCell ⟨g, 9, none⟩ (v 9)).setCell ⟨g, 10, none⟩ (v 10)).setCell ⟨g, 11, none⟩ (v 11)) g 12 v :=
  ((((((((((((h.set 0 (v 0)).set 1 (v 1)).set 2 (v 2)).set 3 (v 3)).set 4 (v 4)).set 5 (v 5)).set 6 (v 6)).set 7 (v 7)).set 8 (v 8)).set 9 (v 9)).set 10 (v 10)).set 11 (v 11)).congr (forall12 rfl rfl rfl rfl rfl rfl rfl rfl rfl rfl rfl rfl)
set_option maxRecDepth 100000 in
set_option maxHeartbeats 1600000 in
theorem sd_die {w : World} {g : Nat} {st : Int} {p : Pr} {si : Bool} {me : Pr} {want cookie : ByteArray} {ch : Int} (h : Block w g 12 (sdCell g st p si me want cookie ch)) (s : Sd) : Calls Tryz.prog 52 #[.pointer (some ⟨g, 0, none⟩)] w fun e w' => e = .returned (.tuple #[]) ∧ SideAt w' g s.dead ∧ Turned (fun k => k = g) w w' := by
  have HB : Hid (Block w g 12 (sdCell g st p si me want cookie ch)) := h
  obtain ⟨k0, f0⟩ := h 0 (by omega)
  obtain ⟨k1, f1⟩ := h 1 (by omega)
  obtain ⟨k2, f2⟩ := h 2 (by omega)
  obtain ⟨k3, f3⟩ := h 3 (by omega)
  obtain ⟨k4, f4⟩ := h 4 (by omega)
  obtain ⟨k5, f5⟩ := h 5 (by omega)
  obtain ⟨k6, f6⟩ := h 6 (by omega)
  obtain ⟨k7, f7⟩ := h 7 (by omega)
  obtain ⟨k8, f8⟩ := h 8 (by omega)
  obtain ⟨k9, f9⟩ := h 9 (by omega)
  obtain ⟨k10, f10⟩ := h 10 (by omega)
  obtain ⟨k11, f11⟩ := h 11 (by omega)
  simp only [sdCell] at k0 k1 k2 k3 k4 k5 k6 k7 k8 k9 k10 k11
  clear h
  go_enter Tryz.func52, Tryz.ntmps52
  go_wp2
  go_end0
  refine ⟨rfl, ⟨.zero, ⟨#[]⟩, ⟨#[]⟩, 0, block12 HB.out (sdCell g 8 .zero false .zero ⟨#[]⟩ ⟨#[]⟩ 0), fun _ h8 => absurd rfl h8⟩, turned12 w g (sdCell g 8 .zero false .zero ⟨#[]⟩ ⟨#[]⟩ 0)⟩
set_option maxRecDepth 100000 in
set_option maxHeartbeats 1600000 in
theorem sd_rise {w : World} {g : Nat} {st : Int} {p : Pr} {si : Bool} {me : Pr} {want cookie : ByteArray} {ch : Int} (h : Block w g 12 (sdCell g st p si me want cookie ch)) (s : Sd) (hp : s.peer = p) (hsi : s.simult = si) : Calls Tryz.prog 106 #[.pointer (some ⟨g, 0, none⟩)] w fun e w' => e = .returned (.tuple #[]) ∧ SideAt w' g { s with state := 7 } ∧ Turned (fun k => k = g) w w' := by
  have HB : Hid (Block w g 12 (sdCell g st p si me want cookie ch)) := h
  obtain ⟨k0, f0⟩ := h 0 (by omega)
  obtain ⟨k1, f1⟩ := h 1 (by omega)
  obtain ⟨k2, f2⟩ := h 2 (by omega)
  obtain ⟨k3, f3⟩ := h 3 (by omega)
  obtain ⟨k4, f4⟩ := h 4 (by omega)
  obtain ⟨k5, f5⟩ := h 5 (by omega)
  obtain ⟨k6, f6⟩ := h 6 (by omega)
  obtain ⟨k7, f7⟩ := h 7 (by omega)
  obtain ⟨k8, f8⟩ := h 8 (by omega)
  obtain ⟨k9, f9⟩ := h 9 (by omega)
  obtain ⟨k10, f10⟩ := h 10 (by omega)
  obtain ⟨k11, f11⟩ := h 11 (by omega)
  simp only [sdCell] at k0 k1 k2 k3 k4 k5 k6 k7 k8 k9 k10 k11
  clear h
  subst hp hsi
  go_enter Tryz.func106, Tryz.ntmps106
  go_wp2
  go_end0
  have T := (Turned.set1 w g 1 (.int .i64 7)).trans (turned12 (w.setCell ⟨g, 1, none⟩ (.int .i64 7)) g (sdCell g 7 s.peer s.simult .zero ⟨#[]⟩ ⟨#[]⟩ 0)) (fun _ h => .inl h)
  exact ⟨rfl, ⟨.zero, ⟨#[]⟩, ⟨#[]⟩, 0, block12 (Block.set HB.out 1 (.int .i64 7)) (sdCell g 7 s.peer s.simult .zero ⟨#[]⟩ ⟨#[]⟩ 0), fun h7 => absurd rfl h7⟩, T⟩
set_option maxRecDepth 100000 in
set_option maxHeartbeats 1600000 in
/-- The program's Now. -/
theorem sd_now {w : World} {g : Nat} {s : Sd} (h : SideAt w g s) : Calls Tryz.prog 22 #[.pointer (some ⟨g, 0, none⟩)] w fun e w' => e = .returned (.agg #[.int .i64 s.state, .string s.peer.name, .int .u64 s.peer.flags, .int .u32 s.peer.creation, .bool s.simult]) ∧ Below w.heap.size w w' := by
  obtain ⟨me, want, cookie, ch, h⟩ := h
  have hgl := h.lt
  have hmd := fun o : Obj => sd_made (h.cells.turned (alloc0m w o) (fun h => h)) rfl
  obtain ⟨k1, _⟩ := h.cells 1 (by omega)
  obtain ⟨k2, _⟩ := h.cells 2 (by omega)
  obtain ⟨k3, _⟩ := h.cells 3 (by omega)
  obtain ⟨k4, _⟩ := h.cells 4 (by omega)
  obtain ⟨k5, _⟩ := h.cells 5 (by omega)
  simp only [sdCell] at k1 k2 k3 k4 k5
  clear h
  go_enter Tryz.func22, Tryz.ntmps22
  go_wp2_with fail
  refine (hmd _).mono ?_
  rintro e w' ⟨rfl, rfl⟩
  go_wp2
  refine bodyPost_ret (v := .agg #[.int .i64 s.state, .string s.peer.name, .int .u64 s.peer.flags, .int .u32 s.peer.creation, .bool s.simult]) (by simp [results, Tryz.results22, go_sem]) rfl ⟨rfl, ?_⟩
  exact (Below.refl _ _).alloc (Nat.le_refl _) _
end Go.Proofs.YtmnibmgbicnamaaGreatDoor
