/-
  pipe and State.
-/
import Derived.Test.YtjkmklbkemoldaaDoorStrmRead
namespace Go.Proofs.YtjkmklbkemoldaaDoor
open Go.RowKit

theorem wrapEq (x : Int) : IntKind.i64.wrap x = wrap64 x := by rw [IntKind.wrap_i64]; unfold wrap64; omega

section
variable {w : World} {sb ox oo : Nat} {f : Nat → Value} {x y : SideV} {s o : Side} {sh : Bool}

set_option maxRecDepth 100000 in
set_option maxHeartbeats 3200000 in
theorem pipe_any (E : Ends w sb f ox oo x y s o sh) (hu : s.und.length ≤ 16777216) (hc : s.come.length ≤ 16777216) :
    Calls Tryd.prog 42 #[.pointer (some ⟨sb, ox, none⟩)] w fun e w' => e = .returned (.agg #[.int .i64 s.und.length, .int .i64 s.come.length, .int .i64 s.sent, .int .i64 s.moved, .int .i64 (wrap64 (s.moved - (s.come.length : Nat))), .bool s.stall, .bool false]) ∧ Below w.heap.size w w' := by
  have hxl := E.ox_lt
  have hlt := E.sb_lt
  obtain ⟨aU, capU, hU, kU, kP⟩ := E.under
  obtain ⟨aC, capC, hC, kC, kQ⟩ := E.come
  have hp := E.mx.und.le
  have hq := E.mx.come.le
  obtain ⟨k4, _⟩ := E.cells (ox + 4) (by omega)
  rw [E.cx.sent] at k4
  obtain ⟨k5, _⟩ := E.cells (ox + 5) (by omega)
  rw [E.cx.moved] at k5
  obtain ⟨k6, _⟩ := E.cells (ox + 6) (by omega)
  rw [E.cx.stall] at k6
  have hz : x.p + s.und.length ≤ 1099511627776 := by omega
  have hzq : x.q + s.come.length ≤ 1099511627776 := by omega
  obtain ⟨L, hL⟩ : ∃ L, L = s.come.length := ⟨_, rfl⟩
  obtain ⟨M, hM⟩ : ∃ M, M = s.und.length := ⟨_, rfl⟩
  rw [← hL] at kC hzq
  rw [← hM] at kU hz
  rw [← hL, ← hM]
  have hz0 := fun (c : Obj) (i : Nat) => World.cell?_alloc_lt w c ⟨sb, i, none⟩ hlt
  have hsz : ∀ c : Obj, Calls Tryd.prog 36 #[.pointer (some ⟨sb, ox + 2, none⟩)] (w.alloc c) fun e w' => e = .returned (.int .i64 L) ∧ w' = (w.alloc c).drew := fun c => size_any (by rw [hz0]; exact kC) (by rw [hz0]; exact kQ) hzq
  have hgn : ∀ i j : Nat, (⟨w.heap.size, i, none⟩ : Addr) ≠ ⟨sb, j, none⟩ := fun i j he => by have := congrArg Addr.block he; simp at this; omega
  clear E hU hC kC kQ hz0 hL hM
  go_enter Tryd.func42, Tryd.ntmps42
  go_wp2_with fail
  refine (hsz _).mono ?_
  rintro e w' ⟨rfl, rfl⟩
  go_wp2_with fail
  go_region_held3 (fun w' => w'.cell? ⟨sb, ox, none⟩ = some (.slice aU (x.p + M) capU) ∧ w'.cell? ⟨sb, ox + 1, none⟩ = some (.int .i64 (x.p : Nat)) ∧ w'.cell? ⟨sb, ox + 4, none⟩ = some (.int .i64 s.sent) ∧ w'.cell? ⟨sb, ox + 5, none⟩ = some (.int .i64 s.moved) ∧ w'.cell? ⟨sb, ox + 6, none⟩ = some (.bool s.stall))
    (go_keep)
    (first | (go_at_call 36; refine (size_any (p := x.p) (z := M) (a := aU) (cap := capU) ?_ ?_ hz).mono ?_; (simp [*]); (simp [*]); rintro e w' ⟨rfl, rfl⟩))
  all_goals
    go_wp2
    exact bodyPost_ret (v := .agg #[.int .i64 M, .int .i64 L, .int .i64 s.sent, .int .i64 s.moved, .int .i64 (wrap64 (s.moved - (L : Nat))), .bool s.stall, .bool false]) (by simp [results, Tryd.results42, go_sem, wrapEq]) rfl ⟨rfl, ((Below.refl _ _).alloc (Nat.le_refl _) _).drew.drew.drew⟩

set_option maxRecDepth 100000 in
set_option maxHeartbeats 1600000 in
theorem state_bad (E : Ends w sb f 1 8 x y s o sh) (n : Int) (h0 : (n == 0) = false) (h1 : (n == 1) = false) : Calls Tryd.prog 20 #[.pointer (some ⟨sb, 0, none⟩), .int .i64 n] w fun e w' => ∃ v, e = .returned (.tuple #[.agg #[.int .i64 0, .int .i64 0, .int .i64 0, .int .i64 0, .int .i64 0, .bool false, .bool false], v]) ∧ FaultOf w.heap.size w' v 2 ∧ Below w.heap.size w w' := by
  have hl := fun c : Obj => look_bad (E.fresh (Turned.alloc (fun _ => False) w c)) n h0 h1
  clear E
  go_enter Tryd.func20, Tryd.ntmps20
  go_wp2_with fail
  refine (hl _).mono ?_
  rintro e w1 ⟨v, rfl, hf, hb⟩
  obtain ⟨pb, hpb, rfl, f0, f1, f2, f3⟩ := hf
  obtain ⟨hc, hfz⟩ := belowCells hb
  have hz := hb.size
  simp at hz
  simp at hpb
  have HB : Hid (Below (w.heap.size + 1) (w.alloc (.cells #[.int .i64 0, .int .i64 0, .int .i64 0, .int .i64 0, .int .i64 0, .bool false, .bool false] 45)) w1) := by unfold Hid; simpa using hb
  have hne : ∀ i j : Nat, (⟨w.heap.size, i, none⟩ : Addr) ≠ ⟨pb, j, none⟩ := fun i j he => by have := congrArg Addr.block he; simp at this; omega
  clear hb hl
  go_wp2
  refine bodyPost_ret (v := .tuple #[.agg #[.int .i64 0, .int .i64 0, .int .i64 0, .int .i64 0, .int .i64 0, .bool false, .bool false], .iface 98 (.pointer (some ⟨pb, 0, none⟩))]) (by simp [results, Tryd.results20, go_sem, hc]) rfl ⟨_, rfl, ⟨pb, by omega, rfl, ?_, ?_, ?_, ?_⟩, ?_⟩
  · simp only [World.cell?_setCell_other _ _ _ _ (hne _ _)]; exact f0
  · simp only [World.cell?_setCell_other _ _ _ _ (hne _ _)]; exact f1
  · simp only [World.cell?_setCell_other _ _ _ _ (hne _ _)]; exact f2
  · simp only [World.cell?_setCell_other _ _ _ _ (hne _ _)]; exact f3
  · have hbase : Below w.heap.size w w1 := ((Below.refl _ _).alloc (Nat.le_refl _) _).trans (HB.out.mono (by omega))
    exact (((((((hbase.setCell (p := ⟨w.heap.size, 0, none⟩) (Nat.le_refl _) _).setCell (p := ⟨w.heap.size, 1, none⟩) (Nat.le_refl _) _).setCell (p := ⟨w.heap.size, 2, none⟩) (Nat.le_refl _) _).setCell (p := ⟨w.heap.size, 3, none⟩) (Nat.le_refl _) _).setCell (p := ⟨w.heap.size, 4, none⟩) (Nat.le_refl _) _).setCell (p := ⟨w.heap.size, 5, none⟩) (Nat.le_refl _) _).setCell (p := ⟨w.heap.size, 6, none⟩) (Nat.le_refl _) _)

set_option maxRecDepth 100000 in
set_option maxHeartbeats 3200000 in
theorem state_ok (E : Ends w sb f ox oo x y s o sh) (n : Int) (hn : (n = 0 ∧ ox = 1) ∨ (n = 1 ∧ ox = 8)) (hu : s.und.length ≤ 16777216) (hc : s.come.length ≤ 16777216) :
    Calls Tryd.prog 20 #[.pointer (some ⟨sb, 0, none⟩), .int .i64 n] w fun e w' => e = .returned (.tuple #[.agg #[.int .i64 s.und.length, .int .i64 s.come.length, .int .i64 s.sent, .int .i64 s.moved, .int .i64 s.read, .bool s.stall, .bool sh], .nilIface]) ∧ Below w.heap.size w w' := by
  have hl := fun c : Obj => look_end (E.fresh (Turned.alloc (fun _ => False) w c)) n hn
  have hpipe := fun (c : Obj) (w1 : World) (hb : Below (w.alloc c).heap.size (w.alloc c) w1) => pipe_any ((E.fresh (Turned.alloc (fun _ => False) w c)).below hb) hu hc
  rw [← E.mx.read] at hpipe
  generalize s.und.length = M at hpipe ⊢
  generalize s.come.length = L at hpipe ⊢
  clear E
  go_enter Tryd.func20, Tryd.ntmps20
  go_wp2_with fail
  refine (hl _).mono ?_
  rintro e w1 ⟨rfl, hb⟩
  have hp1 := hpipe _ w1 hb
  have HB : Hid (Below (w.alloc (.cells #[.int .i64 0, .int .i64 0, .int .i64 0, .int .i64 0, .int .i64 0, .bool false, .bool false] 45)).heap.size (w.alloc (.cells #[.int .i64 0, .int .i64 0, .int .i64 0, .int .i64 0, .int .i64 0, .bool false, .bool false] 45)) w1) := hb
  clear hl hpipe hb
  go_wp2_with fail
  refine hp1.mono ?_
  rintro e w2 ⟨rfl, hb2⟩
  have hb3 := HB.out.trans (hb2.mono HB.out.size)
  have hz := hb3.size
  simp at hz
  have hA : ∀ (c : Obj) (j : Nat), (w2.alloc c).cell? ⟨w.heap.size, j, none⟩ = (w.alloc (.cells #[.int .i64 0, .int .i64 0, .int .i64 0, .int .i64 0, .int .i64 0, .bool false, .bool false] 45)).cell? ⟨w.heap.size, j, none⟩ := fun c j => (World.cell?_alloc_lt w2 c ⟨w.heap.size, j, none⟩ (by show w.heap.size < w2.heap.size; omega)).trans (hb3.cell (p := ⟨w.heap.size, j, none⟩) (by simp))
  have hF : ∀ (c : Obj) (j : Nat), (w2.alloc c).frozen? ⟨w.heap.size, j, none⟩ = false := fun c j => ((((Below.refl w2.heap.size w2).alloc (Nat.le_refl _) c).frozen (p := ⟨w.heap.size, j, none⟩) (by show w.heap.size < w2.heap.size; omega)).trans (hb3.frozen (p := ⟨w.heap.size, j, none⟩) (by simp))).trans (by simp)
  have HB3 : Hid (Below (w.heap.size + 1) (w.alloc (.cells #[.int .i64 0, .int .i64 0, .int .i64 0, .int .i64 0, .int .i64 0, .bool false, .bool false] 45)) w2) := by unfold Hid; simpa using hb3
  clear hp1 hb2 hb3 HB
  go_wp2
  refine bodyPost_ret (v := .tuple #[.agg #[.int .i64 M, .int .i64 L, .int .i64 s.sent, .int .i64 s.moved, .int .i64 s.read, .bool s.stall, .bool sh], .nilIface]) (by simp [results, Tryd.results20, go_sem, hA]) rfl ⟨rfl, ?_⟩
  have hbase : Below w.heap.size w w2 := ((Below.refl _ _).alloc (Nat.le_refl _) _).trans (HB3.out.mono (by omega))
  have hb4 := fun c : Obj => hbase.alloc (by omega) c
  exact ((((((((hb4 _).setCell (p := ⟨w.heap.size, 0, none⟩) (Nat.le_refl _) _).setCell (p := ⟨w.heap.size, 1, none⟩) (Nat.le_refl _) _).setCell (p := ⟨w.heap.size, 2, none⟩) (Nat.le_refl _) _).setCell (p := ⟨w.heap.size, 3, none⟩) (Nat.le_refl _) _).setCell (p := ⟨w.heap.size, 4, none⟩) (Nat.le_refl _) _).setCell (p := ⟨w.heap.size, 5, none⟩) (Nat.le_refl _) _).setCell (p := ⟨w.heap.size, 6, none⟩) (Nat.le_refl _) _)
end
end Go.Proofs.YtjkmklbkemoldaaDoor
