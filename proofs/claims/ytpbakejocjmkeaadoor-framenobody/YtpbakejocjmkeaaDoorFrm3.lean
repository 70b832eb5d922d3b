/-
  The program's Frame.
-/
import Derived.Test.YtpbakejocjmkeaaDoorFrm2
namespace Go.Proofs.YtpbakejocjmkeaaDoor
open Go.RowKit

set_option maxRecDepth 100000 in
theorem frm_frame_arg (n : Int) (h2 : n ≠ 2) (h4 : n ≠ 4) (b : Value) (w : World) :
    Calls Tryd.prog 7 #[.int .i64 n, b] w fun e w' => ∃ v, e = .returned (.tuple #[.slice none 0 0, v]) ∧ FaultAt w.heap.size w' v (0, 1) ∧ Below w.heap.size w w' := by
  go_enter Tryd.func7, Tryd.ntmps7
  go_wp2_with fail
  refine (frm_greatest_no n h2 h4 w).mono ?_
  rintro e w' ⟨rfl, rfl⟩
  go_wp2_with (go_at_call 25; refine (frm_refuse _ _ _).mono ?_; rintro e w1 ⟨v, rfl, hf, hb⟩)
  go_ret2
  exact ⟨v, rfl, hf, hb⟩

set_option maxRecDepth 100000 in
theorem frm_frame_long (n : Nat) (hn : n = 2 ∨ n = 4) {b : Value} {bs : List Int} {w : World} (hx : Sl w b bs) (hl : most n < (bs.length : Int)) :
    Calls Tryd.prog 7 #[.int .i64 n, b] w fun e w' => ∃ v, e = .returned (.tuple #[.slice none 0 0, v]) ∧ FaultAt w.heap.size w' v (0, 4) ∧ Below w.heap.size w w' := by
  obtain ⟨ab, cb, hf, hc, hm⟩ := hx.form
  subst hf
  have hg := frm_greatest n hn w
  generalize most n = k at hl hg
  clear hx
  go_enter Tryd.func7, Tryd.ntmps7
  go_wp2_with fail
  refine hg.mono ?_
  rintro e w' ⟨rfl, rfl⟩
  go_wp2_with (go_at_call 25; refine (frm_refuse _ _ _).mono ?_; rintro e w1 ⟨v, rfl, hf, hb⟩)
  go_ret2
  exact ⟨v, rfl, hf, hb⟩

/-- 'make([]byte, n, n+L)'. -/
theorem make_bytes {P : Program} {t e : TypeId} (hB : ByteTypes P t e) (w : World) (n L : Nat) (h : n + L ≤ 281474976710656) : ∃ w1, (Instr.makeSlice t (.int .i64 (n : Int)) (.int .i64 ((n : Int) + (L : Int)))).run P w = .ok (.slice (some ⟨w.heap.size, 0, none⟩) n (n + L)) w1 ∧ Turned (fun _ => False) w w1 ∧ w.heap.size < w1.heap.size ∧ Block w1 w.heap.size (n + L) (fun _ => .int .u8 0) := by
  obtain ⟨i, hi, hz, hsz, hby⟩ := hB.info
  have hr := run_make (P := P) w t e i (.int .u8 0) hB.slice hi hz .i64 .i64 n ((n : Int) + L) (by omega) (by omega) (by rw [hby]; omega) (by omega)
  rw [show ((n : Int) + (L : Int)).toNat = n + L by omega, Int.toNat_natCast, hsz, Nat.mul_one] at hr
  refine ⟨_, hr, alloc0f w _, by simp, fun j hj => ⟨?_, by rw [World.frozen?_alloc_new]⟩⟩
  rw [World.cell?_alloc_at _ _ _ _ rfl]
  have hj' : j < (madeCells (Value.int .u8 0).cells (n + L)).size := by rw [size_madeCells]; exact hj
  rw [Array.getElem?_eq_getElem hj']
  simp [madeCells, Value.cells, Nat.mod_one]
/-- A block that holds bytes, as a slice. -/
theorem Block.own {w : World} {g cap : Nat} {f : Nat → Value} {zs : List Int} (h : Block w g cap f) (hl : zs.length ≤ cap) (h0 : 0 < cap) (hm : cap ≤ maxLen) (hf : ∀ j (hj : j < zs.length), f j = .int .u8 zs[j]) : Own w (.slice (some ⟨g, 0, none⟩) zs.length cap) zs :=
  .inr ⟨g, 0, cap, rfl, hl, hm, h.lt h0, fun j hj => by rw [Nat.zero_add, (h j (by omega)).1, hf j hj], fun j hj => by rw [Nat.zero_add]; exact ⟨by rw [(h j hj).1]; rfl, (h j hj).2⟩⟩

set_option maxRecDepth 100000 in
set_option maxHeartbeats 1600000 in
theorem frm_frame2 {w : World} {b : Value} {bs : List Int} (hx : Sl w b bs) (hl : bs.length ≤ 1024) :
    Calls Tryd.prog 7 #[.int .i64 2, b] w fun e w' => ∃ V, e = .returned (.tuple #[V, .nilIface]) ∧ Own w' V (headOf 2 bs.length ++ bs) ∧ Turned (fun _ => False) w w' ∧ ∀ k, blk V k → w.heap.size ≤ k := by
  obtain ⟨ab, cb, hf, hc, hm⟩ := hx.form
  subst hf
  have h1 : ¬ (1024 : Int) < (bs.length : Int) := by omega
  have hg := frm_greatest 2 (.inl rfl) w
  have hm2' : most ((2 : Nat) : Int) = 1024 := rfl
  rw [hm2'] at hg
  have HX : Hid (Sl w (.slice ab bs.length cb) bs) := hx
  obtain ⟨w1, hmk, T1, hsz, hbk⟩ := make_bytes Tryd.bytes w 2 bs.length (by omega)
  have hmk : (Instr.makeSlice 22 (.int .i64 2) (.int .i64 (2 + (bs.length : Int)))).run Tryd.prog w = .ok (.slice (some ⟨w.heap.size, 0, none⟩) 2 (2 + bs.length)) w1 := hmk
  obtain ⟨c0, f0⟩ := hbk 0 (by omega)
  obtain ⟨c1, f1⟩ := hbk 1 (by omega)
  have T2 : Turned (fun _ => False) w ((w1.setCell ⟨w.heap.size, 1, none⟩ (.int .u8 ((bs.length : Int) % 256))).setCell ⟨w.heap.size, 0, none⟩ (.int .u8 ((bs.length : Int) / 256))) := ((T1.trans (Turned.setCell _ ⟨w.heap.size, 1, none⟩ (.int .u8 ((bs.length : Int) % 256))) (fun _ h => .inr (Nat.le_of_eq h.symm))).trans (Turned.setCell _ ⟨w.heap.size, 0, none⟩ (.int .u8 ((bs.length : Int) / 256))) (fun _ h => .inr (Nat.le_of_eq h.symm)))
  have ho : Own ((w1.setCell ⟨w.heap.size, 1, none⟩ (.int .u8 ((bs.length : Int) % 256))).setCell ⟨w.heap.size, 0, none⟩ (.int .u8 ((bs.length : Int) / 256))) (.slice (some ⟨w.heap.size, 0, none⟩) 2 (2 + bs.length)) [(bs.length : Int) / 256, (bs.length : Int) % 256] := by
    refine Block.own (zs := [(bs.length : Int) / 256, (bs.length : Int) % 256]) ((hbk.set 1 (.int .u8 ((bs.length : Int) % 256))).set 0 (.int .u8 ((bs.length : Int) / 256))) (by simp) (by omega) (by unfold maxLen; omega) (fun j hj => ?_)
    have hj : j < 2 := hj
    match j, hj with
    | 0, _ => rfl
    | 1, _ => rfl
  have hh : headOf 2 bs.length = [(bs.length : Int) / 256, (bs.length : Int) % 256] := by simp [headOf]
  have hx2 := hx.turned T2 (fun _ _ h => h)
  have HT2 : Hid (Turned (fun _ => False) w ((w1.setCell ⟨w.heap.size, 1, none⟩ (.int .u8 ((bs.length : Int) % 256))).setCell ⟨w.heap.size, 0, none⟩ (.int .u8 ((bs.length : Int) / 256)))) := T2
  rw [hh]
  have e1 : (bs.length : Int) / 256 / 256 = (bs.length : Int) / 65536 := by omega
  have e2 : (bs.length : Int) / 65536 / 256 = (bs.length : Int) / 16777216 := by omega
  clear hx hbk T1 HX T2 hh
  go_enter Tryd.func7, Tryd.ntmps7
  go_wp2_with fail
  refine hg.mono ?_
  rintro e w' ⟨rfl, rfl⟩
  go_wp2_with fail
  refine wp_loop_rounds 3 ?_
  rw [rounds_succ]
  go_wp2
  rw [rounds_succ]
  go_wp2
  rw [rounds_succ]
  go_wp2_with (at_builtin; refine wpList_append_bytes (by rfl) (.tmp 45) (.tmp 46) (by rfl) Tryd.bytes (by rfl) (by rfl) ho hx2 (by simp; omega) ?_; intro v3 w3 ho3 ht3 hb3)
  go_ret2
  exact ⟨v3, rfl, ho3, HT2.out.trans ht3 (fun k hk => .inr (Nat.le_of_eq hk)), fun k hk => (hb3 k hk).elim (fun h => Nat.le_of_eq h) (fun h => by have := HT2.out.size; omega)⟩

set_option maxRecDepth 100000 in
set_option maxHeartbeats 1600000 in
theorem frm_frame4 {w : World} {b : Value} {bs : List Int} (hx : Sl w b bs) (hl : bs.length ≤ 131072) :
    Calls Tryd.prog 7 #[.int .i64 4, b] w fun e w' => ∃ V, e = .returned (.tuple #[V, .nilIface]) ∧ Own w' V (headOf 4 bs.length ++ bs) ∧ Turned (fun _ => False) w w' ∧ ∀ k, blk V k → w.heap.size ≤ k := by
  obtain ⟨ab, cb, hf, hc, hm⟩ := hx.form
  subst hf
  have h1 : ¬ (131072 : Int) < (bs.length : Int) := by omega
  have hg := frm_greatest 4 (.inr rfl) w
  have hm2' : most ((4 : Nat) : Int) = 131072 := rfl
  rw [hm2'] at hg
  have HX : Hid (Sl w (.slice ab bs.length cb) bs) := hx
  obtain ⟨w1, hmk, T1, hsz, hbk⟩ := make_bytes Tryd.bytes w 4 bs.length (by omega)
  have hmk : (Instr.makeSlice 22 (.int .i64 4) (.int .i64 (4 + (bs.length : Int)))).run Tryd.prog w = .ok (.slice (some ⟨w.heap.size, 0, none⟩) 4 (4 + bs.length)) w1 := hmk
  obtain ⟨c0, f0⟩ := hbk 0 (by omega)
  obtain ⟨c1, f1⟩ := hbk 1 (by omega)
  obtain ⟨c2, f2⟩ := hbk 2 (by omega)
  obtain ⟨c3, f3⟩ := hbk 3 (by omega)
  have T2 : Turned (fun _ => False) w ((((w1.setCell ⟨w.heap.size, 3, none⟩ (.int .u8 ((bs.length : Int) % 256))).setCell ⟨w.heap.size, 2, none⟩ (.int .u8 ((bs.length : Int) / 256 % 256))).setCell ⟨w.heap.size, 1, none⟩ (.int .u8 ((bs.length : Int) / 65536))).setCell ⟨w.heap.size, 0, none⟩ (.int .u8 ((bs.length : Int) / 16777216))) := ((((T1.trans (Turned.setCell _ ⟨w.heap.size, 3, none⟩ (.int .u8 ((bs.length : Int) % 256))) (fun _ h => .inr (Nat.le_of_eq h.symm))).trans (Turned.setCell _ ⟨w.heap.size, 2, none⟩ (.int .u8 ((bs.length : Int) / 256 % 256))) (fun _ h => .inr (Nat.le_of_eq h.symm))).trans (Turned.setCell _ ⟨w.heap.size, 1, none⟩ (.int .u8 ((bs.length : Int) / 65536))) (fun _ h => .inr (Nat.le_of_eq h.symm))).trans (Turned.setCell _ ⟨w.heap.size, 0, none⟩ (.int .u8 ((bs.length : Int) / 16777216))) (fun _ h => .inr (Nat.le_of_eq h.symm)))
  have ho : Own ((((w1.setCell ⟨w.heap.size, 3, none⟩ (.int .u8 ((bs.length : Int) % 256))).setCell ⟨w.heap.size, 2, none⟩ (.int .u8 ((bs.length : Int) / 256 % 256))).setCell ⟨w.heap.size, 1, none⟩ (.int .u8 ((bs.length : Int) / 65536))).setCell ⟨w.heap.size, 0, none⟩ (.int .u8 ((bs.length : Int) / 16777216))) (.slice (some ⟨w.heap.size, 0, none⟩) 4 (4 + bs.length)) [(bs.length : Int) / 16777216, (bs.length : Int) / 65536, (bs.length : Int) / 256 % 256, (bs.length : Int) % 256] := by
    refine Block.own (zs := [(bs.length : Int) / 16777216, (bs.length : Int) / 65536, (bs.length : Int) / 256 % 256, (bs.length : Int) % 256]) ((((hbk.set 3 (.int .u8 ((bs.length : Int) % 256))).set 2 (.int .u8 ((bs.length : Int) / 256 % 256))).set 1 (.int .u8 ((bs.length : Int) / 65536))).set 0 (.int .u8 ((bs.length : Int) / 16777216))) (by simp) (by omega) (by unfold maxLen; omega) (fun j hj => ?_)
    have hj : j < 4 := hj
    match j, hj with
    | 0, _ => rfl
    | 1, _ => rfl
    | 2, _ => rfl
    | 3, _ => rfl
  have hh : headOf 4 bs.length = [(bs.length : Int) / 16777216, (bs.length : Int) / 65536, (bs.length : Int) / 256 % 256, (bs.length : Int) % 256] := by simp [headOf]
  have hx2 := hx.turned T2 (fun _ _ h => h)
  have HT2 : Hid (Turned (fun _ => False) w ((((w1.setCell ⟨w.heap.size, 3, none⟩ (.int .u8 ((bs.length : Int) % 256))).setCell ⟨w.heap.size, 2, none⟩ (.int .u8 ((bs.length : Int) / 256 % 256))).setCell ⟨w.heap.size, 1, none⟩ (.int .u8 ((bs.length : Int) / 65536))).setCell ⟨w.heap.size, 0, none⟩ (.int .u8 ((bs.length : Int) / 16777216)))) := T2
  rw [hh]
  have e1 : (bs.length : Int) / 256 / 256 = (bs.length : Int) / 65536 := by omega
  have e2 : (bs.length : Int) / 65536 / 256 = (bs.length : Int) / 16777216 := by omega
  clear hx hbk T1 HX T2 hh
  go_enter Tryd.func7, Tryd.ntmps7
  go_wp2_with fail
  refine hg.mono ?_
  rintro e w' ⟨rfl, rfl⟩
  go_wp2_with fail
  refine wp_loop_rounds 5 ?_
  rw [rounds_succ]
  go_wp2
  rw [rounds_succ]
  go_wp2
  rw [rounds_succ]
  go_wp2
  rw [rounds_succ]
  go_wp2
  rw [rounds_succ]
  go_wp2_with (at_builtin; refine wpList_append_bytes (by rfl) (.tmp 45) (.tmp 46) (by rfl) Tryd.bytes (by rfl) (by rfl) ho hx2 (by simp; omega) ?_; intro v3 w3 ho3 ht3 hb3)
  go_ret2
  exact ⟨v3, rfl, ho3, HT2.out.trans ht3 (fun k hk => .inr (Nat.le_of_eq hk)), fun k hk => (hb3 k hk).elim (fun h => Nat.le_of_eq h) (fun h => by have := HT2.out.size; omega)⟩

theorem frm_frame {w : World} {b : Value} {bs : List Int} (n : Int) (hx : Sl w b bs) :
    Calls Tryd.prog 7 #[.int .i64 n, b] w fun e w' => ∃ V v, e = .returned (.tuple #[V, v]) ∧ ErrsF w.heap.size w' v (frameErr n bs) ∧ Sl w' V (frameBytes n bs) ∧ Below w.heap.size w w' ∧ ∀ k, blk V k → w.heap.size ≤ k := by
  unfold frameErr frameBytes
  by_cases h : n ≠ 2 ∧ n ≠ 4
  · rw [if_pos h, if_pos h]
    exact (frm_frame_arg n h.1 h.2 b w).mono fun e w' ⟨v, h1, h2, h3⟩ => ⟨_, v, h1, h2, .inl ⟨rfl, rfl⟩, h3, fun _ hk => hk.elim⟩
  rw [if_neg h, if_neg h]
  obtain ⟨m, rfl⟩ : ∃ m : Nat, n = (m : Int) := ⟨n.toNat, by omega⟩
  have hn : m = 2 ∨ m = 4 := by omega
  by_cases hl : most m < (bs.length : Int)
  · rw [if_pos hl, if_pos hl]
    exact (frm_frame_long m hn hx hl).mono fun e w' ⟨v, h1, h2, h3⟩ => ⟨_, v, h1, h2, .inl ⟨rfl, rfl⟩, h3, fun _ hk => hk.elim⟩
  rw [if_neg hl, if_neg hl]
  have hT : ∀ {a b : World}, Turned (fun _ => False) a b → Below a.heap.size a b := fun h => h.below (Nat.le_refl _) (fun _ h => h.elim)
  rcases hn with rfl | rfl
  · have : most ((2 : Nat) : Int) = 1024 := rfl
    exact (frm_frame2 hx (by omega)).mono fun e w' ⟨V, h1, h2, h3, h4⟩ => ⟨V, _, h1, rfl, h2.sl, hT h3, h4⟩
  · have : most ((4 : Nat) : Int) = 131072 := rfl
    exact (frm_frame4 hx (by omega)).mono fun e w' ⟨V, h1, h2, h3, h4⟩ => ⟨V, _, h1, rfl, h2.sl, hT h3, h4⟩
end Go.Proofs.YtpbakejocjmkeaaDoor
