/-
  Layer 8 (shake): the document's Write.
  Layer 8 (shake): the document's side, and how it is made.
  Layer 8 (shake): the document's Begin and Wait.
  heddlelaw08.ShakeWrites: its walk.
  heddlelaw08.sides: the program's side and the document's.
-/
import Derived.Test.YtmnibmgbicnamaaGreatDoorK4
import Derived.Test.YtmnibmgbicnamaaGreatDoorK3
import Derived.Test.YtmnibmgbicnamaaGreatDoorK7
import Derived.Test.YtmnibmgbicnamaaGreatDoorKa
import Derived.Test.YtmnibmgbicnamaaGreatDoorKc
import Derived.Test.YtmnibmgbicnamaaGreatDoorKd
namespace Go.Proofs.YtmnibmgbicnamaaGreatDoor
open Go.RowKit

/-- What the document's Write tells. -/
def RWriteTold (m : Msg) (w : World) (e : Ending) (w' : World) : Prop := ∃ V v, e = .returned (.tuple #[V, v]) ∧ Own w' V (writeOf m) ∧ LinksC w.heap.size w' v (writeErr m) ∧ Below w.heap.size w w' ∧ ∀ k, blk V k → w.heap.size ≤ k
set_option maxRecDepth 100000 in
set_option maxHeartbeats 3200000 in
theorem ref_write_no (m : Msg) (hk : ¬ fits m) {w : World} {D : Value} (hD : Sl w D m.digest) : Calls Tryz.prog 10 #[msgV' m D] w (RWriteTold m w) := by
  have hwr : writeOf m = [] ∧ writeErr m = sh 0 1 := by unfold writeOf writeErr; rw [if_pos hk, if_pos hk]; exact ⟨rfl, rfl⟩
  obtain ⟨aD, cD, rfl, _, _⟩ := hD.form
  obtain ⟨k, fl, cr, ch, nm, st, dg⟩ := m
  obtain ⟨wa, hwa⟩ : ∃ wa, wa = w.alloc (.cells #[.int .i64 k, .int .u64 fl, .int .u32 cr, .int .u32 ch, .string nm, .string st, .slice aD dg.length cD] 27) := ⟨_, rfl⟩
  have ba : Below w.heap.size w wa := by rw [hwa]; exact (Below.refl _ _).alloc (Nat.le_refl _) _
  have hma : MsgAt wa w.heap.size ⟨k, fl, cr, ch, nm, st, dg⟩ (.slice aD dg.length cD) := by rw [hwa]; exact ⟨by simp, by simp, by simp, by simp, by simp, by simp, by simp⟩
  have hfi := ref_fields k fl cr ch nm st dg aD cD wa
  have HW : Hid (wa = w.alloc (.cells #[.int .i64 k, .int .u64 fl, .int .u32 cr, .int .u32 ch, .string nm, .string st, .slice aD dg.length cD] 27)) := by
    have h : wa = w.alloc (.cells #[.int .i64 k, .int .u64 fl, .int .u32 cr, .int .u32 ch, .string nm, .string st, .slice aD dg.length cD] 27) := hwa
    exact h
  have H0 : Hid (Below w.heap.size w wa ∧ MsgAt wa w.heap.size ⟨k, fl, cr, ch, nm, st, dg⟩ (.slice aD dg.length cD)) := ⟨ba, hma⟩
  have HD := Hid.mk7 hD
  unfold msgV at hfi
  unfold msgV'
  simp only at hfi hk ⊢
  rw [decide_eq_false hk] at hfi
  clear hwa ba hma hD
  unfold RWriteTold
  rw [hwr.1, hwr.2]
  clear hk hwr
  go_enter Tryz.func10, Tryz.ntmps10
  go_wp2_with fail
  rw [← HW.out]
  refine hfi.mono ?_
  rintro e w1 ⟨rfl, hb1⟩
  have H1 : Hid (Below w.heap.size w w1 ∧ MsgAt w1 w.heap.size ⟨k, fl, cr, ch, nm, st, dg⟩ (.slice aD dg.length cD)) := ⟨H0.out.1.trans (hb1.mono H0.out.1.size), H0.out.2.below hb1⟩
  obtain ⟨m0, m1, m2, m3, m4, m5, m6⟩ := H1.out.2
  simp only at m0 m1 m2 m3 m4 m5 m6
  have hzl : w.heap.size < w1.heap.size := H1.out.2.lt
  clear hb1 hfi H0 HW
  have hno := sh_no 0 1 w1
  go_wp2_with fail
  refine hno.mono ?_
  rintro e w2 ⟨v, rfl, hl2, hb2⟩
  have H2 : Hid (LinksC w.heap.size w2 v (sh 0 1) ∧ Below w.heap.size w w2) := ⟨hl2.mono H1.out.1.size, H1.out.1.trans (hb2.mono H1.out.1.size)⟩
  obtain ⟨lb, cap, _, rfl, _⟩ := hl2
  clear hb2 hno
  go_wp2
  go_ret2
  exact ⟨_, _, rfl, .inl ⟨rfl, rfl⟩, H2.out.1, H2.out.2, fun _ h => h.elim⟩
set_option maxRecDepth 100000 in
set_option maxHeartbeats 3200000 in
theorem ref_write_2 (m : Msg) (hk : m.kind = 2) (hf : fits m) {w : World} {D : Value} (hD : Sl w D m.digest) : Calls Tryz.prog 10 #[msgV' m D] w (RWriteTold m w) := by
  have hno : (m.kind = 1 ∨ m.kind = 3) → nodeOk m.name = true := fun h => by omega
  have hsm := fits_small hf hno
  have hwr : writeOf m = 115 :: nums m.status ∧ writeErr m = [] := by
    refine ⟨(writeOf_ok hf hno).trans (by unfold bytesOfMsg; simp [hk]), ?_⟩
    unfold writeErr
    rw [if_neg (by simpa using hf), if_neg (fun h => by omega)]
  obtain ⟨aD, cD, rfl, _, _⟩ := hD.form
  obtain ⟨k, fl, cr, ch, nm, st, dg⟩ := m
  obtain ⟨wa, hwa⟩ : ∃ wa, wa = w.alloc (.cells #[.int .i64 k, .int .u64 fl, .int .u32 cr, .int .u32 ch, .string nm, .string st, .slice aD dg.length cD] 27) := ⟨_, rfl⟩
  have ba : Below w.heap.size w wa := by rw [hwa]; exact (Below.refl _ _).alloc (Nat.le_refl _) _
  have hma : MsgAt wa w.heap.size ⟨k, fl, cr, ch, nm, st, dg⟩ (.slice aD dg.length cD) := by rw [hwa]; exact ⟨by simp, by simp, by simp, by simp, by simp, by simp, by simp⟩
  have hfi := ref_fields k fl cr ch nm st dg aD cD wa
  have HW : Hid (wa = w.alloc (.cells #[.int .i64 k, .int .u64 fl, .int .u32 cr, .int .u32 ch, .string nm, .string st, .slice aD dg.length cD] 27)) := by
    have h : wa = w.alloc (.cells #[.int .i64 k, .int .u64 fl, .int .u32 cr, .int .u32 ch, .string nm, .string st, .slice aD dg.length cD] 27) := hwa
    exact h
  have H0 : Hid (Below w.heap.size w wa ∧ MsgAt wa w.heap.size ⟨k, fl, cr, ch, nm, st, dg⟩ (.slice aD dg.length cD)) := ⟨ba, hma⟩
  have HD := Hid.mk7 hD
  unfold msgV at hfi
  unfold msgV'
  simp only at hfi hk hsm ⊢
  rw [decide_eq_true hf] at hfi
  clear hwa ba hma hD
  unfold RWriteTold
  rw [hwr.1, hwr.2]
  subst hk
  clear hf hwr hno
  go_enter Tryz.func10, Tryz.ntmps10
  go_wp2_with fail
  rw [← HW.out]
  refine hfi.mono ?_
  rintro e w1 ⟨rfl, hb1⟩
  have H1 : Hid (Below w.heap.size w w1 ∧ MsgAt w1 w.heap.size ⟨2, fl, cr, ch, nm, st, dg⟩ (.slice aD dg.length cD)) := ⟨H0.out.1.trans (hb1.mono H0.out.1.size), H0.out.2.below hb1⟩
  obtain ⟨m0, m1, m2, m3, m4, m5, m6⟩ := H1.out.2
  simp only at m0 m1 m2 m3 m4 m5 m6
  have hzl : w.heap.size < w1.heap.size := H1.out.2.lt
  clear hb1 hfi H0 HW
  have ho := Sl.one w1 5 115
  have hln : 1 + st.size ≤ 70368744177664 := by have := hsm.2.1; omega
  go_wp2_with (at_builtin; refine wpList_append_text (by rfl) (.tmp 16) (.tmp 18) (by rfl) Tryz.bytes Tryz.underlying9 (by rfl) (by rfl) ho hln ?_; intro v2 w2 ho2 ht2 hb2; have H2 := Hid.mk7 (And.intro ho2 (And.intro ht2 hb2)); clear ho2 ht2 hb2)
  go_ret2
  obtain ⟨q1, q2, q3⟩ := H2.out
  have A1 : Below w.heap.size w (w1.alloc (.cells #[.int .u8 115] 5)) := H1.out.1.alloc H1.out.1.size _
  exact ⟨_, _, rfl, q1, rfl, A1.trans (q2.below A1.size (fun k hk => by have hk : w1.heap.size = k := hk; have := H1.out.1.size; omega)), fun k hk => (q3 k hk).elim (fun h => by have h : w1.heap.size = k := h; have := H1.out.1.size; omega) (fun h => by have := A1.size; omega)⟩
set_option maxRecDepth 100000 in
set_option maxHeartbeats 3200000 in
theorem ref_write_5 (m : Msg) (hk : m.kind = 5) (hf : fits m) {w : World} {D : Value} (hD : Sl w D m.digest) : Calls Tryz.prog 10 #[msgV' m D] w (RWriteTold m w) := by
  have hno : (m.kind = 1 ∨ m.kind = 3) → nodeOk m.name = true := fun h => by omega
  have hsm := fits_small hf hno
  have hwr : writeOf m = 97 :: m.digest ∧ writeErr m = [] := by
    refine ⟨(writeOf_ok hf hno).trans (by unfold bytesOfMsg; simp [hk]), ?_⟩
    unfold writeErr
    rw [if_neg (by simpa using hf), if_neg (fun h => by omega)]
  obtain ⟨aD, cD, rfl, _, _⟩ := hD.form
  obtain ⟨k, fl, cr, ch, nm, st, dg⟩ := m
  obtain ⟨wa, hwa⟩ : ∃ wa, wa = w.alloc (.cells #[.int .i64 k, .int .u64 fl, .int .u32 cr, .int .u32 ch, .string nm, .string st, .slice aD dg.length cD] 27) := ⟨_, rfl⟩
  have ba : Below w.heap.size w wa := by rw [hwa]; exact (Below.refl _ _).alloc (Nat.le_refl _) _
  have hma : MsgAt wa w.heap.size ⟨k, fl, cr, ch, nm, st, dg⟩ (.slice aD dg.length cD) := by rw [hwa]; exact ⟨by simp, by simp, by simp, by simp, by simp, by simp, by simp⟩
  have hfi := ref_fields k fl cr ch nm st dg aD cD wa
  have HW : Hid (wa = w.alloc (.cells #[.int .i64 k, .int .u64 fl, .int .u32 cr, .int .u32 ch, .string nm, .string st, .slice aD dg.length cD] 27)) := by
    have h : wa = w.alloc (.cells #[.int .i64 k, .int .u64 fl, .int .u32 cr, .int .u32 ch, .string nm, .string st, .slice aD dg.length cD] 27) := hwa
    exact h
  have H0 : Hid (Below w.heap.size w wa ∧ MsgAt wa w.heap.size ⟨k, fl, cr, ch, nm, st, dg⟩ (.slice aD dg.length cD)) := ⟨ba, hma⟩
  have HD := Hid.mk7 hD
  unfold msgV at hfi
  unfold msgV'
  simp only at hfi hk hsm ⊢
  rw [decide_eq_true hf] at hfi
  clear hwa ba hma hD
  unfold RWriteTold
  rw [hwr.1, hwr.2]
  subst hk
  clear hf hwr hno
  go_enter Tryz.func10, Tryz.ntmps10
  go_wp2_with fail
  rw [← HW.out]
  refine hfi.mono ?_
  rintro e w1 ⟨rfl, hb1⟩
  have H1 : Hid (Below w.heap.size w w1 ∧ MsgAt w1 w.heap.size ⟨5, fl, cr, ch, nm, st, dg⟩ (.slice aD dg.length cD)) := ⟨H0.out.1.trans (hb1.mono H0.out.1.size), H0.out.2.below hb1⟩
  obtain ⟨m0, m1, m2, m3, m4, m5, m6⟩ := H1.out.2
  simp only at m0 m1 m2 m3 m4 m5 m6
  have hzl : w.heap.size < w1.heap.size := H1.out.2.lt
  clear hb1 hfi H0 HW
  have ho := Sl.one w1 5 97
  have hln : 1 + dg.length ≤ 70368744177664 := by have := hsm.2.2; omega
  have A1 : Below w.heap.size w (w1.alloc (.cells #[.int .u8 97] 5)) := H1.out.1.alloc H1.out.1.size _
  have hdx := HD.out.turned (Turned.ofBelow (S := fun _ => False) A1) (fun _ _ h => h)
  have HA1 := Hid.mk7 A1
  clear A1
  go_wp2_with (at_builtin; refine wpList_append_bytes (by rfl) (.tmp 31) (.tmp 33) (by rfl) Tryz.bytes (by rfl) (by rfl) ho hdx hln ?_; intro v2 w2 ho2 ht2 hb2; have H2 := Hid.mk7 (And.intro ho2 (And.intro ht2 hb2)); clear ho2 ht2 hb2)
  go_ret2
  obtain ⟨q1, q2, q3⟩ := H2.out
  have A1 := HA1.out
  exact ⟨_, _, rfl, q1, rfl, A1.trans (q2.below A1.size (fun k hk => by have hk : w1.heap.size = k := hk; have := H1.out.1.size; omega)), fun k hk => (q3 k hk).elim (fun h => by have h : w1.heap.size = k := h; have := H1.out.1.size; omega) (fun h => by have := A1.size; omega)⟩
theorem w4_told {w w1 wX w2 : World} {V2 D : Value} {zs dg : List Int} (hb : Below w.heap.size w w1) (hX : Below w1.heap.size w1 wX) (hD : Sl w D dg) (ho2 : Own w2 V2 zs) (ht2 : Turned (blk (.slice (some ⟨w1.heap.size, 0, none⟩) 1 1)) wX w2) (hb2 : ∀ k, blk V2 k → blk (.slice (some ⟨w1.heap.size, 0, none⟩) 1 1) k ∨ wX.heap.size ≤ k) : Own w2 V2 zs ∧ Sl w2 D dg ∧ Below w.heap.size w w2 ∧ ∀ k, blk V2 k → w1.heap.size ≤ k := by
  have h1 := hb.size
  have h2 := hX.size
  have B : Below w.heap.size w w2 := (hb.trans (hX.mono h1)).trans (ht2.below (by omega) (fun k hk => by have hk : w1.heap.size = k := hk; omega))
  exact ⟨ho2, hD.turned (Turned.ofBelow (S := fun _ => False) B) (fun _ _ h => h), B, fun k hk => (hb2 k hk).elim (fun h => by have h : w1.heap.size = k := h; omega) (fun h => by omega)⟩
set_option maxRecDepth 100000 in
set_option maxHeartbeats 3200000 in
theorem ref_write_4 (m : Msg) (hk : m.kind = 4) (hf : fits m) {w : World} {D : Value} (hD : Sl w D m.digest) : Calls Tryz.prog 10 #[msgV' m D] w (RWriteTold m w) := by
  have hno : (m.kind = 1 ∨ m.kind = 3) → nodeOk m.name = true := fun h => by omega
  have hsm := fits_small hf hno
  have hwr : writeOf m = 114 :: (be4 m.challenge ++ m.digest) ∧ writeErr m = [] := by
    refine ⟨(writeOf_ok hf hno).trans (by unfold bytesOfMsg; simp [hk]), ?_⟩
    unfold writeErr
    rw [if_neg (by simpa using hf), if_neg (fun h => by omega)]
  obtain ⟨aD, cD, rfl, _, _⟩ := hD.form
  obtain ⟨k, fl, cr, ch, nm, st, dg⟩ := m
  obtain ⟨wa, hwa⟩ : ∃ wa, wa = w.alloc (.cells #[.int .i64 k, .int .u64 fl, .int .u32 cr, .int .u32 ch, .string nm, .string st, .slice aD dg.length cD] 27) := ⟨_, rfl⟩
  have ba : Below w.heap.size w wa := by rw [hwa]; exact (Below.refl _ _).alloc (Nat.le_refl _) _
  have hma : MsgAt wa w.heap.size ⟨k, fl, cr, ch, nm, st, dg⟩ (.slice aD dg.length cD) := by rw [hwa]; exact ⟨by simp, by simp, by simp, by simp, by simp, by simp, by simp⟩
  have hfi := ref_fields k fl cr ch nm st dg aD cD wa
  have HW : Hid (wa = w.alloc (.cells #[.int .i64 k, .int .u64 fl, .int .u32 cr, .int .u32 ch, .string nm, .string st, .slice aD dg.length cD] 27)) := by
    have h : wa = w.alloc (.cells #[.int .i64 k, .int .u64 fl, .int .u32 cr, .int .u32 ch, .string nm, .string st, .slice aD dg.length cD] 27) := hwa
    exact h
  have H0 : Hid (Below w.heap.size w wa ∧ MsgAt wa w.heap.size ⟨k, fl, cr, ch, nm, st, dg⟩ (.slice aD dg.length cD)) := ⟨ba, hma⟩
  have HD := Hid.mk7 hD
  unfold msgV at hfi
  unfold msgV'
  simp only at hfi hk hsm ⊢
  rw [decide_eq_true hf] at hfi
  clear hwa ba hma hD
  unfold RWriteTold
  rw [hwr.1, hwr.2]
  subst hk
  clear hf hwr hno
  go_enter Tryz.func10, Tryz.ntmps10
  go_wp2_with fail
  rw [← HW.out]
  refine hfi.mono ?_
  rintro e w1 ⟨rfl, hb1⟩
  have H1 : Hid (Below w.heap.size w w1 ∧ MsgAt w1 w.heap.size ⟨4, fl, cr, ch, nm, st, dg⟩ (.slice aD dg.length cD)) := ⟨H0.out.1.trans (hb1.mono H0.out.1.size), H0.out.2.below hb1⟩
  obtain ⟨m0, m1, m2, m3, m4, m5, m6⟩ := H1.out.2
  simp only at m0 m1 m2 m3 m4 m5 m6
  have hzl : w.heap.size < w1.heap.size := H1.out.2.lt
  clear hb1 hfi H0 HW
  have ho := Sl.one w1 5 114
  have hX : Below w1.heap.size w1 (w1.alloc (.cells #[.int .u8 114] 5)).drew := ((Below.refl _ _).alloc (Nat.le_refl _) _).drew
  have HX : Hid (Below w1.heap.size w1 (w1.alloc (.cells #[.int .u8 114] 5)).drew ∧ (w1.alloc (.cells #[.int .u8 114] 5)).drew.cell? ⟨w.heap.size, 3, none⟩ = some (.int .u32 ch) ∧ (w1.alloc (.cells #[.int .u8 114] 5)).drew.cell? ⟨w.heap.size, 6, none⟩ = some (.slice aD dg.length cD)) := ⟨hX, (hX.cell (p := ⟨w.heap.size, 3, none⟩) hzl).trans m3, (hX.cell (p := ⟨w.heap.size, 6, none⟩) hzl).trans m6⟩
  clear hX
  have hln : ([114] ++ be4 ch).length + dg.length ≤ 70368744177664 := by have := hsm.2.2; simp [be4]; omega
  go_wp2_with fail
  go_region_held3 (fun w' => w'.cell? ⟨w.heap.size, 3, none⟩ = some (.int .u32 ch) ∧ w'.cell? ⟨w.heap.size, 6, none⟩ = some (.slice aD dg.length cD))
    (go_keep)
    (first
      | (refine step_append_bytes (by rfl) (.tmp 25) (.tmp 27) (by rfl) Tryz.bytes (by rfl) (by rfl) H2.out.1 H2.out.2.1 hln ?_; intro v3 w3 ho3 ht3 hb3; have s3 : w3.cell? ⟨w.heap.size, 3, none⟩ = some (.int .u32 ch) := ht3.cell (p := ⟨w.heap.size, 3, none⟩) s1 nb; have s4 : w3.cell? ⟨w.heap.size, 6, none⟩ = some (.slice aD dg.length cD) := ht3.cell (p := ⟨w.heap.size, 6, none⟩) s2 nb; have H3 := Hid.mk7 (And.intro ho3 (And.intro ht3 hb3)); clear ho3 ht3 hb3)
      | (go_at_call 35; refine (ref_four _ (by simp) (ho.turned (Turned.drew (fun _ => False) _) (fun _ _ h => h))).mono ?_; rintro e w2 ⟨V2, rfl, ho2, ht2, hb2⟩; have s1 : w2.cell? ⟨w.heap.size, 3, none⟩ = some (.int .u32 ch) := ht2.cell (p := ⟨w.heap.size, 3, none⟩) HX.out.2.1 (fun h => by have h : w1.heap.size = w.heap.size := h; omega); have s2 : w2.cell? ⟨w.heap.size, 6, none⟩ = some (.slice aD dg.length cD) := ht2.cell (p := ⟨w.heap.size, 6, none⟩) HX.out.2.2 (fun h => by have h : w1.heap.size = w.heap.size := h; omega); have H2 := Hid.mk7 (w4_told H1.out.1 HX.out.1 HD.out ho2 ht2 hb2); obtain ⟨a2, c2, L2, rfl⟩ : ∃ a c L, V2 = .slice a L c := ⟨_, _, _, ho2.sl.form.choose_spec.choose_spec.1⟩; have nb : ¬ blk (.slice a2 L2 c2) w.heap.size := (fun h => by have := H2.out.2.2.2 _ h; omega); clear ho2 ht2 hb2))
  all_goals
    go_wp2
    go_ret2
    obtain ⟨q1, q2, q3⟩ := H3.out
    obtain ⟨_, _, A1, A2⟩ := H2.out
    have hz1 := H1.out.1.size
    have hz2 := A1.size
    exact ⟨_, _, rfl, by simpa using q1, rfl, A1.trans (q2.below hz2 (fun k hk => by have := A2 k hk; omega)), fun k hk => (q3 k hk).elim (fun h => by have := A2 k h; omega) (fun h => by omega)⟩
theorem be4_two (f : Int) (hf : U64 f) : be4 (IntKind.u32.wrap (f / 4294967296)) ++ be4 (IntKind.u32.wrap f) = bytes8 f := by
  obtain ⟨f0, f1⟩ := hf
  have hw : ∀ x : Int, IntKind.u32.wrap x = x % 4294967296 := fun x => by unfold IntKind.wrap; simp [IntKind.bits, IntKind.signed]
  rw [hw, hw]
  unfold be4 bytes8
  simp only [List.cons_append, List.nil_append, List.cons.injEq, and_true]
  refine ⟨by omega, by omega, by omega, by omega, by omega, by omega, by omega, by omega⟩
theorem be2_few (n : Nat) (hn : n ≤ 64) : [(n : Int) / 256, (n : Int)] = be2 n := by
  unfold be2
  simp only [List.cons.injEq, and_true]
  refine ⟨by omega, by omega⟩
theorem wrote_1 (fl cr : Int) (hf : U64 fl) (n : Nat) (hn : n ≤ 64) (l : List Int) : [78] ++ be4 (IntKind.u32.wrap (fl / 4294967296)) ++ be4 (IntKind.u32.wrap fl) ++ be4 cr ++ [(n : Int) / 256, (n : Int)] ++ l = 78 :: (bytes8 fl ++ (be4 cr ++ (be2 n ++ l))) := by
  rw [be2_few n hn, ← be4_two fl hf]
  simp only [List.append_assoc, List.cons_append, List.nil_append]
theorem wrote_3 (fl cr ch : Int) (hf : U64 fl) (n : Nat) (hn : n ≤ 64) (l : List Int) : [78] ++ be4 (IntKind.u32.wrap (fl / 4294967296)) ++ be4 (IntKind.u32.wrap fl) ++ be4 ch ++ be4 cr ++ [(n : Int) / 256, (n : Int)] ++ l = 78 :: (bytes8 fl ++ (be4 ch ++ (be4 cr ++ (be2 n ++ l)))) := by
  rw [be2_few n hn, ← be4_two fl hf]
  simp only [List.append_assoc, List.cons_append, List.nil_append]
theorem Sl.two (w : World) (t : TypeId) (a b : Int) : Own (w.alloc (.cells #[.int .u8 a, .int .u8 b] t)) (.slice (some ⟨w.heap.size, 0, none⟩) 2 2) [a, b] := by
  refine .inr ⟨w.heap.size, 0, 2, rfl, Nat.le_refl _, by decide, by simp, fun j hj => ?_, fun j hj => ?_⟩
  · have : j = 0 ∨ j = 1 := by simp at hj; omega
    rcases this with rfl | rfl <;> simp
  · have : j = 0 ∨ j = 1 := by omega
    rcases this with rfl | rfl <;> exact ⟨by simp, by simp⟩
theorem wN_told {B : Nat} {w0 wX w2 : World} {V V2 : Value} {zs : List Int} (hb : Below B w0 wX) (hB : B ≤ wX.heap.size) (hV : ∀ k, blk V k → B ≤ k) (ho2 : Own w2 V2 zs) (ht2 : Turned (blk V) wX w2) (hb2 : ∀ k, blk V2 k → blk V k ∨ wX.heap.size ≤ k) : Own w2 V2 zs ∧ Below B w0 w2 ∧ ∀ k, blk V2 k → B ≤ k :=
  ⟨ho2, hb.trans (ht2.below hB hV), fun k hk => (hb2 k hk).elim (hV k) (fun h => Nat.le_trans hB h)⟩
set_option maxRecDepth 100000 in
set_option maxHeartbeats 3200000 in
theorem ref_write_1 (m : Msg) (hk : m.kind = 1) (hf : fits m) (hm : m.Ok) (hok : nodeOk m.name = true) {w : World} {D : Value} (hD : Sl w D m.digest) : Calls Tryz.prog 10 #[msgV' m D] w (RWriteTold m w) := by
  have hno : (m.kind = 1 ∨ m.kind = 3) → nodeOk m.name = true := fun h => hok
  have hsm := fits_small hf hno
  have hwr : writeOf m = 78 :: (bytes8 m.flags ++ ((be4 m.creation ++ (be2 m.name.size ++ nums m.name)))) ∧ writeErr m = [] := by
    refine ⟨(writeOf_ok hf hno).trans (by unfold bytesOfMsg; simp [hk]), ?_⟩
    unfold writeErr
    rw [if_neg (by simpa using hf), if_neg (fun h => by rw [hok] at h; exact absurd h.2 (by decide))]
  obtain ⟨aD, cD, rfl, _, _⟩ := hD.form
  obtain ⟨k, fl, cr, ch, nm, st, dg⟩ := m
  obtain ⟨wa, hwa⟩ : ∃ wa, wa = w.alloc (.cells #[.int .i64 k, .int .u64 fl, .int .u32 cr, .int .u32 ch, .string nm, .string st, .slice aD dg.length cD] 27) := ⟨_, rfl⟩
  have ba : Below w.heap.size w wa := by rw [hwa]; exact (Below.refl _ _).alloc (Nat.le_refl _) _
  have hma : MsgAt wa w.heap.size ⟨k, fl, cr, ch, nm, st, dg⟩ (.slice aD dg.length cD) := by rw [hwa]; exact ⟨by simp, by simp, by simp, by simp, by simp, by simp, by simp⟩
  have hfi := ref_fields k fl cr ch nm st dg aD cD wa
  have HW : Hid (wa = w.alloc (.cells #[.int .i64 k, .int .u64 fl, .int .u32 cr, .int .u32 ch, .string nm, .string st, .slice aD dg.length cD] 27)) := by
    have h : wa = w.alloc (.cells #[.int .i64 k, .int .u64 fl, .int .u32 cr, .int .u32 ch, .string nm, .string st, .slice aD dg.length cD] 27) := hwa
    exact h
  have H0 : Hid (Below w.heap.size w wa ∧ MsgAt wa w.heap.size ⟨k, fl, cr, ch, nm, st, dg⟩ (.slice aD dg.length cD)) := ⟨ba, hma⟩
  have HD := Hid.mk7 hD
  unfold msgV at hfi
  unfold msgV'
  simp only at hfi hk hsm hok ⊢
  rw [decide_eq_true hf] at hfi
  clear hwa ba hma hD
  unfold RWriteTold
  rw [hwr.1, hwr.2]
  subst hk
  clear hf hwr hno
  go_enter Tryz.func10, Tryz.ntmps10
  go_wp2_with fail
  rw [← HW.out]
  refine hfi.mono ?_
  rintro e w1 ⟨rfl, hb1⟩
  have H1 : Hid (Below w.heap.size w w1 ∧ MsgAt w1 w.heap.size ⟨1, fl, cr, ch, nm, st, dg⟩ (.slice aD dg.length cD)) := ⟨H0.out.1.trans (hb1.mono H0.out.1.size), H0.out.2.below hb1⟩
  obtain ⟨m0, m1, m2, m3, m4, m5, m6⟩ := H1.out.2
  simp only at m0 m1 m2 m3 m4 m5 m6
  have hzl : w.heap.size < w1.heap.size := H1.out.2.lt
  clear hb1 hfi H0 HW
  have hnq := Tryz.neqLinks
  have HFL : Hid (U64 fl) := hm.flags
  have HNZ : Hid (nm.size ≤ 64) := hsm.1
  clear hm
  have hn := ref_node nm (by omega) w1
  rw [if_pos hok] at hn
  clear hok
  go_wp2_with fail
  refine hn.mono ?_
  rintro e w2 ⟨x2, y2, v2, rfl, hl2, hb2⟩
  have hl2 : v2 = .slice none 0 0 := hl2
  subst hl2
  have H2 : Hid (Below w.heap.size w w2 ∧ MsgAt w2 w.heap.size ⟨1, fl, cr, ch, nm, st, dg⟩ (.slice aD dg.length cD)) := ⟨H1.out.1.trans (hb2.mono H1.out.1.size), H1.out.2.below hb2⟩
  clear hb2 hn m0 m1 m2 m3 m4 m5 m6 hzl H1
  obtain ⟨m0, m1, m2, m3, m4, m5, m6⟩ := H2.out.2
  simp only at m0 m1 m2 m3 m4 m5 m6
  have hzl : w.heap.size < w2.heap.size := H2.out.2.lt
  have ho := Sl.one w2 5 78
  have hX : Below w2.heap.size w2 (w2.alloc (.cells #[.int .u8 78] 5)).drew := ((Below.refl _ _).alloc (Nat.le_refl _) _).drew
  have HX := Hid.mk7 hX
  have s0 : (w2.alloc (.cells #[.int .u8 78] 5)).drew.cell? ⟨w.heap.size, 1, none⟩ = some (.int .u64 fl) := (hX.cell (p := ⟨w.heap.size, 1, none⟩) hzl).trans m1
  clear hX
  go_wp2_with fail
  go_region_held3 (fun w' => w'.cell? ⟨w.heap.size, 1, none⟩ = some (.int .u64 fl))
    (go_keep)
    (first
      | (go_at_call 35; refine (ref_four _ (by simp [be4]) H3.out.1).mono ?_; rintro e w4 ⟨V4, rfl, ho4, ht4, hb4⟩; have H4 := Hid.mk7 (wN_told H3.out.2.1 H3.out.2.1.size H3.out.2.2 ho4 ht4 hb4); have s2 : w4.cell? ⟨w.heap.size, 1, none⟩ = some (.int .u64 fl) := ((H4.out.2.1.cell (p := ⟨w.heap.size, 1, none⟩) hzl).trans m1); obtain ⟨a4, c4, L4, rfl⟩ : ∃ a c L, V4 = .slice a L c := ⟨_, _, _, ho4.sl.form.choose_spec.choose_spec.1⟩; clear ho4 ht4 hb4)
      | (go_at_call 35; refine (ref_four _ (by simp) (ho.turned (Turned.drew (fun _ => False) _) (fun _ _ h => h))).mono ?_; rintro e w3 ⟨V3, rfl, ho3, ht3, hb3⟩; have H3 := Hid.mk7 (wN_told HX.out (by have := HX.out.size; omega) (fun k hk => by have hk : w2.heap.size = k := hk; omega) ho3 ht3 hb3); have s1 : w3.cell? ⟨w.heap.size, 1, none⟩ = some (.int .u64 fl) := ((H3.out.2.1.cell (p := ⟨w.heap.size, 1, none⟩) hzl).trans m1); obtain ⟨a3, c3, L3, rfl⟩ : ∃ a c L, V3 = .slice a L c := ⟨_, _, _, ho3.sl.form.choose_spec.choose_spec.1⟩; clear ho3 ht3 hb3))
  all_goals
    have M4 := Hid.mk7 (H2.out.2.below H4.out.2.1)
    clear m0 m1 m2 m3 m4 m5 m6 ho s0 HX H3
    obtain ⟨m0, m1, m2, m3, m4, m5, m6⟩ := M4.out
    simp only at m0 m1 m2 m3 m4 m5 m6
    go_wp2_with fail
    refine (ref_four _ (by simp [be4]) H4.out.1).mono ?_
    rintro e w6 ⟨V6, rfl, ho6, ht6, hb6⟩
    have H6 := Hid.mk7 (wN_told H4.out.2.1 H4.out.2.1.size H4.out.2.2 ho6 ht6 hb6)
    obtain ⟨a6, c6, L6, rfl⟩ : ∃ a c L, V6 = .slice a L c := ⟨_, _, _, ho6.sl.form.choose_spec.choose_spec.1⟩
    clear ho6 ht6 hb6 m0 m1 m2 m3 m4 m5 m6
    obtain ⟨m0, m1, m2, m3, m4, m5, m6⟩ := H2.out.2.below H6.out.2.1
    simp only at m0 m1 m2 m3 m4 m5 m6
    have htw := (Sl.two w6 5 ((nm.size : Int) / 256) (nm.size : Int)).sl
    have hoa := H6.out.1.turned (alloc0m w6 (.cells #[.int .u8 ((nm.size : Int) / 256), .int .u8 (nm.size : Int)] 5)) (fun _ _ h => h)
    have hln : ([78] ++ be4 (IntKind.u32.wrap (fl / 4294967296)) ++ be4 (IntKind.u32.wrap fl) ++ be4 cr).length + 2 ≤ 70368744177664 := by simp [be4]
    have hln2 : (([78] ++ be4 (IntKind.u32.wrap (fl / 4294967296)) ++ be4 (IntKind.u32.wrap fl) ++ be4 cr) ++ [(nm.size : Int) / 256, (nm.size : Int)]).length + nm.size ≤ 70368744177664 := by simp [be4]; omega
    have bA : Below w2.heap.size w2 (w6.alloc (.cells #[.int .u8 ((nm.size : Int) / 256), .int .u8 (nm.size : Int)] 5)) := H6.out.2.1.alloc H6.out.2.1.size _
    have HA := Hid.mk7 bA
    clear bA
    go_wp2_with (first
      | (at_builtin; refine wpList_append_bytes (by rfl) (.tmp 67) (.tmp 77) (by rfl) Tryz.bytes (by rfl) (by rfl) hoa htw hln ?_; intro v7 w7 ho7 ht7 hb7; have H7 := Hid.mk7 (wN_told HA.out HA.out.size H6.out.2.2 ho7 ht7 (fun k hk => (hb7 k hk).imp id (fun h => Nat.le_of_eq h.symm))); have c4 : w7.cell? ⟨w.heap.size, 4, none⟩ = some (.string nm) := (H2.out.2.below H7.out.2.1).c4; obtain ⟨a7, c7, L7, rfl⟩ : ∃ a c L, v7 = .slice a L c := ⟨_, _, _, ho7.sl.form.choose_spec.choose_spec.1⟩; clear ho7 ht7 hb7 m0 m1 m2 m3 m4 m5 m6 hoa htw)
      | (at_builtin; refine wpList_append_text (by rfl) (.tmp 79) (.tmp 81) (by rfl) Tryz.bytes Tryz.underlying9 (by rfl) (by rfl) H7.out.1 hln2 ?_; intro v8 w8 ho8 ht8 hb8; have H8 := Hid.mk7 (wN_told H7.out.2.1 H7.out.2.1.size H7.out.2.2 ho8 ht8 (fun k hk => (hb8 k hk).imp id (fun h => Nat.le_of_eq h.symm))); clear ho8 ht8 hb8))
    go_ret2
    obtain ⟨q1, q2, q3⟩ := H8.out
    refine ⟨_, _, rfl, ?_, rfl, H2.out.1.trans (q2.mono H2.out.1.size), fun k hk => Nat.le_trans H2.out.1.size (q3 k hk)⟩
    rw [← wrote_1 fl cr HFL.out nm.size HNZ.out (nums nm)]
    exact q1
set_option maxRecDepth 100000 in
set_option maxHeartbeats 3200000 in
theorem ref_write_3 (m : Msg) (hk : m.kind = 3) (hf : fits m) (hm : m.Ok) (hok : nodeOk m.name = true) {w : World} {D : Value} (hD : Sl w D m.digest) : Calls Tryz.prog 10 #[msgV' m D] w (RWriteTold m w) := by
  have hno : (m.kind = 1 ∨ m.kind = 3) → nodeOk m.name = true := fun h => hok
  have hsm := fits_small hf hno
  have hwr : writeOf m = 78 :: (bytes8 m.flags ++ (be4 m.challenge ++ (be4 m.creation ++ (be2 m.name.size ++ nums m.name)))) ∧ writeErr m = [] := by
    refine ⟨(writeOf_ok hf hno).trans (by unfold bytesOfMsg; simp [hk]), ?_⟩
    unfold writeErr
    rw [if_neg (by simpa using hf), if_neg (fun h => by rw [hok] at h; exact absurd h.2 (by decide))]
  obtain ⟨aD, cD, rfl, _, _⟩ := hD.form
  obtain ⟨k, fl, cr, ch, nm, st, dg⟩ := m
  obtain ⟨wa, hwa⟩ : ∃ wa, wa = w.alloc (.cells #[.int .i64 k, .int .u64 fl, .int .u32 cr, .int .u32 ch, .string nm, .string st, .slice aD dg.length cD] 27) := ⟨_, rfl⟩
  have ba : Below w.heap.size w wa := by rw [hwa]; exact (Below.refl _ _).alloc (Nat.le_refl _) _
  have hma : MsgAt wa w.heap.size ⟨k, fl, cr, ch, nm, st, dg⟩ (.slice aD dg.length cD) := by rw [hwa]; exact ⟨by simp, by simp, by simp, by simp, by simp, by simp, by simp⟩
  have hfi := ref_fields k fl cr ch nm st dg aD cD wa
  have HW : Hid (wa = w.alloc (.cells #[.int .i64 k, .int .u64 fl, .int .u32 cr, .int .u32 ch, .string nm, .string st, .slice aD dg.length cD] 27)) := by
    have h : wa = w.alloc (.cells #[.int .i64 k, .int .u64 fl, .int .u32 cr, .int .u32 ch, .string nm, .string st, .slice aD dg.length cD] 27) := hwa
    exact h
  have H0 : Hid (Below w.heap.size w wa ∧ MsgAt wa w.heap.size ⟨k, fl, cr, ch, nm, st, dg⟩ (.slice aD dg.length cD)) := ⟨ba, hma⟩
  have HD := Hid.mk7 hD
  unfold msgV at hfi
  unfold msgV'
  simp only at hfi hk hsm hok ⊢
  rw [decide_eq_true hf] at hfi
  clear hwa ba hma hD
  unfold RWriteTold
  rw [hwr.1, hwr.2]
  subst hk
  clear hf hwr hno
  go_enter Tryz.func10, Tryz.ntmps10
  go_wp2_with fail
  rw [← HW.out]
  refine hfi.mono ?_
  rintro e w1 ⟨rfl, hb1⟩
  have H1 : Hid (Below w.heap.size w w1 ∧ MsgAt w1 w.heap.size ⟨3, fl, cr, ch, nm, st, dg⟩ (.slice aD dg.length cD)) := ⟨H0.out.1.trans (hb1.mono H0.out.1.size), H0.out.2.below hb1⟩
  obtain ⟨m0, m1, m2, m3, m4, m5, m6⟩ := H1.out.2
  simp only at m0 m1 m2 m3 m4 m5 m6
  have hzl : w.heap.size < w1.heap.size := H1.out.2.lt
  clear hb1 hfi H0 HW
  have hnq := Tryz.neqLinks
  have HFL : Hid (U64 fl) := hm.flags
  have HNZ : Hid (nm.size ≤ 64) := hsm.1
  clear hm
  have hn := ref_node nm (by omega) w1
  rw [if_pos hok] at hn
  clear hok
  go_wp2_with fail
  refine hn.mono ?_
  rintro e w2 ⟨x2, y2, v2, rfl, hl2, hb2⟩
  have hl2 : v2 = .slice none 0 0 := hl2
  subst hl2
  have H2 : Hid (Below w.heap.size w w2 ∧ MsgAt w2 w.heap.size ⟨3, fl, cr, ch, nm, st, dg⟩ (.slice aD dg.length cD)) := ⟨H1.out.1.trans (hb2.mono H1.out.1.size), H1.out.2.below hb2⟩
  clear hb2 hn m0 m1 m2 m3 m4 m5 m6 hzl H1
  obtain ⟨m0, m1, m2, m3, m4, m5, m6⟩ := H2.out.2
  simp only at m0 m1 m2 m3 m4 m5 m6
  have hzl : w.heap.size < w2.heap.size := H2.out.2.lt
  have ho := Sl.one w2 5 78
  have hX : Below w2.heap.size w2 (w2.alloc (.cells #[.int .u8 78] 5)).drew := ((Below.refl _ _).alloc (Nat.le_refl _) _).drew
  have HX := Hid.mk7 hX
  have s0 : (w2.alloc (.cells #[.int .u8 78] 5)).drew.cell? ⟨w.heap.size, 1, none⟩ = some (.int .u64 fl) := (hX.cell (p := ⟨w.heap.size, 1, none⟩) hzl).trans m1
  clear hX
  go_wp2_with fail
  go_region_held3 (fun w' => w'.cell? ⟨w.heap.size, 1, none⟩ = some (.int .u64 fl))
    (go_keep)
    (first
      | (go_at_call 35; refine (ref_four _ (by simp [be4]) H3.out.1).mono ?_; rintro e w4 ⟨V4, rfl, ho4, ht4, hb4⟩; have H4 := Hid.mk7 (wN_told H3.out.2.1 H3.out.2.1.size H3.out.2.2 ho4 ht4 hb4); have s2 : w4.cell? ⟨w.heap.size, 1, none⟩ = some (.int .u64 fl) := ((H4.out.2.1.cell (p := ⟨w.heap.size, 1, none⟩) hzl).trans m1); obtain ⟨a4, c4, L4, rfl⟩ : ∃ a c L, V4 = .slice a L c := ⟨_, _, _, ho4.sl.form.choose_spec.choose_spec.1⟩; clear ho4 ht4 hb4)
      | (go_at_call 35; refine (ref_four _ (by simp) (ho.turned (Turned.drew (fun _ => False) _) (fun _ _ h => h))).mono ?_; rintro e w3 ⟨V3, rfl, ho3, ht3, hb3⟩; have H3 := Hid.mk7 (wN_told HX.out (by have := HX.out.size; omega) (fun k hk => by have hk : w2.heap.size = k := hk; omega) ho3 ht3 hb3); have s1 : w3.cell? ⟨w.heap.size, 1, none⟩ = some (.int .u64 fl) := ((H3.out.2.1.cell (p := ⟨w.heap.size, 1, none⟩) hzl).trans m1); obtain ⟨a3, c3, L3, rfl⟩ : ∃ a c L, V3 = .slice a L c := ⟨_, _, _, ho3.sl.form.choose_spec.choose_spec.1⟩; clear ho3 ht3 hb3))
  all_goals
    have M4 := Hid.mk7 (H2.out.2.below H4.out.2.1)
    clear m0 m1 m2 m3 m4 m5 m6 ho s0 HX H3
    obtain ⟨m0, m1, m2, m3, m4, m5, m6⟩ := M4.out
    simp only at m0 m1 m2 m3 m4 m5 m6
    go_wp2_with fail
    refine (ref_four _ (by simp [be4]) H4.out.1).mono ?_
    rintro e w5 ⟨V5, rfl, ho5, ht5, hb5⟩
    have H5 := Hid.mk7 (wN_told H4.out.2.1 H4.out.2.1.size H4.out.2.2 ho5 ht5 hb5)
    obtain ⟨a5, c5, L5, rfl⟩ : ∃ a c L, V5 = .slice a L c := ⟨_, _, _, ho5.sl.form.choose_spec.choose_spec.1⟩
    clear ho5 ht5 hb5 m0 m1 m2 m3 m4 m5 m6
    obtain ⟨m0, m1, m2, m3, m4, m5, m6⟩ := H2.out.2.below H5.out.2.1
    simp only at m0 m1 m2 m3 m4 m5 m6
    go_wp2_with fail
    refine (ref_four _ (by simp [be4]) H5.out.1).mono ?_
    rintro e w6 ⟨V6, rfl, ho6, ht6, hb6⟩
    have H6 := Hid.mk7 (wN_told H5.out.2.1 H5.out.2.1.size H5.out.2.2 ho6 ht6 hb6)
    obtain ⟨a6, c6, L6, rfl⟩ : ∃ a c L, V6 = .slice a L c := ⟨_, _, _, ho6.sl.form.choose_spec.choose_spec.1⟩
    clear ho6 ht6 hb6 m0 m1 m2 m3 m4 m5 m6
    obtain ⟨m0, m1, m2, m3, m4, m5, m6⟩ := H2.out.2.below H6.out.2.1
    simp only at m0 m1 m2 m3 m4 m5 m6
    have htw := (Sl.two w6 5 ((nm.size : Int) / 256) (nm.size : Int)).sl
    have hoa := H6.out.1.turned (alloc0m w6 (.cells #[.int .u8 ((nm.size : Int) / 256), .int .u8 (nm.size : Int)] 5)) (fun _ _ h => h)
    have hln : ([78] ++ be4 (IntKind.u32.wrap (fl / 4294967296)) ++ be4 (IntKind.u32.wrap fl) ++ be4 ch ++ be4 cr).length + 2 ≤ 70368744177664 := by simp [be4]
    have hln2 : (([78] ++ be4 (IntKind.u32.wrap (fl / 4294967296)) ++ be4 (IntKind.u32.wrap fl) ++ be4 ch ++ be4 cr) ++ [(nm.size : Int) / 256, (nm.size : Int)]).length + nm.size ≤ 70368744177664 := by simp [be4]; omega
    have bA : Below w2.heap.size w2 (w6.alloc (.cells #[.int .u8 ((nm.size : Int) / 256), .int .u8 (nm.size : Int)] 5)) := H6.out.2.1.alloc H6.out.2.1.size _
    have HA := Hid.mk7 bA
    clear bA
    go_wp2_with (first
      | (at_builtin; refine wpList_append_bytes (by rfl) (.tmp 67) (.tmp 77) (by rfl) Tryz.bytes (by rfl) (by rfl) hoa htw hln ?_; intro v7 w7 ho7 ht7 hb7; have H7 := Hid.mk7 (wN_told HA.out HA.out.size H6.out.2.2 ho7 ht7 (fun k hk => (hb7 k hk).imp id (fun h => Nat.le_of_eq h.symm))); have c4 : w7.cell? ⟨w.heap.size, 4, none⟩ = some (.string nm) := (H2.out.2.below H7.out.2.1).c4; obtain ⟨a7, c7, L7, rfl⟩ : ∃ a c L, v7 = .slice a L c := ⟨_, _, _, ho7.sl.form.choose_spec.choose_spec.1⟩; clear ho7 ht7 hb7 m0 m1 m2 m3 m4 m5 m6 hoa htw)
      | (at_builtin; refine wpList_append_text (by rfl) (.tmp 79) (.tmp 81) (by rfl) Tryz.bytes Tryz.underlying9 (by rfl) (by rfl) H7.out.1 hln2 ?_; intro v8 w8 ho8 ht8 hb8; have H8 := Hid.mk7 (wN_told H7.out.2.1 H7.out.2.1.size H7.out.2.2 ho8 ht8 (fun k hk => (hb8 k hk).imp id (fun h => Nat.le_of_eq h.symm))); clear ho8 ht8 hb8))
    go_ret2
    obtain ⟨q1, q2, q3⟩ := H8.out
    refine ⟨_, _, rfl, ?_, rfl, H2.out.1.trans (q2.mono H2.out.1.size), fun k hk => Nat.le_trans H2.out.1.size (q3 k hk)⟩
    rw [← wrote_3 fl cr ch HFL.out nm.size HNZ.out (nums nm)]
    exact q1
set_option maxRecDepth 100000 in
set_option maxHeartbeats 3200000 in
theorem ref_write_bad1 (m : Msg) (hk : m.kind = 1) (hf : fits m) (hns : m.name.size ≤ 4611686018427387904) (hok : nodeOk m.name = false) {w : World} {D : Value} (hD : Sl w D m.digest) : Calls Tryz.prog 10 #[msgV' m D] w (RWriteTold m w) := by
  have hwr : writeOf m = [] ∧ writeErr m = shName 0 := by
    simp [writeOf, writeErr, hf, hk, hok]
  obtain ⟨aD, cD, rfl, _, _⟩ := hD.form
  obtain ⟨k, fl, cr, ch, nm, st, dg⟩ := m
  obtain ⟨wa, hwa⟩ : ∃ wa, wa = w.alloc (.cells #[.int .i64 k, .int .u64 fl, .int .u32 cr, .int .u32 ch, .string nm, .string st, .slice aD dg.length cD] 27) := ⟨_, rfl⟩
  have ba : Below w.heap.size w wa := by rw [hwa]; exact (Below.refl _ _).alloc (Nat.le_refl _) _
  have hma : MsgAt wa w.heap.size ⟨k, fl, cr, ch, nm, st, dg⟩ (.slice aD dg.length cD) := by rw [hwa]; exact ⟨by simp, by simp, by simp, by simp, by simp, by simp, by simp⟩
  have hfi := ref_fields k fl cr ch nm st dg aD cD wa
  have HW : Hid (wa = w.alloc (.cells #[.int .i64 k, .int .u64 fl, .int .u32 cr, .int .u32 ch, .string nm, .string st, .slice aD dg.length cD] 27)) := by
    have h : wa = w.alloc (.cells #[.int .i64 k, .int .u64 fl, .int .u32 cr, .int .u32 ch, .string nm, .string st, .slice aD dg.length cD] 27) := hwa
    exact h
  have H0 : Hid (Below w.heap.size w wa ∧ MsgAt wa w.heap.size ⟨k, fl, cr, ch, nm, st, dg⟩ (.slice aD dg.length cD)) := ⟨ba, hma⟩
  have HD := Hid.mk7 hD
  unfold msgV at hfi
  unfold msgV'
  simp only at hfi hk hns hok ⊢
  rw [decide_eq_true hf] at hfi
  clear hwa ba hma hD
  unfold RWriteTold
  rw [hwr.1, hwr.2]
  subst hk
  clear hf hwr
  go_enter Tryz.func10, Tryz.ntmps10
  go_wp2_with fail
  rw [← HW.out]
  refine hfi.mono ?_
  rintro e w1 ⟨rfl, hb1⟩
  have H1 : Hid (Below w.heap.size w w1 ∧ MsgAt w1 w.heap.size ⟨1, fl, cr, ch, nm, st, dg⟩ (.slice aD dg.length cD)) := ⟨H0.out.1.trans (hb1.mono H0.out.1.size), H0.out.2.below hb1⟩
  obtain ⟨m0, m1, m2, m3, m4, m5, m6⟩ := H1.out.2
  simp only at m0 m1 m2 m3 m4 m5 m6
  have hzl : w.heap.size < w1.heap.size := H1.out.2.lt
  clear hb1 hfi H0 HW
  have hnq := Tryz.neqLinks
  have hn := ref_node nm hns w1
  rw [hok, if_neg (by decide)] at hn
  clear hok
  go_wp2_with fail
  refine hn.mono ?_
  rintro e w2 ⟨x2, y2, v2, rfl, hl2, hb2⟩
  have H2 : Hid (Below w.heap.size w w2) := H1.out.1.trans (hb2.mono H1.out.1.size)
  have hov := sh_over 0 ⟨lyAtom, 0, 24⟩ hl2
  obtain ⟨lb, cap, _, rfl, _⟩ := hl2
  clear hb2 hn m0 m1 m2 m3 m4 m5 m6 hzl H1
  go_wp2_with fail
  refine hov.mono ?_
  rintro e w3 ⟨v3, rfl, hl3, hb3⟩
  have H3 : Hid (LinksC w.heap.size w3 v3 (shName 0) ∧ Below w.heap.size w w3) := ⟨hl3.mono H2.out.size, H2.out.trans (hb3.mono H2.out.size)⟩
  obtain ⟨lb3, cap3, _, rfl, _⟩ := hl3
  clear hb3 hov
  go_wp2
  go_ret2
  exact ⟨_, _, rfl, .inl ⟨rfl, rfl⟩, H3.out.1, H3.out.2, fun _ h => h.elim⟩
set_option maxRecDepth 100000 in
set_option maxHeartbeats 3200000 in
theorem ref_write_bad3 (m : Msg) (hk : m.kind = 3) (hf : fits m) (hns : m.name.size ≤ 4611686018427387904) (hok : nodeOk m.name = false) {w : World} {D : Value} (hD : Sl w D m.digest) : Calls Tryz.prog 10 #[msgV' m D] w (RWriteTold m w) := by
  have hwr : writeOf m = [] ∧ writeErr m = shName 0 := by
    simp [writeOf, writeErr, hf, hk, hok]
  obtain ⟨aD, cD, rfl, _, _⟩ := hD.form
  obtain ⟨k, fl, cr, ch, nm, st, dg⟩ := m
  obtain ⟨wa, hwa⟩ : ∃ wa, wa = w.alloc (.cells #[.int .i64 k, .int .u64 fl, .int .u32 cr, .int .u32 ch, .string nm, .string st, .slice aD dg.length cD] 27) := ⟨_, rfl⟩
  have ba : Below w.heap.size w wa := by rw [hwa]; exact (Below.refl _ _).alloc (Nat.le_refl _) _
  have hma : MsgAt wa w.heap.size ⟨k, fl, cr, ch, nm, st, dg⟩ (.slice aD dg.length cD) := by rw [hwa]; exact ⟨by simp, by simp, by simp, by simp, by simp, by simp, by simp⟩
  have hfi := ref_fields k fl cr ch nm st dg aD cD wa
  have HW : Hid (wa = w.alloc (.cells #[.int .i64 k, .int .u64 fl, .int .u32 cr, .int .u32 ch, .string nm, .string st, .slice aD dg.length cD] 27)) := by
    have h : wa = w.alloc (.cells #[.int .i64 k, .int .u64 fl, .int .u32 cr, .int .u32 ch, .string nm, .string st, .slice aD dg.length cD] 27) := hwa
    exact h
  have H0 : Hid (Below w.heap.size w wa ∧ MsgAt wa w.heap.size ⟨k, fl, cr, ch, nm, st, dg⟩ (.slice aD dg.length cD)) := ⟨ba, hma⟩
  have HD := Hid.mk7 hD
  unfold msgV at hfi
  unfold msgV'
  simp only at hfi hk hns hok ⊢
  rw [decide_eq_true hf] at hfi
  clear hwa ba hma hD
  unfold RWriteTold
  rw [hwr.1, hwr.2]
  subst hk
  clear hf hwr
  go_enter Tryz.func10, Tryz.ntmps10
  go_wp2_with fail
  rw [← HW.out]
  refine hfi.mono ?_
  rintro e w1 ⟨rfl, hb1⟩
  have H1 : Hid (Below w.heap.size w w1 ∧ MsgAt w1 w.heap.size ⟨3, fl, cr, ch, nm, st, dg⟩ (.slice aD dg.length cD)) := ⟨H0.out.1.trans (hb1.mono H0.out.1.size), H0.out.2.below hb1⟩
  obtain ⟨m0, m1, m2, m3, m4, m5, m6⟩ := H1.out.2
  simp only at m0 m1 m2 m3 m4 m5 m6
  have hzl : w.heap.size < w1.heap.size := H1.out.2.lt
  clear hb1 hfi H0 HW
  have hnq := Tryz.neqLinks
  have hn := ref_node nm hns w1
  rw [hok, if_neg (by decide)] at hn
  clear hok
  go_wp2_with fail
  refine hn.mono ?_
  rintro e w2 ⟨x2, y2, v2, rfl, hl2, hb2⟩
  have H2 : Hid (Below w.heap.size w w2) := H1.out.1.trans (hb2.mono H1.out.1.size)
  have hov := sh_over 0 ⟨lyAtom, 0, 24⟩ hl2
  obtain ⟨lb, cap, _, rfl, _⟩ := hl2
  clear hb2 hn m0 m1 m2 m3 m4 m5 m6 hzl H1
  go_wp2_with fail
  refine hov.mono ?_
  rintro e w3 ⟨v3, rfl, hl3, hb3⟩
  have H3 : Hid (LinksC w.heap.size w3 v3 (shName 0) ∧ Below w.heap.size w w3) := ⟨hl3.mono H2.out.size, H2.out.trans (hb3.mono H2.out.size)⟩
  obtain ⟨lb3, cap3, _, rfl, _⟩ := hl3
  clear hb3 hov
  go_wp2
  go_ret2
  exact ⟨_, _, rfl, .inl ⟨rfl, rfl⟩, H3.out.1, H3.out.2, fun _ h => h.elim⟩
/-- The document's Write. -/
theorem ref_Write (m : Msg) (hm : m.Ok) (hns : m.name.size ≤ 4611686018427387904) {w : World} {D : Value} (hD : Sl w D m.digest) : Calls Tryz.prog 10 #[msgV' m D] w (RWriteTold m w) := by
  by_cases hf : fits m
  · have hk := fits_kind hf
    have h5 : m.kind = 1 ∨ m.kind = 2 ∨ m.kind = 3 ∨ m.kind = 4 ∨ m.kind = 5 := by omega
    rcases h5 with h | h | h | h | h
    · cases hok : nodeOk m.name with
      | true => exact ref_write_1 m h hf hm hok hD
      | false => exact ref_write_bad1 m h hf hns hok hD
    · exact ref_write_2 m h hf hD
    · cases hok : nodeOk m.name with
      | true => exact ref_write_3 m h hf hm hok hD
      | false => exact ref_write_bad3 m h hf hns hok hD
    · exact ref_write_4 m h hf hD
    · exact ref_write_5 m h hf hD
  · exact ref_write_no m hf hD
end Go.Proofs.YtmnibmgbicnamaaGreatDoor
namespace Go.Proofs.YtmnibmgbicnamaaGreatDoor
open Go.RowKit

/-- The cells of the document's side. -/
def rsCell (st : Int) (p : Pr) (si : Bool) (me : Pr) (want cookie : ByteArray) (ch : Int) : Nat → Value
  | 0 => .int .i64 st
  | 1 => .string p.name
  | 2 => .int .u64 p.flags
  | 3 => .int .u32 p.creation
  | 4 => .bool si
  | 5 => .string me.name
  | 6 => .int .u64 me.flags
  | 7 => .int .u32 me.creation
  | 8 => .string want
  | 9 => .string cookie
  | _ => .int .u32 ch
/-- The document's side in memory. -/
def RSide (w : World) (g : Nat) (s : Sd) : Prop := Block w g 11 (rsCell s.state s.peer s.simult s.me s.want s.cookie s.challenge)
theorem forall11 {p : Nat → Prop} (h0 : p 0) (h1 : p 1) (h2 : p 2) (h3 : p 3) (h4 : p 4) (h5 : p 5) (h6 : p 6) (h7 : p 7) (h8 : p 8) (h9 : p 9) (h10 : p 10) : ∀ j, j < 11 → p j
  | 0, _ => h0 | 1, _ => h1 | 2, _ => h2 | 3, _ => h3 | 4, _ => h4 | 5, _ => h5 | 6, _ => h6 | 7, _ => h7 | 8, _ => h8 | 9, _ => h9 | 10, _ => h10
  | n + 11, h => absurd h (by omega)
theorem RSide.turned {S : Nat → Prop} {w w' : World} {g : Nat} {s : Sd} (h : RSide w g s) (ht : Turned S w w') (hs : ¬ S g) : RSide w' g s := Block.turned h ht hs
theorem RSide.below {w w' : World} {g : Nat} {s : Sd} (h : RSide w g s) (hb : Below w.heap.size w w') : RSide w' g s := h.turned (Turned.ofBelow (S := fun _ => False) hb) (fun h => h)
theorem RSide.lt {w : World} {g : Nat} {s : Sd} (h : RSide w g s) : g < w.heap.size := Block.lt h (by omega)
theorem RSide.ofNew (w : World) (st : Int) (p : Pr) (si : Bool) (me : Pr) (want cookie : ByteArray) (ch : Nat) (t : TypeId) : RSide (w.alloc (.cells #[.int .i64 st, .string p.name, .int .u64 p.flags, .int .u32 p.creation, .bool si, .string me.name, .int .u64 me.flags, .int .u32 me.creation, .string want, .string cookie, .int .u32 ch] t)) w.heap.size ⟨st, p, si, me, want, cookie, ch⟩ :=
  forall11 ⟨by simp [rsCell], by rw [World.frozen?_alloc_new]⟩ ⟨by simp [rsCell], by rw [World.frozen?_alloc_new]⟩ ⟨by simp [rsCell], by rw [World.frozen?_alloc_new]⟩ ⟨by simp [rsCell], by rw [World.frozen?_alloc_new]⟩ ⟨by simp [rsCell], by rw [World.frozen?_alloc_new]⟩ ⟨by simp [rsCell], by rw [World.frozen?_alloc_new]⟩ ⟨by simp [rsCell], by rw [World.frozen?_alloc_new]⟩ ⟨by simp [rsCell], by rw [World.frozen?_alloc_new]⟩ ⟨by simp [rsCell], by rw [World.frozen?_alloc_new]⟩ ⟨by simp [rsCell], by rw [World.frozen?_alloc_new]⟩ ⟨by simp [rsCell], by rw [World.frozen?_alloc_new]⟩
theorem links_of_mix {B : Nat} {w : World} {v : Value} {x : Int × Int} (h : LinksM B w v (some x)) : LinksC B w v [⟨lyMix, x.1, x.2⟩] := by
  obtain ⟨lb, h1, h2, c0, c1, c2⟩ := h
  exact ⟨lb, 1, h1, h2, c0, c1, c2⟩
/-- What the document's made tells. -/
def RMadeTold (me : Pr) (peer : ByteArray) (begins : Bool) (cookie : ByteArray) (ch : Nat) (w : World) (e : Ending) (w' : World) : Prop :=
  (madeErr me peer begins cookie ≠ [] ∧ ∃ v, e = .returned (.tuple #[.pointer none, v]) ∧ LinksC w.heap.size w' v (madeErr me peer begins cookie) ∧ Below w.heap.size w w') ∨
  (madeErr me peer begins cookie = [] ∧ ∃ g, e = .returned (.tuple #[.pointer (some ⟨g, 0, none⟩), .slice none 0 0]) ∧ w.heap.size ≤ g ∧ RSide w' g (madeOf 0 me peer cookie ch) ∧ Below w.heap.size w w')
set_option maxRecDepth 100000 in
set_option maxHeartbeats 3200000 in
theorem ref_made_a_true (me : Pr) (peer cookie : ByteArray) (ch : Nat) (hns : me.name.size ≤ 4611686018427387904) (h1 : nodeOk me.name = false) (w : World) : Calls Tryz.prog 60 #[.agg #[.string me.name, .int .u64 me.flags, .int .u32 me.creation], .string peer, .bool true, .string cookie, .int .u32 ch] w (RMadeTold me peer true cookie ch w) := by
  have hME : madeErr me peer true cookie = shName 0 := by unfold madeErr; simp [h1]
  obtain ⟨wa, hwa⟩ : ∃ wa, wa = w.alloc (.cells #[.string me.name, .int .u64 me.flags, .int .u32 me.creation] 46) := ⟨_, rfl⟩
  have ba : Below w.heap.size w wa := by rw [hwa]; exact (Below.refl _ _).alloc (Nat.le_refl _) _
  have pa : PeerAt wa w.heap.size me := by rw [hwa]; exact PeerAt.ofNew w me _
  have hnq := Tryz.neqLinks
  have heq := Tryz.eqlLinks
  have hn1 := ref_node me.name hns wa
  have H0 : Hid (Below w.heap.size w wa ∧ PeerAt wa w.heap.size me) := ⟨ba, pa⟩
  have HWA := Hid.mk7 hwa
  unfold RMadeTold
  rw [hME]
  clear hME hwa ba pa
  rw [h1, if_neg (by decide)] at hn1
  clear h1
  go_enter Tryz.func60, Tryz.ntmps60
  go_wp2_with fail
  rw [← HWA.out]
  refine hn1.mono ?_
  rintro e w1 ⟨x1, y1, v1, rfl, hl1, hb1⟩
  have H1 : Hid (Below w.heap.size w w1 ∧ PeerAt w1 w.heap.size me) := ⟨H0.out.1.trans (hb1.mono H0.out.1.size), H0.out.2.below hb1⟩
  clear hb1 hn1 H0 HWA
  obtain ⟨p0, p1, p2⟩ := H1.out.2
  have hov := sh_over 0 ⟨lyAtom, 0, 24⟩ hl1
  have HL := Hid.mk7 hl1
  obtain ⟨lb, cap, _, rfl, _⟩ := hl1
  clear HL
  go_wp2_with fail
  refine hov.mono ?_
  rintro e w9 ⟨v9, rfl, hl9, hb9⟩
  have H9 : Hid (LinksC w.heap.size w9 v9 (shName 0) ∧ Below w.heap.size w w9) := ⟨hl9.mono H1.out.1.size, H1.out.1.trans (hb9.mono H1.out.1.size)⟩
  obtain ⟨lb9, cap9, _, rfl, _⟩ := hl9
  clear hb9 hov
  go_wp2
  go_ret2
  exact .inl ⟨by simp [shName], _, rfl, H9.out⟩

set_option maxRecDepth 100000 in
set_option maxHeartbeats 3200000 in
theorem ref_made_b_true (me : Pr) (peer cookie : ByteArray) (ch : Nat) (hns : me.name.size ≤ 4611686018427387904) (hps : peer.size ≤ 4611686018427387904) (h1 : nodeOk me.name = true) (h2 : nodeOk peer = false) (w : World) : Calls Tryz.prog 60 #[.agg #[.string me.name, .int .u64 me.flags, .int .u32 me.creation], .string peer, .bool true, .string cookie, .int .u32 ch] w (RMadeTold me peer true cookie ch w) := by
  have hME : madeErr me peer true cookie = shName 0 := by unfold madeErr; simp [h1, h2]
  obtain ⟨wa, hwa⟩ : ∃ wa, wa = w.alloc (.cells #[.string me.name, .int .u64 me.flags, .int .u32 me.creation] 46) := ⟨_, rfl⟩
  have ba : Below w.heap.size w wa := by rw [hwa]; exact (Below.refl _ _).alloc (Nat.le_refl _) _
  have pa : PeerAt wa w.heap.size me := by rw [hwa]; exact PeerAt.ofNew w me _
  have hnq := Tryz.neqLinks
  have heq := Tryz.eqlLinks
  have hn1 := ref_node me.name hns wa
  have H0 : Hid (Below w.heap.size w wa ∧ PeerAt wa w.heap.size me) := ⟨ba, pa⟩
  have HWA := Hid.mk7 hwa
  unfold RMadeTold
  rw [hME]
  clear hME hwa ba pa
  have K2 := Hid.mk7 h2
  clear h2
  rw [if_pos h1] at hn1
  clear h1
  go_enter Tryz.func60, Tryz.ntmps60
  go_wp2_with fail
  rw [← HWA.out]
  refine hn1.mono ?_
  rintro e w1 ⟨x1, y1, v1, rfl, hl1, hb1⟩
  have H1 : Hid (Below w.heap.size w w1 ∧ PeerAt w1 w.heap.size me) := ⟨H0.out.1.trans (hb1.mono H0.out.1.size), H0.out.2.below hb1⟩
  clear hb1 hn1 H0 HWA
  have hl1 : v1 = .slice none 0 0 := hl1
  subst hl1
  obtain ⟨p0, p1, p2⟩ := H1.out.2
  have hn2 := ref_node peer hps w1
  rw [K2.out, if_neg (by decide)] at hn2
  go_wp2_with fail
  refine hn2.mono ?_
  rintro e w2 ⟨x2, y2, v2, rfl, hl2, hb2⟩
  have H2 : Hid (Below w.heap.size w w2 ∧ PeerAt w2 w.heap.size me) := ⟨H1.out.1.trans (hb2.mono H1.out.1.size), H1.out.2.below hb2⟩
  clear hb2 hn2 H1 p0 p1 p2
  obtain ⟨p0, p1, p2⟩ := H2.out.2
  have hov := sh_over 0 ⟨lyAtom, 0, 24⟩ hl2
  have HL := Hid.mk7 hl2
  obtain ⟨lb, cap, _, rfl, _⟩ := hl2
  clear HL
  go_wp2_with fail
  refine hov.mono ?_
  rintro e w9 ⟨v9, rfl, hl9, hb9⟩
  have H9 : Hid (LinksC w.heap.size w9 v9 (shName 0) ∧ Below w.heap.size w w9) := ⟨hl9.mono H2.out.1.size, H2.out.1.trans (hb9.mono H2.out.1.size)⟩
  obtain ⟨lb9, cap9, _, rfl, _⟩ := hl9
  clear hb9 hov
  go_wp2
  go_ret2
  exact .inl ⟨by simp [shName], _, rfl, H9.out⟩

set_option maxRecDepth 100000 in
set_option maxHeartbeats 3200000 in
theorem ref_made_c_true (me : Pr) (peer cookie : ByteArray) (ch : Nat) (hns : me.name.size ≤ 4611686018427387904) (hps : peer.size ≤ 4611686018427387904) (h1 : nodeOk me.name = true) (h2 : nodeOk peer = true) (h3 : lacksB me.flags = true) (w : World) : Calls Tryz.prog 60 #[.agg #[.string me.name, .int .u64 me.flags, .int .u32 me.creation], .string peer, .bool true, .string cookie, .int .u32 ch] w (RMadeTold me peer true cookie ch w) := by
  have hME : madeErr me peer true cookie = sh 0 162 := by unfold madeErr; simp [h1, h2, h3]
  obtain ⟨wa, hwa⟩ : ∃ wa, wa = w.alloc (.cells #[.string me.name, .int .u64 me.flags, .int .u32 me.creation] 46) := ⟨_, rfl⟩
  have ba : Below w.heap.size w wa := by rw [hwa]; exact (Below.refl _ _).alloc (Nat.le_refl _) _
  have pa : PeerAt wa w.heap.size me := by rw [hwa]; exact PeerAt.ofNew w me _
  have hnq := Tryz.neqLinks
  have heq := Tryz.eqlLinks
  have hn1 := ref_node me.name hns wa
  have H0 : Hid (Below w.heap.size w wa ∧ PeerAt wa w.heap.size me) := ⟨ba, pa⟩
  have HWA := Hid.mk7 hwa
  unfold RMadeTold
  rw [hME]
  clear hME hwa ba pa
  have K2 := Hid.mk7 h2
  clear h2
  have K3 := Hid.mk7 h3
  clear h3
  have hla := fun W => ref_lacks me.flags W
  rw [K3.out] at hla
  rw [if_pos h1] at hn1
  clear h1
  go_enter Tryz.func60, Tryz.ntmps60
  go_wp2_with fail
  rw [← HWA.out]
  refine hn1.mono ?_
  rintro e w1 ⟨x1, y1, v1, rfl, hl1, hb1⟩
  have H1 : Hid (Below w.heap.size w w1 ∧ PeerAt w1 w.heap.size me) := ⟨H0.out.1.trans (hb1.mono H0.out.1.size), H0.out.2.below hb1⟩
  clear hb1 hn1 H0 HWA
  have hl1 : v1 = .slice none 0 0 := hl1
  subst hl1
  obtain ⟨p0, p1, p2⟩ := H1.out.2
  have hn2 := ref_node peer hps w1
  rw [if_pos K2.out] at hn2
  go_wp2_with fail
  refine hn2.mono ?_
  rintro e w2 ⟨x2, y2, v2, rfl, hl2, hb2⟩
  have H2 : Hid (Below w.heap.size w w2 ∧ PeerAt w2 w.heap.size me) := ⟨H1.out.1.trans (hb2.mono H1.out.1.size), H1.out.2.below hb2⟩
  clear hb2 hn2 H1 p0 p1 p2
  have hl2 : v2 = .slice none 0 0 := hl2
  subst hl2
  obtain ⟨p0, p1, p2⟩ := H2.out.2
  have hno := sh_no 0 162 w2
  go_wp2_with (first
    | (go_at_call 53; refine (hla _).mono ?_; rintro e ww ⟨rfl, rfl⟩)
    | fail)
  refine hno.mono ?_
  rintro e w9 ⟨v9, rfl, hl9, hb9⟩
  have H9 : Hid (LinksC w.heap.size w9 v9 (sh 0 162) ∧ Below w.heap.size w w9) := ⟨hl9.mono H2.out.1.size, H2.out.1.trans (hb9.mono H2.out.1.size)⟩
  obtain ⟨lb9, cap9, _, rfl, _⟩ := hl9
  clear hb9 hno
  go_wp2
  go_ret2
  exact .inl ⟨by simp [sh], _, rfl, H9.out⟩

set_option maxRecDepth 100000 in
set_option maxHeartbeats 3200000 in
theorem ref_made_d_true (me : Pr) (peer cookie : ByteArray) (ch : Nat) (hns : me.name.size ≤ 4611686018427387904) (hps : peer.size ≤ 4611686018427387904) (h1 : nodeOk me.name = true) (h2 : nodeOk peer = true) (h3 : lacksB me.flags = false) (h4 : me.creation = 0) (w : World) : Calls Tryz.prog 60 #[.agg #[.string me.name, .int .u64 me.flags, .int .u32 me.creation], .string peer, .bool true, .string cookie, .int .u32 ch] w (RMadeTold me peer true cookie ch w) := by
  have hME : madeErr me peer true cookie = sh 0 1 := by unfold madeErr; simp [h1, h2, h3, h4]
  obtain ⟨wa, hwa⟩ : ∃ wa, wa = w.alloc (.cells #[.string me.name, .int .u64 me.flags, .int .u32 me.creation] 46) := ⟨_, rfl⟩
  have ba : Below w.heap.size w wa := by rw [hwa]; exact (Below.refl _ _).alloc (Nat.le_refl _) _
  have pa : PeerAt wa w.heap.size me := by rw [hwa]; exact PeerAt.ofNew w me _
  have hnq := Tryz.neqLinks
  have heq := Tryz.eqlLinks
  have hn1 := ref_node me.name hns wa
  have H0 : Hid (Below w.heap.size w wa ∧ PeerAt wa w.heap.size me) := ⟨ba, pa⟩
  have HWA := Hid.mk7 hwa
  unfold RMadeTold
  rw [hME]
  clear hME hwa ba pa
  have K2 := Hid.mk7 h2
  clear h2
  have K3 := Hid.mk7 h3
  clear h3
  have K4 := Hid.mk7 h4
  clear h4
  have hla := fun W => ref_lacks me.flags W
  rw [K3.out] at hla
  rw [if_pos h1] at hn1
  clear h1
  go_enter Tryz.func60, Tryz.ntmps60
  go_wp2_with fail
  rw [← HWA.out]
  refine hn1.mono ?_
  rintro e w1 ⟨x1, y1, v1, rfl, hl1, hb1⟩
  have H1 : Hid (Below w.heap.size w w1 ∧ PeerAt w1 w.heap.size me) := ⟨H0.out.1.trans (hb1.mono H0.out.1.size), H0.out.2.below hb1⟩
  clear hb1 hn1 H0 HWA
  have hl1 : v1 = .slice none 0 0 := hl1
  subst hl1
  obtain ⟨p0, p1, p2⟩ := H1.out.2
  have hn2 := ref_node peer hps w1
  rw [if_pos K2.out] at hn2
  go_wp2_with fail
  refine hn2.mono ?_
  rintro e w2 ⟨x2, y2, v2, rfl, hl2, hb2⟩
  have H2 : Hid (Below w.heap.size w w2 ∧ PeerAt w2 w.heap.size me) := ⟨H1.out.1.trans (hb2.mono H1.out.1.size), H1.out.2.below hb2⟩
  clear hb2 hn2 H1 p0 p1 p2
  have hl2 : v2 = .slice none 0 0 := hl2
  subst hl2
  obtain ⟨p0, p1, p2⟩ := H2.out.2
  rw [K4.out] at p2
  have hno := sh_no 0 1 w2
  go_wp2_with (first
    | (go_at_call 53; refine (hla _).mono ?_; rintro e ww ⟨rfl, rfl⟩)
    | fail)
  refine hno.mono ?_
  rintro e w9 ⟨v9, rfl, hl9, hb9⟩
  have H9 : Hid (LinksC w.heap.size w9 v9 (sh 0 1) ∧ Below w.heap.size w w9) := ⟨hl9.mono H2.out.1.size, H2.out.1.trans (hb9.mono H2.out.1.size)⟩
  obtain ⟨lb9, cap9, _, rfl, _⟩ := hl9
  clear hb9 hno
  go_wp2
  go_ret2
  exact .inl ⟨by simp [sh], _, rfl, H9.out⟩

set_option maxRecDepth 100000 in
set_option maxHeartbeats 3200000 in
theorem ref_made_e_true (me : Pr) (peer cookie : ByteArray) (ch : Nat) (hns : me.name.size ≤ 4611686018427387904) (hps : peer.size ≤ 4611686018427387904) (h1 : nodeOk me.name = true) (h2 : nodeOk peer = true) (h3 : lacksB me.flags = false) (h4 : me.creation ≠ 0) (h5 : peer = me.name) (w : World) : Calls Tryz.prog 60 #[.agg #[.string me.name, .int .u64 me.flags, .int .u32 me.creation], .string peer, .bool true, .string cookie, .int .u32 ch] w (RMadeTold me peer true cookie ch w) := by
  have hME : madeErr me peer true cookie = sh 0 6 := by unfold madeErr; simp [h1, h3, h4, h5]
  obtain ⟨wa, hwa⟩ : ∃ wa, wa = w.alloc (.cells #[.string me.name, .int .u64 me.flags, .int .u32 me.creation] 46) := ⟨_, rfl⟩
  have ba : Below w.heap.size w wa := by rw [hwa]; exact (Below.refl _ _).alloc (Nat.le_refl _) _
  have pa : PeerAt wa w.heap.size me := by rw [hwa]; exact PeerAt.ofNew w me _
  have hnq := Tryz.neqLinks
  have heq := Tryz.eqlLinks
  have hn1 := ref_node me.name hns wa
  have H0 : Hid (Below w.heap.size w wa ∧ PeerAt wa w.heap.size me) := ⟨ba, pa⟩
  have HWA := Hid.mk7 hwa
  unfold RMadeTold
  rw [hME]
  clear hME hwa ba pa
  have K2 := Hid.mk7 h2
  clear h2
  have K3 := Hid.mk7 h3
  clear h3
  have K4 := Hid.mk7 h4
  clear h4
  have K5 := Hid.mk7 h5
  clear h5
  have hla := fun W => ref_lacks me.flags W
  rw [K3.out] at hla
  rw [if_pos h1] at hn1
  clear h1
  go_enter Tryz.func60, Tryz.ntmps60
  go_wp2_with fail
  rw [← HWA.out]
  refine hn1.mono ?_
  rintro e w1 ⟨x1, y1, v1, rfl, hl1, hb1⟩
  have H1 : Hid (Below w.heap.size w w1 ∧ PeerAt w1 w.heap.size me) := ⟨H0.out.1.trans (hb1.mono H0.out.1.size), H0.out.2.below hb1⟩
  clear hb1 hn1 H0 HWA
  have hl1 : v1 = .slice none 0 0 := hl1
  subst hl1
  obtain ⟨p0, p1, p2⟩ := H1.out.2
  have hn2 := ref_node peer hps w1
  rw [if_pos K2.out] at hn2
  go_wp2_with fail
  refine hn2.mono ?_
  rintro e w2 ⟨x2, y2, v2, rfl, hl2, hb2⟩
  have H2 : Hid (Below w.heap.size w w2 ∧ PeerAt w2 w.heap.size me) := ⟨H1.out.1.trans (hb2.mono H1.out.1.size), H1.out.2.below hb2⟩
  clear hb2 hn2 H1 p0 p1 p2
  have hl2 : v2 = .slice none 0 0 := hl2
  subst hl2
  obtain ⟨p0, p1, p2⟩ := H2.out.2
  have hcr : (me.creation == 0) = false := by simp [K4.out]
  have h5 := K5.out
  subst h5
  have hno := sh_no 0 6 w2
  go_wp2_with (first
    | (go_at_call 53; refine (hla _).mono ?_; rintro e ww ⟨rfl, rfl⟩)
    | fail)
  refine hno.mono ?_
  rintro e w9 ⟨v9, rfl, hl9, hb9⟩
  have H9 : Hid (LinksC w.heap.size w9 v9 (sh 0 6) ∧ Below w.heap.size w w9) := ⟨hl9.mono H2.out.1.size, H2.out.1.trans (hb9.mono H2.out.1.size)⟩
  obtain ⟨lb9, cap9, _, rfl, _⟩ := hl9
  clear hb9 hno
  go_wp2
  go_ret2
  exact .inl ⟨by simp [sh], _, rfl, H9.out⟩

set_option maxRecDepth 100000 in
set_option maxHeartbeats 3200000 in
theorem ref_made_f_true (me : Pr) (peer cookie : ByteArray) (ch : Nat) (hns : me.name.size ≤ 4611686018427387904) (hps : peer.size ≤ 4611686018427387904) (hcs : cookie.size ≤ 4611686018427387904) (h1 : nodeOk me.name = true) (h2 : nodeOk peer = true) (h3 : lacksB me.flags = false) (h4 : me.creation ≠ 0) (h5 : peer ≠ me.name) {x : Int × Int} (h6 : cookieErr cookie = some x) (w : World) : Calls Tryz.prog 60 #[.agg #[.string me.name, .int .u64 me.flags, .int .u32 me.creation], .string peer, .bool true, .string cookie, .int .u32 ch] w (RMadeTold me peer true cookie ch w) := by
  have hME : madeErr me peer true cookie = shCookie x := by unfold madeErr; simp [h1, h2, h3, h4, h5, h6]
  obtain ⟨wa, hwa⟩ : ∃ wa, wa = w.alloc (.cells #[.string me.name, .int .u64 me.flags, .int .u32 me.creation] 46) := ⟨_, rfl⟩
  have ba : Below w.heap.size w wa := by rw [hwa]; exact (Below.refl _ _).alloc (Nat.le_refl _) _
  have pa : PeerAt wa w.heap.size me := by rw [hwa]; exact PeerAt.ofNew w me _
  have hnq := Tryz.neqLinks
  have heq := Tryz.eqlLinks
  have hn1 := ref_node me.name hns wa
  have H0 : Hid (Below w.heap.size w wa ∧ PeerAt wa w.heap.size me) := ⟨ba, pa⟩
  have HWA := Hid.mk7 hwa
  unfold RMadeTold
  rw [hME]
  clear hME hwa ba pa
  have K2 := Hid.mk7 h2
  clear h2
  have K3 := Hid.mk7 h3
  clear h3
  have K4 := Hid.mk7 h4
  clear h4
  have K5 := Hid.mk7 h5
  clear h5
  have K6 := Hid.mk7 h6
  clear h6
  have hla := fun W => ref_lacks me.flags W
  rw [K3.out] at hla
  rw [if_pos h1] at hn1
  clear h1
  go_enter Tryz.func60, Tryz.ntmps60
  go_wp2_with fail
  rw [← HWA.out]
  refine hn1.mono ?_
  rintro e w1 ⟨x1, y1, v1, rfl, hl1, hb1⟩
  have H1 : Hid (Below w.heap.size w w1 ∧ PeerAt w1 w.heap.size me) := ⟨H0.out.1.trans (hb1.mono H0.out.1.size), H0.out.2.below hb1⟩
  clear hb1 hn1 H0 HWA
  have hl1 : v1 = .slice none 0 0 := hl1
  subst hl1
  obtain ⟨p0, p1, p2⟩ := H1.out.2
  have hn2 := ref_node peer hps w1
  rw [if_pos K2.out] at hn2
  go_wp2_with fail
  refine hn2.mono ?_
  rintro e w2 ⟨x2, y2, v2, rfl, hl2, hb2⟩
  have H2 : Hid (Below w.heap.size w w2 ∧ PeerAt w2 w.heap.size me) := ⟨H1.out.1.trans (hb2.mono H1.out.1.size), H1.out.2.below hb2⟩
  clear hb2 hn2 H1 p0 p1 p2
  have hl2 : v2 = .slice none 0 0 := hl2
  subst hl2
  obtain ⟨p0, p1, p2⟩ := H2.out.2
  have hcr : (me.creation == 0) = false := by simp [K4.out]
  have hne := toList_ne' K5.out
  have hck := ref_cookie cookie hcs w2
  rw [K6.out] at hck
  go_wp2_with (first
    | (go_at_call 53; refine (hla _).mono ?_; rintro e ww ⟨rfl, rfl⟩)
    | fail)
  refine hck.mono ?_
  rintro e w3 ⟨v3, rfl, hl3, hb3⟩
  have H3 : Hid (Below w.heap.size w w3 ∧ PeerAt w3 w.heap.size me) := ⟨H2.out.1.trans (hb3.mono H2.out.1.size), H2.out.2.below hb3⟩
  clear hb3 hck H2 p0 p1 p2
  obtain ⟨p0, p1, p2⟩ := H3.out.2
  have hl3 := links_of_mix hl3
  have hov := sh_over 0 ⟨lyMix, x.1, x.2⟩ hl3
  have HL := Hid.mk7 hl3
  obtain ⟨lb, cap, _, rfl, _⟩ := hl3
  clear HL
  go_wp2_with fail
  refine hov.mono ?_
  rintro e w9 ⟨v9, rfl, hl9, hb9⟩
  have H9 : Hid (LinksC w.heap.size w9 v9 (shCookie x) ∧ Below w.heap.size w w9) := ⟨hl9.mono H3.out.1.size, H3.out.1.trans (hb9.mono H3.out.1.size)⟩
  obtain ⟨lb9, cap9, _, rfl, _⟩ := hl9
  clear hb9 hov
  go_wp2
  go_ret2
  exact .inl ⟨by simp [shCookie], _, rfl, H9.out⟩

set_option maxRecDepth 100000 in
set_option maxHeartbeats 3200000 in
theorem ref_made_g_true (me : Pr) (peer cookie : ByteArray) (ch : Nat) (hns : me.name.size ≤ 4611686018427387904) (hps : peer.size ≤ 4611686018427387904) (hcs : cookie.size ≤ 4611686018427387904) (h1 : nodeOk me.name = true) (h2 : nodeOk peer = true) (h3 : lacksB me.flags = false) (h4 : me.creation ≠ 0) (h5 : peer ≠ me.name) (h6 : cookieErr cookie = none) (w : World) : Calls Tryz.prog 60 #[.agg #[.string me.name, .int .u64 me.flags, .int .u32 me.creation], .string peer, .bool true, .string cookie, .int .u32 ch] w (RMadeTold me peer true cookie ch w) := by
  have hME : madeErr me peer true cookie = [] := by unfold madeErr; simp [h1, h2, h3, h4, h5, h6]
  obtain ⟨wa, hwa⟩ : ∃ wa, wa = w.alloc (.cells #[.string me.name, .int .u64 me.flags, .int .u32 me.creation] 46) := ⟨_, rfl⟩
  have ba : Below w.heap.size w wa := by rw [hwa]; exact (Below.refl _ _).alloc (Nat.le_refl _) _
  have pa : PeerAt wa w.heap.size me := by rw [hwa]; exact PeerAt.ofNew w me _
  have hnq := Tryz.neqLinks
  have heq := Tryz.eqlLinks
  have hn1 := ref_node me.name hns wa
  have H0 : Hid (Below w.heap.size w wa ∧ PeerAt wa w.heap.size me) := ⟨ba, pa⟩
  have HWA := Hid.mk7 hwa
  unfold RMadeTold
  rw [hME]
  clear hME hwa ba pa
  have K2 := Hid.mk7 h2
  clear h2
  have K3 := Hid.mk7 h3
  clear h3
  have K4 := Hid.mk7 h4
  clear h4
  have K5 := Hid.mk7 h5
  clear h5
  have K6 := Hid.mk7 h6
  clear h6
  have hla := fun W => ref_lacks me.flags W
  rw [K3.out] at hla
  rw [if_pos h1] at hn1
  clear h1
  go_enter Tryz.func60, Tryz.ntmps60
  go_wp2_with fail
  rw [← HWA.out]
  refine hn1.mono ?_
  rintro e w1 ⟨x1, y1, v1, rfl, hl1, hb1⟩
  have H1 : Hid (Below w.heap.size w w1 ∧ PeerAt w1 w.heap.size me) := ⟨H0.out.1.trans (hb1.mono H0.out.1.size), H0.out.2.below hb1⟩
  clear hb1 hn1 H0 HWA
  have hl1 : v1 = .slice none 0 0 := hl1
  subst hl1
  obtain ⟨p0, p1, p2⟩ := H1.out.2
  have hn2 := ref_node peer hps w1
  rw [if_pos K2.out] at hn2
  go_wp2_with fail
  refine hn2.mono ?_
  rintro e w2 ⟨x2, y2, v2, rfl, hl2, hb2⟩
  have H2 : Hid (Below w.heap.size w w2 ∧ PeerAt w2 w.heap.size me) := ⟨H1.out.1.trans (hb2.mono H1.out.1.size), H1.out.2.below hb2⟩
  clear hb2 hn2 H1 p0 p1 p2
  have hl2 : v2 = .slice none 0 0 := hl2
  subst hl2
  obtain ⟨p0, p1, p2⟩ := H2.out.2
  have hcr : (me.creation == 0) = false := by simp [K4.out]
  have hne := toList_ne' K5.out
  have hck := ref_cookie cookie hcs w2
  rw [K6.out] at hck
  go_wp2_with (first
    | (go_at_call 53; refine (hla _).mono ?_; rintro e ww ⟨rfl, rfl⟩)
    | fail)
  refine hck.mono ?_
  rintro e w3 ⟨v3, rfl, hl3, hb3⟩
  have H3 : Hid (Below w.heap.size w w3 ∧ PeerAt w3 w.heap.size me) := ⟨H2.out.1.trans (hb3.mono H2.out.1.size), H2.out.2.below hb3⟩
  clear hb3 hck H2 p0 p1 p2
  obtain ⟨p0, p1, p2⟩ := H3.out.2
  have hl3 : v3 = .slice none 0 0 := hl3
  subst hl3
  go_wp2
  go_ret2
  exact .inr ⟨trivial, _, rfl, H3.out.1.size, RSide.ofNew w3 0 .zero false me peer cookie ch _, H3.out.1.alloc H3.out.1.size _⟩

set_option maxRecDepth 100000 in
set_option maxHeartbeats 3200000 in
theorem ref_made_a_false (me : Pr) (peer cookie : ByteArray) (ch : Nat) (hns : me.name.size ≤ 4611686018427387904) (h1 : nodeOk me.name = false) (w : World) : Calls Tryz.prog 60 #[.agg #[.string me.name, .int .u64 me.flags, .int .u32 me.creation], .string peer, .bool false, .string cookie, .int .u32 ch] w (RMadeTold me peer false cookie ch w) := by
  have hME : madeErr me peer false cookie = shName 0 := by unfold madeErr; simp [h1]
  obtain ⟨wa, hwa⟩ : ∃ wa, wa = w.alloc (.cells #[.string me.name, .int .u64 me.flags, .int .u32 me.creation] 46) := ⟨_, rfl⟩
  have ba : Below w.heap.size w wa := by rw [hwa]; exact (Below.refl _ _).alloc (Nat.le_refl _) _
  have pa : PeerAt wa w.heap.size me := by rw [hwa]; exact PeerAt.ofNew w me _
  have hnq := Tryz.neqLinks
  have heq := Tryz.eqlLinks
  have hn1 := ref_node me.name hns wa
  have H0 : Hid (Below w.heap.size w wa ∧ PeerAt wa w.heap.size me) := ⟨ba, pa⟩
  have HWA := Hid.mk7 hwa
  unfold RMadeTold
  rw [hME]
  clear hME hwa ba pa
  rw [h1, if_neg (by decide)] at hn1
  clear h1
  go_enter Tryz.func60, Tryz.ntmps60
  go_wp2_with fail
  rw [← HWA.out]
  refine hn1.mono ?_
  rintro e w1 ⟨x1, y1, v1, rfl, hl1, hb1⟩
  have H1 : Hid (Below w.heap.size w w1 ∧ PeerAt w1 w.heap.size me) := ⟨H0.out.1.trans (hb1.mono H0.out.1.size), H0.out.2.below hb1⟩
  clear hb1 hn1 H0 HWA
  obtain ⟨p0, p1, p2⟩ := H1.out.2
  have hov := sh_over 0 ⟨lyAtom, 0, 24⟩ hl1
  have HL := Hid.mk7 hl1
  obtain ⟨lb, cap, _, rfl, _⟩ := hl1
  clear HL
  go_wp2_with fail
  refine hov.mono ?_
  rintro e w9 ⟨v9, rfl, hl9, hb9⟩
  have H9 : Hid (LinksC w.heap.size w9 v9 (shName 0) ∧ Below w.heap.size w w9) := ⟨hl9.mono H1.out.1.size, H1.out.1.trans (hb9.mono H1.out.1.size)⟩
  obtain ⟨lb9, cap9, _, rfl, _⟩ := hl9
  clear hb9 hov
  go_wp2
  go_ret2
  exact .inl ⟨by simp [shName], _, rfl, H9.out⟩

set_option maxRecDepth 100000 in
set_option maxHeartbeats 3200000 in
theorem ref_made_c_false (me : Pr) (peer cookie : ByteArray) (ch : Nat) (hns : me.name.size ≤ 4611686018427387904) (h1 : nodeOk me.name = true) (h3 : lacksB me.flags = true) (w : World) : Calls Tryz.prog 60 #[.agg #[.string me.name, .int .u64 me.flags, .int .u32 me.creation], .string peer, .bool false, .string cookie, .int .u32 ch] w (RMadeTold me peer false cookie ch w) := by
  have hME : madeErr me peer false cookie = sh 0 162 := by unfold madeErr; simp [h1, h3]
  obtain ⟨wa, hwa⟩ : ∃ wa, wa = w.alloc (.cells #[.string me.name, .int .u64 me.flags, .int .u32 me.creation] 46) := ⟨_, rfl⟩
  have ba : Below w.heap.size w wa := by rw [hwa]; exact (Below.refl _ _).alloc (Nat.le_refl _) _
  have pa : PeerAt wa w.heap.size me := by rw [hwa]; exact PeerAt.ofNew w me _
  have hnq := Tryz.neqLinks
  have heq := Tryz.eqlLinks
  have hn1 := ref_node me.name hns wa
  have H0 : Hid (Below w.heap.size w wa ∧ PeerAt wa w.heap.size me) := ⟨ba, pa⟩
  have HWA := Hid.mk7 hwa
  unfold RMadeTold
  rw [hME]
  clear hME hwa ba pa
  have K3 := Hid.mk7 h3
  clear h3
  have hla := fun W => ref_lacks me.flags W
  rw [K3.out] at hla
  rw [if_pos h1] at hn1
  clear h1
  go_enter Tryz.func60, Tryz.ntmps60
  go_wp2_with fail
  rw [← HWA.out]
  refine hn1.mono ?_
  rintro e w1 ⟨x1, y1, v1, rfl, hl1, hb1⟩
  have H1 : Hid (Below w.heap.size w w1 ∧ PeerAt w1 w.heap.size me) := ⟨H0.out.1.trans (hb1.mono H0.out.1.size), H0.out.2.below hb1⟩
  clear hb1 hn1 H0 HWA
  have hl1 : v1 = .slice none 0 0 := hl1
  subst hl1
  obtain ⟨p0, p1, p2⟩ := H1.out.2
  have hno := sh_no 0 162 w1
  go_wp2_with (first
    | (go_at_call 53; refine (hla _).mono ?_; rintro e ww ⟨rfl, rfl⟩)
    | fail)
  refine hno.mono ?_
  rintro e w9 ⟨v9, rfl, hl9, hb9⟩
  have H9 : Hid (LinksC w.heap.size w9 v9 (sh 0 162) ∧ Below w.heap.size w w9) := ⟨hl9.mono H1.out.1.size, H1.out.1.trans (hb9.mono H1.out.1.size)⟩
  obtain ⟨lb9, cap9, _, rfl, _⟩ := hl9
  clear hb9 hno
  go_wp2
  go_ret2
  exact .inl ⟨by simp [sh], _, rfl, H9.out⟩

set_option maxRecDepth 100000 in
set_option maxHeartbeats 3200000 in
theorem ref_made_d_false (me : Pr) (peer cookie : ByteArray) (ch : Nat) (hns : me.name.size ≤ 4611686018427387904) (h1 : nodeOk me.name = true) (h3 : lacksB me.flags = false) (h4 : me.creation = 0) (w : World) : Calls Tryz.prog 60 #[.agg #[.string me.name, .int .u64 me.flags, .int .u32 me.creation], .string peer, .bool false, .string cookie, .int .u32 ch] w (RMadeTold me peer false cookie ch w) := by
  have hME : madeErr me peer false cookie = sh 0 1 := by unfold madeErr; simp [h1, h3, h4]
  obtain ⟨wa, hwa⟩ : ∃ wa, wa = w.alloc (.cells #[.string me.name, .int .u64 me.flags, .int .u32 me.creation] 46) := ⟨_, rfl⟩
  have ba : Below w.heap.size w wa := by rw [hwa]; exact (Below.refl _ _).alloc (Nat.le_refl _) _
  have pa : PeerAt wa w.heap.size me := by rw [hwa]; exact PeerAt.ofNew w me _
  have hnq := Tryz.neqLinks
  have heq := Tryz.eqlLinks
  have hn1 := ref_node me.name hns wa
  have H0 : Hid (Below w.heap.size w wa ∧ PeerAt wa w.heap.size me) := ⟨ba, pa⟩
  have HWA := Hid.mk7 hwa
  unfold RMadeTold
  rw [hME]
  clear hME hwa ba pa
  have K3 := Hid.mk7 h3
  clear h3
  have K4 := Hid.mk7 h4
  clear h4
  have hla := fun W => ref_lacks me.flags W
  rw [K3.out] at hla
  rw [if_pos h1] at hn1
  clear h1
  go_enter Tryz.func60, Tryz.ntmps60
  go_wp2_with fail
  rw [← HWA.out]
  refine hn1.mono ?_
  rintro e w1 ⟨x1, y1, v1, rfl, hl1, hb1⟩
  have H1 : Hid (Below w.heap.size w w1 ∧ PeerAt w1 w.heap.size me) := ⟨H0.out.1.trans (hb1.mono H0.out.1.size), H0.out.2.below hb1⟩
  clear hb1 hn1 H0 HWA
  have hl1 : v1 = .slice none 0 0 := hl1
  subst hl1
  obtain ⟨p0, p1, p2⟩ := H1.out.2
  rw [K4.out] at p2
  have hno := sh_no 0 1 w1
  go_wp2_with (first
    | (go_at_call 53; refine (hla _).mono ?_; rintro e ww ⟨rfl, rfl⟩)
    | fail)
  refine hno.mono ?_
  rintro e w9 ⟨v9, rfl, hl9, hb9⟩
  have H9 : Hid (LinksC w.heap.size w9 v9 (sh 0 1) ∧ Below w.heap.size w w9) := ⟨hl9.mono H1.out.1.size, H1.out.1.trans (hb9.mono H1.out.1.size)⟩
  obtain ⟨lb9, cap9, _, rfl, _⟩ := hl9
  clear hb9 hno
  go_wp2
  go_ret2
  exact .inl ⟨by simp [sh], _, rfl, H9.out⟩

set_option maxRecDepth 100000 in
set_option maxHeartbeats 3200000 in
theorem ref_made_f_false (me : Pr) (peer cookie : ByteArray) (ch : Nat) (hns : me.name.size ≤ 4611686018427387904) (hcs : cookie.size ≤ 4611686018427387904) (h1 : nodeOk me.name = true) (h3 : lacksB me.flags = false) (h4 : me.creation ≠ 0) {x : Int × Int} (h6 : cookieErr cookie = some x) (w : World) : Calls Tryz.prog 60 #[.agg #[.string me.name, .int .u64 me.flags, .int .u32 me.creation], .string peer, .bool false, .string cookie, .int .u32 ch] w (RMadeTold me peer false cookie ch w) := by
  have hME : madeErr me peer false cookie = shCookie x := by unfold madeErr; simp [h1, h3, h4, h6]
  obtain ⟨wa, hwa⟩ : ∃ wa, wa = w.alloc (.cells #[.string me.name, .int .u64 me.flags, .int .u32 me.creation] 46) := ⟨_, rfl⟩
  have ba : Below w.heap.size w wa := by rw [hwa]; exact (Below.refl _ _).alloc (Nat.le_refl _) _
  have pa : PeerAt wa w.heap.size me := by rw [hwa]; exact PeerAt.ofNew w me _
  have hnq := Tryz.neqLinks
  have heq := Tryz.eqlLinks
  have hn1 := ref_node me.name hns wa
  have H0 : Hid (Below w.heap.size w wa ∧ PeerAt wa w.heap.size me) := ⟨ba, pa⟩
  have HWA := Hid.mk7 hwa
  unfold RMadeTold
  rw [hME]
  clear hME hwa ba pa
  have K3 := Hid.mk7 h3
  clear h3
  have K4 := Hid.mk7 h4
  clear h4
  have K6 := Hid.mk7 h6
  clear h6
  have hla := fun W => ref_lacks me.flags W
  rw [K3.out] at hla
  rw [if_pos h1] at hn1
  clear h1
  go_enter Tryz.func60, Tryz.ntmps60
  go_wp2_with fail
  rw [← HWA.out]
  refine hn1.mono ?_
  rintro e w1 ⟨x1, y1, v1, rfl, hl1, hb1⟩
  have H1 : Hid (Below w.heap.size w w1 ∧ PeerAt w1 w.heap.size me) := ⟨H0.out.1.trans (hb1.mono H0.out.1.size), H0.out.2.below hb1⟩
  clear hb1 hn1 H0 HWA
  have hl1 : v1 = .slice none 0 0 := hl1
  subst hl1
  obtain ⟨p0, p1, p2⟩ := H1.out.2
  have hcr : (me.creation == 0) = false := by simp [K4.out]
  have hck := ref_cookie cookie hcs w1
  rw [K6.out] at hck
  go_wp2_with (first
    | (go_at_call 53; refine (hla _).mono ?_; rintro e ww ⟨rfl, rfl⟩)
    | fail)
  refine hck.mono ?_
  rintro e w3 ⟨v3, rfl, hl3, hb3⟩
  have H3 : Hid (Below w.heap.size w w3 ∧ PeerAt w3 w.heap.size me) := ⟨H1.out.1.trans (hb3.mono H1.out.1.size), H1.out.2.below hb3⟩
  clear hb3 hck H1 p0 p1 p2
  obtain ⟨p0, p1, p2⟩ := H3.out.2
  have hl3 := links_of_mix hl3
  have hov := sh_over 0 ⟨lyMix, x.1, x.2⟩ hl3
  have HL := Hid.mk7 hl3
  obtain ⟨lb, cap, _, rfl, _⟩ := hl3
  clear HL
  go_wp2_with fail
  refine hov.mono ?_
  rintro e w9 ⟨v9, rfl, hl9, hb9⟩
  have H9 : Hid (LinksC w.heap.size w9 v9 (shCookie x) ∧ Below w.heap.size w w9) := ⟨hl9.mono H3.out.1.size, H3.out.1.trans (hb9.mono H3.out.1.size)⟩
  obtain ⟨lb9, cap9, _, rfl, _⟩ := hl9
  clear hb9 hov
  go_wp2
  go_ret2
  exact .inl ⟨by simp [shCookie], _, rfl, H9.out⟩

set_option maxRecDepth 100000 in
set_option maxHeartbeats 3200000 in
theorem ref_made_g_false (me : Pr) (peer cookie : ByteArray) (ch : Nat) (hns : me.name.size ≤ 4611686018427387904) (hcs : cookie.size ≤ 4611686018427387904) (h1 : nodeOk me.name = true) (h3 : lacksB me.flags = false) (h4 : me.creation ≠ 0) (h6 : cookieErr cookie = none) (w : World) : Calls Tryz.prog 60 #[.agg #[.string me.name, .int .u64 me.flags, .int .u32 me.creation], .string peer, .bool false, .string cookie, .int .u32 ch] w (RMadeTold me peer false cookie ch w) := by
  have hME : madeErr me peer false cookie = [] := by unfold madeErr; simp [h1, h3, h4, h6]
  obtain ⟨wa, hwa⟩ : ∃ wa, wa = w.alloc (.cells #[.string me.name, .int .u64 me.flags, .int .u32 me.creation] 46) := ⟨_, rfl⟩
  have ba : Below w.heap.size w wa := by rw [hwa]; exact (Below.refl _ _).alloc (Nat.le_refl _) _
  have pa : PeerAt wa w.heap.size me := by rw [hwa]; exact PeerAt.ofNew w me _
  have hnq := Tryz.neqLinks
  have heq := Tryz.eqlLinks
  have hn1 := ref_node me.name hns wa
  have H0 : Hid (Below w.heap.size w wa ∧ PeerAt wa w.heap.size me) := ⟨ba, pa⟩
  have HWA := Hid.mk7 hwa
  unfold RMadeTold
  rw [hME]
  clear hME hwa ba pa
  have K3 := Hid.mk7 h3
  clear h3
  have K4 := Hid.mk7 h4
  clear h4
  have K6 := Hid.mk7 h6
  clear h6
  have hla := fun W => ref_lacks me.flags W
  rw [K3.out] at hla
  rw [if_pos h1] at hn1
  clear h1
  go_enter Tryz.func60, Tryz.ntmps60
  go_wp2_with fail
  rw [← HWA.out]
  refine hn1.mono ?_
  rintro e w1 ⟨x1, y1, v1, rfl, hl1, hb1⟩
  have H1 : Hid (Below w.heap.size w w1 ∧ PeerAt w1 w.heap.size me) := ⟨H0.out.1.trans (hb1.mono H0.out.1.size), H0.out.2.below hb1⟩
  clear hb1 hn1 H0 HWA
  have hl1 : v1 = .slice none 0 0 := hl1
  subst hl1
  obtain ⟨p0, p1, p2⟩ := H1.out.2
  have hcr : (me.creation == 0) = false := by simp [K4.out]
  have hck := ref_cookie cookie hcs w1
  rw [K6.out] at hck
  go_wp2_with (first
    | (go_at_call 53; refine (hla _).mono ?_; rintro e ww ⟨rfl, rfl⟩)
    | fail)
  refine hck.mono ?_
  rintro e w3 ⟨v3, rfl, hl3, hb3⟩
  have H3 : Hid (Below w.heap.size w w3 ∧ PeerAt w3 w.heap.size me) := ⟨H1.out.1.trans (hb3.mono H1.out.1.size), H1.out.2.below hb3⟩
  clear hb3 hck H1 p0 p1 p2
  obtain ⟨p0, p1, p2⟩ := H3.out.2
  have hl3 : v3 = .slice none 0 0 := hl3
  subst hl3
  go_wp2
  go_ret2
  exact .inr ⟨trivial, _, rfl, H3.out.1.size, RSide.ofNew w3 0 .zero false me peer cookie ch _, H3.out.1.alloc H3.out.1.size _⟩

/-- The document's made. -/
theorem ref_made (me : Pr) (peer : ByteArray) (begins : Bool) (cookie : ByteArray) (ch : Nat) (hns : me.name.size ≤ 4611686018427387904) (hps : peer.size ≤ 4611686018427387904) (hcs : cookie.size ≤ 4611686018427387904) (w : World) : Calls Tryz.prog 60 #[.agg #[.string me.name, .int .u64 me.flags, .int .u32 me.creation], .string peer, .bool begins, .string cookie, .int .u32 ch] w (RMadeTold me peer begins cookie ch w) := by
  cases begins with
  | true =>
    cases h1 : nodeOk me.name with
    | false => exact ref_made_a_true me peer cookie ch hns h1 w
    | true =>
      cases h2 : nodeOk peer with
      | false => exact ref_made_b_true me peer cookie ch hns hps h1 h2 w
      | true =>
        cases h3 : lacksB me.flags with
        | true => exact ref_made_c_true me peer cookie ch hns hps h1 h2 h3 w
        | false =>
          by_cases h4 : me.creation = 0
          · exact ref_made_d_true me peer cookie ch hns hps h1 h2 h3 h4 w
          by_cases h5 : peer = me.name
          · exact ref_made_e_true me peer cookie ch hns hps h1 h2 h3 h4 h5 w
          cases h6 : cookieErr cookie with
          | some x => exact ref_made_f_true me peer cookie ch hns hps hcs h1 h2 h3 h4 h5 h6 w
          | none => exact ref_made_g_true me peer cookie ch hns hps hcs h1 h2 h3 h4 h5 h6 w
  | false =>
    cases h1 : nodeOk me.name with
    | false => exact ref_made_a_false me peer cookie ch hns h1 w
    | true =>
      cases h3 : lacksB me.flags with
      | true => exact ref_made_c_false me peer cookie ch hns h1 h3 w
      | false =>
        by_cases h4 : me.creation = 0
        · exact ref_made_d_false me peer cookie ch hns h1 h3 h4 w
        cases h6 : cookieErr cookie with
        | some x => exact ref_made_f_false me peer cookie ch hns hcs h1 h3 h4 h6 w
        | none => exact ref_made_g_false me peer cookie ch hns hcs h1 h3 h4 h6 w
end Go.Proofs.YtmnibmgbicnamaaGreatDoor
namespace Go.Proofs.YtmnibmgbicnamaaGreatDoor
open Go.RowKit

theorem links_some {B : Nat} {w : World} {v : Value} : ∀ {ls : List Lnk}, LinksC B w v ls → ls ≠ [] → ∃ a L c, v = .slice (some a) L c
  | [], _, h => absurd rfl h
  | [_], ⟨_, _, _, h, _⟩, _ => ⟨_, _, _, h⟩
  | [_, _], ⟨_, _, _, h, _⟩, _ => ⟨_, _, _, h⟩
  | _ :: _ :: _ :: _, h, _ => h.elim
/-- What the document's Begin tells. -/
def RBeginTold (me : Pr) (peer cookie : ByteArray) (ch : Nat) (w : World) (e : Ending) (w' : World) : Prop :=
  (madeErr me peer true cookie ≠ [] ∧ ∃ v, e = .returned (.tuple #[.pointer none, .slice none 0 0, v]) ∧ LinksC w.heap.size w' v (madeErr me peer true cookie) ∧ Below w.heap.size w w') ∨
  (madeErr me peer true cookie = [] ∧ ∃ g V, e = .returned (.tuple #[.pointer (some ⟨g, 0, none⟩), V, .slice none 0 0]) ∧ w.heap.size ≤ g ∧ RSide w' g (madeOf 1 me peer cookie ch) ∧ Own w' V (writeOf (nameMsg me)) ∧ (∀ k, blk V k → w.heap.size ≤ k) ∧ Below w.heap.size w w')
/-- What the document's Wait tells. -/
def RWaitTold (me : Pr) (cookie : ByteArray) (ch : Nat) (w : World) (e : Ending) (w' : World) : Prop :=
  (madeErr me ⟨#[]⟩ false cookie ≠ [] ∧ ∃ v, e = .returned (.tuple #[.pointer none, v]) ∧ LinksC w.heap.size w' v (madeErr me ⟨#[]⟩ false cookie) ∧ Below w.heap.size w w') ∨
  (madeErr me ⟨#[]⟩ false cookie = [] ∧ ∃ g, e = .returned (.tuple #[.pointer (some ⟨g, 0, none⟩), .slice none 0 0]) ∧ w.heap.size ≤ g ∧ RSide w' g (madeOf 4 me ⟨#[]⟩ cookie ch) ∧ Below w.heap.size w w')
set_option maxRecDepth 100000 in
set_option maxHeartbeats 3200000 in
theorem ref_begin (me : Pr) (hme : me.Ok) (peer cookie : ByteArray) (ch : Nat) (hns : me.name.size ≤ 4611686018427387904) (hps : peer.size ≤ 4611686018427387904) (hcs : cookie.size ≤ 4611686018427387904) (w : World) :
    Calls Tryz.prog 23 #[.agg #[.string me.name, .int .u64 me.flags, .int .u32 me.creation], .string peer, .string cookie, .int .u32 ch] w (RBeginTold me peer cookie ch w) := by
  obtain ⟨wa, hwa⟩ : ∃ wa, wa = w.alloc (.cells #[.string me.name, .int .u64 me.flags, .int .u32 me.creation] 46) := ⟨_, rfl⟩
  have ba : Below w.heap.size w wa := by rw [hwa]; exact (Below.refl _ _).alloc (Nat.le_refl _) _
  have pa : PeerAt wa w.heap.size me := by rw [hwa]; exact PeerAt.ofNew w me _
  have sa : wa.heap.size = w.heap.size + 1 := by rw [hwa]; simp
  have HSA := Hid.mk7 sa
  have hmd := ref_made me peer true cookie ch hns hps hcs wa
  have H0 : Hid (Below w.heap.size w wa ∧ PeerAt wa w.heap.size me) := ⟨ba, pa⟩
  have HWA := Hid.mk7 hwa
  have HME := Hid.mk7 hme
  have hnq := Tryz.neqLinks
  unfold RMadeTold at hmd
  unfold RBeginTold
  generalize madeErr me peer true cookie = ls at hmd ⊢
  clear hwa ba pa sa hme
  go_enter Tryz.func23, Tryz.ntmps23
  go_wp2_with fail
  rw [← HWA.out]
  refine hmd.mono ?_
  rintro e w1 (⟨hls, v, rfl, hl1, hb1⟩ | ⟨hls, g, rfl, hg1, hs1, hb1⟩)
  · have HL : Hid (ls ≠ [] ∧ LinksC w.heap.size w1 v ls ∧ Below w.heap.size w w1) := ⟨hls, hl1.mono H0.out.1.size, H0.out.1.trans (hb1.mono H0.out.1.size)⟩
    obtain ⟨al, Ll, cl, rfl⟩ := links_some hl1 hls
    clear hl1 hls hb1 hmd HWA
    go_wp2
    go_ret3
    exact .inl ⟨HL.out.1, _, rfl, HL.out.2⟩
  · have H1 : Hid (Below w.heap.size w w1 ∧ PeerAt w1 w.heap.size me ∧ RSide w1 g (madeOf 0 me peer cookie ch) ∧ ls = []) := ⟨H0.out.1.trans (hb1.mono H0.out.1.size), H0.out.2.below hb1, hs1, hls⟩
    have hgw : w.heap.size < g := by have := HSA.out; omega
    obtain ⟨k0, f0⟩ := hs1 0 (by omega)
    simp only [rsCell, madeOf] at k0
    have hne1 : ¬ g = w.heap.size := by omega
    have hne2 : ¬ w.heap.size = g := by omega
    have T1 := Turned.set1 w1 g 0 (.int .i64 1)
    have p1 := H1.out.2.1.turned T1 (fun h => by have h : w.heap.size = g := h; omega)
    obtain ⟨p0, p1, p2⟩ := p1
    have hwr := ref_Write (nameMsg me) ⟨HME.out.flags, HME.out.creation, z32, fun z hz => by cases hz⟩ hns (w := w1.setCell ⟨g, 0, none⟩ (.int .i64 1)) (D := .slice none 0 0) (.inl ⟨rfl, rfl⟩)
    unfold msgV' RWriteTold at hwr
    simp only [nameMsg, Msg.zero] at hwr
    generalize hWz : writeOf _ = zs at hwr
    have HWz : Hid (writeOf (nameMsg me) = zs) := hWz
    have HT1 := Hid.mk7 T1
    clear hls hb1 hs1 hmd HWA hWz T1
    go_wp2_with fail
    refine hwr.mono ?_
    rintro e w2 ⟨V, v2, rfl, ho2, _, hb2, hk2⟩
    obtain ⟨aV, cV, LV, rfl⟩ : ∃ a c L, V = .slice a L c := ⟨_, _, _, ho2.sl.form.choose_spec.choose_spec.1⟩
    have hz1 := H1.out.1.size
    have hzT := HT1.out.size
    have H2 : Hid (Own w2 (.slice aV LV cV) zs ∧ Below (w1.setCell ⟨g, 0, none⟩ (.int .i64 1)).heap.size (w1.setCell ⟨g, 0, none⟩ (.int .i64 1)) w2 ∧ ∀ k, blk (.slice aV LV cV) k → (w1.setCell ⟨g, 0, none⟩ (.int .i64 1)).heap.size ≤ k) := ⟨ho2, hb2, hk2⟩
    clear ho2 hb2 hk2 hwr p0 p1 p2 k0 f0
    go_wp2
    go_ret3
    obtain ⟨q1, q2, q3⟩ := H2.out
    obtain ⟨r1, _, r3, r4⟩ := H1.out
    have hb : Below w.heap.size w1 (w1.setCell ⟨g, 0, none⟩ (.int .i64 1)) := HT1.out.below hz1 (fun k hk => by have hk : k = g := hk; omega)
    refine .inr ⟨r4, g, _, rfl, by omega, ?_, by rw [HWz.out]; exact q1, fun k hk => by have := q3 k hk; omega, (r1.trans hb).trans (q2.mono (by omega))⟩
    exact RSide.below (s := madeOf 1 me peer cookie ch) (Block.congr (Block.set r3 0 (.int .i64 1)) (forall11 rfl rfl rfl rfl rfl rfl rfl rfl rfl rfl rfl)) q2
set_option maxRecDepth 100000 in
set_option maxHeartbeats 3200000 in
theorem ref_wait (me : Pr) (cookie : ByteArray) (ch : Nat) (hns : me.name.size ≤ 4611686018427387904) (hcs : cookie.size ≤ 4611686018427387904) (w : World) :
    Calls Tryz.prog 24 #[.agg #[.string me.name, .int .u64 me.flags, .int .u32 me.creation], .string cookie, .int .u32 ch] w (RWaitTold me cookie ch w) := by
  have hmd := fun W => ref_made me ⟨#[]⟩ false cookie ch hns (by decide) hcs W
  have hnq := Tryz.neqLinks
  have A0 := (Below.refl w.heap.size w).alloc (Nat.le_refl _) (.cells #[.string me.name, .int .u64 me.flags, .int .u32 me.creation] 46)
  have HA := Hid.mk7 A0
  clear A0
  unfold RMadeTold at hmd
  unfold RWaitTold
  generalize madeErr me ⟨#[]⟩ false cookie = ls at hmd ⊢
  go_enter Tryz.func24, Tryz.ntmps24
  go_wp2_with fail
  refine (hmd _).mono ?_
  rintro e w1 (⟨hls, v, rfl, hl1, hb1⟩ | ⟨hls, g, rfl, hg1, hs1, hb1⟩)
  · have HL : Hid (ls ≠ [] ∧ LinksC w.heap.size w1 v ls ∧ Below w.heap.size w w1) := ⟨hls, hl1.mono HA.out.size, HA.out.trans (hb1.mono HA.out.size)⟩
    obtain ⟨al, Ll, cl, rfl⟩ := links_some hl1 hls
    clear hl1 hls hb1 hmd
    go_wp2
    go_ret2
    exact .inl ⟨HL.out.1, _, rfl, HL.out.2⟩
  · have H1 : Hid (Below w.heap.size w w1 ∧ RSide w1 g (madeOf 0 me ⟨#[]⟩ cookie ch) ∧ ls = [] ∧ w.heap.size ≤ g) := ⟨HA.out.trans (hb1.mono HA.out.size), hs1, hls, Nat.le_trans HA.out.size hg1⟩
    obtain ⟨k0, f0⟩ := hs1 0 (by omega)
    simp only [rsCell, madeOf] at k0
    clear hls hb1 hs1 hmd hg1
    go_wp2
    go_ret2
    obtain ⟨r1, r2, r3, r4⟩ := H1.out
    refine .inr ⟨r3, g, rfl, r4, ?_, r1.trans ((Turned.set1 w1 g 0 (.int .i64 4)).below r1.size (fun k hk => by have hk : k = g := hk; omega))⟩
    exact Block.congr (Block.set r2 0 (.int .i64 4)) (forall11 rfl rfl rfl rfl rfl rfl rfl rfl rfl rfl rfl)
end Go.Proofs.YtmnibmgbicnamaaGreatDoor
namespace Go.Proofs.YtmnibmgbicnamaaGreatDoor
open Go.RowKit

theorem fault_form {B : Nat} {w : World} {v : Value} {ls : List Lnk} (h : FaultC B w v ls) : v = .nilIface ∨ ∃ p, v = .iface 131 (.pointer (some p)) := by
  rcases fault_cases h with ⟨_, h⟩ | ⟨_, pb, h⟩
  · exact .inl h
  · exact .inr ⟨_, h⟩
theorem links_form {B : Nat} {w : World} {v : Value} : ∀ {ls : List Lnk}, LinksC B w v ls → ∃ a L c, v = .slice a L c
  | [], h => ⟨_, _, _, h⟩
  | [_], ⟨_, _, _, h, _⟩ => ⟨_, _, _, h⟩
  | [_, _], ⟨_, _, _, h, _⟩ => ⟨_, _, _, h⟩
  | _ :: _ :: _ :: _, h => h.elim
set_option maxRecDepth 100000 in
set_option maxHeartbeats 3200000 in
theorem writes_any (m : Msg) (hm : m.Ok) (hns : m.name.size ≤ 4611686018427387904) {w : World} {D : Value} (hD : Sl w D m.digest) (hG : Gd w) :
    Calls Tryz.prog 3 #[msgV' m D] w fun e w' => e = .returned (.bool true) ∧ Below w.heap.size w w' := by
  obtain ⟨aD, cD, rfl, _, _⟩ := hD.form
  obtain ⟨wa, hwa⟩ : ∃ wa, wa = w.alloc (.cells #[.int .i64 m.kind, .int .u64 m.flags, .int .u32 m.creation, .int .u32 m.challenge, .string m.name, .string m.status, .slice aD m.digest.length cD] 27) := ⟨_, rfl⟩
  have ba : Below w.heap.size w wa := by rw [hwa]; exact (Below.refl _ _).alloc (Nat.le_refl _) _
  have hma : MsgAt wa w.heap.size m (.slice aD m.digest.length cD) := by rw [hwa]; exact ⟨by simp, by simp, by simp, by simp, by simp, by simp, by simp⟩
  have hda : Sl wa (.slice aD m.digest.length cD) m.digest := hD.turned (Turned.ofBelow (S := fun _ => False) ba) (fun _ _ h => h)
  have hw1 := sh_Write m hm hns hda (hG.below ba).er
  have H0 : Hid (Below w.heap.size w wa ∧ MsgAt wa w.heap.size m (.slice aD m.digest.length cD)) := ⟨ba, hma⟩
  have HM : Hid (m.Ok ∧ m.name.size ≤ 4611686018427387904) := ⟨hm, hns⟩
  have HD := Hid.mk7 hD
  have HG := Hid.mk7 hG
  have HWA := Hid.mk7 hwa
  have HMV : Hid (msgV' m (.slice aD m.digest.length cD) = .agg #[.int .i64 m.kind, .int .u64 m.flags, .int .u32 m.creation, .int .u32 m.challenge, .string m.name, .string m.status, .slice aD m.digest.length cD]) := rfl
  rw [HMV.out] at hw1 ⊢
  clear hD hG ba hma hm hns hwa hda
  go_enter Tryz.func3, Tryz.ntmps3
  go_wp2_with fail
  rw [← HWA.out]
  refine hw1.mono ?_
  rintro e w1 ⟨V1, v1, rfl, ho1, hf1, hb1, _⟩
  have H1 : Hid (Below w.heap.size w w1 ∧ MsgAt w1 w.heap.size m (.slice aD m.digest.length cD) ∧ Own w1 V1 (writeOf m) ∧ FaultC w.heap.size w1 v1 (writeErr m)) := ⟨H0.out.1.trans (hb1.mono H0.out.1.size), H0.out.2.below hb1, ho1, hf1.mono H0.out.1.size⟩
  obtain ⟨a1, c1, L1, rfl⟩ : ∃ a c L, V1 = .slice a L c := ⟨_, _, _, ho1.sl.form.choose_spec.choose_spec.1⟩
  obtain ⟨m0, m1, m2, m3, m4, m5, m6⟩ := H1.out.2.1
  have hw2 := ref_Write m HM.out.1 HM.out.2 (HD.out.turned (Turned.ofBelow (S := fun _ => False) H1.out.1) (fun _ _ h => h))
  rw [HMV.out] at hw2
  have hvf := fault_form hf1
  clear ho1 hf1 hb1 hw1 H0 HWA
  go_wp2_with fail
  refine hw2.mono ?_
  rintro e w2 ⟨V2, v2, rfl, ho2, hl2, hb2, _⟩
  have B2 : Below w.heap.size w w2 := H1.out.1.trans (hb2.mono H1.out.1.size)
  have cv1 := (H1.out.2.2.1.turned (Turned.ofBelow (S := fun _ => False) hb2) (fun _ _ h => h)).sl.str
  have cv2 := ho2.sl.str
  have hre := refused_bothC (HG.out.below B2).er (H1.out.2.2.2.below hb2) hl2
  obtain ⟨a2, c2, L2, rfl⟩ : ∃ a c L, V2 = .slice a L c := ⟨_, _, _, ho2.sl.form.choose_spec.choose_spec.1⟩
  obtain ⟨al, Ll, cl, rfl⟩ := links_form hl2
  have H2 := Hid.mk7 B2
  clear ho2 hl2 hb2 hw2 H1 m0 m1 m2 m3 m4 m5 m6 B2
  generalize strOfNums (writeOf m) = z at cv1 cv2
  have haw : Hid (∀ W, Gd W → Calls Tryz.prog 12 #[] W fun e w' => e = .returned (.bool true) ∧ Below W.heap.size W w') := fun W h => law_awake h
  rcases hvf with rfl | ⟨p, rfl⟩
  all_goals
    go_wp2_with fail
    refine hre.mono ?_
    rintro e w3 ⟨rfl, hb3⟩
    have H3 : Hid (Below w.heap.size w w3) := H2.out.trans (hb3.mono H2.out.size)
    clear hb3 hre cv1 cv2 H2
    go_wp2_with fail
    refine (haw.out _ (HG.out.below H3.out)).mono ?_
    rintro e w4 ⟨rfl, hb4⟩
    have H4 : Hid (Below w.heap.size w w4) := H3.out.trans (hb4.mono H3.out.size)
    clear hb4 H3
    go_wp2
    go_ret
    exact ⟨rfl, H4.out⟩
end Go.Proofs.YtmnibmgbicnamaaGreatDoor
namespace Go.Proofs.YtmnibmgbicnamaaGreatDoor
open Go.RowKit

/-- How a side is made, as a value. -/
def startV (bg : Bool) (me : Pr) (peer cookie : ByteArray) (ch : Nat) : Value := .agg #[.bool bg, .string me.name, .int .u64 me.flags, .int .u32 me.creation, .string peer, .string cookie, .int .u32 ch]
structure StartAt (w : World) (g : Nat) (bg : Bool) (me : Pr) (peer cookie : ByteArray) (ch : Nat) : Prop where
  c0 : w.cell? ⟨g, 0, none⟩ = some (.bool bg)
  c1 : w.cell? ⟨g, 1, none⟩ = some (.string me.name)
  c2 : w.cell? ⟨g, 2, none⟩ = some (.int .u64 me.flags)
  c3 : w.cell? ⟨g, 3, none⟩ = some (.int .u32 me.creation)
  c4 : w.cell? ⟨g, 4, none⟩ = some (.string peer)
  c5 : w.cell? ⟨g, 5, none⟩ = some (.string cookie)
  c6 : w.cell? ⟨g, 6, none⟩ = some (.int .u32 ch)
theorem StartAt.lt {w : World} {g : Nat} {bg : Bool} {me : Pr} {peer cookie : ByteArray} {ch : Nat} (h : StartAt w g bg me peer cookie ch) : g < w.heap.size := World.block_lt_of_cell? w _ h.c0
theorem StartAt.below {w w' : World} {g : Nat} {bg : Bool} {me : Pr} {peer cookie : ByteArray} {ch : Nat} (h : StartAt w g bg me peer cookie ch) (hb : Below w.heap.size w w') : StartAt w' g bg me peer cookie ch :=
  have f : ∀ {j v}, w.cell? ⟨g, j, none⟩ = some v → w'.cell? ⟨g, j, none⟩ = some v := fun {j _} hv => (hb.cell (p := ⟨g, j, none⟩) h.lt).trans hv
  ⟨f h.c0, f h.c1, f h.c2, f h.c3, f h.c4, f h.c5, f h.c6⟩
def sidesErr (bg : Bool) (me : Pr) (peer cookie : ByteArray) : List Lnk := if bg = true then madeErr me peer true cookie else madeErr me ⟨#[]⟩ false cookie
def sidesOf (bg : Bool) (me : Pr) (peer cookie : ByteArray) (ch : Nat) : Sd := if bg = true then madeOf 1 me peer cookie ch else madeOf 4 me ⟨#[]⟩ cookie ch
/-- What sides tells. -/
def SidesTold (bg : Bool) (me : Pr) (peer cookie : ByteArray) (ch : Nat) (w : World) (e : Ending) (w' : World) : Prop :=
  (sidesErr bg me peer cookie ≠ [] ∧ e = .returned (.tuple #[.pointer none, .pointer none, .bool true]) ∧ Below w.heap.size w w') ∨
  (sidesErr bg me peer cookie = [] ∧ ∃ gx gy, e = .returned (.tuple #[.pointer (some ⟨gx, 0, none⟩), .pointer (some ⟨gy, 0, none⟩), .bool true]) ∧ w.heap.size ≤ gx ∧ w.heap.size ≤ gy ∧ gx ≠ gy ∧ SideAt w' gx (sidesOf bg me peer cookie ch) ∧ RSide w' gy (sidesOf bg me peer cookie ch) ∧ Below w.heap.size w w')
set_option maxRecDepth 100000 in
set_option maxHeartbeats 6400000 in
theorem sides_begin (me : Pr) (hme : me.Ok) (peer cookie : ByteArray) (ch : Nat) (hns : me.name.size ≤ 4611686018427387904) (hps : peer.size ≤ 4611686018427387904) (hcs : cookie.size ≤ 4611686018427387904) {w : World} (hG : Gd w) :
    Calls Tryz.prog 16 #[startV true me peer cookie ch] w (SidesTold true me peer cookie ch w) := by
  unfold startV
  obtain ⟨wa, hwa⟩ : ∃ wa, wa = w.alloc (.cells #[.bool true, .string me.name, .int .u64 me.flags, .int .u32 me.creation, .string peer, .string cookie, .int .u32 ch] 48) := ⟨_, rfl⟩
  have ba : Below w.heap.size w wa := by rw [hwa]; exact (Below.refl _ _).alloc (Nat.le_refl _) _
  have sa : StartAt wa w.heap.size true me peer cookie ch := by rw [hwa]; exact ⟨by simp, by simp, by simp, by simp, by simp, by simp, by simp⟩
  have hbg := sd_begin me hme peer cookie ch hns hps hcs (hG.below ba)
  have HRB := Hid.mk7 (ref_begin me hme peer cookie ch hns hps hcs)
  have H0 : Hid (Below w.heap.size w wa ∧ StartAt wa w.heap.size true me peer cookie ch) := ⟨ba, sa⟩
  have HWA := Hid.mk7 hwa
  have HG := Hid.mk7 hG
  have hnq := Tryz.neqLinks
  unfold SidesTold sidesErr sidesOf
  simp only [if_true]
  unfold BeginTold at hbg
  unfold RBeginTold at HRB
  generalize madeErr me peer true cookie = ls at hbg HRB ⊢
  clear hwa ba sa hG hme
  go_enter Tryz.func16, Tryz.ntmps16
  go_wp2_with fail
  rw [← HWA.out]
  refine hbg.mono ?_
  rintro e w1 (⟨hls, v, rfl, hf1, hb1⟩ | ⟨hls, gx, V1, rfl, hgx, hs1, ho1, hk1, hb1⟩)
  · have H1 : Hid (Below w.heap.size w w1 ∧ StartAt w1 w.heap.size true me peer cookie ch ∧ FaultC w.heap.size w1 v ls ∧ ls ≠ []) := ⟨H0.out.1.trans (hb1.mono H0.out.1.size), H0.out.2.below hb1, hf1.mono H0.out.1.size, hls⟩
    obtain ⟨c0, c1, c2, c3, c4, c5, c6⟩ := H1.out.2.1
    have hrb := HRB.out w1
    obtain ⟨pv, hpv⟩ : ∃ p, v = .iface 131 (.pointer (some p)) := by
      rcases fault_cases hf1 with ⟨h, _⟩ | ⟨_, pb, h⟩
      · exact absurd h hls
      · exact ⟨_, h⟩
    subst hpv
    clear hb1 hf1 hls H0 HWA hbg
    go_wp2_with fail
    refine hrb.mono ?_
    rintro e w2 (⟨_, v2, rfl, hl2, hb2⟩ | ⟨h, _⟩)
    case inr => exact absurd h H1.out.2.2.2
    have B2 : Below w.heap.size w w2 := H1.out.1.trans (hb2.mono H1.out.1.size)
    have hre := refused_bothC (HG.out.below B2).er (H1.out.2.2.1.below hb2) hl2
    obtain ⟨al, Ll, cl, hvl⟩ := links_some hl2 H1.out.2.2.2
    subst hvl
    have cv : ∀ W : World, (convert 25 9 (.slice none 0 0)).run Tryz.prog W = .ok (.string (strOfNums [])) W := fun W => Sl.str (.inl ⟨rfl, rfl⟩)
    have H2 : Hid (Below w.heap.size w w2 ∧ ls ≠ []) := ⟨B2, H1.out.2.2.2⟩
    generalize strOfNums [] = z at cv
    clear hl2 hb2 B2 hrb H1 c0 c1 c2 c3 c4 c5 c6
    go_wp2_with fail
    refine hre.mono ?_
    rintro e w3 ⟨rfl, hb3⟩
    have H3 : Hid (Below w.heap.size w w3) := H2.out.1.trans (hb3.mono H2.out.1.size)
    clear hb3 hre
    go_wp2
    go_ret3
    exact .inl ⟨H2.out.2, rfl, H3.out⟩
  · have H1 : Hid (Below w.heap.size w w1 ∧ StartAt w1 w.heap.size true me peer cookie ch ∧ SideAt w1 gx (madeOf 1 me peer cookie ch) ∧ ls = [] ∧ w.heap.size ≤ gx) := ⟨H0.out.1.trans (hb1.mono H0.out.1.size), H0.out.2.below hb1, hs1, hls, Nat.le_trans H0.out.1.size hgx⟩
    have HO1 := Hid.mk7 ho1
    obtain ⟨aV, cV, LV, hV1⟩ : ∃ a c L, V1 = .slice a L c := ⟨_, _, _, ho1.sl.form.choose_spec.choose_spec.1⟩
    subst hV1
    obtain ⟨c0, c1, c2, c3, c4, c5, c6⟩ := H1.out.2.1
    have hrb := HRB.out w1
    clear hb1 hs1 ho1 hk1 hls H0 HWA hbg hgx
    go_wp2_with fail
    refine hrb.mono ?_
    rintro e w2 (⟨h, _⟩ | ⟨_, gy, V2, rfl, hgy, hs2, ho2, _, hb2⟩)
    case inl => exact absurd H1.out.2.2.2.1 h
    obtain ⟨aV2, cV2, LV2, hV2⟩ : ∃ a c L, V2 = .slice a L c := ⟨_, _, _, ho2.sl.form.choose_spec.choose_spec.1⟩
    subst hV2
    have B2 : Below w.heap.size w w2 := H1.out.1.trans (hb2.mono H1.out.1.size)
    have cv1 := (HO1.out.turned (Turned.ofBelow (S := fun _ => False) hb2) (fun _ _ h => h)).sl.str
    have cv2 := ho2.sl.str
    have hre := refused_nil w2 none 0
    have hgl := H1.out.2.2.1.lt
    have H2 : Hid (Below w.heap.size w w2 ∧ SideAt w2 gx (madeOf 1 me peer cookie ch) ∧ RSide w2 gy (madeOf 1 me peer cookie ch) ∧ ls = [] ∧ w.heap.size ≤ gx ∧ w.heap.size ≤ gy ∧ gx ≠ gy) := ⟨B2, H1.out.2.2.1.below hb2, hs2, H1.out.2.2.2.1, H1.out.2.2.2.2, Nat.le_trans H1.out.1.size hgy, by omega⟩
    generalize strOfNums (writeOf (nameMsg me)) = z at cv1 cv2
    clear hb2 B2 hrb H1 c0 c1 c2 c3 c4 c5 c6 HO1 ho2 hs2 hgy hgl
    go_wp2_with fail
    refine hre.mono ?_
    rintro e w3 ⟨rfl, rfl⟩
    clear hre
    go_wp2
    go_ret3
    obtain ⟨q1, q2, q3, q4, q5, q6, q7⟩ := H2.out
    exact .inr ⟨q4, gx, gy, rfl, q5, q6, q7, q2, q3, q1⟩
set_option maxRecDepth 100000 in
set_option maxHeartbeats 6400000 in
theorem sides_wait (me : Pr) (peer cookie : ByteArray) (ch : Nat) (hns : me.name.size ≤ 4611686018427387904) (hcs : cookie.size ≤ 4611686018427387904) {w : World} (hG : Gd w) :
    Calls Tryz.prog 16 #[startV false me peer cookie ch] w (SidesTold false me peer cookie ch w) := by
  unfold startV
  obtain ⟨wa, hwa⟩ : ∃ wa, wa = w.alloc (.cells #[.bool false, .string me.name, .int .u64 me.flags, .int .u32 me.creation, .string peer, .string cookie, .int .u32 ch] 48) := ⟨_, rfl⟩
  have ba : Below w.heap.size w wa := by rw [hwa]; exact (Below.refl _ _).alloc (Nat.le_refl _) _
  have sa : StartAt wa w.heap.size false me peer cookie ch := by rw [hwa]; exact ⟨by simp, by simp, by simp, by simp, by simp, by simp, by simp⟩
  have hbg := sd_wait me cookie ch hns hcs (hG.below ba)
  have HRB := Hid.mk7 (ref_wait me cookie ch hns hcs)
  have H0 : Hid (Below w.heap.size w wa ∧ StartAt wa w.heap.size false me peer cookie ch) := ⟨ba, sa⟩
  have HWA := Hid.mk7 hwa
  have HG := Hid.mk7 hG
  have hnq := Tryz.neqLinks
  unfold SidesTold sidesErr sidesOf
  simp only [Bool.false_eq_true, if_false]
  unfold WaitTold at hbg
  unfold RWaitTold at HRB
  generalize madeErr me ⟨#[]⟩ false cookie = ls at hbg HRB ⊢
  clear hwa ba sa hG
  go_enter Tryz.func16, Tryz.ntmps16
  go_wp2_with fail
  rw [← HWA.out]
  refine hbg.mono ?_
  rintro e w1 (⟨hls, v, rfl, hf1, hb1⟩ | ⟨hls, gx, rfl, hgx, hs1, hb1⟩)
  · have H1 : Hid (Below w.heap.size w w1 ∧ StartAt w1 w.heap.size false me peer cookie ch ∧ FaultC w.heap.size w1 v ls ∧ ls ≠ []) := ⟨H0.out.1.trans (hb1.mono H0.out.1.size), H0.out.2.below hb1, hf1.mono H0.out.1.size, hls⟩
    obtain ⟨c0, c1, c2, c3, c4, c5, c6⟩ := H1.out.2.1
    have hrb := HRB.out w1
    obtain ⟨pv, hpv⟩ : ∃ p, v = .iface 131 (.pointer (some p)) := by
      rcases fault_cases hf1 with ⟨h, _⟩ | ⟨_, pb, h⟩
      · exact absurd h hls
      · exact ⟨_, h⟩
    subst hpv
    clear hb1 hf1 hls H0 HWA hbg
    go_wp2_with fail
    refine hrb.mono ?_
    rintro e w2 (⟨_, v2, rfl, hl2, hb2⟩ | ⟨h, _⟩)
    case inr => exact absurd h H1.out.2.2.2
    have B2 : Below w.heap.size w w2 := H1.out.1.trans (hb2.mono H1.out.1.size)
    have hre := refused_bothC (HG.out.below B2).er (H1.out.2.2.1.below hb2) hl2
    obtain ⟨al, Ll, cl, hvl⟩ := links_some hl2 H1.out.2.2.2
    subst hvl
    have H2 : Hid (Below w.heap.size w w2 ∧ ls ≠ []) := ⟨B2, H1.out.2.2.2⟩
    clear hl2 hb2 B2 hrb H1 c0 c1 c2 c3 c4 c5 c6
    go_wp2_with fail
    refine hre.mono ?_
    rintro e w3 ⟨rfl, hb3⟩
    have H3 : Hid (Below w.heap.size w w3) := H2.out.1.trans (hb3.mono H2.out.1.size)
    clear hb3 hre
    go_wp2
    go_ret3
    exact .inl ⟨H2.out.2, rfl, H3.out⟩
  · have H1 : Hid (Below w.heap.size w w1 ∧ StartAt w1 w.heap.size false me peer cookie ch ∧ SideAt w1 gx (madeOf 4 me ⟨#[]⟩ cookie ch) ∧ ls = [] ∧ w.heap.size ≤ gx) := ⟨H0.out.1.trans (hb1.mono H0.out.1.size), H0.out.2.below hb1, hs1, hls, Nat.le_trans H0.out.1.size hgx⟩
    obtain ⟨c0, c1, c2, c3, c4, c5, c6⟩ := H1.out.2.1
    have hrb := HRB.out w1
    clear hb1 hs1 hls H0 HWA hbg hgx
    go_wp2_with fail
    refine hrb.mono ?_
    rintro e w2 (⟨h, _⟩ | ⟨_, gy, rfl, hgy, hs2, hb2⟩)
    case inl => exact absurd H1.out.2.2.2.1 h
    have B2 : Below w.heap.size w w2 := H1.out.1.trans (hb2.mono H1.out.1.size)
    have hre := refused_nil w2 none 0
    have hgl := H1.out.2.2.1.lt
    have H2 : Hid (Below w.heap.size w w2 ∧ SideAt w2 gx (madeOf 4 me ⟨#[]⟩ cookie ch) ∧ RSide w2 gy (madeOf 4 me ⟨#[]⟩ cookie ch) ∧ ls = [] ∧ w.heap.size ≤ gx ∧ w.heap.size ≤ gy ∧ gx ≠ gy) := ⟨B2, H1.out.2.2.1.below hb2, hs2, H1.out.2.2.2.1, H1.out.2.2.2.2, Nat.le_trans H1.out.1.size hgy, by omega⟩
    clear hb2 B2 hrb H1 c0 c1 c2 c3 c4 c5 c6 hs2 hgy hgl
    go_wp2_with fail
    refine hre.mono ?_
    rintro e w3 ⟨rfl, rfl⟩
    clear hre
    go_wp2
    go_ret3
    obtain ⟨q1, q2, q3, q4, q5, q6, q7⟩ := H2.out
    exact .inr ⟨q4, gx, gy, rfl, q5, q6, q7, q2, q3, q1⟩
/-- heddlelaw08.sides. -/
theorem law_sides (bg : Bool) (me : Pr) (hme : me.Ok) (peer cookie : ByteArray) (ch : Nat) (hns : me.name.size ≤ 4611686018427387904) (hps : peer.size ≤ 4611686018427387904) (hcs : cookie.size ≤ 4611686018427387904) {w : World} (hG : Gd w) :
    Calls Tryz.prog 16 #[startV bg me peer cookie ch] w (SidesTold bg me peer cookie ch w) := by
  cases bg with
  | true => exact sides_begin me hme peer cookie ch hns hps hcs hG
  | false => exact sides_wait me peer cookie ch hns hcs hG
end Go.Proofs.YtmnibmgbicnamaaGreatDoor
