/-
  Layer 8 (shake): the document's Write.
-/
import Derived.Test.YtmnibmgbicnamabGreatDoorK4
import Derived.Test.YtmnibmgbicnamabGreatDoorK3
import Derived.Test.YtmnibmgbicnamabGreatDoorK7
namespace Go.Proofs.YtmnibmgbicnamabGreatDoor
open Go.RowKit

/-- What the document's Write tells. -/
def RWriteTold (m : Msg) (w : World) (e : Ending) (w' : World) : Prop := ∃ V v, e = .returned (.tuple #[V, v]) ∧ Own w' V (writeOf m) ∧ LinksC w.heap.size w' v (writeErr m) ∧ Below w.heap.size w w' ∧ ∀ k, blk V k → w.heap.size ≤ k
set_option maxRecDepth 100000 in
set_option maxHeartbeats 3200000 in
theorem ref_write_no (m : Msg) (hk : ¬ fits m) {w : World} {D : Value} (hD : Sl w D m.digest) : Calls Tryz.prog 15 #[msgV' m D] w (RWriteTold m w) := by
  have hwr : writeOf m = [] ∧ writeErr m = sh 0 1 := by unfold writeOf writeErr; rw [if_pos hk, if_pos hk]; exact ⟨rfl, rfl⟩
  obtain ⟨aD, cD, rfl, _, _⟩ := hD.form
  obtain ⟨k, fl, cr, ch, nm, st, dg⟩ := m
  obtain ⟨wa, hwa⟩ : ∃ wa, wa = w.alloc (.cells #[.int .i64 k, .int .u64 fl, .int .u32 cr, .int .u32 ch, .string nm, .string st, .slice aD dg.length cD] 49) := ⟨_, rfl⟩
  have ba : Below w.heap.size w wa := by rw [hwa]; exact (Below.refl _ _).alloc (Nat.le_refl _) _
  have hma : MsgAt wa w.heap.size ⟨k, fl, cr, ch, nm, st, dg⟩ (.slice aD dg.length cD) := by rw [hwa]; exact ⟨by simp, by simp, by simp, by simp, by simp, by simp, by simp⟩
  have hfi := ref_fields k fl cr ch nm st dg aD cD wa
  have HW : Hid (wa = w.alloc (.cells #[.int .i64 k, .int .u64 fl, .int .u32 cr, .int .u32 ch, .string nm, .string st, .slice aD dg.length cD] 49)) := by
    have h : wa = w.alloc (.cells #[.int .i64 k, .int .u64 fl, .int .u32 cr, .int .u32 ch, .string nm, .string st, .slice aD dg.length cD] 49) := hwa
    exact h
  have H0 : Hid (Below w.heap.size w wa ∧ MsgAt wa w.heap.size ⟨k, fl, cr, ch, nm, st, dg⟩ (.slice aD dg.length cD)) := ⟨ba, hma⟩
  have HD := Hid.mk7 hD
  unfold msgV at hfi
  unfold msgV'
  simp only at hfi hk ⊢
  rw [decide_eq_false hk] at hfi
  clear hwa ba hma hD
  unfold RWriteTold
  rw [hwr.1, hwr.2]
  clear hk hwr
  go_enter Tryz.func15, Tryz.ntmps15
  go_wp2_with fail
  rw [← HW.out]
  refine hfi.mono ?_
  rintro e w1 ⟨rfl, hb1⟩
  have H1 : Hid (Below w.heap.size w w1 ∧ MsgAt w1 w.heap.size ⟨k, fl, cr, ch, nm, st, dg⟩ (.slice aD dg.length cD)) := ⟨H0.out.1.trans (hb1.mono H0.out.1.size), H0.out.2.below hb1⟩
  obtain ⟨m0, m1, m2, m3, m4, m5, m6⟩ := H1.out.2
  simp only at m0 m1 m2 m3 m4 m5 m6
  have hzl : w.heap.size < w1.heap.size := H1.out.2.lt
  clear hb1 hfi H0 HW
  have hno := sh_no 0 1 w1
  go_wp2_with fail
  refine hno.mono ?_
  rintro e w2 ⟨v, rfl, hl2, hb2⟩
  have H2 : Hid (LinksC w.heap.size w2 v (sh 0 1) ∧ Below w.heap.size w w2) := ⟨hl2.mono H1.out.1.size, H1.out.1.trans (hb2.mono H1.out.1.size)⟩
  obtain ⟨lb, cap, _, rfl, _⟩ := hl2
  clear hb2 hno
  go_wp2
  go_ret2
  exact ⟨_, _, rfl, .inl ⟨rfl, rfl⟩, H2.out.1, H2.out.2, fun _ h => h.elim⟩
set_option maxRecDepth 100000 in
set_option maxHeartbeats 3200000 in
theorem ref_write_2 (m : Msg) (hk : m.kind = 2) (hf : fits m) {w : World} {D : Value} (hD : Sl w D m.digest) : Calls Tryz.prog 15 #[msgV' m D] w (RWriteTold m w) := by
  have hno : (m.kind = 1 ∨ m.kind = 3) → nodeOk m.name = true := fun h => by omega
  have hsm := fits_small hf hno
  have hwr : writeOf m = 115 :: nums m.status ∧ writeErr m = [] := by
    refine ⟨(writeOf_ok hf hno).trans (by unfold bytesOfMsg; simp [hk]), ?_⟩
    unfold writeErr
    rw [if_neg (by simpa using hf), if_neg (fun h => by omega)]
  obtain ⟨aD, cD, rfl, _, _⟩ := hD.form
  obtain ⟨k, fl, cr, ch, nm, st, dg⟩ := m
  obtain ⟨wa, hwa⟩ : ∃ wa, wa = w.alloc (.cells #[.int .i64 k, .int .u64 fl, .int .u32 cr, .int .u32 ch, .string nm, .string st, .slice aD dg.length cD] 49) := ⟨_, rfl⟩
  have ba : Below w.heap.size w wa := by rw [hwa]; exact (Below.refl _ _).alloc (Nat.le_refl _) _
  have hma : MsgAt wa w.heap.size ⟨k, fl, cr, ch, nm, st, dg⟩ (.slice aD dg.length cD) := by rw [hwa]; exact ⟨by simp, by simp, by simp, by simp, by simp, by simp, by simp⟩
  have hfi := ref_fields k fl cr ch nm st dg aD cD wa
  have HW : Hid (wa = w.alloc (.cells #[.int .i64 k, .int .u64 fl, .int .u32 cr, .int .u32 ch, .string nm, .string st, .slice aD dg.length cD] 49)) := by
    have h : wa = w.alloc (.cells #[.int .i64 k, .int .u64 fl, .int .u32 cr, .int .u32 ch, .string nm, .string st, .slice aD dg.length cD] 49) := hwa
    exact h
  have H0 : Hid (Below w.heap.size w wa ∧ MsgAt wa w.heap.size ⟨k, fl, cr, ch, nm, st, dg⟩ (.slice aD dg.length cD)) := ⟨ba, hma⟩
  have HD := Hid.mk7 hD
  unfold msgV at hfi
  unfold msgV'
  simp only at hfi hk hsm ⊢
  rw [decide_eq_true hf] at hfi
  clear hwa ba hma hD
  unfold RWriteTold
  rw [hwr.1, hwr.2]
  subst hk
  clear hf hwr hno
  go_enter Tryz.func15, Tryz.ntmps15
  go_wp2_with fail
  rw [← HW.out]
  refine hfi.mono ?_
  rintro e w1 ⟨rfl, hb1⟩
  have H1 : Hid (Below w.heap.size w w1 ∧ MsgAt w1 w.heap.size ⟨2, fl, cr, ch, nm, st, dg⟩ (.slice aD dg.length cD)) := ⟨H0.out.1.trans (hb1.mono H0.out.1.size), H0.out.2.below hb1⟩
  obtain ⟨m0, m1, m2, m3, m4, m5, m6⟩ := H1.out.2
  simp only at m0 m1 m2 m3 m4 m5 m6
  have hzl : w.heap.size < w1.heap.size := H1.out.2.lt
  clear hb1 hfi H0 HW
  have ho := Sl.one w1 5 115
  have hln : 1 + st.size ≤ 70368744177664 := by have := hsm.2.1; omega
  go_wp2_with (at_builtin; refine wpList_append_text (by rfl) (.tmp 16) (.tmp 18) (by rfl) Tryz.bytes Tryz.underlying9 (by rfl) (by rfl) ho hln ?_; intro v2 w2 ho2 ht2 hb2; have H2 := Hid.mk7 (And.intro ho2 (And.intro ht2 hb2)); clear ho2 ht2 hb2)
  go_ret2
  obtain ⟨q1, q2, q3⟩ := H2.out
  have A1 : Below w.heap.size w (w1.alloc (.cells #[.int .u8 115] 5)) := H1.out.1.alloc H1.out.1.size _
  exact ⟨_, _, rfl, q1, rfl, A1.trans (q2.below A1.size (fun k hk => by have hk : w1.heap.size = k := hk; have := H1.out.1.size; omega)), fun k hk => (q3 k hk).elim (fun h => by have h : w1.heap.size = k := h; have := H1.out.1.size; omega) (fun h => by have := A1.size; omega)⟩
set_option maxRecDepth 100000 in
set_option maxHeartbeats 3200000 in
theorem ref_write_5 (m : Msg) (hk : m.kind = 5) (hf : fits m) {w : World} {D : Value} (hD : Sl w D m.digest) : Calls Tryz.prog 15 #[msgV' m D] w (RWriteTold m w) := by
  have hno : (m.kind = 1 ∨ m.kind = 3) → nodeOk m.name = true := fun h => by omega
  have hsm := fits_small hf hno
  have hwr : writeOf m = 97 :: m.digest ∧ writeErr m = [] := by
    refine ⟨(writeOf_ok hf hno).trans (by unfold bytesOfMsg; simp [hk]), ?_⟩
    unfold writeErr
    rw [if_neg (by simpa using hf), if_neg (fun h => by omega)]
  obtain ⟨aD, cD, rfl, _, _⟩ := hD.form
  obtain ⟨k, fl, cr, ch, nm, st, dg⟩ := m
  obtain ⟨wa, hwa⟩ : ∃ wa, wa = w.alloc (.cells #[.int .i64 k, .int .u64 fl, .int .u32 cr, .int .u32 ch, .string nm, .string st, .slice aD dg.length cD] 49) := ⟨_, rfl⟩
  have ba : Below w.heap.size w wa := by rw [hwa]; exact (Below.refl _ _).alloc (Nat.le_refl _) _
  have hma : MsgAt wa w.heap.size ⟨k, fl, cr, ch, nm, st, dg⟩ (.slice aD dg.length cD) := by rw [hwa]; exact ⟨by simp, by simp, by simp, by simp, by simp, by simp, by simp⟩
  have hfi := ref_fields k fl cr ch nm st dg aD cD wa
  have HW : Hid (wa = w.alloc (.cells #[.int .i64 k, .int .u64 fl, .int .u32 cr, .int .u32 ch, .string nm, .string st, .slice aD dg.length cD] 49)) := by
    have h : wa = w.alloc (.cells #[.int .i64 k, .int .u64 fl, .int .u32 cr, .int .u32 ch, .string nm, .string st, .slice aD dg.length cD] 49) := hwa
    exact h
  have H0 : Hid (Below w.heap.size w wa ∧ MsgAt wa w.heap.size ⟨k, fl, cr, ch, nm, st, dg⟩ (.slice aD dg.length cD)) := ⟨ba, hma⟩
  have HD := Hid.mk7 hD
  unfold msgV at hfi
  unfold msgV'
  simp only at hfi hk hsm ⊢
  rw [decide_eq_true hf] at hfi
  clear hwa ba hma hD
  unfold RWriteTold
  rw [hwr.1, hwr.2]
  subst hk
  clear hf hwr hno
  go_enter Tryz.func15, Tryz.ntmps15
  go_wp2_with fail
  rw [← HW.out]
  refine hfi.mono ?_
  rintro e w1 ⟨rfl, hb1⟩
  have H1 : Hid (Below w.heap.size w w1 ∧ MsgAt w1 w.heap.size ⟨5, fl, cr, ch, nm, st, dg⟩ (.slice aD dg.length cD)) := ⟨H0.out.1.trans (hb1.mono H0.out.1.size), H0.out.2.below hb1⟩
  obtain ⟨m0, m1, m2, m3, m4, m5, m6⟩ := H1.out.2
  simp only at m0 m1 m2 m3 m4 m5 m6
  have hzl : w.heap.size < w1.heap.size := H1.out.2.lt
  clear hb1 hfi H0 HW
  have ho := Sl.one w1 5 97
  have hln : 1 + dg.length ≤ 70368744177664 := by have := hsm.2.2; omega
  have A1 : Below w.heap.size w (w1.alloc (.cells #[.int .u8 97] 5)) := H1.out.1.alloc H1.out.1.size _
  have hdx := HD.out.turned (Turned.ofBelow (S := fun _ => False) A1) (fun _ _ h => h)
  have HA1 := Hid.mk7 A1
  clear A1
  go_wp2_with (at_builtin; refine wpList_append_bytes (by rfl) (.tmp 31) (.tmp 33) (by rfl) Tryz.bytes (by rfl) (by rfl) ho hdx hln ?_; intro v2 w2 ho2 ht2 hb2; have H2 := Hid.mk7 (And.intro ho2 (And.intro ht2 hb2)); clear ho2 ht2 hb2)
  go_ret2
  obtain ⟨q1, q2, q3⟩ := H2.out
  have A1 := HA1.out
  exact ⟨_, _, rfl, q1, rfl, A1.trans (q2.below A1.size (fun k hk => by have hk : w1.heap.size = k := hk; have := H1.out.1.size; omega)), fun k hk => (q3 k hk).elim (fun h => by have h : w1.heap.size = k := h; have := H1.out.1.size; omega) (fun h => by have := A1.size; omega)⟩
theorem w4_told {w w1 wX w2 : World} {V2 D : Value} {zs dg : List Int} (hb : Below w.heap.size w w1) (hX : Below w1.heap.size w1 wX) (hD : Sl w D dg) (ho2 : Own w2 V2 zs) (ht2 : Turned (blk (.slice (some ⟨w1.heap.size, 0, none⟩) 1 1)) wX w2) (hb2 : ∀ k, blk V2 k → blk (.slice (some ⟨w1.heap.size, 0, none⟩) 1 1) k ∨ wX.heap.size ≤ k) : Own w2 V2 zs ∧ Sl w2 D dg ∧ Below w.heap.size w w2 ∧ ∀ k, blk V2 k → w1.heap.size ≤ k := by
  have h1 := hb.size
  have h2 := hX.size
  have B : Below w.heap.size w w2 := (hb.trans (hX.mono h1)).trans (ht2.below (by omega) (fun k hk => by have hk : w1.heap.size = k := hk; omega))
  exact ⟨ho2, hD.turned (Turned.ofBelow (S := fun _ => False) B) (fun _ _ h => h), B, fun k hk => (hb2 k hk).elim (fun h => by have h : w1.heap.size = k := h; omega) (fun h => by omega)⟩
set_option maxRecDepth 100000 in
set_option maxHeartbeats 3200000 in
theorem ref_write_4 (m : Msg) (hk : m.kind = 4) (hf : fits m) {w : World} {D : Value} (hD : Sl w D m.digest) : Calls Tryz.prog 15 #[msgV' m D] w (RWriteTold m w) := by
  have hno : (m.kind = 1 ∨ m.kind = 3) → nodeOk m.name = true := fun h => by omega
  have hsm := fits_small hf hno
  have hwr : writeOf m = 114 :: (be4 m.challenge ++ m.digest) ∧ writeErr m = [] := by
    refine ⟨(writeOf_ok hf hno).trans (by unfold bytesOfMsg; simp [hk]), ?_⟩
    unfold writeErr
    rw [if_neg (by simpa using hf), if_neg (fun h => by omega)]
  obtain ⟨aD, cD, rfl, _, _⟩ := hD.form
  obtain ⟨k, fl, cr, ch, nm, st, dg⟩ := m
  obtain ⟨wa, hwa⟩ : ∃ wa, wa = w.alloc (.cells #[.int .i64 k, .int .u64 fl, .int .u32 cr, .int .u32 ch, .string nm, .string st, .slice aD dg.length cD] 49) := ⟨_, rfl⟩
  have ba : Below w.heap.size w wa := by rw [hwa]; exact (Below.refl _ _).alloc (Nat.le_refl _) _
  have hma : MsgAt wa w.heap.size ⟨k, fl, cr, ch, nm, st, dg⟩ (.slice aD dg.length cD) := by rw [hwa]; exact ⟨by simp, by simp, by simp, by simp, by simp, by simp, by simp⟩
  have hfi := ref_fields k fl cr ch nm st dg aD cD wa
  have HW : Hid (wa = w.alloc (.cells #[.int .i64 k, .int .u64 fl, .int .u32 cr, .int .u32 ch, .string nm, .string st, .slice aD dg.length cD] 49)) := by
    have h : wa = w.alloc (.cells #[.int .i64 k, .int .u64 fl, .int .u32 cr, .int .u32 ch, .string nm, .string st, .slice aD dg.length cD] 49) := hwa
    exact h
  have H0 : Hid (Below w.heap.size w wa ∧ MsgAt wa w.heap.size ⟨k, fl, cr, ch, nm, st, dg⟩ (.slice aD dg.length cD)) := ⟨ba, hma⟩
  have HD := Hid.mk7 hD
  unfold msgV at hfi
  unfold msgV'
  simp only at hfi hk hsm ⊢
  rw [decide_eq_true hf] at hfi
  clear hwa ba hma hD
  unfold RWriteTold
  rw [hwr.1, hwr.2]
  subst hk
  clear hf hwr hno
  go_enter Tryz.func15, Tryz.ntmps15
  go_wp2_with fail
  rw [← HW.out]
  refine hfi.mono ?_
  rintro e w1 ⟨rfl, hb1⟩
  have H1 : Hid (Below w.heap.size w w1 ∧ MsgAt w1 w.heap.size ⟨4, fl, cr, ch, nm, st, dg⟩ (.slice aD dg.length cD)) := ⟨H0.out.1.trans (hb1.mono H0.out.1.size), H0.out.2.below hb1⟩
  obtain ⟨m0, m1, m2, m3, m4, m5, m6⟩ := H1.out.2
  simp only at m0 m1 m2 m3 m4 m5 m6
  have hzl : w.heap.size < w1.heap.size := H1.out.2.lt
  clear hb1 hfi H0 HW
  have ho := Sl.one w1 5 114
  have hX : Below w1.heap.size w1 (w1.alloc (.cells #[.int .u8 114] 5)).drew := ((Below.refl _ _).alloc (Nat.le_refl _) _).drew
  have HX : Hid (Below w1.heap.size w1 (w1.alloc (.cells #[.int .u8 114] 5)).drew ∧ (w1.alloc (.cells #[.int .u8 114] 5)).drew.cell? ⟨w.heap.size, 3, none⟩ = some (.int .u32 ch) ∧ (w1.alloc (.cells #[.int .u8 114] 5)).drew.cell? ⟨w.heap.size, 6, none⟩ = some (.slice aD dg.length cD)) := ⟨hX, (hX.cell (p := ⟨w.heap.size, 3, none⟩) hzl).trans m3, (hX.cell (p := ⟨w.heap.size, 6, none⟩) hzl).trans m6⟩
  clear hX
  have hln : ([114] ++ be4 ch).length + dg.length ≤ 70368744177664 := by have := hsm.2.2; simp [be4]; omega
  go_wp2_with fail
  go_region_held3 (fun w' => w'.cell? ⟨w.heap.size, 3, none⟩ = some (.int .u32 ch) ∧ w'.cell? ⟨w.heap.size, 6, none⟩ = some (.slice aD dg.length cD))
    (go_keep)
    (first
      | (refine step_append_bytes (by rfl) (.tmp 25) (.tmp 27) (by rfl) Tryz.bytes (by rfl) (by rfl) H2.out.1 H2.out.2.1 hln ?_; intro v3 w3 ho3 ht3 hb3; have s3 : w3.cell? ⟨w.heap.size, 3, none⟩ = some (.int .u32 ch) := ht3.cell (p := ⟨w.heap.size, 3, none⟩) s1 nb; have s4 : w3.cell? ⟨w.heap.size, 6, none⟩ = some (.slice aD dg.length cD) := ht3.cell (p := ⟨w.heap.size, 6, none⟩) s2 nb; have H3 := Hid.mk7 (And.intro ho3 (And.intro ht3 hb3)); clear ho3 ht3 hb3)
      | (go_at_call 42; refine (ref_four _ (by simp) (ho.turned (Turned.drew (fun _ => False) _) (fun _ _ h => h))).mono ?_; rintro e w2 ⟨V2, rfl, ho2, ht2, hb2⟩; have s1 : w2.cell? ⟨w.heap.size, 3, none⟩ = some (.int .u32 ch) := ht2.cell (p := ⟨w.heap.size, 3, none⟩) HX.out.2.1 (fun h => by have h : w1.heap.size = w.heap.size := h; omega); have s2 : w2.cell? ⟨w.heap.size, 6, none⟩ = some (.slice aD dg.length cD) := ht2.cell (p := ⟨w.heap.size, 6, none⟩) HX.out.2.2 (fun h => by have h : w1.heap.size = w.heap.size := h; omega); have H2 := Hid.mk7 (w4_told H1.out.1 HX.out.1 HD.out ho2 ht2 hb2); obtain ⟨a2, c2, L2, rfl⟩ : ∃ a c L, V2 = .slice a L c := ⟨_, _, _, ho2.sl.form.choose_spec.choose_spec.1⟩; have nb : ¬ blk (.slice a2 L2 c2) w.heap.size := (fun h => by have := H2.out.2.2.2 _ h; omega); clear ho2 ht2 hb2))
  all_goals
    go_wp2
    go_ret2
    obtain ⟨q1, q2, q3⟩ := H3.out
    obtain ⟨_, _, A1, A2⟩ := H2.out
    have hz1 := H1.out.1.size
    have hz2 := A1.size
    exact ⟨_, _, rfl, by simpa using q1, rfl, A1.trans (q2.below hz2 (fun k hk => by have := A2 k hk; omega)), fun k hk => (q3 k hk).elim (fun h => by have := A2 k h; omega) (fun h => by omega)⟩
theorem be4_two (f : Int) (hf : U64 f) : be4 (IntKind.u32.wrap (f / 4294967296)) ++ be4 (IntKind.u32.wrap f) = bytes8 f := by
  obtain ⟨f0, f1⟩ := hf
  have hw : ∀ x : Int, IntKind.u32.wrap x = x % 4294967296 := fun x => by unfold IntKind.wrap; simp [IntKind.bits, IntKind.signed]
  rw [hw, hw]
  unfold be4 bytes8
  simp only [List.cons_append, List.nil_append, List.cons.injEq, and_true]
  refine ⟨by omega, by omega, by omega, by omega, by omega, by omega, by omega, by omega⟩
theorem be2_few (n : Nat) (hn : n ≤ 64) : [(n : Int) / 256, (n : Int)] = be2 n := by
  unfold be2
  simp only [List.cons.injEq, and_true]
  refine ⟨by omega, by omega⟩
theorem wrote_1 (fl cr : Int) (hf : U64 fl) (n : Nat) (hn : n ≤ 64) (l : List Int) : [78] ++ be4 (IntKind.u32.wrap (fl / 4294967296)) ++ be4 (IntKind.u32.wrap fl) ++ be4 cr ++ [(n : Int) / 256, (n : Int)] ++ l = 78 :: (bytes8 fl ++ (be4 cr ++ (be2 n ++ l))) := by
  rw [be2_few n hn, ← be4_two fl hf]
  simp only [List.append_assoc, List.cons_append, List.nil_append]
theorem wrote_3 (fl cr ch : Int) (hf : U64 fl) (n : Nat) (hn : n ≤ 64) (l : List Int) : [78] ++ be4 (IntKind.u32.wrap (fl / 4294967296)) ++ be4 (IntKind.u32.wrap fl) ++ be4 ch ++ be4 cr ++ [(n : Int) / 256, (n : Int)] ++ l = 78 :: (bytes8 fl ++ (be4 ch ++ (be4 cr ++ (be2 n ++ l)))) := by
  rw [be2_few n hn, ← be4_two fl hf]
  simp only [List.append_assoc, List.cons_append, List.nil_append]
theorem Sl.two (w : World) (t : TypeId) (a b : Int) : Own (w.alloc (.cells #[.int .u8 a, .int .u8 b] t)) (.slice (some ⟨w.heap.size, 0, none⟩) 2 2) [a, b] := by
  refine .inr ⟨w.heap.size, 0, 2, rfl, Nat.le_refl _, by decide, by simp, fun j hj => ?_, fun j hj => ?_⟩
  · have : j = 0 ∨ j = 1 := by simp at hj; omega
    rcases this with rfl | rfl <;> simp
  · have : j = 0 ∨ j = 1 := by omega
    rcases this with rfl | rfl <;> exact ⟨by simp, by simp⟩
theorem wN_told {B : Nat} {w0 wX w2 : World} {V V2 : Value} {zs : List Int} (hb : Below B w0 wX) (hB : B ≤ wX.heap.size) (hV : ∀ k, blk V k → B ≤ k) (ho2 : Own w2 V2 zs) (ht2 : Turned (blk V) wX w2) (hb2 : ∀ k, blk V2 k → blk V k ∨ wX.heap.size ≤ k) : Own w2 V2 zs ∧ Below B w0 w2 ∧ ∀ k, blk V2 k → B ≤ k :=
  ⟨ho2, hb.trans (ht2.below hB hV), fun k hk => (hb2 k hk).elim (hV k) (fun h => Nat.le_trans hB h)⟩
set_option maxRecDepth 100000 in
set_option maxHeartbeats 3200000 in
theorem ref_write_1 (m : Msg) (hk : m.kind = 1) (hf : fits m) (hm : m.Ok) (hok : nodeOk m.name = true) {w : World} {D : Value} (hD : Sl w D m.digest) : Calls Tryz.prog 15 #[msgV' m D] w (RWriteTold m w) := by
  have hno : (m.kind = 1 ∨ m.kind = 3) → nodeOk m.name = true := fun h => hok
  have hsm := fits_small hf hno
  have hwr : writeOf m = 78 :: (bytes8 m.flags ++ ((be4 m.creation ++ (be2 m.name.size ++ nums m.name)))) ∧ writeErr m = [] := by
    refine ⟨(writeOf_ok hf hno).trans (by unfold bytesOfMsg; simp [hk]), ?_⟩
    unfold writeErr
    rw [if_neg (by simpa using hf), if_neg (fun h => by rw [hok] at h; exact absurd h.2 (by decide))]
  obtain ⟨aD, cD, rfl, _, _⟩ := hD.form
  obtain ⟨k, fl, cr, ch, nm, st, dg⟩ := m
  obtain ⟨wa, hwa⟩ : ∃ wa, wa = w.alloc (.cells #[.int .i64 k, .int .u64 fl, .int .u32 cr, .int .u32 ch, .string nm, .string st, .slice aD dg.length cD] 49) := ⟨_, rfl⟩
  have ba : Below w.heap.size w wa := by rw [hwa]; exact (Below.refl _ _).alloc (Nat.le_refl _) _
  have hma : MsgAt wa w.heap.size ⟨k, fl, cr, ch, nm, st, dg⟩ (.slice aD dg.length cD) := by rw [hwa]; exact ⟨by simp, by simp, by simp, by simp, by simp, by simp, by simp⟩
  have hfi := ref_fields k fl cr ch nm st dg aD cD wa
  have HW : Hid (wa = w.alloc (.cells #[.int .i64 k, .int .u64 fl, .int .u32 cr, .int .u32 ch, .string nm, .string st, .slice aD dg.length cD] 49)) := by
    have h : wa = w.alloc (.cells #[.int .i64 k, .int .u64 fl, .int .u32 cr, .int .u32 ch, .string nm, .string st, .slice aD dg.length cD] 49) := hwa
    exact h
  have H0 : Hid (Below w.heap.size w wa ∧ MsgAt wa w.heap.size ⟨k, fl, cr, ch, nm, st, dg⟩ (.slice aD dg.length cD)) := ⟨ba, hma⟩
  have HD := Hid.mk7 hD
  unfold msgV at hfi
  unfold msgV'
  simp only at hfi hk hsm hok ⊢
  rw [decide_eq_true hf] at hfi
  clear hwa ba hma hD
  unfold RWriteTold
  rw [hwr.1, hwr.2]
  subst hk
  clear hf hwr hno
  go_enter Tryz.func15, Tryz.ntmps15
  go_wp2_with fail
  rw [← HW.out]
  refine hfi.mono ?_
  rintro e w1 ⟨rfl, hb1⟩
  have H1 : Hid (Below w.heap.size w w1 ∧ MsgAt w1 w.heap.size ⟨1, fl, cr, ch, nm, st, dg⟩ (.slice aD dg.length cD)) := ⟨H0.out.1.trans (hb1.mono H0.out.1.size), H0.out.2.below hb1⟩
  obtain ⟨m0, m1, m2, m3, m4, m5, m6⟩ := H1.out.2
  simp only at m0 m1 m2 m3 m4 m5 m6
  have hzl : w.heap.size < w1.heap.size := H1.out.2.lt
  clear hb1 hfi H0 HW
  have hnq := Tryz.neqLinks
  have HFL : Hid (U64 fl) := hm.flags
  have HNZ : Hid (nm.size ≤ 64) := hsm.1
  clear hm
  have hn := ref_node nm (by omega) w1
  rw [if_pos hok] at hn
  clear hok
  go_wp2_with fail
  refine hn.mono ?_
  rintro e w2 ⟨x2, y2, v2, rfl, hl2, hb2⟩
  have hl2 : v2 = .slice none 0 0 := hl2
  subst hl2
  have H2 : Hid (Below w.heap.size w w2 ∧ MsgAt w2 w.heap.size ⟨1, fl, cr, ch, nm, st, dg⟩ (.slice aD dg.length cD)) := ⟨H1.out.1.trans (hb2.mono H1.out.1.size), H1.out.2.below hb2⟩
  clear hb2 hn m0 m1 m2 m3 m4 m5 m6 hzl H1
  obtain ⟨m0, m1, m2, m3, m4, m5, m6⟩ := H2.out.2
  simp only at m0 m1 m2 m3 m4 m5 m6
  have hzl : w.heap.size < w2.heap.size := H2.out.2.lt
  have ho := Sl.one w2 5 78
  have hX : Below w2.heap.size w2 (w2.alloc (.cells #[.int .u8 78] 5)).drew := ((Below.refl _ _).alloc (Nat.le_refl _) _).drew
  have HX := Hid.mk7 hX
  have s0 : (w2.alloc (.cells #[.int .u8 78] 5)).drew.cell? ⟨w.heap.size, 1, none⟩ = some (.int .u64 fl) := (hX.cell (p := ⟨w.heap.size, 1, none⟩) hzl).trans m1
  clear hX
  go_wp2_with fail
  go_region_held3 (fun w' => w'.cell? ⟨w.heap.size, 1, none⟩ = some (.int .u64 fl))
    (go_keep)
    (first
      | (go_at_call 42; refine (ref_four _ (by simp [be4]) H3.out.1).mono ?_; rintro e w4 ⟨V4, rfl, ho4, ht4, hb4⟩; have H4 := Hid.mk7 (wN_told H3.out.2.1 H3.out.2.1.size H3.out.2.2 ho4 ht4 hb4); have s2 : w4.cell? ⟨w.heap.size, 1, none⟩ = some (.int .u64 fl) := ((H4.out.2.1.cell (p := ⟨w.heap.size, 1, none⟩) hzl).trans m1); obtain ⟨a4, c4, L4, rfl⟩ : ∃ a c L, V4 = .slice a L c := ⟨_, _, _, ho4.sl.form.choose_spec.choose_spec.1⟩; clear ho4 ht4 hb4)
      | (go_at_call 42; refine (ref_four _ (by simp) (ho.turned (Turned.drew (fun _ => False) _) (fun _ _ h => h))).mono ?_; rintro e w3 ⟨V3, rfl, ho3, ht3, hb3⟩; have H3 := Hid.mk7 (wN_told HX.out (by have := HX.out.size; omega) (fun k hk => by have hk : w2.heap.size = k := hk; omega) ho3 ht3 hb3); have s1 : w3.cell? ⟨w.heap.size, 1, none⟩ = some (.int .u64 fl) := ((H3.out.2.1.cell (p := ⟨w.heap.size, 1, none⟩) hzl).trans m1); obtain ⟨a3, c3, L3, rfl⟩ : ∃ a c L, V3 = .slice a L c := ⟨_, _, _, ho3.sl.form.choose_spec.choose_spec.1⟩; clear ho3 ht3 hb3))
  all_goals
    have M4 := Hid.mk7 (H2.out.2.below H4.out.2.1)
    clear m0 m1 m2 m3 m4 m5 m6 ho s0 HX H3
    obtain ⟨m0, m1, m2, m3, m4, m5, m6⟩ := M4.out
    simp only at m0 m1 m2 m3 m4 m5 m6
    go_wp2_with fail
    refine (ref_four _ (by simp [be4]) H4.out.1).mono ?_
    rintro e w6 ⟨V6, rfl, ho6, ht6, hb6⟩
    have H6 := Hid.mk7 (wN_told H4.out.2.1 H4.out.2.1.size H4.out.2.2 ho6 ht6 hb6)
    obtain ⟨a6, c6, L6, rfl⟩ : ∃ a c L, V6 = .slice a L c := ⟨_, _, _, ho6.sl.form.choose_spec.choose_spec.1⟩
    clear ho6 ht6 hb6 m0 m1 m2 m3 m4 m5 m6
    obtain ⟨m0, m1, m2, m3, m4, m5, m6⟩ := H2.out.2.below H6.out.2.1
    simp only at m0 m1 m2 m3 m4 m5 m6
    have htw := (Sl.two w6 5 ((nm.size : Int) / 256) (nm.size : Int)).sl
    have hoa := H6.out.1.turned (alloc0m w6 (.cells #[.int .u8 ((nm.size : Int) / 256), .int .u8 (nm.size : Int)] 5)) (fun _ _ h => h)
    have hln : ([78] ++ be4 (IntKind.u32.wrap (fl / 4294967296)) ++ be4 (IntKind.u32.wrap fl) ++ be4 cr).length + 2 ≤ 70368744177664 := by simp [be4]
    have hln2 : (([78] ++ be4 (IntKind.u32.wrap (fl / 4294967296)) ++ be4 (IntKind.u32.wrap fl) ++ be4 cr) ++ [(nm.size : Int) / 256, (nm.size : Int)]).length + nm.size ≤ 70368744177664 := by simp [be4]; omega
    have bA : Below w2.heap.size w2 (w6.alloc (.cells #[.int .u8 ((nm.size : Int) / 256), .int .u8 (nm.size : Int)] 5)) := H6.out.2.1.alloc H6.out.2.1.size _
    have HA := Hid.mk7 bA
    clear bA
    go_wp2_with (first
      | (at_builtin; refine wpList_append_bytes (by rfl) (.tmp 67) (.tmp 77) (by rfl) Tryz.bytes (by rfl) (by rfl) hoa htw hln ?_; intro v7 w7 ho7 ht7 hb7; have H7 := Hid.mk7 (wN_told HA.out HA.out.size H6.out.2.2 ho7 ht7 (fun k hk => (hb7 k hk).imp id (fun h => Nat.le_of_eq h.symm))); have c4 : w7.cell? ⟨w.heap.size, 4, none⟩ = some (.string nm) := (H2.out.2.below H7.out.2.1).c4; obtain ⟨a7, c7, L7, rfl⟩ : ∃ a c L, v7 = .slice a L c := ⟨_, _, _, ho7.sl.form.choose_spec.choose_spec.1⟩; clear ho7 ht7 hb7 m0 m1 m2 m3 m4 m5 m6 hoa htw)
      | (at_builtin; refine wpList_append_text (by rfl) (.tmp 79) (.tmp 81) (by rfl) Tryz.bytes Tryz.underlying9 (by rfl) (by rfl) H7.out.1 hln2 ?_; intro v8 w8 ho8 ht8 hb8; have H8 := Hid.mk7 (wN_told H7.out.2.1 H7.out.2.1.size H7.out.2.2 ho8 ht8 (fun k hk => (hb8 k hk).imp id (fun h => Nat.le_of_eq h.symm))); clear ho8 ht8 hb8))
    go_ret2
    obtain ⟨q1, q2, q3⟩ := H8.out
    refine ⟨_, _, rfl, ?_, rfl, H2.out.1.trans (q2.mono H2.out.1.size), fun k hk => Nat.le_trans H2.out.1.size (q3 k hk)⟩
    rw [← wrote_1 fl cr HFL.out nm.size HNZ.out (nums nm)]
    exact q1
set_option maxRecDepth 100000 in
set_option maxHeartbeats 3200000 in
theorem ref_write_3 (m : Msg) (hk : m.kind = 3) (hf : fits m) (hm : m.Ok) (hok : nodeOk m.name = true) {w : World} {D : Value} (hD : Sl w D m.digest) : Calls Tryz.prog 15 #[msgV' m D] w (RWriteTold m w) := by
  have hno : (m.kind = 1 ∨ m.kind = 3) → nodeOk m.name = true := fun h => hok
  have hsm := fits_small hf hno
  have hwr : writeOf m = 78 :: (bytes8 m.flags ++ (be4 m.challenge ++ (be4 m.creation ++ (be2 m.name.size ++ nums m.name)))) ∧ writeErr m = [] := by
    refine ⟨(writeOf_ok hf hno).trans (by unfold bytesOfMsg; simp [hk]), ?_⟩
    unfold writeErr
    rw [if_neg (by simpa using hf), if_neg (fun h => by rw [hok] at h; exact absurd h.2 (by decide))]
  obtain ⟨aD, cD, rfl, _, _⟩ := hD.form
  obtain ⟨k, fl, cr, ch, nm, st, dg⟩ := m
  obtain ⟨wa, hwa⟩ : ∃ wa, wa = w.alloc (.cells #[.int .i64 k, .int .u64 fl, .int .u32 cr, .int .u32 ch, .string nm, .string st, .slice aD dg.length cD] 49) := ⟨_, rfl⟩
  have ba : Below w.heap.size w wa := by rw [hwa]; exact (Below.refl _ _).alloc (Nat.le_refl _) _
  have hma : MsgAt wa w.heap.size ⟨k, fl, cr, ch, nm, st, dg⟩ (.slice aD dg.length cD) := by rw [hwa]; exact ⟨by simp, by simp, by simp, by simp, by simp, by simp, by simp⟩
  have hfi := ref_fields k fl cr ch nm st dg aD cD wa
  have HW : Hid (wa = w.alloc (.cells #[.int .i64 k, .int .u64 fl, .int .u32 cr, .int .u32 ch, .string nm, .string st, .slice aD dg.length cD] 49)) := by
    have h : wa = w.alloc (.cells #[.int .i64 k, .int .u64 fl, .int .u32 cr, .int .u32 ch, .string nm, .string st, .slice aD dg.length cD] 49) := hwa
    exact h
  have H0 : Hid (Below w.heap.size w wa ∧ MsgAt wa w.heap.size ⟨k, fl, cr, ch, nm, st, dg⟩ (.slice aD dg.length cD)) := ⟨ba, hma⟩
  have HD := Hid.mk7 hD
  unfold msgV at hfi
  unfold msgV'
  simp only at hfi hk hsm hok ⊢
  rw [decide_eq_true hf] at hfi
  clear hwa ba hma hD
  unfold RWriteTold
  rw [hwr.1, hwr.2]
  subst hk
  clear hf hwr hno
  go_enter Tryz.func15, Tryz.ntmps15
  go_wp2_with fail
  rw [← HW.out]
  refine hfi.mono ?_
  rintro e w1 ⟨rfl, hb1⟩
  have H1 : Hid (Below w.heap.size w w1 ∧ MsgAt w1 w.heap.size ⟨3, fl, cr, ch, nm, st, dg⟩ (.slice aD dg.length cD)) := ⟨H0.out.1.trans (hb1.mono H0.out.1.size), H0.out.2.below hb1⟩
  obtain ⟨m0, m1, m2, m3, m4, m5, m6⟩ := H1.out.2
  simp only at m0 m1 m2 m3 m4 m5 m6
  have hzl : w.heap.size < w1.heap.size := H1.out.2.lt
  clear hb1 hfi H0 HW
  have hnq := Tryz.neqLinks
  have HFL : Hid (U64 fl) := hm.flags
  have HNZ : Hid (nm.size ≤ 64) := hsm.1
  clear hm
  have hn := ref_node nm (by omega) w1
  rw [if_pos hok] at hn
  clear hok
  go_wp2_with fail
  refine hn.mono ?_
  rintro e w2 ⟨x2, y2, v2, rfl, hl2, hb2⟩
  have hl2 : v2 = .slice none 0 0 := hl2
  subst hl2
  have H2 : Hid (Below w.heap.size w w2 ∧ MsgAt w2 w.heap.size ⟨3, fl, cr, ch, nm, st, dg⟩ (.slice aD dg.length cD)) := ⟨H1.out.1.trans (hb2.mono H1.out.1.size), H1.out.2.below hb2⟩
  clear hb2 hn m0 m1 m2 m3 m4 m5 m6 hzl H1
  obtain ⟨m0, m1, m2, m3, m4, m5, m6⟩ := H2.out.2
  simp only at m0 m1 m2 m3 m4 m5 m6
  have hzl : w.heap.size < w2.heap.size := H2.out.2.lt
  have ho := Sl.one w2 5 78
  have hX : Below w2.heap.size w2 (w2.alloc (.cells #[.int .u8 78] 5)).drew := ((Below.refl _ _).alloc (Nat.le_refl _) _).drew
  have HX := Hid.mk7 hX
  have s0 : (w2.alloc (.cells #[.int .u8 78] 5)).drew.cell? ⟨w.heap.size, 1, none⟩ = some (.int .u64 fl) := (hX.cell (p := ⟨w.heap.size, 1, none⟩) hzl).trans m1
  clear hX
  go_wp2_with fail
  go_region_held3 (fun w' => w'.cell? ⟨w.heap.size, 1, none⟩ = some (.int .u64 fl))
    (go_keep)
    (first
      | (go_at_call 42; refine (ref_four _ (by simp [be4]) H3.out.1).mono ?_; rintro e w4 ⟨V4, rfl, ho4, ht4, hb4⟩; have H4 := Hid.mk7 (wN_told H3.out.2.1 H3.out.2.1.size H3.out.2.2 ho4 ht4 hb4); have s2 : w4.cell? ⟨w.heap.size, 1, none⟩ = some (.int .u64 fl) := ((H4.out.2.1.cell (p := ⟨w.heap.size, 1, none⟩) hzl).trans m1); obtain ⟨a4, c4, L4, rfl⟩ : ∃ a c L, V4 = .slice a L c := ⟨_, _, _, ho4.sl.form.choose_spec.choose_spec.1⟩; clear ho4 ht4 hb4)
      | (go_at_call 42; refine (ref_four _ (by simp) (ho.turned (Turned.drew (fun _ => False) _) (fun _ _ h => h))).mono ?_; rintro e w3 ⟨V3, rfl, ho3, ht3, hb3⟩; have H3 := Hid.mk7 (wN_told HX.out (by have := HX.out.size; omega) (fun k hk => by have hk : w2.heap.size = k := hk; omega) ho3 ht3 hb3); have s1 : w3.cell? ⟨w.heap.size, 1, none⟩ = some (.int .u64 fl) := ((H3.out.2.1.cell (p := ⟨w.heap.size, 1, none⟩) hzl).trans m1); obtain ⟨a3, c3, L3, rfl⟩ : ∃ a c L, V3 = .slice a L c := ⟨_, _, _, ho3.sl.form.choose_spec.choose_spec.1⟩; clear ho3 ht3 hb3))
  all_goals
    have M4 := Hid.mk7 (H2.out.2.below H4.out.2.1)
    clear m0 m1 m2 m3 m4 m5 m6 ho s0 HX H3
    obtain ⟨m0, m1, m2, m3, m4, m5, m6⟩ := M4.out
    simp only at m0 m1 m2 m3 m4 m5 m6
    go_wp2_with fail
    refine (ref_four _ (by simp [be4]) H4.out.1).mono ?_
    rintro e w5 ⟨V5, rfl, ho5, ht5, hb5⟩
    have H5 := Hid.mk7 (wN_told H4.out.2.1 H4.out.2.1.size H4.out.2.2 ho5 ht5 hb5)
    obtain ⟨a5, c5, L5, rfl⟩ : ∃ a c L, V5 = .slice a L c := ⟨_, _, _, ho5.sl.form.choose_spec.choose_spec.1⟩
    clear ho5 ht5 hb5 m0 m1 m2 m3 m4 m5 m6
    obtain ⟨m0, m1, m2, m3, m4, m5, m6⟩ := H2.out.2.below H5.out.2.1
    simp only at m0 m1 m2 m3 m4 m5 m6
    go_wp2_with fail
    refine (ref_four _ (by simp [be4]) H5.out.1).mono ?_
    rintro e w6 ⟨V6, rfl, ho6, ht6, hb6⟩
    have H6 := Hid.mk7 (wN_told H5.out.2.1 H5.out.2.1.size H5.out.2.2 ho6 ht6 hb6)
    obtain ⟨a6, c6, L6, rfl⟩ : ∃ a c L, V6 = .slice a L c := ⟨_, _, _, ho6.sl.form.choose_spec.choose_spec.1⟩
    clear ho6 ht6 hb6 m0 m1 m2 m3 m4 m5 m6
    obtain ⟨m0, m1, m2, m3, m4, m5, m6⟩ := H2.out.2.below H6.out.2.1
    simp only at m0 m1 m2 m3 m4 m5 m6
    have htw := (Sl.two w6 5 ((nm.size : Int) / 256) (nm.size : Int)).sl
    have hoa := H6.out.1.turned (alloc0m w6 (.cells #[.int .u8 ((nm.size : Int) / 256), .int .u8 (nm.size : Int)] 5)) (fun _ _ h => h)
    have hln : ([78] ++ be4 (IntKind.u32.wrap (fl / 4294967296)) ++ be4 (IntKind.u32.wrap fl) ++ be4 ch ++ be4 cr).length + 2 ≤ 70368744177664 := by simp [be4]
    have hln2 : (([78] ++ be4 (IntKind.u32.wrap (fl / 4294967296)) ++ be4 (IntKind.u32.wrap fl) ++ be4 ch ++ be4 cr) ++ [(nm.size : Int) / 256, (nm.size : Int)]).length + nm.size ≤ 70368744177664 := by simp [be4]; omega
    have bA : Below w2.heap.size w2 (w6.alloc (.cells #[.int .u8 ((nm.size : Int) / 256), .int .u8 (nm.size : Int)] 5)) := H6.out.2.1.alloc H6.out.2.1.size _
    have HA := Hid.mk7 bA
    clear bA
    go_wp2_with (first
      | (at_builtin; refine wpList_append_bytes (by rfl) (.tmp 67) (.tmp 77) (by rfl) Tryz.bytes (by rfl) (by rfl) hoa htw hln ?_; intro v7 w7 ho7 ht7 hb7; have H7 := Hid.mk7 (wN_told HA.out HA.out.size H6.out.2.2 ho7 ht7 (fun k hk => (hb7 k hk).imp id (fun h => Nat.le_of_eq h.symm))); have c4 : w7.cell? ⟨w.heap.size, 4, none⟩ = some (.string nm) := (H2.out.2.below H7.out.2.1).c4; obtain ⟨a7, c7, L7, rfl⟩ : ∃ a c L, v7 = .slice a L c := ⟨_, _, _, ho7.sl.form.choose_spec.choose_spec.1⟩; clear ho7 ht7 hb7 m0 m1 m2 m3 m4 m5 m6 hoa htw)
      | (at_builtin; refine wpList_append_text (by rfl) (.tmp 79) (.tmp 81) (by rfl) Tryz.bytes Tryz.underlying9 (by rfl) (by rfl) H7.out.1 hln2 ?_; intro v8 w8 ho8 ht8 hb8; have H8 := Hid.mk7 (wN_told H7.out.2.1 H7.out.2.1.size H7.out.2.2 ho8 ht8 (fun k hk => (hb8 k hk).imp id (fun h => Nat.le_of_eq h.symm))); clear ho8 ht8 hb8))
    go_ret2
    obtain ⟨q1, q2, q3⟩ := H8.out
    refine ⟨_, _, rfl, ?_, rfl, H2.out.1.trans (q2.mono H2.out.1.size), fun k hk => Nat.le_trans H2.out.1.size (q3 k hk)⟩
    rw [← wrote_3 fl cr ch HFL.out nm.size HNZ.out (nums nm)]
    exact q1
set_option maxRecDepth 100000 in
set_option maxHeartbeats 3200000 in
theorem ref_write_bad1 (m : Msg) (hk : m.kind = 1) (hf : fits m) (hns : m.name.size ≤ 4611686018427387904) (hok : nodeOk m.name = false) {w : World} {D : Value} (hD : Sl w D m.digest) : Calls Tryz.prog 15 #[msgV' m D] w (RWriteTold m w) := by
  have hwr : writeOf m = [] ∧ writeErr m = shName 0 := by
    simp [writeOf, writeErr, hf, hk, hok]
  obtain ⟨aD, cD, rfl, _, _⟩ := hD.form
  obtain ⟨k, fl, cr, ch, nm, st, dg⟩ := m
  obtain ⟨wa, hwa⟩ : ∃ wa, wa = w.alloc (.cells #[.int .i64 k, .int .u64 fl, .int .u32 cr, .int .u32 ch, .string nm, .string st, .slice aD dg.length cD] 49) := ⟨_, rfl⟩
  have ba : Below w.heap.size w wa := by rw [hwa]; exact (Below.refl _ _).alloc (Nat.le_refl _) _
  have hma : MsgAt wa w.heap.size ⟨k, fl, cr, ch, nm, st, dg⟩ (.slice aD dg.length cD) := by rw [hwa]; exact ⟨by simp, by simp, by simp, by simp, by simp, by simp, by simp⟩
  have hfi := ref_fields k fl cr ch nm st dg aD cD wa
  have HW : Hid (wa = w.alloc (.cells #[.int .i64 k, .int .u64 fl, .int .u32 cr, .int .u32 ch, .string nm, .string st, .slice aD dg.length cD] 49)) := by
    have h : wa = w.alloc (.cells #[.int .i64 k, .int .u64 fl, .int .u32 cr, .int .u32 ch, .string nm, .string st, .slice aD dg.length cD] 49) := hwa
    exact h
  have H0 : Hid (Below w.heap.size w wa ∧ MsgAt wa w.heap.size ⟨k, fl, cr, ch, nm, st, dg⟩ (.slice aD dg.length cD)) := ⟨ba, hma⟩
  have HD := Hid.mk7 hD
  unfold msgV at hfi
  unfold msgV'
  simp only at hfi hk hns hok ⊢
  rw [decide_eq_true hf] at hfi
  clear hwa ba hma hD
  unfold RWriteTold
  rw [hwr.1, hwr.2]
  subst hk
  clear hf hwr
  go_enter Tryz.func15, Tryz.ntmps15
  go_wp2_with fail
  rw [← HW.out]
  refine hfi.mono ?_
  rintro e w1 ⟨rfl, hb1⟩
  have H1 : Hid (Below w.heap.size w w1 ∧ MsgAt w1 w.heap.size ⟨1, fl, cr, ch, nm, st, dg⟩ (.slice aD dg.length cD)) := ⟨H0.out.1.trans (hb1.mono H0.out.1.size), H0.out.2.below hb1⟩
  obtain ⟨m0, m1, m2, m3, m4, m5, m6⟩ := H1.out.2
  simp only at m0 m1 m2 m3 m4 m5 m6
  have hzl : w.heap.size < w1.heap.size := H1.out.2.lt
  clear hb1 hfi H0 HW
  have hnq := Tryz.neqLinks
  have hn := ref_node nm hns w1
  rw [hok, if_neg (by decide)] at hn
  clear hok
  go_wp2_with fail
  refine hn.mono ?_
  rintro e w2 ⟨x2, y2, v2, rfl, hl2, hb2⟩
  have H2 : Hid (Below w.heap.size w w2) := H1.out.1.trans (hb2.mono H1.out.1.size)
  have hov := sh_over 0 ⟨lyAtom, 0, 24⟩ hl2
  obtain ⟨lb, cap, _, rfl, _⟩ := hl2
  clear hb2 hn m0 m1 m2 m3 m4 m5 m6 hzl H1
  go_wp2_with fail
  refine hov.mono ?_
  rintro e w3 ⟨v3, rfl, hl3, hb3⟩
  have H3 : Hid (LinksC w.heap.size w3 v3 (shName 0) ∧ Below w.heap.size w w3) := ⟨hl3.mono H2.out.size, H2.out.trans (hb3.mono H2.out.size)⟩
  obtain ⟨lb3, cap3, _, rfl, _⟩ := hl3
  clear hb3 hov
  go_wp2
  go_ret2
  exact ⟨_, _, rfl, .inl ⟨rfl, rfl⟩, H3.out.1, H3.out.2, fun _ h => h.elim⟩
set_option maxRecDepth 100000 in
set_option maxHeartbeats 3200000 in
theorem ref_write_bad3 (m : Msg) (hk : m.kind = 3) (hf : fits m) (hns : m.name.size ≤ 4611686018427387904) (hok : nodeOk m.name = false) {w : World} {D : Value} (hD : Sl w D m.digest) : Calls Tryz.prog 15 #[msgV' m D] w (RWriteTold m w) := by
  have hwr : writeOf m = [] ∧ writeErr m = shName 0 := by
    simp [writeOf, writeErr, hf, hk, hok]
  obtain ⟨aD, cD, rfl, _, _⟩ := hD.form
  obtain ⟨k, fl, cr, ch, nm, st, dg⟩ := m
  obtain ⟨wa, hwa⟩ : ∃ wa, wa = w.alloc (.cells #[.int .i64 k, .int .u64 fl, .int .u32 cr, .int .u32 ch, .string nm, .string st, .slice aD dg.length cD] 49) := ⟨_, rfl⟩
  have ba : Below w.heap.size w wa := by rw [hwa]; exact (Below.refl _ _).alloc (Nat.le_refl _) _
  have hma : MsgAt wa w.heap.size ⟨k, fl, cr, ch, nm, st, dg⟩ (.slice aD dg.length cD) := by rw [hwa]; exact ⟨by simp, by simp, by simp, by simp, by simp, by simp, by simp⟩
  have hfi := ref_fields k fl cr ch nm st dg aD cD wa
  have HW : Hid (wa = w.alloc (.cells #[.int .i64 k, .int .u64 fl, .int .u32 cr, .int .u32 ch, .string nm, .string st, .slice aD dg.length cD] 49)) := by
    have h : wa = w.alloc (.cells #[.int .i64 k, .int .u64 fl, .int .u32 cr, .int .u32 ch, .string nm, .string st, .slice aD dg.length cD] 49) := hwa
    exact h
  have H0 : Hid (Below w.heap.size w wa ∧ MsgAt wa w.heap.size ⟨k, fl, cr, ch, nm, st, dg⟩ (.slice aD dg.length cD)) := ⟨ba, hma⟩
  have HD := Hid.mk7 hD
  unfold msgV at hfi
  unfold msgV'
  simp only at hfi hk hns hok ⊢
  rw [decide_eq_true hf] at hfi
  clear hwa ba hma hD
  unfold RWriteTold
  rw [hwr.1, hwr.2]
  subst hk
  clear hf hwr
  go_enter Tryz.func15, Tryz.ntmps15
  go_wp2_with fail
  rw [← HW.out]
  refine hfi.mono ?_
  rintro e w1 ⟨rfl, hb1⟩
  have H1 : Hid (Below w.heap.size w w1 ∧ MsgAt w1 w.heap.size ⟨3, fl, cr, ch, nm, st, dg⟩ (.slice aD dg.length cD)) := ⟨H0.out.1.trans (hb1.mono H0.out.1.size), H0.out.2.below hb1⟩
  obtain ⟨m0, m1, m2, m3, m4, m5, m6⟩ := H1.out.2
  simp only at m0 m1 m2 m3 m4 m5 m6
  have hzl : w.heap.size < w1.heap.size := H1.out.2.lt
  clear hb1 hfi H0 HW
  have hnq := Tryz.neqLinks
  have hn := ref_node nm hns w1
  rw [hok, if_neg (by decide)] at hn
  clear hok
  go_wp2_with fail
  refine hn.mono ?_
  rintro e w2 ⟨x2, y2, v2, rfl, hl2, hb2⟩
  have H2 : Hid (Below w.heap.size w w2) := H1.out.1.trans (hb2.mono H1.out.1.size)
  have hov := sh_over 0 ⟨lyAtom, 0, 24⟩ hl2
  obtain ⟨lb, cap, _, rfl, _⟩ := hl2
  clear hb2 hn m0 m1 m2 m3 m4 m5 m6 hzl H1
  go_wp2_with fail
  refine hov.mono ?_
  rintro e w3 ⟨v3, rfl, hl3, hb3⟩
  have H3 : Hid (LinksC w.heap.size w3 v3 (shName 0) ∧ Below w.heap.size w w3) := ⟨hl3.mono H2.out.size, H2.out.trans (hb3.mono H2.out.size)⟩
  obtain ⟨lb3, cap3, _, rfl, _⟩ := hl3
  clear hb3 hov
  go_wp2
  go_ret2
  exact ⟨_, _, rfl, .inl ⟨rfl, rfl⟩, H3.out.1, H3.out.2, fun _ h => h.elim⟩
/-- The document's Write. -/
theorem ref_Write (m : Msg) (hm : m.Ok) (hns : m.name.size ≤ 4611686018427387904) {w : World} {D : Value} (hD : Sl w D m.digest) : Calls Tryz.prog 15 #[msgV' m D] w (RWriteTold m w) := by
  by_cases hf : fits m
  · have hk := fits_kind hf
    have h5 : m.kind = 1 ∨ m.kind = 2 ∨ m.kind = 3 ∨ m.kind = 4 ∨ m.kind = 5 := by omega
    rcases h5 with h | h | h | h | h
    · cases hok : nodeOk m.name with
      | true => exact ref_write_1 m h hf hm hok hD
      | false => exact ref_write_bad1 m h hf hns hok hD
    · exact ref_write_2 m h hf hD
    · cases hok : nodeOk m.name with
      | true => exact ref_write_3 m h hf hm hok hD
      | false => exact ref_write_bad3 m h hf hns hok hD
    · exact ref_write_4 m h hf hD
    · exact ref_write_5 m h hf hD
  · exact ref_write_no m hf hD
end Go.Proofs.YtmnibmgbicnamabGreatDoor
