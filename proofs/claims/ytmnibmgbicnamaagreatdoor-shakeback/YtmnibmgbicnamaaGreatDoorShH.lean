/-
  Layer 8 (shake): the program's Write.
-/
import Derived.Test.YtmnibmgbicnamaaGreatDoorShG
import Derived.Test.YtmnibmgbicnamaaGreatDoorShB2
import Derived.Test.YtmnibmgbicnamaaGreatDoorSMeet
namespace Go.Proofs.YtmnibmgbicnamaaGreatDoor
open Go.RowKit

theorem wrote_all (m : Msg) (hk : 1 ≤ m.kind ∧ m.kind ≤ 5) : letterOf m.kind :: (fieldsOf m.kind).flatMap (fun f => fieldBytes f m) = bytesOfMsg m := by
  have h5 : m.kind = 1 ∨ m.kind = 2 ∨ m.kind = 3 ∨ m.kind = 4 ∨ m.kind = 5 := by omega
  rcases h5 with h | h | h | h | h
  · rw [bytes_k1 m h, h]; simp [letterOf, fieldsOf, fieldBytes]
  · rw [bytes_k2 m h, h]; simp [letterOf, fieldsOf, fieldBytes]
  · rw [bytes_k3 m h, h]; simp [letterOf, fieldsOf, fieldBytes]
  · rw [bytes_k4 m h, h]; simp [letterOf, fieldsOf, fieldBytes]
  · rw [bytes_k5 m h, h]; simp [letterOf, fieldsOf, fieldBytes]
theorem st_size {s : ByteArray} (h : isSt s = true) : s.size ≤ 15 := by
  simp only [isSt, Bool.or_eq_true, decide_eq_true_eq] at h
  rcases h with (((h | h) | h) | h) | h <;> rw [h] <;> decide
theorem fits_kind {m : Msg} (hf : fits m) : 1 ≤ m.kind ∧ m.kind ≤ 5 := by
  obtain ⟨_, _, _, h4⟩ := hf
  by_cases h : m.kind = 4 ∨ m.kind = 5
  · omega
  · rw [if_neg h] at h4; exact h4.2
theorem fits_small {m : Msg} (hf : fits m) (hn : (m.kind = 1 ∨ m.kind = 3) → nodeOk m.name = true) : m.name.size ≤ 64 ∧ m.status.size ≤ 15 ∧ m.digest.length ≤ 16 := by
  obtain ⟨h1, _, h3, h4⟩ := hf
  refine ⟨?_, ?_, ?_⟩
  · by_cases h : m.kind = 1 ∨ m.kind = 3
    · exact (nodeOk_size (hn h)).2
    · omega
  · by_cases h : m.kind = 2
    · rw [if_pos h] at h3; exact st_size h3
    · rw [if_neg h] at h3; omega
  · by_cases h : m.kind = 4 ∨ m.kind = 5
    · rw [if_pos h] at h4; omega
    · rw [if_neg h] at h4; omega
theorem field_few {m : Msg} (h1 : m.name.size ≤ 64) (h2 : m.status.size ≤ 15) (h3 : m.digest.length ≤ 16) (f : Int) : (fieldBytes f m).length ≤ 140 := by
  unfold fieldBytes
  repeat' split
  · simp [bytes8]
  · simp [be4]
  · simp [be4]
  · simp [be2, nums_length]; omega
  · rw [nums_length]; omega
  · omega
theorem fields_rng (k : Int) : ∀ f ∈ fieldsOf k, 0 ≤ f ∧ f ≤ 5 := by
  intro f hf
  unfold fieldsOf at hf
  repeat' split at hf
  all_goals simp at hf
  all_goals omega
theorem has_name (k : Int) (hk : 1 ≤ k ∧ k ≤ 5) : decide ((3 : Int) ∈ fieldsOf k) = decide (k = 1 ∨ k = 3) := by
  have h5 : k = 1 ∨ k = 2 ∨ k = 3 ∨ k = 4 ∨ k = 5 := by omega
  rcases h5 with rfl | rfl | rfl | rfl | rfl <;> decide
/-- What is told of Write. -/
def WriteTold (m : Msg) (w : World) (e : Ending) (w' : World) : Prop := ∃ V v, e = .returned (.tuple #[V, v]) ∧ Own w' V (writeOf m) ∧ FaultC w.heap.size w' v (writeErr m) ∧ Below w.heap.size w w' ∧ ∀ k, blk V k → w.heap.size ≤ k
set_option maxRecDepth 100000 in
set_option maxHeartbeats 3200000 in
theorem sh_write_kind (m : Msg) (hk : m.kind < 1 ∨ 5 < m.kind) (D : Value) (w : World) (hD : ∃ a c, D = .slice a m.digest.length c) : Calls Tryz.prog 9 #[msgV' m D] w (WriteTold m w) := by
  have hf : ¬ fits m := fun h => by have := fits_kind h; omega
  have hW : writeOf m = [] ∧ writeErr m = sh 0 1 := by unfold writeOf writeErr; rw [if_pos hf, if_pos hf]; exact ⟨rfl, rfl⟩
  unfold WriteTold
  rw [hW.1, hW.2]
  obtain ⟨aD, cD, rfl⟩ := hD
  have hsh := sh_shape_no m.kind hk
  obtain ⟨k, fl, cr, ch, nm, st, dg⟩ := m
  simp only at hsh
  clear hf hW hk
  unfold msgV'
  simp only
  generalize dg.length = LD
  go_enter Tryz.func9, Tryz.ntmps9
  go_wp2_with fail
  refine (hsh _).mono ?_
  rintro e w1 ⟨rfl, hb1⟩
  have B1 : Below w.heap.size w w1 := ((Below.refl _ _).alloc (Nat.le_refl _) _).trans (hb1.mono (by simp))
  have HB1 : Hid (Below w.heap.size w w1) := B1
  clear hb1 hsh B1
  go_wp2_with fail
  refine (sh_refuse _ _ _).mono ?_
  rintro e w2 ⟨v, rfl, hf2, hb2⟩
  have HF : Hid (FaultC w.heap.size w2 v (sh 0 1) ∧ Below w.heap.size w w2) := ⟨hf2.mono (by have := HB1.out.size; simp; omega), (HB1.out.alloc HB1.out.size _).trans (hb2.mono (by have := HB1.out.size; simp; omega))⟩
  obtain ⟨pb, _, rfl, _⟩ := hf2
  clear hb2
  go_wp2
  go_ret2
  exact ⟨_, _, rfl, .inl ⟨rfl, rfl⟩, HF.out.1, HF.out.2, fun _ h => h.elim⟩
set_option maxRecDepth 100000 in
set_option maxHeartbeats 6400000 in
theorem sh_write_any (m : Msg) (hm : m.Ok) (hk : 1 ≤ m.kind ∧ m.kind ≤ 5) (hns : m.name.size ≤ 4611686018427387904) {w : World} {D : Value} (hD : Sl w D m.digest) (her : Er w) : Calls Tryz.prog 9 #[msgV' m D] w (WriteTold m w) := by
  obtain ⟨aD, cD, rfl, _, _⟩ := hD.form
  have HS : Hid (∀ W : World, Calls Tryz.prog 27 #[.int .i64 m.kind] W fun e w' => ∃ V, e = .returned (.tuple #[.agg #[.int .u8 (letterOf m.kind), V], .bool true]) ∧ Fl w' W.heap.size V (fieldsOf m.kind) ∧ Below W.heap.size W w') := sh_shape m.kind hk
  have HFT : Hid (∀ (W : World) (B : Nat) (V : Value), Fl W B V (fieldsOf m.kind) → Calls Tryz.prog 28 #[.agg #[.int .u8 (letterOf m.kind), V], msgV' m (.slice aD m.digest.length cD)] W fun e w' => e = .returned (.bool (decide (fits m))) ∧ Below W.heap.size W w') := fun W B V h => by rw [← good_fits m hk]; exact sh_fits ⟨_, rfl⟩ h (fields_few _) m aD cD
  have HH : Hid (∀ (W : World) (B : Nat) (V : Value), Fl W B V (fieldsOf m.kind) → Calls Tryz.prog 30 #[.agg #[.int .u8 (letterOf m.kind), V], .int .i64 3] W fun e w' => e = .returned (.bool (decide (m.kind = 1 ∨ m.kind = 3))) ∧ Below W.heap.size W w') := fun W B V h => by rw [← has_name m.kind hk]; exact sh_has ⟨_, rfl⟩ h (fields_few _) 3
  have HA : Hid (fits m → ((m.kind = 1 ∨ m.kind = 3) → nodeOk m.name = true) → writeOf m = letterOf m.kind :: (fieldsOf m.kind).flatMap (fun f => fieldBytes f m) ∧ writeErr m = []) := fun hf hn => by
    rw [writeOf_ok hf hn, wrote_all m hk]
    unfold writeErr
    rw [if_neg (by simpa using hf), if_neg (fun h => by rw [hn h.1] at h; exact absurd h.2 (by decide))]
    exact ⟨rfl, rfl⟩
  have HDL : Hid (m.digest ≠ [] → ∀ k, blk (.slice aD m.digest.length cD) k → k < w.heap.size) := hD.lt
  have HD : Hid (Sl w (.slice aD m.digest.length cD) m.digest) := hD
  have HE : Hid (Er w) := her
  have HMO : Hid m.Ok := hm
  have HFR : Hid (∀ f ∈ fieldsOf m.kind, 0 ≤ f ∧ f ≤ 5) := fields_rng m.kind
  have HFF : Hid ((fieldsOf m.kind).length ≤ 6) := fields_few m.kind
  clear hD her hm hk
  unfold WriteTold
  generalize fieldsOf m.kind = fs at HS HFT HH HA HFR HFF
  generalize letterOf m.kind = let_ at HS HFT HH HA
  have hmv : msgV' m (.slice aD m.digest.length cD) = .agg #[.int .i64 m.kind, .int .u64 m.flags, .int .u32 m.creation, .int .u32 m.challenge, .string m.name, .string m.status, .slice aD m.digest.length cD] := rfl
  rw [hmv] at HFT ⊢
  clear hmv
  go_enter Tryz.func9, Tryz.ntmps9
  go_wp2_with fail
  refine (HS.out _).mono ?_
  rintro e w1 ⟨V, rfl, hV, hb1⟩
  have M1 : MsgAt w1 w.heap.size m (.slice aD m.digest.length cD) := (MsgAt.ofNew w m _ _).below hb1
  have B1 : Below w.heap.size w w1 := ((Below.refl _ _).alloc (Nat.le_refl _) _).trans (hb1.mono (by simp))
  have hz := M1.lt
  obtain ⟨g, hg1, hg2, rfl, hgc⟩ := hV
  simp at hg1
  have hV : Fl w1 (w.heap.size + 1) (.slice (some ⟨g, 0, none⟩) fs.length fs.length) fs := ⟨g, hg1, hg2, rfl, hgc⟩
  have H1 : Hid (MsgAt w1 w.heap.size m (.slice aD m.digest.length cD) ∧ Below w.heap.size w w1 ∧ Fl w1 (w.heap.size + 1) (.slice (some ⟨g, 0, none⟩) fs.length fs.length) fs) := ⟨M1, B1, hV⟩
  obtain ⟨m0, m1, m2, m3, m4, m5, m6⟩ := M1
  have hft := HFT.out (w1.alloc (.cells #[.int .u8 let_, .slice (some ⟨g, 0, none⟩) fs.length fs.length] 85)) _ _ (hV.below ((Below.refl _ _).alloc (Nat.le_refl _) _))
  clear hb1 B1 hV hgc
  by_cases hfit : fits m
  case neg =>
    have HW : Hid (writeOf m = [] ∧ writeErr m = sh 0 1) := by unfold writeOf writeErr; rw [if_pos hfit, if_pos hfit]; exact ⟨rfl, rfl⟩
    rw [decide_eq_false hfit] at hft
    clear hfit
    go_wp2_with fail
    refine hft.mono ?_
    rintro e w2 ⟨rfl, hb2⟩
    have B2 : Below w.heap.size w w2 := (H1.out.2.1.alloc (by omega) _).trans (hb2.mono (by simp; omega))
    have HB2 : Hid (Below w.heap.size w w2) := B2
    clear hb2 hft B2 m0 m1 m2 m3 m4 m5 m6
    go_wp2_with fail
    refine (sh_refuse _ _ _).mono ?_
    rintro e w3 ⟨v, rfl, hf3, hb3⟩
    have HF : Hid (FaultC w.heap.size w3 v (sh 0 1) ∧ Below w.heap.size w w3) := ⟨hf3.mono HB2.out.size, HB2.out.trans (hb3.mono HB2.out.size)⟩
    obtain ⟨pb, _, rfl, _⟩ := hf3
    clear hb3
    go_wp2
    go_ret2
    exact ⟨_, _, rfl, by rw [HW.out.1]; exact .inl ⟨rfl, rfl⟩, by rw [HW.out.2]; exact HF.out.1, HF.out.2, fun _ h => h.elim⟩
  case pos =>
    have HFI : Hid (fits m) := hfit
    rw [decide_eq_true hfit] at hft
    clear hfit
    go_wp2_with fail
    refine hft.mono ?_
    rintro e w2 ⟨rfl, hb2⟩
    have A2 := (Below.refl w1.heap.size w1).alloc (Nat.le_refl _) (.cells #[.int .u8 let_, .slice (some ⟨g, 0, none⟩) fs.length fs.length] 85)
    have H2 : Hid (MsgAt w2 w.heap.size m (.slice aD m.digest.length cD) ∧ Below w.heap.size w w2 ∧ Fl w2 (w.heap.size + 1) (.slice (some ⟨g, 0, none⟩) fs.length fs.length) fs ∧ ShapeAt w2 w1.heap.size (.int .u8 let_) (.slice (some ⟨g, 0, none⟩) fs.length fs.length) ∧ w1.heap.size < w2.heap.size) := ⟨(H1.out.1.below A2).below hb2, (H1.out.2.1.trans (A2.mono (by omega))).trans (hb2.mono (by simp; omega)), (H1.out.2.2.below A2).below hb2, (ShapeAt.ofNew w1 _ _ _).below hb2, by have := hb2.size; simp at this; omega⟩
    have hh := HH.out w2 _ _ H2.out.2.2.1
    obtain ⟨s0, s1⟩ := H2.out.2.2.2.1
    clear hb2 hft A2 m0 m1 m2 m3 m4 m5 m6
    by_cases hnm : m.kind = 1 ∨ m.kind = 3
    case pos =>
      rw [decide_eq_true hnm] at hh
      have HNM : Hid (m.kind = 1 ∨ m.kind = 3) := hnm
      clear hnm
      go_wp2_with fail
      refine hh.mono ?_
      rintro e w3 ⟨rfl, hb3⟩
      have H3 : Hid (MsgAt w3 w.heap.size m (.slice aD m.digest.length cD) ∧ Below w.heap.size w w3 ∧ Fl w3 (w.heap.size + 1) (.slice (some ⟨g, 0, none⟩) fs.length fs.length) fs ∧ ShapeAt w3 w1.heap.size (.int .u8 let_) (.slice (some ⟨g, 0, none⟩) fs.length fs.length)) := ⟨H2.out.1.below hb3, H2.out.2.1.trans (hb3.mono H2.out.2.1.size), H2.out.2.2.1.below hb3, H2.out.2.2.2.1.below hb3⟩
      have hnme := sh_name 0 m.name hns w3 (HE.out.below H3.out.2.1)
      have m4 := H3.out.1.c4
      clear hb3 hh s0 s1
      cases hok : nodeOk m.name with
      | false =>
        have hw1 : writeOf m = [] := by unfold writeOf; rw [if_neg (by simpa using HFI.out), if_pos ⟨HNM.out, hok⟩]
        have hw2 : writeErr m = shName 0 := by unfold writeErr; rw [if_neg (by simpa using HFI.out), if_pos ⟨HNM.out, hok⟩]
        have HW : Hid (writeOf m = [] ∧ writeErr m = shName 0) := ⟨hw1, hw2⟩
        clear hw1 hw2
        rw [hok] at hnme
        clear hok
        go_wp2_with fail
        refine hnme.mono ?_
        rintro e w4 ⟨v, rfl, hf4, hb4⟩
        have hf4 : FaultC w3.heap.size w4 v (shName 0) := hf4
        have HF : Hid (FaultC w.heap.size w4 v (shName 0) ∧ Below w.heap.size w w4) := ⟨hf4.mono H3.out.2.1.size, H3.out.2.1.trans (hb4.mono H3.out.2.1.size)⟩
        obtain ⟨pb, qb, _, _, rfl, _⟩ := hf4
        clear hb4 m4 hnme
        go_wp2
        go_ret2
        exact ⟨_, _, rfl, by rw [HW.out.1]; exact .inl ⟨rfl, rfl⟩, by rw [HW.out.2]; exact HF.out.1, HF.out.2, fun _ h => h.elim⟩
      | true =>
        have HW := Hid.mk7 (HA.out HFI.out (fun _ => hok))
        have HSM := Hid.mk7 (fits_small HFI.out (fun _ => hok))
        rw [hok] at hnme
        clear hok
        go_wp2_with fail
        refine hnme.mono ?_
        rintro e wL ⟨v, rfl, hf4, hb4⟩
        have hf4 : v = .nilIface := hf4
        subst hf4
        have HL : Hid (MsgAt wL w.heap.size m (.slice aD m.digest.length cD) ∧ Below w.heap.size w wL ∧ Fl wL (w.heap.size + 1) (.slice (some ⟨g, 0, none⟩) fs.length fs.length) fs ∧ ShapeAt wL w1.heap.size (.int .u8 let_) (.slice (some ⟨g, 0, none⟩) fs.length fs.length)) := ⟨H3.out.1.below hb4, H3.out.2.1.trans (hb4.mono H3.out.2.1.size), H3.out.2.2.1.below hb4, H3.out.2.2.2.below hb4⟩
        clear hb4 m4 hnme H3 HNM
        obtain ⟨s0, s1⟩ := HL.out.2.2.2
        obtain ⟨g', hg3, hg4, hge, hgc⟩ := HL.out.2.2.1
        obtain rfl : g = g' := by injection hge with h1 h2 h3; injection h1 with h1; injection h1
        have HC0 : Hid (∀ j (h : j < fs.length), wL.cell? ⟨g, j, none⟩ = some (.int .i64 fs[j])) := hgc
        have hzL := HL.out.1.lt
        have hff := HFF.out
        have hzS := HL.out.2.2.2.lt
        clear hge hgc
        go_wp2_with fail
        go_loopw [7, 39] (fun bb ii wr => ∃ (j : Nat) (zs : List Int), j ≤ fs.length ∧ ii = .int .i64 j ∧ zs = let_ :: (fs.take j).flatMap (fun f => fieldBytes f m) ∧ zs.length ≤ 1 + 140 * j ∧ Own wr bb zs ∧ MsgAt wr w.heap.size m (.slice aD m.digest.length cD) ∧ (∀ j (h : j < fs.length), wr.cell? ⟨g, j, none⟩ = some (.int .i64 fs[j])) ∧ Sl wr (.slice aD m.digest.length cD) m.digest ∧ Below w.heap.size w wr ∧ (∀ k, blk bb k → wL.heap.size ≤ k) ∧ wL.heap.size ≤ wr.heap.size) (fun _ ii _ => fs.length - (intOf ii).toNat)
        case atStart =>
          have A := (Below.refl wL.heap.size wL).alloc (Nat.le_refl _) (.cells #[.int .u8 let_] 5)
          exact ⟨0, [let_], Nat.zero_le _, rfl, rfl, by simp, Sl.one wL _ let_, HL.out.1.below A, fun j hj => (A.cell (p := ⟨g, j, none⟩) hg4).trans (HC0.out j hj), HD.out.turned (Turned.ofBelow (S := fun _ => False) (HL.out.2.1.trans (A.mono HL.out.2.1.size))) (fun _ _ h => h), HL.out.2.1.trans (A.mono HL.out.2.1.size), fun k hk => Nat.le_of_eq hk, A.size⟩
        case round =>
          obtain ⟨j, zs, hj, rfl, hzs, hzl, ho, hM, hC, hDr, hB, hbb, hLr⟩ := hrel
          obtain ⟨ao, co, Lo, rfl⟩ : ∃ a c L, u7 = .slice a L c := ⟨_, _, _, ho.sl.form.choose_spec.choose_spec.1⟩
          by_cases hlt : j < fs.length
          · have hlti : (j : Int) < (fs.length : Int) := by omega
            have hx := hC j hlt
            have hfr := HFR.out fs[j] (List.getElem_mem hlt)
            have HT : Hid (fs.take (j + 1) = fs.take j ++ [fs[j]]) := List.take_succ_eq_append_getElem hlt
            have hwr := sh_write fs[j] hfr m HMO.out (by have := HSM.out.1; omega) (by have := HSM.out.2.1; omega) (by have := HSM.out.2.2; omega) (by have := HFF.out; omega) ho hDr
            have HFL : Hid ((fieldBytes fs[j] m).length ≤ 140) := field_few HSM.out.1 HSM.out.2.1 HSM.out.2.2 _
            have hmv : msgV' m (.slice aD m.digest.length cD) = .agg #[.int .i64 m.kind, .int .u64 m.flags, .int .u32 m.creation, .int .u32 m.challenge, .string m.name, .string m.status, .slice aD m.digest.length cD] := rfl
            rw [hmv] at hwr
            clear hmv
            generalize fs[j] = f at hx hfr HT hwr HFL
            have HR : Hid (zs = let_ :: (fs.take j).flatMap (fun f => fieldBytes f m) ∧ MsgAt wr w.heap.size m (.slice aD m.digest.length cD) ∧ (∀ j (h : j < fs.length), wr.cell? ⟨g, j, none⟩ = some (.int .i64 fs[j])) ∧ Sl wr (.slice aD m.digest.length cD) m.digest ∧ Below w.heap.size w wr ∧ (∀ k, blk (.slice ao Lo co) k → wL.heap.size ≤ k)) := ⟨hzs, hM, hC, hDr, hB, hbb⟩
            obtain ⟨m0, m1, m2, m3, m4, m5, m6⟩ := hM
            clear hzs hC hDr hB hbb ho hfr
            go_wp2_with fail
            refine hwr.mono ?_
            rintro e w5 ⟨V5, rfl, ho5, ht5, hb5⟩
            obtain ⟨q1, q2, q3, q4, q5, q6⟩ := HR.out
            have HN : Hid (∃ zs' : List Int, zs' = let_ :: (fs.take (j + 1)).flatMap (fun f => fieldBytes f m) ∧ zs'.length ≤ 1 + 140 * (j + 1) ∧ Own w5 V5 zs' ∧ MsgAt w5 w.heap.size m (.slice aD m.digest.length cD) ∧ (∀ j (h : j < fs.length), w5.cell? ⟨g, j, none⟩ = some (.int .i64 fs[j])) ∧ Sl w5 (.slice aD m.digest.length cD) m.digest ∧ Below w.heap.size w w5 ∧ (∀ k, blk V5 k → wL.heap.size ≤ k) ∧ wL.heap.size ≤ w5.heap.size) := by
              have hwl := HL.out.2.1.size
              have hwr5 := q5.size
              refine ⟨zs ++ fieldBytes f m, ?_, ?_, ho5, q2.turned ht5 (fun h => by have := q6 _ h; omega), fun j hj => ht5.cell (q3 j hj) (fun h => by have := q6 _ h; simp at this; omega), q4.turnedN ht5 (fun hne k hk hk2 => by have := HDL.out hne k hk; have := q6 k hk2; omega), q5.trans (ht5.below q5.size (fun k hk => by have := q6 k hk; omega)), fun k hk => (hb5 k hk).elim (q6 k) (fun h => Nat.le_trans hLr h), Nat.le_trans hLr ht5.size⟩
              · rw [q1, HT.out]; simp
              · rw [List.length_append]; have := HFL.out; omega
            clear q1 q2 q3 q4 q5 q6 ho5 ht5 hb5 HR HT HFL hwr m0 m1 m2 m3 m4 m5 m6
            go_wp2
            go_roundw
            case rel =>
              obtain ⟨zs', h1, h2, h3, h4⟩ := HN.out
              exact ⟨j + 1, zs', by omega, by go_num, h1, h2, h3, h4⟩
            case measure => simp [intOf]; omega
          · have hge : ¬ (j : Int) < (fs.length : Int) := by omega
            rw [List.take_of_length_le (by omega)] at hzs
            have HR : Hid (zs = let_ :: fs.flatMap (fun f => fieldBytes f m) ∧ Own wr (.slice ao Lo co) zs ∧ Below w.heap.size w wr ∧ (∀ k, blk (.slice ao Lo co) k → wL.heap.size ≤ k)) := ⟨hzs, ho, hB, hbb⟩
            clear hzs ho hM hC hDr hB hbb hzl
            go_wp2
            go_ret2
            obtain ⟨q1, q2, q3, q4⟩ := HR.out
            exact ⟨_, _, rfl, by rw [HW.out.1, ← q1]; exact q2, by rw [HW.out.2]; rfl, q3, fun k hk => Nat.le_trans HL.out.2.1.size (q4 k hk)⟩
    case neg =>
      rw [decide_eq_false hnm] at hh
      have HW := Hid.mk7 (HA.out HFI.out (fun h => absurd h hnm))
      have HSM := Hid.mk7 (fits_small HFI.out (fun h => absurd h hnm))
      clear hnm
      go_wp2_with fail
      refine hh.mono ?_
      rintro e wL ⟨rfl, hb3⟩
      have HL : Hid (MsgAt wL w.heap.size m (.slice aD m.digest.length cD) ∧ Below w.heap.size w wL ∧ Fl wL (w.heap.size + 1) (.slice (some ⟨g, 0, none⟩) fs.length fs.length) fs ∧ ShapeAt wL w1.heap.size (.int .u8 let_) (.slice (some ⟨g, 0, none⟩) fs.length fs.length)) := ⟨H2.out.1.below hb3, H2.out.2.1.trans (hb3.mono H2.out.2.1.size), H2.out.2.2.1.below hb3, H2.out.2.2.2.1.below hb3⟩
      clear hb3 hh s0 s1
      obtain ⟨s0, s1⟩ := HL.out.2.2.2
      obtain ⟨g', hg3, hg4, hge, hgc⟩ := HL.out.2.2.1
      obtain rfl : g = g' := by injection hge with h1 h2 h3; injection h1 with h1; injection h1
      have HC0 : Hid (∀ j (h : j < fs.length), wL.cell? ⟨g, j, none⟩ = some (.int .i64 fs[j])) := hgc
      have hzL := HL.out.1.lt
      have hff := HFF.out
      have hzS := HL.out.2.2.2.lt
      clear hge hgc
      go_wp2_with fail
      go_loopw [7, 39] (fun bb ii wr => ∃ (j : Nat) (zs : List Int), j ≤ fs.length ∧ ii = .int .i64 j ∧ zs = let_ :: (fs.take j).flatMap (fun f => fieldBytes f m) ∧ zs.length ≤ 1 + 140 * j ∧ Own wr bb zs ∧ MsgAt wr w.heap.size m (.slice aD m.digest.length cD) ∧ (∀ j (h : j < fs.length), wr.cell? ⟨g, j, none⟩ = some (.int .i64 fs[j])) ∧ Sl wr (.slice aD m.digest.length cD) m.digest ∧ Below w.heap.size w wr ∧ (∀ k, blk bb k → wL.heap.size ≤ k) ∧ wL.heap.size ≤ wr.heap.size) (fun _ ii _ => fs.length - (intOf ii).toNat)
      case atStart =>
        have A := (Below.refl wL.heap.size wL).alloc (Nat.le_refl _) (.cells #[.int .u8 let_] 5)
        exact ⟨0, [let_], Nat.zero_le _, rfl, rfl, by simp, Sl.one wL _ let_, HL.out.1.below A, fun j hj => (A.cell (p := ⟨g, j, none⟩) hg4).trans (HC0.out j hj), HD.out.turned (Turned.ofBelow (S := fun _ => False) (HL.out.2.1.trans (A.mono HL.out.2.1.size))) (fun _ _ h => h), HL.out.2.1.trans (A.mono HL.out.2.1.size), fun k hk => Nat.le_of_eq hk, A.size⟩
      case round =>
        obtain ⟨j, zs, hj, rfl, hzs, hzl, ho, hM, hC, hDr, hB, hbb, hLr⟩ := hrel
        obtain ⟨ao, co, Lo, rfl⟩ : ∃ a c L, u7 = .slice a L c := ⟨_, _, _, ho.sl.form.choose_spec.choose_spec.1⟩
        by_cases hlt : j < fs.length
        · have hlti : (j : Int) < (fs.length : Int) := by omega
          have hx := hC j hlt
          have hfr := HFR.out fs[j] (List.getElem_mem hlt)
          have HT : Hid (fs.take (j + 1) = fs.take j ++ [fs[j]]) := List.take_succ_eq_append_getElem hlt
          have hwr := sh_write fs[j] hfr m HMO.out (by have := HSM.out.1; omega) (by have := HSM.out.2.1; omega) (by have := HSM.out.2.2; omega) (by have := HFF.out; omega) ho hDr
          have HFL : Hid ((fieldBytes fs[j] m).length ≤ 140) := field_few HSM.out.1 HSM.out.2.1 HSM.out.2.2 _
          have hmv : msgV' m (.slice aD m.digest.length cD) = .agg #[.int .i64 m.kind, .int .u64 m.flags, .int .u32 m.creation, .int .u32 m.challenge, .string m.name, .string m.status, .slice aD m.digest.length cD] := rfl
          rw [hmv] at hwr
          clear hmv
          generalize fs[j] = f at hx hfr HT hwr HFL
          have HR : Hid (zs = let_ :: (fs.take j).flatMap (fun f => fieldBytes f m) ∧ MsgAt wr w.heap.size m (.slice aD m.digest.length cD) ∧ (∀ j (h : j < fs.length), wr.cell? ⟨g, j, none⟩ = some (.int .i64 fs[j])) ∧ Sl wr (.slice aD m.digest.length cD) m.digest ∧ Below w.heap.size w wr ∧ (∀ k, blk (.slice ao Lo co) k → wL.heap.size ≤ k)) := ⟨hzs, hM, hC, hDr, hB, hbb⟩
          obtain ⟨m0, m1, m2, m3, m4, m5, m6⟩ := hM
          clear hzs hC hDr hB hbb ho hfr
          go_wp2_with fail
          refine hwr.mono ?_
          rintro e w5 ⟨V5, rfl, ho5, ht5, hb5⟩
          obtain ⟨q1, q2, q3, q4, q5, q6⟩ := HR.out
          have HN : Hid (∃ zs' : List Int, zs' = let_ :: (fs.take (j + 1)).flatMap (fun f => fieldBytes f m) ∧ zs'.length ≤ 1 + 140 * (j + 1) ∧ Own w5 V5 zs' ∧ MsgAt w5 w.heap.size m (.slice aD m.digest.length cD) ∧ (∀ j (h : j < fs.length), w5.cell? ⟨g, j, none⟩ = some (.int .i64 fs[j])) ∧ Sl w5 (.slice aD m.digest.length cD) m.digest ∧ Below w.heap.size w w5 ∧ (∀ k, blk V5 k → wL.heap.size ≤ k) ∧ wL.heap.size ≤ w5.heap.size) := by
            have hwl := HL.out.2.1.size
            have hwr5 := q5.size
            refine ⟨zs ++ fieldBytes f m, ?_, ?_, ho5, q2.turned ht5 (fun h => by have := q6 _ h; omega), fun j hj => ht5.cell (q3 j hj) (fun h => by have := q6 _ h; simp at this; omega), q4.turnedN ht5 (fun hne k hk hk2 => by have := HDL.out hne k hk; have := q6 k hk2; omega), q5.trans (ht5.below q5.size (fun k hk => by have := q6 k hk; omega)), fun k hk => (hb5 k hk).elim (q6 k) (fun h => Nat.le_trans hLr h), Nat.le_trans hLr ht5.size⟩
            · rw [q1, HT.out]; simp
            · rw [List.length_append]; have := HFL.out; omega
          clear q1 q2 q3 q4 q5 q6 ho5 ht5 hb5 HR HT HFL hwr m0 m1 m2 m3 m4 m5 m6
          go_wp2
          go_roundw
          case rel =>
            obtain ⟨zs', h1, h2, h3, h4⟩ := HN.out
            exact ⟨j + 1, zs', by omega, by go_num, h1, h2, h3, h4⟩
          case measure => simp [intOf]; omega
        · have hge : ¬ (j : Int) < (fs.length : Int) := by omega
          rw [List.take_of_length_le (by omega)] at hzs
          have HR : Hid (zs = let_ :: fs.flatMap (fun f => fieldBytes f m) ∧ Own wr (.slice ao Lo co) zs ∧ Below w.heap.size w wr ∧ (∀ k, blk (.slice ao Lo co) k → wL.heap.size ≤ k)) := ⟨hzs, ho, hB, hbb⟩
          clear hzs ho hM hC hDr hB hbb hzl
          go_wp2
          go_ret2
          obtain ⟨q1, q2, q3, q4⟩ := HR.out
          exact ⟨_, _, rfl, by rw [HW.out.1, ← q1]; exact q2, by rw [HW.out.2]; rfl, q3, fun k hk => Nat.le_trans HL.out.2.1.size (q4 k hk)⟩
end Go.Proofs.YtmnibmgbicnamaaGreatDoor
