/-
  The document's Read, where nothing is wrong.
-/
import Derived.Test.YtjkmklbkemoldaaDoorRefOk
namespace Go.Proofs.YtjkmklbkemoldaaDoor
open Go.RowKit

theorem alloc0 (w : World) (t : TypeId) : Turned (fun _ => False) w (w.alloc (.cells #[] t)) := Turned.alloc _ _ _

set_option maxRecDepth 100000 in
set_option maxHeartbeats 3200000 in
theorem ref_read0a (g : Nat) (st : St) (U0 U1 C0 C1 : Value) (k : Nat) (hlt : (k : Int) < st.a.come.length) (w : World) (h : RefMem w g st U0 U1 C0 C1) (hs : st.shut = false) (hs3 : st.a.come.length ≤ 16777216) :
    Calls Tryd.prog 26 #[.pointer (some ⟨g, 0, none⟩), .int .i64 0, .int .i64 (k : Int)] w fun e w' => ∃ V C', e = .returned (.tuple #[V, .slice none 0 0]) ∧ Sl w' V (st.a.come.take k) ∧ RefMem w' g { st with a := { st.a with come := st.a.come.drop k, read := wrap64 (st.a.read + k) } } U0 U1 C' C1 ∧ Turned (fun k => k = g) w w' ∧ (∀ j, blk V j → w.heap.size ≤ j) ∧ (∀ j, blk C' j → w.heap.size ≤ j) ∧ ∀ j, blk V j → ¬ blk C' j := by
  obtain ⟨aC, capC, hfC, hcC, hmC⟩ := h.c0.sl.form
  subst hfC
  have hkl : k ≤ st.a.come.length := by omega
  have hm0 : ¬ (k : Int) < 0 := by omega
  obtain ⟨kH, _⟩ := h.cells 12 (by omega)
  simp only [refCell] at kH
  rw [hs] at kH
  obtain ⟨kC, fC⟩ := h.cells 2 (by omega)
  simp only [refCell] at kC
  obtain ⟨kR, fR⟩ := h.cells 8 (by omega)
  simp only [refCell] at kR
  have hgl : g < w.heap.size := World.block_lt_of_cell? w _ kC
  have hk1 : ((k : Nat) : Int) ≤ capC := by omega
  have hk2 : ((k : Nat) : Int) ≤ st.a.come.length := by omega
  have hk0 : (0 : Int) ≤ ((k : Nat) : Int) := by omega
  have hC1 : Sl (w.alloc (.cells #[] 5)) (.slice aC k capC) (st.a.come.take k) := (h.c0.sl.take hkl).turned (alloc0 w _) (fun _ _ h => h)
  have ho0 : Own (w.alloc (.cells #[] 5)) (.slice (some ⟨w.heap.size, 0, none⟩) 0 0) [] := Own.empty w _ _ rfl
  have HH : Hid (RefMem w g st U0 U1 (.slice aC st.a.come.length capC) C1) := h
  clear h
  go_enter Tryd.func26, Tryd.ntmps26
  go_wp2_with (first | (go_at_call 45; refine (end_yes0 _).mono ?_; rintro e w' ⟨rfl, rfl⟩) | (at_builtin; refine wpList_append_bytes (by rfl) (.tmp 46) (.tmp 54) (by rfl) Tryd.bytes (by rfl) (by rfl) ho0 hC1 (by simp; omega) ?_; intro v1 w1 ho1 ht1 hb1; have T1 : Turned (fun _ => False) w w1 := (alloc0 w _).trans ht1 (fun _ hk => .inr (Nat.le_of_eq hk)); have jC : w1.cell? ⟨g, 2, none⟩ = some (.slice aC st.a.come.length capC) := T1.cell kC (fun h => h)))
  have hgc : g < w1.heap.size := World.block_lt_of_cell? w1 _ jC
  have jF : w1.frozen? ⟨g, 2, none⟩ = false := (T1.frozen (p := ⟨g, 2, none⟩) hgl (fun h => h)).trans fC
  have jR : w1.cell? ⟨g, 8, none⟩ = some (.int .i64 st.a.read) := T1.cell kR (fun h => h)
  have jG : w1.frozen? ⟨g, 8, none⟩ = false := (T1.frozen (p := ⟨g, 8, none⟩) hgl (fun h => h)).trans fR
  have hD1 : Sl ((w1.alloc (.cells #[] 5)).drew) (.slice (if capC = k then aC else aC.map (·.add k)) (st.a.come.length - k) (capC - k)) (st.a.come.drop k) := ((HH.out.c0.sl.drop hkl).turned T1 (fun _ _ h => h)).turned (fresh0 w1 _) (fun _ _ h => h)
  have ho2 : Own ((w1.alloc (.cells #[] 5)).drew) (.slice (some ⟨w1.heap.size, 0, none⟩) 0 0) [] := (Own.empty w1 _ _ rfl).turned (Turned.drew (fun _ => False) _) (fun _ _ h => h)
  have HO : Hid (Own w1 v1 (st.a.come.take k)) := by unfold Hid; simpa using ho1
  have HV : Hid (∀ j, blk v1 j → w.heap.size ≤ j) := fun j hj => (hb1 j hj).elim (fun h => Nat.le_of_eq h) (fun h => by simp at h; omega)
  clear ho1 ht1 hb1 kC fC kR fR kH ho0 hC1
  go_region_law (refine step_append_bytes (by rfl) (.tmp 58) (.tmp 66) (by rfl) Tryd.bytes (by rfl) (by rfl) ho2 hD1 (by simp; omega) ?_; intro v2 w2 ho3 ht2 hb2; have T2 := fresh1 ht2; have hB2 := freshB1 hb2; obtain ⟨a2, cap2, rfl, hc2, hm2⟩ := ho3.sl.form; have f2 : w2.frozen? ⟨g, 2, none⟩ = false := (T2.frozen (p := ⟨g, 2, none⟩) hgc (fun h => h)).trans jF; have c2 : w2.cell? ⟨g, 2, none⟩ = some (.slice aC st.a.come.length capC) := T2.cell jC (fun h => h); have f3 : w2.frozen? ⟨g, 8, none⟩ = false := (T2.frozen (p := ⟨g, 8, none⟩) hgc (fun h => h)).trans jG; have c3 : w2.cell? ⟨g, 8, none⟩ = some (.int .i64 st.a.read) := T2.cell jR (fun h => h))
  all_goals
    clear hD1 ho2 ht2 hb2 jC jF jR jG
    generalize (if capC = k then aC else Option.map (fun z => z.add k) aC) = aD
    simp only [List.nil_append, List.length_drop] at ho3 hB2
    have R1 := ((((HH.out.turned T1 (fun _ _ h => h)).turned T2 (fun _ _ h => h)).setCome0 (partOf hgc ho3 hB2)).setRead0 (wrap64 (st.a.read + (k : Nat)))).drew
    have TS := ((Turned.setCell w2 ⟨g, 2, none⟩ (.slice a2 (st.a.come.length - k) cap2)).trans (Turned.setCell _ ⟨g, 8, none⟩ (.int .i64 (wrap64 (st.a.read + (k : Nat))))) (fun _ h => .inl h)).trans (Turned.drew (fun _ => False) _) (fun _ h => h.elim)
    have HT : Hid (Turned (fun k => k = g) w _) := ((T1.mono (T := fun k => k = g) (fun _ h => h.elim)).trans (T2.mono (T := fun k => k = g) (fun _ h => h.elim)) (fun _ h => .inl h)).trans TS (fun _ h => .inl h)
    have HSl : Hid (Sl _ v1 (st.a.come.take k)) := (HO.out.sl.turned T2 (fun _ _ h => h)).turned TS (fun j hj he => by have := HV.out j hj; have he : j = g := he; omega)
    have HR : Hid (RefMem _ g _ U0 U1 _ C1) := R1
    have HC : Hid (∀ j, blk (.slice a2 (st.a.come.length - k) cap2) j → w.heap.size ≤ j) := fun j hj => Nat.le_trans T1.size (hB2 j hj)
    have HN : Hid (∀ j, blk v1 j → ¬ blk (.slice a2 (st.a.come.length - k) cap2) j) := fun j hj hj2 => by have := HO.out.blk_lt j hj; have := hB2 j hj2; omega
    clear R1 TS T1 T2 ho3 hB2
    go_wp2
    go_region
    go_wp2
    go_ret2
    exact ⟨v1, _, rfl, HSl.out, HR.out, HT.out, HV.out, HC.out, HN.out⟩

set_option maxRecDepth 100000 in
set_option maxHeartbeats 3200000 in
theorem ref_read0b (g : Nat) (st : St) (U0 U1 C0 C1 : Value) (k : Nat) (m : Int) (hm0 : ¬ m < 0) (hge : ¬ m < (st.a.come.length : Int)) (hk : k = st.a.come.length) (w : World) (h : RefMem w g st U0 U1 C0 C1) (hs : st.shut = false) (hs3 : st.a.come.length ≤ 16777216) :
    Calls Tryd.prog 26 #[.pointer (some ⟨g, 0, none⟩), .int .i64 0, .int .i64 m] w fun e w' => ∃ V C', e = .returned (.tuple #[V, .slice none 0 0]) ∧ Sl w' V (st.a.come.take k) ∧ RefMem w' g { st with a := { st.a with come := st.a.come.drop k, read := wrap64 (st.a.read + k) } } U0 U1 C' C1 ∧ Turned (fun k => k = g) w w' ∧ (∀ j, blk V j → w.heap.size ≤ j) ∧ (∀ j, blk C' j → w.heap.size ≤ j) ∧ ∀ j, blk V j → ¬ blk C' j := by
  obtain ⟨aC, capC, hfC, hcC, hmC⟩ := h.c0.sl.form
  subst hfC
  subst hk
  have hkl : st.a.come.length ≤ st.a.come.length := Nat.le_refl _
  have hge2 : (st.a.come.length : Int) ≤ m := by omega
  obtain ⟨kH, _⟩ := h.cells 12 (by omega)
  simp only [refCell] at kH
  rw [hs] at kH
  obtain ⟨kC, fC⟩ := h.cells 2 (by omega)
  simp only [refCell] at kC
  obtain ⟨kR, fR⟩ := h.cells 8 (by omega)
  simp only [refCell] at kR
  have hgl : g < w.heap.size := World.block_lt_of_cell? w _ kC
  have hk1 : ((st.a.come.length : Nat) : Int) ≤ capC := by omega
  have hk2 : ((st.a.come.length : Nat) : Int) ≤ st.a.come.length := by omega
  have hk0 : (0 : Int) ≤ ((st.a.come.length : Nat) : Int) := by omega
  have hC1 : Sl (w.alloc (.cells #[] 5)) (.slice aC st.a.come.length capC) (st.a.come.take st.a.come.length) := (h.c0.sl.take hkl).turned (alloc0 w _) (fun _ _ h => h)
  have ho0 : Own (w.alloc (.cells #[] 5)) (.slice (some ⟨w.heap.size, 0, none⟩) 0 0) [] := Own.empty w _ _ rfl
  have HH : Hid (RefMem w g st U0 U1 (.slice aC st.a.come.length capC) C1) := h
  clear h
  go_enter Tryd.func26, Tryd.ntmps26
  go_wp2_with (first | (go_at_call 45; refine (end_yes0 _).mono ?_; rintro e w' ⟨rfl, rfl⟩) | (at_builtin; refine wpList_append_bytes (by rfl) (.tmp 46) (.tmp 54) (by rfl) Tryd.bytes (by rfl) (by rfl) ho0 hC1 (by simp; omega) ?_; intro v1 w1 ho1 ht1 hb1; have T1 : Turned (fun _ => False) w w1 := (alloc0 w _).trans ht1 (fun _ hk => .inr (Nat.le_of_eq hk)); have jC : w1.cell? ⟨g, 2, none⟩ = some (.slice aC st.a.come.length capC) := T1.cell kC (fun h => h)))
  have hgc : g < w1.heap.size := World.block_lt_of_cell? w1 _ jC
  have jF : w1.frozen? ⟨g, 2, none⟩ = false := (T1.frozen (p := ⟨g, 2, none⟩) hgl (fun h => h)).trans fC
  have jR : w1.cell? ⟨g, 8, none⟩ = some (.int .i64 st.a.read) := T1.cell kR (fun h => h)
  have jG : w1.frozen? ⟨g, 8, none⟩ = false := (T1.frozen (p := ⟨g, 8, none⟩) hgl (fun h => h)).trans fR
  have hD1 : Sl ((w1.alloc (.cells #[] 5)).drew) (.slice (if capC = st.a.come.length then aC else aC.map (·.add st.a.come.length)) 0 (capC - st.a.come.length)) [] := by simpa using ((HH.out.c0.sl.drop hkl).turned T1 (fun _ _ h => h)).turned (fresh0 w1 _) (fun _ _ h => h)
  have ho2 : Own ((w1.alloc (.cells #[] 5)).drew) (.slice (some ⟨w1.heap.size, 0, none⟩) 0 0) [] := (Own.empty w1 _ _ rfl).turned (Turned.drew (fun _ => False) _) (fun _ _ h => h)
  have HO : Hid (Own w1 v1 st.a.come) := by unfold Hid; simpa using ho1
  have HV : Hid (∀ j, blk v1 j → w.heap.size ≤ j) := fun j hj => (hb1 j hj).elim (fun h => Nat.le_of_eq h) (fun h => by simp at h; omega)
  clear ho1 ht1 hb1 kC fC kR fR kH ho0 hC1
  go_region_law (refine step_append_bytes (by rfl) (.tmp 58) (.tmp 66) (by rfl) Tryd.bytes (by rfl) (by rfl) ho2 hD1 (by simp) ?_; intro v2 w2 ho3 ht2 hb2; have T2 := fresh1 ht2; have hB2 := freshB1 hb2; obtain ⟨a2, cap2, rfl, hc2, hm2⟩ := ho3.sl.form; have f2 : w2.frozen? ⟨g, 2, none⟩ = false := (T2.frozen (p := ⟨g, 2, none⟩) hgc (fun h => h)).trans jF; have c2 : w2.cell? ⟨g, 2, none⟩ = some (.slice aC st.a.come.length capC) := T2.cell jC (fun h => h); have f3 : w2.frozen? ⟨g, 8, none⟩ = false := (T2.frozen (p := ⟨g, 8, none⟩) hgc (fun h => h)).trans jG; have c3 : w2.cell? ⟨g, 8, none⟩ = some (.int .i64 st.a.read) := T2.cell jR (fun h => h))
  all_goals
    clear hD1 ho2 ht2 hb2 jC jF jR jG
    generalize (if capC = st.a.come.length then aC else Option.map (fun z => z.add st.a.come.length) aC) = aD
    simp only [List.length_nil, List.append_nil] at ho3 hB2
    have R1 := ((((HH.out.turned T1 (fun _ _ h => h)).turned T2 (fun _ _ h => h)).setCome0 (partOf hgc ho3 hB2)).setRead0 (wrap64 (st.a.read + (st.a.come.length : Nat)))).drew
    have TS := ((Turned.setCell w2 ⟨g, 2, none⟩ (.slice a2 0 cap2)).trans (Turned.setCell _ ⟨g, 8, none⟩ (.int .i64 (wrap64 (st.a.read + (st.a.come.length : Nat))))) (fun _ h => .inl h)).trans (Turned.drew (fun _ => False) _) (fun _ h => h.elim)
    have HT : Hid (Turned (fun k => k = g) w _) := ((T1.mono (T := fun k => k = g) (fun _ h => h.elim)).trans (T2.mono (T := fun k => k = g) (fun _ h => h.elim)) (fun _ h => .inl h)).trans TS (fun _ h => .inl h)
    have HSl : Hid (Sl _ v1 st.a.come) := (HO.out.sl.turned T2 (fun _ _ h => h)).turned TS (fun j hj he => by have := HV.out j hj; have he : j = g := he; omega)
    have HR : Hid (RefMem _ g _ U0 U1 _ C1) := R1
    have HC : Hid (∀ j, blk (.slice a2 0 cap2) j → w.heap.size ≤ j) := fun j hj => Nat.le_trans T1.size (hB2 j hj)
    have HN : Hid (∀ j, blk v1 j → ¬ blk (.slice a2 0 cap2) j) := fun j hj hj2 => by have := HO.out.blk_lt j hj; have := hB2 j hj2; omega
    clear R1 TS T1 T2 ho3 hB2
    go_wp2
    go_region
    go_wp2
    go_ret2
    refine ⟨v1, _, rfl, by rw [List.take_length]; exact HSl.out, by rw [List.drop_length]; exact HR.out, HT.out, HV.out, HC.out, HN.out⟩

set_option maxRecDepth 100000 in
set_option maxHeartbeats 3200000 in
theorem ref_read0sa (g : Nat) (st : St) (U0 U1 C0 C1 : Value) (k : Nat) (hlt : (k : Int) < st.a.come.length) (w : World) (h : RefMem w g st U0 U1 C0 C1) (hs : st.shut = true) (hne : st.a.come ≠ []) (hs3 : st.a.come.length ≤ 16777216) :
    Calls Tryd.prog 26 #[.pointer (some ⟨g, 0, none⟩), .int .i64 0, .int .i64 (k : Int)] w fun e w' => ∃ V C', e = .returned (.tuple #[V, .slice none 0 0]) ∧ Sl w' V (st.a.come.take k) ∧ RefMem w' g { st with a := { st.a with come := st.a.come.drop k, read := wrap64 (st.a.read + k) } } U0 U1 C' C1 ∧ Turned (fun k => k = g) w w' ∧ (∀ j, blk V j → w.heap.size ≤ j) ∧ (∀ j, blk C' j → w.heap.size ≤ j) ∧ ∀ j, blk V j → ¬ blk C' j := by
  have hz : ((st.a.come.length : Int) == 0) = false := by
    have : st.a.come.length ≠ 0 := fun h0 => hne (List.eq_nil_of_length_eq_zero h0)
    simp [this]
  obtain ⟨aC, capC, hfC, hcC, hmC⟩ := h.c0.sl.form
  subst hfC
  have hkl : k ≤ st.a.come.length := by omega
  have hm0 : ¬ (k : Int) < 0 := by omega
  obtain ⟨kH, _⟩ := h.cells 12 (by omega)
  simp only [refCell] at kH
  rw [hs] at kH
  obtain ⟨kC, fC⟩ := h.cells 2 (by omega)
  simp only [refCell] at kC
  obtain ⟨kR, fR⟩ := h.cells 8 (by omega)
  simp only [refCell] at kR
  have hgl : g < w.heap.size := World.block_lt_of_cell? w _ kC
  have hk1 : ((k : Nat) : Int) ≤ capC := by omega
  have hk2 : ((k : Nat) : Int) ≤ st.a.come.length := by omega
  have hk0 : (0 : Int) ≤ ((k : Nat) : Int) := by omega
  have hC1 : Sl (w.alloc (.cells #[] 5)) (.slice aC k capC) (st.a.come.take k) := (h.c0.sl.take hkl).turned (alloc0 w _) (fun _ _ h => h)
  have ho0 : Own (w.alloc (.cells #[] 5)) (.slice (some ⟨w.heap.size, 0, none⟩) 0 0) [] := Own.empty w _ _ rfl
  have HH : Hid (RefMem w g st U0 U1 (.slice aC st.a.come.length capC) C1) := h
  clear h
  go_enter Tryd.func26, Tryd.ntmps26
  go_wp2_with (first | (go_at_call 45; refine (end_yes0 _).mono ?_; rintro e w' ⟨rfl, rfl⟩) | (at_builtin; refine wpList_append_bytes (by rfl) (.tmp 46) (.tmp 54) (by rfl) Tryd.bytes (by rfl) (by rfl) ho0 hC1 (by simp; omega) ?_; intro v1 w1 ho1 ht1 hb1; have T1 : Turned (fun _ => False) w w1 := (alloc0 w _).trans ht1 (fun _ hk => .inr (Nat.le_of_eq hk)); have jC : w1.cell? ⟨g, 2, none⟩ = some (.slice aC st.a.come.length capC) := T1.cell kC (fun h => h)))
  have hgc : g < w1.heap.size := World.block_lt_of_cell? w1 _ jC
  have jF : w1.frozen? ⟨g, 2, none⟩ = false := (T1.frozen (p := ⟨g, 2, none⟩) hgl (fun h => h)).trans fC
  have jR : w1.cell? ⟨g, 8, none⟩ = some (.int .i64 st.a.read) := T1.cell kR (fun h => h)
  have jG : w1.frozen? ⟨g, 8, none⟩ = false := (T1.frozen (p := ⟨g, 8, none⟩) hgl (fun h => h)).trans fR
  have hD1 : Sl ((w1.alloc (.cells #[] 5)).drew) (.slice (if capC = k then aC else aC.map (·.add k)) (st.a.come.length - k) (capC - k)) (st.a.come.drop k) := ((HH.out.c0.sl.drop hkl).turned T1 (fun _ _ h => h)).turned (fresh0 w1 _) (fun _ _ h => h)
  have ho2 : Own ((w1.alloc (.cells #[] 5)).drew) (.slice (some ⟨w1.heap.size, 0, none⟩) 0 0) [] := (Own.empty w1 _ _ rfl).turned (Turned.drew (fun _ => False) _) (fun _ _ h => h)
  have HO : Hid (Own w1 v1 (st.a.come.take k)) := by unfold Hid; simpa using ho1
  have HV : Hid (∀ j, blk v1 j → w.heap.size ≤ j) := fun j hj => (hb1 j hj).elim (fun h => Nat.le_of_eq h) (fun h => by simp at h; omega)
  clear ho1 ht1 hb1 kC fC kR fR kH ho0 hC1
  go_region_law (refine step_append_bytes (by rfl) (.tmp 58) (.tmp 66) (by rfl) Tryd.bytes (by rfl) (by rfl) ho2 hD1 (by simp; omega) ?_; intro v2 w2 ho3 ht2 hb2; have T2 := fresh1 ht2; have hB2 := freshB1 hb2; obtain ⟨a2, cap2, rfl, hc2, hm2⟩ := ho3.sl.form; have f2 : w2.frozen? ⟨g, 2, none⟩ = false := (T2.frozen (p := ⟨g, 2, none⟩) hgc (fun h => h)).trans jF; have c2 : w2.cell? ⟨g, 2, none⟩ = some (.slice aC st.a.come.length capC) := T2.cell jC (fun h => h); have f3 : w2.frozen? ⟨g, 8, none⟩ = false := (T2.frozen (p := ⟨g, 8, none⟩) hgc (fun h => h)).trans jG; have c3 : w2.cell? ⟨g, 8, none⟩ = some (.int .i64 st.a.read) := T2.cell jR (fun h => h))
  all_goals
    clear hD1 ho2 ht2 hb2 jC jF jR jG
    generalize (if capC = k then aC else Option.map (fun z => z.add k) aC) = aD
    simp only [List.nil_append, List.length_drop] at ho3 hB2
    have R1 := ((((HH.out.turned T1 (fun _ _ h => h)).turned T2 (fun _ _ h => h)).setCome0 (partOf hgc ho3 hB2)).setRead0 (wrap64 (st.a.read + (k : Nat)))).drew
    have TS := ((Turned.setCell w2 ⟨g, 2, none⟩ (.slice a2 (st.a.come.length - k) cap2)).trans (Turned.setCell _ ⟨g, 8, none⟩ (.int .i64 (wrap64 (st.a.read + (k : Nat))))) (fun _ h => .inl h)).trans (Turned.drew (fun _ => False) _) (fun _ h => h.elim)
    have HT : Hid (Turned (fun k => k = g) w _) := ((T1.mono (T := fun k => k = g) (fun _ h => h.elim)).trans (T2.mono (T := fun k => k = g) (fun _ h => h.elim)) (fun _ h => .inl h)).trans TS (fun _ h => .inl h)
    have HSl : Hid (Sl _ v1 (st.a.come.take k)) := (HO.out.sl.turned T2 (fun _ _ h => h)).turned TS (fun j hj he => by have := HV.out j hj; have he : j = g := he; omega)
    have HR : Hid (RefMem _ g _ U0 U1 _ C1) := R1
    have HC : Hid (∀ j, blk (.slice a2 (st.a.come.length - k) cap2) j → w.heap.size ≤ j) := fun j hj => Nat.le_trans T1.size (hB2 j hj)
    have HN : Hid (∀ j, blk v1 j → ¬ blk (.slice a2 (st.a.come.length - k) cap2) j) := fun j hj hj2 => by have := HO.out.blk_lt j hj; have := hB2 j hj2; omega
    clear R1 TS T1 T2 ho3 hB2
    go_wp2
    go_region
    go_wp2
    go_ret2
    exact ⟨v1, _, rfl, HSl.out, HR.out, HT.out, HV.out, HC.out, HN.out⟩

set_option maxRecDepth 100000 in
set_option maxHeartbeats 3200000 in
theorem ref_read0sb (g : Nat) (st : St) (U0 U1 C0 C1 : Value) (k : Nat) (m : Int) (hm0 : ¬ m < 0) (hge : ¬ m < (st.a.come.length : Int)) (hk : k = st.a.come.length) (w : World) (h : RefMem w g st U0 U1 C0 C1) (hs : st.shut = true) (hne : st.a.come ≠ []) (hs3 : st.a.come.length ≤ 16777216) :
    Calls Tryd.prog 26 #[.pointer (some ⟨g, 0, none⟩), .int .i64 0, .int .i64 m] w fun e w' => ∃ V C', e = .returned (.tuple #[V, .slice none 0 0]) ∧ Sl w' V (st.a.come.take k) ∧ RefMem w' g { st with a := { st.a with come := st.a.come.drop k, read := wrap64 (st.a.read + k) } } U0 U1 C' C1 ∧ Turned (fun k => k = g) w w' ∧ (∀ j, blk V j → w.heap.size ≤ j) ∧ (∀ j, blk C' j → w.heap.size ≤ j) ∧ ∀ j, blk V j → ¬ blk C' j := by
  have hz : ((st.a.come.length : Int) == 0) = false := by
    have : st.a.come.length ≠ 0 := fun h0 => hne (List.eq_nil_of_length_eq_zero h0)
    simp [this]
  obtain ⟨aC, capC, hfC, hcC, hmC⟩ := h.c0.sl.form
  subst hfC
  subst hk
  have hkl : st.a.come.length ≤ st.a.come.length := Nat.le_refl _
  have hge2 : (st.a.come.length : Int) ≤ m := by omega
  obtain ⟨kH, _⟩ := h.cells 12 (by omega)
  simp only [refCell] at kH
  rw [hs] at kH
  obtain ⟨kC, fC⟩ := h.cells 2 (by omega)
  simp only [refCell] at kC
  obtain ⟨kR, fR⟩ := h.cells 8 (by omega)
  simp only [refCell] at kR
  have hgl : g < w.heap.size := World.block_lt_of_cell? w _ kC
  have hk1 : ((st.a.come.length : Nat) : Int) ≤ capC := by omega
  have hk2 : ((st.a.come.length : Nat) : Int) ≤ st.a.come.length := by omega
  have hk0 : (0 : Int) ≤ ((st.a.come.length : Nat) : Int) := by omega
  have hC1 : Sl (w.alloc (.cells #[] 5)) (.slice aC st.a.come.length capC) (st.a.come.take st.a.come.length) := (h.c0.sl.take hkl).turned (alloc0 w _) (fun _ _ h => h)
  have ho0 : Own (w.alloc (.cells #[] 5)) (.slice (some ⟨w.heap.size, 0, none⟩) 0 0) [] := Own.empty w _ _ rfl
  have HH : Hid (RefMem w g st U0 U1 (.slice aC st.a.come.length capC) C1) := h
  clear h
  go_enter Tryd.func26, Tryd.ntmps26
  go_wp2_with (first | (go_at_call 45; refine (end_yes0 _).mono ?_; rintro e w' ⟨rfl, rfl⟩) | (at_builtin; refine wpList_append_bytes (by rfl) (.tmp 46) (.tmp 54) (by rfl) Tryd.bytes (by rfl) (by rfl) ho0 hC1 (by simp; omega) ?_; intro v1 w1 ho1 ht1 hb1; have T1 : Turned (fun _ => False) w w1 := (alloc0 w _).trans ht1 (fun _ hk => .inr (Nat.le_of_eq hk)); have jC : w1.cell? ⟨g, 2, none⟩ = some (.slice aC st.a.come.length capC) := T1.cell kC (fun h => h)))
  have hgc : g < w1.heap.size := World.block_lt_of_cell? w1 _ jC
  have jF : w1.frozen? ⟨g, 2, none⟩ = false := (T1.frozen (p := ⟨g, 2, none⟩) hgl (fun h => h)).trans fC
  have jR : w1.cell? ⟨g, 8, none⟩ = some (.int .i64 st.a.read) := T1.cell kR (fun h => h)
  have jG : w1.frozen? ⟨g, 8, none⟩ = false := (T1.frozen (p := ⟨g, 8, none⟩) hgl (fun h => h)).trans fR
  have hD1 : Sl ((w1.alloc (.cells #[] 5)).drew) (.slice (if capC = st.a.come.length then aC else aC.map (·.add st.a.come.length)) 0 (capC - st.a.come.length)) [] := by simpa using ((HH.out.c0.sl.drop hkl).turned T1 (fun _ _ h => h)).turned (fresh0 w1 _) (fun _ _ h => h)
  have ho2 : Own ((w1.alloc (.cells #[] 5)).drew) (.slice (some ⟨w1.heap.size, 0, none⟩) 0 0) [] := (Own.empty w1 _ _ rfl).turned (Turned.drew (fun _ => False) _) (fun _ _ h => h)
  have HO : Hid (Own w1 v1 st.a.come) := by unfold Hid; simpa using ho1
  have HV : Hid (∀ j, blk v1 j → w.heap.size ≤ j) := fun j hj => (hb1 j hj).elim (fun h => Nat.le_of_eq h) (fun h => by simp at h; omega)
  clear ho1 ht1 hb1 kC fC kR fR kH ho0 hC1
  go_region_law (refine step_append_bytes (by rfl) (.tmp 58) (.tmp 66) (by rfl) Tryd.bytes (by rfl) (by rfl) ho2 hD1 (by simp) ?_; intro v2 w2 ho3 ht2 hb2; have T2 := fresh1 ht2; have hB2 := freshB1 hb2; obtain ⟨a2, cap2, rfl, hc2, hm2⟩ := ho3.sl.form; have f2 : w2.frozen? ⟨g, 2, none⟩ = false := (T2.frozen (p := ⟨g, 2, none⟩) hgc (fun h => h)).trans jF; have c2 : w2.cell? ⟨g, 2, none⟩ = some (.slice aC st.a.come.length capC) := T2.cell jC (fun h => h); have f3 : w2.frozen? ⟨g, 8, none⟩ = false := (T2.frozen (p := ⟨g, 8, none⟩) hgc (fun h => h)).trans jG; have c3 : w2.cell? ⟨g, 8, none⟩ = some (.int .i64 st.a.read) := T2.cell jR (fun h => h))
  all_goals
    clear hD1 ho2 ht2 hb2 jC jF jR jG
    generalize (if capC = st.a.come.length then aC else Option.map (fun z => z.add st.a.come.length) aC) = aD
    simp only [List.length_nil, List.append_nil] at ho3 hB2
    have R1 := ((((HH.out.turned T1 (fun _ _ h => h)).turned T2 (fun _ _ h => h)).setCome0 (partOf hgc ho3 hB2)).setRead0 (wrap64 (st.a.read + (st.a.come.length : Nat)))).drew
    have TS := ((Turned.setCell w2 ⟨g, 2, none⟩ (.slice a2 0 cap2)).trans (Turned.setCell _ ⟨g, 8, none⟩ (.int .i64 (wrap64 (st.a.read + (st.a.come.length : Nat))))) (fun _ h => .inl h)).trans (Turned.drew (fun _ => False) _) (fun _ h => h.elim)
    have HT : Hid (Turned (fun k => k = g) w _) := ((T1.mono (T := fun k => k = g) (fun _ h => h.elim)).trans (T2.mono (T := fun k => k = g) (fun _ h => h.elim)) (fun _ h => .inl h)).trans TS (fun _ h => .inl h)
    have HSl : Hid (Sl _ v1 st.a.come) := (HO.out.sl.turned T2 (fun _ _ h => h)).turned TS (fun j hj he => by have := HV.out j hj; have he : j = g := he; omega)
    have HR : Hid (RefMem _ g _ U0 U1 _ C1) := R1
    have HC : Hid (∀ j, blk (.slice a2 0 cap2) j → w.heap.size ≤ j) := fun j hj => Nat.le_trans T1.size (hB2 j hj)
    have HN : Hid (∀ j, blk v1 j → ¬ blk (.slice a2 0 cap2) j) := fun j hj hj2 => by have := HO.out.blk_lt j hj; have := hB2 j hj2; omega
    clear R1 TS T1 T2 ho3 hB2
    go_wp2
    go_region
    go_wp2
    go_ret2
    refine ⟨v1, _, rfl, by rw [List.take_length]; exact HSl.out, by rw [List.drop_length]; exact HR.out, HT.out, HV.out, HC.out, HN.out⟩

set_option maxRecDepth 100000 in
set_option maxHeartbeats 3200000 in
theorem ref_read1a (g : Nat) (st : St) (U0 U1 C0 C1 : Value) (k : Nat) (hlt : (k : Int) < st.b.come.length) (w : World) (h : RefMem w g st U0 U1 C0 C1) (hs : st.shut = false) (hs3 : st.b.come.length ≤ 16777216) :
    Calls Tryd.prog 26 #[.pointer (some ⟨g, 0, none⟩), .int .i64 1, .int .i64 (k : Int)] w fun e w' => ∃ V C', e = .returned (.tuple #[V, .slice none 0 0]) ∧ Sl w' V (st.b.come.take k) ∧ RefMem w' g { st with b := { st.b with come := st.b.come.drop k, read := wrap64 (st.b.read + k) } } U0 U1 C0 C' ∧ Turned (fun k => k = g) w w' ∧ (∀ j, blk V j → w.heap.size ≤ j) ∧ (∀ j, blk C' j → w.heap.size ≤ j) ∧ ∀ j, blk V j → ¬ blk C' j := by
  obtain ⟨aC, capC, hfC, hcC, hmC⟩ := h.c1.sl.form
  subst hfC
  have hkl : k ≤ st.b.come.length := by omega
  have hm0 : ¬ (k : Int) < 0 := by omega
  obtain ⟨kH, _⟩ := h.cells 12 (by omega)
  simp only [refCell] at kH
  rw [hs] at kH
  obtain ⟨kC, fC⟩ := h.cells 3 (by omega)
  simp only [refCell] at kC
  obtain ⟨kR, fR⟩ := h.cells 9 (by omega)
  simp only [refCell] at kR
  have hgl : g < w.heap.size := World.block_lt_of_cell? w _ kC
  have hk1 : ((k : Nat) : Int) ≤ capC := by omega
  have hk2 : ((k : Nat) : Int) ≤ st.b.come.length := by omega
  have hk0 : (0 : Int) ≤ ((k : Nat) : Int) := by omega
  have hC1 : Sl (w.alloc (.cells #[] 5)) (.slice aC k capC) (st.b.come.take k) := (h.c1.sl.take hkl).turned (alloc0 w _) (fun _ _ h => h)
  have ho0 : Own (w.alloc (.cells #[] 5)) (.slice (some ⟨w.heap.size, 0, none⟩) 0 0) [] := Own.empty w _ _ rfl
  have HH : Hid (RefMem w g st U0 U1 C0 (.slice aC st.b.come.length capC)) := h
  clear h
  go_enter Tryd.func26, Tryd.ntmps26
  go_wp2_with (first | (go_at_call 45; refine (end_yes1 _).mono ?_; rintro e w' ⟨rfl, rfl⟩) | (at_builtin; refine wpList_append_bytes (by rfl) (.tmp 46) (.tmp 54) (by rfl) Tryd.bytes (by rfl) (by rfl) ho0 hC1 (by simp; omega) ?_; intro v1 w1 ho1 ht1 hb1; have T1 : Turned (fun _ => False) w w1 := (alloc0 w _).trans ht1 (fun _ hk => .inr (Nat.le_of_eq hk)); have jC : w1.cell? ⟨g, 3, none⟩ = some (.slice aC st.b.come.length capC) := T1.cell kC (fun h => h)))
  have hgc : g < w1.heap.size := World.block_lt_of_cell? w1 _ jC
  have jF : w1.frozen? ⟨g, 3, none⟩ = false := (T1.frozen (p := ⟨g, 3, none⟩) hgl (fun h => h)).trans fC
  have jR : w1.cell? ⟨g, 9, none⟩ = some (.int .i64 st.b.read) := T1.cell kR (fun h => h)
  have jG : w1.frozen? ⟨g, 9, none⟩ = false := (T1.frozen (p := ⟨g, 9, none⟩) hgl (fun h => h)).trans fR
  have hD1 : Sl ((w1.alloc (.cells #[] 5)).drew) (.slice (if capC = k then aC else aC.map (·.add k)) (st.b.come.length - k) (capC - k)) (st.b.come.drop k) := ((HH.out.c1.sl.drop hkl).turned T1 (fun _ _ h => h)).turned (fresh0 w1 _) (fun _ _ h => h)
  have ho2 : Own ((w1.alloc (.cells #[] 5)).drew) (.slice (some ⟨w1.heap.size, 0, none⟩) 0 0) [] := (Own.empty w1 _ _ rfl).turned (Turned.drew (fun _ => False) _) (fun _ _ h => h)
  have HO : Hid (Own w1 v1 (st.b.come.take k)) := by unfold Hid; simpa using ho1
  have HV : Hid (∀ j, blk v1 j → w.heap.size ≤ j) := fun j hj => (hb1 j hj).elim (fun h => Nat.le_of_eq h) (fun h => by simp at h; omega)
  clear ho1 ht1 hb1 kC fC kR fR kH ho0 hC1
  go_region_law (refine step_append_bytes (by rfl) (.tmp 58) (.tmp 66) (by rfl) Tryd.bytes (by rfl) (by rfl) ho2 hD1 (by simp; omega) ?_; intro v2 w2 ho3 ht2 hb2; have T2 := fresh1 ht2; have hB2 := freshB1 hb2; obtain ⟨a2, cap2, rfl, hc2, hm2⟩ := ho3.sl.form; have f2 : w2.frozen? ⟨g, 3, none⟩ = false := (T2.frozen (p := ⟨g, 3, none⟩) hgc (fun h => h)).trans jF; have c2 : w2.cell? ⟨g, 3, none⟩ = some (.slice aC st.b.come.length capC) := T2.cell jC (fun h => h); have f3 : w2.frozen? ⟨g, 9, none⟩ = false := (T2.frozen (p := ⟨g, 9, none⟩) hgc (fun h => h)).trans jG; have c3 : w2.cell? ⟨g, 9, none⟩ = some (.int .i64 st.b.read) := T2.cell jR (fun h => h))
  all_goals
    clear hD1 ho2 ht2 hb2 jC jF jR jG
    generalize (if capC = k then aC else Option.map (fun z => z.add k) aC) = aD
    simp only [List.nil_append, List.length_drop] at ho3 hB2
    have R1 := ((((HH.out.turned T1 (fun _ _ h => h)).turned T2 (fun _ _ h => h)).setCome1 (partOf hgc ho3 hB2)).setRead1 (wrap64 (st.b.read + (k : Nat)))).drew
    have TS := ((Turned.setCell w2 ⟨g, 3, none⟩ (.slice a2 (st.b.come.length - k) cap2)).trans (Turned.setCell _ ⟨g, 9, none⟩ (.int .i64 (wrap64 (st.b.read + (k : Nat))))) (fun _ h => .inl h)).trans (Turned.drew (fun _ => False) _) (fun _ h => h.elim)
    have HT : Hid (Turned (fun k => k = g) w _) := ((T1.mono (T := fun k => k = g) (fun _ h => h.elim)).trans (T2.mono (T := fun k => k = g) (fun _ h => h.elim)) (fun _ h => .inl h)).trans TS (fun _ h => .inl h)
    have HSl : Hid (Sl _ v1 (st.b.come.take k)) := (HO.out.sl.turned T2 (fun _ _ h => h)).turned TS (fun j hj he => by have := HV.out j hj; have he : j = g := he; omega)
    have HR : Hid (RefMem _ g _ U0 U1 C0 _) := R1
    have HC : Hid (∀ j, blk (.slice a2 (st.b.come.length - k) cap2) j → w.heap.size ≤ j) := fun j hj => Nat.le_trans T1.size (hB2 j hj)
    have HN : Hid (∀ j, blk v1 j → ¬ blk (.slice a2 (st.b.come.length - k) cap2) j) := fun j hj hj2 => by have := HO.out.blk_lt j hj; have := hB2 j hj2; omega
    clear R1 TS T1 T2 ho3 hB2
    go_wp2
    go_region
    go_wp2
    go_ret2
    exact ⟨v1, _, rfl, HSl.out, HR.out, HT.out, HV.out, HC.out, HN.out⟩

set_option maxRecDepth 100000 in
set_option maxHeartbeats 3200000 in
theorem ref_read1b (g : Nat) (st : St) (U0 U1 C0 C1 : Value) (k : Nat) (m : Int) (hm0 : ¬ m < 0) (hge : ¬ m < (st.b.come.length : Int)) (hk : k = st.b.come.length) (w : World) (h : RefMem w g st U0 U1 C0 C1) (hs : st.shut = false) (hs3 : st.b.come.length ≤ 16777216) :
    Calls Tryd.prog 26 #[.pointer (some ⟨g, 0, none⟩), .int .i64 1, .int .i64 m] w fun e w' => ∃ V C', e = .returned (.tuple #[V, .slice none 0 0]) ∧ Sl w' V (st.b.come.take k) ∧ RefMem w' g { st with b := { st.b with come := st.b.come.drop k, read := wrap64 (st.b.read + k) } } U0 U1 C0 C' ∧ Turned (fun k => k = g) w w' ∧ (∀ j, blk V j → w.heap.size ≤ j) ∧ (∀ j, blk C' j → w.heap.size ≤ j) ∧ ∀ j, blk V j → ¬ blk C' j := by
  obtain ⟨aC, capC, hfC, hcC, hmC⟩ := h.c1.sl.form
  subst hfC
  subst hk
  have hkl : st.b.come.length ≤ st.b.come.length := Nat.le_refl _
  have hge2 : (st.b.come.length : Int) ≤ m := by omega
  obtain ⟨kH, _⟩ := h.cells 12 (by omega)
  simp only [refCell] at kH
  rw [hs] at kH
  obtain ⟨kC, fC⟩ := h.cells 3 (by omega)
  simp only [refCell] at kC
  obtain ⟨kR, fR⟩ := h.cells 9 (by omega)
  simp only [refCell] at kR
  have hgl : g < w.heap.size := World.block_lt_of_cell? w _ kC
  have hk1 : ((st.b.come.length : Nat) : Int) ≤ capC := by omega
  have hk2 : ((st.b.come.length : Nat) : Int) ≤ st.b.come.length := by omega
  have hk0 : (0 : Int) ≤ ((st.b.come.length : Nat) : Int) := by omega
  have hC1 : Sl (w.alloc (.cells #[] 5)) (.slice aC st.b.come.length capC) (st.b.come.take st.b.come.length) := (h.c1.sl.take hkl).turned (alloc0 w _) (fun _ _ h => h)
  have ho0 : Own (w.alloc (.cells #[] 5)) (.slice (some ⟨w.heap.size, 0, none⟩) 0 0) [] := Own.empty w _ _ rfl
  have HH : Hid (RefMem w g st U0 U1 C0 (.slice aC st.b.come.length capC)) := h
  clear h
  go_enter Tryd.func26, Tryd.ntmps26
  go_wp2_with (first | (go_at_call 45; refine (end_yes1 _).mono ?_; rintro e w' ⟨rfl, rfl⟩) | (at_builtin; refine wpList_append_bytes (by rfl) (.tmp 46) (.tmp 54) (by rfl) Tryd.bytes (by rfl) (by rfl) ho0 hC1 (by simp; omega) ?_; intro v1 w1 ho1 ht1 hb1; have T1 : Turned (fun _ => False) w w1 := (alloc0 w _).trans ht1 (fun _ hk => .inr (Nat.le_of_eq hk)); have jC : w1.cell? ⟨g, 3, none⟩ = some (.slice aC st.b.come.length capC) := T1.cell kC (fun h => h)))
  have hgc : g < w1.heap.size := World.block_lt_of_cell? w1 _ jC
  have jF : w1.frozen? ⟨g, 3, none⟩ = false := (T1.frozen (p := ⟨g, 3, none⟩) hgl (fun h => h)).trans fC
  have jR : w1.cell? ⟨g, 9, none⟩ = some (.int .i64 st.b.read) := T1.cell kR (fun h => h)
  have jG : w1.frozen? ⟨g, 9, none⟩ = false := (T1.frozen (p := ⟨g, 9, none⟩) hgl (fun h => h)).trans fR
  have hD1 : Sl ((w1.alloc (.cells #[] 5)).drew) (.slice (if capC = st.b.come.length then aC else aC.map (·.add st.b.come.length)) 0 (capC - st.b.come.length)) [] := by simpa using ((HH.out.c1.sl.drop hkl).turned T1 (fun _ _ h => h)).turned (fresh0 w1 _) (fun _ _ h => h)
  have ho2 : Own ((w1.alloc (.cells #[] 5)).drew) (.slice (some ⟨w1.heap.size, 0, none⟩) 0 0) [] := (Own.empty w1 _ _ rfl).turned (Turned.drew (fun _ => False) _) (fun _ _ h => h)
  have HO : Hid (Own w1 v1 st.b.come) := by unfold Hid; simpa using ho1
  have HV : Hid (∀ j, blk v1 j → w.heap.size ≤ j) := fun j hj => (hb1 j hj).elim (fun h => Nat.le_of_eq h) (fun h => by simp at h; omega)
  clear ho1 ht1 hb1 kC fC kR fR kH ho0 hC1
  go_region_law (refine step_append_bytes (by rfl) (.tmp 58) (.tmp 66) (by rfl) Tryd.bytes (by rfl) (by rfl) ho2 hD1 (by simp) ?_; intro v2 w2 ho3 ht2 hb2; have T2 := fresh1 ht2; have hB2 := freshB1 hb2; obtain ⟨a2, cap2, rfl, hc2, hm2⟩ := ho3.sl.form; have f2 : w2.frozen? ⟨g, 3, none⟩ = false := (T2.frozen (p := ⟨g, 3, none⟩) hgc (fun h => h)).trans jF; have c2 : w2.cell? ⟨g, 3, none⟩ = some (.slice aC st.b.come.length capC) := T2.cell jC (fun h => h); have f3 : w2.frozen? ⟨g, 9, none⟩ = false := (T2.frozen (p := ⟨g, 9, none⟩) hgc (fun h => h)).trans jG; have c3 : w2.cell? ⟨g, 9, none⟩ = some (.int .i64 st.b.read) := T2.cell jR (fun h => h))
  all_goals
    clear hD1 ho2 ht2 hb2 jC jF jR jG
    generalize (if capC = st.b.come.length then aC else Option.map (fun z => z.add st.b.come.length) aC) = aD
    simp only [List.length_nil, List.append_nil] at ho3 hB2
    have R1 := ((((HH.out.turned T1 (fun _ _ h => h)).turned T2 (fun _ _ h => h)).setCome1 (partOf hgc ho3 hB2)).setRead1 (wrap64 (st.b.read + (st.b.come.length : Nat)))).drew
    have TS := ((Turned.setCell w2 ⟨g, 3, none⟩ (.slice a2 0 cap2)).trans (Turned.setCell _ ⟨g, 9, none⟩ (.int .i64 (wrap64 (st.b.read + (st.b.come.length : Nat))))) (fun _ h => .inl h)).trans (Turned.drew (fun _ => False) _) (fun _ h => h.elim)
    have HT : Hid (Turned (fun k => k = g) w _) := ((T1.mono (T := fun k => k = g) (fun _ h => h.elim)).trans (T2.mono (T := fun k => k = g) (fun _ h => h.elim)) (fun _ h => .inl h)).trans TS (fun _ h => .inl h)
    have HSl : Hid (Sl _ v1 st.b.come) := (HO.out.sl.turned T2 (fun _ _ h => h)).turned TS (fun j hj he => by have := HV.out j hj; have he : j = g := he; omega)
    have HR : Hid (RefMem _ g _ U0 U1 C0 _) := R1
    have HC : Hid (∀ j, blk (.slice a2 0 cap2) j → w.heap.size ≤ j) := fun j hj => Nat.le_trans T1.size (hB2 j hj)
    have HN : Hid (∀ j, blk v1 j → ¬ blk (.slice a2 0 cap2) j) := fun j hj hj2 => by have := HO.out.blk_lt j hj; have := hB2 j hj2; omega
    clear R1 TS T1 T2 ho3 hB2
    go_wp2
    go_region
    go_wp2
    go_ret2
    refine ⟨v1, _, rfl, by rw [List.take_length]; exact HSl.out, by rw [List.drop_length]; exact HR.out, HT.out, HV.out, HC.out, HN.out⟩

set_option maxRecDepth 100000 in
set_option maxHeartbeats 3200000 in
theorem ref_read1sa (g : Nat) (st : St) (U0 U1 C0 C1 : Value) (k : Nat) (hlt : (k : Int) < st.b.come.length) (w : World) (h : RefMem w g st U0 U1 C0 C1) (hs : st.shut = true) (hne : st.b.come ≠ []) (hs3 : st.b.come.length ≤ 16777216) :
    Calls Tryd.prog 26 #[.pointer (some ⟨g, 0, none⟩), .int .i64 1, .int .i64 (k : Int)] w fun e w' => ∃ V C', e = .returned (.tuple #[V, .slice none 0 0]) ∧ Sl w' V (st.b.come.take k) ∧ RefMem w' g { st with b := { st.b with come := st.b.come.drop k, read := wrap64 (st.b.read + k) } } U0 U1 C0 C' ∧ Turned (fun k => k = g) w w' ∧ (∀ j, blk V j → w.heap.size ≤ j) ∧ (∀ j, blk C' j → w.heap.size ≤ j) ∧ ∀ j, blk V j → ¬ blk C' j := by
  have hz : ((st.b.come.length : Int) == 0) = false := by
    have : st.b.come.length ≠ 0 := fun h0 => hne (List.eq_nil_of_length_eq_zero h0)
    simp [this]
  obtain ⟨aC, capC, hfC, hcC, hmC⟩ := h.c1.sl.form
  subst hfC
  have hkl : k ≤ st.b.come.length := by omega
  have hm0 : ¬ (k : Int) < 0 := by omega
  obtain ⟨kH, _⟩ := h.cells 12 (by omega)
  simp only [refCell] at kH
  rw [hs] at kH
  obtain ⟨kC, fC⟩ := h.cells 3 (by omega)
  simp only [refCell] at kC
  obtain ⟨kR, fR⟩ := h.cells 9 (by omega)
  simp only [refCell] at kR
  have hgl : g < w.heap.size := World.block_lt_of_cell? w _ kC
  have hk1 : ((k : Nat) : Int) ≤ capC := by omega
  have hk2 : ((k : Nat) : Int) ≤ st.b.come.length := by omega
  have hk0 : (0 : Int) ≤ ((k : Nat) : Int) := by omega
  have hC1 : Sl (w.alloc (.cells #[] 5)) (.slice aC k capC) (st.b.come.take k) := (h.c1.sl.take hkl).turned (alloc0 w _) (fun _ _ h => h)
  have ho0 : Own (w.alloc (.cells #[] 5)) (.slice (some ⟨w.heap.size, 0, none⟩) 0 0) [] := Own.empty w _ _ rfl
  have HH : Hid (RefMem w g st U0 U1 C0 (.slice aC st.b.come.length capC)) := h
  clear h
  go_enter Tryd.func26, Tryd.ntmps26
  go_wp2_with (first | (go_at_call 45; refine (end_yes1 _).mono ?_; rintro e w' ⟨rfl, rfl⟩) | (at_builtin; refine wpList_append_bytes (by rfl) (.tmp 46) (.tmp 54) (by rfl) Tryd.bytes (by rfl) (by rfl) ho0 hC1 (by simp; omega) ?_; intro v1 w1 ho1 ht1 hb1; have T1 : Turned (fun _ => False) w w1 := (alloc0 w _).trans ht1 (fun _ hk => .inr (Nat.le_of_eq hk)); have jC : w1.cell? ⟨g, 3, none⟩ = some (.slice aC st.b.come.length capC) := T1.cell kC (fun h => h)))
  have hgc : g < w1.heap.size := World.block_lt_of_cell? w1 _ jC
  have jF : w1.frozen? ⟨g, 3, none⟩ = false := (T1.frozen (p := ⟨g, 3, none⟩) hgl (fun h => h)).trans fC
  have jR : w1.cell? ⟨g, 9, none⟩ = some (.int .i64 st.b.read) := T1.cell kR (fun h => h)
  have jG : w1.frozen? ⟨g, 9, none⟩ = false := (T1.frozen (p := ⟨g, 9, none⟩) hgl (fun h => h)).trans fR
  have hD1 : Sl ((w1.alloc (.cells #[] 5)).drew) (.slice (if capC = k then aC else aC.map (·.add k)) (st.b.come.length - k) (capC - k)) (st.b.come.drop k) := ((HH.out.c1.sl.drop hkl).turned T1 (fun _ _ h => h)).turned (fresh0 w1 _) (fun _ _ h => h)
  have ho2 : Own ((w1.alloc (.cells #[] 5)).drew) (.slice (some ⟨w1.heap.size, 0, none⟩) 0 0) [] := (Own.empty w1 _ _ rfl).turned (Turned.drew (fun _ => False) _) (fun _ _ h => h)
  have HO : Hid (Own w1 v1 (st.b.come.take k)) := by unfold Hid; simpa using ho1
  have HV : Hid (∀ j, blk v1 j → w.heap.size ≤ j) := fun j hj => (hb1 j hj).elim (fun h => Nat.le_of_eq h) (fun h => by simp at h; omega)
  clear ho1 ht1 hb1 kC fC kR fR kH ho0 hC1
  go_region_law (refine step_append_bytes (by rfl) (.tmp 58) (.tmp 66) (by rfl) Tryd.bytes (by rfl) (by rfl) ho2 hD1 (by simp; omega) ?_; intro v2 w2 ho3 ht2 hb2; have T2 := fresh1 ht2; have hB2 := freshB1 hb2; obtain ⟨a2, cap2, rfl, hc2, hm2⟩ := ho3.sl.form; have f2 : w2.frozen? ⟨g, 3, none⟩ = false := (T2.frozen (p := ⟨g, 3, none⟩) hgc (fun h => h)).trans jF; have c2 : w2.cell? ⟨g, 3, none⟩ = some (.slice aC st.b.come.length capC) := T2.cell jC (fun h => h); have f3 : w2.frozen? ⟨g, 9, none⟩ = false := (T2.frozen (p := ⟨g, 9, none⟩) hgc (fun h => h)).trans jG; have c3 : w2.cell? ⟨g, 9, none⟩ = some (.int .i64 st.b.read) := T2.cell jR (fun h => h))
  all_goals
    clear hD1 ho2 ht2 hb2 jC jF jR jG
    generalize (if capC = k then aC else Option.map (fun z => z.add k) aC) = aD
    simp only [List.nil_append, List.length_drop] at ho3 hB2
    have R1 := ((((HH.out.turned T1 (fun _ _ h => h)).turned T2 (fun _ _ h => h)).setCome1 (partOf hgc ho3 hB2)).setRead1 (wrap64 (st.b.read + (k : Nat)))).drew
    have TS := ((Turned.setCell w2 ⟨g, 3, none⟩ (.slice a2 (st.b.come.length - k) cap2)).trans (Turned.setCell _ ⟨g, 9, none⟩ (.int .i64 (wrap64 (st.b.read + (k : Nat))))) (fun _ h => .inl h)).trans (Turned.drew (fun _ => False) _) (fun _ h => h.elim)
    have HT : Hid (Turned (fun k => k = g) w _) := ((T1.mono (T := fun k => k = g) (fun _ h => h.elim)).trans (T2.mono (T := fun k => k = g) (fun _ h => h.elim)) (fun _ h => .inl h)).trans TS (fun _ h => .inl h)
    have HSl : Hid (Sl _ v1 (st.b.come.take k)) := (HO.out.sl.turned T2 (fun _ _ h => h)).turned TS (fun j hj he => by have := HV.out j hj; have he : j = g := he; omega)
    have HR : Hid (RefMem _ g _ U0 U1 C0 _) := R1
    have HC : Hid (∀ j, blk (.slice a2 (st.b.come.length - k) cap2) j → w.heap.size ≤ j) := fun j hj => Nat.le_trans T1.size (hB2 j hj)
    have HN : Hid (∀ j, blk v1 j → ¬ blk (.slice a2 (st.b.come.length - k) cap2) j) := fun j hj hj2 => by have := HO.out.blk_lt j hj; have := hB2 j hj2; omega
    clear R1 TS T1 T2 ho3 hB2
    go_wp2
    go_region
    go_wp2
    go_ret2
    exact ⟨v1, _, rfl, HSl.out, HR.out, HT.out, HV.out, HC.out, HN.out⟩

set_option maxRecDepth 100000 in
set_option maxHeartbeats 3200000 in
theorem ref_read1sb (g : Nat) (st : St) (U0 U1 C0 C1 : Value) (k : Nat) (m : Int) (hm0 : ¬ m < 0) (hge : ¬ m < (st.b.come.length : Int)) (hk : k = st.b.come.length) (w : World) (h : RefMem w g st U0 U1 C0 C1) (hs : st.shut = true) (hne : st.b.come ≠ []) (hs3 : st.b.come.length ≤ 16777216) :
    Calls Tryd.prog 26 #[.pointer (some ⟨g, 0, none⟩), .int .i64 1, .int .i64 m] w fun e w' => ∃ V C', e = .returned (.tuple #[V, .slice none 0 0]) ∧ Sl w' V (st.b.come.take k) ∧ RefMem w' g { st with b := { st.b with come := st.b.come.drop k, read := wrap64 (st.b.read + k) } } U0 U1 C0 C' ∧ Turned (fun k => k = g) w w' ∧ (∀ j, blk V j → w.heap.size ≤ j) ∧ (∀ j, blk C' j → w.heap.size ≤ j) ∧ ∀ j, blk V j → ¬ blk C' j := by
  have hz : ((st.b.come.length : Int) == 0) = false := by
    have : st.b.come.length ≠ 0 := fun h0 => hne (List.eq_nil_of_length_eq_zero h0)
    simp [this]
  obtain ⟨aC, capC, hfC, hcC, hmC⟩ := h.c1.sl.form
  subst hfC
  subst hk
  have hkl : st.b.come.length ≤ st.b.come.length := Nat.le_refl _
  have hge2 : (st.b.come.length : Int) ≤ m := by omega
  obtain ⟨kH, _⟩ := h.cells 12 (by omega)
  simp only [refCell] at kH
  rw [hs] at kH
  obtain ⟨kC, fC⟩ := h.cells 3 (by omega)
  simp only [refCell] at kC
  obtain ⟨kR, fR⟩ := h.cells 9 (by omega)
  simp only [refCell] at kR
  have hgl : g < w.heap.size := World.block_lt_of_cell? w _ kC
  have hk1 : ((st.b.come.length : Nat) : Int) ≤ capC := by omega
  have hk2 : ((st.b.come.length : Nat) : Int) ≤ st.b.come.length := by omega
  have hk0 : (0 : Int) ≤ ((st.b.come.length : Nat) : Int) := by omega
  have hC1 : Sl (w.alloc (.cells #[] 5)) (.slice aC st.b.come.length capC) (st.b.come.take st.b.come.length) := (h.c1.sl.take hkl).turned (alloc0 w _) (fun _ _ h => h)
  have ho0 : Own (w.alloc (.cells #[] 5)) (.slice (some ⟨w.heap.size, 0, none⟩) 0 0) [] := Own.empty w _ _ rfl
  have HH : Hid (RefMem w g st U0 U1 C0 (.slice aC st.b.come.length capC)) := h
  clear h
  go_enter Tryd.func26, Tryd.ntmps26
  go_wp2_with (first | (go_at_call 45; refine (end_yes1 _).mono ?_; rintro e w' ⟨rfl, rfl⟩) | (at_builtin; refine wpList_append_bytes (by rfl) (.tmp 46) (.tmp 54) (by rfl) Tryd.bytes (by rfl) (by rfl) ho0 hC1 (by simp; omega) ?_; intro v1 w1 ho1 ht1 hb1; have T1 : Turned (fun _ => False) w w1 := (alloc0 w _).trans ht1 (fun _ hk => .inr (Nat.le_of_eq hk)); have jC : w1.cell? ⟨g, 3, none⟩ = some (.slice aC st.b.come.length capC) := T1.cell kC (fun h => h)))
  have hgc : g < w1.heap.size := World.block_lt_of_cell? w1 _ jC
  have jF : w1.frozen? ⟨g, 3, none⟩ = false := (T1.frozen (p := ⟨g, 3, none⟩) hgl (fun h => h)).trans fC
  have jR : w1.cell? ⟨g, 9, none⟩ = some (.int .i64 st.b.read) := T1.cell kR (fun h => h)
  have jG : w1.frozen? ⟨g, 9, none⟩ = false := (T1.frozen (p := ⟨g, 9, none⟩) hgl (fun h => h)).trans fR
  have hD1 : Sl ((w1.alloc (.cells #[] 5)).drew) (.slice (if capC = st.b.come.length then aC else aC.map (·.add st.b.come.length)) 0 (capC - st.b.come.length)) [] := by simpa using ((HH.out.c1.sl.drop hkl).turned T1 (fun _ _ h => h)).turned (fresh0 w1 _) (fun _ _ h => h)
  have ho2 : Own ((w1.alloc (.cells #[] 5)).drew) (.slice (some ⟨w1.heap.size, 0, none⟩) 0 0) [] := (Own.empty w1 _ _ rfl).turned (Turned.drew (fun _ => False) _) (fun _ _ h => h)
  have HO : Hid (Own w1 v1 st.b.come) := by unfold Hid; simpa using ho1
  have HV : Hid (∀ j, blk v1 j → w.heap.size ≤ j) := fun j hj => (hb1 j hj).elim (fun h => Nat.le_of_eq h) (fun h => by simp at h; omega)
  clear ho1 ht1 hb1 kC fC kR fR kH ho0 hC1
  go_region_law (refine step_append_bytes (by rfl) (.tmp 58) (.tmp 66) (by rfl) Tryd.bytes (by rfl) (by rfl) ho2 hD1 (by simp) ?_; intro v2 w2 ho3 ht2 hb2; have T2 := fresh1 ht2; have hB2 := freshB1 hb2; obtain ⟨a2, cap2, rfl, hc2, hm2⟩ := ho3.sl.form; have f2 : w2.frozen? ⟨g, 3, none⟩ = false := (T2.frozen (p := ⟨g, 3, none⟩) hgc (fun h => h)).trans jF; have c2 : w2.cell? ⟨g, 3, none⟩ = some (.slice aC st.b.come.length capC) := T2.cell jC (fun h => h); have f3 : w2.frozen? ⟨g, 9, none⟩ = false := (T2.frozen (p := ⟨g, 9, none⟩) hgc (fun h => h)).trans jG; have c3 : w2.cell? ⟨g, 9, none⟩ = some (.int .i64 st.b.read) := T2.cell jR (fun h => h))
  all_goals
    clear hD1 ho2 ht2 hb2 jC jF jR jG
    generalize (if capC = st.b.come.length then aC else Option.map (fun z => z.add st.b.come.length) aC) = aD
    simp only [List.length_nil, List.append_nil] at ho3 hB2
    have R1 := ((((HH.out.turned T1 (fun _ _ h => h)).turned T2 (fun _ _ h => h)).setCome1 (partOf hgc ho3 hB2)).setRead1 (wrap64 (st.b.read + (st.b.come.length : Nat)))).drew
    have TS := ((Turned.setCell w2 ⟨g, 3, none⟩ (.slice a2 0 cap2)).trans (Turned.setCell _ ⟨g, 9, none⟩ (.int .i64 (wrap64 (st.b.read + (st.b.come.length : Nat))))) (fun _ h => .inl h)).trans (Turned.drew (fun _ => False) _) (fun _ h => h.elim)
    have HT : Hid (Turned (fun k => k = g) w _) := ((T1.mono (T := fun k => k = g) (fun _ h => h.elim)).trans (T2.mono (T := fun k => k = g) (fun _ h => h.elim)) (fun _ h => .inl h)).trans TS (fun _ h => .inl h)
    have HSl : Hid (Sl _ v1 st.b.come) := (HO.out.sl.turned T2 (fun _ _ h => h)).turned TS (fun j hj he => by have := HV.out j hj; have he : j = g := he; omega)
    have HR : Hid (RefMem _ g _ U0 U1 C0 _) := R1
    have HC : Hid (∀ j, blk (.slice a2 0 cap2) j → w.heap.size ≤ j) := fun j hj => Nat.le_trans T1.size (hB2 j hj)
    have HN : Hid (∀ j, blk v1 j → ¬ blk (.slice a2 0 cap2) j) := fun j hj hj2 => by have := HO.out.blk_lt j hj; have := hB2 j hj2; omega
    clear R1 TS T1 T2 ho3 hB2
    go_wp2
    go_region
    go_wp2
    go_ret2
    refine ⟨v1, _, rfl, by rw [List.take_length]; exact HSl.out, by rw [List.drop_length]; exact HR.out, HT.out, HV.out, HC.out, HN.out⟩
end Go.Proofs.YtjkmklbkemoldaaDoor
