/-
  The document's move: the first n bytes that an end has sent come to the other one.
-/
import Derived.Test.YtjkmklbkemoldaaDoorRefSet
import Derived.Deep.DeepCutAuto
namespace Go.Proofs.YtjkmklbkemoldaaDoor
open Go.RowKit

theorem freshB1 {w : World} {t : TypeId} {v1 : Value} (hb1 : ∀ k, blk v1 k → blk (.slice (some ⟨w.heap.size, 0, none⟩) 0 0) k ∨ k = ((w.alloc (.cells #[] t)).drew).heap.size) : ∀ k, blk v1 k → w.heap.size ≤ k :=
  fun k hk => (hb1 k hk).elim (fun h => Nat.le_of_eq h) (fun h => by simp at h; omega)
theorem partOf {w w2 : World} {g : Nat} {v : Value} {zs : List Int} (hg : g < w.heap.size) (ho : Own w2 v zs) (hb : ∀ k, blk v k → w.heap.size ≤ k) : Part w2 g v zs :=
  ⟨ho.sl, ho.blk_lt, fun k hk => by have := hb k hk; omega⟩

set_option maxRecDepth 100000 in
set_option maxHeartbeats 3200000 in
theorem ref_mv0 (g : Nat) (st : St) (U0 U1 C0 C1 : Value) (n : Nat) (w : World) (h : RefMem w g st U0 U1 C0 C1) (hn : n ≤ st.a.und.length) (hs2 : st.a.und.length ≤ 16777216) (hs3 : st.b.come.length ≤ 16777216) :
    Calls Tryd.prog 47 #[.pointer (some ⟨g, 0, none⟩), .int .i64 0, .int .i64 n] w fun e w' => ∃ U' C', e = .returned (.tuple #[]) ∧ RefMem w' g { st with a := { st.a with und := st.a.und.drop n }, b := { st.b with come := st.b.come ++ st.a.und.take n, moved := wrap64 (st.b.moved + n) } } U' U1 C0 C' ∧ Turned (fun k => k = g) w w' ∧ (∀ k, blk U' k → w.heap.size ≤ k) ∧ ∀ k, blk C' k → w.heap.size ≤ k := by
  obtain ⟨aU, capU, hfU, hcU, hmU⟩ := h.u0.sl.form
  subst hfU
  obtain ⟨aC, capC, hfC, hcC, hmC⟩ := h.c1.sl.form
  subst hfC
  obtain ⟨kU, fU⟩ := h.cells 0 (by omega)
  obtain ⟨kC, fC⟩ := h.cells 3 (by omega)
  simp only [refCell] at kU kC
  have hgl : g < w.heap.size := World.block_lt_of_cell? w _ kU
  have hC1 : Sl ((w.alloc (.cells #[] 5)).drew) (.slice aC st.b.come.length capC) st.b.come := h.c1.sl.turned (fresh0 w _) (fun _ _ h => h)
  have ho0 : Own ((w.alloc (.cells #[] 5)).drew) (.slice (some ⟨w.heap.size, 0, none⟩) 0 0) [] := (Own.empty w _ _ rfl).turned (Turned.drew (fun _ => False) _) (fun _ _ h => h)
  have hn1 : (n : Int) ≤ st.a.und.length := by omega
  have hn2 : (n : Int) ≤ capU := by omega
  have hn0 : (0 : Int) ≤ (n : Int) := by omega
  have hw0 : IntKind.i64.wrap 0 = 0 := by decide
  have hw1 : IntKind.i64.wrap 1 = 1 := by decide
  have HH : Hid (RefMem w g st (.slice aU st.a.und.length capU) U1 C0 (.slice aC st.b.come.length capC)) := h
  clear h
  go_enter Tryd.func47, Tryd.ntmps47
  go_upto_region 0 with fail
  go_cut [] (fun wc => ∃ C', RefMem wc g { st with b := { st.b with come := st.b.come ++ st.a.und.take n } } (.slice aU st.a.und.length capU) U1 C0 C' ∧ Turned (fun k => k = g) w wc ∧ ∀ k, blk C' k → w.heap.size ≤ k)
  case first =>
    go_region_law (first
      | (refine step_append_bytes (by rfl) (.tmp 9) (.tmp 16) (by rfl) Tryd.bytes (by rfl) (by rfl) ho0 hC1 (by simp; omega) ?_; intro v1 w1 ho1 ht1 hb1; have T1 := fresh1 ht1; have kU1 : w1.cell? ⟨g, 0, none⟩ = some (.slice aU st.a.und.length capU) := T1.cell kU (fun h => h); have hU1 : Sl w1 (.slice aU n capU) (st.a.und.take n) := (HH.out.u0.sl.take hn).turned T1 (fun _ _ h => h))
      | (refine step_append_bytes (by rfl) (.tmp 17) (.tmp 25) (by rfl) Tryd.bytes (by rfl) (by rfl) ho1 hU1 (by simp; omega) ?_; intro v2 w2 ho2 ht2 hb2; have T2 := fresh2 T1 hb1 ht2; have hB2 := freshB T1 hb1 hb2; obtain ⟨a2, cap2, rfl, hc2, hm2⟩ := ho2.sl.form; have f2 : w2.frozen? ⟨g, 3, none⟩ = false := (T2.frozen (p := ⟨g, 3, none⟩) hgl (fun h => h)).trans fC; have c2 : w2.cell? ⟨g, 3, none⟩ = some (.slice aC st.b.come.length capC) := T2.cell kC (fun h => h)))
    all_goals
      go_wp2_with fail
      have hl : (st.a.und.take n).length = n := by simp; omega
      simp only [List.nil_append, List.length_append, hl] at ho2 hB2
      have R := (HH.out.turned T2 (fun _ _ h => h)).setCome1 (partOf hgl ho2 hB2)
      go_meet
      exact ⟨_, R, (T2.mono (fun _ h => h.elim)).trans (Turned.setCell w2 ⟨g, 3, none⟩ _) (fun _ h => .inl h), hB2⟩
  case rest =>
    obtain ⟨C', R1, TA, hBC⟩ := hcut
    obtain ⟨wA, hwA⟩ : ∃ wA, wA = wc := ⟨_, rfl⟩
    subst hwA
    obtain ⟨jU, jF⟩ := R1.cells 0 (by omega)
    simp only [refCell] at jU
    have hgc : g < wA.heap.size := World.block_lt_of_cell? wA _ jU
    have hD1 : Sl ((wA.alloc (.cells #[] 5)).drew) (.slice (if capU = n then aU else aU.map (·.add n)) (st.a.und.length - n) (capU - n)) (st.a.und.drop n) := (R1.u0.sl.drop hn).turned (fresh0 wA _) (fun _ _ h => h)
    have ho1 : Own ((wA.alloc (.cells #[] 5)).drew) (.slice (some ⟨wA.heap.size, 0, none⟩) 0 0) [] := (Own.empty wA _ _ rfl).turned (Turned.drew (fun _ => False) _) (fun _ _ h => h)
    have HR : Hid (RefMem wA g { st with b := { st.b with come := st.b.come ++ st.a.und.take n } } (.slice aU st.a.und.length capU) U1 C0 C') := R1
    have HT : Hid (Turned (fun k => k = g) w wA) := TA
    have HBC : Hid (∀ k, blk C' k → w.heap.size ≤ k) := hBC
    clear hBC
    clear R1 TA kU kC fU fC hC1 ho0
    go_upto_region 1 with fail
    go_cut [] (fun wc => ∃ U', RefMem wc g { st with a := { st.a with und := st.a.und.drop n }, b := { st.b with come := st.b.come ++ st.a.und.take n } } U' U1 C0 C' ∧ Turned (fun k => k = g) w wc ∧ ∀ k, blk U' k → w.heap.size ≤ k)
    case first =>
      go_region_law (refine step_append_bytes (by rfl) (.tmp 32) (.tmp 40) (by rfl) Tryd.bytes (by rfl) (by rfl) ho1 hD1 (by simp; omega) ?_; intro v1 w1 ho2 ht1 hb1; have T1 := fresh1 ht1; obtain ⟨a2, cap2, rfl, hc2, hm2⟩ := ho2.sl.form; have f2 : w1.frozen? ⟨g, 0, none⟩ = false := (T1.frozen (p := ⟨g, 0, none⟩) hgc (fun h => h)).trans jF; have c2 : w1.cell? ⟨g, 0, none⟩ = some (.slice aU st.a.und.length capU) := T1.cell jU (fun h => h))
      all_goals
        clear hD1
        generalize (if capU = n then aU else Option.map (fun z => z.add n) aU) = aD
        go_wp2_with fail
        have hB1 := freshB1 hb1
        simp only [List.nil_append, List.length_drop] at ho2 hB1
        have R := (HR.out.turned T1 (fun _ _ h => h)).setUnd0 (partOf hgc ho2 hB1)
        go_meet
        exact ⟨_, R, HT.out.trans ((T1.mono (T := fun k => k = g) (fun _ h => h.elim)).trans (Turned.setCell w1 ⟨g, 0, none⟩ _) (fun _ h => .inl h)) (fun _ h => .inl h), fun k hk => Nat.le_trans HT.out.size (hB1 k hk)⟩
    case rest =>
      obtain ⟨U', R2, TB, hBU⟩ := hcut
      obtain ⟨kM, fM⟩ := R2.cells 7 (by omega)
      simp only [refCell] at kM
      have HR2 : Hid (RefMem wc g { st with a := { st.a with und := st.a.und.drop n }, b := { st.b with come := st.b.come ++ st.a.und.take n } } U' U1 C0 C') := R2
      have HT2 : Hid (Turned (fun k => k = g) w wc) := TB
      have HBU : Hid (∀ k, blk U' k → w.heap.size ≤ k) := hBU
      clear hBU
      clear R2 TB jU jF hD1 ho1
      go_wp2
      go_region
      go_wp2
      go_end0
      exact ⟨U', C', rfl, (HR2.out.setMoved1 _).drew, HT2.out.trans ((Turned.setCell wc ⟨g, 7, none⟩ _).trans (Turned.drew (fun _ => False) _) (fun _ h => h.elim)) (fun _ h => .inl h), HBU.out, HBC.out⟩

set_option maxRecDepth 100000 in
set_option maxHeartbeats 3200000 in
theorem ref_mv1 (g : Nat) (st : St) (U0 U1 C0 C1 : Value) (n : Nat) (w : World) (h : RefMem w g st U0 U1 C0 C1) (hn : n ≤ st.b.und.length) (hs2 : st.b.und.length ≤ 16777216) (hs3 : st.a.come.length ≤ 16777216) :
    Calls Tryd.prog 47 #[.pointer (some ⟨g, 0, none⟩), .int .i64 1, .int .i64 n] w fun e w' => ∃ U' C', e = .returned (.tuple #[]) ∧ RefMem w' g { st with b := { st.b with und := st.b.und.drop n }, a := { st.a with come := st.a.come ++ st.b.und.take n, moved := wrap64 (st.a.moved + n) } } U0 U' C' C1 ∧ Turned (fun k => k = g) w w' ∧ (∀ k, blk U' k → w.heap.size ≤ k) ∧ ∀ k, blk C' k → w.heap.size ≤ k := by
  obtain ⟨aU, capU, hfU, hcU, hmU⟩ := h.u1.sl.form
  subst hfU
  obtain ⟨aC, capC, hfC, hcC, hmC⟩ := h.c0.sl.form
  subst hfC
  obtain ⟨kU, fU⟩ := h.cells 1 (by omega)
  obtain ⟨kC, fC⟩ := h.cells 2 (by omega)
  simp only [refCell] at kU kC
  have hgl : g < w.heap.size := World.block_lt_of_cell? w _ kU
  have hC1 : Sl ((w.alloc (.cells #[] 5)).drew) (.slice aC st.a.come.length capC) st.a.come := h.c0.sl.turned (fresh0 w _) (fun _ _ h => h)
  have ho0 : Own ((w.alloc (.cells #[] 5)).drew) (.slice (some ⟨w.heap.size, 0, none⟩) 0 0) [] := (Own.empty w _ _ rfl).turned (Turned.drew (fun _ => False) _) (fun _ _ h => h)
  have hn1 : (n : Int) ≤ st.b.und.length := by omega
  have hn2 : (n : Int) ≤ capU := by omega
  have hn0 : (0 : Int) ≤ (n : Int) := by omega
  have hw0 : IntKind.i64.wrap 0 = 0 := by decide
  have hw1 : IntKind.i64.wrap 1 = 1 := by decide
  have HH : Hid (RefMem w g st U0 (.slice aU st.b.und.length capU) (.slice aC st.a.come.length capC) C1) := h
  clear h
  go_enter Tryd.func47, Tryd.ntmps47
  go_upto_region 0 with fail
  go_cut [] (fun wc => ∃ C', RefMem wc g { st with a := { st.a with come := st.a.come ++ st.b.und.take n } } U0 (.slice aU st.b.und.length capU) C' C1 ∧ Turned (fun k => k = g) w wc ∧ ∀ k, blk C' k → w.heap.size ≤ k)
  case first =>
    go_region_law (first
      | (refine step_append_bytes (by rfl) (.tmp 9) (.tmp 16) (by rfl) Tryd.bytes (by rfl) (by rfl) ho0 hC1 (by simp; omega) ?_; intro v1 w1 ho1 ht1 hb1; have T1 := fresh1 ht1; have kU1 : w1.cell? ⟨g, 1, none⟩ = some (.slice aU st.b.und.length capU) := T1.cell kU (fun h => h); have hU1 : Sl w1 (.slice aU n capU) (st.b.und.take n) := (HH.out.u1.sl.take hn).turned T1 (fun _ _ h => h))
      | (refine step_append_bytes (by rfl) (.tmp 17) (.tmp 25) (by rfl) Tryd.bytes (by rfl) (by rfl) ho1 hU1 (by simp; omega) ?_; intro v2 w2 ho2 ht2 hb2; have T2 := fresh2 T1 hb1 ht2; have hB2 := freshB T1 hb1 hb2; obtain ⟨a2, cap2, rfl, hc2, hm2⟩ := ho2.sl.form; have f2 : w2.frozen? ⟨g, 2, none⟩ = false := (T2.frozen (p := ⟨g, 2, none⟩) hgl (fun h => h)).trans fC; have c2 : w2.cell? ⟨g, 2, none⟩ = some (.slice aC st.a.come.length capC) := T2.cell kC (fun h => h)))
    all_goals
      go_wp2_with fail
      have hl : (st.b.und.take n).length = n := by simp; omega
      simp only [List.nil_append, List.length_append, hl] at ho2 hB2
      have R := (HH.out.turned T2 (fun _ _ h => h)).setCome0 (partOf hgl ho2 hB2)
      go_meet
      exact ⟨_, R, (T2.mono (fun _ h => h.elim)).trans (Turned.setCell w2 ⟨g, 2, none⟩ _) (fun _ h => .inl h), hB2⟩
  case rest =>
    obtain ⟨C', R1, TA, hBC⟩ := hcut
    obtain ⟨wA, hwA⟩ : ∃ wA, wA = wc := ⟨_, rfl⟩
    subst hwA
    obtain ⟨jU, jF⟩ := R1.cells 1 (by omega)
    simp only [refCell] at jU
    have hgc : g < wA.heap.size := World.block_lt_of_cell? wA _ jU
    have hD1 : Sl ((wA.alloc (.cells #[] 5)).drew) (.slice (if capU = n then aU else aU.map (·.add n)) (st.b.und.length - n) (capU - n)) (st.b.und.drop n) := (R1.u1.sl.drop hn).turned (fresh0 wA _) (fun _ _ h => h)
    have ho1 : Own ((wA.alloc (.cells #[] 5)).drew) (.slice (some ⟨wA.heap.size, 0, none⟩) 0 0) [] := (Own.empty wA _ _ rfl).turned (Turned.drew (fun _ => False) _) (fun _ _ h => h)
    have HR : Hid (RefMem wA g { st with a := { st.a with come := st.a.come ++ st.b.und.take n } } U0 (.slice aU st.b.und.length capU) C' C1) := R1
    have HT : Hid (Turned (fun k => k = g) w wA) := TA
    have HBC : Hid (∀ k, blk C' k → w.heap.size ≤ k) := hBC
    clear hBC
    clear R1 TA kU kC fU fC hC1 ho0
    go_upto_region 1 with fail
    go_cut [] (fun wc => ∃ U', RefMem wc g { st with b := { st.b with und := st.b.und.drop n }, a := { st.a with come := st.a.come ++ st.b.und.take n } } U0 U' C' C1 ∧ Turned (fun k => k = g) w wc ∧ ∀ k, blk U' k → w.heap.size ≤ k)
    case first =>
      go_region_law (refine step_append_bytes (by rfl) (.tmp 32) (.tmp 40) (by rfl) Tryd.bytes (by rfl) (by rfl) ho1 hD1 (by simp; omega) ?_; intro v1 w1 ho2 ht1 hb1; have T1 := fresh1 ht1; obtain ⟨a2, cap2, rfl, hc2, hm2⟩ := ho2.sl.form; have f2 : w1.frozen? ⟨g, 1, none⟩ = false := (T1.frozen (p := ⟨g, 1, none⟩) hgc (fun h => h)).trans jF; have c2 : w1.cell? ⟨g, 1, none⟩ = some (.slice aU st.b.und.length capU) := T1.cell jU (fun h => h))
      all_goals
        clear hD1
        generalize (if capU = n then aU else Option.map (fun z => z.add n) aU) = aD
        go_wp2_with fail
        have hB1 := freshB1 hb1
        simp only [List.nil_append, List.length_drop] at ho2 hB1
        have R := (HR.out.turned T1 (fun _ _ h => h)).setUnd1 (partOf hgc ho2 hB1)
        go_meet
        exact ⟨_, R, HT.out.trans ((T1.mono (T := fun k => k = g) (fun _ h => h.elim)).trans (Turned.setCell w1 ⟨g, 1, none⟩ _) (fun _ h => .inl h)) (fun _ h => .inl h), fun k hk => Nat.le_trans HT.out.size (hB1 k hk)⟩
    case rest =>
      obtain ⟨U', R2, TB, hBU⟩ := hcut
      obtain ⟨kM, fM⟩ := R2.cells 6 (by omega)
      simp only [refCell] at kM
      have HR2 : Hid (RefMem wc g { st with b := { st.b with und := st.b.und.drop n }, a := { st.a with come := st.a.come ++ st.b.und.take n } } U0 U' C' C1) := R2
      have HT2 : Hid (Turned (fun k => k = g) w wc) := TB
      have HBU : Hid (∀ k, blk U' k → w.heap.size ≤ k) := hBU
      clear hBU
      clear R2 TB jU jF hD1 ho1
      go_wp2
      go_region
      go_wp2
      go_end0
      exact ⟨U', C', rfl, (HR2.out.setMoved0 _).drew, HT2.out.trans ((Turned.setCell wc ⟨g, 6, none⟩ _).trans (Turned.drew (fun _ => False) _) (fun _ h => h.elim)) (fun _ h => .inl h), HBU.out, HBC.out⟩
end Go.Proofs.YtjkmklbkemoldaaDoor
