/-
  The document's Next (heddleref06.Reader), where a body is there.
-/
import Derived.Test.YtpbakejocjmkeaaDoorF4
namespace Go.Proofs.YtpbakejocjmkeaaDoor
open Go.RowKit

/-- 'x[l:l+n]' of a slice of bytes. -/
theorem run_cut2 {P : Program} {t e : TypeId} (hB : ByteTypes P t e) {a : Option Addr} {len cap l n : Nat} (h : l + n ≤ cap) (W : World) :
    (Instr.slice t (.slice a len cap) (some (.int .i64 (l : Int))) (some (.int .i64 ((l : Int) + (n : Int)))) none).run P W = .ok (.slice (if cap = l then a else a.map (·.add l)) n (cap - l)) W := by
  obtain ⟨i, hi, hz, hsz, hby⟩ := hB.info
  have e1 : ((l : Int) + (n : Int)).toNat = l + n := by omega
  have e3 : l + n - l = n := by omega
  have b2 := run_sliceBound (P := P) (w := W) .i64 ((l : Int) + (n : Int)) cap .sliceAcap (by omega) (by omega)
  have b3 := run_sliceBound (P := P) (w := W) .i64 (l : Int) (l + n) .sliceB (by omega) (by omega)
  simp [Instr.slice, run_underlying hB.slice, Instr.sliceBounds, b2, b3, e1, e3, sizeOf, typeInfo, hi, hsz]
/-- 'x[l+n:]' of a slice of bytes. -/
theorem run_cutRest {P : Program} {t e : TypeId} (hB : ByteTypes P t e) {a : Option Addr} {len cap l n : Nat} (h : l + n ≤ len) (W : World) :
    (Instr.slice t (.slice a len cap) (some (.int .i64 ((l : Int) + (n : Int)))) none none).run P W = .ok (.slice (if cap = l + n then a else a.map (·.add (l + n))) (len - (l + n)) (cap - (l + n))) W := by
  obtain ⟨i, hi, hz, hsz, hby⟩ := hB.info
  have e1 : ((l : Int) + (n : Int)).toNat = l + n := by omega
  have b3 := run_sliceBound (P := P) (w := W) .i64 ((l : Int) + (n : Int)) len .sliceB (by omega) (by omega)
  simp [Instr.slice, run_underlying hB.slice, Instr.sliceBounds, b3, e1, sizeOf, typeInfo, hi, hsz]
theorem blk_if {a : Option Addr} {n m cap len p : Nat} {c : Prop} [Decidable c] : ∀ k, blk (.slice (if c then a else a.map (·.add p)) n m) k → blk (.slice a len cap) k := by
  intro k hk
  by_cases h : c
  · rw [if_pos h] at hk
    cases a with
    | none => exact hk
    | some a => exact hk
  · rw [if_neg h] at hk
    cases a with
    | none => exact hk
    | some a =>
      by_cases h0 : p = 0
      · subst h0; simpa [blk, Addr.add] using hk
      · simpa [blk, Addr.add, h0] using hk
theorem wrapTwice (a : Int) (b c : Nat) : wrap64 (wrap64 (a + b) + c) = wrap64 (a + (b + c : Nat)) := by unfold wrap64; omega


/-- The memory behind it. -/
theorem RdMem.past {w w1 : World} {g m : Nat} {f : FSt} {B D : Value} (h : RdMem w g f B) (T : Turned (fun _ => False) w w1) (hD : Sl w D (f.held.drop (f.width + m))) (hDB : ∀ k, blk D k → blk B k) :
    RdMem ((((w1.setCell ⟨g, 6, none⟩ D).setCell ⟨g, 1, none⟩ (.int .i64 ((f.held.length - (f.width + m) : Nat) : Int))).setCell ⟨g, 2, none⟩ (.int .i64 (wrap64 (f.frames + 1)))).setCell ⟨g, 4, none⟩ (.int .i64 (wrap64 (f.bytes + (f.width + m : Nat))))) g (f.past m false) D ∧
    Turned (fun k => k = g) w ((((w1.setCell ⟨g, 6, none⟩ D).setCell ⟨g, 1, none⟩ (.int .i64 ((f.held.length - (f.width + m) : Nat) : Int))).setCell ⟨g, 2, none⟩ (.int .i64 (wrap64 (f.frames + 1)))).setCell ⟨g, 4, none⟩ (.int .i64 (wrap64 (f.bytes + (f.width + m : Nat))))) ∧ Turned (fun k => k = g) w1 ((((w1.setCell ⟨g, 6, none⟩ D).setCell ⟨g, 1, none⟩ (.int .i64 ((f.held.length - (f.width + m) : Nat) : Int))).setCell ⟨g, 2, none⟩ (.int .i64 (wrap64 (f.frames + 1)))).setCell ⟨g, 4, none⟩ (.int .i64 (wrap64 (f.bytes + (f.width + m : Nat))))) := by
  have T3 := (((Turned.setCell w1 ⟨g, 6, none⟩ D).trans (Turned.setCell _ ⟨g, 1, none⟩ (.int .i64 ((f.held.length - (f.width + m) : Nat) : Int))) (fun _ h => .inl h)).trans (Turned.setCell _ ⟨g, 2, none⟩ (.int .i64 (wrap64 (f.frames + 1)))) (fun _ h => .inl h)).trans (Turned.setCell _ ⟨g, 4, none⟩ (.int .i64 (wrap64 (f.bytes + (f.width + m : Nat))))) (fun _ h => .inl h)
  have hn : ∀ k, blk D k → ¬ k = g := fun k hk => h.ne k (hDB k hk)
  refine ⟨⟨(((((h.cells.turned T (fun h => h)).set 6 D).set 1 _).set 2 _).set 4 _).congr (forall7 rfl ?_ rfl rfl rfl rfl rfl), (hD.turned T (fun _ _ h => h)).turned T3 hn, fun k hk => ?_, hn⟩, (T.mono (fun _ h => h.elim)).trans T3 (fun _ h => .inl h), T3⟩
  · simp [rdCell, FSt.past]
  · have h1 := h.lt k (hDB k hk)
    have h2 := T.size
    have h3 := T3.size
    omega
theorem RdMem.tick {w : World} {g m : Nat} {f : FSt} {B : Value} (h : RdMem w g (f.past m false) B) : RdMem (w.setCell ⟨g, 3, none⟩ (.int .i64 (wrap64 (f.ticks + 1)))) g (f.past m true) B := by
  have T3 := Turned.setCell w ⟨g, 3, none⟩ (.int .i64 (wrap64 (f.ticks + 1)))
  exact ⟨(h.cells.set 3 _).congr (forall7 rfl rfl rfl rfl rfl rfl rfl), h.sl.turned T3 h.ne, fun k hk => Nat.lt_of_lt_of_le (h.lt k hk) T3.size, h.ne⟩

set_option maxRecDepth 100000 in
set_option maxHeartbeats 3200000 in
theorem refNext_ok {w : World} {g m : Nat} {f : FSt} {B : Value} (h : RdMem w g f B) (hok : f.Ok) (hd : f.dead = false) (hL : f.len = (m : Int)) (hl : ¬ most f.width < f.len) (hn : f.width + m ≤ f.held.length) :
    Calls Tryd.prog 19 #[.pointer (some ⟨g, 0, none⟩)] w fun e w' => ∃ V B', e = .returned (.tuple #[V, .bool true, .slice none 0 0]) ∧ Own w' V ((f.held.drop f.width).take m) ∧ (∀ k, blk V k → w.heap.size ≤ k) ∧ RdMem w' g (f.past m (decide (f.width = 4 ∧ m = 0))) B' ∧ (∀ k, blk B' k → blk B k) ∧ Turned (fun k => k = g) w w' := by
  obtain ⟨aB, cB, hfB, hcB, hmB⟩ := h.sl.form
  subst hfB
  obtain ⟨k0, _⟩ := h.cells 0 (by omega)
  obtain ⟨k1, f1⟩ := h.cells 1 (by omega)
  obtain ⟨k2, f2⟩ := h.cells 2 (by omega)
  obtain ⟨k3, f3⟩ := h.cells 3 (by omega)
  obtain ⟨k4, f4⟩ := h.cells 4 (by omega)
  obtain ⟨k5, _⟩ := h.cells 5 (by omega)
  obtain ⟨k6, f6⟩ := h.cells 6 (by omega)
  simp only [rdCell, hd] at k0 k1 k2 k3 k4 k5 k6
  have hgl : g < w.heap.size := World.block_lt_of_cell? w _ k6
  have hlen := length_any h.sl hok.rng hok.width 0 (Nat.zero_le _) (by have := hok.held; omega)
  have hgr := greatest_any f.width w
  have hLL : lenAt f.width f.held 0 = (m : Int) := hL
  rw [hLL] at hlen
  rw [hL] at hl
  have hw4 : f.width ≤ 4 := by rcases hok.width with h | h <;> omega
  have hh := hok.held
  have hm0 : ¬ (m : Int) < 0 := by omega
  have hnn : ¬ (f.held.length : Int) - f.width < (m : Int) := by omega
  obtain ⟨aF, haF⟩ : ∃ aF, aF = (if cB = f.width then aB else aB.map (·.add f.width)) := ⟨_, rfl⟩
  have hc2 := fun W : World => run_cut2 Tryd.bytes (a := aB) (len := f.held.length) (cap := cB) (l := f.width) (n := m) (by omega) W
  have hF : Sl w (.slice aF m (cB - f.width)) ((f.held.drop f.width).take m) := by
    rw [haF]
    have h1 := h.sl.drop (n := f.width) (by omega)
    have h2 : (f.held.drop f.width).length = f.held.length - f.width := by simp
    rw [← h2] at h1
    exact h1.take (by rw [h2]; omega)
  obtain ⟨aD, haD⟩ : ∃ aD, aD = (if cB = f.width + m then aB else aB.map (·.add (f.width + m))) := ⟨_, rfl⟩
  have hc3 := fun W : World => run_cutRest Tryd.bytes (a := aB) (len := f.held.length) (cap := cB) (l := f.width) (n := m) hn W
  have hD : Sl w (.slice aD (f.held.length - (f.width + m)) (cB - (f.width + m))) (f.held.drop (f.width + m)) := by rw [haD]; exact h.sl.drop hn
  have hDB : ∀ k, blk (.slice aD (f.held.length - (f.width + m)) (cB - (f.width + m))) k → blk (.slice aB f.held.length cB) k := fun k hk => by rw [haD] at hk; exact blk_if k hk
  rw [← haF] at hc2
  rw [← haD] at hc3
  have HP := fun (w1 : World) (T : Turned (fun _ => False) w w1) => h.past T hD hDB
  have HPP : Hid (∀ (w1 : World) (T : Turned (fun _ => False) w w1), _) := HP
  have hFa := fun t : TypeId => hF.turned (alloc0f w (.cells #[] t)) (fun _ _ h => h)
  have ho0 := fun t : TypeId => Own.empty w t _ rfl
  have hml : ((f.held.drop f.width).take m).length = m := by simp; omega
  have HDB : Hid (∀ k, blk (.slice aD (f.held.length - (f.width + m)) (cB - (f.width + m))) k → blk (.slice aB f.held.length cB) k) := hDB
  have hwt := wrapTwice f.bytes f.width m
  clear h hF hD hDB haF haD hok hL hLL HP
  generalize most f.width = M at hl hgr
  by_cases hw : f.width = 4
  · have hq : ((f.width : Int) == 4) = true := by simp; omega
    by_cases hz : m = 0
    · have hzz : ((m : Int) == 0) = true := by simp; omega
      have ht : decide (f.width = 4 ∧ m = 0) = true := by simp [hw, hz]
      rw [ht]
      clear ht hw hz
      go_enter Tryd.func19, Tryd.ntmps19
      go_wp2_with fail
      refine hlen.mono ?_
      rintro e w' ⟨rfl, rfl⟩
      go_wp2_with fail
      refine hgr.mono ?_
      rintro e w' ⟨rfl, rfl⟩
      go_wp2_with (at_builtin; refine wpList_append_bytes (by rfl) (.tmp 57) (.tmp 66) (by rfl) Tryd.bytes (by rfl) (by rfl) (ho0 _) (hFa _) (by simp; omega) ?_; intro v1 w1 ho1 ht1 hb1; have T1 : Turned (fun _ => False) w w1 := (alloc0f w _).trans ht1 (fun _ hk => .inr (Nat.le_of_eq hk)); have hk1 : ∀ k, blk v1 k → w.heap.size ≤ k := fun k hk => (hb1 k hk).elim (fun h => Nat.le_of_eq h) (fun h => by simp at h; omega); simp only [List.nil_append] at ho1; have j1 := T1.cell (p := ⟨g, 1, none⟩) k1 (fun h => h); have j2 := T1.cell (p := ⟨g, 2, none⟩) k2 (fun h => h); have j3 := T1.cell (p := ⟨g, 3, none⟩) k3 (fun h => h); have j4 := T1.cell (p := ⟨g, 4, none⟩) k4 (fun h => h); have j6 := T1.cell (p := ⟨g, 6, none⟩) k6 (fun h => h); have e1 := (T1.frozen (p := ⟨g, 1, none⟩) hgl (fun h => h)).trans f1; have e2 := (T1.frozen (p := ⟨g, 2, none⟩) hgl (fun h => h)).trans f2; have e3 := (T1.frozen (p := ⟨g, 3, none⟩) hgl (fun h => h)).trans f3; have e4 := (T1.frozen (p := ⟨g, 4, none⟩) hgl (fun h => h)).trans f4; have e6 := (T1.frozen (p := ⟨g, 6, none⟩) hgl (fun h => h)).trans f6; have HT1 : Hid (Turned (fun _ => False) w w1) := T1; clear T1 ht1 hb1 k1 k2 k3 k4 k6 f1 f2 f3 f4 f6)
      go_ret3
      have R := HPP.out w1 HT1.out
      simp only [Int.natCast_add] at R
      have hgv : ∀ k, blk v1 k → ¬ k = g := fun k hk he => by have := hk1 k hk; omega
      have T9 := fun W : World => Turned.setCell W ⟨g, 3, none⟩ (.int .i64 (wrap64 (f.ticks + 1)))
      exact ⟨v1, _, rfl, (ho1.turned R.2.2 hgv).turned (T9 _) hgv, hk1, R.1.tick, HDB.out, R.2.1.trans (T9 _) (fun _ h => .inl h)⟩
    · have hzz : ((m : Int) == 0) = false := by simp; omega
      have ht : decide (f.width = 4 ∧ m = 0) = false := by simp [hz]
      rw [ht]
      clear ht hw hz
      go_enter Tryd.func19, Tryd.ntmps19
      go_wp2_with fail
      refine hlen.mono ?_
      rintro e w' ⟨rfl, rfl⟩
      go_wp2_with fail
      refine hgr.mono ?_
      rintro e w' ⟨rfl, rfl⟩
      go_wp2_with (at_builtin; refine wpList_append_bytes (by rfl) (.tmp 57) (.tmp 66) (by rfl) Tryd.bytes (by rfl) (by rfl) (ho0 _) (hFa _) (by simp; omega) ?_; intro v1 w1 ho1 ht1 hb1; have T1 : Turned (fun _ => False) w w1 := (alloc0f w _).trans ht1 (fun _ hk => .inr (Nat.le_of_eq hk)); have hk1 : ∀ k, blk v1 k → w.heap.size ≤ k := fun k hk => (hb1 k hk).elim (fun h => Nat.le_of_eq h) (fun h => by simp at h; omega); simp only [List.nil_append] at ho1; have j1 := T1.cell (p := ⟨g, 1, none⟩) k1 (fun h => h); have j2 := T1.cell (p := ⟨g, 2, none⟩) k2 (fun h => h); have j3 := T1.cell (p := ⟨g, 3, none⟩) k3 (fun h => h); have j4 := T1.cell (p := ⟨g, 4, none⟩) k4 (fun h => h); have j6 := T1.cell (p := ⟨g, 6, none⟩) k6 (fun h => h); have e1 := (T1.frozen (p := ⟨g, 1, none⟩) hgl (fun h => h)).trans f1; have e2 := (T1.frozen (p := ⟨g, 2, none⟩) hgl (fun h => h)).trans f2; have e3 := (T1.frozen (p := ⟨g, 3, none⟩) hgl (fun h => h)).trans f3; have e4 := (T1.frozen (p := ⟨g, 4, none⟩) hgl (fun h => h)).trans f4; have e6 := (T1.frozen (p := ⟨g, 6, none⟩) hgl (fun h => h)).trans f6; have HT1 : Hid (Turned (fun _ => False) w w1) := T1; clear T1 ht1 hb1 k1 k2 k3 k4 k6 f1 f2 f3 f4 f6)
      go_ret3
      have R := HPP.out w1 HT1.out
      simp only [Int.natCast_add] at R
      have hgv : ∀ k, blk v1 k → ¬ k = g := fun k hk he => by have := hk1 k hk; omega
      exact ⟨v1, _, rfl, ho1.turned R.2.2 hgv, hk1, R.1, HDB.out, R.2.1⟩
  · have hq : ((f.width : Int) == 4) = false := by simp; omega
    have ht : decide (f.width = 4 ∧ m = 0) = false := by simp [hw]
    rw [ht]
    clear ht hw
    go_enter Tryd.func19, Tryd.ntmps19
    go_wp2_with fail
    refine hlen.mono ?_
    rintro e w' ⟨rfl, rfl⟩
    go_wp2_with fail
    refine hgr.mono ?_
    rintro e w' ⟨rfl, rfl⟩
    go_wp2_with (at_builtin; refine wpList_append_bytes (by rfl) (.tmp 57) (.tmp 66) (by rfl) Tryd.bytes (by rfl) (by rfl) (ho0 _) (hFa _) (by simp; omega) ?_; intro v1 w1 ho1 ht1 hb1; have T1 : Turned (fun _ => False) w w1 := (alloc0f w _).trans ht1 (fun _ hk => .inr (Nat.le_of_eq hk)); have hk1 : ∀ k, blk v1 k → w.heap.size ≤ k := fun k hk => (hb1 k hk).elim (fun h => Nat.le_of_eq h) (fun h => by simp at h; omega); simp only [List.nil_append] at ho1; have j1 := T1.cell (p := ⟨g, 1, none⟩) k1 (fun h => h); have j2 := T1.cell (p := ⟨g, 2, none⟩) k2 (fun h => h); have j3 := T1.cell (p := ⟨g, 3, none⟩) k3 (fun h => h); have j4 := T1.cell (p := ⟨g, 4, none⟩) k4 (fun h => h); have j6 := T1.cell (p := ⟨g, 6, none⟩) k6 (fun h => h); have e1 := (T1.frozen (p := ⟨g, 1, none⟩) hgl (fun h => h)).trans f1; have e2 := (T1.frozen (p := ⟨g, 2, none⟩) hgl (fun h => h)).trans f2; have e3 := (T1.frozen (p := ⟨g, 3, none⟩) hgl (fun h => h)).trans f3; have e4 := (T1.frozen (p := ⟨g, 4, none⟩) hgl (fun h => h)).trans f4; have e6 := (T1.frozen (p := ⟨g, 6, none⟩) hgl (fun h => h)).trans f6; have HT1 : Hid (Turned (fun _ => False) w w1) := T1; clear T1 ht1 hb1 k1 k2 k3 k4 k6 f1 f2 f3 f4 f6)
    go_ret3
    have R := HPP.out w1 HT1.out
    simp only [Int.natCast_add] at R
    have hgv : ∀ k, blk v1 k → ¬ k = g := fun k hk he => by have := hk1 k hk; omega
    exact ⟨v1, _, rfl, ho1.turned R.2.2 hgv, hk1, R.1, HDB.out, R.2.1⟩
end Go.Proofs.YtpbakejocjmkeaaDoor
