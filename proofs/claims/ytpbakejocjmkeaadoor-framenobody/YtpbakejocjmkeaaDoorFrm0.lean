/-
  The program's frames: faults, the greatest body, bytes.Clone, parts of slices, the number that bytes are.
-/
import Derived.Test.YtpbakejocjmkeaaDoorFSame
namespace Go.Proofs.YtpbakejocjmkeaaDoor
open Go.RowKit

theorem frm_refuse (a c : Int) (w : World) : Calls Tryd.prog 25 #[.int .i64 a, .int .i64 c] w fun e w' => ∃ v, e = .returned v ∧ FaultAt w.heap.size w' v (a, c) ∧ Below w.heap.size w w' := by
  go_enter Tryd.func25, Tryd.ntmps25
  go_wp2
  go_ret
  exact ⟨_, rfl, ⟨_, Nat.le_refl _, rfl, by simp, by simp, by simp, by simp⟩, (Below.refl _ _).alloc (Nat.le_refl _) _⟩

theorem frm_greatest_no (n : Int) (h2 : n ≠ 2) (h4 : n ≠ 4) (w : World) : Calls Tryd.prog 24 #[.int .i64 n] w fun e w' => e = .returned (.tuple #[.int .i64 0, .bool false]) ∧ w = w' := by
  have k2 : (n == 2) = false := by simpa using h2
  have k4 : (n == 4) = false := by simpa using h4
  go_enter Tryd.func24, Tryd.ntmps24
  go_wp2
  go_ret2
  exact ⟨rfl, rfl⟩
theorem frm_greatest (n : Nat) (hn : n = 2 ∨ n = 4) (w : World) : Calls Tryd.prog 24 #[.int .i64 n] w fun e w' => e = .returned (.tuple #[.int .i64 (most n), .bool true]) ∧ w = w' := by
  rcases hn with rfl | rfl
  all_goals
    go_enter Tryd.func24, Tryd.ntmps24
    go_wp2
    go_ret2
    exact ⟨rfl, rfl⟩

/-- A part of a slice, with no room behind it. -/
theorem Sl.part {w : World} {a : Option Addr} {cap : Nat} {pre zs : List Int} (h : Sl w (.slice a (pre.length + zs.length) cap) (pre ++ zs)) {n : Nat} (hn : n ≤ zs.length) : Sl w (.slice (if n = 0 then a else a.map (·.add pre.length)) n n) (zs.take n) := by
  have hl : (zs.take n).length = n := by simp; omega
  by_cases h0 : n = 0
  · subst h0
    rw [if_pos rfl]
    cases a with
    | none => exact .inl ⟨rfl, rfl⟩
    | some a => exact .inr (.inl ⟨a, rfl, rfl⟩)
  · rw [if_neg h0]
    rcases h with ⟨h1, h2⟩ | ⟨a', h1, h2⟩ | ⟨g, off, cap', h1, h2, h3, h4⟩
    · have := congrArg List.length h2; simp only [List.length_append, List.length_nil] at this; omega
    · have := congrArg List.length h2; simp only [List.length_append, List.length_nil] at this; omega
    · rw [List.length_append] at h1
      cases h1
      refine .inr (.inr ⟨g, off + pre.length, n, by rw [hl]; simp [Addr.add_lit], by rw [hl]; exact Nat.le_refl _, by simp at h2; omega, fun j hj => ?_⟩)
      rw [hl] at hj
      have := h4 (pre.length + j) (by simp; omega)
      rw [Nat.add_assoc, this, List.getElem_append_right (by omega)]
      simp
/-- 'x[l:e:e]' of a slice of bytes. -/
theorem run_cut3 {P : Program} {t e : TypeId} (hB : ByteTypes P t e) {a : Option Addr} {len cap l n : Nat} (h : l + n ≤ cap) (W : World) :
    (Instr.slice t (.slice a len cap) (some (.int .i64 (l : Int))) (some (.int .i64 ((l : Int) + (n : Int)))) (some (.int .i64 ((l : Int) + (n : Int))))).run P W = .ok (.slice (if n = 0 then a else a.map (·.add l)) n n) W := by
  obtain ⟨i, hi, hz, hsz, hby⟩ := hB.info
  have e1 : ((l : Int) + (n : Int)).toNat = l + n := by omega
  have e3 : l + n - l = n := by omega
  have b1 := run_sliceBound (P := P) (w := W) .i64 ((l : Int) + (n : Int)) cap .slice3Acap (by omega) (by omega)
  have b2 := run_sliceBound (P := P) (w := W) .i64 ((l : Int) + (n : Int)) (l + n) .slice3B (by omega) (by omega)
  have b3 := run_sliceBound (P := P) (w := W) .i64 (l : Int) (l + n) .slice3C (by omega) (by omega)
  simp [Instr.slice, run_underlying hB.slice, Instr.sliceBounds, b1, b2, b3, e1, e3, sizeOf, typeInfo, hi, hsz]
/-- 'x[l:]' of a slice of bytes. -/
theorem run_cutFrom {P : Program} {t e : TypeId} (hB : ByteTypes P t e) {a : Option Addr} {len cap l : Nat} (h : l ≤ len) (W : World) :
    (Instr.slice t (.slice a len cap) (some (.int .i64 (l : Int))) none none).run P W = .ok (.slice (if cap = l then a else a.map (·.add l)) (len - l) (cap - l)) W := by
  obtain ⟨i, hi, hz, hsz, hby⟩ := hB.info
  have b3 := run_sliceBound (P := P) (w := W) .i64 (l : Int) len .sliceB (by omega) (by omega)
  simp [Instr.slice, run_underlying hB.slice, Instr.sliceBounds, b3, sizeOf, typeInfo, hi, hsz]

set_option maxRecDepth 100000 in
/-- bytes.Clone. -/
theorem clone_any {w : World} {x : Value} {zs : List Int} (hx : Sl w x zs) (hl : zs.length ≤ 1099511627776) :
    Calls Tryd.prog 31 #[x] w fun e w' => ∃ V, e = .returned V ∧ Own w' V zs ∧ Turned (fun _ => False) w w' ∧ ∀ k, blk V k → w.heap.size ≤ k := by
  have q : ∀ (w : World) (a : Option Addr) (n c n' c' : Nat), (binOp .eql 22 (.slice a n c) (.slice none n' c')).run Tryd.prog w = .ok (.bool a.isNone) w := fun w a n c n' c' => Lib.run_eql_slice_nil w _ _ a n c n' c' Tryd.underlying22
  obtain ⟨a, cap, hf, hc, hm⟩ := hx.form
  subst hf
  cases a with
  | none =>
    have h0 : zs = [] := by
      rcases hx with ⟨_, h⟩ | ⟨_, h, _⟩ | ⟨_, _, _, h, _⟩
      · exact h
      · cases h
      · cases h
    subst h0
    have hcap : cap = 0 := by
      rcases hx with ⟨h, _⟩ | ⟨_, h, _⟩ | ⟨_, _, _, h, _⟩
      · cases h; rfl
      · cases h
      · cases h
    subst hcap
    go_enter Tryd.func31, Tryd.ntmps31
    go_wp2
    go_ret
    exact ⟨_, rfl, .inl ⟨rfl, rfl⟩, Turned.refl _ _, fun k hk => hk.elim⟩
  | some a =>
    have hx1 : Sl (w.alloc (.cells #[] 5)) (.slice (some a) zs.length cap) zs := hx.turned (alloc0f w _) (fun _ _ h => h)
    have ho0 : Own (w.alloc (.cells #[] 5)) (.slice (some ⟨w.heap.size, 0, none⟩) 0 0) [] := Own.empty w _ _ rfl
    clear hx
    go_enter Tryd.func31, Tryd.ntmps31
    go_wp2_with (at_builtin; refine wpList_append_bytes (by rfl) (.tmp 5) (.tmp 6) (by rfl) Tryd.bytes (by rfl) (by rfl) ho0 hx1 (by simp; omega) ?_; intro v1 w1 ho1 ht1 hb1)
    go_ret
    refine ⟨v1, rfl, by simpa using ho1, (alloc0f w _).trans ht1 (fun _ hk => .inr (Nat.le_of_eq hk)), fun k hk => (hb1 k hk).elim (fun h => Nat.le_of_eq h) (fun h => by simp at h; omega)⟩
end Go.Proofs.YtpbakejocjmkeaaDoor
