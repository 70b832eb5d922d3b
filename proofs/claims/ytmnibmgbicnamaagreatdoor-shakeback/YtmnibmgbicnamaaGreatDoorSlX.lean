/-
  Parts of slices of bytes; bytes.Clone.
-/
import Derived.Test.YtmnibmgbicnamaaGreatDoorM3
namespace Go.Proofs.YtmnibmgbicnamaaGreatDoor
open Go.RowKit

/-- The beginning of a slice. -/
theorem Sl.take {w : World} {a : Option Addr} {cap n : Nat} {zs : List Int} (h : Sl w (.slice a zs.length cap) zs) (hn : n ≤ zs.length) : Sl w (.slice a n cap) (zs.take n) := by
  have hl : (zs.take n).length = n := by simp; omega
  rcases h with ⟨h1, rfl⟩ | ⟨a', h1, rfl⟩ | ⟨g, off, cap', h1, h2, h3, h4⟩
  · cases h1
    have : n = 0 := by simpa using hn
    subst this
    exact .inl ⟨rfl, rfl⟩
  · cases h1
    have : n = 0 := by simpa using hn
    subst this
    exact .inr (.inl ⟨a', rfl, rfl⟩)
  · cases h1
    refine .inr (.inr ⟨g, off, cap, by rw [hl], by rw [hl]; omega, h3, fun j hj => ?_⟩)
    rw [hl] at hj
    rw [h4 j (by omega), List.getElem_take]
/-- The rest of a slice. -/
theorem Sl.drop {w : World} {a : Option Addr} {cap n : Nat} {zs : List Int} (h : Sl w (.slice a zs.length cap) zs) (hn : n ≤ zs.length) : Sl w (.slice (if cap = n then a else a.map (·.add n)) (zs.length - n) (cap - n)) (zs.drop n) := by
  rcases h with ⟨h1, rfl⟩ | ⟨a', h1, rfl⟩ | ⟨g, off, cap', h1, h2, h3, h4⟩
  · cases h1
    have : n = 0 := by simpa using hn
    subst this
    exact .inl ⟨by simp, rfl⟩
  · cases h1
    have : n = 0 := by simpa using hn
    subst this
    exact .inr (.inl ⟨a', by simp, rfl⟩)
  · cases h1
    by_cases hc : cap = n
    · rw [if_pos hc]
      refine .inr (.inr ⟨g, off, cap - n, by simp, by simp; omega, by omega, fun j hj => ?_⟩)
      simp at hj; omega
    · rw [if_neg hc]
      refine .inr (.inr ⟨g, off + n, cap - n, by simp [Addr.add_lit], by simp; omega, by omega, fun j hj => ?_⟩)
      rw [List.getElem_drop, ← h4 (n + j) (by simp at hj; omega), Nat.add_assoc]
/-- Of no bytes nothing can turn. -/
theorem Sl.turnedN {S : Nat → Prop} {w w' : World} {v : Value} {zs : List Int} (h : Sl w v zs) (ht : Turned S w w') (hs : zs ≠ [] → ∀ k, blk v k → ¬ S k) : Sl w' v zs := by
  cases zs with
  | nil =>
    rcases h with h | h | ⟨g, off, cap, h1, h2, h3, _⟩
    · exact .inl h
    · exact .inr (.inl h)
    · exact .inr (.inr ⟨g, off, cap, h1, h2, h3, fun j hj => absurd hj (Nat.not_lt_zero j)⟩)
  | cons z r => exact h.turned ht (hs (by simp))
/-- A slice that has a byte lies in a block that is there. -/
theorem Sl.lt {w : World} {v : Value} {zs : List Int} (h : Sl w v zs) (hne : zs ≠ []) : ∀ k, blk v k → k < w.heap.size := by
  rcases h with ⟨_, h⟩ | ⟨_, _, h⟩ | ⟨g, off, cap, rfl, _, _, h4⟩
  · exact absurd h hne
  · exact absurd h hne
  · intro k hk
    have hk : g = k := hk
    subst hk
    have h0 : 0 < zs.length := List.length_pos_iff.2 hne
    exact World.block_lt_of_cell? w _ (h4 0 h0)

/-- 'x[l:l+n]' of a slice of bytes. -/
theorem run_cut2 {P : Program} {t e : TypeId} (hB : ByteTypes P t e) {a : Option Addr} {len cap l n : Nat} (h : l + n ≤ cap) (W : World) :
    (Instr.slice t (.slice a len cap) (some (.int .i64 (l : Int))) (some (.int .i64 ((l : Int) + (n : Int)))) none).run P W = .ok (.slice (if cap = l then a else a.map (·.add l)) n (cap - l)) W := by
  obtain ⟨i, hi, hz, hsz, hby⟩ := hB.info
  have e1 : ((l : Int) + (n : Int)).toNat = l + n := by omega
  have e3 : l + n - l = n := by omega
  have b2 := run_sliceBound (P := P) (w := W) .i64 ((l : Int) + (n : Int)) cap .sliceAcap (by omega) (by omega)
  have b3 := run_sliceBound (P := P) (w := W) .i64 (l : Int) (l + n) .sliceB (by omega) (by omega)
  simp [Instr.slice, run_underlying hB.slice, Instr.sliceBounds, b2, b3, e1, e3, sizeOf, typeInfo, hi, hsz]
theorem blk_if {a : Option Addr} {n m cap len p : Nat} {c : Prop} [Decidable c] : ∀ k, blk (.slice (if c then a else a.map (·.add p)) n m) k → blk (.slice a len cap) k := by
  intro k hk
  by_cases h : c
  · rw [if_pos h] at hk
    cases a with
    | none => exact hk
    | some a => exact hk
  · rw [if_neg h] at hk
    cases a with
    | none => exact hk
    | some a =>
      by_cases h0 : p = 0
      · subst h0; simpa [blk, Addr.add] using hk
      · simpa [blk, Addr.add, h0] using hk
/-- 'x[l:]' of a slice of bytes. -/
theorem run_cutFrom {P : Program} {t e : TypeId} (hB : ByteTypes P t e) {a : Option Addr} {len cap l : Nat} (h : l ≤ len) (W : World) :
    (Instr.slice t (.slice a len cap) (some (.int .i64 (l : Int))) none none).run P W = .ok (.slice (if cap = l then a else a.map (·.add l)) (len - l) (cap - l)) W := by
  obtain ⟨i, hi, hz, hsz, hby⟩ := hB.info
  have b3 := run_sliceBound (P := P) (w := W) .i64 (l : Int) len .sliceB (by omega) (by omega)
  simp [Instr.slice, run_underlying hB.slice, Instr.sliceBounds, b3, sizeOf, typeInfo, hi, hsz]
set_option maxRecDepth 100000 in
/-- bytes.Clone. -/
theorem clone_any {w : World} {x : Value} {zs : List Int} (hx : Sl w x zs) (hl : zs.length ≤ 1099511627776) :
    Calls Tryz.prog 97 #[x] w fun e w' => ∃ V, e = .returned V ∧ Own w' V zs ∧ Turned (fun _ => False) w w' ∧ ∀ k, blk V k → w.heap.size ≤ k := by
  have q : ∀ (w : World) (a : Option Addr) (n c n' c' : Nat), (binOp .eql 25 (.slice a n c) (.slice none n' c')).run Tryz.prog w = .ok (.bool a.isNone) w := fun w a n c n' c' => Lib.run_eql_slice_nil w _ _ a n c n' c' Tryz.underlying25
  obtain ⟨a, cap, hf, hc, hm⟩ := hx.form
  subst hf
  cases a with
  | none =>
    have h0 : zs = [] := by
      rcases hx with ⟨_, h⟩ | ⟨_, h, _⟩ | ⟨_, _, _, h, _⟩
      · exact h
      · cases h
      · cases h
    subst h0
    have hcap : cap = 0 := by
      rcases hx with ⟨h, _⟩ | ⟨_, h, _⟩ | ⟨_, _, _, h, _⟩
      · cases h; rfl
      · cases h
      · cases h
    subst hcap
    go_enter Tryz.func97, Tryz.ntmps97
    go_wp2
    go_ret
    exact ⟨_, rfl, .inl ⟨rfl, rfl⟩, Turned.refl _ _, fun k hk => hk.elim⟩
  | some a =>
    have hx1 : Sl (w.alloc (.cells #[] 5)) (.slice (some a) zs.length cap) zs := hx.turned (alloc0m w _) (fun _ _ h => h)
    have ho0 : Own (w.alloc (.cells #[] 5)) (.slice (some ⟨w.heap.size, 0, none⟩) 0 0) [] := Own.empty w _ _ rfl
    clear hx
    go_enter Tryz.func97, Tryz.ntmps97
    go_wp2_with (at_builtin; refine wpList_append_bytes (by rfl) (.tmp 5) (.tmp 6) (by rfl) Tryz.bytes (by rfl) (by rfl) ho0 hx1 (by simp; omega) ?_; intro v1 w1 ho1 ht1 hb1)
    go_ret
    refine ⟨v1, rfl, by simpa using ho1, (alloc0m w _).trans ht1 (fun _ hk => .inr (Nat.le_of_eq hk)), fun k hk => (hb1 k hk).elim (fun h => Nat.le_of_eq h) (fun h => by simp at h; omega)⟩
end Go.Proofs.YtmnibmgbicnamaaGreatDoor
