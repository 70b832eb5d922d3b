/-
  The document's Frame (heddleref06).
-/
import Derived.Test.YtpbakejocjmkeaaDoorF1
namespace Go.Proofs.YtpbakejocjmkeaaDoor
open Go.RowKit

theorem alloc0f (w : World) (o : Obj) : Turned (fun _ => False) w (w.alloc o) := Turned.alloc _ _ _
/-- Two bytes of a new block. -/
theorem Sl.two (w : World) (t : TypeId) (x y : Int) : Sl (w.alloc (.cells #[.int .u8 x, .int .u8 y] t)) (.slice (some ⟨w.heap.size, 0, none⟩) 2 2) [x, y] := by
  refine .inr (.inr ⟨w.heap.size, 0, 2, rfl, Nat.le_refl _, by decide, fun j hj => ?_⟩)
  have : j < 2 := hj
  match j, this with
  | 0, _ => simp
  | 1, _ => simp


set_option maxRecDepth 100000 in
set_option maxHeartbeats 1600000 in
theorem refFrame2 {w : World} {b : Value} {bs : List Int} (hx : Sl w b bs) (hl : bs.length ≤ 1024) :
    Calls Tryd.prog 8 #[.int .i64 2, b] w fun e w' => ∃ V, e = .returned (.tuple #[V, .slice none 0 0]) ∧ Own w' V (headOf 2 bs.length ++ bs) ∧ Turned (fun _ => False) w w' ∧ ∀ k, blk V k → w.heap.size ≤ k := by
  obtain ⟨ab, cb, hf, hc, hm⟩ := hx.form
  subst hf
  have hm2 : most 2 = 1024 := rfl
  have h1 : ¬ (1024 : Int) < (bs.length : Int) := by omega
  have hh : headOf 2 bs.length = [(bs.length : Int) / 256, (bs.length : Int) % 256] := rfl
  rw [hh]
  have HX : Hid (Sl w (.slice ab bs.length cb) bs) := hx
  have HT := fun t : TypeId => Sl.two w t ((bs.length : Int) / 256) ((bs.length : Int) % 256)
  have ho0 : ∀ W : World, Own W (.slice none 0 0) [] := fun W => .inl ⟨rfl, rfl⟩
  clear hx
  go_enter Tryd.func8, Tryd.ntmps8
  go_wp2_with fail
  refine (greatest_any 2 w).mono ?_
  rintro e w' ⟨rfl, rfl⟩
  rw [hm2]
  go_wp2_with (first
    | (at_builtin; refine wpList_append_bytes (by rfl) (.tmp 31) (.tmp 37) (by rfl) Tryd.bytes (by rfl) (by rfl) (ho0 _) (HT _) (by simp) ?_; intro v1 w1 ho1 ht1 hb1; have T1 : Turned (fun _ => False) w w1 := (alloc0f w _).trans ht1 (fun _ hk => hk.elim); have hx1 := HX.out.turned T1 (fun _ _ h => h); have hk1 : ∀ k, blk v1 k → w.heap.size ≤ k := fun k hk => (hb1 k hk).elim (fun h => h.elim) (fun h => by simp at h; omega); simp only [List.nil_append] at ho1; obtain ⟨a1, c1, rfl, _, _⟩ := ho1.sl.form)
    | (at_builtin; refine wpList_append_bytes (by rfl) (.tmp 39) (.tmp 40) (by rfl) Tryd.bytes (by rfl) (by rfl) ho1 hx1 (by simp; omega) ?_; intro v2 w2 ho2 ht2 hb2))
  go_ret2
  exact ⟨v2, rfl, ho2, T1.trans ht2 (fun k hk => .inr (hk1 k hk)), fun k hk => (hb2 k hk).elim (hk1 k) (fun h => by have := T1.size; omega)⟩

set_option maxRecDepth 100000 in
set_option maxHeartbeats 1600000 in
theorem refFrame4 {w : World} {b : Value} {bs : List Int} (hx : Sl w b bs) (hl : bs.length ≤ 131072) :
    Calls Tryd.prog 8 #[.int .i64 4, b] w fun e w' => ∃ V, e = .returned (.tuple #[V, .slice none 0 0]) ∧ Own w' V (headOf 4 bs.length ++ bs) ∧ Turned (fun _ => False) w w' ∧ ∀ k, blk V k → w.heap.size ≤ k := by
  obtain ⟨ab, cb, hf, hc, hm⟩ := hx.form
  subst hf
  have hm4 : most 4 = 131072 := rfl
  have h1 : ¬ (131072 : Int) < (bs.length : Int) := by omega
  have hh : headOf 4 bs.length = [(bs.length : Int) / 16777216, (bs.length : Int) / 65536] ++ [(bs.length : Int) / 256 % 256, (bs.length : Int) % 256] := rfl
  rw [hh]
  have HX : Hid (Sl w (.slice ab bs.length cb) bs) := hx
  have HT := fun t : TypeId => Sl.two w t ((bs.length : Int) / 16777216) ((bs.length : Int) / 65536)
  have HT2 := fun (W : World) (t : TypeId) => Sl.two W t ((bs.length : Int) / 256 % 256) ((bs.length : Int) % 256)
  have ho0 : ∀ W : World, Own W (.slice none 0 0) [] := fun W => .inl ⟨rfl, rfl⟩
  clear hx
  go_enter Tryd.func8, Tryd.ntmps8
  go_wp2_with fail
  refine (greatest_any 4 w).mono ?_
  rintro e w' ⟨rfl, rfl⟩
  rw [hm4]
  go_wp2_with (first
    | (at_builtin; refine wpList_append_bytes (by rfl) (.tmp 22) (.tmp 29) (by rfl) Tryd.bytes (by rfl) (by rfl) (ho0 _) (HT _) (by simp) ?_; intro v1 w1 ho1 ht1 hb1; have T1 : Turned (fun _ => False) w w1 := (alloc0f w _).trans ht1 (fun _ hk => hk.elim); have hk1 : ∀ k, blk v1 k → w.heap.size ≤ k := fun k hk => (hb1 k hk).elim (fun h => h.elim) (fun h => by simp at h; omega); simp only [List.nil_append] at ho1; have hoA := fun o : Obj => ho1.turned (alloc0f w1 o) (fun _ _ h => h); obtain ⟨a1, c1, rfl, _, _⟩ := ho1.sl.form)
    | (at_builtin; refine wpList_append_bytes (by rfl) (.tmp 31) (.tmp 37) (by rfl) Tryd.bytes (by rfl) (by rfl) (hoA _) (HT2 _ _) (by simp) ?_; intro v2 w2 ho2 ht2 hb2; have T2 : Turned (fun _ => False) w w2 := (T1.trans (alloc0f w1 _) (fun _ h => h.elim)).trans ht2 (fun k hk => .inr (hk1 k hk)); have hk2 : ∀ k, blk v2 k → w.heap.size ≤ k := fun k hk => (hb2 k hk).elim (hk1 k) (fun h => by have := T1.size; simp at h; omega); have hx2 := HX.out.turned T2 (fun _ _ h => h); obtain ⟨a2, c2, rfl, _, _⟩ := ho2.sl.form)
    | (at_builtin; refine wpList_append_bytes (by rfl) (.tmp 39) (.tmp 40) (by rfl) Tryd.bytes (by rfl) (by rfl) ho2 hx2 (by simp; omega) ?_; intro v3 w3 ho3 ht3 hb3))
  go_ret2
  exact ⟨v3, rfl, ho3, T2.trans ht3 (fun k hk => .inr (hk2 k hk)), fun k hk => (hb3 k hk).elim (hk2 k) (fun h => by have := T2.size; omega)⟩

set_option maxRecDepth 100000 in
theorem refFrame_arg (n : Int) (h2 : n ≠ 2) (h4 : n ≠ 4) (b : Value) (w : World) :
    Calls Tryd.prog 8 #[.int .i64 n, b] w fun e w' => ∃ v, e = .returned (.tuple #[.slice none 0 0, v]) ∧ LinksF w.heap.size w' v (some (0, 1)) ∧ Below w.heap.size w w' := by
  have hm : most n = -1 := by unfold most; rw [if_neg h2, if_neg h4]
  go_enter Tryd.func8, Tryd.ntmps8
  go_wp2_with fail
  refine (greatest_any n w).mono ?_
  rintro e w' ⟨rfl, rfl⟩
  rw [hm]
  go_wp2_with (go_at_call 27; refine (no_any _ _ _).mono ?_; rintro e w1 ⟨v, rfl, hf, hb⟩)
  go_ret2
  exact ⟨v, rfl, hf, hb⟩

set_option maxRecDepth 100000 in
theorem refFrame_long (n : Int) (hn : n = 2 ∨ n = 4) {b : Value} {bs : List Int} {w : World} (hx : Sl w b bs) (hl : most n < (bs.length : Int)) :
    Calls Tryd.prog 8 #[.int .i64 n, b] w fun e w' => ∃ v, e = .returned (.tuple #[.slice none 0 0, v]) ∧ LinksF w.heap.size w' v (some (0, 4)) ∧ Below w.heap.size w w' := by
  obtain ⟨ab, cb, hf, hc, hm⟩ := hx.form
  subst hf
  have hm0 : ¬ most n < 0 := by rcases hn with rfl | rfl <;> decide
  have hg := greatest_any n w
  generalize most n = k at hl hm0 hg
  clear hx
  go_enter Tryd.func8, Tryd.ntmps8
  go_wp2_with fail
  refine hg.mono ?_
  rintro e w' ⟨rfl, rfl⟩
  go_wp2_with (go_at_call 27; refine (no_any _ _ _).mono ?_; rintro e w1 ⟨v, rfl, hf, hb⟩)
  go_ret2
  exact ⟨v, rfl, hf, hb⟩
end Go.Proofs.YtpbakejocjmkeaaDoor
