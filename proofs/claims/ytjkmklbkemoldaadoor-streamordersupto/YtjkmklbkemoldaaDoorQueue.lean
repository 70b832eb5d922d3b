/-
  The program's queues of bytes: how one lies in two cells of its stream's block (Q); bytes.Clone; its size, put and take.
-/
import Derived.Test.YtjkmklbkemoldaaDoorRefMove
import Derived.WalkSpells
namespace Go.Proofs.YtjkmklbkemoldaaDoor
open Go.RowKit

theorem w64 (n : Int) (h : -9223372036854775808 ≤ n ∧ n ≤ 9223372036854775807) : wrap64 n = n := by unfold wrap64; omega

/-- One cell of a block's is another one. -/
def fset (f : Nat → Value) (i : Nat) (v : Value) : Nat → Value := fun j => if j = i then v else f j

/-- The slice V and the number p are a queue of the bytes zs: p that are taken lie ahead of them. -/
def Q (w : World) (V : Value) (p : Nat) (zs : List Int) : Prop := ∃ pre : List Int, pre.length = p ∧ p ≤ zs.length ∧ Own w V (pre ++ zs)

theorem Q.empty (w : World) : Q w (.slice none 0 0) 0 [] := ⟨[], rfl, Nat.le_refl _, .inl ⟨rfl, rfl⟩⟩
theorem Q.turned {S : Nat → Prop} {w w' : World} {V : Value} {p : Nat} {zs : List Int} (h : Q w V p zs) (ht : Turned S w w') (hs : ∀ k, blk V k → ¬ S k) : Q w' V p zs := by
  obtain ⟨pre, h1, h2, h3⟩ := h
  exact ⟨pre, h1, h2, h3.turned ht hs⟩
theorem Q.lt {w : World} {V : Value} {p : Nat} {zs : List Int} (h : Q w V p zs) : ∀ k, blk V k → k < w.heap.size := by
  obtain ⟨pre, h1, h2, h3⟩ := h
  exact h3.blk_lt
theorem Q.le {w : World} {V : Value} {p : Nat} {zs : List Int} (h : Q w V p zs) : p ≤ zs.length := by
  obtain ⟨pre, h1, h2, h3⟩ := h
  exact h2
theorem Q.form {w : World} {V : Value} {p : Nat} {zs : List Int} (h : Q w V p zs) : ∃ a cap, V = .slice a (p + zs.length) cap ∧ p + zs.length ≤ cap ∧ cap ≤ maxLen := by
  obtain ⟨pre, h1, h2, h3⟩ := h
  obtain ⟨a, cap, h4, h5, h6⟩ := h3.sl.form
  rw [List.length_append, h1] at h4 h5
  exact ⟨a, cap, h4, h5, h6⟩

/-- A part of a slice, with no room behind it. -/
theorem Sl.part {w : World} {a : Option Addr} {cap : Nat} {pre zs : List Int} (h : Sl w (.slice a (pre.length + zs.length) cap) (pre ++ zs)) {n : Nat} (hn : n ≤ zs.length) : Sl w (.slice (if n = 0 then a else a.map (·.add pre.length)) n n) (zs.take n) := by
  have hl : (zs.take n).length = n := by simp; omega
  by_cases h0 : n = 0
  · subst h0
    rw [if_pos rfl]
    cases a with
    | none => exact .inl ⟨rfl, rfl⟩
    | some a => exact .inr (.inl ⟨a, rfl, rfl⟩)
  · rw [if_neg h0]
    rcases h with ⟨h1, h2⟩ | ⟨a', h1, h2⟩ | ⟨g, off, cap', h1, h2, h3, h4⟩
    · have := congrArg List.length h2; simp only [List.length_append, List.length_nil] at this; omega
    · have := congrArg List.length h2; simp only [List.length_append, List.length_nil] at this; omega
    · rw [List.length_append] at h1
      cases h1
      refine .inr (.inr ⟨g, off + pre.length, n, by rw [hl]; simp [Addr.add_lit], by rw [hl]; exact Nat.le_refl _, by simp at h2; omega, fun j hj => ?_⟩)
      rw [hl] at hj
      have := h4 (pre.length + j) (by simp; omega)
      rw [Nat.add_assoc, this, List.getElem_append_right (by omega)]
      simp

theorem blk_part {a : Option Addr} {n m cap len p : Nat} {c : Prop} [Decidable c] : ∀ k, blk (.slice (if c then a else a.map (·.add p)) n m) k → blk (.slice a len cap) k := by
  intro k hk
  by_cases h : c
  · rw [if_pos h] at hk
    cases a with
    | none => exact hk
    | some a => exact hk
  · rw [if_neg h] at hk
    cases a with
    | none => exact hk
    | some a =>
      by_cases h0 : p = 0
      · subst h0; simpa [blk, Addr.add] using hk
      · simpa [blk, Addr.add, h0] using hk

theorem alloc0q (w : World) (t : TypeId) : Turned (fun _ => False) w (w.alloc (.cells #[] t)) := Turned.alloc _ _ _

set_option maxRecDepth 100000 in
/-- bytes.Clone. -/
theorem clone_any {w : World} {x : Value} {zs : List Int} (hx : Sl w x zs) (hl : zs.length ≤ 1099511627776) :
    Calls Tryd.prog 37 #[x] w fun e w' => ∃ V, e = .returned V ∧ Own w' V zs ∧ Turned (fun _ => False) w w' ∧ ∀ k, blk V k → w.heap.size ≤ k := by
  have q : ∀ (w : World) (a : Option Addr) (n c n' c' : Nat), (binOp .eql 29 (.slice a n c) (.slice none n' c')).run Tryd.prog w = .ok (.bool a.isNone) w := fun w a n c n' c' => Lib.run_eql_slice_nil w _ _ a n c n' c' Tryd.underlying29
  obtain ⟨a, cap, hf, hc, hm⟩ := hx.form
  subst hf
  cases a with
  | none =>
    have h0 : zs = [] := by
      rcases hx with ⟨_, h⟩ | ⟨_, h, _⟩ | ⟨_, _, _, h, _⟩
      · exact h
      · cases h
      · cases h
    subst h0
    have hcap : cap = 0 := by
      rcases hx with ⟨h, _⟩ | ⟨_, h, _⟩ | ⟨_, _, _, h, _⟩
      · cases h; rfl
      · cases h
      · cases h
    subst hcap
    go_enter Tryd.func37, Tryd.ntmps37
    go_wp2
    go_ret
    exact ⟨_, rfl, .inl ⟨rfl, rfl⟩, Turned.refl _ _, fun k hk => hk.elim⟩
  | some a =>
    have hx1 : Sl (w.alloc (.cells #[] 5)) (.slice (some a) zs.length cap) zs := hx.turned (alloc0q w _) (fun _ _ h => h)
    have ho0 : Own (w.alloc (.cells #[] 5)) (.slice (some ⟨w.heap.size, 0, none⟩) 0 0) [] := Own.empty w _ _ rfl
    clear hx
    go_enter Tryd.func37, Tryd.ntmps37
    go_wp2_with (at_builtin; refine wpList_append_bytes (by rfl) (.tmp 5) (.tmp 6) (by rfl) Tryd.bytes (by rfl) (by rfl) ho0 hx1 (by simp; omega) ?_; intro v1 w1 ho1 ht1 hb1)
    go_ret
    refine ⟨v1, rfl, by simpa using ho1, (alloc0q w _).trans ht1 (fun _ hk => .inr (Nat.le_of_eq hk)), fun k hk => (hb1 k hk).elim (fun h => Nat.le_of_eq h) (fun h => by simp at h; omega)⟩

set_option maxRecDepth 100000 in
theorem size_any {w : World} {sb o p z cap : Nat} {a : Option Addr} (h0 : w.cell? ⟨sb, o, none⟩ = some (.slice a (p + z) cap)) (h1 : w.cell? ⟨sb, o + 1, none⟩ = some (.int .i64 p)) (hl : p + z ≤ 1099511627776) :
    Calls Tryd.prog 36 #[.pointer (some ⟨sb, o, none⟩)] w fun e w' => e = .returned (.int .i64 z) ∧ w' = w.drew := by
  go_enter Tryd.func36, Tryd.ntmps36
  go_wp2
  go_region
  go_wp2
  go_ret
  exact ⟨by simp; omega, rfl⟩
end Go.Proofs.YtjkmklbkemoldaaDoor
