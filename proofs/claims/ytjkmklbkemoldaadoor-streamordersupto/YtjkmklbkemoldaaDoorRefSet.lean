/-
  The document's stream: one cell of its block is set: the state that it then has.
-/
import Derived.Test.YtjkmklbkemoldaaDoorRefSend
namespace Go.Proofs.YtjkmklbkemoldaaDoor
open Go.RowKit

theorem RefMem.drew {w : World} {g : Nat} {st : St} {U0 U1 C0 C1 : Value} (h : RefMem w g st U0 U1 C0 C1) : RefMem w.drew g st U0 U1 C0 C1 := h.turned (S := fun _ => False) (Turned.drew _ _) (fun _ _ h => h)

/-- The beginning of a slice. -/
theorem Sl.take {w : World} {a : Option Addr} {cap n : Nat} {zs : List Int} (h : Sl w (.slice a zs.length cap) zs) (hn : n ≤ zs.length) : Sl w (.slice a n cap) (zs.take n) := by
  have hl : (zs.take n).length = n := by simp; omega
  rcases h with ⟨h1, rfl⟩ | ⟨a', h1, rfl⟩ | ⟨g, off, cap', h1, h2, h3, h4⟩
  · cases h1
    have : n = 0 := by simpa using hn
    subst this
    exact .inl ⟨rfl, rfl⟩
  · cases h1
    have : n = 0 := by simpa using hn
    subst this
    exact .inr (.inl ⟨a', rfl, rfl⟩)
  · cases h1
    refine .inr (.inr ⟨g, off, cap, by rw [hl], by rw [hl]; omega, h3, fun j hj => ?_⟩)
    rw [hl] at hj
    rw [h4 j (by omega), List.getElem_take]

/-- The rest of a slice. -/
theorem Sl.drop {w : World} {a : Option Addr} {cap n : Nat} {zs : List Int} (h : Sl w (.slice a zs.length cap) zs) (hn : n ≤ zs.length) : Sl w (.slice (if cap = n then a else a.map (·.add n)) (zs.length - n) (cap - n)) (zs.drop n) := by
  rcases h with ⟨h1, rfl⟩ | ⟨a', h1, rfl⟩ | ⟨g, off, cap', h1, h2, h3, h4⟩
  · cases h1
    have : n = 0 := by simpa using hn
    subst this
    exact .inl ⟨by simp, rfl⟩
  · cases h1
    have : n = 0 := by simpa using hn
    subst this
    exact .inr (.inl ⟨a', by simp, rfl⟩)
  · cases h1
    by_cases hc : cap = n
    · rw [if_pos hc]
      refine .inr (.inr ⟨g, off, cap - n, by simp, by simp; omega, by omega, fun j hj => ?_⟩)
      simp at hj; omega
    · rw [if_neg hc]
      refine .inr (.inr ⟨g, off + n, cap - n, by simp [Addr.add_lit], by simp; omega, by omega, fun j hj => ?_⟩)
      rw [List.getElem_drop, ← h4 (n + j) (by simp at hj; omega), Nat.add_assoc]

theorem RefMem.setUnd0 {w : World} {g : Nat} {st : St} {U0 U1 C0 C1 : Value} (h : RefMem w g st U0 U1 C0 C1) {V : Value} {zs : List Int} (hp : Part w g V zs) : RefMem (w.setCell ⟨g, 0, none⟩ V) g { st with a := { st.a with und := zs } } V U1 C0 C1 := by
  have T := Turned.setCell w ⟨g, 0, none⟩ V
  have ns : ∀ k, k < w.heap.size → k ≠ g → ¬ k = g := fun _ _ h => h
  exact ⟨(h.cells.set 0 V).congr (forall13 rfl rfl rfl rfl rfl rfl rfl rfl rfl rfl rfl rfl rfl), hp.turned T ns, h.u1.turned T ns, h.c0.turned T ns, h.c1.turned T ns⟩

theorem RefMem.setCome0 {w : World} {g : Nat} {st : St} {U0 U1 C0 C1 : Value} (h : RefMem w g st U0 U1 C0 C1) {V : Value} {zs : List Int} (hp : Part w g V zs) : RefMem (w.setCell ⟨g, 2, none⟩ V) g { st with a := { st.a with come := zs } } U0 U1 V C1 := by
  have T := Turned.setCell w ⟨g, 2, none⟩ V
  have ns : ∀ k, k < w.heap.size → k ≠ g → ¬ k = g := fun _ _ h => h
  exact ⟨(h.cells.set 2 V).congr (forall13 rfl rfl rfl rfl rfl rfl rfl rfl rfl rfl rfl rfl rfl), h.u0.turned T ns, h.u1.turned T ns, hp.turned T ns, h.c1.turned T ns⟩

theorem RefMem.setSent0 {w : World} {g : Nat} {st : St} {U0 U1 C0 C1 : Value} (h : RefMem w g st U0 U1 C0 C1) (n : Int) : RefMem (w.setCell ⟨g, 4, none⟩ (.int .i64 n)) g { st with a := { st.a with sent := n } } U0 U1 C0 C1 := by
  have T := Turned.setCell w ⟨g, 4, none⟩ (.int .i64 n)
  have ns : ∀ k, k < w.heap.size → k ≠ g → ¬ k = g := fun _ _ h => h
  exact ⟨(h.cells.set 4 (.int .i64 n)).congr (forall13 rfl rfl rfl rfl rfl rfl rfl rfl rfl rfl rfl rfl rfl), h.u0.turned T ns, h.u1.turned T ns, h.c0.turned T ns, h.c1.turned T ns⟩

theorem RefMem.setMoved0 {w : World} {g : Nat} {st : St} {U0 U1 C0 C1 : Value} (h : RefMem w g st U0 U1 C0 C1) (n : Int) : RefMem (w.setCell ⟨g, 6, none⟩ (.int .i64 n)) g { st with a := { st.a with moved := n } } U0 U1 C0 C1 := by
  have T := Turned.setCell w ⟨g, 6, none⟩ (.int .i64 n)
  have ns : ∀ k, k < w.heap.size → k ≠ g → ¬ k = g := fun _ _ h => h
  exact ⟨(h.cells.set 6 (.int .i64 n)).congr (forall13 rfl rfl rfl rfl rfl rfl rfl rfl rfl rfl rfl rfl rfl), h.u0.turned T ns, h.u1.turned T ns, h.c0.turned T ns, h.c1.turned T ns⟩

theorem RefMem.setRead0 {w : World} {g : Nat} {st : St} {U0 U1 C0 C1 : Value} (h : RefMem w g st U0 U1 C0 C1) (n : Int) : RefMem (w.setCell ⟨g, 8, none⟩ (.int .i64 n)) g { st with a := { st.a with read := n } } U0 U1 C0 C1 := by
  have T := Turned.setCell w ⟨g, 8, none⟩ (.int .i64 n)
  have ns : ∀ k, k < w.heap.size → k ≠ g → ¬ k = g := fun _ _ h => h
  exact ⟨(h.cells.set 8 (.int .i64 n)).congr (forall13 rfl rfl rfl rfl rfl rfl rfl rfl rfl rfl rfl rfl rfl), h.u0.turned T ns, h.u1.turned T ns, h.c0.turned T ns, h.c1.turned T ns⟩

theorem RefMem.setStall0 {w : World} {g : Nat} {st : St} {U0 U1 C0 C1 : Value} (h : RefMem w g st U0 U1 C0 C1) (y : Bool) : RefMem (w.setCell ⟨g, 10, none⟩ (.bool y)) g { st with a := { st.a with stall := y } } U0 U1 C0 C1 := by
  have T := Turned.setCell w ⟨g, 10, none⟩ (.bool y)
  have ns : ∀ k, k < w.heap.size → k ≠ g → ¬ k = g := fun _ _ h => h
  exact ⟨(h.cells.set 10 (.bool y)).congr (forall13 rfl rfl rfl rfl rfl rfl rfl rfl rfl rfl rfl rfl rfl), h.u0.turned T ns, h.u1.turned T ns, h.c0.turned T ns, h.c1.turned T ns⟩

theorem RefMem.setUnd1 {w : World} {g : Nat} {st : St} {U0 U1 C0 C1 : Value} (h : RefMem w g st U0 U1 C0 C1) {V : Value} {zs : List Int} (hp : Part w g V zs) : RefMem (w.setCell ⟨g, 1, none⟩ V) g { st with b := { st.b with und := zs } } U0 V C0 C1 := by
  have T := Turned.setCell w ⟨g, 1, none⟩ V
  have ns : ∀ k, k < w.heap.size → k ≠ g → ¬ k = g := fun _ _ h => h
  exact ⟨(h.cells.set 1 V).congr (forall13 rfl rfl rfl rfl rfl rfl rfl rfl rfl rfl rfl rfl rfl), h.u0.turned T ns, hp.turned T ns, h.c0.turned T ns, h.c1.turned T ns⟩

theorem RefMem.setCome1 {w : World} {g : Nat} {st : St} {U0 U1 C0 C1 : Value} (h : RefMem w g st U0 U1 C0 C1) {V : Value} {zs : List Int} (hp : Part w g V zs) : RefMem (w.setCell ⟨g, 3, none⟩ V) g { st with b := { st.b with come := zs } } U0 U1 C0 V := by
  have T := Turned.setCell w ⟨g, 3, none⟩ V
  have ns : ∀ k, k < w.heap.size → k ≠ g → ¬ k = g := fun _ _ h => h
  exact ⟨(h.cells.set 3 V).congr (forall13 rfl rfl rfl rfl rfl rfl rfl rfl rfl rfl rfl rfl rfl), h.u0.turned T ns, h.u1.turned T ns, h.c0.turned T ns, hp.turned T ns⟩

theorem RefMem.setSent1 {w : World} {g : Nat} {st : St} {U0 U1 C0 C1 : Value} (h : RefMem w g st U0 U1 C0 C1) (n : Int) : RefMem (w.setCell ⟨g, 5, none⟩ (.int .i64 n)) g { st with b := { st.b with sent := n } } U0 U1 C0 C1 := by
  have T := Turned.setCell w ⟨g, 5, none⟩ (.int .i64 n)
  have ns : ∀ k, k < w.heap.size → k ≠ g → ¬ k = g := fun _ _ h => h
  exact ⟨(h.cells.set 5 (.int .i64 n)).congr (forall13 rfl rfl rfl rfl rfl rfl rfl rfl rfl rfl rfl rfl rfl), h.u0.turned T ns, h.u1.turned T ns, h.c0.turned T ns, h.c1.turned T ns⟩

theorem RefMem.setMoved1 {w : World} {g : Nat} {st : St} {U0 U1 C0 C1 : Value} (h : RefMem w g st U0 U1 C0 C1) (n : Int) : RefMem (w.setCell ⟨g, 7, none⟩ (.int .i64 n)) g { st with b := { st.b with moved := n } } U0 U1 C0 C1 := by
  have T := Turned.setCell w ⟨g, 7, none⟩ (.int .i64 n)
  have ns : ∀ k, k < w.heap.size → k ≠ g → ¬ k = g := fun _ _ h => h
  exact ⟨(h.cells.set 7 (.int .i64 n)).congr (forall13 rfl rfl rfl rfl rfl rfl rfl rfl rfl rfl rfl rfl rfl), h.u0.turned T ns, h.u1.turned T ns, h.c0.turned T ns, h.c1.turned T ns⟩

theorem RefMem.setRead1 {w : World} {g : Nat} {st : St} {U0 U1 C0 C1 : Value} (h : RefMem w g st U0 U1 C0 C1) (n : Int) : RefMem (w.setCell ⟨g, 9, none⟩ (.int .i64 n)) g { st with b := { st.b with read := n } } U0 U1 C0 C1 := by
  have T := Turned.setCell w ⟨g, 9, none⟩ (.int .i64 n)
  have ns : ∀ k, k < w.heap.size → k ≠ g → ¬ k = g := fun _ _ h => h
  exact ⟨(h.cells.set 9 (.int .i64 n)).congr (forall13 rfl rfl rfl rfl rfl rfl rfl rfl rfl rfl rfl rfl rfl), h.u0.turned T ns, h.u1.turned T ns, h.c0.turned T ns, h.c1.turned T ns⟩

theorem RefMem.setStall1 {w : World} {g : Nat} {st : St} {U0 U1 C0 C1 : Value} (h : RefMem w g st U0 U1 C0 C1) (y : Bool) : RefMem (w.setCell ⟨g, 11, none⟩ (.bool y)) g { st with b := { st.b with stall := y } } U0 U1 C0 C1 := by
  have T := Turned.setCell w ⟨g, 11, none⟩ (.bool y)
  have ns : ∀ k, k < w.heap.size → k ≠ g → ¬ k = g := fun _ _ h => h
  exact ⟨(h.cells.set 11 (.bool y)).congr (forall13 rfl rfl rfl rfl rfl rfl rfl rfl rfl rfl rfl rfl rfl), h.u0.turned T ns, h.u1.turned T ns, h.c0.turned T ns, h.c1.turned T ns⟩

theorem RefMem.setShut {w : World} {g : Nat} {st : St} {U0 U1 C0 C1 : Value} (h : RefMem w g st U0 U1 C0 C1) (y : Bool) : RefMem (w.setCell ⟨g, 12, none⟩ (.bool y)) g { st with shut := y } U0 U1 C0 C1 := by
  have T := Turned.setCell w ⟨g, 12, none⟩ (.bool y)
  have ns : ∀ k, k < w.heap.size → k ≠ g → ¬ k = g := fun _ _ h => h
  exact ⟨(h.cells.set 12 (.bool y)).congr (forall13 rfl rfl rfl rfl rfl rfl rfl rfl rfl rfl rfl rfl rfl), h.u0.turned T ns, h.u1.turned T ns, h.c0.turned T ns, h.c1.turned T ns⟩
end Go.Proofs.YtjkmklbkemoldaaDoor
