/-
  A script of calls of bulk at most 1048576, read out of memory.
-/
import Derived.Test.YtjkmklbkemoldaaDoorRowBase
namespace Go.Proofs.YtjkmklbkemoldaaDoor
open Go.ChangeShapes Go.WideShapes Go.RowKit

section
variable {H : Type} {enc : TypeId × Value → H} {W : World}

theorem bulk_pos (d : DataW H) : 1 ≤ Rows.uptoBulk d := by
  cases d with
  | lit l => cases l <;> simp [Rows.uptoBulk]
  | nil => simp [Rows.uptoBulk]
  | ptr d => simp [Rows.uptoBulk]
  | slice elems spare => simp [Rows.uptoBulk]
  | agg parts => simp [Rows.uptoBulk]
  | iface t d => simp [Rows.uptoBulk]
  | map entries => simp [Rows.uptoBulk]
  | held h => simp [Rows.uptoBulk]
theorem bulk_mem {d : DataW H} : ∀ {l : List (DataW H)}, d ∈ l → Rows.uptoBulk d ≤ Rows.uptoBulkAll l
  | x :: r, h => by
    simp only [Rows.uptoBulkAll]
    rcases List.mem_cons.1 h with rfl | h
    · omega
    · have := bulk_mem h; omega
theorem bulk_len : ∀ l : List (DataW H), l.length ≤ Rows.uptoBulkAll l
  | [] => Nat.zero_le _
  | x :: r => by
    have := bulk_pos x
    have := bulk_len r
    simp only [Rows.uptoBulkAll, List.length_cons]
    omega
theorem bulk_places (d : DataW H) : placesOf d ≤ Rows.uptoBulk d := by
  cases d with
  | slice e sp =>
    have := bulk_len e
    have := bulk_len sp
    simp only [placesOf, Rows.uptoBulk]
    omega
  | _ => simp [placesOf]

/-- A script that is small: so many calls at the most, and so many bytes in each. -/
def ScriptS (w : World) (v : Value) : Prop :=
  ∃ a len cap, v = .slice a len cap ∧ len ≤ 1048576 ∧ ∀ j, j < len → ∃ b off, a = some ⟨b, off, none⟩ ∧ ∃ k e n y x bs, w.cell? ⟨b, off + j * 5, none⟩ = some (.int .i64 k) ∧ w.cell? ⟨b, off + j * 5 + 1, none⟩ = some (.int .i64 e) ∧ w.cell? ⟨b, off + j * 5 + 2, none⟩ = some (.int .i64 n) ∧
    w.cell? ⟨b, off + j * 5 + 3, none⟩ = some (.bool y) ∧ w.cell? ⟨b, off + j * 5 + 4, none⟩ = some x ∧ Sl w x bs ∧ bs.length ≤ 1048576

set_option maxRecDepth 100000 in
theorem scriptS_of_trod {v : Value} {d : DataW H} {p : List MemPlace} {base : Nat} (hv : Value.okWide Tryd.prog W .any base 22 v) (h : DataW.Trod enc Tryd.prog W 0 (fun _ => true) true 22 v d p) (hsz : Rows.uptoBulk d ≤ 1048576) : ScriptS W v := by
  obtain ⟨a0, len0, cap0, rfl⟩ := okWide_slice Tryd.underlying22 hv
  obtain ⟨fuel, hf⟩ := h
  rcases Deep.open_slice Tryd.underlying22 hf with ⟨hx, _⟩ | ⟨a, len, cap, m, n', D, Pl, hx, _, hl, hm, hmm, hd, hc⟩
  · simp [Value.cells] at hx
    obtain ⟨rfl, rfl, rfl⟩ := hx
    exact ⟨none, 0, 0, rfl, Nat.zero_le _, fun j hj => absurd hj (Nat.not_lt_zero j)⟩
  · simp [Value.cells] at hx
    obtain ⟨rfl, rfl, rfl⟩ := hx
    simp only [if_true] at hmm
    subst hmm
    simp only [Prod.mk.injEq] at hd
    obtain ⟨rfl, rfl⟩ := hd
    have hall : Rows.uptoBulkAll ((List.range len0).map D) ≤ 1048576 := by
      simp only [Rows.uptoBulk] at hsz
      omega
    have hlen : len0 ≤ 1048576 := by
      have := bulk_len ((List.range len0).map D)
      simp at this
      omega
    refine ⟨some a, len0, m, rfl, hlen, fun j hj => ?_⟩
    have hspot : a.spot = none := by
      obtain ⟨cs, hcs, _⟩ := hc 0 (by omega)
      rw [Tryd.cellsOp] at hcs
      obtain ⟨_, hcl, hcell⟩ := World.cells?_some hcs
      match cs, hcl with
      | c0 :: _, _ =>
        have := World.cell?_spot (v := c0) (by simpa using hcell 0 (by omega))
        simpa [Addr.add] using this
    obtain ⟨b, off, spot⟩ := a
    have hspot : spot = none := hspot
    subst hspot
    obtain ⟨cs, hcs, htr⟩ := hc j (by omega)
    rw [Tryd.cellsOp] at hcs
    obtain ⟨_, hcl, hcell⟩ := World.cells?_some hcs
    refine ⟨b, off, rfl, ?_⟩
    match cs, hcl with
    | [c0, c1, c2, c3, c4], _ =>
      simp only [Addr.add_lit] at hcell
      have q0 := hcell 0 (by omega)
      have q1 := hcell 1 (by omega)
      have q2 := hcell 2 (by omega)
      have q3 := hcell 3 (by omega)
      have q4 := hcell 4 (by omega)
      simp at q0 q1 q2 q3 q4
      obtain ⟨y0, y1, y2, y3, y4, n2, hDi, t0, t1, t2, t3, t4⟩ := five_fields Tryd.underlying31 (by kernel_rfl) htr
      obtain ⟨k, hk, _⟩ := DataW.trod_int Tryd.underlying3 t0
      obtain ⟨e, he, _⟩ := DataW.trod_int Tryd.underlying3 t1
      obtain ⟨n3, hn3, _⟩ := DataW.trod_int Tryd.underlying3 t2
      obtain ⟨y, hy, _⟩ := DataW.trod_bool Tryd.underlying4 t3
      obtain ⟨bs, hbs, hpl⟩ := sl_of_trod t4
      simp only [List.cons.injEq, and_true] at hk he hn3 hy
      subst hk he hn3 hy
      have hDi : D j = .agg [y0.1, y1.1, y2.1, y3.1, y4.1] := hDi
      refine ⟨k, e, n3, y, c4, bs, q0, q1, q2, q3, q4, hbs, ?_⟩
      have h1 := bulk_places y4.1
      have h2 : Rows.uptoBulk (D j) ≤ Rows.uptoBulkAll ((List.range len0).map D) := bulk_mem (List.mem_map.2 ⟨j, List.mem_range.2 hj, rfl⟩)
      rw [hDi] at h2
      simp only [Rows.uptoBulk, Rows.uptoBulkAll] at h2
      omega
end
end Go.Proofs.YtjkmklbkemoldaaDoor
