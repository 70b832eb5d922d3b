/-
  heddlelaw06.FrameChunks: its walk where the width is none, given the program's frames; what its loop keeps.
-/
import Derived.Test.YtpbakejocjmkeaaFChunks0
import Derived.Deep.DeepCutAuto
import Derived.Deep.CutBlock
namespace Go.Proofs.Ytpbakejocjmkeaa
open Go.RowKit

/-- A row of numbers. -/
def Nums (w : World) (v : Value) (L : Nat) : Prop := ∃ a c, v = .slice a L c ∧ L ≤ 4611686018427387904 ∧ ∀ j, j < L → ∃ g off z, a = some ⟨g, off, none⟩ ∧ w.cell? ⟨g, off + j, none⟩ = some (.int .i64 z)

/-- What the loop keeps: the reader and what was gathered; what lies between w2's end and w3's stays. -/
def Rolls (Mem : World → Nat → (Nat → Prop) → FSt → Prop) (w w2 w3 wr : World) (n : Nat) (bs : List Int) (rb fr : Nat) (got : Value) (d : Bool) (k : Nat) (q : Prop) : Prop :=
  ∃ S f vs acc pre, Chunk Mem w.heap.size wr n bs rb fr got d S f vs acc pre ∧ Below w.heap.size w wr ∧ Turned (fun k => k < w2.heap.size ∨ w3.heap.size ≤ k) w3 wr ∧ (∀ k, S k → k < w2.heap.size ∨ w3.heap.size ≤ k) ∧ (∀ k, blk got k → k < w2.heap.size ∨ w3.heap.size ≤ k) ∧ k ≤ acc.length ∧ (q → fr = bs.length ∧ (d = false → splitOf n bs = (none, acc, pre.length)))
theorem cut_at (z : Int) {fr len : Nat} (h : fr ≤ len) (hl : len ≤ 16777216) : ∃ p : Nat, wrap64 ((fr : Int) + wrap64 ((IntKind.u64.wrap z).tmod ((len : Int) - fr + 1))) = (fr : Int) + p ∧ fr + p ≤ len := by
  have h0 : 0 ≤ IntKind.u64.wrap z := by rw [IntKind.wrap_u64]; omega
  have h1 := Int.tmod_nonneg ((len : Int) - fr + 1) h0
  have h2 := Int.tmod_lt_of_pos (IntKind.u64.wrap z) (b := (len : Int) - fr + 1) (by omega)
  generalize (IntKind.u64.wrap z).tmod ((len : Int) - fr + 1) = q at h1 h2
  refine ⟨q.toNat, ?_, by omega⟩
  unfold wrap64
  omega
theorem allocDrew (w : World) (o : Obj) : Below w.heap.size w (w.alloc o).drew := ((alloc0f w o).trans (Turned.drew (fun _ => False) _) (fun _ h => h.elim)).below (Nat.le_refl _) (fun _ h => h.elim)

set_option maxRecDepth 100000 in
set_option maxHeartbeats 3200000 in
/-- Of other widths. -/
theorem chunks_width {Mem : World → Nat → (Nat → Prop) → FSt → Prop} (I : FImplS Mem) (n : Int) (b cu : Value) (ks : Int) (bs : List Int) (L : Nat) (w : World) (hw : n ≠ 2 ∧ n ≠ 4) (hx : Sl w b bs) (hcu : Nums w cu L) :
    Calls Try.prog 3 #[.agg #[.int .i64 n, b, cu, .int .u64 ks]] w fun ev w' => ev = .returned (.bool true) ∧ Below w.heap.size w w' := by
  obtain ⟨ab, cb, hbf, hcb, hmb⟩ := hx.form
  subst hbf
  obtain ⟨au, cc, hcf, hL, hcell⟩ := hcu
  subst hcf
  clear hx hcell hmb hcb hL
  go_enter Try.func3, Try.ntmps3
  go_wp2_with fail
  go_region
  go_wp2_with fail
  refine (I.newBad n _ hw.1 hw.2).mono ?_
  rintro ev w1 ⟨v, rfl, he, hb⟩
  replace hb := (allocDrew w _).trans (hb.mono (allocDrew w _).size)
  obtain ⟨pb, _, rfl, _, _, _, _⟩ := he
  go_wp2_with fail
  refine (awake_any I.toFImpl w1).mono ?_
  rintro ev w2 ⟨rfl, hb2⟩
  have HB2 : Hid (Below w.heap.size w w2) := hb.trans (hb2.mono hb.size)
  clear hb hb2
  go_wp2
  go_ret
  exact ⟨rfl, HB2.out⟩
end Go.Proofs.Ytpbakejocjmkeaa
