/-
  Layer 7 (mix): what is asked of the program's mix (MImpl); heddlelaw07.alive.
-/
import Derived.Test.YtmnibmgbicnamaaGreatDoorM2
import Derived.Lib.LaidTab
import Derived.Lib.ItoaNum
namespace Go.Proofs.YtmnibmgbicnamaaGreatDoor
open Go.RowKit

theorem Tryz.pow10 : Tryz.prog.globalNamed "internal/strconv.uint64pow10" = some 2 := by kernel_rfl
/-- The powers of ten lie in their variable. -/
def Tb (w : World) : Prop := Lib.TabIs Tryz.prog w "internal/strconv.uint64pow10" .u64 Lib.pow10Tab
theorem Tb.lt {w : World} (h : Tb w) : 2 < w.heap.size := World.block_lt_of_cell? w _ (Lib.TabIs.cell h Tryz.pow10 0 (by decide))
theorem Tb.below {w w' : World} (h : Tb w) (hb : Below w.heap.size w w') : Tb w' := var?_below hb Tryz.pow10 h.lt h
/-- The program's cookies and digests. -/
structure MImpl : Prop where
  cookie : ∀ (s : ByteArray) (_ : s.size ≤ 4611686018427387904) (w : World), Calls Tryz.prog 100 #[.string s] w fun e w' => ∃ v, e = .returned v ∧ ErrsM w.heap.size w' v (cookieErr s) ∧ Below w.heap.size w w'
  digest : ∀ (s : ByteArray) (_ : s.size ≤ 4611686018427387904) (n : Nat) (_ : n < 4294967296) (w : World), Tb w → Calls Tryz.prog 114 #[.string s, .int .u32 n] w fun e w' => ∃ V v, e = .returned (.tuple #[V, v]) ∧ ErrsM w.heap.size w' v (cookieErr s) ∧ Own w' V (digestTold s n) ∧ Below w.heap.size w w' ∧ ∀ k, blk V k → w.heap.size ≤ k
  same : ∀ (s : ByteArray) (_ : s.size ≤ 4611686018427387904) (n : Nat) (_ : n < 4294967296) {w : World} {D : Value} {ds : List Int}, Tb w → Sl w D ds → (∀ z ∈ ds, 0 ≤ z ∧ z < 256) → ds.length ≤ 140737488355328 → Calls Tryz.prog 115 #[.string s, .int .u32 n, D] w fun e w' => e = .returned (.bool (sameTold s n ds)) ∧ Below w.heap.size w w'

theorem same_self (s : ByteArray) (n : Nat) (h : cookieErr s = none) : sameTold s n (digestOf s n) = true := by
  unfold sameTold
  rw [h]
  simp
/-- One's own digest alone. -/
theorem same_iff (s : ByteArray) (n : Nat) (h : cookieErr s = none) (ds : List Int) (hr : ∀ z ∈ ds, 0 ≤ z ∧ z < 256) : sameTold s n ds = decide (ds = digestOf s n) := by
  unfold sameTold
  rw [h]
  by_cases he : ds = digestOf s n
  · subst he; simp
  · rw [decide_eq_false he]
    simp only [decide_true, Bool.true_and, beq_eq_false_iff_ne]
    intro hc
    rw [ByteArray.toList_eq, ByteArray.toList_eq] at hc
    refine he (strOfNums_inj hr (digest_rng s n) ?_)
    apply ByteArray.ext
    exact (Array.toList_inj.1 hc).symm

def sec : ByteArray := ⟨#[115, 101, 99, 114, 101, 116]⟩
theorem sec_ck : cookieErr sec = none := by decide +kernel
theorem sec_78 : ¬ digestOf sec 7 = digestOf sec 8 := by decide +kernel
theorem sec_8 : sameTold sec 8 (digestOf sec 7) = false := by
  rw [same_iff sec 8 sec_ck _ (digest_rng _ _)]
  exact decide_eq_false sec_78

end Go.Proofs.YtmnibmgbicnamaaGreatDoor
