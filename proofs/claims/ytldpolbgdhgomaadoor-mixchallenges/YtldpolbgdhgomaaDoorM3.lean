/-
  Layer 7 (mix): what is asked of the program's mix (MImpl); heddlelaw07.alive.
-/
import Derived.Test.YtldpolbgdhgomaaDoorM2
import Derived.Lib.LaidTab
import Derived.Lib.ItoaNum
namespace Go.Proofs.YtldpolbgdhgomaaDoor
open Go.RowKit

theorem Tryd.pow10 : Tryd.prog.globalNamed "internal/strconv.uint64pow10" = some 1 := by kernel_rfl
/-- The powers of ten lie in their variable. -/
def Tb (w : World) : Prop := Lib.TabIs Tryd.prog w "internal/strconv.uint64pow10" .u64 Lib.pow10Tab
theorem Tb.lt {w : World} (h : Tb w) : 1 < w.heap.size := World.block_lt_of_cell? w _ (Lib.TabIs.cell h Tryd.pow10 0 (by decide))
theorem Tb.below {w w' : World} (h : Tb w) (hb : Below w.heap.size w w') : Tb w' := var?_below hb Tryd.pow10 h.lt h
/-- The program's cookies and digests. -/
structure MImpl : Prop where
  cookie : ∀ (s : ByteArray) (_ : s.size ≤ 4611686018427387904) (w : World), Calls Tryd.prog 9 #[.string s] w fun e w' => ∃ v, e = .returned v ∧ ErrsM w.heap.size w' v (cookieErr s) ∧ Below w.heap.size w w'
  digest : ∀ (s : ByteArray) (_ : s.size ≤ 4611686018427387904) (n : Nat) (_ : n < 4294967296) (w : World), Tb w → Calls Tryd.prog 12 #[.string s, .int .u32 n] w fun e w' => ∃ V v, e = .returned (.tuple #[V, v]) ∧ ErrsM w.heap.size w' v (cookieErr s) ∧ Own w' V (digestTold s n) ∧ Below w.heap.size w w' ∧ ∀ k, blk V k → w.heap.size ≤ k
  same : ∀ (s : ByteArray) (_ : s.size ≤ 4611686018427387904) (n : Nat) (_ : n < 4294967296) {w : World} {D : Value} {ds : List Int}, Tb w → Sl w D ds → (∀ z ∈ ds, 0 ≤ z ∧ z < 256) → ds.length ≤ 140737488355328 → Calls Tryd.prog 14 #[.string s, .int .u32 n, D] w fun e w' => e = .returned (.bool (sameTold s n ds)) ∧ Below w.heap.size w w'

theorem same_self (s : ByteArray) (n : Nat) (h : cookieErr s = none) : sameTold s n (digestOf s n) = true := by
  unfold sameTold
  rw [h]
  simp
/-- One's own digest alone. -/
theorem same_iff (s : ByteArray) (n : Nat) (h : cookieErr s = none) (ds : List Int) (hr : ∀ z ∈ ds, 0 ≤ z ∧ z < 256) : sameTold s n ds = decide (ds = digestOf s n) := by
  unfold sameTold
  rw [h]
  by_cases he : ds = digestOf s n
  · subst he; simp
  · rw [decide_eq_false he]
    simp only [decide_true, Bool.true_and, beq_eq_false_iff_ne]
    intro hc
    rw [ByteArray.toList_eq, ByteArray.toList_eq] at hc
    refine he (strOfNums_inj hr (digest_rng s n) ?_)
    apply ByteArray.ext
    exact (Array.toList_inj.1 hc).symm

def sec : ByteArray := ⟨#[115, 101, 99, 114, 101, 116]⟩
theorem sec_ck : cookieErr sec = none := by decide +kernel
theorem sec_78 : ¬ digestOf sec 7 = digestOf sec 8 := by decide +kernel
theorem sec_8 : sameTold sec 8 (digestOf sec 7) = false := by
  rw [same_iff sec 8 sec_ck _ (digest_rng _ _)]
  exact decide_eq_false sec_78

set_option maxRecDepth 100000 in
set_option maxHeartbeats 1600000 in
theorem alive_any (I : MImpl) (w : World) (htb : Tb w) : Calls Tryd.prog 11 #[] w fun ev w' => ev = .returned (.bool true) ∧ Below w.heap.size w w' := by
  have hd := I.digest sec (by decide) 7 (by omega) w htb
  have htold : digestTold sec 7 = digestOf sec 7 := by unfold digestTold; rw [sec_ck]; rfl
  rw [sec_ck, htold] at hd
  go_enter Tryd.func11, Tryd.ntmps11
  go_wp2_with fail
  refine hd.mono ?_
  rintro ev w1 ⟨V, v, rfl, he, ho, hb, _⟩
  have he : v = .nilIface := he
  subst he
  obtain ⟨aV, cV, hV, _, _⟩ := ho.sl.form
  rw [digest_length] at hV
  subst hV
  have hs7 := I.same sec (by decide) 7 (by omega) (htb.below hb) ho.sl (digest_rng _ _) (by rw [digest_length]; omega)
  rw [same_self sec 7 sec_ck] at hs7
  have HO : Hid (Own w1 (.slice aV 16 cV) (digestOf sec 7) ∧ Below w.heap.size w w1) := ⟨ho, hb⟩
  clear ho hb hd
  go_wp2_with fail
  refine hs7.mono ?_
  rintro ev w2 ⟨rfl, hb2⟩
  have h2 : Sl w2 (.slice aV 16 cV) (digestOf sec 7) := HO.out.1.sl.turned (Turned.ofBelow (S := fun _ => False) hb2) (fun _ _ h => h)
  have hs8 := I.same sec (by decide) 8 (by omega) (htb.below (HO.out.2.trans (hb2.mono HO.out.2.size))) h2 (digest_rng _ _) (by rw [digest_length]; omega)
  rw [sec_8] at hs8
  have HB2 : Hid (Below w.heap.size w w2) := HO.out.2.trans (hb2.mono HO.out.2.size)
  clear h2 hb2 hs7
  go_wp2_with fail
  refine hs8.mono ?_
  rintro ev w3 ⟨rfl, hb3⟩
  go_wp2
  go_ret
  exact ⟨rfl, HB2.out.trans (hb3.mono HB2.out.size)⟩
end Go.Proofs.YtldpolbgdhgomaaDoor
