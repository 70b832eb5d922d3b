/-
  Layer 10 (lex): the program's signs.
-/
import Derived.Test.YtlgkjjbefoeabaaGreatDoorPC
import Derived.Deep.MidRow
namespace Go.Proofs.YtlgkjjbefoeabaaGreatDoor
open Go.RowKit

/-- The signs, in the program's order. -/
def SG : Array ByteArray := #[⟨#[61, 58, 61]⟩, ⟨#[61, 47, 61]⟩, ⟨#[45, 62]⟩, ⟨#[61, 61]⟩, ⟨#[47, 61]⟩, ⟨#[61, 60]⟩, ⟨#[62, 61]⟩, ⟨#[43, 43]⟩, ⟨#[45, 45]⟩, ⟨#[40]⟩, ⟨#[41]⟩, ⟨#[91]⟩, ⟨#[93]⟩, ⟨#[123]⟩, ⟨#[125]⟩, ⟨#[44]⟩, ⟨#[59]⟩, ⟨#[58]⟩, ⟨#[124]⟩, ⟨#[33]⟩, ⟨#[61]⟩, ⟨#[43]⟩, ⟨#[45]⟩, ⟨#[42]⟩, ⟨#[47]⟩, ⟨#[60]⟩, ⟨#[62]⟩]
theorem SG_size : SG.size = 27 := rfl
def sgVals : List Value := SG.toList.map Value.string
theorem sgVals_get : ∀ (j : Nat) (h : j < 27), sgVals[j]? = some (.string SG[j]) := by
  intro j h
  have h' : j < SG.size := h
  simp [sgVals, Array.getElem?_eq_getElem h']
  rfl
theorem SG_small : ∀ j (h : j < 27), SG[j].size ≤ 3 := by decide
/-- The variable holds them. -/
def SgAt (w : World) : Prop := w.rangeAt 1 0 sgVals ∧ 1 < w.heap.size
theorem SgAt.turned {S : Nat → Prop} {w w' : World} (h : SgAt w) (T : Turned S w w') (hs : ¬ S 1) : SgAt w' :=
  ⟨fun j v hv => T.cell (h.1 j v hv) hs, Nat.lt_of_lt_of_le h.2 T.size⟩
theorem SgAt.below {w w' : World} (h : SgAt w) (hb : Below w.heap.size w w') : SgAt w' := h.turned (Turned.ofBelow (S := fun _ => False) hb) (fun h => h)
set_option maxRecDepth 100000 in
set_option maxHeartbeats 1600000 in
theorem lx_sign (s : ByteArray) (hs : s.size ≤ 4611686018427387904) (a k : Nat) (ha : a ≤ s.size) (hk : k < 27) (hno : ∀ i (h : i < 27), i < k → Lib.hasPrefix (s.extract a s.size).data.toList SG[i].data.toList = false) (hyes : Lib.hasPrefix (s.extract a s.size).data.toList SG[k].data.toList = true) (w : World) (hw : SgAt w) :
    Calls Tryz.prog 115 #[.string s, .int .i64 a] w (TokTold ⟨5, SG[k], 0, a⟩ (a + SG[k].size : Nat) w) := by
  have hr : ∀ o : Obj, (w.alloc o).rangeAt 1 0 sgVals := fun o => (hw.below ((Below.refl _ _).alloc (Nat.le_refl _) o)).1
  have hpre := fun (i : Nat) (h : i < 27) (w : World) => Tryz.strings_HasPrefix (s.extract a s.size) SG[i] w
  clear hw
  go_enter Tryz.func115, Tryz.ntmps115
  go_wp2_with (refine wpList_load_mid (by rfl) 167 (.global 1) (by rfl) 1 0 (by rfl) sgVals _ (hr _) Tryz.underlying167 rfl (by kernel_rfl) ?_)
  obtain ⟨arr, harr⟩ : ∃ arr, arr = sgVals.toArray := ⟨_, rfl⟩
  simp only [← harr]
  have hget : ∀ j (h : j < 27), arr[j]? = some (.string SG[j]) := fun j h => by rw [harr]; simpa using sgVals_get j h
  clear harr hr
  have HNO := Hid.mk7 hno
  have HYES := Hid.mk7 hyes
  clear hno hyes
  go_loopw [10] (fun i wr => ∃ j : Nat, j ≤ k ∧ i = .int .i64 j ∧ wr = w.alloc (.cells #[.int .i64 0, .string ⟨#[]⟩, .int .i64 0, .int .i64 0] 40)) (fun i _ => 27 - (intOf i).toNat)
  case atStart => exact ⟨0, Nat.zero_le _, rfl, rfl⟩
  case round =>
    obtain ⟨j, hj, rfl, rfl⟩ := hrel
    have hj27 : j < 27 := by omega
    have hji : (j : Int) < 27 := by omega
    have hg := hget j hj27
    have hidx : ∀ w, (Instr.index 167 (.agg arr) (.int .i64 j)).run Tryz.prog w = .ok (.string SG[j]) w := fun w => by
      simp [Instr.index, run_underlying Tryz.underlying167, hg, go_sem]
      intro h
      omega
    by_cases hlt : j < k
    · have hp := hpre j hj27
      rw [HNO.out j hj27 hlt] at hp
      clear hpre hget
      go_wp2_with (go_at_call 132; refine (hp _).mono ?_; rintro e w1 ⟨rfl, rfl⟩)
      go_roundw
      case rel => exact ⟨j + 1, by omega, by go_num, trivial⟩
      case measure => simp [intOf]; omega
    · obtain rfl : j = k := by omega
      have hp := hpre j hj27
      rw [HYES.out] at hp
      have hz := SG_small j hj27
      clear hpre hget
      go_wp2_with (go_at_call 132; refine (hp _).mono ?_; rintro e w1 ⟨rfl, rfl⟩)
      refine bodyPost_ret (v := .tuple #[(⟨5, SG[j], 0, a⟩ : Tk).val, .int .i64 (a + SG[j].size : Nat), .nilIface]) ?_ rfl ⟨rfl, ?_⟩
      · simp [results, Tryz.results115, go_sem, Tk.val]
      · exact (Below.refl _ _).alloc (Nat.le_refl _) _
end Go.Proofs.YtlgkjjbefoeabaaGreatDoor
