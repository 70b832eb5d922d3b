/-
  Layer 10 (lex): the program's numbers, variables, dots.
-/
import Derived.Test.YtlgkjjbefoeabaaGreatDoorPB
import Derived.Test.YtlgkjjbefoeabaaGreatDoorShelf
import Derived.Lib.SmallJoins
namespace Go.Proofs.YtlgkjjbefoeabaaGreatDoor
open Go.RowKit

set_option maxRecDepth 100000 in
theorem sc_uint (t : ByteArray) (hne : t.size ≠ 0) (hsz : t.size ≤ 4611686018427387904) (n : Nat) (hn : Lib.parseUint10 0 t.data.toList = .ok n) (w : World) : Calls Tryz.prog 141 #[.string t, .int .i64 10, .int .i64 64] w fun e w' => e = .returned (.tuple #[.int .u64 n, .nilIface]) ∧ Below w.heap.size w w' := by
  have hu := Tryz.internal_strconv_ParseUint_10_b64 t hne (by omega) w
  rw [hn] at hu
  simp only [Lib.uintTuple] at hu
  clear hn
  go_enter Tryz.func141, Tryz.ntmps141
  go_wp2_with fail
  refine hu.mono ?_
  rintro e w1 ⟨rfl, hw1⟩
  have hb1 : Below w.heap.size w w1 := by rw [hw1]; exact Go.Joins.below_bytesWorld _ _ _ _ (Nat.le_refl _)
  clear hw1
  go_wp2
  go_ret2
  exact ⟨rfl, hb1⟩
set_option maxRecDepth 100000 in
theorem lx_number (t : ByteArray) (hne : t.size ≠ 0) (hsz : t.size ≤ 4611686018427387904) (n : Nat) (hn : Lib.parseUint10 0 t.data.toList = .ok n) (hmax : n ≤ 576460752303423487) (w : World) : Calls Tryz.prog 128 #[.string t, .int .i64 10] w fun e w' => e = .returned (.tuple #[.int .i64 n, .bool true]) ∧ Below w.heap.size w w' := by
  have hu := sc_uint t hne hsz n hn w
  have hle : ¬ (576460752303423487 : Int) < (n : Int) := by omega
  clear hn
  go_enter Tryz.func128, Tryz.ntmps128
  go_wp2_with (go_at_call 141; refine hu.mono ?_; rintro e w1 ⟨rfl, hb1⟩)
  go_ret2
  refine ⟨?_, hb1⟩
  simp
set_option maxRecDepth 100000 in
theorem lx_numb (s : ByteArray) (hs : s.size ≤ 4611686018427387904) (k : Nat) (hk : k < s.size) (hk0 : k ≠ 0) (hrun : runLen digB s s.size 0 = k) (hsh : ¬ (s[k].toNat : Int) = 35) (n : Nat) (hn : Lib.parseUint10 0 (s.extract 0 k).data.toList = .ok n) (hmax : n ≤ 576460752303423487) (w : World) :
    Calls Tryz.prog 111 #[.string s] w fun e w' => e = .returned (.tuple #[.int .i64 n, .int .i64 k]) ∧ Below w.heap.size w w' := by
  have hr := lx_runDig s hs w
  rw [hrun] at hr
  have hu := lx_number (s.extract 0 k) (by rw [ByteArray.size_extract]; omega) (by rw [ByteArray.size_extract]; omega) n hn hmax w
  have hki : (k : Int) < (s.size : Int) := by omega
  clear hn hrun
  go_enter Tryz.func111, Tryz.ntmps111
  go_wp2_with (first | (go_at_call 90; refine hr.mono ?_; rintro e w1 ⟨rfl, rfl⟩) | (go_at_call 128; refine hu.mono ?_; rintro e w1 ⟨rfl, hb1⟩))
  go_ret2
  exact ⟨rfl, hb1⟩
set_option maxRecDepth 100000 in
theorem lx_tell (a n k c : Int) (hk : ¬ k = 0) (e : Int) (he : wrap64 (a + k) = e) (w : World) : Calls Tryz.prog 112 #[.int .i64 a, .int .i64 n, .int .i64 k, .int .i64 c] w (TokTold ⟨3, ⟨#[]⟩, n, a⟩ e w) := by
  have HE := Hid.mk7 he
  clear he
  go_enter Tryz.func112, Tryz.ntmps112
  go_wp2
  refine bodyPost_ret (v := .tuple #[(⟨3, ⟨#[]⟩, n, a⟩ : Tk).val, .int .i64 e, .nilIface]) (by simp [results, Tryz.results112, go_sem, Tk.val, ← HE.out]) rfl ⟨rfl, ?_⟩
  exact (Below.refl _ _).alloc (Nat.le_refl _) _
set_option maxRecDepth 100000 in
theorem lx_var (s : ByteArray) (hs : s.size ≤ 4611686018427387904) (a k : Nat) (ha : a ≤ s.size) (hk : k ≤ s.size - a) (hrun : runLen wordB (s.extract a s.size) (s.size - a) 0 = k) (h255 : k ≤ 255) (w : World) : Calls Tryz.prog 109 #[.string s, .int .i64 a] w (TokTold ⟨2, (s.extract a s.size).extract 0 k, 0, a⟩ (a + k : Nat) w) := by
  have hz : (s.extract a s.size).size = s.size - a := by simp
  have hr := fun w => lx_word_at (s.extract a s.size) (by omega) k (by omega) (by rw [hz]; exact hrun) w
  have hle : ¬ (255 : Int) < (k : Int) := by omega
  clear hrun
  go_enter Tryz.func109, Tryz.ntmps109
  go_wp2_with (go_at_call 105; refine (hr _).mono ?_; rintro e w1 ⟨rfl, rfl⟩)
  refine bodyPost_ret (v := .tuple #[(⟨2, (s.extract a s.size).extract 0 k, 0, a⟩ : Tk).val, .int .i64 (a + k : Nat), .nilIface]) (by simp [results, Tryz.results109, go_sem, Tk.val]) rfl ⟨rfl, ?_⟩
  exact (Below.refl _ _).alloc (Nat.le_refl _) _
set_option maxRecDepth 100000 in
theorem lx_ends_nil (w : World) : Calls Tryz.prog 114 #[.string ⟨#[]⟩] w fun e w' => e = .returned (.bool true) ∧ w = w' := by
  go_enter Tryz.func114, Tryz.ntmps114
  go_wp2
  all_goals go_ret
  all_goals exact ⟨rfl, rfl⟩
set_option maxRecDepth 100000 in
theorem lx_ends_blank (s : ByteArray) (h0 : 0 < s.size) (hb : (s[0].toNat : Int) = 32) (w : World) : Calls Tryz.prog 114 #[.string s] w fun e w' => e = .returned (.bool true) ∧ w = w' := by
  have hbl := lx_blank 32 w
  have hne : ¬ s = ⟨#[]⟩ := fun h => by subst h; exact absurd h0 (by decide)
  go_enter Tryz.func114, Tryz.ntmps114
  go_wp2_with (go_at_call 89; refine hbl.mono ?_; rintro e w1 ⟨rfl, rfl⟩)
  all_goals go_ret
  all_goals exact ⟨congrArg Ending.returned (congrArg Value.bool (by simp [blankB])), rfl⟩
end Go.Proofs.YtlgkjjbefoeabaaGreatDoor
