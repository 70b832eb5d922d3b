/-
  Layer 10 (lex): the program's tokens of the text that every statement asks for.
-/
import Derived.Test.YtlgkjjbefoeabaaGreatDoorPF
namespace Go.Proofs.YtlgkjjbefoeabaaGreatDoor
open Go.RowKit

/-- The text. -/
def S0 : ByteArray := ⟨#[45, 109, 111, 100, 117, 108, 101, 40, 109, 41, 46, 32, 102, 40, 88, 41, 32, 45, 62, 32, 88, 32, 43, 32, 49, 32, 42, 32, 50, 46]⟩
theorem S0_size : S0.size = 30 := rfl
def tk0 : Tk := ⟨5, ⟨#[45]⟩, 0, 0⟩
def tk1 : Tk := ⟨1, ⟨#[109, 111, 100, 117, 108, 101]⟩, 0, 1⟩
def tk2 : Tk := ⟨5, ⟨#[40]⟩, 0, 7⟩
def tk3 : Tk := ⟨1, ⟨#[109]⟩, 0, 8⟩
def tk4 : Tk := ⟨5, ⟨#[41]⟩, 0, 9⟩
def tk5 : Tk := ⟨6, ⟨#[]⟩, 0, 10⟩
def tk6 : Tk := ⟨1, ⟨#[102]⟩, 0, 12⟩
def tk7 : Tk := ⟨5, ⟨#[40]⟩, 0, 13⟩
def tk8 : Tk := ⟨2, ⟨#[88]⟩, 0, 14⟩
def tk9 : Tk := ⟨5, ⟨#[41]⟩, 0, 15⟩
def tk10 : Tk := ⟨5, ⟨#[45, 62]⟩, 0, 17⟩
def tk11 : Tk := ⟨2, ⟨#[88]⟩, 0, 20⟩
def tk12 : Tk := ⟨5, ⟨#[43]⟩, 0, 22⟩
def tk13 : Tk := ⟨3, ⟨#[]⟩, 1, 24⟩
def tk14 : Tk := ⟨5, ⟨#[42]⟩, 0, 26⟩
def tk15 : Tk := ⟨3, ⟨#[]⟩, 2, 28⟩
def tk16 : Tk := ⟨6, ⟨#[]⟩, 0, 29⟩
def T0 : List Tk := [tk0, tk1, tk2, tk3, tk4, tk5, tk6, tk7, tk8, tk9, tk10, tk11, tk12, tk13, tk14, tk15, tk16]
/-- Where its tokens begin. -/
def tkAt : Nat → Option (Tk × Nat)
  | 0 => some (tk0, 1)
  | 1 => some (tk1, 7)
  | 7 => some (tk2, 8)
  | 8 => some (tk3, 9)
  | 9 => some (tk4, 10)
  | 10 => some (tk5, 11)
  | 12 => some (tk6, 13)
  | 13 => some (tk7, 14)
  | 14 => some (tk8, 15)
  | 15 => some (tk9, 16)
  | 17 => some (tk10, 19)
  | 20 => some (tk11, 21)
  | 22 => some (tk12, 23)
  | 24 => some (tk13, 25)
  | 26 => some (tk14, 27)
  | 28 => some (tk15, 29)
  | 29 => some (tk16, 30)
  | _ => none
theorem T0_scan : scanS S0 tkAt S0.size 0 0 [] = some T0 := by decide +kernel
theorem S0_ascii : ∀ i (h : i < S0.size), S0[i].toNat < 128 := by decide +kernel
set_option maxRecDepth 100000 in
theorem tok0 (W : World) (hW : SgAt W) : Calls Tryz.prog 92 #[.string S0, .int .i64 0] W (TokTold tk0 1 W) := by
  refine lx_tok_sign S0 0 (by decide) 45 (by decide +kernel) (by decide) (by decide) (by decide) (by decide) (by decide) (by decide) (by decide) tk0 1 W (fun o => ?_)
  exact lx_sign S0 (by decide) 0 22 (by decide) (by decide) (by decide +kernel) (by decide +kernel) (W.alloc o) (hW.below (Below.alloc0 W o))
set_option maxRecDepth 100000 in
theorem tok1 (W : World) (hW : SgAt W) : Calls Tryz.prog 92 #[.string S0, .int .i64 1] W (TokTold tk1 7 W) := by
  have _ := hW
  refine lx_tok_atom S0 (by decide) 1 (by decide) 109 (by decide +kernel) (by decide) 6 (by decide +kernel) (by decide +kernel) 6 ?_ tk1 7 W (fun o => ?_)
  · exact ⟨by decide +kernel, by decide +kernel, by decide, by decide +kernel, by decide +kernel, by decide +kernel, by decide, fun w => by rw [show ((S0.extract 1 S0.size).extract 0 6).extract 0 6 = ⟨#[109, 111, 100, 117, 108, 101]⟩ by decide +kernel]; exact at_free_module w⟩
  · have h := lx_atom (s := S0) (a := 1) (e := 7) ⟨by decide, by decide, by decide, by decide, by decide +kernel, by decide +kernel, by decide, fun w => by rw [show S0.extract 1 7 = ⟨#[109, 111, 100, 117, 108, 101]⟩ by decide +kernel]; exact at_free_module w⟩ (W.alloc o)
    rw [show S0.extract 1 7 = ⟨#[109, 111, 100, 117, 108, 101]⟩ by decide +kernel] at h
    exact h
set_option maxRecDepth 100000 in
theorem tok2 (W : World) (hW : SgAt W) : Calls Tryz.prog 92 #[.string S0, .int .i64 7] W (TokTold tk2 8 W) := by
  refine lx_tok_sign S0 7 (by decide) 40 (by decide +kernel) (by decide) (by decide) (by decide) (by decide) (by decide) (by decide) (by decide) tk2 8 W (fun o => ?_)
  exact lx_sign S0 (by decide) 7 9 (by decide) (by decide) (by decide +kernel) (by decide +kernel) (W.alloc o) (hW.below (Below.alloc0 W o))
set_option maxRecDepth 100000 in
theorem tok3 (W : World) (hW : SgAt W) : Calls Tryz.prog 92 #[.string S0, .int .i64 8] W (TokTold tk3 9 W) := by
  have _ := hW
  refine lx_tok_atom S0 (by decide) 8 (by decide) 109 (by decide +kernel) (by decide) 1 (by decide +kernel) (by decide +kernel) 1 ?_ tk3 9 W (fun o => ?_)
  · exact ⟨by decide +kernel, by decide +kernel, by decide, by decide +kernel, by decide +kernel, by decide +kernel, by decide, fun w => by rw [show ((S0.extract 8 S0.size).extract 0 1).extract 0 1 = ⟨#[109]⟩ by decide +kernel]; exact at_free_m w⟩
  · have h := lx_atom (s := S0) (a := 8) (e := 9) ⟨by decide, by decide, by decide, by decide, by decide +kernel, by decide +kernel, by decide, fun w => by rw [show S0.extract 8 9 = ⟨#[109]⟩ by decide +kernel]; exact at_free_m w⟩ (W.alloc o)
    rw [show S0.extract 8 9 = ⟨#[109]⟩ by decide +kernel] at h
    exact h
set_option maxRecDepth 100000 in
theorem tok4 (W : World) (hW : SgAt W) : Calls Tryz.prog 92 #[.string S0, .int .i64 9] W (TokTold tk4 10 W) := by
  refine lx_tok_sign S0 9 (by decide) 41 (by decide +kernel) (by decide) (by decide) (by decide) (by decide) (by decide) (by decide) (by decide) tk4 10 W (fun o => ?_)
  exact lx_sign S0 (by decide) 9 10 (by decide) (by decide) (by decide +kernel) (by decide +kernel) (W.alloc o) (hW.below (Below.alloc0 W o))
set_option maxRecDepth 100000 in
theorem tok5 (W : World) (hW : SgAt W) : Calls Tryz.prog 92 #[.string S0, .int .i64 10] W (TokTold tk5 11 W) := by
  have _ := hW
  refine lx_tok_dot S0 (by decide) 10 (by decide) (by decide +kernel) (fun w => ?_) W
  exact lx_ends_blank (S0.extract (10 + 1) S0.size) (by decide +kernel) (by decide +kernel) w
set_option maxRecDepth 100000 in
theorem tok6 (W : World) (hW : SgAt W) : Calls Tryz.prog 92 #[.string S0, .int .i64 12] W (TokTold tk6 13 W) := by
  have _ := hW
  refine lx_tok_atom S0 (by decide) 12 (by decide) 102 (by decide +kernel) (by decide) 1 (by decide +kernel) (by decide +kernel) 1 ?_ tk6 13 W (fun o => ?_)
  · exact ⟨by decide +kernel, by decide +kernel, by decide, by decide +kernel, by decide +kernel, by decide +kernel, by decide, fun w => by rw [show ((S0.extract 12 S0.size).extract 0 1).extract 0 1 = ⟨#[102]⟩ by decide +kernel]; exact at_free_f w⟩
  · have h := lx_atom (s := S0) (a := 12) (e := 13) ⟨by decide, by decide, by decide, by decide, by decide +kernel, by decide +kernel, by decide, fun w => by rw [show S0.extract 12 13 = ⟨#[102]⟩ by decide +kernel]; exact at_free_f w⟩ (W.alloc o)
    rw [show S0.extract 12 13 = ⟨#[102]⟩ by decide +kernel] at h
    exact h
set_option maxRecDepth 100000 in
theorem tok7 (W : World) (hW : SgAt W) : Calls Tryz.prog 92 #[.string S0, .int .i64 13] W (TokTold tk7 14 W) := by
  refine lx_tok_sign S0 13 (by decide) 40 (by decide +kernel) (by decide) (by decide) (by decide) (by decide) (by decide) (by decide) (by decide) tk7 14 W (fun o => ?_)
  exact lx_sign S0 (by decide) 13 9 (by decide) (by decide) (by decide +kernel) (by decide +kernel) (W.alloc o) (hW.below (Below.alloc0 W o))
set_option maxRecDepth 100000 in
theorem tok8 (W : World) (hW : SgAt W) : Calls Tryz.prog 92 #[.string S0, .int .i64 14] W (TokTold tk8 15 W) := by
  have _ := hW
  refine lx_tok_var S0 14 (by decide) 88 (by decide +kernel) (by decide) (by decide) (by decide) tk8 15 W (fun o => ?_)
  have h := lx_var S0 (by decide) 14 1 (by decide) (by decide) (by decide +kernel) (by decide) (W.alloc o)
  rw [show (S0.extract 14 S0.size).extract 0 1 = ⟨#[88]⟩ by decide +kernel] at h
  exact h
set_option maxRecDepth 100000 in
theorem tok9 (W : World) (hW : SgAt W) : Calls Tryz.prog 92 #[.string S0, .int .i64 15] W (TokTold tk9 16 W) := by
  refine lx_tok_sign S0 15 (by decide) 41 (by decide +kernel) (by decide) (by decide) (by decide) (by decide) (by decide) (by decide) (by decide) tk9 16 W (fun o => ?_)
  exact lx_sign S0 (by decide) 15 10 (by decide) (by decide) (by decide +kernel) (by decide +kernel) (W.alloc o) (hW.below (Below.alloc0 W o))
set_option maxRecDepth 100000 in
theorem tok10 (W : World) (hW : SgAt W) : Calls Tryz.prog 92 #[.string S0, .int .i64 17] W (TokTold tk10 19 W) := by
  refine lx_tok_sign S0 17 (by decide) 45 (by decide +kernel) (by decide) (by decide) (by decide) (by decide) (by decide) (by decide) (by decide) tk10 19 W (fun o => ?_)
  exact lx_sign S0 (by decide) 17 2 (by decide) (by decide) (by decide +kernel) (by decide +kernel) (W.alloc o) (hW.below (Below.alloc0 W o))
set_option maxRecDepth 100000 in
theorem tok11 (W : World) (hW : SgAt W) : Calls Tryz.prog 92 #[.string S0, .int .i64 20] W (TokTold tk11 21 W) := by
  have _ := hW
  refine lx_tok_var S0 20 (by decide) 88 (by decide +kernel) (by decide) (by decide) (by decide) tk11 21 W (fun o => ?_)
  have h := lx_var S0 (by decide) 20 1 (by decide) (by decide) (by decide +kernel) (by decide) (W.alloc o)
  rw [show (S0.extract 20 S0.size).extract 0 1 = ⟨#[88]⟩ by decide +kernel] at h
  exact h
set_option maxRecDepth 100000 in
theorem tok12 (W : World) (hW : SgAt W) : Calls Tryz.prog 92 #[.string S0, .int .i64 22] W (TokTold tk12 23 W) := by
  refine lx_tok_sign S0 22 (by decide) 43 (by decide +kernel) (by decide) (by decide) (by decide) (by decide) (by decide) (by decide) (by decide) tk12 23 W (fun o => ?_)
  exact lx_sign S0 (by decide) 22 21 (by decide) (by decide) (by decide +kernel) (by decide +kernel) (W.alloc o) (hW.below (Below.alloc0 W o))
set_option maxRecDepth 100000 in
theorem tok13 (W : World) (hW : SgAt W) : Calls Tryz.prog 92 #[.string S0, .int .i64 24] W (TokTold tk13 25 W) := by
  have _ := hW
  refine lx_tok_int S0 (by decide) 24 (by decide) 49 (by decide +kernel) (by decide) (by decide) (by decide) (by decide) (by decide) 1 1 (by decide) 25 (by decide +kernel) W (fun o => ?_)
  exact lx_numb (S0.extract 24 S0.size) (by decide +kernel) 1 (by decide +kernel) (by decide) (by decide +kernel) (by decide +kernel) 1 (by decide +kernel) (by decide) (W.alloc o)
set_option maxRecDepth 100000 in
theorem tok14 (W : World) (hW : SgAt W) : Calls Tryz.prog 92 #[.string S0, .int .i64 26] W (TokTold tk14 27 W) := by
  refine lx_tok_sign S0 26 (by decide) 42 (by decide +kernel) (by decide) (by decide) (by decide) (by decide) (by decide) (by decide) (by decide) tk14 27 W (fun o => ?_)
  exact lx_sign S0 (by decide) 26 23 (by decide) (by decide) (by decide +kernel) (by decide +kernel) (W.alloc o) (hW.below (Below.alloc0 W o))
set_option maxRecDepth 100000 in
theorem tok15 (W : World) (hW : SgAt W) : Calls Tryz.prog 92 #[.string S0, .int .i64 28] W (TokTold tk15 29 W) := by
  have _ := hW
  refine lx_tok_int S0 (by decide) 28 (by decide) 50 (by decide +kernel) (by decide) (by decide) (by decide) (by decide) (by decide) 2 1 (by decide) 29 (by decide +kernel) W (fun o => ?_)
  exact lx_numb (S0.extract 28 S0.size) (by decide +kernel) 1 (by decide +kernel) (by decide) (by decide +kernel) (by decide +kernel) 2 (by decide +kernel) (by decide) (W.alloc o)
set_option maxRecDepth 100000 in
theorem tok16 (W : World) (hW : SgAt W) : Calls Tryz.prog 92 #[.string S0, .int .i64 29] W (TokTold tk16 30 W) := by
  have _ := hW
  refine lx_tok_dot S0 (by decide) 29 (by decide) (by decide +kernel) (fun w => ?_) W
  rw [show S0.extract (29 + 1) S0.size = ⟨#[]⟩ by decide +kernel]
  exact lx_ends_nil w
theorem toks0 : ∀ p t e, tkAt p = some (t, e) → e ≤ 4611686018427387904 ∧ ∀ W, SgAt W → Calls Tryz.prog 92 #[.string S0, .int .i64 p] W (TokTold t e W) := by
  intro p t e h
  unfold tkAt at h
  split at h
  · cases h; exact ⟨by decide, tok0⟩
  · cases h; exact ⟨by decide, tok1⟩
  · cases h; exact ⟨by decide, tok2⟩
  · cases h; exact ⟨by decide, tok3⟩
  · cases h; exact ⟨by decide, tok4⟩
  · cases h; exact ⟨by decide, tok5⟩
  · cases h; exact ⟨by decide, tok6⟩
  · cases h; exact ⟨by decide, tok7⟩
  · cases h; exact ⟨by decide, tok8⟩
  · cases h; exact ⟨by decide, tok9⟩
  · cases h; exact ⟨by decide, tok10⟩
  · cases h; exact ⟨by decide, tok11⟩
  · cases h; exact ⟨by decide, tok12⟩
  · cases h; exact ⟨by decide, tok13⟩
  · cases h; exact ⟨by decide, tok14⟩
  · cases h; exact ⟨by decide, tok15⟩
  · cases h; exact ⟨by decide, tok16⟩
  · cases h
set_option maxRecDepth 100000 in
/-- The program's Scan of that text. -/
theorem lx_Scan (w : World) (hw : SgAt w) : Calls Tryz.prog 44 #[.string S0] w fun x w' => ∃ V, x = .returned (.tuple #[V, .nilIface]) ∧ OwnK 4 w' V 17 (toks T0) ∧ Below w.heap.size w w' ∧ ∀ k, blk V k → w.heap.size < k := by
  have h := lx_scan S0 (by decide) S0_ascii tkAt toks0 T0 T0_scan w hw
  have hz : ¬ (65536 : Int) < (S0.size : Int) := by decide
  go_enter Tryz.func44, Tryz.ntmps44
  go_wp2_with fail
  refine h.mono ?_
  rintro x w1 ⟨V, rfl, ho, hb, hk⟩
  have H := Hid.mk7 (And.intro ho (And.intro hb hk))
  obtain ⟨aV, cV, hV, _⟩ := ho.sl.form
  subst hV
  clear ho hb hk
  go_wp2
  go_ret2
  exact ⟨_, rfl, H.out⟩
end Go.Proofs.YtlgkjjbefoeabaaGreatDoor
