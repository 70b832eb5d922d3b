/-
  Layers 1 and 10 (atom, lex): the program's words and plain atoms.
-/
import Derived.Test.YtlgkjjbefoeabaaGreatDoorPA
namespace Go.Proofs.YtlgkjjbefoeabaaGreatDoor
open Go.RowKit

set_option maxRecDepth 100000 in
theorem at_free_m (w : World) : Calls Tryz.prog 151 #[.string ⟨#[109]⟩] w fun e w' => e = .returned (.bool false) ∧ w = w' := by
  go_enter Tryz.func151, Tryz.ntmps151
  go_wp2
  all_goals go_ret
  all_goals exact ⟨rfl, rfl⟩
set_option maxRecDepth 100000 in
theorem at_free_f (w : World) : Calls Tryz.prog 151 #[.string ⟨#[102]⟩] w fun e w' => e = .returned (.bool false) ∧ w = w' := by
  go_enter Tryz.func151, Tryz.ntmps151
  go_wp2
  all_goals go_ret
  all_goals exact ⟨rfl, rfl⟩
set_option maxRecDepth 100000 in
theorem at_free_module (w : World) : Calls Tryz.prog 151 #[.string ⟨#[109, 111, 100, 117, 108, 101]⟩] w fun e w' => e = .returned (.bool false) ∧ w = w' := by
  go_enter Tryz.func151, Tryz.ntmps151
  go_wp2
  all_goals go_ret
  all_goals exact ⟨rfl, rfl⟩

set_option maxRecDepth 100000 in
set_option maxHeartbeats 1600000 in
theorem at_plain (s : ByteArray) (hs : s.size ≤ 4611686018427387904) (a e : Nat) (hae : a ≤ e) (hes : e ≤ s.size) (hrun : runLen wordB s (s.size - a) a = e) (hsz : e - a ≤ 255) (hfree : ∀ w, Calls Tryz.prog 151 #[.string (s.extract a e)] w fun x w' => x = .returned (.bool false) ∧ w = w') (w : World) :
    Calls Tryz.prog 139 #[.string s, .int .i64 a] w fun x w' => x = .returned (.tuple #[.string (s.extract a e), .int .i64 e, .nilIface]) ∧ w = w' := by
  have HF := Hid.mk7 hfree
  clear hfree
  go_enter Tryz.func139, Tryz.ntmps139
  go_wp2_with fail
  go_loopw [7] (fun i wr => ∃ j : Nat, a ≤ j ∧ j ≤ s.size ∧ i = .int .i64 j ∧ runLen wordB s (s.size - j) j = e ∧ w = wr) (fun i _ => s.size - (intOf i).toNat)
  case atStart => exact ⟨a, Nat.le_refl _, by omega, rfl, hrun, rfl⟩
  case round =>
    obtain ⟨j, haj, hj, rfl, hrj, rfl⟩ := hrel
    have HR := Hid.mk7 hrj
    clear hrj hrun
    by_cases hlt : j < s.size
    · have hlti : (j : Int) < (s.size : Int) := by omega
      have ha := at_word (s[j].toNat : Int) w
      cases hp : wordB (s[j].toNat : Int) with
      | true =>
        have HN : Hid (runLen wordB s (s.size - (j + 1)) (j + 1) = e) := by
          have e : s.size - j = s.size - (j + 1) + 1 := by omega
          have := HR.out
          rw [e, runLen, dif_pos hlt, hp] at this
          exact this
        rw [hp] at ha
        clear hp HR HF
        go_wp2_with (go_at_call 150; refine ha.mono ?_; rintro e w' ⟨rfl, rfl⟩)
        go_roundw
        case rel => exact ⟨j + 1, by omega, by omega, by go_num, HN.out, trivial⟩
        case measure => simp [intOf]; omega
      | false =>
        obtain rfl : j = e := by
          have := HR.out
          rw [runLen_stop wordB s j hlt hp] at this
          exact this
        rw [hp] at ha
        clear hp HR
        have h255 : ¬ (255 : Int) < ((j - a : Nat) : Int) := by omega
        go_wp2_with (first | (go_at_call 150; refine ha.mono ?_; rintro e w' ⟨rfl, rfl⟩) | (go_at_call 151; refine (HF.out w).mono ?_; rintro e w' ⟨rfl, rfl⟩))
        go_ret3
        exact ⟨rfl, rfl⟩
    · have hge : ¬ (j : Int) < (s.size : Int) := by omega
      obtain rfl : j = e := by
        have := HR.out
        rw [runLen_end wordB s j hlt] at this
        exact this
      clear HR
      have h255 : ¬ (255 : Int) < ((j - a : Nat) : Int) := by omega
      go_wp2_with (first | (go_at_call 151; refine (HF.out w).mono ?_; rintro e w' ⟨rfl, rfl⟩))
      go_ret3
      exact ⟨rfl, rfl⟩
/-- What a plain atom is. -/
structure PlainAt (s : ByteArray) (a e : Nat) : Prop where
  size : s.size ≤ 4611686018427387904
  lt : a < s.size
  le : a ≤ e
  es : e ≤ s.size
  small : smallB (s[a].toNat : Int) = true
  run : runLen wordB s (s.size - a) a = e
  short : e - a ≤ 255
  free : ∀ w, Calls Tryz.prog 151 #[.string (s.extract a e)] w fun x w' => x = .returned (.bool false) ∧ w = w'
set_option maxRecDepth 100000 in
theorem at_scan {s : ByteArray} {a e : Nat} (h : PlainAt s a e) (w : World) : Calls Tryz.prog 126 #[.string s, .int .i64 a] w fun x w' => x = .returned (.tuple #[.string (s.extract a e), .int .i64 e, .nilIface]) ∧ w = w' := by
  have hp := at_plain s h.size a e h.le h.es h.run h.short h.free w
  have hlt := h.lt
  have hsm := at_small (s[a]'hlt).toNat w
  rw [h.small] at hsm
  have hlti : (a : Int) < (s.size : Int) := by omega
  have hn0 : ¬ (a : Int) < 0 := by omega
  have hn1 : ¬ (s.size : Int) < (a : Int) := by omega
  clear h
  go_enter Tryz.func126, Tryz.ntmps126
  go_wp2_with (first | (go_at_call 138; refine hsm.mono ?_; rintro e w' ⟨rfl, rfl⟩) | (go_at_call 139; refine hp.mono ?_; rintro e w' ⟨rfl, rfl⟩))
  go_ret3
  exact ⟨rfl, rfl⟩
set_option maxRecDepth 100000 in
theorem er_is_nil (x : Value) (w : World) : Calls Tryz.prog 64 #[.nilIface, .iface 50 x] w fun e w' => e = .returned (.bool false) ∧ w = w' := by
  have hq : (binOp .eql 30 .nilIface (.iface 50 x)).run Tryz.prog w = .ok (.bool false) w := by
    have h : ∀ d : Nat, (Op.equalIn (d + 2) 30 .nilIface (.iface 50 x)).run Tryz.prog w = .ok false w := fun d => by
      simp [Op.equalIn, run_underlying Tryz.underlying30]
    simp only [binOp]
    simp [Op.equal, Op.maxDepth, h 9998]
  go_enter Tryz.func64, Tryz.ntmps64
  go_wp2
  all_goals go_ret
  all_goals exact ⟨rfl, rfl⟩
set_option maxRecDepth 100000 in
theorem lx_word_at (s : ByteArray) (hs : s.size ≤ 4611686018427387904) (e : Nat) (hes : e ≤ s.size) (hrun : runLen wordB s s.size 0 = e) (w : World) : Calls Tryz.prog 105 #[.string s] w fun x w' => x = .returned (.string (s.extract 0 e)) ∧ w = w' := by
  have hr := lx_runWord s hs w
  rw [hrun] at hr
  go_enter Tryz.func105, Tryz.ntmps105
  go_wp2_with (go_at_call 90; refine hr.mono ?_; rintro e w' ⟨rfl, rfl⟩)
  go_ret
  exact ⟨rfl, rfl⟩
set_option maxRecDepth 100000 in
theorem lx_free {s : ByteArray} {e : Nat} (h : PlainAt s 0 e) (w : World) : Calls Tryz.prog 106 #[.string s] w fun x w' => x = .returned (.bool false) ∧ w = w' := by
  have hsc := at_scan h w
  have hi := er_is_nil (.int .i64 20) w
  clear h
  go_enter Tryz.func106, Tryz.ntmps106
  go_wp2_with (first | (go_at_call 126; refine hsc.mono ?_; rintro e w' ⟨rfl, rfl⟩) | (go_at_call 64; refine hi.mono ?_; rintro e w' ⟨rfl, rfl⟩))
  go_ret
  exact ⟨rfl, rfl⟩
/-- A token. -/
structure Tk where
  kind : Int
  text : ByteArray
  num : Int
  at_ : Int
deriving DecidableEq
def Tk.val (t : Tk) : Value := .agg #[.int .i64 t.kind, .string t.text, .int .i64 t.num, .int .i64 t.at_]
def Tk.cells (t : Tk) : List Value := [.int .i64 t.kind, .string t.text, .int .i64 t.num, .int .i64 t.at_]
/-- A call that tells a token, the place behind it and no fault. -/
def TokTold (t : Tk) (e : Int) (w : World) (x : Ending) (w' : World) : Prop := x = .returned (.tuple #[t.val, .int .i64 e, .nilIface]) ∧ Below w.heap.size w w'
set_option maxRecDepth 100000 in
theorem lx_atom {s : ByteArray} {a e : Nat} (h : PlainAt s a e) (w : World) : Calls Tryz.prog 107 #[.string s, .int .i64 a] w (TokTold ⟨1, s.extract a e, 0, a⟩ e w) := by
  have hsc := fun w => at_scan h w
  clear h
  go_enter Tryz.func107, Tryz.ntmps107
  go_wp2_with (first | (go_at_call 126; refine (hsc _).mono ?_; rintro e w' ⟨rfl, rfl⟩))
  refine bodyPost_ret (v := .tuple #[(⟨1, s.extract a e, 0, a⟩ : Tk).val, .int .i64 e, .nilIface]) (by simp [results, Tryz.results107, go_sem, Tk.val]) rfl ⟨rfl, ?_⟩
  exact (Below.refl _ _).alloc (Nat.le_refl _) _
end Go.Proofs.YtlgkjjbefoeabaaGreatDoor
