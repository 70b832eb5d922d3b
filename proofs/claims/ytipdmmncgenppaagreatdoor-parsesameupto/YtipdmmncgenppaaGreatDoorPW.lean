/-
  Layer 11 (parse): the program's tree of the text that every statement asks for.
-/
import Derived.Test.YtipdmmncgenppaaGreatDoorPV
namespace Go.Proofs.YtipdmmncgenppaaGreatDoor
open Go.RowKit

theorem T0_length : T0.length = 17 := rfl
theorem lvDot : Lv tk16 0 := ps_lv_dot _ _ _
theorem lvShut : Lv tk9 0 := ps_lv_sign _ _ _ _ ps_lv_shut
theorem lvPlus : Lv tk12 6 := ps_lv_sign _ _ _ _ ps_lv_plus
theorem lvTimes : Lv tk14 7 := ps_lv_sign _ _ _ _ ps_lv_times
def shX8 : Sh := ⟨3, ⟨#[88]⟩, ⟨#[]⟩, 0, [], 14⟩
def shX11 : Sh := ⟨3, ⟨#[88]⟩, ⟨#[]⟩, 0, [], 20⟩
def sh1 : Sh := ⟨1, ⟨#[]⟩, ⟨#[]⟩, 1, [], 24⟩
def sh2 : Sh := ⟨1, ⟨#[]⟩, ⟨#[]⟩, 2, [], 28⟩
theorem arg0 (b : Nat) (hb : b ≤ 1000) : Phrase b 110 [] T0 8 9 (fun _ => [shX8]) (fun n => n) :=
  ps_whole b T0 8 9 _ _ (ps_exp_leaf b hb T0 8 (by decide) (.inl rfl) 1 0 lvShut (by decide))
theorem exp2 (b : Nat) (hb : b ≤ 1000) : Phrase b 118 [.int .i64 8] T0 15 16 (fun _ => [sh2]) (fun n => n) :=
  ps_exp_leaf b hb T0 15 (by decide) (.inr rfl) 8 0 lvDot (by decide)
/-- The nodes of the product. -/
def mProd (n : Nat) : List Sh := [sh1, sh2, ⟨15, ⟨#[42]⟩, ⟨#[]⟩, 0, [(n : Int), ((n + 1 : Nat) : Int)], 26⟩]
theorem expProd (b : Nat) (hb : b ≤ 400) : Phrase b 118 [.int .i64 7] T0 13 16 mProd (fun n => n + 2) :=
  ps_exp_one b (by omega) T0 13 16 (by decide) (.inr rfl) 7 7 8 7 0 lvTimes (by decide) (by decide) ⟨by decide, by decide, by decide, by decide⟩ ps_sides7 _ _ (fun _ => by simp) (exp2 (b + 1) (by omega)) lvDot (by decide)
def mSum (n : Nat) : List Sh := shX11 :: mProd (n + 1) ++ [⟨15, ⟨#[43]⟩, ⟨#[]⟩, 0, [(n : Int), ((n + 1 + 2 : Nat) : Int)], 22⟩]
theorem expSum (b : Nat) (hb : b ≤ 300) : Phrase b 118 [.int .i64 1] T0 11 16 mSum (fun n => n + 1 + (mProd (n + 1)).length) :=
  ps_exp_one b (by omega) T0 11 16 (by decide) (.inl rfl) 1 6 7 6 0 lvPlus (by decide) (by decide) ⟨by decide, by decide, by decide, by decide⟩ ps_sides6 _ _ (fun _ => by simp [mProd]) (expProd (b + 1) (by omega)) lvDot (by decide)
def mBody (n : Nat) : List Sh := mSum n ++ [⟨23, ⟨#[]⟩, ⟨#[]⟩, 0, [((n + 4 : Nat) : Int)], 20⟩]
theorem body0 (b : Nat) (hb : b ≤ 300) : Phrase b 113 [] T0 11 16 mBody (fun n => n + 5) :=
  ps_body b (by omega) T0 11 16 (by decide) _ _ (fun _ => by simp [mSum, mProd]) (ps_whole b T0 11 16 _ _ (expSum b hb)) (by decide)
def mFun (n : Nat) : List Sh := [shX8] ++ [⟨25, ⟨#[]⟩, ⟨#[]⟩, 0, [(n : Int)], 13⟩] ++ mBody (n + 2) ++ [⟨20, ⟨#[102]⟩, ⟨#[]⟩, 0, [(n : Int) + 1, ((n + 2 + 5 : Nat) : Int)], 12⟩]
theorem fun0 (b : Nat) (hb : b ≤ 200) : Phrase b 92 [] T0 6 16 mFun (fun n => n + 2 + (mBody (n + 2)).length) :=
  ps_fun b (by omega) T0 6 9 16 (by decide) (by decide) _ _ _ _ (fun _ => rfl) (fun _ => by simp [mBody, mSum, mProd]) (arg0 b (by omega)) (body0 (b + 2) (by omega)) rfl (by decide) (by decide) (by decide) (by decide) (by decide) (by decide)
def mFunction (n : Nat) : List Sh := mFun n ++ [⟨26, ⟨#[102]⟩, ⟨#[]⟩, 1, [((n + 8 : Nat) : Int)], 12⟩]
theorem function0 (b : Nat) (hb : b ≤ 200) : Phrase b 76 [] T0 6 17 mFunction (fun n => n + 9) :=
  ps_function b (by omega) T0 6 16 (by decide) mFun (fun n => n + 2 + (mBody (n + 2)).length) (fun _ => by simp [mFun, mBody, mSum, mProd]) (fun0 b hb) (by decide) rfl (fun n => ⟨20, ⟨#[102]⟩, ⟨#[]⟩, 0, [(n : Int) + 1, ((n + 2 + 5 : Nat) : Int)], 12⟩) (fun n => ⟨25, ⟨#[]⟩, ⟨#[]⟩, 0, [(n : Int)], 13⟩) (fun n => n + 1) (fun n => [((n + 2 + 5 : Nat) : Int)])
    (fun n => ⟨by
      rw [show n + 2 + (mBody (n + 2)).length - n = 8 by simp [mBody, mSum, mProd]; omega]
      rfl, by omega, rfl, by omega, by rw [show n + 1 - n = 1 by omega]; rfl⟩)
def mModule (n : Nat) : List Sh := mFunction n ++ [⟨27, ⟨#[109]⟩, ⟨#[]⟩, 0, [((n + 9 : Nat) : Int)], 0⟩]
theorem module0 (b : Nat) (hb : b ≤ 200) : Phrase b 58 [] T0 0 17 mModule (fun n => n + 10) :=
  ps_module b (by omega) T0 0 (by decide) _ _ (fun _ => by simp [mFunction, mFun, mBody, mSum, mProd]) (function0 b hb) (by decide) (by decide) (by decide) rfl (by decide) rfl (by decide)
def mProgram (n : Nat) : List Sh := mModule n ++ [⟨28, ⟨#[]⟩, ⟨#[]⟩, 0, [((n + 10 : Nat) : Int)], 0⟩]
theorem program0 : Phrase 0 41 [] T0 0 17 mProgram (fun n => n + 11) :=
  ps_program 0 (by omega) T0 (by decide) _ _ (fun _ => by simp [mModule, mFunction, mFun, mBody, mSum, mProd]) (module0 0 (by omega))
end Go.Proofs.YtipdmmncgenppaaGreatDoor
