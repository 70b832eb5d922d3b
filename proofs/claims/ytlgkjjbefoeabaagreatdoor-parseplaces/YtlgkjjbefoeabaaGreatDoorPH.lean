/-
  Layer 11 (parse): the program's parser in memory; what it looks at.
-/
import Derived.Test.YtlgkjjbefoeabaaGreatDoorPG
namespace Go.Proofs.YtlgkjjbefoeabaaGreatDoor
open Go.RowKit

/-- A node, with the value of its Kids. -/
structure Nd where
  kind : Int
  text : ByteArray
  mod : ByteArray
  num : Int
  kv : Value
  kids : List Int
  at_ : Int
def Nd.cells (n : Nd) : List Value := [.int .i64 n.kind, .string n.text, .string n.mod, .int .i64 n.num, n.kv, .int .i64 n.at_]
def Nd.val (n : Nd) : Value := .agg #[.int .i64 n.kind, .string n.text, .string n.mod, .int .i64 n.num, n.kv, .int .i64 n.at_]
def nds (l : List Nd) : List Value := l.flatMap Nd.cells
theorem nds_snoc (l : List Nd) (t : Nd) : nds (l ++ [t]) = nds l ++ t.cells := by simp [nds]
def ints (l : List Int) : List Value := l.map fun z => .int .i64 z
theorem ints_length (l : List Int) : (ints l).length = l.length := by simp [ints]
/-- The slice v holds these numbers. -/
def SlI (w : World) (v : Value) (l : List Int) : Prop := SlK 1 w v l.length (ints l)
/-- The parser at block g. -/
structure PAt (w : World) (g : Nat) (Tv : Value) (T : List Tk) (i : Nat) (Nv : Value) (N : List Nd) : Prop where
  c0 : w.cell? ⟨g, 0, none⟩ = some Tv
  c1 : w.cell? ⟨g, 1, none⟩ = some (.int .i64 i) ∧ w.frozen? ⟨g, 1, none⟩ = false
  c2 : w.cell? ⟨g, 2, none⟩ = some Nv ∧ w.frozen? ⟨g, 2, none⟩ = false
  tok : SlK 4 w Tv T.length (toks T)
  tg : ∀ k, blk Tv k → k ≠ g ∧ ¬ blk Nv k
  own : OwnK 6 w Nv N.length (nds N)
  ng : ¬ blk Nv g
  kid : ∀ j (h : j < N.length), SlI w N[j].kv N[j].kids ∧ ∀ k, blk N[j].kv k → k ≠ g ∧ ¬ blk Nv k ∧ k < w.heap.size
  il : i ≤ T.length
  tl : T.length ≤ 65536
theorem PAt.lt {w : World} {g : Nat} {Tv : Value} {T : List Tk} {i : Nat} {Nv : Value} {N : List Nd} (h : PAt w g Tv T i Nv N) : g < w.heap.size := World.block_lt_of_cell? w _ h.c0
theorem PAt.turned {S : Nat → Prop} {w w' : World} {g : Nat} {Tv : Value} {T : List Tk} {i : Nat} {Nv : Value} {N : List Nd} (h : PAt w g Tv T i Nv N) (ht : Turned S w w') (hg : ¬ S g) (hT : ∀ k, blk Tv k → ¬ S k) (hN : ∀ k, blk Nv k → ¬ S k) (hK : ∀ j (h : j < N.length) k, blk N[j].kv k → ¬ S k) : PAt w' g Tv T i Nv N :=
  ⟨ht.cell h.c0 hg, ⟨ht.cell h.c1.1 hg, by rw [ht.frozen (p := ⟨g, 1, none⟩) h.lt hg]; exact h.c1.2⟩, ⟨ht.cell h.c2.1 hg, by rw [ht.frozen (p := ⟨g, 2, none⟩) h.lt hg]; exact h.c2.2⟩, h.tok.turned ht hT, h.tg, h.own.turned ht hN, h.ng, fun j hj => ⟨(h.kid j hj).1.turned ht (hK j hj), fun k hk => ⟨((h.kid j hj).2 k hk).1, ((h.kid j hj).2 k hk).2.1, Nat.lt_of_lt_of_le ((h.kid j hj).2 k hk).2.2 ht.size⟩⟩, h.il, h.tl⟩
theorem PAt.below {w w' : World} {g : Nat} {Tv : Value} {T : List Tk} {i : Nat} {Nv : Value} {N : List Nd} (h : PAt w g Tv T i Nv N) (hb : Below w.heap.size w w') : PAt w' g Tv T i Nv N :=
  h.turned (Turned.ofBelow (S := fun _ => False) hb) (fun h => h) (fun _ _ h => h) (fun _ _ h => h) (fun _ _ _ _ h => h)
theorem Below.drew {B : Nat} {a b : World} (h : Below B a b) : Below B a b.drew := ⟨h.os, h.tape, h.output, h.size, h.block⟩
/-- The token at a place; behind the last one that of no kind. -/
def zeroTk : Tk := ⟨0, ⟨#[]⟩, 0, 0⟩
def tokAt (T : List Tk) (i : Nat) : Tk := (T[i]?).getD zeroTk
theorem toks_get : ∀ (T : List Tk) (i : Nat) (h : i < T.length), (toks T)[i * 4]? = some (.int .i64 T[i].kind) ∧ (toks T)[i * 4 + 1]? = some (.string T[i].text) ∧ (toks T)[i * 4 + 2]? = some (.int .i64 T[i].num) ∧ (toks T)[i * 4 + 3]? = some (.int .i64 T[i].at_)
  | t :: r, 0, _ => ⟨rfl, rfl, rfl, rfl⟩
  | t :: r, i + 1, h => by
    have ih := toks_get r i (by simpa using h)
    have e : ∀ j, (toks (t :: r))[(i + 1) * 4 + j]? = (toks r)[i * 4 + j]? := fun j => by
      have : (i + 1) * 4 + j = (i * 4 + j) + 4 := by omega
      rw [this]
      show (Tk.cells t ++ toks r)[i * 4 + j + 4]? = _
      rw [List.getElem?_append_right (by simp [Tk.cells])]
      simp [Tk.cells]
    have e0 := e 0
    rw [Nat.add_zero, Nat.add_zero] at e0
    rw [e0, e 1, e 2, e 3]
    exact ih
/-- Where a token lies. -/
theorem PAt.at {w : World} {g : Nat} {Tv : Value} {T : List Tk} {i : Nat} {Nv : Value} {N : List Nd} (h : PAt w g Tv T i Nv N) (j : Nat) (hj : j < T.length) : ∃ b off cap, Tv = .slice (some ⟨b, off, none⟩) T.length cap ∧ w.rangeAt b (off + j * 4) (tokAt T j).cells := by
  obtain ⟨b, off, cap, rfl, _, _, hc⟩ := h.tok.at j hj
  obtain ⟨t0, t1, t2, t3⟩ := toks_get T j hj
  have et : tokAt T j = T[j] := by simp [tokAt, hj]
  have e0 := (hc 0 (by omega)).1
  have e1 := (hc 1 (by omega)).1
  have e2 := (hc 2 (by omega)).1
  have e3 := (hc 3 (by omega)).1
  rw [Nat.add_zero, Nat.add_zero, t0] at e0
  rw [t1] at e1
  rw [t2] at e2
  rw [t3] at e3
  refine ⟨b, off, cap, rfl, fun q v hq => ?_⟩
  rw [et] at hq
  match q, hq with
  | 0, hq => simp [Tk.cells] at hq; subst hq; exact e0
  | 1, hq => simp [Tk.cells] at hq; subst hq; exact e1
  | 2, hq => simp [Tk.cells] at hq; subst hq; exact e2
  | 3, hq => simp [Tk.cells] at hq; subst hq; exact e3
  | q + 4, hq => simp [Tk.cells] at hq
set_option maxRecDepth 100000 in
set_option maxHeartbeats 1600000 in
theorem ps_ahead {w : World} {g : Nat} {Tv : Value} {T : List Tk} {i : Nat} {Nv : Value} {N : List Nd} (h : PAt w g Tv T i Nv N) (n : Nat) (hn : n ≤ 1) : Calls Tryz.prog 93 #[.pointer (some ⟨g, 0, none⟩), .int .i64 n] w fun x w' => x = .returned (tokAt T (i + n)).val ∧ Below w.heap.size w w' := by
  have hc0 := h.c0
  have hc1 := h.c1.1
  have hgl := h.lt
  have hil := h.il
  have htl := h.tl
  obtain ⟨aT, cT, hTv, _⟩ := h.tok.form
  subst hTv
  by_cases hlt : i + n < T.length
  · have hge : ¬ (T.length : Int) ≤ (i : Int) + (n : Int) := by omega
    obtain ⟨b, off, cap, hTv, hr⟩ := h.at (i + n) hlt
    simp only [Value.slice.injEq] at hTv
    obtain ⟨rfl, _, rfl⟩ := hTv
    have k0 := hr 0 _ rfl
    have k1 := hr 1 _ rfl
    have k2 := hr 2 _ rfl
    have k3 := hr 3 _ rfl
    rw [Nat.add_zero] at k0
    have hbl : b < w.heap.size := World.block_lt_of_cell? w _ k0
    generalize tokAt T (i + n) = t at k0 k1 k2 k3 ⊢
    obtain ⟨tk, tt, tn, ta⟩ := t
    clear h hr
    go_enter Tryz.func93, Tryz.ntmps93
    go_wp2_with fail
    go_region
    go_wp2_with fail
    go_region
    go_wp2
    refine bodyPost_ret (v := .agg #[.int .i64 tk, .string tt, .int .i64 tn, .int .i64 ta]) (by simp [results, Tryz.results93, go_sem]) rfl ⟨rfl, ?_⟩
    exact (Below.alloc0 w _).drew.drew
  · have hge : (T.length : Int) ≤ (i : Int) + (n : Int) := by omega
    have ez : tokAt T (i + n) = zeroTk := by simp [tokAt, List.getElem?_eq_none (Nat.le_of_not_lt hlt)]
    rw [ez]
    clear h ez
    go_enter Tryz.func93, Tryz.ntmps93
    go_wp2_with fail
    go_region
    go_wp2
    refine bodyPost_ret (v := zeroTk.val) (by simp [results, Tryz.results93, go_sem, zeroTk, Tk.val]) rfl ⟨rfl, ?_⟩
    exact (Below.alloc0 w _).drew
/-- Four cells of a token, written in a block of one's own. -/
theorem Below.tok4 {w w1 : World} (h : Below w.heap.size w w1) (t : Tk) : Below w.heap.size w ((((w1.setCell ⟨w.heap.size, 0, none⟩ (.int .i64 t.kind)).setCell ⟨w.heap.size, 1, none⟩ (.string t.text)).setCell ⟨w.heap.size, 2, none⟩ (.int .i64 t.num)).setCell ⟨w.heap.size, 3, none⟩ (.int .i64 t.at_)) :=
  Below.setNew (Below.setNew (Below.setNew (Below.setNew h 0 _) 1 _) 2 _) 3 _
set_option maxRecDepth 100000 in
set_option maxHeartbeats 1600000 in
theorem ps_peek {w : World} {g : Nat} {Tv : Value} {T : List Tk} {i : Nat} {Nv : Value} {N : List Nd} (h : PAt w g Tv T i Nv N) : Calls Tryz.prog 76 #[.pointer (some ⟨g, 0, none⟩)] w fun x w' => x = .returned (tokAt T i).val ∧ Below w.heap.size w w' := by
  have ha := fun o => ps_ahead (h.below (Below.alloc0 w o)) 0 (by omega)
  simp only [Nat.add_zero] at ha
  generalize tokAt T i = t at ha ⊢
  obtain ⟨tk, tt, tn, ta⟩ := t
  clear h
  go_enter Tryz.func76, Tryz.ntmps76
  go_wp2_with fail
  refine (ha _).mono ?_
  rintro x w1 ⟨rfl, hb1⟩
  obtain ⟨⟨c0, f0⟩, ⟨c1, f1⟩, ⟨c2, f2⟩, ⟨c3, f3⟩⟩ := newTok hb1
  have HB := Hid.mk7 ((Below.alloc0 w _).trans (hb1.mono (by simp)))
  clear ha hb1
  simp only [Tk.val]
  go_wp2
  refine bodyPost_ret (v := .agg #[.int .i64 tk, .string tt, .int .i64 tn, .int .i64 ta]) ?_ rfl ⟨rfl, ?_⟩
  · simp [results, Tryz.results76, go_sem, c0, c1, c2, c3]
  · exact Below.tok4 HB.out ⟨tk, tt, tn, ta⟩
theorem bytes_ne {a b : ByteArray} (h : ¬ a = b) : ¬ a.toList = b.toList := by
  intro e
  rw [ByteArray.toList_eq, ByteArray.toList_eq] at e
  exact h (ByteArray.ext (Array.toList_inj.1 e))
set_option maxRecDepth 100000 in
theorem ps_is (t : Tk) (k : Int) (s : ByteArray) (w : World) : Calls Tryz.prog 117 #[t.val, .int .i64 k, .string s] w fun x w' => x = .returned (.bool (decide (t.kind = k) && decide (t.text = s))) ∧ Below w.heap.size w w' := by
  obtain ⟨tk, tt, tn, ta⟩ := t
  simp only [Tk.val]
  by_cases hk : tk = k
  · subst hk
    by_cases hs : tt = s
    · subst hs
      go_enter Tryz.func117, Tryz.ntmps117
      go_wp2
      all_goals go_ret
      all_goals exact ⟨congrArg Ending.returned (congrArg Value.bool (by simp)), Below.alloc0 w _⟩
    · go_enter Tryz.func117, Tryz.ntmps117
      go_wp2
      all_goals go_ret
      all_goals exact ⟨congrArg Ending.returned (congrArg Value.bool (by simp [hs]; exact bytes_ne hs)), Below.alloc0 w _⟩
  · have hkb : (tk == k) = false := by simpa using hk
    go_enter Tryz.func117, Tryz.ntmps117
    go_wp2
    all_goals go_ret
    all_goals exact ⟨congrArg Ending.returned (congrArg Value.bool (by simp [hk])), Below.alloc0 w _⟩
/-- Is a token this one? -/
def isTk (k : Int) (s : ByteArray) (t : Tk) : Bool := decide (t.kind = k) && decide (t.text = s)
set_option maxRecDepth 100000 in
theorem ps_isSign {w : World} {g : Nat} {Tv : Value} {T : List Tk} {i : Nat} {Nv : Value} {N : List Nd} (h : PAt w g Tv T i Nv N) (s : ByteArray) : Calls Tryz.prog 98 #[.pointer (some ⟨g, 0, none⟩), .string s] w fun x w' => x = .returned (.bool (isTk 5 s (tokAt T i))) ∧ Below w.heap.size w w' := by
  have hp := ps_peek h
  have hi := fun w => ps_is (tokAt T i) 5 s w
  unfold isTk
  generalize (decide ((tokAt T i).kind = 5) && decide ((tokAt T i).text = s)) = bb at hi ⊢
  generalize tokAt T i = t at hp hi
  obtain ⟨tk, tt, tn, ta⟩ := t
  simp only [Tk.val] at hp hi
  clear h
  go_enter Tryz.func98, Tryz.ntmps98
  go_wp2_with fail
  refine hp.mono ?_
  rintro x w1 ⟨rfl, hb1⟩
  go_wp2_with fail
  refine (hi _).mono ?_
  rintro x w2 ⟨rfl, hb2⟩
  have HB := Hid.mk7 (hb1.trans (hb2.mono hb1.size))
  clear hb1 hb2 hp hi
  go_wp2
  go_ret
  exact ⟨rfl, HB.out⟩
set_option maxRecDepth 100000 in
theorem ps_isWord {w : World} {g : Nat} {Tv : Value} {T : List Tk} {i : Nat} {Nv : Value} {N : List Nd} (h : PAt w g Tv T i Nv N) (s : ByteArray) : Calls Tryz.prog 146 #[.pointer (some ⟨g, 0, none⟩), .string s] w fun x w' => x = .returned (.bool (isTk 4 s (tokAt T i))) ∧ Below w.heap.size w w' := by
  have hp := ps_peek h
  have hi := fun w => ps_is (tokAt T i) 4 s w
  unfold isTk
  generalize (decide ((tokAt T i).kind = 4) && decide ((tokAt T i).text = s)) = bb at hi ⊢
  generalize tokAt T i = t at hp hi
  obtain ⟨tk, tt, tn, ta⟩ := t
  simp only [Tk.val] at hp hi
  clear h
  go_enter Tryz.func146, Tryz.ntmps146
  go_wp2_with fail
  refine hp.mono ?_
  rintro x w1 ⟨rfl, hb1⟩
  go_wp2_with fail
  refine (hi _).mono ?_
  rintro x w2 ⟨rfl, hb2⟩
  have HB := Hid.mk7 (hb1.trans (hb2.mono hb1.size))
  clear hb1 hb2 hp hi
  go_wp2
  go_ret
  exact ⟨rfl, HB.out⟩
end Go.Proofs.YtlgkjjbefoeabaaGreatDoor
