/-
  Layer 11 (parse): the program's operators and its simplest expressions.
-/
import Derived.Test.YtlgkjjbefoeabaaGreatDoorPJ
namespace Go.Proofs.YtlgkjjbefoeabaaGreatDoor
open Go.RowKit

set_option maxRecDepth 100000 in
theorem ps_lv_plus (w : World) : Calls Tryz.prog 178 #[.string ⟨#[43]⟩] w fun e w' => e = .returned (.int .i64 6) ∧ w = w' := by
  go_enter Tryz.func178, Tryz.ntmps178
  go_wp2
  all_goals go_ret
  all_goals exact ⟨rfl, rfl⟩
set_option maxRecDepth 100000 in
theorem ps_lv_times (w : World) : Calls Tryz.prog 178 #[.string ⟨#[42]⟩] w fun e w' => e = .returned (.int .i64 7) ∧ w = w' := by
  go_enter Tryz.func178, Tryz.ntmps178
  go_wp2
  all_goals go_ret
  all_goals exact ⟨rfl, rfl⟩
set_option maxRecDepth 100000 in
theorem ps_lv_shut (w : World) : Calls Tryz.prog 178 #[.string ⟨#[41]⟩] w fun e w' => e = .returned (.int .i64 0) ∧ w = w' := by
  go_enter Tryz.func178, Tryz.ntmps178
  go_wp2
  all_goals go_ret
  all_goals exact ⟨rfl, rfl⟩
/-- A token's level. -/
def Lv (t : Tk) (l : Int) : Prop := ∀ w, Calls Tryz.prog 169 #[t.val] w fun e w' => e = .returned (.int .i64 l) ∧ Below w.heap.size w w'
set_option maxRecDepth 100000 in
theorem ps_lv_sign (s : ByteArray) (n a l : Int) (h : ∀ w, Calls Tryz.prog 178 #[.string s] w fun e w' => e = .returned (.int .i64 l) ∧ w = w') : Lv ⟨5, s, n, a⟩ l := by
  intro w
  simp only [Tk.val]
  go_enter Tryz.func169, Tryz.ntmps169
  go_wp2_with (go_at_call 178; refine (h _).mono ?_; rintro e w1 ⟨rfl, rfl⟩)
  go_ret
  exact ⟨rfl, Below.alloc0 w _⟩
set_option maxRecDepth 100000 in
theorem ps_lv_dot (s : ByteArray) (n a : Int) : Lv ⟨6, s, n, a⟩ 0 := by
  intro w
  simp only [Tk.val]
  go_enter Tryz.func169, Tryz.ntmps169
  go_wp2
  go_ret
  exact ⟨rfl, Below.alloc0 w _⟩
set_option maxRecDepth 100000 in
theorem ps_sides6 (w : World) : Calls Tryz.prog 171 #[.int .i64 6] w fun e w' => e = .returned (.tuple #[.int .i64 7, .int .i64 6]) ∧ w = w' := by
  go_enter Tryz.func171, Tryz.ntmps171
  go_wp2
  go_ret2
  exact ⟨rfl, rfl⟩
set_option maxRecDepth 100000 in
theorem ps_sides7 (w : World) : Calls Tryz.prog 171 #[.int .i64 7] w fun e w' => e = .returned (.tuple #[.int .i64 8, .int .i64 7]) ∧ w = w' := by
  go_enter Tryz.func171, Tryz.ntmps171
  go_wp2
  go_ret2
  exact ⟨rfl, rfl⟩
theorem list_ne {a : ByteArray} {l : List UInt8} (h : ¬ a = ⟨l.toArray⟩) : (a.toList == l) = false := by
  rw [beq_eq_false_iff_ne]
  intro e
  refine h (ByteArray.ext (Array.toList_inj.1 ?_))
  rw [ByteArray.toList_eq] at e
  simpa using e
set_option maxRecDepth 100000 in
/-- An operator's node, of those that have no kind of their own. -/
theorem ps_oper (t : Tk) (h1 : ¬ t.text = ⟨#[61]⟩) (h2 : ¬ t.text = ⟨#[33]⟩) (h3 : ¬ t.text = ⟨#[111, 114, 101, 108, 115, 101]⟩) (h4 : ¬ t.text = ⟨#[97, 110, 100, 97, 108, 115, 111]⟩) (w : World) : Calls Tryz.prog 170 #[t.val] w fun e w' => e = .returned (.agg #[.int .i64 15, .string t.text, .string ⟨#[]⟩, .int .i64 0, .slice none 0 0, .int .i64 t.at_]) ∧ Below w.heap.size w w' := by
  obtain ⟨tk, tt, tn, ta⟩ := t
  simp only at h1 h2 h3 h4
  have k1 := list_ne (l := [61]) h1
  have k2 := list_ne (l := [33]) h2
  have k3 := list_ne (l := [111, 114, 101, 108, 115, 101]) h3
  have k4 := list_ne (l := [97, 110, 100, 97, 108, 115, 111]) h4
  clear h1 h2 h3 h4
  simp only [Tk.val]
  go_enter Tryz.func170, Tryz.ntmps170
  go_wp2
  refine bodyPost_ret (v := .agg #[.int .i64 15, .string tt, .string ⟨#[]⟩, .int .i64 0, .slice none 0 0, .int .i64 ta]) (by simp [results, Tryz.results170, go_sem]) rfl ⟨rfl, ?_⟩
  exact ((Below.alloc0 w _).trans ((Below.alloc0 _ _).mono (by simp)))
/-- A node, its Kids' value aside. -/
structure Sh where
  kind : Int
  text : ByteArray
  mod : ByteArray
  num : Int
  kids : List Int
  at_ : Int
deriving DecidableEq
def Nd.sh (n : Nd) : Sh := ⟨n.kind, n.text, n.mod, n.num, n.kids, n.at_⟩
/-- A call that reads a phrase: new nodes, and the number of the last one's. -/
def ReadTo (w : World) (g : Nat) (Tv : Value) (T : List Tk) (Nv : Value) (N : List Nd) (j : Nat) (M : List Sh) (r : Nat) (x : Ending) (w' : World) : Prop :=
  x = .returned (.int .i64 r) ∧ ∃ Nv' M', M'.map Nd.sh = M ∧ (∀ n ∈ M', ∀ k, blk n.kv k → w.heap.size ≤ k) ∧ PAt w' g Tv T j Nv' (N ++ M') ∧ Stp g Nv Nv' w w'
/-- What a phrase of the program's parser reads from one token to another. -/
def Phrase (b : Nat) (f : FuncId) (more : List Value) (T : List Tk) (i j : Nat) (M : Nat → List Sh) (r : Nat → Nat) : Prop := ∀ (w : World) (g : Nat) (Tv Nv : Value) (N : List Nd), PAt w g Tv T i Nv N → N.length ≤ b → Calls Tryz.prog f (Value.pointer (some ⟨g, 0, none⟩) :: more).toArray w (ReadTo w g Tv T Nv N j (M N.length) (r N.length))
/-- The node of a token that is an expression. -/
def leafSh (t : Tk) : Sh := if t.kind = 3 then ⟨1, ⟨#[]⟩, ⟨#[]⟩, t.num, [], t.at_⟩ else ⟨3, t.text, ⟨#[]⟩, 0, [], t.at_⟩
set_option maxRecDepth 100000 in
set_option maxHeartbeats 1600000 in
theorem ps_single {w : World} {g : Nat} {Tv : Value} {T : List Tk} {i : Nat} {Nv : Value} {N : List Nd} (h : PAt w g Tv T i Nv N) (hi : i < T.length) (hN : N.length ≤ 1000) (hk : (tokAt T i).kind = 2 ∨ (tokAt T i).kind = 3) : Calls Tryz.prog 177 #[.pointer (some ⟨g, 0, none⟩), (tokAt T i).val] w (ReadTo w g Tv T Nv N (i + 1) [leafSh (tokAt T i)] N.length) := by
  have htl := h.tl
  have hA : ∀ o (n : Nd), n.kv = .slice none 0 0 → n.kids = [] → Calls Tryz.prog 78 #[.pointer (some ⟨g, 0, none⟩), n.val] ((w.setCell ⟨g, 1, none⟩ (.int .i64 ((i : Int) + 1))).alloc o) (fun x w' => x = .returned (.int .i64 N.length) ∧ ∃ Nv', PAt w' g Tv T (i + 1) Nv' (N ++ [n]) ∧ Stp g Nv Nv' w w') := fun o n e1 e2 => by
    obtain ⟨h2, T2⟩ := h.next (i + 1) hi rfl
    refine (ps_add (h2.below (Below.alloc0 _ o)) (by omega) n (by rw [e1, e2]; exact KidOk.nil _ _ _) (by omega)).mono ?_
    rintro x w' ⟨rfl, Nv', h3, S3⟩
    exact ⟨rfl, Nv', h3, ((Stp.ofG T2).trans (Stp.ofB (Below.alloc0 _ o))).trans S3⟩
  have hc1 := h.c1.1
  have hf1 := h.c1.2
  have hgl := h.lt
  unfold ReadTo
  generalize tokAt T i = t at hk ⊢
  obtain ⟨tk, tt, tn, ta⟩ := t
  simp only [Tk.val]
  simp only at hk
  clear h
  rcases hk with rfl | rfl
  · have hA := fun o => hA o ⟨3, tt, ⟨#[]⟩, 0, .slice none 0 0, [], ta⟩ rfl rfl
    simp only [Nd.val] at hA
    go_enter Tryz.func177, Tryz.ntmps177
    go_wp2_with fail
    refine (hA _).mono ?_
    rintro x w1 ⟨rfl, Nv', h3, S3⟩
    have H3 := Hid.mk7 (And.intro h3 S3)
    clear h3 S3 hA hc1 hf1
    go_wp2
    go_ret
    exact ⟨rfl, Nv', _, rfl, (fun n hn k hk => by simp only [List.mem_cons, List.not_mem_nil, or_false] at hn; subst hn; exact hk.elim), H3.out⟩
  · have hA := fun o => hA o ⟨1, ⟨#[]⟩, ⟨#[]⟩, tn, .slice none 0 0, [], ta⟩ rfl rfl
    simp only [Nd.val] at hA
    go_enter Tryz.func177, Tryz.ntmps177
    go_wp2_with fail
    refine (hA _).mono ?_
    rintro x w1 ⟨rfl, Nv', h3, S3⟩
    have H3 := Hid.mk7 (And.intro h3 S3)
    clear h3 S3 hA hc1 hf1
    go_wp2
    go_ret
    exact ⟨rfl, Nv', _, rfl, (fun n hn k hk => by simp only [List.mem_cons, List.not_mem_nil, or_false] at hn; subst hn; exact hk.elim), H3.out⟩
/-- A token in a block of one's own is kept. -/
theorem keptTok {w w1 : World} {t : Tk} (hb : Below (w.alloc (.cells #[.int .i64 t.kind, .string t.text, .int .i64 t.num, .int .i64 t.at_] 40)).heap.size (w.alloc (.cells #[.int .i64 t.kind, .string t.text, .int .i64 t.num, .int .i64 t.at_] 40)) w1) :
    w1.cell? ⟨w.heap.size, 0, none⟩ = some (.int .i64 t.kind) ∧ w1.cell? ⟨w.heap.size, 1, none⟩ = some (.string t.text) ∧ w1.cell? ⟨w.heap.size, 2, none⟩ = some (.int .i64 t.num) ∧ w1.cell? ⟨w.heap.size, 3, none⟩ = some (.int .i64 t.at_) := by
  refine ⟨(hb.cell (p := ⟨w.heap.size, 0, none⟩) (by simp)).trans (by simp), (hb.cell (p := ⟨w.heap.size, 1, none⟩) (by simp)).trans (by simp), (hb.cell (p := ⟨w.heap.size, 2, none⟩) (by simp)).trans (by simp), (hb.cell (p := ⟨w.heap.size, 3, none⟩) (by simp)).trans (by simp)⟩
set_option maxRecDepth 100000 in
set_option maxHeartbeats 1600000 in
theorem ps_operand {w : World} {g : Nat} {Tv : Value} {T : List Tk} {i : Nat} {Nv : Value} {N : List Nd} (h : PAt w g Tv T i Nv N) (hi : i < T.length) (hN : N.length ≤ 1000) (hk : (tokAt T i).kind = 2 ∨ (tokAt T i).kind = 3) : Calls Tryz.prog 168 #[.pointer (some ⟨g, 0, none⟩)] w (ReadTo w g Tv T Nv N (i + 1) [leafSh (tokAt T i)] N.length) := by
  have hp := ps_peek h
  have H := Hid.mk7 h
  have hs : ∀ (w1 : World), Below w.heap.size w w1 → Calls Tryz.prog 177 #[.pointer (some ⟨g, 0, none⟩), (tokAt T i).val] w1 (ReadTo w g Tv T Nv N (i + 1) [leafSh (tokAt T i)] N.length) := fun w1 hb =>
    (ps_single (h.below hb) hi hN hk).mono (fun x w' ⟨e, Nv', M', e2, of, h3, S3⟩ => ⟨e, Nv', M', e2, fun n hn k hk => Nat.le_trans hb.size (of n hn k hk), h3, (Stp.ofB hb).trans S3⟩)
  have i1 : ∀ w1 k s, ¬ (tokAt T i).kind = k → Calls Tryz.prog 117 #[(tokAt T i).val, .int .i64 k, .string s] w1 fun x w' => x = .returned (.bool false) ∧ Below w1.heap.size w1 w' := fun w1 k s hne => (ps_is (tokAt T i) k s w1).mono (fun x w' hx => ⟨by rw [hx.1, decide_eq_false hne]; rfl, hx.2⟩)
  have i5 := fun w1 s => i1 w1 5 s (by rcases hk with e | e <;> rw [e] <;> decide)
  have i4 := fun w1 s => i1 w1 4 s (by rcases hk with e | e <;> rw [e] <;> decide)
  clear hk i1
  unfold ReadTo at hs ⊢
  generalize tokAt T i = t at hp hs i4 i5 ⊢
  generalize [leafSh t] = L at hs ⊢
  obtain ⟨tk, tt, tn, ta⟩ := t
  simp only [Tk.val] at hp hs i4 i5
  clear h
  go_enter Tryz.func168, Tryz.ntmps168
  go_wp2_with fail
  refine hp.mono ?_
  rintro x w1 ⟨rfl, hb1⟩
  go_wp2_with fail
  refine (i5 _ _).mono ?_
  rintro x w2 ⟨rfl, hb2⟩
  obtain ⟨c0, c1, c2, c3⟩ := keptTok (t := ⟨tk, tt, tn, ta⟩) hb2
  go_wp2_with fail
  refine (i5 _ _).mono ?_
  rintro x w3 ⟨rfl, hb3⟩
  have hb23 := hb2.trans (hb3.mono hb2.size)
  clear c0 c1 c2 c3
  obtain ⟨c0, c1, c2, c3⟩ := keptTok (t := ⟨tk, tt, tn, ta⟩) hb23
  go_wp2_with fail
  refine (i4 _ _).mono ?_
  rintro x w4 ⟨rfl, hb4⟩
  have hb24 := hb23.trans (hb4.mono hb23.size)
  clear c0 c1 c2 c3
  obtain ⟨c0, c1, c2, c3⟩ := keptTok (t := ⟨tk, tt, tn, ta⟩) hb24
  have hs4 := hs w4 (hb1.trans (((Below.alloc0 w1 _).trans (hb24.mono (by simp))).mono hb1.size))
  clear hb2 hb3 hb4 hb23 hb24 hb1 hs i4 i5 hp
  go_wp2_with fail
  refine hs4.mono ?_
  rintro x w5 ⟨rfl, h5⟩
  have H5 := Hid.mk7 h5
  clear h5 hs4
  go_wp2
  go_ret
  exact ⟨rfl, H5.out⟩
end Go.Proofs.YtlgkjjbefoeabaaGreatDoor
