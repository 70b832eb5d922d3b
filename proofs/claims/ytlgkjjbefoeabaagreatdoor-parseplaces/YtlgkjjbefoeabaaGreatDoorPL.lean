/-
  Layer 11 (parse): the program's expressions: a leaf; a leaf, an operator and an expression.
-/
import Derived.Test.YtlgkjjbefoeabaaGreatDoorPK
namespace Go.Proofs.YtlgkjjbefoeabaaGreatDoor
open Go.RowKit

set_option maxRecDepth 100000 in
set_option maxHeartbeats 1600000 in
theorem ps_exp_leaf (b : Nat) (hb : b ≤ 1000) (T : List Tk) (i : Nat) (hi : i < T.length) (hk : (tokAt T i).kind = 2 ∨ (tokAt T i).kind = 3) (least L : Int) (hl : Lv (tokAt T (i + 1)) L) (hlt : L < least) : Phrase b 156 [.int .i64 least] T i (i + 1) (fun _ => [leafSh (tokAt T i)]) (fun n => n) := by
  intro w g Tv Nv N h hN
  have ho := ps_operand h hi (by omega) hk
  unfold ReadTo at ho ⊢
  generalize [leafSh (tokAt T i)] = M at ho ⊢
  go_enter Tryz.func156, Tryz.ntmps156
  go_wp2_with fail
  refine ho.mono ?_
  rintro x w1 ⟨rfl, Nv1, M1, e1, o1, h1, S1⟩
  have hp := ps_peek h1
  unfold Lv at hl
  generalize tokAt T (i + 1) = t at hp hl
  obtain ⟨tk, tt, tn, ta⟩ := t
  simp only [Tk.val] at hp hl
  have H1 := Hid.mk7 (And.intro e1 (And.intro h1 S1))
  have HO1 := Hid.mk7 o1
  clear h ho h1 S1 e1 hk o1
  go_wp2_with fail
  refine wp_loop_rounds 1 ?_
  rw [rounds_succ]
  go_wp2_with fail
  refine hp.mono ?_
  rintro x w2 ⟨rfl, hb2⟩
  go_wp2_with fail
  refine (hl _).mono ?_
  rintro x w3 ⟨rfl, hb3⟩
  have HB := Hid.mk7 (hb2.trans (((Below.alloc0 w2 _).trans (hb3.mono (by simp))).mono hb2.size))
  clear hb2 hb3 hp hl
  go_wp2
  go_ret
  exact ⟨rfl, Nv1, M1, H1.out.1, HO1.out, H1.out.2.1.below HB.out, H1.out.2.2.trans (Stp.ofB HB.out)⟩
/-- Six cells of a node in a block of one's own. -/
theorem newNode {S : Nat → Prop} {w w1 : World} (a b c d e f : Value) (T : Turned S (w.alloc (.cells #[a, b, c, d, e, f] 47)) w1) (hs : ¬ S w.heap.size) :
    (w1.cell? ⟨w.heap.size, 0, none⟩ = some a ∧ w1.cell? ⟨w.heap.size, 1, none⟩ = some b ∧ w1.cell? ⟨w.heap.size, 2, none⟩ = some c ∧ w1.cell? ⟨w.heap.size, 3, none⟩ = some d ∧ w1.cell? ⟨w.heap.size, 4, none⟩ = some e ∧ w1.cell? ⟨w.heap.size, 5, none⟩ = some f) ∧ ∀ j, w1.frozen? ⟨w.heap.size, j, none⟩ = false :=
  ⟨⟨T.cell (by simp) hs, T.cell (by simp) hs, T.cell (by simp) hs, T.cell (by simp) hs, T.cell (by simp) hs, T.cell (by simp) hs⟩, fun j => by rw [T.frozen (p := ⟨w.heap.size, j, none⟩) (by simp) hs, World.frozen?_alloc_new]⟩
/-- Two numbers in a new block. -/
theorem SlI.two (w : World) (a b : Int) (t : TypeId) : SlI (w.alloc (.cells #[.int .i64 a, .int .i64 b] t)) (.slice (some ⟨w.heap.size, 0, none⟩) 2 2) [a, b] := by
  refine ⟨rfl, .inr ⟨w.heap.size, 0, 2, rfl, Nat.le_refl _, by decide, fun j hj => ?_⟩⟩
  have hj2 : j < 2 := hj
  match j, hj2 with
  | 0, _ => simp [ints]
  | 1, _ => simp [ints]
theorem Stp.size {g : Nat} {Na Nb : Value} {a b : World} (h : Stp g Na Nb a b) : a.heap.size ≤ b.heap.size := h.t.size
set_option maxRecDepth 100000 in
set_option maxHeartbeats 6400000 in
theorem ps_exp_one (b : Nat) (hb : b ≤ 500) (T : List Tk) (i j : Nat) (hi : i + 2 < T.length) (hk : (tokAt T i).kind = 2 ∨ (tokAt T i).kind = 3) (least L R B L2 : Int) (hl : Lv (tokAt T (i + 1)) L) (h7 : ¬ 7 < L) (hle : ¬ L < least)
    (ht : ¬ (tokAt T (i + 1)).text = ⟨#[61]⟩ ∧ ¬ (tokAt T (i + 1)).text = ⟨#[33]⟩ ∧ ¬ (tokAt T (i + 1)).text = ⟨#[111, 114, 101, 108, 115, 101]⟩ ∧ ¬ (tokAt T (i + 1)).text = ⟨#[97, 110, 100, 97, 108, 115, 111]⟩)
    (hsd : ∀ w, Calls Tryz.prog 171 #[.int .i64 L] w fun e w' => e = .returned (.tuple #[.int .i64 R, .int .i64 B]) ∧ w = w')
    (M : Nat → List Sh) (r : Nat → Nat) (hM : ∀ n, (M n).length ≤ 200) (hE : Phrase (b + 1) 156 [.int .i64 R] T (i + 2) j M r) (hl2 : Lv (tokAt T j) L2) (hlt : L2 < least) :
    Phrase b 156 [.int .i64 least] T i j (fun n => leafSh (tokAt T i) :: M (n + 1) ++ [⟨15, (tokAt T (i + 1)).text, ⟨#[]⟩, 0, [(n : Int), (r (n + 1) : Int)], (tokAt T (i + 1)).at_⟩]) (fun n => n + 1 + (M (n + 1)).length) := by
  intro w g Tv Nv N h hN
  show Calls Tryz.prog 156 #[.pointer (some ⟨g, 0, none⟩), .int .i64 least] w _
  have htl := h.tl
  have hT : 0 < T.length := by omega
  have ho := ps_operand h (by omega) (by omega) hk
  have hop := fun w => ps_oper (tokAt T (i + 1)) ht.1 ht.2.1 ht.2.2.1 ht.2.2.2 w
  clear ht hk
  unfold ReadTo at ho ⊢
  unfold Lv at hl hl2
  obtain ⟨t, ht1⟩ : ∃ t, t = tokAt T (i + 1) := ⟨_, rfl⟩
  rw [← ht1] at hl ⊢
  simp only [← ht1] at hop
  obtain ⟨tk, tt, tn, ta⟩ := t
  simp only [Tk.val] at hl hop
  simp only
  go_enter Tryz.func156, Tryz.ntmps156
  go_wp2_with fail
  refine ho.mono ?_
  rintro x w1 ⟨rfl, Nv1, M1, e1, o1, h1, S1⟩
  have hM1 : M1.length = 1 := by have := congrArg List.length e1; simpa using this
  have hp := ps_peek h1
  have H1 := Hid.mk7 (And.intro e1 (And.intro h1 S1))
  have HO1 := Hid.mk7 o1
  clear h ho h1 S1 e1 o1
  rw [← ht1] at hp
  simp only [Tk.val] at hp
  clear ht1
  go_wp2_with fail
  refine wp_loop_rounds 2 ?_
  rw [rounds_succ]
  go_wp2_with fail
  refine hp.mono ?_
  rintro x w2 ⟨rfl, hb2⟩
  go_wp2_with fail
  refine (hl _).mono ?_
  rintro x w3 ⟨rfl, hb3⟩
  have b13 := hb2.trans (((Below.alloc0 w2 _).trans (hb3.mono (by simp))).mono hb2.size)
  obtain ⟨c0, c1, c2, c3⟩ := keptTok (t := ⟨tk, tt, tn, ta⟩) hb3
  have h3 := H1.out.2.1.below b13
  have hc1 := h3.c1.1
  have hf1 := h3.c1.2
  have hgl := h3.lt
  have hgl1 := H1.out.2.1.lt
  have hz2 := hb2.size
  have H3 := Hid.mk7 (And.intro b13 h3)
  clear hb2 hb3 hp hl b13 h3
  go_wp2_with fail
  obtain ⟨h4, T4⟩ := H3.out.2.next (i + 2) (by omega) rfl
  refine (hop _).mono ?_
  rintro x w5 ⟨rfl, hb5⟩
  have S5 := (H1.out.2.2.trans (Stp.ofB H3.out.1)).trans ((Stp.ofG T4).trans (Stp.ofB hb5))
  have h5 := h4.below hb5
  have hs5 : ¬ (w5.heap.size = g ∨ blk Nv1 w5.heap.size) := fun e => e.elim (fun e => by have := h5.lt; omega) (fun e => by have := h5.own.blk_lt _ e; omega)
  have fr5 := h5.free hT w5.heap.size (Nat.le_refl _)
  have H5 := Hid.mk7 (And.intro S5 h5)
  clear h4 T4 hb5 S5 h5 H3 hop c0 c1 c2 c3 hc1 hf1 hgl1 hz2
  go_wp2_with (go_at_call 171; refine (hsd _).mono ?_; rintro x w' ⟨rfl, rfl⟩)
  have h6 := H5.out.2.below (Below.alloc0 w5 (.cells #[.int .i64 15, .string tt, .string ⟨#[]⟩, .int .i64 0, .slice none 0 0, .int .i64 ta] 47))
  have hE6 := hE _ g Tv Nv1 (N ++ M1) h6 (by simp; omega)
  have hlen : (N ++ M1).length = N.length + 1 := by simp; omega
  rw [hlen] at hE6
  refine hE6.mono ?_
  rintro x w7 ⟨rfl, Nv7, M7, e7, o7, h7, S7⟩
  obtain ⟨⟨n0, n1, n2, n3, n4, n5⟩, nf⟩ := newNode _ _ _ _ _ _ S7.t hs5
  have f4 := nf 4
  have hM7 : M7.length = (M (N.length + 1)).length := by have := congrArg List.length e7; simpa using this
  have hMl := hM (N.length + 1)
  have hz7 := S7.t.size
  simp only [World.size_alloc] at hz7
  simp only [World.size_alloc] at o7
  have hz5 := H5.out.1.t.size
  have hq7 : w5.heap.size < w7.heap.size := by omega
  have fr7 : Free w7 g Tv Nv7 ((N ++ M1) ++ M7) w5.heap.size := ⟨fr5.g, fr5.t, fun e => (S7.n _ e).elim fr5.n (fun e => by simp at e; omega), fun q hq e => by
    by_cases hqn : q < (N ++ M1).length
    · rw [List.getElem_append_left hqn] at e
      exact fr5.k q hqn e
    · rw [List.getElem_append_right (by omega)] at e
      have := o7 _ (List.getElem_mem _) _ e
      omega⟩
  have H7 := Hid.mk7 (And.intro e7 (And.intro h7 ((H5.out.1.trans (Stp.ofB (Below.alloc0 w5 _))).trans S7)))
  have HO7 := Hid.mk7 o7
  have hNl : (N ++ M1 ++ M7).length = N.length + 1 + (M (N.length + 1)).length := by simp; omega
  clear h6 hE6 nf e7 h7 S7 hsd hE o7
  go_wp2_with fail
  have T8 := Turned.set1 w7 w5.heap.size 4 (.slice (some ⟨w7.heap.size, 0, none⟩) 2 2)
  have sz8 : (w7.setCell ⟨w5.heap.size, 4, none⟩ (.slice (some ⟨w7.heap.size, 0, none⟩) 2 2)).heap.size = w7.heap.size := by simp [World.setCell]
  have tw := SlI.two (w7.setCell ⟨w5.heap.size, 4, none⟩ (.slice (some ⟨w7.heap.size, 0, none⟩) 2 2)) (N.length : Int) (r (N.length + 1) : Int) 3
  rw [sz8] at tw
  have h8 := (H7.out.2.1.off fr7 T8).below (Below.alloc0 _ (.cells #[.int .i64 (N.length : Int), .int .i64 (r (N.length + 1) : Int)] 3))
  have hkk : KidOk ((w7.setCell ⟨w5.heap.size, 4, none⟩ (.slice (some ⟨w7.heap.size, 0, none⟩) 2 2)).alloc (.cells #[.int .i64 (N.length : Int), .int .i64 (r (N.length + 1) : Int)] 3)) g Nv7 (.slice (some ⟨w7.heap.size, 0, none⟩) 2 2) [(N.length : Int), (r (N.length + 1) : Int)] :=
    ⟨tw, fun k hk => by
      have hk : w7.heap.size = k := hk
      subst hk
      exact ⟨by have := H7.out.2.1.lt; omega, fun e => by have := H7.out.2.1.own.blk_lt _ e; omega, by simp [sz8]⟩⟩
  have hadd := ps_add h8 hT ⟨15, tt, ⟨#[]⟩, 0, .slice (some ⟨w7.heap.size, 0, none⟩) 2 2, [(N.length : Int), (r (N.length + 1) : Int)], ta⟩ hkk (by omega)
  simp only [Nd.val] at hadd
  have S8 : Stp g Nv Nv7 w ((w7.setCell ⟨w5.heap.size, 4, none⟩ (.slice (some ⟨w7.heap.size, 0, none⟩) 2 2)).alloc (.cells #[.int .i64 (N.length : Int), .int .i64 (r (N.length + 1) : Int)] 3)) :=
    ⟨H7.out.2.2.t.trans (T8.trans (Turned.alloc (fun _ => False) _ _) (fun _ e => e.elim)) (fun k e => .inr (by have e : k = w5.heap.size := e; omega)), H7.out.2.2.n⟩
  have HS8 := Hid.mk7 S8
  clear h8 hkk tw T8 S8 fr7 fr5
  refine hadd.mono ?_
  rintro x w9 ⟨rfl, Nv9, h9, S9⟩
  have hp9 := ps_peek h9
  have HQ9 := Hid.mk7 (And.intro h9 (HS8.out.trans S9))
  clear h9 S9 hadd n0 n1 n2 n3 n4 n5 f4
  generalize tokAt T j = t2 at hp9 hl2
  obtain ⟨tk2, tt2, tn2, ta2⟩ := t2
  simp only [Tk.val] at hp9 hl2
  go_wp2_with fail
  rw [rounds_succ]
  go_wp2_with fail
  refine hp9.mono ?_
  rintro x w10 ⟨rfl, hb10⟩
  go_wp2_with fail
  refine (hl2 _).mono ?_
  rintro x w11 ⟨rfl, hb11⟩
  have HB := Hid.mk7 (hb10.trans (((Below.alloc0 w10 _).trans (hb11.mono (by simp))).mono hb10.size))
  clear hb10 hb11 hp9 hl2
  go_wp2
  go_ret
  refine ⟨by simp; omega, Nv9, M1 ++ M7 ++ [⟨15, tt, ⟨#[]⟩, 0, .slice (some ⟨w7.heap.size, 0, none⟩) 2 2, [(N.length : Int), (r (N.length + 1) : Int)], ta⟩], ?_, ?_, ?_, HQ9.out.2.trans (Stp.ofB HB.out)⟩
  · simp [H1.out.1, H7.out.1, Nd.sh]
  · intro n hn k hk
    simp only [List.mem_append, List.mem_cons, List.not_mem_nil, or_false] at hn
    rcases hn with (hn | hn) | rfl
    · exact HO1.out n hn k hk
    · have := HO7.out n hn k hk; omega
    · have hk : w7.heap.size = k := hk
      omega
  · have h := HQ9.out.1.below HB.out
    simpa [List.append_assoc] using h
end Go.Proofs.YtlgkjjbefoeabaaGreatDoor
