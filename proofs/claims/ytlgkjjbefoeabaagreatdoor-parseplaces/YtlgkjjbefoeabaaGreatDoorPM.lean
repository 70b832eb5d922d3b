/-
  Layer 11 (parse): the program's rows of one phrase; arguments, bodies, clauses.
-/
import Derived.Test.YtlgkjjbefoeabaaGreatDoorPL
namespace Go.Proofs.YtlgkjjbefoeabaaGreatDoor
open Go.RowKit

theorem Tryz.makeFn : ∀ (fn : Fn) (first cap : Array Value) (w : World), (Instr.makeFunc fn first cap).run Tryz.prog w = .ok (.func fn first cap) w := fun _ _ _ _ => rfl
/-- A call that reads a row of phrases: their numbers. -/
def RowTo (w : World) (g : Nat) (Tv : Value) (T : List Tk) (Nv : Value) (N : List Nd) (j : Nat) (M : List Sh) (kids : List Int) (x : Ending) (w' : World) : Prop :=
  ∃ V, x = .returned V ∧ ∃ Nv' M', M'.map Nd.sh = M ∧ (∀ n ∈ M', ∀ k, blk n.kv k → w.heap.size ≤ k) ∧ PAt w' g Tv T j Nv' (N ++ M') ∧ Stp g Nv Nv' w w' ∧ KidOk w' g Nv' V kids ∧ (∀ k, blk V k → w.heap.size ≤ k)
theorem SlI.one (w : World) (a : Int) (t : TypeId) : SlI (w.alloc (.cells #[.int .i64 a] t)) (.slice (some ⟨w.heap.size, 0, none⟩) 1 1) [a] := by
  refine ⟨rfl, .inr ⟨w.heap.size, 0, 1, rfl, Nat.le_refl _, by decide, fun j hj => ?_⟩⟩
  have hj1 : j < 1 := hj
  match j, hj1 with
  | 0, _ => simp [ints]
theorem KidOk.below {w w' : World} {g : Nat} {Nv V : Value} {kids : List Int} (h : KidOk w g Nv V kids) (hb : Below w.heap.size w w') : KidOk w' g Nv V kids :=
  ⟨SlK.turned h.sl (Turned.ofBelow (S := fun _ => False) hb) (fun _ _ e => e), fun k hk => ⟨(h.off k hk).1, (h.off k hk).2.1, Nat.lt_of_lt_of_le (h.off k hk).2.2 hb.size⟩⟩
theorem KidOk.stp {w w' : World} {g : Nat} {Nv Nv' V : Value} {kids : List Int} (h : KidOk w g Nv V kids) (S : Stp g Nv Nv' w w') : KidOk w' g Nv' V kids :=
  ⟨SlK.turned h.sl S.t (fun k hk e => e.elim (h.off k hk).1 (h.off k hk).2.1), fun k hk => ⟨(h.off k hk).1, fun e => (S.n k e).elim (h.off k hk).2.1 (fun e => by have := (h.off k hk).2.2; omega), Nat.lt_of_lt_of_le (h.off k hk).2.2 S.t.size⟩⟩
set_option maxRecDepth 100000 in
set_option maxHeartbeats 1600000 in
theorem ps_row_whole (b0 : Nat) (hb0 : b0 ≤ 500) (T : List Tk) (i j : Nat) (M : Nat → List Sh) (r : Nat → Nat) (hE : Phrase b0 145 [] T i j M r) (b : ByteArray) (hb : isTk 5 b (tokAt T j) = false) {w : World} {g : Nat} {Tv Nv : Value} {N : List Nd} (h : PAt w g Tv T i Nv N) (hN : N.length ≤ b0) :
    Calls Tryz.prog 120 #[.pointer (some ⟨g, 0, none⟩), .string b, .func (.func 145) #[.pointer (some ⟨g, 0, none⟩)] #[]] w (RowTo w g Tv T Nv N j (M N.length) [(r N.length : Int)]) := by
  have hE := hE w g Tv Nv N h hN
  have _ := hb0
  have H := Hid.mk7 h
  unfold RowTo
  clear h
  go_enter Tryz.func120, Tryz.ntmps120
  go_wp2_with fail
  refine hE.mono ?_
  rintro x w1 ⟨rfl, Nv1, M1, e1, o1, h1, S1⟩
  have h2 := fun o => h1.below (Below.alloc0 w1 o)
  have hs := fun o => ps_isSign (h2 o) b
  simp only [hb] at hs
  have HK := Hid.mk7 (SlI.one w1 (r N.length : Int) 3)
  have H1 := Hid.mk7 (And.intro e1 (And.intro o1 (And.intro h1 S1)))
  clear hE e1 o1 h1 S1 h2 hb
  go_wp2_with fail
  refine wp_loop_rounds 1 ?_
  rw [rounds_succ]
  go_wp2_with fail
  refine (hs _).mono ?_
  rintro x w3 ⟨rfl, hb3⟩
  have HB := Hid.mk7 hb3
  clear hb3 hs
  go_wp2
  go_ret
  obtain ⟨e1, o1, h1, S1⟩ := H1.out
  have b13 := (Below.alloc0 w1 (.cells #[.int .i64 (r N.length : Int)] 3)).trans (HB.out.mono (by simp))
  refine ⟨_, rfl, Nv1, M1, e1, o1, h1.below b13, S1.trans (Stp.ofB b13), KidOk.below ⟨HK.out, fun k hk => ?_⟩ HB.out, fun k hk => ?_⟩
  · have hk : w1.heap.size = k := hk
    subst hk
    exact ⟨by have := h1.lt; omega, fun e => by have := h1.own.blk_lt _ e; omega, by simp⟩
  · have hk : w1.heap.size = k := hk
    have := S1.t.size
    omega
set_option maxRecDepth 100000 in
set_option maxHeartbeats 1600000 in
theorem ps_row_fun (b0 : Nat) (hb0 : b0 ≤ 500) (T : List Tk) (i j : Nat) (M : Nat → List Sh) (r : Nat → Nat) (hE : Phrase b0 121 [] T i j M r) (b : ByteArray) (hb : isTk 5 b (tokAt T j) = false) {w : World} {g : Nat} {Tv Nv : Value} {N : List Nd} (h : PAt w g Tv T i Nv N) (hN : N.length ≤ b0) :
    Calls Tryz.prog 120 #[.pointer (some ⟨g, 0, none⟩), .string b, .func (.func 121) #[.pointer (some ⟨g, 0, none⟩)] #[]] w (RowTo w g Tv T Nv N j (M N.length) [(r N.length : Int)]) := by
  have hE := hE w g Tv Nv N h hN
  have _ := hb0
  have H := Hid.mk7 h
  unfold RowTo
  clear h
  go_enter Tryz.func120, Tryz.ntmps120
  go_wp2_with fail
  refine hE.mono ?_
  rintro x w1 ⟨rfl, Nv1, M1, e1, o1, h1, S1⟩
  have h2 := fun o => h1.below (Below.alloc0 w1 o)
  have hs := fun o => ps_isSign (h2 o) b
  simp only [hb] at hs
  have HK := Hid.mk7 (SlI.one w1 (r N.length : Int) 3)
  have H1 := Hid.mk7 (And.intro e1 (And.intro o1 (And.intro h1 S1)))
  clear hE e1 o1 h1 S1 h2 hb
  go_wp2_with fail
  refine wp_loop_rounds 1 ?_
  rw [rounds_succ]
  go_wp2_with fail
  refine (hs _).mono ?_
  rintro x w3 ⟨rfl, hb3⟩
  have HB := Hid.mk7 hb3
  clear hb3 hs
  go_wp2
  go_ret
  obtain ⟨e1, o1, h1, S1⟩ := H1.out
  have b13 := (Below.alloc0 w1 (.cells #[.int .i64 (r N.length : Int)] 3)).trans (HB.out.mono (by simp))
  refine ⟨_, rfl, Nv1, M1, e1, o1, h1.below b13, S1.trans (Stp.ofB b13), KidOk.below ⟨HK.out, fun k hk => ?_⟩ HB.out, fun k hk => ?_⟩
  · have hk : w1.heap.size = k := hk
    subst hk
    exact ⟨by have := h1.lt; omega, fun e => by have := h1.own.blk_lt _ e; omega, by simp⟩
  · have hk : w1.heap.size = k := hk
    have := S1.t.size
    omega
set_option maxRecDepth 100000 in
theorem ps_whole (b0 : Nat) (T : List Tk) (i j : Nat) (M : Nat → List Sh) (r : Nat → Nat) (h : Phrase b0 156 [.int .i64 1] T i j M r) : Phrase b0 145 [] T i j M r := by
  intro w g Tv Nv N hp hN
  have hE := h w g Tv Nv N hp hN
  unfold ReadTo at hE ⊢
  clear h hp
  go_enter Tryz.func145, Tryz.ntmps145
  go_wp2_with fail
  refine hE.mono ?_
  rintro x w1 ⟨rfl, h1⟩
  have H1 := Hid.mk7 h1
  clear h1 hE
  go_wp2
  go_ret
  exact ⟨rfl, H1.out⟩
theorem Took.stp {w : World} {g : Nat} {Tv : Value} {T : List Tk} {i : Nat} {Nv : Value} {N : List Nd} {x : Ending} {w' : World} (h : Took w g Tv T i Nv N x w') : Stp g Nv Nv w w' := Stp.ofG h.2.2
set_option maxRecDepth 100000 in
set_option maxHeartbeats 1600000 in
/-- Arguments: one expression in brackets. -/
theorem ps_enclosed (b0 : Nat) (hbB : b0 ≤ 500) (T : List Tk) (i j : Nat) (hi : i + 1 < T.length) (hj : j < T.length) (M : Nat → List Sh) (r : Nat → Nat) (hE : Phrase b0 145 [] T (i + 1) j M r) (a b : ByteArray) (ha : isTk 5 a (tokAt T i) = true) (hb0 : isTk 5 b (tokAt T (i + 1)) = false) (hb : isTk 5 b (tokAt T j) = true) (hc : isTk 5 ⟨#[44]⟩ (tokAt T j) = false) {w : World} {g : Nat} {Tv Nv : Value} {N : List Nd} (h : PAt w g Tv T i Nv N) (hN : N.length ≤ b0) :
    Calls Tryz.prog 118 #[.pointer (some ⟨g, 0, none⟩), .string a, .string b, .func (.func 145) #[.pointer (some ⟨g, 0, none⟩)] #[]] w (RowTo w g Tv T Nv N (j + 1) (M N.length) [(r N.length : Int)]) := by
  have hs := ps_sign h (by omega) a ha
  unfold Took at hs
  unfold RowTo
  generalize tokAt T i = t at hs
  obtain ⟨tk, tt, tn, ta⟩ := t
  simp only [Tk.val] at hs
  clear h
  go_enter Tryz.func118, Tryz.ntmps118
  go_wp2_with fail
  refine hs.mono ?_
  rintro x w1 ⟨rfl, h1, T1⟩
  have hq := ps_isSign h1 b
  rw [hb0] at hq
  go_wp2_with fail
  refine hq.mono ?_
  rintro x w2 ⟨rfl, hb2⟩
  have h2 := h1.below hb2
  have hr := ps_row_whole b0 hbB T (i + 1) j M r hE ⟨#[44]⟩ hc h2 hN
  have S2 := (Stp.ofG (Nv := Nv) T1).trans (Stp.ofB hb2)
  have HS2 := Hid.mk7 S2
  clear hs hq h1 T1 hb2 h2 S2
  go_wp2_with fail
  refine hr.mono ?_
  rintro x w3 ⟨V, rfl, Nv3, M3, e3, o3, h3, S3, k3, v3⟩
  have hs3 := ps_sign h3 hj b hb
  unfold Took at hs3
  generalize tokAt T j = t2 at hs3
  obtain ⟨tk2, tt2, tn2, ta2⟩ := t2
  simp only [Tk.val] at hs3
  have H3 := Hid.mk7 (And.intro e3 (And.intro o3 (And.intro S3 (And.intro k3 v3))))
  obtain ⟨aV, cV, hV⟩ := SlI.form k3.sl
  subst hV
  clear hr e3 o3 h3 S3 k3 v3
  go_wp2_with fail
  refine hs3.mono ?_
  rintro x w4 ⟨rfl, h4, T4⟩
  have H4 := Hid.mk7 (And.intro h4 T4)
  clear h4 T4 hs3
  go_wp2
  go_ret
  obtain ⟨e3, o3, S3, k3, v3⟩ := H3.out
  have hz := HS2.out.t.size
  exact ⟨_, rfl, Nv3, M3, e3, fun n hn k hk => Nat.le_trans hz (o3 n hn k hk), H4.out.1, (HS2.out.trans S3).trans (Stp.ofG H4.out.2), k3.stp (Stp.ofG H4.out.2), fun k hk => Nat.le_trans hz (v3 k hk)⟩
set_option maxRecDepth 100000 in
theorem ps_arguments (b0 : Nat) (hbB : b0 ≤ 500) (T : List Tk) (i j : Nat) (hi : i + 1 < T.length) (hj : j < T.length) (M : Nat → List Sh) (r : Nat → Nat) (hE : Phrase b0 145 [] T (i + 1) j M r) (ha : isTk 5 ⟨#[40]⟩ (tokAt T i) = true) (hb0 : isTk 5 ⟨#[41]⟩ (tokAt T (i + 1)) = false) (hb : isTk 5 ⟨#[41]⟩ (tokAt T j) = true) (hc : isTk 5 ⟨#[44]⟩ (tokAt T j) = false) {w : World} {g : Nat} {Tv Nv : Value} {N : List Nd} (h : PAt w g Tv T i Nv N) (hN : N.length ≤ b0) :
    Calls Tryz.prog 133 #[.pointer (some ⟨g, 0, none⟩)] w (RowTo w g Tv T Nv N (j + 1) (M N.length) [(r N.length : Int)]) := by
  have he := ps_enclosed b0 hbB T i j hi hj M r hE ⟨#[40]⟩ ⟨#[41]⟩ ha hb0 hb hc h hN
  have hmf := Tryz.makeFn
  unfold RowTo at he ⊢
  clear h hE
  go_enter Tryz.func133, Tryz.ntmps133
  go_wp2_with fail
  refine he.mono ?_
  rintro x w1 ⟨V, rfl, Nv1, M1, e1, o1, h1, S1, k1, v1⟩
  obtain ⟨aV, cV, hV⟩ := SlI.form k1.sl
  subst hV
  have H1 := Hid.mk7 (And.intro e1 (And.intro o1 (And.intro h1 (And.intro S1 (And.intro k1 v1)))))
  clear e1 o1 h1 S1 k1 v1 he
  go_wp2
  go_ret
  exact ⟨_, rfl, Nv1, M1, H1.out⟩
set_option maxRecDepth 100000 in
set_option maxHeartbeats 1600000 in
/-- A body of one expression. -/
theorem ps_body (b0 : Nat) (hbB : b0 ≤ 500) (T : List Tk) (i j : Nat) (hT : 0 < T.length) (M : Nat → List Sh) (r : Nat → Nat) (hM : ∀ n, (M n).length ≤ 200) (hE : Phrase b0 145 [] T i j M r) (hc : isTk 5 ⟨#[44]⟩ (tokAt T j) = false) :
    Phrase b0 148 [] T i j (fun n => M n ++ [⟨23, ⟨#[]⟩, ⟨#[]⟩, 0, [(r n : Int)], (tokAt T i).at_⟩]) (fun n => n + (M n).length) := by
  intro w g Tv Nv N h hN
  show Calls Tryz.prog 148 #[.pointer (some ⟨g, 0, none⟩)] w _
  have hp := ps_peek h
  have H := Hid.mk7 h
  have hfa := Tryz.tokPlace
  have hmf := Tryz.makeFn
  unfold ReadTo
  generalize tokAt T i = t at hp ⊢
  obtain ⟨tk, tt, tn, ta⟩ := t
  simp only [Tk.val] at hp
  simp only
  clear h
  go_enter Tryz.func148, Tryz.ntmps148
  go_wp2_with fail
  refine hp.mono ?_
  rintro x w1 ⟨rfl, hb1⟩
  have hr := ps_row_whole b0 hbB T i j M r hE ⟨#[44]⟩ hc (H.out.below hb1) hN
  have HB1 := Hid.mk7 hb1
  clear hp hb1
  go_wp2_with fail
  refine hr.mono ?_
  rintro x w3 ⟨V, rfl, Nv3, M3, e3, o3, h3, S3, k3, v3⟩
  have hM3 : M3.length = (M N.length).length := by have := congrArg List.length e3; simpa using this
  have hMl := hM N.length
  have ha := ps_add h3 hT ⟨23, ⟨#[]⟩, ⟨#[]⟩, 0, V, [(r N.length : Int)], ta⟩ k3 (by simp; omega)
  unfold Added at ha
  simp only [Nd.val] at ha
  obtain ⟨aV, cV, hV⟩ := SlI.form k3.sl
  subst hV
  have H3 := Hid.mk7 (And.intro e3 (And.intro o3 (And.intro S3 v3)))
  clear hr e3 o3 h3 S3 k3 v3
  go_wp2_with fail
  refine ha.mono ?_
  rintro x w4 ⟨rfl, Nv4, h4, S4⟩
  have H4 := Hid.mk7 (And.intro h4 S4)
  clear h4 S4 ha
  go_wp2
  go_ret
  obtain ⟨e3, o3, S3, v3⟩ := H3.out
  have hz := HB1.out.size
  refine ⟨by simp, Nv4, M3 ++ [⟨23, ⟨#[]⟩, ⟨#[]⟩, 0, .slice aV [(r N.length : Int)].length cV, [(r N.length : Int)], ta⟩], by simp [e3, Nd.sh], fun n hn k hk => ?_, by simpa [List.append_assoc] using H4.out.1, ((Stp.ofB HB1.out).trans S3).trans H4.out.2⟩
  simp only [List.mem_append, List.mem_cons, List.not_mem_nil, or_false] at hn
  rcases hn with hn | rfl
  · exact Nat.le_trans hz (o3 n hn k hk)
  · exact Nat.le_trans hz (v3 k hk)
end Go.Proofs.YtlgkjjbefoeabaaGreatDoor
