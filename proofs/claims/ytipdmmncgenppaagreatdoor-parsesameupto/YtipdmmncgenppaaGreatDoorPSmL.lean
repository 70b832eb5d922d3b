/-
  The document's layer 11: classes and Same.
-/
import Derived.Test.YtipdmmncgenppaaGreatDoorPSmK
namespace Go.Proofs.YtipdmmncgenppaaGreatDoor
open Go.RowKit

theorem blw_a (A B : List Nd) (i : Nat) (hi : i < A.length) : Blw (grOf A B) 0 A i (belowS A.length (kidsOf (kvs A)) [(i : Int)]) := by
  obtain ⟨h1, h2, h3, h4⟩ := belowS_one A.length (kidsOf (kvs A)) i hi
  refine ⟨fun z hz => by rw [Nat.zero_add]; exact (grOf_a A B z hz).1, fun z hz => by rw [Nat.zero_add, (grOf_a A B z hz).2.1]; simp, fun z hz => by rw [Nat.zero_add]; exact (grOf_a A B z hz).2.2, h1, h2, h3, fun z hz hm k hk hl => ?_, hi⟩
  have hl' : 0 ≤ k ∧ k < (z : Int) := by simpa [lowB] using hl
  exact h4 z hm k (by rw [Int.toNat_natCast, kidsOf_kvs A z hz]; exact hk) hl'.1 hl'.2
theorem blw_b (A B : List Nd) (k : Nat) (hk : k < B.length) : Blw (grOf A B) A.length B k (belowS B.length (kidsOf (kvs B)) [(k : Int)]) := by
  obtain ⟨h1, h2, h3, h4⟩ := belowS_one B.length (kidsOf (kvs B)) k hk
  refine ⟨fun z hz => (grOf_b A B z hz).1, fun z hz => (grOf_b A B z hz).2.1, fun z hz => (grOf_b A B z hz).2.2, h1, h2, h3, fun z hz hm k hk hl => ?_, hk⟩
  have hl' : 0 ≤ k ∧ k < (z : Int) := by simpa [lowB] using hl
  exact h4 z hm k (by rw [Int.toNat_natCast, kidsOf_kvs B z hz]; exact hk) hl'.1 hl'.2
theorem dn_zero (D0 : Nat → Prop) (off : Nat) (bl : List Int) : Dn D0 off bl 0 = D0 := by
  funext x
  exact propext ⟨fun h => h.elim id (fun ⟨_, _, h, _⟩ => absurd h (Nat.not_lt_zero _)), .inl⟩
theorem cs_a (A B : List Nd) (bl : List Int) (n : Nat) : CS (grOf A B) 0 (fun _ => False) (fun _ => none) bl ([] : List Nd).length 0 0 (fun _ => none) (List.replicate n 0) [] :=
  ⟨by rw [dn_zero]; exact CI.begin _ _, fun _ h => by (cases h), fun _ _ h => absurd h (Nat.not_lt_zero _), by simp, fun _ _ => rfl⟩
/-- The second list's classes begin where the first one's ended. -/
theorem cs_b {A B : List Nd} {bl bl2 : List Int} {b M n : Nat} {D0 : Nat → Prop} {c0 c : Nat → Option Nat} {h : List Int} {F : List Nd} {off : Nat} (hC : CS (grOf A B) off D0 c0 bl b M bl.length c h F) : CS (grOf A B) A.length (Dn D0 off bl bl.length) c bl2 F.length 0 0 c (List.replicate n 0) F :=
  ⟨by rw [dn_zero]; exact hC.ci, hC.nn, fun _ _ h => absurd h (Nat.not_lt_zero _), by omega, fun _ _ => rfl⟩
theorem cval_same (x y : Option Nat) : (cval x = cval y ∧ 0 ≤ cval x) ↔ ∃ j, x = some j ∧ y = some j := by
  cases x with
  | none => simp [cval]
  | some j =>
    cases y with
    | none => simp [cval]
    | some i => simp [cval]; omega
/-- What classes tells. -/
def ClassesTold (A B : List Nd) (i k : Nat) (w : World) (x : Ending) (w' : World) : Prop :=
  ∃ a b : Int, x = .returned (.tuple #[.int .i64 a, .int .i64 b]) ∧ ((a = b ∧ 0 ≤ a) ↔ (grOf A B).Same i (A.length + k)) ∧ Below w.heap.size w w'
set_option maxRecDepth 100000 in
set_option maxHeartbeats 6400000 in
theorem ref_classes {w : World} {aA aB : Option Addr} {cA cB : Nat} {A B : List Nd} (hA : NdArg w (.slice aA A.length cA) A) (hB : NdArg w (.slice aB B.length cB) B) (i k : Nat) (lA : A.length ≤ 1048576) (lB : B.length ≤ 1048576) (kA : ∀ x ∈ A, x.kids.length ≤ 1048576) (kB : ∀ x ∈ B, x.kids.length ≤ 1048576) (hi : i < A.length) (hk : k < B.length) :
    Calls Tryz.prog 17 #[.slice aA A.length cA, .slice aB B.length cB, .int .i64 (i : Int), .int .i64 (k : Int)] w (ClassesTold A B i k w) := by
  have h1 := ref_classify hA (Below.refl _ _) (Fv0 := .slice none 0 0) (F0 := []) ⟨⟨OwnK.nil 6 _, fun j h => by simp at h, fun j h => by simp at h⟩, fun j h => by simp at h⟩ (fun _ h => h.elim) lA kA (by simp) (fun _ h => h.elim) (blw_a A B i hi) (cs_a A B _ _)
  have H0 := Hid.mk7 (And.intro hA (And.intro hB (And.intro lA (And.intro lB (And.intro kA (And.intro kB (And.intro hi hk)))))))
  clear hA hB lA lB kA kB hi hk
  go_enter Tryz.func17, Tryz.ntmps17
  go_wp2_with fail
  refine h1.mono ?_
  rintro x w1 ⟨g1, bv1, Fv1, c1, hh1, F1, rfl, m1, s1⟩
  obtain ⟨hA, hB, lA, lB, kA, kB, hi, hk⟩ := H0.out
  have hl1 := belowS_le A.length (kidsOf (kvs A)) [(i : Int)]
  have hF1 : F1.length ≤ 1048576 := by have := s1.len; simp at this; omega
  have hb1 := blw_a A B i hi
  obtain ⟨r1, e1⟩ := s1.rooted hb1
  have hdn : ∀ x, Dn (fun _ => False) 0 (belowS A.length (kidsOf (kvs A)) [(i : Int)]) (belowS A.length (kidsOf (kvs A)) [(i : Int)]).length x → x < A.length := by
    rintro x (h | ⟨t, ht, _, rfl⟩)
    · exact h.elim
    · have := hb1.le _ (List.getElem_mem ht); omega
  have h2 := ref_classify hB m1.bel m1.fm (fun q hq => ⟨m1.f0 q hq, m1.fm.nodes.own.blk_lt q hq⟩) lB kB hF1 hdn (blw_b A B k hk) (cs_b (b := 0) (M := 0) (h := hh1) (by simpa using s1))
  obtain ⟨aF1, cF1, hFv1, _⟩ := m1.fm.nodes.own.sl.form
  subst hFv1
  have HM1 := Hid.mk7 (And.intro m1 (And.intro s1 (And.intro r1 e1)))
  clear m1 s1 r1 e1 h1 hA hB lA lB kA kB hi hk hl1 hF1 hb1 hdn
  go_wp2_with fail
  refine h2.mono ?_
  rintro x w2 ⟨g2, bv2, Fv2, c2, hh2, F2, rfl, m2, s2⟩
  obtain ⟨r2, e2⟩ := s2.rooted (blw_b A B k H0.out.2.2.2.2.2.2.2)
  obtain ⟨q1, q2⟩ := List.getElem?_eq_some_iff.1 HM1.out.2.2.2
  obtain ⟨p1, p2⟩ := List.getElem?_eq_some_iff.1 e2
  have ca := ((HM1.out.1.ht.turned m2.T HM1.out.1.fg).c i q1).1
  have cb := (m2.ht.c k p1).1
  rw [q2] at ca
  rw [p2] at cb
  have hsame := CI.same s2.ci (x := i) (y := A.length + k) (.inl (by have := HM1.out.2.2.1; simpa using this)) r2
  have hkeep := s2.keep i H0.out.2.2.2.2.2.2.1
  rw [Nat.zero_add] at ca
  have hfin : (cval (c1 i) = cval (c2 (A.length + k)) ∧ 0 ≤ cval (c1 i)) ↔ (grOf A B).Same i (A.length + k) := by
    rw [hsame, hkeep]
    exact cval_same _ _
  have HF := Hid.mk7 (And.intro hfin m2.bel)
  have hi1 : (i : Int) < ((i + 1 : Nat) : Int) := by omega
  have hk1 : (k : Int) < ((k + 1 : Nat) : Int) := by omega
  generalize hra : cval (c1 i) = ra at ca HF
  generalize hrb : cval (c2 (A.length + k)) = rb at cb HF
  obtain ⟨aF2, cF2, hFv2, _⟩ := m2.fm.nodes.own.sl.form
  subst hFv2
  clear h2 m2 s2 r2 e2 q1 q2 p1 p2 hsame hkeep hfin hra hrb HM1
  generalize i + 1 = I1 at hi1 ⊢
  generalize k + 1 = K1 at hk1 ⊢
  go_wp2_with fail
  go_quiet (fail)
  go_wp2
  go_ret2
  exact ⟨ra, rb, rfl, HF.out.1, HF.out.2.trans ((drewN_below _ _).mono HF.out.2.size)⟩
set_option maxRecDepth 100000 in
set_option maxHeartbeats 3200000 in
/-- The document's Same, of two nodes. -/
theorem ref_Same_in {w : World} {aA aB : Option Addr} {cA cB : Nat} {A B : List Nd} (hA : NdArg w (.slice aA A.length cA) A) (hB : NdArg w (.slice aB B.length cB) B) (i k : Nat) (lA : A.length ≤ 1048576) (lB : B.length ≤ 1048576) (kA : ∀ x ∈ A, x.kids.length ≤ 1048576) (kB : ∀ x ∈ B, x.kids.length ≤ 1048576) (hi : i < A.length) (hk : k < B.length) :
    Calls Tryz.prog 9 #[.slice aA A.length cA, .int .i64 (i : Int), .slice aB B.length cB, .int .i64 (k : Int)] w fun x w' => ∃ b, x = .returned (.bool b) ∧ (b = true ↔ (grOf A B).Same i (A.length + k)) ∧ Below w.heap.size w w' := by
  have h1 := ref_classes hA hB i k lA lB kA kB hi hk
  have e1 : ¬ (i : Int) < 0 := by omega
  have e2 : ¬ (A.length : Int) ≤ (i : Int) := by omega
  have e3 : ¬ (k : Int) < 0 := by omega
  have e4 : ¬ (B.length : Int) ≤ (k : Int) := by omega
  clear hA hB lA lB kA kB hi hk
  go_enter Tryz.func9, Tryz.ntmps9
  go_wp2_with fail
  refine h1.mono ?_
  rintro x w1 ⟨a, b, rfl, hs, hb⟩
  have H1 := Hid.mk7 (And.intro hs hb)
  clear hs hb h1
  by_cases hab : a = b
  · subst hab
    by_cases h0 : 0 ≤ a
    · go_wp2
      go_ret
      exact ⟨true, rfl, ⟨fun _ => H1.out.1.1 ⟨trivial, h0⟩, fun _ => rfl⟩, H1.out.2⟩
    · go_wp2
      go_ret
      exact ⟨false, by simp [h0], ⟨fun h => by (cases h), fun h => by have := (H1.out.1.2 h).2; omega⟩, H1.out.2⟩
  · go_wp2
    go_ret
    exact ⟨false, by simp, ⟨fun h => by (cases h), fun h => absurd (H1.out.1.2 h).1 hab⟩, H1.out.2⟩
end Go.Proofs.YtipdmmncgenppaaGreatDoor
