/-
  Layer 11 (parse): classes; a clause of a catch.
  Layer 11 (parse): the levels of all tokens, as the program tells them; an operator's node; what stands on both sides.
  Layer 11 (parse): expressions with operators.
  Layer 11 (parse): functions.
-/
import Derived.Test.YtlgkjjbefoeabaaGreatDoorPGm
import Derived.Test.YtlgkjjbefoeabaaGreatDoorPGj
namespace Go.Proofs.YtlgkjjbefoeabaaGreatDoor
open Go.RowKit

def isCl (x : ByteArray) : Bool := decide (x = ⟨#[116, 104, 114, 111, 119]⟩) || decide (x = ⟨#[101, 114, 114, 111, 114]⟩) || decide (x = ⟨#[101, 120, 105, 116]⟩)
set_option maxRecDepth 100000 in
theorem ps_isClass_0 (w : World) : Calls Tryz.prog 208 #[.string ⟨#[116, 104, 114, 111, 119]⟩] w fun e w' => e = .returned (.bool true) ∧ w' = w := by
  go_enter Tryz.func208, Tryz.ntmps208
  go_wp2
  all_goals go_ret
  all_goals exact ⟨rfl, rfl⟩
set_option maxRecDepth 100000 in
theorem ps_isClass_1 (w : World) : Calls Tryz.prog 208 #[.string ⟨#[101, 114, 114, 111, 114]⟩] w fun e w' => e = .returned (.bool true) ∧ w' = w := by
  go_enter Tryz.func208, Tryz.ntmps208
  go_wp2
  all_goals go_ret
  all_goals exact ⟨rfl, rfl⟩
set_option maxRecDepth 100000 in
theorem ps_isClass_2 (w : World) : Calls Tryz.prog 208 #[.string ⟨#[101, 120, 105, 116]⟩] w fun e w' => e = .returned (.bool true) ∧ w' = w := by
  go_enter Tryz.func208, Tryz.ntmps208
  go_wp2
  all_goals go_ret
  all_goals exact ⟨rfl, rfl⟩
set_option maxRecDepth 100000 in
theorem ps_isClass_no (x : ByteArray) (w : World) (h0 : (x.toList == [116, 104, 114, 111, 119]) = false) (h1 : (x.toList == [101, 114, 114, 111, 114]) = false) (h2 : (x.toList == [101, 120, 105, 116]) = false) : Calls Tryz.prog 208 #[.string x] w fun e w' => e = .returned (.bool false) ∧ w' = w := by
  go_enter Tryz.func208, Tryz.ntmps208
  go_wp2
  all_goals go_ret
  all_goals exact ⟨rfl, rfl⟩
theorem ps_isClass (x : ByteArray) (w : World) : Calls Tryz.prog 208 #[.string x] w fun e w' => e = .returned (.bool (isCl x)) ∧ w' = w := by
  by_cases h0 : x = ⟨#[116, 104, 114, 111, 119]⟩
  · subst h0
    exact ps_isClass_0 w
  · by_cases h1 : x = ⟨#[101, 114, 114, 111, 114]⟩
    · subst h1
      exact ps_isClass_1 w
    · by_cases h2 : x = ⟨#[101, 120, 105, 116]⟩
      · subst h2
        exact ps_isClass_2 w
      · have e : isCl x = false := by simp [isCl, h0, h1, h2]
        rw [e]
        exact ps_isClass_no x w (list_ne h0) (list_ne h1) (list_ne h2)
theorem atClass_eq (T : List Tk) (i : Nat) : atClass T i = (((decide ((tokAt T i).kind = 1) && isCl (tokAt T i).text) || isTk 2 ⟨#[95]⟩ (tokAt T i)) && isTk 5 ⟨#[58]⟩ (tokAt T (i + 1))) := rfl
set_option maxRecDepth 100000 in
set_option maxHeartbeats 1600000 in
theorem ps_atClass_a {w : World} {g : Nat} {Tv : Value} {T : List Tk} {i : Nat} {Nv : Value} {N : List Nd} (h : PAt w g Tv T i Nv N) (hk : (tokAt T i).kind = 1) (hcl : isCl (tokAt T i).text = true) : Calls Tryz.prog 201 #[.pointer (some ⟨g, 0, none⟩)] w fun x w' => x = .returned (.bool (isTk 5 ⟨#[58]⟩ (tokAt T (i + 1)))) ∧ Below w.heap.size w w' := by
  have hp := ps_peek h
  have ha := fun W (hW : Below w.heap.size w W) => ps_ahead (h.below hW) 1 (by omega)
  have hi := fun W => ps_is (tokAt T i) 2 ⟨#[95]⟩ W
  have hj := fun W => ps_is (tokAt T (i + 1)) 5 ⟨#[58]⟩ W
  have hc := fun W => ps_isClass (tokAt T i).text W
  have hfk := Tryz.tokKind
  have hft := Tryz.tokText
  simp only [hcl] at hi hc
  unfold isTk
  generalize (decide ((tokAt T (i + 1)).kind = 5) && decide ((tokAt T (i + 1)).text = ⟨#[58]⟩)) = bb at hj ⊢
  generalize tokAt T i = t at hp hi hc hk ⊢
  generalize tokAt T (i + 1) = u at ha hj ⊢
  obtain ⟨tk, tt, tn, ta⟩ := t
  obtain ⟨uk, ut, un, ua⟩ := u
  simp only [Tk.val] at hp ha hi hj hc hk
  subst hk
  clear h
  go_enter Tryz.func201, Tryz.ntmps201
  go_wp2_with fail
  refine hp.mono ?_
  rintro x w1 ⟨rfl, hb1⟩
  have HB1 := Hid.mk7 (hb1.trans ((Below.alloc0 w1 (.cells #[.int .i64 1, .string tt, .int .i64 tn, .int .i64 ta] 40)).mono hb1.size))
  clear hb1 hp
  go_wp2_with fail
  refine (hc _).mono ?_
  rintro x w2 ⟨rfl, rfl⟩
  go_wp2_with fail
  refine (ha _ HB1.out).mono ?_
  rintro x w4 ⟨rfl, hb4⟩
  go_wp2_with fail
  refine (hj _).mono ?_
  rintro x w5 ⟨rfl, hb5⟩
  have HB := Hid.mk7 (HB1.out.trans ((hb4.trans (hb5.mono hb4.size)).mono HB1.out.size))
  clear hb4 hb5 ha hj
  go_wp2
  go_ret
  exact ⟨rfl, HB.out⟩
set_option maxRecDepth 100000 in
set_option maxHeartbeats 1600000 in
theorem ps_atClass_b {w : World} {g : Nat} {Tv : Value} {T : List Tk} {i : Nat} {Nv : Value} {N : List Nd} (h : PAt w g Tv T i Nv N) (hk : (tokAt T i).kind = 1) (hcl : isCl (tokAt T i).text = false) : Calls Tryz.prog 201 #[.pointer (some ⟨g, 0, none⟩)] w fun x w' => x = .returned (.bool false) ∧ Below w.heap.size w w' := by
  have hp := ps_peek h
  have ha := fun W (hW : Below w.heap.size w W) => ps_ahead (h.below hW) 1 (by omega)
  have hi := fun W => ps_is (tokAt T i) 2 ⟨#[95]⟩ W
  have hj := fun W => ps_is (tokAt T (i + 1)) 5 ⟨#[58]⟩ W
  have hc := fun W => ps_isClass (tokAt T i).text W
  have hfk := Tryz.tokKind
  have hft := Tryz.tokText
  simp only [hcl] at hi hc
  generalize (decide ((tokAt T (i + 1)).kind = 5) && decide ((tokAt T (i + 1)).text = ⟨#[58]⟩)) = bb at hj ⊢
  generalize tokAt T i = t at hp hi hc hk ⊢
  generalize tokAt T (i + 1) = u at ha hj ⊢
  obtain ⟨tk, tt, tn, ta⟩ := t
  obtain ⟨uk, ut, un, ua⟩ := u
  simp only [Tk.val] at hp ha hi hj hc hk
  subst hk
  clear h
  go_enter Tryz.func201, Tryz.ntmps201
  go_wp2_with fail
  refine hp.mono ?_
  rintro x w1 ⟨rfl, hb1⟩
  have HB1 := Hid.mk7 (hb1.trans ((Below.alloc0 w1 (.cells #[.int .i64 1, .string tt, .int .i64 tn, .int .i64 ta] 40)).mono hb1.size))
  clear hb1 hp
  go_wp2_with fail
  refine (hc _).mono ?_
  rintro x w2 ⟨rfl, rfl⟩
  go_wp2_with fail
  refine (hi _).mono ?_
  rintro x w3 ⟨rfl, hb3⟩
  have HB3 := Hid.mk7 (HB1.out.trans (hb3.mono HB1.out.size))
  clear hb3
  go_wp2
  go_ret
  exact ⟨rfl, HB3.out⟩
set_option maxRecDepth 100000 in
set_option maxHeartbeats 1600000 in
theorem ps_atClass_c {w : World} {g : Nat} {Tv : Value} {T : List Tk} {i : Nat} {Nv : Value} {N : List Nd} (h : PAt w g Tv T i Nv N) (hk : ¬ (tokAt T i).kind = 1) (hu : (decide ((tokAt T i).kind = 2) && decide ((tokAt T i).text = ⟨#[95]⟩)) = true) : Calls Tryz.prog 201 #[.pointer (some ⟨g, 0, none⟩)] w fun x w' => x = .returned (.bool (isTk 5 ⟨#[58]⟩ (tokAt T (i + 1)))) ∧ Below w.heap.size w w' := by
  have hp := ps_peek h
  have ha := fun W (hW : Below w.heap.size w W) => ps_ahead (h.below hW) 1 (by omega)
  have hi := fun W => ps_is (tokAt T i) 2 ⟨#[95]⟩ W
  have hj := fun W => ps_is (tokAt T (i + 1)) 5 ⟨#[58]⟩ W
  have hc := fun W => ps_isClass (tokAt T i).text W
  have hfk := Tryz.tokKind
  have hft := Tryz.tokText
  simp only [hu] at hi hc
  unfold isTk
  generalize (decide ((tokAt T (i + 1)).kind = 5) && decide ((tokAt T (i + 1)).text = ⟨#[58]⟩)) = bb at hj ⊢
  generalize tokAt T i = t at hp hi hc hk ⊢
  generalize tokAt T (i + 1) = u at ha hj ⊢
  obtain ⟨tk, tt, tn, ta⟩ := t
  obtain ⟨uk, ut, un, ua⟩ := u
  simp only [Tk.val] at hp ha hi hj hc hk
  have hkb : (tk == 1) = false := by simpa using hk
  clear h
  go_enter Tryz.func201, Tryz.ntmps201
  go_wp2_with fail
  refine hp.mono ?_
  rintro x w1 ⟨rfl, hb1⟩
  have HB1 := Hid.mk7 (hb1.trans ((Below.alloc0 w1 (.cells #[.int .i64 tk, .string tt, .int .i64 tn, .int .i64 ta] 40)).mono hb1.size))
  clear hb1 hp
  go_wp2_with fail
  refine (hi _).mono ?_
  rintro x w3 ⟨rfl, hb3⟩
  have HB3 := Hid.mk7 (HB1.out.trans (hb3.mono HB1.out.size))
  clear hb3
  go_wp2_with fail
  refine (ha _ HB3.out).mono ?_
  rintro x w4 ⟨rfl, hb4⟩
  go_wp2_with fail
  refine (hj _).mono ?_
  rintro x w5 ⟨rfl, hb5⟩
  have HB := Hid.mk7 (HB3.out.trans ((hb4.trans (hb5.mono hb4.size)).mono HB3.out.size))
  clear hb4 hb5 ha hj
  go_wp2
  go_ret
  exact ⟨rfl, HB.out⟩
set_option maxRecDepth 100000 in
set_option maxHeartbeats 1600000 in
theorem ps_atClass_d {w : World} {g : Nat} {Tv : Value} {T : List Tk} {i : Nat} {Nv : Value} {N : List Nd} (h : PAt w g Tv T i Nv N) (hk : ¬ (tokAt T i).kind = 1) (hu : (decide ((tokAt T i).kind = 2) && decide ((tokAt T i).text = ⟨#[95]⟩)) = false) : Calls Tryz.prog 201 #[.pointer (some ⟨g, 0, none⟩)] w fun x w' => x = .returned (.bool false) ∧ Below w.heap.size w w' := by
  have hp := ps_peek h
  have ha := fun W (hW : Below w.heap.size w W) => ps_ahead (h.below hW) 1 (by omega)
  have hi := fun W => ps_is (tokAt T i) 2 ⟨#[95]⟩ W
  have hj := fun W => ps_is (tokAt T (i + 1)) 5 ⟨#[58]⟩ W
  have hc := fun W => ps_isClass (tokAt T i).text W
  have hfk := Tryz.tokKind
  have hft := Tryz.tokText
  simp only [hu] at hi hc
  generalize (decide ((tokAt T (i + 1)).kind = 5) && decide ((tokAt T (i + 1)).text = ⟨#[58]⟩)) = bb at hj ⊢
  generalize tokAt T i = t at hp hi hc hk ⊢
  generalize tokAt T (i + 1) = u at ha hj ⊢
  obtain ⟨tk, tt, tn, ta⟩ := t
  obtain ⟨uk, ut, un, ua⟩ := u
  simp only [Tk.val] at hp ha hi hj hc hk
  have hkb : (tk == 1) = false := by simpa using hk
  clear h
  go_enter Tryz.func201, Tryz.ntmps201
  go_wp2_with fail
  refine hp.mono ?_
  rintro x w1 ⟨rfl, hb1⟩
  have HB1 := Hid.mk7 (hb1.trans ((Below.alloc0 w1 (.cells #[.int .i64 tk, .string tt, .int .i64 tn, .int .i64 ta] 40)).mono hb1.size))
  clear hb1 hp
  go_wp2_with fail
  refine (hi _).mono ?_
  rintro x w3 ⟨rfl, hb3⟩
  have HB3 := Hid.mk7 (HB1.out.trans (hb3.mono HB1.out.size))
  clear hb3
  go_wp2
  go_ret
  exact ⟨rfl, HB3.out⟩
theorem ps_atClass {w : World} {g : Nat} {Tv : Value} {T : List Tk} {i : Nat} {Nv : Value} {N : List Nd} (h : PAt w g Tv T i Nv N) : Calls Tryz.prog 201 #[.pointer (some ⟨g, 0, none⟩)] w fun x w' => x = .returned (.bool (atClass T i)) ∧ Below w.heap.size w w' := by
  rw [atClass_eq]
  by_cases hk : (tokAt T i).kind = 1
  · cases hcl : isCl (tokAt T i).text with
    | true => simpa [hk, isTk] using ps_atClass_a h hk hcl
    | false => simpa [hk, isTk] using ps_atClass_b h hk hcl
  · cases hu : (decide ((tokAt T i).kind = 2) && decide ((tokAt T i).text = ⟨#[95]⟩)) with
    | true => simpa [hk, isTk, hu] using ps_atClass_c h hk hu
    | false => simpa [hk, isTk, hu] using ps_atClass_d h hk hu
theorem atClass_lt {T : List Tk} {i : Nat} (h : atClass T i = true) : i + 2 ≤ T.length := by
  rw [atClass_eq, Bool.and_eq_true] at h
  exact isTk_lt (by decide) h.2
section
variable {T : List Tk} {w wr : World} {g : Nat} {Tv Nv Nv1 : Value} {N M1 : List Nd} {s : Ps} {q : Nat} {nk : Int} {nt nm : ByteArray} {nn : Int} {V : Value} {l : List Int} {na : Int}
theorem rg_atClass (r : Rg T w wr g Tv Nv N s Nv1 M1) : Calls Tryz.prog 201 #[.pointer (some ⟨g, 0, none⟩)] wr (fun e w2 => e = .returned (.bool (atClass T s.i)) ∧ Rg T w w2 g Tv Nv N s Nv1 M1 ∧ Below wr.heap.size wr w2) := (ps_atClass r.ps.at_).mono fun _ _ h2 => ⟨h2.1, r.below h2.2, h2.2⟩
end
set_option maxRecDepth 100000 in
set_option maxHeartbeats 6400000 in
theorem rd_cclause {T : List Tk} {rec : Ph → PM Nat} {s : Ps} (hT : 0 < T.length) (E : Env T rec (s.i + 1)) (hw : Runs T 145 [] (whole rec) s.i) {w : World} {g : Nat} {Tv Nv : Value} {N : List Nd} (h : PS w g Tv T Nv N s) :
    Calls Tryz.prog 193 #[.pointer (some ⟨g, 0, none⟩)] w (Rd T w g Tv Nv N (phBody T rec .cclause s)) := by
  obtain ⟨res, hres⟩ : ∃ res, phBody T rec .cclause s = res := ⟨_, rfl⟩
  rw [hres]
  have HQ := Hid.mk7 hres
  have htl := h.at_.tl
  have c1 := rg_peek (Rg.refl h)
  have hfa := Tryz.tokPlace
  have hft := Tryz.tokText
  have HP := Hid.mk7 (And.intro E (And.intro hw h))
  obtain ⟨tk, htk⟩ : ∃ tk, tokAt T s.i = tk := ⟨_, rfl⟩
  rw [htk] at c1
  have HT := Hid.mk7 htk
  clear hres hw E h htk
  obtain ⟨tk, tt, tn, ta⟩ := tk
  simp only [Tk.val] at c1
  go_enter Tryz.func193, Tryz.ntmps193
  go_wp2_with fail
  refine c1.mono ?_
  rintro x w1 ⟨rfl, r1, _⟩
  have mk2 := MkI.of_kd r1 (Kd.nil _ _ _ _ _ _ _) hT 20 ⟨#[116, 104, 114, 111, 119]⟩ ⟨#[]⟩ 0 ta
  have c2 := rg_atClass mk2.rg
  have H2 := Hid.mk7 mk2
  clear c1 r1 mk2
  cases hc : atClass T s.i with
  | false =>
    rw [hc] at c2
    go_wp2_with fail
    refine c2.mono ?_
    rintro x w3 ⟨rfl, r3, hb3⟩
    have HK := Hid.mk7 (H2.out.to r3 (Stp.ofB hb3))
    have HC := Hid.mk7 hc
    clear c2 r3 hb3 H2 hc
    have hE := fun WW (hW : Below w3.heap.size w3 WW) => HP.out.2.1 s (by show s.i ≤ (s : Ps).i; simp) WW g Tv _ _ (HK.out.rg.below hW).ps
    have hgl := HK.out.rg.ps.at_.lt
    obtain ⟨n0, n1, n2, n3, n4, n5, _, _, _, _, _⟩ := HK.out.bx
    have hps := HK.out.rg.ps
    cases hw : whole rec s with
    | error e =>
      have hre : res = .error e := by rw [← HQ.out]; simp [phBody, PM.bind, pTok, pIf, PM.ret, HC.out, hw]
      subst hre
      simp only [hw] at hE
      clear hw hps
      go_wp2_with fail
      skip
      go_region_with (go_at_call 145; refine (hE _ (Below.refl _ _).drew).mono ?_; rintro x w5 ⟨rfl, T5⟩; refine idle_of w5 ⟨rfl, rfl, (HK.out.rg.below (Below.refl _ _).drew).bad T5⟩ ?_)
      all_goals trivial
    | ok at_ =>
      obtain ⟨a, t⟩ := at_
      obtain ⟨q1, q2, q3, q4⟩ := (HP.out.1.fwd (.expr 1) (by simp [okPh])).ok hps.ok hps.cnt hw
      have q3' : s.i < t.i := Nat.lt_of_le_of_lt (by simp) q3
      have hrs : res = rest T rec ⟨20, ⟨#[116, 104, 114, 111, 119]⟩, ⟨#[]⟩, 0, [], ta⟩ a t := by rw [← HQ.out]; simp [phBody, PM.bind, pTok, pIf, PM.ret, HC.out, hw, HT.out]
      have HF := Hid.mk7 (And.intro (fun n => HP.out.1.rest (n := n) q1 q2 q4) (And.intro hrs q3'))
      simp only [hw] at hE
      clear hw hps q1 q2 q3 q3' q4 hrs
      have hrest : ∀ w5 Nv5 M5, Rg T w w5 g Tv Nv N t Nv5 M5 → Calls Tryz.prog 134 #[.pointer (some ⟨g, 0, none⟩), .agg #[.int .i64 20, .string ⟨#[116, 104, 114, 111, 119]⟩, .string ⟨#[]⟩, .int .i64 0, .slice none 0 0, .int .i64 ta], .int .i64 (a : Int)] w5 (Rd T w5 g Tv Nv5 (N ++ M5) res) := fun w5 Nv5 M5 r5 => by
        rw [HF.out.2.1]
        exact rd_rest 20 ⟨#[116, 104, 114, 111, 119]⟩ ⟨#[]⟩ 0 ta a ((HP.out.1.run .guard trivial).up (by have := HF.out.2.2; omega)) (HP.out.1.fwd .guard trivial) ((HP.out.1.run .body trivial).up (by have := HF.out.2.2; omega)) hT (HF.out.1 _) r5.ps
      cases res with
      | error e =>
        go_wp2_with fail
        skip
        go_region_with (first
          | (go_at_call 134; refine (hrest _ _ _ m5.rg).mono ?_; rintro x w6 ⟨rfl, T6⟩; refine idle_of w6 ⟨rfl, rfl, m5.rg.bad T6⟩ ?_)
          | (go_at_call 145; refine (hE _ (Below.refl _ _).drew).mono ?_; intro x w5 hx; obtain ⟨rfl, Nv5, M5, m5⟩ := HK.out.rd (Below.refl _ _).drew hx; clear hx; obtain ⟨p0, p1, p2, p3, p4, p5, _, _, _, _, _⟩ := m5.bx))
        all_goals trivial
      | ok bt =>
        obtain ⟨bb, u⟩ := bt
        go_wp2_with fail
        skip
        go_region_with (first
          | (go_at_call 134; refine (hrest _ _ _ m5.rg).mono ?_; intro x w6 hx; obtain ⟨rfl, Nv6, M6, r6, _⟩ := m5.rg.rd hx; have H6 := Hid.mk7 r6; clear hx r6)
          | (go_at_call 145; refine (hE _ (Below.refl _ _).drew).mono ?_; intro x w5 hx; obtain ⟨rfl, Nv5, M5, m5⟩ := HK.out.rd (Below.refl _ _).drew hx; clear hx; obtain ⟨p0, p1, p2, p3, p4, p5, _, _, _, _, _⟩ := m5.bx))
        all_goals
          go_wp2
          go_ret
          exact H6.out.of
  | true =>
    rw [hc] at c2
    have hlt := atClass_lt hc
    go_wp2_with fail
    refine c2.mono ?_
    rintro x w3 ⟨rfl, r3, hb3⟩
    have mk3 := H2.out.to r3 (Stp.ofB hb3)
    have c3 := rg_peek r3
    rw [HT.out] at c3
    simp only [Tk.val] at c3
    have H3 := Hid.mk7 mk3
    have HC := Hid.mk7 hc
    clear c2 r3 hb3 H2 mk3 hc
    go_wp2_with fail
    refine c3.mono ?_
    rintro x w4 ⟨rfl, r4, hb4⟩
    have mk4 := H3.out.to r4 (Stp.ofB hb4)
    have m1 := mk4.bx.n1
    have f1 := mk4.bx.fz 1
    have mk5 := mk4.text tt
    have k1 := mk5.rg.ps.at_.c1.1
    have g1 := mk5.rg.ps.at_.c1.2
    have r6 := mk5.rg.skip 2 hlt
    have mk6 := mk5.to r6 (Stp.ofG (Turned.set1 _ g 1 _))
    rw [show ((s.i + 2 : Nat) : Int) = (s.i : Int) + 2 by omega] at mk6
    have HK := Hid.mk7 mk6
    clear c3 r4 hb4 mk4 mk5 r6 mk6 H3
    go_wp2_with fail
    generalize hW : (w4.setCell _ _).setCell _ _ = w7 at HK ⊢
    clear hW m1 f1 k1 g1
    have hE := fun WW (hW : Below w7.heap.size w7 WW) => HP.out.2.1 ⟨s.i + 2, s.N⟩ (by show s.i ≤ (⟨s.i + 2, s.N⟩ : Ps).i; simp) WW g Tv _ _ (HK.out.rg.below hW).ps
    have hgl := HK.out.rg.ps.at_.lt
    obtain ⟨n0, n1, n2, n3, n4, n5, _, _, _, _, _⟩ := HK.out.bx
    have hps := HK.out.rg.ps
    cases hw : whole rec ⟨s.i + 2, s.N⟩ with
    | error e =>
      have hre : res = .error e := by rw [← HQ.out]; simp [phBody, PM.bind, pTok, pIf, PM.ret, pSkip, HC.out, hw]
      subst hre
      simp only [hw] at hE
      clear hw hps
      go_wp2_with fail
      skip
      go_region_with (go_at_call 145; refine (hE _ (Below.refl _ _).drew).mono ?_; rintro x w5 ⟨rfl, T5⟩; refine idle_of w5 ⟨rfl, rfl, (HK.out.rg.below (Below.refl _ _).drew).bad T5⟩ ?_)
      all_goals trivial
    | ok at_ =>
      obtain ⟨a, t⟩ := at_
      obtain ⟨q1, q2, q3, q4⟩ := (HP.out.1.fwd (.expr 1) (by simp [okPh])).ok hps.ok hps.cnt hw
      have q3' : s.i < t.i := Nat.lt_of_le_of_lt (by simp) q3
      have hrs : res = rest T rec ⟨20, tt, ⟨#[]⟩, 0, [], ta⟩ a t := by rw [← HQ.out]; simp [phBody, PM.bind, pTok, pIf, PM.ret, pSkip, HC.out, hw, HT.out]
      have HF := Hid.mk7 (And.intro (fun n => HP.out.1.rest (n := n) q1 q2 q4) (And.intro hrs q3'))
      simp only [hw] at hE
      clear hw hps q1 q2 q3 q3' q4 hrs
      have hrest : ∀ w5 Nv5 M5, Rg T w w5 g Tv Nv N t Nv5 M5 → Calls Tryz.prog 134 #[.pointer (some ⟨g, 0, none⟩), .agg #[.int .i64 20, .string tt, .string ⟨#[]⟩, .int .i64 0, .slice none 0 0, .int .i64 ta], .int .i64 (a : Int)] w5 (Rd T w5 g Tv Nv5 (N ++ M5) res) := fun w5 Nv5 M5 r5 => by
        rw [HF.out.2.1]
        exact rd_rest 20 tt ⟨#[]⟩ 0 ta a ((HP.out.1.run .guard trivial).up (by have := HF.out.2.2; omega)) (HP.out.1.fwd .guard trivial) ((HP.out.1.run .body trivial).up (by have := HF.out.2.2; omega)) hT (HF.out.1 _) r5.ps
      cases res with
      | error e =>
        go_wp2_with fail
        skip
        go_region_with (first
          | (go_at_call 134; refine (hrest _ _ _ m5.rg).mono ?_; rintro x w6 ⟨rfl, T6⟩; refine idle_of w6 ⟨rfl, rfl, m5.rg.bad T6⟩ ?_)
          | (go_at_call 145; refine (hE _ (Below.refl _ _).drew).mono ?_; intro x w5 hx; obtain ⟨rfl, Nv5, M5, m5⟩ := HK.out.rd (Below.refl _ _).drew hx; clear hx; obtain ⟨p0, p1, p2, p3, p4, p5, _, _, _, _, _⟩ := m5.bx))
        all_goals trivial
      | ok bt =>
        obtain ⟨bb, u⟩ := bt
        go_wp2_with fail
        skip
        go_region_with (first
          | (go_at_call 134; refine (hrest _ _ _ m5.rg).mono ?_; intro x w6 hx; obtain ⟨rfl, Nv6, M6, r6, _⟩ := m5.rg.rd hx; have H6 := Hid.mk7 r6; clear hx r6)
          | (go_at_call 145; refine (hE _ (Below.refl _ _).drew).mono ?_; intro x w5 hx; obtain ⟨rfl, Nv5, M5, m5⟩ := HK.out.rd (Below.refl _ _).drew hx; clear hx; obtain ⟨p0, p1, p2, p3, p4, p5, _, _, _, _, _⟩ := m5.bx))
        all_goals
          go_wp2
          go_ret
          exact H6.out.of
end Go.Proofs.YtlgkjjbefoeabaaGreatDoor
namespace Go.Proofs.YtlgkjjbefoeabaaGreatDoor
open Go.RowKit

set_option maxRecDepth 100000 in
theorem ps_levS_0 (w : World) : Calls Tryz.prog 178 #[.string ⟨#[61]⟩] w fun e w' => e = .returned (.int .i64 1) ∧ w = w' := by
  go_enter Tryz.func178, Tryz.ntmps178
  go_wp2
  all_goals go_ret
  all_goals exact ⟨rfl, rfl⟩
set_option maxRecDepth 100000 in
theorem ps_levS_1 (w : World) : Calls Tryz.prog 178 #[.string ⟨#[33]⟩] w fun e w' => e = .returned (.int .i64 1) ∧ w = w' := by
  go_enter Tryz.func178, Tryz.ntmps178
  go_wp2
  all_goals go_ret
  all_goals exact ⟨rfl, rfl⟩
set_option maxRecDepth 100000 in
theorem ps_levS_2 (w : World) : Calls Tryz.prog 178 #[.string ⟨#[61, 61]⟩] w fun e w' => e = .returned (.int .i64 4) ∧ w = w' := by
  go_enter Tryz.func178, Tryz.ntmps178
  go_wp2
  all_goals go_ret
  all_goals exact ⟨rfl, rfl⟩
set_option maxRecDepth 100000 in
theorem ps_levS_3 (w : World) : Calls Tryz.prog 178 #[.string ⟨#[47, 61]⟩] w fun e w' => e = .returned (.int .i64 4) ∧ w = w' := by
  go_enter Tryz.func178, Tryz.ntmps178
  go_wp2
  all_goals go_ret
  all_goals exact ⟨rfl, rfl⟩
set_option maxRecDepth 100000 in
theorem ps_levS_4 (w : World) : Calls Tryz.prog 178 #[.string ⟨#[61, 60]⟩] w fun e w' => e = .returned (.int .i64 4) ∧ w = w' := by
  go_enter Tryz.func178, Tryz.ntmps178
  go_wp2
  all_goals go_ret
  all_goals exact ⟨rfl, rfl⟩
set_option maxRecDepth 100000 in
theorem ps_levS_5 (w : World) : Calls Tryz.prog 178 #[.string ⟨#[60]⟩] w fun e w' => e = .returned (.int .i64 4) ∧ w = w' := by
  go_enter Tryz.func178, Tryz.ntmps178
  go_wp2
  all_goals go_ret
  all_goals exact ⟨rfl, rfl⟩
set_option maxRecDepth 100000 in
theorem ps_levS_6 (w : World) : Calls Tryz.prog 178 #[.string ⟨#[62, 61]⟩] w fun e w' => e = .returned (.int .i64 4) ∧ w = w' := by
  go_enter Tryz.func178, Tryz.ntmps178
  go_wp2
  all_goals go_ret
  all_goals exact ⟨rfl, rfl⟩
set_option maxRecDepth 100000 in
theorem ps_levS_7 (w : World) : Calls Tryz.prog 178 #[.string ⟨#[62]⟩] w fun e w' => e = .returned (.int .i64 4) ∧ w = w' := by
  go_enter Tryz.func178, Tryz.ntmps178
  go_wp2
  all_goals go_ret
  all_goals exact ⟨rfl, rfl⟩
set_option maxRecDepth 100000 in
theorem ps_levS_8 (w : World) : Calls Tryz.prog 178 #[.string ⟨#[61, 58, 61]⟩] w fun e w' => e = .returned (.int .i64 4) ∧ w = w' := by
  go_enter Tryz.func178, Tryz.ntmps178
  go_wp2
  all_goals go_ret
  all_goals exact ⟨rfl, rfl⟩
set_option maxRecDepth 100000 in
theorem ps_levS_9 (w : World) : Calls Tryz.prog 178 #[.string ⟨#[61, 47, 61]⟩] w fun e w' => e = .returned (.int .i64 4) ∧ w = w' := by
  go_enter Tryz.func178, Tryz.ntmps178
  go_wp2
  all_goals go_ret
  all_goals exact ⟨rfl, rfl⟩
set_option maxRecDepth 100000 in
theorem ps_levS_10 (w : World) : Calls Tryz.prog 178 #[.string ⟨#[43, 43]⟩] w fun e w' => e = .returned (.int .i64 5) ∧ w = w' := by
  go_enter Tryz.func178, Tryz.ntmps178
  go_wp2
  all_goals go_ret
  all_goals exact ⟨rfl, rfl⟩
set_option maxRecDepth 100000 in
theorem ps_levS_11 (w : World) : Calls Tryz.prog 178 #[.string ⟨#[45, 45]⟩] w fun e w' => e = .returned (.int .i64 5) ∧ w = w' := by
  go_enter Tryz.func178, Tryz.ntmps178
  go_wp2
  all_goals go_ret
  all_goals exact ⟨rfl, rfl⟩
set_option maxRecDepth 100000 in
theorem ps_levS_12 (w : World) : Calls Tryz.prog 178 #[.string ⟨#[43]⟩] w fun e w' => e = .returned (.int .i64 6) ∧ w = w' := by
  go_enter Tryz.func178, Tryz.ntmps178
  go_wp2
  all_goals go_ret
  all_goals exact ⟨rfl, rfl⟩
set_option maxRecDepth 100000 in
theorem ps_levS_13 (w : World) : Calls Tryz.prog 178 #[.string ⟨#[45]⟩] w fun e w' => e = .returned (.int .i64 6) ∧ w = w' := by
  go_enter Tryz.func178, Tryz.ntmps178
  go_wp2
  all_goals go_ret
  all_goals exact ⟨rfl, rfl⟩
set_option maxRecDepth 100000 in
theorem ps_levS_14 (w : World) : Calls Tryz.prog 178 #[.string ⟨#[42]⟩] w fun e w' => e = .returned (.int .i64 7) ∧ w = w' := by
  go_enter Tryz.func178, Tryz.ntmps178
  go_wp2
  all_goals go_ret
  all_goals exact ⟨rfl, rfl⟩
set_option maxRecDepth 100000 in
theorem ps_levS_no (x : ByteArray) (w : World) (h0 : (x.toList == [61]) = false) (h1 : (x.toList == [33]) = false) (h2 : (x.toList == [61, 61]) = false) (h3 : (x.toList == [47, 61]) = false) (h4 : (x.toList == [61, 60]) = false) (h5 : (x.toList == [60]) = false) (h6 : (x.toList == [62, 61]) = false) (h7 : (x.toList == [62]) = false) (h8 : (x.toList == [61, 58, 61]) = false) (h9 : (x.toList == [61, 47, 61]) = false) (h10 : (x.toList == [43, 43]) = false) (h11 : (x.toList == [45, 45]) = false) (h12 : (x.toList == [43]) = false) (h13 : (x.toList == [45]) = false) (h14 : (x.toList == [42]) = false) : Calls Tryz.prog 178 #[.string x] w fun e w' => e = .returned (.int .i64 0) ∧ w = w' := by
  go_enter Tryz.func178, Tryz.ntmps178
  go_wp2
  all_goals go_ret
  all_goals exact ⟨rfl, rfl⟩
theorem ps_levS (x : ByteArray) (w : World) : Calls Tryz.prog 178 #[.string x] w fun e w' => e = .returned (.int .i64 (levS x)) ∧ w = w' := by
  by_cases h0 : x = ⟨#[61]⟩
  · subst h0
    exact ps_levS_0 w
  by_cases h1 : x = ⟨#[33]⟩
  · subst h1
    exact ps_levS_1 w
  by_cases h2 : x = ⟨#[61, 61]⟩
  · subst h2
    exact ps_levS_2 w
  by_cases h3 : x = ⟨#[47, 61]⟩
  · subst h3
    exact ps_levS_3 w
  by_cases h4 : x = ⟨#[61, 60]⟩
  · subst h4
    exact ps_levS_4 w
  by_cases h5 : x = ⟨#[60]⟩
  · subst h5
    exact ps_levS_5 w
  by_cases h6 : x = ⟨#[62, 61]⟩
  · subst h6
    exact ps_levS_6 w
  by_cases h7 : x = ⟨#[62]⟩
  · subst h7
    exact ps_levS_7 w
  by_cases h8 : x = ⟨#[61, 58, 61]⟩
  · subst h8
    exact ps_levS_8 w
  by_cases h9 : x = ⟨#[61, 47, 61]⟩
  · subst h9
    exact ps_levS_9 w
  by_cases h10 : x = ⟨#[43, 43]⟩
  · subst h10
    exact ps_levS_10 w
  by_cases h11 : x = ⟨#[45, 45]⟩
  · subst h11
    exact ps_levS_11 w
  by_cases h12 : x = ⟨#[43]⟩
  · subst h12
    exact ps_levS_12 w
  by_cases h13 : x = ⟨#[45]⟩
  · subst h13
    exact ps_levS_13 w
  by_cases h14 : x = ⟨#[42]⟩
  · subst h14
    exact ps_levS_14 w
  have e : levS x = 0 := by simp [levS, h0, h1, h2, h3, h4, h5, h6, h7, h8, h9, h10, h11, h12, h13, h14]
  rw [e]
  exact ps_levS_no x w (list_ne h0) (list_ne h1) (list_ne h2) (list_ne h3) (list_ne h4) (list_ne h5) (list_ne h6) (list_ne h7) (list_ne h8) (list_ne h9) (list_ne h10) (list_ne h11) (list_ne h12) (list_ne h13) (list_ne h14)
set_option maxRecDepth 100000 in
theorem ps_levW_0 (w : World) : Calls Tryz.prog 179 #[.string ⟨#[111, 114, 101, 108, 115, 101]⟩] w fun e w' => e = .returned (.int .i64 2) ∧ w = w' := by
  go_enter Tryz.func179, Tryz.ntmps179
  go_wp2
  all_goals go_ret
  all_goals exact ⟨rfl, rfl⟩
set_option maxRecDepth 100000 in
theorem ps_levW_1 (w : World) : Calls Tryz.prog 179 #[.string ⟨#[97, 110, 100, 97, 108, 115, 111]⟩] w fun e w' => e = .returned (.int .i64 3) ∧ w = w' := by
  go_enter Tryz.func179, Tryz.ntmps179
  go_wp2
  all_goals go_ret
  all_goals exact ⟨rfl, rfl⟩
set_option maxRecDepth 100000 in
theorem ps_levW_2 (w : World) : Calls Tryz.prog 179 #[.string ⟨#[111, 114]⟩] w fun e w' => e = .returned (.int .i64 6) ∧ w = w' := by
  go_enter Tryz.func179, Tryz.ntmps179
  go_wp2
  all_goals go_ret
  all_goals exact ⟨rfl, rfl⟩
set_option maxRecDepth 100000 in
theorem ps_levW_3 (w : World) : Calls Tryz.prog 179 #[.string ⟨#[120, 111, 114]⟩] w fun e w' => e = .returned (.int .i64 6) ∧ w = w' := by
  go_enter Tryz.func179, Tryz.ntmps179
  go_wp2
  all_goals go_ret
  all_goals exact ⟨rfl, rfl⟩
set_option maxRecDepth 100000 in
theorem ps_levW_4 (w : World) : Calls Tryz.prog 179 #[.string ⟨#[100, 105, 118]⟩] w fun e w' => e = .returned (.int .i64 7) ∧ w = w' := by
  go_enter Tryz.func179, Tryz.ntmps179
  go_wp2
  all_goals go_ret
  all_goals exact ⟨rfl, rfl⟩
set_option maxRecDepth 100000 in
theorem ps_levW_5 (w : World) : Calls Tryz.prog 179 #[.string ⟨#[114, 101, 109]⟩] w fun e w' => e = .returned (.int .i64 7) ∧ w = w' := by
  go_enter Tryz.func179, Tryz.ntmps179
  go_wp2
  all_goals go_ret
  all_goals exact ⟨rfl, rfl⟩
set_option maxRecDepth 100000 in
theorem ps_levW_6 (w : World) : Calls Tryz.prog 179 #[.string ⟨#[97, 110, 100]⟩] w fun e w' => e = .returned (.int .i64 7) ∧ w = w' := by
  go_enter Tryz.func179, Tryz.ntmps179
  go_wp2
  all_goals go_ret
  all_goals exact ⟨rfl, rfl⟩
set_option maxRecDepth 100000 in
theorem ps_levW_no (x : ByteArray) (w : World) (h0 : (x.toList == [111, 114, 101, 108, 115, 101]) = false) (h1 : (x.toList == [97, 110, 100, 97, 108, 115, 111]) = false) (h2 : (x.toList == [111, 114]) = false) (h3 : (x.toList == [120, 111, 114]) = false) (h4 : (x.toList == [100, 105, 118]) = false) (h5 : (x.toList == [114, 101, 109]) = false) (h6 : (x.toList == [97, 110, 100]) = false) : Calls Tryz.prog 179 #[.string x] w fun e w' => e = .returned (.int .i64 0) ∧ w = w' := by
  go_enter Tryz.func179, Tryz.ntmps179
  go_wp2
  all_goals go_ret
  all_goals exact ⟨rfl, rfl⟩
theorem ps_levW (x : ByteArray) (w : World) : Calls Tryz.prog 179 #[.string x] w fun e w' => e = .returned (.int .i64 (levW x)) ∧ w = w' := by
  by_cases h0 : x = ⟨#[111, 114, 101, 108, 115, 101]⟩
  · subst h0
    exact ps_levW_0 w
  by_cases h1 : x = ⟨#[97, 110, 100, 97, 108, 115, 111]⟩
  · subst h1
    exact ps_levW_1 w
  by_cases h2 : x = ⟨#[111, 114]⟩
  · subst h2
    exact ps_levW_2 w
  by_cases h3 : x = ⟨#[120, 111, 114]⟩
  · subst h3
    exact ps_levW_3 w
  by_cases h4 : x = ⟨#[100, 105, 118]⟩
  · subst h4
    exact ps_levW_4 w
  by_cases h5 : x = ⟨#[114, 101, 109]⟩
  · subst h5
    exact ps_levW_5 w
  by_cases h6 : x = ⟨#[97, 110, 100]⟩
  · subst h6
    exact ps_levW_6 w
  have e : levW x = 0 := by simp [levW, h0, h1, h2, h3, h4, h5, h6]
  rw [e]
  exact ps_levW_no x w (list_ne h0) (list_ne h1) (list_ne h2) (list_ne h3) (list_ne h4) (list_ne h5) (list_ne h6)
set_option maxRecDepth 100000 in
theorem ps_lev (t : Tk) : Lv t (lev t) := by
  obtain ⟨tk, tt, tn, ta⟩ := t
  by_cases h5 : tk = 5
  · subst h5
    exact ps_lv_sign tt tn ta _ (ps_levS tt)
  · by_cases h4 : tk = 4
    · subst h4
      have e : lev ⟨4, tt, tn, ta⟩ = levW tt := by simp [lev]
      rw [e]
      intro w
      have h := ps_levW tt
      generalize levW tt = l at h
      simp only [Tk.val]
      go_enter Tryz.func169, Tryz.ntmps169
      go_wp2_with (go_at_call 179; refine (h _).mono ?_; rintro e w1 ⟨rfl, rfl⟩)
      go_ret
      exact ⟨rfl, Below.alloc0 w _⟩
    · have e : lev ⟨tk, tt, tn, ta⟩ = 0 := by simp [lev, h5, h4]
      rw [e]
      intro w
      have e5 : (tk == 5) = false := by simpa using h5
      have e4 : (tk == 4) = false := by simpa using h4
      clear e h5 h4
      simp only [Tk.val]
      go_enter Tryz.func169, Tryz.ntmps169
      go_wp2
      go_ret
      exact ⟨rfl, Below.alloc0 w _⟩
theorem lev_range (t : Tk) : 0 ≤ lev t ∧ lev t ≤ 7 := by
  unfold lev levS levW
  repeat' split
  all_goals omega
set_option maxRecDepth 100000 in
theorem ps_side_1 (w : World) : Calls Tryz.prog 171 #[.int .i64 1] w fun e w' => e = .returned (.tuple #[.int .i64 1, .int .i64 0]) ∧ w = w' := by
  go_enter Tryz.func171, Tryz.ntmps171
  go_wp2
  go_ret2
  exact ⟨rfl, rfl⟩
set_option maxRecDepth 100000 in
theorem ps_side_2 (w : World) : Calls Tryz.prog 171 #[.int .i64 2] w fun e w' => e = .returned (.tuple #[.int .i64 2, .int .i64 1]) ∧ w = w' := by
  go_enter Tryz.func171, Tryz.ntmps171
  go_wp2
  go_ret2
  exact ⟨rfl, rfl⟩
set_option maxRecDepth 100000 in
theorem ps_side_3 (w : World) : Calls Tryz.prog 171 #[.int .i64 3] w fun e w' => e = .returned (.tuple #[.int .i64 3, .int .i64 2]) ∧ w = w' := by
  go_enter Tryz.func171, Tryz.ntmps171
  go_wp2
  go_ret2
  exact ⟨rfl, rfl⟩
set_option maxRecDepth 100000 in
theorem ps_side_4 (w : World) : Calls Tryz.prog 171 #[.int .i64 4] w fun e w' => e = .returned (.tuple #[.int .i64 5, .int .i64 3]) ∧ w = w' := by
  go_enter Tryz.func171, Tryz.ntmps171
  go_wp2
  go_ret2
  exact ⟨rfl, rfl⟩
set_option maxRecDepth 100000 in
theorem ps_side_5 (w : World) : Calls Tryz.prog 171 #[.int .i64 5] w fun e w' => e = .returned (.tuple #[.int .i64 5, .int .i64 4]) ∧ w = w' := by
  go_enter Tryz.func171, Tryz.ntmps171
  go_wp2
  go_ret2
  exact ⟨rfl, rfl⟩
set_option maxRecDepth 100000 in
theorem ps_side_6 (w : World) : Calls Tryz.prog 171 #[.int .i64 6] w fun e w' => e = .returned (.tuple #[.int .i64 7, .int .i64 6]) ∧ w = w' := by
  go_enter Tryz.func171, Tryz.ntmps171
  go_wp2
  go_ret2
  exact ⟨rfl, rfl⟩
set_option maxRecDepth 100000 in
theorem ps_side_7 (w : World) : Calls Tryz.prog 171 #[.int .i64 7] w fun e w' => e = .returned (.tuple #[.int .i64 8, .int .i64 7]) ∧ w = w' := by
  go_enter Tryz.func171, Tryz.ntmps171
  go_wp2
  go_ret2
  exact ⟨rfl, rfl⟩
theorem ps_sides (l : Int) (h1 : 1 ≤ l) (h7 : l ≤ 7) (w : World) : Calls Tryz.prog 171 #[.int .i64 l] w fun e w' => e = .returned (.tuple #[.int .i64 (sidesR l), .int .i64 (sidesB l)]) ∧ w = w' := by
  obtain rfl | rfl | rfl | rfl | rfl | rfl | rfl : l = 1 ∨ l = 2 ∨ l = 3 ∨ l = 4 ∨ l = 5 ∨ l = 6 ∨ l = 7 := by omega
  · exact ps_side_1 w
  · exact ps_side_2 w
  · exact ps_side_3 w
  · exact ps_side_4 w
  · exact ps_side_5 w
  · exact ps_side_6 w
  · exact ps_side_7 w
set_option maxRecDepth 100000 in
theorem ps_oper_0 (tk tn ta : Int) (w : World) : Calls Tryz.prog 170 #[(⟨tk, ⟨#[61]⟩, tn, ta⟩ : Tk).val] w fun e w' => e = .returned (.agg #[.int .i64 7, .string ⟨#[]⟩, .string ⟨#[]⟩, .int .i64 0, .slice none 0 0, .int .i64 ta]) ∧ Below w.heap.size w w' := by
  simp only [Tk.val]
  go_enter Tryz.func170, Tryz.ntmps170
  go_wp2
  refine bodyPost_ret (v := .agg #[.int .i64 7, .string ⟨#[]⟩, .string ⟨#[]⟩, .int .i64 0, .slice none 0 0, .int .i64 ta]) (by simp [results, Tryz.results170, go_sem]) rfl ⟨rfl, ?_⟩
  exact ((Below.alloc0 w _).trans ((Below.alloc0 _ _).mono (by simp)))
set_option maxRecDepth 100000 in
theorem ps_oper_1 (tk tn ta : Int) (w : World) : Calls Tryz.prog 170 #[(⟨tk, ⟨#[33]⟩, tn, ta⟩ : Tk).val] w fun e w' => e = .returned (.agg #[.int .i64 11, .string ⟨#[]⟩, .string ⟨#[]⟩, .int .i64 0, .slice none 0 0, .int .i64 ta]) ∧ Below w.heap.size w w' := by
  simp only [Tk.val]
  go_enter Tryz.func170, Tryz.ntmps170
  go_wp2
  refine bodyPost_ret (v := .agg #[.int .i64 11, .string ⟨#[]⟩, .string ⟨#[]⟩, .int .i64 0, .slice none 0 0, .int .i64 ta]) (by simp [results, Tryz.results170, go_sem]) rfl ⟨rfl, ?_⟩
  exact ((Below.alloc0 w _).trans ((Below.alloc0 _ _).mono (by simp)))
set_option maxRecDepth 100000 in
theorem ps_oper_2 (tk tn ta : Int) (w : World) : Calls Tryz.prog 170 #[(⟨tk, ⟨#[111, 114, 101, 108, 115, 101]⟩, tn, ta⟩ : Tk).val] w fun e w' => e = .returned (.agg #[.int .i64 17, .string ⟨#[]⟩, .string ⟨#[]⟩, .int .i64 0, .slice none 0 0, .int .i64 ta]) ∧ Below w.heap.size w w' := by
  simp only [Tk.val]
  go_enter Tryz.func170, Tryz.ntmps170
  go_wp2
  refine bodyPost_ret (v := .agg #[.int .i64 17, .string ⟨#[]⟩, .string ⟨#[]⟩, .int .i64 0, .slice none 0 0, .int .i64 ta]) (by simp [results, Tryz.results170, go_sem]) rfl ⟨rfl, ?_⟩
  exact ((Below.alloc0 w _).trans ((Below.alloc0 _ _).mono (by simp)))
set_option maxRecDepth 100000 in
theorem ps_oper_3 (tk tn ta : Int) (w : World) : Calls Tryz.prog 170 #[(⟨tk, ⟨#[97, 110, 100, 97, 108, 115, 111]⟩, tn, ta⟩ : Tk).val] w fun e w' => e = .returned (.agg #[.int .i64 16, .string ⟨#[]⟩, .string ⟨#[]⟩, .int .i64 0, .slice none 0 0, .int .i64 ta]) ∧ Below w.heap.size w w' := by
  simp only [Tk.val]
  go_enter Tryz.func170, Tryz.ntmps170
  go_wp2
  refine bodyPost_ret (v := .agg #[.int .i64 16, .string ⟨#[]⟩, .string ⟨#[]⟩, .int .i64 0, .slice none 0 0, .int .i64 ta]) (by simp [results, Tryz.results170, go_sem]) rfl ⟨rfl, ?_⟩
  exact ((Below.alloc0 w _).trans ((Below.alloc0 _ _).mono (by simp)))
/-- An operator's node, without Kids. -/
def opVal (t : Tk) : Value := .agg #[.int .i64 (opSh t []).kind, .string (opSh t []).text, .string ⟨#[]⟩, .int .i64 0, .slice none 0 0, .int .i64 t.at_]
theorem ps_operation (t : Tk) (w : World) : Calls Tryz.prog 170 #[t.val] w fun e w' => e = .returned (opVal t) ∧ Below w.heap.size w w' := by
  obtain ⟨tk, tt, tn, ta⟩ := t
  by_cases h0 : tt = ⟨#[61]⟩
  · subst h0
    exact ps_oper_0 tk tn ta w
  · by_cases h1 : tt = ⟨#[33]⟩
    · subst h1
      exact ps_oper_1 tk tn ta w
    · by_cases h2 : tt = ⟨#[111, 114, 101, 108, 115, 101]⟩
      · subst h2
        exact ps_oper_2 tk tn ta w
      · by_cases h3 : tt = ⟨#[97, 110, 100, 97, 108, 115, 111]⟩
        · subst h3
          exact ps_oper_3 tk tn ta w
        · have h := ps_oper ⟨tk, tt, tn, ta⟩ h0 h1 h2 h3 w
          have e : opVal ⟨tk, tt, tn, ta⟩ = .agg #[.int .i64 15, .string tt, .string ⟨#[]⟩, .int .i64 0, .slice none 0 0, .int .i64 ta] := by simp [opVal, opSh, h0, h1, h2, h3]
          rw [e]
          exact h
theorem opSh_eq (t : Tk) (l : List Int) : opSh t l = ⟨(opSh t []).kind, (opSh t []).text, ⟨#[]⟩, 0, l, t.at_⟩ := by
  unfold opSh
  repeat' split
  all_goals rfl
end Go.Proofs.YtlgkjjbefoeabaaGreatDoor
namespace Go.Proofs.YtlgkjjbefoeabaaGreatDoor
open Go.RowKit

/-- The state of the loop over operators. -/
structure ExpI (T : List Tk) (rec : Ph → PM Nat) (least : Int) (w wr : World) (g : Nat) (Tv Nv : Value) (N : List Nd) (i0 : Nat) (res : Except Nat (Nat × Ps)) (L M : Value) (s1 : Ps) (l : Nat) (m : Int) (f : Nat) (Nv1 : Value) (M1 : List Nd) : Prop where
  lv : L = .int .i64 (l : Int)
  mv : M = .int .i64 m
  i : i0 ≤ s1.i
  fuel : T.length - s1.i < f
  eq : exprL T rec least f m l s1 = res
  rg : Rg T w wr g Tv Nv N s1 Nv1 M1
  lt : l < s1.N.length
  m7 : m ≤ 7
section
variable {T : List Tk} {rec : Ph → PM Nat} {least m : Int} {f l : Nat} {s t : Ps}
theorem exprL_stop (hf : 0 < f) (h : lev (tokAt T s.i) < least ∨ lev (tokAt T s.i) > m) : exprL T rec least f m l s = .ok (l, s) := by
  cases f with
  | zero => omega
  | succ f => simp only [exprL, PM.bind, pTok, if_pos h, PM.ret]
theorem exprL_bad (hf : 0 < f) (h : ¬ (lev (tokAt T s.i) < least ∨ lev (tokAt T s.i) > m)) {e : Nat} (he : rec (.expr (sidesR (lev (tokAt T s.i)))) ⟨s.i + 1, s.N⟩ = .error e) : exprL T rec least f m l s = .error e := by
  cases f with
  | zero => omega
  | succ f => simp only [exprL, PM.bind, pTok, if_neg h, pSkip, he]
theorem exprL_next (hf : 0 < f) (h : ¬ (lev (tokAt T s.i) < least ∨ lev (tokAt T s.i) > m)) {r : Nat} (he : rec (.expr (sidesR (lev (tokAt T s.i)))) ⟨s.i + 1, s.N⟩ = .ok (r, t)) : exprL T rec least f m l s = exprL T rec least (f - 1) (sidesB (lev (tokAt T s.i))) t.N.length ⟨t.i, t.N ++ [opSh (tokAt T s.i) [(l : Int), (r : Int)]]⟩ := by
  cases f with
  | zero => omega
  | succ f => simp only [exprL, PM.bind, pTok, if_neg h, pSkip, he, pAdd, Nat.add_sub_cancel]
theorem exprL_fin {q : PM Nat} (hq : ∀ s s', S2 T s s' → Ok2 T VN 3 q q s s') (hs : S2 T s s) (hc : Cnt T s) (hi : s.i < T.length) (hl : l < s.N.length) {r : Nat} (he : q ⟨s.i + 1, s.N⟩ = .ok (r, t)) (ok : Int) (ot : ByteArray) (ta : Int) : S2 T ⟨t.i, t.N ++ [⟨ok, ot, ⟨#[]⟩, 0, [(l : Int), (r : Int)], ta⟩]⟩ ⟨t.i, t.N ++ [⟨ok, ot, ⟨#[]⟩, 0, [(l : Int), (r : Int)], ta⟩]⟩ ∧ Cnt T ⟨t.i, t.N ++ [⟨ok, ot, ⟨#[]⟩, 0, [(l : Int), (r : Int)], ta⟩]⟩ := by
  have hpre : PM.bind (pSkip 1) (fun _ => PM.bind q fun (r : Nat) => pAdd ⟨ok, ot, ⟨#[]⟩, 0, [(l : Int), (r : Int)], ta⟩) s = .ok (t.N.length, ⟨t.i, t.N ++ [⟨ok, ot, ⟨#[]⟩, 0, [(l : Int), (r : Int)], ta⟩]⟩) := by simp [PM.bind, pSkip, he, pAdd]
  have hA : Ok2 T VN (3 + -1) (PM.bind q fun (r : Nat) => pAdd ⟨ok, ot, ⟨#[]⟩, 0, [(l : Int), (r : Int)], ta⟩) (PM.bind q fun (r : Nat) => pAdd ⟨ok, ot, ⟨#[]⟩, 0, [(l : Int), (r : Int)], ta⟩) ⟨s.i + 1, s.N⟩ ⟨s.i + 1, s.N⟩ := (hq _ _ (hs.next hi)).bind fun a a' u u' hu va _ hM => by
    refine Ok2.add hu (by rw [va.1]) (fun k hk => ?_)
    obtain ⟨M, hM⟩ := hM
    have h1 := va.2
    have h2 : u.N.length = s.N.length + M.length := by rw [hM]; simp
    simp at hk
    omega
  obtain ⟨h1, h2, _⟩ := (Ok2.skip (n := 1) (k := fun _ => PM.bind q fun (r : Nat) => pAdd ⟨ok, ot, ⟨#[]⟩, 0, [(l : Int), (r : Int)], ta⟩) (k' := fun _ => PM.bind q fun (r : Nat) => pAdd ⟨ok, ot, ⟨#[]⟩, 0, [(l : Int), (r : Int)], ta⟩) hA).fin (by omega) hc hpre
  exact ⟨h1, h2⟩
theorem sidesR_pos {a : Int} (h : 1 ≤ a) : 1 ≤ sidesR a := by unfold sidesR; split <;> omega
theorem sidesB_le {a : Int} (h : a ≤ 7) : sidesB a ≤ 7 := by unfold sidesB; split <;> omega
end
set_option maxRecDepth 100000 in
set_option maxHeartbeats 6400000 in
theorem rd_expr {T : List Tk} {rec : Ph → PM Nat} {s : Ps} (least : Int) (hl1 : 1 ≤ least) (hT : 0 < T.length) (E : Env T rec (s.i + 1)) (ho : Runs T 168 [] (rec .operand) s.i) {w : World} {g : Nat} {Tv Nv : Value} {N : List Nd} (h : PS w g Tv T Nv N s) :
    Calls Tryz.prog 156 #[.pointer (some ⟨g, 0, none⟩), .int .i64 least] w (Rd T w g Tv Nv N (phBody T rec (.expr least) s)) := by
  have hE := ho s (Nat.le_refl _) w g Tv Nv N h
  have hE : Calls Tryz.prog 168 #[.pointer (some ⟨g, 0, none⟩)] w (Rd T w g Tv Nv N (rec .operand s)) := hE
  have htl := h.at_.tl
  cases hms : rec .operand s with
  | error e =>
    rw [hms] at hE
    rw [show phBody T rec (.expr least) s = .error e by simp [phBody, PM.bind, hms]]
    clear ho h
    go_enter Tryz.func156, Tryz.ntmps156
    go_wp2_with fail
    refine hE.mono ?_
    rintro x w1 ⟨rfl, T1⟩
    exact ⟨rfl, rfl, T1⟩
  | ok at_ =>
    obtain ⟨a, t⟩ := at_
    rw [hms] at hE
    obtain ⟨ht1, ha, hit, hct⟩ := (E.fwd .operand trivial).ok h.ok h.cnt hms
    rw [show phBody T rec (.expr least) s = exprL T rec least (T.length + 1) 7 a t by simp [phBody, PM.bind, hms]]
    have HF := Hid.mk7 (And.intro E (And.intro hit ha))
    have HR := Hid.mk7 (Rg.refl h)
    obtain ⟨res, hres⟩ : ∃ res, exprL T rec least (T.length + 1) 7 a t = res := ⟨_, rfl⟩
    rw [hres]
    have HQ := Hid.mk7 hres
    clear ho h hit hms hres ht1 ha hct E
    go_enter Tryz.func156, Tryz.ntmps156
    go_wp2_with fail
    refine hE.mono ?_
    rintro x w1 hx
    have hx' : Rd T w g Tv Nv (N ++ []) (.ok (a, t)) x w1 := by rw [List.append_nil]; exact hx
    obtain ⟨rfl, Nv1, M1, r1, _⟩ := HR.out.rd hx'
    have H1 := Hid.mk7 r1
    clear hE hx hx' r1
    go_wp2_with fail
    go_loopw [5, 6] (fun L M wr => ∃ s1 l m f Nv1 M1, ExpI T rec least w wr g Tv Nv N (s.i + 1) res L M s1 l m f Nv1 M1) (fun _ _ wr => T.length - posOf wr g)
    case atStart =>
      exact ⟨t, a, 7, T.length + 1, Nv1, M1, ⟨rfl, rfl, HF.out.2.1, by omega, HQ.out, H1.out, HF.out.2.2, by omega⟩⟩
    case round =>
      clear H1
      obtain ⟨s1, l, m, f, Nv2, M2, hI⟩ := hrel
      obtain ⟨hL, hM, hi, hfu, heq, hrg, hlt, hm7⟩ := hI
      subst hL hM
      have hf0 : 0 < f := by omega
      have c2 := rg_peek hrg
      have hlv := ps_lev (tokAt T s1.i)
      unfold Lv at hlv
      have hop := fun W => ps_operation (tokAt T s1.i) W
      unfold opVal at hop
      have hlr := lev_range (tokAt T s1.i)
      have hsi : lev (tokAt T s1.i) ≠ 0 → s1.i < T.length := lev_lt
      obtain ⟨tk, htk⟩ : ∃ tk, tokAt T s1.i = tk := ⟨_, rfl⟩
      have hst := fun h => exprL_stop (T := T) (rec := rec) (least := least) (m := m) (l := l) (s := s1) hf0 h
      have hbd := fun h e => exprL_bad (T := T) (rec := rec) (least := least) (m := m) (l := l) (s := s1) hf0 h (e := e)
      have hnx := fun h r t => exprL_next (T := T) (rec := rec) (least := least) (m := m) (l := l) (s := s1) hf0 h (r := r) (t := t)
      rw [htk] at c2 hlv hop hlr hsi hst hbd hnx
      have hoe := opSh_eq tk
      obtain ⟨ok, hok⟩ : ∃ ok, (opSh tk []).kind = ok := ⟨_, rfl⟩
      obtain ⟨ot, hot⟩ : ∃ ot, (opSh tk []).text = ot := ⟨_, rfl⟩
      rw [hok, hot] at hop hoe
      obtain ⟨lv, hlvE⟩ : ∃ lv, lev tk = lv := ⟨_, rfl⟩
      rw [hlvE] at hlv hlr hsi hst hbd hnx
      have hpos := hrg.ps.at_.pos
      clear htk hok hot hlvE
      generalize hoF : opSh tk = oF at hnx hoe
      clear hoF
      obtain ⟨tk, tt, tn, ta⟩ := tk
      simp only [Tk.val] at c2 hlv hop
      have HI := Hid.mk7 (And.intro hi (And.intro hfu (And.intro heq (And.intro hlt (And.intro hm7 (And.intro hpos hoe))))))
      have HX := Hid.mk7 (And.intro hst (And.intro hbd hnx))
      clear hi hfu heq hlt hm7 hpos hst hbd hnx hoe
      go_wp2_with fail
      refine c2.mono ?_
      rintro x w2 ⟨rfl, r2, _⟩
      have f2 := r2.ps.at_.free hT w2.heap.size (Nat.le_refl _)
      have hne : w2.heap.size ≠ g := f2.g
      have r3 := r2.below (Below.alloc0 w2 (.cells #[.int .i64 tk, .string tt, .int .i64 tn, .int .i64 ta] 40))
      have H3 := Hid.mk7 r3
      clear c2 r2 r3 f2 hrg
      go_wp2_with fail
      refine (hlv _).mono ?_
      rintro x w4 ⟨rfl, hb4⟩
      have H4 := Hid.mk7 (And.intro (H3.out.below hb4) hb4)
      clear hlv hb4
      by_cases hs1 : lv < least
      · have hre : res = .ok (l, s1) := by rw [← HI.out.2.2.1]; exact HX.out.1 (.inl hs1)
        subst hre
        clear hlr hop hsi
        go_wp2
        go_ret
        exact H4.out.1.of
      · by_cases hs2 : m < lv
        · have hre : res = .ok (l, s1) := by rw [← HI.out.2.2.1]; exact HX.out.1 (.inr hs2)
          subst hre
          clear hlr hop hsi
          go_wp2
          go_ret
          exact H4.out.1.of
        · have hi1 : s1.i < T.length := hsi (by omega)
          have hno : ¬ (lv < least ∨ lv > m) := by omega
          have hbd := HX.out.2.1 hno
          have hnx := HX.out.2.2 hno
          have hsd := fun W => ps_sides lv (by omega) (by omega) W
          have hsR := sidesR_pos (a := lv) (by omega)
          have hsB := sidesB_le (a := lv) (by omega)
          generalize sidesR lv = sr at hbd hnx hsd hsR
          generalize sidesB lv = sb at hnx hsd hsB
          have HN := Hid.mk7 (And.intro hbd (And.intro hnx (And.intro hsR (And.intro hsB hlr))))
          obtain ⟨o0, o1, o2, o3⟩ := keptTok (t := ⟨tk, tt, tn, ta⟩) H4.out.2
          have k1 := H4.out.1.ps.at_.c1.1
          have g1 := H4.out.1.ps.at_.c1.2
          have r5 := H4.out.1.skip 1 hi1
          rw [show ((s1.i + 1 : Nat) : Int) = (s1.i : Int) + 1 by omega] at r5
          have hl4 : w2.heap.size < w4.heap.size := World.block_lt_of_cell? w4 _ o0
          have H5 := Hid.mk7 r5
          clear hno hbd hnx hsR hsB hlr hsi r5 H3
          go_wp2_with fail
          refine (hop _).mono ?_
          rintro x w6 ⟨rfl, hb6⟩
          have mk7 := MkI.of_kd (H5.out.below hb6) (Kd.nil _ _ _ _ _ _ _) hT ok ot ⟨#[]⟩ 0 ta
          have HK := Hid.mk7 mk7
          clear hop hb6 mk7 o0 o1 o2 o3 k1 g1
          go_wp2_with fail
          refine (hsd _).mono ?_
          rintro x w7 ⟨rfl, rfl⟩
          have c8 := HF.out.1.run (.expr sr) HN.out.2.2.1 ⟨s1.i + 1, s1.N⟩ (by have := HI.out.1; show s.i + 1 ≤ s1.i + 1; omega) _ g Tv _ _ HK.out.rg.ps
          have hps := HK.out.rg.ps
          clear hsd
          cases he : rec (.expr sr) ⟨s1.i + 1, s1.N⟩ with
          | error e =>
            have hre : res = .error e := by rw [← HI.out.2.2.1]; exact HN.out.1 e he
            subst hre
            simp only [he, fnOf, moreOf] at c8
            clear he hps
            go_wp2_with fail
            refine c8.mono ?_
            rintro x w8 ⟨rfl, T8⟩
            exact ⟨rfl, rfl, HK.out.rg.bad T8⟩
          | ok bt =>
            obtain ⟨r, t8⟩ := bt
            obtain ⟨q1, q2, q3, q4⟩ := (HF.out.1.fwd (.expr sr) HN.out.2.2.1).ok hps.ok hps.cnt he
            have q3 : s1.i + 1 < t8.i := q3
            obtain ⟨p1, p2⟩ := exprL_fin (fun s s' hs => HF.out.1.ok2 (.expr sr) HN.out.2.2.1 s s' hs) H4.out.1.ps.ok H4.out.1.ps.cnt hi1 HI.out.2.2.2.1 he ok ot ta
            have hre : exprL T rec least (f - 1) sb t8.N.length ⟨t8.i, t8.N ++ [oF [(l : Int), (r : Int)]]⟩ = res := by rw [← HI.out.2.2.1]; exact (HN.out.2.1 r t8 he).symm
            rw [HI.out.2.2.2.2.2.2] at hre
            simp only [he, fnOf, moreOf] at c8
            have HW := Hid.mk7 (And.intro hre (And.intro q3 (And.intro q2 (And.intro p1 p2))))
            clear he hps hre q1 q2 q3 q4 p1 p2
            go_wp2_with fail
            refine c8.mono ?_
            intro x w8 hx
            obtain ⟨rfl, Nv8, M8, mk8⟩ := HK.out.rd (Below.refl _ _) hx
            have mk9 := mk8.twoA hT (l : Int) (r : Int)
            obtain ⟨n0, n1, n2, n3, n4, n5, fz, _, _, _, _⟩ := mk8.bx
            have f4 := fz 4
            have lq := mk8.bx.lt
            have c9 := rg_add mk9.rg hT ⟨ok, ot, ⟨#[]⟩, 0, .slice (some ⟨w8.heap.size, 0, none⟩) 2 2, [(l : Int), (r : Int)], ta⟩ mk9.kd HW.out.2.2.2.1 HW.out.2.2.2.2
            simp only [Nd.val] at c9
            clear c8 hx mk8 mk9 fz HK
            go_wp2_with fail
            refine c9.mono ?_
            rintro x w10 ⟨rfl, Nv10, r10, _⟩
            have H10 := Hid.mk7 r10
            clear c9 r10 n0 n1 n2 n3 n4 n5 f4 lq
            go_wp2
            go_roundw
            case rel =>
              exact ⟨⟨t8.i, t8.N ++ [⟨ok, ot, ⟨#[]⟩, 0, [(l : Int), (r : Int)], ta⟩]⟩, t8.N.length, sb, f - 1, Nv10, _, ⟨rfl, rfl, by have h1 := HI.out.1; have h2 := HW.out.2.1; show s.i + 1 ≤ t8.i; omega, by have h1 := HI.out.2.1; have h2 := HW.out.2.1; show T.length - t8.i < f - 1; omega, HW.out.1, H10.out, by simp, HN.out.2.2.2.1⟩⟩
            case measure =>
              rw [H10.out.ps.at_.pos, HI.out.2.2.2.2.2.1]
              have h2 : s1.i + 1 < t8.i := HW.out.2.1
              show T.length - t8.i < T.length - s1.i
              omega
end Go.Proofs.YtlgkjjbefoeabaaGreatDoor
namespace Go.Proofs.YtlgkjjbefoeabaaGreatDoor
open Go.RowKit

theorem rowL_pre {T : List Tk} {x : ByteArray} {m : PM Nat} (hm : Fwd T m) : ∀ (f : Nat) (acc : List Int) (s : Ps) (l : List Int) (t : Ps), S2 T s s → rowL T x m f acc s = .ok (l, t) → (∃ l', l = acc ++ l') ∧ ∃ M, t.N = s.N ++ M
  | 0, acc, s, l, t, _, e => by
    simp only [rowL, PM.ret, Except.ok.injEq, Prod.mk.injEq] at e
    obtain ⟨rfl, rfl⟩ := e
    exact ⟨⟨[], by simp⟩, [], by simp⟩
  | f + 1, acc, s, l, t, hs, e => by
    cases hb : sgn T x s.i with
    | false =>
      rw [rowL_stop (by omega) hb] at e
      simp only [Except.ok.injEq, Prod.mk.injEq] at e
      obtain ⟨rfl, rfl⟩ := e
      exact ⟨⟨[], by simp⟩, [], by simp⟩
    | true =>
      rcases hm _ (hs.next (n := 1) (sgn_lt hb)) with ⟨e1, h1, _⟩ | ⟨a1, a2, t1, t2, h1, h2, h3, _, _, M, h6, _⟩
      · rw [rowL_bad (by omega) hb h1] at e
        cases e
      · rw [rowL_next (by omega) hb h1] at e
        have h12 : t2 = t1 := by rw [h1] at h2; simp at h2; exact h2.2.symm
        subst h12
        obtain ⟨⟨l', rfl⟩, M', hM'⟩ := rowL_pre hm f _ t2 l t h3 e
        exact ⟨⟨(a1 : Int) :: l', by simp⟩, M ++ M', by rw [hM', h6, List.append_assoc]⟩
theorem row_head {T : List Tk} {x : ByteArray} {m : PM Nat} (hm : Fwd T m) {s t : Ps} {l : List Int} (hs : S2 T s s) (e : row T x m s = .ok (l, t)) : ∃ a t0 l' M, m s = .ok (a, t0) ∧ l = (a : Int) :: l' ∧ t.N = t0.N ++ M := by
  rcases hm s hs with ⟨e1, h1, _⟩ | ⟨a1, a2, t1, t2, h1, h2, h3, _, _, _, _, _⟩
  · simp [row, PM.bind, h1] at e
  · have h12 : t2 = t1 := by rw [h1] at h2; simp at h2; exact h2.2.symm
    subst h12
    simp only [row, PM.bind, h1] at e
    obtain ⟨⟨l', rfl⟩, M, hM⟩ := rowL_pre hm _ _ t2 l t h3 e
    exact ⟨a1, t2, l', M, h1, rfl, hM⟩
/-- A clause of a function has arguments. -/
def FcOk (T : List Tk) (m : PM Nat) : Prop := ∀ s a t, S2 T s s → m s = .ok (a, t) → ∃ k r, (t.N[a]?).map Sh.kids = some (k :: r)
theorem row_fc {T : List Tk} {x : ByteArray} {m : PM Nat} (hm : Fwd T m) (hf : FcOk T m) {s t : Ps} {l : List Int} (hs : S2 T s s) (ht : S2 T t t) (e : row T x m s = .ok (l, t)) :
    ∃ (a kk : Nat) (l' more : List Int) (cN aN : Sh), l = (a : Int) :: l' ∧ t.N[a]? = some cN ∧ cN.kids = (kk : Int) :: more ∧ t.N[kk]? = some aN ∧ nameOf t.N (l.headD 0) = cN.text ∧ argsOf t.N (l.headD 0) = (aN.kids.length : Int) := by
  obtain ⟨a, t0, l', M, h1, rfl, hM⟩ := row_head hm hs e
  obtain ⟨k, r, hk⟩ := hf s a t0 hs h1
  cases hc : t0.N[a]? with
  | none => rw [hc] at hk; cases hk
  | some cN =>
    rw [hc] at hk
    have hck : cN.kids = k :: r := by simpa using hk
    have hal : a < t0.N.length := (List.getElem?_eq_some_iff.1 hc).1
    have hct : t.N[a]? = some cN := by rw [hM, List.getElem?_append_left hal]; exact hc
    have hl := (List.getElem?_eq_some_iff.1 hct).1
    have hlow := ht.low a hl k (by rw [(List.getElem?_eq_some_iff.1 hct).2, hck]; simp)
    obtain ⟨kk, rfl⟩ : ∃ kk : Nat, k = (kk : Int) := ⟨k.toNat, by omega⟩
    have hkl : kk < t.N.length := by omega
    refine ⟨a, kk, l', r, cN, t.N[kk], rfl, hct, hck, List.getElem?_eq_getElem hkl, ?_, ?_⟩
    · simp [nameOf, hct]
    · simp [argsOf, hct, hck, List.getElem?_eq_getElem hkl]
set_option maxRecDepth 100000 in
set_option maxHeartbeats 6400000 in
theorem rd_function {T : List Tk} {rec : Ph → PM Nat} {s : Ps} (hT : 0 < T.length) (hm : Fwd T (rec .fclause)) (hR : Runs T 121 [] (rec .fclause) s.i) (hok2 : ∀ s s', S2 T s s' → Ok2 T VN 1 (rec .fclause) (rec .fclause) s s') (hfc : FcOk T (rec .fclause)) (hfin : ∀ a t, phBody T rec .function s = .ok (a, t) → S2 T t t ∧ Cnt T t) {w : World} {g : Nat} {Tv Nv : Value} {N : List Nd} (h : PS w g Tv T Nv N s) :
    Calls Tryz.prog 100 #[.pointer (some ⟨g, 0, none⟩)] w (Rd T w g Tv Nv N (phBody T rec .function s)) := by
  obtain ⟨res, hres⟩ : ∃ res, phBody T rec .function s = res := ⟨_, rfl⟩
  rw [hres]
  have HQ := Hid.mk7 hres
  have htl := h.at_.tl
  have c1 := rg_peek (Rg.refl h)
  have hfa := Tryz.tokPlace
  have hmf := Tryz.makeFn
  have HP := Hid.mk7 (And.intro hm (And.intro hR (And.intro hok2 (And.intro hfc hfin))))
  obtain ⟨tk, htk⟩ : ∃ tk, tokAt T s.i = tk := ⟨_, rfl⟩
  rw [htk] at c1
  have HT := Hid.mk7 htk
  clear hres hm hR hok2 hfc hfin h htk
  obtain ⟨tk, tt, tn, ta⟩ := tk
  simp only [Tk.val] at c1
  go_enter Tryz.func100, Tryz.ntmps100
  go_wp2_with fail
  refine c1.mono ?_
  rintro x w1 ⟨rfl, r1, _⟩
  have c2 := rd_row_functionClause HP.out.1 HP.out.2.1 ⟨#[59]⟩ (s := s) (Nat.le_refl _) r1.ps
  have hps := r1.ps
  have HR1 := Hid.mk7 r1
  clear c1 r1
  cases hrow : row T ⟨#[59]⟩ (rec .fclause) s with
  | error e =>
    have hre : res = .error e := by rw [← HQ.out]; simp [phBody, PM.bind, pTok, hrow]
    subst hre
    rw [hrow] at c2
    clear hrow hps
    go_wp2_with fail
    refine c2.mono ?_
    rintro x w2 ⟨rfl, T2⟩
    exact ⟨rfl, rfl, HR1.out.bad T2⟩
  | ok kt =>
    obtain ⟨ks, t⟩ := kt
    obtain ⟨ht2, _, _⟩ := (row_ok2 (Alike.refl T) (x := ⟨#[59]⟩) (d := 1) (by omega) HP.out.2.2.1 hps.ok).fin (by omega) hps.cnt hrow
    obtain ⟨R, A, ks', more, cN, aN, hks, hc1, hc2, hc3, hnm, hag⟩ := row_fc HP.out.1 HP.out.2.2.2.1 hps.ok ht2 hrow
    have hrs : res = PM.bind (pNeed T (knd T 6)) (fun _ => pAdd ⟨26, cN.text, ⟨#[]⟩, (aN.kids.length : Int), ks, ta⟩) t := by rw [← HQ.out]; unfold phBody; simp only [PM.bind, pTok, hrow, hnm, hag, HT.out]
    have hfn : ∀ a u, res = .ok (a, u) → S2 T u u ∧ Cnt T u := fun a u e => HP.out.2.2.2.2 a u (HQ.out.trans e)
    rw [hrow] at c2
    subst hks
    have HW := Hid.mk7 (And.intro hrs (And.intro hfn (And.intro hc1 (And.intro hc2 hc3))))
    clear hrow hps ht2 hnm hag hrs hfn hc1 hc2 hc3
    go_wp2_with fail
    refine c2.mono ?_
    intro x w2 hx
    obtain ⟨V2, rfl, Nv2, M2, r2, k2, _⟩ := HR1.out.rdL hx
    have hc1 := HW.out.2.2.1
    have hc2 := HW.out.2.2.2.1
    have hc3 := HW.out.2.2.2.2
    have p2 := r2.ps.at_
    have hn2 := r2.ps.n
    have hrL : R < (N ++ M2).length := by have h9 := (List.getElem?_eq_some_iff.1 hc1).1; rw [← hn2, List.length_map] at h9; exact h9
    have haL : A < (N ++ M2).length := by have h9 := (List.getElem?_eq_some_iff.1 hc3).1; rw [← hn2, List.length_map] at h9; exact h9
    have er : ((N ++ M2)[R]'hrL).sh = cN := by
      rw [← hn2, List.getElem?_map, List.getElem?_eq_getElem hrL] at hc1
      exact Option.some.inj hc1
    have ea : ((N ++ M2)[A]'haL).sh = aN := by
      rw [← hn2, List.getElem?_map, List.getElem?_eq_getElem haL] at hc3
      exact Option.some.inj hc3
    obtain ⟨b, off, cap, hNv, d0, d1, d2, d3, d4, d5⟩ := p2.node R hrL
    obtain ⟨b', off', cap', hNv', u0, u1, u2, u3, d4', u5⟩ := p2.node A haL
    obtain ⟨rfl, rfl, rfl⟩ : b = b' ∧ off = off' ∧ cap = cap' := by rw [hNv] at hNv'; simp at hNv'; exact ⟨hNv'.1.1, hNv'.1.2, hNv'.2⟩
    clear hNv' u0 u1 u2 u3 u5
    have kc := (p2.kid R hrL).1
    have ka := (p2.kid A haL).1
    generalize hxr : (N ++ M2)[R]'hrL = xr at d0 d1 d2 d3 d4 d5 er kc
    generalize hxa : (N ++ M2)[A]'haL = xa at d4' ea ka
    obtain ⟨xk, xt, xm, xn, xv, xl, xp⟩ := xr
    obtain ⟨yk, yt, ym, yn, yv, yl, yp⟩ := xa
    subst er
    subst ea
    simp only [Nd.sh] at hc2
    simp only at d0 d1 d2 d3 d4 d5 d4' kc ka
    rw [hc2] at kc
    obtain ⟨bc, oc, cc, hxv, e0⟩ := SlI.head kc
    subst hxv
    obtain ⟨ay, cy, hyv⟩ := SlI.form ka
    subst hyv
    obtain ⟨bv, ov, cv, hV, v0⟩ := SlI.head (OwnK.sl k2.own)
    subst hV
    have hb : b < w2.heap.size := World.block_lt_of_cell? w2 _ d0
    have hbc : bc < w2.heap.size := World.block_lt_of_cell? w2 _ e0
    have hbv : bv < w2.heap.size := World.block_lt_of_cell? w2 _ v0
    have g2 := p2.c2.1
    rw [hNv] at g2
    have hgl := p2.lt
    have hri : (R : Int) < ((N ++ M2).length : Int) := by omega
    have hai : (A : Int) < ((N ++ M2).length : Int) := by omega
    have H2 := Hid.mk7 (And.intro r2 k2)
    clear c2 hx r2 k2 p2 hn2 kc ka hxr hxa hc1 hc2 hc3
    generalize hLN : (N ++ M2).length = LN at hri hai g2 hNv
    clear hLN hNv hrL haL
    go_wp2_with fail
    go_region
    all_goals
      go_wp2_with fail
      go_region
    all_goals
      go_wp2_with fail
    have T0 := ((Turned.alloc (fun k => k = g) (w2.alloc (.cells #[.int .i64 26, .string xt, .string ⟨#[]⟩, .int .i64 (yl.length : Int), .slice (some ⟨bv, ov, none⟩) (ks'.length + 1) cv, .int .i64 ta] 47)) (.cells #[.int .i64 xk, .string xt, .string xm, .int .i64 xn, .slice (some ⟨bc, oc, none⟩) (more.length + 1) cc, .int .i64 xp] 47)).trans (Turned.drew (fun _ => False) _) (fun _ e => e.elim)).trans (Turned.drew (fun _ => False) _) (fun _ e => e.elim)
    have B5 := (((Below.alloc0 w2 (.cells #[.int .i64 26, .string xt, .string ⟨#[]⟩, .int .i64 (yl.length : Int), .slice (some ⟨bv, ov, none⟩) (ks'.length + 1) cv, .int .i64 ta] 47)).trans ((Below.alloc0 _ (.cells #[.int .i64 xk, .string xt, .string xm, .int .i64 xn, .slice (some ⟨bc, oc, none⟩) (more.length + 1) cc, .int .i64 xp] 47)).mono (by simp))).drew).drew
    have HB := Hid.mk7 (And.intro T0 B5)
    have r5 := H2.out.1.below B5
    clear T0 B5 d0 d1 d2 d3 d4 d5 d4' e0 v0 g2
    cases h6 : knd T 6 t.i with
    | false =>
      have hre : res = .error t.i := by rw [HW.out.1]; simp [PM.bind, pNeed, h6]
      subst hre
      have c6 := rg_kind_bad r5 h6
      clear h6 r5
      refine c6.mono ?_
      rintro x w6 ⟨rfl, T6⟩
      exact ⟨rfl, rfl, T6⟩
    | true =>
      have hre : res = .ok (t.N.length, ⟨t.i + 1, t.N ++ [⟨26, xt, ⟨#[]⟩, (yl.length : Int), (R : Int) :: ks', ta⟩]⟩) := by rw [HW.out.1]; simp [PM.bind, pNeed, h6, pAdd, Nd.sh]
      have HF := Hid.mk7 (HW.out.2.1 _ _ hre)
      subst hre
      have c6 := rg_kind r5 (by decide) h6
      unfold Tkn at c6
      generalize (tokAt T t.i).val = tv6 at c6
      clear h6 r5
      refine c6.mono ?_
      rintro x w6 ⟨rfl, r6, G6⟩
      obtain ⟨⟨n0, n1, n2, n3, n4, n5⟩, _⟩ := newNode _ _ _ _ _ _ (HB.out.1.trans G6 (fun _ e => .inl e)) (show ¬ w2.heap.size = g by omega)
      have c7 := rg_add r6 hT ⟨26, xt, ⟨#[]⟩, (yl.length : Int), .slice (some ⟨bv, ov, none⟩) (ks'.length + 1) cv, (R : Int) :: ks', ta⟩ ((H2.out.2.below HB.out.2).ofG G6) HF.out.1 HF.out.2
      simp only [Nd.val] at c7
      clear c6 r6 G6
      go_wp2_with fail
      refine c7.mono ?_
      rintro x w7 ⟨rfl, Nv7, r7, _⟩
      have H7 := Hid.mk7 r7
      clear c7 r7 n0 n1 n2 n3 n4 n5
      go_wp2
      go_ret
      exact H7.out.of
end Go.Proofs.YtlgkjjbefoeabaaGreatDoor
