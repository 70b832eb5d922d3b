/-
  Layer 11 (parse): atoms and calls.
-/
import Derived.Test.YtlgkjjbefoeabaaGreatDoorPGm
namespace Go.Proofs.YtlgkjjbefoeabaaGreatDoor
open Go.RowKit

theorem tokIn (w : World) (tk : Int) (tt : ByteArray) (tn ta : Int) : (w.alloc (.cells #[.int .i64 tk, .string tt, .int .i64 tn, .int .i64 ta] 40)).cell? ⟨w.heap.size, 1, none⟩ = some (.string tt) := by simp
set_option maxRecDepth 100000 in
set_option maxHeartbeats 6400000 in
theorem rd_named {T : List Tk} {rec : Ph → PM Nat} {s : Ps} (hlt : s.i < T.length) (E : Env T rec (s.i + 1)) (hfin : ∀ a t, named T rec (tokAt T s.i) s = .ok (a, t) → S2 T t t ∧ Cnt T t) {w : World} {g : Nat} {Tv Nv : Value} {N : List Nd} (h : PS w g Tv T Nv N s) :
    Calls Tryz.prog 184 #[.pointer (some ⟨g, 0, none⟩), (tokAt T s.i).val] w (Rd T w g Tv Nv N (named T rec (tokAt T s.i) s)) := by
  obtain ⟨res, hres⟩ : ∃ res, named T rec (tokAt T s.i) s = res := ⟨_, rfl⟩
  rw [hres]
  have HQ := Hid.mk7 hres
  have htl := h.at_.tl
  have hft := Tryz.tokText
  have hT : 0 < T.length := by omega
  have HP := Hid.mk7 (And.intro E (And.intro hfin h))
  have c1 := h.at_.c1.1
  have f1 := h.at_.c1.2
  have hgl := h.at_.lt
  have r1 := (Rg.refl h).skip 1 hlt
  rw [show ((s.i + 1 : Nat) : Int) = (s.i : Int) + 1 by omega] at r1
  clear hres hfin E h
  generalize tokAt T s.i = t at HQ HP ⊢
  obtain ⟨tk, tt, tn, ta⟩ := t
  simp only [Tk.val]
  have mk3 := MkI.of_kd (r1.below (Below.alloc0 _ (.cells #[.int .i64 tk, .string tt, .int .i64 tn, .int .i64 ta] 40))) (Kd.nil _ _ _ _ _ _ _) hT 2 tt ⟨#[]⟩ 0 ta
  simp only [World.size_alloc, World.size_setCell] at mk3
  have HK := Hid.mk7 mk3
  clear r1 mk3
  by_cases he : tt = ⟨#[]⟩
  · subst he
    have c5 := rg_isSign HK.out.rg ⟨#[40]⟩
    cases h2 : sgn T ⟨#[40]⟩ (s.i + 1) with
    | false =>
      have hre : named T rec ⟨tk, ⟨#[]⟩, tn, ta⟩ s = .ok (s.N.length, ⟨s.i + 1, s.N ++ [⟨2, ⟨#[]⟩, ⟨#[]⟩, 0, [], ta⟩]⟩) := by simp [named, PM.bind, pIf, pSkip, PM.ret, pAdd, h2]
      obtain ⟨q1, q2⟩ := HP.out.2.1 _ _ hre
      have hre2 : res = .ok (s.N.length, ⟨s.i + 1, s.N ++ [⟨2, ⟨#[]⟩, ⟨#[]⟩, 0, [], ta⟩]⟩) := HQ.out.symm.trans hre
      subst hre2
      have HF := Hid.mk7 (And.intro q1 q2)
      clear hre q1 q2
      rw [show sgn T ⟨#[40]⟩ (⟨s.i + 1, s.N⟩ : Ps).i = false from h2] at c5
      clear h2
      go_enter Tryz.func184, Tryz.ntmps184
      go_wp2_with fail
      refine c5.mono ?_
      rintro x w5 ⟨rfl, r5, hb5⟩
      have mk5 := HK.out.to r5 (Stp.ofB hb5)
      have HL := Hid.mk7 mk5
      obtain ⟨n0, n1, n2', n3, n4, n5, _, _, _, _, _⟩ := mk5.bx
      clear c5 r5 hb5 mk5 HK 
      have c9 := rg_add HL.out.rg hT ⟨2, ⟨#[]⟩, ⟨#[]⟩, 0, .slice none 0 0, [], ta⟩ HL.out.kd HF.out.1 HF.out.2
      simp only [Nd.val] at c9
      go_wp2_with fail
      refine c9.mono ?_
      rintro x w9 ⟨rfl, Nv9, r9, _⟩
      have H9 := Hid.mk7 r9
      clear c9 r9
      go_wp2
      go_ret
      exact H9.out.of
    | true =>
      rw [show sgn T ⟨#[40]⟩ (⟨s.i + 1, s.N⟩ : Ps).i = true from h2] at c5
      have HS := Hid.mk7 h2
      clear h2
      go_enter Tryz.func184, Tryz.ntmps184
      go_wp2_with fail
      refine c5.mono ?_
      rintro x w5 ⟨rfl, r5, hb5⟩
      have HL := Hid.mk7 (HK.out.to r5 (Stp.ofB hb5))
      clear c5 r5 hb5 HK 
      have c6 := rd_arguments (HP.out.1.fwd (.expr 1) (by simp [okPh])) HP.out.1.whole (s := ⟨s.i + 1, s.N⟩) (by show s.i + 1 ≤ _; simp) HL.out.rg.ps
      cases ha : arguments T rec ⟨s.i + 1, s.N⟩ with
      | error e =>
        have hre : res = .error e := by rw [← HQ.out]; simp [named, PM.bind, pIf, pSkip, PM.ret, HS.out, ha]
        subst hre
        rw [ha] at c6
        clear ha
        go_wp2_with fail
        refine c6.mono ?_
        rintro x w6 ⟨rfl, T6⟩
        exact ⟨rfl, rfl, HL.out.rg.bad T6⟩
      | ok kt =>
        obtain ⟨ks, t⟩ := kt
        have hre : named T rec ⟨tk, ⟨#[]⟩, tn, ta⟩ s = .ok (t.N.length, ⟨t.i, t.N ++ [⟨13, ⟨#[]⟩, ⟨#[]⟩, 0, ks, ta⟩]⟩) := by simp [named, PM.bind, pIf, pSkip, PM.ret, pAdd, HS.out, ha]
        obtain ⟨q1, q2⟩ := HP.out.2.1 _ _ hre
        have hre2 : res = .ok (t.N.length, ⟨t.i, t.N ++ [⟨13, ⟨#[]⟩, ⟨#[]⟩, 0, ks, ta⟩]⟩) := HQ.out.symm.trans hre
        subst hre2
        have HF := Hid.mk7 (And.intro q1 q2)
        clear hre q1 q2
        rw [ha] at c6
        clear ha
        go_wp2_with fail
        refine c6.mono ?_
        intro x w6 hx
        obtain ⟨V6, rfl, ⟨a6, p6, hV6⟩, ⟨Nv6, M6, mk6, kd6⟩, nq⟩ := HL.out.stepL (Below.refl _ _) hx
        subst hV6
        have HM := Hid.mk7 ((mk6.kind 13).kids (kd6.setQ nq 0 _) nq)
        obtain ⟨n0, n1, n2, n3, n4, n5, fz, _, _, _, _⟩ := mk6.bx
        have f0 := fz 0
        have f4 := fz 4
        have lq := mk6.bx.lt
        clear c6 hx mk6 kd6 nq HL fz
        have c9 := rg_add HM.out.rg hT ⟨13, ⟨#[]⟩, ⟨#[]⟩, 0, .slice a6 ks.length p6, ks, ta⟩ HM.out.kd HF.out.1 HF.out.2
        simp only [Nd.val] at c9
        go_wp2_with fail
        refine c9.mono ?_
        rintro x w9 ⟨rfl, Nv9, r9, _⟩
        have H9 := Hid.mk7 r9
        clear c9 r9
        go_wp2
        go_ret
        exact H9.out.of
  · have hb0 : (tt.toList == []) = false := list_ne he
    have HE := Hid.mk7 he
    have cS := rg_isSign HK.out.rg ⟨#[58]⟩
    clear he
    cases h1 : sgn T ⟨#[58]⟩ (s.i + 1) with
    | false =>
      rw [show sgn T ⟨#[58]⟩ (⟨s.i + 1, s.N⟩ : Ps).i = false from h1] at cS
      have H1 := Hid.mk7 h1
      clear h1
      go_enter Tryz.func184, Tryz.ntmps184
      go_wp2_with fail
      refine cS.mono ?_
      rintro x w4 ⟨rfl, r4, hb4⟩
      have mk4 := HK.out.to r4 (Stp.ofB hb4)
      have n2 := mk4.bx.n2
      have H4 := Hid.mk7 mk4
      clear cS r4 hb4 mk4 HK
      have HK := H4
      clear H4
      have c5 := rg_isSign HK.out.rg ⟨#[40]⟩
      cases h2 : sgn T ⟨#[40]⟩ (s.i + 1) with
      | false =>
        have hre : named T rec ⟨tk, tt, tn, ta⟩ s = .ok (s.N.length, ⟨s.i + 1, s.N ++ [⟨2, tt, ⟨#[]⟩, 0, [], ta⟩]⟩) := by simp [named, PM.bind, pIf, pSkip, PM.ret, pAdd, HE.out, H1.out, h2]
        obtain ⟨q1, q2⟩ := HP.out.2.1 _ _ hre
        have hre2 : res = .ok (s.N.length, ⟨s.i + 1, s.N ++ [⟨2, tt, ⟨#[]⟩, 0, [], ta⟩]⟩) := HQ.out.symm.trans hre
        subst hre2
        have HF := Hid.mk7 (And.intro q1 q2)
        clear hre q1 q2
        rw [show sgn T ⟨#[40]⟩ (⟨s.i + 1, s.N⟩ : Ps).i = false from h2] at c5
        clear h2
        go_wp2_with fail
        refine c5.mono ?_
        rintro x w5 ⟨rfl, r5, hb5⟩
        have mk5 := HK.out.to r5 (Stp.ofB hb5)
        have HL := Hid.mk7 mk5
        obtain ⟨n0, n1, n2', n3, n4, n5, _, _, _, _, _⟩ := mk5.bx
        clear c5 r5 hb5 mk5 HK n2
        have c9 := rg_add HL.out.rg hT ⟨2, tt, ⟨#[]⟩, 0, .slice none 0 0, [], ta⟩ HL.out.kd HF.out.1 HF.out.2
        simp only [Nd.val] at c9
        go_wp2_with fail
        refine c9.mono ?_
        rintro x w9 ⟨rfl, Nv9, r9, _⟩
        have H9 := Hid.mk7 r9
        clear c9 r9
        go_wp2
        go_ret
        exact H9.out.of
      | true =>
        rw [show sgn T ⟨#[40]⟩ (⟨s.i + 1, s.N⟩ : Ps).i = true from h2] at c5
        have HS := Hid.mk7 h2
        clear h2
        go_wp2_with fail
        refine c5.mono ?_
        rintro x w5 ⟨rfl, r5, hb5⟩
        have HL := Hid.mk7 (HK.out.to r5 (Stp.ofB hb5))
        clear c5 r5 hb5 HK n2
        have c6 := rd_arguments (HP.out.1.fwd (.expr 1) (by simp [okPh])) HP.out.1.whole (s := ⟨s.i + 1, s.N⟩) (by show s.i + 1 ≤ _; simp) HL.out.rg.ps
        cases ha : arguments T rec ⟨s.i + 1, s.N⟩ with
        | error e =>
          have hre : res = .error e := by rw [← HQ.out]; simp [named, PM.bind, pIf, pSkip, PM.ret, HE.out, H1.out, HS.out, ha]
          subst hre
          rw [ha] at c6
          clear ha
          go_wp2_with fail
          refine c6.mono ?_
          rintro x w6 ⟨rfl, T6⟩
          exact ⟨rfl, rfl, HL.out.rg.bad T6⟩
        | ok kt =>
          obtain ⟨ks, t⟩ := kt
          have hre : named T rec ⟨tk, tt, tn, ta⟩ s = .ok (t.N.length, ⟨t.i, t.N ++ [⟨13, tt, ⟨#[]⟩, 0, ks, ta⟩]⟩) := by simp [named, PM.bind, pIf, pSkip, PM.ret, pAdd, HE.out, H1.out, HS.out, ha]
          obtain ⟨q1, q2⟩ := HP.out.2.1 _ _ hre
          have hre2 : res = .ok (t.N.length, ⟨t.i, t.N ++ [⟨13, tt, ⟨#[]⟩, 0, ks, ta⟩]⟩) := HQ.out.symm.trans hre
          subst hre2
          have HF := Hid.mk7 (And.intro q1 q2)
          clear hre q1 q2
          rw [ha] at c6
          clear ha
          go_wp2_with fail
          refine c6.mono ?_
          intro x w6 hx
          obtain ⟨V6, rfl, ⟨a6, p6, hV6⟩, ⟨Nv6, M6, mk6, kd6⟩, nq⟩ := HL.out.stepL (Below.refl _ _) hx
          subst hV6
          have HM := Hid.mk7 ((mk6.kind 13).kids (kd6.setQ nq 0 _) nq)
          obtain ⟨n0, n1, n2, n3, n4, n5, fz, _, _, _, _⟩ := mk6.bx
          have f0 := fz 0
          have f4 := fz 4
          have lq := mk6.bx.lt
          clear c6 hx mk6 kd6 nq HL fz
          have c9 := rg_add HM.out.rg hT ⟨13, tt, ⟨#[]⟩, 0, .slice a6 ks.length p6, ks, ta⟩ HM.out.kd HF.out.1 HF.out.2
          simp only [Nd.val] at c9
          go_wp2_with fail
          refine c9.mono ?_
          rintro x w9 ⟨rfl, Nv9, r9, _⟩
          have H9 := Hid.mk7 r9
          clear c9 r9
          go_wp2
          go_ret
          exact H9.out.of
    | true =>
      rw [show sgn T ⟨#[58]⟩ (⟨s.i + 1, s.N⟩ : Ps).i = true from h1] at cS
      have hlt2 : s.i + 1 + 1 ≤ T.length := sgn_lt h1
      have H1 := Hid.mk7 h1
      clear h1
      go_enter Tryz.func184, Tryz.ntmps184
      go_wp2_with fail
      refine cS.mono ?_
      rintro x w4 ⟨rfl, r4, hb4⟩
      have mk4 := HK.out.to r4 (Stp.ofB hb4)
      have k1 := r4.ps.at_.c1.1
      have g1 := r4.ps.at_.c1.2
      have r5 := r4.skip 1 hlt2
      have mk5 := mk4.to r5 (Stp.ofG (Turned.set1 w4 g 1 _))
      rw [show (((⟨s.i + 1, s.N⟩ : Ps).i + 1 : Nat) : Int) = (s.i : Int) + 1 + 1 by simp] at r5 mk5
      have hne : w.heap.size ≠ g := by omega
      have t1 : w4.cell? ⟨w.heap.size, 1, none⟩ = some (.string tt) := (hb4.cell (p := ⟨w.heap.size, 1, none⟩) (by simp; omega)).trans ((Below.alloc0 _ _).cell (p := ⟨w.heap.size, 1, none⟩) (by simp) |>.trans (by have e := tokIn (w.setCell ⟨g, 1, none⟩ (.int .i64 ((s.i : Int) + 1))) tk tt tn ta; rwa [World.size_setCell] at e))
      have u1 : (w4.setCell ⟨g, 1, none⟩ (.int .i64 ((s.i : Int) + 1 + 1))).cell? ⟨w.heap.size, 1, none⟩ = some (.string tt) := (Turned.set1 w4 g 1 _).cell t1 hne
      have HR := Hid.mk7 r5
      have H5 := Hid.mk7 mk5
      clear cS r4 hb4 mk4 r5 mk5 HK t1
      cases h2 : knd T 1 (s.i + 1 + 1) with
      | false =>
        have hre : res = .error (s.i + 1 + 1) := by rw [← HQ.out]; simp [named, PM.bind, pIf, pSkip, pNeed, HE.out, H1.out, h2]
        subst hre
        have c6 := rg_kind_bad (HR.out.below (Below.refl _ _).drew) h2
        clear h2
        go_wp2_with fail
        generalize w4.setCell _ _ = w5 at c6 u1 ⊢
        go_region_with (go_at_call 96; refine c6.mono ?_; rintro x w6 ⟨rfl, T6⟩; refine idle_of w6 ⟨rfl, rfl, T6⟩ ?_)
        all_goals trivial
      | true =>
        have c6 := rg_kind (HR.out.below (Below.refl _ _).drew) (by decide) h2
        unfold Tkn at c6
        have H2 := Hid.mk7 h2
        obtain ⟨ut, hut⟩ : ∃ ut, tokAt T (s.i + 1 + 1) = ut := ⟨_, rfl⟩
        rw [show tokAt T (⟨s.i + 1 + 1, s.N⟩ : Ps).i = ut from hut] at c6
        have HU := Hid.mk7 hut
        clear h2 hut
        obtain ⟨uk, ut, un, ua⟩ := ut
        simp only [Tk.val] at c6
        go_wp2_with fail
        generalize w4.setCell _ _ = w5 at c6 u1 HR H5 ⊢
        go_region_with (go_at_call 96; refine c6.mono ?_; rintro x w6 ⟨rfl, r6, G6⟩; have mk6 := H5.out.to r6 (Stp.ofG (((Turned.drew _ _).trans G6 (fun _ e => .inl e)))); have v1 := G6.cell (p := ⟨w.heap.size, 1, none⟩) (v := .string tt) u1 hne; have m2 := mk6.bx.n2; have z2 := mk6.bx.fz 2; have m1 := mk6.bx.n1; have z1 := mk6.bx.fz 1; have lq := mk6.bx.lt; have HM := Hid.mk7 ((mk6.mod tt).text ut); clear r6 G6 mk6)
        all_goals
          generalize hW : (w6.setCell _ _).setCell _ _ = w7 at HM ⊢
          clear hW v1 m2 z2 m1 z1 lq u1
          have n2 := HM.out.bx.n2
          have HL := HM
          have c6 := rd_arguments (HP.out.1.fwd (.expr 1) (by simp [okPh])) HP.out.1.whole (s := ⟨s.i + 1 + 1 + 1, s.N⟩) (by show s.i + 1 ≤ _; simp) HL.out.rg.ps
          cases ha : arguments T rec ⟨s.i + 1 + 1 + 1, s.N⟩ with
          | error e =>
            have hre : res = .error e := by rw [← HQ.out]; simp [named, PM.bind, pIf, pSkip, pNeed, PM.ret, HE.out, H1.out, H2.out, HU.out, ha]
            subst hre
            rw [ha] at c6
            clear ha
            go_wp2_with fail
            refine c6.mono ?_
            rintro x w6 ⟨rfl, T6⟩
            exact ⟨rfl, rfl, HL.out.rg.bad T6⟩
          | ok kt =>
            obtain ⟨ks, t⟩ := kt
            have hre : named T rec ⟨tk, tt, tn, ta⟩ s = .ok (t.N.length, ⟨t.i, t.N ++ [⟨13, ut, tt, 0, ks, ta⟩]⟩) := by simp [named, PM.bind, pIf, pSkip, pNeed, PM.ret, pAdd, HE.out, H1.out, H2.out, HU.out, ha]
            obtain ⟨q1, q2⟩ := HP.out.2.1 _ _ hre
            have hre2 : res = .ok (t.N.length, ⟨t.i, t.N ++ [⟨13, ut, tt, 0, ks, ta⟩]⟩) := HQ.out.symm.trans hre
            subst hre2
            have HF := Hid.mk7 (And.intro q1 q2)
            clear hre q1 q2
            rw [ha] at c6
            clear ha
            go_wp2_with fail
            refine c6.mono ?_
            intro x w6 hx
            obtain ⟨V6, rfl, ⟨a6, p6, hV6⟩, ⟨Nv6, M6, mk6, kd6⟩, nq⟩ := HL.out.stepL (Below.refl _ _) hx
            subst hV6
            have HM := Hid.mk7 ((mk6.kind 13).kids (kd6.setQ nq 0 _) nq)
            obtain ⟨n0, n1, n2, n3, n4, n5, fz, _, _, _, _⟩ := mk6.bx
            have f0 := fz 0
            have f4 := fz 4
            have lq := mk6.bx.lt
            clear c6 hx mk6 kd6 nq HL fz
            have c9 := rg_add HM.out.rg hT ⟨13, ut, tt, 0, .slice a6 ks.length p6, ks, ta⟩ HM.out.kd HF.out.1 HF.out.2
            simp only [Nd.val] at c9
            go_wp2_with fail
            refine c9.mono ?_
            rintro x w9 ⟨rfl, Nv9, r9, _⟩
            have H9 := Hid.mk7 r9
            clear c9 r9
            go_wp2
            go_ret
            exact H9.out.of
end Go.Proofs.YtlgkjjbefoeabaaGreatDoor
