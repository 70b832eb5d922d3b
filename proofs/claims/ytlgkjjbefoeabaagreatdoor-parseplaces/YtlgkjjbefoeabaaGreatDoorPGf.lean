/-
  Layer 11 (parse): lists.
-/
import Derived.Test.YtlgkjjbefoeabaaGreatDoorPGe
namespace Go.Proofs.YtlgkjjbefoeabaaGreatDoor
open Go.RowKit

section
variable {T : List Tk} {w wr w2 : World} {g : Nat} {Tv Nv Nv1 : Value} {N M1 : List Nd} {s t : Ps} {q : Nat} {nk : Int} {nt nm : ByteArray} {nn : Int} {V : Value} {l l2 : List Int} {na : Int}
/-- Kids that were read become those of a node in the making. -/
theorem MkI.rdL (h : MkI T w wr g Tv Nv N s Nv1 M1 q nk nt nm nn V l na) {x : Ending} (hr : RdL T wr g Tv Nv1 (N ++ M1) (.ok (l2, t)) x w2) : ∃ V2, x = .returned V2 ∧ (∃ a c, V2 = .slice a l2.length c) ∧ (∃ Nv2 M2, MkI T w (w2.setCell ⟨q, 4, none⟩ V2) g Tv Nv N t Nv2 M2 q nk nt nm nn V2 l2 na) ∧ w2.cell? ⟨q, 4, none⟩ = some V ∧ w2.frozen? ⟨q, 4, none⟩ = false ∧ q < w2.heap.size := by
  obtain ⟨V2, rfl, Nv2, M3, o, p, S, ow, fv⟩ := hr
  have r2 := h.rg.more o p S
  have m2 := h.bx.step S o
  rw [List.append_assoc] at m2
  obtain ⟨a2, c2, hV2, _⟩ := OwnK.sl ow |>.form
  have hq := h.bx.lt
  have hqv : ¬ blk V2 q := fun e => by have := (fv q e).1; omega
  have T1 := Turned.set1 w2 q 4 V2
  have oc : ∀ (j : Nat) (v : Value), 4 ≠ j → w2.cell? ⟨q, j, none⟩ = some v → (w2.setCell ⟨q, 4, none⟩ V2).cell? ⟨q, j, none⟩ = some v := fun j v hj e => by
    rw [World.cell?_setCell_other _ _ _ _ (by simp; try omega)]; exact e
  have p2 := r2.ps.at_.offS (S := fun k => k = q) (w0 := w2) (fun k e => e ▸ m2.fq) T1
  have fv2 : ∀ k, blk V2 k → Free w2 g Tv Nv2 (N ++ (M1 ++ M3)) k := fun k hk => by have := (fv k hk).2; rwa [List.append_assoc] at this
  refine ⟨V2, rfl, ⟨a2, c2, hV2⟩, ⟨Nv2, M1 ++ M3, ⟨r2.mine (k := fun k => k = q) (fun k e => e ▸ h.qw) p2 T1, ⟨oc 0 _ (by decide) m2.n0, oc 1 _ (by decide) m2.n1, oc 2 _ (by decide) m2.n2, oc 3 _ (by decide) m2.n3, World.cell?_setCell_same _ _ _ m2.n4, oc 5 _ (by decide) m2.n5, fun j => by rw [World.frozen?_setCell]; exact m2.fz j, OwnK.turned ow T1 (fun k hk e => hqv (e ▸ hk)), hqv, ⟨m2.fq.g, m2.fq.t, m2.fq.n, m2.fq.k⟩, fun k hk => ⟨(fv2 k hk).g, (fv2 k hk).t, (fv2 k hk).n, (fv2 k hk).k⟩⟩, fun k hk => Nat.le_trans h.rg.size (fv k hk).1, h.qw⟩⟩, m2.n4, m2.fz 4, m2.lt⟩
end
theorem Env.tail {T : List Tk} {rec : Ph → PM Nat} {i0 : Nat} (E : Env T rec i0) {t : Ps} (ht : S2 T t t) (hc : Cnt T t) : ∀ a u, tail T rec t = .ok (a, u) → S2 T u u ∧ Cnt T u := fun _ _ e => ⟨((tail_ok2 (Alike.refl T) E.ok2 ht).fin (by omega) hc e).1, ((tail_ok2 (Alike.refl T) E.ok2 ht).fin (by omega) hc e).2.1⟩
set_option maxRecDepth 100000 in
set_option maxHeartbeats 6400000 in
theorem rd_list {T : List Tk} {rec : Ph → PM Nat} {s : Ps} (E : Env T rec (s.i + 1)) (hfin : ∀ a t, list T rec s = .ok (a, t) → S2 T t t ∧ Cnt T t) {w : World} {g : Nat} {Tv Nv : Value} {N : List Nd} (h : PS w g Tv T Nv N s) :
    Calls Tryz.prog 189 #[.pointer (some ⟨g, 0, none⟩)] w (Rd T w g Tv Nv N (list T rec s)) := by
  obtain ⟨res, hres⟩ : ∃ res, list T rec s = res := ⟨_, rfl⟩
  rw [hres]
  have HQ := Hid.mk7 hres
  have htl := h.at_.tl
  have r0 := Rg.refl h
  have hfa := Tryz.tokPlace
  have hmf := Tryz.makeFn
  have HP := Hid.mk7 (And.intro E (And.intro hfin h))
  clear hres hfin E h
  cases h1 : sgn T ⟨#[91]⟩ s.i with
  | false =>
    have hre : res = .error s.i := by rw [← HQ.out]; simp [list, PM.bind, pNeed, h1]
    subst hre
    have c1 := rg_sign_bad r0 h1
    clear r0 h1
    go_enter Tryz.func189, Tryz.ntmps189
    go_wp2_with fail
    refine c1.mono ?_
    rintro x w1 ⟨rfl, T1⟩
    exact ⟨rfl, rfl, T1⟩
  | true =>
    have hT : 0 < T.length := by have := sgn_lt h1; omega
    have c1 := rg_sign r0 h1
    unfold Tkn at c1
    have H1 := Hid.mk7 h1
    obtain ⟨tk, htk⟩ : ∃ tk, tokAt T s.i = tk := ⟨_, rfl⟩
    rw [htk] at c1
    have HT := Hid.mk7 htk
    clear r0 h1 htk
    obtain ⟨tk, tt, tn, ta⟩ := tk
    simp only [Tk.val] at c1
    go_enter Tryz.func189, Tryz.ntmps189
    go_wp2_with fail
    refine c1.mono ?_
    rintro x w1 ⟨rfl, r1, _⟩
    have mk2 := MkI.of_kd r1 (Kd.nil _ _ _ _ _ _ _) hT 6 ⟨#[]⟩ ⟨#[]⟩ 0 ta
    have c2 := rg_isSign mk2.rg ⟨#[93]⟩
    have H2 := Hid.mk7 mk2
    clear c1 r1 mk2
    cases h2 : sgn T ⟨#[93]⟩ (s.i + 1) with
    | true =>
      have hre : list T rec s = .ok (s.N.length, ⟨s.i + 1 + 1, s.N ++ [⟨5, ⟨#[]⟩, ⟨#[]⟩, 0, [], ta⟩]⟩) := by simp [list, PM.bind, pIf, pNeed, H1.out, h2, pSkip, pAdd, HT.out]
      obtain ⟨q1, q2⟩ := HP.out.2.1 _ _ hre
      have hre2 : res = .ok (s.N.length, ⟨s.i + 1 + 1, s.N ++ [⟨5, ⟨#[]⟩, ⟨#[]⟩, 0, [], ta⟩]⟩) := HQ.out.symm.trans hre
      subst hre2
      have HF := Hid.mk7 (And.intro q1 q2)
      rw [show sgn T ⟨#[93]⟩ (⟨s.i + 1, s.N⟩ : Ps).i = true from h2] at c2
      have hlt : s.i + 1 + 1 ≤ T.length := sgn_lt h2
      clear hre q1 q2 h2
      go_wp2_with fail
      refine c2.mono ?_
      rintro x w3 ⟨rfl, r3, hb3⟩
      have mk3 := H2.out.to r3 (Stp.ofB hb3)
      have k1 := r3.ps.at_.c1.1
      have f1 := r3.ps.at_.c1.2
      have r4 := r3.skip 1 hlt
      have mk4 := mk3.to r4 (Stp.ofG (Turned.set1 w3 g 1 _))
      rw [show (((⟨s.i + 1, s.N⟩ : Ps).i + 1 : Nat) : Int) = (s.i : Int) + 1 + 1 by simp] at r4 mk4
      have n5 := mk4.bx.n5
      have c5 := rg_add r4 hT ⟨5, ⟨#[]⟩, ⟨#[]⟩, 0, .slice none 0 0, [], ta⟩ (Kd.nil _ _ _ _ _ _ _) HF.out.1 HF.out.2
      simp only [Nd.val] at c5
      clear c2 r3 hb3 mk3 r4 mk4 H2
      go_wp2_with fail
      refine c5.mono ?_
      rintro x w5 ⟨rfl, Nv5, r5, _⟩
      have H5 := Hid.mk7 r5
      clear c5 r5 n5
      go_wp2
      go_ret
      exact H5.out.of
    | false =>
      rw [show sgn T ⟨#[93]⟩ (⟨s.i + 1, s.N⟩ : Ps).i = false from h2] at c2
      have HS := Hid.mk7 h2
      clear h2
      go_wp2_with fail
      refine c2.mono ?_
      rintro x w3 ⟨rfl, r3, hb3⟩
      have mk3 := H2.out.to r3 (Stp.ofB hb3)
      have c4 := rd_row_whole (HP.out.1.fwd (.expr 1) (by simp [okPh])) HP.out.1.whole ⟨#[44]⟩ (s := ⟨s.i + 1, s.N⟩) (Nat.le_refl _) r3.ps
      have hps := r3.ps
      have HR3 := Hid.mk7 r3
      have H3 := Hid.mk7 mk3
      clear c2 r3 hb3 mk3 H2
      cases hrow : row T ⟨#[44]⟩ (rec (.expr 1)) ⟨s.i + 1, s.N⟩ with
      | error e =>
        have hre : res = .error e := by rw [← HQ.out]; simp [list, whole, PM.bind, pIf, pNeed, H1.out, HS.out, hrow]
        subst hre
        rw [hrow] at c4
        clear hrow hps
        go_wp2_with fail
        refine c4.mono ?_
        rintro x w4 ⟨rfl, T4⟩
        exact ⟨rfl, rfl, HR3.out.bad T4⟩
      | ok kt =>
        obtain ⟨ks, t⟩ := kt
        have hlen := row_len (HP.out.1.fwd (.expr 1) (by simp [okPh])) hps.ok hrow
        obtain ⟨_, _, hit⟩ := (row_ok2 (Alike.refl T) (x := ⟨#[44]⟩) (d := 3) (by omega) (fun s s' hs => HP.out.1.ok2 (.expr 1) (by simp [okPh]) s s' hs) hps.ok).fin (by omega) hps.cnt hrow
        have HW := Hid.mk7 (And.intro hrow (And.intro hlen hit))
        rw [hrow] at c4
        clear hrow hps hlen hit
        go_wp2_with fail
        refine c4.mono ?_
        intro x w4 hx
        obtain ⟨V4, rfl, ⟨a4, q4, hV4⟩, ⟨Nv4, M4, mk4⟩, k4, f4, l4⟩ := H3.out.rdL hx
        subst hV4
        have hps4 := mk4.rg.ps
        have hE4 := fun W (hW : Below (w4.setCell ⟨w1.heap.size, 4, none⟩ (.slice a4 ks.length q4)).heap.size (w4.setCell ⟨w1.heap.size, 4, none⟩ (.slice a4 ks.length q4)) W) => rd_tail (HP.out.1.whole.up (by have h9 : s.i + 1 ≤ t.i := HW.out.2.2; omega)) hT (HP.out.1.tail hps4.ok hps4.cnt) (hps4.below hW)
        have n4 := mk4.bx.n4
        have H4 := Hid.mk7 mk4
        have hlT : ks.length ≤ 65536 := by have := HW.out.2.1; have := hps4.ok.il; omega
        have hal : (ks.length + 1) * 8 ≤ 140737488355328 := by omega
        have hal2 : ks.length + 1 ≤ 4611686018427387903 := by omega
        have HAL := Hid.mk7 (And.intro hal hal2)
        clear c4 hx mk4 hps4 H3 hal hal2
        cases htl2 : tail T rec t with
        | error e =>
          have hre : res = .error e := by rw [← HQ.out]; simp [list, whole, PM.bind, pIf, pNeed, H1.out, HS.out, HW.out.1, htl2]
          subst hre
          simp only [htl2] at hE4
          clear htl2
          go_wp2_with fail
          generalize w4.setCell _ _ = w5 at H4 hE4 n4 ⊢
          go_region_law (rw [if_pos (by rfl)]; go_simp; go_at_call 199; refine (hE4 _ (Below.refl _ _).drew).mono ?_; rintro x w6 ⟨rfl, T6⟩; refine idle_of w6 ⟨rfl, rfl, (H4.out.rg.below (Below.refl _ _).drew).bad T6⟩ ?_)
          all_goals trivial
        | ok bt =>
          obtain ⟨bk, t2⟩ := bt
          have hre : list T rec s = .ok (t2.N.length, ⟨t2.i, t2.N ++ [⟨6, ⟨#[]⟩, ⟨#[]⟩, 0, ks ++ [(bk : Int)], ta⟩]⟩) := by simp [list, whole, PM.bind, pIf, pNeed, H1.out, HS.out, HW.out.1, htl2, pAdd, HT.out]
          obtain ⟨q1, q2⟩ := HP.out.2.1 _ _ hre
          have hre2 : res = .ok (t2.N.length, ⟨t2.i, t2.N ++ [⟨6, ⟨#[]⟩, ⟨#[]⟩, 0, ks ++ [(bk : Int)], ta⟩]⟩) := HQ.out.symm.trans hre
          subst hre2
          have HF := Hid.mk7 (And.intro q1 q2)
          simp only [htl2] at hE4
          clear htl2 hre q1 q2
          go_wp2_with fail
          generalize w4.setCell _ _ = w5 at H4 hE4 n4 ⊢
          go_region_law (first
            | (rw [if_pos (by rfl)]; go_simp; go_at_call 199; refine (hE4 _ (Below.refl _ _).drew).mono ?_; intro x w6 hx; obtain ⟨rfl, Nv6, M6, m6⟩ := H4.out.rd (Below.refl _ _).drew hx; have k6 := m6.bx.n4; have q6 := m6.bx.lt; have H6 := Hid.mk7 m6; clear hx m6; dsimp only)
            | (refine step_append_k (by rfl) (.tmp 28) (.tmp 31) (by rfl) Tryz.intTypes (by rfl) (by rfl) (OwnK.turned H6.out.bx.own (Turned.alloc (fun _ => False) _ _) (fun _ _ e => e)) (SlI.one w6 _ _) (ints_one _) HAL.out.1 HAL.out.2 ?_; intro V7 w7 ho7 T7 hv7; obtain ⟨aV7, cV7, hV7, _, _⟩ := ho7.sl.form; subst hV7; obtain ⟨c7, f7, l7⟩ := H6.out.cell (Below.alloc0 w6 _) T7))
          all_goals
            have mk8 := H6.out.more hT (Below.alloc0 w6 _) ho7 T7 hv7
            have c8 := rg_add mk8.rg hT ⟨6, ⟨#[]⟩, ⟨#[]⟩, 0, _, ks ++ [(bk : Int)], ta⟩ mk8.kd HF.out.1 HF.out.2
            simp only [Nd.val] at c8
            obtain ⟨n0, n1, n2, n3, n4', n5, _, _, _, _, _⟩ := mk8.bx
            clear mk8 ho7 T7 hv7 c7 f7
            generalize w7.setCell _ _ = w8 at c8 n0 n1 n2 n3 n4' n5 ⊢
            go_wp2_with fail
            refine c8.mono ?_
            rintro x w9 ⟨rfl, Nv9, r9, _⟩
            have H9 := Hid.mk7 r9
            clear r9 c8 n0 n1 n2 n3 n4' n5
            go_wp2
            go_ret
            exact H9.out.of
end Go.Proofs.YtlgkjjbefoeabaaGreatDoor
