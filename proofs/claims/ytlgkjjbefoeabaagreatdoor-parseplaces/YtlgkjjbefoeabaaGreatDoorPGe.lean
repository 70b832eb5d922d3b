/-
  Layer 11 (parse): what a receive holds.
-/
import Derived.Test.YtlgkjjbefoeabaaGreatDoorPGd
namespace Go.Proofs.YtlgkjjbefoeabaaGreatDoor
open Go.RowKit

theorem Env.up {T : List Tk} {rec : Ph → PM Nat} {i j : Nat} (E : Env T rec i) (h : i ≤ j) : Env T rec j := ⟨E.ok2, fun ph hp => (E.run ph hp).up h⟩
theorem Env.after {T : List Tk} {rec : Ph → PM Nat} {i0 : Nat} (E : Env T rec i0) {t : Ps} (ht : S2 T t t) (hc : Cnt T t) : ∀ a u, after T rec t = .ok (a, u) → S2 T u u ∧ Cnt T u ∧ t.i ≤ u.i := fun _ _ e => (after_ok2 (Alike.refl T) E.ok2 ht).fin (by omega) hc e
theorem rowL_len {T : List Tk} {x : ByteArray} {m : PM Nat} (hm : Fwd T m) : ∀ (f : Nat) (acc : List Int) (s : Ps), S2 T s s → acc.length ≤ s.i → ∀ l t, rowL T x m f acc s = .ok (l, t) → l.length ≤ t.i
  | 0, acc, s, _, ha, l, t, e => by
    simp [rowL, PM.ret] at e
    obtain ⟨rfl, rfl⟩ := e
    exact ha
  | f + 1, acc, s, hs, ha, l, t, e => by
    cases hb : sgn T x s.i with
    | false =>
      rw [rowL_stop (by omega) hb] at e
      simp at e
      obtain ⟨rfl, rfl⟩ := e
      exact ha
    | true =>
      have hs1 : S2 T ⟨s.i + 1, s.N⟩ ⟨s.i + 1, s.N⟩ := hs.next (sgn_lt hb)
      rcases hm _ hs1 with ⟨e1, h1, _⟩ | ⟨a1, a2, t1, t2, h1, h2, h3, h4, h5, M, h6, h7⟩
      · rw [rowL_bad (by omega) hb h1] at e
        cases e
      · rw [rowL_next (by omega) hb h1] at e
        have e2 : t2 = t1 := by rw [h1] at h2; simp at h2; exact h2.2.symm
        subst e2
        have h5' : s.i + 1 ≤ t2.i := h5
        exact rowL_len hm f _ t2 h3 (by simp; omega) l t e
theorem row_len {T : List Tk} {x : ByteArray} {m : PM Nat} (hm : Fwd T m) {s t : Ps} {l : List Int} (hs : S2 T s s) (e : row T x m s = .ok (l, t)) : l.length ≤ t.i := by
  rcases hm s hs with ⟨e1, h1, _⟩ | ⟨a1, a2, t1, t2, h1, h2, h3, h4, h5, M, h6, h7⟩
  · simp [row, PM.bind, h1] at e
  · have e2 : t2 = t1 := by rw [h1] at h2; simp at h2; exact h2.2.symm
    subst e2
    simp only [row, PM.bind, h1] at e
    exact rowL_len hm _ _ t2 h3 (by simp; omega) l t e
set_option maxRecDepth 100000 in
set_option maxHeartbeats 6400000 in
theorem rd_choices {T : List Tk} {rec : Ph → PM Nat} {s : Ps} (E : Env T rec s.i) {w : World} {g : Nat} {Tv Nv : Value} {N : List Nd} (h : PS w g Tv T Nv N s) :
    Calls Tryz.prog 192 #[.pointer (some ⟨g, 0, none⟩)] w (RdL T w g Tv Nv N (choices T rec s)) := by
  obtain ⟨res, hres⟩ : ∃ res, choices T rec s = res := ⟨_, rfl⟩
  rw [hres]
  have HQ := Hid.mk7 hres
  have htl := h.at_.tl
  have r0 := Rg.refl h
  have hmf := Tryz.makeFn
  have c1 := rg_isWord r0 ⟨#[97, 102, 116, 101, 114]⟩
  have HP := Hid.mk7 (And.intro E h)
  clear hres E h r0
  cases h1 : wrd T ⟨#[97, 102, 116, 101, 114]⟩ s.i with
  | true =>
    rw [h1] at c1
    have HA2 := Hid.mk7 h1
    clear h1
    go_enter Tryz.func192, Tryz.ntmps192
    go_wp2_with fail
    refine c1.mono ?_
    rintro x w1 ⟨rfl, r1, _⟩
    have c2 := rg_isWord r1 ⟨#[97, 102, 116, 101, 114]⟩
    rw [HA2.out] at c2
    clear c1 r1
    go_wp2_with fail
    refine c2.mono ?_
    rintro x w2 ⟨rfl, r2, _⟩
    have HR := Hid.mk7 r2
    have HK := Hid.mk7 (Kd.nil T w w2 g Tv Nv (N ++ []))
    have HL : Hid (([] : List Int).length ≤ 1000000) := Hid.mk7 (Nat.zero_le _)
    clear c2 r2
    have cA := rd_after (HP.out.1.up (by have := (Nat.le_refl s.i); omega)) (fun a u e => ⟨(HP.out.1.after HR.out.ps.ok HR.out.ps.cnt a u e).1, (HP.out.1.after HR.out.ps.ok HR.out.ps.cnt a u e).2.1⟩) HR.out.ps
    cases hA : after T rec s with
    | error e =>
      have hre : res = .error e := by rw [← HQ.out]; simp [choices, PM.bind, pIf, PM.ret, HA2.out, hA]
      subst hre
      rw [hA] at cA
      clear hA
      go_wp2_with fail
      refine cA.mono ?_
      rintro x w5 ⟨rfl, T5⟩
      exact ⟨rfl, rfl, HR.out.bad T5⟩
    | ok au =>
      obtain ⟨a, u⟩ := au
      have hre : res = .ok (([] : List Int) ++ [(a : Int)], u) := by rw [← HQ.out]; simp [choices, PM.bind, pIf, PM.ret, HA2.out, hA]
      subst hre
      have hT : 0 < T.length := by have := wrd_lt HA2.out; omega
      rw [hA] at cA
      clear hA
      go_wp2_with fail
      refine cA.mono ?_
      intro x w5 hx
      obtain ⟨rfl, Nv5, M5, r5, S5, M6, e6, o6⟩ := HR.out.rd hx
      subst e6
      have k5 := HK.out.step S5 o6
      rw [List.append_assoc] at k5
      have hal : (([] : List Int).length + [(a : Int)].length) * 8 ≤ 140737488355328 := by have h8 := HL.out; show (([] : List Int).length + 1) * 8 ≤ 140737488355328; omega
      have hal2 : ([] : List Int).length + [(a : Int)].length ≤ 4611686018427387903 := by have h8 := HL.out; show ([] : List Int).length + 1 ≤ 4611686018427387903; omega
      have H5 := Hid.mk7 (And.intro r5 (And.intro k5 (And.intro hal hal2)))
      clear cA hx r5 k5 S5 o6 hal hal2
      go_wp2_with (at_builtin; refine wpList_append_k (by rfl) (.tmp 13) (.tmp 16) (by rfl) Tryz.intTypes (by rfl) (by rfl) (OwnK.turned H5.out.2.1.own (Turned.alloc (fun _ => False) _ _) (fun _ _ e => e)) (SlI.one _ _ _) (ints_one _) H5.out.2.2.1 H5.out.2.2.2 ?_; intro V6 w6 ho6 T6 hv6)
      obtain ⟨k6, p6, TT⟩ := H5.out.2.1.more H5.out.1.ps.at_ hT H5.out.1.size (Below.alloc0 w5 _) ho6 T6 hv6
      have r6 := H5.out.1.mine (fun q hq => (H5.out.2.1.fv q hq).1) p6 TT
      have H6 := Hid.mk7 (And.intro r6 k6)
      clear ho6 T6 hv6 k6 p6 TT r6
      go_wp2
      go_ret
      exact Rg.ofL H6.out.1 H6.out.2
  | false =>
    rw [h1] at c1
    have H1 := Hid.mk7 h1
    clear h1
    go_enter Tryz.func192, Tryz.ntmps192
    go_wp2_with fail
    refine c1.mono ?_
    rintro x w1 ⟨rfl, r1, _⟩
    have c2 := rd_row_clause (HP.out.1.fwd .clause trivial) (HP.out.1.run .clause trivial) ⟨#[59]⟩ (Nat.le_refl _) r1.ps
    have HR1 := Hid.mk7 r1
    clear c1 r1
    cases hrow : row T ⟨#[59]⟩ (rec .clause) s with
    | error e =>
      have hre : res = .error e := by rw [← HQ.out]; simp [choices, PM.bind, pIf, H1.out, hrow]
      subst hre
      rw [hrow] at c2
      clear hrow
      go_wp2_with fail
      refine c2.mono ?_
      rintro x w2 ⟨rfl, T2⟩
      exact ⟨rfl, rfl, HR1.out.bad T2⟩
    | ok kt =>
      obtain ⟨ks, t⟩ := kt
      obtain ⟨_, _, hit⟩ := (row_ok2 (Alike.refl T) (x := ⟨#[59]⟩) (d := 1) (by omega) (fun s s' hs => HP.out.1.ok2 .clause trivial s s' hs) HP.out.2.ok).fin (by omega) HP.out.2.cnt hrow
      have HI := Hid.mk7 hit
      have HW := Hid.mk7 hrow
      rw [hrow] at c2
      clear hrow hit
      go_wp2_with fail
      refine c2.mono ?_
      intro x w2 hx
      obtain ⟨V, rfl, Nv2, M2, r2, k2, _⟩ := HR1.out.rdL hx
      obtain ⟨aV, cV, hV, _⟩ := OwnK.sl k2.own |>.form
      subst hV
      have c3 := rg_isWord r2 ⟨#[97, 102, 116, 101, 114]⟩
      have H2 := Hid.mk7 (And.intro r2 k2)
      clear c2 hx r2 k2
      cases h3 : wrd T ⟨#[97, 102, 116, 101, 114]⟩ t.i with
      | false =>
        have hre : res = .ok (ks, t) := by rw [← HQ.out]; simp [choices, PM.bind, pIf, PM.ret, H1.out, HW.out, h3]
        subst hre
        rw [h3] at c3
        clear h3
        go_wp2_with fail
        refine c3.mono ?_
        rintro x w3 ⟨rfl, r3, hb3⟩
        have H3 := Hid.mk7 (And.intro r3 (H2.out.2.below hb3))
        clear c3 r3 hb3
        go_wp2
        go_ret
        exact Rg.ofL H3.out.1 H3.out.2
      | true =>
        have HA2 := Hid.mk7 h3
        rw [h3] at c3
        clear h3
        go_wp2_with fail
        refine c3.mono ?_
        rintro x w3 ⟨rfl, r3, hb3⟩
        have HR := Hid.mk7 r3
        have HK := Hid.mk7 (H2.out.2.below hb3)
        have HL : Hid (ks.length ≤ 1000000) := by
          have h1 := row_len (HP.out.1.fwd .clause trivial) HP.out.2.ok HW.out
          have h2 := r3.ps.ok.il
          show ks.length ≤ 1000000
          omega
        clear c3 r3 hb3
        have cA := rd_after (HP.out.1.up (by have := (show s.i ≤ t.i from HI.out); omega)) (fun a u e => ⟨(HP.out.1.after HR.out.ps.ok HR.out.ps.cnt a u e).1, (HP.out.1.after HR.out.ps.ok HR.out.ps.cnt a u e).2.1⟩) HR.out.ps
        cases hA : after T rec t with
        | error e =>
          have hre : res = .error e := by rw [← HQ.out]; simp [choices, PM.bind, pIf, H1.out, HW.out, HA2.out, hA]
          subst hre
          rw [hA] at cA
          clear hA
          go_wp2_with fail
          refine cA.mono ?_
          rintro x w5 ⟨rfl, T5⟩
          exact ⟨rfl, rfl, HR.out.bad T5⟩
        | ok au =>
          obtain ⟨a, u⟩ := au
          have hre : res = .ok (ks ++ [(a : Int)], u) := by rw [← HQ.out]; simp [choices, PM.bind, pIf, PM.ret, H1.out, HW.out, HA2.out, hA]
          subst hre
          have hT : 0 < T.length := by have := wrd_lt HA2.out; omega
          rw [hA] at cA
          clear hA
          go_wp2_with fail
          refine cA.mono ?_
          intro x w5 hx
          obtain ⟨rfl, Nv5, M5, r5, S5, M6, e6, o6⟩ := HR.out.rd hx
          subst e6
          have k5 := HK.out.step S5 o6
          rw [List.append_assoc] at k5
          have hal : (ks.length + [(a : Int)].length) * 8 ≤ 140737488355328 := by have h8 := HL.out; show (ks.length + 1) * 8 ≤ 140737488355328; omega
          have hal2 : ks.length + [(a : Int)].length ≤ 4611686018427387903 := by have h8 := HL.out; show ks.length + 1 ≤ 4611686018427387903; omega
          have H5 := Hid.mk7 (And.intro r5 (And.intro k5 (And.intro hal hal2)))
          clear cA hx r5 k5 S5 o6 hal hal2
          go_wp2_with (at_builtin; refine wpList_append_k (by rfl) (.tmp 13) (.tmp 16) (by rfl) Tryz.intTypes (by rfl) (by rfl) (OwnK.turned H5.out.2.1.own (Turned.alloc (fun _ => False) _ _) (fun _ _ e => e)) (SlI.one _ _ _) (ints_one _) H5.out.2.2.1 H5.out.2.2.2 ?_; intro V6 w6 ho6 T6 hv6)
          obtain ⟨k6, p6, TT⟩ := H5.out.2.1.more H5.out.1.ps.at_ hT H5.out.1.size (Below.alloc0 w5 _) ho6 T6 hv6
          have r6 := H5.out.1.mine (fun q hq => (H5.out.2.1.fv q hq).1) p6 TT
          have H6 := Hid.mk7 (And.intro r6 k6)
          clear ho6 T6 hv6 k6 p6 TT r6
          go_wp2
          go_ret
          exact Rg.ofL H6.out.1 H6.out.2
end Go.Proofs.YtlgkjjbefoeabaaGreatDoor
