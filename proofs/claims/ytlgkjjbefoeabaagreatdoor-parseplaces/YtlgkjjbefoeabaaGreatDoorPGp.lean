/-
  Layer 11 (parse): expressions that no operator parts.
-/
import Derived.Test.YtlgkjjbefoeabaaGreatDoorPGn
import Derived.Test.YtlgkjjbefoeabaaGreatDoorPGo
namespace Go.Proofs.YtlgkjjbefoeabaaGreatDoor
open Go.RowKit

theorem Env.named {T : List Tk} {rec : Ph → PM Nat} {i0 : Nat} (E : Env T rec i0) {t : Ps} (ht : S2 T t t) (hl : t.i < T.length) (hc : Cnt T t) : ∀ a u, named T rec (tokAt T t.i) t = .ok (a, u) → S2 T u u ∧ Cnt T u := fun _ _ e => ⟨((named_ok2 (Alike.refl T) E.ok2 ht hl).fin (by omega) hc e).1, ((named_ok2 (Alike.refl T) E.ok2 ht hl).fin (by omega) hc e).2.1⟩
theorem Env.bracketed {T : List Tk} {rec : Ph → PM Nat} {i0 : Nat} (E : Env T rec i0) {t : Ps} (ht : S2 T t t) (hc : Cnt T t) : ∀ a u, bracketed T rec (tokAt T t.i) t = .ok (a, u) → S2 T u u ∧ Cnt T u := fun _ _ e => ⟨((bracketed_ok2 (Alike.refl T) E.ok2 ht).fin (by omega) hc e).1, ((bracketed_ok2 (Alike.refl T) E.ok2 ht).fin (by omega) hc e).2.1⟩
theorem Env.block {T : List Tk} {rec : Ph → PM Nat} {i0 : Nat} (E : Env T rec i0) {t : Ps} (ht : S2 T t t) (hc : Cnt T t) : ∀ a u, block T rec (tokAt T t.i) t = .ok (a, u) → S2 T u u ∧ Cnt T u := fun _ _ e => ⟨((block_ok2 (Alike.refl T) E.ok2 ht).fin (by omega) hc e).1, ((block_ok2 (Alike.refl T) E.ok2 ht).fin (by omega) hc e).2.1⟩
set_option maxRecDepth 100000 in
set_option maxHeartbeats 6400000 in
theorem rd_single {T : List Tk} {rec : Ph → PM Nat} {s : Ps} (E : Env T rec (s.i + 1)) (hfin : ∀ a t, single T rec (tokAt T s.i) s = .ok (a, t) → S2 T t t ∧ Cnt T t) {w : World} {g : Nat} {Tv Nv : Value} {N : List Nd} (h : PS w g Tv T Nv N s) :
    Calls Tryz.prog 177 #[.pointer (some ⟨g, 0, none⟩), (tokAt T s.i).val] w (Rd T w g Tv Nv N (single T rec (tokAt T s.i) s)) := by
  obtain ⟨res, hres⟩ : ∃ res, single T rec (tokAt T s.i) s = res := ⟨_, rfl⟩
  rw [hres]
  have htl := h.at_.tl
  have hgl := h.at_.lt
  have k1 := h.at_.c1.1
  have f1 := h.at_.c1.2
  have hlt : (tokAt T s.i).kind ≠ 0 → s.i < T.length := tok_lt
  have hN := fun (hl : s.i < T.length) o => rd_named hl E (E.named h.ok hl h.cnt) (((Rg.refl h).below (Below.alloc0 w o)).ps)
  have hB := fun o => rd_bracketed E (E.bracketed h.ok h.cnt) (((Rg.refl h).below (Below.alloc0 w o)).ps)
  have hK := fun o => rd_block E (E.block h.ok h.cnt) (((Rg.refl h).below (Below.alloc0 w o)).ps)
  have HR := Hid.mk7 (fun o => (Rg.refl h).below (Below.alloc0 w o))
  have HS := Hid.mk7 (fun (hl : s.i < T.length) o => ((Rg.refl h).skip 1 hl).below (Below.alloc0 _ o))
  rw [show ((s.i + 1 : Nat) : Int) = (s.i : Int) + 1 by omega] at HS
  clear h E
  generalize tokAt T s.i = t at hres hfin hlt hN hB hK ⊢
  obtain ⟨tk, tt, tn, ta⟩ := t
  have HQ := Hid.mk7 hres
  have HP := Hid.mk7 hfin
  clear hres hfin
  simp only [Tk.val] at hN hB hK ⊢
  by_cases h3 : tk = 3
  · subst h3
    have hl := hlt (by simp)
    have hT : 0 < T.length := by omega
    have hre : single T rec ⟨3, tt, tn, ta⟩ s = .ok (s.N.length, ⟨s.i + 1, s.N ++ [⟨1, ⟨#[]⟩, ⟨#[]⟩, tn, [], ta⟩]⟩) := by simp [single, PM.bind, pSkip, pAdd]
    obtain ⟨q1, q2⟩ := HP.out _ _ hre
    have hre2 : res = .ok (s.N.length, ⟨s.i + 1, s.N ++ [⟨1, ⟨#[]⟩, ⟨#[]⟩, tn, [], ta⟩]⟩) := HQ.out.symm.trans hre
    subst hre2
    have HF := Hid.mk7 (And.intro q1 q2)
    have c9 := fun o => rg_add (HS.out hl o) hT ⟨1, ⟨#[]⟩, ⟨#[]⟩, tn, .slice none 0 0, [], ta⟩ (Kd.nil _ _ _ _ _ _ _) HF.out.1 HF.out.2
    simp only [Nd.val] at c9
    clear hre q1 q2 hN hB hK HR HS hlt
    go_enter Tryz.func177, Tryz.ntmps177
    go_wp2_with fail
    refine (c9 _).mono ?_
    rintro x w9 ⟨rfl, Nv9, r9, _⟩
    have H9 := Hid.mk7 r9
    clear c9 r9 k1 f1
    go_wp2
    go_ret
    exact H9.out.of
  · by_cases h2 : tk = 2
    · subst h2
      have hl := hlt (by simp)
      have hT : 0 < T.length := by omega
      have hre : single T rec ⟨2, tt, tn, ta⟩ s = .ok (s.N.length, ⟨s.i + 1, s.N ++ [⟨3, tt, ⟨#[]⟩, 0, [], ta⟩]⟩) := by simp [single, PM.bind, pSkip, pAdd]
      obtain ⟨q1, q2⟩ := HP.out _ _ hre
      have hre2 : res = .ok (s.N.length, ⟨s.i + 1, s.N ++ [⟨3, tt, ⟨#[]⟩, 0, [], ta⟩]⟩) := HQ.out.symm.trans hre
      subst hre2
      have HF := Hid.mk7 (And.intro q1 q2)
      have c9 := fun o => rg_add (HS.out hl o) hT ⟨3, tt, ⟨#[]⟩, 0, .slice none 0 0, [], ta⟩ (Kd.nil _ _ _ _ _ _ _) HF.out.1 HF.out.2
      simp only [Nd.val] at c9
      clear hre q1 q2 hN hB hK HR HS hlt
      go_enter Tryz.func177, Tryz.ntmps177
      go_wp2_with fail
      refine (c9 _).mono ?_
      rintro x w9 ⟨rfl, Nv9, r9, _⟩
      have H9 := Hid.mk7 r9
      clear c9 r9 k1 f1
      go_wp2
      go_ret
      exact H9.out.of
    · by_cases h1 : tk = 1
      · subst h1
        have hl := hlt (by simp)
        have hre : res = named T rec ⟨1, tt, tn, ta⟩ s := by rw [← HQ.out]; simp [single]
        have c5 := hN hl
        rw [← hre] at c5
        clear hre hN hB hK k1 f1 hlt
        cases res with
        | error e =>
          go_enter Tryz.func177, Tryz.ntmps177
          go_wp2_with fail
          refine (c5 _).mono ?_
          rintro x w5 ⟨rfl, T5⟩
          exact ⟨rfl, rfl, (HR.out _).bad T5⟩
        | ok bt =>
          obtain ⟨b, u⟩ := bt
          go_enter Tryz.func177, Tryz.ntmps177
          go_wp2_with fail
          refine (c5 _).mono ?_
          intro x w5 hx
          obtain ⟨rfl, Nv5, M5, r5, _⟩ := (HR.out _).rd hx
          have H5 := Hid.mk7 r5
          clear c5 hx r5
          go_wp2
          go_ret
          exact H5.out.of
      · by_cases h5 : tk = 5
        · subst h5
          have hre : res = bracketed T rec ⟨5, tt, tn, ta⟩ s := by rw [← HQ.out]; simp [single]
          have c5 := hB
          rw [← hre] at c5
          clear hre hN hB hK k1 f1 hlt
          cases res with
          | error e =>
            go_enter Tryz.func177, Tryz.ntmps177
            go_wp2_with fail
            refine (c5 _).mono ?_
            rintro x w5 ⟨rfl, T5⟩
            exact ⟨rfl, rfl, (HR.out _).bad T5⟩
          | ok bt =>
            obtain ⟨b, u⟩ := bt
            go_enter Tryz.func177, Tryz.ntmps177
            go_wp2_with fail
            refine (c5 _).mono ?_
            intro x w5 hx
            obtain ⟨rfl, Nv5, M5, r5, _⟩ := (HR.out _).rd hx
            have H5 := Hid.mk7 r5
            clear c5 hx r5
            go_wp2
            go_ret
            exact H5.out.of
        · have e3 : (tk == 3) = false := by simpa using h3
          have e2 : (tk == 2) = false := by simpa using h2
          have e1 : (tk == 1) = false := by simpa using h1
          have e5 : (tk == 5) = false := by simpa using h5
          have hre : res = block T rec ⟨tk, tt, tn, ta⟩ s := by rw [← HQ.out]; simp [single, h3, h2, h1, h5]
          have c5 := hK
          rw [← hre] at c5
          clear hre hN hB hK k1 f1 hlt
          clear h3 h2 h1 h5
          cases res with
          | error e =>
            go_enter Tryz.func177, Tryz.ntmps177
            go_wp2_with fail
            refine (c5 _).mono ?_
            rintro x w5 ⟨rfl, T5⟩
            exact ⟨rfl, rfl, (HR.out _).bad T5⟩
          | ok bt =>
            obtain ⟨b, u⟩ := bt
            go_enter Tryz.func177, Tryz.ntmps177
            go_wp2_with fail
            refine (c5 _).mono ?_
            intro x w5 hx
            obtain ⟨rfl, Nv5, M5, r5, _⟩ := (HR.out _).rd hx
            have H5 := Hid.mk7 r5
            clear c5 hx r5
            go_wp2
            go_ret
            exact H5.out.of
end Go.Proofs.YtlgkjjbefoeabaaGreatDoor
