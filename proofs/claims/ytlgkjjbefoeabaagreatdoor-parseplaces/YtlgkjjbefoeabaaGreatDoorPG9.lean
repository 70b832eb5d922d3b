/-
  Layer 11 (parse): the program's parser keeps a node; nodes over a row of phrases; arguments.
-/
import Derived.Test.YtlgkjjbefoeabaaGreatDoorPG8
namespace Go.Proofs.YtlgkjjbefoeabaaGreatDoor
open Go.RowKit

theorem rg_add {T : List Tk} {w wr : World} {g : Nat} {Tv Nv Nv1 : Value} {N M1 : List Nd} {s : Ps} (r : Rg T w wr g Tv Nv N s Nv1 M1) (hT : 0 < T.length) (n : Nd) (hk : Kd T w wr g Tv Nv1 (N ++ M1) n.kv n.kids) (hs : S2 T ⟨s.i, s.N ++ [n.sh]⟩ ⟨s.i, s.N ++ [n.sh]⟩) (hc : Cnt T ⟨s.i, s.N ++ [n.sh]⟩) :
    Calls Tryz.prog 78 #[.pointer (some ⟨g, 0, none⟩), n.val] wr (fun e w2 => e = .returned (.int .i64 (s.N.length : Nat)) ∧ ∃ Nv2, Rg T w w2 g Tv Nv N ⟨s.i, s.N ++ [n.sh]⟩ Nv2 (M1 ++ [n]) ∧ Stp g Nv1 Nv2 wr w2) := by
  have hl := r.ps.len
  have hcn := r.ps.cnt
  unfold Cnt at hcn
  refine (ps_add r.ps.at_ hT n ⟨OwnK.sl hk.own, fun k h => ⟨(hk.fv k h).2.g, (hk.fv k h).2.n, OwnK.blk_lt hk.own k h⟩⟩ (by omega)).mono ?_
  rintro x w2 ⟨rfl, Nv2, p, S⟩
  refine ⟨by rw [hl], Nv2, ⟨⟨by simpa [List.append_assoc] using p, ?_, hs, hc⟩, fun m hm k hk' => ?_, r.st.trans S⟩, S⟩
  · have := r.ps.n
    rw [← List.append_assoc, List.map_append, this]
    simp
  · rcases List.mem_append.1 hm with hm | hm
    · exact r.off m hm k hk'
    · simp at hm
      subst hm
      exact (hk.fv k hk').1
set_option maxRecDepth 100000 in
set_option maxHeartbeats 1600000 in
theorem rd_arguments {T : List Tk} {rec : Ph → PM Nat} {s : Ps} {i0 : Nat} (hm : Fwd T (whole rec)) (hr : Runs T 145 [] (whole rec) i0) (hi : i0 ≤ s.i + 1) {w : World} {g : Nat} {Tv Nv : Value} {N : List Nd} (h : PS w g Tv T Nv N s) :
    Calls Tryz.prog 133 #[.pointer (some ⟨g, 0, none⟩)] w (RdL T w g Tv Nv N (arguments T rec s)) := by
  have hE := rd_enclosed_whole hm hr ⟨#[40]⟩ ⟨#[41]⟩ hi h
  have hmf := Tryz.makeFn
  clear hm hr h
  unfold arguments
  cases hres : enclosed T ⟨#[40]⟩ ⟨#[41]⟩ (whole rec) s with
  | error e =>
    rw [hres] at hE
    go_enter Tryz.func133, Tryz.ntmps133
    go_wp2_with fail
    refine hE.mono ?_
    rintro x w1 ⟨rfl, T1⟩
    exact ⟨rfl, rfl, T1⟩
  | ok lt =>
    obtain ⟨l, t⟩ := lt
    rw [hres] at hE
    go_enter Tryz.func133, Tryz.ntmps133
    go_wp2_with fail
    refine hE.mono ?_
    rintro x w1 ⟨V, rfl, h1⟩
    have H1 := Hid.mk7 h1
    clear h1 hE
    go_wp2
    go_ret
    exact ⟨V, rfl, H1.out⟩
set_option maxRecDepth 100000 in
set_option maxHeartbeats 1600000 in
theorem rd_body {T : List Tk} {rec : Ph → PM Nat} {s : Ps} (hm : Fwd T (whole rec)) (hr : Runs T 145 [] (whole rec) s.i) (hF : Fwd T (phBody T rec .body)) {w : World} {g : Nat} {Tv Nv : Value} {N : List Nd} (h : PS w g Tv T Nv N s) :
    Calls Tryz.prog 148 #[.pointer (some ⟨g, 0, none⟩)] w (Rd T w g Tv Nv N (phBody T rec .body s)) := by
  have r0 := Rg.refl h
  have c1 := rg_peek r0
  have hfa := Tryz.tokPlace
  have hmf := Tryz.makeFn
  cases hrow : row T ⟨#[44]⟩ (whole rec) s with
  | error e =>
    rw [show phBody T rec .body s = .error e by simp [phBody, PM.bind, pTok, hrow]]
    have HW := Hid.mk7 (And.intro hrow (And.intro hm hr))
    clear hm hr hF h r0 hrow
    generalize tokAt T s.i = tk at c1
    obtain ⟨tk, tt, tn, ta⟩ := tk
    simp only [Tk.val] at c1
    go_enter Tryz.func148, Tryz.ntmps148
    go_wp2_with fail
    refine c1.mono ?_
    rintro x w1 ⟨rfl, r1, _⟩
    have c2 := rd_row_whole HW.out.2.1 HW.out.2.2 ⟨#[44]⟩ (Nat.le_refl _) r1.ps
    rw [HW.out.1] at c2
    have HR := Hid.mk7 r1
    clear c1 r1
    go_wp2_with fail
    refine c2.mono ?_
    rintro x w2 ⟨rfl, T2⟩
    exact ⟨rfl, rfl, HR.out.bad T2⟩
  | ok kt =>
    obtain ⟨ks, t⟩ := kt
    have hms : phBody T rec .body s = .ok (t.N.length, ⟨t.i, t.N ++ [⟨23, ⟨#[]⟩, ⟨#[]⟩, 0, ks, (tokAt T s.i).at_⟩]⟩) := by simp [phBody, PM.bind, pTok, hrow, pAdd]
    rw [hms]
    obtain ⟨q1, q2, q3, q4⟩ := hF.ok h.ok h.cnt hms
    have hT : 0 < T.length := by have := q1.il; simp at this q3; omega
    have HW := Hid.mk7 (And.intro hrow (And.intro hm (And.intro hr (And.intro q1 (And.intro q4 hT)))))
    clear hm hr hF h r0 hrow hms q1 q2 q3 q4 hT
    generalize tokAt T s.i = tk at c1 HW ⊢
    obtain ⟨tk, tt, tn, ta⟩ := tk
    simp only [Tk.val] at c1
    simp only at HW ⊢
    go_enter Tryz.func148, Tryz.ntmps148
    go_wp2_with fail
    refine c1.mono ?_
    rintro x w1 ⟨rfl, r1, _⟩
    have c2 := rd_row_whole HW.out.2.1 HW.out.2.2.1 ⟨#[44]⟩ (Nat.le_refl _) r1.ps
    rw [HW.out.1] at c2
    have HR := Hid.mk7 r1
    clear c1 r1
    go_wp2_with fail
    refine c2.mono ?_
    intro x w2 hx
    obtain ⟨V, rfl, Nv2, M2, r2, k2, _⟩ := HR.out.rdL hx
    have c3 := rg_add r2 HW.out.2.2.2.2.2 ⟨23, ⟨#[]⟩, ⟨#[]⟩, 0, V, ks, ta⟩ k2 HW.out.2.2.2.1 HW.out.2.2.2.2.1
    simp only [Nd.val] at c3
    obtain ⟨aV, cV, hV, _⟩ := OwnK.sl k2.own |>.form
    subst hV
    clear c2 hx r2 k2
    go_wp2_with fail
    refine c3.mono ?_
    rintro x w3 ⟨rfl, Nv3, r3, _⟩
    have H3 := Hid.mk7 r3
    clear c3 r3
    go_wp2
    go_ret
    exact H3.out.of
set_option maxRecDepth 100000 in
set_option maxHeartbeats 1600000 in
theorem rd_conjunction {T : List Tk} {rec : Ph → PM Nat} {s : Ps} (hm : Fwd T (whole rec)) (hr : Runs T 145 [] (whole rec) s.i) (hF : Fwd T (phBody T rec .conj)) {w : World} {g : Nat} {Tv Nv : Value} {N : List Nd} (h : PS w g Tv T Nv N s) :
    Calls Tryz.prog 157 #[.pointer (some ⟨g, 0, none⟩)] w (Rd T w g Tv Nv N (phBody T rec .conj s)) := by
  have r0 := Rg.refl h
  have c1 := rg_peek r0
  have hfa := Tryz.tokPlace
  have hmf := Tryz.makeFn
  cases hrow : row T ⟨#[44]⟩ (whole rec) s with
  | error e =>
    rw [show phBody T rec .conj s = .error e by simp [phBody, PM.bind, pTok, hrow]]
    have HW := Hid.mk7 (And.intro hrow (And.intro hm hr))
    clear hm hr hF h r0 hrow
    generalize tokAt T s.i = tk at c1
    obtain ⟨tk, tt, tn, ta⟩ := tk
    simp only [Tk.val] at c1
    go_enter Tryz.func157, Tryz.ntmps157
    go_wp2_with fail
    refine c1.mono ?_
    rintro x w1 ⟨rfl, r1, _⟩
    have c2 := rd_row_whole HW.out.2.1 HW.out.2.2 ⟨#[44]⟩ (Nat.le_refl _) r1.ps
    rw [HW.out.1] at c2
    have HR := Hid.mk7 r1
    clear c1 r1
    go_wp2_with fail
    refine c2.mono ?_
    rintro x w2 ⟨rfl, T2⟩
    exact ⟨rfl, rfl, HR.out.bad T2⟩
  | ok kt =>
    obtain ⟨ks, t⟩ := kt
    have hms : phBody T rec .conj s = .ok (t.N.length, ⟨t.i, t.N ++ [⟨22, ⟨#[]⟩, ⟨#[]⟩, 0, ks, (tokAt T s.i).at_⟩]⟩) := by simp [phBody, PM.bind, pTok, hrow, pAdd]
    rw [hms]
    obtain ⟨q1, q2, q3, q4⟩ := hF.ok h.ok h.cnt hms
    have hT : 0 < T.length := by have := q1.il; simp at this q3; omega
    have HW := Hid.mk7 (And.intro hrow (And.intro hm (And.intro hr (And.intro q1 (And.intro q4 hT)))))
    clear hm hr hF h r0 hrow hms q1 q2 q3 q4 hT
    generalize tokAt T s.i = tk at c1 HW ⊢
    obtain ⟨tk, tt, tn, ta⟩ := tk
    simp only [Tk.val] at c1
    simp only at HW ⊢
    go_enter Tryz.func157, Tryz.ntmps157
    go_wp2_with fail
    refine c1.mono ?_
    rintro x w1 ⟨rfl, r1, _⟩
    have c2 := rd_row_whole HW.out.2.1 HW.out.2.2.1 ⟨#[44]⟩ (Nat.le_refl _) r1.ps
    rw [HW.out.1] at c2
    have HR := Hid.mk7 r1
    clear c1 r1
    go_wp2_with fail
    refine c2.mono ?_
    intro x w2 hx
    obtain ⟨V, rfl, Nv2, M2, r2, k2, _⟩ := HR.out.rdL hx
    have c3 := rg_add r2 HW.out.2.2.2.2.2 ⟨22, ⟨#[]⟩, ⟨#[]⟩, 0, V, ks, ta⟩ k2 HW.out.2.2.2.1 HW.out.2.2.2.2.1
    simp only [Nd.val] at c3
    obtain ⟨aV, cV, hV, _⟩ := OwnK.sl k2.own |>.form
    subst hV
    clear c2 hx r2 k2
    go_wp2_with fail
    refine c3.mono ?_
    rintro x w3 ⟨rfl, Nv3, r3, _⟩
    have H3 := Hid.mk7 r3
    clear c3 r3
    go_wp2
    go_ret
    exact H3.out.of
set_option maxRecDepth 100000 in
set_option maxHeartbeats 1600000 in
theorem rd_guard {T : List Tk} {rec : Ph → PM Nat} {s : Ps} (hm : Fwd T (rec .conj)) (hr : Runs T 157 [] (rec .conj) s.i) (hF : Fwd T (phBody T rec .guard)) {w : World} {g : Nat} {Tv Nv : Value} {N : List Nd} (h : PS w g Tv T Nv N s) :
    Calls Tryz.prog 147 #[.pointer (some ⟨g, 0, none⟩)] w (Rd T w g Tv Nv N (phBody T rec .guard s)) := by
  have r0 := Rg.refl h
  have c1 := rg_peek r0
  have hfa := Tryz.tokPlace
  have hmf := Tryz.makeFn
  cases hrow : row T ⟨#[59]⟩ (rec .conj) s with
  | error e =>
    rw [show phBody T rec .guard s = .error e by simp [phBody, PM.bind, pTok, hrow]]
    have HW := Hid.mk7 (And.intro hrow (And.intro hm hr))
    clear hm hr hF h r0 hrow
    generalize tokAt T s.i = tk at c1
    obtain ⟨tk, tt, tn, ta⟩ := tk
    simp only [Tk.val] at c1
    go_enter Tryz.func147, Tryz.ntmps147
    go_wp2_with fail
    refine c1.mono ?_
    rintro x w1 ⟨rfl, r1, _⟩
    have c2 := rd_row_conjunction HW.out.2.1 HW.out.2.2 ⟨#[59]⟩ (Nat.le_refl _) r1.ps
    rw [HW.out.1] at c2
    have HR := Hid.mk7 r1
    clear c1 r1
    go_wp2_with fail
    refine c2.mono ?_
    rintro x w2 ⟨rfl, T2⟩
    exact ⟨rfl, rfl, HR.out.bad T2⟩
  | ok kt =>
    obtain ⟨ks, t⟩ := kt
    have hms : phBody T rec .guard s = .ok (t.N.length, ⟨t.i, t.N ++ [⟨21, ⟨#[]⟩, ⟨#[]⟩, 0, ks, (tokAt T s.i).at_⟩]⟩) := by simp [phBody, PM.bind, pTok, hrow, pAdd]
    rw [hms]
    obtain ⟨q1, q2, q3, q4⟩ := hF.ok h.ok h.cnt hms
    have hT : 0 < T.length := by have := q1.il; simp at this q3; omega
    have HW := Hid.mk7 (And.intro hrow (And.intro hm (And.intro hr (And.intro q1 (And.intro q4 hT)))))
    clear hm hr hF h r0 hrow hms q1 q2 q3 q4 hT
    generalize tokAt T s.i = tk at c1 HW ⊢
    obtain ⟨tk, tt, tn, ta⟩ := tk
    simp only [Tk.val] at c1
    simp only at HW ⊢
    go_enter Tryz.func147, Tryz.ntmps147
    go_wp2_with fail
    refine c1.mono ?_
    rintro x w1 ⟨rfl, r1, _⟩
    have c2 := rd_row_conjunction HW.out.2.1 HW.out.2.2.1 ⟨#[59]⟩ (Nat.le_refl _) r1.ps
    rw [HW.out.1] at c2
    have HR := Hid.mk7 r1
    clear c1 r1
    go_wp2_with fail
    refine c2.mono ?_
    intro x w2 hx
    obtain ⟨V, rfl, Nv2, M2, r2, k2, _⟩ := HR.out.rdL hx
    have c3 := rg_add r2 HW.out.2.2.2.2.2 ⟨21, ⟨#[]⟩, ⟨#[]⟩, 0, V, ks, ta⟩ k2 HW.out.2.2.2.1 HW.out.2.2.2.2.1
    simp only [Nd.val] at c3
    obtain ⟨aV, cV, hV, _⟩ := OwnK.sl k2.own |>.form
    subst hV
    clear c2 hx r2 k2
    go_wp2_with fail
    refine c3.mono ?_
    rintro x w3 ⟨rfl, Nv3, r3, _⟩
    have H3 := Hid.mk7 r3
    clear c3 r3
    go_wp2
    go_ret
    exact H3.out.of
end Go.Proofs.YtlgkjjbefoeabaaGreatDoor
