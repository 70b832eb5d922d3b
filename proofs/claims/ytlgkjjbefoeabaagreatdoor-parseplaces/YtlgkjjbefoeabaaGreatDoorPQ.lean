/-
  Layer 11 (parse): the program's modules of one function.
-/
import Derived.Test.YtlgkjjbefoeabaaGreatDoorPP
namespace Go.Proofs.YtlgkjjbefoeabaaGreatDoor
open Go.RowKit

theorem drewN_below (w : World) (n : Nat) : Below w.heap.size w (w.drewN n) := ⟨rfl, rfl, rfl, Nat.le_refl _, fun _ _ => rfl⟩
set_option maxRecDepth 100000 in
theorem ps_atModule {w : World} {g : Nat} {Tv : Value} {T : List Tk} {i : Nat} {Nv : Value} {N : List Nd} (h : PAt w g Tv T i Nv N) (hs : isTk 5 ⟨#[45]⟩ (tokAt T i) = false) : Calls Tryz.prog 97 #[.pointer (some ⟨g, 0, none⟩)] w fun x w' => x = .returned (.bool false) ∧ Below w.heap.size w w' := by
  have hq := ps_isSign h ⟨#[45]⟩
  rw [hs] at hq
  clear h hs
  go_enter Tryz.func97, Tryz.ntmps97
  go_wp2_with fail
  refine hq.mono ?_
  rintro x w1 ⟨rfl, hb1⟩
  have HB := Hid.mk7 hb1
  clear hb1 hq
  go_wp2
  go_ret
  exact ⟨rfl, HB.out⟩
theorem Making.text {w : World} {g : Nat} {Tv Nv : Value} {N : List Nd} {q : Nat} {nk : Int} {nt nm : ByteArray} {nn : Int} {V : Value} {l : List Int} {na : Int} {T : List Tk} {i : Nat} (h : Making w g Tv Nv N q nk nt nm nn V l na) (hp : PAt w g Tv T i Nv N) (t : ByteArray) : Making (w.setCell ⟨q, 1, none⟩ (.string t)) g Tv Nv N q nk t nm nn V l na ∧ PAt (w.setCell ⟨q, 1, none⟩ (.string t)) g Tv T i Nv N := by
  have o : ∀ (j : Nat) (v : Value), 1 ≠ j → w.cell? ⟨q, j, none⟩ = some v → (w.setCell ⟨q, 1, none⟩ (.string t)).cell? ⟨q, j, none⟩ = some v := fun j v hj e => by
    rw [World.cell?_setCell_other _ _ _ _ (by simp; try omega)]; exact e
  have T1 := Turned.set1 w q 1 (.string t)
  exact ⟨⟨o 0 _ (by decide) h.n0, World.cell?_setCell_same _ _ _ h.n1, o 2 _ (by decide) h.n2, o 3 _ (by decide) h.n3, o 4 _ (by decide) h.n4, o 5 _ (by decide) h.n5, fun j => by rw [World.frozen?_setCell]; exact h.fz j, OwnK.turned h.own T1 (fun k hk e => h.qv ((show k = q from e) ▸ hk)), h.qv, ⟨h.fq.g, h.fq.t, h.fq.n, h.fq.k⟩, fun k hk => ⟨(h.fv k hk).g, (h.fv k hk).t, (h.fv k hk).n, (h.fv k hk).k⟩⟩, hp.off h.fq T1⟩
set_option maxRecDepth 100000 in
set_option maxHeartbeats 6400000 in
theorem ps_module (b0 : Nat) (hbB : b0 ≤ 400) (T : List Tk) (i : Nat) (hi : i + 6 < T.length) (M : Nat → List Sh) (r : Nat → Nat) (hM : ∀ n, (M n).length ≤ 200) (hE : Phrase b0 100 [] T (i + 6) T.length M r)
    (h0 : isTk 5 ⟨#[45]⟩ (tokAt T i) = true) (h1 : isTk 1 ⟨#[109, 111, 100, 117, 108, 101]⟩ (tokAt T (i + 1)) = true) (h2 : isTk 5 ⟨#[40]⟩ (tokAt T (i + 2)) = true) (h3 : (tokAt T (i + 3)).kind = 1) (h4 : isTk 5 ⟨#[41]⟩ (tokAt T (i + 4)) = true) (h5 : (tokAt T (i + 5)).kind = 6) (h6 : isTk 5 ⟨#[45]⟩ (tokAt T (i + 6)) = false) :
    Phrase b0 77 [] T i T.length (fun n => M n ++ [⟨27, (tokAt T (i + 3)).text, ⟨#[]⟩, 0, [(r n : Int)], (tokAt T i).at_⟩]) (fun n => n + (M n).length) := by
  intro w g Tv Nv N h hN
  show Calls Tryz.prog 77 #[.pointer (some ⟨g, 0, none⟩)] w _
  have hT : 0 < T.length := by omega
  have hs0 := ps_sign h (by omega) _ h0
  have hfa := Tryz.tokPlace
  have hft := Tryz.tokText
  have htl := h.tl
  obtain ⟨aT, cT, hTv, _⟩ := h.tok.form
  unfold Took at hs0
  unfold ReadTo
  generalize tokAt T i = t0 at hs0 ⊢
  obtain ⟨t0k, t0t, t0n, t0a⟩ := t0
  generalize ht3 : tokAt T (i + 3) = t3 at h3 ⊢
  obtain ⟨t3k, t3t, t3n, t3a⟩ := t3
  simp only [Tk.val] at hs0
  simp only
  clear h h0
  go_enter Tryz.func77, Tryz.ntmps77
  go_wp2_with fail
  refine hs0.mono ?_
  rintro x w1 ⟨rfl, p1, T1⟩
  have m1 := Making.new p1 hT 27 ⟨#[]⟩ ⟨#[]⟩ 0 t0a
  have B1 := Below.alloc0 w1 (.cells #[.int .i64 27, .string ⟨#[]⟩, .string ⟨#[]⟩, .int .i64 0, .slice none 0 0, .int .i64 t0a] 47)
  have p1' := p1.below B1
  have S1 := (Stp.ofG (Nv := Nv) T1).trans (Stp.ofB B1)
  have hs1 := ps_atom p1' (by omega) _ h1
  unfold Took at hs1
  generalize tokAt T (i + 1) = t at hs1
  obtain ⟨tk, tt, tn, ta⟩ := t
  simp only [Tk.val] at hs1
  have H1 := Hid.mk7 (And.intro m1 S1)
  have hz1 := T1.size
  clear hs0 p1 T1 m1 B1 p1' S1 h1
  go_wp2_with fail
  refine hs1.mono ?_
  rintro x w2 ⟨rfl, p2, T2⟩
  have H2 := Hid.mk7 (And.intro (H1.out.1.stepN (Stp.ofG T2)) (H1.out.2.trans (Stp.ofG T2)))
  have hs2 := ps_sign p2 (by omega) _ h2
  unfold Took at hs2
  generalize tokAt T (i + 1 + 1) = t at hs2
  obtain ⟨tk, tt, tn, ta⟩ := t
  simp only [Tk.val] at hs2
  clear hs1 p2 T2 h2
  go_wp2_with fail
  refine hs2.mono ?_
  rintro x w3 ⟨rfl, p3, T3⟩
  have H3 := Hid.mk7 (And.intro (H2.out.1.stepN (Stp.ofG T3)) (H2.out.2.trans (Stp.ofG T3)))
  have hs3 := ps_kind p3 (by omega) 1 (by rw [show i + 1 + 1 + 1 = i + 3 from rfl, ht3]; exact h3)
  unfold Took at hs3
  rw [show i + 1 + 1 + 1 = i + 3 from rfl, ht3] at hs3
  simp only [Tk.val] at hs3
  clear hs2 p3 T3 h3
  go_wp2_with fail
  refine hs3.mono ?_
  rintro x w4 ⟨rfl, p4, T4⟩
  have m4 := H3.out.1.stepN (Stp.ofG T4)
  have n1 := m4.n1
  have f1 := m4.fz 1
  have H4 := Hid.mk7 (And.intro m4 (And.intro p4 (H3.out.2.trans (Stp.ofG T4))))
  clear hs3 p4 T4 m4
  go_wp2_with fail
  obtain ⟨m5, p5⟩ := H4.out.1.text H4.out.2.1 t3t
  have S5 := H4.out.2.2.mine (w' := w4.setCell ⟨w1.heap.size, 1, none⟩ (.string t3t)) ((Turned.set1 w4 w1.heap.size 1 (.string t3t)).mono (fun k e => .inl (by have e : k = w1.heap.size := e; omega)))
  have H5 := Hid.mk7 (And.intro m5 S5)
  have hs5 := ps_sign p5 (by omega) _ h4
  unfold Took at hs5
  generalize tokAt T (i + 3 + 1) = t at hs5
  obtain ⟨tk, tt, tn, ta⟩ := t
  simp only [Tk.val] at hs5
  clear m5 p5 S5 n1 f1 h4
  refine hs5.mono ?_
  rintro x w6 ⟨rfl, p6, T6⟩
  have H6 := Hid.mk7 (And.intro (H5.out.1.stepN (Stp.ofG T6)) (H5.out.2.trans (Stp.ofG T6)))
  have hs6 := ps_kind p6 (by omega) 6 h5
  unfold Took at hs6
  generalize tokAt T (i + 3 + 1 + 1) = t at hs6
  obtain ⟨tk, tt, tn, ta⟩ := t
  simp only [Tk.val] at hs6
  clear hs5 p6 T6 h5
  go_wp2_with fail
  refine hs6.mono ?_
  rintro x w7 ⟨rfl, p7, T7⟩
  have H7 := Hid.mk7 (And.intro (H6.out.1.stepN (Stp.ofG T7)) (And.intro p7 (H6.out.2.trans (Stp.ofG T7))))
  have c0 := p7.c0
  obtain ⟨n6, hn6⟩ : ∃ n6, n6 = i + 3 + 1 + 1 + 1 := ⟨_, rfl⟩
  have c1 : w7.cell? ⟨g, 1, none⟩ = some (.int .i64 (n6 : Int)) := by rw [hn6]; exact p7.c1.1
  rw [hTv] at c0
  have hgl7 := p7.lt
  have hlt7 : (n6 : Int) < (T.length : Int) := by omega
  clear hn6
  have ham := fun W (hW : Below w7.heap.size w7 W) => ps_atModule (p7.below hW) h6
  clear hs6 p7 T7 H1 H2 H3 H4 H5 H6
  go_wp2_with fail
  refine wp_loop_rounds 2 ?_
  rw [rounds_succ]
  go_wp2_with fail
  go_region_with (go_at_call 97; refine (ham _ (Below.refl _ _).drew).mono ?_; rintro x w8 ⟨rfl, hb8⟩)
  all_goals
    have B8 := (Below.refl w7.heap.size w7).drew.trans hb8
    have p8 := H7.out.2.1.below B8
    have hs8 := ps_isSign p8 ⟨#[45]⟩
    rw [show i + 3 + 1 + 1 + 1 = i + 6 from rfl, h6] at hs8
    have H8 := Hid.mk7 B8
    clear hb8 B8 p8 c0 c1 hlt7 ham
    go_wp2_with fail
    refine hs8.mono ?_
    rintro x w9 ⟨rfl, hb9⟩
    have B9 := H8.out.trans (hb9.mono H8.out.size)
    have p9 := H7.out.2.1.below B9
    have m9 := H7.out.1.stepN (Stp.ofB B9)
    have S9 := H7.out.2.2.trans (Stp.ofB B9)
    have hE9 := fun W (hW : Below w9.heap.size w9 W) => hE W g Tv Nv N (p9.below hW) hN
    have n4 := m9.n4
    have H9 := Hid.mk7 (And.intro m9 (And.intro p9 S9))
    clear hs8 hb9 B9 p9 m9 S9 H8
    go_wp2_with fail
    go_region_law (first
      | (rw [if_pos (by rfl)]; go_simp; go_at_call 100; refine (hE9 _ (Below.refl _ _).drew).mono ?_; rintro x w10 ⟨rfl, Nv10, M10, e10, o10, p10, S10⟩; have m10 := H9.out.1.step ((Stp.ofB (Below.refl _ _).drew).trans S10) o10; have k10 := m10.n4; have q10 := m10.lt; have H10 := Hid.mk7 (And.intro m10 (And.intro p10 (And.intro ((H9.out.2.2.trans (Stp.ofB (Below.refl _ _).drew)).trans S10) (And.intro e10 o10)))); clear p10 S10 e10 o10 m10; dsimp only)
      | (refine step_append_k (by rfl) (.tmp 44) (.tmp 47) (by rfl) Tryz.intTypes (by rfl) (by rfl) (OwnK.turned H10.out.1.own (Turned.alloc (fun _ => False) _ _) (fun _ _ e => e)) (SlI.one w10 _ _) (ints_one _) (by simp) (by simp) ?_; intro V11 w11 ho11 T11 hv11; obtain ⟨aV, cV, rfl, _, _⟩ := ho11.sl.form; have c11 := T11.cell (p := ⟨w1.heap.size, 4, none⟩) ((Turned.alloc (fun _ => False) w10 _).cell H10.out.1.n4 (fun e => e)) H10.out.1.qv; have f11 := (T11.frozen (p := ⟨w1.heap.size, 4, none⟩) (by simp; omega) H10.out.1.qv).trans (((Turned.alloc (fun _ => False) w10 _).frozen (p := ⟨w1.heap.size, 4, none⟩) q10 (fun e => e)).trans (H10.out.1.fz 4))))
  all_goals
    obtain ⟨m12, p12, T12, b12⟩ := H10.out.1.more (V' := .slice aV 1 cV) (l := []) H10.out.2.1 hT (Below.alloc0 w10 _) ho11 T11 hv11
    have S12 := H10.out.2.2.1.mine (T12.mono (fun k e => .inl (e.elim (fun e => by have e : k = w1.heap.size := e; omega) (fun e => e.elim))))
    have o12 : ∀ k, blk (.slice aV 1 cV) k → w.heap.size ≤ k := fun k hk => (b12 k hk).elim (fun e => e.elim) (fun e => Nat.le_trans H10.out.2.2.1.t.size e)
    have hM10 : M10.length = (M N.length).length := by have := congrArg List.length H10.out.2.2.2.1; simpa using this
    have hMl := hM N.length
    have hz9 := H9.out.2.2.t.size
    have c0 := p12.c0
    have c1 := p12.c1.1
    rw [hTv] at c0
    have hge : decide ((T.length : Int) < (T.length : Int)) = false := by simp
    have ha12 := fun W (hW : Below _ (w11.setCell ⟨w1.heap.size, 4, none⟩ (.slice aV 1 cV)) W) => ps_add (p12.below hW) hT ⟨27, t3t, ⟨#[]⟩, 0, .slice aV 1 cV, [(r N.length : Int)], t0a⟩ (m12.kid.below hW) (by simp; omega)
    have H12 := Hid.mk7 (And.intro m12 (And.intro S12 o12))
    clear m12 p12 T12 b12 S12 o12 ho11 T11 hv11 c11 f11
    generalize w11.setCell _ _ = w12 at H12 ha12 c0 c1 ⊢
    go_wp2_with fail
    rw [rounds_succ]
    go_wp2_with fail
    go_quiet (fail)
    obtain ⟨n0, n1, n2, n3, n4', n5, _, _, _, _, _⟩ := H12.out.1
    go_wp2_with fail
    refine (ha12 _ (drewN_below w12 _)).mono ?_
    rintro x w13 ⟨rfl, Nv13, p13, S13⟩
    have H13 := Hid.mk7 (And.intro p13 ((Stp.ofB (drewN_below w12 _)).trans S13))
    clear p13 S13 ha12 n0 n1 n2 n3 n4' n5 c0 c1
    go_wp2
    go_ret
    refine ⟨by simp, Nv13, M10 ++ [⟨27, t3t, ⟨#[]⟩, 0, .slice aV 1 cV, [(r N.length : Int)], t0a⟩], by simp [H10.out.2.2.2.1, Nd.sh], fun n hn q hq => ?_, by simpa [List.append_assoc] using H13.out.1, H12.out.2.1.trans H13.out.2⟩
    simp only [List.mem_append, List.mem_cons, List.not_mem_nil, or_false] at hn
    rcases hn with hn | rfl
    · exact Nat.le_trans hz9 (H10.out.2.2.2.2 n hn q hq)
    · exact H12.out.2.2 q hq
end Go.Proofs.YtlgkjjbefoeabaaGreatDoor
