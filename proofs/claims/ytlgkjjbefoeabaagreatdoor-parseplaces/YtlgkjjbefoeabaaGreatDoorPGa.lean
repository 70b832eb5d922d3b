/-
  Layer 11 (parse): what stands behind a clause's pattern.
-/
import Derived.Test.YtlgkjjbefoeabaaGreatDoorPG9
namespace Go.Proofs.YtlgkjjbefoeabaaGreatDoor
open Go.RowKit

theorem Ok2.fin {T : List Tk} {α : Type} {V : α → α → List Sh → Prop} {d : Int} {m : PM α} {s t : Ps} {a : α} (h : Ok2 T V d m m s s) (hd : 0 ≤ d) (hc : Cnt T s) (e : m s = .ok (a, t)) : S2 T t t ∧ Cnt T t ∧ s.i ≤ t.i := by
  rcases h with ⟨x, h1, _⟩ | ⟨a1, a2, t1, t2, h1, h2, h3, h4, h5, M, h6, h7⟩
  · rw [e] at h1; cases h1
  · rw [e] at h1 h2
    obtain ⟨rfl, rfl⟩ : a = a1 ∧ t = t1 := by simpa using h1
    obtain ⟨rfl, rfl⟩ : a = a2 ∧ t = t2 := by simpa using h2
    refine ⟨h3, ?_, h5⟩
    unfold Cnt at hc ⊢
    have := h3.il
    rw [h6]
    simp
    omega
/-- A node that is being made, and how far the parser has come. -/
structure MkI (T : List Tk) (w wr : World) (g : Nat) (Tv Nv : Value) (N : List Nd) (s : Ps) (Nv1 : Value) (M1 : List Nd) (q : Nat) (nk : Int) (nt nm : ByteArray) (nn : Int) (V : Value) (l : List Int) (na : Int) : Prop where
  rg : Rg T w wr g Tv Nv N s Nv1 M1
  bx : Making wr g Tv Nv1 (N ++ M1) q nk nt nm nn V l na
  vw : ∀ k, blk V k → w.heap.size ≤ k
  qw : w.heap.size ≤ q
section
variable {T : List Tk} {w wr w2 : World} {g : Nat} {Tv Nv Nv1 Nv2 : Value} {N M1 M3 : List Nd} {s t : Ps} {q : Nat} {nk : Int} {nt nm : ByteArray} {nn : Int} {V V2 : Value} {l : List Int} {na : Int}
theorem MkI.to (h : MkI T w wr g Tv Nv N s Nv1 M1 q nk nt nm nn V l na) (r : Rg T w w2 g Tv Nv N t Nv1 M1) (S : Stp g Nv1 Nv1 wr w2) : MkI T w w2 g Tv Nv N t Nv1 M1 q nk nt nm nn V l na := ⟨r, h.bx.stepN S, h.vw, h.qw⟩
theorem MkI.rd (h : MkI T w wr g Tv Nv N s Nv1 M1 q nk nt nm nn V l na) {a : Nat} {x : Ending} {w3 : World} (hb : Below wr.heap.size wr w3) (hr : Rd T w3 g Tv Nv1 (N ++ M1) (.ok (a, t)) x w2) : x = .returned (.int .i64 (a : Nat)) ∧ ∃ Nv2 M2, MkI T w w2 g Tv Nv N t Nv2 M2 q nk nt nm nn V l na := by
  obtain ⟨e, Nv2, M2, r, S, M3, rfl, o⟩ := (h.rg.below hb).rd hr
  have m3 := (h.bx.stepN (Stp.ofB hb)).step S o
  rw [List.append_assoc] at m3
  exact ⟨e, Nv2, M1 ++ M3, r, m3, h.vw, h.qw⟩
theorem MkI.more (h : MkI T w wr g Tv Nv N s Nv1 M1 q nk nt nm nn V l na) (hT : 0 < T.length) {w3 w4 : World} {x : Int} (hb : Below wr.heap.size wr w3) (ho : OwnK 1 w4 V2 (l.length + 1) (ints l ++ ints [x])) (Tt : Turned (blk V) w3 w4) (hv : ∀ k, blk V2 k → blk V k ∨ k = w3.heap.size) : MkI T w (w4.setCell ⟨q, 4, none⟩ V2) g Tv Nv N s Nv1 M1 q nk nt nm nn V2 (l ++ [x]) na := by
  obtain ⟨m, p, T2, v⟩ := h.bx.more h.rg.ps.at_ hT hb ho Tt hv
  refine ⟨h.rg.mine (fun k e => ?_) p T2, m, fun k hk => (v k hk).elim (h.vw k) (fun e => Nat.le_trans h.rg.size e), h.qw⟩
  rcases e with e | e
  · exact e ▸ h.qw
  · exact h.vw k e
theorem MkI.kd (h : MkI T w wr g Tv Nv N s Nv1 M1 q nk nt nm nn V l na) : Kd T w wr g Tv Nv1 (N ++ M1) V l := ⟨h.bx.own, fun k hk => ⟨h.vw k hk, h.bx.fv k hk⟩⟩
theorem MkI.cell (h : MkI T w wr g Tv Nv N s Nv1 M1 q nk nt nm nn V l na) {w3 w4 : World} (hb : Below wr.heap.size wr w3) (T4 : Turned (blk V) w3 w4) : w4.cell? ⟨q, 4, none⟩ = some V ∧ w4.frozen? ⟨q, 4, none⟩ = false ∧ q < w4.heap.size := by
  have c := T4.cell ((hb.cell (p := ⟨q, 4, none⟩) h.bx.lt).trans h.bx.n4) h.bx.qv
  exact ⟨c, ((T4.frozen (p := ⟨q, 4, none⟩) (Nat.lt_of_lt_of_le h.bx.lt hb.size) h.bx.qv).trans (hb.frozen (p := ⟨q, 4, none⟩) h.bx.lt)).trans (h.bx.fz 4), World.block_lt_of_cell? w4 _ c⟩
theorem MkI.of_new (h : PS w g Tv T Nv N s) (hT : 0 < T.length) (nk : Int) (nt nm : ByteArray) (nn na : Int) : MkI T w (w.alloc (.cells #[.int .i64 nk, .string nt, .string nm, .int .i64 nn, .slice none 0 0, .int .i64 na] 47)) g Tv Nv N s Nv [] w.heap.size nk nt nm nn (.slice none 0 0) [] na :=
  ⟨(Rg.refl h).below (Below.alloc0 _ _), by rw [List.append_nil]; exact Making.new h.at_ hT nk nt nm nn na, fun _ e => e.elim, Nat.le_refl _⟩
end
/-- Where a region has ended in a panic nothing is left to be walked. -/
theorem idle_of {G : Prop} (w : World) (t : G) (_ : wpAny Tryz.prog .any #[] (fun _ _ _ => True) 0 #[] ⟨#[], []⟩ w) : G := t
theorem below_dr (w : World) (o : Obj) : Below w.heap.size w (w.drew.alloc o) := ((Below.refl _ _).drew).trans ((Below.alloc0 _ o).mono (Nat.le_refl _))
set_option maxRecDepth 100000 in
set_option maxHeartbeats 6400000 in
theorem rd_rest {T : List Tk} {rec : Ph → PM Nat} {s : Ps} (nk : Int) (nt nm : ByteArray) (nn na : Int) (pat : Nat) (hg : Runs T 147 [] (rec .guard) (s.i + 1)) (hgF : Fwd T (rec .guard)) (hb : Runs T 148 [] (rec .body) (s.i + 1)) (hT : 0 < T.length)
    (hfin : ∀ a t, rest T rec ⟨nk, nt, nm, nn, [], na⟩ pat s = .ok (a, t) → S2 T t t ∧ Cnt T t) {w : World} {g : Nat} {Tv Nv : Value} {N : List Nd} (h : PS w g Tv T Nv N s) :
    Calls Tryz.prog 134 #[.pointer (some ⟨g, 0, none⟩), .agg #[.int .i64 nk, .string nt, .string nm, .int .i64 nn, .slice none 0 0, .int .i64 na], .int .i64 (pat : Int)] w (Rd T w g Tv Nv N (rest T rec ⟨nk, nt, nm, nn, [], na⟩ pat s)) := by
  obtain ⟨res, hres⟩ : ∃ res, rest T rec ⟨nk, nt, nm, nn, [], na⟩ pat s = res := ⟨_, rfl⟩
  rw [hres]
  have HQ := Hid.mk7 hres
  have htl := h.at_.tl
  have hgl := h.at_.lt
  have HP := Hid.mk7 (And.intro hg (And.intro hb (And.intro hfin (And.intro hgF h.ok))))
  have HX := Hid.mk7 (fun o1 => SlI.one (w.alloc o1) (pat : Int) 3)
  simp only [World.size_alloc] at HX
  have hf1 : (0 + [(pat : Int)].length) * 8 ≤ 140737488355328 := by simp
  have hf2 : 0 + [(pat : Int)].length ≤ 4611686018427387903 := by simp
  have HM1 := Hid.mk7 (MkI.of_new h hT nk nt nm nn na)
  clear hres hg hgF hb hfin h
  go_enter Tryz.func134, Tryz.ntmps134
  go_wp2_with (at_builtin; refine wpList_append_k (by rfl) (.tmp 8) (.tmp 10) (by rfl) Tryz.intTypes (by rfl) (by rfl) (OwnK.nil 1 _) (HX.out _) (ints_one _) hf1 hf2 ?_; intro V1 w1 ho1 ht1 hv1; obtain ⟨aV1, cV1, hV1, _, _⟩ := ho1.sl.form; subst hV1; obtain ⟨⟨n0, n1, n2, n3, n4, n5⟩, nf⟩ := newNode2 ht1; have f4 := nf 4)
  have mk2 := HM1.out.more (l := []) (V2 := .slice aV1 1 cV1) hT (Below.alloc0 _ _) ho1 ht1 hv1
  have c2 := rg_isWord mk2.rg ⟨#[119, 104, 101, 110]⟩
  have H2 := Hid.mk7 mk2
  clear mk2 ho1 ht1 hv1 n0 n1 n2 n3 n4 n5 nf f4 HM1 HX hf1 hf2
  cases hw : wrd T ⟨#[119, 104, 101, 110]⟩ s.i with
  | false =>
    rw [hw] at c2
    refine c2.mono ?_
    rintro x w3 ⟨rfl, r3, hb3⟩
    have HK := Hid.mk7 (H2.out.to r3 (Stp.ofB hb3))
    clear c2 r3 hb3 H2
    cases h2 : sgn T ⟨#[45, 62]⟩ s.i with
    | false =>
      have hre : res = .error s.i := by rw [← HQ.out]; simp [rest, PM.bind, pIf, pNeed, PM.ret, hw, h2]
      subst hre
      have c4 := rg_sign_bad HK.out.rg h2
      go_wp2_with fail
      refine c4.mono ?_
      rintro x w4 ⟨rfl, T4⟩
      exact ⟨rfl, rfl, T4⟩
    | true =>
      have c4 := rg_sign HK.out.rg h2
      unfold Tkn at c4
      generalize (tokAt T s.i).val = tv4 at c4
      go_wp2_with fail
      refine c4.mono ?_
      rintro x w4 ⟨rfl, r4, T4⟩
      have mk4 := HK.out.to r4 (Stp.ofG T4)
      have hE4 := fun W (hW : Below w4.heap.size w4 W) => HP.out.2.1 ⟨s.i + 1, s.N⟩ (by have := Nat.le_refl s.i; show s.i + 1 ≤ s.i + 1; omega) W g Tv _ _ (r4.below hW).ps
      have n4 := mk4.bx.n4
      have H4 := Hid.mk7 mk4
      have HS := Hid.mk7 h2
      clear c4 r4 T4 mk4 HK h2
      cases hb2 : rec .body ⟨s.i + 1, s.N⟩ with
      | error e =>
        have hre : res = .error e := by rw [← HQ.out]; simp [rest, PM.bind, pIf, pNeed, PM.ret, hw, HS.out, hb2]
        subst hre
        simp only [hb2] at hE4
        clear hb2
        go_wp2_with fail
        go_region_law (rw [if_pos (by rfl)]; go_simp; go_at_call 148; refine (hE4 _ (Below.refl _ _).drew).mono ?_; rintro x w5 ⟨rfl, T5⟩; refine idle_of w5 ⟨rfl, rfl, (H4.out.rg.below (Below.refl _ _).drew).bad T5⟩ ?_)
        all_goals trivial
      | ok bt =>
        obtain ⟨bk, t2⟩ := bt
        have hre : rest T rec ⟨nk, nt, nm, nn, [], na⟩ pat s = .ok (t2.N.length, ⟨t2.i, t2.N ++ [⟨nk, nt, nm, nn, [(pat : Int)] ++ [(bk : Int)], na⟩]⟩) := by simp [rest, PM.bind, pIf, pNeed, PM.ret, hw, HS.out, hb2, pAdd]
        obtain ⟨q1, q2⟩ := HP.out.2.2.1 _ _ hre
        have hre2 : res = .ok (t2.N.length, ⟨t2.i, t2.N ++ [⟨nk, nt, nm, nn, [(pat : Int)] ++ [(bk : Int)], na⟩]⟩) := HQ.out.symm.trans hre
        subst hre2
        have HF := Hid.mk7 (And.intro q1 q2)
        simp only [hb2] at hE4
        clear hb2 hre q1 q2
        go_wp2_with fail
        go_region_law (first
          | (rw [if_pos (by rfl)]; go_simp; go_at_call 148; refine (hE4 _ (Below.refl _ _).drew).mono ?_; intro x w5 hx; obtain ⟨rfl, Nv5, M5, m5⟩ := H4.out.rd (Below.refl _ _).drew hx; have k5 := m5.bx.n4; have q5 := m5.bx.lt; have H5 := Hid.mk7 m5; clear hx m5; dsimp only)
          | (refine step_append_k (by rfl) (.tmp 32) (.tmp 35) (by rfl) Tryz.intTypes (by rfl) (by rfl) (OwnK.turned H5.out.bx.own (Turned.alloc (fun _ => False) _ _) (fun _ _ e => e)) (SlI.one w5 _ _) (ints_one _) (by simp) (by simp) ?_; intro V6 w6 ho6 T6 hv6; obtain ⟨aV6, cV6, hV6, _, _⟩ := ho6.sl.form; subst hV6; obtain ⟨c6, f6, l6⟩ := H5.out.cell (Below.alloc0 w5 _) T6))
        all_goals
          have mk7 := H5.out.more (V2 := .slice aV6 2 cV6) hT (Below.alloc0 w5 _) ho6 T6 hv6
          have c7 := rg_add mk7.rg hT ⟨nk, nt, nm, nn, .slice aV6 2 cV6, [(pat : Int)] ++ [(bk : Int)], na⟩ mk7.kd HF.out.1 HF.out.2
          simp only [Nd.val] at c7
          obtain ⟨n0, n1, n2, n3, n4', n5, _, _, _, _, _⟩ := mk7.bx
          clear mk7 ho6 T6 hv6 c6 f6
          generalize w6.setCell _ _ = w7 at c7 n0 n1 n2 n3 n4' n5 ⊢
          go_wp2_with fail
          refine c7.mono ?_
          rintro x w8 ⟨rfl, Nv8, r8, _⟩
          have H8 := Hid.mk7 r8
          clear r8 c7 n0 n1 n2 n3 n4' n5
          go_wp2
          go_ret
          exact H8.out.of
  | true =>
    rw [hw] at c2
    have hlt := wrd_lt hw
    refine c2.mono ?_
    rintro x w3 ⟨rfl, r3, hb3⟩
    have mk3 := H2.out.to r3 (Stp.ofB hb3)
    have c1 := r3.ps.at_.c1.1
    have f1 := r3.ps.at_.c1.2
    have r4 := r3.skip 1 hlt
    have mk4 := mk3.to r4 (Stp.ofG (Turned.set1 w3 g 1 _))
    rw [show ((s.i + 1 : Nat) : Int) = (s.i : Int) + 1 by omega] at r4 mk4
    have hE4 := fun W (hW : Below _ _ W) => HP.out.1 ⟨s.i + 1, s.N⟩ (Nat.le_refl _) W g Tv _ _ (r4.below hW).ps
    have n4 := mk4.bx.n4
    have hr4 := r4.ps
    have HK4 := Hid.mk7 mk4
    clear c2 r3 hb3 H2 mk3 mk4 r4
    cases hg2 : rec .guard ⟨s.i + 1, s.N⟩ with
    | error e =>
      have hre : res = .error e := by rw [← HQ.out]; simp [rest, PM.bind, pIf, pSkip, hw, hg2]
      subst hre
      simp only [hg2] at hE4
      clear hg2 hr4
      go_wp2_with fail
      generalize w3.setCell _ _ = w4 at HK4 hE4 n4 ⊢
      go_region_law (rw [if_pos (by rfl)]; go_simp; go_at_call 147; refine (hE4 _ (Below.refl _ _).drew).mono ?_; rintro x w5 ⟨rfl, T5⟩; refine idle_of w5 ⟨rfl, rfl, (HK4.out.rg.below (Below.refl _ _).drew).bad T5⟩ ?_)
      all_goals trivial
    | ok gt =>
      obtain ⟨gk, t1⟩ := gt
      obtain ⟨_, _, hit, _⟩ := HP.out.2.2.2.1.ok hr4.ok hr4.cnt hg2
      have hg3 := hg2
      simp only [hg2] at hE4
      have HG := Hid.mk7 (And.intro hg3 hit)
      clear hg2 hg3 hr4 hit
      go_wp2_with fail
      generalize w3.setCell _ _ = w4 at HK4 hE4 n4 ⊢
      go_region_law (first
        | (rw [if_pos (by rfl)]; go_simp; go_at_call 147; refine (hE4 _ (Below.refl _ _).drew).mono ?_; intro x w5 hx; obtain ⟨rfl, Nv5, M5, m5⟩ := HK4.out.rd (Below.refl _ _).drew hx; have k5 := m5.bx.n4; have q5 := m5.bx.lt; have H5 := Hid.mk7 m5; clear hx m5; dsimp only)
        | (refine step_append_k (by rfl) (.tmp 23) (.tmp 26) (by rfl) Tryz.intTypes (by rfl) (by rfl) (OwnK.turned H5.out.bx.own (Turned.alloc (fun _ => False) _ _) (fun _ _ e => e)) (SlI.one w5 _ _) (ints_one _) (by simp) (by simp) ?_; intro V6 w6 ho6 T6 hv6; obtain ⟨aV6, cV6, hV6, _, _⟩ := ho6.sl.form; subst hV6; obtain ⟨c6, f6, l6⟩ := H5.out.cell (Below.alloc0 w5 _) T6))
      all_goals
        have HK := Hid.mk7 (H5.out.more (V2 := .slice aV6 2 cV6) hT (Below.alloc0 w5 _) ho6 T6 hv6)
        clear ho6 T6 hv6 c6 f6 l6 k5 q5 H5
        generalize w6.setCell _ _ = w7 at HK ⊢
        cases h2 : sgn T ⟨#[45, 62]⟩ t1.i with
        | false =>
          have hre : res = .error t1.i := by rw [← HQ.out]; simp [rest, PM.bind, pIf, pNeed, PM.ret, hw, pSkip, HG.out.1, h2]
          subst hre
          have c4 := rg_sign_bad HK.out.rg h2
          go_wp2_with fail
          refine c4.mono ?_
          rintro x w4 ⟨rfl, T4⟩
          exact ⟨rfl, rfl, T4⟩
        | true =>
          have c4 := rg_sign HK.out.rg h2
          unfold Tkn at c4
          generalize (tokAt T t1.i).val = tv4 at c4
          go_wp2_with fail
          refine c4.mono ?_
          rintro x w4 ⟨rfl, r4, T4⟩
          have mk4 := HK.out.to r4 (Stp.ofG T4)
          have hE4 := fun W (hW : Below w4.heap.size w4 W) => HP.out.2.1 ⟨t1.i + 1, t1.N⟩ (by have := (show s.i + 1 < t1.i from HG.out.2); show s.i + 1 ≤ t1.i + 1; omega) W g Tv _ _ (r4.below hW).ps
          have n4 := mk4.bx.n4
          have H4 := Hid.mk7 mk4
          have HS := Hid.mk7 h2
          clear c4 r4 T4 mk4 HK h2
          cases hb2 : rec .body ⟨t1.i + 1, t1.N⟩ with
          | error e =>
            have hre : res = .error e := by rw [← HQ.out]; simp [rest, PM.bind, pIf, pNeed, PM.ret, hw, pSkip, HG.out.1, HS.out, hb2]
            subst hre
            simp only [hb2] at hE4
            clear hb2
            go_wp2_with fail
            go_region_law (rw [if_pos (by rfl)]; go_simp; go_at_call 148; refine (hE4 _ (Below.refl _ _).drew).mono ?_; rintro x w5 ⟨rfl, T5⟩; refine idle_of w5 ⟨rfl, rfl, (H4.out.rg.below (Below.refl _ _).drew).bad T5⟩ ?_)
            all_goals trivial
          | ok bt =>
            obtain ⟨bk, t2⟩ := bt
            have hre : rest T rec ⟨nk, nt, nm, nn, [], na⟩ pat s = .ok (t2.N.length, ⟨t2.i, t2.N ++ [⟨nk, nt, nm, nn, [(pat : Int), (gk : Int)] ++ [(bk : Int)], na⟩]⟩) := by simp [rest, PM.bind, pIf, pNeed, PM.ret, hw, pSkip, HG.out.1, HS.out, hb2, pAdd]
            obtain ⟨q1, q2⟩ := HP.out.2.2.1 _ _ hre
            have hre2 : res = .ok (t2.N.length, ⟨t2.i, t2.N ++ [⟨nk, nt, nm, nn, [(pat : Int), (gk : Int)] ++ [(bk : Int)], na⟩]⟩) := HQ.out.symm.trans hre
            subst hre2
            have HF := Hid.mk7 (And.intro q1 q2)
            simp only [hb2] at hE4
            clear hb2 hre q1 q2
            go_wp2_with fail
            go_region_law (first
              | (rw [if_pos (by rfl)]; go_simp; go_at_call 148; refine (hE4 _ (Below.refl _ _).drew).mono ?_; intro x w5 hx; obtain ⟨rfl, Nv5, M5, m5⟩ := H4.out.rd (Below.refl _ _).drew hx; have k5 := m5.bx.n4; have q5 := m5.bx.lt; have H5 := Hid.mk7 m5; clear hx m5; dsimp only)
              | (refine step_append_k (by rfl) (.tmp 32) (.tmp 35) (by rfl) Tryz.intTypes (by rfl) (by rfl) (OwnK.turned H5.out.bx.own (Turned.alloc (fun _ => False) _ _) (fun _ _ e => e)) (SlI.one w5 _ _) (ints_one _) (by simp) (by simp) ?_; intro V6 w6 ho6 T6 hv6; obtain ⟨aV6, cV6, hV6, _, _⟩ := ho6.sl.form; subst hV6; obtain ⟨c6, f6, l6⟩ := H5.out.cell (Below.alloc0 w5 _) T6))
            all_goals
              have mk7 := H5.out.more (V2 := .slice aV6 3 cV6) hT (Below.alloc0 w5 _) ho6 T6 hv6
              have c7 := rg_add mk7.rg hT ⟨nk, nt, nm, nn, .slice aV6 3 cV6, [(pat : Int), (gk : Int)] ++ [(bk : Int)], na⟩ mk7.kd HF.out.1 HF.out.2
              simp only [Nd.val] at c7
              obtain ⟨n0, n1, n2, n3, n4', n5, _, _, _, _, _⟩ := mk7.bx
              clear mk7 ho6 T6 hv6 c6 f6
              generalize w6.setCell _ _ = w7 at c7 n0 n1 n2 n3 n4' n5 ⊢
              go_wp2_with fail
              refine c7.mono ?_
              rintro x w8 ⟨rfl, Nv8, r8, _⟩
              have H8 := Hid.mk7 r8
              clear r8 c7 n0 n1 n2 n3 n4' n5
              go_wp2
              go_ret
              exact H8.out.of
end Go.Proofs.YtlgkjjbefoeabaaGreatDoor
