/-
  Layer 11 (parse): the program's parser at any tokens: every phrase, by induction on how deep it may go.
  Layer 11 (parse): programs.
  errors.As at a fault of package api (its contracts after the guide's worked example, whose numbers are turned to this program).
  errors.As at the parser's own panic value (its contracts after the guide's worked example, whose numbers are turned to this program and this type).
  Layer 11 (parse): the parser's run at any tokens, under a deferred recover: its tree, or the fault of the first token that may not stand there.
  Layer 11 (parse): the limits of trees, with what refuses them.
  Layer 11 (parse), of lists alone: no node has more Kids than tokens allow.
  Layer 11 (parse): the program's Parse at any tokens.
  errors.Is at a fault of package api with nothing under it, and a number of type api.Errno for its target: true just where the fault's Code is that number; the world stays.
  errors.As at a fault of package api, in the words that its callers use; heddlemem.Chain of a fault with nothing under it: one link, with that fault's layer, place and number.
-/
import Derived.Test.YtlgkjjbefoeabaaGreatDoorMa
import Derived.Test.YtlgkjjbefoeabaaGreatDoorPGq
import Derived.Test.YtlgkjjbefoeabaaGreatDoorPGt
import Derived.Test.YtlgkjjbefoeabaaGreatDoorProg
import Derived.WalkKit
import Derived.LaidEql
import Derived.Stop.Asserts
import Derived.RowKitTokens
import Derived.Test.YtlgkjjbefoeabaaGreatDoorMc
import Derived.Defers
import Derived.Recover
import Derived.Test.YtlgkjjbefoeabaaGreatDoorPG4
import Derived.WalkSpells
import Derived.OwnWalk
import Derived.Deep.RegionHeld3
import Derived.Deep.AppendLies
import Derived.Deep.DrawnRows
namespace Go.Proofs.YtlgkjjbefoeabaaGreatDoor
open Go.RowKit

/-- How many phrases may stand in a row at one token. -/
def rankOf : Ph → Nat
  | .operand => 1
  | .expr _ => 2
  | .conj => 3
  | .body => 3
  | .clause => 3
  | .cclause => 3
  | .guard => 4
  | .fclause => 1
  | .function => 2
  | .module => 1
  | .export => 1
/-- A phrase, from a token on. -/
def RunsAt (T : List Tk) (F : FuncId) (more : List Value) (m : PM Nat) (s : Ps) : Prop := ∀ w g Tv Nv N, PS w g Tv T Nv N s → Calls Tryz.prog F (Value.pointer (some ⟨g, 0, none⟩) :: more).toArray w (Rd T w g Tv Nv N (m s))
theorem phBody_fin {T : List Tk} {f : Nat} (ph : Ph) (hp : okPh ph) {s : Ps} (hs : S2 T s s) (hc : Cnt T s) : ∀ a t, phBody T (runP T f) ph s = .ok (a, t) → S2 T t t ∧ Cnt T t := fun a t e => by
  have h := phBody_ok2 (Alike.refl T) (rec := runP T f) (rec' := runP T f) (fun ph hp s s' hs => runP_ok2 (Alike.refl T) f ph hp s s' hs) ph hp hs
  have hd := dOf_pos ph
  exact ⟨(h.fin (by omega) hc e).1, (h.fin (by omega) hc e).2.1⟩
theorem phBody_fwd {T : List Tk} (f : Nat) (ph : Ph) (hp : okPh ph) : Fwd T (phBody T (runP T f) ph) := fun _ hs => (phBody_ok2 (Alike.refl T) (rec := runP T f) (rec' := runP T f) (fun ph hp s s' hs => runP_ok2 (Alike.refl T) f ph hp s s' hs) ph hp hs).mono (dOf_pos ph)
theorem Env.single {T : List Tk} {rec : Ph → PM Nat} {i0 : Nat} (E : Env T rec i0) {t : Ps} (ht : S2 T t t) (hc : Cnt T t) : ∀ a u, single T rec (tokAt T t.i) t = .ok (a, u) → S2 T u u ∧ Cnt T u := fun _ _ e => ⟨((single_ok2 (Alike.refl T) E.ok2 ht).fin (by omega) hc e).1, ((single_ok2 (Alike.refl T) E.ok2 ht).fin (by omega) hc e).2.1⟩
theorem fcOk {T : List Tk} (f : Nat) : FcOk T (runP T f .fclause) := by
  intro s a t hs e
  cases f with
  | zero => cases e
  | succ f =>
    have hR := fun ph hp s s' hs => runP_ok2 (Alike.refl T) f ph hp s s' hs
    simp only [runP] at e
    cases h1 : knd T 1 s.i with
    | false => simp [phBody, PM.bind, pNeed, h1] at e
    | true =>
      cases h2 : arguments T (runP T f) ⟨s.i + 1, s.N⟩ with
      | error x => simp [phBody, PM.bind, pNeed, h1, pTok, h2] at e
      | ok ku =>
        obtain ⟨ks, u⟩ := ku
        simp only [phBody, PM.bind, pNeed, h1, if_true, pTok, h2, pAdd] at e
        generalize u.N.length = p at e
        generalize (⟨u.i, u.N ++ _⟩ : Ps) = v at e
        unfold rest at e
        cases h3 : pIf (wrd T ⟨#[119, 104, 101, 110]⟩) (PM.bind (pSkip 1) fun _ => PM.bind (runP T f .guard) fun k => PM.ret [(p : Int), (k : Int)]) (PM.ret [(p : Int)]) v with
        | error x => simp [PM.bind, h3] at e
        | ok kv =>
          obtain ⟨kids, v2⟩ := kv
          have hk : ∃ r, kids = (p : Int) :: r := by
            cases h4 : wrd T ⟨#[119, 104, 101, 110]⟩ v.i with
            | false =>
              simp [pIf, h4, PM.ret] at h3
              exact ⟨[], h3.1.symm⟩
            | true =>
              cases h5 : runP T f .guard ⟨v.i + 1, v.N⟩ with
              | error x => simp [pIf, h4, PM.bind, pSkip, h5] at h3
              | ok gv =>
                obtain ⟨k, v3⟩ := gv
                simp [pIf, h4, PM.bind, pSkip, h5, PM.ret] at h3
                exact ⟨[(k : Int)], h3.1.symm⟩
          obtain ⟨r, rfl⟩ := hk
          cases h6 : sgn T ⟨#[45, 62]⟩ v2.i with
          | false => simp [PM.bind, h3, pNeed, h6] at e
          | true =>
            cases h7 : runP T f .body ⟨v2.i + 1, v2.N⟩ with
            | error x => simp [PM.bind, h3, pNeed, h6, h7] at e
            | ok bv =>
              obtain ⟨b, v4⟩ := bv
              simp only [PM.bind, h3, pNeed, h6, if_true, h7, pAdd, Except.ok.injEq, Prod.mk.injEq] at e
              obtain ⟨rfl, rfl⟩ := e
              exact ⟨(p : Int), r ++ [(b : Int)], by simp⟩
theorem rd_all {T : List Tk} (hT : 0 < T.length) : ∀ (f : Nat) (ph : Ph), okPh ph → ∀ s : Ps, 8 * (T.length - s.i) + rankOf ph ≤ f → RunsAt T (fnOf ph) (moreOf ph) (runP T f ph) s
  | 0, ph, _, s, hf => by
    exfalso
    cases ph <;> simp [rankOf] at hf
  | f + 1, ph, hp, s, hf => by
    intro w g Tv Nv N h
    have hil := h.ok.il
    -- all phrases behind this token
    have E : Env T (runP T f) (s.i + 1) := ⟨fun ph hp s s' hs => runP_ok2 (Alike.refl T) f ph hp s s' hs, fun ph2 hp2 s2 hs2 w2 g2 Tv2 Nv2 N2 h2 => by
      have := h2.ok.il
      exact rd_all hT f ph2 hp2 s2 (by have : rankOf ph2 ≤ 4 := by cases ph2 <;> simp [rankOf]
                                       omega) w2 g2 Tv2 Nv2 N2 h2⟩
    -- phrases of a lower rank at this token
    have L : ∀ ph2, okPh ph2 → rankOf ph2 < rankOf ph → Runs T (fnOf ph2) (moreOf ph2) (runP T f ph2) s.i := fun ph2 hp2 hr s2 hs2 w2 g2 Tv2 Nv2 N2 h2 => by
      have := h2.ok.il
      exact rd_all hT f ph2 hp2 s2 (by omega) w2 g2 Tv2 Nv2 N2 h2
    have hfin := phBody_fin (f := f) ph hp h.ok h.cnt
    show Calls Tryz.prog _ _ w (Rd T w g Tv Nv N (phBody T (runP T f) ph s))
    cases ph with
    | module => exact rd_module E hfin h
    | «export» => exact rd_export hfin h
    | function => exact rd_function hT (E.fwd .fclause trivial) (L .fclause trivial (by simp [rankOf])) (fun s s' hs => runP_ok2 (Alike.refl T) f .fclause trivial s s' hs) (fcOk f) hfin h
    | fclause => exact rd_fclause E h
    | clause => exact rd_clause E (rd_whole (L (.expr 1) (by simp [okPh]) (by simp [rankOf]))) h
    | cclause => exact rd_cclause hT E (rd_whole (L (.expr 1) (by simp [okPh]) (by simp [rankOf]))) h
    | conj => exact rd_conjunction (E.fwd (.expr 1) (by simp [okPh])) (rd_whole (L (.expr 1) (by simp [okPh]) (by simp [rankOf]))) (phBody_fwd f .conj trivial) h
    | guard => exact rd_guard (E.fwd .conj trivial) (L .conj trivial (by simp [rankOf])) (phBody_fwd f .guard trivial) h
    | body => exact rd_body (E.fwd (.expr 1) (by simp [okPh])) (rd_whole (L (.expr 1) (by simp [okPh]) (by simp [rankOf]))) (phBody_fwd f .body trivial) h
    | operand => exact rd_operand E hfin (fun w g Tv Nv N h => rd_single E (E.single h.ok h.cnt) h) h
    | expr l => exact rd_expr l hp hT E (L .operand trivial (by simp [rankOf])) h
end Go.Proofs.YtlgkjjbefoeabaaGreatDoor
namespace Go.Proofs.YtlgkjjbefoeabaaGreatDoor
open Go.RowKit

section
variable {T : List Tk} {rec : Ph → PM Nat} {s t : Ps} {f : Nat} {acc : List Int}
theorem modsL_stop (hf : 0 < f) (h : ¬ s.i < T.length) : modsL T rec f acc s = .ok (acc, s) := by
  cases f with
  | zero => omega
  | succ f => simp [modsL, pIf, h, PM.ret]
theorem modsL_bad (hf : 0 < f) (h : s.i < T.length) {e : Nat} (he : rec .module s = .error e) : modsL T rec f acc s = .error e := by
  cases f with
  | zero => omega
  | succ f => simp [modsL, pIf, h, PM.bind, he]
theorem modsL_next (hf : 0 < f) (h : s.i < T.length) {a : Nat} (he : rec .module s = .ok (a, t)) : modsL T rec f acc s = modsL T rec (f - 1) (acc ++ [(a : Int)]) t := by
  cases f with
  | zero => omega
  | succ f => simp [modsL, pIf, h, PM.bind, he]
end
/-- The state of the loop over modules. -/
structure ProI (T : List Tk) (rec : Ph → PM Nat) (w wr : World) (g : Nat) (Tv Nv : Value) (N : List Nd) (i0 : Nat) (res : Except Nat (Nat × Ps)) (q : Nat) (na : Int) (s1 : Ps) (acc : List Int) (f : Nat) (Nv1 : Value) (M1 : List Nd) (V : Value) : Prop where
  i : i0 ≤ s1.i
  fuel : T.length - s1.i < f
  eq : PM.bind (modsL T rec f acc) (fun ks => pAdd ⟨28, ⟨#[]⟩, ⟨#[]⟩, 0, ks, na⟩) s1 = res
  mki : MkI T w wr g Tv Nv N s1 Nv1 M1 q 28 ⟨#[]⟩ ⟨#[]⟩ 0 V acc na
  al : acc.length ≤ s1.i
set_option maxRecDepth 100000 in
set_option maxHeartbeats 6400000 in
theorem rd_program {T : List Tk} {rec : Ph → PM Nat} {s : Ps} (hm : Fwd T (rec .module)) (hR : Runs T 77 [] (rec .module) s.i) (hfin : ∀ a t, programP T rec s = .ok (a, t) → S2 T t t ∧ Cnt T t) {w : World} {g : Nat} {Tv Nv : Value} {N : List Nd} (h : PS w g Tv T Nv N s) :
    Calls Tryz.prog 49 #[.pointer (some ⟨g, 0, none⟩)] w (Rd T w g Tv Nv N (programP T rec s)) := by
  obtain ⟨res, hres⟩ : ∃ res, programP T rec s = res := ⟨_, rfl⟩
  rw [hres]
  have HQ := Hid.mk7 hres
  have htl := h.at_.tl
  have hfa := Tryz.tokPlace
  have c1 := rg_peek (Rg.refl h)
  obtain ⟨aT, cT, hTv, _⟩ := h.at_.tok.form
  have HTv := Hid.mk7 hTv
  have HP := Hid.mk7 (And.intro hm (And.intro hR hfin))
  obtain ⟨tk, htk⟩ : ∃ tk, tokAt T s.i = tk := ⟨_, rfl⟩
  rw [htk] at c1
  have HT := Hid.mk7 htk
  clear hres hfin hm hR h hTv htk
  obtain ⟨tk, tt, tn, ta⟩ := tk
  simp only [Tk.val] at c1
  go_enter Tryz.func49, Tryz.ntmps49
  go_wp2_with fail
  refine c1.mono ?_
  rintro x w1 ⟨rfl, r1, _⟩
  have c2 := HP.out.2.1 s (Nat.le_refl _) w1 g Tv _ _ r1.ps
  have c2 : Calls Tryz.prog 77 #[.pointer (some ⟨g, 0, none⟩)] w1 (Rd T w1 g Tv Nv (N ++ []) (rec .module s)) := c2
  have hps := r1.ps
  have HR1 := Hid.mk7 r1
  clear c1 r1
  cases h2 : rec .module s with
  | error e =>
    have hre : res = .error e := by rw [← HQ.out]; simp [programP, PM.bind, pTok, h2]
    subst hre
    rw [h2] at c2
    clear h2 hps
    go_wp2_with fail
    refine c2.mono ?_
    rintro x w2 ⟨rfl, T2⟩
    exact ⟨rfl, rfl, HR1.out.bad T2⟩
  | ok at_ =>
    obtain ⟨a, t⟩ := at_
    obtain ⟨g1, _, g3, _⟩ := HP.out.1.ok hps.ok hps.cnt h2
    have gi := g1.il
    have hT : 0 < T.length := by omega
    have hre : PM.bind (modsL T rec (T.length + 1) [(a : Int)]) (fun ks => pAdd ⟨28, ⟨#[]⟩, ⟨#[]⟩, 0, ks, ta⟩) t = res := by rw [← HQ.out]; simp [programP, PM.bind, pTok, h2, HT.out]
    have HW := Hid.mk7 (And.intro hre g3)
    rw [h2] at c2
    clear h2 hps hre g1 g3 gi
    go_wp2_with fail
    refine c2.mono ?_
    intro x w2 hx
    obtain ⟨rfl, Nv2, M2, r2, _⟩ := HR1.out.rd hx
    have mk3 := MkI.of_kd (r2.below (Below.alloc0 w2 (.cells #[.int .i64 (a : Int)] 3))) (Kd.one r2 hT (a : Int)) hT 28 ⟨#[]⟩ ⟨#[]⟩ 0 ta
    simp only [World.size_alloc] at mk3
    have H0 := Hid.mk7 mk3
    clear c2 hx r2 mk3
    go_wp2_with fail
    go_loopw [] (fun wr => ∃ s1 acc f Nv1 M1 V, ProI T rec w wr g Tv Nv N (s.i + 1) res (w2.heap.size + 1) ta s1 acc f Nv1 M1 V) (fun wr => T.length - posOf wr g)
    case atStart =>
      exact ⟨t, [(a : Int)], T.length + 1, _, _, _, ⟨HW.out.2, by omega, HW.out.1, H0.out, by have := HW.out.2; simp; omega⟩⟩
    case round =>
      clear H0
      obtain ⟨s1, acc, f, Nv3, M3, V, hi, hfu, heq, hmk, hal⟩ := hrel
      obtain ⟨aV, cV, hV, _⟩ := OwnK.sl hmk.bx.own |>.form
      subst hV
      have hf0 : 0 < f := by omega
      have c0 := hmk.rg.ps.at_.c0
      rw [HTv.out] at c0
      have c1 := hmk.rg.ps.at_.c1.1
      have hgl := hmk.rg.ps.at_.lt
      have hil := hmk.rg.ps.ok.il
      have hpos := hmk.rg.ps.at_.pos
      have HI := Hid.mk7 (And.intro hi (And.intro hfu (And.intro heq (And.intro hal (And.intro hpos hil)))))
      have HK := Hid.mk7 hmk
      clear hi hfu heq hal hmk hpos
      obtain ⟨nI, hnI⟩ : ∃ nI : Int, nI = (s1.i : Int) := ⟨_, rfl⟩
      rw [← hnI] at c1
      have HNI := Hid.mk7 hnI
      clear hnI
      by_cases hlt : s1.i < T.length
      · have hltI : decide (nI < (T.length : Int)) = true := by rw [HNI.out]; simp; omega
        have hps := HK.out.rg.ps
        have hE := fun WW (hW : Below wr.heap.size wr WW) => HP.out.2.1 s1 (by have := HI.out.1; omega) WW g Tv _ _ (HK.out.rg.below hW).ps
        have hE : ∀ WW (hW : Below wr.heap.size wr WW), Calls Tryz.prog 77 #[.pointer (some ⟨g, 0, none⟩)] WW (Rd T WW g Tv Nv3 (N ++ M3) (rec .module s1)) := hE
        have n4 := HK.out.bx.n4
        clear hil
        cases hex : rec .module s1 with
        | error e =>
          have hre : res = .error e := by rw [← HI.out.2.2.1]; simp [PM.bind, modsL_bad hf0 hlt hex]
          subst hre
          simp only [hex] at hE
          clear hex hps hlt
          go_wp2_with fail
          go_region
          go_wp2_with fail
          go_region_law (rw [if_pos (by rfl)]; go_simp; go_at_call 77; refine (hE _ (Below.refl _ _).drew.drew).mono ?_; rintro x w10 ⟨rfl, T10⟩; refine idle_of w10 ⟨rfl, rfl, (HK.out.rg.below (Below.refl _ _).drew.drew).bad T10⟩ ?_)
          all_goals trivial
        | ok at_ =>
          obtain ⟨b, u⟩ := at_
          obtain ⟨h5a, _, h5c, _⟩ := HP.out.1.ok hps.ok hps.cnt hex
          have hti := h5a.il
          have hre : PM.bind (modsL T rec (f - 1) (acc ++ [(b : Int)])) (fun ks => pAdd ⟨28, ⟨#[]⟩, ⟨#[]⟩, 0, ks, ta⟩) u = res := by rw [← HI.out.2.2.1]; simp only [PM.bind, modsL_next hf0 hlt hex]
          have hacc := HI.out.2.2.2.1
          have hal : (acc.length + [(b : Int)].length) * 8 ≤ 140737488355328 := by simp; omega
          have hal2 : acc.length + [(b : Int)].length ≤ 4611686018427387903 := by simp; omega
          have HAL := Hid.mk7 (And.intro hal (And.intro hal2 (And.intro hre (And.intro h5c hti))))
          simp only [hex] at hE
          clear hex hps hlt hre h5a h5c hti hacc hal hal2
          go_wp2_with fail
          go_region
          go_wp2_with fail
          go_region_law (first
            | (rw [if_pos (by rfl)]; go_simp; go_at_call 77; refine (hE _ (Below.refl _ _).drew.drew).mono ?_; intro x w10 hx; obtain ⟨rfl, Nv10, M10, mk10⟩ := HK.out.rd (Below.refl _ _).drew.drew hx; have k10 := mk10.bx.n4; have q10 := mk10.bx.lt; have HK10 := Hid.mk7 mk10; clear hx mk10; dsimp only)
            | (refine step_append_k (by rfl) (.tmp 22) (.tmp 25) (by rfl) Tryz.intTypes (by rfl) (by rfl) (OwnK.turned HK10.out.bx.own (Turned.alloc (fun _ => False) _ _) (fun _ _ e => e)) (SlI.one w10 _ _) (ints_one _) HAL.out.1 HAL.out.2.1 ?_; intro V11 w11 ho11 T11 hv11; obtain ⟨aV11, cV11, hV11, _, _⟩ := ho11.sl.form; subst hV11; obtain ⟨c11, f11, l11⟩ := HK10.out.cell (Below.alloc0 w10 _) T11))
          all_goals
            have mk12 := HK10.out.more hT (Below.alloc0 w10 _) ho11 T11 hv11
            have HM := Hid.mk7 mk12
            clear ho11 T11 hv11 c11 f11 l11 k10 q10 HK10 mk12
            generalize w11.setCell _ _ = w12 at HM ⊢
            go_wp2
            go_roundw
            case rel =>
              exact ⟨u, acc ++ [(b : Int)], f - 1, _, _, _, ⟨by have h1 := HI.out.1; have h2 := HAL.out.2.2.2.1; omega, by have h1 := HI.out.2.1; have h2 := HAL.out.2.2.2.1; have h3 := HAL.out.2.2.2.2; omega, HAL.out.2.2.1, HM.out, by have h1 := HI.out.2.2.2.1; have h2 := HAL.out.2.2.2.1; simp; omega⟩⟩
            case measure =>
              rw [HM.out.rg.ps.at_.pos, HI.out.2.2.2.2.1]
              have h2 := HAL.out.2.2.2.1
              have h3 := HAL.out.2.2.2.2
              omega
      · have hltI : decide (nI < (T.length : Int)) = false := by rw [HNI.out]; simp; omega
        have hre : res = .ok (s1.N.length, ⟨s1.i, s1.N ++ [⟨28, ⟨#[]⟩, ⟨#[]⟩, 0, acc, ta⟩]⟩) := by rw [← HI.out.2.2.1]; simp [PM.bind, modsL_stop hf0 hlt, pAdd]
        have HF := Hid.mk7 (HP.out.2.2 _ _ (HQ.out.trans hre))
        subst hre
        have mk5 := HK.out.to (HK.out.rg.below (Below.refl _ _).drew) (Stp.ofB (Below.refl _ _).drew)
        have c9 := rg_add mk5.rg hT ⟨28, ⟨#[]⟩, ⟨#[]⟩, 0, .slice aV acc.length cV, acc, ta⟩ mk5.kd HF.out.1 HF.out.2
        simp only [Nd.val] at c9
        clear hlt hil mk5
        go_wp2_with fail
        go_region
        obtain ⟨n0, n1, n2, n3, n4, n5, _, _, _, _, _⟩ := HK.out.bx
        clear hltI c0 c1
        go_wp2_with fail
        refine c9.mono ?_
        rintro x w9 ⟨rfl, Nv9, r9, _⟩
        have H9 := Hid.mk7 r9
        clear c9 r9 n0 n1 n2 n3 n4 n5
        go_wp2
        go_ret
        exact H9.out.of
end Go.Proofs.YtlgkjjbefoeabaaGreatDoor
namespace Go.Proofs.YtlgkjjbefoeabaaGreatDoor
open Go.RowKit Go.Extern.Stop Go.Stop Go.Extern

theorem as_nil (t : Value) (w : World) :
    Calls Tryz.prog 22 #[.nilIface, t] w fun e w' => e = .returned (.bool false) ∧ w' = w := by
  go_enter Tryz.func22, Tryz.ntmps22
  go_wp2
  go_ret
  exact ⟨rfl, rfl⟩

theorem Tryz.valueOf27 (t : Addr) (w : World) : (ReflectliteValue.unpack (.iface 62 (.pointer (some t)))).run Tryz.prog w
    = .ok (.agg #[.pointer (some ⟨9, 62, none⟩), .pointer (some ⟨w.heap.size, 0, none⟩), .int .u64 150]) (w.alloc (.cells #[.pointer (some t)] 62)) := by kernel_rfl
theorem Tryz.type27 (a : Addr) (w : World) : (ReflectliteValue.methodAny (ReflectliteValue.valueError "reflectlite.Value.Type" 0) (fun t _ _ _ => ReflectliteType.toType t) #[.agg #[.pointer (some ⟨9, 62, none⟩), .pointer (some a), .int .u64 150]]).run Tryz.prog w
    = .ok (.iface 127 (.agg #[.pointer (some ⟨9, 62, none⟩)])) w := by kernel_rfl
theorem Tryz.methodKind (h : Value) (w : World) : (Go.method 344 127 (.agg #[h]) "Kind").run Tryz.prog w = .ok (232, h) w := by kernel_rfl
theorem Tryz.kind27 (w : World) : ((ReflectliteType.abiMethod fun t => (fun a : Nat => Value.int IntKind.u8 (a : Int)) <$> Rtype.kind t) #[.pointer (some ⟨9, 62, none⟩)]).run Tryz.prog w = .ok (.int .u8 22) w := by kernel_rfl
theorem Tryz.kind25 (w : World) : ((ReflectliteType.abiMethod fun t => (fun a : Nat => Value.int IntKind.u8 (a : Int)) <$> Rtype.kind t) #[.pointer (some ⟨9, 60, none⟩)]).run Tryz.prog w = .ok (.int .u8 22) w := by kernel_rfl

theorem rlm (z : Sem Value) (f : TypeId → Addr → Nat → Nat → Sem Value) (v : Value) :
    ReflectliteValue.method z f #[v] = (do match ← ReflectliteValue.parts v with | none => z | some (t, a, fl) => f t a fl (fl % 32)) := rfl
theorem Tryz.parts27 (a : Addr) (w : World) : (ReflectliteValue.parts (.agg #[.pointer (some ⟨9, 62, none⟩), .pointer (some a), .int .u64 150])).run Tryz.prog w = .ok (some (62, a, 150)) w := by kernel_rfl
theorem Tryz.isNil27 (a p : Addr) (W : World) (ha : W.cell? a = some (.pointer (some p))) :
    (ReflectliteValue.method (ReflectliteValue.valueError "reflectlite.Value.IsNil" 0) ReflectliteValue.isNil #[.agg #[.pointer (some ⟨9, 62, none⟩), .pointer (some a), .int .u64 150]]).run Tryz.prog W = .ok (.bool false) W := by
  rw [rlm]
  simp only [Sem.run_bind, Tryz.parts27, Result.andThen]
  simp [ReflectliteValue.isNil, loadVar, isAgg, underlying, Tryz.underlying62, ha, Result.andThen]

theorem Tryz.methodElem (h : Value) (w : World) : (Go.method 344 127 (.agg #[h]) "Elem").run Tryz.prog w = .ok (245, .agg #[h]) w := by kernel_rfl
theorem Tryz.methodImplements (h : Value) (w : World) : (Go.method 344 127 (.agg #[h]) "Implements").run Tryz.prog w = .ok (246, .agg #[h]) w := by kernel_rfl
theorem Tryz.methodAssignableTo (h : Value) (w : World) : (Go.method 344 127 (.agg #[h]) "AssignableTo").run Tryz.prog w = .ok (243, .agg #[h]) w := by kernel_rfl
theorem Tryz.elem27 (w : World) : (ReflectliteType.method ReflectliteType.elem #[.agg #[.pointer (some ⟨9, 62, none⟩)]]).run Tryz.prog w = .ok (.iface 127 (.agg #[.pointer (some ⟨9, 60, none⟩)])) w := by kernel_rfl
theorem Tryz.implements25 (w : World) : (ReflectliteType.relation "Implements" ReflectliteType.implements_ #[.agg #[.pointer (some ⟨9, 60, none⟩)], .iface 127 (.agg #[.pointer (some ⟨9, 30, none⟩)])]).run Tryz.prog w = .ok (.bool true) w := by kernel_rfl
theorem Tryz.typeOf25 (v : Value) (w : World) : (ReflectliteType.typeOf #[.iface 60 v]).run Tryz.prog w = .ok (.iface 127 (.agg #[.pointer (some ⟨9, 60, none⟩)])) w := by kernel_rfl
theorem Tryz.assignable25 (w : World) : (ReflectliteType.relation "AssignableTo" ReflectliteType.assignableTo #[.agg #[.pointer (some ⟨9, 60, none⟩)], .iface 127 (.agg #[.pointer (some ⟨9, 60, none⟩)])]).run Tryz.prog w = .ok (.bool true) w := by kernel_rfl
theorem Tryz.valueOf25 (e : Addr) (w : World) : (ReflectliteValue.unpack (.iface 60 (.pointer (some e)))).run Tryz.prog w
    = .ok (.agg #[.pointer (some ⟨9, 60, none⟩), .pointer (some ⟨w.heap.size, 0, none⟩), .int .u64 150]) (w.alloc (.cells #[.pointer (some e)] 60)) := by kernel_rfl

theorem Tryz.elemOf27 (w : World) : (Rtype.elem? 62).run Tryz.prog w = .ok (some 60) w := by kernel_rfl
theorem Tryz.mk25 (p : Addr) (w : World) : (ReflectliteValue.mk 60 p ReflectliteValue.flagAddr).run Tryz.prog w = .ok (.agg #[.pointer (some ⟨9, 60, none⟩), .pointer (some p), .int .u64 406]) w := by kernel_rfl
theorem Tryz.elemV27 (a p : Addr) (W : World) (ha : W.cell? a = some (.pointer (some p))) :
    (ReflectliteValue.method (ReflectliteValue.valueError "reflectlite.Value.Elem" 0) ReflectliteValue.elem #[.agg #[.pointer (some ⟨9, 62, none⟩), .pointer (some a), .int .u64 150]]).run Tryz.prog W
      = .ok (.agg #[.pointer (some ⟨9, 60, none⟩), .pointer (some p), .int .u64 406]) W := by
  rw [rlm]
  simp only [Sem.run_bind, Tryz.parts27, Result.andThen]
  simp [ReflectliteValue.elem, loadVar, isAgg, underlying, Tryz.underlying62, ha, Result.andThen, Tryz.elemOf27, Tryz.mk25]
theorem rls (v x : Value) : ReflectliteValue.set #[v, x] = (do
    let (some (dst, a, fl), some (src, b, _)) := (← ReflectliteValue.parts v, ← ReflectliteValue.parts x)
      | unsupported (.noEntry "extern/(internal/reflectlite.Value).Set.zeroValue")
    if fl / ReflectliteValue.flagAddr % 2 == 0 then unsupported (.noEntry "extern/(internal/reflectlite.Value).Set.unaddressable")
    let val ← loadVar src b
    if ← Rtype.directlyAssignable dst src then storeVar dst a val
    else if ← Rtype.implements dst src then
      if (← Rtype.kind src) == 20 then
        match val with
        | .nilIface => unsupported (.noEntry "extern/reflectlite: a nil value of one interface type handed on as a value of another")
        | _ => storeVar dst a val
      else storeVar dst a (.iface src val)
    else panicString ("reflectlite.Set: value of type " ++ (← Rtype.spelt src) ++ " is not assignable to type " ++ (← Rtype.spelt dst))
    pure (.tuple #[])) := rfl
theorem Tryz.parts25a (a : Addr) (w : World) : (ReflectliteValue.parts (.agg #[.pointer (some ⟨9, 60, none⟩), .pointer (some a), .int .u64 406])).run Tryz.prog w = .ok (some (60, a, 406)) w := by kernel_rfl
theorem Tryz.parts25 (a : Addr) (w : World) : (ReflectliteValue.parts (.agg #[.pointer (some ⟨9, 60, none⟩), .pointer (some a), .int .u64 150])).run Tryz.prog w = .ok (some (60, a, 150)) w := by kernel_rfl
theorem Tryz.direct25 (w : World) : (Rtype.directlyAssignable 60 60).run Tryz.prog w = .ok true w := by kernel_rfl
theorem Tryz.size25 (w : World) : (sizeOf 60).run Tryz.prog w = .ok 1 w := by kernel_rfl
theorem Tryz.set25 (ta b e : Addr) (old : Value) (W : World) (hb : W.cell? b = some (.pointer (some e))) (ht : W.cell? ta = some old) (hf : W.frozen? ta = false) :
    (ReflectliteValue.set #[.agg #[.pointer (some ⟨9, 60, none⟩), .pointer (some ta), .int .u64 406], .agg #[.pointer (some ⟨9, 60, none⟩), .pointer (some b), .int .u64 150]]).run Tryz.prog W
      = .ok (.tuple #[]) (W.setCell ta (.pointer (some e))) := by
  rw [rls]
  simp only [Sem.run_bind, Tryz.parts25a, Tryz.parts25, Result.andThen]
  simp [ReflectliteValue.flagAddr, loadVar, isAgg, underlying, Tryz.underlying60, hb, Result.andThen, Tryz.direct25, storeVar, Value.cells, storeCells, Addr.add]
  rw [run_store Tryz.prog W ta _ _ (by rfl)]
  simp [ht, hf]

set_option maxHeartbeats 4000000 in
theorem as_hit (e t : Addr) (old : Value) (w : World) (hg : w.cell? ⟨0, 0, none⟩ = some (.iface 127 (.agg #[.pointer (some ⟨9, 30, none⟩)]))) (ht0 : w.cell? t = some old) (hf0 : w.frozen? t = false) :
    Calls Tryz.prog 22 #[.iface 60 (.pointer (some e)), .iface 62 (.pointer (some t))] w fun ev w' => ev = .returned (.bool true) ∧ w' = ((((w.alloc (.cells #[.pointer (some t)] 62)).alloc (.cells #[.pointer (some ⟨9, 62, none⟩), .pointer (some ⟨w.heap.size, 0, none⟩), .int .u64 150] 95)).alloc (.cells #[.pointer (some ⟨9, 62, none⟩), .pointer (some ⟨w.heap.size, 0, none⟩), .int .u64 150] 95)).alloc (.cells #[.pointer (some e)] 60)).setCell t (.pointer (some e)) := by
  have h6 := @run_callFunc_extern Tryz.prog 52 _ (fun args => ReflectliteValue.unpack (args.getD 0 (.tuple #[]))) Tryz.func52 (by kernel_rfl) (by kernel_rfl) (by kernel_rfl) (by kernel_rfl)
  have h7 := @run_callFunc_extern Tryz.prog 53 _ (ReflectliteValue.methodAny (ReflectliteValue.valueError "reflectlite.Value.Type" 0) (fun t _ _ _ => ReflectliteType.toType t)) Tryz.func53 (by kernel_rfl) (by kernel_rfl) (by kernel_rfl) (by kernel_rfl)
  have h8 := @run_callFunc_extern Tryz.prog 54 _ (ReflectliteValue.method (ReflectliteValue.valueError "reflectlite.Value.IsNil" 0) ReflectliteValue.isNil) Tryz.func54 (by kernel_rfl) (by kernel_rfl) (by kernel_rfl) (by kernel_rfl)
  have h27 := @run_callFunc_extern Tryz.prog 232 _ (ReflectliteType.abiMethod fun t => do pure (.int .u8 (← Rtype.kind t))) Tryz.func232 (by kernel_rfl) (by kernel_rfl) (by kernel_rfl) (by kernel_rfl)
  have h37 := @run_callFunc_extern Tryz.prog 245 _ (ReflectliteType.method ReflectliteType.elem) Tryz.func245 (by kernel_rfl) (by kernel_rfl) (by kernel_rfl) (by kernel_rfl)
  have h38 := @run_callFunc_extern Tryz.prog 246 _ (ReflectliteType.relation "Implements" ReflectliteType.implements_) Tryz.func246 (by kernel_rfl) (by kernel_rfl) (by kernel_rfl) (by kernel_rfl)
  have h10 := @run_callFunc_extern Tryz.prog 80 _ ReflectliteType.typeOf Tryz.func80 (by kernel_rfl) (by kernel_rfl) (by kernel_rfl) (by kernel_rfl)
  have h35 := @run_callFunc_extern Tryz.prog 243 _ (ReflectliteType.relation "AssignableTo" ReflectliteType.assignableTo) Tryz.func243 (by kernel_rfl) (by kernel_rfl) (by kernel_rfl) (by kernel_rfl)
  have h11 := @run_callFunc_extern Tryz.prog 81 _ (ReflectliteValue.method (ReflectliteValue.valueError "reflectlite.Value.Elem" 0) ReflectliteValue.elem) Tryz.func81 (by kernel_rfl) (by kernel_rfl) (by kernel_rfl) (by kernel_rfl)
  have h12 := @run_callFunc_extern Tryz.prog 82 _ ReflectliteValue.set Tryz.func82 (by kernel_rfl) (by kernel_rfl) (by kernel_rfl) (by kernel_rfl)
  have tO := Tryz.typeOf25
  have mA := Tryz.methodAssignableTo
  have a25 := Tryz.assignable25
  have v25 := Tryz.valueOf25
  have f6 := Tryz.valueOf27
  have f7 := Tryz.type27
  have mK := Tryz.methodKind
  have mE := Tryz.methodElem
  have mI := Tryz.methodImplements
  have k27 := Tryz.kind27
  have k25 := Tryz.kind25
  have e27 := Tryz.elem27
  have i25 := Tryz.implements25
  have n8 := Tryz.isNil27 ⟨w.heap.size, 0, none⟩ t ((w.alloc (.cells #[.pointer (some t)] 62)).alloc (.cells #[.pointer (some ⟨9, 62, none⟩), .pointer (some ⟨w.heap.size, 0, none⟩), .int .u64 150] 95)) (by simp)
  have hlt : 0 < w.heap.size := by
    rcases Nat.eq_zero_or_pos w.heap.size with h0 | h
    · simp [World.cell?, h0] at hg
    · exact h
  have hg2 : ((w.alloc (.cells #[.pointer (some t)] 62)).alloc (.cells #[.pointer (some ⟨9, 62, none⟩), .pointer (some ⟨w.heap.size, 0, none⟩), .int .u64 150] 95)).cell? ⟨0, 0, none⟩ = some (.iface 127 (.agg #[.pointer (some ⟨9, 30, none⟩)])) := by
    rw [World.cell?_alloc_lt _ _ ⟨0, 0, none⟩ (by simp), World.cell?_alloc_lt _ _ ⟨0, 0, none⟩ hlt]; exact hg
  have htl : t.block < w.heap.size := by
    rcases Nat.lt_or_ge t.block w.heap.size with h | h
    · exact h
    · simp [World.cell?, Array.getElem?_eq_none h] at ht0
  have el := Tryz.elemV27 ⟨w.heap.size, 0, none⟩ t (((w.alloc (.cells #[.pointer (some t)] 62)).alloc (.cells #[.pointer (some ⟨9, 62, none⟩), .pointer (some ⟨w.heap.size, 0, none⟩), .int .u64 150] 95)).alloc (.cells #[.pointer (some ⟨9, 62, none⟩), .pointer (some ⟨w.heap.size, 0, none⟩), .int .u64 150] 95)) (by rw [World.cell?_alloc_lt _ _ ⟨w.heap.size, 0, none⟩ (by simp; omega)]; simp)
  have st := Tryz.set25 t ⟨w.heap.size + 1 + 1 + 1, 0, none⟩ e old ((((w.alloc (.cells #[.pointer (some t)] 62)).alloc (.cells #[.pointer (some ⟨9, 62, none⟩), .pointer (some ⟨w.heap.size, 0, none⟩), .int .u64 150] 95)).alloc (.cells #[.pointer (some ⟨9, 62, none⟩), .pointer (some ⟨w.heap.size, 0, none⟩), .int .u64 150] 95)).alloc (.cells #[.pointer (some e)] 60))
    (by rw [World.cell?_alloc_at _ _ _ _ (by simp)]; rfl)
    (by rw [World.cell?_alloc_lt _ _ t (by simp; omega), World.cell?_alloc_lt _ _ t (by simp; omega), World.cell?_alloc_lt _ _ t (by simp; omega), World.cell?_alloc_lt _ _ t htl]; exact ht0)
    (by rw [World.frozen?_alloc_old _ _ t (by simp; omega), World.frozen?_alloc_old _ _ t (by simp; omega), World.frozen?_alloc_old _ _ t (by simp; omega), World.frozen?_alloc_old _ _ t (Nat.ne_of_lt htl)]; exact hf0)
  go_enter Tryz.func22, Tryz.ntmps22
  go_wp2
  refine wp_loop_rounds 1 ?_
  rw [rounds_succ]
  go_wp2
  go_ret
  exact ⟨rfl, rfl⟩
end Go.Proofs.YtlgkjjbefoeabaaGreatDoor
namespace Go.Proofs.YtlgkjjbefoeabaaGreatDoor
open Go.RowKit Go.Extern.Stop Go.Stop Go.Extern

theorem Tryz.mis_valueOf27 (t : Addr) (w : World) : (ReflectliteValue.unpack (.iface 121 (.pointer (some t)))).run Tryz.prog w
    = .ok (.agg #[.pointer (some ⟨9, 121, none⟩), .pointer (some ⟨w.heap.size, 0, none⟩), .int .u64 150]) (w.alloc (.cells #[.pointer (some t)] 121)) := by kernel_rfl
theorem Tryz.mis_type27 (a : Addr) (w : World) : (ReflectliteValue.methodAny (ReflectliteValue.valueError "reflectlite.Value.Type" 0) (fun t _ _ _ => ReflectliteType.toType t) #[.agg #[.pointer (some ⟨9, 121, none⟩), .pointer (some a), .int .u64 150]]).run Tryz.prog w
    = .ok (.iface 127 (.agg #[.pointer (some ⟨9, 121, none⟩)])) w := by kernel_rfl
theorem Tryz.mis_kind27 (w : World) : ((ReflectliteType.abiMethod fun t => (fun a : Nat => Value.int IntKind.u8 (a : Int)) <$> Rtype.kind t) #[.pointer (some ⟨9, 121, none⟩)]).run Tryz.prog w = .ok (.int .u8 22) w := by kernel_rfl
theorem Tryz.mis_kind25 (w : World) : ((ReflectliteType.abiMethod fun t => (fun a : Nat => Value.int IntKind.u8 (a : Int)) <$> Rtype.kind t) #[.pointer (some ⟨9, 120, none⟩)]).run Tryz.prog w = .ok (.int .u8 2) w := by kernel_rfl

theorem Tryz.mis_parts27 (a : Addr) (w : World) : (ReflectliteValue.parts (.agg #[.pointer (some ⟨9, 121, none⟩), .pointer (some a), .int .u64 150])).run Tryz.prog w = .ok (some (121, a, 150)) w := by kernel_rfl
theorem Tryz.mis_isNil27 (a p : Addr) (W : World) (ha : W.cell? a = some (.pointer (some p))) :
    (ReflectliteValue.method (ReflectliteValue.valueError "reflectlite.Value.IsNil" 0) ReflectliteValue.isNil #[.agg #[.pointer (some ⟨9, 121, none⟩), .pointer (some a), .int .u64 150]]).run Tryz.prog W = .ok (.bool false) W := by
  rw [rlm]
  simp only [Sem.run_bind, Tryz.mis_parts27, Result.andThen]
  simp [ReflectliteValue.isNil, loadVar, isAgg, underlying, Tryz.underlying121, ha, Result.andThen]

theorem Tryz.mis_elem27 (w : World) : (ReflectliteType.method ReflectliteType.elem #[.agg #[.pointer (some ⟨9, 121, none⟩)]]).run Tryz.prog w = .ok (.iface 127 (.agg #[.pointer (some ⟨9, 120, none⟩)])) w := by kernel_rfl
theorem Tryz.mis_implements25 (w : World) : (ReflectliteType.relation "Implements" ReflectliteType.implements_ #[.agg #[.pointer (some ⟨9, 120, none⟩)], .iface 127 (.agg #[.pointer (some ⟨9, 30, none⟩)])]).run Tryz.prog w = .ok (.bool true) w := by kernel_rfl
theorem Tryz.mis_typeOf25 (v : Value) (w : World) : (ReflectliteType.typeOf #[.iface 120 v]).run Tryz.prog w = .ok (.iface 127 (.agg #[.pointer (some ⟨9, 120, none⟩)])) w := by kernel_rfl
theorem Tryz.mis_assignable25 (w : World) : (ReflectliteType.relation "AssignableTo" ReflectliteType.assignableTo #[.agg #[.pointer (some ⟨9, 120, none⟩)], .iface 127 (.agg #[.pointer (some ⟨9, 120, none⟩)])]).run Tryz.prog w = .ok (.bool true) w := by kernel_rfl
theorem Tryz.mis_valueOf25 (e : Int) (w : World) : (ReflectliteValue.unpack (.iface 120 (.int .i64 e))).run Tryz.prog w
    = .ok (.agg #[.pointer (some ⟨9, 120, none⟩), .pointer (some ⟨w.heap.size, 0, none⟩), .int .u64 130]) (w.alloc (.cells #[.int .i64 e] 120)) := by kernel_rfl

theorem Tryz.mis_elemOf27 (w : World) : (Rtype.elem? 121).run Tryz.prog w = .ok (some 120) w := by kernel_rfl
theorem Tryz.mis_mk25 (p : Addr) (w : World) : (ReflectliteValue.mk 120 p ReflectliteValue.flagAddr).run Tryz.prog w = .ok (.agg #[.pointer (some ⟨9, 120, none⟩), .pointer (some p), .int .u64 386]) w := by kernel_rfl
theorem Tryz.mis_elemV27 (a p : Addr) (W : World) (ha : W.cell? a = some (.pointer (some p))) :
    (ReflectliteValue.method (ReflectliteValue.valueError "reflectlite.Value.Elem" 0) ReflectliteValue.elem #[.agg #[.pointer (some ⟨9, 121, none⟩), .pointer (some a), .int .u64 150]]).run Tryz.prog W
      = .ok (.agg #[.pointer (some ⟨9, 120, none⟩), .pointer (some p), .int .u64 386]) W := by
  rw [rlm]
  simp only [Sem.run_bind, Tryz.mis_parts27, Result.andThen]
  simp [ReflectliteValue.elem, loadVar, isAgg, underlying, Tryz.underlying121, ha, Result.andThen, Tryz.mis_elemOf27, Tryz.mis_mk25]
theorem Tryz.mis_parts25a (a : Addr) (w : World) : (ReflectliteValue.parts (.agg #[.pointer (some ⟨9, 120, none⟩), .pointer (some a), .int .u64 386])).run Tryz.prog w = .ok (some (120, a, 386)) w := by kernel_rfl
theorem Tryz.mis_parts25 (a : Addr) (w : World) : (ReflectliteValue.parts (.agg #[.pointer (some ⟨9, 120, none⟩), .pointer (some a), .int .u64 130])).run Tryz.prog w = .ok (some (120, a, 130)) w := by kernel_rfl
theorem Tryz.mis_direct25 (w : World) : (Rtype.directlyAssignable 120 120).run Tryz.prog w = .ok true w := by kernel_rfl
theorem Tryz.mis_size25 (w : World) : (sizeOf 120).run Tryz.prog w = .ok 1 w := by kernel_rfl
theorem Tryz.mis_set25 (ta b : Addr) (e : Int) (old : Value) (W : World) (hb : W.cell? b = some (.int .i64 e)) (ht : W.cell? ta = some old) (hf : W.frozen? ta = false) :
    (ReflectliteValue.set #[.agg #[.pointer (some ⟨9, 120, none⟩), .pointer (some ta), .int .u64 386], .agg #[.pointer (some ⟨9, 120, none⟩), .pointer (some b), .int .u64 130]]).run Tryz.prog W
      = .ok (.tuple #[]) (W.setCell ta (.int .i64 e)) := by
  rw [rls]
  simp only [Sem.run_bind, Tryz.mis_parts25a, Tryz.mis_parts25, Result.andThen]
  simp [ReflectliteValue.flagAddr, loadVar, isAgg, underlying, Tryz.underlying120, hb, Result.andThen, Tryz.mis_direct25, storeVar, Value.cells, storeCells, Addr.add]
  rw [run_store Tryz.prog W ta _ _ (by rfl)]
  simp [ht, hf]

set_option maxHeartbeats 4000000 in
theorem as_mis (e : Int) (t : Addr) (old : Value) (w : World) (hg : w.cell? ⟨0, 0, none⟩ = some (.iface 127 (.agg #[.pointer (some ⟨9, 30, none⟩)]))) (ht0 : w.cell? t = some old) (hf0 : w.frozen? t = false) :
    Calls Tryz.prog 22 #[.iface 120 (.int .i64 e), .iface 121 (.pointer (some t))] w fun ev w' => ev = .returned (.bool true) ∧ w' = ((((w.alloc (.cells #[.pointer (some t)] 121)).alloc (.cells #[.pointer (some ⟨9, 121, none⟩), .pointer (some ⟨w.heap.size, 0, none⟩), .int .u64 150] 95)).alloc (.cells #[.pointer (some ⟨9, 121, none⟩), .pointer (some ⟨w.heap.size, 0, none⟩), .int .u64 150] 95)).alloc (.cells #[.int .i64 e] 120)).setCell t (.int .i64 e) := by
  have h6 := @run_callFunc_extern Tryz.prog 52 _ (fun args => ReflectliteValue.unpack (args.getD 0 (.tuple #[]))) Tryz.func52 (by kernel_rfl) (by kernel_rfl) (by kernel_rfl) (by kernel_rfl)
  have h7 := @run_callFunc_extern Tryz.prog 53 _ (ReflectliteValue.methodAny (ReflectliteValue.valueError "reflectlite.Value.Type" 0) (fun t _ _ _ => ReflectliteType.toType t)) Tryz.func53 (by kernel_rfl) (by kernel_rfl) (by kernel_rfl) (by kernel_rfl)
  have h8 := @run_callFunc_extern Tryz.prog 54 _ (ReflectliteValue.method (ReflectliteValue.valueError "reflectlite.Value.IsNil" 0) ReflectliteValue.isNil) Tryz.func54 (by kernel_rfl) (by kernel_rfl) (by kernel_rfl) (by kernel_rfl)
  have h27 := @run_callFunc_extern Tryz.prog 232 _ (ReflectliteType.abiMethod fun t => do pure (.int .u8 (← Rtype.kind t))) Tryz.func232 (by kernel_rfl) (by kernel_rfl) (by kernel_rfl) (by kernel_rfl)
  have h37 := @run_callFunc_extern Tryz.prog 245 _ (ReflectliteType.method ReflectliteType.elem) Tryz.func245 (by kernel_rfl) (by kernel_rfl) (by kernel_rfl) (by kernel_rfl)
  have h38 := @run_callFunc_extern Tryz.prog 246 _ (ReflectliteType.relation "Implements" ReflectliteType.implements_) Tryz.func246 (by kernel_rfl) (by kernel_rfl) (by kernel_rfl) (by kernel_rfl)
  have h10 := @run_callFunc_extern Tryz.prog 80 _ ReflectliteType.typeOf Tryz.func80 (by kernel_rfl) (by kernel_rfl) (by kernel_rfl) (by kernel_rfl)
  have h35 := @run_callFunc_extern Tryz.prog 243 _ (ReflectliteType.relation "AssignableTo" ReflectliteType.assignableTo) Tryz.func243 (by kernel_rfl) (by kernel_rfl) (by kernel_rfl) (by kernel_rfl)
  have h11 := @run_callFunc_extern Tryz.prog 81 _ (ReflectliteValue.method (ReflectliteValue.valueError "reflectlite.Value.Elem" 0) ReflectliteValue.elem) Tryz.func81 (by kernel_rfl) (by kernel_rfl) (by kernel_rfl) (by kernel_rfl)
  have h12 := @run_callFunc_extern Tryz.prog 82 _ ReflectliteValue.set Tryz.func82 (by kernel_rfl) (by kernel_rfl) (by kernel_rfl) (by kernel_rfl)
  have tO := Tryz.mis_typeOf25
  have mA := Tryz.methodAssignableTo
  have a25 := Tryz.mis_assignable25
  have v25 := Tryz.mis_valueOf25
  have f6 := Tryz.mis_valueOf27
  have f7 := Tryz.mis_type27
  have mK := Tryz.methodKind
  have mE := Tryz.methodElem
  have mI := Tryz.methodImplements
  have k27 := Tryz.mis_kind27
  have k25 := Tryz.mis_kind25
  have e27 := Tryz.mis_elem27
  have i25 := Tryz.mis_implements25
  have n8 := Tryz.mis_isNil27 ⟨w.heap.size, 0, none⟩ t ((w.alloc (.cells #[.pointer (some t)] 121)).alloc (.cells #[.pointer (some ⟨9, 121, none⟩), .pointer (some ⟨w.heap.size, 0, none⟩), .int .u64 150] 95)) (by simp)
  have hlt : 0 < w.heap.size := by
    rcases Nat.eq_zero_or_pos w.heap.size with h0 | h
    · simp [World.cell?, h0] at hg
    · exact h
  have hg2 : ((w.alloc (.cells #[.pointer (some t)] 121)).alloc (.cells #[.pointer (some ⟨9, 121, none⟩), .pointer (some ⟨w.heap.size, 0, none⟩), .int .u64 150] 95)).cell? ⟨0, 0, none⟩ = some (.iface 127 (.agg #[.pointer (some ⟨9, 30, none⟩)])) := by
    rw [World.cell?_alloc_lt _ _ ⟨0, 0, none⟩ (by simp), World.cell?_alloc_lt _ _ ⟨0, 0, none⟩ hlt]; exact hg
  have htl : t.block < w.heap.size := by
    rcases Nat.lt_or_ge t.block w.heap.size with h | h
    · exact h
    · simp [World.cell?, Array.getElem?_eq_none h] at ht0
  have el := Tryz.mis_elemV27 ⟨w.heap.size, 0, none⟩ t (((w.alloc (.cells #[.pointer (some t)] 121)).alloc (.cells #[.pointer (some ⟨9, 121, none⟩), .pointer (some ⟨w.heap.size, 0, none⟩), .int .u64 150] 95)).alloc (.cells #[.pointer (some ⟨9, 121, none⟩), .pointer (some ⟨w.heap.size, 0, none⟩), .int .u64 150] 95)) (by rw [World.cell?_alloc_lt _ _ ⟨w.heap.size, 0, none⟩ (by simp; omega)]; simp)
  have st := Tryz.mis_set25 t ⟨w.heap.size + 1 + 1 + 1, 0, none⟩ e old ((((w.alloc (.cells #[.pointer (some t)] 121)).alloc (.cells #[.pointer (some ⟨9, 121, none⟩), .pointer (some ⟨w.heap.size, 0, none⟩), .int .u64 150] 95)).alloc (.cells #[.pointer (some ⟨9, 121, none⟩), .pointer (some ⟨w.heap.size, 0, none⟩), .int .u64 150] 95)).alloc (.cells #[.int .i64 e] 120))
    (by rw [World.cell?_alloc_at _ _ _ _ (by simp)]; rfl)
    (by rw [World.cell?_alloc_lt _ _ t (by simp; omega), World.cell?_alloc_lt _ _ t (by simp; omega), World.cell?_alloc_lt _ _ t (by simp; omega), World.cell?_alloc_lt _ _ t htl]; exact ht0)
    (by rw [World.frozen?_alloc_old _ _ t (by simp; omega), World.frozen?_alloc_old _ _ t (by simp; omega), World.frozen?_alloc_old _ _ t (by simp; omega), World.frozen?_alloc_old _ _ t (Nat.ne_of_lt htl)]; exact hf0)
  go_enter Tryz.func22, Tryz.ntmps22
  go_wp2
  refine wp_loop_rounds 1 ?_
  rw [rounds_succ]
  go_wp2
  go_ret
  exact ⟨rfl, rfl⟩
end Go.Proofs.YtlgkjjbefoeabaaGreatDoor
namespace Go.Proofs.YtlgkjjbefoeabaaGreatDoor
open Go.RowKit Go.Extern.Stop Go.Stop Go.Extern

/-- The type of errors lies in its variable. -/
def Er (w : World) : Prop := w.cell? ⟨0, 0, none⟩ = some (.iface 127 (.agg #[.pointer (some ⟨9, 30, none⟩)]))
theorem Er.turned {S : Nat → Prop} {w w' : World} (h : Er w) (ht : Turned S w w') (hs : ¬ S 0) : Er w' := ht.cell h hs
theorem Er.below {w w' : World} (h : Er w) (hb : Below w.heap.size w w') : Er w' := (hb.cell (p := ⟨0, 0, none⟩) (World.block_lt_of_cell? w _ h)).trans h
theorem Er.lt {w : World} (h : Er w) : 0 < w.heap.size := World.block_lt_of_cell? w _ h
/-- A fault of layer parse, in a block of its own. -/
def FaultP (B : Nat) (w : World) (v : Value) (a c : Int) : Prop := ∃ pb, B ≤ pb ∧ v = .iface 60 (.pointer (some ⟨pb, 0, none⟩)) ∧ w.cell? ⟨pb, 0, none⟩ = some (.string ⟨#[112, 97, 114, 115, 101]⟩) ∧ w.cell? ⟨pb, 1, none⟩ = some (.int .i64 a) ∧ w.cell? ⟨pb, 2, none⟩ = some (.int .i64 c) ∧ w.cell? ⟨pb, 3, none⟩ = some .nilIface
theorem FaultP.mono {B B' : Nat} {w : World} {v : Value} {a c : Int} (h : FaultP B w v a c) (hB : B' ≤ B) : FaultP B' w v a c := by
  obtain ⟨pb, h1, h2⟩ := h
  exact ⟨pb, Nat.le_trans hB h1, h2⟩
theorem FaultP.below {B : Nat} {w w' : World} {v : Value} {a c : Int} (h : FaultP B w v a c) (hb : Below w.heap.size w w') : FaultP B w' v a c := by
  obtain ⟨pb, h1, h2, h3, h4, h5, h6⟩ := h
  have hl : pb < w.heap.size := World.block_lt_of_cell? w _ h3
  exact ⟨pb, h1, h2, (hb.cell (p := ⟨pb, 0, none⟩) hl).trans h3, (hb.cell (p := ⟨pb, 1, none⟩) hl).trans h4, (hb.cell (p := ⟨pb, 2, none⟩) hl).trans h5, (hb.cell (p := ⟨pb, 3, none⟩) hl).trans h6⟩
theorem ps_refuse (a c : Int) (w : World) : Calls Tryz.prog 18 #[.int .i64 a, .int .i64 c] w fun e w' => ∃ v, e = .returned v ∧ FaultP w.heap.size w' v a c ∧ Below w.heap.size w w' := by
  go_enter Tryz.func18, Tryz.ntmps18
  go_wp2
  go_ret
  exact ⟨_, rfl, ⟨_, Nat.le_refl _, rfl, by simp, by simp, by simp, by simp⟩, (Below.refl _ _).alloc (Nat.le_refl _) _⟩
/-- errors.As of a parser's panic. -/
theorem as_misplaced (e : Int) (tb : Nat) (old : Value) (w : World) (hg : Er w) (ht0 : w.cell? ⟨tb, 0, none⟩ = some old) (hf0 : w.frozen? ⟨tb, 0, none⟩ = false) :
    Calls Tryz.prog 22 #[.iface 120 (.int .i64 e), .iface 121 (.pointer (some ⟨tb, 0, none⟩))] w fun ev w' => ev = .returned (.bool true) ∧ w'.cell? ⟨tb, 0, none⟩ = some (.int .i64 e) ∧ Below tb w w' ∧ w.heap.size < w'.heap.size := by
  have hlt : tb < w.heap.size := World.block_lt_of_cell? w _ ht0
  refine (as_mis e ⟨tb, 0, none⟩ old w hg ht0 hf0).mono ?_
  rintro ev w' ⟨rfl, rfl⟩
  refine ⟨rfl, ?_, ?_, ?_⟩
  · refine World.cell?_setCell_same _ _ _ (u := old) ?_
    rw [World.cell?_alloc_lt _ _ ⟨tb, 0, none⟩ (by simp; omega), World.cell?_alloc_lt _ _ ⟨tb, 0, none⟩ (by simp; omega), World.cell?_alloc_lt _ _ ⟨tb, 0, none⟩ (by simp; omega), World.cell?_alloc_lt _ _ ⟨tb, 0, none⟩ hlt]; exact ht0
  · refine Below.setCell (Below.alloc (Below.alloc (Below.alloc (Below.alloc (Below.refl _ _) ?_ _) ?_ _) ?_ _) ?_ _) ?_ _
    all_goals first | (simp; done) | omega | (simp; omega)
  · simp [World.setCell]; omega
theorem Tryz.misError (v : Value) (xT : TypeId) (w : World) : (Instr.typeAssert (.iface 120 v) xT 30 true).run Tryz.prog w = .ok (.tuple #[.iface 120 v, .bool true]) w := run_typeAssert_hasB Tryz.underlying30 (by kernel_rfl) v xT w
set_option maxRecDepth 100000 in
set_option maxHeartbeats 1600000 in
theorem ps_told (n : Int) (w : World) (hg : Er w) : Calls Tryz.prog 48 #[.iface 120 (.int .i64 n)] w fun e w' => ∃ v, e = .returned v ∧ FaultP w.heap.size w' v n 220 ∧ Below w.heap.size w w' := by
  have hta := Tryz.misError
  have hA := as_misplaced n w.heap.size (.int .i64 0) (w.alloc (.cells #[.int .i64 0] 120)) (hg.below (Below.alloc0 w _)) (by simp) (by rw [World.frozen?_alloc_new])
  go_enter Tryz.func48, Tryz.ntmps48
  go_wp2_with fail
  refine hA.mono ?_
  rintro e w1 ⟨rfl, c1, hb1, hz1⟩
  have HB1 := Hid.mk7 ((Below.alloc0 w (.cells #[.int .i64 0] 120)).trans hb1)
  have hR := ps_refuse n 220 w1
  clear hA hb1 hta
  go_wp2_with fail
  refine hR.mono ?_
  rintro e w2 ⟨v, rfl, hv, hb2⟩
  have H2 := Hid.mk7 (And.intro hv (HB1.out.trans (hb2.mono HB1.out.size)))
  obtain ⟨pb, _, hve, _⟩ := hv
  subst hve
  clear hR hb2 c1
  go_wp2
  go_ret
  exact ⟨_, rfl, H2.out.1.mono HB1.out.size, H2.out.2⟩
set_option maxRecDepth 100000 in
set_option maxHeartbeats 1600000 in
/-- Behind a run that a token has stopped the deferred call tells the fault. -/
theorem ps_catch (a b c : Nat) (x y z : Value) (n : Int) (w : World) (hg : Er w) (ha : Cl w a x) (hb : Cl w b y) (hc : Cl w c z) (hab : a ≠ b) (hac : a ≠ c) (hbc : b ≠ c) (older : List PanicEntry) :
    CallsD Tryz.prog 47 #[.pointer (some ⟨a, 0, none⟩), .pointer (some ⟨b, 0, none⟩), .pointer (some ⟨c, 0, none⟩)] (.panicking ({ v := .iface 120 (.int .i64 n), recovered := false } :: older)) w fun e u' w' => e = .returned (.tuple #[]) ∧ u' = .panicking ({ v := .iface 120 (.int .i64 n), recovered := true } :: older) ∧ ∃ v w1, FaultP w.heap.size w1 v n 220 ∧ Below w.heap.size w w1 ∧ w' = ((w1.setCell ⟨a, 0, none⟩ (.slice none 0 0)).setCell ⟨b, 0, none⟩ (.int .i64 0)).setCell ⟨c, 0, none⟩ v := by
  refine callsD_of_wpS Tryz.func47 rfl fun c₀ cs hu => ?_
  apply wpS_seq
  apply wpS_region
  simp [wpOpsS, go_sem, recoverD, hu, Tryz.ntmps47, Exit.thenS]
  apply wpS_seq
  apply wpS_region
  simp [wpOpsS, go_sem, Array.replicate, Exit.thenS]
  refine wpS_cond (t := true) (by simp [Act.eval]) ?_
  simp only [if_true]
  refine wpS_of_wp ?_
  have hT := ps_told n w hg
  have la := World.block_lt_of_cell? w _ ha.1
  have lb := World.block_lt_of_cell? w _ hb.1
  have lc := World.block_lt_of_cell? w _ hc.1
  go_wp2_with fail
  refine hT.mono ?_
  rintro e w1 ⟨v, rfl, hv, hb1⟩
  have a1 := (Turned.ofBelow (S := fun _ => False) hb1).cell ha.1 (fun e => e)
  have b1 := (Turned.ofBelow (S := fun _ => False) hb1).cell hb.1 (fun e => e)
  have c1 := (Turned.ofBelow (S := fun _ => False) hb1).cell hc.1 (fun e => e)
  have af := ((Turned.ofBelow (S := fun _ => False) hb1).frozen (p := ⟨a, 0, none⟩) la (fun e => e)).trans ha.2
  have bf := ((Turned.ofBelow (S := fun _ => False) hb1).frozen (p := ⟨b, 0, none⟩) lb (fun e => e)).trans hb.2
  have cf := ((Turned.ofBelow (S := fun _ => False) hb1).frozen (p := ⟨c, 0, none⟩) lc (fun e => e)).trans hc.2
  have HV := Hid.mk7 (And.intro hv hb1)
  obtain ⟨pb, _, hve, _⟩ := hv
  subst hve
  clear hT hb1 ha hb hc hg
  go_wp2
  simp [bodyPostS, results, Tryz.results47]
  exact ⟨_, w1, HV.out.1, HV.out.2, rfl⟩
theorem FaultP.turned {B : Nat} {S : Nat → Prop} {w w' : World} {v : Value} {a c : Int} (h : FaultP B w v a c) (ht : Turned S w w') (hs : ∀ k, B ≤ k → ¬ S k) : FaultP B w' v a c := by
  obtain ⟨pb, h1, h2, h3, h4, h5, h6⟩ := h
  exact ⟨pb, h1, h2, ht.cell h3 (hs pb h1), ht.cell h4 (hs pb h1), ht.cell h5 (hs pb h1), ht.cell h6 (hs pb h1)⟩
/-- A parser that was just made, of any tokens. -/
theorem PAt.startA {w : World} {aT : Option Addr} {cT : Nat} {T : List Tk} (hb : ∀ k, blk (.slice aT T.length cT) k → k < w.heap.size) (hT2 : T.length ≤ 65536) (h : SlK 4 w (.slice aT T.length cT) T.length (toks T)) : PAt (w.alloc (.cells #[.slice aT T.length cT, .int .i64 0, .slice none 0 0] 89)) w.heap.size (.slice aT T.length cT) T 0 (.slice none 0 0) [] :=
  ⟨by simp, ⟨by simp, by rw [World.frozen?_alloc_new]⟩, ⟨by simp, by rw [World.frozen?_alloc_new]⟩, h.turned (Turned.alloc (fun _ => False) _ _) (fun _ _ e => e), fun k hk => ⟨by have := hb k hk; omega, fun e => e⟩, OwnK.nil 6 _, fun e => e, fun j hj => absurd hj (Nat.not_lt_zero j), Nat.zero_le _, hT2⟩
/-- What the program's parser makes of tokens, as lists. -/
def treeOf (T : List Tk) : Except Nat (Nat × Ps) := programP T (runP T (8 * T.length + 1)) ⟨0, []⟩
theorem rd_modules (T : List Tk) (f : Nat) (hf : 8 * T.length + 1 ≤ f) : Runs T 77 [] (runP T f .module) 0 := by
  intro s _ w g Tv Nv N h
  by_cases hT : 0 < T.length
  · exact rd_all hT f .module trivial s (by simp [rankOf]; omega) w g Tv Nv N h
  · obtain ⟨f', rfl⟩ : ∃ f', f = f' + 1 := ⟨f - 1, by omega⟩
    exact rd_module ⟨fun ph hp s s' hs => runP_ok2 (Alike.refl T) f' ph hp s s' hs, fun ph hp s2 hs2 w2 g2 Tv2 Nv2 N2 h2 => by have := h2.ok.il; omega⟩ (phBody_fin .module trivial h.ok h.cnt) h
theorem start_ok {T : List Tk} : S2 T ⟨0, []⟩ ⟨0, []⟩ := ⟨rfl, rfl, Nat.zero_le _, fun j hj => absurd hj (Nat.not_lt_zero j)⟩
theorem start_cnt {T : List Tk} (h : T.length ≤ 65536) : Cnt T ⟨0, []⟩ := by
  unfold Cnt
  simp
  omega
/-- What grow tells. -/
def GrowTold (w : World) (r : Except Nat (Nat × Ps)) (x : Ending) (w' : World) : Prop :=
  match r with
  | .error e => ∃ v, x = .returned (.tuple #[.slice none 0 0, .int .i64 0, v]) ∧ FaultP w.heap.size w' v (e : Nat) 220 ∧ Below w.heap.size w w'
  | .ok (a, t) => ∃ Nv N, x = .returned (.tuple #[Nv, .int .i64 (a : Nat), .nilIface]) ∧ N.map Nd.sh = t.N ∧ NodesAt w' Nv N ∧ Below w.heap.size w w' ∧ (∀ k, blk Nv k → w.heap.size ≤ k) ∧ ∀ n ∈ N, ∀ k, blk n.kv k → w.heap.size ≤ k
set_option maxRecDepth 100000 in
set_option maxHeartbeats 6400000 in
theorem rd_grow (T : List Tk) (hT2 : T.length ≤ 65536) {w : World} {Tv : Value} (hg : Er w) (htok : SlK 4 w Tv T.length (toks T)) (hbT : ∀ k, blk Tv k → k < w.heap.size) :
    Calls Tryz.prog 19 #[Tv] w (GrowTold w (treeOf T)) := by
  have hmf := Tryz.makeFn
  obtain ⟨aT, cT, hTv, _⟩ := htok.form
  subst hTv
  have HT := Hid.mk7 (And.intro htok hg)
  obtain ⟨res, hres⟩ : ∃ res, treeOf T = res := ⟨_, rfl⟩
  rw [hres]
  have HQ := Hid.mk7 hres
  clear hres hg
  go_enter_defers Tryz.func19, Tryz.ntmps19
  go_wp2_with fail
  have B3 := ((Below.alloc0 w (.cells #[.slice none 0 0] 28)).trans ((Below.alloc0 _ (.cells #[.int .i64 0] 3)).mono (by simp))).trans ((Below.alloc0 _ (.cells #[.nilIface] 30)).mono (by simp; omega))
  have tok3 := HT.out.1.turned (Turned.ofBelow (S := fun _ => False) B3) (fun _ _ e => e)
  have p4 := PAt.startA (fun k hk => Nat.lt_of_lt_of_le (hbT k hk) B3.size) hT2 tok3
  simp only [World.size_alloc] at p4
  have hps : PS _ _ _ T _ [] ⟨0, []⟩ := ⟨p4, rfl, start_ok, start_cnt hT2⟩
  have hE4 := rd_program (rec := runP T (8 * T.length + 1)) (s := ⟨0, []⟩) (Fwd.of T _ .module trivial) (rd_modules T _ (Nat.le_refl _)) (fun a t e => by
    have h9 := (programP_ok2 (Alike.refl T) (8 * T.length + 1) (start_ok (T := T))).fin (by omega) (start_cnt hT2) e
    exact ⟨h9.1, h9.2.1⟩) hps
  rw [show programP T (runP T (8 * T.length + 1)) ⟨0, []⟩ = res from HQ.out] at hE4
  have l2 := (((Cl.new w (.slice none 0 0) 28).alloc (.cells #[.int .i64 0] 3)).alloc (.cells #[.nilIface] 30)).alloc (.cells #[.slice aT T.length cT, .int .i64 0, .slice none 0 0] 89)
  have l3 := ((Cl.new (w.alloc (.cells #[.slice none 0 0] 28)) (.int .i64 0) 3).alloc (.cells #[.nilIface] 30)).alloc (.cells #[.slice aT T.length cT, .int .i64 0, .slice none 0 0] 89)
  have l4 := (Cl.new ((w.alloc (.cells #[.slice none 0 0] 28)).alloc (.cells #[.int .i64 0] 3)) .nilIface 30).alloc (.cells #[.slice aT T.length cT, .int .i64 0, .slice none 0 0] 89)
  simp only [World.size_alloc] at l3 l4
  have b4 := B3.trans ((Below.alloc0 _ (.cells #[.slice aT T.length cT, .int .i64 0, .slice none 0 0] 89)).mono B3.size)
  have hz4 : w.heap.size + 1 + 1 + 1 + 1 ≤ (((((w.alloc (.cells #[.slice none 0 0] 28)).alloc (.cells #[.int .i64 0] 3)).alloc (.cells #[.nilIface] 30)).alloc (.cells #[.slice aT T.length cT, .int .i64 0, .slice none 0 0] 89))).heap.size := by simp
  cases res with
  | error e =>
    refine hE4.mono ?_
    rintro x w5 ⟨rfl, T5⟩
    have m2 := l2.turned T5 (fun e => e.elim (fun e => by omega) (fun e => e))
    have m3 := l3.turned T5 (fun e => e.elim (fun e => by omega) (fun e => e))
    have m4 := l4.turned T5 (fun e => e.elim (fun e => by omega) (fun e => e))
    have b5 := b4.trans (T5.below b4.size (fun k e => e.elim (fun e => by have e : k = w.heap.size + 1 + 1 + 1 := e; omega) (fun e => e.elim)))
    have her := HT.out.2.below b5
    have hz5 := T5.size
    clear hE4 p4 hps tok3 l2 l3 l4
    refine leaves_cons (f := 47) (args := #[.pointer (some ⟨w.heap.size, 0, none⟩), .pointer (some ⟨w.heap.size + 1, 0, none⟩), .pointer (some ⟨w.heap.size + 1 + 1, 0, none⟩)]) (by simp) (by simp [go_sem]) ?_
    refine (ps_catch _ _ _ _ _ _ (e : Nat) w5 her m2 m3 m4 (by omega) (by omega) (by omega) []).mono ?_
    rintro x2 u' w'' ⟨rfl, rfl, v, w6, hv, hb6, rfl⟩
    have n2 := m2.turned (Turned.ofBelow (S := fun _ => False) hb6) (fun e => e)
    have n3 := m3.turned (Turned.ofBelow (S := fun _ => False) hb6) (fun e => e)
    have n4 := m4.turned (Turned.ofBelow (S := fun _ => False) hb6) (fun e => e)
    have Ta := Turned.set1 w6 w.heap.size 0 (.slice none 0 0)
    have Tb := Turned.set1 (w6.setCell ⟨w.heap.size, 0, none⟩ (.slice none 0 0)) (w.heap.size + 1) 0 (.int .i64 0)
    have Tc := Turned.set1 ((w6.setCell ⟨w.heap.size, 0, none⟩ (.slice none 0 0)).setCell ⟨w.heap.size + 1, 0, none⟩ (.int .i64 0)) (w.heap.size + 1 + 1) 0 v
    have z2 := Tc.cell (Tb.cell (World.cell?_setCell_same w6 ⟨w.heap.size, 0, none⟩ (.slice none 0 0) n2.1) (fun e => by have e : w.heap.size = w.heap.size + 1 := e; omega)) (fun e => by have e : w.heap.size = w.heap.size + 1 + 1 := e; omega)
    have z3 := Tc.cell (World.cell?_setCell_same _ ⟨w.heap.size + 1, 0, none⟩ (.int .i64 0) (Ta.cell n3.1 (fun e => by have e : w.heap.size + 1 = w.heap.size := e; omega))) (fun e => by have e : w.heap.size + 1 = w.heap.size + 1 + 1 := e; omega)
    have z4 := World.cell?_setCell_same _ ⟨w.heap.size + 1 + 1, 0, none⟩ v (Tb.cell (Ta.cell n4.1 (fun e => by have e : w.heap.size + 1 + 1 = w.heap.size := e; omega)) (fun e => by have e : w.heap.size + 1 + 1 = w.heap.size + 1 := e; omega))
    have TT : Turned (fun k => k = w.heap.size ∨ k = w.heap.size + 1 ∨ k = w.heap.size + 1 + 1) w6 _ := ((Ta.mono (fun _ e => .inl (.inl e))).trans Tb (fun _ e => .inl (.inr (.inl e)))).trans Tc (fun _ e => .inl (.inr (.inr e)))
    have hv7 := (hv.turned TT (fun k hk e => by have e : k = w.heap.size ∨ k = w.heap.size + 1 ∨ k = w.heap.size + 1 + 1 := e; omega)).mono (B' := w.heap.size) (by omega)
    have b6 := b5.trans (hb6.mono b5.size)
    have b7 := b6.trans (TT.below b6.size (fun k e => by have e : k = w.heap.size ∨ k = w.heap.size + 1 ∨ k = w.heap.size + 1 + 1 := e; omega))
    simp [Leaves, settle, results, Tryz.results19, go_sem, z2, z3, z4]
    exact ⟨v, rfl, hv7, b7⟩
  | ok at_ =>
    obtain ⟨r, t⟩ := at_
    refine hE4.mono ?_
    rintro x w5 ⟨rfl, Nv5, M5, o5, ps5, S5⟩
    rw [List.nil_append] at ps5
    have p5 := ps5.at_
    obtain ⟨q2, f2⟩ := l2.turned S5.t (fun e => e.elim (fun e => by omega) (fun e => e))
    obtain ⟨q3, f3⟩ := l3.turned S5.t (fun e => e.elim (fun e => by omega) (fun e => e))
    obtain ⟨q4, f4⟩ := l4.turned S5.t (fun e => e.elim (fun e => by omega) (fun e => e))
    have c2 := p5.c2.1
    obtain ⟨aN, cN, hNv, _⟩ := p5.own.sl.form
    subst hNv
    have H5 := Hid.mk7 (And.intro ps5.n (And.intro o5 (And.intro p5 S5)))
    clear hE4 p4 hps tok3 o5 p5 ps5 S5 l2 l3 l4
    go_wp2_with fail
    go_region
    go_wp2
    have Ta := Turned.set1 w5 (w.heap.size + 1) 0 (.int .i64 (r : Int))
    have Tb := Turned.set1 (w5.setCell ⟨w.heap.size + 1, 0, none⟩ (.int .i64 (r : Int))) w.heap.size 0 (.slice aN M5.length cN)
    have Tc := Turned.set1 ((w5.setCell ⟨w.heap.size + 1, 0, none⟩ (.int .i64 (r : Int))).setCell ⟨w.heap.size, 0, none⟩ (.slice aN M5.length cN)) (w.heap.size + 1) 0 (.int .i64 (r : Int))
    have Td := Turned.set1 (((w5.setCell ⟨w.heap.size + 1, 0, none⟩ (.int .i64 (r : Int))).setCell ⟨w.heap.size, 0, none⟩ (.slice aN M5.length cN)).setCell ⟨w.heap.size + 1, 0, none⟩ (.int .i64 (r : Int))) (w.heap.size + 1 + 1) 0 .nilIface
    have y2 := World.cell?_setCell_same (w5.setCell ⟨w.heap.size + 1, 0, none⟩ (.int .i64 (r : Int))) ⟨w.heap.size, 0, none⟩ (.slice aN M5.length cN) (Ta.cell q2 (fun e => by have e : w.heap.size = w.heap.size + 1 := e; omega))
    have z2 := Td.cell (Tc.cell y2 (fun e => by have e : w.heap.size = w.heap.size + 1 := e; omega)) (fun e => by have e : w.heap.size = w.heap.size + 1 + 1 := e; omega)
    have x3 := World.cell?_setCell_same w5 ⟨w.heap.size + 1, 0, none⟩ (.int .i64 (r : Int)) q3
    have y3 := World.cell?_setCell_same _ ⟨w.heap.size + 1, 0, none⟩ (.int .i64 (r : Int)) (Tb.cell x3 (fun e => by have e : w.heap.size + 1 = w.heap.size := e; omega))
    have z3 := Td.cell y3 (fun e => by have e : w.heap.size + 1 = w.heap.size + 1 + 1 := e; omega)
    have z4 := World.cell?_setCell_same _ ⟨w.heap.size + 1 + 1, 0, none⟩ .nilIface (Tc.cell (Tb.cell (Ta.cell q4 (fun e => by have e : w.heap.size + 1 + 1 = w.heap.size + 1 := e; omega)) (fun e => by have e : w.heap.size + 1 + 1 = w.heap.size := e; omega)) (fun e => by have e : w.heap.size + 1 + 1 = w.heap.size + 1 := e; omega))
    have TT : Turned (fun k => k = w.heap.size ∨ k = w.heap.size + 1 ∨ k = w.heap.size + 1 + 1) w5 _ := (((Ta.mono (fun _ e => .inl (.inr (.inl e)))).trans Tb (fun _ e => .inl (.inl e))).trans Tc (fun _ e => .inl (.inr (.inl e)))).trans Td (fun _ e => .inl (.inr (.inr e)))
    have HF := Hid.mk7 TT
    clear Ta Tb Tc Td y2 x3 y3 TT q2 q3 q4 f2 f3 f4 c2
    generalize (((w5.setCell ⟨w.heap.size + 1, 0, none⟩ (.int .i64 (r : Int))).setCell ⟨w.heap.size, 0, none⟩ (.slice aN M5.length cN)).setCell ⟨w.heap.size + 1, 0, none⟩ (.int .i64 (r : Int))).setCell ⟨w.heap.size + 1 + 1, 0, none⟩ .nilIface = w9 at HF z2 z3 z4 ⊢
    refine leaves_cons (f := 47) (args := #[.pointer (some ⟨w.heap.size, 0, none⟩), .pointer (some ⟨w.heap.size + 1, 0, none⟩), .pointer (some ⟨w.heap.size + 1 + 1, 0, none⟩)]) (by simp) (by simp [go_sem]) ?_
    refine (ps_idle _ _ _ _).mono ?_
    rintro e u' w'' ⟨rfl, rfl, rfl⟩
    simp [Leaves, settle, results, Tryz.results19, go_sem, z2, z3, z4]
    obtain ⟨e5, o5, p5, S5⟩ := H5.out
    have b5 := b4.trans (S5.t.below b4.size (fun k e => e.elim (fun e => by have e : k = w.heap.size + 1 + 1 + 1 := e; omega) (fun e => e.elim)))
    have b9 := b5.trans (HF.out.below b5.size (fun k e => by have e : k = w.heap.size ∨ k = w.heap.size + 1 ∨ k = w.heap.size + 1 + 1 := e; omega))
    have hn5 : ∀ k, blk (.slice aN M5.length cN) k → w.heap.size + 1 + 1 + 1 + 1 ≤ k := fun k hk => by
      have h9 := (S5.n k hk).elim (fun e => e.elim) id
      exact Nat.le_trans hz4 h9
    have ho5 : ∀ n ∈ M5, ∀ k, blk n.kv k → w.heap.size + 1 + 1 + 1 + 1 ≤ k := fun n hn k hk => Nat.le_trans hz4 (o5 n hn k hk)
    refine ⟨_, M5, rfl, e5, (p5.nodes.turned HF.out (fun k hk e => ?_) (fun j hj k hk e => ?_)).turned (Turned.drew (fun _ => False) _) (fun _ _ e => e) (fun _ _ _ _ e => e), b9.drew, fun k hk => by have := hn5 k hk; omega, fun n hn k hk => by have := ho5 n hn k hk; omega⟩
    · have e : k = w.heap.size ∨ k = w.heap.size + 1 ∨ k = w.heap.size + 1 + 1 := e
      have := hn5 k hk
      omega
    · have e : k = w.heap.size ∨ k = w.heap.size + 1 ∨ k = w.heap.size + 1 + 1 := e
      have := ho5 _ (List.getElem_mem hj) k hk
      omega
end Go.Proofs.YtlgkjjbefoeabaaGreatDoor
namespace Go.Proofs.YtlgkjjbefoeabaaGreatDoor
open Go.RowKit

/-- How high the last node of a row is. -/
def lastH (kids : Nat → List Int) (n : Nat) (tree : List Int) : Int := ((heightsS kids tree (List.replicate n 0))[((tree[tree.length - 1]?).getD 0).toNat]?).getD 0
def limE (kids : Nat → List Int) (n : Nat) (tree : List Int) : Option Int := if 65536 < tree.length then some 5 else if 500 < lastH kids n tree then some 221 else none
def LimTold (w : World) (o : Option Int) (x : Ending) (w' : World) : Prop :=
  match o with
  | none => x = .returned .nilIface ∧ Below w.heap.size w w'
  | some c => ∃ v, x = .returned v ∧ FaultP w.heap.size w' v 0 c ∧ Below w.heap.size w w'
set_option maxRecDepth 100000 in
set_option maxHeartbeats 3200000 in
theorem rd_limit_fits {w : World} {lv tv : Value} {K : List (Value × List Int)} {tree : List Int} (hL : NArg w lv K) (hR : SlA w tv tree) (hK : K.length ≤ 1099511627776) (hin : ∀ i ∈ tree, 0 ≤ i ∧ i < (K.length : Int)) (hkid : ∀ i < K.length, ∀ k ∈ kidsOf K i, 0 ≤ k ∧ k < (K.length : Int)) (ht : tree.length ≤ 65536) (t0 : 0 < tree.length) :
    Calls Tryz.prog 20 #[lv, tv] w (LimTold w (if 500 < lastH (kidsOf K) K.length tree then some 221 else none)) := by
  obtain ⟨ol, hol⟩ : ∃ ol, (if 500 < lastH (kidsOf K) K.length tree then some (221 : Int) else none) = ol := ⟨_, rfl⟩
  rw [hol]
  have HO := Hid.mk7 hol
  clear hol
  obtain ⟨aL, cL, hlv⟩ := hL.form
  subst hlv
  obtain ⟨aR, cR, hrv, hrl⟩ := hR.form
  subst hrv
  have HL := Hid.mk7 hL
  have HR := Hid.mk7 hR
  have HI := Hid.mk7 hin
  have HK := Hid.mk7 hkid
  obtain ⟨w1, hmk, hb1, hz1, hB1⟩ := make_one Tryz.intTypes (by simp [Value.cells]) w K.length (by omega) (by omega)
  have HM := Hid.mk7 (And.intro hb1 (And.intro hz1 (HtAt.new hB1 hz1)))
  have h65 : ¬ (65536 : Int) < (tree.length : Int) := by omega
  clear hL hR hb1 hz1 hB1 hin hkid
  go_enter Tryz.func20, Tryz.ntmps20
  go_wp2_with fail
  clear h65 hmk
  go_loopw [20] (fun ix wr => ∃ (j : Nat) (h : List Int), j ≤ tree.length ∧ ix = .int .i64 j ∧ h.length = K.length ∧ (∀ x ∈ h, 0 ≤ x ∧ x ≤ (j : Int)) ∧ heightsS (kidsOf K) (tree.drop j) h = heightsS (kidsOf K) tree (List.replicate K.length 0) ∧ HtAt wr w.heap.size h ∧ Below w.heap.size w wr) (fun ix _ => tree.length - (intOf ix).toNat)
  case atStart => exact ⟨0, _, Nat.zero_le _, rfl, by simp, fun x hx => by rw [List.mem_replicate] at hx; omega, rfl, HM.out.2.2, HM.out.1⟩
  case round =>
    clear HM
    obtain ⟨j, h, hj, rfl, hlen, hbd, hrest, hht, hb⟩ := hrel
    by_cases hlt : j < tree.length
    · have hji : (j : Int) < (tree.length : Int) := by omega
      obtain ⟨b, off, rfl, hc⟩ := (HR.out.below hb).at j hlt
      obtain ⟨hx0, hx1⟩ := HI.out tree[j] (List.getElem_mem hlt)
      obtain ⟨q, hq⟩ : ∃ q : Nat, tree[j] = (q : Int) := ⟨tree[j].toNat, by omega⟩
      have hqK : q < K.length := by omega
      have hqKi : (q : Int) < (K.length : Int) := by omega
      rw [hq] at hc
      obtain ⟨bL, oL, rfl, hck, hsk⟩ := (HL.out.below hb).at q hqK
      have hkd := HK.out q hqK
      rw [kidsOf_at K q hqK] at hkd
      have hstep := heightsS_drop (kidsOf K) tree j hlt h
      rw [hq, Int.toNat_natCast, kidsOf_at K q hqK] at hstep
      obtain ⟨ak, ck, hkv, hkl⟩ := hsk.form
      have HS := Hid.mk7 hsk
      have HH := Hid.mk7 (And.intro hht (And.intro hb (And.intro hbd (hrest.symm.trans hstep))))
      generalize hkk : K[q].1 = kv at hck hkv HS
      generalize hkx : K[q].2 = kl at hkd hkv HS HH hkl
      subst hkv
      clear hht hb hsk hstep hbd hrest hq
      go_wp2_with fail
      clear hck hc
      go_loopw [8, 30] (fun x8 ix wr2 => ∃ (i : Nat) (x : Int), i ≤ kl.length ∧ ix = .int .i64 i ∧ x8 = .int .i64 x ∧ 0 ≤ x ∧ x ≤ (j : Int) ∧ highest h (kl.drop i) x = highest h kl 0 ∧ wr2 = wr) (fun _ ix _ => kl.length - (intOf ix).toNat)
      case atStart => exact ⟨0, 0, Nat.zero_le _, rfl, rfl, Int.le_refl _, by omega, rfl, rfl⟩
      case round =>
        obtain ⟨i, x, hi, rfl, rfl, hxa, hxb, hrx, rfl⟩ := hrel
        by_cases hil : i < kl.length
        · have hili : (i : Int) < (kl.length : Int) := by omega
          obtain ⟨bk, ok, rfl, hc⟩ := HS.out.at i hil
          obtain ⟨hk0, hk1⟩ := hkd kl[i] (List.getElem_mem hil)
          obtain ⟨y, hy⟩ : ∃ y : Nat, kl[i] = (y : Int) := ⟨kl[i].toNat, by omega⟩
          have hyK : y < h.length := by omega
          have hyKi : (y : Int) < (K.length : Int) := by omega
          rw [hy] at hc
          obtain ⟨cy, fy⟩ := HH.out.1.c y hyK
          have hstep2 := highest_drop h kl i hil x
          rw [hy, Int.toNat_natCast] at hstep2
          have egd : (h[y]?).getD 0 = h[y] := by simp [hyK]
          rw [egd] at hstep2
          obtain ⟨hy0, hy1⟩ := HH.out.2.2.1 h[y] (List.getElem_mem hyK)
          have HX := Hid.mk7 (hrx.symm.trans hstep2)
          generalize h[y] = z at cy hy0 hy1 HX
          clear hrx hstep2 egd hy hk0 hk1
          go_wp2
          go_roundw
          case rel => exact ⟨i + 1, max x z, by omega, by go_num, rfl, by omega, by omega, HX.out.symm, trivial⟩
          case measure => simp [intOf]; omega
        · have hge : ¬ (i : Int) < (kl.length : Int) := by omega
          have he : x = highest h kl 0 := by rw [← hrx, List.drop_of_length_le (by omega)]; rfl
          obtain ⟨cq, fq⟩ := HH.out.1.c q (by omega)
          have hqh : q < h.length := by omega
          have HE := Hid.mk7 he
          have HN := Hid.mk7 (And.intro (HH.out.1.set q hqh (x + 1)) (Turned.toBelow HH.out.2.1 (Turned.set1 _ w.heap.size q (.int .i64 (x + 1))) (Nat.le_refl _)))
          have hbd := Hid.mk7 HH.out.2.2.1
          clear hrx he
          go_wp2
          go_roundw
          case rel =>
            refine ⟨j + 1, h.set q (x + 1), by omega, by go_num, by simpa using hlen, fun y hy => ?_, ?_, HN.out.1, HN.out.2⟩
            · rcases List.mem_or_eq_of_mem_set hy with hy | rfl
              · have := hbd.out y hy; omega
              · omega
            · rw [HE.out]; exact HH.out.2.2.2.symm
          case measure => simp [intOf]; omega
    · have hge : ¬ (j : Int) < (tree.length : Int) := by omega
      have he : h = heightsS (kidsOf K) tree (List.replicate K.length 0) := by rw [← hrest, List.drop_of_length_le (by omega)]; rfl
      have hla : tree.length - 1 < tree.length := by omega
      obtain ⟨b, off, rfl, hc⟩ := (HR.out.below hb).at (tree.length - 1) hla
      obtain ⟨hx0, hx1⟩ := HI.out tree[tree.length - 1] (List.getElem_mem hla)
      obtain ⟨q, hq⟩ : ∃ q : Nat, tree[tree.length - 1] = (q : Int) := ⟨tree[tree.length - 1].toNat, by omega⟩
      have hqh : q < h.length := by omega
      have hqi : (q : Int) < (K.length : Int) := by omega
      obtain ⟨cq, fq⟩ := hht.c q hqh
      have hlst : lastH (kidsOf K) K.length tree = h[q] := by
        unfold lastH
        rw [← he, List.getElem?_eq_getElem hla, Option.getD_some, hq, Int.toNat_natCast]
        simp [hqh]
      have HL2 := Hid.mk7 hlst
      rw [hq] at hc
      have hlen1 : (tree.length : Int) - 1 = ((tree.length - 1 : Nat) : Int) := by omega
      have hlt1 : ((tree.length - 1 : Nat) : Int) < (tree.length : Int) := by omega
      have HB := Hid.mk7 hb
      generalize h[q] = z at cq HL2
      generalize tree.length - 1 = tl at hc hlen1 hlt1
      clear hb hht hrest he hbd hq hlst hx0 hx1 hla
      by_cases h500 : (500 : Int) < z
      · have hoe : ol = some 221 := by rw [← HO.out, HL2.out, if_pos h500]
        subst hoe
        have hR2 := ps_refuse 0 221 wr
        go_wp2_with fail
        refine hR2.mono ?_
        rintro e w2 ⟨v, rfl, hv, hb2⟩
        have H2 := Hid.mk7 (And.intro hv (HB.out.trans (hb2.mono HB.out.size)))
        obtain ⟨pb, _, hve, _⟩ := hv
        subst hve
        clear hR2 hb2 hc cq
        go_wp2
        go_ret
        exact ⟨_, rfl, H2.out.1.mono HB.out.size, H2.out.2⟩
      · have hoe : ol = none := by rw [← HO.out, HL2.out, if_neg h500]
        subst hoe
        go_wp2
        go_ret
        exact ⟨rfl, HB.out⟩
set_option maxRecDepth 100000 in
theorem rd_limit_many {w : World} {lv tv : Value} {K : List (Value × List Int)} {tree : List Int} (hL : NArg w lv K) (hR : SlA w tv tree) (ht : 65536 < tree.length) :
    Calls Tryz.prog 20 #[lv, tv] w (LimTold w (some 5)) := by
  obtain ⟨aL, cL, hlv⟩ := hL.form
  subst hlv
  obtain ⟨aR, cR, hrv, _⟩ := hR.form
  subst hrv
  have h65 : (65536 : Int) < (tree.length : Int) := by omega
  have hR2 := ps_refuse 0 5 w
  clear hL hR ht
  go_enter Tryz.func20, Tryz.ntmps20
  go_wp2_with fail
  refine hR2.mono ?_
  rintro e w2 ⟨v, rfl, hv, hb2⟩
  have H2 := Hid.mk7 (And.intro hv hb2)
  obtain ⟨pb, _, hve, _⟩ := hv
  subst hve
  clear hR2 hb2
  go_wp2
  go_ret
  exact ⟨_, rfl, H2.out.1, H2.out.2⟩
theorem rd_limit {w : World} {lv tv : Value} {K : List (Value × List Int)} {tree : List Int} (hL : NArg w lv K) (hR : SlA w tv tree) (hK : K.length ≤ 1099511627776) (hin : ∀ i ∈ tree, 0 ≤ i ∧ i < (K.length : Int)) (hkid : ∀ i < K.length, ∀ k ∈ kidsOf K i, 0 ≤ k ∧ k < (K.length : Int)) (t0 : 0 < tree.length) :
    Calls Tryz.prog 20 #[lv, tv] w (LimTold w (limE (kidsOf K) K.length tree)) := by
  unfold limE
  by_cases h : 65536 < tree.length
  · rw [if_pos h]
    exact rd_limit_many hL hR h
  · rw [if_neg h]
    exact rd_limit_fits hL hR hK hin hkid (by omega) t0
end Go.Proofs.YtlgkjjbefoeabaaGreatDoor
namespace Go.Proofs.YtlgkjjbefoeabaaGreatDoor

def KB (T : List Tk) : Nat := T.length + 5
def Kl (T : List Tk) (N : List Sh) : Prop := ∀ n ∈ N, n.kids.length ≤ KB T
/-- A run keeps that. -/
def PK {α : Type} (T : List Tk) (V : α → Prop) (m : PM α) : Prop := ∀ s a t, Kl T s.N → m s = .ok (a, t) → Kl T t.N ∧ V a
section
variable {T : List Tk} {α β : Type} {V : α → Prop} {U : β → Prop}
theorem PK.bind {m : PM α} {k : α → PM β} (h : PK T V m) (hk : ∀ a, V a → PK T U (k a)) : PK T U (PM.bind m k) := fun s b u hs e => by
  unfold PM.bind at e
  cases hm : m s with
  | error x => rw [hm] at e; cases e
  | ok at_ =>
    obtain ⟨a, t⟩ := at_
    rw [hm] at e
    obtain ⟨h1, h2⟩ := h s a t hs hm
    exact hk a h2 t b u h1 e
theorem PK.ret {a : α} (h : V a) : PK T V (PM.ret a) := fun s b u hs e => by
  simp only [PM.ret, Except.ok.injEq, Prod.mk.injEq] at e
  obtain ⟨rfl, rfl⟩ := e
  exact ⟨hs, h⟩
theorem PK.tok : PK T (fun _ => True) (pTok T) := fun s b u hs e => by
  simp only [pTok, Except.ok.injEq, Prod.mk.injEq] at e
  obtain ⟨_, rfl⟩ := e
  exact ⟨hs, trivial⟩
theorem PK.skip {n : Nat} : PK T (fun _ => True) (pSkip n) := fun s b u hs e => by
  simp only [pSkip, Except.ok.injEq, Prod.mk.injEq] at e
  obtain ⟨_, rfl⟩ := e
  exact ⟨hs, trivial⟩
theorem PK.need {b : Nat → Bool} : PK T (fun _ => True) (pNeed T b) := fun s c u hs e => by
  unfold pNeed at e
  split at e
  · simp only [Except.ok.injEq, Prod.mk.injEq] at e
    obtain ⟨_, rfl⟩ := e
    exact ⟨hs, trivial⟩
  · cases e
theorem PK.iff {b : Nat → Bool} {m k : PM α} (h1 : PK T V m) (h2 : PK T V k) : PK T V (pIf b m k) := fun s c u hs e => by
  unfold pIf at e
  split at e
  · exact h1 s c u hs e
  · exact h2 s c u hs e
theorem PK.add {x : Sh} (h : x.kids.length ≤ KB T) : PK T (fun _ => True) (pAdd x) := fun s b u hs e => by
  simp only [pAdd, Except.ok.injEq, Prod.mk.injEq] at e
  obtain ⟨_, rfl⟩ := e
  refine ⟨fun n hn => ?_, trivial⟩
  simp only [List.mem_append, List.mem_cons, List.not_mem_nil, or_false] at hn
  rcases hn with hn | rfl
  · exact hs n hn
  · exact h
theorem KB_le {n : Nat} (h : n ≤ T.length + 5) : n ≤ KB T := h
def LB (T : List Tk) (q : Nat) (l : List Int) : Prop := l.length ≤ T.length + q
theorem rowL_pk {x : ByteArray} {ph : PM Nat} (hp : PK T (fun _ => True) ph) : ∀ (f : Nat) (acc : List Int), PK T (fun l => l.length ≤ acc.length + f) (rowL T x ph f acc)
  | 0, acc => PK.ret (by omega)
  | f + 1, acc => by
    unfold rowL
    refine PK.iff (PK.skip.bind fun _ _ => hp.bind fun k _ => ?_) (PK.ret (by omega))
    intro s l t hs e
    obtain ⟨h1, h2⟩ := rowL_pk hp f (acc ++ [(k : Int)]) s l t hs e
    exact ⟨h1, by simp at h2; omega⟩
theorem row_pk {x : ByteArray} {ph : PM Nat} (hp : PK T (fun _ => True) ph) : PK T (LB T 2) (row T x ph) := by
  unfold row
  refine hp.bind fun k _ => ?_
  intro s l t hs e
  obtain ⟨h1, h2⟩ := rowL_pk hp _ _ s l t hs e
  exact ⟨h1, by unfold LB; simp at h2; omega⟩
theorem enclosed_pk {l r : ByteArray} {ph : PM Nat} (hp : PK T (fun _ => True) ph) : PK T (LB T 2) (enclosed T l r ph) := by
  unfold enclosed
  refine PK.need.bind fun _ _ => (PK.iff (V := LB T 2) (PK.ret (by simp [LB])) (row_pk hp)).bind fun ks hk => PK.need.bind fun _ _ => PK.ret hk
end
/-- All phrases but modules. -/
def noMod : Ph → Prop
  | .module => False
  | _ => True
section
variable {T : List Tk} {rec : Ph → PM Nat} (hR : ∀ ph, noMod ph → PK T (fun _ => True) (rec ph))
include hR
theorem whole_pk : PK T (fun _ => True) (whole rec) := hR (.expr 1) trivial
theorem arguments_pk : PK T (LB T 2) (arguments T rec) := enclosed_pk (whole_pk hR)
omit hR in
theorem opSh_len (t : Tk) (a b : Int) : (opSh t [a, b]).kids.length = 2 := by
  unfold opSh
  repeat' split
  all_goals rfl
theorem exprL_pk (least : Int) : ∀ (f : Nat) (m : Int) (l : Nat), PK T (fun _ => True) (exprL T rec least f m l)
  | 0, _, _ => PK.ret trivial
  | f + 1, m, l => by
    unfold exprL
    refine PK.tok.bind fun t _ => ?_
    split
    · exact PK.ret trivial
    · exact PK.skip.bind fun _ _ => (hR (.expr _) trivial).bind fun r _ => (PK.add (KB_le (by rw [opSh_len]; omega))).bind fun k _ => exprL_pk least f _ k
theorem rest_pk (n : Sh) (p : Nat) : PK T (fun _ => True) (rest T rec n p) := by
  unfold rest
  refine (PK.iff (V := fun l : List Int => l.length ≤ 2) (PK.skip.bind fun _ _ => (hR (.guard) trivial).bind fun k _ => PK.ret (by simp)) (PK.ret (by simp))).bind fun ks hk => PK.need.bind fun _ _ => (hR (.body) trivial).bind fun b _ => PK.add (KB_le ?_)
  simp
  omega
theorem named_pk (t : Tk) : PK T (fun _ => True) (named T rec t) := by
  unfold named
  refine PK.skip.bind fun _ _ => (PK.iff (V := fun _ => True) (PK.skip.bind fun _ _ => PK.need.bind fun _ _ => PK.ret trivial) (PK.ret trivial)).bind fun mt _ => ?_
  refine (PK.iff (V := fun kk : Int × List Int => LB T 2 kk.2) ((arguments_pk hR).bind fun ks hk => PK.ret hk) (PK.ret (by simp [LB]))).bind fun kk hk => PK.add (KB_le ?_)
  unfold LB at hk
  simp
  omega
theorem tail_pk : PK T (fun _ => True) (tail T rec) := by
  unfold tail
  exact PK.iff (PK.skip.bind fun _ _ => (whole_pk hR).bind fun _ _ => PK.need.bind fun _ _ => PK.ret trivial) (PK.need.bind fun _ _ => PK.add (by simp))
theorem list_pk : PK T (fun _ => True) (list T rec) := by
  unfold list
  refine PK.need.bind fun _ _ => PK.iff (PK.skip.bind fun _ _ => PK.add (by simp)) ((row_pk (whole_pk hR)).bind fun ks hk => (tail_pk hR).bind fun k _ => PK.add (KB_le ?_))
  unfold LB at hk
  simp
  omega
theorem bracketed_pk (t : Tk) : PK T (fun _ => True) (bracketed T rec t) := by
  unfold bracketed
  split
  · refine (enclosed_pk (whole_pk hR)).bind fun ks hk => PK.add (KB_le ?_)
    unfold LB at hk
    simp
    omega
  · split
    · exact list_pk hR
    · exact PK.need.bind fun _ _ => (whole_pk hR).bind fun _ _ => PK.need.bind fun _ _ => PK.ret trivial
theorem after_pk : PK T (fun _ => True) (after T rec) := by
  unfold after
  exact PK.need.bind fun _ _ => (whole_pk hR).bind fun _ _ => PK.need.bind fun _ _ => (hR (.body) trivial).bind fun _ _ => PK.add (KB_le (by simp))
theorem choices_pk : PK T (LB T 3) (choices T rec) := by
  unfold choices
  refine (PK.iff (V := LB T 2) (PK.ret (by simp [LB])) (row_pk (hR (.clause) trivial))).bind fun ks hk => PK.iff ((after_pk hR).bind fun k _ => PK.ret ?_) (PK.ret ?_)
  · unfold LB at hk ⊢
    simp
    omega
  · unfold LB at hk ⊢
    omega
theorem blockKids_pk (t : Tk) : PK T (fun kk : Int × List Int => LB T 3 kk.2) (blockKids T rec t) := by
  unfold blockKids
  split
  · exact (hR (.body) trivial).bind fun _ _ => PK.ret (by simp [LB])
  · split
    · refine (whole_pk hR).bind fun _ _ => PK.need.bind fun _ _ => (row_pk (hR (.clause) trivial)).bind fun ks hk => PK.ret ?_
      unfold LB at hk ⊢
      simp
      omega
    · split
      · exact (choices_pk hR).bind fun ks hk => PK.ret hk
      · refine (hR (.body) trivial).bind fun _ _ => PK.need.bind fun _ _ => (row_pk (hR (.cclause) trivial)).bind fun ks hk => PK.ret ?_
        unfold LB at hk ⊢
        simp
        omega
theorem block_pk (t : Tk) : PK T (fun _ => True) (block T rec t) := by
  unfold block
  refine PK.need.bind fun _ _ => (blockKids_pk hR t).bind fun kk hk => PK.need.bind fun _ _ => PK.add (KB_le ?_)
  unfold LB at hk
  simp
  omega
theorem single_pk (t : Tk) : PK T (fun _ => True) (single T rec t) := by
  unfold single
  repeat' split
  · exact PK.skip.bind fun _ _ => PK.add (by simp)
  · exact PK.skip.bind fun _ _ => PK.add (by simp)
  · exact named_pk hR t
  · exact bracketed_pk hR t
  · exact block_pk hR t
theorem exports_pk : PK T (LB T 2) (exports T rec) := by
  unfold exports
  exact PK.need.bind fun _ _ => PK.need.bind fun _ _ => PK.need.bind fun _ _ => (enclosed_pk (hR (.export) trivial)).bind fun ks hk => PK.need.bind fun _ _ => PK.need.bind fun _ _ => PK.ret hk
theorem formsL_pk : ∀ (f : Nat) (acc : List Int), PK T (fun _ => True) (formsL T rec f acc)
  | 0, acc => PK.ret trivial
  | f + 1, acc => by
    unfold formsL
    exact PK.iff ((PK.iff (V := LB T 2) (exports_pk hR) ((hR (.function) trivial).bind fun _ _ => PK.ret (by simp [LB]))).bind fun ks _ => formsL_pk f (acc ++ ks)) (PK.ret trivial)
theorem phBody_pk (ph : Ph) (hp : noMod ph) : PK T (fun _ => True) (phBody T rec ph) := by
  cases ph with
  | module => exact hp.elim
  | «export» =>
    unfold phBody
    exact PK.need.bind fun _ _ => PK.need.bind fun _ _ => PK.need.bind fun _ _ => PK.add (by simp)
  | function =>
    unfold phBody
    refine PK.tok.bind fun _ _ => (row_pk (hR (.fclause) trivial)).bind fun ks hk => ?_
    intro s a t hs e
    refine (PK.need.bind fun _ _ => PK.add (KB_le ?_)) s a t hs e
    unfold LB at hk
    simp
    omega
  | fclause =>
    unfold phBody
    refine PK.need.bind fun _ _ => PK.tok.bind fun _ _ => (arguments_pk hR).bind fun ks hk => (PK.add (KB_le ?_)).bind fun k _ => rest_pk hR _ _
    unfold LB at hk
    simp
    omega
  | clause =>
    unfold phBody
    exact PK.tok.bind fun _ _ => (whole_pk hR).bind fun _ _ => rest_pk hR _ _
  | cclause =>
    unfold phBody
    exact PK.tok.bind fun _ _ => (PK.iff (V := fun _ => True) (PK.skip.bind fun _ _ => PK.ret trivial) (PK.ret trivial)).bind fun _ _ => (whole_pk hR).bind fun _ _ => rest_pk hR _ _
  | conj =>
    unfold phBody
    refine PK.tok.bind fun _ _ => (row_pk (whole_pk hR)).bind fun ks hk => PK.add (KB_le ?_)
    unfold LB at hk
    simp
    omega
  | guard =>
    unfold phBody
    refine PK.tok.bind fun _ _ => (row_pk (hR (.conj) trivial)).bind fun ks hk => PK.add (KB_le ?_)
    unfold LB at hk
    simp
    omega
  | body =>
    unfold phBody
    refine PK.tok.bind fun _ _ => (row_pk (whole_pk hR)).bind fun ks hk => PK.add (KB_le ?_)
    unfold LB at hk
    simp
    omega
  | operand =>
    unfold phBody
    refine PK.tok.bind fun t _ => ?_
    split
    · exact PK.skip.bind fun _ _ => (hR (.operand) trivial).bind fun _ _ => PK.add (KB_le (by simp))
    · exact single_pk hR t
  | expr l =>
    unfold phBody
    exact (hR (.operand) trivial).bind fun _ _ => exprL_pk hR l _ _ _
end
theorem runP_pk (T : List Tk) : ∀ (f : Nat) (ph : Ph), noMod ph → PK T (fun _ => True) (runP T f ph)
  | 0, _, _ => fun _ _ _ _ e => by cases e
  | f + 1, ph, hp => phBody_pk (fun ph hp => runP_pk T f ph hp) ph hp
section
variable {T : List Tk}
/-- What an alike run says of one. -/
theorem Ok2.of {α : Type} {V : α → α → List Sh → Prop} {d : Int} {m : PM α} {s t : Ps} {a : α} (h : Ok2 T V d m m s s) (e : m s = .ok (a, t)) : S2 T t t ∧ (d : Int) ≤ 4 * ((t.i : Int) - s.i) := by
  rcases h with ⟨x, h1, _⟩ | ⟨a1, a2, t1, t2, h1, h2, h3, _, _, M, _, h7⟩
  · rw [e] at h1; cases h1
  · rw [e] at h1 h2
    obtain ⟨rfl, rfl⟩ : a = a1 ∧ t = t1 := by simpa using h1
    obtain ⟨rfl, rfl⟩ : a = a2 ∧ t = t2 := by simpa using h2
    exact ⟨h3, by omega⟩
theorem rowL_rel {x : ByteArray} {m : PM Nat} (hm : ∀ s s', S2 T s s' → Ok2 T VN 1 m m s s') : ∀ (f : Nat) (acc : List Int) (s : Ps) (l : List Int) (t : Ps), S2 T s s → rowL T x m f acc s = .ok (l, t) → S2 T t t ∧ l.length + s.i ≤ acc.length + t.i
  | 0, acc, s, l, t, hs, e => by
    simp only [rowL, PM.ret, Except.ok.injEq, Prod.mk.injEq] at e
    obtain ⟨rfl, rfl⟩ := e
    exact ⟨hs, Nat.le_refl _⟩
  | f + 1, acc, s, l, t, hs, e => by
    cases hb : sgn T x s.i with
    | false =>
      simp only [rowL, pIf, hb, PM.ret, Bool.false_eq_true, if_false, Except.ok.injEq, Prod.mk.injEq] at e
      obtain ⟨rfl, rfl⟩ := e
      exact ⟨hs, Nat.le_refl _⟩
    | true =>
      have hn := hs.next (n := 1) (sgn_lt hb)
      cases h1 : m ⟨s.i + 1, s.N⟩ with
      | error y => simp [rowL, pIf, hb, PM.bind, pSkip, h1] at e
      | ok at_ =>
        obtain ⟨a, t1⟩ := at_
        simp only [rowL, pIf, hb, if_true, PM.bind, pSkip, h1] at e
        obtain ⟨g1, g2⟩ := (hm _ _ hn).of h1
        obtain ⟨k1, k2⟩ := rowL_rel hm f _ t1 l t g1 e
        refine ⟨k1, ?_⟩
        simp at k2 g2
        omega
theorem row_rel {x : ByteArray} {m : PM Nat} (hm : ∀ s s', S2 T s s' → Ok2 T VN 1 m m s s') {s t : Ps} {l : List Int} (hs : S2 T s s) (e : row T x m s = .ok (l, t)) : S2 T t t ∧ l.length + s.i ≤ t.i := by
  cases h1 : m s with
  | error y => simp [row, PM.bind, h1] at e
  | ok at_ =>
    obtain ⟨a, t1⟩ := at_
    simp only [row, PM.bind, h1] at e
    obtain ⟨g1, g2⟩ := (hm _ _ hs).of h1
    obtain ⟨k1, k2⟩ := rowL_rel hm _ _ t1 l t g1 e
    refine ⟨k1, ?_⟩
    simp at k2
    omega
theorem enclosed_rel {l r : ByteArray} {m : PM Nat} (hm : ∀ s s', S2 T s s' → Ok2 T VN 1 m m s s') {s t : Ps} {ks : List Int} (hs : S2 T s s) (e : enclosed T l r m s = .ok (ks, t)) : S2 T t t ∧ ks.length + s.i ≤ t.i := by
  cases h1 : sgn T l s.i with
  | false => simp [enclosed, PM.bind, pNeed, h1] at e
  | true =>
    have hn := hs.next (n := 1) (sgn_lt h1)
    cases h2 : sgn T r (s.i + 1) with
    | true =>
      simp [enclosed, PM.bind, pNeed, h1, pIf, h2, PM.ret] at e
      obtain ⟨rfl, rfl⟩ := e
      exact ⟨hn.next (n := 1) (sgn_lt h2), by simp; omega⟩
    | false =>
      cases h3 : row T ⟨#[44]⟩ m ⟨s.i + 1, s.N⟩ with
      | error x => simp [enclosed, PM.bind, pNeed, h1, pIf, h2, h3] at e
      | ok ku =>
        obtain ⟨k2, u⟩ := ku
        obtain ⟨g1, g2⟩ := row_rel hm hn h3
        cases h4 : sgn T r u.i with
        | false => simp [enclosed, PM.bind, pNeed, h1, pIf, h2, h3, h4] at e
        | true =>
          simp [enclosed, PM.bind, pNeed, h1, pIf, h2, h3, h4, PM.ret] at e
          obtain ⟨rfl, rfl⟩ := e
          refine ⟨g1.next (n := 1) (sgn_lt h4), ?_⟩
          simp at g2 ⊢
          omega
variable {rec : Ph → PM Nat} (hR : ∀ ph, okPh ph → ∀ s s', S2 T s s' → Ok2 T VN (dOf ph) (rec ph) (rec ph) s s')
include hR
theorem exports_rel {s t : Ps} {ks : List Int} (hs : S2 T s s) (e : exports T rec s = .ok (ks, t)) : S2 T t t ∧ ks.length + s.i ≤ t.i := by
  cases a1 : sgn T ⟨#[45]⟩ s.i with
  | false => simp [exports, PM.bind, pNeed, a1] at e
  | true =>
    cases a2 : atm T ⟨#[101, 120, 112, 111, 114, 116]⟩ (s.i + 1) with
    | false => simp [exports, PM.bind, pNeed, a1, a2] at e
    | true =>
      cases a3 : sgn T ⟨#[40]⟩ (s.i + 1 + 1) with
      | false => simp [exports, PM.bind, pNeed, a1, a2, a3] at e
      | true =>
        have hn : S2 T ⟨s.i + 1 + 1 + 1, s.N⟩ ⟨s.i + 1 + 1 + 1, s.N⟩ := ((hs.next (n := 1) (sgn_lt a1)).next (n := 1) (atm_lt a2)).next (n := 1) (sgn_lt a3)
        cases a4 : enclosed T ⟨#[91]⟩ ⟨#[93]⟩ (rec .export) ⟨s.i + 1 + 1 + 1, s.N⟩ with
        | error x => simp [exports, PM.bind, pNeed, a1, a2, a3, a4] at e
        | ok ku =>
          obtain ⟨k2, u⟩ := ku
          obtain ⟨l0, l1⟩ := enclosed_rel (fun s s' hs => hR .export trivial s s' hs) hn a4
          cases a5 : sgn T ⟨#[41]⟩ u.i with
          | false => simp [exports, PM.bind, pNeed, a1, a2, a3, a4, a5] at e
          | true =>
            cases a6 : knd T 6 (u.i + 1) with
            | false => simp [exports, PM.bind, pNeed, a1, a2, a3, a4, a5, a6] at e
            | true =>
              simp [exports, PM.bind, pNeed, a1, a2, a3, a4, a5, a6, PM.ret] at e
              obtain ⟨rfl, rfl⟩ := e
              refine ⟨(l0.next (n := 1) (sgn_lt a5)).next (n := 1) (knd_lt (by decide) a6), ?_⟩
              simp at l1 ⊢
              omega
theorem formsL_rel : ∀ (f : Nat) (acc : List Int) (s : Ps) (l : List Int) (t : Ps), S2 T s s → formsL T rec f acc s = .ok (l, t) → S2 T t t ∧ l.length + s.i ≤ acc.length + t.i
  | 0, acc, s, l, t, hs, e => by
    simp only [formsL, PM.ret, Except.ok.injEq, Prod.mk.injEq] at e
    obtain ⟨rfl, rfl⟩ := e
    exact ⟨hs, Nat.le_refl _⟩
  | f + 1, acc, s, l, t, hs, e => by
    cases hc : (decide (s.i < T.length) && !atModule T s.i) with
    | false =>
      simp only [formsL, pIf, hc, PM.ret, Bool.false_eq_true, if_false, Except.ok.injEq, Prod.mk.injEq] at e
      obtain ⟨rfl, rfl⟩ := e
      exact ⟨hs, Nat.le_refl _⟩
    | true =>
      cases hd : sgn T ⟨#[45]⟩ s.i with
      | true =>
        cases h1 : exports T rec s with
        | error y => simp [formsL, pIf, hc, PM.bind, hd, h1] at e
        | ok ku =>
          obtain ⟨ks, u⟩ := ku
          simp only [formsL, pIf, hc, if_true, PM.bind, hd, h1] at e
          obtain ⟨g1, g2⟩ := exports_rel hR hs h1
          obtain ⟨k1, k2⟩ := formsL_rel f _ u l t g1 e
          refine ⟨k1, ?_⟩
          simp at k2
          omega
      | false =>
        cases h1 : rec .function s with
        | error y => simp [formsL, pIf, hc, PM.bind, hd, h1] at e
        | ok au =>
          obtain ⟨a, u⟩ := au
          simp only [formsL, pIf, hc, if_true, PM.bind, hd, Bool.false_eq_true, if_false, h1, PM.ret] at e
          obtain ⟨g1, g2⟩ := (hR .function trivial s s hs).of h1
          obtain ⟨k1, k2⟩ := formsL_rel f _ u l t g1 e
          refine ⟨k1, ?_⟩
          simp [dOf] at k2 g2
          omega
end
theorem module_kl {T : List Tk} (f : Nat) {s t : Ps} {a : Nat} (hs : S2 T s s) (hk : Kl T s.N) (e : runP T f .module s = .ok (a, t)) : Kl T t.N := by
  cases f with
  | zero => cases e
  | succ f =>
    have hR := fun ph hp s s' hs => runP_ok2 (Alike.refl T) f ph hp s s' hs
    simp only [runP] at e
    cases a1 : sgn T ⟨#[45]⟩ s.i with
    | false => simp [phBody, PM.bind, pNeed, a1] at e
    | true =>
      cases a2 : atm T ⟨#[109, 111, 100, 117, 108, 101]⟩ (s.i + 1) with
      | false => simp [phBody, PM.bind, pNeed, a1, a2] at e
      | true =>
        cases a3 : sgn T ⟨#[40]⟩ (s.i + 1 + 1) with
        | false => simp [phBody, PM.bind, pNeed, a1, a2, a3] at e
        | true =>
          cases a4 : knd T 1 (s.i + 1 + 1 + 1) with
          | false => simp [phBody, PM.bind, pNeed, a1, a2, a3, a4] at e
          | true =>
            cases a5 : sgn T ⟨#[41]⟩ (s.i + 1 + 1 + 1 + 1) with
            | false => simp [phBody, PM.bind, pNeed, a1, a2, a3, a4, a5] at e
            | true =>
              cases a6 : knd T 6 (s.i + 1 + 1 + 1 + 1 + 1) with
              | false => simp [phBody, PM.bind, pNeed, a1, a2, a3, a4, a5, a6] at e
              | true =>
                have hn : S2 T ⟨s.i + 1 + 1 + 1 + 1 + 1 + 1, s.N⟩ ⟨s.i + 1 + 1 + 1 + 1 + 1 + 1, s.N⟩ := (((((hs.next (n := 1) (sgn_lt a1)).next (n := 1) (atm_lt a2)).next (n := 1) (sgn_lt a3)).next (n := 1) (knd_lt (by decide) a4)).next (n := 1) (sgn_lt a5)).next (n := 1) (knd_lt (by decide) a6)
                cases a7 : formsL T (runP T f) (T.length + 1) [] ⟨s.i + 1 + 1 + 1 + 1 + 1 + 1, s.N⟩ with
                | error x => simp [phBody, PM.bind, pNeed, a1, a2, a3, a4, a5, a6, a7] at e
                | ok ku =>
                  obtain ⟨ks, u⟩ := ku
                  obtain ⟨g1, g2⟩ := formsL_rel hR _ _ _ _ _ hn a7
                  obtain ⟨k1, _⟩ := formsL_pk (fun ph hp => runP_pk T f ph hp) _ _ _ _ _ (show Kl T (⟨s.i + 1 + 1 + 1 + 1 + 1 + 1, s.N⟩ : Ps).N from hk) a7
                  simp [phBody, PM.bind, pNeed, a1, a2, a3, a4, a5, a6, a7, pAdd] at e
                  obtain ⟨_, rfl⟩ := e
                  have hil := g1.il
                  intro n hn2
                  simp only [List.mem_append, List.mem_cons, List.not_mem_nil, or_false] at hn2
                  rcases hn2 with hn2 | rfl
                  · exact k1 n hn2
                  · simp at g2
                    exact KB_le (by show ks.length ≤ T.length + 5; omega)
theorem modsL_kl {T : List Tk} (q : Nat) : ∀ (f : Nat) (acc : List Int) (s : Ps) (l : List Int) (t : Ps), S2 T s s → Kl T s.N → modsL T (runP T q) f acc s = .ok (l, t) → Kl T t.N ∧ l.length ≤ acc.length + f
  | 0, acc, s, l, t, _, hk, e => by
    simp only [modsL, PM.ret, Except.ok.injEq, Prod.mk.injEq] at e
    obtain ⟨rfl, rfl⟩ := e
    exact ⟨hk, Nat.le_refl _⟩
  | f + 1, acc, s, l, t, hs, hk, e => by
    by_cases hc : s.i < T.length
    · cases h1 : runP T q .module s with
      | error y => simp [modsL, pIf, hc, PM.bind, h1] at e
      | ok au =>
        obtain ⟨a, u⟩ := au
        have e2 : modsL T (runP T q) f (acc ++ [(a : Int)]) u = .ok (l, t) := by simpa [modsL, pIf, hc, PM.bind, h1] using e
        obtain ⟨g1, _⟩ := (runP_ok2 (Alike.refl T) q .module trivial s s hs).of h1
        obtain ⟨k1, k2⟩ := modsL_kl q f _ u l t g1 (module_kl q hs hk h1) e2
        exact ⟨k1, by simp at k2; omega⟩
    · have e2 : PM.ret acc s = .ok (l, t) := by simpa [modsL, pIf, hc] using e
      simp only [PM.ret, Except.ok.injEq, Prod.mk.injEq] at e2
      obtain ⟨rfl, rfl⟩ := e2
      exact ⟨hk, by omega⟩
theorem programP_kl {T : List Tk} (q : Nat) {s t : Ps} {a : Nat} (hs : S2 T s s) (hk : Kl T s.N) (e : programP T (runP T q) s = .ok (a, t)) : Kl T t.N := by
  cases h1 : runP T q .module s with
  | error y => simp [programP, PM.bind, pTok, h1] at e
  | ok au =>
    obtain ⟨b, u⟩ := au
    obtain ⟨g1, _⟩ := (runP_ok2 (Alike.refl T) q .module trivial s s hs).of h1
    have g2 := module_kl q hs hk h1
    cases h2 : modsL T (runP T q) (T.length + 1) [(b : Int)] u with
    | error y => simp [programP, PM.bind, pTok, h1, h2] at e
    | ok kv =>
      obtain ⟨ks, v⟩ := kv
      obtain ⟨g3, g4⟩ := modsL_kl q _ _ u ks v g1 g2 h2
      simp [programP, PM.bind, pTok, h1, h2, pAdd] at e
      obtain ⟨_, rfl⟩ := e
      intro n hn2
      simp only [List.mem_append, List.mem_cons, List.not_mem_nil, or_false] at hn2
      rcases hn2 with hn2 | rfl
      · exact g3 n hn2
      · simp at g4
        exact KB_le (by show ks.length ≤ T.length + 5; omega)
end Go.Proofs.YtlgkjjbefoeabaaGreatDoor
namespace Go.Proofs.YtlgkjjbefoeabaaGreatDoor
open Go.RowKit

def kidsS (N : List Sh) (i : Nat) : List Int := ((N[i]?).map (·.kids)).getD []
theorem kids_ofS {N : List Nd} {L : List Sh} (h : N.map Nd.sh = L) : kidsOf (kvs N) = kidsS L := by
  funext i
  unfold kidsOf kidsS kvs
  rw [← h]
  cases e : N[i]? with
  | none => simp [e]
  | some n => simp [e, Nd.sh]
theorem treeOf_kids {T : List Tk} {a : Nat} {t : Ps} (h : treeOf T = .ok (a, t)) : ∀ n ∈ t.N, n.kids.length ≤ T.length + 5 := programP_kl _ start_ok (fun n hn => by cases hn) h
theorem treeOf_ok {T : List Tk} {a : Nat} {t : Ps} (h : treeOf T = .ok (a, t)) : a < t.N.length ∧ S2 T t t ∧ t.N.length ≤ 4 * T.length := by
  rcases programP_ok2 (Alike.refl T) (8 * T.length + 1) (start_ok (T := T)) with ⟨x, h1, _⟩ | ⟨a1, a2, t1, t2, h1, h2, h3, h4, _, M, h6, h7⟩
  · unfold treeOf at h
    rw [h] at h1
    cases h1
  · unfold treeOf at h
    rw [h] at h1 h2
    obtain ⟨rfl, rfl⟩ : a = a1 ∧ t = t1 := by simpa using h1
    obtain ⟨rfl, rfl⟩ : a = a2 ∧ t = t2 := by simpa using h2
    have := h3.il
    refine ⟨h4.2, h3, ?_⟩
    rw [h6]
    simp at h7 ⊢
    omega
/-- What Parse makes of tokens, as lists: a root and nodes, or a fault's place and number. -/
def parseOf (T : List Tk) : Except (Int × Int) (Nat × List Sh) :=
  match treeOf T with
  | .error e => .error ((e : Int), 220)
  | .ok (a, t) => match limE (kidsS t.N) t.N.length (belowS t.N.length (kidsS t.N) [(a : Int)]) with
    | some c => .error (0, c)
    | none => .ok (a, t.N)
def ParseTold (w : World) (r : Except (Int × Int) (Nat × List Sh)) (x : Ending) (w' : World) : Prop :=
  match r with
  | .error (a, c) => ∃ v, x = .returned (.tuple #[.slice none 0 0, .int .i64 0, v]) ∧ FaultP w.heap.size w' v a c ∧ Below w.heap.size w w'
  | .ok (a, L) => ∃ Nv N, x = .returned (.tuple #[Nv, .int .i64 (a : Nat), .nilIface]) ∧ N.map Nd.sh = L ∧ NodesAt w' Nv N ∧ Below w.heap.size w w' ∧ (∀ k, blk Nv k → w.heap.size ≤ k) ∧ ∀ n ∈ N, ∀ k, blk n.kv k → w.heap.size ≤ k
set_option maxRecDepth 100000 in
set_option maxHeartbeats 3200000 in
theorem rd_Parse (T : List Tk) (hT2 : T.length ≤ 65536) {w : World} {Tv : Value} (hg : Er w) (htok : SlK 4 w Tv T.length (toks T)) (hbT : ∀ k, blk Tv k → k < w.heap.size) :
    Calls Tryz.prog 7 #[Tv] w (ParseTold w (parseOf T)) := by
  have hgr := rd_grow T hT2 hg htok hbT
  obtain ⟨aT, cT, hTv, _⟩ := htok.form
  subst hTv
  have h65 : ¬ (65536 : Int) < (T.length : Int) := by omega
  clear htok hbT hg
  unfold parseOf
  cases htr : treeOf T with
  | error e =>
    rw [htr] at hgr
    clear htr
    go_enter Tryz.func7, Tryz.ntmps7
    go_wp2_with fail
    refine hgr.mono ?_
    rintro x w1 ⟨v, rfl, hv, hb1⟩
    have H1 := Hid.mk7 (And.intro hv hb1)
    obtain ⟨pb, _, hve, _⟩ := hv
    subst hve
    clear hgr hb1
    go_wp2
    go_ret3
    exact ⟨_, rfl, H1.out⟩
  | ok at_ =>
    obtain ⟨a, t⟩ := at_
    obtain ⟨ha, hs2, hnl⟩ := treeOf_ok htr
    have HKD := Hid.mk7 (treeOf_kids htr)
    rw [htr] at hgr
    clear htr
    simp only
    obtain ⟨lim, hlim⟩ : ∃ lim, limE (kidsS t.N) t.N.length (belowS t.N.length (kidsS t.N) [(a : Int)]) = lim := ⟨_, rfl⟩
    rw [hlim]
    have HL := Hid.mk7 (And.intro hlim (And.intro ha (And.intro hs2 hnl)))
    clear hlim ha hs2 hnl
    go_enter Tryz.func7, Tryz.ntmps7
    go_wp2_with fail
    refine hgr.mono ?_
    rintro x w1 ⟨Nv, N, rfl, e1, h1, hb1, o1, k1⟩
    have hNl : N.length = t.N.length := by have := congrArg List.length e1; simpa using this
    have hks : ∀ n ∈ N, n.kids.length ≤ 4611686018427387903 := fun n hn => by
      have h9 : n.kids.length ≤ T.length + 5 := HKD.out n.sh (by rw [← e1]; exact List.mem_map_of_mem hn)
      omega
    have a1 := h1.arg (by have := HL.out.2.1; omega) hks
    have B2 := Below.alloc0 w1 (.cells #[.int .i64 (a : Int)] 3)
    have hbl := ps_Below (a1.below B2) (SlI.any (SlI.one w1 (a : Int) 3) (by simp)) (by rw [kvs_length, hNl]; have := HL.out.2.2.2; omega)
    rw [kvs_length, kids_ofS e1, hNl] at hbl
    obtain ⟨aN, cN, hNv, _⟩ := h1.own.sl.form
    subst hNv
    rw [hNl] at o1 h1 a1 hbl ⊢
    have H1 := Hid.mk7 (And.intro e1 (And.intro h1 (And.intro hb1 (And.intro a1 (And.intro B2 (And.intro o1 (And.intro k1 hNl)))))))
    clear hgr e1 h1 hb1 a1 B2 o1 k1 hks hNl
    go_wp2_with fail
    refine hbl.mono ?_
    rintro x w3 ⟨V, rfl, ho3, hb3, _⟩
    obtain ⟨e1, h1, hb1, a1, B2, o1, k1, hNl⟩ := H1.out
    have B3 := B2.trans (hb3.mono B2.size)
    obtain ⟨_, bm, bb, _⟩ := belowS_one t.N.length (kidsS t.N) a HL.out.2.1
    have hli := rd_limit (a1.below B3) (SlI.any (OwnK.sl ho3) (by have := belowS_le t.N.length (kidsS t.N) [(a : Int)]; have := HL.out.2.2.2; omega)) (by rw [kvs_length, hNl]; have := HL.out.2.2.2; omega) (by rw [kvs_length, hNl]; intro i hi; have := bb i hi; have := HL.out.2.1; omega) (by
      rw [kvs_length, hNl, kids_ofS e1]
      intro i hi k hk
      unfold kidsS at hk
      rw [List.getElem?_eq_getElem hi] at hk
      have := HL.out.2.2.1.low i hi k (by simpa using hk)
      omega) (List.length_pos_of_mem bm)
    rw [kvs_length, hNl, kids_ofS e1, HL.out.1] at hli
    obtain ⟨aV, cV, hV, _⟩ := OwnK.sl ho3 |>.form
    subst hV
    have H3 := Hid.mk7 B3
    clear hbl ho3 hb3 B3 e1 h1 hb1 a1 B2 o1 k1 hNl bm bb
    cases lim with
    | some c =>
      go_wp2_with fail
      refine hli.mono ?_
      rintro x w4 ⟨v, rfl, hv, hb4⟩
      have H4 := Hid.mk7 (And.intro hv (H3.out.trans (hb4.mono H3.out.size)))
      obtain ⟨pb, _, hve, _⟩ := hv
      subst hve
      clear hli hb4
      go_wp2
      go_ret3
      obtain ⟨e1, h1, hb1, a1, B2, o1, k1, hNl⟩ := H1.out
      exact ⟨_, rfl, H4.out.1.mono (Nat.le_trans hb1.size H3.out.size), hb1.trans (H4.out.2.mono hb1.size)⟩
    | none =>
      go_wp2_with fail
      refine hli.mono ?_
      rintro x w4 ⟨rfl, hb4⟩
      have H4 := Hid.mk7 (H3.out.trans (hb4.mono H3.out.size))
      clear hli hb4
      go_wp2
      go_ret3
      obtain ⟨e1, h1, hb1, a1, B2, o1, k1, hNl⟩ := H1.out
      exact ⟨.slice aN t.N.length cN, N, rfl, e1, h1.below H4.out, hb1.trans (H4.out.mono hb1.size), o1, k1⟩
end Go.Proofs.YtlgkjjbefoeabaaGreatDoor
namespace Go.Proofs.YtlgkjjbefoeabaaGreatDoor
open Go.RowKit Go.Extern.Stop Go.Stop Go.Extern

theorem Tryz.isTypeOf (v : Value) (w : World) : (Extern.ReflectliteType.typeOf #[.iface 50 v]).run Tryz.prog w = .ok (.iface 127 (.agg #[.pointer (some ⟨9, 50, none⟩)])) w := by kernel_rfl
/-- The model's entry for (rtype).Comparable, under a name of our own, so that the walk does not open it. -/
def cmpEntry : Array Value → Sem Value := Extern.ReflectliteType.method fun t => do Extern.Rtype.noPackHeld "Comparable" t; pure (.bool (← typeInfo t).comparable)
theorem Tryz.isComparable (w : World) : (cmpEntry #[.agg #[.pointer (some ⟨9, 50, none⟩)]]).run Tryz.prog w = .ok (.bool true) w := by kernel_rfl
theorem Tryz.isMethodComparable (v : Value) (w : World) : (Go.method 344 127 v "Comparable").run Tryz.prog w = .ok (244, v) w := by kernel_rfl
theorem Tryz.isComp : (Tryz.prog.info? 50).map (·.comparable) = some true := by kernel_rfl
/-- '==' at type error, both sides of type api.Errno: as the numbers are. -/
theorem Tryz.eqlErrno (a b : Int) (w : World) : (binOp .eql 30 (.iface 50 (.int .i64 a)) (.iface 50 (.int .i64 b))).run Tryz.prog w = .ok (.bool (a == b)) w := by
  obtain ⟨i, hi, hcmp⟩ := Option.map_eq_some_iff.1 Tryz.isComp
  have h : ∀ d : Nat, (Op.equalIn (d + 2) 30 (.iface 50 (.int .i64 a)) (.iface 50 (.int .i64 b))).run Tryz.prog w = .ok (a == b) w := fun d => by
    simp [Op.equalIn, run_underlying Tryz.underlying30, run_underlying Tryz.underlying50, typeInfo, hi, hcmp]
  simp only [binOp]
  simp [Op.equal, Op.maxDepth, h 9998]
theorem Tryz.noIsF (v : Value) (xT : TypeId) (w : World) : (Instr.typeAssert (.iface 60 v) xT 152 true).run Tryz.prog w = .ok (.tuple #[.nilIface, .bool false]) w := run_typeAssert_lacksB Tryz.underlying152 (by kernel_rfl) (by kernel_rfl) v xT w
theorem Tryz.hasUnwrapF (v : Value) (xT : TypeId) (w : World) : (Instr.typeAssert (.iface 60 v) xT 135 true).run Tryz.prog w = .ok (.tuple #[.iface 60 v, .bool true]) w := run_typeAssert_hasB Tryz.underlying135 (by kernel_rfl) v xT w
theorem Tryz.methodUnwrap (v : Value) (w : World) : (Go.method 344 60 v "Unwrap").run Tryz.prog w = .ok (237, v) w := by kernel_rfl

set_option maxHeartbeats 4000000 in
theorem is_fault (pb po : Nat) (c : Int) (w : World) (h2 : w.cell? ⟨pb, po + 2, none⟩ = some (.int .i64 c)) (h3 : w.cell? ⟨pb, po + 3, none⟩ = some .nilIface) :
    Calls Tryz.prog 64 #[.iface 60 (.pointer (some ⟨pb, po, none⟩)), .iface 50 (.int .i64 c)] w fun e w' => e = .returned (.bool true) ∧ w' = w := by
  have hT := @run_callFunc_extern Tryz.prog 80 _ Extern.ReflectliteType.typeOf Tryz.func80 (by kernel_rfl) (by kernel_rfl) (by kernel_rfl) (by kernel_rfl)
  have hC := @run_callFunc_extern Tryz.prog 244 _ cmpEntry Tryz.func244 (by kernel_rfl) (by kernel_rfl) (by kernel_rfl) (by kernel_rfl)
  have tT := Tryz.isTypeOf
  have cT := Tryz.isComparable
  have mR := Tryz.isMethodComparable
  have nF := Tryz.noIsF
  have uF := Tryz.hasUnwrapF
  have mU := Tryz.methodUnwrap
  have heq := Tryz.eqlErrno c c
  have hty := run_eql_iface_types (P := Tryz.prog) 60 50 (.pointer (some ⟨pb, po, none⟩)) (.int .i64 c) Tryz.underlying30 (by decide) w
  go_enter Tryz.func64, Tryz.ntmps64
  go_wp2
  refine wp_loop_rounds 2 ?_
  rw [rounds_succ]
  go_wp2
  rw [rounds_succ]
  go_wp2
  go_ret
  exact ⟨rfl, rfl⟩
end Go.Proofs.YtlgkjjbefoeabaaGreatDoor
namespace Go.Proofs.YtlgkjjbefoeabaaGreatDoor
open Go.RowKit Go.Extern.Stop Go.Stop Go.Extern

/-- errors.As(e, &t), e a fault: true; t points to it; all blocks below t's are as they were. -/
theorem as_fault (e : Addr) (tb : Nat) (old : Value) (w : World) (hg : w.cell? ⟨0, 0, none⟩ = some (.iface 127 (.agg #[.pointer (some ⟨9, 30, none⟩)]))) (ht0 : w.cell? ⟨tb, 0, none⟩ = some old) (hf0 : w.frozen? ⟨tb, 0, none⟩ = false) :
    Calls Tryz.prog 22 #[.iface 60 (.pointer (some e)), .iface 62 (.pointer (some ⟨tb, 0, none⟩))] w fun ev w' => ev = .returned (.bool true) ∧ w'.cell? ⟨tb, 0, none⟩ = some (.pointer (some e)) ∧ Below tb w w' ∧ w.heap.size < w'.heap.size := by
  have hlt : tb < w.heap.size := World.block_lt_of_cell? w _ ht0
  refine (as_hit e ⟨tb, 0, none⟩ old w hg ht0 hf0).mono ?_
  rintro ev w' ⟨rfl, rfl⟩
  refine ⟨rfl, ?_, ?_, ?_⟩
  · refine World.cell?_setCell_same _ _ _ (u := old) ?_
    rw [World.cell?_alloc_lt _ _ ⟨tb, 0, none⟩ (by simp; omega), World.cell?_alloc_lt _ _ ⟨tb, 0, none⟩ (by simp; omega), World.cell?_alloc_lt _ _ ⟨tb, 0, none⟩ (by simp; omega), World.cell?_alloc_lt _ _ ⟨tb, 0, none⟩ hlt]; exact ht0
  · refine Below.setCell (Below.alloc (Below.alloc (Below.alloc (Below.alloc (Below.refl _ _) ?_ _) ?_ _) ?_ _) ?_ _) ?_ _
    all_goals first | (simp; done) | omega | (simp; omega)
  · simp [World.setCell]; omega

theorem Tryz.infoLink : (Tryz.prog.info? 59).map (fun i => (i.zero, i.size, i.bytes)) = some (some (.agg #[.string ⟨#[]⟩, .int .i64 0, .int .i64 0]), 3, 32) := by kernel_rfl

set_option maxRecDepth 100000 in
set_option maxHeartbeats 3200000 in
/-- Chain of a fault with nothing under it. -/
theorem chain_fault (pb po : Nat) (ly : ByteArray) (at_ c : Int) (w : World) (hg : w.cell? ⟨0, 0, none⟩ = some (.iface 127 (.agg #[.pointer (some ⟨9, 30, none⟩)])))
    (h0 : w.cell? ⟨pb, po, none⟩ = some (.string ly)) (h1 : w.cell? ⟨pb, po + 1, none⟩ = some (.int .i64 at_)) (h2 : w.cell? ⟨pb, po + 2, none⟩ = some (.int .i64 c)) (h3 : w.cell? ⟨pb, po + 3, none⟩ = some .nilIface) :
    Calls Tryz.prog 10 #[.iface 60 (.pointer (some ⟨pb, po, none⟩))] w fun e w' => ∃ g cap, e = .returned (.slice (some ⟨g, 0, none⟩) 1 cap) ∧
      w'.cell? ⟨g, 0, none⟩ = some (.string ly) ∧ w'.cell? ⟨g, 1, none⟩ = some (.int .i64 at_) ∧ w'.cell? ⟨g, 2, none⟩ = some (.int .i64 c) ∧ w.heap.size ≤ g ∧ Below w.heap.size w w' := by
  obtain ⟨i0, hi0, hz0, hz1, hz2⟩ := info_parts Tryz.infoLink
  have hlt : pb < w.heap.size := World.block_lt_of_cell? w _ h0
  go_enter Tryz.func10, Tryz.ntmps10
  go_wp2
  refine wp_loop_rounds 2 ?_
  rw [rounds_succ]
  go_wp2_with fail
  refine (as_fault ⟨pb, po, none⟩ w.heap.size (.pointer none) _ ?_ (by simp) (by simp)).mono ?_
  · rw [World.cell?_alloc_lt _ _ ⟨0, 0, none⟩ (World.block_lt_of_cell? w _ hg)]; exact hg
  rintro e w1 ⟨rfl, ht, hb, hz⟩
  have hbw : Below w.heap.size w w1 := ((Below.refl _ _).alloc (Nat.le_refl _) _).trans hb
  simp at hz
  have k0 : w1.cell? ⟨pb, po, none⟩ = some (.string ly) := (hbw.cell (p := ⟨pb, po, none⟩) hlt).trans h0
  have k1 : w1.cell? ⟨pb, po + 1, none⟩ = some (.int .i64 at_) := (hbw.cell (p := ⟨pb, po + 1, none⟩) hlt).trans h1
  have k2 : w1.cell? ⟨pb, po + 2, none⟩ = some (.int .i64 c) := (hbw.cell (p := ⟨pb, po + 2, none⟩) hlt).trans h2
  have k3 : w1.cell? ⟨pb, po + 3, none⟩ = some .nilIface := (hbw.cell (p := ⟨pb, po + 3, none⟩) hlt).trans h3
  have HB : Hid (Below w.heap.size w w1) := hbw
  clear hbw hb h0 h1 h2 h3 hg
  go_wp2_with fail
  go_region_held3 (fun w' => w'.cell? ⟨w.heap.size, 0, none⟩ = some (.pointer (some ⟨pb, po, none⟩)) ∧ w'.cell? ⟨pb, po, none⟩ = some (.string ly) ∧ w'.cell? ⟨pb, po + 1, none⟩ = some (.int .i64 at_) ∧ w'.cell? ⟨pb, po + 2, none⟩ = some (.int .i64 c) ∧ w'.cell? ⟨pb, po + 3, none⟩ = some .nilIface)
    (first
      | go_keep
      | (go_split_ands
         refine ⟨?_, ?_, ?_, ?_, ?_⟩
         · (rw [hgrow.cell_far _ (by simp; omega) (by simp [Value.ownBlock])]; assumption)
         · (rw [hgrow.cell_far _ (by simp; omega) (by simp [Value.ownBlock])]; assumption)
         · (rw [hgrow.cell_far _ (by simp; omega) (by simp [Value.ownBlock])]; assumption)
         · (rw [hgrow.cell_far _ (by simp; omega) (by simp [Value.ownBlock])]; assumption)
         · (rw [hgrow.cell_far _ (by simp; omega) (by simp [Value.ownBlock])]; assumption)))
    ((refine step_append_lies _ (by rfl) _ _ _ (by rfl) w.heap.size 59 i0 _ 3 32 Tryz.underlying24 hi0 hz0 hz1 hz2 rfl (by omega) (.slice none 0 0) 0 [] (by rfl) (World.ownsRow_nil _ _ _ _)
        ⟨w1.heap.size, 0, none⟩ 1 1 [.string ly, .int .i64 at_, .int .i64 c] (by rfl) (by rfl) (World.news_of_block (cs := #[.string ly, .int .i64 at_, .int .i64 c]) (t := 59) (fr := (0, 0)) (heap_alloc_new w1 _)) (by simp [Value.oneCell'])
        (by omega) (by decide) (by decide) (by simp; omega) (w1.heap.size + 1) (by simp) ?_; intro gg cap w2 hown2 hgrow hat hlt2))
  go_wp2
  have hz2 : w1.heap.size < w2.heap.size := by
    have := hgrow.size; simp at this; omega
  rw [rounds_succ]
  go_wp2
  go_ret
  have hgg : gg = w1.heap.size + 1 := by simpa [Value.ownBlock] using hat
  have hc := hown2.cells (g := gg) (by simp [Value.ownBlock])
  refine ⟨gg, cap, by simp, by simpa [Addr.add] using hc 0 _ rfl, by simpa [Addr.add] using hc 1 _ rfl, by simpa [Addr.add] using hc 2 _ rfl, by omega, ?_⟩
  exact HB.out.trans (((Below.refl _ _).alloc (by omega) _).drew.grown hgrow (by simp; omega) (by simp [Value.ownBlock]))
end Go.Proofs.YtlgkjjbefoeabaaGreatDoor
