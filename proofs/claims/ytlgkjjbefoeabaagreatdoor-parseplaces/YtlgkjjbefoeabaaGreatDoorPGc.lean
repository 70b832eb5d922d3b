/-
  Layer 11 (parse): what the phrases that a phrase calls do; a clause.
-/
import Derived.Test.YtlgkjjbefoeabaaGreatDoorPGb
namespace Go.Proofs.YtlgkjjbefoeabaaGreatDoor
open Go.RowKit

/-- The program's function of a phrase. -/
def fnOf : Ph → FuncId
  | .module => 77
  | .export => 119
  | .function => 100
  | .fclause => 121
  | .clause => 191
  | .cclause => 193
  | .conj => 157
  | .guard => 147
  | .body => 148
  | .operand => 168
  | .expr _ => 156
def moreOf : Ph → List Value
  | .expr l => [.int .i64 l]
  | _ => []
/-- All phrases, from a token on. -/
structure Env (T : List Tk) (rec : Ph → PM Nat) (i0 : Nat) : Prop where
  ok2 : ∀ ph, okPh ph → ∀ s s', S2 T s s' → Ok2 T VN (dOf ph) (rec ph) (rec ph) s s'
  run : ∀ ph, okPh ph → Runs T (fnOf ph) (moreOf ph) (rec ph) i0
theorem Env.fwd {T : List Tk} {rec : Ph → PM Nat} {i0 : Nat} (E : Env T rec i0) (ph : Ph) (hp : okPh ph) : Fwd T (rec ph) := fun s hs => (E.ok2 ph hp s s hs).mono (dOf_pos ph)
theorem Env.whole {T : List Tk} {rec : Ph → PM Nat} {i0 : Nat} (E : Env T rec i0) : Runs T 145 [] (whole rec) i0 := rd_whole (E.run (.expr 1) (by simp [okPh]))
theorem Runs.up {T : List Tk} {F : FuncId} {more : List Value} {m : PM Nat} {i j : Nat} (h : Runs T F more m i) (hij : i ≤ j) : Runs T F more m j := fun s hs => h s (Nat.le_trans hij hs)
theorem Env.rest {T : List Tk} {rec : Ph → PM Nat} {i0 : Nat} (E : Env T rec i0) {n : Sh} {p : Nat} {t : Ps} (ht : S2 T t t) (hp : p < t.N.length) (hc : Cnt T t) : ∀ a u, rest T rec n p t = .ok (a, u) → S2 T u u ∧ Cnt T u := fun a u e => by
  obtain ⟨h1, h2, _⟩ := (rest_ok2 (Alike.refl T) E.ok2 (n := n) (n' := n) rfl ht ⟨rfl, hp⟩).fin (by omega) hc e
  exact ⟨h1, h2⟩
set_option maxRecDepth 100000 in
set_option maxHeartbeats 6400000 in
theorem rd_clause {T : List Tk} {rec : Ph → PM Nat} {s : Ps} (E : Env T rec (s.i + 1)) (hw : Runs T 145 [] (whole rec) s.i) {w : World} {g : Nat} {Tv Nv : Value} {N : List Nd} (h : PS w g Tv T Nv N s) :
    Calls Tryz.prog 191 #[.pointer (some ⟨g, 0, none⟩)] w (Rd T w g Tv Nv N (phBody T rec .clause s)) := by
  obtain ⟨res, hres⟩ : ∃ res, phBody T rec .clause s = res := ⟨_, rfl⟩
  rw [hres]
  have HQ := Hid.mk7 hres
  have r0 := Rg.refl h
  have c1 := rg_peek r0
  have hfa := Tryz.tokPlace
  have HP := Hid.mk7 (And.intro E (And.intro hw h))
  obtain ⟨tk, htk⟩ : ∃ tk, tokAt T s.i = tk := ⟨_, rfl⟩
  rw [htk] at c1
  have HT := Hid.mk7 htk
  clear hres hw E h r0 htk
  obtain ⟨tk, tt, tn, ta⟩ := tk
  simp only [Tk.val] at c1
  go_enter Tryz.func191, Tryz.ntmps191
  go_wp2_with fail
  refine c1.mono ?_
  rintro x w1 ⟨rfl, r1, _⟩
  have r2 := r1.below (Below.alloc0 w1 (.cells #[.int .i64 20, .string ⟨#[]⟩, .string ⟨#[]⟩, .int .i64 0, .slice none 0 0, .int .i64 ta] 47))
  have hE := fun W (hW : Below _ _ W) => HP.out.2.1 s (Nat.le_refl _) W g Tv _ _ (r2.below hW).ps
  have hgl := r2.ps.at_.lt
  have H2 := Hid.mk7 (And.intro r2 r1)
  clear c1 r1 r2
  cases hw : whole rec s with
  | error e =>
    have hre : res = .error e := by rw [← HQ.out]; simp [phBody, PM.bind, pTok, hw]
    subst hre
    simp only [hw] at hE
    clear hw
    go_wp2_with fail
    go_region_with (go_at_call 145; refine (hE _ (Below.refl _ _).drew).mono ?_; rintro x w5 ⟨rfl, T5⟩; refine idle_of w5 ⟨rfl, rfl, (H2.out.1.below (Below.refl _ _).drew).bad T5⟩ ?_)
    all_goals trivial
  | ok at_ =>
    obtain ⟨a, t⟩ := at_
    obtain ⟨q1, q2, q3, q4⟩ := (HP.out.1.fwd (.expr 1) (by simp [okPh])).ok HP.out.2.2.ok HP.out.2.2.cnt hw
    have hT : 0 < T.length := by have := q1.il; omega
    have hfin := fun n => HP.out.1.rest (n := n) q1 q2 q4
    have hrs : res = rest T rec ⟨20, ⟨#[]⟩, ⟨#[]⟩, 0, [], ta⟩ a t := by rw [← HQ.out]; simp [phBody, PM.bind, pTok, hw, HT.out]
    have hb1 : ∀ j, j < w.heap.size → True := fun _ _ => trivial
    simp only [hw] at hE
    have HF := Hid.mk7 (And.intro hfin (And.intro hrs (And.intro hT q3)))
    clear hw q1 q2 q3 q4 hfin hrs hT hb1
    have hfr : ∀ w5 (x : Ending), Rd T (w1.alloc (.cells #[.int .i64 20, .string ⟨#[]⟩, .string ⟨#[]⟩, .int .i64 0, .slice none 0 0, .int .i64 ta] 47)).drew g Tv Nv (N ++ []) (.ok (a, t)) x w5 → x = .returned (.int .i64 (a : Nat)) ∧ (∃ Nv5 M5, Rg T w w5 g Tv Nv N t Nv5 M5) ∧ (w5.cell? ⟨w1.heap.size, 0, none⟩ = some (.int .i64 20) ∧ w5.cell? ⟨w1.heap.size, 1, none⟩ = some (.string ⟨#[]⟩) ∧ w5.cell? ⟨w1.heap.size, 2, none⟩ = some (.string ⟨#[]⟩) ∧ w5.cell? ⟨w1.heap.size, 3, none⟩ = some (.int .i64 0) ∧ w5.cell? ⟨w1.heap.size, 4, none⟩ = some (.slice none 0 0) ∧ w5.cell? ⟨w1.heap.size, 5, none⟩ = some (.int .i64 ta)) := fun w5 x hx => by
      obtain ⟨e, Nv5, M5, r5, S5, _⟩ := (H2.out.1.below (Below.refl _ _).drew).rd hx
      have f := H2.out.2.ps.at_.free HF.out.2.2.1 w1.heap.size (Nat.le_refl _)
      obtain ⟨c, _⟩ := newNode (w := w1) (.int .i64 20) (.string ⟨#[]⟩) (.string ⟨#[]⟩) (.int .i64 0) (.slice none 0 0) (.int .i64 ta) ((Turned.drew _ _).trans S5.t (fun _ e => .inl e)) (fun e => e.elim f.g f.n)
      exact ⟨e, ⟨Nv5, M5, r5⟩, c⟩
    have hrest : ∀ w5 Nv5 M5, Rg T w w5 g Tv Nv N t Nv5 M5 → Calls Tryz.prog 134 #[.pointer (some ⟨g, 0, none⟩), .agg #[.int .i64 20, .string ⟨#[]⟩, .string ⟨#[]⟩, .int .i64 0, .slice none 0 0, .int .i64 ta], .int .i64 (a : Int)] w5 (Rd T w5 g Tv Nv5 (N ++ M5) res) := fun w5 Nv5 M5 r5 => by
      rw [HF.out.2.1]
      exact rd_rest 20 ⟨#[]⟩ ⟨#[]⟩ 0 ta a ((HP.out.1.run .guard trivial).up (by have := HF.out.2.2.2; omega)) (HP.out.1.fwd .guard trivial) ((HP.out.1.run .body trivial).up (by have := HF.out.2.2.2; omega)) HF.out.2.2.1 (HF.out.1 _) r5.ps
    cases res with
    | error e =>
      go_wp2_with fail
      go_region_with (first
        | (go_at_call 134; refine (hrest _ _ _ r5).mono ?_; rintro x w6 ⟨rfl, T6⟩; refine idle_of w6 ⟨rfl, rfl, r5.bad T6⟩ ?_)
        | (go_at_call 145; refine (hE _ (Below.refl _ _).drew).mono ?_; intro x w5 hx; obtain ⟨rfl, ⟨Nv5, M5, r5⟩, k0, k1, k2, k3, k4, k5⟩ := hfr _ _ hx; clear hx))
      all_goals trivial
    | ok bt =>
      obtain ⟨b, u⟩ := bt
      go_wp2_with fail
      go_region_with (first
        | (go_at_call 134; refine (hrest _ _ _ r5).mono ?_; intro x w6 hx; obtain ⟨rfl, Nv6, M6, r6, _⟩ := r5.rd hx; have H6 := Hid.mk7 r6; clear hx r6)
        | (go_at_call 145; refine (hE _ (Below.refl _ _).drew).mono ?_; intro x w5 hx; obtain ⟨rfl, ⟨Nv5, M5, r5⟩, k0, k1, k2, k3, k4, k5⟩ := hfr _ _ hx; clear hx))
      all_goals
        go_wp2
        go_ret
        exact H6.out.of
end Go.Proofs.YtlgkjjbefoeabaaGreatDoor
