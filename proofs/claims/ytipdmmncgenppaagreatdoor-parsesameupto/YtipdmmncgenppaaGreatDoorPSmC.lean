/-
  Layer 11 (parse): the program's sets.
-/
import Derived.Test.YtipdmmncgenppaaGreatDoorPSmB
import Derived.Test.YtipdmmncgenppaaGreatDoorPU
namespace Go.Proofs.YtipdmmncgenppaaGreatDoor
open Go.RowKit

theorem Tryz.setsTypes : ElTypes Tryz.prog 39 3 1 8 (.int .i64 0) := by
  refine ⟨by kernel_rfl, ?_, by simp [Value.cells]⟩
  have h : (Tryz.prog.info? 3).map (fun i => (i.zero, i.size, i.bytes)) = some (some (.int .i64 0), 1, 8) := by kernel_rfl
  obtain ⟨i, hi, h0, h1, h2⟩ := info_parts h
  exact ⟨i, hi, h0, h1, h2⟩
/-- Sets in a block of one's own. -/
structure SetAt (w : World) (g n : Nat) (s : Nat → Nat) : Prop where
  lt : g < w.heap.size
  c : ∀ j, j < n → w.cell? ⟨g, j, none⟩ = some (.int .i64 (s j)) ∧ w.frozen? ⟨g, j, none⟩ = false
theorem SetAt.turned {S : Nat → Prop} {w w' : World} {g n : Nat} {s : Nat → Nat} (h : SetAt w g n s) (T : Turned S w w') (hs : ¬ S g) : SetAt w' g n s :=
  ⟨Nat.lt_of_lt_of_le h.lt T.size, fun j hj => ⟨T.cell (h.c j hj).1 hs, by rw [T.frozen (p := ⟨g, j, none⟩) h.lt hs]; exact (h.c j hj).2⟩⟩
theorem SetAt.set {w : World} {g n : Nat} {s : Nat → Nat} (h : SetAt w g n s) (k v : Nat) (hk : k < n) : SetAt (w.setCell ⟨g, k, none⟩ (.int .i64 v)) g n (put s k v) := by
  refine ⟨by simp [World.setCell]; exact h.lt, fun j hj => ⟨?_, by rw [World.frozen?_setCell]; exact (h.c j hj).2⟩⟩
  by_cases hkj : j = k
  · subst hkj
    rw [World.cell?_setCell_same _ _ _ (h.c j hk).1, put_same]
  · rw [World.cell?_setCell_other _ _ _ _ (by simp; try omega), (h.c j hj).1, put_other _ _ _ hkj]
set_option maxRecDepth 100000 in
set_option maxHeartbeats 1600000 in
theorem ps_find {w : World} {g n : Nat} {s rep dep : Nat → Nat} (hs : SetAt w g n s) (hu : UF n s rep dep) (i : Nat) (hi : i < n) :
    Calls Tryz.prog 24 #[.slice (some ⟨g, 0, none⟩) n n, .int .i64 i] w fun x w' => x = .returned (.int .i64 (rep i)) ∧ (∃ s', SetAt w' g n s' ∧ UF n s' rep dep) ∧ Turned (fun k => k = g) w w' := by
  have H0 := Hid.mk7 (And.intro hs hu)
  clear hs hu
  go_enter Tryz.func24, Tryz.ntmps24
  go_wp2_with fail
  go_loopw [1] (fun ix wr => ∃ (j : Nat) (s' : Nat → Nat), j < n ∧ ix = .int .i64 j ∧ rep j = rep i ∧ SetAt wr g n s' ∧ UF n s' rep dep ∧ Turned (fun k => k = g) w wr) (fun ix _ => dep (intOf ix).toNat)
  case atStart => exact ⟨i, s, hi, rfl, rfl, H0.out.1, H0.out.2, Turned.refl _ _⟩
  case round =>
    obtain ⟨j, s', hj, rfl, hr, hS, hU, ht⟩ := hrel
    obtain ⟨c1, f1⟩ := hS.c j hj
    by_cases he : s' j = j
    · have hre : rep i = j := by rw [← hr]; exact hU.root j hj he
      have HN := Hid.mk7 (And.intro hre (And.intro hS (And.intro hU ht)))
      rw [he] at c1
      have hji : (j : Int) < (n : Int) := by omega
      clear hr hS hU ht hre he
      go_wp2
      go_ret
      exact ⟨by rw [HN.out.1]; rfl, ⟨s', HN.out.2.1, HN.out.2.2.1⟩, HN.out.2.2.2⟩
    · have hlt := hU.lt j hj
      obtain ⟨c2, _⟩ := hS.c (s' j) hlt
      have hd : dep (s' (s' j)) < dep j := by
        have d1 := hU.far j hj he
        by_cases e2 : s' (s' j) = s' j
        · rw [e2]; exact d1
        · have d2 := hU.far _ hlt e2
          omega
      have hrep : rep (s' (s' j)) = rep i := by rw [hU.step _ hlt, hU.step _ hj, hr]
      have HN := Hid.mk7 (And.intro (hU.lt _ hlt) (And.intro hrep (And.intro (hS.set j (s' (s' j)) hj) (And.intro (hU.half hj he) (And.intro (ht.trans (Turned.set1 _ g j (.int .i64 (s' (s' j)))) (fun _ e => .inl e)) hd)))))
      generalize s' (s' j) = z at *
      generalize s' j = y at *
      have hne : ¬ ((y : Int) = (j : Int)) := by omega
      have hji : (j : Int) < (n : Int) := by omega
      have hyi : (y : Int) < (n : Int) := by omega
      clear hr hS hU ht he hd hrep
      go_wp2
      go_roundw
      case rel => exact ⟨z, _, HN.out.1, rfl, HN.out.2.1, HN.out.2.2.1, HN.out.2.2.2.1, HN.out.2.2.2.2.1⟩
      case measure => simpa [intOf] using HN.out.2.2.2.2.2
/-- What is of one set, when i's and k's are one. -/
def joinR (rep : Nat → Nat) (i k : Nat) : Nat → Nat := if rep i = rep k then rep else meld rep (rep i) (rep k)
set_option maxRecDepth 100000 in
set_option maxHeartbeats 1600000 in
theorem ps_join {w : World} {g n : Nat} {s rep dep : Nat → Nat} (hs : SetAt w g n s) (hu : UF n s rep dep) (i k : Nat) (hi : i < n) (hk : k < n) :
    Calls Tryz.prog 14 #[.slice (some ⟨g, 0, none⟩) n n, .int .i64 i, .int .i64 k] w fun x w' => x = .returned (.bool (decide (rep i ≠ rep k))) ∧ (∃ s', SetAt w' g n s' ∧ ∃ dep', UF n s' (joinR rep i k) dep') ∧ Turned (fun k => k = g) w w' := by
  have h1 := ps_find hs hu i hi
  have hri := hu.rlt i hi
  have hrk := hu.rlt k hk
  have hrr := hu.rr hi
  have hrr2 := hu.rr hk
  clear hs hu
  go_enter Tryz.func14, Tryz.ntmps14
  go_wp2_with fail
  refine h1.mono ?_
  rintro x w1 ⟨rfl, ⟨s1, hs1, hu1⟩, ht1⟩
  have h2 := ps_find hs1 hu1 k hk
  clear h1 hs1 hu1
  go_wp2_with fail
  refine h2.mono ?_
  rintro x w2 ⟨rfl, ⟨s2, hs2, hu2⟩, ht2⟩
  obtain ⟨c1, f1⟩ := hs2.c (rep i) hri
  have HN := Hid.mk7 (And.intro (ht1.trans ht2 (fun _ e => .inl e) |>.trans (Turned.set1 _ g (rep i) (.int .i64 (rep k))) (fun _ e => .inl e)) (And.intro (hs2.set (rep i) (rep k) hri) hu2))
  have hii : (rep i : Int) < (n : Int) := by omega
  clear h2 hs2 hu2 ht1 ht2
  by_cases he : rep i = rep k
  · have hsame : put s2 (rep i) (rep k) = s2 := by
      funext x
      by_cases hx : x = rep i
      · subst hx
        rw [put_same, ← he]
        have := HN.out.2.2.top i hi
        exact this.symm
      · rw [put_other _ _ _ hx]
    rw [hsame] at HN
    rw [← he] at HN ⊢
    have HE := Hid.mk7 he
    clear he hsame
    go_wp2
    go_ret
    refine ⟨?_, ⟨s2, HN.out.2.1, dep, ?_⟩, HN.out.1⟩
    · simp [HE.out]
    · rw [joinR, if_pos HE.out]
      exact HN.out.2.2
  · have hei : ¬ (rep i : Int) = (rep k : Int) := by omega
    have HE := Hid.mk7 he
    clear he
    go_wp2
    go_ret
    have hlk := HN.out.2.2.link hri hrk hrr hrr2 HE.out
    refine ⟨?_, ⟨_, HN.out.2.1, _, by rw [joinR, if_neg HE.out]; exact hlk⟩, HN.out.1⟩
    simp [HE.out]
    omega
set_option maxRecDepth 100000 in
set_option maxHeartbeats 1600000 in
theorem ps_newSets (w : World) (n : Nat) (hn : n ≤ 4398046511104) :
    Calls Tryz.prog 13 #[.int .i64 n] w fun x w' => x = .returned (.slice (some ⟨w.heap.size, 0, none⟩) n n) ∧ SetAt w' w.heap.size n id ∧ Below w.heap.size w w' := by
  obtain ⟨w1, hmk, hb1, hz1, hB1⟩ := make_one Tryz.setsTypes (by simp [Value.cells]) w n (by omega) (by omega)
  have hs1 : SetAt w1 w.heap.size n (fun _ => 0) := ⟨hz1, fun j hj => by simpa using hB1 j hj⟩
  have HM := Hid.mk7 (And.intro hb1 hs1)
  clear hb1 hz1 hB1 hs1
  go_enter Tryz.func13, Tryz.ntmps13
  go_wp2_with fail
  go_loopw [9] (fun ix wr => ∃ (j : Nat) (s' : Nat → Nat), j ≤ n ∧ ix = .int .i64 j ∧ (∀ x, x < j → s' x = x) ∧ SetAt wr w.heap.size n s' ∧ Below w.heap.size w wr) (fun ix _ => n - (intOf ix).toNat)
  case atStart => exact ⟨0, _, Nat.zero_le _, rfl, fun x h => by omega, HM.out.2, HM.out.1⟩
  case round =>
    clear HM hmk
    obtain ⟨j, s', hj, rfl, hx, hS, hb⟩ := hrel
    by_cases hlt : j < n
    · have hji : (j : Int) < (n : Int) := by omega
      obtain ⟨c1, f1⟩ := hS.c j hlt
      have HN := Hid.mk7 (And.intro (show ∀ x, x < j + 1 → put s' j j x = x from fun x h => by
        by_cases e : x = j
        · subst e; rw [put_same]
        · rw [put_other _ _ _ e]; exact hx x (by omega)) (And.intro (hS.set j j hlt) (Turned.toBelow hb (Turned.set1 _ w.heap.size j (.int .i64 j)) (Nat.le_refl _))))
      clear hx hS hb
      go_wp2
      go_roundw
      case rel => exact ⟨j + 1, _, by omega, by go_num, HN.out.1, HN.out.2.1, HN.out.2.2⟩
      case measure => simp [intOf]; omega
    · have hge : ¬ (j : Int) < (n : Int) := by omega
      have HN := Hid.mk7 (And.intro hx (And.intro hS hb))
      clear hx hS hb
      go_wp2
      go_ret
      refine ⟨rfl, ⟨HN.out.2.1.lt, fun x hxn => ?_⟩, HN.out.2.2⟩
      have := HN.out.2.1.c x hxn
      rwa [HN.out.1 x (by omega)] at this
end Go.Proofs.YtipdmmncgenppaaGreatDoor
