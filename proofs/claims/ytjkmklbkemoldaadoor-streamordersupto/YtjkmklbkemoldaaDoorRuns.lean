/-
  heddlelaw05.step at every kind; heddlelaw05.StreamRuns and StreamKeeps: their walks.
-/
import Derived.Test.YtjkmklbkemoldaaDoorAlive
namespace Go.Proofs.YtjkmklbkemoldaaDoor
open Go.RowKit

set_option maxRecDepth 100000 in
set_option maxHeartbeats 3200000 in
theorem step_other {Mem : World → Nat → (Nat → Prop) → St → Prop} (I : Impl Mem) {B : Nat} {w : World} {sb g : Nat} {S R : Nat → Prop} {st : St} (p : Pair Mem B w sb g S R st) (k e n : Int) (y : Bool) (x : Value)
    (h1 : (k == 1) = false) (h2 : (k == 2) = false) (h3 : (k == 3) = false) (h4 : (k == 4) = false) (h5 : (k == 5) = false) (h6 : (k == 6) = false) :
    Calls Tryd.prog 12 #[.pointer (some ⟨sb, 0, none⟩), .pointer (some ⟨g, 0, none⟩), .agg #[.int .i64 k, .int .i64 e, .int .i64 n, .bool y, x]] w fun ev w' => ev = .returned (.bool true) ∧ ∃ S' R', Pair Mem B w' sb g S' R' st ∧ Below B w w' := by
  have PB : Pair Mem B (w.alloc (.cells #[.int .i64 k, .int .i64 e, .int .i64 n, .bool y, x] 31)) sb g S R st := p.box1 I _
  have BD : Hid (Below B w (w.alloc (.cells #[.int .i64 k, .int .i64 e, .int .i64 n, .bool y, x] 31))) := (Below.refl _ _).alloc p.big _
  go_enter Tryd.func12, Tryd.ntmps12
  go_wp2_with (go_at_call 13; refine (states_any I PB).mono ?_; rintro ev w1 ⟨rfl, hb1⟩)
  go_ret
  exact ⟨rfl, _, _, PB.below I hb1, BD.out.trans (hb1.mono PB.big)⟩

/-- What a call of some kind makes of a state. -/
def Nexts (k : Int) (st st' : St) : Prop := st' = st ∨ (∃ e bs, st' = (st.send e bs).2) ∨ (∃ e m, st' = (st.move e m).2) ∨ (∃ e y, st' = (st.stall e y).2) ∨ (∃ e m, st' = (st.read e m).2.2) ∨ 5 ≤ k

theorem step_any {Mem : World → Nat → (Nat → Prop) → St → Prop} (I : Impl Mem) {B : Nat} {w : World} {sb g : Nat} {S R : Nat → Prop} {st : St} (p : Pair Mem B w sb g S R st) (k e n : Int) (y : Bool) (x : Value) {bs : List Int} (hx : Sl w x bs) (hbs : bs.length ≤ 140737488355328) (hxB : bs ≠ [] → ∀ k, blk x k → k < B) :
    Calls Tryd.prog 12 #[.pointer (some ⟨sb, 0, none⟩), .pointer (some ⟨g, 0, none⟩), .agg #[.int .i64 k, .int .i64 e, .int .i64 n, .bool y, x]] w fun ev w' => ev = .returned (.bool true) ∧ ∃ S' R' st', Pair Mem B w' sb g S' R' st' ∧ Below B w w' ∧ Nexts k st st' := by
  by_cases h1 : k = 1
  · subst h1
    refine (step_send I p e n y x hx hbs hxB).mono ?_
    rintro ev w' ⟨rfl, S', R', h, hb⟩
    exact ⟨rfl, S', R', _, h, hb, .inr (.inl ⟨e, bs, rfl⟩)⟩
  · by_cases h2 : k = 2
    · subst h2
      refine (step_move I p e n y x).mono ?_
      rintro ev w' ⟨rfl, S', R', h, hb⟩
      exact ⟨rfl, S', R', _, h, hb, .inr (.inr (.inl ⟨e, n, rfl⟩))⟩
    · by_cases h3 : k = 3
      · subst h3
        refine (step_stall I p e n y x).mono ?_
        rintro ev w' ⟨rfl, S', R', h, hb⟩
        exact ⟨rfl, S', R', _, h, hb, .inr (.inr (.inr (.inl ⟨e, y, rfl⟩)))⟩
      · by_cases h4 : k = 4
        · subst h4
          refine (step_read I p e n y x).mono ?_
          rintro ev w' ⟨rfl, S', R', h, hb⟩
          exact ⟨rfl, S', R', _, h, hb, .inr (.inr (.inr (.inr (.inl ⟨e, n, rfl⟩))))⟩
        · by_cases h5 : k = 5
          · subst h5
            refine (step_break I p e n y x).mono ?_
            rintro ev w' ⟨rfl, S', R', h, hb⟩
            exact ⟨rfl, S', R', _, h, hb, .inr (.inr (.inr (.inr (.inr (by omega)))))⟩
          · by_cases h6 : k = 6
            · subst h6
              refine (step_close I p e n y x).mono ?_
              rintro ev w' ⟨rfl, S', R', h, hb⟩
              exact ⟨rfl, S', R', _, h, hb, .inr (.inr (.inr (.inr (.inr (by omega)))))⟩
            · refine (step_other I p k e n y x (by simp [h1]) (by simp [h2]) (by simp [h3]) (by simp [h4]) (by simp [h5]) (by simp [h6])).mono ?_
              rintro ev w' ⟨rfl, S', R', h, hb⟩
              exact ⟨rfl, S', R', _, h, hb, .inl rfl⟩

/-- A row of calls, in memory. -/
def Script (w : World) (v : Value) : Prop :=
  ∃ a len cap, v = .slice a len cap ∧ len ≤ 140737488355328 ∧ ∀ j, j < len → ∃ b off, a = some ⟨b, off, none⟩ ∧ ∃ k e n y x bs, w.cell? ⟨b, off + j * 5, none⟩ = some (.int .i64 k) ∧ w.cell? ⟨b, off + j * 5 + 1, none⟩ = some (.int .i64 e) ∧ w.cell? ⟨b, off + j * 5 + 2, none⟩ = some (.int .i64 n) ∧
    w.cell? ⟨b, off + j * 5 + 3, none⟩ = some (.bool y) ∧ w.cell? ⟨b, off + j * 5 + 4, none⟩ = some x ∧ Sl w x bs ∧ bs.length ≤ 140737488355328

set_option maxRecDepth 100000 in
set_option maxHeartbeats 3200000 in
theorem runs_any {Mem : World → Nat → (Nat → Prop) → St → Prop} (I : Impl Mem) (v : Value) (w : World) (her : Er w) (hv : Script w v) :
    Calls Tryd.prog 3 #[v] w fun ev w' => ev = .returned (.bool true) ∧ Below w.heap.size w w' := by
  obtain ⟨a, len, cap, rfl, hlen, hops⟩ := hv
  have hlt : 0 < w.heap.size := World.block_lt_of_cell? w _ her
  have HO : Hid (∀ j, j < len → ∃ b off, a = some ⟨b, off, none⟩ ∧ ∃ k e n y x bs, w.cell? ⟨b, off + j * 5, none⟩ = some (.int .i64 k) ∧ w.cell? ⟨b, off + j * 5 + 1, none⟩ = some (.int .i64 e) ∧ w.cell? ⟨b, off + j * 5 + 2, none⟩ = some (.int .i64 n) ∧
    w.cell? ⟨b, off + j * 5 + 3, none⟩ = some (.bool y) ∧ w.cell? ⟨b, off + j * 5 + 4, none⟩ = some x ∧ Sl w x bs ∧ bs.length ≤ 140737488355328) := hops
  clear hops
  go_enter Tryd.func3, Tryd.ntmps3
  go_wp2_with fail
  refine (I.new w).mono ?_
  rintro ev w1 ⟨sb, S1, rfl, hm1, hb1, hS1⟩
  go_wp2_with fail
  refine (doc_new w1).mono ?_
  rintro ev w2 ⟨g, rfl, hr2, hb2, hg2⟩
  have hs1 := hb1.size
  have hs2 := hb2.size
  have hB2 : Below w.heap.size w w2 := hb1.trans (hb2.mono hs1)
  have P0 : Pair Mem w.heap.size w2 sb g S1 (fun k => k = g) St.fresh :=
    ⟨I.turned hm1 (Turned.ofBelow (S := fun _ => False) hb2) (fun _ _ h => h), hr2, St.Ok.fresh, fun k hk he => by have := I.lt hm1 k hk; have he : k = g := he; omega, hS1, by omega, (hB2.cell (p := ⟨0, 0, none⟩) hlt).trans her, hlt, by omega⟩
  clear hm1 hb1 hr2 hb2 hg2 hS1
  go_wp2_with fail
  refine (alive_any I w2 P0.er).mono ?_
  rintro ev w3 ⟨rfl, hb3⟩
  have P3 := P0.below I hb3
  have hB3 : Below w.heap.size w w3 := hB2.trans (hb3.mono P0.big)
  clear P0 hb3 hB2
  go_wp2_with fail
  go_loopw [5] (fun i wr => ∃ j : Nat, j ≤ len ∧ i = .int .i64 j ∧ Below w.heap.size w wr ∧ ∃ S R st, Pair Mem w.heap.size wr sb g S R st) (fun i _ => len - (intOf i).toNat)
  case atStart => exact ⟨0, Nat.zero_le _, rfl, hB3, _, _, _, P3⟩
  case round =>
    clear P3 hB3
    obtain ⟨j, hj, rfl, hB, S, R, st, P⟩ := hrel
    by_cases hlt2 : j < len
    · obtain ⟨b, off, rfl, k, e, n, y, x, bs, c0, c1, c2, c3, c4, hx, hbs⟩ := HO.out j hlt2
      have hbl : b < w.heap.size := World.block_lt_of_cell? w _ c0
      have d0 := (hB.cell (p := ⟨b, off + j * 5, none⟩) hbl).trans c0
      have d1 := (hB.cell (p := ⟨b, off + j * 5 + 1, none⟩) hbl).trans c1
      have d2 := (hB.cell (p := ⟨b, off + j * 5 + 2, none⟩) hbl).trans c2
      have d3 := (hB.cell (p := ⟨b, off + j * 5 + 3, none⟩) hbl).trans c3
      have d4 := (hB.cell (p := ⟨b, off + j * 5 + 4, none⟩) hbl).trans c4
      have hlti : (j : Int) < (len : Int) := by omega
      have hj0 : (0 : Int) ≤ (j : Int) := by omega
      clear c0 c1 c2 c3 c4
      go_wp2_with fail
      refine (step_any I P k e n y x (hx.turnedN (Turned.ofBelow (S := fun _ => False) hB) (fun _ _ _ h => h)) hbs (fun hne => hx.lt hne)).mono ?_
      rintro ev w4 ⟨rfl, S', R', st', P', hB', _⟩
      clear d0 d1 d2 d3 d4
      go_wp2
      go_roundw
      case rel => exact ⟨j + 1, by omega, by go_num, hB.trans hB', _, _, _, P'⟩
      case measure => simp [intOf]; omega
    · have hge : ¬ (j : Int) < (len : Int) := by omega
      go_wp2_with fail
      refine (states_any I P).mono ?_
      rintro ev w5 ⟨rfl, hb5⟩
      go_wp2
      go_ret
      exact ⟨rfl, hB.trans (hb5.mono P.big)⟩
end Go.Proofs.YtjkmklbkemoldaaDoor
