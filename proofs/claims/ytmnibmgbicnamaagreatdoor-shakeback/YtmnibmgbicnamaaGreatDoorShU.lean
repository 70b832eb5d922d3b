/-
  Layer 8 (shake): what stands in the way of a side, by the program.
-/
import Derived.Test.YtmnibmgbicnamaaGreatDoorShP
import Derived.Lib.AppendZerosOnto
namespace Go.Proofs.YtmnibmgbicnamaaGreatDoor
open Go.RowKit

set_option maxRecDepth 100000 in
theorem clone_text (s : ByteArray) (hs : s.size ≤ 281474976710656) (w : World) : Calls Tryz.prog 78 #[.string s] w fun e w' => e = .returned (.string s) ∧ Below w.heap.size w w' := by
  have hc := Tryz.stringslite_Clone s w hs
  go_enter Tryz.func78, Tryz.ntmps78
  go_wp2_with fail
  refine hc.mono ?_
  rintro e w1 ⟨rfl, hb⟩
  go_wp2
  go_ret
  exact ⟨rfl, hb⟩
theorem toList_ne' {s t : ByteArray} (h : s ≠ t) : (s.toList == t.toList) = false := by
  rw [beq_eq_false_iff_ne]
  intro e
  rw [ByteArray.toList_eq, ByteArray.toList_eq] at e
  exact h (ByteArray.ext (Array.toList_inj.1 e))
/-- The slice v holds the texts ts. -/
def Tx (w : World) (v : Value) (ts : List ByteArray) : Prop := (v = .slice none 0 0 ∧ ts = []) ∨ ∃ g cap, v = .slice (some ⟨g, 0, none⟩) ts.length cap ∧ ts.length ≤ cap ∧ cap ≤ maxLen ∧ ∀ j (h : j < ts.length), w.cell? ⟨g, j, none⟩ = some (.string ts[j])
theorem Tx.below {w w' : World} {v : Value} {ts : List ByteArray} (h : Tx w v ts) (hb : Below w.heap.size w w') : Tx w' v ts := by
  rcases h with h | ⟨g, cap, h1, h2, h3, h4⟩
  · exact .inl h
  · exact .inr ⟨g, cap, h1, h2, h3, fun j hj => (hb.cell (p := ⟨g, j, none⟩) (World.block_lt_of_cell? w _ (h4 j hj))).trans (h4 j hj)⟩
theorem Tx.form {w : World} {v : Value} {ts : List ByteArray} (h : Tx w v ts) : ∃ a cap, v = .slice a ts.length cap ∧ ts.length ≤ cap := by
  rcases h with ⟨rfl, rfl⟩ | ⟨g, cap, rfl, h2, _⟩
  · exact ⟨none, 0, rfl, Nat.le_refl _⟩
  · exact ⟨_, cap, rfl, h2⟩
theorem Tx.cell {w : World} {a : Option Addr} {cap : Nat} {ts : List ByteArray} (h : Tx w (.slice a ts.length cap) ts) (j : Nat) (hj : j < ts.length) : ∃ g, a = some ⟨g, 0, none⟩ ∧ w.cell? ⟨g, j, none⟩ = some (.string ts[j]) := by
  rcases h with ⟨_, rfl⟩ | ⟨g, cap', h1, _, _, h4⟩
  · simp at hj
  · injection h1 with h1
    exact ⟨g, h1, h4 j hj⟩
theorem Tx.one (w : World) (s : ByteArray) (t : TypeId) : Tx (w.alloc (.cells #[.string s] t)) (.slice (some ⟨w.heap.size, 0, none⟩) 1 1) [s] :=
  .inr ⟨w.heap.size, 1, rfl, Nat.le_refl _, by decide, fun j hj => by
    have : j = 0 := by simp at hj; omega
    subst this; simp⟩
set_option maxRecDepth 100000 in
set_option maxHeartbeats 1600000 in
theorem tx_index {w : World} {V : Value} {ts : List ByteArray} (hV : Tx w V ts) (hl : ts.length ≤ 6) (s : ByteArray) : Calls Tryz.prog 112 #[V, .string s] w fun e w' => ∃ r : Int, e = .returned (.int .i64 r) ∧ (0 ≤ r ↔ s ∈ ts) ∧ w = w' := by
  obtain ⟨a, cap, rfl, _⟩ := hV.form
  have HC : Hid (∀ j (h : j < ts.length), ∃ g, a = some ⟨g, 0, none⟩ ∧ w.cell? ⟨g, j, none⟩ = some (.string ts[j])) := hV.cell
  clear hV
  go_enter Tryz.func112, Tryz.ntmps112
  go_wp2_with fail
  go_loopw [8] (fun i wr => ∃ j : Nat, j ≤ ts.length ∧ i = .int .i64 j ∧ s ∉ ts.take j ∧ w = wr) (fun i _ => ts.length - (intOf i).toNat)
  case atStart => exact ⟨0, Nat.zero_le _, rfl, by simp, rfl⟩
  case round =>
    obtain ⟨j, hj, rfl, hnot, rfl⟩ := hrel
    by_cases hlt : j < ts.length
    · have hlti : (j : Int) < (ts.length : Int) := by omega
      obtain ⟨g, rfl, hx⟩ := HC.out j hlt
      have HM : Hid (ts[j] ∈ ts) := List.getElem_mem hlt
      have HT : Hid (ts.take (j + 1) = ts.take j ++ [ts[j]]) := List.take_succ_eq_append_getElem hlt
      generalize ts[j] = x at hx HM HT
      by_cases he : s = x
      · subst he
        clear HT hnot
        go_wp2
        go_ret
        exact ⟨j, rfl, ⟨fun _ => HM.out, fun _ => by omega⟩, rfl⟩
      · have q := toList_ne' he
        have hnn : s ∉ ts.take (j + 1) := by rw [HT.out]; simp [hnot, he]
        have HNN : Hid (s ∉ ts.take (j + 1)) := hnn
        clear HT hnot he HM hnn
        go_wp2
        go_roundw
        case rel => exact ⟨j + 1, by omega, by go_num, HNN.out, trivial⟩
        case measure => simp [intOf]; omega
    · have hge : ¬ (j : Int) < (ts.length : Int) := by omega
      rw [List.take_of_length_le (by omega)] at hnot
      go_wp2
      go_ret
      exact ⟨-1, rfl, by decide, rfl⟩
set_option maxRecDepth 100000 in
theorem tx_contains {w : World} {V : Value} {ts : List ByteArray} (hV : Tx w V ts) (hl : ts.length ≤ 6) (s : ByteArray) : Calls Tryz.prog 99 #[V, .string s] w fun e w' => ∃ b : Bool, e = .returned (.bool b) ∧ (b = true ↔ s ∈ ts) ∧ w = w' := by
  have hi := tx_index hV hl s
  go_enter Tryz.func99, Tryz.ntmps99
  go_wp2_with fail
  refine hi.mono ?_
  rintro e w' ⟨r, rfl, hr, rfl⟩
  have HR := Hid.mk7 hr
  clear hr
  go_wp2
  go_ret
  exact ⟨decide (0 ≤ r), rfl, by rw [decide_eq_true_eq]; exact HR.out, rfl⟩
/-- append(v, x...) of slices of cells, where there is room. -/
theorem run_append_fit {P : Program} {t e : TypeId} {i : TypeInfo} (ht : P.underlying t = some (.slice e)) (hi : P.info? e = some i) (hsz : i.size = 1) (ty : TypeId) {w : World} {g cap : Nat} {x : Value} {xs ys : List Value} (hv : OwnV w (.slice (some ⟨g, 0, none⟩) xs.length cap) xs) (hx : SlV w x ys) (hy1 : ∀ u ∈ ys, u.oneCell' = true) (hroom : xs.length + ys.length ≤ cap) :
    ∃ w', (Builtin.append_ #[t, t] ty #[.slice (some ⟨g, 0, none⟩) xs.length cap, x]).run P w = .ok (.slice (some ⟨g, 0, none⟩) (xs.length + ys.length) cap) w' ∧ OwnV w' (.slice (some ⟨g, 0, none⟩) (xs.length + ys.length) cap) (xs ++ ys) ∧ Turned (fun k => k = g) w w' := by
  have hsrc : Src P 1 t x ys.length ys w := by
    rcases hx with ⟨rfl, rfl⟩ | ⟨g, off, cap, rfl, _, _, h4⟩
    · exact Src.ofNil w ht 0
    · refine Src.ofSlice w ht _ _ _ _ (by omega) (fun j u hj => ?_) hy1
      obtain ⟨hlt, rfl⟩ := List.getElem?_eq_some_iff.1 hj
      rw [Addr.add_lit]; exact h4 j hlt
  rcases hv with ⟨h, _⟩ | ⟨g', off, cap', h, h2, h3, hg, h4, h5⟩
  · cases h
  · cases h
    have hrun := run_append_room_src (P := P) w t t ty e i ht hi g 0 xs.length cap x ys.length ys (by rw [hsz]; exact hsrc) hroom (fun j hj => by rw [hsz, Nat.mul_one, Nat.add_assoc]; exact (h5 _ (by omega)).1) (fun j hj => by rw [hsz, Nat.mul_one, Nat.add_assoc]; exact (h5 _ (by omega)).2)
    rw [hsz, Nat.mul_one] at hrun
    have htn := Turned.setCells g ys (0 + xs.length) w
    have hin := World.cell?_setCells_in g ys (0 + xs.length) w (fun j hj => by rw [Nat.add_assoc]; exact (h5 _ (by omega)).1)
    have hout := World.cell?_setCells_out g ys (0 + xs.length) w
    refine ⟨_, hrun, .inr ⟨g, 0, cap, by simp, by simpa using hroom, h3, Nat.lt_of_lt_of_le hg htn.size, fun j hj => ?_, fun j hj => ⟨?_, ?_⟩⟩, htn⟩
    · by_cases hjx : j < xs.length
      · rw [hout ⟨g, 0 + j, none⟩ (fun _ _ => .inl (by simp; omega)), h4 j hjx, List.getElem_append_left hjx]
      · have hjy : j - xs.length < ys.length := by simp at hj; omega
        have := hin (j - xs.length) hjy
        rw [show 0 + xs.length + (j - xs.length) = 0 + j by omega] at this
        rw [this, List.getElem_append_right (by omega)]
    · by_cases hjo : j < xs.length ∨ xs.length + ys.length ≤ j
      · rw [hout ⟨g, 0 + j, none⟩ (fun _ _ => by simp; omega)]; exact (h5 j hj).1
      · have hjy : j - xs.length < ys.length := by omega
        have := hin (j - xs.length) hjy
        rw [show 0 + xs.length + (j - xs.length) = 0 + j by omega] at this
        rw [this]; rfl
    · rw [World.frozen?_setCells]; exact (h5 j hj).2
theorem Tryz.infoStr : (Tryz.prog.info? 9).map (fun i => (i.zero, i.size, i.bytes)) = some (some (.string ⟨#[]⟩), 1, 16) := by kernel_rfl
set_option maxRecDepth 100000 in
set_option maxHeartbeats 4000000 in
/-- slices.Grow of nothing. -/
theorem tx_grow (n : Nat) (hn1 : 1 ≤ n) (hn2 : n ≤ 6) (w : World) : Calls Tryz.prog 111 #[.slice none 0 0, .int .i64 n] w fun e w' => ∃ G, n ≤ G ∧ e = .returned (.slice (some ⟨w.heap.size, 0, none⟩) 0 G) ∧ OwnV w' (.slice (some ⟨w.heap.size, 0, none⟩) 0 G) [] ∧ Below w.heap.size w w' := by
  obtain ⟨i0, hi0, hz0, hs0, hb0⟩ := info_parts Tryz.infoStr
  have hrz : ∀ ty, (Builtin.append_ #[180, 3] ty #[.slice none 0 0, .int .i64 (n : Int)]).run Tryz.prog w = .ok (.slice (some ⟨w.heap.size, 0, none⟩) n (grownCap w n 0 9)) (w.drew.alloc (.cells (([] : List Value).toArray ++ Builtin.zeroCells (Value.string ⟨#[]⟩).cells n ++ Builtin.zeroCells (Value.string ⟨#[]⟩).cells (grownCap w n 0 9 - n)) 9)) := fun ty => by
    have h := Lib.run_append_grow_zeros w 180 3 ty 9 i0 (.string ⟨#[]⟩) .i64 .i64 Tryz.underlying180 Tryz.underlying3 hi0 hz0 none 0 0 [] (run_firstCells_none w.drew i0.size 0 0 0) n (by omega) (by omega) (by omega) (by omega) (by rw [hb0]; omega) (by rw [Nat.zero_add]; exact growslice_fits (by omega) (by rw [hb0]; omega))
    rw [Nat.zero_add] at h
    exact h
  have hG := grownCap_ge w n 0 9
  have hGm := grownCap_le_maxLen w n 0 9 (by unfold maxLen; omega)
  generalize grownCap w n 0 9 = G at hrz hG hGm
  have HW : Hid (OwnV (w.drew.alloc (.cells (([] : List Value).toArray ++ Builtin.zeroCells (Value.string ⟨#[]⟩).cells n ++ Builtin.zeroCells (Value.string ⟨#[]⟩).cells (G - n)) 9)) (.slice (some ⟨w.heap.size, 0, none⟩) 0 G) [] ∧ Below w.heap.size w (w.drew.alloc (.cells (([] : List Value).toArray ++ Builtin.zeroCells (Value.string ⟨#[]⟩).cells n ++ Builtin.zeroCells (Value.string ⟨#[]⟩).cells (G - n)) 9))) := by
    refine ⟨.inr ⟨w.heap.size, 0, G, rfl, Nat.zero_le _, hGm, by simp, fun j hj => absurd hj (Nat.not_lt_zero j), fun j hj => ⟨?_, by rw [show w.heap.size = w.drew.heap.size from rfl, World.frozen?_alloc_new]⟩⟩, ((Below.refl _ _).drew).alloc (Nat.le_refl _) _⟩
    rw [World.cell?_alloc_at _ _ _ _ (by simp), Nat.zero_add]
    simp [size_zeroCells, Value.cells]
    omega
  obtain ⟨wG, hwG⟩ : ∃ wG, wG = w.drew.alloc (.cells (([] : List Value).toArray ++ Builtin.zeroCells (Value.string ⟨#[]⟩).cells n ++ Builtin.zeroCells (Value.string ⟨#[]⟩).cells (G - n)) 9) := ⟨_, rfl⟩
  rw [← hwG] at HW
  simp only [← hwG] at hrz
  clear hwG
  have hGi : (n : Int) ≤ (G : Int) := by omega
  have hGm2 : (G : Int) ≤ 9223372036854775807 := by unfold maxLen at hGm; omega
  clear hGm
  go_enter Tryz.func111, Tryz.ntmps111
  go_wp2_with (at_builtin; refine Lib.wpList_append_run _ rfl _ _ _ _ rfl _ _ rfl rfl _ _ (hrz _) ?_)
  go_ret
  exact ⟨G, hG, rfl, HW.out⟩
end Go.Proofs.YtmnibmgbicnamaaGreatDoor
