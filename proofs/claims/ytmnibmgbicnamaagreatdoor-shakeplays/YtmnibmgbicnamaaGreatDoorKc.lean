/-
  Layer 8 (shake): what stands in the way of a side, by the program.
  Layer 8 (shake): slices.Concat of texts, what stands in the way of a side.
  Layer 8 (shake): what stands in the way of a side, by the program (permit).
  Layer 8 (shake): the program's Begin and Wait.
-/
import Derived.Test.YtmnibmgbicnamaaGreatDoorK9
import Derived.Lib.AppendZerosOnto
import Derived.Test.YtmnibmgbicnamaaGreatDoorKa
import Derived.Test.YtmnibmgbicnamaaGreatDoorKb
namespace Go.Proofs.YtmnibmgbicnamaaGreatDoor
open Go.RowKit

set_option maxRecDepth 100000 in
theorem clone_text (s : ByteArray) (hs : s.size ≤ 281474976710656) (w : World) : Calls Tryz.prog 78 #[.string s] w fun e w' => e = .returned (.string s) ∧ Below w.heap.size w w' := by
  have hc := Tryz.stringslite_Clone s w hs
  go_enter Tryz.func78, Tryz.ntmps78
  go_wp2_with fail
  refine hc.mono ?_
  rintro e w1 ⟨rfl, hb⟩
  go_wp2
  go_ret
  exact ⟨rfl, hb⟩
theorem toList_ne' {s t : ByteArray} (h : s ≠ t) : (s.toList == t.toList) = false := by
  rw [beq_eq_false_iff_ne]
  intro e
  rw [ByteArray.toList_eq, ByteArray.toList_eq] at e
  exact h (ByteArray.ext (Array.toList_inj.1 e))
/-- The slice v holds the texts ts. -/
def Tx (w : World) (v : Value) (ts : List ByteArray) : Prop := (v = .slice none 0 0 ∧ ts = []) ∨ ∃ g cap, v = .slice (some ⟨g, 0, none⟩) ts.length cap ∧ ts.length ≤ cap ∧ cap ≤ maxLen ∧ ∀ j (h : j < ts.length), w.cell? ⟨g, j, none⟩ = some (.string ts[j])
theorem Tx.below {w w' : World} {v : Value} {ts : List ByteArray} (h : Tx w v ts) (hb : Below w.heap.size w w') : Tx w' v ts := by
  rcases h with h | ⟨g, cap, h1, h2, h3, h4⟩
  · exact .inl h
  · exact .inr ⟨g, cap, h1, h2, h3, fun j hj => (hb.cell (p := ⟨g, j, none⟩) (World.block_lt_of_cell? w _ (h4 j hj))).trans (h4 j hj)⟩
theorem Tx.form {w : World} {v : Value} {ts : List ByteArray} (h : Tx w v ts) : ∃ a cap, v = .slice a ts.length cap ∧ ts.length ≤ cap := by
  rcases h with ⟨rfl, rfl⟩ | ⟨g, cap, rfl, h2, _⟩
  · exact ⟨none, 0, rfl, Nat.le_refl _⟩
  · exact ⟨_, cap, rfl, h2⟩
theorem Tx.cell {w : World} {a : Option Addr} {cap : Nat} {ts : List ByteArray} (h : Tx w (.slice a ts.length cap) ts) (j : Nat) (hj : j < ts.length) : ∃ g, a = some ⟨g, 0, none⟩ ∧ w.cell? ⟨g, j, none⟩ = some (.string ts[j]) := by
  rcases h with ⟨_, rfl⟩ | ⟨g, cap', h1, _, _, h4⟩
  · simp at hj
  · injection h1 with h1
    exact ⟨g, h1, h4 j hj⟩
theorem Tx.one (w : World) (s : ByteArray) (t : TypeId) : Tx (w.alloc (.cells #[.string s] t)) (.slice (some ⟨w.heap.size, 0, none⟩) 1 1) [s] :=
  .inr ⟨w.heap.size, 1, rfl, Nat.le_refl _, by decide, fun j hj => by
    have : j = 0 := by simp at hj; omega
    subst this; simp⟩
set_option maxRecDepth 100000 in
set_option maxHeartbeats 1600000 in
theorem tx_index {w : World} {V : Value} {ts : List ByteArray} (hV : Tx w V ts) (hl : ts.length ≤ 6) (s : ByteArray) : Calls Tryz.prog 112 #[V, .string s] w fun e w' => ∃ r : Int, e = .returned (.int .i64 r) ∧ (0 ≤ r ↔ s ∈ ts) ∧ w = w' := by
  obtain ⟨a, cap, rfl, _⟩ := hV.form
  have HC : Hid (∀ j (h : j < ts.length), ∃ g, a = some ⟨g, 0, none⟩ ∧ w.cell? ⟨g, j, none⟩ = some (.string ts[j])) := hV.cell
  clear hV
  go_enter Tryz.func112, Tryz.ntmps112
  go_wp2_with fail
  go_loopw [8] (fun i wr => ∃ j : Nat, j ≤ ts.length ∧ i = .int .i64 j ∧ s ∉ ts.take j ∧ w = wr) (fun i _ => ts.length - (intOf i).toNat)
  case atStart => exact ⟨0, Nat.zero_le _, rfl, by simp, rfl⟩
  case round =>
    obtain ⟨j, hj, rfl, hnot, rfl⟩ := hrel
    by_cases hlt : j < ts.length
    · have hlti : (j : Int) < (ts.length : Int) := by omega
      obtain ⟨g, rfl, hx⟩ := HC.out j hlt
      have HM : Hid (ts[j] ∈ ts) := List.getElem_mem hlt
      have HT : Hid (ts.take (j + 1) = ts.take j ++ [ts[j]]) := List.take_succ_eq_append_getElem hlt
      generalize ts[j] = x at hx HM HT
      by_cases he : s = x
      · subst he
        clear HT hnot
        go_wp2
        go_ret
        exact ⟨j, rfl, ⟨fun _ => HM.out, fun _ => by omega⟩, rfl⟩
      · have q := toList_ne' he
        have hnn : s ∉ ts.take (j + 1) := by rw [HT.out]; simp [hnot, he]
        have HNN : Hid (s ∉ ts.take (j + 1)) := hnn
        clear HT hnot he HM hnn
        go_wp2
        go_roundw
        case rel => exact ⟨j + 1, by omega, by go_num, HNN.out, trivial⟩
        case measure => simp [intOf]; omega
    · have hge : ¬ (j : Int) < (ts.length : Int) := by omega
      rw [List.take_of_length_le (by omega)] at hnot
      go_wp2
      go_ret
      exact ⟨-1, rfl, by decide, rfl⟩
set_option maxRecDepth 100000 in
theorem tx_contains {w : World} {V : Value} {ts : List ByteArray} (hV : Tx w V ts) (hl : ts.length ≤ 6) (s : ByteArray) : Calls Tryz.prog 99 #[V, .string s] w fun e w' => ∃ b : Bool, e = .returned (.bool b) ∧ (b = true ↔ s ∈ ts) ∧ w = w' := by
  have hi := tx_index hV hl s
  go_enter Tryz.func99, Tryz.ntmps99
  go_wp2_with fail
  refine hi.mono ?_
  rintro e w' ⟨r, rfl, hr, rfl⟩
  have HR := Hid.mk7 hr
  clear hr
  go_wp2
  go_ret
  exact ⟨decide (0 ≤ r), rfl, by rw [decide_eq_true_eq]; exact HR.out, rfl⟩
/-- append(v, x...) of slices of cells, where there is room. -/
theorem run_append_fit {P : Program} {t e : TypeId} {i : TypeInfo} (ht : P.underlying t = some (.slice e)) (hi : P.info? e = some i) (hsz : i.size = 1) (ty : TypeId) {w : World} {g cap : Nat} {x : Value} {xs ys : List Value} (hv : OwnV w (.slice (some ⟨g, 0, none⟩) xs.length cap) xs) (hx : SlV w x ys) (hy1 : ∀ u ∈ ys, u.oneCell' = true) (hroom : xs.length + ys.length ≤ cap) :
    ∃ w', (Builtin.append_ #[t, t] ty #[.slice (some ⟨g, 0, none⟩) xs.length cap, x]).run P w = .ok (.slice (some ⟨g, 0, none⟩) (xs.length + ys.length) cap) w' ∧ OwnV w' (.slice (some ⟨g, 0, none⟩) (xs.length + ys.length) cap) (xs ++ ys) ∧ Turned (fun k => k = g) w w' := by
  have hsrc : Src P 1 t x ys.length ys w := by
    rcases hx with ⟨rfl, rfl⟩ | ⟨g, off, cap, rfl, _, _, h4⟩
    · exact Src.ofNil w ht 0
    · refine Src.ofSlice w ht _ _ _ _ (by omega) (fun j u hj => ?_) hy1
      obtain ⟨hlt, rfl⟩ := List.getElem?_eq_some_iff.1 hj
      rw [Addr.add_lit]; exact h4 j hlt
  rcases hv with ⟨h, _⟩ | ⟨g', off, cap', h, h2, h3, hg, h4, h5⟩
  · cases h
  · cases h
    have hrun := run_append_room_src (P := P) w t t ty e i ht hi g 0 xs.length cap x ys.length ys (by rw [hsz]; exact hsrc) hroom (fun j hj => by rw [hsz, Nat.mul_one, Nat.add_assoc]; exact (h5 _ (by omega)).1) (fun j hj => by rw [hsz, Nat.mul_one, Nat.add_assoc]; exact (h5 _ (by omega)).2)
    rw [hsz, Nat.mul_one] at hrun
    have htn := Turned.setCells g ys (0 + xs.length) w
    have hin := World.cell?_setCells_in g ys (0 + xs.length) w (fun j hj => by rw [Nat.add_assoc]; exact (h5 _ (by omega)).1)
    have hout := World.cell?_setCells_out g ys (0 + xs.length) w
    refine ⟨_, hrun, .inr ⟨g, 0, cap, by simp, by simpa using hroom, h3, Nat.lt_of_lt_of_le hg htn.size, fun j hj => ?_, fun j hj => ⟨?_, ?_⟩⟩, htn⟩
    · by_cases hjx : j < xs.length
      · rw [hout ⟨g, 0 + j, none⟩ (fun _ _ => .inl (by simp; omega)), h4 j hjx, List.getElem_append_left hjx]
      · have hjy : j - xs.length < ys.length := by simp at hj; omega
        have := hin (j - xs.length) hjy
        rw [show 0 + xs.length + (j - xs.length) = 0 + j by omega] at this
        rw [this, List.getElem_append_right (by omega)]
    · by_cases hjo : j < xs.length ∨ xs.length + ys.length ≤ j
      · rw [hout ⟨g, 0 + j, none⟩ (fun _ _ => by simp; omega)]; exact (h5 j hj).1
      · have hjy : j - xs.length < ys.length := by omega
        have := hin (j - xs.length) hjy
        rw [show 0 + xs.length + (j - xs.length) = 0 + j by omega] at this
        rw [this]; rfl
    · rw [World.frozen?_setCells]; exact (h5 j hj).2
theorem Tryz.infoStr : (Tryz.prog.info? 9).map (fun i => (i.zero, i.size, i.bytes)) = some (some (.string ⟨#[]⟩), 1, 16) := by kernel_rfl
set_option maxRecDepth 100000 in
set_option maxHeartbeats 4000000 in
/-- slices.Grow of nothing. -/
theorem tx_grow (n : Nat) (hn1 : 1 ≤ n) (hn2 : n ≤ 6) (w : World) : Calls Tryz.prog 111 #[.slice none 0 0, .int .i64 n] w fun e w' => ∃ G, n ≤ G ∧ e = .returned (.slice (some ⟨w.heap.size, 0, none⟩) 0 G) ∧ OwnV w' (.slice (some ⟨w.heap.size, 0, none⟩) 0 G) [] ∧ Below w.heap.size w w' := by
  obtain ⟨i0, hi0, hz0, hs0, hb0⟩ := info_parts Tryz.infoStr
  have hrz : ∀ ty, (Builtin.append_ #[180, 3] ty #[.slice none 0 0, .int .i64 (n : Int)]).run Tryz.prog w = .ok (.slice (some ⟨w.heap.size, 0, none⟩) n (grownCap w n 0 9)) (w.drew.alloc (.cells (([] : List Value).toArray ++ Builtin.zeroCells (Value.string ⟨#[]⟩).cells n ++ Builtin.zeroCells (Value.string ⟨#[]⟩).cells (grownCap w n 0 9 - n)) 9)) := fun ty => by
    have h := Lib.run_append_grow_zeros w 180 3 ty 9 i0 (.string ⟨#[]⟩) .i64 .i64 Tryz.underlying180 Tryz.underlying3 hi0 hz0 none 0 0 [] (run_firstCells_none w.drew i0.size 0 0 0) n (by omega) (by omega) (by omega) (by omega) (by rw [hb0]; omega) (by rw [Nat.zero_add]; exact growslice_fits (by omega) (by rw [hb0]; omega))
    rw [Nat.zero_add] at h
    exact h
  have hG := grownCap_ge w n 0 9
  have hGm := grownCap_le_maxLen w n 0 9 (by unfold maxLen; omega)
  generalize grownCap w n 0 9 = G at hrz hG hGm
  have HW : Hid (OwnV (w.drew.alloc (.cells (([] : List Value).toArray ++ Builtin.zeroCells (Value.string ⟨#[]⟩).cells n ++ Builtin.zeroCells (Value.string ⟨#[]⟩).cells (G - n)) 9)) (.slice (some ⟨w.heap.size, 0, none⟩) 0 G) [] ∧ Below w.heap.size w (w.drew.alloc (.cells (([] : List Value).toArray ++ Builtin.zeroCells (Value.string ⟨#[]⟩).cells n ++ Builtin.zeroCells (Value.string ⟨#[]⟩).cells (G - n)) 9))) := by
    refine ⟨.inr ⟨w.heap.size, 0, G, rfl, Nat.zero_le _, hGm, by simp, fun j hj => absurd hj (Nat.not_lt_zero j), fun j hj => ⟨?_, by rw [show w.heap.size = w.drew.heap.size from rfl, World.frozen?_alloc_new]⟩⟩, ((Below.refl _ _).drew).alloc (Nat.le_refl _) _⟩
    rw [World.cell?_alloc_at _ _ _ _ (by simp), Nat.zero_add]
    simp [size_zeroCells, Value.cells]
    omega
  obtain ⟨wG, hwG⟩ : ∃ wG, wG = w.drew.alloc (.cells (([] : List Value).toArray ++ Builtin.zeroCells (Value.string ⟨#[]⟩).cells n ++ Builtin.zeroCells (Value.string ⟨#[]⟩).cells (G - n)) 9) := ⟨_, rfl⟩
  rw [← hwG] at HW
  simp only [← hwG] at hrz
  clear hwG
  have hGi : (n : Int) ≤ (G : Int) := by omega
  have hGm2 : (G : Int) ≤ 9223372036854775807 := by unfold maxLen at hGm; omega
  clear hGm
  go_enter Tryz.func111, Tryz.ntmps111
  go_wp2_with (at_builtin; refine Lib.wpList_append_run _ rfl _ _ _ _ rfl _ _ rfl rfl _ _ (hrz _) ?_)
  go_ret
  exact ⟨G, hG, rfl, HW.out⟩
end Go.Proofs.YtmnibmgbicnamaaGreatDoor
namespace Go.Proofs.YtmnibmgbicnamaaGreatDoor
open Go.RowKit

theorem Tx.slv {w : World} {v : Value} {ts : List ByteArray} (h : Tx w v ts) : SlV w v (ts.map Value.string) := by
  rcases h with ⟨rfl, rfl⟩ | ⟨g, cap, rfl, h2, h3, h4⟩
  · exact .inl ⟨rfl, rfl⟩
  · exact .inr ⟨g, 0, cap, by simp, by simpa using h2, h3, fun j hj => by rw [Nat.zero_add]; simpa using h4 j (by simpa using hj)⟩
theorem OwnV.tx {w : World} {g n cap : Nat} {ts : List ByteArray} (h : OwnV w (.slice (some ⟨g, 0, none⟩) n cap) (ts.map Value.string)) : Tx w (.slice (some ⟨g, 0, none⟩) n cap) ts := by
  rcases h with ⟨h, _⟩ | ⟨g', off, cap', h, h2, h3, _, h4, _⟩
  · cases h
  · injection h with ha hn hc
    injection ha with ha
    injection ha with ha1 ha2
    subst ha1 ha2 hc
    simp at hn
    subst hn
    exact .inr ⟨g, cap, rfl, by simpa using h2, h3, fun j hj => by have := h4 j (by simpa using hj); rw [Nat.zero_add] at this; simpa using this⟩
set_option maxRecDepth 100000 in
set_option maxHeartbeats 6400000 in
theorem tx_concat (name : ByteArray) (ts : List ByteArray) (hts : ts.length ≤ 1) {w : World} {gs : Nat} {a b : Value} (h0 : w.cell? ⟨gs, 0, none⟩ = some a) (h1 : w.cell? ⟨gs, 1, none⟩ = some b) (ha : Tx w a [name]) (hb : Tx w b ts) : Calls Tryz.prog 98 #[.slice (some ⟨gs, 0, none⟩) 2 2] w fun e w' => ∃ V, e = .returned V ∧ Tx w' V (name :: ts) ∧ Below w.heap.size w w' := by
  obtain ⟨i0, hi0, _, hs0, _⟩ := info_parts Tryz.infoStr
  obtain ⟨aa, ca, rfl, _⟩ := ha.form
  obtain ⟨ab, cb, rfl, _⟩ := hb.form
  have hgr := tx_grow (1 + ts.length) (by omega) (by omega) w
  have HA := Hid.mk7 ha
  have HBT := Hid.mk7 hb
  have hgl : gs < w.heap.size := World.block_lt_of_cell? w _ h0
  obtain ⟨n, hn⟩ : ∃ n, n = ts.length := ⟨_, rfl⟩
  rw [← hn] at hgr h1 hts
  have HN := Hid.mk7 hn
  clear ha hb hn
  have hn01 : n = 0 ∨ n = 1 := by omega
  simp only [List.length_cons, List.length_nil, Nat.zero_add] at h0
  have hcast : ((1 + n : Nat) : Int) = 1 + (n : Int) := by omega
  rw [hcast] at hgr
  clear hcast
  go_enter Tryz.func98, Tryz.ntmps98
  go_wp2_with fail
  refine wp_loop_rounds 3 ?_
  rw [rounds_succ]
  go_wp2_with fail
  rw [rounds_succ]
  go_wp2_with fail
  rw [rounds_succ]
  go_wp2_with fail
  refine hgr.mono ?_
  rintro e w1 ⟨G, hG, rfl, hO, hB⟩
  have c0 := (hB.cell (p := ⟨gs, 0, none⟩) hgl).trans h0
  have c1 := (hB.cell (p := ⟨gs, 1, none⟩) hgl).trans h1
  have hwl : w.heap.size < w1.heap.size := by
    rcases hO with ⟨h, _⟩ | ⟨g', _, _, h, _, _, hg, _⟩
    · cases h
    · injection h with ha; injection ha with ha; injection ha with ha; omega
  obtain ⟨w2, hr2, hO2, hT2⟩ := run_append_fit (P := Tryz.prog) Tryz.underlying180 hi0 hs0 180 (xs := []) hO (HA.out.below hB).slv (fun u hu => by simp at hu; subst hu; rfl) (by simp; omega)
  have b2 : Below w.heap.size w1 w2 := hT2.below (Nat.le_of_lt hwl) (fun k hk => Nat.le_of_eq hk.symm)
  have hB2 : Below w.heap.size w w2 := hB.trans b2
  have d0 := (hB2.cell (p := ⟨gs, 0, none⟩) hgl).trans h0
  have d1 := (hB2.cell (p := ⟨gs, 1, none⟩) hgl).trans h1
  simp only [List.length_nil, List.map_cons, List.map_nil, List.length_cons, Nat.zero_add, List.nil_append] at hr2 hO2
  obtain ⟨w3, hr3, hO3, hT3⟩ := run_append_fit (P := Tryz.prog) Tryz.underlying180 hi0 hs0 180 (xs := [.string name]) hO2 (HBT.out.below hB2).slv (fun u hu => by obtain ⟨t, _, rfl⟩ := List.mem_map.1 hu; rfl) (by have := HN.out; simp; omega)
  have hB3 : Below w.heap.size w w3 := hB2.trans (hT3.below (Nat.le_trans (Nat.le_of_lt hwl) b2.size) (fun k hk => Nat.le_of_eq hk.symm))
  have e0 := (hB3.cell (p := ⟨gs, 0, none⟩) hgl).trans h0
  have e1 := (hB3.cell (p := ⟨gs, 1, none⟩) hgl).trans h1
  simp only [List.length_cons, List.length_nil, Nat.zero_add, List.length_map, ← HN.out] at hr3 hO3
  have HF : Hid (OwnV w3 (.slice (some ⟨w.heap.size, 0, none⟩) (1 + n) G) ((name :: ts).map Value.string) ∧ Below w.heap.size w w3) := ⟨hO3, hB3⟩
  clear hO hB hO2 hT2 b2 hB2 hO3 hT3 hB3 hgr h0 h1
  go_wp2_with fail
  refine wp_loop_rounds 3 ?_
  rw [rounds_succ]
  go_wp2_with (at_builtin; refine Lib.wpList_append_run _ rfl _ _ _ _ rfl _ _ rfl rfl _ _ hr2 ?_)
  rw [rounds_succ]
  go_wp2_with (at_builtin; refine Lib.wpList_append_run _ rfl _ _ _ _ rfl _ _ rfl rfl _ _ hr3 ?_)
  rw [rounds_succ]
  go_wp2
  go_ret
  exact ⟨_, rfl, HF.out.1.tx, HF.out.2⟩
end Go.Proofs.YtmnibmgbicnamaaGreatDoor
namespace Go.Proofs.YtmnibmgbicnamaaGreatDoor
open Go.RowKit

/-- What permit tells. -/
def permitErr (me : Pr) (cookie : ByteArray) : Option ByteArray → List Lnk
  | none => madeErr me ⟨#[]⟩ false cookie
  | some p => madeErr me p true cookie
def peersOf : Option ByteArray → List ByteArray
  | none => []
  | some p => [p]
theorem fault_of_mix {B : Nat} {w : World} {v : Value} {x : Int × Int} (h : FaultAt B w v x) : FaultC B w v [⟨lyMix, x.1, x.2⟩] := by
  obtain ⟨pb, h1, h2, c0, c1, c2, c3⟩ := h
  exact ⟨pb, h1, h2, c0, c1, c2, c3⟩
theorem fault_cases' {B : Nat} {w : World} {v : Value} : ∀ {ls : List Lnk}, FaultC B w v ls → (ls = [] ∧ v = .nilIface) ∨ (ls ≠ [] ∧ ∃ pb, v = .iface 131 (.pointer (some ⟨pb, 0, none⟩)))
  | [], h => .inl ⟨rfl, h⟩
  | [_], ⟨pb, _, h, _⟩ => .inr ⟨by simp, pb, h⟩
  | [_, _], ⟨pb, _, _, _, h, _⟩ => .inr ⟨by simp, pb, h⟩
  | _ :: _ :: _ :: _, h => h.elim
/-- The end of permit: the cookie. -/
theorem tail_err (me : Pr) (cookie : ByteArray) (op : Option ByteArray) (h1 : nodeOk me.name = true) (h2 : ∀ p, op = some p → nodeOk p = true) : permitErr me cookie op = if peerErr me ≠ [] then peerErr me else if op = some me.name then sh 0 6 else match cookieErr cookie with
    | some x => shCookie x
    | none => [] := by
  by_cases hl : lacksB me.flags = true
  · have hpe : peerErr me = sh 0 162 := by unfold peerErr; rw [if_pos hl]
    rw [hpe, if_pos (by simp [sh])]
    cases op with
    | none => simp [permitErr, madeErr, h1, hl]
    | some p => simp [permitErr, madeErr, h1, h2 p rfl, hl]
  · have hl' : lacksB me.flags = false := by simpa using hl
    by_cases hc : me.creation = 0
    · have hpe : peerErr me = sh 0 1 := by unfold peerErr; rw [if_neg hl, if_pos hc]
      rw [hpe, if_pos (by simp [sh])]
      cases op with
      | none => simp [permitErr, madeErr, h1, hl', hc]
      | some p => simp [permitErr, madeErr, h1, h2 p rfl, hl', hc]
    · have hpe : peerErr me = [] := by unfold peerErr; rw [if_neg hl, if_neg hc]
      rw [hpe, if_neg (by simp)]
      cases op with
      | none => simp [permitErr, madeErr, h1, hl', hc]; rfl
      | some p =>
        by_cases hp : p = me.name
        · simp [permitErr, madeErr, h1, hl', hc, hp]
        · simp [permitErr, madeErr, h1, h2 p rfl, hl', hc, hp]; rfl
set_option maxRecDepth 100000 in
set_option maxHeartbeats 12800000 in
theorem sd_permit (me : Pr) (cookie : ByteArray) (op : Option ByteArray) (hns : me.name.size ≤ 4611686018427387904) (hps : ∀ p, op = some p → p.size ≤ 4611686018427387904) (hcs : cookie.size ≤ 4611686018427387904) {w : World} {P : Value} (hP : Tx w P (peersOf op)) (hG : Gd w) :
    Calls Tryz.prog 77 #[.agg #[.string me.name, .int .u64 me.flags, .int .u32 me.creation], .string cookie, P] w fun e w' => ∃ v, e = .returned v ∧ FaultC w.heap.size w' v (permitErr me cookie op) ∧ Below w.heap.size w w' := by
  have hpl : (peersOf op).length ≤ 1 := by cases op <;> simp [peersOf]
  obtain ⟨aP, cP, rfl, _⟩ := hP.form
  obtain ⟨ls, hls⟩ : ∃ ls, ls = permitErr me cookie op := ⟨_, rfl⟩
  rw [← hls]
  have HLS := Hid.mk7 hls
  have HP := Hid.mk7 hP
  have HG := Hid.mk7 hG
  have HPS := Hid.mk7 hps
  have HTE := Hid.mk7 (tail_err me cookie op)
  have hcc := fun (W : World) (gs : Nat) (a b : Value) (h0 : W.cell? ⟨gs, 0, none⟩ = some a) (h1 : W.cell? ⟨gs, 1, none⟩ = some b) (ha : Tx W a [me.name]) (hb : Tx W b (peersOf op)) => tx_concat me.name (peersOf op) hpl h0 h1 ha hb
  have HCC := Hid.mk7 hcc
  clear hls hP hG hps hcc
  obtain ⟨nm, fl, cr⟩ := me
  simp only at hns HCC HTE ⊢
  go_enter Tryz.func77, Tryz.ntmps77
  go_wp2_with fail
  obtain ⟨wa, hwa⟩ : ∃ wa, wa = w.alloc (.cells #[.string nm, .int .u64 fl, .int .u32 cr] 46) := ⟨_, rfl⟩
  obtain ⟨wb, hwb⟩ : ∃ wb, wb = wa.alloc (.cells #[.string nm] 9) := ⟨_, rfl⟩
  obtain ⟨wc, hwc⟩ : ∃ wc, wc = wb.alloc (.cells #[.slice (some ⟨wa.heap.size, 0, none⟩) 1 1, .slice aP (peersOf op).length cP] 180) := ⟨_, rfl⟩
  have ba : Below w.heap.size w wa := by rw [hwa]; exact (Below.refl _ _).alloc (Nat.le_refl _) _
  have bb : Below wa.heap.size wa wb := by rw [hwb]; exact (Below.refl _ _).alloc (Nat.le_refl _) _
  have bc : Below wb.heap.size wb wc := by rw [hwc]; exact (Below.refl _ _).alloc (Nat.le_refl _) _
  have bab := ba.trans (bb.mono ba.size)
  have bac := bab.trans (bc.mono bab.size)
  have pa : PeerAt wa w.heap.size ⟨nm, fl, cr⟩ := by rw [hwa]; exact PeerAt.ofNew w ⟨nm, fl, cr⟩ _
  have tb : Tx wb (.slice (some ⟨wa.heap.size, 0, none⟩) 1 1) [nm] := by rw [hwb]; exact Tx.one wa nm _
  have c0 : wc.cell? ⟨wb.heap.size, 0, none⟩ = some (.slice (some ⟨wa.heap.size, 0, none⟩) 1 1) := by rw [hwc]; simp
  have c1 : wc.cell? ⟨wb.heap.size, 1, none⟩ = some (.slice aP (peersOf op).length cP) := by rw [hwc]; simp
  have hcall := HCC.out wc wb.heap.size _ _ c0 c1 (tb.below bc) (HP.out.below bac)
  have H0 : Hid (Below w.heap.size w wc ∧ PeerAt wc w.heap.size ⟨nm, fl, cr⟩) := ⟨bac, (pa.below bb).below bc⟩
  have hgoal := hcall
  rw [hwc, hwb, hwa] at hgoal
  simp only [World.size_alloc] at hgoal
  refine hgoal.mono ?_
  clear hgoal
  rintro e w1 ⟨V, rfl, hV, hb1⟩
  have hb1' : Below wc.heap.size wc w1 := by
    rw [hwc, hwb, hwa]
    simp only [World.size_alloc]
    exact hb1
  have H1 : Hid (Below w.heap.size w w1 ∧ PeerAt w1 w.heap.size ⟨nm, fl, cr⟩ ∧ Tx w1 V (nm :: peersOf op)) := ⟨H0.out.1.trans (hb1'.mono H0.out.1.size), H0.out.2.below hb1', hV⟩
  obtain ⟨aV, cV, rfl, _⟩ := hV.form
  have hcell := Hid.mk7 hV.cell
  clear hwa hwb hwc ba bb bc bab bac pa tb c0 c1 hcall hb1 hb1' hV HCC H0 wa wb wc
  cases op with
  | none =>
    have hnm := sh_name 0 nm hns w1 (HG.out.er.below H1.out.1)
    obtain ⟨gV, rfl, hx0⟩ := H1.out.2.2.cell 0 (by simp)
    simp only [List.getElem_cons_zero] at hx0
    simp only [peersOf, List.length_cons, List.length_nil, Nat.zero_add] at hcell ⊢
    go_wp2_with fail
    refine wp_loop_rounds 2 ?_
    rw [rounds_succ]
    cases hok : nodeOk nm with
    | false =>
      rw [hok] at hnm
      have HTB : Hid (permitErr ⟨nm, fl, cr⟩ cookie none = shName 0) := by
        have h : permitErr ⟨nm, fl, cr⟩ cookie none = shName 0 := by simp [permitErr, madeErr, hok]
        exact h
      clear hok
      go_wp2_with fail
      refine hnm.mono ?_
      rintro e w2 ⟨v2, rfl, hf2, hb2⟩
      have hf2 : FaultC w1.heap.size w2 v2 (shName 0) := hf2
      have HN := Hid.mk7 (And.intro (hf2.mono H1.out.1.size) (H1.out.1.trans (hb2.mono H1.out.1.size)))
      obtain ⟨pb, qb, _, _, rfl, _⟩ := hf2
      clear hb2 hnm
      go_wp2
      go_ret
      exact ⟨_, rfl, by rw [HLS.out, HTB.out]; exact HN.out.1, HN.out.2⟩
    | true =>
      rw [hok] at hnm
      have HOK := Hid.mk7 hok
      clear hok
      go_wp2_with fail
      refine hnm.mono ?_
      rintro e wL ⟨v2, rfl, hf2, hb2⟩
      have hf2 : v2 = .nilIface := hf2
      subst hf2
      have HW : Hid (Below w.heap.size w wL ∧ PeerAt wL w.heap.size ⟨nm, fl, cr⟩) := ⟨H1.out.1.trans (hb2.mono H1.out.1.size), H1.out.2.1.below hb2⟩
      clear hb2 hnm hx0
      go_wp2_with fail
      rw [rounds_succ]
      have HT5 := Hid.mk7 (HTE.out HOK.out (fun _ h => by cases h))
      obtain ⟨p0, p1, p2⟩ := HW.out.2
      simp only at p0 p1 p2
      have hcp := sd_checkPeer ⟨nm, fl, cr⟩ wL
      simp only at hcp
      go_wp2_with fail
      refine hcp.mono ?_
      rintro e w5 ⟨v5, rfl, hf5, hb5⟩
      have H5 : Hid (Below w.heap.size w w5 ∧ PeerAt w5 w.heap.size ⟨nm, fl, cr⟩ ∧ FaultC w.heap.size w5 v5 (peerErr ⟨nm, fl, cr⟩)) := ⟨HW.out.1.trans (hb5.mono HW.out.1.size), HW.out.2.below hb5, hf5.mono HW.out.1.size⟩
      clear hb5 hcp p0 p1 p2
      rcases fault_cases' hf5 with ⟨hpe, rfl⟩ | ⟨hpe, pb, rfl⟩
      · have HT6 := Hid.mk7 (HT5.out.trans (if_neg (fun h => h hpe)))
        have hct := tx_contains (HP.out.below H5.out.1) (by omega) nm
        obtain ⟨p0, p1, p2⟩ := H5.out.2.1
        simp only at p0 p1 p2
        clear hf5 hpe
        go_wp2_with fail
        refine hct.mono ?_
        rintro e w5' ⟨bb, rfl, hbb, rfl⟩
        have HBB := Hid.mk7 hbb
        clear hct hbb p0 p1 p2
        cases bb with
        | true =>
          have hin := (HBB.out).1 rfl
          have HT7 := Hid.mk7 (HT6.out.trans (if_pos (by simp [peersOf] at hin)))
          clear hin
          go_wp2_with fail
          refine (sh_refuse _ _ _).mono ?_
          rintro e w6 ⟨v6, rfl, hf6, hb6⟩
          have HN := Hid.mk7 (And.intro (hf6.mono H5.out.1.size) (H5.out.1.trans (hb6.mono H5.out.1.size)))
          obtain ⟨pb, _, rfl, _⟩ := hf6
          clear hb6
          go_wp2
          go_ret
          exact ⟨_, rfl, by rw [HLS.out, HT7.out]; exact HN.out.1, HN.out.2⟩
        | false =>
          have hin : ¬ nm ∈ peersOf none := fun h => absurd (HBB.out.2 h) (by decide)
          have HT7 := Hid.mk7 (HT6.out.trans (if_neg (fun h => hin (by rw [h]; simp [peersOf]))))
          have hck := mix_cookie cookie hcs w5
          clear hin
          cases hce : cookieErr cookie with
          | none =>
            rw [hce] at hck
            have hT8 := HT7.out
            rw [hce] at hT8
            have HT8 := Hid.mk7 hT8
            clear hce hT8
            go_wp2_with fail
            refine hck.mono ?_
            rintro e w6 ⟨v6, rfl, hf6, hb6⟩
            have hf6 : v6 = .nilIface := hf6
            subst hf6
            have H6 := Hid.mk7 (H5.out.1.trans (hb6.mono H5.out.1.size))
            clear hb6 hck
            go_wp2_with fail
            refine (sh_wrap_nil _ _).mono ?_
            rintro e w7 ⟨rfl, hb7⟩
            go_wp2
            go_ret
            exact ⟨_, rfl, by rw [HLS.out, HT8.out]; rfl, H6.out.trans (hb7.mono H6.out.size)⟩
          | some x =>
            rw [hce] at hck
            have hT8 := HT7.out
            rw [hce] at hT8
            have HT8 := Hid.mk7 hT8
            clear hce hT8
            go_wp2_with fail
            refine hck.mono ?_
            rintro e w6 ⟨v6, rfl, hf6, hb6⟩
            have hf6 := fault_of_mix hf6
            have B6 := H5.out.1.trans (hb6.mono H5.out.1.size)
            have hwr := sh_wrap_one 0 ⟨lyMix, x.1, x.2⟩ (HG.out.er.below B6) (hf6.mono H5.out.1.size)
            have H6 := Hid.mk7 B6
            obtain ⟨pb, _, rfl, _⟩ := hf6
            clear hb6 hck B6
            go_wp2_with fail
            refine hwr.mono ?_
            rintro e w7 ⟨v7, rfl, hf7, hb7⟩
            have HN := Hid.mk7 (And.intro hf7 (H6.out.trans (hb7.mono H6.out.size)))
            obtain ⟨pb7, qb7, _, _, rfl, _⟩ := hf7
            clear hb7 hwr
            go_wp2
            go_ret
            exact ⟨_, rfl, by rw [HLS.out, HT8.out]; exact HN.out.1, HN.out.2⟩
      · have HT6 := Hid.mk7 (HT5.out.trans (if_pos hpe))
        clear hf5 hpe
        go_wp2
        go_ret
        exact ⟨_, rfl, by rw [HLS.out, HT6.out]; exact H5.out.2.2, H5.out.1⟩
  | some p =>
    have hnm := sh_name 0 nm hns w1 (HG.out.er.below H1.out.1)
    obtain ⟨gV, rfl, hx0⟩ := H1.out.2.2.cell 0 (by simp)
    obtain ⟨gV', hgV', hx1⟩ := H1.out.2.2.cell 1 (by simp [peersOf])
    injection hgV' with hgV'
    injection hgV' with hgV'
    subst hgV'
    simp only [List.getElem_cons_zero, List.getElem_cons_succ, peersOf] at hx0 hx1
    have hgl : gV < w1.heap.size := World.block_lt_of_cell? w1 _ hx0
    simp only [peersOf, List.length_cons, List.length_nil, Nat.zero_add] at hcell ⊢
    go_wp2_with fail
    refine wp_loop_rounds 3 ?_
    rw [rounds_succ]
    cases hok : nodeOk nm with
    | false =>
      rw [hok] at hnm
      have HTB : Hid (permitErr ⟨nm, fl, cr⟩ cookie (some p) = shName 0) := by
        have h : permitErr ⟨nm, fl, cr⟩ cookie (some p) = shName 0 := by simp [permitErr, madeErr, hok]
        exact h
      clear hok
      go_wp2_with fail
      refine hnm.mono ?_
      rintro e w2 ⟨v2, rfl, hf2, hb2⟩
      have hf2 : FaultC w1.heap.size w2 v2 (shName 0) := hf2
      have HN := Hid.mk7 (And.intro (hf2.mono H1.out.1.size) (H1.out.1.trans (hb2.mono H1.out.1.size)))
      obtain ⟨pb, qb, _, _, rfl, _⟩ := hf2
      clear hb2 hnm
      go_wp2
      go_ret
      exact ⟨_, rfl, by rw [HLS.out, HTB.out]; exact HN.out.1, HN.out.2⟩
    | true =>
      rw [hok] at hnm
      have HOK := Hid.mk7 hok
      clear hok
      go_wp2_with fail
      refine hnm.mono ?_
      rintro e w2 ⟨v2, rfl, hf2, hb2⟩
      have hf2 : v2 = .nilIface := hf2
      subst hf2
      have H2 : Hid (Below w.heap.size w w2 ∧ PeerAt w2 w.heap.size ⟨nm, fl, cr⟩) := ⟨H1.out.1.trans (hb2.mono H1.out.1.size), H1.out.2.1.below hb2⟩
      have hy1 := (hb2.cell (p := ⟨gV, 1, none⟩) hgl).trans hx1
      have hnp := sh_name 0 p (HPS.out p rfl) w2 (HG.out.er.below H2.out.1)
      clear hb2 hnm hx0 hx1
      go_wp2_with fail
      rw [rounds_succ]
      cases hok2 : nodeOk p with
      | false =>
        rw [hok2] at hnp
        have HTB : Hid (permitErr ⟨nm, fl, cr⟩ cookie (some p) = shName 0) := by
          have h : permitErr ⟨nm, fl, cr⟩ cookie (some p) = shName 0 := by have := HOK.out; simp [permitErr, madeErr, this, hok2]
          exact h
        clear hok2
        go_wp2_with fail
        refine hnp.mono ?_
        rintro e w3 ⟨v3, rfl, hf3, hb3⟩
        have hf3 : FaultC w2.heap.size w3 v3 (shName 0) := hf3
        have HN := Hid.mk7 (And.intro (hf3.mono H2.out.1.size) (H2.out.1.trans (hb3.mono H2.out.1.size)))
        obtain ⟨pb, qb, _, _, rfl, _⟩ := hf3
        clear hb3 hnp
        go_wp2
        go_ret
        exact ⟨_, rfl, by rw [HLS.out, HTB.out]; exact HN.out.1, HN.out.2⟩
      | true =>
        rw [hok2] at hnp
        have HOK2 := Hid.mk7 hok2
        clear hok2
        go_wp2_with fail
        refine hnp.mono ?_
        rintro e wL ⟨v3, rfl, hf3, hb3⟩
        have hf3 : v3 = .nilIface := hf3
        subst hf3
        have HW : Hid (Below w.heap.size w wL ∧ PeerAt wL w.heap.size ⟨nm, fl, cr⟩) := ⟨H2.out.1.trans (hb3.mono H2.out.1.size), H2.out.2.below hb3⟩
        clear hb3 hnp hy1
        go_wp2_with fail
        rw [rounds_succ]
        have HT5 := Hid.mk7 (HTE.out HOK.out (fun q h => by injection h with h; subst h; exact HOK2.out))
        obtain ⟨p0, p1, p2⟩ := HW.out.2
        simp only at p0 p1 p2
        have hcp := sd_checkPeer ⟨nm, fl, cr⟩ wL
        simp only at hcp
        go_wp2_with fail
        refine hcp.mono ?_
        rintro e w5 ⟨v5, rfl, hf5, hb5⟩
        have H5 : Hid (Below w.heap.size w w5 ∧ PeerAt w5 w.heap.size ⟨nm, fl, cr⟩ ∧ FaultC w.heap.size w5 v5 (peerErr ⟨nm, fl, cr⟩)) := ⟨HW.out.1.trans (hb5.mono HW.out.1.size), HW.out.2.below hb5, hf5.mono HW.out.1.size⟩
        clear hb5 hcp p0 p1 p2
        rcases fault_cases' hf5 with ⟨hpe, rfl⟩ | ⟨hpe, pb, rfl⟩
        · have HT6 := Hid.mk7 (HT5.out.trans (if_neg (fun h => h hpe)))
          have hct := tx_contains (HP.out.below H5.out.1) (by omega) nm
          obtain ⟨p0, p1, p2⟩ := H5.out.2.1
          simp only at p0 p1 p2
          clear hf5 hpe
          go_wp2_with fail
          refine hct.mono ?_
          rintro e w5' ⟨bb, rfl, hbb, rfl⟩
          have HBB := Hid.mk7 hbb
          clear hct hbb p0 p1 p2
          cases bb with
          | true =>
            have hin := (HBB.out).1 rfl
            have HT7 := Hid.mk7 (HT6.out.trans (if_pos (by simp [peersOf] at hin; rw [hin])))
            clear hin
            go_wp2_with fail
            refine (sh_refuse _ _ _).mono ?_
            rintro e w6 ⟨v6, rfl, hf6, hb6⟩
            have HN := Hid.mk7 (And.intro (hf6.mono H5.out.1.size) (H5.out.1.trans (hb6.mono H5.out.1.size)))
            obtain ⟨pb, _, rfl, _⟩ := hf6
            clear hb6
            go_wp2
            go_ret
            exact ⟨_, rfl, by rw [HLS.out, HT7.out]; exact HN.out.1, HN.out.2⟩
          | false =>
            have hin : ¬ nm ∈ peersOf (some p) := fun h => absurd (HBB.out.2 h) (by decide)
            have HT7 := Hid.mk7 (HT6.out.trans (if_neg (fun h => hin (by rw [h]; simp [peersOf]))))
            have hck := mix_cookie cookie hcs w5
            clear hin
            cases hce : cookieErr cookie with
            | none =>
              rw [hce] at hck
              have hT8 := HT7.out
              rw [hce] at hT8
              have HT8 := Hid.mk7 hT8
              clear hce hT8
              go_wp2_with fail
              refine hck.mono ?_
              rintro e w6 ⟨v6, rfl, hf6, hb6⟩
              have hf6 : v6 = .nilIface := hf6
              subst hf6
              have H6 := Hid.mk7 (H5.out.1.trans (hb6.mono H5.out.1.size))
              clear hb6 hck
              go_wp2_with fail
              refine (sh_wrap_nil _ _).mono ?_
              rintro e w7 ⟨rfl, hb7⟩
              go_wp2
              go_ret
              exact ⟨_, rfl, by rw [HLS.out, HT8.out]; rfl, H6.out.trans (hb7.mono H6.out.size)⟩
            | some x =>
              rw [hce] at hck
              have hT8 := HT7.out
              rw [hce] at hT8
              have HT8 := Hid.mk7 hT8
              clear hce hT8
              go_wp2_with fail
              refine hck.mono ?_
              rintro e w6 ⟨v6, rfl, hf6, hb6⟩
              have hf6 := fault_of_mix hf6
              have B6 := H5.out.1.trans (hb6.mono H5.out.1.size)
              have hwr := sh_wrap_one 0 ⟨lyMix, x.1, x.2⟩ (HG.out.er.below B6) (hf6.mono H5.out.1.size)
              have H6 := Hid.mk7 B6
              obtain ⟨pb, _, rfl, _⟩ := hf6
              clear hb6 hck B6
              go_wp2_with fail
              refine hwr.mono ?_
              rintro e w7 ⟨v7, rfl, hf7, hb7⟩
              have HN := Hid.mk7 (And.intro hf7 (H6.out.trans (hb7.mono H6.out.size)))
              obtain ⟨pb7, qb7, _, _, rfl, _⟩ := hf7
              clear hb7 hwr
              go_wp2
              go_ret
              exact ⟨_, rfl, by rw [HLS.out, HT8.out]; exact HN.out.1, HN.out.2⟩
        · have HT6 := Hid.mk7 (HT5.out.trans (if_pos hpe))
          clear hf5 hpe
          go_wp2
          go_ret
          exact ⟨_, rfl, by rw [HLS.out, HT6.out]; exact H5.out.2.2, H5.out.1⟩
end Go.Proofs.YtmnibmgbicnamaaGreatDoor
namespace Go.Proofs.YtmnibmgbicnamaaGreatDoor
open Go.RowKit

set_option maxRecDepth 100000 in
set_option maxHeartbeats 1600000 in
theorem sd_start {w : World} {g : Nat} {p0 : Option Addr} {st0 : Int} {p me : Pr} {si : Bool} {want ck0 : ByteArray} {ch0 : Int} (hg : ∀ j, j < 12 → w.cell? ⟨g, j, none⟩ = some (if j = 0 then .pointer p0 else sdCell g st0 p si me want ck0 ch0 j) ∧ w.frozen? ⟨g, j, none⟩ = false) (st : Int) (cookie : ByteArray) (hc : cookie.size ≤ 281474976710656) (ch : Int) : Calls Tryz.prog 79 #[.pointer (some ⟨g, 0, none⟩), .int .i64 st, .string cookie, .int .u32 ch] w fun e w' => e = .returned (.tuple #[]) ∧ Block w' g 12 (sdCell g st p si me want cookie ch) ∧ Turned (fun k => k = g) w w' := by
  have hcl := clone_text cookie hc
  have HB : Hid (Block w g 12 (fun j => if j = 0 then .pointer p0 else sdCell g st0 p si me want ck0 ch0 j)) := hg
  obtain ⟨k0, f0⟩ := hg 0 (by omega)
  obtain ⟨k1, f1⟩ := hg 1 (by omega)
  simp only [sdCell, if_true] at k0
  simp only [sdCell] at k1
  clear hg
  have hgl : g < w.heap.size := World.block_lt_of_cell? w _ k0
  go_enter Tryz.func79, Tryz.ntmps79
  go_wp2_with fail
  refine (hcl _).mono ?_
  rintro e w1 ⟨rfl, hb1⟩
  have T0 := (Turned.set1 w g 0 (.pointer (some ⟨g, 0, none⟩))).trans (Turned.set1 _ g 1 (.int .i64 st)) (fun _ h => .inl h)
  have B1 := ((Block.set (Block.set HB.out 0 (.pointer (some ⟨g, 0, none⟩))) 1 (.int .i64 st)).turned (Turned.ofBelow (S := fun _ => False) hb1) (fun h => h))
  have T1 := T0.trans (Turned.ofBelow (S := fun _ => False) hb1) (fun _ h => h.elim)
  have H1 := Hid.mk7 (And.intro B1 T1)
  obtain ⟨k10, f10⟩ := B1 10 (by omega)
  obtain ⟨k11, f11⟩ := B1 11 (by omega)
  simp at k10 k11
  clear T0 B1 T1 hb1 k0 k1 f0 f1 hcl
  go_wp2
  go_end0
  refine ⟨rfl, (((Block.set (Block.set H1.out.1 10 (.string cookie)) 11 (.int .u32 ch))).congr (forall12 rfl rfl rfl rfl rfl rfl rfl rfl rfl rfl rfl rfl)), (H1.out.2.trans (Turned.set1 _ g 10 _) (fun _ h => .inl h)).trans (Turned.set1 _ g 11 _) (fun _ h => .inl h)⟩
/-- What Begin tells. -/
def BeginTold (me : Pr) (peer cookie : ByteArray) (ch : Nat) (w : World) (e : Ending) (w' : World) : Prop :=
  (madeErr me peer true cookie ≠ [] ∧ ∃ v, e = .returned (.tuple #[.pointer none, .slice none 0 0, v]) ∧ FaultC w.heap.size w' v (madeErr me peer true cookie) ∧ Below w.heap.size w w') ∨
  (madeErr me peer true cookie = [] ∧ ∃ g V, e = .returned (.tuple #[.pointer (some ⟨g, 0, none⟩), V, .nilIface]) ∧ w.heap.size ≤ g ∧ SideAt w' g (madeOf 1 me peer cookie ch) ∧ Own w' V (writeOf (nameMsg me)) ∧ (∀ k, blk V k → w.heap.size ≤ k ∧ k ≠ g) ∧ Below w.heap.size w w')
/-- What Wait tells. -/
def WaitTold (me : Pr) (cookie : ByteArray) (ch : Nat) (w : World) (e : Ending) (w' : World) : Prop :=
  (madeErr me ⟨#[]⟩ false cookie ≠ [] ∧ ∃ v, e = .returned (.tuple #[.pointer none, v]) ∧ FaultC w.heap.size w' v (madeErr me ⟨#[]⟩ false cookie) ∧ Below w.heap.size w w') ∨
  (madeErr me ⟨#[]⟩ false cookie = [] ∧ ∃ g, e = .returned (.tuple #[.pointer (some ⟨g, 0, none⟩), .nilIface]) ∧ w.heap.size ≤ g ∧ SideAt w' g (madeOf 4 me ⟨#[]⟩ cookie ch) ∧ Below w.heap.size w w')
theorem PeerAt.val {w : World} {g : Nat} {p : Pr} (h : PeerAt w g p) : w.cell? ⟨g, 0, none⟩ = some (.string p.name) ∧ w.cell? ⟨g, 1, none⟩ = some (.int .u64 p.flags) ∧ w.cell? ⟨g, 2, none⟩ = some (.int .u32 p.creation) := ⟨h.c0, h.c1, h.c2⟩
set_option maxRecDepth 100000 in
set_option maxHeartbeats 6400000 in
theorem sd_begin (me : Pr) (hme : me.Ok) (peer cookie : ByteArray) (ch : Nat) (hns : me.name.size ≤ 4611686018427387904) (hps : peer.size ≤ 4611686018427387904) (hcs : cookie.size ≤ 4611686018427387904) {w : World} (hG : Gd w) :
    Calls Tryz.prog 47 #[.agg #[.string me.name, .int .u64 me.flags, .int .u32 me.creation], .string peer, .string cookie, .int .u32 ch] w (BeginTold me peer cookie ch w) := by
  obtain ⟨wa, hwa⟩ : ∃ wa, wa = w.alloc (.cells #[.string me.name, .int .u64 me.flags, .int .u32 me.creation] 46) := ⟨_, rfl⟩
  obtain ⟨wb, hwb⟩ : ∃ wb, wb = wa.alloc (.cells #[.string peer] 9) := ⟨_, rfl⟩
  have ba : Below w.heap.size w wa := by rw [hwa]; exact (Below.refl _ _).alloc (Nat.le_refl _) _
  have bb : Below wa.heap.size wa wb := by rw [hwb]; exact (Below.refl _ _).alloc (Nat.le_refl _) _
  have pa : PeerAt wa w.heap.size me := by rw [hwa]; exact PeerAt.ofNew w me _
  have tb : Tx wb (.slice (some ⟨wa.heap.size, 0, none⟩) 1 1) (peersOf (some peer)) := by rw [hwb]; exact Tx.one wa peer _
  have bab := ba.trans (bb.mono ba.size)
  have hpm := sd_permit me cookie (some peer) hns (fun p h => by injection h with h; subst h; exact hps) hcs tb (hG.below bab)
  have H0 : Hid (Below w.heap.size w wb ∧ PeerAt wb w.heap.size me) := ⟨bab, pa.below bb⟩
  have hpe : permitErr me cookie (some peer) = madeErr me peer true cookie := rfl
  rw [hpe] at hpm
  have HWB : Hid (wb.heap.size = w.heap.size + 1 + 1) := by
    have h : wb.heap.size = w.heap.size + 1 + 1 := by rw [hwb, hwa]; simp
    exact h
  rw [hwb, hwa] at hpm
  simp only [World.size_alloc] at hpm
  have HG := Hid.mk7 hG
  have HME := Hid.mk7 hme
  have HMN : Hid (madeErr me peer true cookie = [] → nodeOk me.name = true ∧ nodeOk peer = true ∧ cookieErr cookie = none) := fun h => ⟨(made_none h).1, ((made_none h).2.1 rfl).1, (made_none h).2.2.2.2⟩
  have hwbg : ∀ W, Below (w.heap.size + 1 + 1) (((w.alloc (.cells #[.string me.name, .int .u64 me.flags, .int .u32 me.creation] 46)).alloc (.cells #[.string peer] 9))) W → Below wb.heap.size wb W := fun W h => by rw [HWB.out, hwb, hwa]; exact h
  have HWG := Hid.mk7 hwbg
  unfold BeginTold
  generalize madeErr me peer true cookie = ls at hpm HMN ⊢
  clear hwa hwb ba bb pa tb bab hG hme hpe hwbg
  go_enter Tryz.func47, Tryz.ntmps47
  go_wp2_with fail
  refine hpm.mono ?_
  rintro e w1 ⟨v, rfl, hf1, hb1⟩
  have hb1' := HWG.out w1 hb1
  have H1 : Hid (Below w.heap.size w w1 ∧ PeerAt w1 w.heap.size me ∧ FaultC w.heap.size w1 v ls) := ⟨H0.out.1.trans (hb1'.mono H0.out.1.size), H0.out.2.below hb1', hf1.mono (by omega)⟩
  clear hb1 hb1' hpm HWG
  rcases fault_cases hf1 with ⟨hls, rfl⟩ | ⟨hls, pb, rfl⟩
  · obtain ⟨hn1, hn2, hce⟩ := HMN.out hls
    have hpz := (nodeOk_size hn2).2
    have hcz := cookie_size hce
    have HLS := Hid.mk7 hls
    have HCE := Hid.mk7 hce
    obtain ⟨p0, p1, p2⟩ := H1.out.2.1
    have hcl := clone_text peer (by omega) w1
    clear hf1 hls hn1 hn2 hce
    go_wp2_with fail
    refine hcl.mono ?_
    rintro e w2 ⟨rfl, hb2⟩
    have H2 : Hid (Below w.heap.size w w2 ∧ PeerAt w2 w.heap.size me) := ⟨H1.out.1.trans (hb2.mono H1.out.1.size), H1.out.2.1.below hb2⟩
    clear hb2 hcl p0 p1 p2
    go_wp2_with fail
    have hz2 := H2.out.1.size
    have A3 := (Below.refl w2.heap.size w2).alloc (Nat.le_refl _) (.cells #[.pointer none, .int .i64 0, .string ⟨#[]⟩, .int .u64 0, .int .u32 0, .bool false, .string ⟨#[]⟩, .int .u64 0, .int .u32 0, .string peer, .string ⟨#[]⟩, .int .u32 0] 117)
    have hstt := sd_start (w := w2.alloc (.cells #[.pointer none, .int .i64 0, .string ⟨#[]⟩, .int .u64 0, .int .u32 0, .bool false, .string ⟨#[]⟩, .int .u64 0, .int .u32 0, .string peer, .string ⟨#[]⟩, .int .u32 0] 117)) (g := w2.heap.size) (p0 := none) (st0 := 0) (p := .zero) (me := .zero) (si := false) (want := peer) (ck0 := ⟨#[]⟩) (ch0 := 0) (forall12 ⟨by simp, by rw [World.frozen?_alloc_new]⟩ ⟨by simp [sdCell], by rw [World.frozen?_alloc_new]⟩ ⟨by simp [sdCell, Pr.zero], by rw [World.frozen?_alloc_new]⟩ ⟨by simp [sdCell, Pr.zero], by rw [World.frozen?_alloc_new]⟩ ⟨by simp [sdCell, Pr.zero], by rw [World.frozen?_alloc_new]⟩ ⟨by simp [sdCell], by rw [World.frozen?_alloc_new]⟩ ⟨by simp [sdCell, Pr.zero], by rw [World.frozen?_alloc_new]⟩ ⟨by simp [sdCell, Pr.zero], by rw [World.frozen?_alloc_new]⟩ ⟨by simp [sdCell, Pr.zero], by rw [World.frozen?_alloc_new]⟩ ⟨by simp [sdCell], by rw [World.frozen?_alloc_new]⟩ ⟨by simp [sdCell], by rw [World.frozen?_alloc_new]⟩ ⟨by simp [sdCell], by rw [World.frozen?_alloc_new]⟩) 1 cookie (by omega) ch
    have H3 : Hid (Below w2.heap.size w2 (w2.alloc (.cells #[.pointer none, .int .i64 0, .string ⟨#[]⟩, .int .u64 0, .int .u32 0, .bool false, .string ⟨#[]⟩, .int .u64 0, .int .u32 0, .string peer, .string ⟨#[]⟩, .int .u32 0] 117))) := A3
    clear A3
    refine hstt.mono ?_
    rintro e w4 ⟨rfl, hB4, hT4⟩
    have b24 : Below w2.heap.size w2 w4 := H3.out.trans (hT4.below (by simp) (fun k hk => Nat.le_of_eq hk.symm))
    have H4 : Hid (Block w4 w2.heap.size 12 (sdCell w2.heap.size 1 .zero false .zero peer cookie ch) ∧ Below w.heap.size w w4 ∧ PeerAt w4 w.heap.size me) := ⟨hB4, H2.out.1.trans (b24.mono hz2), H2.out.2.below b24⟩
    obtain ⟨p0, p1, p2⟩ := H4.out.2.2
    have hgl4 : w2.heap.size < w4.heap.size := hB4.lt (by omega)
    have htl := sd_tell (nameMsg me) ⟨HME.out.flags, HME.out.creation, z32, fun z hz => by cases hz⟩ hns (w := w4) (D := .slice none 0 0) (.inl ⟨rfl, rfl⟩) (HG.out.below H4.out.2.1).er
    unfold msgV' at htl
    simp only [nameMsg, Msg.zero] at htl
    generalize hWz : writeOf _ = zs at htl
    have HWz : Hid (writeOf (nameMsg me) = zs) := hWz
    clear hWz hB4 hT4 b24 hstt
    go_wp2_with fail
    refine htl.mono ?_
    rintro e w5 ⟨V, rfl, ho5, hb5, hk5⟩
    have H5 : Hid (Own w5 V zs ∧ Below w4.heap.size w4 w5 ∧ ∀ k, blk V k → w4.heap.size ≤ k) := ⟨ho5, hb5, hk5⟩
    obtain ⟨aV, cV, LV, rfl⟩ : ∃ a c L, V = .slice a L c := ⟨_, _, _, ho5.sl.form.choose_spec.choose_spec.1⟩
    clear ho5 hb5 hk5 htl p0 p1 p2
    go_wp2
    go_ret3
    obtain ⟨q1, q2, q3⟩ := H5.out
    have hz4 := H4.out.2.1.size
    refine .inr ⟨HLS.out, w2.heap.size, _, rfl, hz2, ⟨.zero, peer, cookie, ch, H4.out.1.turned (Turned.ofBelow (S := fun _ => False) q2) (fun h => h), fun _ _ => ⟨rfl, rfl, fun _ => rfl, fun h => absurd h (show ¬ (4 : Int) ≤ 1 by decide)⟩⟩, by rw [HWz.out]; exact q1, fun k hk => ⟨by have := q3 k hk; omega, by have := q3 k hk; omega⟩, H4.out.2.1.trans (q2.mono hz4)⟩
  · have HLS := Hid.mk7 hls
    clear hf1 hls
    go_wp2
    go_ret3
    exact .inl ⟨HLS.out, _, rfl, H1.out.2.2, H1.out.1⟩
set_option maxRecDepth 100000 in
set_option maxHeartbeats 6400000 in
theorem sd_wait (me : Pr) (cookie : ByteArray) (ch : Nat) (hns : me.name.size ≤ 4611686018427387904) (hcs : cookie.size ≤ 4611686018427387904) {w : World} (hG : Gd w) :
    Calls Tryz.prog 48 #[.agg #[.string me.name, .int .u64 me.flags, .int .u32 me.creation], .string cookie, .int .u32 ch] w (WaitTold me cookie ch w) := by
  obtain ⟨wa, hwa⟩ : ∃ wa, wa = w.alloc (.cells #[.string me.name, .int .u64 me.flags, .int .u32 me.creation] 46) := ⟨_, rfl⟩
  have ba : Below w.heap.size w wa := by rw [hwa]; exact (Below.refl _ _).alloc (Nat.le_refl _) _
  have pa : PeerAt wa w.heap.size me := by rw [hwa]; exact PeerAt.ofNew w me _
  have hpm := sd_permit me cookie none hns (fun p h => by cases h) hcs (w := wa) (P := .slice none 0 0) (.inl ⟨rfl, rfl⟩) (hG.below ba)
  have H0 : Hid (Below w.heap.size w wa ∧ PeerAt wa w.heap.size me) := ⟨ba, pa⟩
  have hpe : permitErr me cookie none = madeErr me ⟨#[]⟩ false cookie := rfl
  rw [hpe] at hpm
  have HWB : Hid (wa.heap.size = w.heap.size + 1) := by
    have h : wa.heap.size = w.heap.size + 1 := by rw [hwa]; simp
    exact h
  rw [hwa] at hpm
  simp only [World.size_alloc] at hpm
  have HMN : Hid (madeErr me ⟨#[]⟩ false cookie = [] → nodeOk me.name = true ∧ cookieErr cookie = none) := fun h => ⟨(made_none h).1, (made_none h).2.2.2.2⟩
  have hwbg : ∀ W, Below (w.heap.size + 1) (w.alloc (.cells #[.string me.name, .int .u64 me.flags, .int .u32 me.creation] 46)) W → Below wa.heap.size wa W := fun W h => by rw [HWB.out, hwa]; exact h
  have HWG := Hid.mk7 hwbg
  unfold WaitTold
  generalize madeErr me ⟨#[]⟩ false cookie = ls at hpm HMN ⊢
  clear hwa ba pa hG hpe hwbg
  go_enter Tryz.func48, Tryz.ntmps48
  go_wp2_with fail
  refine hpm.mono ?_
  rintro e w1 ⟨v, rfl, hf1, hb1⟩
  have hb1' := HWG.out w1 hb1
  have H1 : Hid (Below w.heap.size w w1 ∧ PeerAt w1 w.heap.size me ∧ FaultC w.heap.size w1 v ls) := ⟨H0.out.1.trans (hb1'.mono H0.out.1.size), H0.out.2.below hb1', hf1.mono (by omega)⟩
  clear hb1 hb1' hpm HWG
  rcases fault_cases hf1 with ⟨hls, rfl⟩ | ⟨hls, pb, rfl⟩
  · obtain ⟨hn1, hce⟩ := HMN.out hls
    have hpz := (nodeOk_size hn1).2
    have hcz := cookie_size hce
    have HLS := Hid.mk7 hls
    obtain ⟨p0, p1, p2⟩ := H1.out.2.1
    have hw1 : w.heap.size < w1.heap.size := World.block_lt_of_cell? w1 _ p0
    have hcl := fun W : World => clone_text me.name (by omega) W
    clear hf1 hls hn1 hce
    go_wp2_with fail
    refine (hcl _).mono ?_
    rintro e w2 ⟨rfl, hb2⟩
    obtain ⟨wc, hwc⟩ : ∃ wc, wc = w1.alloc (.cells #[.pointer none, .int .i64 0, .string ⟨#[]⟩, .int .u64 0, .int .u32 0, .bool false, .string me.name, .int .u64 me.flags, .int .u32 me.creation, .string ⟨#[]⟩, .string ⟨#[]⟩, .int .u32 0] 117) := ⟨_, rfl⟩
    have hbc : Below w1.heap.size w1 wc := by rw [hwc]; exact (Below.refl _ _).alloc (Nat.le_refl _) _
    have hblc : Block wc w1.heap.size 12 (fun j => if j = 0 then .pointer none else sdCell w1.heap.size 0 .zero false me ⟨#[]⟩ ⟨#[]⟩ 0 j) := by
      rw [hwc]
      exact forall12 ⟨by simp, by rw [World.frozen?_alloc_new]⟩ ⟨by simp [sdCell], by rw [World.frozen?_alloc_new]⟩ ⟨by simp [sdCell, Pr.zero], by rw [World.frozen?_alloc_new]⟩ ⟨by simp [sdCell, Pr.zero], by rw [World.frozen?_alloc_new]⟩ ⟨by simp [sdCell, Pr.zero], by rw [World.frozen?_alloc_new]⟩ ⟨by simp [sdCell], by rw [World.frozen?_alloc_new]⟩ ⟨by simp [sdCell], by rw [World.frozen?_alloc_new]⟩ ⟨by simp [sdCell], by rw [World.frozen?_alloc_new]⟩ ⟨by simp [sdCell], by rw [World.frozen?_alloc_new]⟩ ⟨by simp [sdCell], by rw [World.frozen?_alloc_new]⟩ ⟨by simp [sdCell], by rw [World.frozen?_alloc_new]⟩ ⟨by simp [sdCell], by rw [World.frozen?_alloc_new]⟩
    rw [← hwc] at hb2
    have hbl2 := hblc.turned (Turned.ofBelow (S := fun _ => False) hb2) (fun h => h)
    have b12 : Below w1.heap.size w1 w2 := hbc.trans (hb2.mono hbc.size)
    have H2 : Hid (Block w2 w1.heap.size 12 (fun j => if j = 0 then .pointer none else sdCell w1.heap.size 0 .zero false me ⟨#[]⟩ ⟨#[]⟩ 0 j) ∧ Below w.heap.size w w2) := ⟨hbl2, H1.out.1.trans (b12.mono H1.out.1.size)⟩
    obtain ⟨k6, f6⟩ := hbl2 6 (by omega)
    simp [sdCell] at k6
    clear hwc hbc hblc hb2 hbl2 b12 hcl p0 p1 p2
    have hbs := Block.set H2.out.1 6 (.string me.name)
    have hstt := sd_start (w := w2.setCell ⟨w1.heap.size, 6, none⟩ (.string me.name)) (g := w1.heap.size) (p0 := none) (st0 := 0) (p := .zero) (me := me) (si := false) (want := ⟨#[]⟩) (ck0 := ⟨#[]⟩) (ch0 := 0) (hbs.congr (forall12 rfl rfl rfl rfl rfl rfl rfl rfl rfl rfl rfl rfl)) 4 cookie (by omega) ch
    have T2 := Hid.mk7 (Turned.set1 w2 w1.heap.size 6 (.string me.name))
    clear hbs
    go_wp2_with fail
    refine hstt.mono ?_
    rintro e w4 ⟨rfl, hB4, hT4⟩
    have hz1 := H1.out.1.size
    have hz2 := H2.out.2.size
    have hlt2 : w1.heap.size < w2.heap.size := H2.out.1.lt (by omega)
    have b24 : Below w.heap.size w2 w4 := (T2.out.below (B := w.heap.size) hz2 (fun k hk => by have hk : k = w1.heap.size := hk; omega)).trans (hT4.below (by simp; omega) (fun k hk => by have hk : k = w1.heap.size := hk; omega))
    have HN : Hid (Block w4 w1.heap.size 12 (sdCell w1.heap.size 4 .zero false me ⟨#[]⟩ cookie ch) ∧ Below w.heap.size w w4) := ⟨hB4, H2.out.2.trans b24⟩
    clear hB4 hT4 b24 hstt k6 f6
    go_wp2
    go_ret2
    exact .inr ⟨HLS.out, w1.heap.size, rfl, hz1, ⟨me, ⟨#[]⟩, cookie, ch, HN.out.1, fun _ _ => ⟨rfl, rfl, fun h => absurd h (show ¬ (4 : Int) ≤ 3 by decide), fun _ => rfl⟩⟩, HN.out.2⟩
  · have HLS := Hid.mk7 hls
    clear hf1 hls
    go_wp2
    go_ret2
    exact .inl ⟨HLS.out, _, rfl, H1.out.2.2, H1.out.1⟩
end Go.Proofs.YtmnibmgbicnamaaGreatDoor
