/-
  Layer 8 (shake): the program's shapes of messages: which fields a kind has, which messages fit it.
-/
import Derived.Test.YtmnibmgbicnamaaGreatDoorShB
namespace Go.Proofs.YtmnibmgbicnamaaGreatDoor
open Go.RowKit

/-- A message's value. -/
def msgV' (m : Msg) (D : Value) : Value := .agg #[.int .i64 m.kind, .int .u64 m.flags, .int .u32 m.creation, .int .u32 m.challenge, .string m.name, .string m.status, D]
/-- A message in memory. -/
structure MsgAt (w : World) (g : Nat) (m : Msg) (D : Value) : Prop where
  c0 : w.cell? ⟨g, 0, none⟩ = some (.int .i64 m.kind)
  c1 : w.cell? ⟨g, 1, none⟩ = some (.int .u64 m.flags)
  c2 : w.cell? ⟨g, 2, none⟩ = some (.int .u32 m.creation)
  c3 : w.cell? ⟨g, 3, none⟩ = some (.int .u32 m.challenge)
  c4 : w.cell? ⟨g, 4, none⟩ = some (.string m.name)
  c5 : w.cell? ⟨g, 5, none⟩ = some (.string m.status)
  c6 : w.cell? ⟨g, 6, none⟩ = some D
theorem MsgAt.turned {S : Nat → Prop} {w w' : World} {g : Nat} {m : Msg} {D : Value} (h : MsgAt w g m D) (ht : Turned S w w') (hs : ¬ S g) : MsgAt w' g m D := ⟨ht.cell h.c0 hs, ht.cell h.c1 hs, ht.cell h.c2 hs, ht.cell h.c3 hs, ht.cell h.c4 hs, ht.cell h.c5 hs, ht.cell h.c6 hs⟩
theorem MsgAt.below {w w' : World} {g : Nat} {m : Msg} {D : Value} (h : MsgAt w g m D) (hb : Below w.heap.size w w') : MsgAt w' g m D := h.turned (Turned.ofBelow (S := fun _ => False) hb) (fun h => h)
theorem MsgAt.lt {w : World} {g : Nat} {m : Msg} {D : Value} (h : MsgAt w g m D) : g < w.heap.size := World.block_lt_of_cell? w _ h.c0
theorem MsgAt.ofNew (w : World) (m : Msg) (D : Value) (t : TypeId) : MsgAt (w.alloc (.cells #[.int .i64 m.kind, .int .u64 m.flags, .int .u32 m.creation, .int .u32 m.challenge, .string m.name, .string m.status, D] t)) w.heap.size m D :=
  ⟨by simp, by simp, by simp, by simp, by simp, by simp, by simp⟩
/-- A shape in memory. -/
structure ShapeAt (w : World) (g : Nat) (L V : Value) : Prop where
  c0 : w.cell? ⟨g, 0, none⟩ = some L
  c1 : w.cell? ⟨g, 1, none⟩ = some V
theorem ShapeAt.turned {S : Nat → Prop} {w w' : World} {g : Nat} {L V : Value} (h : ShapeAt w g L V) (ht : Turned S w w') (hs : ¬ S g) : ShapeAt w' g L V := ⟨ht.cell h.c0 hs, ht.cell h.c1 hs⟩
theorem ShapeAt.below {w w' : World} {g : Nat} {L V : Value} (h : ShapeAt w g L V) (hb : Below w.heap.size w w') : ShapeAt w' g L V := h.turned (Turned.ofBelow (S := fun _ => False) hb) (fun h => h)
theorem ShapeAt.lt {w : World} {g : Nat} {L V : Value} (h : ShapeAt w g L V) : g < w.heap.size := World.block_lt_of_cell? w _ h.c0
theorem ShapeAt.ofNew (w : World) (L V : Value) (t : TypeId) : ShapeAt (w.alloc (.cells #[L, V] t)) w.heap.size L V := ⟨by simp, by simp⟩
/-- The fields of a kind. -/
def fieldsOf (k : Int) : List Int := if k = 1 then [0, 2, 3] else if k = 2 then [4] else if k = 3 then [0, 1, 2, 3] else if k = 4 then [1, 5] else [5]
/-- The slice v holds the fields fs, from block B on. -/
def Fl (w : World) (B : Nat) (v : Value) (fs : List Int) : Prop := ∃ g, B ≤ g ∧ g < w.heap.size ∧ v = .slice (some ⟨g, 0, none⟩) fs.length fs.length ∧ ∀ j (h : j < fs.length), w.cell? ⟨g, j, none⟩ = some (.int .i64 fs[j])
theorem Fl.turned {S : Nat → Prop} {w w' : World} {B : Nat} {v : Value} {fs : List Int} (h : Fl w B v fs) (ht : Turned S w w') (hs : ∀ k, B ≤ k → k < w.heap.size → ¬ S k) : Fl w' B v fs := by
  obtain ⟨g, h1, h2, h3, h4⟩ := h
  exact ⟨g, h1, Nat.lt_of_lt_of_le h2 ht.size, h3, fun j hj => ht.cell (h4 j hj) (hs g h1 h2)⟩
theorem Fl.below {w w' : World} {B : Nat} {v : Value} {fs : List Int} (h : Fl w B v fs) (hb : Below w.heap.size w w') : Fl w' B v fs := h.turned (Turned.ofBelow (S := fun _ => False) hb) (fun _ _ _ h => h)
theorem Fl.mono {w : World} {B C : Nat} {v : Value} {fs : List Int} (h : Fl w B v fs) (hC : C ≤ B) : Fl w C v fs := by
  obtain ⟨g, h1, h⟩ := h
  exact ⟨g, Nat.le_trans hC h1, h⟩

set_option maxRecDepth 100000 in
set_option maxHeartbeats 1600000 in
theorem sh_shape (k : Int) (hk : 1 ≤ k ∧ k ≤ 5) (w : World) : Calls Tryz.prog 27 #[.int .i64 k] w fun e w' => ∃ V, e = .returned (.tuple #[.agg #[.int .u8 (letterOf k), V], .bool true]) ∧ Fl w' w.heap.size V (fieldsOf k) ∧ Below w.heap.size w w' := by
  have h5 : k = 1 ∨ k = 2 ∨ k = 3 ∨ k = 4 ∨ k = 5 := by omega
  rcases h5 with rfl | rfl | rfl | rfl | rfl
  all_goals
    go_enter Tryz.func27, Tryz.ntmps27
    go_wp2
  · refine bodyPost_ret (v := .tuple #[.agg #[.int .u8 78, .slice (some ⟨w.heap.size + 1, 0, none⟩) 3 3], .bool true]) (by simp [results, Tryz.results27, go_sem]) rfl ⟨_, rfl, ⟨w.heap.size + 1, by omega, by simp, rfl, fun j hj => ?_⟩, ?_⟩
    · have hj : j < 3 := hj
      have : j = 0 ∨ j = 1 ∨ j = 2 := by omega
      rcases this with rfl | rfl | rfl <;> simp [fieldsOf]
    · exact ((Below.refl _ _).alloc (Nat.le_refl _) _).alloc (by simp) _
  · refine bodyPost_ret (v := .tuple #[.agg #[.int .u8 115, .slice (some ⟨w.heap.size + 1, 0, none⟩) 1 1], .bool true]) (by simp [results, Tryz.results27, go_sem]) rfl ⟨_, rfl, ⟨w.heap.size + 1, by omega, by simp, rfl, fun j hj => ?_⟩, ?_⟩
    · have hj : j < 1 := hj
      have : j = 0 := by omega
      rcases this with rfl; simp [fieldsOf]
    · exact ((Below.refl _ _).alloc (Nat.le_refl _) _).alloc (by simp) _
  · refine bodyPost_ret (v := .tuple #[.agg #[.int .u8 78, .slice (some ⟨w.heap.size + 1, 0, none⟩) 4 4], .bool true]) (by simp [results, Tryz.results27, go_sem]) rfl ⟨_, rfl, ⟨w.heap.size + 1, by omega, by simp, rfl, fun j hj => ?_⟩, ?_⟩
    · have hj : j < 4 := hj
      have : j = 0 ∨ j = 1 ∨ j = 2 ∨ j = 3 := by omega
      rcases this with rfl | rfl | rfl | rfl <;> simp [fieldsOf]
    · exact ((Below.refl _ _).alloc (Nat.le_refl _) _).alloc (by simp) _
  · refine bodyPost_ret (v := .tuple #[.agg #[.int .u8 114, .slice (some ⟨w.heap.size + 1, 0, none⟩) 2 2], .bool true]) (by simp [results, Tryz.results27, go_sem]) rfl ⟨_, rfl, ⟨w.heap.size + 1, by omega, by simp, rfl, fun j hj => ?_⟩, ?_⟩
    · have hj : j < 2 := hj
      have : j = 0 ∨ j = 1 := by omega
      rcases this with rfl | rfl <;> simp [fieldsOf]
    · exact ((Below.refl _ _).alloc (Nat.le_refl _) _).alloc (by simp) _
  · refine bodyPost_ret (v := .tuple #[.agg #[.int .u8 97, .slice (some ⟨w.heap.size + 1, 0, none⟩) 1 1], .bool true]) (by simp [results, Tryz.results27, go_sem]) rfl ⟨_, rfl, ⟨w.heap.size + 1, by omega, by simp, rfl, fun j hj => ?_⟩, ?_⟩
    · have hj : j < 1 := hj
      have : j = 0 := by omega
      rcases this with rfl; simp [fieldsOf]
    · exact ((Below.refl _ _).alloc (Nat.le_refl _) _).alloc (by simp) _
set_option maxRecDepth 100000 in
theorem sh_shape_no (k : Int) (hk : k < 1 ∨ 5 < k) (w : World) : Calls Tryz.prog 27 #[.int .i64 k] w fun e w' => e = .returned (.tuple #[.agg #[.int .u8 0, .slice none 0 0], .bool false]) ∧ Below w.heap.size w w' := by
  have q1 : (k == 1) = false := by simp; omega
  have q2 : (k == 2) = false := by simp; omega
  have q3 : (k == 3) = false := by simp; omega
  have q4 : (k == 4) = false := by simp; omega
  have q5 : (k == 5) = false := by simp; omega
  go_enter Tryz.func27, Tryz.ntmps27
  go_wp2
  refine bodyPost_ret (v := .tuple #[.agg #[.int .u8 0, .slice none 0 0], .bool false]) (by simp [results, Tryz.results27, go_sem]) rfl ⟨rfl, ?_⟩
  exact (Below.refl _ _).alloc (Nat.le_refl _) _

set_option maxRecDepth 100000 in
set_option maxHeartbeats 1600000 in
theorem sh_index {w : World} {B : Nat} {V : Value} {fs : List Int} (hV : Fl w B V fs) (hl : fs.length ≤ 6) (f : Int) : Calls Tryz.prog 87 #[V, .int .i64 f] w fun e w' => ∃ r : Int, e = .returned (.int .i64 r) ∧ (0 ≤ r ↔ f ∈ fs) ∧ w = w' := by
  obtain ⟨g, _, _, rfl, hc⟩ := hV
  have HC : Hid (∀ j (h : j < fs.length), w.cell? ⟨g, j, none⟩ = some (.int .i64 fs[j])) := hc
  clear hc
  go_enter Tryz.func87, Tryz.ntmps87
  go_wp2_with fail
  go_loopw [8] (fun i wr => ∃ j : Nat, j ≤ fs.length ∧ i = .int .i64 j ∧ f ∉ fs.take j ∧ w = wr) (fun i _ => fs.length - (intOf i).toNat)
  case atStart => exact ⟨0, Nat.zero_le _, rfl, by simp, rfl⟩
  case round =>
    obtain ⟨j, hj, rfl, hnot, rfl⟩ := hrel
    by_cases hlt : j < fs.length
    · have hlti : (j : Int) < (fs.length : Int) := by omega
      have hx := HC.out j hlt
      have HM : Hid (fs[j] ∈ fs) := List.getElem_mem hlt
      have HT : Hid (fs.take (j + 1) = fs.take j ++ [fs[j]]) := List.take_succ_eq_append_getElem hlt
      generalize fs[j] = x at hx HM HT
      by_cases he : f = x
      · subst he
        clear HT hnot
        go_wp2
        go_ret
        exact ⟨j, rfl, ⟨fun _ => HM.out, fun _ => by omega⟩, rfl⟩
      · have q : (f == x) = false := by simpa using he
        have hnn : f ∉ fs.take (j + 1) := by rw [HT.out]; simp [hnot, he]
        have HNN : Hid (f ∉ fs.take (j + 1)) := hnn
        clear hnn
        clear HT hnot he HM
        go_wp2
        go_roundw
        case rel => exact ⟨j + 1, by omega, by go_num, HNN.out, trivial⟩
        case measure => simp [intOf]; omega
    · have hge : ¬ (j : Int) < (fs.length : Int) := by omega
      rw [List.take_of_length_le (by omega)] at hnot
      go_wp2
      go_ret
      exact ⟨-1, rfl, by decide, rfl⟩
set_option maxRecDepth 100000 in
theorem sh_contains {w : World} {B : Nat} {V : Value} {fs : List Int} (hV : Fl w B V fs) (hl : fs.length ≤ 6) (f : Int) : Calls Tryz.prog 65 #[V, .int .i64 f] w fun e w' => e = .returned (.bool (decide (f ∈ fs))) ∧ w = w' := by
  have hi := sh_index hV hl f
  go_enter Tryz.func65, Tryz.ntmps65
  go_wp2_with fail
  refine hi.mono ?_
  rintro e w' ⟨r, rfl, hr, rfl⟩
  go_wp2
  go_ret
  refine ⟨congrArg Ending.returned (congrArg Value.bool ?_), rfl⟩
  simp
set_option maxRecDepth 100000 in
theorem sh_has {w : World} {B : Nat} {L V : Value} {fs : List Int} (hL : ∃ x, L = .int .u8 x) (hV : Fl w B V fs) (hl : fs.length ≤ 6) (f : Int) : Calls Tryz.prog 30 #[.agg #[L, V], .int .i64 f] w fun e w' => e = .returned (.bool (decide (f ∈ fs))) ∧ Below w.heap.size w w' := by
  have hc := fun W (h : Below w.heap.size w W) => sh_contains (hV.below h) hl f
  have HC : Hid (∀ W (h : Below w.heap.size w W), _) := hc
  obtain ⟨x, rfl⟩ := hL
  obtain ⟨g, _, hg, rfl, _⟩ := hV
  clear hc
  go_enter Tryz.func30, Tryz.ntmps30
  go_wp2_with fail
  refine (HC.out _ ((Below.refl _ _).alloc (Nat.le_refl _) _)).mono ?_
  rintro e w' ⟨rfl, rfl⟩
  go_wp2
  go_ret
  exact ⟨rfl, (Below.refl _ _).alloc (Nat.le_refl _) _⟩

set_option maxRecDepth 100000 in
theorem sh_status (s : ByteArray) (w : World) : Calls Tryz.prog 43 #[.string s] w fun e w' => e = .returned (.bool (isSt s)) ∧ w = w' := by
  by_cases h0 : s = stOk
  · have hq : isSt s = true := by rw [h0]; decide
    rw [hq, h0]
    unfold stOk
    clear hq h0
    go_enter Tryz.func43, Tryz.ntmps43
    go_wp2
    go_ret
    exact ⟨rfl, rfl⟩
  by_cases h1 : s = stSim
  · have hq : isSt s = true := by rw [h1]; decide
    rw [hq, h1]
    unfold stSim
    clear hq h0 h1
    go_enter Tryz.func43, Tryz.ntmps43
    go_wp2
    go_ret
    exact ⟨rfl, rfl⟩
  by_cases h2 : s = stNok
  · have hq : isSt s = true := by rw [h2]; decide
    rw [hq, h2]
    unfold stNok
    clear hq h0 h1 h2
    go_enter Tryz.func43, Tryz.ntmps43
    go_wp2
    go_ret
    exact ⟨rfl, rfl⟩
  by_cases h3 : s = stNot
  · have hq : isSt s = true := by rw [h3]; decide
    rw [hq, h3]
    unfold stNot
    clear hq h0 h1 h2 h3
    go_enter Tryz.func43, Tryz.ntmps43
    go_wp2
    go_ret
    exact ⟨rfl, rfl⟩
  by_cases h4 : s = stAlive
  · have hq : isSt s = true := by rw [h4]; decide
    rw [hq, h4]
    unfold stAlive
    clear hq h0 h1 h2 h3 h4
    go_enter Tryz.func43, Tryz.ntmps43
    go_wp2
    go_ret
    exact ⟨rfl, rfl⟩
  have hq : isSt s = false := by simp [isSt, h0, h1, h2, h3, h4]
  rw [hq]
  rw [eq_stOk'] at h0
  have q0 := beq_eq_false_iff_ne.2 h0
  rw [eq_stSim'] at h1
  have q1 := beq_eq_false_iff_ne.2 h1
  rw [eq_stNok'] at h2
  have q2 := beq_eq_false_iff_ne.2 h2
  rw [eq_stNot'] at h3
  have q3 := beq_eq_false_iff_ne.2 h3
  rw [eq_stAlive'] at h4
  have q4 := beq_eq_false_iff_ne.2 h4
  clear hq h0 h1 h2 h3 h4
  go_enter Tryz.func43, Tryz.ntmps43
  go_wp2
  go_ret
  exact ⟨rfl, rfl⟩

/-- May a message have such bytes in a field? -/
def mayB (f : Int) (m : Msg) : Bool := if f = 4 then isSt m.status else if f = 5 then decide (m.digest.length = 16) else true
/-- Is a field of a message zero? -/
def zeroB (f : Int) (m : Msg) : Bool := if f = 0 then decide (m.flags = 0) else if f = 1 then decide (m.challenge = 0) else if f = 2 then decide (m.creation = 0) else if f = 3 then decide (m.name.size = 0) else if f = 4 then decide (m.status.size = 0) else decide (m.digest.length = 0)
def goodB (fs : List Int) (m : Msg) (f : Int) : Bool := if f ∈ fs then mayB f m else zeroB f m
set_option maxRecDepth 100000 in
set_option maxHeartbeats 1600000 in
theorem sh_may (f : Int) (hf : 0 ≤ f ∧ f ≤ 5) (m : Msg) (a : Option Addr) (c : Nat) (w : World) : Calls Tryz.prog 63 #[.int .i64 f, msgV' m (.slice a m.digest.length c)] w fun e w' => e = .returned (.bool (mayB f m)) ∧ Below w.heap.size w w' := by
  obtain ⟨k, fl, cr, ch, nm, st, dg⟩ := m
  have hst := sh_status st
  unfold msgV'
  simp only
  have h6 : f = 0 ∨ f = 1 ∨ f = 2 ∨ f = 3 ∨ f = 4 ∨ f = 5 := by omega
  generalize hL : dg.length = L
  have HL : Hid (dg.length = L) := hL
  clear hL
  rcases h6 with rfl | rfl | rfl | rfl | rfl | rfl
  all_goals
    go_enter Tryz.func63, Tryz.ntmps63
    go_wp2_with (go_at_call 43; refine (hst _).mono ?_; rintro e w' ⟨rfl, rfl⟩)
    go_ret
    refine ⟨congrArg Ending.returned (congrArg Value.bool ?_), (Below.refl _ _).alloc (Nat.le_refl _) _⟩
    simp [mayB, HL.out]
  rw [Bool.eq_iff_iff]
  simp
  omega
set_option maxRecDepth 100000 in
set_option maxHeartbeats 1600000 in
theorem sh_zero (f : Int) (hf : 0 ≤ f ∧ f ≤ 5) (m : Msg) (a : Option Addr) (c : Nat) (w : World) : Calls Tryz.prog 64 #[.int .i64 f, msgV' m (.slice a m.digest.length c)] w fun e w' => e = .returned (.bool (zeroB f m)) ∧ Below w.heap.size w w' := by
  obtain ⟨k, fl, cr, ch, nm, st, dg⟩ := m
  unfold msgV'
  simp only
  have h6 : f = 0 ∨ f = 1 ∨ f = 2 ∨ f = 3 ∨ f = 4 ∨ f = 5 := by omega
  generalize hL : dg.length = L
  have HL : Hid (dg.length = L) := hL
  clear hL
  by_cases hn : nm.size = 0
  all_goals
    first
      | (have hn' := empty_size hn; subst hn')
      | have hne := empty_list' hn
    by_cases hs : st.size = 0
    all_goals
      first
        | (have hs' := empty_size hs; subst hs')
        | have hse := empty_list' hs
      rcases h6 with rfl | rfl | rfl | rfl | rfl | rfl
      all_goals
        go_enter Tryz.func64, Tryz.ntmps64
        go_wp2
        go_ret
        refine ⟨congrArg Ending.returned (congrArg Value.bool ?_), (Below.refl _ _).alloc (Nat.le_refl _) _⟩
        rw [Bool.eq_iff_iff]
        simp [zeroB, HL.out, *]
        try omega
end Go.Proofs.YtmnibmgbicnamaaGreatDoor
