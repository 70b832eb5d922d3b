/-
  Layer 8 (shake): the program's shapes of messages: which fields a kind has, which messages fit it.
  Layer 8 (shake): which messages fit (the program's fits); numbers and fields as bytes.
  Layer 8 (shake): the program's numbers and fields as bytes.
  Layer 8 (shake): the program's fields as bytes (write).
  Layer 8 (shake): the program's Write.
-/
import Derived.Test.YtmnibmgbicnamaaGreatDoorK6
import Derived.Test.YtmnibmgbicnamaaGreatDoorK5
import Derived.Deep.RegionHeld3
namespace Go.Proofs.YtmnibmgbicnamaaGreatDoor
open Go.RowKit

/-- A message's value. -/
def msgV' (m : Msg) (D : Value) : Value := .agg #[.int .i64 m.kind, .int .u64 m.flags, .int .u32 m.creation, .int .u32 m.challenge, .string m.name, .string m.status, D]
/-- A message in memory. -/
structure MsgAt (w : World) (g : Nat) (m : Msg) (D : Value) : Prop where
  c0 : w.cell? ⟨g, 0, none⟩ = some (.int .i64 m.kind)
  c1 : w.cell? ⟨g, 1, none⟩ = some (.int .u64 m.flags)
  c2 : w.cell? ⟨g, 2, none⟩ = some (.int .u32 m.creation)
  c3 : w.cell? ⟨g, 3, none⟩ = some (.int .u32 m.challenge)
  c4 : w.cell? ⟨g, 4, none⟩ = some (.string m.name)
  c5 : w.cell? ⟨g, 5, none⟩ = some (.string m.status)
  c6 : w.cell? ⟨g, 6, none⟩ = some D
theorem MsgAt.turned {S : Nat → Prop} {w w' : World} {g : Nat} {m : Msg} {D : Value} (h : MsgAt w g m D) (ht : Turned S w w') (hs : ¬ S g) : MsgAt w' g m D := ⟨ht.cell h.c0 hs, ht.cell h.c1 hs, ht.cell h.c2 hs, ht.cell h.c3 hs, ht.cell h.c4 hs, ht.cell h.c5 hs, ht.cell h.c6 hs⟩
theorem MsgAt.below {w w' : World} {g : Nat} {m : Msg} {D : Value} (h : MsgAt w g m D) (hb : Below w.heap.size w w') : MsgAt w' g m D := h.turned (Turned.ofBelow (S := fun _ => False) hb) (fun h => h)
theorem MsgAt.lt {w : World} {g : Nat} {m : Msg} {D : Value} (h : MsgAt w g m D) : g < w.heap.size := World.block_lt_of_cell? w _ h.c0
theorem MsgAt.ofNew (w : World) (m : Msg) (D : Value) (t : TypeId) : MsgAt (w.alloc (.cells #[.int .i64 m.kind, .int .u64 m.flags, .int .u32 m.creation, .int .u32 m.challenge, .string m.name, .string m.status, D] t)) w.heap.size m D :=
  ⟨by simp, by simp, by simp, by simp, by simp, by simp, by simp⟩
/-- A shape in memory. -/
structure ShapeAt (w : World) (g : Nat) (L V : Value) : Prop where
  c0 : w.cell? ⟨g, 0, none⟩ = some L
  c1 : w.cell? ⟨g, 1, none⟩ = some V
theorem ShapeAt.turned {S : Nat → Prop} {w w' : World} {g : Nat} {L V : Value} (h : ShapeAt w g L V) (ht : Turned S w w') (hs : ¬ S g) : ShapeAt w' g L V := ⟨ht.cell h.c0 hs, ht.cell h.c1 hs⟩
theorem ShapeAt.below {w w' : World} {g : Nat} {L V : Value} (h : ShapeAt w g L V) (hb : Below w.heap.size w w') : ShapeAt w' g L V := h.turned (Turned.ofBelow (S := fun _ => False) hb) (fun h => h)
theorem ShapeAt.lt {w : World} {g : Nat} {L V : Value} (h : ShapeAt w g L V) : g < w.heap.size := World.block_lt_of_cell? w _ h.c0
theorem ShapeAt.ofNew (w : World) (L V : Value) (t : TypeId) : ShapeAt (w.alloc (.cells #[L, V] t)) w.heap.size L V := ⟨by simp, by simp⟩
/-- The fields of a kind. -/
def fieldsOf (k : Int) : List Int := if k = 1 then [0, 2, 3] else if k = 2 then [4] else if k = 3 then [0, 1, 2, 3] else if k = 4 then [1, 5] else [5]
/-- The slice v holds the fields fs, from block B on. -/
def Fl (w : World) (B : Nat) (v : Value) (fs : List Int) : Prop := ∃ g, B ≤ g ∧ g < w.heap.size ∧ v = .slice (some ⟨g, 0, none⟩) fs.length fs.length ∧ ∀ j (h : j < fs.length), w.cell? ⟨g, j, none⟩ = some (.int .i64 fs[j])
theorem Fl.turned {S : Nat → Prop} {w w' : World} {B : Nat} {v : Value} {fs : List Int} (h : Fl w B v fs) (ht : Turned S w w') (hs : ∀ k, B ≤ k → k < w.heap.size → ¬ S k) : Fl w' B v fs := by
  obtain ⟨g, h1, h2, h3, h4⟩ := h
  exact ⟨g, h1, Nat.lt_of_lt_of_le h2 ht.size, h3, fun j hj => ht.cell (h4 j hj) (hs g h1 h2)⟩
theorem Fl.below {w w' : World} {B : Nat} {v : Value} {fs : List Int} (h : Fl w B v fs) (hb : Below w.heap.size w w') : Fl w' B v fs := h.turned (Turned.ofBelow (S := fun _ => False) hb) (fun _ _ _ h => h)
theorem Fl.mono {w : World} {B C : Nat} {v : Value} {fs : List Int} (h : Fl w B v fs) (hC : C ≤ B) : Fl w C v fs := by
  obtain ⟨g, h1, h⟩ := h
  exact ⟨g, Nat.le_trans hC h1, h⟩

set_option maxRecDepth 100000 in
set_option maxHeartbeats 1600000 in
theorem sh_shape (k : Int) (hk : 1 ≤ k ∧ k ≤ 5) (w : World) : Calls Tryz.prog 27 #[.int .i64 k] w fun e w' => ∃ V, e = .returned (.tuple #[.agg #[.int .u8 (letterOf k), V], .bool true]) ∧ Fl w' w.heap.size V (fieldsOf k) ∧ Below w.heap.size w w' := by
  have h5 : k = 1 ∨ k = 2 ∨ k = 3 ∨ k = 4 ∨ k = 5 := by omega
  rcases h5 with rfl | rfl | rfl | rfl | rfl
  all_goals
    go_enter Tryz.func27, Tryz.ntmps27
    go_wp2
  · refine bodyPost_ret (v := .tuple #[.agg #[.int .u8 78, .slice (some ⟨w.heap.size + 1, 0, none⟩) 3 3], .bool true]) (by simp [results, Tryz.results27, go_sem]) rfl ⟨_, rfl, ⟨w.heap.size + 1, by omega, by simp, rfl, fun j hj => ?_⟩, ?_⟩
    · have hj : j < 3 := hj
      have : j = 0 ∨ j = 1 ∨ j = 2 := by omega
      rcases this with rfl | rfl | rfl <;> simp [fieldsOf]
    · exact ((Below.refl _ _).alloc (Nat.le_refl _) _).alloc (by simp) _
  · refine bodyPost_ret (v := .tuple #[.agg #[.int .u8 115, .slice (some ⟨w.heap.size + 1, 0, none⟩) 1 1], .bool true]) (by simp [results, Tryz.results27, go_sem]) rfl ⟨_, rfl, ⟨w.heap.size + 1, by omega, by simp, rfl, fun j hj => ?_⟩, ?_⟩
    · have hj : j < 1 := hj
      have : j = 0 := by omega
      rcases this with rfl; simp [fieldsOf]
    · exact ((Below.refl _ _).alloc (Nat.le_refl _) _).alloc (by simp) _
  · refine bodyPost_ret (v := .tuple #[.agg #[.int .u8 78, .slice (some ⟨w.heap.size + 1, 0, none⟩) 4 4], .bool true]) (by simp [results, Tryz.results27, go_sem]) rfl ⟨_, rfl, ⟨w.heap.size + 1, by omega, by simp, rfl, fun j hj => ?_⟩, ?_⟩
    · have hj : j < 4 := hj
      have : j = 0 ∨ j = 1 ∨ j = 2 ∨ j = 3 := by omega
      rcases this with rfl | rfl | rfl | rfl <;> simp [fieldsOf]
    · exact ((Below.refl _ _).alloc (Nat.le_refl _) _).alloc (by simp) _
  · refine bodyPost_ret (v := .tuple #[.agg #[.int .u8 114, .slice (some ⟨w.heap.size + 1, 0, none⟩) 2 2], .bool true]) (by simp [results, Tryz.results27, go_sem]) rfl ⟨_, rfl, ⟨w.heap.size + 1, by omega, by simp, rfl, fun j hj => ?_⟩, ?_⟩
    · have hj : j < 2 := hj
      have : j = 0 ∨ j = 1 := by omega
      rcases this with rfl | rfl <;> simp [fieldsOf]
    · exact ((Below.refl _ _).alloc (Nat.le_refl _) _).alloc (by simp) _
  · refine bodyPost_ret (v := .tuple #[.agg #[.int .u8 97, .slice (some ⟨w.heap.size + 1, 0, none⟩) 1 1], .bool true]) (by simp [results, Tryz.results27, go_sem]) rfl ⟨_, rfl, ⟨w.heap.size + 1, by omega, by simp, rfl, fun j hj => ?_⟩, ?_⟩
    · have hj : j < 1 := hj
      have : j = 0 := by omega
      rcases this with rfl; simp [fieldsOf]
    · exact ((Below.refl _ _).alloc (Nat.le_refl _) _).alloc (by simp) _
set_option maxRecDepth 100000 in
theorem sh_shape_no (k : Int) (hk : k < 1 ∨ 5 < k) (w : World) : Calls Tryz.prog 27 #[.int .i64 k] w fun e w' => e = .returned (.tuple #[.agg #[.int .u8 0, .slice none 0 0], .bool false]) ∧ Below w.heap.size w w' := by
  have q1 : (k == 1) = false := by simp; omega
  have q2 : (k == 2) = false := by simp; omega
  have q3 : (k == 3) = false := by simp; omega
  have q4 : (k == 4) = false := by simp; omega
  have q5 : (k == 5) = false := by simp; omega
  go_enter Tryz.func27, Tryz.ntmps27
  go_wp2
  refine bodyPost_ret (v := .tuple #[.agg #[.int .u8 0, .slice none 0 0], .bool false]) (by simp [results, Tryz.results27, go_sem]) rfl ⟨rfl, ?_⟩
  exact (Below.refl _ _).alloc (Nat.le_refl _) _

set_option maxRecDepth 100000 in
set_option maxHeartbeats 1600000 in
theorem sh_index {w : World} {B : Nat} {V : Value} {fs : List Int} (hV : Fl w B V fs) (hl : fs.length ≤ 6) (f : Int) : Calls Tryz.prog 87 #[V, .int .i64 f] w fun e w' => ∃ r : Int, e = .returned (.int .i64 r) ∧ (0 ≤ r ↔ f ∈ fs) ∧ w = w' := by
  obtain ⟨g, _, _, rfl, hc⟩ := hV
  have HC : Hid (∀ j (h : j < fs.length), w.cell? ⟨g, j, none⟩ = some (.int .i64 fs[j])) := hc
  clear hc
  go_enter Tryz.func87, Tryz.ntmps87
  go_wp2_with fail
  go_loopw [8] (fun i wr => ∃ j : Nat, j ≤ fs.length ∧ i = .int .i64 j ∧ f ∉ fs.take j ∧ w = wr) (fun i _ => fs.length - (intOf i).toNat)
  case atStart => exact ⟨0, Nat.zero_le _, rfl, by simp, rfl⟩
  case round =>
    obtain ⟨j, hj, rfl, hnot, rfl⟩ := hrel
    by_cases hlt : j < fs.length
    · have hlti : (j : Int) < (fs.length : Int) := by omega
      have hx := HC.out j hlt
      have HM : Hid (fs[j] ∈ fs) := List.getElem_mem hlt
      have HT : Hid (fs.take (j + 1) = fs.take j ++ [fs[j]]) := List.take_succ_eq_append_getElem hlt
      generalize fs[j] = x at hx HM HT
      by_cases he : f = x
      · subst he
        clear HT hnot
        go_wp2
        go_ret
        exact ⟨j, rfl, ⟨fun _ => HM.out, fun _ => by omega⟩, rfl⟩
      · have q : (f == x) = false := by simpa using he
        have hnn : f ∉ fs.take (j + 1) := by rw [HT.out]; simp [hnot, he]
        have HNN : Hid (f ∉ fs.take (j + 1)) := hnn
        clear hnn
        clear HT hnot he HM
        go_wp2
        go_roundw
        case rel => exact ⟨j + 1, by omega, by go_num, HNN.out, trivial⟩
        case measure => simp [intOf]; omega
    · have hge : ¬ (j : Int) < (fs.length : Int) := by omega
      rw [List.take_of_length_le (by omega)] at hnot
      go_wp2
      go_ret
      exact ⟨-1, rfl, by decide, rfl⟩
set_option maxRecDepth 100000 in
theorem sh_contains {w : World} {B : Nat} {V : Value} {fs : List Int} (hV : Fl w B V fs) (hl : fs.length ≤ 6) (f : Int) : Calls Tryz.prog 65 #[V, .int .i64 f] w fun e w' => e = .returned (.bool (decide (f ∈ fs))) ∧ w = w' := by
  have hi := sh_index hV hl f
  go_enter Tryz.func65, Tryz.ntmps65
  go_wp2_with fail
  refine hi.mono ?_
  rintro e w' ⟨r, rfl, hr, rfl⟩
  go_wp2
  go_ret
  refine ⟨congrArg Ending.returned (congrArg Value.bool ?_), rfl⟩
  simp
set_option maxRecDepth 100000 in
theorem sh_has {w : World} {B : Nat} {L V : Value} {fs : List Int} (hL : ∃ x, L = .int .u8 x) (hV : Fl w B V fs) (hl : fs.length ≤ 6) (f : Int) : Calls Tryz.prog 30 #[.agg #[L, V], .int .i64 f] w fun e w' => e = .returned (.bool (decide (f ∈ fs))) ∧ Below w.heap.size w w' := by
  have hc := fun W (h : Below w.heap.size w W) => sh_contains (hV.below h) hl f
  have HC : Hid (∀ W (h : Below w.heap.size w W), _) := hc
  obtain ⟨x, rfl⟩ := hL
  obtain ⟨g, _, hg, rfl, _⟩ := hV
  clear hc
  go_enter Tryz.func30, Tryz.ntmps30
  go_wp2_with fail
  refine (HC.out _ ((Below.refl _ _).alloc (Nat.le_refl _) _)).mono ?_
  rintro e w' ⟨rfl, rfl⟩
  go_wp2
  go_ret
  exact ⟨rfl, (Below.refl _ _).alloc (Nat.le_refl _) _⟩

set_option maxRecDepth 100000 in
theorem sh_status (s : ByteArray) (w : World) : Calls Tryz.prog 43 #[.string s] w fun e w' => e = .returned (.bool (isSt s)) ∧ w = w' := by
  by_cases h0 : s = stOk
  · have hq : isSt s = true := by rw [h0]; decide
    rw [hq, h0]
    unfold stOk
    clear hq h0
    go_enter Tryz.func43, Tryz.ntmps43
    go_wp2
    go_ret
    exact ⟨rfl, rfl⟩
  by_cases h1 : s = stSim
  · have hq : isSt s = true := by rw [h1]; decide
    rw [hq, h1]
    unfold stSim
    clear hq h0 h1
    go_enter Tryz.func43, Tryz.ntmps43
    go_wp2
    go_ret
    exact ⟨rfl, rfl⟩
  by_cases h2 : s = stNok
  · have hq : isSt s = true := by rw [h2]; decide
    rw [hq, h2]
    unfold stNok
    clear hq h0 h1 h2
    go_enter Tryz.func43, Tryz.ntmps43
    go_wp2
    go_ret
    exact ⟨rfl, rfl⟩
  by_cases h3 : s = stNot
  · have hq : isSt s = true := by rw [h3]; decide
    rw [hq, h3]
    unfold stNot
    clear hq h0 h1 h2 h3
    go_enter Tryz.func43, Tryz.ntmps43
    go_wp2
    go_ret
    exact ⟨rfl, rfl⟩
  by_cases h4 : s = stAlive
  · have hq : isSt s = true := by rw [h4]; decide
    rw [hq, h4]
    unfold stAlive
    clear hq h0 h1 h2 h3 h4
    go_enter Tryz.func43, Tryz.ntmps43
    go_wp2
    go_ret
    exact ⟨rfl, rfl⟩
  have hq : isSt s = false := by simp [isSt, h0, h1, h2, h3, h4]
  rw [hq]
  rw [eq_stOk'] at h0
  have q0 := beq_eq_false_iff_ne.2 h0
  rw [eq_stSim'] at h1
  have q1 := beq_eq_false_iff_ne.2 h1
  rw [eq_stNok'] at h2
  have q2 := beq_eq_false_iff_ne.2 h2
  rw [eq_stNot'] at h3
  have q3 := beq_eq_false_iff_ne.2 h3
  rw [eq_stAlive'] at h4
  have q4 := beq_eq_false_iff_ne.2 h4
  clear hq h0 h1 h2 h3 h4
  go_enter Tryz.func43, Tryz.ntmps43
  go_wp2
  go_ret
  exact ⟨rfl, rfl⟩

/-- May a message have such bytes in a field? -/
def mayB (f : Int) (m : Msg) : Bool := if f = 4 then isSt m.status else if f = 5 then decide (m.digest.length = 16) else true
/-- Is a field of a message zero? -/
def zeroB (f : Int) (m : Msg) : Bool := if f = 0 then decide (m.flags = 0) else if f = 1 then decide (m.challenge = 0) else if f = 2 then decide (m.creation = 0) else if f = 3 then decide (m.name.size = 0) else if f = 4 then decide (m.status.size = 0) else decide (m.digest.length = 0)
def goodB (fs : List Int) (m : Msg) (f : Int) : Bool := if f ∈ fs then mayB f m else zeroB f m
set_option maxRecDepth 100000 in
set_option maxHeartbeats 1600000 in
theorem sh_may (f : Int) (hf : 0 ≤ f ∧ f ≤ 5) (m : Msg) (a : Option Addr) (c : Nat) (w : World) : Calls Tryz.prog 63 #[.int .i64 f, msgV' m (.slice a m.digest.length c)] w fun e w' => e = .returned (.bool (mayB f m)) ∧ Below w.heap.size w w' := by
  obtain ⟨k, fl, cr, ch, nm, st, dg⟩ := m
  have hst := sh_status st
  unfold msgV'
  simp only
  have h6 : f = 0 ∨ f = 1 ∨ f = 2 ∨ f = 3 ∨ f = 4 ∨ f = 5 := by omega
  generalize hL : dg.length = L
  have HL : Hid (dg.length = L) := hL
  clear hL
  rcases h6 with rfl | rfl | rfl | rfl | rfl | rfl
  all_goals
    go_enter Tryz.func63, Tryz.ntmps63
    go_wp2_with (go_at_call 43; refine (hst _).mono ?_; rintro e w' ⟨rfl, rfl⟩)
    go_ret
    refine ⟨congrArg Ending.returned (congrArg Value.bool ?_), (Below.refl _ _).alloc (Nat.le_refl _) _⟩
    simp [mayB, HL.out]
  rw [Bool.eq_iff_iff]
  simp
  omega
set_option maxRecDepth 100000 in
set_option maxHeartbeats 1600000 in
theorem sh_zero (f : Int) (hf : 0 ≤ f ∧ f ≤ 5) (m : Msg) (a : Option Addr) (c : Nat) (w : World) : Calls Tryz.prog 64 #[.int .i64 f, msgV' m (.slice a m.digest.length c)] w fun e w' => e = .returned (.bool (zeroB f m)) ∧ Below w.heap.size w w' := by
  obtain ⟨k, fl, cr, ch, nm, st, dg⟩ := m
  unfold msgV'
  simp only
  have h6 : f = 0 ∨ f = 1 ∨ f = 2 ∨ f = 3 ∨ f = 4 ∨ f = 5 := by omega
  generalize hL : dg.length = L
  have HL : Hid (dg.length = L) := hL
  clear hL
  by_cases hn : nm.size = 0
  all_goals
    first
      | (have hn' := empty_size hn; subst hn')
      | have hne := empty_list' hn
    by_cases hs : st.size = 0
    all_goals
      first
        | (have hs' := empty_size hs; subst hs')
        | have hse := empty_list' hs
      rcases h6 with rfl | rfl | rfl | rfl | rfl | rfl
      all_goals
        go_enter Tryz.func64, Tryz.ntmps64
        go_wp2
        go_ret
        refine ⟨congrArg Ending.returned (congrArg Value.bool ?_), (Below.refl _ _).alloc (Nat.le_refl _) _⟩
        rw [Bool.eq_iff_iff]
        simp [zeroB, HL.out, *]
        try omega
end Go.Proofs.YtmnibmgbicnamaaGreatDoor
namespace Go.Proofs.YtmnibmgbicnamaaGreatDoor
open Go.RowKit

theorem fields_few (k : Int) : (fieldsOf k).length ≤ 6 := by
  unfold fieldsOf
  repeat' split
  all_goals simp
/-- All fields of a message are such as its kind asks. -/
def goodAll (fs : List Int) (m : Msg) : Bool := goodB fs m 0 && goodB fs m 1 && goodB fs m 2 && goodB fs m 3 && goodB fs m 4 && goodB fs m 5
theorem good_fits (m : Msg) (hk : 1 ≤ m.kind ∧ m.kind ≤ 5) : goodAll (fieldsOf m.kind) m = decide (fits m) := by
  obtain ⟨k, fl, cr, ch, nm, st, dg⟩ := m
  have h5 : k = 1 ∨ k = 2 ∨ k = 3 ∨ k = 4 ∨ k = 5 := by simp only at hk; omega
  rw [Bool.eq_iff_iff]
  rcases h5 with rfl | rfl | rfl | rfl | rfl
  all_goals
    simp [goodAll, goodB, fieldsOf, mayB, zeroB, fits]
    try (constructor <;> (intro h; simp_all))
theorem all_of (p : Int → Bool) (h : ∀ f : Nat, f < 6 → p f = true) : (p 0 && p 1 && p 2 && p 3 && p 4 && p 5) = true := by
  have h0 := h 0 (by omega)
  have h1 := h 1 (by omega)
  have h2 := h 2 (by omega)
  have h3 := h 3 (by omega)
  have h4 := h 4 (by omega)
  have h5 := h 5 (by omega)
  simp at h0 h1 h2 h3 h4 h5
  simp [h0, h1, h2, h3, h4, h5]
theorem all_not (p : Int → Bool) (f : Nat) (hf : f < 6) (h : p f = false) : (p 0 && p 1 && p 2 && p 3 && p 4 && p 5) = false := by
  have : f = 0 ∨ f = 1 ∨ f = 2 ∨ f = 3 ∨ f = 4 ∨ f = 5 := by omega
  rcases this with rfl | rfl | rfl | rfl | rfl | rfl <;> simp at h <;> simp [h]
set_option maxRecDepth 100000 in
set_option maxHeartbeats 3200000 in
theorem sh_fits {w : World} {B : Nat} {L V : Value} {fs : List Int} (hL : ∃ x, L = .int .u8 x) (hV : Fl w B V fs) (hl : fs.length ≤ 6) (m : Msg) (a : Option Addr) (c : Nat) : Calls Tryz.prog 28 #[.agg #[L, V], msgV' m (.slice a m.digest.length c)] w fun e w' => e = .returned (.bool (goodAll fs m)) ∧ Below w.heap.size w w' := by
  have HH : Hid (∀ W (_ : Below w.heap.size w W) f, Calls Tryz.prog 30 #[.agg #[L, V], .int .i64 f] W fun e w' => e = .returned (.bool (decide (f ∈ fs))) ∧ Below W.heap.size W w') := fun W h f => sh_has hL (hV.below h) hl f
  have HM : Hid (∀ W (f : Nat) (_ : f < 6), Calls Tryz.prog 63 #[.int .i64 f, msgV' m (.slice a m.digest.length c)] W fun e w' => e = .returned (.bool (mayB f m)) ∧ Below W.heap.size W w') := fun W f hf => sh_may f (by omega) m a c W
  have HZ : Hid (∀ W (f : Nat) (_ : f < 6), Calls Tryz.prog 64 #[.int .i64 f, msgV' m (.slice a m.digest.length c)] W fun e w' => e = .returned (.bool (zeroB f m)) ∧ Below W.heap.size W w') := fun W f hf => sh_zero f (by omega) m a c W
  have HG : Hid ((∀ f : Nat, f < 6 → goodB fs m f = true) → goodAll fs m = true) := all_of (goodB fs m)
  have HGN : Hid (∀ f : Nat, f < 6 → goodB fs m f = false → goodAll fs m = false) := fun f hf h => all_not (goodB fs m) f hf h
  obtain ⟨x, rfl⟩ := hL
  obtain ⟨g, _, hg, rfl, _⟩ := hV
  unfold msgV' at HM HZ ⊢
  generalize goodAll fs m = GA at HG HGN
  go_enter Tryz.func28, Tryz.ntmps28
  go_wp2_with fail
  go_loopw [6] (fun i wr => ∃ j : Nat, j ≤ 6 ∧ i = .int .i64 j ∧ (∀ f : Nat, f < j → goodB fs m f = true) ∧ ShapeAt wr w.heap.size (.int .u8 x) (.slice (some ⟨g, 0, none⟩) fs.length fs.length) ∧ MsgAt wr (w.heap.size + 1) m (.slice a m.digest.length c) ∧ Below w.heap.size w wr) (fun i _ => 6 - (intOf i).toNat)
  case atStart =>
    refine ⟨0, Nat.zero_le _, rfl, fun f h => absurd h (Nat.not_lt_zero f), (ShapeAt.ofNew w _ _ _).below ((Below.refl _ _).alloc (by simp) _), ?_, ((Below.refl _ _).alloc (Nat.le_refl _) _).alloc (by simp) _⟩
    have := MsgAt.ofNew (w.alloc (.cells #[.int .u8 x, .slice (some ⟨g, 0, none⟩) fs.length fs.length] 85)) m (.slice a m.digest.length c) 27
    simpa using this
  case round =>
    obtain ⟨j, hj, rfl, hall, hS, hM, hB⟩ := hrel
    by_cases hlt : j < 6
    · have hlti : (j : Int) < 6 := by omega
      have hh := HH.out wr hB j
      have HB : Hid (ShapeAt wr w.heap.size (.int .u8 x) (.slice (some ⟨g, 0, none⟩) fs.length fs.length) ∧ MsgAt wr (w.heap.size + 1) m (.slice a m.digest.length c) ∧ Below w.heap.size w wr) := ⟨hS, hM, hB⟩
      obtain ⟨k0, k1⟩ := hS
      clear hB hM
      by_cases hin : (j : Int) ∈ fs
      · have hin1 : goodB fs m j = mayB j m := by unfold goodB; rw [if_pos hin]
        have HIN : Hid (goodB fs m j = mayB j m) := hin1
        clear hin1
        have HIN2 : Hid ((j : Int) ∈ fs) := hin
        rw [decide_eq_true hin] at hh
        clear hin
        go_wp2_with fail
        refine hh.mono ?_
        rintro e w1 ⟨rfl, hb1⟩
        have hma := HM.out w1 j hlt
        have HB1 : Hid (ShapeAt w1 w.heap.size (.int .u8 x) (.slice (some ⟨g, 0, none⟩) fs.length fs.length) ∧ MsgAt w1 (w.heap.size + 1) m (.slice a m.digest.length c) ∧ Below w.heap.size w w1) := ⟨HB.out.1.below hb1, HB.out.2.1.below hb1, HB.out.2.2.trans (hb1.mono HB.out.2.2.size)⟩
        obtain ⟨m0, m1, m2, m3, m4, m5, m6⟩ := HB1.out.2.1
        clear hb1 hh k0 k1 HB
        cases hmy : mayB j m with
        | true =>
          rw [hmy] at hma
          have HJ : Hid (∀ f : Nat, f < j + 1 → goodB fs m f = true) := fun f hf => by
            by_cases he : f = j
            · subst he; exact HIN.out.trans hmy
            · exact hall f (by omega)
          clear HIN hmy hall
          go_wp2_with fail
          refine hma.mono ?_
          rintro e w2 ⟨rfl, hb2⟩
          have HB2 : Hid (ShapeAt w2 w.heap.size (.int .u8 x) (.slice (some ⟨g, 0, none⟩) fs.length fs.length) ∧ MsgAt w2 (w.heap.size + 1) m (.slice a m.digest.length c) ∧ Below w.heap.size w w2) := ⟨HB1.out.1.below hb2, HB1.out.2.1.below hb2, HB1.out.2.2.trans (hb2.mono HB1.out.2.2.size)⟩
          obtain ⟨k0, k1⟩ := HB2.out.1
          have hh2 := HH.out w2 HB2.out.2.2 j
          rw [decide_eq_true HIN2.out] at hh2
          clear hb2 hma HB1 m0 m1 m2 m3 m4 m5 m6
          go_wp2_with fail
          refine hh2.mono ?_
          rintro e w3 ⟨rfl, hb3⟩
          have HB3 : Hid (ShapeAt w3 w.heap.size (.int .u8 x) (.slice (some ⟨g, 0, none⟩) fs.length fs.length) ∧ MsgAt w3 (w.heap.size + 1) m (.slice a m.digest.length c) ∧ Below w.heap.size w w3) := ⟨HB2.out.1.below hb3, HB2.out.2.1.below hb3, HB2.out.2.2.trans (hb3.mono HB2.out.2.2.size)⟩
          clear hb3 hh2 HB2 k0 k1
          go_wp2
          go_roundw
          case rel => exact ⟨j + 1, by omega, by go_num, HJ.out, HB3.out⟩
          case measure => simp [intOf]; omega
        | false =>
          rw [hmy] at hma
          have HJ : Hid (GA = false) := HGN.out j hlt (HIN.out.trans hmy)
          clear HIN hmy hall
          go_wp2_with fail
          refine hma.mono ?_
          rintro e w2 ⟨rfl, hb2⟩
          have HB2 : Hid (Below w.heap.size w w2) := HB1.out.2.2.trans (hb2.mono HB1.out.2.2.size)
          clear hb2 hma HB1 m0 m1 m2 m3 m4 m5 m6
          go_wp2
          go_ret
          exact ⟨by rw [HJ.out]; rfl, HB2.out⟩
      · have hin1 : goodB fs m j = zeroB j m := by unfold goodB; rw [if_neg hin]
        have HIN : Hid (goodB fs m j = zeroB j m) := hin1
        clear hin1
        have HIN2 : Hid ((j : Int) ∉ fs) := hin
        rw [decide_eq_false hin] at hh
        clear hin
        go_wp2_with fail
        refine hh.mono ?_
        rintro e w1 ⟨rfl, hb1⟩
        have HB1 : Hid (ShapeAt w1 w.heap.size (.int .u8 x) (.slice (some ⟨g, 0, none⟩) fs.length fs.length) ∧ MsgAt w1 (w.heap.size + 1) m (.slice a m.digest.length c) ∧ Below w.heap.size w w1) := ⟨HB.out.1.below hb1, HB.out.2.1.below hb1, HB.out.2.2.trans (hb1.mono HB.out.2.2.size)⟩
        have hh2 := HH.out w1 HB1.out.2.2 j
        rw [decide_eq_false HIN2.out] at hh2
        obtain ⟨k0', k1'⟩ := HB1.out.1
        clear hb1 hh k0 k1 HB
        go_wp2_with fail
        refine hh2.mono ?_
        rintro e w2 ⟨rfl, hb2⟩
        have HB2 : Hid (ShapeAt w2 w.heap.size (.int .u8 x) (.slice (some ⟨g, 0, none⟩) fs.length fs.length) ∧ MsgAt w2 (w.heap.size + 1) m (.slice a m.digest.length c) ∧ Below w.heap.size w w2) := ⟨HB1.out.1.below hb2, HB1.out.2.1.below hb2, HB1.out.2.2.trans (hb2.mono HB1.out.2.2.size)⟩
        obtain ⟨m0, m1, m2, m3, m4, m5, m6⟩ := HB2.out.2.1
        have hze := HZ.out w2 j hlt
        clear hb2 hh2 k0' k1' HB1
        cases hmy : zeroB j m with
        | true =>
          rw [hmy] at hze
          have HJ : Hid (∀ f : Nat, f < j + 1 → goodB fs m f = true) := fun f hf => by
            by_cases he : f = j
            · subst he; exact HIN.out.trans hmy
            · exact hall f (by omega)
          clear HIN hmy hall
          go_wp2_with fail
          refine hze.mono ?_
          rintro e w3 ⟨rfl, hb3⟩
          have HB3 : Hid (ShapeAt w3 w.heap.size (.int .u8 x) (.slice (some ⟨g, 0, none⟩) fs.length fs.length) ∧ MsgAt w3 (w.heap.size + 1) m (.slice a m.digest.length c) ∧ Below w.heap.size w w3) := ⟨HB2.out.1.below hb3, HB2.out.2.1.below hb3, HB2.out.2.2.trans (hb3.mono HB2.out.2.2.size)⟩
          clear hb3 hze HB2 m0 m1 m2 m3 m4 m5 m6
          go_wp2
          go_roundw
          case rel => exact ⟨j + 1, by omega, by go_num, HJ.out, HB3.out⟩
          case measure => simp [intOf]; omega
        | false =>
          rw [hmy] at hze
          have HJ : Hid (GA = false) := HGN.out j hlt (HIN.out.trans hmy)
          clear HIN hmy hall
          go_wp2_with fail
          refine hze.mono ?_
          rintro e w3 ⟨rfl, hb3⟩
          have HB3 : Hid (Below w.heap.size w w3) := HB2.out.2.2.trans (hb3.mono HB2.out.2.2.size)
          clear hb3 hze HB2 m0 m1 m2 m3 m4 m5 m6
          go_wp2
          go_ret
          exact ⟨by rw [HJ.out]; rfl, HB3.out⟩
    · have hge : ¬ (j : Int) < 6 := by omega
      have hG := HG.out (fun f hf => hall f (by omega))
      have HGG : Hid (GA = true) := hG
      clear hG hall hS hM
      go_wp2
      go_ret
      exact ⟨by rw [HGG.out]; rfl, hB⟩
end Go.Proofs.YtmnibmgbicnamaaGreatDoor
namespace Go.Proofs.YtmnibmgbicnamaaGreatDoor
open Go.RowKit

/-- The last k bytes of a number of 64 bits, the highest first. -/
def beN (k : Nat) (n : Int) : List Int := (bytes8 n).drop (8 - k)
theorem beN_len (k : Nat) (hk : k ≤ 8) (n : Int) : (beN k n).length = k := by simp [beN, bytes8]; omega
theorem beN_4 (n : Int) : beN 4 n = be4 n := rfl
theorem beN_2 (n : Int) : beN 2 n = be2 n := rfl
theorem beN_8 (n : Int) : beN 8 n = bytes8 n := rfl
set_option maxRecDepth 100000 in
set_option maxHeartbeats 3200000 in
theorem sh_num2 (n : Int) {w : World} {V : Value} {zs : List Int} (hl : zs.length ≤ 70000000) (ho : Own w V zs) : Calls Tryz.prog 68 #[V, .int .i64 2, .int .u64 n] w fun e w' => ∃ V', e = .returned V' ∧ Own w' V' (zs ++ beN 2 n) ∧ Turned (blk V) w w' ∧ ∀ q, blk V' q → blk V q ∨ w.heap.size ≤ q := by
  have HO0 : Hid (Own w V zs) := ho
  clear ho
  go_enter Tryz.func68, Tryz.ntmps68
  go_wp2_with fail
  go_loopw [0, 7] (fun oo ii wr => ∃ j : Nat, ii = .int .i64 (8 - 8 * (j : Int)) ∧ j ≤ 2 ∧ Own wr oo (zs ++ (beN 2 n).take j) ∧ Turned (blk V) w wr ∧ ∀ q, blk oo q → blk V q ∨ w.heap.size ≤ q) (fun _ ii _ => (intOf ii + 8).toNat)
  case atStart => exact ⟨0, rfl, by omega, by simpa using HO0.out, Turned.refl _ _, fun _ h => .inl h⟩
  case round =>
    obtain ⟨j, rfl, hj, ho, hT, hb⟩ := hrel
    obtain ⟨ao, co, Lo, rfl⟩ : ∃ a c L, u0 = .slice a L c := ⟨_, _, _, ho.sl.form.choose_spec.choose_spec.1⟩
    by_cases hE : j = 2
    · subst hE
      have HO : Hid (Own wr (.slice ao Lo co) (zs ++ beN 2 n) ∧ Turned (blk V) w wr ∧ ∀ q, blk (.slice ao Lo co) q → blk V q ∨ w.heap.size ≤ q) := ⟨ho, hT, hb⟩
      clear ho hT hb
      go_wp2
      go_ret
      exact ⟨_, rfl, HO.out⟩
    · have hN : j = 0 ∨ j = 1 := by omega
      have HO : Hid (Own wr (.slice ao Lo co) (zs ++ (beN 2 n).take j) ∧ Turned (blk V) w wr ∧ ∀ q, blk (.slice ao Lo co) q → blk V q ∨ w.heap.size ≤ q) := ⟨ho, hT, hb⟩
      have HA := fun o : Obj => ho.turned (alloc0m wr o) (fun _ _ h => h)
      have hlen : (zs ++ (beN 2 n).take j).length + 1 ≤ 70368744177664 := by simp [beN, bytes8]; omega
      clear ho hT hb
      rcases hN with rfl | rfl
      · go_wp2_with (at_builtin; refine wpList_append_bytes (by rfl) (.tmp 15) (.tmp 20) (by rfl) Tryz.bytes (by rfl) (by rfl) (HA _) (Sl.one wr _ _).sl hlen ?_; intro v1 w5 ho1 ht1 hb1; have HN := Hid.mk7 (appendedV HO.out.2.1 HO.out.2.2 ho1 ht1 hb1); clear ho1 ht1 hb1)
        go_roundw
        case rel => exact ⟨1, by simp, by omega, by rw [show zs ++ (beN 2 n).take 1 = (zs ++ (beN 2 n).take 0) ++ [_] from by rw [List.append_assoc]; rfl]; exact HN.out.1, HN.out.2.1, HN.out.2.2⟩
        case measure => simp [intOf]
      · go_wp2_with (at_builtin; refine wpList_append_bytes (by rfl) (.tmp 15) (.tmp 20) (by rfl) Tryz.bytes (by rfl) (by rfl) (HA _) (Sl.one wr _ _).sl hlen ?_; intro v1 w5 ho1 ht1 hb1; have HN := Hid.mk7 (appendedV HO.out.2.1 HO.out.2.2 ho1 ht1 hb1); clear ho1 ht1 hb1)
        go_roundw
        case rel => exact ⟨2, by simp, by omega, by rw [show zs ++ (beN 2 n).take 2 = (zs ++ (beN 2 n).take 1) ++ [_] from by rw [List.append_assoc]; rfl]; exact HN.out.1, HN.out.2.1, HN.out.2.2⟩
        case measure => simp [intOf]
set_option maxRecDepth 100000 in
set_option maxHeartbeats 3200000 in
theorem sh_num4 (n : Int) {w : World} {V : Value} {zs : List Int} (hl : zs.length ≤ 70000000) (ho : Own w V zs) : Calls Tryz.prog 68 #[V, .int .i64 4, .int .u64 n] w fun e w' => ∃ V', e = .returned V' ∧ Own w' V' (zs ++ beN 4 n) ∧ Turned (blk V) w w' ∧ ∀ q, blk V' q → blk V q ∨ w.heap.size ≤ q := by
  have HO0 : Hid (Own w V zs) := ho
  clear ho
  go_enter Tryz.func68, Tryz.ntmps68
  go_wp2_with fail
  go_loopw [0, 7] (fun oo ii wr => ∃ j : Nat, ii = .int .i64 (24 - 8 * (j : Int)) ∧ j ≤ 4 ∧ Own wr oo (zs ++ (beN 4 n).take j) ∧ Turned (blk V) w wr ∧ ∀ q, blk oo q → blk V q ∨ w.heap.size ≤ q) (fun _ ii _ => (intOf ii + 8).toNat)
  case atStart => exact ⟨0, rfl, by omega, by simpa using HO0.out, Turned.refl _ _, fun _ h => .inl h⟩
  case round =>
    obtain ⟨j, rfl, hj, ho, hT, hb⟩ := hrel
    obtain ⟨ao, co, Lo, rfl⟩ : ∃ a c L, u0 = .slice a L c := ⟨_, _, _, ho.sl.form.choose_spec.choose_spec.1⟩
    by_cases hE : j = 4
    · subst hE
      have HO : Hid (Own wr (.slice ao Lo co) (zs ++ beN 4 n) ∧ Turned (blk V) w wr ∧ ∀ q, blk (.slice ao Lo co) q → blk V q ∨ w.heap.size ≤ q) := ⟨ho, hT, hb⟩
      clear ho hT hb
      go_wp2
      go_ret
      exact ⟨_, rfl, HO.out⟩
    · have hN : j = 0 ∨ j = 1 ∨ j = 2 ∨ j = 3 := by omega
      have HO : Hid (Own wr (.slice ao Lo co) (zs ++ (beN 4 n).take j) ∧ Turned (blk V) w wr ∧ ∀ q, blk (.slice ao Lo co) q → blk V q ∨ w.heap.size ≤ q) := ⟨ho, hT, hb⟩
      have HA := fun o : Obj => ho.turned (alloc0m wr o) (fun _ _ h => h)
      have hlen : (zs ++ (beN 4 n).take j).length + 1 ≤ 70368744177664 := by simp [beN, bytes8]; omega
      clear ho hT hb
      rcases hN with rfl | rfl | rfl | rfl
      · go_wp2_with (at_builtin; refine wpList_append_bytes (by rfl) (.tmp 15) (.tmp 20) (by rfl) Tryz.bytes (by rfl) (by rfl) (HA _) (Sl.one wr _ _).sl hlen ?_; intro v1 w5 ho1 ht1 hb1; have HN := Hid.mk7 (appendedV HO.out.2.1 HO.out.2.2 ho1 ht1 hb1); clear ho1 ht1 hb1)
        go_roundw
        case rel => exact ⟨1, by simp, by omega, by rw [show zs ++ (beN 4 n).take 1 = (zs ++ (beN 4 n).take 0) ++ [_] from by rw [List.append_assoc]; rfl]; exact HN.out.1, HN.out.2.1, HN.out.2.2⟩
        case measure => simp [intOf]
      · go_wp2_with (at_builtin; refine wpList_append_bytes (by rfl) (.tmp 15) (.tmp 20) (by rfl) Tryz.bytes (by rfl) (by rfl) (HA _) (Sl.one wr _ _).sl hlen ?_; intro v1 w5 ho1 ht1 hb1; have HN := Hid.mk7 (appendedV HO.out.2.1 HO.out.2.2 ho1 ht1 hb1); clear ho1 ht1 hb1)
        go_roundw
        case rel => exact ⟨2, by simp, by omega, by rw [show zs ++ (beN 4 n).take 2 = (zs ++ (beN 4 n).take 1) ++ [_] from by rw [List.append_assoc]; rfl]; exact HN.out.1, HN.out.2.1, HN.out.2.2⟩
        case measure => simp [intOf]
      · go_wp2_with (at_builtin; refine wpList_append_bytes (by rfl) (.tmp 15) (.tmp 20) (by rfl) Tryz.bytes (by rfl) (by rfl) (HA _) (Sl.one wr _ _).sl hlen ?_; intro v1 w5 ho1 ht1 hb1; have HN := Hid.mk7 (appendedV HO.out.2.1 HO.out.2.2 ho1 ht1 hb1); clear ho1 ht1 hb1)
        go_roundw
        case rel => exact ⟨3, by simp, by omega, by rw [show zs ++ (beN 4 n).take 3 = (zs ++ (beN 4 n).take 2) ++ [_] from by rw [List.append_assoc]; rfl]; exact HN.out.1, HN.out.2.1, HN.out.2.2⟩
        case measure => simp [intOf]
      · go_wp2_with (at_builtin; refine wpList_append_bytes (by rfl) (.tmp 15) (.tmp 20) (by rfl) Tryz.bytes (by rfl) (by rfl) (HA _) (Sl.one wr _ _).sl hlen ?_; intro v1 w5 ho1 ht1 hb1; have HN := Hid.mk7 (appendedV HO.out.2.1 HO.out.2.2 ho1 ht1 hb1); clear ho1 ht1 hb1)
        go_roundw
        case rel => exact ⟨4, by simp, by omega, by rw [show zs ++ (beN 4 n).take 4 = (zs ++ (beN 4 n).take 3) ++ [_] from by rw [List.append_assoc]; rfl]; exact HN.out.1, HN.out.2.1, HN.out.2.2⟩
        case measure => simp [intOf]
set_option maxRecDepth 100000 in
set_option maxHeartbeats 3200000 in
theorem sh_num8 (n : Int) {w : World} {V : Value} {zs : List Int} (hl : zs.length ≤ 70000000) (ho : Own w V zs) : Calls Tryz.prog 68 #[V, .int .i64 8, .int .u64 n] w fun e w' => ∃ V', e = .returned V' ∧ Own w' V' (zs ++ beN 8 n) ∧ Turned (blk V) w w' ∧ ∀ q, blk V' q → blk V q ∨ w.heap.size ≤ q := by
  have HO0 : Hid (Own w V zs) := ho
  clear ho
  go_enter Tryz.func68, Tryz.ntmps68
  go_wp2_with fail
  go_loopw [0, 7] (fun oo ii wr => ∃ j : Nat, ii = .int .i64 (56 - 8 * (j : Int)) ∧ j ≤ 8 ∧ Own wr oo (zs ++ (beN 8 n).take j) ∧ Turned (blk V) w wr ∧ ∀ q, blk oo q → blk V q ∨ w.heap.size ≤ q) (fun _ ii _ => (intOf ii + 8).toNat)
  case atStart => exact ⟨0, rfl, by omega, by simpa using HO0.out, Turned.refl _ _, fun _ h => .inl h⟩
  case round =>
    obtain ⟨j, rfl, hj, ho, hT, hb⟩ := hrel
    obtain ⟨ao, co, Lo, rfl⟩ : ∃ a c L, u0 = .slice a L c := ⟨_, _, _, ho.sl.form.choose_spec.choose_spec.1⟩
    by_cases hE : j = 8
    · subst hE
      have HO : Hid (Own wr (.slice ao Lo co) (zs ++ beN 8 n) ∧ Turned (blk V) w wr ∧ ∀ q, blk (.slice ao Lo co) q → blk V q ∨ w.heap.size ≤ q) := ⟨ho, hT, hb⟩
      clear ho hT hb
      go_wp2
      go_ret
      exact ⟨_, rfl, HO.out⟩
    · have hN : j = 0 ∨ j = 1 ∨ j = 2 ∨ j = 3 ∨ j = 4 ∨ j = 5 ∨ j = 6 ∨ j = 7 := by omega
      have HO : Hid (Own wr (.slice ao Lo co) (zs ++ (beN 8 n).take j) ∧ Turned (blk V) w wr ∧ ∀ q, blk (.slice ao Lo co) q → blk V q ∨ w.heap.size ≤ q) := ⟨ho, hT, hb⟩
      have HA := fun o : Obj => ho.turned (alloc0m wr o) (fun _ _ h => h)
      have hlen : (zs ++ (beN 8 n).take j).length + 1 ≤ 70368744177664 := by simp [beN, bytes8]; omega
      clear ho hT hb
      rcases hN with rfl | rfl | rfl | rfl | rfl | rfl | rfl | rfl
      · go_wp2_with (at_builtin; refine wpList_append_bytes (by rfl) (.tmp 15) (.tmp 20) (by rfl) Tryz.bytes (by rfl) (by rfl) (HA _) (Sl.one wr _ _).sl hlen ?_; intro v1 w5 ho1 ht1 hb1; have HN := Hid.mk7 (appendedV HO.out.2.1 HO.out.2.2 ho1 ht1 hb1); clear ho1 ht1 hb1)
        go_roundw
        case rel => exact ⟨1, by simp, by omega, by rw [show zs ++ (beN 8 n).take 1 = (zs ++ (beN 8 n).take 0) ++ [_] from by rw [List.append_assoc]; rfl]; exact HN.out.1, HN.out.2.1, HN.out.2.2⟩
        case measure => simp [intOf]
      · go_wp2_with (at_builtin; refine wpList_append_bytes (by rfl) (.tmp 15) (.tmp 20) (by rfl) Tryz.bytes (by rfl) (by rfl) (HA _) (Sl.one wr _ _).sl hlen ?_; intro v1 w5 ho1 ht1 hb1; have HN := Hid.mk7 (appendedV HO.out.2.1 HO.out.2.2 ho1 ht1 hb1); clear ho1 ht1 hb1)
        go_roundw
        case rel => exact ⟨2, by simp, by omega, by rw [show zs ++ (beN 8 n).take 2 = (zs ++ (beN 8 n).take 1) ++ [_] from by rw [List.append_assoc]; rfl]; exact HN.out.1, HN.out.2.1, HN.out.2.2⟩
        case measure => simp [intOf]
      · go_wp2_with (at_builtin; refine wpList_append_bytes (by rfl) (.tmp 15) (.tmp 20) (by rfl) Tryz.bytes (by rfl) (by rfl) (HA _) (Sl.one wr _ _).sl hlen ?_; intro v1 w5 ho1 ht1 hb1; have HN := Hid.mk7 (appendedV HO.out.2.1 HO.out.2.2 ho1 ht1 hb1); clear ho1 ht1 hb1)
        go_roundw
        case rel => exact ⟨3, by simp, by omega, by rw [show zs ++ (beN 8 n).take 3 = (zs ++ (beN 8 n).take 2) ++ [_] from by rw [List.append_assoc]; rfl]; exact HN.out.1, HN.out.2.1, HN.out.2.2⟩
        case measure => simp [intOf]
      · go_wp2_with (at_builtin; refine wpList_append_bytes (by rfl) (.tmp 15) (.tmp 20) (by rfl) Tryz.bytes (by rfl) (by rfl) (HA _) (Sl.one wr _ _).sl hlen ?_; intro v1 w5 ho1 ht1 hb1; have HN := Hid.mk7 (appendedV HO.out.2.1 HO.out.2.2 ho1 ht1 hb1); clear ho1 ht1 hb1)
        go_roundw
        case rel => exact ⟨4, by simp, by omega, by rw [show zs ++ (beN 8 n).take 4 = (zs ++ (beN 8 n).take 3) ++ [_] from by rw [List.append_assoc]; rfl]; exact HN.out.1, HN.out.2.1, HN.out.2.2⟩
        case measure => simp [intOf]
      · go_wp2_with (at_builtin; refine wpList_append_bytes (by rfl) (.tmp 15) (.tmp 20) (by rfl) Tryz.bytes (by rfl) (by rfl) (HA _) (Sl.one wr _ _).sl hlen ?_; intro v1 w5 ho1 ht1 hb1; have HN := Hid.mk7 (appendedV HO.out.2.1 HO.out.2.2 ho1 ht1 hb1); clear ho1 ht1 hb1)
        go_roundw
        case rel => exact ⟨5, by simp, by omega, by rw [show zs ++ (beN 8 n).take 5 = (zs ++ (beN 8 n).take 4) ++ [_] from by rw [List.append_assoc]; rfl]; exact HN.out.1, HN.out.2.1, HN.out.2.2⟩
        case measure => simp [intOf]
      · go_wp2_with (at_builtin; refine wpList_append_bytes (by rfl) (.tmp 15) (.tmp 20) (by rfl) Tryz.bytes (by rfl) (by rfl) (HA _) (Sl.one wr _ _).sl hlen ?_; intro v1 w5 ho1 ht1 hb1; have HN := Hid.mk7 (appendedV HO.out.2.1 HO.out.2.2 ho1 ht1 hb1); clear ho1 ht1 hb1)
        go_roundw
        case rel => exact ⟨6, by simp, by omega, by rw [show zs ++ (beN 8 n).take 6 = (zs ++ (beN 8 n).take 5) ++ [_] from by rw [List.append_assoc]; rfl]; exact HN.out.1, HN.out.2.1, HN.out.2.2⟩
        case measure => simp [intOf]
      · go_wp2_with (at_builtin; refine wpList_append_bytes (by rfl) (.tmp 15) (.tmp 20) (by rfl) Tryz.bytes (by rfl) (by rfl) (HA _) (Sl.one wr _ _).sl hlen ?_; intro v1 w5 ho1 ht1 hb1; have HN := Hid.mk7 (appendedV HO.out.2.1 HO.out.2.2 ho1 ht1 hb1); clear ho1 ht1 hb1)
        go_roundw
        case rel => exact ⟨7, by simp, by omega, by rw [show zs ++ (beN 8 n).take 7 = (zs ++ (beN 8 n).take 6) ++ [_] from by rw [List.append_assoc]; rfl]; exact HN.out.1, HN.out.2.1, HN.out.2.2⟩
        case measure => simp [intOf]
      · go_wp2_with (at_builtin; refine wpList_append_bytes (by rfl) (.tmp 15) (.tmp 20) (by rfl) Tryz.bytes (by rfl) (by rfl) (HA _) (Sl.one wr _ _).sl hlen ?_; intro v1 w5 ho1 ht1 hb1; have HN := Hid.mk7 (appendedV HO.out.2.1 HO.out.2.2 ho1 ht1 hb1); clear ho1 ht1 hb1)
        go_roundw
        case rel => exact ⟨8, by simp, by omega, by rw [show zs ++ (beN 8 n).take 8 = (zs ++ (beN 8 n).take 7) ++ [_] from by rw [List.append_assoc]; rfl]; exact HN.out.1, HN.out.2.1, HN.out.2.2⟩
        case measure => simp [intOf]
theorem sh_number (k : Nat) (hk : k = 2 ∨ k = 4 ∨ k = 8) (n : Int) {w : World} {V : Value} {zs : List Int} (hl : zs.length ≤ 70000000) (ho : Own w V zs) : Calls Tryz.prog 68 #[V, .int .i64 k, .int .u64 n] w fun e w' => ∃ V', e = .returned V' ∧ Own w' V' (zs ++ beN k n) ∧ Turned (blk V) w w' ∧ ∀ q, blk V' q → blk V q ∨ w.heap.size ≤ q := by
  rcases hk with rfl | rfl | rfl
  · exact sh_num2 n hl ho
  · exact sh_num4 n hl ho
  · exact sh_num8 n hl ho
end Go.Proofs.YtmnibmgbicnamaaGreatDoor
namespace Go.Proofs.YtmnibmgbicnamaaGreatDoor
open Go.RowKit

/-- A field's bytes. -/
def fieldBytes (f : Int) (m : Msg) : List Int := if f = 0 then bytes8 m.flags else if f = 1 then be4 m.challenge else if f = 2 then be4 m.creation else if f = 3 then be2 m.name.size ++ nums m.name else if f = 4 then nums m.status else m.digest
/-- What is told of an appended slice, if a message was boxed ahead. -/
theorem wrote_told {w w1 : World} {o : Obj} {V v1 : Value} {zs : List Int} (ho1 : Own w1 v1 zs) (ht1 : Turned (blk V) (w.alloc o) w1) (hb1 : ∀ k, blk v1 k → blk V k ∨ (w.alloc o).heap.size ≤ k) : Own w1 v1 zs ∧ Turned (blk V) w w1 ∧ ∀ k, blk v1 k → blk V k ∨ w.heap.size ≤ k :=
  ⟨ho1, ((alloc0m w o).mono (fun _ h => h.elim)).trans ht1 (fun _ h => .inl h), fun k hk => (hb1 k hk).imp id (fun h => by simp at h; omega)⟩
theorem wrote_told_d {w w1 : World} {o : Obj} {V v1 : Value} {zs : List Int} (ho1 : Own w1 v1 zs) (ht1 : Turned (blk V) (w.alloc o).drew w1) (hb1 : ∀ k, blk v1 k → blk V k ∨ (w.alloc o).drew.heap.size ≤ k) : Own w1 v1 zs ∧ Turned (blk V) w w1 ∧ ∀ k, blk v1 k → blk V k ∨ w.heap.size ≤ k :=
  wrote_told ho1 ((Turned.drew (blk V) (w.alloc o)).trans ht1 (fun _ h => .inl h)) hb1
/-- .. and of what is appended to it. -/
theorem wrote_more {w w1 w2 : World} {V v1 v2 : Value} {zs : List Int} (h1 : Turned (blk V) w w1) (hb1 : ∀ k, blk v1 k → blk V k ∨ w.heap.size ≤ k) (ho2 : Own w2 v2 zs) (ht2 : Turned (blk v1) w1 w2) (hb2 : ∀ k, blk v2 k → blk v1 k ∨ k = w1.heap.size) : Own w2 v2 zs ∧ Turned (blk V) w w2 ∧ ∀ k, blk v2 k → blk V k ∨ w.heap.size ≤ k :=
  ⟨ho2, h1.trans ht2 hb1, fun k hk => (hb2 k hk).elim (hb1 k) (fun h => .inr (by have := h1.size; omega))⟩
set_option maxRecDepth 100000 in
set_option maxHeartbeats 6400000 in
theorem sh_write (f : Int) (hf : 0 ≤ f ∧ f ≤ 5) (m : Msg) (hm : m.Ok) (hnm : m.name.size ≤ 70000) (hsm : m.status.size ≤ 70000) (hdm : m.digest.length ≤ 70000) {w : World} {V : Value} {zs : List Int} (hl : zs.length ≤ 1000) (ho : Own w V zs) {D : Value} (hD : Sl w D m.digest) :
    Calls Tryz.prog 32 #[.int .i64 f, V, msgV' m D] w fun e w' => ∃ V', e = .returned V' ∧ Own w' V' (zs ++ fieldBytes f m) ∧ Turned (blk V) w w' ∧ ∀ q, blk V' q → blk V q ∨ w.heap.size ≤ q := by
  obtain ⟨k, fl, cr, ch, nm, st, dg⟩ := m
  obtain ⟨_, hcr, hch, _⟩ := hm
  simp only at hnm hsm hdm hD hcr hch
  have ecr : IntKind.u64.wrap cr = cr := by rw [IntKind.wrap_u64]; omega
  have ech : IntKind.u64.wrap ch = ch := by rw [IntKind.wrap_u64]; omega
  clear hcr hch
  have h6 : f = 0 ∨ f = 1 ∨ f = 2 ∨ f = 3 ∨ f = 4 ∨ f = 5 := by omega
  have HOB := fun o : Obj => ho.turned (alloc0m w o) (fun _ _ h => h)
  have HDB := fun o : Obj => hD.turned (alloc0m w o) (fun _ _ h => h)
  have HBL : Hid (∀ k, blk V k → k < w.heap.size) := ho.blk_lt
  obtain ⟨ao, co, Lo, rfl⟩ : ∃ a c L, V = .slice a L c := ⟨_, _, _, ho.sl.form.choose_spec.choose_spec.1⟩
  obtain ⟨aD, cD, LD, rfl⟩ : ∃ a c L, D = .slice a L c := ⟨_, _, _, hD.form.choose_spec.choose_spec.1⟩
  have hlen : zs.length ≤ 70000000 := by omega
  have hls : zs.length + st.size ≤ 70368744177664 := by omega
  have hld : zs.length + dg.length ≤ 70368744177664 := by omega
  have hln : (zs ++ beN 2 nm.size).length + nm.size ≤ 70368744177664 := by rw [List.length_append, beN_len 2 (by omega)]; omega
  have enm : IntKind.u64.wrap (nm.size : Int) = (nm.size : Int) := by rw [IntKind.wrap_u64]; omega
  clear ho hD
  unfold msgV'
  simp only
  rcases h6 with rfl | rfl | rfl | rfl | rfl | rfl
  · go_enter Tryz.func32, Tryz.ntmps32
    go_wp2_with fail
    refine (sh_num8 fl hlen (HOB _)).mono ?_
    rintro e w1 ⟨V1, rfl, ho1, ht1, hb1⟩
    have HN := Hid.mk7 (wrote_told ho1 ht1 hb1)
    clear ho1 ht1 hb1
    go_wp2
    go_ret
    exact ⟨_, rfl, HN.out⟩
  · go_enter Tryz.func32, Tryz.ntmps32
    go_wp2_with fail
    refine (sh_num4 _ hlen (HOB _)).mono ?_
    rintro e w1 ⟨V1, rfl, ho1, ht1, hb1⟩
    have HN := Hid.mk7 (wrote_told ho1 ht1 hb1)
    clear ho1 ht1 hb1
    go_wp2
    go_ret
    exact ⟨_, rfl, HN.out⟩
  · go_enter Tryz.func32, Tryz.ntmps32
    go_wp2_with fail
    refine (sh_num4 _ hlen (HOB _)).mono ?_
    rintro e w1 ⟨V1, rfl, ho1, ht1, hb1⟩
    have HN := Hid.mk7 (wrote_told ho1 ht1 hb1)
    clear ho1 ht1 hb1
    go_wp2
    go_ret
    exact ⟨_, rfl, HN.out⟩
  · go_enter Tryz.func32, Tryz.ntmps32
    go_wp2_with fail
    go_region_held3 (fun w' => w'.cell? ⟨w.heap.size, 4, none⟩ = some (.string nm))
      (go_keep)
      (first
        | (go_at_call 68; refine (sh_num2 _ hlen ((HOB _).turned (Turned.drew (fun _ => False) _) (fun _ _ h => h))).mono ?_; rintro e w1 ⟨V1, rfl, ho1, ht1, hb1⟩; have s1 : w1.cell? ⟨w.heap.size, 4, none⟩ = some (.string nm) := ht1.cell (p := ⟨w.heap.size, 4, none⟩) (by simp) (fun h => Nat.lt_irrefl _ (HBL.out _ h)); have hV1 : ¬ blk V1 w.heap.size := fun h => (hb1 _ h).elim (fun h => Nat.lt_irrefl _ (HBL.out _ h)) (fun h => by simp at h; omega); have H1 := Hid.mk7 (wrote_told_d ho1 ht1 hb1); obtain ⟨a1, c1, L1, rfl⟩ : ∃ a c L, V1 = .slice a L c := ⟨_, _, _, ho1.sl.form.choose_spec.choose_spec.1⟩; clear ho1 ht1 hb1)
        | (refine step_append_text (by rfl) (.tmp 35) (.tmp 37) (by rfl) Tryz.bytes Tryz.underlying9 (by rfl) (by rfl) H1.out.1 hln ?_; intro v2 w2 ho2 ht2 hb2; have s2 : w2.cell? ⟨w.heap.size, 4, none⟩ = some (.string nm) := ht2.cell (p := ⟨w.heap.size, 4, none⟩) s1 hV1; have H2 := Hid.mk7 (wrote_more H1.out.2.1 H1.out.2.2 ho2 ht2 hb2); clear ho2 ht2 hb2))
    all_goals
      go_wp2
      go_ret
      exact ⟨_, rfl, by have h2 := H2.out.1; rw [List.append_assoc] at h2; exact h2, H2.out.2⟩
  · go_enter Tryz.func32, Tryz.ntmps32
    go_wp2_with (at_builtin; refine wpList_append_text (by rfl) (.tmp 41) (.tmp 43) (by rfl) Tryz.bytes Tryz.underlying9 (by rfl) (by rfl) (HOB _) hls ?_; intro v1 w1 ho1 ht1 hb1; have HN := Hid.mk7 (wrote_told ho1 ht1 (fun k hk => (hb1 k hk).imp id (fun h => Nat.le_of_eq h.symm))); clear ho1 ht1 hb1)
    go_ret
    exact ⟨_, rfl, HN.out⟩
  · go_enter Tryz.func32, Tryz.ntmps32
    go_wp2_with (at_builtin; refine wpList_append_bytes (by rfl) (.tmp 45) (.tmp 47) (by rfl) Tryz.bytes (by rfl) (by rfl) (HOB _) (HDB _) hld ?_; intro v1 w1 ho1 ht1 hb1; have HN := Hid.mk7 (wrote_told ho1 ht1 (fun k hk => (hb1 k hk).imp id (fun h => Nat.le_of_eq h.symm))); clear ho1 ht1 hb1)
    go_ret
    exact ⟨_, rfl, HN.out⟩
end Go.Proofs.YtmnibmgbicnamaaGreatDoor
namespace Go.Proofs.YtmnibmgbicnamaaGreatDoor
open Go.RowKit

theorem wrote_all (m : Msg) (hk : 1 ≤ m.kind ∧ m.kind ≤ 5) : letterOf m.kind :: (fieldsOf m.kind).flatMap (fun f => fieldBytes f m) = bytesOfMsg m := by
  have h5 : m.kind = 1 ∨ m.kind = 2 ∨ m.kind = 3 ∨ m.kind = 4 ∨ m.kind = 5 := by omega
  rcases h5 with h | h | h | h | h
  · rw [bytes_k1 m h, h]; simp [letterOf, fieldsOf, fieldBytes]
  · rw [bytes_k2 m h, h]; simp [letterOf, fieldsOf, fieldBytes]
  · rw [bytes_k3 m h, h]; simp [letterOf, fieldsOf, fieldBytes]
  · rw [bytes_k4 m h, h]; simp [letterOf, fieldsOf, fieldBytes]
  · rw [bytes_k5 m h, h]; simp [letterOf, fieldsOf, fieldBytes]
theorem st_size {s : ByteArray} (h : isSt s = true) : s.size ≤ 15 := by
  simp only [isSt, Bool.or_eq_true, decide_eq_true_eq] at h
  rcases h with (((h | h) | h) | h) | h <;> rw [h] <;> decide
theorem fits_kind {m : Msg} (hf : fits m) : 1 ≤ m.kind ∧ m.kind ≤ 5 := by
  obtain ⟨_, _, _, h4⟩ := hf
  by_cases h : m.kind = 4 ∨ m.kind = 5
  · omega
  · rw [if_neg h] at h4; exact h4.2
theorem fits_small {m : Msg} (hf : fits m) (hn : (m.kind = 1 ∨ m.kind = 3) → nodeOk m.name = true) : m.name.size ≤ 64 ∧ m.status.size ≤ 15 ∧ m.digest.length ≤ 16 := by
  obtain ⟨h1, _, h3, h4⟩ := hf
  refine ⟨?_, ?_, ?_⟩
  · by_cases h : m.kind = 1 ∨ m.kind = 3
    · exact (nodeOk_size (hn h)).2
    · omega
  · by_cases h : m.kind = 2
    · rw [if_pos h] at h3; exact st_size h3
    · rw [if_neg h] at h3; omega
  · by_cases h : m.kind = 4 ∨ m.kind = 5
    · rw [if_pos h] at h4; omega
    · rw [if_neg h] at h4; omega
theorem field_few {m : Msg} (h1 : m.name.size ≤ 64) (h2 : m.status.size ≤ 15) (h3 : m.digest.length ≤ 16) (f : Int) : (fieldBytes f m).length ≤ 140 := by
  unfold fieldBytes
  repeat' split
  · simp [bytes8]
  · simp [be4]
  · simp [be4]
  · simp [be2, nums_length]; omega
  · rw [nums_length]; omega
  · omega
theorem fields_rng (k : Int) : ∀ f ∈ fieldsOf k, 0 ≤ f ∧ f ≤ 5 := by
  intro f hf
  unfold fieldsOf at hf
  repeat' split at hf
  all_goals simp at hf
  all_goals omega
theorem has_name (k : Int) (hk : 1 ≤ k ∧ k ≤ 5) : decide ((3 : Int) ∈ fieldsOf k) = decide (k = 1 ∨ k = 3) := by
  have h5 : k = 1 ∨ k = 2 ∨ k = 3 ∨ k = 4 ∨ k = 5 := by omega
  rcases h5 with rfl | rfl | rfl | rfl | rfl <;> decide
/-- What is told of Write. -/
def WriteTold (m : Msg) (w : World) (e : Ending) (w' : World) : Prop := ∃ V v, e = .returned (.tuple #[V, v]) ∧ Own w' V (writeOf m) ∧ FaultC w.heap.size w' v (writeErr m) ∧ Below w.heap.size w w' ∧ ∀ k, blk V k → w.heap.size ≤ k
set_option maxRecDepth 100000 in
set_option maxHeartbeats 3200000 in
theorem sh_write_kind (m : Msg) (hk : m.kind < 1 ∨ 5 < m.kind) (D : Value) (w : World) (hD : ∃ a c, D = .slice a m.digest.length c) : Calls Tryz.prog 9 #[msgV' m D] w (WriteTold m w) := by
  have hf : ¬ fits m := fun h => by have := fits_kind h; omega
  have hW : writeOf m = [] ∧ writeErr m = sh 0 1 := by unfold writeOf writeErr; rw [if_pos hf, if_pos hf]; exact ⟨rfl, rfl⟩
  unfold WriteTold
  rw [hW.1, hW.2]
  obtain ⟨aD, cD, rfl⟩ := hD
  have hsh := sh_shape_no m.kind hk
  obtain ⟨k, fl, cr, ch, nm, st, dg⟩ := m
  simp only at hsh
  clear hf hW hk
  unfold msgV'
  simp only
  generalize dg.length = LD
  go_enter Tryz.func9, Tryz.ntmps9
  go_wp2_with fail
  refine (hsh _).mono ?_
  rintro e w1 ⟨rfl, hb1⟩
  have B1 : Below w.heap.size w w1 := ((Below.refl _ _).alloc (Nat.le_refl _) _).trans (hb1.mono (by simp))
  have HB1 : Hid (Below w.heap.size w w1) := B1
  clear hb1 hsh B1
  go_wp2_with fail
  refine (sh_refuse _ _ _).mono ?_
  rintro e w2 ⟨v, rfl, hf2, hb2⟩
  have HF : Hid (FaultC w.heap.size w2 v (sh 0 1) ∧ Below w.heap.size w w2) := ⟨hf2.mono (by have := HB1.out.size; simp; omega), (HB1.out.alloc HB1.out.size _).trans (hb2.mono (by have := HB1.out.size; simp; omega))⟩
  obtain ⟨pb, _, rfl, _⟩ := hf2
  clear hb2
  go_wp2
  go_ret2
  exact ⟨_, _, rfl, .inl ⟨rfl, rfl⟩, HF.out.1, HF.out.2, fun _ h => h.elim⟩
set_option maxRecDepth 100000 in
set_option maxHeartbeats 6400000 in
theorem sh_write_any (m : Msg) (hm : m.Ok) (hk : 1 ≤ m.kind ∧ m.kind ≤ 5) (hns : m.name.size ≤ 4611686018427387904) {w : World} {D : Value} (hD : Sl w D m.digest) (her : Er w) : Calls Tryz.prog 9 #[msgV' m D] w (WriteTold m w) := by
  obtain ⟨aD, cD, rfl, _, _⟩ := hD.form
  have HS : Hid (∀ W : World, Calls Tryz.prog 27 #[.int .i64 m.kind] W fun e w' => ∃ V, e = .returned (.tuple #[.agg #[.int .u8 (letterOf m.kind), V], .bool true]) ∧ Fl w' W.heap.size V (fieldsOf m.kind) ∧ Below W.heap.size W w') := sh_shape m.kind hk
  have HFT : Hid (∀ (W : World) (B : Nat) (V : Value), Fl W B V (fieldsOf m.kind) → Calls Tryz.prog 28 #[.agg #[.int .u8 (letterOf m.kind), V], msgV' m (.slice aD m.digest.length cD)] W fun e w' => e = .returned (.bool (decide (fits m))) ∧ Below W.heap.size W w') := fun W B V h => by rw [← good_fits m hk]; exact sh_fits ⟨_, rfl⟩ h (fields_few _) m aD cD
  have HH : Hid (∀ (W : World) (B : Nat) (V : Value), Fl W B V (fieldsOf m.kind) → Calls Tryz.prog 30 #[.agg #[.int .u8 (letterOf m.kind), V], .int .i64 3] W fun e w' => e = .returned (.bool (decide (m.kind = 1 ∨ m.kind = 3))) ∧ Below W.heap.size W w') := fun W B V h => by rw [← has_name m.kind hk]; exact sh_has ⟨_, rfl⟩ h (fields_few _) 3
  have HA : Hid (fits m → ((m.kind = 1 ∨ m.kind = 3) → nodeOk m.name = true) → writeOf m = letterOf m.kind :: (fieldsOf m.kind).flatMap (fun f => fieldBytes f m) ∧ writeErr m = []) := fun hf hn => by
    rw [writeOf_ok hf hn, wrote_all m hk]
    unfold writeErr
    rw [if_neg (by simpa using hf), if_neg (fun h => by rw [hn h.1] at h; exact absurd h.2 (by decide))]
    exact ⟨rfl, rfl⟩
  have HDL : Hid (m.digest ≠ [] → ∀ k, blk (.slice aD m.digest.length cD) k → k < w.heap.size) := hD.lt
  have HD : Hid (Sl w (.slice aD m.digest.length cD) m.digest) := hD
  have HE : Hid (Er w) := her
  have HMO : Hid m.Ok := hm
  have HFR : Hid (∀ f ∈ fieldsOf m.kind, 0 ≤ f ∧ f ≤ 5) := fields_rng m.kind
  have HFF : Hid ((fieldsOf m.kind).length ≤ 6) := fields_few m.kind
  clear hD her hm hk
  unfold WriteTold
  generalize fieldsOf m.kind = fs at HS HFT HH HA HFR HFF
  generalize letterOf m.kind = let_ at HS HFT HH HA
  have hmv : msgV' m (.slice aD m.digest.length cD) = .agg #[.int .i64 m.kind, .int .u64 m.flags, .int .u32 m.creation, .int .u32 m.challenge, .string m.name, .string m.status, .slice aD m.digest.length cD] := rfl
  rw [hmv] at HFT ⊢
  clear hmv
  go_enter Tryz.func9, Tryz.ntmps9
  go_wp2_with fail
  refine (HS.out _).mono ?_
  rintro e w1 ⟨V, rfl, hV, hb1⟩
  have M1 : MsgAt w1 w.heap.size m (.slice aD m.digest.length cD) := (MsgAt.ofNew w m _ _).below hb1
  have B1 : Below w.heap.size w w1 := ((Below.refl _ _).alloc (Nat.le_refl _) _).trans (hb1.mono (by simp))
  have hz := M1.lt
  obtain ⟨g, hg1, hg2, rfl, hgc⟩ := hV
  simp at hg1
  have hV : Fl w1 (w.heap.size + 1) (.slice (some ⟨g, 0, none⟩) fs.length fs.length) fs := ⟨g, hg1, hg2, rfl, hgc⟩
  have H1 : Hid (MsgAt w1 w.heap.size m (.slice aD m.digest.length cD) ∧ Below w.heap.size w w1 ∧ Fl w1 (w.heap.size + 1) (.slice (some ⟨g, 0, none⟩) fs.length fs.length) fs) := ⟨M1, B1, hV⟩
  obtain ⟨m0, m1, m2, m3, m4, m5, m6⟩ := M1
  have hft := HFT.out (w1.alloc (.cells #[.int .u8 let_, .slice (some ⟨g, 0, none⟩) fs.length fs.length] 85)) _ _ (hV.below ((Below.refl _ _).alloc (Nat.le_refl _) _))
  clear hb1 B1 hV hgc
  by_cases hfit : fits m
  case neg =>
    have HW : Hid (writeOf m = [] ∧ writeErr m = sh 0 1) := by unfold writeOf writeErr; rw [if_pos hfit, if_pos hfit]; exact ⟨rfl, rfl⟩
    rw [decide_eq_false hfit] at hft
    clear hfit
    go_wp2_with fail
    refine hft.mono ?_
    rintro e w2 ⟨rfl, hb2⟩
    have B2 : Below w.heap.size w w2 := (H1.out.2.1.alloc (by omega) _).trans (hb2.mono (by simp; omega))
    have HB2 : Hid (Below w.heap.size w w2) := B2
    clear hb2 hft B2 m0 m1 m2 m3 m4 m5 m6
    go_wp2_with fail
    refine (sh_refuse _ _ _).mono ?_
    rintro e w3 ⟨v, rfl, hf3, hb3⟩
    have HF : Hid (FaultC w.heap.size w3 v (sh 0 1) ∧ Below w.heap.size w w3) := ⟨hf3.mono HB2.out.size, HB2.out.trans (hb3.mono HB2.out.size)⟩
    obtain ⟨pb, _, rfl, _⟩ := hf3
    clear hb3
    go_wp2
    go_ret2
    exact ⟨_, _, rfl, by rw [HW.out.1]; exact .inl ⟨rfl, rfl⟩, by rw [HW.out.2]; exact HF.out.1, HF.out.2, fun _ h => h.elim⟩
  case pos =>
    have HFI : Hid (fits m) := hfit
    rw [decide_eq_true hfit] at hft
    clear hfit
    go_wp2_with fail
    refine hft.mono ?_
    rintro e w2 ⟨rfl, hb2⟩
    have A2 := (Below.refl w1.heap.size w1).alloc (Nat.le_refl _) (.cells #[.int .u8 let_, .slice (some ⟨g, 0, none⟩) fs.length fs.length] 85)
    have H2 : Hid (MsgAt w2 w.heap.size m (.slice aD m.digest.length cD) ∧ Below w.heap.size w w2 ∧ Fl w2 (w.heap.size + 1) (.slice (some ⟨g, 0, none⟩) fs.length fs.length) fs ∧ ShapeAt w2 w1.heap.size (.int .u8 let_) (.slice (some ⟨g, 0, none⟩) fs.length fs.length) ∧ w1.heap.size < w2.heap.size) := ⟨(H1.out.1.below A2).below hb2, (H1.out.2.1.trans (A2.mono (by omega))).trans (hb2.mono (by simp; omega)), (H1.out.2.2.below A2).below hb2, (ShapeAt.ofNew w1 _ _ _).below hb2, by have := hb2.size; simp at this; omega⟩
    have hh := HH.out w2 _ _ H2.out.2.2.1
    obtain ⟨s0, s1⟩ := H2.out.2.2.2.1
    clear hb2 hft A2 m0 m1 m2 m3 m4 m5 m6
    by_cases hnm : m.kind = 1 ∨ m.kind = 3
    case pos =>
      rw [decide_eq_true hnm] at hh
      have HNM : Hid (m.kind = 1 ∨ m.kind = 3) := hnm
      clear hnm
      go_wp2_with fail
      refine hh.mono ?_
      rintro e w3 ⟨rfl, hb3⟩
      have H3 : Hid (MsgAt w3 w.heap.size m (.slice aD m.digest.length cD) ∧ Below w.heap.size w w3 ∧ Fl w3 (w.heap.size + 1) (.slice (some ⟨g, 0, none⟩) fs.length fs.length) fs ∧ ShapeAt w3 w1.heap.size (.int .u8 let_) (.slice (some ⟨g, 0, none⟩) fs.length fs.length)) := ⟨H2.out.1.below hb3, H2.out.2.1.trans (hb3.mono H2.out.2.1.size), H2.out.2.2.1.below hb3, H2.out.2.2.2.1.below hb3⟩
      have hnme := sh_name 0 m.name hns w3 (HE.out.below H3.out.2.1)
      have m4 := H3.out.1.c4
      clear hb3 hh s0 s1
      cases hok : nodeOk m.name with
      | false =>
        have hw1 : writeOf m = [] := by unfold writeOf; rw [if_neg (by simpa using HFI.out), if_pos ⟨HNM.out, hok⟩]
        have hw2 : writeErr m = shName 0 := by unfold writeErr; rw [if_neg (by simpa using HFI.out), if_pos ⟨HNM.out, hok⟩]
        have HW : Hid (writeOf m = [] ∧ writeErr m = shName 0) := ⟨hw1, hw2⟩
        clear hw1 hw2
        rw [hok] at hnme
        clear hok
        go_wp2_with fail
        refine hnme.mono ?_
        rintro e w4 ⟨v, rfl, hf4, hb4⟩
        have hf4 : FaultC w3.heap.size w4 v (shName 0) := hf4
        have HF : Hid (FaultC w.heap.size w4 v (shName 0) ∧ Below w.heap.size w w4) := ⟨hf4.mono H3.out.2.1.size, H3.out.2.1.trans (hb4.mono H3.out.2.1.size)⟩
        obtain ⟨pb, qb, _, _, rfl, _⟩ := hf4
        clear hb4 m4 hnme
        go_wp2
        go_ret2
        exact ⟨_, _, rfl, by rw [HW.out.1]; exact .inl ⟨rfl, rfl⟩, by rw [HW.out.2]; exact HF.out.1, HF.out.2, fun _ h => h.elim⟩
      | true =>
        have HW := Hid.mk7 (HA.out HFI.out (fun _ => hok))
        have HSM := Hid.mk7 (fits_small HFI.out (fun _ => hok))
        rw [hok] at hnme
        clear hok
        go_wp2_with fail
        refine hnme.mono ?_
        rintro e wL ⟨v, rfl, hf4, hb4⟩
        have hf4 : v = .nilIface := hf4
        subst hf4
        have HL : Hid (MsgAt wL w.heap.size m (.slice aD m.digest.length cD) ∧ Below w.heap.size w wL ∧ Fl wL (w.heap.size + 1) (.slice (some ⟨g, 0, none⟩) fs.length fs.length) fs ∧ ShapeAt wL w1.heap.size (.int .u8 let_) (.slice (some ⟨g, 0, none⟩) fs.length fs.length)) := ⟨H3.out.1.below hb4, H3.out.2.1.trans (hb4.mono H3.out.2.1.size), H3.out.2.2.1.below hb4, H3.out.2.2.2.below hb4⟩
        clear hb4 m4 hnme H3 HNM
        obtain ⟨s0, s1⟩ := HL.out.2.2.2
        obtain ⟨g', hg3, hg4, hge, hgc⟩ := HL.out.2.2.1
        obtain rfl : g = g' := by injection hge with h1 h2 h3; injection h1 with h1; injection h1
        have HC0 : Hid (∀ j (h : j < fs.length), wL.cell? ⟨g, j, none⟩ = some (.int .i64 fs[j])) := hgc
        have hzL := HL.out.1.lt
        have hff := HFF.out
        have hzS := HL.out.2.2.2.lt
        clear hge hgc
        go_wp2_with fail
        go_loopw [7, 39] (fun bb ii wr => ∃ (j : Nat) (zs : List Int), j ≤ fs.length ∧ ii = .int .i64 j ∧ zs = let_ :: (fs.take j).flatMap (fun f => fieldBytes f m) ∧ zs.length ≤ 1 + 140 * j ∧ Own wr bb zs ∧ MsgAt wr w.heap.size m (.slice aD m.digest.length cD) ∧ (∀ j (h : j < fs.length), wr.cell? ⟨g, j, none⟩ = some (.int .i64 fs[j])) ∧ Sl wr (.slice aD m.digest.length cD) m.digest ∧ Below w.heap.size w wr ∧ (∀ k, blk bb k → wL.heap.size ≤ k) ∧ wL.heap.size ≤ wr.heap.size) (fun _ ii _ => fs.length - (intOf ii).toNat)
        case atStart =>
          have A := (Below.refl wL.heap.size wL).alloc (Nat.le_refl _) (.cells #[.int .u8 let_] 5)
          exact ⟨0, [let_], Nat.zero_le _, rfl, rfl, by simp, Sl.one wL _ let_, HL.out.1.below A, fun j hj => (A.cell (p := ⟨g, j, none⟩) hg4).trans (HC0.out j hj), HD.out.turned (Turned.ofBelow (S := fun _ => False) (HL.out.2.1.trans (A.mono HL.out.2.1.size))) (fun _ _ h => h), HL.out.2.1.trans (A.mono HL.out.2.1.size), fun k hk => Nat.le_of_eq hk, A.size⟩
        case round =>
          obtain ⟨j, zs, hj, rfl, hzs, hzl, ho, hM, hC, hDr, hB, hbb, hLr⟩ := hrel
          obtain ⟨ao, co, Lo, rfl⟩ : ∃ a c L, u7 = .slice a L c := ⟨_, _, _, ho.sl.form.choose_spec.choose_spec.1⟩
          by_cases hlt : j < fs.length
          · have hlti : (j : Int) < (fs.length : Int) := by omega
            have hx := hC j hlt
            have hfr := HFR.out fs[j] (List.getElem_mem hlt)
            have HT : Hid (fs.take (j + 1) = fs.take j ++ [fs[j]]) := List.take_succ_eq_append_getElem hlt
            have hwr := sh_write fs[j] hfr m HMO.out (by have := HSM.out.1; omega) (by have := HSM.out.2.1; omega) (by have := HSM.out.2.2; omega) (by have := HFF.out; omega) ho hDr
            have HFL : Hid ((fieldBytes fs[j] m).length ≤ 140) := field_few HSM.out.1 HSM.out.2.1 HSM.out.2.2 _
            have hmv : msgV' m (.slice aD m.digest.length cD) = .agg #[.int .i64 m.kind, .int .u64 m.flags, .int .u32 m.creation, .int .u32 m.challenge, .string m.name, .string m.status, .slice aD m.digest.length cD] := rfl
            rw [hmv] at hwr
            clear hmv
            generalize fs[j] = f at hx hfr HT hwr HFL
            have HR : Hid (zs = let_ :: (fs.take j).flatMap (fun f => fieldBytes f m) ∧ MsgAt wr w.heap.size m (.slice aD m.digest.length cD) ∧ (∀ j (h : j < fs.length), wr.cell? ⟨g, j, none⟩ = some (.int .i64 fs[j])) ∧ Sl wr (.slice aD m.digest.length cD) m.digest ∧ Below w.heap.size w wr ∧ (∀ k, blk (.slice ao Lo co) k → wL.heap.size ≤ k)) := ⟨hzs, hM, hC, hDr, hB, hbb⟩
            obtain ⟨m0, m1, m2, m3, m4, m5, m6⟩ := hM
            clear hzs hC hDr hB hbb ho hfr
            go_wp2_with fail
            refine hwr.mono ?_
            rintro e w5 ⟨V5, rfl, ho5, ht5, hb5⟩
            obtain ⟨q1, q2, q3, q4, q5, q6⟩ := HR.out
            have HN : Hid (∃ zs' : List Int, zs' = let_ :: (fs.take (j + 1)).flatMap (fun f => fieldBytes f m) ∧ zs'.length ≤ 1 + 140 * (j + 1) ∧ Own w5 V5 zs' ∧ MsgAt w5 w.heap.size m (.slice aD m.digest.length cD) ∧ (∀ j (h : j < fs.length), w5.cell? ⟨g, j, none⟩ = some (.int .i64 fs[j])) ∧ Sl w5 (.slice aD m.digest.length cD) m.digest ∧ Below w.heap.size w w5 ∧ (∀ k, blk V5 k → wL.heap.size ≤ k) ∧ wL.heap.size ≤ w5.heap.size) := by
              have hwl := HL.out.2.1.size
              have hwr5 := q5.size
              refine ⟨zs ++ fieldBytes f m, ?_, ?_, ho5, q2.turned ht5 (fun h => by have := q6 _ h; omega), fun j hj => ht5.cell (q3 j hj) (fun h => by have := q6 _ h; simp at this; omega), q4.turnedN ht5 (fun hne k hk hk2 => by have := HDL.out hne k hk; have := q6 k hk2; omega), q5.trans (ht5.below q5.size (fun k hk => by have := q6 k hk; omega)), fun k hk => (hb5 k hk).elim (q6 k) (fun h => Nat.le_trans hLr h), Nat.le_trans hLr ht5.size⟩
              · rw [q1, HT.out]; simp
              · rw [List.length_append]; have := HFL.out; omega
            clear q1 q2 q3 q4 q5 q6 ho5 ht5 hb5 HR HT HFL hwr m0 m1 m2 m3 m4 m5 m6
            go_wp2
            go_roundw
            case rel =>
              obtain ⟨zs', h1, h2, h3, h4⟩ := HN.out
              exact ⟨j + 1, zs', by omega, by go_num, h1, h2, h3, h4⟩
            case measure => simp [intOf]; omega
          · have hge : ¬ (j : Int) < (fs.length : Int) := by omega
            rw [List.take_of_length_le (by omega)] at hzs
            have HR : Hid (zs = let_ :: fs.flatMap (fun f => fieldBytes f m) ∧ Own wr (.slice ao Lo co) zs ∧ Below w.heap.size w wr ∧ (∀ k, blk (.slice ao Lo co) k → wL.heap.size ≤ k)) := ⟨hzs, ho, hB, hbb⟩
            clear hzs ho hM hC hDr hB hbb hzl
            go_wp2
            go_ret2
            obtain ⟨q1, q2, q3, q4⟩ := HR.out
            exact ⟨_, _, rfl, by rw [HW.out.1, ← q1]; exact q2, by rw [HW.out.2]; rfl, q3, fun k hk => Nat.le_trans HL.out.2.1.size (q4 k hk)⟩
    case neg =>
      rw [decide_eq_false hnm] at hh
      have HW := Hid.mk7 (HA.out HFI.out (fun h => absurd h hnm))
      have HSM := Hid.mk7 (fits_small HFI.out (fun h => absurd h hnm))
      clear hnm
      go_wp2_with fail
      refine hh.mono ?_
      rintro e wL ⟨rfl, hb3⟩
      have HL : Hid (MsgAt wL w.heap.size m (.slice aD m.digest.length cD) ∧ Below w.heap.size w wL ∧ Fl wL (w.heap.size + 1) (.slice (some ⟨g, 0, none⟩) fs.length fs.length) fs ∧ ShapeAt wL w1.heap.size (.int .u8 let_) (.slice (some ⟨g, 0, none⟩) fs.length fs.length)) := ⟨H2.out.1.below hb3, H2.out.2.1.trans (hb3.mono H2.out.2.1.size), H2.out.2.2.1.below hb3, H2.out.2.2.2.1.below hb3⟩
      clear hb3 hh s0 s1
      obtain ⟨s0, s1⟩ := HL.out.2.2.2
      obtain ⟨g', hg3, hg4, hge, hgc⟩ := HL.out.2.2.1
      obtain rfl : g = g' := by injection hge with h1 h2 h3; injection h1 with h1; injection h1
      have HC0 : Hid (∀ j (h : j < fs.length), wL.cell? ⟨g, j, none⟩ = some (.int .i64 fs[j])) := hgc
      have hzL := HL.out.1.lt
      have hff := HFF.out
      have hzS := HL.out.2.2.2.lt
      clear hge hgc
      go_wp2_with fail
      go_loopw [7, 39] (fun bb ii wr => ∃ (j : Nat) (zs : List Int), j ≤ fs.length ∧ ii = .int .i64 j ∧ zs = let_ :: (fs.take j).flatMap (fun f => fieldBytes f m) ∧ zs.length ≤ 1 + 140 * j ∧ Own wr bb zs ∧ MsgAt wr w.heap.size m (.slice aD m.digest.length cD) ∧ (∀ j (h : j < fs.length), wr.cell? ⟨g, j, none⟩ = some (.int .i64 fs[j])) ∧ Sl wr (.slice aD m.digest.length cD) m.digest ∧ Below w.heap.size w wr ∧ (∀ k, blk bb k → wL.heap.size ≤ k) ∧ wL.heap.size ≤ wr.heap.size) (fun _ ii _ => fs.length - (intOf ii).toNat)
      case atStart =>
        have A := (Below.refl wL.heap.size wL).alloc (Nat.le_refl _) (.cells #[.int .u8 let_] 5)
        exact ⟨0, [let_], Nat.zero_le _, rfl, rfl, by simp, Sl.one wL _ let_, HL.out.1.below A, fun j hj => (A.cell (p := ⟨g, j, none⟩) hg4).trans (HC0.out j hj), HD.out.turned (Turned.ofBelow (S := fun _ => False) (HL.out.2.1.trans (A.mono HL.out.2.1.size))) (fun _ _ h => h), HL.out.2.1.trans (A.mono HL.out.2.1.size), fun k hk => Nat.le_of_eq hk, A.size⟩
      case round =>
        obtain ⟨j, zs, hj, rfl, hzs, hzl, ho, hM, hC, hDr, hB, hbb, hLr⟩ := hrel
        obtain ⟨ao, co, Lo, rfl⟩ : ∃ a c L, u7 = .slice a L c := ⟨_, _, _, ho.sl.form.choose_spec.choose_spec.1⟩
        by_cases hlt : j < fs.length
        · have hlti : (j : Int) < (fs.length : Int) := by omega
          have hx := hC j hlt
          have hfr := HFR.out fs[j] (List.getElem_mem hlt)
          have HT : Hid (fs.take (j + 1) = fs.take j ++ [fs[j]]) := List.take_succ_eq_append_getElem hlt
          have hwr := sh_write fs[j] hfr m HMO.out (by have := HSM.out.1; omega) (by have := HSM.out.2.1; omega) (by have := HSM.out.2.2; omega) (by have := HFF.out; omega) ho hDr
          have HFL : Hid ((fieldBytes fs[j] m).length ≤ 140) := field_few HSM.out.1 HSM.out.2.1 HSM.out.2.2 _
          have hmv : msgV' m (.slice aD m.digest.length cD) = .agg #[.int .i64 m.kind, .int .u64 m.flags, .int .u32 m.creation, .int .u32 m.challenge, .string m.name, .string m.status, .slice aD m.digest.length cD] := rfl
          rw [hmv] at hwr
          clear hmv
          generalize fs[j] = f at hx hfr HT hwr HFL
          have HR : Hid (zs = let_ :: (fs.take j).flatMap (fun f => fieldBytes f m) ∧ MsgAt wr w.heap.size m (.slice aD m.digest.length cD) ∧ (∀ j (h : j < fs.length), wr.cell? ⟨g, j, none⟩ = some (.int .i64 fs[j])) ∧ Sl wr (.slice aD m.digest.length cD) m.digest ∧ Below w.heap.size w wr ∧ (∀ k, blk (.slice ao Lo co) k → wL.heap.size ≤ k)) := ⟨hzs, hM, hC, hDr, hB, hbb⟩
          obtain ⟨m0, m1, m2, m3, m4, m5, m6⟩ := hM
          clear hzs hC hDr hB hbb ho hfr
          go_wp2_with fail
          refine hwr.mono ?_
          rintro e w5 ⟨V5, rfl, ho5, ht5, hb5⟩
          obtain ⟨q1, q2, q3, q4, q5, q6⟩ := HR.out
          have HN : Hid (∃ zs' : List Int, zs' = let_ :: (fs.take (j + 1)).flatMap (fun f => fieldBytes f m) ∧ zs'.length ≤ 1 + 140 * (j + 1) ∧ Own w5 V5 zs' ∧ MsgAt w5 w.heap.size m (.slice aD m.digest.length cD) ∧ (∀ j (h : j < fs.length), w5.cell? ⟨g, j, none⟩ = some (.int .i64 fs[j])) ∧ Sl w5 (.slice aD m.digest.length cD) m.digest ∧ Below w.heap.size w w5 ∧ (∀ k, blk V5 k → wL.heap.size ≤ k) ∧ wL.heap.size ≤ w5.heap.size) := by
            have hwl := HL.out.2.1.size
            have hwr5 := q5.size
            refine ⟨zs ++ fieldBytes f m, ?_, ?_, ho5, q2.turned ht5 (fun h => by have := q6 _ h; omega), fun j hj => ht5.cell (q3 j hj) (fun h => by have := q6 _ h; simp at this; omega), q4.turnedN ht5 (fun hne k hk hk2 => by have := HDL.out hne k hk; have := q6 k hk2; omega), q5.trans (ht5.below q5.size (fun k hk => by have := q6 k hk; omega)), fun k hk => (hb5 k hk).elim (q6 k) (fun h => Nat.le_trans hLr h), Nat.le_trans hLr ht5.size⟩
            · rw [q1, HT.out]; simp
            · rw [List.length_append]; have := HFL.out; omega
          clear q1 q2 q3 q4 q5 q6 ho5 ht5 hb5 HR HT HFL hwr m0 m1 m2 m3 m4 m5 m6
          go_wp2
          go_roundw
          case rel =>
            obtain ⟨zs', h1, h2, h3, h4⟩ := HN.out
            exact ⟨j + 1, zs', by omega, by go_num, h1, h2, h3, h4⟩
          case measure => simp [intOf]; omega
        · have hge : ¬ (j : Int) < (fs.length : Int) := by omega
          rw [List.take_of_length_le (by omega)] at hzs
          have HR : Hid (zs = let_ :: fs.flatMap (fun f => fieldBytes f m) ∧ Own wr (.slice ao Lo co) zs ∧ Below w.heap.size w wr ∧ (∀ k, blk (.slice ao Lo co) k → wL.heap.size ≤ k)) := ⟨hzs, ho, hB, hbb⟩
          clear hzs ho hM hC hDr hB hbb hzl
          go_wp2
          go_ret2
          obtain ⟨q1, q2, q3, q4⟩ := HR.out
          exact ⟨_, _, rfl, by rw [HW.out.1, ← q1]; exact q2, by rw [HW.out.2]; rfl, q3, fun k hk => Nat.le_trans HL.out.2.1.size (q4 k hk)⟩
end Go.Proofs.YtmnibmgbicnamaaGreatDoor
