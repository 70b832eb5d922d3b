/-
  Layer 8 (shake): the program's Read.
-/
import Derived.Test.YtmnibmgbicnamaaGreatDoorShL
namespace Go.Proofs.YtmnibmgbicnamaaGreatDoor
open Go.RowKit

/-- What is told of Read. -/
def ReadTold (k : Int) (b : List Int) (w : World) (e : Ending) (w' : World) : Prop := ∃ D v, e = .returned (.tuple #[msgV' (readOf k b).2 D, v]) ∧ FaultC w.heap.size w' v (readOf k b).1 ∧ Sl w' D (readOf k b).2.digest ∧ (∀ q, blk D q → w.heap.size ≤ q) ∧ Below w.heap.size w w'
/-- A refusal and no message. -/
theorem read_told_no {k : Int} {b : List Int} {w : World} {ls : List Lnk} (h : readOf k b = (ls, .zero)) {W w2 w' : World} {v : Value} (hB : Below w.heap.size w W) (hz : w.heap.size < W.heap.size) (hf : FaultC W.heap.size w2 v ls) (hb : Below W.heap.size W w2) (ht : Turned (fun q => q = w.heap.size) w2 w') : ReadTold k b w (.returned (.tuple #[.agg #[.int .i64 0, .int .u64 0, .int .u32 0, .int .u32 0, .string ⟨#[]⟩, .string ⟨#[]⟩, .slice none 0 0], v])) w' := by
  unfold ReadTold
  rw [h]
  have h1 := hB.size
  have hb2 : Below w.heap.size w w2 := hB.trans (hb.mono h1)
  exact ⟨_, _, rfl, (hf.turned ht (fun q hq _ he => by have he : q = w.heap.size := he; omega)).mono h1, .inl ⟨rfl, rfl⟩, fun _ h => h.elim, hb2.trans (ht.below hb2.size (fun q he => Nat.le_of_eq he.symm))⟩
/-- What lies there while Read runs. -/
structure RB (w : World) (sb : Nat) (x : Int) (V B : Value) (fs b : List Int) (W : World) : Prop where
  z : MsgB W w.heap.size .zero (.slice none 0 0)
  bw : Below w.heap.size w W
  v : Fl W (w.heap.size + 1) V fs
  s : ShapeAt W sb (.int .u8 x) V
  b : Sl W B b
theorem RB.below {w : World} {sb : Nat} {x : Int} {V B : Value} {fs b : List Int} {W W' : World} (h : RB w sb x V B fs b W) (hb : Below W.heap.size W W') : RB w sb x V B fs b W' :=
  ⟨Block.turned h.z (Turned.ofBelow (S := fun _ => False) hb) (fun h => h), h.bw.trans (hb.mono h.bw.size), h.v.below hb, h.s.below hb, h.b.turned (Turned.ofBelow (S := fun _ => False) hb) (fun _ _ h => h)⟩
theorem sl_first {W : World} {a : Option Addr} {cap : Nat} {b : List Int} (h : Sl W (.slice a b.length cap) b) (h1 : 1 ≤ b.length) : ∃ gb off, a = some ⟨gb, off, none⟩ ∧ W.cell? ⟨gb, off, none⟩ = some (.int .u8 (b.getD 0 0)) := by
  rcases h with ⟨_, rfl⟩ | ⟨_, _, rfl⟩ | ⟨g, off, cap', h2, _, _, h4⟩
  · simp at h1
  · simp at h1
  · injection h2 with h2
    refine ⟨g, off, h2, ?_⟩
    have := h4 0 (by omega)
    rw [Nat.add_zero] at this
    rw [this]
    cases b with
    | nil => simp at h1
    | cons z r => rfl
theorem has_status (k : Int) (hk : 1 ≤ k ∧ k ≤ 5) : decide ((4 : Int) ∈ fieldsOf k) = decide (k = 2) := by
  have h5 : k = 1 ∨ k = 2 ∨ k = 3 ∨ k = 4 ∨ k = 5 := by omega
  rcases h5 with rfl | rfl | rfl | rfl | rfl <;> decide
theorem readF_name (b : List Int) : ∀ (fs : List Int) (e : Nat) (m : Msg), (readF b fs e m).1.name.size ≤ max m.name.size b.length
  | [], e, m => by rw [readF]; exact Nat.le_max_left _ _
  | f :: r, e, m => by
    rw [readF]
    split
    · exact Nat.le_max_left _ _
    · refine Nat.le_trans (readF_name b r _ _) ?_
      have : (setField f m ((b.drop e).take (widthOf f (b.drop e)))).name.size ≤ max m.name.size b.length := by
        unfold setField
        repeat' split
        all_goals first
          | exact Nat.le_max_left _ _
          | (simp only [strOf_size, List.length_drop, List.length_take]; omega)
      omega
/-- .. and the message that was found. -/
structure RC (w : World) (sb : Nat) (x : Int) (V B : Value) (fs b : List Int) (mb : Nat) (m : Msg) (D : Value) (W : World) : Prop where
  rb : RB w sb x V B fs b W
  ms : MsgB W mb m D
  d : Sl W D m.digest
theorem RC.below {w : World} {sb : Nat} {x : Int} {V B : Value} {fs b : List Int} {mb : Nat} {m : Msg} {D : Value} {W W' : World} (h : RC w sb x V B fs b mb m D W) (hb : Below W.heap.size W W') : RC w sb x V B fs b mb m D W' :=
  ⟨h.rb.below hb, Block.turned h.ms (Turned.ofBelow (S := fun _ => False) hb) (fun h => h), h.d.turned (Turned.ofBelow (S := fun _ => False) hb) (fun _ _ h => h)⟩
set_option maxRecDepth 100000 in
set_option maxHeartbeats 12800000 in
theorem sh_read_any (k : Int) (hk : 1 ≤ k ∧ k ≤ 5) {w : World} {B : Value} {b : List Int} (hB : Sl w B b) (hr : ∀ z ∈ b, 0 ≤ z ∧ z < 256) (hl : b.length ≤ 140737488355328) (her : Er w) : Calls Tryz.prog 13 #[.int .i64 k, B] w (ReadTold k b w) := by
  obtain ⟨a, cap, rfl, hcap, hmax⟩ := hB.form
  have HT : Hid (∀ ls, readOf k b = (ls, .zero) → ∀ (W w2 w' : World) (v : Value), Below w.heap.size w W → w.heap.size < W.heap.size → FaultC W.heap.size w2 v ls → Below W.heap.size W w2 → Turned (fun q => q = w.heap.size) w2 w' → ReadTold k b w (.returned (.tuple #[.agg #[.int .i64 0, .int .u64 0, .int .u32 0, .int .u32 0, .string ⟨#[]⟩, .string ⟨#[]⟩, .slice none 0 0], v])) w') := fun _ h _ _ _ _ h1 h2 h3 h4 h5 => read_told_no h h1 h2 h3 h4 h5
  have HS : Hid (∀ W : World, Calls Tryz.prog 27 #[.int .i64 k] W fun e w' => ∃ V, e = .returned (.tuple #[.agg #[.int .u8 (letterOf k), V], .bool true]) ∧ Fl w' W.heap.size V (fieldsOf k) ∧ Below W.heap.size W w') := sh_shape k hk
  have HK : Hid (1 ≤ k ∧ k ≤ 5) := hk
  have HB : Hid (Sl w (.slice a b.length cap) b) := hB
  have HE : Hid (Er w) := her
  have HRG : Hid (∀ z ∈ b, 0 ≤ z ∧ z < 256) := hr
  have HT2 : Hid (∀ (D v : Value) (w' : World), (readOf k b).1 = [] → Sl w' D (readOf k b).2.digest → (∀ q, blk D q → w.heap.size ≤ q) → Below w.heap.size w w' → ReadTold k b w (.returned (.tuple #[msgV' (readOf k b).2 D, .nilIface])) w') := fun D v w' h1 h2 h3 h4 => ⟨D, _, rfl, by rw [h1]; rfl, h2, h3, h4⟩
  have HLE : Hid (b.length = 0 ∨ b.getD 0 0 ≠ letterOf k → readOf k b = (sh 0 160, .zero)) := fun h => by unfold readOf; rw [if_neg (by omega), if_pos h]
  have HRS : Hid (1 ≤ b.length → b.getD 0 0 = letterOf k → readOf k b = readG k b) := fun h1 h2 => (read_same k hk b hr h1 h2).symm
  generalize hTd : ReadTold k b w = T at HT HT2 ⊢
  clear hTd hB her hr hk
  go_enter Tryz.func13, Tryz.ntmps13
  go_wp2_with fail
  refine (HS.out _).mono ?_
  rintro e w1 ⟨V, rfl, hV, hb1⟩
  have B1 : Below w.heap.size w w1 := ((Below.refl _ _).alloc (Nat.le_refl _) _).trans (hb1.mono (by simp))
  have Z1 := Block.turned (MsgB.ofNew w .zero (.slice none 0 0) 27) (Turned.ofBelow (S := fun _ => False) hb1) (fun h => h)
  have A1 := (Below.refl w1.heap.size w1).alloc (Nat.le_refl _) (.cells #[.int .u8 (letterOf k), V] 85)
  simp only [World.size_alloc] at hV
  have HRB1 : Hid (RB w w1.heap.size (letterOf k) V (.slice a b.length cap) (fieldsOf k) b (w1.alloc (.cells #[.int .u8 (letterOf k), V] 85))) := ⟨Block.turned Z1 (Turned.ofBelow (S := fun _ => False) A1) (fun h => h), B1.trans (A1.mono B1.size), hV.below A1, ShapeAt.ofNew w1 _ _ _, HB.out.turned (Turned.ofBelow (S := fun _ => False) (B1.trans (A1.mono B1.size))) (fun _ _ h => h)⟩
  obtain ⟨g, hg1, hg2, rfl, hgc⟩ := hV
  clear hb1 B1 Z1 A1 hgc
  by_cases hb0 : b.length = 0
  case pos =>
    have HR : Hid (readOf k b = (sh 0 160, .zero)) := HLE.out (.inl hb0)
    have hb0i : (b.length : Int) = 0 := by omega
    go_wp2_with fail
    go_quiet (fail)
    go_wp2_with fail
    have HRB := Hid.mk7 (HRB1.out.below (drewN_below _ nq))
    refine (sh_refuse _ _ _).mono ?_
    rintro e w8 ⟨v, rfl, hf8, hb8⟩
    have Z8 := (HRB.out.below hb8).z
    obtain ⟨z0, y0⟩ := Z8 0 (by omega)
    obtain ⟨z1, y1⟩ := Z8 1 (by omega)
    obtain ⟨z2, y2⟩ := Z8 2 (by omega)
    obtain ⟨z3, y3⟩ := Z8 3 (by omega)
    obtain ⟨z4, y4⟩ := Z8 4 (by omega)
    obtain ⟨z5, y5⟩ := Z8 5 (by omega)
    obtain ⟨z6, y6⟩ := Z8 6 (by omega)
    simp only [msgCell, Msg.zero] at z0 z1 z2 z3 z4 z5 z6
    have HF8 : Hid (FaultC _ w8 v (sh 0 160) ∧ Below _ _ w8) := ⟨hf8, hb8⟩
    obtain ⟨pb, _, rfl, _⟩ := hf8
    clear hb8 Z8
    go_wp2
    refine bodyPost_ret (v := .tuple #[.agg #[.int .i64 0, .int .u64 0, .int .u32 0, .int .u32 0, .string ⟨#[]⟩, .string ⟨#[]⟩, .slice none 0 0], .iface 131 (.pointer (some ⟨pb, 0, none⟩))]) (by simp [results, Tryz.results13, go_sem, z0, z1, z2, z3, z4, z5, z6]) rfl ?_
    exact HT.out _ HR.out _ _ _ _ HRB.out.bw HRB.out.z.at_.lt HF8.out.1 HF8.out.2 (turned7 _ _ _ _ _ _ _ _ _)
  case neg =>
    have hb1 : 1 ≤ b.length := by omega
    have hb0i : ¬ (b.length : Int) = 0 := by omega
    have hq0 : ((b.length : Int) == 0) = false := by simpa using hb0
    obtain ⟨gb, off, rfl, hx0⟩ := sl_first HRB1.out.b hb1
    by_cases hlet : b.getD 0 0 = letterOf k
    case neg =>
      have HR : Hid (readOf k b = (sh 0 160, .zero)) := HLE.out (.inr hlet)
      generalize b.getD 0 0 = x0 at hx0 hlet
      have hql : (x0 == letterOf k) = false := by simpa using hlet
      go_wp2_with fail
      go_quiet (fail)
      go_wp2_with fail
      have HRB := Hid.mk7 (HRB1.out.below (drewN_below _ nq))
      refine (sh_refuse _ _ _).mono ?_
      rintro e w8 ⟨v, rfl, hf8, hb8⟩
      have Z8 := (HRB.out.below hb8).z
      obtain ⟨z0, y0⟩ := Z8 0 (by omega)
      obtain ⟨z1, y1⟩ := Z8 1 (by omega)
      obtain ⟨z2, y2⟩ := Z8 2 (by omega)
      obtain ⟨z3, y3⟩ := Z8 3 (by omega)
      obtain ⟨z4, y4⟩ := Z8 4 (by omega)
      obtain ⟨z5, y5⟩ := Z8 5 (by omega)
      obtain ⟨z6, y6⟩ := Z8 6 (by omega)
      simp only [msgCell, Msg.zero] at z0 z1 z2 z3 z4 z5 z6
      have HF8 : Hid (FaultC _ w8 v (sh 0 160) ∧ Below _ _ w8) := ⟨hf8, hb8⟩
      obtain ⟨pb, _, rfl, _⟩ := hf8
      clear hb8 Z8
      go_wp2
      refine bodyPost_ret (v := .tuple #[.agg #[.int .i64 0, .int .u64 0, .int .u32 0, .int .u32 0, .string ⟨#[]⟩, .string ⟨#[]⟩, .slice none 0 0], .iface 131 (.pointer (some ⟨pb, 0, none⟩))]) (by simp [results, Tryz.results13, go_sem, z0, z1, z2, z3, z4, z5, z6]) rfl ?_
      exact HT.out _ HR.out _ _ _ _ HRB.out.bw HRB.out.z.at_.lt HF8.out.1 HF8.out.2 (turned7 _ _ _ _ _ _ _ _ _)
    case pos =>
      have hRS := HRS.out hb1 hlet
      rw [hlet] at hx0
      clear hlet
      go_wp2_with fail
      go_quiet (fail)
      go_wp2_with fail
      have HRB := Hid.mk7 (HRB1.out.below (drewN_below _ nq))
      obtain ⟨m, e, hRF⟩ : ∃ m e, readF b (fieldsOf k) 1 .zero = (m, e) := ⟨_, _, rfl⟩
      have hrd := sh_sread (.int .u8 (letterOf k)) ⟨_, rfl⟩ HRB.out.v (fields_few k) (fields_rng k) HRB.out.b HRG.out hb1 hl
      rw [hRF] at hrd
      rw [readG_of hRF] at hRS
      have HRS2 := Hid.mk7 hRS
      have hns : m.name.size ≤ 4611686018427387904 := by
        have h1 := readF_name b (fieldsOf k) 1 .zero
        rw [hRF] at h1
        have e0 : Msg.zero.name.size = 0 := rfl
        rw [e0] at h1
        simp only at h1
        omega
      have HNS : Hid (m.name.size ≤ 4611686018427387904) := hns
      clear hns
      clear hRS hRF hx0
      refine hrd.mono ?_
      rintro ev w2 ⟨D, rfl, hD, hDk, hb2⟩
      have HRB2 := Hid.mk7 (HRB.out.below hb2)
      have A2 := (Below.refl w2.heap.size w2).alloc (Nat.le_refl _) (.cells #[.int .i64 m.kind, .int .u64 m.flags, .int .u32 m.creation, .int .u32 m.challenge, .string m.name, .string m.status, D] 27)
      have HRC : Hid (RC w w1.heap.size (letterOf k) (.slice (some ⟨g, 0, none⟩) (fieldsOf k).length (fieldsOf k).length) (.slice (some ⟨gb, off, none⟩) b.length cap) (fieldsOf k) b w2.heap.size m D (w2.alloc (.cells #[.int .i64 m.kind, .int .u64 m.flags, .int .u32 m.creation, .int .u32 m.challenge, .string m.name, .string m.status, D] 27))) := ⟨HRB2.out.below A2, MsgB.ofNew w2 m D _, hD.turned (Turned.ofBelow (S := fun _ => False) A2) (fun _ _ h => h)⟩
      have HDK : Hid ((∀ q, blk D q → w.heap.size < q) ∧ (m.digest ≠ [] → ∀ q, blk D q → q < w2.heap.size) ∧ w.heap.size < w2.heap.size) := ⟨fun q hq => by have := hDk q hq; have := HRB.out.z.at_.lt; omega, hD.lt, HRB2.out.z.at_.lt⟩
      obtain ⟨aD, cD, LD, rfl⟩ : ∃ a c L, D = .slice a L c := ⟨_, _, _, hD.form.choose_spec.choose_spec.1⟩
      unfold msgV'
      clear hD hDk hb2 A2 hrd
      by_cases hlong : b.length < e
      case pos =>
        have HR : Hid (readOf k b = (sh b.length 160, .zero)) := HRS2.out.trans (if_pos hlong)
        have hli : (b.length : Int) < (e : Int) := by omega
        have HRB := Hid.mk7 HRC.out.rb
        go_wp2_with fail
        refine (sh_refuse _ _ _).mono ?_
        rintro e w8 ⟨v, rfl, hf8, hb8⟩
        have Z8 := (HRB.out.below hb8).z
        obtain ⟨z0, y0⟩ := Z8 0 (by omega)
        obtain ⟨z1, y1⟩ := Z8 1 (by omega)
        obtain ⟨z2, y2⟩ := Z8 2 (by omega)
        obtain ⟨z3, y3⟩ := Z8 3 (by omega)
        obtain ⟨z4, y4⟩ := Z8 4 (by omega)
        obtain ⟨z5, y5⟩ := Z8 5 (by omega)
        obtain ⟨z6, y6⟩ := Z8 6 (by omega)
        simp only [msgCell, Msg.zero] at z0 z1 z2 z3 z4 z5 z6
        have HF8 : Hid (FaultC _ w8 v (sh b.length 160) ∧ Below _ _ w8) := ⟨hf8, hb8⟩
        obtain ⟨pb, _, rfl, _⟩ := hf8
        clear hb8 Z8
        go_wp2
        refine bodyPost_ret (v := .tuple #[.agg #[.int .i64 0, .int .u64 0, .int .u32 0, .int .u32 0, .string ⟨#[]⟩, .string ⟨#[]⟩, .slice none 0 0], .iface 131 (.pointer (some ⟨pb, 0, none⟩))]) (by simp [results, Tryz.results13, go_sem, z0, z1, z2, z3, z4, z5, z6]) rfl ?_
        exact HT.out _ HR.out _ _ _ _ HRB.out.bw HRB.out.z.at_.lt HF8.out.1 HF8.out.2 (turned7 _ _ _ _ _ _ _ _ _)
      case neg =>
        have hli : ¬ (b.length : Int) < (e : Int) := by omega
        have hRS3 := HRS2.out.trans (if_neg hlong)
        by_cases hshort : e < b.length
        case pos =>
          have HR : Hid (readOf k b = (sh e 160, .zero)) := hRS3.trans (if_pos hshort)
          have hsi : (e : Int) < (b.length : Int) := by omega
          have HRB := Hid.mk7 HRC.out.rb
          clear hRS3
          go_wp2_with fail
          refine (sh_refuse _ _ _).mono ?_
          rintro e w8 ⟨v, rfl, hf8, hb8⟩
          have Z8 := (HRB.out.below hb8).z
          obtain ⟨z0, y0⟩ := Z8 0 (by omega)
          obtain ⟨z1, y1⟩ := Z8 1 (by omega)
          obtain ⟨z2, y2⟩ := Z8 2 (by omega)
          obtain ⟨z3, y3⟩ := Z8 3 (by omega)
          obtain ⟨z4, y4⟩ := Z8 4 (by omega)
          obtain ⟨z5, y5⟩ := Z8 5 (by omega)
          obtain ⟨z6, y6⟩ := Z8 6 (by omega)
          simp only [msgCell, Msg.zero] at z0 z1 z2 z3 z4 z5 z6
          have HF8 : Hid (FaultC _ w8 v (sh e 160) ∧ Below _ _ w8) := ⟨hf8, hb8⟩
          obtain ⟨pb, _, rfl, _⟩ := hf8
          clear hb8 Z8
          go_wp2
          refine bodyPost_ret (v := .tuple #[.agg #[.int .i64 0, .int .u64 0, .int .u32 0, .int .u32 0, .string ⟨#[]⟩, .string ⟨#[]⟩, .slice none 0 0], .iface 131 (.pointer (some ⟨pb, 0, none⟩))]) (by simp [results, Tryz.results13, go_sem, z0, z1, z2, z3, z4, z5, z6]) rfl ?_
          exact HT.out _ HR.out _ _ _ _ HRB.out.bw HRB.out.z.at_.lt HF8.out.1 HF8.out.2 (turned7 _ _ _ _ _ _ _ _ _)
        case neg =>
          have hsi : ¬ (e : Int) < (b.length : Int) := by omega
          have HRS4 := Hid.mk7 (hRS3.trans (if_neg hshort))
          clear hRS3
          have hh4 := sh_has ⟨letterOf k, rfl⟩ HRC.out.rb.v (fields_few k) 4
          rw [has_status k HK.out] at hh4
          by_cases hk2 : k = 2
          case pos =>
            rw [decide_eq_true hk2] at hh4
            have HK2 : Hid (k = 2) := hk2
            obtain ⟨s0, s1⟩ := HRC.out.rb.s
            clear hk2
            go_wp2_with fail
            refine hh4.mono ?_
            rintro ev w3 ⟨rfl, hb3⟩
            have HRC3 := Hid.mk7 (HRC.out.below hb3)
            have c5 := HRC3.out.ms.at_.c5
            have hst := sh_status m.status w3
            clear hb3 hh4 s0 s1
            cases hS : isSt m.status with
            | false =>
              have HR : Hid (readOf k b = (sh 1 160, .zero)) := HRS4.out.trans (if_pos ⟨HK2.out, hS⟩)
              rw [hS] at hst
              have HRB := Hid.mk7 HRC3.out.rb
              clear hS
              go_wp2_with fail
              refine hst.mono ?_
              rintro ev w3' ⟨rfl, rfl⟩
              go_wp2_with fail
              refine (sh_refuse _ _ _).mono ?_
              rintro e w8 ⟨v, rfl, hf8, hb8⟩
              have Z8 := (HRB.out.below hb8).z
              obtain ⟨z0, y0⟩ := Z8 0 (by omega)
              obtain ⟨z1, y1⟩ := Z8 1 (by omega)
              obtain ⟨z2, y2⟩ := Z8 2 (by omega)
              obtain ⟨z3, y3⟩ := Z8 3 (by omega)
              obtain ⟨z4, y4⟩ := Z8 4 (by omega)
              obtain ⟨z5, y5⟩ := Z8 5 (by omega)
              obtain ⟨z6, y6⟩ := Z8 6 (by omega)
              simp only [msgCell, Msg.zero] at z0 z1 z2 z3 z4 z5 z6
              have HF8 : Hid (FaultC _ w8 v (sh 1 160) ∧ Below _ _ w8) := ⟨hf8, hb8⟩
              obtain ⟨pb, _, rfl, _⟩ := hf8
              clear hb8 Z8
              go_wp2
              refine bodyPost_ret (v := .tuple #[.agg #[.int .i64 0, .int .u64 0, .int .u32 0, .int .u32 0, .string ⟨#[]⟩, .string ⟨#[]⟩, .slice none 0 0], .iface 131 (.pointer (some ⟨pb, 0, none⟩))]) (by simp [results, Tryz.results13, go_sem, z0, z1, z2, z3, z4, z5, z6]) rfl ?_
              exact HT.out _ HR.out _ _ _ _ HRB.out.bw HRB.out.z.at_.lt HF8.out.1 HF8.out.2 (turned7 _ _ _ _ _ _ _ _ _)
            | true =>
              have HROK : Hid (readOf k b = ([], { m with kind := k })) := HRS4.out.trans ((if_neg (fun h => by rw [hS] at h; exact absurd h.2 (by decide))).trans (if_neg (fun h => by have := HK2.out; omega)))
              rw [hS] at hst
              have hh3 := sh_has ⟨letterOf k, rfl⟩ HRC3.out.rb.v (fields_few k) 3
              have hn3 : decide ((3 : Int) ∈ fieldsOf k) = false := by rw [has_name k HK.out]; exact decide_eq_false (by have := HK2.out; omega)
              rw [hn3] at hh3
              obtain ⟨s0, s1⟩ := HRC3.out.rb.s
              clear hS hn3
              go_wp2_with fail
              refine hst.mono ?_
              rintro ev w3' ⟨rfl, rfl⟩
              go_wp2_with fail
              refine hh3.mono ?_
              rintro ev wE ⟨rfl, hbE⟩
              have HRCE := Hid.mk7 (HRC3.out.below hbE)
              clear hbE hh3 s0 s1 c5 hst
              obtain ⟨z0, y0⟩ := HRCE.out.rb.z 0 (by omega)
              obtain ⟨z1, y1⟩ := HRCE.out.rb.z 1 (by omega)
              obtain ⟨z2, y2⟩ := HRCE.out.rb.z 2 (by omega)
              obtain ⟨z3, y3⟩ := HRCE.out.rb.z 3 (by omega)
              obtain ⟨z4, y4⟩ := HRCE.out.rb.z 4 (by omega)
              obtain ⟨z5, y5⟩ := HRCE.out.rb.z 5 (by omega)
              obtain ⟨z6, y6⟩ := HRCE.out.rb.z 6 (by omega)
              simp only [msgCell, Msg.zero] at z0 z1 z2 z3 z4 z5 z6
              obtain ⟨m0, m1, m2, m3, m4, m5, m6⟩ := HRCE.out.ms.at_
              obtain ⟨_, n0⟩ := HRCE.out.ms 0 (by omega)
              have hwm : ¬ w.heap.size = w2.heap.size := by have := HDK.out.2.2; omega
              have hwm' : ¬ w2.heap.size = w.heap.size := by have := HDK.out.2.2; omega
              go_wp2
              have hT := (Turned.set1 wE w2.heap.size 0 (.int .i64 k)).mono (T := fun q => q = w2.heap.size ∨ q = w.heap.size) (fun _ h => .inl (.inl h))
              have hT2 := hT.trans (turned7 (wE.setCell ⟨w2.heap.size, 0, none⟩ (.int .i64 k)) w.heap.size (.int .i64 k) (.int .u64 m.flags) (.int .u32 m.creation) (.int .u32 m.challenge) (.string m.name) (.string m.status) (.slice aD LD cD)) (fun _ h => .inl (.inr h))
              have hDe := HRCE.out.d.turnedN hT2 (fun hne q hq he => by have h1 := HDK.out.1 q hq; have h2 := HDK.out.2.1 hne q hq; omega)
              have hBe := HRCE.out.rb.bw.trans (hT2.below HRCE.out.rb.bw.size (fun q he => by have := HDK.out.2.2; omega))
              have hfin := HT2.out (.slice aD LD cD) .nilIface _ (by rw [HROK.out]) (by rw [HROK.out]; exact hDe) (fun q hq => Nat.le_of_lt (HDK.out.1 q hq)) hBe
              rw [HROK.out] at hfin
              have HFIN := Hid.mk7 hfin
              refine bodyPost_ret (v := .tuple #[.agg #[.int .i64 k, .int .u64 m.flags, .int .u32 m.creation, .int .u32 m.challenge, .string m.name, .string m.status, .slice aD LD cD], .nilIface]) (by simp [results, Tryz.results13, go_sem, z0, z1, z2, z3, z4, z5, z6]) rfl ?_
              exact HFIN.out
          case neg =>
            rw [decide_eq_false hk2] at hh4
            have HRS5 := Hid.mk7 (HRS4.out.trans (if_neg (fun h => hk2 h.1)))
            obtain ⟨s0, s1⟩ := HRC.out.rb.s
            clear hk2
            go_wp2_with fail
            refine hh4.mono ?_
            rintro ev w3 ⟨rfl, hb3⟩
            have HRC3 := Hid.mk7 (HRC.out.below hb3)
            have hh3 := sh_has ⟨letterOf k, rfl⟩ HRC3.out.rb.v (fields_few k) 3
            rw [has_name k HK.out] at hh3
            clear hb3 hh4 s0 s1
            obtain ⟨s0, s1⟩ := HRC3.out.rb.s
            by_cases hnm : k = 1 ∨ k = 3
            case neg =>
              rw [decide_eq_false hnm] at hh3
              have HROK : Hid (readOf k b = ([], { m with kind := k })) := HRS5.out.trans (if_neg (fun h => hnm h.1))
              clear hnm
              go_wp2_with fail
              refine hh3.mono ?_
              rintro ev wE ⟨rfl, hbE⟩
              have HRCE := Hid.mk7 (HRC3.out.below hbE)
              clear hbE hh3 s0 s1
              obtain ⟨z0, y0⟩ := HRCE.out.rb.z 0 (by omega)
              obtain ⟨z1, y1⟩ := HRCE.out.rb.z 1 (by omega)
              obtain ⟨z2, y2⟩ := HRCE.out.rb.z 2 (by omega)
              obtain ⟨z3, y3⟩ := HRCE.out.rb.z 3 (by omega)
              obtain ⟨z4, y4⟩ := HRCE.out.rb.z 4 (by omega)
              obtain ⟨z5, y5⟩ := HRCE.out.rb.z 5 (by omega)
              obtain ⟨z6, y6⟩ := HRCE.out.rb.z 6 (by omega)
              simp only [msgCell, Msg.zero] at z0 z1 z2 z3 z4 z5 z6
              obtain ⟨m0, m1, m2, m3, m4, m5, m6⟩ := HRCE.out.ms.at_
              obtain ⟨_, n0⟩ := HRCE.out.ms 0 (by omega)
              have hwm : ¬ w.heap.size = w2.heap.size := by have := HDK.out.2.2; omega
              have hwm' : ¬ w2.heap.size = w.heap.size := by have := HDK.out.2.2; omega
              go_wp2
              have hT := (Turned.set1 wE w2.heap.size 0 (.int .i64 k)).mono (T := fun q => q = w2.heap.size ∨ q = w.heap.size) (fun _ h => .inl (.inl h))
              have hT2 := hT.trans (turned7 (wE.setCell ⟨w2.heap.size, 0, none⟩ (.int .i64 k)) w.heap.size (.int .i64 k) (.int .u64 m.flags) (.int .u32 m.creation) (.int .u32 m.challenge) (.string m.name) (.string m.status) (.slice aD LD cD)) (fun _ h => .inl (.inr h))
              have hDe := HRCE.out.d.turnedN hT2 (fun hne q hq he => by have h1 := HDK.out.1 q hq; have h2 := HDK.out.2.1 hne q hq; omega)
              have hBe := HRCE.out.rb.bw.trans (hT2.below HRCE.out.rb.bw.size (fun q he => by have := HDK.out.2.2; omega))
              have hfin := HT2.out (.slice aD LD cD) .nilIface _ (by rw [HROK.out]) (by rw [HROK.out]; exact hDe) (fun q hq => Nat.le_of_lt (HDK.out.1 q hq)) hBe
              rw [HROK.out] at hfin
              have HFIN := Hid.mk7 hfin
              refine bodyPost_ret (v := .tuple #[.agg #[.int .i64 k, .int .u64 m.flags, .int .u32 m.creation, .int .u32 m.challenge, .string m.name, .string m.status, .slice aD LD cD], .nilIface]) (by simp [results, Tryz.results13, go_sem, z0, z1, z2, z3, z4, z5, z6]) rfl ?_
              exact HFIN.out
            case pos =>
              rw [decide_eq_true hnm] at hh3
              have HNM : Hid (k = 1 ∨ k = 3) := hnm
              clear hnm
              go_wp2_with fail
              refine hh3.mono ?_
              rintro ev w4 ⟨rfl, hb4⟩
              have HRC4 := Hid.mk7 (HRC3.out.below hb4)
              have c4 := HRC4.out.ms.at_.c4
              clear hb4 hh3 s0 s1
              have hns : m.name.size ≤ 4611686018427387904 := HNS.out
              have hnme := sh_name ((e : Int) - (m.name.size : Int)) m.name hns w4 (HE.out.below HRC4.out.rb.bw)
              cases hok : nodeOk m.name with
              | false =>
                have HR : Hid (readOf k b = (shName ((e : Int) - (m.name.size : Int)), .zero)) := HRS5.out.trans (if_pos ⟨HNM.out, hok⟩)
                rw [hok] at hnme
                have HRB := Hid.mk7 HRC4.out.rb
                clear hok
                go_wp2_with fail
                refine hnme.mono ?_
                rintro e w8 ⟨v, rfl, hf8, hb8⟩
                have hf8 : FaultC w4.heap.size w8 v (shName ((e : Int) - (m.name.size : Int))) := hf8
                have Z8 := (HRB.out.below hb8).z
                obtain ⟨z0, y0⟩ := Z8 0 (by omega)
                obtain ⟨z1, y1⟩ := Z8 1 (by omega)
                obtain ⟨z2, y2⟩ := Z8 2 (by omega)
                obtain ⟨z3, y3⟩ := Z8 3 (by omega)
                obtain ⟨z4, y4⟩ := Z8 4 (by omega)
                obtain ⟨z5, y5⟩ := Z8 5 (by omega)
                obtain ⟨z6, y6⟩ := Z8 6 (by omega)
                simp only [msgCell, Msg.zero] at z0 z1 z2 z3 z4 z5 z6
                have HF8 : Hid (FaultC _ w8 v (shName ((e : Int) - (m.name.size : Int))) ∧ Below _ _ w8) := ⟨hf8, hb8⟩
                obtain ⟨pb, qb, _, _, rfl, _⟩ := hf8
                clear hb8 Z8
                go_wp2
                refine bodyPost_ret (v := .tuple #[.agg #[.int .i64 0, .int .u64 0, .int .u32 0, .int .u32 0, .string ⟨#[]⟩, .string ⟨#[]⟩, .slice none 0 0], .iface 131 (.pointer (some ⟨pb, 0, none⟩))]) (by simp [results, Tryz.results13, go_sem, z0, z1, z2, z3, z4, z5, z6]) rfl ?_
                exact HT.out _ HR.out _ _ _ _ HRB.out.bw HRB.out.z.at_.lt HF8.out.1 HF8.out.2 (turned7 _ _ _ _ _ _ _ _ _)
              | true =>
                have HROK : Hid (readOf k b = ([], { m with kind := k })) := HRS5.out.trans (if_neg (fun h => by rw [hok] at h; exact absurd h.2 (by decide)))
                rw [hok] at hnme
                clear hok
                go_wp2_with fail
                refine hnme.mono ?_
                rintro ev wE ⟨v, rfl, hfE, hbE⟩
                have hfE : v = .nilIface := hfE
                subst hfE
                have HRCE := Hid.mk7 (HRC4.out.below hbE)
                clear hbE hnme c4
                obtain ⟨z0, y0⟩ := HRCE.out.rb.z 0 (by omega)
                obtain ⟨z1, y1⟩ := HRCE.out.rb.z 1 (by omega)
                obtain ⟨z2, y2⟩ := HRCE.out.rb.z 2 (by omega)
                obtain ⟨z3, y3⟩ := HRCE.out.rb.z 3 (by omega)
                obtain ⟨z4, y4⟩ := HRCE.out.rb.z 4 (by omega)
                obtain ⟨z5, y5⟩ := HRCE.out.rb.z 5 (by omega)
                obtain ⟨z6, y6⟩ := HRCE.out.rb.z 6 (by omega)
                simp only [msgCell, Msg.zero] at z0 z1 z2 z3 z4 z5 z6
                obtain ⟨m0, m1, m2, m3, m4, m5, m6⟩ := HRCE.out.ms.at_
                obtain ⟨_, n0⟩ := HRCE.out.ms 0 (by omega)
                have hwm : ¬ w.heap.size = w2.heap.size := by have := HDK.out.2.2; omega
                have hwm' : ¬ w2.heap.size = w.heap.size := by have := HDK.out.2.2; omega
                go_wp2
                have hT := (Turned.set1 wE w2.heap.size 0 (.int .i64 k)).mono (T := fun q => q = w2.heap.size ∨ q = w.heap.size) (fun _ h => .inl (.inl h))
                have hT2 := hT.trans (turned7 (wE.setCell ⟨w2.heap.size, 0, none⟩ (.int .i64 k)) w.heap.size (.int .i64 k) (.int .u64 m.flags) (.int .u32 m.creation) (.int .u32 m.challenge) (.string m.name) (.string m.status) (.slice aD LD cD)) (fun _ h => .inl (.inr h))
                have hDe := HRCE.out.d.turnedN hT2 (fun hne q hq he => by have h1 := HDK.out.1 q hq; have h2 := HDK.out.2.1 hne q hq; omega)
                have hBe := HRCE.out.rb.bw.trans (hT2.below HRCE.out.rb.bw.size (fun q he => by have := HDK.out.2.2; omega))
                have hfin := HT2.out (.slice aD LD cD) .nilIface _ (by rw [HROK.out]) (by rw [HROK.out]; exact hDe) (fun q hq => Nat.le_of_lt (HDK.out.1 q hq)) hBe
                rw [HROK.out] at hfin
                have HFIN := Hid.mk7 hfin
                refine bodyPost_ret (v := .tuple #[.agg #[.int .i64 k, .int .u64 m.flags, .int .u32 m.creation, .int .u32 m.challenge, .string m.name, .string m.status, .slice aD LD cD], .nilIface]) (by simp [results, Tryz.results13, go_sem, z0, z1, z2, z3, z4, z5, z6]) rfl ?_
                exact HFIN.out
structure RZ (w W : World) : Prop where
  z : MsgB W w.heap.size .zero (.slice none 0 0)
  bw : Below w.heap.size w W
theorem RZ.below {w W W' : World} (h : RZ w W) (hb : Below W.heap.size W W') : RZ w W' := ⟨Block.turned h.z (Turned.ofBelow (S := fun _ => False) hb) (fun h => h), h.bw.trans (hb.mono h.bw.size)⟩
set_option maxRecDepth 100000 in
set_option maxHeartbeats 3200000 in
theorem sh_read_kind (k : Int) (hk : k < 1 ∨ 5 < k) (b : List Int) (B : Value) (w : World) (hB : ∃ a c, B = .slice a b.length c) : Calls Tryz.prog 13 #[.int .i64 k, B] w (ReadTold k b w) := by
  have HR : Hid (readOf k b = (sh 0 1, .zero)) := by
    have h : readOf k b = (sh 0 1, .zero) := by unfold readOf; rw [if_pos hk]
    exact h
  have hsh := sh_shape_no k hk
  have HT : Hid (∀ ls, readOf k b = (ls, .zero) → ∀ (W w2 w' : World) (v : Value), Below w.heap.size w W → w.heap.size < W.heap.size → FaultC W.heap.size w2 v ls → Below W.heap.size W w2 → Turned (fun q => q = w.heap.size) w2 w' → ReadTold k b w (.returned (.tuple #[.agg #[.int .i64 0, .int .u64 0, .int .u32 0, .int .u32 0, .string ⟨#[]⟩, .string ⟨#[]⟩, .slice none 0 0], v])) w') := fun _ h _ _ _ _ h1 h2 h3 h4 h5 => read_told_no h h1 h2 h3 h4 h5
  generalize hTd : ReadTold k b w = T at HT ⊢
  obtain ⟨a, c, rfl⟩ := hB
  clear hk hTd
  go_enter Tryz.func13, Tryz.ntmps13
  go_wp2_with fail
  refine (hsh _).mono ?_
  rintro e w1 ⟨rfl, hb1⟩
  have B1 : Below w.heap.size w w1 := ((Below.refl _ _).alloc (Nat.le_refl _) _).trans (hb1.mono (by simp))
  have Z1 := Block.turned (MsgB.ofNew w .zero (.slice none 0 0) 27) (Turned.ofBelow (S := fun _ => False) hb1) (fun h => h)
  have HRB0 : Hid (RZ w w1) := ⟨Z1, B1⟩
  have A1 := Hid.mk7 ((Below.refl w1.heap.size w1).alloc (Nat.le_refl _) (.cells #[.int .u8 0, .slice none 0 0] 85))
  have HRB := Hid.mk7 (HRB0.out.below A1.out)
  clear hb1 hsh B1 Z1
  go_wp2_with fail
  refine (sh_refuse _ _ _).mono ?_
  rintro e w8 ⟨v, rfl, hf8, hb8⟩
  have Z8 := (HRB.out.below hb8).z
  obtain ⟨z0, y0⟩ := Z8 0 (by omega)
  obtain ⟨z1, y1⟩ := Z8 1 (by omega)
  obtain ⟨z2, y2⟩ := Z8 2 (by omega)
  obtain ⟨z3, y3⟩ := Z8 3 (by omega)
  obtain ⟨z4, y4⟩ := Z8 4 (by omega)
  obtain ⟨z5, y5⟩ := Z8 5 (by omega)
  obtain ⟨z6, y6⟩ := Z8 6 (by omega)
  simp only [msgCell, Msg.zero] at z0 z1 z2 z3 z4 z5 z6
  have HF8 : Hid (FaultC _ w8 v (sh 0 1) ∧ Below _ _ w8) := ⟨hf8, hb8⟩
  obtain ⟨pb, _, rfl, _⟩ := hf8
  clear hb8 Z8
  go_wp2
  refine bodyPost_ret (v := .tuple #[.agg #[.int .i64 0, .int .u64 0, .int .u32 0, .int .u32 0, .string ⟨#[]⟩, .string ⟨#[]⟩, .slice none 0 0], .iface 131 (.pointer (some ⟨pb, 0, none⟩))]) (by simp [results, Tryz.results13, go_sem, z0, z1, z2, z3, z4, z5, z6]) rfl ?_
  exact HT.out _ HR.out _ _ _ _ HRB.out.bw HRB.out.z.at_.lt HF8.out.1 HF8.out.2 (turned7 _ _ _ _ _ _ _ _ _)

/-- The program's Read. -/
theorem sh_read (k : Int) {w : World} {B : Value} {b : List Int} (hB : Sl w B b) (hr : ∀ z ∈ b, 0 ≤ z ∧ z < 256) (hl : b.length ≤ 140737488355328) (her : Er w) : Calls Tryz.prog 13 #[.int .i64 k, B] w (ReadTold k b w) := by
  by_cases hk : k < 1 ∨ 5 < k
  · exact sh_read_kind k hk b B w (by obtain ⟨a, c, h, _, _⟩ := hB.form; exact ⟨a, c, h⟩)
  · exact sh_read_any k (by omega) hB hr hl her
/-- The program's Write. -/
theorem sh_Write (m : Msg) (hm : m.Ok) (hns : m.name.size ≤ 4611686018427387904) {w : World} {D : Value} (hD : Sl w D m.digest) (her : Er w) : Calls Tryz.prog 9 #[msgV' m D] w (WriteTold m w) := by
  by_cases hk : m.kind < 1 ∨ 5 < m.kind
  · exact sh_write_kind m hk D w (by obtain ⟨a, c, h, _, _⟩ := hD.form; exact ⟨a, c, h⟩)
  · exact sh_write_any m hm (by omega) hns hD her
end Go.Proofs.YtmnibmgbicnamaaGreatDoor
