/-
  heddlelaw05.states: both streams tell the same of both ends, and of one that is none.
-/
import Derived.Test.YtjkmklbkemoldaaDoorStep2
namespace Go.Proofs.YtjkmklbkemoldaaDoor
open Go.RowKit

theorem pipe_form (st : St) (e : Int) : ∃ (u c s m r : Int) (t h : Bool), st.pipe e = .agg #[.int .i64 u, .int .i64 c, .int .i64 s, .int .i64 m, .int .i64 r, .bool t, .bool h] := by
  unfold St.pipe
  split
  · exact ⟨_, _, _, _, _, _, _, rfl⟩
  · exact ⟨_, _, _, _, _, _, _, rfl⟩

set_option maxRecDepth 100000 in
set_option maxHeartbeats 3200000 in
theorem states_any {Mem : World → Nat → (Nat → Prop) → St → Prop} (I : Impl Mem) {B : Nat} {w : World} {sb g : Nat} {S R : Nat → Prop} {st : St} (p : Pair Mem B w sb g S R st) :
    Calls Tryd.prog 13 #[.pointer (some ⟨sb, 0, none⟩), .pointer (some ⟨g, 0, none⟩)] w fun ev w' => ev = .returned (.bool true) ∧ Below w.heap.size w w' := by
  go_enter Tryd.func13, Tryd.ntmps13
  go_wp2
  go_loopw [5] (fun i wr => ∃ j : Nat, j ≤ 4 ∧ i = .int .i64 ((j : Int) - 1) ∧ Below w.heap.size w wr) (fun i _ => 4 - (intOf i + 1).toNat)
  case atStart => exact ⟨0, by omega, rfl, Below.refl _ _⟩
  case round =>
    obtain ⟨j, hj, rfl, hB⟩ := hrel
    by_cases hlt : j < 4
    · have hle : (j : Int) - 1 ≤ 2 := by omega
      have pr := p.below I hB
      obtain ⟨u, c, s, m, r, t, h, hp⟩ := pipe_form st ((j : Int) - 1)
      have h1 := I.state pr.mem pr.ok ((j : Int) - 1)
      have hd := fun (W : World) (hr : RefAt W g R st) => doc_state hr ((j : Int) - 1)
      rw [hp] at h1
      simp only [hp] at hd
      have H1 := h1
      have HD : Hid (∀ (W : World), RefAt W g R st → _) := hd
      clear hd h1 hp
      go_wp2_with fail
      refine H1.mono ?_
      rintro ev w1 ⟨v, rfl, he, hb1⟩
      have p1 := (pr.below I hb1).box1 I (.cells #[.int .i64 u, .int .i64 c, .int .i64 s, .int .i64 m, .int .i64 r, .bool t, .bool h] 45)
      have HE : Hid (Errs wr.heap.size (w1.alloc (.cells #[.int .i64 u, .int .i64 c, .int .i64 s, .int .i64 m, .int .i64 r, .bool t, .bool h] 45)) v (St.stateErr ((j : Int) - 1))) := he.turned (Turned.alloc (fun _ => False) w1 _) (fun _ _ _ h => h)
      have B1 : Hid (Below w.heap.size w w1) := hB.trans (hb1.mono hB.size)
      clear he H1 hb1
      go_wp2_with fail
      refine (HD.out _ p1.ref).mono ?_
      rintro ev w2 ⟨l, rfl, hl, hb2⟩
      obtain ⟨hc, hfz⟩ := belowCells hb2
      have hz := hb2.size
      simp at hz
      have hz2 : w1.heap.size < w2.heap.size := by omega
      have hw2 : ∀ o, w2.cell? ⟨w1.heap.size, o, none⟩ = (#[.int .i64 u, .int .i64 c, .int .i64 s, .int .i64 m, .int .i64 r, .bool t, .bool h] : Array Value)[o]? := fun o => by rw [hc _ _ (by simp)]; simp
      clear hc hfz
      have p2 := (p1.below I hb2).box1 I (.cells #[.int .i64 u, .int .i64 c, .int .i64 s, .int .i64 m, .int .i64 r, .bool t, .bool h] 45)
      have HE2 : Hid (Errs wr.heap.size (w2.alloc (.cells #[.int .i64 u, .int .i64 c, .int .i64 s, .int .i64 m, .int .i64 r, .bool t, .bool h] 45)) v (St.stateErr ((j : Int) - 1))) := (HE.out.turned (Turned.ofBelow (S := fun _ => False) hb2) (fun _ _ _ h => h)).turned (Turned.alloc (fun _ => False) w2 _) (fun _ _ _ h => h)
      have HL2 : Hid (Links _ (w2.alloc (.cells #[.int .i64 u, .int .i64 c, .int .i64 s, .int .i64 m, .int .i64 r, .bool t, .bool h] 45)) l (St.stateErr ((j : Int) - 1))) := hl.turned (Turned.alloc (fun _ => False) w2 _) (fun _ _ h => h)
      have B2 : Hid (Below w.heap.size w w2) := (B1.out.alloc B1.out.size _).trans (hb2.mono (by have := B1.out.size; simp; omega))
      clear hl hb2 HE HD
      go_wp2_with fail
      refine (refused_both p2.er HE2.out HL2.out).mono ?_
      rintro ev w3 ⟨rfl, hb3⟩
      have B3 : Hid (Below w.heap.size w w3) := (B2.out.alloc B2.out.size _).trans (hb3.mono (by have := B2.out.size; simp; omega))
      clear hb3 hw2
      go_wp2
      go_roundw
      case rel => exact ⟨j + 1, by omega, by go_num, B3.out⟩
      case measure => simp [intOf]; omega
    · have hle : ¬ (j : Int) - 1 ≤ 2 := by omega
      go_wp2
      go_ret
      exact ⟨rfl, hB⟩
end Go.Proofs.YtjkmklbkemoldaaDoor
