/-
  Layer 8 (shake): the program's fields out of bytes.
-/
import Derived.Test.YtmnibmgbicnamaaGreatDoorShJ
namespace Go.Proofs.YtmnibmgbicnamaaGreatDoor
open Go.RowKit

/-- A message's cells. -/
def msgCell (m : Msg) (D : Value) : Nat → Value
  | 0 => .int .i64 m.kind
  | 1 => .int .u64 m.flags
  | 2 => .int .u32 m.creation
  | 3 => .int .u32 m.challenge
  | 4 => .string m.name
  | 5 => .string m.status
  | _ => D
/-- A message in memory that may be written. -/
def MsgB (w : World) (g : Nat) (m : Msg) (D : Value) : Prop := Block w g 7 (msgCell m D)
theorem MsgB.at_ {w : World} {g : Nat} {m : Msg} {D : Value} (h : MsgB w g m D) : MsgAt w g m D := ⟨(h 0 (by omega)).1, (h 1 (by omega)).1, (h 2 (by omega)).1, (h 3 (by omega)).1, (h 4 (by omega)).1, (h 5 (by omega)).1, (h 6 (by omega)).1⟩
theorem forall7 {p : Nat → Prop} (h0 : p 0) (h1 : p 1) (h2 : p 2) (h3 : p 3) (h4 : p 4) (h5 : p 5) (h6 : p 6) : ∀ j, j < 7 → p j
  | 0, _ => h0 | 1, _ => h1 | 2, _ => h2 | 3, _ => h3 | 4, _ => h4 | 5, _ => h5 | 6, _ => h6
  | j + 7, h => by omega
theorem MsgB.ofNew (w : World) (m : Msg) (D : Value) (t : TypeId) : MsgB (w.alloc (.cells #[.int .i64 m.kind, .int .u64 m.flags, .int .u32 m.creation, .int .u32 m.challenge, .string m.name, .string m.status, D] t)) w.heap.size m D :=
  forall7 ⟨by simp [msgCell], by rw [World.frozen?_alloc_new]⟩ ⟨by simp [msgCell], by rw [World.frozen?_alloc_new]⟩ ⟨by simp [msgCell], by rw [World.frozen?_alloc_new]⟩ ⟨by simp [msgCell], by rw [World.frozen?_alloc_new]⟩ ⟨by simp [msgCell], by rw [World.frozen?_alloc_new]⟩ ⟨by simp [msgCell], by rw [World.frozen?_alloc_new]⟩ ⟨by simp [msgCell], by rw [World.frozen?_alloc_new]⟩
theorem MsgB.set {w : World} {g : Nat} {m m' : Msg} {D D' : Value} (h : MsgB w g m D) (i : Nat) (v : Value) (hc : ∀ j, j < 7 → (if j = i then v else msgCell m D j) = msgCell m' D' j) : MsgB (w.setCell ⟨g, i, none⟩ v) g m' D' := (Block.set h i v).congr hc
theorem Turned.set1 (w : World) (g i : Nat) (v : Value) : Turned (fun k => k = g) w (w.setCell ⟨g, i, none⟩ v) := Turned.setCell w ⟨g, i, none⟩ v
/-- A field's bytes may be such. -/
def fieldOk (f : Int) (b : List Int) : Prop := (f = 0 → b.length = 8) ∧ (f = 1 ∨ f = 2 → b.length = 4) ∧ (f = 3 → 2 ≤ b.length) ∧ (f = 5 → b.length = 16)
set_option maxRecDepth 100000 in
set_option maxHeartbeats 6400000 in
theorem sh_fread (f : Int) (hf : 0 ≤ f ∧ f ≤ 5) {w : World} {B : Value} {b : List Int} (hB : Sl w B b) (hr : ∀ z ∈ b, 0 ≤ z ∧ z < 256) (hfo : fieldOk f b) {g : Nat} {m : Msg} {D : Value} (hM : MsgB w g m D) (hD : Sl w D m.digest) (hDg : ∀ k, blk D k → k ≠ g) :
    Calls Tryz.prog 76 #[.int .i64 f, .pointer (some ⟨g, 0, none⟩), B] w fun e w' => ∃ D', e = .returned (.tuple #[]) ∧ MsgB w' g (setField f m b) D' ∧ Sl w' D' (setField f m b).digest ∧ (∀ k, blk D' k → blk D k ∨ w.heap.size ≤ k) ∧ Turned (fun k => k = g) w w' := by
  obtain ⟨hf0, hf12, hf3, hf5⟩ := hfo
  have h6 : f = 0 ∨ f = 1 ∨ f = 2 ∨ f = 3 ∨ f = 4 ∨ f = 5 := by omega
  have HM : Hid (MsgB w g m D) := hM
  have HD : Hid (Sl w D m.digest ∧ ∀ k, blk D k → k ≠ g) := ⟨hD, hDg⟩
  have hgl : g < w.heap.size := hM.at_.lt
  obtain ⟨a, cap, rfl, hcap, hmax⟩ := hB.form
  rcases h6 with rfl | rfl | rfl | rfl | rfl | rfl
  · have hn := sh_numb hB hr (by have := hf0 rfl; omega)
    obtain ⟨k1, f1⟩ := hM 1 (by omega)
    simp only [msgCell] at k1
    clear hM hD hDg hB hf0 hf12 hf3 hf5
    go_enter Tryz.func76, Tryz.ntmps76
    go_wp2_with fail
    refine hn.mono ?_
    rintro e w' ⟨rfl, rfl⟩
    go_wp2
    go_end0
    exact ⟨D, rfl, HM.out.set 1 _ (forall7 rfl rfl rfl rfl rfl rfl rfl), HD.out.1.turned (Turned.set1 w g 1 _) HD.out.2, fun _ h => .inl h, Turned.set1 w g 1 _⟩
  · have hn := sh_numb hB hr (by have := hf12 (.inl rfl); omega)
    have hv := numAt_rng b hr 0 b.length (by omega)
    rw [hf12 (.inl rfl)] at hv
    have hw : IntKind.u32.wrap (numAt b 0 b.length) = numAt b 0 b.length := by
      rw [hf12 (.inl rfl), IntKind.wrap_u32]
      simp at hv
      omega
    obtain ⟨k1, f1⟩ := hM 3 (by omega)
    simp only [msgCell] at k1
    clear hM hD hDg hB hf0 hf12 hf3 hf5 hv
    go_enter Tryz.func76, Tryz.ntmps76
    go_wp2_with fail
    refine hn.mono ?_
    rintro e w' ⟨rfl, rfl⟩
    go_wp2
    go_end0
    exact ⟨D, rfl, HM.out.set 3 _ (forall7 rfl rfl rfl rfl rfl rfl rfl), HD.out.1.turned (Turned.set1 w g 3 _) HD.out.2, fun _ h => .inl h, Turned.set1 w g 3 _⟩
  · have hn := sh_numb hB hr (by have := hf12 (.inr rfl); omega)
    have hv := numAt_rng b hr 0 b.length (by omega)
    rw [hf12 (.inr rfl)] at hv
    have hw : IntKind.u32.wrap (numAt b 0 b.length) = numAt b 0 b.length := by
      rw [hf12 (.inr rfl), IntKind.wrap_u32]
      simp at hv
      omega
    obtain ⟨k1, f1⟩ := hM 2 (by omega)
    simp only [msgCell] at k1
    clear hM hD hDg hB hf0 hf12 hf3 hf5 hv
    go_enter Tryz.func76, Tryz.ntmps76
    go_wp2_with fail
    refine hn.mono ?_
    rintro e w' ⟨rfl, rfl⟩
    go_wp2
    go_end0
    exact ⟨D, rfl, HM.out.set 2 _ (forall7 rfl rfl rfl rfl rfl rfl rfl), HD.out.1.turned (Turned.set1 w g 2 _) HD.out.2, fun _ h => .inl h, Turned.set1 w g 2 _⟩
  · have h2 := hf3 rfl
    obtain ⟨aF, haF⟩ : ∃ aF, aF = (if cap = 2 then a else a.map (·.add 2)) := ⟨_, rfl⟩
    have hc2 : ∀ W : World, (Instr.slice 25 (.slice a b.length cap) (some (.int .i64 2)) none none).run Tryz.prog W = .ok (.slice aF (b.length - 2) (cap - 2)) W := fun W => by rw [haF]; exact run_cutFrom Tryz.bytes (l := 2) (by omega) W
    have hs := (hB.drop (n := 2) (by omega))
    rw [← haF] at hs
    have hst := hs.str
    obtain ⟨k1, f1⟩ := hM 4 (by omega)
    simp only [msgCell] at k1
    clear hM hD hDg hB hf0 hf12 hf3 hf5 haF hs
    go_enter Tryz.func76, Tryz.ntmps76
    go_wp2
    go_end0
    exact ⟨D, rfl, HM.out.set 4 _ (forall7 rfl rfl rfl rfl rfl rfl rfl), HD.out.1.turned (Turned.set1 w g 4 _) HD.out.2, fun _ h => .inl h, Turned.set1 w g 4 _⟩
  · have hst := hB.str
    obtain ⟨k1, f1⟩ := hM 5 (by omega)
    simp only [msgCell] at k1
    clear hM hD hDg hB hf0 hf12 hf3 hf5
    go_enter Tryz.func76, Tryz.ntmps76
    go_wp2
    go_end0
    exact ⟨D, rfl, HM.out.set 5 _ (forall7 rfl rfl rfl rfl rfl rfl rfl), HD.out.1.turned (Turned.set1 w g 5 _) HD.out.2, fun _ h => .inl h, Turned.set1 w g 5 _⟩
  · have hcl := clone_any hB (by have := hf5 rfl; omega)
    obtain ⟨k1, f1⟩ := hM 6 (by omega)
    simp only [msgCell] at k1
    clear hM hD hDg hB hf0 hf12 hf3 hf5
    go_enter Tryz.func76, Tryz.ntmps76
    go_wp2_with fail
    refine hcl.mono ?_
    rintro e w1 ⟨V, rfl, ho, ht, hb⟩
    have j1 := ht.cell (p := ⟨g, 6, none⟩) k1 (fun h => h)
    have j2 := (ht.frozen (p := ⟨g, 6, none⟩) hgl (fun h => h)).trans f1
    have HN : Hid (Own w1 V b ∧ Turned (fun _ => False) w w1 ∧ (∀ k, blk V k → w.heap.size ≤ k) ∧ MsgB w1 g m D) := ⟨ho, ht, hb, Block.turned HM.out ht (fun h => h)⟩
    obtain ⟨aV, cV, LV, rfl⟩ : ∃ a c L, V = .slice a L c := ⟨_, _, _, ho.sl.form.choose_spec.choose_spec.1⟩
    clear ho ht hb k1 f1 hcl
    go_wp2
    go_end0
    obtain ⟨q1, q2, q3, q4⟩ := HN.out
    exact ⟨_, rfl, q4.set 6 _ (forall7 rfl rfl rfl rfl rfl rfl rfl), q1.sl.turned (Turned.set1 w1 g 6 _) (fun k hk he => by have := q3 k hk; have he : k = g := he; omega), fun k hk => .inr (q3 k hk), (q2.mono (fun _ h => h.elim)).trans (Turned.set1 w1 g 6 _) (fun _ h => .inl h)⟩
end Go.Proofs.YtmnibmgbicnamaaGreatDoor
