/-
  errors.As at a fault of package api, in the words that its callers use; heddlemem.Chain of a fault with nothing under it: one link, with that fault's layer, place and number.
-/
import Derived.Test.YtmnibmgbicnamaaGreatDoorIs
import Derived.WalkSpells
import Derived.OwnWalk
import Derived.Deep.RegionHeld3
import Derived.Deep.AppendLies
import Derived.Deep.DrawnRows
namespace Go.Proofs.YtmnibmgbicnamaaGreatDoor
open Go.RowKit Go.Extern.Stop Go.Stop Go.Extern

/-- errors.As(e, &t), e a fault: true; t points to it; all blocks below t's are as they were. -/
theorem as_fault (e : Addr) (tb : Nat) (old : Value) (w : World) (hg : w.cell? ⟨0, 0, none⟩ = some (.iface 168 (.agg #[.pointer (some ⟨5, 29, none⟩)]))) (ht0 : w.cell? ⟨tb, 0, none⟩ = some old) (hf0 : w.frozen? ⟨tb, 0, none⟩ = false) :
    Calls Tryz.prog 72 #[.iface 131 (.pointer (some e)), .iface 142 (.pointer (some ⟨tb, 0, none⟩))] w fun ev w' => ev = .returned (.bool true) ∧ w'.cell? ⟨tb, 0, none⟩ = some (.pointer (some e)) ∧ Below tb w w' ∧ w.heap.size < w'.heap.size := by
  have hlt : tb < w.heap.size := World.block_lt_of_cell? w _ ht0
  refine (as_hit e ⟨tb, 0, none⟩ old w hg ht0 hf0).mono ?_
  rintro ev w' ⟨rfl, rfl⟩
  refine ⟨rfl, ?_, ?_, ?_⟩
  · refine World.cell?_setCell_same _ _ _ (u := old) ?_
    rw [World.cell?_alloc_lt _ _ ⟨tb, 0, none⟩ (by simp; omega), World.cell?_alloc_lt _ _ ⟨tb, 0, none⟩ (by simp; omega), World.cell?_alloc_lt _ _ ⟨tb, 0, none⟩ (by simp; omega), World.cell?_alloc_lt _ _ ⟨tb, 0, none⟩ hlt]; exact ht0
  · refine Below.setCell (Below.alloc (Below.alloc (Below.alloc (Below.alloc (Below.refl _ _) ?_ _) ?_ _) ?_ _) ?_ _) ?_ _
    all_goals first | (simp; done) | omega | (simp; omega)
  · simp [World.setCell]; omega

theorem Tryz.infoLink : (Tryz.prog.info? 102).map (fun i => (i.zero, i.size, i.bytes)) = some (some (.agg #[.string ⟨#[]⟩, .int .i64 0, .int .i64 0]), 3, 32) := by kernel_rfl

set_option maxRecDepth 100000 in
set_option maxHeartbeats 3200000 in
/-- Chain of a fault with nothing under it. -/
theorem chain_fault (pb po : Nat) (ly : ByteArray) (at_ c : Int) (w : World) (hg : w.cell? ⟨0, 0, none⟩ = some (.iface 168 (.agg #[.pointer (some ⟨5, 29, none⟩)])))
    (h0 : w.cell? ⟨pb, po, none⟩ = some (.string ly)) (h1 : w.cell? ⟨pb, po + 1, none⟩ = some (.int .i64 at_)) (h2 : w.cell? ⟨pb, po + 2, none⟩ = some (.int .i64 c)) (h3 : w.cell? ⟨pb, po + 3, none⟩ = some .nilIface) :
    Calls Tryz.prog 38 #[.iface 131 (.pointer (some ⟨pb, po, none⟩))] w fun e w' => ∃ g cap, e = .returned (.slice (some ⟨g, 0, none⟩) 1 cap) ∧
      w'.cell? ⟨g, 0, none⟩ = some (.string ly) ∧ w'.cell? ⟨g, 1, none⟩ = some (.int .i64 at_) ∧ w'.cell? ⟨g, 2, none⟩ = some (.int .i64 c) ∧ w.heap.size ≤ g ∧ Below w.heap.size w w' := by
  obtain ⟨i0, hi0, hz0, hz1, hz2⟩ := info_parts Tryz.infoLink
  have hlt : pb < w.heap.size := World.block_lt_of_cell? w _ h0
  go_enter Tryz.func38, Tryz.ntmps38
  go_wp2
  refine wp_loop_rounds 2 ?_
  rw [rounds_succ]
  go_wp2_with fail
  refine (as_fault ⟨pb, po, none⟩ w.heap.size (.pointer none) _ ?_ (by simp) (by simp)).mono ?_
  · rw [World.cell?_alloc_lt _ _ ⟨0, 0, none⟩ (World.block_lt_of_cell? w _ hg)]; exact hg
  rintro e w1 ⟨rfl, ht, hb, hz⟩
  have hbw : Below w.heap.size w w1 := ((Below.refl _ _).alloc (Nat.le_refl _) _).trans hb
  simp at hz
  have k0 : w1.cell? ⟨pb, po, none⟩ = some (.string ly) := (hbw.cell (p := ⟨pb, po, none⟩) hlt).trans h0
  have k1 : w1.cell? ⟨pb, po + 1, none⟩ = some (.int .i64 at_) := (hbw.cell (p := ⟨pb, po + 1, none⟩) hlt).trans h1
  have k2 : w1.cell? ⟨pb, po + 2, none⟩ = some (.int .i64 c) := (hbw.cell (p := ⟨pb, po + 2, none⟩) hlt).trans h2
  have k3 : w1.cell? ⟨pb, po + 3, none⟩ = some .nilIface := (hbw.cell (p := ⟨pb, po + 3, none⟩) hlt).trans h3
  have HB : Hid (Below w.heap.size w w1) := hbw
  clear hbw hb h0 h1 h2 h3 hg
  go_wp2_with fail
  go_region_held3 (fun w' => w'.cell? ⟨w.heap.size, 0, none⟩ = some (.pointer (some ⟨pb, po, none⟩)) ∧ w'.cell? ⟨pb, po, none⟩ = some (.string ly) ∧ w'.cell? ⟨pb, po + 1, none⟩ = some (.int .i64 at_) ∧ w'.cell? ⟨pb, po + 2, none⟩ = some (.int .i64 c) ∧ w'.cell? ⟨pb, po + 3, none⟩ = some .nilIface)
    (first
      | go_keep
      | (go_split_ands
         refine ⟨?_, ?_, ?_, ?_, ?_⟩
         · (rw [hgrow.cell_far _ (by simp; omega) (by simp [Value.ownBlock])]; assumption)
         · (rw [hgrow.cell_far _ (by simp; omega) (by simp [Value.ownBlock])]; assumption)
         · (rw [hgrow.cell_far _ (by simp; omega) (by simp [Value.ownBlock])]; assumption)
         · (rw [hgrow.cell_far _ (by simp; omega) (by simp [Value.ownBlock])]; assumption)
         · (rw [hgrow.cell_far _ (by simp; omega) (by simp [Value.ownBlock])]; assumption)))
    ((refine step_append_lies _ (by rfl) _ _ _ (by rfl) w.heap.size 102 i0 _ 3 32 Tryz.underlying32 hi0 hz0 hz1 hz2 rfl (by omega) (.slice none 0 0) 0 [] (by rfl) (World.ownsRow_nil _ _ _ _)
        ⟨w1.heap.size, 0, none⟩ 1 1 [.string ly, .int .i64 at_, .int .i64 c] (by rfl) (by rfl) (World.news_of_block (cs := #[.string ly, .int .i64 at_, .int .i64 c]) (t := 102) (fr := (0, 0)) (heap_alloc_new w1 _)) (by simp [Value.oneCell'])
        (by omega) (by decide) (by decide) (by simp; omega) (w1.heap.size + 1) (by simp) ?_; intro gg cap w2 hown2 hgrow hat hlt2))
  go_wp2
  have hz2 : w1.heap.size < w2.heap.size := by
    have := hgrow.size; simp at this; omega
  rw [rounds_succ]
  go_wp2
  go_ret
  have hgg : gg = w1.heap.size + 1 := by simpa [Value.ownBlock] using hat
  have hc := hown2.cells (g := gg) (by simp [Value.ownBlock])
  refine ⟨gg, cap, by simp, by simpa [Addr.add] using hc 0 _ rfl, by simpa [Addr.add] using hc 1 _ rfl, by simpa [Addr.add] using hc 2 _ rfl, by omega, ?_⟩
  exact HB.out.trans (((Below.refl _ _).alloc (by omega) _).drew.grown hgrow (by simp; omega) (by simp [Value.ownBlock]))
end Go.Proofs.YtmnibmgbicnamaaGreatDoor
