/-
  heddlemem.Chain, errors.Is and heddlemem.Refused of a fault with a fault under it, which has nothing under it.
-/
import Derived.Test.YtmnibmgbicnamaaGreatDoorRefused
namespace Go.Proofs.YtmnibmgbicnamaaGreatDoor
open Go.RowKit Go.Extern.Stop Go.Stop Go.Extern

/-- A fault's four cells. -/
structure FCell (w : World) (pb : Nat) (ly : ByteArray) (a c : Int) (u : Value) : Prop where
  c0 : w.cell? ⟨pb, 0, none⟩ = some (.string ly)
  c1 : w.cell? ⟨pb, 1, none⟩ = some (.int .i64 a)
  c2 : w.cell? ⟨pb, 2, none⟩ = some (.int .i64 c)
  c3 : w.cell? ⟨pb, 3, none⟩ = some u
theorem FCell.lt {w : World} {pb : Nat} {ly : ByteArray} {a c : Int} {u : Value} (h : FCell w pb ly a c u) : pb < w.heap.size := World.block_lt_of_cell? w _ h.c0
theorem FCell.below {w w' : World} {pb B : Nat} {ly : ByteArray} {a c : Int} {u : Value} (h : FCell w pb ly a c u) (hb : Below B w w') (hB : pb < B) : FCell w' pb ly a c u :=
  ⟨(hb.cell (p := ⟨pb, 0, none⟩) hB).trans h.c0, (hb.cell (p := ⟨pb, 1, none⟩) hB).trans h.c1, (hb.cell (p := ⟨pb, 2, none⟩) hB).trans h.c2, (hb.cell (p := ⟨pb, 3, none⟩) hB).trans h.c3⟩
theorem ownsRow_kept {B : Nat} {e : TypeId} {k : Nat} {v : Value} {n : Nat} {xs : List Value} {w w' : World} {C : Nat} (h : w.ownsRow B e k v n xs) (hb : Below C w w') (hC : ∀ g, v.ownBlock = some g → g < C) : w'.ownsRow B e k v n xs := by
  obtain ⟨h1, h2⟩ := h
  refine ⟨h1, ?_⟩
  rcases h2 with h2 | ⟨g, cap, cur, rfl, hB, hc, hr⟩
  · exact .inl h2
  · exact .inr ⟨g, cap, cur, rfl, hB, by rw [hb.block g (hC g rfl)]; exact hc, hr⟩

set_option maxRecDepth 100000 in
set_option maxHeartbeats 6400000 in
/-- Chain of a fault with one under it. -/
theorem chain_fault2 (pb qb : Nat) (ly ly2 : ByteArray) (a c a2 c2 : Int) (w : World) (hg : w.cell? ⟨0, 0, none⟩ = some (.iface 168 (.agg #[.pointer (some ⟨5, 29, none⟩)])))
    (hp : FCell w pb ly a c (.iface 131 (.pointer (some ⟨qb, 0, none⟩)))) (hq : FCell w qb ly2 a2 c2 .nilIface) :
    Calls Tryz.prog 38 #[.iface 131 (.pointer (some ⟨pb, 0, none⟩))] w fun e w' => ∃ g cap, e = .returned (.slice (some ⟨g, 0, none⟩) 2 cap) ∧
      w'.ownsRow w.heap.size 102 3 (.slice (some ⟨g, 0, none⟩) 2 cap) 2 [.string ly, .int .i64 a, .int .i64 c, .string ly2, .int .i64 a2, .int .i64 c2] ∧ Below w.heap.size w w' := by
  obtain ⟨i0, hi0, hz0, hz1, hz2⟩ := info_parts Tryz.infoLink
  have hltp := hp.lt
  have hltq := hq.lt
  have HG : Hid (w.cell? ⟨0, 0, none⟩ = some (.iface 168 (.agg #[.pointer (some ⟨5, 29, none⟩)]))) := hg
  have HQ : Hid (FCell w qb ly2 a2 c2 .nilIface) := hq
  go_enter Tryz.func38, Tryz.ntmps38
  go_wp2
  refine wp_loop_rounds 3 ?_
  rw [rounds_succ]
  go_wp2_with fail
  refine (as_fault ⟨pb, 0, none⟩ w.heap.size (.pointer none) _ ?_ (by simp) (by simp)).mono ?_
  · rw [World.cell?_alloc_lt _ _ ⟨0, 0, none⟩ (World.block_lt_of_cell? w _ hg)]; exact hg
  rintro e w1 ⟨rfl, ht, hb, hz⟩
  have hbw : Below w.heap.size w w1 := ((Below.refl _ _).alloc (Nat.le_refl _) _).trans hb
  simp at hz
  obtain ⟨k0, k1, k2, k3⟩ := hp.below hbw hltp
  have HB : Hid (Below w.heap.size w w1) := hbw
  clear hbw hb hg hp hq
  go_wp2_with fail
  go_region_held3 (fun w' => w'.cell? ⟨w.heap.size, 0, none⟩ = some (.pointer (some ⟨pb, 0, none⟩)) ∧ w'.cell? ⟨pb, 0, none⟩ = some (.string ly) ∧ w'.cell? ⟨pb, 1, none⟩ = some (.int .i64 a) ∧ w'.cell? ⟨pb, 2, none⟩ = some (.int .i64 c) ∧ w'.cell? ⟨pb, 3, none⟩ = some (.iface 131 (.pointer (some ⟨qb, 0, none⟩))))
    (first
      | go_keep
      | (go_split_ands
         refine ⟨?_, ?_, ?_, ?_, ?_⟩
         · (rw [hgrow.cell_far _ (by simp; omega) (by simp [Value.ownBlock])]; assumption)
         · (rw [hgrow.cell_far _ (by simp; omega) (by simp [Value.ownBlock])]; assumption)
         · (rw [hgrow.cell_far _ (by simp; omega) (by simp [Value.ownBlock])]; assumption)
         · (rw [hgrow.cell_far _ (by simp; omega) (by simp [Value.ownBlock])]; assumption)
         · (rw [hgrow.cell_far _ (by simp; omega) (by simp [Value.ownBlock])]; assumption)))
    ((refine step_append_lies _ (by rfl) _ _ _ (by rfl) w.heap.size 102 i0 _ 3 32 Tryz.underlying32 hi0 hz0 hz1 hz2 rfl (by omega) (.slice none 0 0) 0 [] (by rfl) (World.ownsRow_nil _ _ _ _)
        ⟨w1.heap.size, 0, none⟩ 1 1 [.string ly, .int .i64 a, .int .i64 c] (by rfl) (by rfl) (World.news_of_block (cs := #[.string ly, .int .i64 a, .int .i64 c]) (t := 102) (fr := (0, 0)) (heap_alloc_new w1 _)) (by simp [Value.oneCell'])
        (by omega) (by decide) (by decide) (by simp; omega) (w1.heap.size + 1) (by simp) ?_; intro gg cap w2 hown2 hgrow hat hlt2))
  have hz2' : w1.heap.size < w2.heap.size := by
    have := hgrow.size; simp at this; omega
  have hgg : gg = w1.heap.size + 1 := by simpa [Value.ownBlock] using hat
  have hB2 : Below w.heap.size w w2 := HB.out.trans (((Below.refl _ _).alloc (by omega) _).drew.grown hgrow (by simp; omega) (by simp [Value.ownBlock]))
  have HO2 : Hid (w2.ownsRow w.heap.size 102 3 (.slice (some ⟨gg, 0, none⟩) 1 cap) 1 [.string ly, .int .i64 a, .int .i64 c] ∧ Below w.heap.size w w2 ∧ w.heap.size < gg) := ⟨hown2, hB2, by omega⟩
  clear hown2 hgrow hat hB2 hgg
  go_wp2
  rw [rounds_succ]
  clear ht hz k0 k1 k2 k3 hz2'
  go_wp2_with fail
  have hwl : w.heap.size ≤ w2.heap.size := HO2.out.2.1.size
  refine (as_fault ⟨qb, 0, none⟩ w2.heap.size (.pointer none) _ ?_ (by simp) (by simp)).mono ?_
  · have hv := World.block_lt_of_cell? w _ HG.out
    rw [World.cell?_alloc_lt _ _ ⟨0, 0, none⟩ (by simp at hv ⊢; omega)]
    exact (HO2.out.2.1.cell (p := ⟨0, 0, none⟩) hv).trans HG.out
  rintro e w3 ⟨rfl, ht, hb, hz⟩
  have hb3 : Below w2.heap.size w2 w3 := ((Below.refl _ _).alloc (Nat.le_refl _) _).trans hb
  simp at hz
  obtain ⟨k0, k1, k2, k3⟩ := (HQ.out.below HO2.out.2.1 hltq).below hb3 (by omega)
  have hown3 : w3.ownsRow w.heap.size 102 3 (.slice (some ⟨gg, 0, none⟩) 1 cap) 1 [.string ly, .int .i64 a, .int .i64 c] := ownsRow_kept HO2.out.1 hb3 (fun g hg => by simp [Value.ownBlock] at hg; omega)
  have HB3 : Hid (Below w.heap.size w w3) := HO2.out.2.1.trans (hb3.mono hwl)
  have hgq : w.heap.size < gg := HO2.out.2.2
  clear hb3 hb HO2 HB
  go_wp2_with fail
  go_region_held3 (fun w' => w'.cell? ⟨w2.heap.size, 0, none⟩ = some (.pointer (some ⟨qb, 0, none⟩)) ∧ w'.cell? ⟨qb, 0, none⟩ = some (.string ly2) ∧ w'.cell? ⟨qb, 1, none⟩ = some (.int .i64 a2) ∧ w'.cell? ⟨qb, 2, none⟩ = some (.int .i64 c2) ∧ w'.cell? ⟨qb, 3, none⟩ = some .nilIface)
    (first
      | go_keep
      | (go_split_ands
         refine ⟨?_, ?_, ?_, ?_, ?_⟩
         · (rw [hgrow.cell_far _ (by simp; omega) (by simp [Value.ownBlock]; omega)]; assumption)
         · (rw [hgrow.cell_far _ (by simp; omega) (by simp [Value.ownBlock]; omega)]; assumption)
         · (rw [hgrow.cell_far _ (by simp; omega) (by simp [Value.ownBlock]; omega)]; assumption)
         · (rw [hgrow.cell_far _ (by simp; omega) (by simp [Value.ownBlock]; omega)]; assumption)
         · (rw [hgrow.cell_far _ (by simp; omega) (by simp [Value.ownBlock]; omega)]; assumption)))
    ((refine step_append_lies _ (by rfl) _ _ _ (by rfl) w.heap.size 102 i0 _ 3 32 Tryz.underlying32 hi0 hz0 hz1 hz2 rfl (by omega) (.slice (some ⟨gg, 0, none⟩) 1 cap) 1 [.string ly, .int .i64 a, .int .i64 c] (by rfl) (ownsRow_kept hown3 (((Below.refl w3.heap.size w3).alloc (Nat.le_refl _) _).drew) (fun g hg => by simp [Value.ownBlock] at hg; omega))
        ⟨w3.heap.size, 0, none⟩ 1 1 [.string ly2, .int .i64 a2, .int .i64 c2] (by rfl) (by rfl) (World.news_of_block (cs := #[.string ly2, .int .i64 a2, .int .i64 c2]) (t := 102) (fr := (0, 0)) (heap_alloc_new w3 _)) (by simp [Value.oneCell'])
        (by omega) (by decide) (by decide) (by simp; omega) (w3.heap.size + 1) (by simp) ?_; intro g2 cap2 w4 hown4 hgrow hat hlt4))
  have hB4 : Below w.heap.size w w4 := HB3.out.trans (((Below.refl _ _).alloc (by omega) _).drew.grown hgrow (by simp; omega) (by simp [Value.ownBlock]; omega))
  have HO4 : Hid (w4.ownsRow w.heap.size 102 3 (.slice (some ⟨g2, 0, none⟩) 2 cap2) 2 [.string ly, .int .i64 a, .int .i64 c, .string ly2, .int .i64 a2, .int .i64 c2] ∧ Below w.heap.size w w4) := ⟨hown4, hB4⟩
  clear hown4 hgrow hat hB4 hown3
  go_wp2
  rw [rounds_succ]
  go_wp2
  go_ret
  exact ⟨g2, cap2, rfl, HO4.out⟩

set_option maxHeartbeats 6400000 in
theorem is_fault2 (pb qb : Nat) (ly ly2 : ByteArray) (a c a2 c2 : Int) (w : World) (hp : FCell w pb ly a c (.iface 131 (.pointer (some ⟨qb, 0, none⟩)))) (hq : FCell w qb ly2 a2 c2 .nilIface) :
    Calls Tryz.prog 39 #[.iface 131 (.pointer (some ⟨pb, 0, none⟩)), .iface 89 (.int .i64 c2)] w fun e w' => e = .returned (.bool true) ∧ w' = w := by
  have hT := @run_callFunc_extern Tryz.prog 73 _ Extern.ReflectliteType.typeOf Tryz.func73 (by kernel_rfl) (by kernel_rfl) (by kernel_rfl) (by kernel_rfl)
  have hC := @run_callFunc_extern Tryz.prog 166 _ cmpEntry Tryz.func166 (by kernel_rfl) (by kernel_rfl) (by kernel_rfl) (by kernel_rfl)
  have tT := Tryz.isTypeOf
  have cT := Tryz.isComparable
  have mR := Tryz.isMethodComparable
  have nF := Tryz.noIsF
  have uF := Tryz.hasUnwrapF
  have mU := Tryz.methodUnwrap
  have heq := Tryz.eqlErrno c2 c2
  have hty := run_eql_iface_types (P := Tryz.prog) 131 89 (.pointer (some ⟨pb, 0, none⟩)) (.int .i64 c2) Tryz.underlying29 (by decide) w
  have hty2 := run_eql_iface_types (P := Tryz.prog) 131 89 (.pointer (some ⟨qb, 0, none⟩)) (.int .i64 c2) Tryz.underlying29 (by decide) w
  obtain ⟨_, _, _, p3⟩ := hp
  obtain ⟨_, _, q2, q3⟩ := hq
  go_enter Tryz.func39, Tryz.ntmps39
  go_wp2
  refine wp_loop_rounds 3 ?_
  rw [rounds_succ]
  go_wp2
  rw [rounds_succ]
  go_wp2
  rw [rounds_succ]
  go_wp2
  go_ret
  exact ⟨rfl, rfl⟩

set_option maxRecDepth 100000 in
set_option maxHeartbeats 6400000 in
theorem refused_fault2 (pb qb lb cap : Nat) (ly ly2 : ByteArray) (a c a2 c2 : Int) (w : World) (hg : w.cell? ⟨0, 0, none⟩ = some (.iface 168 (.agg #[.pointer (some ⟨5, 29, none⟩)])))
    (hp : FCell w pb ly a c (.iface 131 (.pointer (some ⟨qb, 0, none⟩)))) (hq : FCell w qb ly2 a2 c2 .nilIface)
    (l0 : w.cell? ⟨lb, 0, none⟩ = some (.string ly)) (l1 : w.cell? ⟨lb, 1, none⟩ = some (.int .i64 a)) (l2 : w.cell? ⟨lb, 2, none⟩ = some (.int .i64 c))
    (l3 : w.cell? ⟨lb, 3, none⟩ = some (.string ly2)) (l4 : w.cell? ⟨lb, 4, none⟩ = some (.int .i64 a2)) (l5 : w.cell? ⟨lb, 5, none⟩ = some (.int .i64 c2)) :
    Calls Tryz.prog 11 #[.iface 131 (.pointer (some ⟨pb, 0, none⟩)), .slice (some ⟨lb, 0, none⟩) 2 cap] w fun e w' => e = .returned (.bool true) ∧ Below w.heap.size w w' := by
  have hll : lb < w.heap.size := World.block_lt_of_cell? w _ l0
  have hch := chain_fault2 pb qb ly ly2 a c a2 c2 w hg hp hq
  have HP : Hid (FCell w pb ly a c (.iface 131 (.pointer (some ⟨qb, 0, none⟩))) ∧ FCell w qb ly2 a2 c2 .nilIface) := ⟨hp, hq⟩
  clear hp hq hg
  go_enter Tryz.func11, Tryz.ntmps11
  go_wp2_with fail
  refine hch.mono ?_
  rintro e w1 ⟨g, cap1, rfl, hown, hb⟩
  have hc := hown.cells (g := g) (by simp [Value.ownBlock])
  have g0 : w1.cell? ⟨g, 0, none⟩ = some (.string ly) := by simpa [Addr.add] using hc 0 _ rfl
  have g1 : w1.cell? ⟨g, 1, none⟩ = some (.int .i64 a) := by simpa [Addr.add] using hc 1 _ rfl
  have g2 : w1.cell? ⟨g, 2, none⟩ = some (.int .i64 c) := by simpa [Addr.add] using hc 2 _ rfl
  have g3 : w1.cell? ⟨g, 3, none⟩ = some (.string ly2) := by simpa [Addr.add] using hc 3 _ rfl
  have g4 : w1.cell? ⟨g, 4, none⟩ = some (.int .i64 a2) := by simpa [Addr.add] using hc 4 _ rfl
  have g5 : w1.cell? ⟨g, 5, none⟩ = some (.int .i64 c2) := by simpa [Addr.add] using hc 5 _ rfl
  have m0 : w1.cell? ⟨lb, 0, none⟩ = some (.string ly) := (hb.cell (p := ⟨lb, 0, none⟩) hll).trans l0
  have m1 : w1.cell? ⟨lb, 1, none⟩ = some (.int .i64 a) := (hb.cell (p := ⟨lb, 1, none⟩) hll).trans l1
  have m2 : w1.cell? ⟨lb, 2, none⟩ = some (.int .i64 c) := (hb.cell (p := ⟨lb, 2, none⟩) hll).trans l2
  have m3 : w1.cell? ⟨lb, 3, none⟩ = some (.string ly2) := (hb.cell (p := ⟨lb, 3, none⟩) hll).trans l3
  have m4 : w1.cell? ⟨lb, 4, none⟩ = some (.int .i64 a2) := (hb.cell (p := ⟨lb, 4, none⟩) hll).trans l4
  have m5 : w1.cell? ⟨lb, 5, none⟩ = some (.int .i64 c2) := (hb.cell (p := ⟨lb, 5, none⟩) hll).trans l5
  have HB : Hid (Below w.heap.size w w1) := hb
  clear hb l0 l1 l2 l3 l4 l5 hown hc hch
  go_wp2
  refine wp_loop_rounds 3 ?_
  rw [rounds_succ]
  go_wp2
  go_quiet (fail)
  go_wp2
  rw [rounds_succ]
  go_wp2
  go_quiet (fail)
  go_wp2
  rw [rounds_succ]
  go_wp2_with fail
  refine (is_fault2 pb qb ly ly2 a c a2 c2 _ (HP.out.1.below (below_drewN HB.out _) HP.out.1.lt) (HP.out.2.below (below_drewN HB.out _) HP.out.2.lt)).mono ?_
  rintro e w2 ⟨rfl, rfl⟩
  go_wp2
  go_ret
  exact ⟨rfl, below_drewN HB.out _⟩
end Go.Proofs.YtmnibmgbicnamaaGreatDoor
