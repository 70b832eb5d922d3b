/-
  Layer 8 (shake): slices.Concat of texts, what stands in the way of a side.
-/
import Derived.Test.YtmnibmgbicnamaaGreatDoorShU
namespace Go.Proofs.YtmnibmgbicnamaaGreatDoor
open Go.RowKit

theorem Tx.slv {w : World} {v : Value} {ts : List ByteArray} (h : Tx w v ts) : SlV w v (ts.map Value.string) := by
  rcases h with ⟨rfl, rfl⟩ | ⟨g, cap, rfl, h2, h3, h4⟩
  · exact .inl ⟨rfl, rfl⟩
  · exact .inr ⟨g, 0, cap, by simp, by simpa using h2, h3, fun j hj => by rw [Nat.zero_add]; simpa using h4 j (by simpa using hj)⟩
theorem OwnV.tx {w : World} {g n cap : Nat} {ts : List ByteArray} (h : OwnV w (.slice (some ⟨g, 0, none⟩) n cap) (ts.map Value.string)) : Tx w (.slice (some ⟨g, 0, none⟩) n cap) ts := by
  rcases h with ⟨h, _⟩ | ⟨g', off, cap', h, h2, h3, _, h4, _⟩
  · cases h
  · injection h with ha hn hc
    injection ha with ha
    injection ha with ha1 ha2
    subst ha1 ha2 hc
    simp at hn
    subst hn
    exact .inr ⟨g, cap, rfl, by simpa using h2, h3, fun j hj => by have := h4 j (by simpa using hj); rw [Nat.zero_add] at this; simpa using this⟩
set_option maxRecDepth 100000 in
set_option maxHeartbeats 6400000 in
theorem tx_concat (name : ByteArray) (ts : List ByteArray) (hts : ts.length ≤ 1) {w : World} {gs : Nat} {a b : Value} (h0 : w.cell? ⟨gs, 0, none⟩ = some a) (h1 : w.cell? ⟨gs, 1, none⟩ = some b) (ha : Tx w a [name]) (hb : Tx w b ts) : Calls Tryz.prog 98 #[.slice (some ⟨gs, 0, none⟩) 2 2] w fun e w' => ∃ V, e = .returned V ∧ Tx w' V (name :: ts) ∧ Below w.heap.size w w' := by
  obtain ⟨i0, hi0, _, hs0, _⟩ := info_parts Tryz.infoStr
  obtain ⟨aa, ca, rfl, _⟩ := ha.form
  obtain ⟨ab, cb, rfl, _⟩ := hb.form
  have hgr := tx_grow (1 + ts.length) (by omega) (by omega) w
  have HA := Hid.mk7 ha
  have HBT := Hid.mk7 hb
  have hgl : gs < w.heap.size := World.block_lt_of_cell? w _ h0
  obtain ⟨n, hn⟩ : ∃ n, n = ts.length := ⟨_, rfl⟩
  rw [← hn] at hgr h1 hts
  have HN := Hid.mk7 hn
  clear ha hb hn
  have hn01 : n = 0 ∨ n = 1 := by omega
  simp only [List.length_cons, List.length_nil, Nat.zero_add] at h0
  have hcast : ((1 + n : Nat) : Int) = 1 + (n : Int) := by omega
  rw [hcast] at hgr
  clear hcast
  go_enter Tryz.func98, Tryz.ntmps98
  go_wp2_with fail
  refine wp_loop_rounds 3 ?_
  rw [rounds_succ]
  go_wp2_with fail
  rw [rounds_succ]
  go_wp2_with fail
  rw [rounds_succ]
  go_wp2_with fail
  refine hgr.mono ?_
  rintro e w1 ⟨G, hG, rfl, hO, hB⟩
  have c0 := (hB.cell (p := ⟨gs, 0, none⟩) hgl).trans h0
  have c1 := (hB.cell (p := ⟨gs, 1, none⟩) hgl).trans h1
  have hwl : w.heap.size < w1.heap.size := by
    rcases hO with ⟨h, _⟩ | ⟨g', _, _, h, _, _, hg, _⟩
    · cases h
    · injection h with ha; injection ha with ha; injection ha with ha; omega
  obtain ⟨w2, hr2, hO2, hT2⟩ := run_append_fit (P := Tryz.prog) Tryz.underlying180 hi0 hs0 180 (xs := []) hO (HA.out.below hB).slv (fun u hu => by simp at hu; subst hu; rfl) (by simp; omega)
  have b2 : Below w.heap.size w1 w2 := hT2.below (Nat.le_of_lt hwl) (fun k hk => Nat.le_of_eq hk.symm)
  have hB2 : Below w.heap.size w w2 := hB.trans b2
  have d0 := (hB2.cell (p := ⟨gs, 0, none⟩) hgl).trans h0
  have d1 := (hB2.cell (p := ⟨gs, 1, none⟩) hgl).trans h1
  simp only [List.length_nil, List.map_cons, List.map_nil, List.length_cons, Nat.zero_add, List.nil_append] at hr2 hO2
  obtain ⟨w3, hr3, hO3, hT3⟩ := run_append_fit (P := Tryz.prog) Tryz.underlying180 hi0 hs0 180 (xs := [.string name]) hO2 (HBT.out.below hB2).slv (fun u hu => by obtain ⟨t, _, rfl⟩ := List.mem_map.1 hu; rfl) (by have := HN.out; simp; omega)
  have hB3 : Below w.heap.size w w3 := hB2.trans (hT3.below (Nat.le_trans (Nat.le_of_lt hwl) b2.size) (fun k hk => Nat.le_of_eq hk.symm))
  have e0 := (hB3.cell (p := ⟨gs, 0, none⟩) hgl).trans h0
  have e1 := (hB3.cell (p := ⟨gs, 1, none⟩) hgl).trans h1
  simp only [List.length_cons, List.length_nil, Nat.zero_add, List.length_map, ← HN.out] at hr3 hO3
  have HF : Hid (OwnV w3 (.slice (some ⟨w.heap.size, 0, none⟩) (1 + n) G) ((name :: ts).map Value.string) ∧ Below w.heap.size w w3) := ⟨hO3, hB3⟩
  clear hO hB hO2 hT2 b2 hB2 hO3 hT3 hB3 hgr h0 h1
  go_wp2_with fail
  refine wp_loop_rounds 3 ?_
  rw [rounds_succ]
  go_wp2_with (at_builtin; refine Lib.wpList_append_run _ rfl _ _ _ _ rfl _ _ rfl rfl _ _ hr2 ?_)
  rw [rounds_succ]
  go_wp2_with (at_builtin; refine Lib.wpList_append_run _ rfl _ _ _ _ rfl _ _ rfl rfl _ _ hr3 ?_)
  rw [rounds_succ]
  go_wp2
  go_ret
  exact ⟨_, rfl, HF.out.1.tx, HF.out.2⟩
end Go.Proofs.YtmnibmgbicnamaaGreatDoor
