/-
  heddlelaw05.StreamFull: a full stream refuses more; its walk, given the program's stream.
-/
import Derived.Test.YtjkmklbkemoldaaDoorRowBase
namespace Go.Proofs.YtjkmklbkemoldaaDoor
open Go.RowKit

/-- make([]byte, n). -/
theorem zeros (n : Nat) (hn : n ≤ 4194304) : ∃ (Z : Array Value) (zs : List Int), zs.length = n ∧
    (∀ W : World, (Instr.makeSlice 29 (.int .i64 (n : Int)) (.int .i64 (n : Int))).run Tryd.prog W = .ok (.slice (some ⟨W.heap.size, 0, none⟩) n n) (W.alloc (.cells Z 5))) ∧
    ∀ W : World, Sl (W.alloc (.cells Z 5)) (.slice (some ⟨W.heap.size, 0, none⟩) n n) zs := by
  obtain ⟨i, hi, hz, hsz, hby⟩ := Tryd.bytes.info
  refine ⟨madeCells #[.int .u8 0] n, List.replicate n 0, by simp, fun W => ?_, fun W => ?_⟩
  · have h := run_make (P := Tryd.prog) W 29 5 i (.int .u8 0) Tryd.underlying29 hi hz .i64 .i64 n n (by omega) (Int.le_refl _) (by rw [hby]; omega) (by omega)
    rw [hsz] at h
    simpa [Value.cells] using h
  · refine .inr (.inr ⟨W.heap.size, 0, n, by simp, by simp, by simp only [maxLen]; omega, fun j hj => ?_⟩)
    have hj : j < n := by simpa using hj
    simp [madeCells, hj, Nat.mod_one]

/-- The state of a stream whose end 0 holds zs. -/
def holds (zs : List Int) : St := ⟨⟨zs, [], 4194304, 0, 0, false⟩, ⟨[], [], 0, 0, 0, false⟩, false⟩
theorem full1 {zs : List Int} (h : zs.length = 4194304) : St.fresh.send 0 zs = (none, holds zs) := by
  have h5 : wrap64 4194304 = 4194304 := by decide +kernel
  simp [St.send, bad, St.at, St.up, St.fresh, h, h5, holds]
theorem full2 {zs ys : List Int} (h : zs.length = 4194304) (hy : ys ≠ []) : (holds zs).send 0 ys = (some 4, holds zs) := by
  have : 0 < ys.length := List.length_pos_iff.2 hy
  simp [St.send, bad, St.at, holds, h]
  omega
theorem full3 {zs : List Int} (h : zs.length = 4194304) : (holds zs).send 0 [] = (none, holds zs) := by
  have h5 : wrap64 4194304 = 4194304 := by decide +kernel
  simp [St.send, bad, St.at, St.up, holds, h, h5]
theorem full4 {zs : List Int} (h : zs.length = 4194304) : (holds zs).pipe 0 = .agg #[.int .i64 4194304, .int .i64 0, .int .i64 4194304, .int .i64 0, .int .i64 0, .bool false, .bool false] := by
  simp [St.pipe, bad, St.at, holds, h]
theorem full_ok {zs : List Int} (h : zs.length = 4194304) : (holds zs).Ok := ⟨by simp [holds, h], by simp [holds], by simp [holds], by simp [holds], fun _ => by simp [holds], fun _ => by simp [holds]⟩

set_option maxRecDepth 100000 in
set_option maxHeartbeats 6400000 in
theorem full_any {Mem : World → Nat → (Nat → Prop) → St → Prop} (I : Impl Mem) (u : Int) (hu0 : 0 ≤ u) (hu1 : u ≤ 65535) (w : World) (her : Er w) :
    Calls Tryd.prog 7 #[.int .u16 u] w fun ev w' => ev = .returned (.bool true) ∧ Below w.heap.size w w' := by
  have hlt : 0 < w.heap.size := World.block_lt_of_cell? w _ her
  obtain ⟨ZA, zs, hzl, hmkA, hslA⟩ := zeros 4194304 (by omega)
  have hmkA : ∀ W : World, (Instr.makeSlice 29 (.int .i64 4194304) (.int .i64 4194304)).run Tryd.prog W = .ok (.slice (some ⟨W.heap.size, 0, none⟩) 4194304 4194304) (W.alloc (.cells ZA 5)) := hmkA
  obtain ⟨q, hq⟩ : ∃ q : Nat, u % 100 = (q : Int) := ⟨(u % 100).toNat, by omega⟩
  have hq2 : q < 100 := by omega
  obtain ⟨ZB, ys, hyl, hmkB, hslB⟩ := zeros q (by omega)
  go_enter Tryd.func7, Tryd.ntmps7
  go_wp2_with fail
  refine (I.new w).mono ?_
  rintro ev w1 ⟨sb, S1, rfl, hm1, hb1, hS1⟩
  go_wp2_with fail
  have TA : Turned (fun _ => False) w1 (w1.alloc (.cells ZA 5)) := Turned.alloc _ _ _
  have hc1 := I.send (I.turned hm1 TA (fun _ _ h => h)) St.Ok.fresh 0 (hslA w1) (by omega) (fun _ k hk hs => by have := I.lt hm1 k hs; have hk : w1.heap.size = k := hk; omega)
  rw [full1 hzl] at hc1
  refine hc1.mono ?_
  rintro ev w2 ⟨v2, S2, rfl, he2, hm2, T2, hS2⟩
  have he2 : v2 = .nilIface := he2
  subst he2
  clear hc1
  go_wp2_with fail
  have s1 := hb1.size
  have s2 := T2.size
  simp at s2
  have b2 := upTo hS1 hS2 (by simp; omega)
  have B2 : Below w.heap.size w w2 := (hb1.alloc (by omega) _).trans (T2.below (by simp; omega) (fun k hk => hS1 k hk))
  have TB : Turned (fun _ => False) w2 (w2.alloc (.cells ZB 5)) := Turned.alloc _ _ _
  have hc2 := I.send (I.turned hm2 TB (fun _ _ h => h)) (full_ok hzl) 0 (hslB w2) (by omega) (fun _ k hk hs => by have := I.lt hm2 k hs; have hk : w2.heap.size = k := hk; omega)
  by_cases h0 : q = 0
  · have hys : ys = [] := List.eq_nil_of_length_eq_zero (hyl.trans h0)
    rw [hys, full3 hzl] at hc2
    refine hc2.mono ?_
    rintro ev w3 ⟨v3, S3, rfl, he3, hm3, T3, hS3⟩
    have he3 : v3 = .nilIface := he3
    subst he3
    clear hc2
    have hc3 := I.state hm3 (full_ok hzl) 0
    rw [full4 hzl] at hc3
    have s3 := T3.size
    simp at s3
    have B3 : Below w.heap.size w w3 := (B2.alloc (by omega) _).trans (T3.below (by simp; omega) b2)
    go_wp2_with fail
    refine hc3.mono ?_
    rintro ev w4 ⟨v4, rfl, he4, hb4⟩
    have he4 : v4 = .nilIface := he4
    subst he4
    clear hc3
    have B4 : Hid (Below w.heap.size w w4) := B3.trans (hb4.mono (by omega))
    have hu : u % 100 = 0 := by omega
    go_wp2_with fail
    refine (alive_any I _ (her.below (B4.out.alloc B4.out.size _))).mono ?_
    rintro ev w5 ⟨rfl, hb5⟩
    go_wp2
    go_ret
    exact ⟨rfl, (B4.out.alloc B4.out.size _).trans (hb5.mono (by have := B4.out.size; simp; omega))⟩
  · have hys : ys ≠ [] := fun h => h0 (by rw [← hyl, h]; rfl)
    rw [full2 hzl hys] at hc2
    refine hc2.mono ?_
    rintro ev w3 ⟨v3, S3, rfl, he3, hm3, T3, hS3⟩
    clear hc2
    have hc3 := I.state hm3 (full_ok hzl) 0
    rw [full4 hzl] at hc3
    have s3 := T3.size
    simp at s3
    have B3 : Below w.heap.size w w3 := (B2.alloc (by omega) _).trans (T3.below (by simp; omega) b2)
    go_wp2_with fail
    refine hc3.mono ?_
    rintro ev w4 ⟨v4, rfl, he4, hb4⟩
    have he4 : v4 = .nilIface := he4
    subst he4
    clear hc3
    have B4 : Hid (Below w.heap.size w w4) := B3.trans (hb4.mono (by omega))
    have hu : ¬ u % 100 = 0 := by omega
    have B5 : Hid (Below w.heap.size w ((w4.alloc (.cells #[.int .i64 4194304, .int .i64 0, .int .i64 4194304, .int .i64 0, .int .i64 0, .bool false, .bool false] 45)).alloc (.cells #[.string ⟨#[115, 116, 114, 101, 97, 109]⟩, .int .i64 0, .int .i64 4] 91))) := (B4.out.alloc B4.out.size _).alloc (by have := B4.out.size; simp; omega) _
    have e5 := her.below B5.out
    have he5 := ((he3.turned (Turned.ofBelow (S := fun _ => False) hb4) (fun _ _ _ h => h)).turned (Turned.alloc (fun _ => False) w4 (.cells #[.int .i64 4194304, .int .i64 0, .int .i64 4194304, .int .i64 0, .int .i64 0, .bool false, .bool false] 45)) (fun _ _ _ h => h)).turned (Turned.alloc (fun _ => False) _ (.cells #[.string ⟨#[115, 116, 114, 101, 97, 109]⟩, .int .i64 0, .int .i64 4] 91)) (fun _ _ _ h => h)
    clear hm1 hb1 hm2 T2 hS2 b2 B2 TB TA hm3 T3 hS3 B3 hb4 he3 hslA hslB
    go_wp2_with fail
    refine (one_any _ _ _ _).mono ?_
    rintro ev w5 ⟨rfl, rfl⟩
    go_wp2_with fail
    refine (refused_both (oc := some 4) (B' := 0) e5 he5 ⟨w4.heap.size + 1, Nat.zero_le _, by simp, by simp, by simp, by simp⟩).mono ?_
    rintro ev w6 ⟨rfl, hb6⟩
    have hc6 : w6.cell? ⟨w4.heap.size, 0, none⟩ = some (.int .i64 4194304) := (hb6.cell (p := ⟨w4.heap.size, 0, none⟩) (by simp; omega)).trans (by simp)
    have B6 : Hid (Below w.heap.size w w6) := B5.out.trans (hb6.mono B5.out.size)
    clear hb6 he5 e5
    go_wp2_with fail
    refine (alive_any I _ (her.below B6.out)).mono ?_
    rintro ev w7 ⟨rfl, hb7⟩
    go_wp2
    go_ret
    exact ⟨rfl, B6.out.trans (hb7.mono B6.out.size)⟩
end Go.Proofs.YtjkmklbkemoldaaDoor
