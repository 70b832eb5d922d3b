/-
  heddlelaw06.awake.
-/
import Derived.Test.YtpbakejocjmkeaaDoorF6
import Derived.Lib.SlBytesConst
namespace Go.Proofs.YtpbakejocjmkeaaDoor
open Go.RowKit

def fr4 : List Int := [0, 2, 97, 98]
def aw1 : FSt := ⟨2, [0, 2, 97], 0, 0, 0, false⟩
def aw2 : FSt := ⟨2, [0, 2, 97, 98], 0, 0, 0, false⟩
def aw3 : FSt := ⟨2, [], 1, 0, 4, false⟩
theorem aw_frame : frameBytes 2 [97, 98] = fr4 ∧ frameErr 2 [97, 98] = none := by decide +kernel
theorem aw_feed1 : (FSt.fresh 2).feed [0, 2, 97] = (none, aw1) := by simp [FSt.feed, FSt.fresh, aw1]
theorem aw_next1 : aw1.next = (none, none, aw1) := by
  have h : aw1.len = 2 := by decide +kernel
  unfold FSt.next
  rw [h]
  simp [aw1, most]
theorem aw_feed2 : aw1.feed [98] = (none, aw2) := by simp [FSt.feed, aw1, aw2]
theorem aw_next2 : aw2.next = (none, some [97, 98], aw3) := by
  have h : aw2.len = 2 := by decide +kernel
  have h1 : wrap64 1 = 1 := by decide +kernel
  have h4 : wrap64 4 = 4 := by decide +kernel
  unfold FSt.next
  rw [h]
  simp [aw2, aw3, most, h1, h4]
theorem aw1_ok : aw1.Ok := ⟨.inl rfl, by decide, fun z hz => by simp [aw1] at hz; omega⟩
theorem aw2_ok : aw2.Ok := ⟨.inl rfl, by decide, fun z hz => by simp [aw2] at hz; omega⟩
theorem aw3_ok : aw3.Ok := ⟨.inl rfl, by decide, fun z hz => by simp [aw3] at hz⟩

/-- 'x[3:]' of four bytes. -/
theorem run_cut4 {P : Program} {t e : TypeId} (hB : ByteTypes P t e) {a : Option Addr} {cap : Nat} (W : World) :
    (Instr.slice t (.slice a 4 cap) (some (.int .i64 3)) none none).run P W = .ok (.slice (if cap = 3 then a else a.map (·.add 3)) 1 (cap - 3)) W := by
  obtain ⟨i, hi, hz, hsz, hby⟩ := hB.info
  have b3 := run_sliceBound (P := P) (w := W) .i64 3 4 .sliceB (by omega) (by omega)
  simp [Instr.slice, run_underlying hB.slice, Instr.sliceBounds, b3, sizeOf, typeInfo, hi, hsz]

/-- The bytes of a new block. -/
theorem Sl.ab (w : World) (t : TypeId) : Sl (w.alloc (.cells #[.int .u8 97, .int .u8 98] t (2, 3))) (.slice (some ⟨w.heap.size, 0, none⟩) 2 2) [97, 98] := by
  refine .inr (.inr ⟨w.heap.size, 0, 2, rfl, Nat.le_refl _, by decide, fun j hj => ?_⟩)
  have : j < 2 := hj
  match j, this with
  | 0, _ => rw [World.cell?_alloc_mark]; rfl
  | 1, _ => rw [World.cell?_alloc_mark]; rfl

theorem upToF {S S' : Nat → Prop} {b c : Nat} (h : ∀ k, S k → b ≤ k) (h2 : ∀ k, S' k → S k ∨ c ≤ k) (hc : b ≤ c) : ∀ k, S' k → b ≤ k := fun k hk => (h2 k hk).elim (h k) (Nat.le_trans hc)

set_option maxRecDepth 100000 in
set_option maxHeartbeats 3200000 in
theorem awake_any {Mem : World → Nat → (Nat → Prop) → FSt → Prop} (I : FImpl Mem) (w : World) :
    Calls Tryd.prog 10 #[] w fun ev w' => ev = .returned (.bool true) ∧ Below w.heap.size w w' := by
  have hcv := fun (w : World) (C : Array Value) (n c : Nat) => Lib.run_convert_bytes_const (P := Tryd.prog) w 22 5 C n c Tryd.underlying22 Tryd.underlying5
  have hfld : ∀ w : World, (Instr.field 57 (.agg #[.int .i64 2, .int .i64 0, .int .i64 1, .int .i64 0, .int .i64 4, .bool false]) 2).run Tryd.prog w = .ok (.int .i64 1) w := fun _ => by kernel_rfl
  go_enter Tryd.func10, Tryd.ntmps10
  go_wp2_with fail
  refine (I.frame 2 (Sl.ab w _) (by decide)).mono ?_
  rw [aw_frame.1, aw_frame.2]
  rintro ev w1 ⟨V, v1, rfl, he1, hV1, hb1, hk1⟩
  have he1 : v1 = .nilIface := he1
  subst he1
  have B1 : Below w.heap.size w w1 := ((Below.refl _ _).alloc (Nat.le_refl _) _).trans (hb1.mono (by simp))
  have hk1 : ∀ k, blk V k → w.heap.size ≤ k := fun k hk => by have := hk1 k hk; simp at this; omega
  have hsz1 := B1.size
  obtain ⟨aV, cV, hfV, hcV, hmV⟩ := hV1.form
  have hfV : V = .slice aV 4 cV := hfV
  have hcV : 4 ≤ cV := hcV
  subst hfV
  clear hb1
  go_wp2_with fail
  refine (I.new 2 w1 (.inl rfl)).mono ?_
  rintro ev w2 ⟨rb, S2, rfl, hm2, hb2, hS2⟩
  have hV2 : Sl w2 (.slice aV 4 cV) fr4 := hV1.turned (Turned.ofBelow (S := fun _ => False) hb2) (fun _ _ h => h)
  have hlt2 : ∀ k, blk (.slice aV 4 cV) k → k < w1.heap.size := hV1.lt (by decide)
  have hcs := hV2.str
  have hhs : strOfNums fr4 = ⟨#[0, 2, 97, 98]⟩ := by decide +kernel
  rw [hhs] at hcs
  have B2 := B1.trans (hb2.mono B1.size)
  have hS2' : ∀ k, S2 k → w.heap.size ≤ k := fun k hk => Nat.le_trans hsz1 (hS2 k hk)
  have n2 : ∀ k, blk (.slice aV 4 cV) k → ¬ S2 k := fun k hk hs => by have := hlt2 k hk; have := hS2 k hs; omega
  have h3 : (3 : Int) ≤ (cV : Int) := by omega
  clear hb2 hV1 B1
  go_wp2_with fail
  have x3 : Sl w2 (.slice aV 3 cV) [0, 2, 97] := Sl.take (zs := fr4) (n := 3) hV2 (by decide)
  refine (I.feed hm2 (FSt.Ok.fresh (.inl rfl)) x3 (fun z hz => by simp at hz; omega) (by decide) (fun _ k hk => n2 k (by cases aV with | none => exact hk | some a => exact hk))).mono ?_
  rw [aw_feed1]
  rintro ev w3 ⟨v3, S3, rfl, he3, hm3, T3, hS3⟩
  have B3 := B2.trans (T3.below B2.size hS2')
  have hS3' := upToF hS2' hS3 B2.size
  have hV3 : Sl w3 (.slice aV 4 cV) fr4 := hV2.turned T3 n2
  have n3 : ∀ k, blk (.slice aV 4 cV) k → ¬ S3 k := fun k hk hs => (hS3 k hs).elim (n2 k hk) (fun h => by have := hV2.lt (by decide) k hk; omega)
  clear hm2 T3 hS3 x3 B2 hS2' hV2 n2 hcs hS2
  go_wp2_with fail
  refine (I.next hm3 aw1_ok).mono ?_
  rw [aw_next1]
  rintro ev w4 ⟨V4, v4, S4, rfl, he4, hV4, hb4, hm4, T4, hS4⟩
  have B4 := B3.trans (T4.below B3.size hS3')
  have hS4' := upToF hS3' hS4 B3.size
  have hV4' : Sl w4 (.slice aV 4 cV) fr4 := hV3.turned T4 n3
  have n4 : ∀ k, blk (.slice aV 4 cV) k → ¬ S4 k := fun k hk hs => (hS4 k hs).elim (n3 k hk) (fun h => by have := hV3.lt (by decide) k hk; omega)
  clear hm3 T4 hS4 B3 hS3' hV3 n3 hb4 hV4
  obtain ⟨aD, haD⟩ : ∃ aD, aD = (if cV = 3 then aV else aV.map (·.add 3)) := ⟨_, rfl⟩
  have hc4 := fun W : World => run_cut4 Tryd.bytes (a := aV) (cap := cV) W
  have x1 : Sl w4 (.slice aD 1 (cV - 3)) [98] := by rw [haD]; exact Sl.drop (zs := fr4) (n := 3) hV4' (by decide)
  have hDB : ∀ k, blk (.slice aD 1 (cV - 3)) k → ¬ S4 k := fun k hk => n4 k (by rw [haD] at hk; exact blk_if k hk)
  rw [← haD] at hc4
  clear haD
  go_wp2_with fail
  refine (I.feed hm4 aw1_ok x1 (fun z hz => by simp at hz; omega) (by decide) (fun _ => hDB)).mono ?_
  rw [aw_feed2]
  rintro ev w5 ⟨v5, S5, rfl, he5, hm5, T5, hS5⟩
  have B5 := B4.trans (T5.below B4.size hS4')
  have hS5' := upToF hS4' hS5 B4.size
  clear hm4 T5 hS5 B4 hS4' hV4' n4 x1 hDB hc4
  go_wp2_with fail
  refine (I.next hm5 aw2_ok).mono ?_
  rw [aw_next2]
  rintro ev w6 ⟨V6, v6, S6, rfl, he6, hV6, hb6, hm6, T6, hS6⟩
  have B6 := B5.trans (T6.below B5.size hS5')
  have hcs := (show Sl w6 V6 [97, 98] from hV6).str
  have hhs : strOfNums [97, 98] = ⟨#[97, 98]⟩ := by decide +kernel
  rw [hhs] at hcs
  have hst := I.state hm6 aw3_ok
  have hfr : aw3.framing = .agg #[.int .i64 2, .int .i64 0, .int .i64 1, .int .i64 0, .int .i64 4, .bool false] := rfl
  rw [hfr] at hst
  have HB : Hid (Below w.heap.size w w6) := B6
  clear hm5 T6 hS6 B5 hS5' hV6 hb6 B6
  go_wp2_with fail
  refine hst.mono ?_
  rintro ev w7 ⟨rfl, hb7⟩
  go_wp2
  go_ret
  exact ⟨rfl, HB.out.trans (hb7.mono HB.out.size)⟩
end Go.Proofs.YtpbakejocjmkeaaDoor
