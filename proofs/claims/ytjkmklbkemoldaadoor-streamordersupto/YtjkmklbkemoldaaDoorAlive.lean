/-
  heddlelaw05.alive; heddlelaw05.step at every kind.
-/
import Derived.Test.YtjkmklbkemoldaaDoorStates
import Derived.Lib.SlBytesConst
namespace Go.Proofs.YtjkmklbkemoldaaDoor
open Go.RowKit

def hello : List Int := [104, 101, 108, 108, 111]
theorem al1 : St.fresh.send 0 hello = (none, ⟨⟨hello, [], 5, 0, 0, false⟩, ⟨[], [], 0, 0, 0, false⟩, false⟩) := by
  have h5 : wrap64 5 = 5 := by decide +kernel
  simp [St.send, bad, St.at, St.up, St.fresh, hello, h5]
theorem al2 : (⟨⟨hello, [], 5, 0, 0, false⟩, ⟨[], [], 0, 0, 0, false⟩, false⟩ : St).move 0 2 = (none, ⟨⟨[108, 108, 111], [], 5, 0, 0, false⟩, ⟨[], [104, 101], 0, 2, 0, false⟩, false⟩) := by
  have h2 : wrap64 2 = 2 := by decide +kernel
  simp [St.move, St.mv, St.both, St.other, bad, St.at, hello, h2]
theorem al3 : (⟨⟨[108, 108, 111], [], 5, 0, 0, false⟩, ⟨[], [104, 101], 0, 2, 0, false⟩, false⟩ : St).read 1 10 = (none, [104, 101], ⟨⟨[108, 108, 111], [], 5, 0, 0, false⟩, ⟨[], [], 0, 2, 2, false⟩, false⟩) := by
  have h2 : wrap64 2 = 2 := by decide +kernel
  simp [St.read, St.takes, bad, St.at, St.up, h2]
theorem al4 : (⟨⟨[108, 108, 111], [], 5, 0, 0, false⟩, ⟨[], [], 0, 2, 2, false⟩, false⟩ : St).break = (none, ⟨⟨[], [], 5, 0, 0, false⟩, ⟨[], [], 0, 2, 2, false⟩, true⟩) := by rfl
theorem al5 : (⟨⟨[], [], 5, 0, 0, false⟩, ⟨[], [], 0, 2, 2, false⟩, true⟩ : St).read 1 10 = (some 8, [], ⟨⟨[], [], 5, 0, 0, false⟩, ⟨[], [], 0, 2, 2, false⟩, true⟩) := by rfl

theorem upTo {S S' : Nat → Prop} {b c : Nat} (h : ∀ k, S k → b ≤ k) (h2 : ∀ k, S' k → S k ∨ c ≤ k) (hc : b ≤ c) : ∀ k, S' k → b ≤ k := fun k hk => (h2 k hk).elim (h k) (Nat.le_trans hc)

theorem one_any (ly : ByteArray) (a c : Int) (w : World) : Calls Tryd.prog 22 #[.string ly, .int .i64 a, .int .i64 c] w fun e w' => e = .returned (.slice (some ⟨w.heap.size, 0, none⟩) 1 1) ∧ w' = w.alloc (.cells #[.string ly, .int .i64 a, .int .i64 c] 91) := by
  go_enter Tryd.func22, Tryd.ntmps22
  go_wp2
  go_ret
  exact ⟨rfl, rfl⟩

/-- The bytes of a new block. -/
theorem Sl.made (w : World) (t : TypeId) : Sl (w.alloc (.cells #[.int .u8 104, .int .u8 101, .int .u8 108, .int .u8 108, .int .u8 111] t (5, 6))) (.slice (some ⟨w.heap.size, 0, none⟩) 5 5) hello := by
  refine .inr (.inr ⟨w.heap.size, 0, 5, rfl, Nat.le_refl _, by decide, fun j hj => ?_⟩)
  have : j < 5 := hj
  match j, this with
  | 0, _ => rw [World.cell?_alloc_mark]; rfl
  | 1, _ => rw [World.cell?_alloc_mark]; rfl
  | 2, _ => rw [World.cell?_alloc_mark]; rfl
  | 3, _ => rw [World.cell?_alloc_mark]; rfl
  | 4, _ => rw [World.cell?_alloc_mark]; rfl

set_option maxRecDepth 100000 in
set_option maxHeartbeats 3200000 in
theorem alive_any {Mem : World → Nat → (Nat → Prop) → St → Prop} (I : Impl Mem) (w : World) (her : Er w) :
    Calls Tryd.prog 11 #[] w fun ev w' => ev = .returned (.bool true) ∧ Below w.heap.size w w' := by
  have hlt : 0 < w.heap.size := World.block_lt_of_cell? w _ her
  have hcv := fun (w : World) (C : Array Value) (n c : Nat) => Lib.run_convert_bytes_const (P := Tryd.prog) w 29 5 C n c Tryd.underlying29 Tryd.underlying5
  go_enter Tryd.func11, Tryd.ntmps11
  go_wp2_with fail
  refine (I.new w).mono ?_
  rintro ev w1 ⟨sb, S1, rfl, hm1, hb1, hS1⟩
  go_wp2_with fail
  have TA : Turned (fun _ => False) w1 (w1.alloc (.cells #[.int .u8 104, .int .u8 101, .int .u8 108, .int .u8 108, .int .u8 111] 5 (5, 6))) := Turned.alloc _ _ _
  refine (I.send (I.turned hm1 TA (fun _ _ h => h)) St.Ok.fresh 0 (Sl.made w1 _) (by decide) (fun _ k hk hs => by have := I.lt hm1 k hs; have hk : w1.heap.size = k := hk; omega)).mono ?_
  rw [al1]
  rintro ev w2 ⟨v2, S2, rfl, he2, hm2, T2, hS2⟩
  have he2 : v2 = .nilIface := he2
  subst he2
  go_wp2_with fail
  refine (I.move hm2 ⟨by decide, by decide, by decide, by decide, fun _ => by decide, fun _ => by decide⟩ 0 2).mono ?_
  rw [al2]
  rintro ev w3 ⟨v3, S3, rfl, he3, hm3, T3, hS3⟩
  have he3 : v3 = .nilIface := he3
  subst he3
  go_wp2_with fail
  refine (I.read hm3 ⟨by decide, by decide, by decide, by decide, fun _ => by decide, fun _ => by decide⟩ 1 10).mono ?_
  rw [al3]
  rintro ev w4 ⟨V4, v4, S4, rfl, he4, hV4, hm4, T4, hS4, hVb4⟩
  have he4 : v4 = .nilIface := he4
  subst he4
  go_wp2_with fail
  refine (I.brk hm4 ⟨by decide, by decide, by decide, by decide, fun _ => by decide, fun _ => by decide⟩).mono ?_
  rw [al4]
  rintro ev w5 ⟨v5, S5, rfl, he5, hm5, T5, hS5⟩
  have he5 : v5 = .nilIface := he5
  subst he5
  go_wp2_with fail
  refine (I.read hm5 ⟨by decide, by decide, by decide, by decide, fun _ => by decide, fun _ => by decide⟩ 1 10).mono ?_
  rw [al5]
  rintro ev w6 ⟨V6, v6, S6, rfl, he6, hV6, hm6, T6, hS6, hVb6⟩
  have s1 := hb1.size
  have s2 := T2.size
  simp at s2
  have s3 := T3.size
  have s4 := T4.size
  have s5 := T5.size
  have s6 := T6.size
  -- where each lies
  have b2 := upTo hS1 hS2 (by simp; omega)
  have b3 := upTo b2 hS3 (by omega)
  have b4 := upTo b3 hS4 (by omega)
  have b5 := upTo b4 hS5 (by omega)
  have B6 : Below w.heap.size w w6 := ((((((hb1.alloc (by omega) _).trans (T2.below (by simp; omega) (fun k hk => hS1 k hk))).trans (T3.below (by omega) b2)).trans (T4.below (by omega) b3)).trans (T5.below (by omega) b4)).trans (T6.below (by omega) b5))
  have e6 : Er w6 := (B6.cell (p := ⟨0, 0, none⟩) hlt).trans her
  have n5 : ∀ k, blk V4 k → ¬ S4 k := fun k hk => (hVb4 k hk).2.2
  have n6 : ∀ k, blk V4 k → ¬ S5 k := fun k hk hs => (hS5 k hs).elim (n5 k hk) (fun h => by have := (hVb4 k hk).2.1; omega)
  have c4 := ((hV4.turned T5 n5).turned T6 n6).str
  have hhe : (strOfNums [104, 101]) = ⟨#[104, 101]⟩ := by decide +kernel
  rw [hhe] at c4
  have HB : Hid (Below w.heap.size w w6) := B6
  clear B6 b2 b3 b4 b5 n5 n6 T2 T3 T4 T5 T6 hS1 hS2 hS3 hS4 hS5 hS6 hVb4 hVb6 hV4 hV6 hm1 hm2 hm3 hm4 hm5 hm6 hb1 TA
  go_wp2_with (first
      | (go_at_call 22; refine (one_any _ _ _ _).mono ?_; rintro ev w7 ⟨rfl, rfl⟩)
      | (go_at_call 21; refine (refused_both (oc := some 8) (B := w5.heap.size) (B' := w6.heap.size) (e6.below ((Below.refl _ _).alloc (Nat.le_refl _) _)) (he6.turned (Turned.alloc (fun _ => False) w6 _) (fun _ _ _ h => h)) ⟨w6.heap.size, Nat.le_refl _, rfl, by simp, by simp, by simp⟩).mono ?_; rintro ev w8 ⟨rfl, hb8⟩))
  go_ret
  exact ⟨rfl, (HB.out.alloc HB.out.size _).trans (hb8.mono (by have := HB.out.size; simp; omega))⟩
end Go.Proofs.YtjkmklbkemoldaaDoor
