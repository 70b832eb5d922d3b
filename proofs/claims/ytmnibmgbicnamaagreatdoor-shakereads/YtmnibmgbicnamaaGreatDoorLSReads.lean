/-
  heddlelaw08.ShakeReads: its walk.
-/
import Derived.Test.YtmnibmgbicnamaaGreatDoorKe
import Derived.Test.YtmnibmgbicnamaaGreatDoorKf
import Derived.Test.YtmnibmgbicnamaaGreatDoorKd
namespace Go.Proofs.YtmnibmgbicnamaaGreatDoor
open Go.RowKit

set_option maxRecDepth 100000 in
set_option maxHeartbeats 3200000 in
theorem reads_any (k : Int) (b : List Int) (hr : ∀ z ∈ b, 0 ≤ z ∧ z < 256) (hl : b.length ≤ 140737488355328) {w : World} {B : Value} (hB : Sl w B b) (hG : Gd w) :
    Calls Tryz.prog 4 #[.int .i64 k, B] w fun e w' => e = .returned (.bool true) ∧ Below w.heap.size w w' := by
  obtain ⟨aB, cB, rfl, _, _⟩ := hB.form
  have hrd := sh_read k hB hr hl hG.er
  have HB := Hid.mk7 hB
  have HG := Hid.mk7 hG
  have HRF : Hid (∀ W : World, Sl W (.slice aB b.length cB) b → Calls Tryz.prog 14 #[.int .i64 k, .slice aB b.length cB] W (RReadTold k b W)) := fun W h => ref_Read k hr hl h
  unfold ReadTold at hrd
  unfold RReadTold at HRF
  generalize (readOf k b).1 = ls at hrd HRF
  generalize (readOf k b).2 = m at hrd HRF
  have haw : Hid (∀ W, Gd W → Calls Tryz.prog 12 #[] W fun e w' => e = .returned (.bool true) ∧ Below W.heap.size W w') := fun W h => law_awake h
  clear hB hG hr hl
  go_enter Tryz.func4, Tryz.ntmps4
  go_wp2_with fail
  refine hrd.mono ?_
  rintro e w1 ⟨D1, v1, rfl, hf1, hD1, _, hb1⟩
  obtain ⟨a1, c1, rfl, _, _⟩ := hD1.form
  have hvf := fault_form hf1
  obtain ⟨wa, hwa⟩ : ∃ wa, wa = w1.alloc (.cells #[.int .i64 m.kind, .int .u64 m.flags, .int .u32 m.creation, .int .u32 m.challenge, .string m.name, .string m.status, .slice a1 m.digest.length c1] 27) := ⟨_, rfl⟩
  have ba : Below w1.heap.size w1 wa := by rw [hwa]; exact (Below.refl _ _).alloc (Nat.le_refl _) _
  have hma : MsgAt wa w1.heap.size m (.slice a1 m.digest.length c1) := by rw [hwa]; exact ⟨by simp, by simp, by simp, by simp, by simp, by simp, by simp⟩
  have H1 : Hid (Below w.heap.size w wa ∧ FaultC w.heap.size wa v1 ls ∧ Sl wa (.slice a1 m.digest.length c1) m.digest ∧ MsgAt wa w1.heap.size m (.slice a1 m.digest.length c1)) := ⟨hb1.trans (ba.mono hb1.size), hf1.below ba, hD1.turned (Turned.ofBelow (S := fun _ => False) ba) (fun _ _ h => h), hma⟩
  have hrf := HRF.out wa (HB.out.turned (Turned.ofBelow (S := fun _ => False) H1.out.1) (fun _ _ h => h))
  have HWA := Hid.mk7 hwa
  unfold msgV' at hrf ⊢
  clear hf1 hD1 hb1 ba hma hwa HRF hrd
  go_wp2_with fail
  rw [← HWA.out]
  refine hrf.mono ?_
  rintro e w2 ⟨D2, v2, rfl, hl2, hD2, hb2⟩
  obtain ⟨a2, c2, rfl, _, _⟩ := hD2.form
  obtain ⟨al, Ll, cl, hvl⟩ := links_form hl2
  subst hvl
  obtain ⟨wb, hwb⟩ : ∃ wb, wb = w2.alloc (.cells #[.int .i64 m.kind, .int .u64 m.flags, .int .u32 m.creation, .int .u32 m.challenge, .string m.name, .string m.status, .slice a2 m.digest.length c2] 27) := ⟨_, rfl⟩
  have bb : Below w2.heap.size w2 wb := by rw [hwb]; exact (Below.refl _ _).alloc (Nat.le_refl _) _
  have hmb : MsgAt wb w2.heap.size m (.slice a2 m.digest.length c2) := by rw [hwb]; exact ⟨by simp, by simp, by simp, by simp, by simp, by simp, by simp⟩
  obtain ⟨q1, q2, q3, q4⟩ := H1.out
  have bab : Below wa.heap.size wa wb := hb2.trans (bb.mono hb2.size)
  have H2 : Hid (Below w.heap.size w wb ∧ FaultC w.heap.size wb v1 ls ∧ LinksC wa.heap.size wb (.slice al Ll cl) ls ∧ Sl wb (.slice a1 m.digest.length c1) m.digest ∧ Sl wb (.slice a2 m.digest.length c2) m.digest) := ⟨q1.trans (bab.mono q1.size), q2.below bab, hl2.below bb, q3.turned (Turned.ofBelow (S := fun _ => False) bab) (fun _ _ h => h), hD2.turned (Turned.ofBelow (S := fun _ => False) bb) (fun _ _ h => h)⟩
  obtain ⟨m0, m1, m2, m3, m4, m5, m6⟩ := q4.below bab
  obtain ⟨n0, n1, n2, n3, n4, n5, n6⟩ := hmb
  have hsm := ref_same_eq m H2.out.2.2.2.1 H2.out.2.2.2.2
  have HWB := Hid.mk7 hwb
  rw [hwb] at m0 m1 m2 m3 m4 m5 m6 n0 n1 n2 n3 n4 n5 n6
  have hzz : w1.heap.size < w2.heap.size := by have h1 := q4.lt; have h2 := hb2.size; omega
  unfold msgV' at hsm
  clear hl2 hD2 hb2 bb bab q1 q2 q3 q4 hrf hwb H1
  go_wp2_with fail
  rw [← HWB.out]
  refine hsm.mono ?_
  rintro e w3 ⟨rfl, hb3⟩
  have B3 : Below w.heap.size w w3 := H2.out.1.trans (hb3.mono H2.out.1.size)
  have hre := refused_bothC (HG.out.below B3).er (H2.out.2.1.below hb3) (H2.out.2.2.1.below hb3)
  have H3 := Hid.mk7 B3
  clear hb3 hsm m0 m1 m2 m3 m4 m5 m6 n0 n1 n2 n3 n4 n5 n6 H2 B3
  rcases hvf with rfl | ⟨p, rfl⟩
  all_goals
    go_wp2_with fail
    refine hre.mono ?_
    rintro e w4 ⟨rfl, hb4⟩
    have H4 : Hid (Below w.heap.size w w4) := H3.out.trans (hb4.mono H3.out.size)
    clear hb4 hre H3
    go_wp2_with fail
    refine (haw.out _ (HG.out.below H4.out)).mono ?_
    rintro e w5 ⟨rfl, hb5⟩
    have H5 : Hid (Below w.heap.size w w5) := H4.out.trans (hb5.mono H4.out.size)
    clear hb5 H4
    go_wp2
    go_ret
    exact ⟨rfl, H5.out⟩
end Go.Proofs.YtmnibmgbicnamaaGreatDoor
