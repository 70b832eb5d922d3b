/-
  heddlelaw06.FrameSplits: its walk, given the program's frames.
-/
import Derived.Test.YtpbakejocjmkeaaDoorFSame
namespace Go.Proofs.YtpbakejocjmkeaaDoor
open Go.RowKit

set_option maxRecDepth 100000 in
set_option maxHeartbeats 1600000 in
theorem splits_any {Mem : World → Nat → (Nat → Prop) → FSt → Prop} (I : FImplS Mem) (n : Int) (b : Value) (bs : List Int) (w : World) (her : Er w) (hx : Sl w b bs) (hr : Rng bs) (hl : bs.length ≤ 16777216) :
    Calls Tryd.prog 4 #[.int .i64 n, b] w fun ev w' => ev = .returned (.bool true) ∧ Below w.heap.size w w' := by
  go_enter Tryd.func4, Tryd.ntmps4
  go_wp2_with fail
  refine (I.split n hx hr hl).mono ?_
  rintro ev w1 ⟨V1, v1, rfl, he1, hV1, hb1⟩
  have hx1 := hx.turned (Turned.ofBelow (S := fun _ => False) hb1) (fun _ _ h => h)
  go_wp2_with fail
  refine (ref_split n hx1 hr hl).mono ?_
  rintro ev w2 ⟨V2, v2, rfl, hl2, hV2, hb2⟩
  have B2 := hb1.trans (hb2.mono hb1.size)
  have hsm := same_any (hV1.below hb2) hV2
  have he2 : ErrsF w.heap.size w2 v1 (splitAny n bs).1 := he1.turned (Turned.ofBelow (S := fun _ => False) hb2) (fun _ _ _ h => h)
  have HE : Hid (ErrsF w.heap.size w2 v1 (splitAny n bs).1) := he2
  have HL : Hid (LinksF w1.heap.size w2 v2 (splitAny n bs).1) := hl2
  have HB : Hid (Below w.heap.size w w2) := B2
  generalize (splitAny n bs).2.2 = K
  clear hx hx1 hV1 hV2 hb1 hb2 he1 hl2 B2 he2
  go_wp2_with fail
  refine hsm.mono ?_
  rintro ev w3 ⟨rfl, hb3⟩
  have B3 : Below w.heap.size w w3 := HB.out.trans (hb3.mono HB.out.size)
  have hrf := refused_bothF (her.below B3) (HE.out.turned (Turned.ofBelow (S := fun _ => False) hb3) (fun _ _ _ h => h)) (HL.out.turned (Turned.ofBelow (S := fun _ => False) hb3) (fun _ _ _ h => h))
  clear hb3
  go_wp2_with fail
  refine hrf.mono ?_
  rintro ev w4 ⟨rfl, hb4⟩
  go_wp2_with fail
  refine (awake_any I.toFImpl w4).mono ?_
  rintro ev w5 ⟨rfl, hb5⟩
  go_wp2
  go_ret
  have B4 := B3.trans (hb4.mono B3.size)
  exact ⟨rfl, B4.trans (hb5.mono B4.size)⟩
end Go.Proofs.YtpbakejocjmkeaaDoor
