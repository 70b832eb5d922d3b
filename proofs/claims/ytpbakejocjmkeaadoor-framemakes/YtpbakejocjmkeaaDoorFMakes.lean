/-
  heddlelaw06.FrameMakes: its walk, given the program's frames.
-/
import Derived.Test.YtpbakejocjmkeaaDoorF7
namespace Go.Proofs.YtpbakejocjmkeaaDoor
open Go.RowKit

set_option maxRecDepth 100000 in
set_option maxHeartbeats 1600000 in
theorem makes_any {Mem : World → Nat → (Nat → Prop) → FSt → Prop} (I : FImpl Mem) (n : Int) (b : Value) (bs : List Int) (w : World) (her : Er w) (hx : Sl w b bs) (hl : bs.length ≤ 140737488355328) :
    Calls Tryd.prog 3 #[.int .i64 n, b] w fun ev w' => ev = .returned (.bool true) ∧ Below w.heap.size w w' := by
  go_enter Tryd.func3, Tryd.ntmps3
  go_wp2_with fail
  refine (I.frame n hx hl).mono ?_
  rintro ev w1 ⟨V1, v1, rfl, he1, hV1, hb1, hk1⟩
  have hx1 := hx.turned (Turned.ofBelow (S := fun _ => False) hb1) (fun _ _ h => h)
  go_wp2_with fail
  refine (ref_frame n hx1).mono ?_
  rintro ev w2 ⟨V2, v2, rfl, hl2, hV2, hb2, hk2⟩
  have B2 := hb1.trans (hb2.mono hb1.size)
  have c1 := (hV1.turned (Turned.ofBelow (S := fun _ => False) hb2) (fun _ _ h => h)).str
  have c2 := hV2.str
  have hr := refused_bothF (her.below B2) (he1.turned (Turned.ofBelow (S := fun _ => False) hb2) (fun _ _ _ h => h)) hl2
  have HB : Hid (Below w.heap.size w w2) := B2
  clear hx hx1 hV1 hV2 hb1 hb2 hk1 hk2 he1 hl2 B2
  go_wp2_with fail
  refine hr.mono ?_
  rintro ev w3 ⟨rfl, hb3⟩
  go_wp2_with fail
  refine (awake_any I w3).mono ?_
  rintro ev w4 ⟨rfl, hb4⟩
  go_wp2
  go_ret
  have B3 := HB.out.trans (hb3.mono HB.out.size)
  exact ⟨rfl, B3.trans (hb4.mono B3.size)⟩
end Go.Proofs.YtpbakejocjmkeaaDoor
