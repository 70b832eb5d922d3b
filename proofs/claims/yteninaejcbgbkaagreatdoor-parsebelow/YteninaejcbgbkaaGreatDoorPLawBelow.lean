/-
  heddlelaw11.ParseBelow: the law's walk.
-/
import Derived.Test.YteninaejcbgbkaaGreatDoorPZ
import Derived.Test.YteninaejcbgbkaaGreatDoorPY
namespace Go.Proofs.YteninaejcbgbkaaGreatDoor
open Go.RowKit

set_option maxRecDepth 100000 in
set_option maxHeartbeats 3200000 in
theorem law_below {w : World} {lv rv : Value} {K : List (Value × List Int)} {roots : List Int} (hL : NArg w lv K) (hR : SlA w rv roots) (hK : K.length ≤ 2199023255552) (hw : SgAt w) :
    Calls Tryz.prog 3 #[lv, rv] w fun x w' => x = .returned (.bool true) ∧ Below w.heap.size w w' := by
  have h1 := ps_Below hL hR hK
  have HLR := Hid.mk7 (And.intro hL (And.intro hR hw))
  have hll := belowS_le K.length (kidsOf K) roots
  obtain ⟨aL, cL, hlv⟩ := hL.form
  subst hlv
  obtain ⟨aR, cR, hrv, hrl⟩ := hR.form
  subst hrv
  generalize hB : belowS K.length (kidsOf K) roots = L at h1 hll
  have HB := Hid.mk7 hB
  clear hL hR hw hB
  go_enter Tryz.func3, Tryz.ntmps3
  go_wp2_with fail
  refine h1.mono ?_
  rintro x w1 ⟨V1, rfl, ho1, hb1, _⟩
  have h2 := ref_Below (HLR.out.1.below hb1) (HLR.out.2.1.below hb1) hK
  rw [HB.out] at h2
  obtain ⟨a1, c1, hV1, _⟩ := OwnK.sl ho1 |>.form
  subst hV1
  have H1 := Hid.mk7 (And.intro ho1 hb1)
  clear h1 ho1 hb1
  go_wp2_with fail
  refine h2.mono ?_
  rintro x w2 ⟨V2, rfl, ho2, hb2, _⟩
  obtain ⟨a2, c2, hV2, _⟩ := OwnK.sl ho2 |>.form
  subst hV2
  have s1 := SlI.any (l := L) (OwnK.sl (OwnK.turned H1.out.1 (Turned.ofBelow (S := fun _ => False) hb2) (fun _ _ e => e))) (by omega)
  have s2 := SlI.any (l := L) (OwnK.sl ho2) (by omega)
  have H2 := Hid.mk7 (And.intro s1 (And.intro s2 (H1.out.2.trans (hb2.mono H1.out.2.size))))
  clear h2 ho2 hb2 s1 s2
  go_wp2_with fail
  go_loopw [7] (fun ix wr => ∃ j : Nat, j ≤ L.length ∧ ix = .int .i64 j ∧ ∃ n, wr = w2.drewN n) (fun ix _ => L.length - (intOf ix).toNat)
  case atStart => exact ⟨0, Nat.zero_le _, rfl, 0, rfl⟩
  case round =>
    obtain ⟨j, hj, rfl, n, rfl⟩ := hrel
    by_cases hlt : j < L.length
    · have hji : (j : Int) < (L.length : Int) := by omega
      obtain ⟨b1, o1, rfl, d1⟩ := H2.out.1.at j hlt
      obtain ⟨b2, o2, rfl, d2⟩ := H2.out.2.1.at j hlt
      go_wp2_with fail
      go_quiet (fail)
      go_wp2
      go_roundw
      case rel => exact ⟨j + 1, by omega, by go_num, _, rfl⟩
      case measure => simp [intOf]; omega
    · have hge : ¬ (j : Int) < (L.length : Int) := by omega
      have hb2 := H2.out.2.2.trans ((drewN_below w2 n).mono H2.out.2.2.size)
      have hal := law_alive (HLR.out.2.2.below hb2)
      have HB2 := Hid.mk7 hb2
      clear hb2
      go_wp2_with fail
      refine hal.mono ?_
      rintro x w3 ⟨rfl, hb3⟩
      have H3 := Hid.mk7 (HB2.out.trans (hb3.mono HB2.out.size))
      clear hal hb3
      go_wp2
      go_ret
      exact ⟨rfl, H3.out⟩
end Go.Proofs.YteninaejcbgbkaaGreatDoor
