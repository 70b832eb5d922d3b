/-
  heddlelaw07.MixCookies, MixDigests: their walks, given the program's mix.
-/
import Derived.Test.YtldpolbgdhgomaaDoorM3
namespace Go.Proofs.YtldpolbgdhgomaaDoor
open Go.RowKit

set_option maxRecDepth 100000 in
theorem cookies_any (I : MImpl) (s : ByteArray) (hs : s.size ≤ 4611686018427387904) (w : World) (her : Er w) (htb : Tb w) : Calls Tryd.prog 3 #[.string s] w fun ev w' => ev = .returned (.bool true) ∧ Below w.heap.size w w' := by
  go_enter Tryd.func3, Tryd.ntmps3
  go_wp2_with fail
  refine (I.cookie s hs w).mono ?_
  rintro ev w1 ⟨v1, rfl, he1, hb1⟩
  go_wp2_with fail
  refine (ref_cookie s hs w1).mono ?_
  rintro ev w2 ⟨v2, rfl, hl2, hb2⟩
  have B2 := hb1.trans (hb2.mono hb1.size)
  have hrf := refused_bothM (her.below B2) (he1.below hb2) hl2
  have HB : Hid (Below w.heap.size w w2) := B2
  clear he1 hl2 hb1 hb2 B2
  go_wp2_with fail
  refine hrf.mono ?_
  rintro ev w3 ⟨rfl, hb3⟩
  have HB3 : Hid (Below w.heap.size w w3) := HB.out.trans (hb3.mono HB.out.size)
  clear hb3
  go_wp2_with fail
  refine (alive_any I w3 (htb.below HB3.out)).mono ?_
  rintro ev w4 ⟨rfl, hb4⟩
  go_wp2
  go_ret
  exact ⟨rfl, HB3.out.trans (hb4.mono HB3.out.size)⟩
set_option maxRecDepth 100000 in
theorem digests_any (I : MImpl) (s : ByteArray) (hs : s.size ≤ 4611686018427387904) (n : Nat) (hn : n < 4294967296) (w : World) (her : Er w) (htb : Tb w) : Calls Tryd.prog 4 #[.string s, .int .u32 n] w fun ev w' => ev = .returned (.bool true) ∧ Below w.heap.size w w' := by
  go_enter Tryd.func4, Tryd.ntmps4
  go_wp2_with fail
  refine (I.digest s hs n hn w htb).mono ?_
  rintro ev w1 ⟨V1, v1, rfl, he1, ho1, hb1, _⟩
  have H1 : Hid (ErrsM w.heap.size w1 v1 (cookieErr s) ∧ Own w1 V1 (digestTold s n) ∧ Below w.heap.size w w1) := ⟨he1, ho1, hb1⟩
  clear he1 ho1 hb1
  go_wp2_with fail
  refine (ref_digest s hs n hn w1).mono ?_
  rintro ev w2 ⟨V2, v2, rfl, hl2, ho2, hb2, _⟩
  obtain ⟨he1, ho1, hb1⟩ := H1.out
  have B2 := hb1.trans (hb2.mono hb1.size)
  have hrf := refused_bothM (her.below B2) (he1.below hb2) hl2
  have hcx := (ho1.turned (Turned.ofBelow (S := fun _ => False) hb2) (fun _ _ h => h)).sl.str
  have hcy := ho2.sl.str
  obtain ⟨a1, c1, L1, rfl⟩ : ∃ a c L, V1 = .slice a L c := ⟨_, _, _, ho1.sl.form.choose_spec.choose_spec.1⟩
  obtain ⟨a2, c2, L2, rfl⟩ : ∃ a c L, V2 = .slice a L c := ⟨_, _, _, ho2.sl.form.choose_spec.choose_spec.1⟩
  have HB : Hid (Below w.heap.size w w2) := B2
  generalize strOfNums (digestTold s n) = tx at hcx hcy
  clear he1 hl2 hb1 hb2 B2 ho1 ho2 H1
  go_wp2_with fail
  refine hrf.mono ?_
  rintro ev w3 ⟨rfl, hb3⟩
  have HB3 : Hid (Below w.heap.size w w3) := HB.out.trans (hb3.mono HB.out.size)
  clear hb3
  go_wp2_with fail
  refine (alive_any I w3 (htb.below HB3.out)).mono ?_
  rintro ev w4 ⟨rfl, hb4⟩
  go_wp2
  go_ret
  exact ⟨rfl, HB3.out.trans (hb4.mono HB3.out.size)⟩
end Go.Proofs.YtldpolbgdhgomaaDoor
