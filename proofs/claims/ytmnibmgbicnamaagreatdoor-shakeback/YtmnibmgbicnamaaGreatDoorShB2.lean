/-
  Layer 1 (atom): the program's Node; layer 8 (shake): its names.
-/
import Derived.Test.YtmnibmgbicnamaaGreatDoorShB
import Derived.Test.YtmnibmgbicnamaaGreatDoorChain2
namespace Go.Proofs.YtmnibmgbicnamaaGreatDoor
open Go.RowKit

set_option maxRecDepth 100000 in
set_option maxHeartbeats 1600000 in
/-- strings.Cut at '@'. -/
theorem cut_at (s : ByteArray) (hs : s.size ≤ 4611686018427387904) (w : World) : Calls Tryz.prog 107 #[.string s, .string ⟨#[64]⟩] w fun e w' =>
    ((64 : UInt8) ∉ s.data.toList ∧ e = .returned (.tuple #[.string s, .string ⟨#[]⟩, .bool false]) ∨ ∃ a b : ByteArray, s.data.toList = a.data.toList ++ 64 :: b.data.toList ∧ (64 : UInt8) ∉ a.data.toList ∧ e = .returned (.tuple #[.string a, .string b, .bool true])) ∧ ∃ n, w' = w.drewN n := by
  have hix := Tryz.stringslite_Index_one s 64 w
  rcases indexByte_cases 64 s.data.toList with ⟨h1, h2⟩ | ⟨l1, l2, h1, h2, h3⟩
  · rw [h1] at hix
    have HM : Hid ((64 : UInt8) ∉ s.data.toList) := h2
    clear h1 h2
    go_enter Tryz.func107, Tryz.ntmps107
    go_wp2_with fail
    refine hix.mono ?_
    rintro e w' ⟨rfl, rfl⟩
    go_wp2
    go_ret3
    exact ⟨.inl ⟨HM.out, rfl⟩, 0, rfl⟩
  · rw [h1] at hix
    have hz : s.size = l1.length + 1 + l2.length := by
      have := congrArg List.length h2
      simp at this
      have e : s.data.size = s.size := rfl
      omega
    obtain ⟨n, hn⟩ : ∃ n, n = l1.length := ⟨_, rfl⟩
    have HM : Hid (s.data.toList = l1 ++ 64 :: l2 ∧ (64 : UInt8) ∉ l1 ∧ n = l1.length) := ⟨h2, h3, hn⟩
    rw [← hn] at hix hz
    clear hn
    have c1 : (0 : Int) ≤ (n : Int) := by omega
    have c2 : (n : Int) ≤ (s.size : Int) := by omega
    have c3 : (0 : Int) ≤ (n : Int) + 1 := by omega
    have c4 : (n : Int) + 1 ≤ (s.size : Int) := by omega
    clear h1 h2 h3
    go_enter Tryz.func107, Tryz.ntmps107
    go_wp2_with fail
    refine hix.mono ?_
    rintro e w' ⟨rfl, rfl⟩
    go_wp2_with fail
    go_quiet (fail)
    go_wp2
    go_ret3
    obtain ⟨h2, h3, rfl⟩ := HM.out
    have e1 : (s.extract 0 l1.length).data.toList = l1 := by simp [h2]
    have e2 : (s.extract (l1.length + 1) (l1.length + 1 + l2.length)).data.toList = l2 := by simp [h2]
    exact ⟨.inr ⟨_, _, by rw [e1, e2]; exact h2, by rw [e1]; exact h3, rfl⟩, _, rfl⟩

theorem drewN_below (w : World) (n : Nat) : Below w.heap.size w (w.drewN n) := ⟨rfl, rfl, rfl, Nat.le_refl _, fun _ _ => rfl⟩
set_option maxRecDepth 100000 in
theorem cut_any (s : ByteArray) (hs : s.size ≤ 4611686018427387904) (w : World) : Calls Tryz.prog 88 #[.string s, .string ⟨#[64]⟩] w fun e w' =>
    ((64 : UInt8) ∉ s.data.toList ∧ e = .returned (.tuple #[.string s, .string ⟨#[]⟩, .bool false]) ∨ ∃ a b : ByteArray, s.data.toList = a.data.toList ++ 64 :: b.data.toList ∧ (64 : UInt8) ∉ a.data.toList ∧ e = .returned (.tuple #[.string a, .string b, .bool true])) ∧ ∃ n, w' = w.drewN n := by
  have hc := cut_at s hs w
  go_enter Tryz.func88, Tryz.ntmps88
  go_wp2_with fail
  refine hc.mono ?_
  rintro e w1 ⟨h, n, rfl⟩
  rcases h with ⟨h, rfl⟩ | ⟨a, b, h1, h2, rfl⟩
  · go_wp2
    go_ret3
    exact ⟨.inl ⟨h, rfl⟩, n, rfl⟩
  · have HH : Hid (s.data.toList = a.data.toList ++ 64 :: b.data.toList ∧ (64 : UInt8) ∉ a.data.toList) := ⟨h1, h2⟩
    clear h1 h2
    go_wp2
    go_ret3
    exact ⟨.inr ⟨a, b, HH.out.1, HH.out.2, rfl⟩, n, rfl⟩

set_option maxRecDepth 100000 in
set_option maxHeartbeats 1600000 in
/-- The program's Node. -/
theorem at_node (s : ByteArray) (hs : s.size ≤ 4611686018427387904) (w : World) : Calls Tryz.prog 66 #[.string s] w fun e w' => ∃ x y v, e = .returned (.tuple #[.string x, .string y, v]) ∧ FaultC w.heap.size w' v (if nodeOk s = true then [] else [⟨lyAtom, 0, 24⟩]) ∧ Below w.heap.size w w' := by
  have hc := cut_any s hs w
  obtain ⟨ls, hls⟩ : ∃ ls, ls = if nodeOk s = true then [] else [(⟨lyAtom, 0, 24⟩ : Lnk)] := ⟨_, rfl⟩
  rw [← hls]
  have HLS : Hid (ls = if nodeOk s = true then [] else [(⟨lyAtom, 0, 24⟩ : Lnk)]) := hls
  clear hls
  go_enter Tryz.func66, Tryz.ntmps66
  go_wp2_with fail
  refine hc.mono ?_
  rintro e w1 ⟨h, n, rfl⟩
  have hbn := drewN_below w n
  have HBN : Hid (Below w.heap.size w (w.drewN n)) := hbn
  clear hbn hc
  generalize w.drewN n = w1 at HBN ⊢
  have RET : Hid (∀ (v : Value) (w2 : World), nodeOk s = false → FaultC w1.heap.size w2 v [⟨lyAtom, 0, 24⟩] → Below w1.heap.size w1 w2 → FaultC w.heap.size w2 v ls ∧ Below w.heap.size w w2) := fun v w2 hn hf hb => by
    rw [HLS.out, if_neg (by rw [hn]; decide)]
    exact ⟨hf.mono HBN.out.size, HBN.out.trans (hb.mono HBN.out.size)⟩
  rcases h with ⟨h, rfl⟩ | ⟨a, b, h1, h2, rfl⟩
  · have hno := node_miss s h
    have HNO : Hid (nodeOk s = false) := hno
    clear hno h
    go_wp2_with fail
    refine (at_refuse _ _ _).mono ?_
    rintro e w2 ⟨v, rfl, hf, hb⟩
    have HF : Hid (FaultC w1.heap.size w2 v [⟨lyAtom, 0, 24⟩]) := hf
    obtain ⟨pb, _, rfl, _⟩ := hf
    go_wp2
    go_ret3
    exact ⟨_, _, _, rfl, RET.out _ _ HNO.out HF.out hb⟩
  · have hno := node_hit s a b h1 h2
    have hz : s.size = a.size + 1 + b.size := by
      have hn : nums s = nums a ++ 64 :: nums b := by simp only [nums, h1]; simp
      have := congrArg List.length hn
      simp only [nums_length, List.length_append, List.length_cons] at this
      omega
    have hpa := at_part a (by omega) false
    have hpb := at_part b (by omega) true
    clear h1 h2
    by_cases h64 : s.size ≤ 64
    · have h64i : ¬ (64 : Int) < (s.size : Int) := by omega
      rw [decide_eq_true h64, Bool.true_and] at hno
      cases ha : partB false a with
      | false =>
        rw [ha] at hno hpa
        have HNO : Hid (nodeOk s = false) := hno
        clear hno ha
        go_wp2_with fail
        refine (hpa _).mono ?_
        rintro e w1' ⟨rfl, rfl⟩
        go_wp2_with fail
        refine (at_refuse _ _ _).mono ?_
        rintro e w2 ⟨v, rfl, hf, hb⟩
        have HF : Hid (FaultC w1.heap.size w2 v [⟨lyAtom, 0, 24⟩]) := hf
        obtain ⟨pb, _, rfl, _⟩ := hf
        go_wp2
        go_ret3
        exact ⟨_, _, _, rfl, RET.out _ _ HNO.out HF.out hb⟩
      | true =>
        rw [ha, Bool.true_and] at hno
        rw [ha] at hpa
        clear ha
        cases hb : partB true b with
        | false =>
          rw [hb] at hno hpb
          have HNO : Hid (nodeOk s = false) := hno
          clear hno hb
          go_wp2_with fail
          refine (hpa _).mono ?_
          rintro e w1' ⟨rfl, rfl⟩
          go_wp2_with fail
          refine (hpb _).mono ?_
          rintro e w1' ⟨rfl, rfl⟩
          go_wp2_with fail
          refine (at_refuse _ _ _).mono ?_
          rintro e w2 ⟨v, rfl, hf, hb⟩
          have HF : Hid (FaultC w1.heap.size w2 v [⟨lyAtom, 0, 24⟩]) := hf
          obtain ⟨pb, _, rfl, _⟩ := hf
          go_wp2
          go_ret3
          exact ⟨_, _, _, rfl, RET.out _ _ HNO.out HF.out hb⟩
        | true =>
          rw [hb] at hno hpb
          have HNO : Hid (nodeOk s = true) := hno
          clear hno hb
          go_wp2_with fail
          refine (hpa _).mono ?_
          rintro e w1' ⟨rfl, rfl⟩
          go_wp2_with fail
          refine (hpb _).mono ?_
          rintro e w1' ⟨rfl, rfl⟩
          go_wp2
          go_ret3
          exact ⟨_, _, _, rfl, by rw [HLS.out, if_pos HNO.out]; rfl, HBN.out⟩
    · have h64i : (64 : Int) < (s.size : Int) := by omega
      rw [decide_eq_false h64, Bool.false_and, Bool.false_and] at hno
      have HNO : Hid (nodeOk s = false) := hno
      clear hno
      go_wp2_with fail
      refine (at_refuse _ _ _).mono ?_
      rintro e w2 ⟨v, rfl, hf, hb⟩
      have HF : Hid (FaultC w1.heap.size w2 v [⟨lyAtom, 0, 24⟩]) := hf
      obtain ⟨pb, _, rfl, _⟩ := hf
      go_wp2
      go_ret3
      exact ⟨_, _, _, rfl, RET.out _ _ HNO.out HF.out hb⟩

set_option maxRecDepth 100000 in
set_option maxHeartbeats 1600000 in
theorem sh_wrap_one (a : Int) (y : Lnk) {B : Nat} {w : World} {v : Value} (her : Er w) (hv : FaultC B w v [y]) : Calls Tryz.prog 67 #[.int .i64 a, v] w fun e w' => ∃ v', e = .returned v' ∧ FaultC B w' v' [⟨lyShake, a, y.code⟩, y] ∧ Below w.heap.size w w' := by
  obtain ⟨pb, hpB, rfl, hf⟩ := hv
  have hlt := hf.lt
  have HF : Hid (FCell w pb y.layer y.at_ y.code .nilIface) := hf
  clear hf
  go_enter Tryz.func67, Tryz.ntmps67
  go_wp2_with fail
  refine (as_fault ⟨pb, 0, none⟩ w.heap.size (.pointer none) _ ?_ (by simp) (by simp)).mono ?_
  · rw [World.cell?_alloc_lt _ _ ⟨0, 0, none⟩ her.lt]; exact her
  rintro e w1 ⟨rfl, ht, hb, hz⟩
  have hbw : Below w.heap.size w w1 := ((Below.refl _ _).alloc (Nat.le_refl _) _).trans hb
  simp at hz
  have hf1 := HF.out.below hbw hlt
  obtain ⟨k0, k1, k2, k3⟩ := hf1
  have HB : Hid (Below w.heap.size w w1) := hbw
  clear hbw hb
  go_wp2
  go_ret
  refine ⟨_, rfl, ⟨w1.heap.size, pb, by omega, hpB, rfl, ⟨by simp; rfl, by simp, by simp, by simp⟩, ?_⟩, HB.out.alloc (by omega) _⟩
  exact (HF.out.below HB.out hlt).below ((Below.refl w1.heap.size w1).alloc (Nat.le_refl _) _) (by omega)
set_option maxRecDepth 100000 in
theorem sh_wrap_nil (a : Int) (w : World) : Calls Tryz.prog 67 #[.int .i64 a, .nilIface] w fun e w' => e = .returned .nilIface ∧ Below w.heap.size w w' := by
  go_enter Tryz.func67, Tryz.ntmps67
  go_wp2_with fail
  refine (as_nil _ _).mono ?_
  rintro e w1 ⟨rfl, rfl⟩
  go_wp2
  go_ret
  exact ⟨rfl, (Below.refl _ _).alloc (Nat.le_refl _) _⟩
set_option maxRecDepth 100000 in
/-- The program's look at a name. -/
theorem sh_name (a : Int) (s : ByteArray) (hs : s.size ≤ 4611686018427387904) (w : World) (her : Er w) : Calls Tryz.prog 31 #[.int .i64 a, .string s] w fun e w' => ∃ v, e = .returned v ∧ FaultC w.heap.size w' v (if nodeOk s = true then [] else shName a) ∧ Below w.heap.size w w' := by
  have hn := at_node s hs w
  cases hok : nodeOk s with
  | true =>
    rw [hok] at hn
    go_enter Tryz.func31, Tryz.ntmps31
    go_wp2_with fail
    refine hn.mono ?_
    rintro e w1 ⟨x, y, v, rfl, hf, hb⟩
    have hf : v = .nilIface := hf
    subst hf
    have HB : Hid (Below w.heap.size w w1) := hb
    clear hb hn
    go_wp2_with fail
    refine (sh_wrap_nil _ _).mono ?_
    rintro e w2 ⟨rfl, hb2⟩
    go_wp2
    go_ret
    exact ⟨_, rfl, rfl, HB.out.trans (hb2.mono HB.out.size)⟩
  | false =>
    rw [hok] at hn
    go_enter Tryz.func31, Tryz.ntmps31
    go_wp2_with fail
    refine hn.mono ?_
    rintro e w1 ⟨x, y, v, rfl, hf, hb⟩
    have hf : FaultC w.heap.size w1 v [⟨lyAtom, 0, 24⟩] := hf
    have hw := sh_wrap_one a ⟨lyAtom, 0, 24⟩ (her.below hb) hf
    have HB : Hid (Below w.heap.size w w1) := hb
    obtain ⟨pb, _, rfl, _⟩ := hf
    clear hb hn
    go_wp2_with fail
    refine hw.mono ?_
    rintro e w2 ⟨v2, rfl, hf2, hb2⟩
    go_wp2
    go_ret
    exact ⟨_, rfl, hf2, HB.out.trans (hb2.mono HB.out.size)⟩
end Go.Proofs.YtmnibmgbicnamaaGreatDoor
