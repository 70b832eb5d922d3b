/-
  heddlelaw08.ShakeOwn: its walk.
-/
import Derived.Test.YtmnibmgbicnamabGreatDoorKd
import Derived.Test.YtmnibmgbicnamabGreatDoorKf
import Derived.Test.YtmnibmgbicnamabGreatDoorLBytesW
namespace Go.Proofs.YtmnibmgbicnamabGreatDoor
open Go.RowKit

def Writes (w : World) (v : Value) (L : Nat) : Prop := ∃ a c, v = .slice a L c ∧ ∀ j, j < L → ∃ g off, a = some ⟨g, off, none⟩ ∧ (w.cell? ⟨g, off + j, none⟩).isSome = true ∧ w.frozen? ⟨g, off + j, none⟩ = false
theorem Own.writes {w : World} {v : Value} {zs : List Int} (h : Own w v zs) : Writes w v zs.length := by
  rcases h with ⟨rfl, rfl⟩ | ⟨g, off, cap, rfl, h2, h3, hg, h4, h5⟩
  · exact ⟨none, 0, rfl, fun j hj => absurd hj (Nat.not_lt_zero j)⟩
  · exact ⟨_, cap, rfl, fun j hj => ⟨g, off, rfl, h5 j (by omega)⟩⟩
theorem Writes.turned {S : Nat → Prop} {w w' : World} {v : Value} {L : Nat} (h : Writes w v L) (ht : Turned S w w') (hs : ∀ k, blk v k → ¬ S k) : Writes w' v L := by
  obtain ⟨a, c, rfl, h⟩ := h
  refine ⟨a, c, rfl, fun j hj => ?_⟩
  obtain ⟨g, off, rfl, h1, h2⟩ := h j hj
  obtain ⟨u, hu⟩ := Option.isSome_iff_exists.1 h1
  exact ⟨g, off, rfl, by rw [ht.cell hu (hs g rfl)]; rfl, by rw [ht.frozen (p := ⟨g, off + j, none⟩) (World.block_lt_of_cell? w _ hu) (hs g rfl)]; exact h2⟩
theorem Writes.set {w : World} {v : Value} {L : Nat} (h : Writes w v L) {g o : Nat} {u x : Value} (hu : w.cell? ⟨g, o, none⟩ = some u) : Writes (w.setCell ⟨g, o, none⟩ x) v L := by
  obtain ⟨a, c, rfl, h⟩ := h
  refine ⟨a, c, rfl, fun j hj => ?_⟩
  obtain ⟨g', off, rfl, h1, h2⟩ := h j hj
  refine ⟨g', off, rfl, ?_, by rw [World.frozen?_setCell]; exact h2⟩
  by_cases he : (⟨g, o, none⟩ : Addr) = ⟨g', off + j, none⟩
  · rw [← he, World.cell?_setCell_same _ _ _ hu]; rfl
  · rw [World.cell?_setCell_other _ _ _ _ he]; exact h1

/-- What lies there while ShakeOwn runs. -/
structure OS (w w1 W : World) (m : Msg) (b : List Int) (V1 V2 D B : Value) : Prop where
  bw : Below w.heap.size w W
  mm : MsgAt W w.heap.size m D
  nn : MsgAt W w1.heap.size m V2
  c : Own W V1 b
  d : Own W V2 m.digest
  sd : Sl W D m.digest
  sb : Sl W B b
theorem OS.below {w w1 W W' : World} {m : Msg} {b : List Int} {V1 V2 D B : Value} (h : OS w w1 W m b V1 V2 D B) (hb : Below W.heap.size W W') : OS w w1 W' m b V1 V2 D B :=
  have t := Turned.ofBelow (S := fun _ => False) hb
  ⟨h.bw.trans (hb.mono h.bw.size), h.mm.below hb, h.nn.below hb, h.c.turned t (fun _ _ h => h), h.d.turned t (fun _ _ h => h), h.sd.turned t (fun _ _ h => h), h.sb.turned t (fun _ _ h => h)⟩
theorem MsgAt.turned8 {S : Nat → Prop} {w w' : World} {g : Nat} {m : Msg} {D : Value} (h : MsgAt w g m D) (ht : Turned S w w') (hs : ¬ S g) : MsgAt w' g m D := ⟨ht.cell h.c0 hs, ht.cell h.c1 hs, ht.cell h.c2 hs, ht.cell h.c3 hs, ht.cell h.c4 hs, ht.cell h.c5 hs, ht.cell h.c6 hs⟩
theorem own_two (w1 : World) (m : Msg) (D : Value) (hD : Sl w1 D m.digest) : Own ((w1.alloc (.cells #[.int .i64 m.kind, .int .u64 m.flags, .int .u32 m.creation, .int .u32 m.challenge, .string m.name, .string m.status, D] 49)).alloc (.cells #[] 5)) (.slice (some ⟨w1.heap.size + 1, 0, none⟩) 0 0) [] ∧ Sl ((w1.alloc (.cells #[.int .i64 m.kind, .int .u64 m.flags, .int .u32 m.creation, .int .u32 m.challenge, .string m.name, .string m.status, D] 49)).alloc (.cells #[] 5)) D m.digest := by
  refine ⟨?_, (hD.turned (Turned.alloc (fun _ => False) _ _) (fun _ _ h => h)).turned (Turned.alloc (fun _ => False) _ _) (fun _ _ h => h)⟩
  have h := Sl.zero (w1.alloc (.cells #[.int .i64 m.kind, .int .u64 m.flags, .int .u32 m.creation, .int .u32 m.challenge, .string m.name, .string m.status, D] 49)) 5
  rw [World.size_alloc] at h
  exact h
theorem own_three {w1 w2 : World} {m : Msg} {D V2 : Value} (ho : Own w2 V2 ([] ++ m.digest)) (ht : Turned (blk (.slice (some ⟨w1.heap.size + 1, 0, none⟩) 0 0)) ((w1.alloc (.cells #[.int .i64 m.kind, .int .u64 m.flags, .int .u32 m.creation, .int .u32 m.challenge, .string m.name, .string m.status, D] 49)).alloc (.cells #[] 5)) w2) (hb : ∀ k, blk V2 k → blk (.slice (some ⟨w1.heap.size + 1, 0, none⟩) 0 0) k ∨ k = ((w1.alloc (.cells #[.int .i64 m.kind, .int .u64 m.flags, .int .u32 m.creation, .int .u32 m.challenge, .string m.name, .string m.status, D] 49)).alloc (.cells #[] 5)).heap.size) :
    MsgB w2 w1.heap.size m D ∧ Own w2 V2 m.digest ∧ Below w1.heap.size w1 w2 ∧ ∀ k, blk V2 k → w1.heap.size < k := by
  refine ⟨Block.turned (Block.turned (MsgB.ofNew w1 m D 49) (Turned.alloc (fun _ => False) _ _) (fun h => h)) ht (fun h => by have h : w1.heap.size + 1 = w1.heap.size := h; omega), ho, (((Below.refl _ _).alloc (Nat.le_refl _) _).alloc (by simp) _).trans (ht.below (by simp; omega) (fun k hk => by have hk : w1.heap.size + 1 = k := hk; omega)), fun k hk => (hb k hk).elim (fun h => by have h : w1.heap.size + 1 = k := h; omega) (fun h => by simp at h; omega)⟩
set_option maxRecDepth 100000 in
set_option maxHeartbeats 6400000 in
theorem own_any (m : Msg) (hm : m.Ok) (hns : m.name.size ≤ 4611686018427387904) (hdl : m.digest.length ≤ 140737488355328) (k : Int) (b : List Int) (hr : ∀ z ∈ b, 0 ≤ z ∧ z < 256) (hl : b.length ≤ 140737488355328) {w : World} {D B : Value} (hD : Sl w D m.digest) (hB : Sl w B b) (hG : Gd w) :
    Calls Tryz.prog 4 #[msgV' m D, .int .i64 k, B] w fun e w' => e = .returned (.bool true) ∧ Below w.heap.size w w' := by
  obtain ⟨aD, cD, rfl, _, _⟩ := hD.form
  obtain ⟨aB, cB, rfl, _, _⟩ := hB.form
  obtain ⟨wa, hwa⟩ : ∃ wa, wa = w.alloc (.cells #[.int .i64 m.kind, .int .u64 m.flags, .int .u32 m.creation, .int .u32 m.challenge, .string m.name, .string m.status, .slice aD m.digest.length cD] 49) := ⟨_, rfl⟩
  have ba : Below w.heap.size w wa := by rw [hwa]; exact (Below.refl _ _).alloc (Nat.le_refl _) _
  have hma : MsgAt wa w.heap.size m (.slice aD m.digest.length cD) := by rw [hwa]; exact ⟨by simp, by simp, by simp, by simp, by simp, by simp, by simp⟩
  have H0 : Hid (Below w.heap.size w wa ∧ MsgAt wa w.heap.size m (.slice aD m.digest.length cD)) := ⟨ba, hma⟩
  have HM : Hid (m.Ok ∧ m.name.size ≤ 4611686018427387904) := ⟨hm, hns⟩
  have HD := Hid.mk7 hD
  have HB := Hid.mk7 hB
  have HG := Hid.mk7 hG
  have HR := Hid.mk7 hr
  have HLB := Hid.mk7 hl
  have HWA := Hid.mk7 hwa
  have HMV : Hid (∀ D, msgV' m D = .agg #[.int .i64 m.kind, .int .u64 m.flags, .int .u32 m.creation, .int .u32 m.challenge, .string m.name, .string m.status, D]) := fun _ => rfl
  rw [HMV.out]
  clear hD hB hG ba hma hm hns hr
  go_enter Tryz.func4, Tryz.ntmps4
  have hoe : Own (wa.alloc (.cells #[] 5)) (.slice (some ⟨wa.heap.size, 0, none⟩) 0 0) [] := Sl.zero wa _
  have hzA : wa.heap.size = w.heap.size + 1 := by rw [HWA.out]; simp
  have hbx : Sl (wa.alloc (.cells #[] 5)) (.slice aB b.length cB) b := (HB.out.turned (Turned.ofBelow (S := fun _ => False) H0.out.1) (fun _ _ h => h)).turned (Turned.alloc (fun _ => False) _ _) (fun _ _ h => h)
  have hfit : ([] : List Int).length + b.length ≤ 140737488355328 := by simpa using hl
  have HAP : Hid (∀ w1 V1, Own w1 V1 ([] ++ b) → Turned (blk (.slice (some ⟨w.heap.size + 1, 0, none⟩) 0 0)) ((w.alloc (.cells #[.int .i64 m.kind, .int .u64 m.flags, .int .u32 m.creation, .int .u32 m.challenge, .string m.name, .string m.status, .slice aD m.digest.length cD] 49)).alloc (.cells #[] 5)) w1 → (∀ k, blk V1 k → blk (.slice (some ⟨w.heap.size + 1, 0, none⟩) 0 0) k ∨ k = ((w.alloc (.cells #[.int .i64 m.kind, .int .u64 m.flags, .int .u32 m.creation, .int .u32 m.challenge, .string m.name, .string m.status, .slice aD m.digest.length cD] 49)).alloc (.cells #[] 5)).heap.size) → Own w1 V1 b ∧ Below wa.heap.size wa w1 ∧ ∀ k, blk V1 k → wa.heap.size ≤ k) := fun w1 V1 h1 h2 h3 => by
    rw [← HWA.out, ← hzA] at h2 h3
    exact ⟨h1, ((Below.refl _ _).alloc (Nat.le_refl _) _).trans (h2.below (by simp) (fun k hk => Nat.le_of_eq hk)), fun k hk => (h3 k hk).elim (fun h => Nat.le_of_eq h) (fun h => by simp at h; omega)⟩
  have HZA := Hid.mk7 hzA
  rw [hzA] at hoe
  rw [HWA.out] at hoe hbx
  clear hzA
  have hfit2 : ([] : List Int).length + m.digest.length ≤ 140737488355328 := by simpa using hdl
  go_wp2_with (first
    | (at_builtin; refine wpList_append_wide (by rfl) (.tmp 19) (.tmp 20) (by rfl) Tryz.bytes (by rfl) (by rfl) hoe hbx hfit ?_; intro V1 w1 ho1 ht1 hb1; have H1 := Hid.mk7 (HAP.out w1 V1 ho1 ht1 hb1); obtain ⟨m0, m1, m2, m3, m4, m5, m6⟩ := H0.out.2.below H1.out.2.1; have hz1 : w.heap.size < w1.heap.size := (H0.out.2.below H1.out.2.1).lt; have B1 : Hid (Below w.heap.size w w1) := H0.out.1.trans (H1.out.2.1.mono H0.out.1.size); have hO2 := own_two w1 m _ (HD.out.turned (Turned.ofBelow (S := fun _ => False) B1.out) (fun _ _ h => h)); obtain ⟨hoe2, hdx2⟩ := hO2; obtain ⟨a1, c1, L1, rfl⟩ : ∃ a c L, V1 = .slice a L c := ⟨_, _, _, ho1.sl.form.choose_spec.choose_spec.1⟩; clear ho1 ht1 hb1 hoe hbx)
    | (at_builtin; refine wpList_append_wide (by rfl) (.tmp 23) (.tmp 25) (by rfl) Tryz.bytes (by rfl) (by rfl) hoe2 hdx2 hfit2 ?_; intro V2 w2 ho2 ht2 hb2; have H2 := Hid.mk7 (own_three ho2 ht2 hb2); obtain ⟨n6, g6⟩ := H2.out.1 6 (by omega); simp only [msgCell] at n6; obtain ⟨a2, c2, L2, rfl⟩ : ∃ a c L, V2 = .slice a L c := ⟨_, _, _, ho2.sl.form.choose_spec.choose_spec.1⟩; clear ho2 ht2 hb2 hoe2 hdx2 m0 m1 m2 m3 m4 m5 m6))
  obtain ⟨W3, hW3⟩ : ∃ W3, W3 = w2.setCell ⟨w1.heap.size, 6, none⟩ (.slice a2 L2 c2) := ⟨_, rfl⟩
  have HK1 : Hid (∀ k, blk (.slice a1 L1 c1) k → w.heap.size < k ∧ k < w1.heap.size) := fun k hk => ⟨by have h1 := H1.out.2.2 k hk; have h2 := HZA.out; omega, H1.out.1.blk_lt k hk⟩
  have HK2 : Hid (∀ k, blk (.slice a2 L2 c2) k → w1.heap.size < k) := H2.out.2.2.2
  have H3 : Hid (OS w w1 W3 m b (.slice a1 L1 c1) (.slice a2 L2 c2) (.slice aD m.digest.length cD) (.slice aB b.length cB)) := by
    have T : Turned (fun k => k = w1.heap.size) w2 W3 := by rw [hW3]; exact Turned.set1 w2 w1.heap.size 6 _
    have b12 := H2.out.2.2.1
    have b02 : Below w.heap.size w w2 := B1.out.trans (b12.mono B1.out.size)
    have b03 : Below w.heap.size w W3 := b02.trans (T.below b02.size (fun k hk => by have hk : k = w1.heap.size := hk; omega))
    have t12 := Turned.ofBelow (S := fun _ => False) b12
    have hos : OS w w1 W3 m b (.slice a1 L1 c1) (.slice a2 L2 c2) (.slice aD m.digest.length cD) (.slice aB b.length cB) := ⟨b03, ((H0.out.2.below H1.out.2.1).below b12).turned8 T (fun h => by have h : w.heap.size = w1.heap.size := h; omega), by
        rw [hW3]
        exact MsgB.at_ (MsgB.set (m' := m) (D' := .slice a2 L2 c2) H2.out.1 6 (.slice a2 L2 c2) (forall7 rfl rfl rfl rfl rfl rfl rfl)), (H1.out.1.turned t12 (fun _ _ h => h)).turned T (fun k hk h => by have h : k = w1.heap.size := h; have := HK1.out k hk; omega), H2.out.2.1.turned T (fun k hk h => by have h : k = w1.heap.size := h; have := HK2.out k hk; omega), HD.out.turned (Turned.ofBelow (S := fun _ => False) b03) (fun _ _ h => h), HB.out.turned (Turned.ofBelow (S := fun _ => False) b03) (fun _ _ h => h)⟩
    exact hos
  have hz3 : w1.heap.size < W3.heap.size := H3.out.nn.lt
  have HK2' : Hid (∀ k, blk (.slice a2 L2 c2) k → k < W3.heap.size) := H3.out.d.blk_lt
  have hrd := sh_read k H3.out.c.sl HR.out (by have := HLB.out; omega) (HG.out.below H3.out.bw).er
  unfold ReadTold at hrd
  have HRF : Hid (∀ W : World, Sl W (.slice aB b.length cB) b → Calls Tryz.prog 14 #[.int .i64 k, .slice aB b.length cB] W (RReadTold k b W)) := fun W h => ref_Read k HR.out (by have := HLB.out; omega) h
  unfold RReadTold at HRF
  generalize (readOf k b).1 = ls at hrd HRF
  generalize (readOf k b).2 = q at hrd HRF
  rw [← hW3]
  have hLL : b.length = L1 := by
    rcases H3.out.c with ⟨h, h'⟩ | ⟨_, _, _, h, _⟩
    · injection h with _ h _
      rw [h, h']
      rfl
    · injection h with _ h _
      exact h.symm
  have HLL := Hid.mk7 hLL
  have HLD : Hid (m.digest.length = L2) := by
    have h : m.digest.length = L2 := by
      rcases H3.out.d with ⟨h, h'⟩ | ⟨_, _, _, h, _⟩
      · injection h with _ h _
        rw [h, h']
        rfl
      · injection h with _ h _
        exact h.symm
    exact h
  have HL2 : Hid (L2 ≤ 140737488355328) := by
    have h : L2 ≤ 140737488355328 := by rw [← HLD.out]; exact hdl
    exact h
  clear hLL hW3 H1 H2 n6 g6 hwa HWA HAP HZA hfit hfit2 hl hdl
  refine hrd.mono ?_
  rintro e w4 ⟨D4, v4, rfl, hf4, hD4, hk4, hb4⟩
  obtain ⟨a4, c4, hDf4, _, _⟩ := hD4.form
  subst hDf4
  obtain ⟨w5, hw5⟩ : ∃ w5, w5 = w4.alloc (.cells #[.int .i64 q.kind, .int .u64 q.flags, .int .u32 q.creation, .int .u32 q.challenge, .string q.name, .string q.status, .slice a4 q.digest.length c4] 49) := ⟨_, rfl⟩
  have b45 : Below w4.heap.size w4 w5 := by rw [hw5]; exact (Below.refl _ _).alloc (Nat.le_refl _) _
  have hx5 : MsgAt w5 w4.heap.size q (.slice a4 q.digest.length c4) := by rw [hw5]; exact ⟨by simp, by simp, by simp, by simp, by simp, by simp, by simp⟩
  have b35 : Below W3.heap.size W3 w5 := hb4.trans (b45.mono hb4.size)
  have H5 : Hid (OS w w1 w5 m b (.slice a1 L1 c1) (.slice a2 L2 c2) (.slice aD m.digest.length cD) (.slice aB b.length cB) ∧ MsgAt w5 w4.heap.size q (.slice a4 q.digest.length c4) ∧ Sl w5 (.slice a4 q.digest.length c4) q.digest ∧ (∀ k, blk (.slice a4 q.digest.length c4) k → W3.heap.size ≤ k)) := ⟨H3.out.below b35, hx5, hD4.turned (Turned.ofBelow (S := fun _ => False) b45) (fun _ _ h => h), hk4⟩
  have hz4 : W3.heap.size ≤ w4.heap.size := hb4.size
  have hz5 : w4.heap.size < w5.heap.size := hx5.lt
  have HW5 := Hid.mk7 hw5
  obtain ⟨n0, n1, n2, n3, n4, n5, n6⟩ := H5.out.1.nn
  rw [hw5] at n0 n1 n2 n3 n4 n5 n6
  have hwt := sh_Write m HM.out.1 HM.out.2 H5.out.1.d.sl (HG.out.below H5.out.1.bw).er
  rw [HMV.out] at hwt
  unfold msgV'
  clear hf4 hD4 hk4 hb4 b45 hx5 b35 hw5 hrd
  go_wp2_with fail
  rw [← HW5.out]
  refine hwt.mono ?_
  rintro e w6 ⟨V6, v6, rfl, ho6, hf6, hb6, hk6⟩
  obtain ⟨a6, c6, L6, hV6⟩ : ∃ a c L, V6 = .slice a L c := ⟨_, _, _, ho6.sl.form.choose_spec.choose_spec.1⟩
  subst hV6
  have H6 : Hid (OS w w1 w6 m b (.slice a1 L1 c1) (.slice a2 L2 c2) (.slice aD m.digest.length cD) (.slice aB b.length cB) ∧ MsgAt w6 w4.heap.size q (.slice a4 q.digest.length c4) ∧ Sl w6 (.slice a4 q.digest.length c4) q.digest ∧ Sl w6 (.slice a6 L6 c6) (writeOf m) ∧ (∀ k, blk (.slice a6 L6 c6) k → w5.heap.size ≤ k)) := ⟨H5.out.1.below hb6, H5.out.2.1.below hb6, H5.out.2.2.1.turned (Turned.ofBelow (S := fun _ => False) hb6) (fun _ _ h => h), ho6.sl, hk6⟩
  have hsm := ref_same_eq m H6.out.1.d.sl H6.out.1.sd
  rw [HMV.out, HMV.out] at hsm
  have cv1 := H6.out.1.c.sl.str
  have cv2 := H6.out.1.sb.str
  clear ho6 hf6 hb6 hk6 hwt n0 n1 n2 n3 n4 n5 n6
  obtain ⟨n0, n1, n2, n3, n4, n5, n6⟩ := H6.out.1.nn
  obtain ⟨m0, m1, m2, m3, m4, m5, m6⟩ := H6.out.1.mm
  generalize strOfNums b = zb at cv1 cv2
  go_wp2_with fail
  refine hsm.mono ?_
  rintro e w7 ⟨rfl, hb7⟩
  have H7 : Hid (OS w w1 w7 m b (.slice a1 L1 c1) (.slice a2 L2 c2) (.slice aD m.digest.length cD) (.slice aB b.length cB) ∧ MsgAt w7 w4.heap.size q (.slice a4 q.digest.length c4) ∧ Sl w7 (.slice a4 q.digest.length c4) q.digest ∧ Sl w7 (.slice a6 L6 c6) (writeOf m)) := ⟨H6.out.1.below hb7, H6.out.2.1.below hb7, H6.out.2.2.1.turned (Turned.ofBelow (S := fun _ => False) hb7) (fun _ _ h => h), H6.out.2.2.2.1.turned (Turned.ofBelow (S := fun _ => False) hb7) (fun _ _ h => h)⟩
  have haw := law_awake (HG.out.below H7.out.1.bw)
  clear hb7 hsm cv1 cv2 m0 m1 m2 m3 m4 m5 m6 n0 n1 n2 n3 n4 n5 n6
  go_wp2_with fail
  refine haw.mono ?_
  rintro e w8 ⟨rfl, hb8⟩
  have H8 : Hid (OS w w1 w8 m b (.slice a1 L1 c1) (.slice a2 L2 c2) (.slice aD m.digest.length cD) (.slice aB b.length cB) ∧ MsgAt w8 w4.heap.size q (.slice a4 q.digest.length c4) ∧ Sl w8 (.slice a4 q.digest.length c4) q.digest ∧ Sl w8 (.slice a6 L6 c6) (writeOf m)) := ⟨H7.out.1.below hb8, H7.out.2.1.below hb8, H7.out.2.2.1.turned (Turned.ofBelow (S := fun _ => False) hb8) (fun _ _ h => h), H7.out.2.2.2.turned (Turned.ofBelow (S := fun _ => False) hb8) (fun _ _ h => h)⟩
  clear hb8 haw H7
  have hL1 : L1 ≤ 140737488355328 := by rw [← HLL.out]; exact HLB.out
  have HWR1 : Hid (Writes w8 (.slice a1 L1 c1) L1) := by
    have h := H8.out.1.c.writes
    rw [HLL.out] at h
    exact h
  go_wp2_with fail
  go_loopw [56] (fun ii wr => ∃ j : Nat, ii = .int .i64 j ∧ j ≤ L1 ∧ Turned (blk (.slice a1 L1 c1)) w8 wr ∧ Writes wr (.slice a1 L1 c1) L1) (fun ii _ => L1 - (intOf ii).toNat)
  case atStart => exact ⟨0, rfl, Nat.zero_le _, Turned.refl _ _, HWR1.out⟩
  case round =>
    obtain ⟨j, rfl, hj, hT, hWr⟩ := hrel
    by_cases hlt : j < L1
    · have hlti : (j : Int) < (L1 : Int) := by omega
      have hj0 : (0 : Int) ≤ (j : Int) := by omega
      have hWr' := hWr
      obtain ⟨a, c, hac, hcell⟩ := hWr'
      obtain ⟨g, off, ha, h1, h2⟩ := hcell j hlt
      cases hac
      subst ha
      obtain ⟨u, hu⟩ := Option.isSome_iff_exists.1 h1
      have HT : Hid (Turned (blk (.slice (some ⟨g, off, none⟩) L1 c1)) w8 wr ∧ Writes wr (.slice (some ⟨g, off, none⟩) L1 c1) L1) := ⟨hT, hWr⟩
      clear hT hWr hcell h1
      go_wp2
      go_roundw
      case rel => exact ⟨j + 1, by go_num, by omega, HT.out.1.trans (Turned.setCell wr ⟨g, off + j, none⟩ _) (fun k hk => .inl hk.symm), HT.out.2.set hu⟩
      case measure => simp [intOf]; omega
    · have hge : ¬ (j : Int) < (L1 : Int) := by omega
      have HT1 : Hid (Turned (blk (.slice a1 L1 c1)) w8 wr) := hT
      have nn := H8.out.1.nn.turned8 hT (fun h => by have := HK1.out _ h; omega)
      have n6 := nn.c6
      obtain ⟨L, hL⟩ : ∃ L, L = L2 := ⟨_, rfl⟩
      have hL2 : L2 ≤ 140737488355328 := HL2.out
      have HWR2 : Hid (Writes wr (.slice a2 L2 c2) L2) := by
        have h := (H8.out.1.d.turned hT (fun k hk hc => by have h1 := HK1.out k hc; have h2 := HK2.out k hk; omega)).writes
        rw [HLD.out] at h
        exact h
      obtain ⟨wR, hwR⟩ : ∃ wR, wR = wr := ⟨_, rfl⟩
      subst hwR
      clear hT hWr nn hL
      go_wp2_with fail
      go_loopw [66] (fun ii wq => ∃ j : Nat, ii = .int .i64 j ∧ j ≤ L2 ∧ Turned (blk (.slice a2 L2 c2)) wR wq ∧ Writes wq (.slice a2 L2 c2) L2) (fun ii _ => L2 - (intOf ii).toNat)
      case atStart => exact ⟨0, rfl, Nat.zero_le _, Turned.refl _ _, HWR2.out⟩
      case round =>
        obtain ⟨j2, rfl, hj2, hT2, hWr2⟩ := hrel
        have m6' := hT2.cell (p := ⟨w1.heap.size, 6, none⟩) n6 (fun h => by have := HK2.out w1.heap.size h; omega)
        by_cases hlt2 : j2 < L2
        · have hlti : (j2 : Int) < (L2 : Int) := by omega
          have hj0 : (0 : Int) ≤ (j2 : Int) := by omega
          have hWr' := hWr2
          obtain ⟨a, c, hac, hcell⟩ := hWr'
          obtain ⟨g, off, ha, h1, h2⟩ := hcell j2 hlt2
          cases hac
          subst ha
          obtain ⟨u, hu⟩ := Option.isSome_iff_exists.1 h1
          have HT : Hid (Turned (blk (.slice (some ⟨g, off, none⟩) L2 c2)) wR wr ∧ Writes wr (.slice (some ⟨g, off, none⟩) L2 c2) L2) := ⟨hT2, hWr2⟩
          clear hT2 hWr2 hcell h1
          go_wp2
          go_roundw
          case rel => exact ⟨j2 + 1, by go_num, by omega, HT.out.1.trans (Turned.setCell wr ⟨g, off + j2, none⟩ _) (fun k hk => .inl hk.symm), HT.out.2.set hu⟩
          case measure => simp [intOf]; omega
        · have hge2 : ¬ (j2 : Int) < (L2 : Int) := by omega
          have T : Turned (fun k => blk (.slice a1 L1 c1) k ∨ blk (.slice a2 L2 c2) k) w8 wr := (HT1.out.mono (fun k h => .inl (.inl h))).trans hT2 (fun k h => .inl (.inr h))
          have hS : ∀ k, (blk (.slice a1 L1 c1) k ∨ blk (.slice a2 L2 c2) k) → w.heap.size < k ∧ k < W3.heap.size ∧ k ≠ w1.heap.size := fun k h => h.elim (fun h => by have := HK1.out k h; omega) (fun h => by have h1 := HK2.out k h; have h2 := HK2'.out k h; omega)
          have bw : Below w.heap.size w wr := H8.out.1.bw.trans (T.below H8.out.1.bw.size (fun k h => by have := hS k h; omega))
          have hb9 : Sl wr (.slice aB b.length cB) b := HB.out.turnedN (Turned.ofBelow (S := fun _ => False) bw) (fun _ _ _ h => h)
          have H9 : Hid (Below w.heap.size w wr ∧ MsgAt wr w.heap.size m (.slice aD m.digest.length cD) ∧ Sl wr (.slice aD m.digest.length cD) m.digest ∧ MsgAt wr w4.heap.size q (.slice a4 q.digest.length c4) ∧ Sl wr (.slice a4 q.digest.length c4) q.digest ∧ Sl wr (.slice a6 L6 c6) (writeOf m)) := ⟨bw, H8.out.1.mm.turned8 T (fun h => by have := hS _ h; omega), HD.out.turned (Turned.ofBelow (S := fun _ => False) bw) (fun _ _ h => h), H8.out.2.1.turned8 T (fun h => by have := hS _ h; omega), H8.out.2.2.1.turned T (fun k hk h => by have h1 := H5.out.2.2.2 k hk; have := hS k h; omega), H8.out.2.2.2.turned T (fun k hk h => by have h1 := H6.out.2.2.2.2 k hk; have := hS k h; omega)⟩
          have hrf := HRF.out wr hb9
          clear hT2 hWr2 T hS bw hb9 m6' n6 HRF
          go_wp2_with fail
          refine hrf.mono ?_
          rintro e x1 ⟨Du, vu, rfl, hlu, hDu, hbu⟩
          obtain ⟨au, cu, hDuf, _, _⟩ := hDu.form
          subst hDuf
          obtain ⟨x2, hx2⟩ : ∃ x2, x2 = x1.alloc (.cells #[.int .i64 q.kind, .int .u64 q.flags, .int .u32 q.creation, .int .u32 q.challenge, .string q.name, .string q.status, .slice au q.digest.length cu] 49) := ⟨_, rfl⟩
          have b12 : Below x1.heap.size x1 x2 := by rw [hx2]; exact (Below.refl _ _).alloc (Nat.le_refl _) _
          have hu2 : MsgAt x2 x1.heap.size q (.slice au q.digest.length cu) := by rw [hx2]; exact ⟨by simp, by simp, by simp, by simp, by simp, by simp, by simp⟩
          have bR : Below wr.heap.size wr x2 := hbu.trans (b12.mono hbu.size)
          have tR := Turned.ofBelow (S := fun _ => False) bR
          have HX : Hid (Below w.heap.size w x2 ∧ MsgAt x2 w.heap.size m (.slice aD m.digest.length cD) ∧ Sl x2 (.slice aD m.digest.length cD) m.digest ∧ MsgAt x2 w4.heap.size q (.slice a4 q.digest.length c4) ∧ Sl x2 (.slice a4 q.digest.length c4) q.digest ∧ Sl x2 (.slice a6 L6 c6) (writeOf m) ∧ MsgAt x2 x1.heap.size q (.slice au q.digest.length cu) ∧ Sl x2 (.slice au q.digest.length cu) q.digest) := ⟨H9.out.1.trans (bR.mono H9.out.1.size), H9.out.2.1.below bR, H9.out.2.2.1.turned tR (fun _ _ h => h), H9.out.2.2.2.1.below bR, H9.out.2.2.2.2.1.turned tR (fun _ _ h => h), H9.out.2.2.2.2.2.turned tR (fun _ _ h => h), hu2, hDu.turned (Turned.ofBelow (S := fun _ => False) b12) (fun _ _ h => h)⟩
          have HW2 := Hid.mk7 hx2
          have hwt := ref_Write m HM.out.1 HM.out.2 HX.out.2.2.1
          rw [HMV.out] at hwt
          unfold RWriteTold at hwt
          obtain ⟨m0, m1, m2, m3, m4, m5, m6⟩ := HX.out.2.1
          rw [hx2] at m0 m1 m2 m3 m4 m5 m6
          have hzx : w.heap.size < x1.heap.size := by have h1 := H9.out.2.1.lt; have h2 := hbu.size; omega
          unfold msgV'
          clear hlu hDu hbu b12 hu2 bR tR hx2 hrf
          go_wp2_with fail
          rw [← HW2.out]
          refine hwt.mono ?_
          rintro e x3 ⟨Vw, vw, rfl, how, _, hbw, _⟩
          obtain ⟨aw, cw, Lw, hVw⟩ : ∃ a c L, Vw = .slice a L c := ⟨_, _, _, how.sl.form.choose_spec.choose_spec.1⟩
          subst hVw
          have t3 := Turned.ofBelow (S := fun _ => False) hbw
          have HY : Hid (Below w.heap.size w x3 ∧ Sl x3 (.slice a6 L6 c6) (writeOf m) ∧ Sl x3 (.slice aw Lw cw) (writeOf m)) := ⟨HX.out.1.trans (hbw.mono HX.out.1.size), HX.out.2.2.2.2.2.1.turned t3 (fun _ _ h => h), how.sl⟩
          have hsm2 := ref_same_eq q (HX.out.2.2.2.2.1.turned t3 (fun _ _ h => h)) (HX.out.2.2.2.2.2.2.2.turned t3 (fun _ _ h => h))
          unfold msgV' at hsm2
          have xq := HX.out.2.2.2.1.below hbw
          have uq := HX.out.2.2.2.2.2.2.1.below hbw
          clear how hbw t3 hwt m0 m1 m2 m3 m4 m5 m6
          obtain ⟨e0, e1, e2, e3, e4, e5, e6⟩ := xq
          obtain ⟨u0, u1, u2, u3, u4, u5, u6⟩ := uq
          go_wp2_with fail
          refine hsm2.mono ?_
          rintro e x4 ⟨rfl, hb4⟩
          have hcy := (HY.out.2.1.turned (Turned.ofBelow (S := fun _ => False) hb4) (fun _ _ h => h)).str
          have hcw := (HY.out.2.2.turned (Turned.ofBelow (S := fun _ => False) hb4) (fun _ _ h => h)).str
          have HZ : Hid (Below w.heap.size w x4) := HY.out.1.trans (hb4.mono HY.out.1.size)
          generalize strOfNums (writeOf m) = zz at hcy hcw
          clear hb4 hsm2 e0 e1 e2 e3 e4 e5 e6 u0 u1 u2 u3 u4 u5 u6
          go_wp2
          go_ret
          exact ⟨rfl, HZ.out⟩
end Go.Proofs.YtmnibmgbicnamabGreatDoor
