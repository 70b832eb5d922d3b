/-
  heddlelaw08.ShakeMeets: its walk.
-/
import Derived.Test.YtmnibmgbicnamaaGreatDoorKd
import Derived.Test.YtmnibmgbicnamaaGreatDoorKe
namespace Go.Proofs.YtmnibmgbicnamaaGreatDoor
open Go.RowKit

/-- Whether the document's Begin refuses. -/
theorem ref_begin_e (me : Pr) (hme : me.Ok) (peer cookie : ByteArray) (ch : Nat) (hns : me.name.size ≤ 4611686018427387904) (hps : peer.size ≤ 4611686018427387904) (hcs : cookie.size ≤ 4611686018427387904) (w : World) :
    Calls Tryz.prog 23 #[.agg #[.string me.name, .int .u64 me.flags, .int .u32 me.creation], .string peer, .string cookie, .int .u32 ch] w fun e w' => ∃ X V oa L c, e = .returned (.tuple #[X, V, .slice oa L c]) ∧ (madeErr me peer true cookie = [] ↔ oa = none) ∧ Below w.heap.size w w' := by
  refine (ref_begin me hme peer cookie ch hns hps hcs w).mono ?_
  rintro e w' (⟨hls, v, rfl, hl, hb⟩ | ⟨hls, g, V, rfl, _, _, _, _, hb⟩)
  · obtain ⟨a, L, c, rfl⟩ := links_some hl hls
    exact ⟨_, _, some a, L, c, rfl, ⟨fun h => absurd h hls, fun h => by cases h⟩, hb⟩
  · exact ⟨_, _, none, 0, 0, rfl, ⟨fun _ => rfl, fun _ => hls⟩, hb⟩
theorem ref_wait_e (me : Pr) (cookie : ByteArray) (ch : Nat) (hns : me.name.size ≤ 4611686018427387904) (hcs : cookie.size ≤ 4611686018427387904) (w : World) :
    Calls Tryz.prog 24 #[.agg #[.string me.name, .int .u64 me.flags, .int .u32 me.creation], .string cookie, .int .u32 ch] w fun e w' => ∃ X oa L c, e = .returned (.tuple #[X, .slice oa L c]) ∧ (madeErr me ⟨#[]⟩ false cookie = [] ↔ oa = none) ∧ Below w.heap.size w w' := by
  refine (ref_wait me cookie ch hns hcs w).mono ?_
  rintro e w' (⟨hls, v, rfl, hl, hb⟩ | ⟨hls, g, rfl, _, _, hb⟩)
  · obtain ⟨a, L, c, rfl⟩ := links_some hl hls
    exact ⟨_, some a, L, c, rfl, ⟨fun h => absurd h hls, fun h => by cases h⟩, hb⟩
  · exact ⟨_, none, 0, 0, rfl, ⟨fun _ => rfl, fun _ => hls⟩, hb⟩
/-- Two nodes, their cookies and challenges, in memory. -/
structure PairAt (w : World) (g : Nat) (a b : Pr) (c0 c1 : ByteArray) (n0 n1 : Nat) : Prop where
  a0 : w.cell? ⟨g, 0, none⟩ = some (.string a.name)
  a1 : w.cell? ⟨g, 1, none⟩ = some (.int .u64 a.flags)
  a2 : w.cell? ⟨g, 2, none⟩ = some (.int .u32 a.creation)
  b0 : w.cell? ⟨g, 3, none⟩ = some (.string b.name)
  b1 : w.cell? ⟨g, 4, none⟩ = some (.int .u64 b.flags)
  b2 : w.cell? ⟨g, 5, none⟩ = some (.int .u32 b.creation)
  k0 : w.cell? ⟨g, 6, none⟩ = some (.string c0)
  k1 : w.cell? ⟨g, 7, none⟩ = some (.string c1)
  n0 : w.cell? ⟨g, 8, none⟩ = some (.int .u32 n0)
  n1 : w.cell? ⟨g, 9, none⟩ = some (.int .u32 n1)
theorem PairAt.lt {w : World} {g : Nat} {a b : Pr} {c0 c1 : ByteArray} {n0 n1 : Nat} (h : PairAt w g a b c0 c1 n0 n1) : g < w.heap.size := World.block_lt_of_cell? w _ h.a0
theorem PairAt.below {w w' : World} {g : Nat} {a b : Pr} {c0 c1 : ByteArray} {n0 n1 : Nat} (h : PairAt w g a b c0 c1 n0 n1) (hb : Below w.heap.size w w') : PairAt w' g a b c0 c1 n0 n1 :=
  have f : ∀ {j v}, w.cell? ⟨g, j, none⟩ = some v → w'.cell? ⟨g, j, none⟩ = some v := fun {j _} hv => (hb.cell (p := ⟨g, j, none⟩) h.lt).trans hv
  ⟨f h.a0, f h.a1, f h.a2, f h.b0, f h.b1, f h.b2, f h.k0, f h.k1, f h.n0, f h.n1⟩
def pairV (a b : Pr) (c0 c1 : ByteArray) (n0 n1 : Nat) : Value := .agg #[.string a.name, .int .u64 a.flags, .int .u32 a.creation, .string b.name, .int .u64 b.flags, .int .u32 b.creation, .string c0, .string c1, .int .u32 n0, .int .u32 n1]
set_option maxRecDepth 100000 in
set_option maxHeartbeats 6400000 in
theorem meets_any (a b : Pr) (ha : a.Ok) (hb : b.Ok) (c0 c1 : ByteArray) (n0 n1 : Nat) (hn0 : n0 < 4294967296) (hn1 : n1 < 4294967296) (has : a.name.size ≤ 4611686018427387904) (hbs : b.name.size ≤ 4611686018427387904) (hc0 : c0.size ≤ 4611686018427387904) (hc1 : c1.size ≤ 4611686018427387904) {w : World} (hG : Gd w) :
    Calls Tryz.prog 7 #[pairV a b c0 c1 n0 n1] w fun e w' => e = .returned (.bool true) ∧ Below w.heap.size w w' := by
  unfold pairV
  obtain ⟨wa, hwa⟩ : ∃ wa, wa = w.alloc (.cells #[.string a.name, .int .u64 a.flags, .int .u32 a.creation, .string b.name, .int .u64 b.flags, .int .u32 b.creation, .string c0, .string c1, .int .u32 n0, .int .u32 n1] 74) := ⟨_, rfl⟩
  have ba : Below w.heap.size w wa := by rw [hwa]; exact (Below.refl _ _).alloc (Nat.le_refl _) _
  have pa : PairAt wa w.heap.size a b c0 c1 n0 n1 := by rw [hwa]; exact ⟨by simp, by simp, by simp, by simp, by simp, by simp, by simp, by simp, by simp, by simp⟩
  have haw := law_awake (hG.below ba)
  have H0 : Hid (Below w.heap.size w wa ∧ PairAt wa w.heap.size a b c0 c1 n0 n1) := ⟨ba, pa⟩
  have HWA := Hid.mk7 hwa
  have HG := Hid.mk7 hG
  have HBG := Hid.mk7 (ref_begin_e a ha b.name c0 n0 has hbs hc0)
  have HWT := Hid.mk7 (ref_wait_e b c1 n1 hbs hc1)
  have HMT : Hid (∀ W, Gd W → Calls Tryz.prog 25 #[.agg #[.string a.name, .int .u64 a.flags, .int .u32 a.creation], .agg #[.string b.name, .int .u64 b.flags, .int .u32 b.creation], .agg #[.string c0, .string c1], .agg #[.int .u32 n0, .int .u32 n1]] W (MetTold a b c0 c1 n0 n1 W)) := fun W h => law_met a b ha hb c0 c1 n0 n1 hn0 hn1 has hbs hc0 hc1 h
  have HTD := Hid.mk7 (met_told a b c0 c1 n0 n1 ha hb hn0 hn1)
  have HD0 := Hid.mk7 (ref_digest c0 hc0 n1 hn1)
  have HD1 := Hid.mk7 (ref_digest c1 hc1 n1 hn1)
  have hnq := Tryz.neqLinks
  clear hwa ba pa hG ha hb has hbs hc0 hc1 hn0 hn1
  go_enter Tryz.func7, Tryz.ntmps7
  go_wp2_with fail
  rw [← HWA.out]
  refine haw.mono ?_
  rintro e w1 ⟨rfl, hb1⟩
  have H1 : Hid (Below w.heap.size w w1 ∧ PairAt w1 w.heap.size a b c0 c1 n0 n1) := ⟨H0.out.1.trans (hb1.mono H0.out.1.size), H0.out.2.below hb1⟩
  clear hb1 haw H0 HWA
  obtain ⟨a0, a1, a2, b0, b1, b2, k0, k1, q0, q1⟩ := H1.out.2
  go_wp2_with fail
  refine (HBG.out _).mono ?_
  rintro e w2 ⟨X2, V2, o2, L2, c2, rfl, he2, hb2⟩
  have H2 : Hid (Below w.heap.size w w2 ∧ PairAt w2 w.heap.size a b c0 c1 n0 n1) := ⟨H1.out.1.trans (hb2.mono H1.out.1.size), H1.out.2.below hb2⟩
  have HE2 := Hid.mk7 he2
  clear hb2 he2 HBG H1 a0 a1 a2 b0 b1 b2 k0 k1 q0 q1
  obtain ⟨a0, a1, a2, b0, b1, b2, k0, k1, q0, q1⟩ := H2.out.2
  go_wp2_with fail
  refine (HWT.out _).mono ?_
  rintro e w3 ⟨X3, o3, L3, c3, rfl, he3, hb3⟩
  have H3 : Hid (Below w.heap.size w w3 ∧ PairAt w3 w.heap.size a b c0 c1 n0 n1) := ⟨H2.out.1.trans (hb3.mono H2.out.1.size), H2.out.2.below hb3⟩
  have HE3 := Hid.mk7 he3
  clear hb3 he3 HWT H2 a0 a1 a2 b0 b1 b2 k0 k1 q0 q1
  obtain ⟨a0, a1, a2, b0, b1, b2, k0, k1, q0, q1⟩ := H3.out.2
  go_wp2_with fail
  refine (HMT.out _ (HG.out.below H3.out.1)).mono ?_
  rintro e w4 (⟨hno, rfl, hb4⟩ | ⟨hl1, hl2, gx, gy, rfl, hx, hy, hgx, hgy, hb4⟩)
  · have H4 : Hid (Below w.heap.size w w4) := H3.out.1.trans (hb4.mono H3.out.1.size)
    have hsome : (∃ z, o2 = some z) ∨ (o2 = none ∧ ∃ z, o3 = some z) := by
      cases o2 with
      | some z => exact .inl ⟨z, rfl⟩
      | none =>
        cases o3 with
        | some z => exact .inr ⟨rfl, z, rfl⟩
        | none => exact (hno.elim (fun h => h (HE2.out.2 rfl)) (fun h => h (HE3.out.2 rfl))).elim
    clear hno hb4 HMT HE2 HE3 a0 a1 a2 b0 b1 b2 k0 k1 q0 q1
    rcases hsome with ⟨z, rfl⟩ | ⟨rfl, z, rfl⟩
    all_goals
      go_wp2
      go_ret
      exact ⟨rfl, H4.out⟩
  · obtain rfl := HE2.out.1 hl1
    obtain rfl := HE3.out.1 hl2
    have H4 : Hid (Below w.heap.size w w4 ∧ PairAt w4 w.heap.size a b c0 c1 n0 n1) := ⟨H3.out.1.trans (hb4.mono H3.out.1.size), H3.out.2.below hb4⟩
    have HTD2 := Hid.mk7 (HTD.out hl1 hl2)
    have HCK : Hid (cookieErr c0 = none ∧ cookieErr c1 = none) := ⟨(made_none hl1).2.2.2.2, (made_none hl2).2.2.2.2⟩
    have hnx := sd_now hx
    have HY := Hid.mk7 hy
    generalize metAll a b c0 c1 n0 n1 = M at hnx HY HTD2
    clear hx hy hb4 HMT HE2 HE3 H3 hl1 hl2 HTD a0 a1 a2 b0 b1 b2 k0 k1 q0 q1
    go_wp2_with fail
    refine hnx.mono ?_
    rintro e w5 ⟨rfl, hb5⟩
    have H5 : Hid (Below w.heap.size w w5 ∧ PairAt w5 w.heap.size a b c0 c1 n0 n1) := ⟨H4.out.1.trans (hb5.mono H4.out.1.size), H4.out.2.below hb5⟩
    have hny := sd_now (HY.out.below hb5)
    clear hb5 hnx HY H4
    go_wp2_with fail
    refine hny.mono ?_
    rintro e w6 ⟨rfl, hb6⟩
    have H6 : Hid (Below w.heap.size w w6 ∧ PairAt w6 w.heap.size a b c0 c1 n0 n1) := ⟨H5.out.1.trans (hb6.mono H5.out.1.size), H5.out.2.below hb6⟩
    clear hb6 hny H5
    obtain ⟨a0, a1, a2, b0, b1, b2, k0, k1, q0, q1⟩ := H6.out.2
    have hlt := H6.out.2.lt
    by_cases hc : c0 = c1
    case pos =>
      subst hc
      obtain ⟨t1, _⟩ := HTD2.out
      obtain ⟨s1, s2, s3⟩ := t1 rfl
      obtain ⟨s3, s4⟩ := s3 rfl
      rw [s1, s2, s3, s4]
      clear t1 s1 s2 s3 s4 HTD2
      go_wp2
      go_ret
      exact ⟨rfl, (H6.out.1.alloc H6.out.1.size _).alloc (by have := H6.out.1.size; simp; omega) _⟩
    case neg =>
      have hne := toList_ne' hc
      obtain ⟨p1, p2, p3, p4, p5, hX⟩ : ∃ st nm fl cr si, st = M.1.state ∧ nm = M.1.peer.name ∧ fl = M.1.peer.flags ∧ cr = M.1.peer.creation ∧ si = M.1.simult := ⟨_, _, _, _, _, rfl, rfl, rfl, rfl, rfl⟩
      obtain ⟨r1, r2, r3, r4, r5, hY⟩ : ∃ st nm fl cr si, st = M.2.1.state ∧ nm = M.2.1.peer.name ∧ fl = M.2.1.peer.flags ∧ cr = M.2.1.peer.creation ∧ si = M.2.1.simult := ⟨_, _, _, _, _, rfl, rfl, rfl, rfl, rfl⟩
      rw [← hX.1, ← hX.2.1, ← hX.2.2.1, ← hX.2.2.2.1, ← hX.2.2.2.2, ← hY.1, ← hY.2.1, ← hY.2.2.1, ← hY.2.2.2.1, ← hY.2.2.2.2]
      have HSX : Hid (p1 = M.1.state ∧ r1 = M.2.1.state) := ⟨hX.1, hY.1⟩
      obtain ⟨wb, hwb⟩ : ∃ wb, wb = (w6.alloc (.cells #[.int .i64 p1, .string p2, .int .u64 p3, .int .u32 p4, .bool p5] 66)).alloc (.cells #[.int .i64 r1, .string r2, .int .u64 r3, .int .u32 r4, .bool r5] 66) := ⟨_, rfl⟩
      have bb : Below w6.heap.size w6 wb := by rw [hwb]; exact ((Below.refl _ _).alloc (Nat.le_refl _) _).alloc (by simp) _
      have cX : wb.cell? ⟨w6.heap.size, 0, none⟩ = some (.int .i64 p1) := by rw [hwb]; simp
      have cY : wb.cell? ⟨w6.heap.size + 1, 0, none⟩ = some (.int .i64 r1) := by rw [hwb, show w6.heap.size + 1 = (w6.alloc (.cells #[.int .i64 p1, .string p2, .int .u64 p3, .int .u32 p4, .bool p5] 66)).heap.size by simp]; simp
      have H7 : Hid (Below w.heap.size w wb ∧ PairAt wb w.heap.size a b c0 c1 n0 n1 ∧ wb.cell? ⟨w6.heap.size, 0, none⟩ = some (.int .i64 p1) ∧ wb.cell? ⟨w6.heap.size + 1, 0, none⟩ = some (.int .i64 r1)) := ⟨H6.out.1.trans (bb.mono H6.out.1.size), H6.out.2.below bb, cX, cY⟩
      have hd0 := HD0.out wb
      have HWB := Hid.mk7 hwb
      have e0 : digestTold c0 n1 = digestOf c0 n1 := by unfold digestTold; rw [HCK.out.1]; rfl
      have e1 : digestTold c1 n1 = digestOf c1 n1 := by unfold digestTold; rw [HCK.out.2]; rfl
      rw [e0] at hd0
      rw [e1] at HD1
      clear hX hY bb cX cY hwb HD0 e0 e1 H6
      go_wp2_with fail
      rw [← HWB.out]
      refine hd0.mono ?_
      rintro e w7 ⟨V7, v7, rfl, _, ho7, hb7, _⟩
      obtain ⟨a7, c7, L7, hV7⟩ : ∃ a c L, V7 = .slice a L c := ⟨_, _, _, ho7.sl.form.choose_spec.choose_spec.1⟩
      subst hV7
      have H8 : Hid (Below w.heap.size w w7 ∧ PairAt w7 w.heap.size a b c0 c1 n0 n1 ∧ w7.cell? ⟨w6.heap.size, 0, none⟩ = some (.int .i64 p1) ∧ w7.cell? ⟨w6.heap.size + 1, 0, none⟩ = some (.int .i64 r1) ∧ Own w7 (.slice a7 L7 c7) (digestOf c0 n1)) := ⟨H7.out.1.trans (hb7.mono H7.out.1.size), H7.out.2.1.below hb7, (hb7.cell (p := ⟨w6.heap.size, 0, none⟩) (World.block_lt_of_cell? _ _ H7.out.2.2.1)).trans H7.out.2.2.1, (hb7.cell (p := ⟨w6.heap.size + 1, 0, none⟩) (World.block_lt_of_cell? _ _ H7.out.2.2.2)).trans H7.out.2.2.2, ho7⟩
      clear hb7 ho7 hd0 H7 HWB a0 a1 a2 b0 b1 b2 k0 k1 q0 q1
      obtain ⟨a0, a1, a2, b0, b1, b2, k0, k1, q0, q1⟩ := H8.out.2.1
      go_wp2_with fail
      refine (HD1.out _).mono ?_
      rintro e w8 ⟨V8, v8, rfl, _, ho8, hb8, _⟩
      obtain ⟨a8, c8, L8, hV8⟩ : ∃ a c L, V8 = .slice a L c := ⟨_, _, _, ho8.sl.form.choose_spec.choose_spec.1⟩
      subst hV8
      obtain ⟨u1, u2, u3, u4, u5⟩ := H8.out
      have cX : w8.cell? ⟨w6.heap.size, 0, none⟩ = some (.int .i64 p1) := (hb8.cell (p := ⟨w6.heap.size, 0, none⟩) (World.block_lt_of_cell? _ _ u3)).trans u3
      have cY : w8.cell? ⟨w6.heap.size + 1, 0, none⟩ = some (.int .i64 r1) := (hb8.cell (p := ⟨w6.heap.size + 1, 0, none⟩) (World.block_lt_of_cell? _ _ u4)).trans u4
      have H9 : Hid (Below w.heap.size w w8) := u1.trans (hb8.mono u1.size)
      have cv7 := (u5.turned (Turned.ofBelow (S := fun _ => False) hb8) (fun _ _ h => h)).sl.str
      have cv8 := ho8.sl.str
      clear hb8 ho8 u1 u2 u3 u4 u5 H8 a0 a1 a2 b0 b1 b2 k0 k1 q0 q1
      by_cases hd : digestOf c0 n1 = digestOf c1 n1
      · rw [hd] at cv7
        clear HTD2
        generalize strOfNums (digestOf c1 n1) = z at cv7 cv8
        go_wp2
        go_ret
        exact ⟨rfl, H9.out⟩
      · obtain ⟨t1, t2⟩ := HTD2.out.2 hd
        have hp1 : p1 = 3 := HSX.out.1.trans t2
        have hr1 : r1 = 8 := HSX.out.2.trans t1
        have hns : ((strOfNums (digestOf c0 n1)).toList == (strOfNums (digestOf c1 n1)).toList) = false := toList_ne' (fun h => hd (strOfNums_inj (digest_rng _ _) (digest_rng _ _) h))
        subst hp1 hr1
        clear HTD2 t1 t2 HSX hd
        generalize strOfNums (digestOf c0 n1) = z at cv7 hns
        generalize strOfNums (digestOf c1 n1) = y at cv8 hns
        go_wp2
        go_ret
        exact ⟨rfl, H9.out⟩
end Go.Proofs.YtmnibmgbicnamaaGreatDoor
