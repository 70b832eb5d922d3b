/-
  The document's layer 11: classify.
-/
import Derived.Test.YtipdmmncgenppaaGreatDoorPSmK0
namespace Go.Proofs.YtipdmmncgenppaaGreatDoor
open Go.RowKit

theorem below_da (w : World) (n : Nat) (o : Obj) : Below w.heap.size w ((w.drewN n).drew.alloc o) := ((drewN_below w n).drew).trans ((Below.alloc0 _ o).mono (Nat.le_refl _))
/-- What classify tells. -/
def ClassifyTold (G : Gr Lb) (off : Nat) (D0 : Nat → Prop) (c0 : Nat → Option Nat) (bl : List Int) (B M root : Nat) (w0 w : World) (Fv0 : Value) (x : Ending) (w' : World) : Prop :=
  ∃ g bv Fv c h F, x = .returned (.tuple #[.slice (some ⟨g, 0, none⟩) (root + 1) (root + 1), Fv]) ∧ CM w0 w w' Fv0 g root bv bl Fv h F ∧ CS G off D0 c0 bl B M bl.length c h F
set_option maxRecDepth 100000 in
set_option maxHeartbeats 12800000 in
theorem ref_classify {G : Gr Lb} {off : Nat} {D0 : Nat → Prop} {c0 : Nat → Option Nat} {w0 w : World} {aL : Option Addr} {cL : Nat} {N : List Nd} {root : Nat} {Fv0 : Value} {F0 : List Nd} (hL : NdArg w0 (.slice aL N.length cL) N) (hb0 : Below w0.heap.size w0 w) (hF : FmAt w Fv0 F0) (hF0 : ∀ k, blk Fv0 k → w0.heap.size ≤ k ∧ k < w.heap.size)
    (hN : N.length ≤ 1048576) (hM : ∀ x ∈ N, x.kids.length ≤ 1048576) (hFl : F0.length ≤ 1048576) (hD : ∀ x, D0 x → x < off)
    (hB : Blw G off N root (belowS N.length (kidsOf (kvs N)) [(root : Int)])) (hC : CS G off D0 c0 (belowS N.length (kidsOf (kvs N)) [(root : Int)]) F0.length 0 0 c0 (List.replicate (root + 1) 0) F0) :
    Calls Tryz.prog 25 #[.slice aL N.length cL, .int .i64 (root : Int), Fv0] w (ClassifyTold G off D0 c0 (belowS N.length (kidsOf (kvs N)) [(root : Int)]) F0.length 0 root w0 w Fv0) := by
  have hrt := hB.rt
  obtain ⟨aF, cF, hFv, _⟩ := hF.nodes.own.sl.form
  obtain ⟨R, hR⟩ : ∃ R, R = root + 1 := ⟨_, rfl⟩
  obtain ⟨w1, hmk, hb1, hz1, hB1⟩ := make_one Tryz.intTypes (by simp [Value.cells]) w R (by omega) (by omega)
  have hs1 : HtAt w1 w.heap.size (List.replicate R 0) := HtAt.new hB1 hz1
  have hLw := hL.below hb0
  have hbl := ref_Below (((hLw.below hb1).below (Below.alloc0 w1 (.cells #[.int .i64 (root : Int)] 3))).arg) (SlI.any (SlI.one w1 (root : Int) 3) (by simp)) (by rw [kvs_length]; omega)
  rw [kvs_length] at hbl
  have hcast : wrap64 ((root : Int) + 1) = (R : Int) := by simp only [wrap64]; omega
  have hble := belowS_le N.length (kidsOf (kvs N)) [(root : Int)]
  generalize belowS N.length (kidsOf (kvs N)) [(root : Int)] = bl at hbl hB hC hble ⊢
  subst hFv
  have H0 := Hid.mk7 (And.intro hL (And.intro hb0 (And.intro hF (And.intro hF0 (And.intro hN (And.intro hM (And.intro hFl hD)))))))
  have HB := Hid.mk7 hB
  have HC := Hid.mk7 hC
  have H1 := Hid.mk7 (And.intro hs1 (And.intro hb1 hR))
  clear hL hb0 hF hF0 hN hM hFl hD hB hC hs1 hb1 hz1 hB1 hLw hR hrt
  go_enter Tryz.func25, Tryz.ntmps25
  go_wp2_with fail
  refine hbl.mono ?_
  rintro x w2 ⟨bv, rfl, hO2, hb2, hn2⟩
  clear hbl hmk hcast
  obtain ⟨aB, cB, hbv, _⟩ := OwnK.sl hO2 |>.form
  subst hbv
  have hm2 : CM w0 w w2 (.slice aF F0.length cF) w.heap.size root (.slice aB bl.length cB) bl (.slice aF F0.length cF) (List.replicate R 0) F0 := by
    obtain ⟨hL, hb0, hF, hF0, hN, hM, hFl, hD⟩ := H0.out
    obtain ⟨hs1, hb1, hR⟩ := H1.out
    have hbA := Below.alloc0 w1 (.cells #[.int .i64 (root : Int)] 3)
    have hbB : Below w1.heap.size w1 w2 := hbA.trans (hb2.mono hbA.size)
    have hbW : Below w.heap.size w w2 := hb1.trans (hbB.mono hb1.size)
    have hz1 := hs1.lt
    have hz2 := hbA.size
    refine ⟨hs1.below hbB, by simp [hR], hF.below hbW, fun e => ?_, fun j hj k hk e => ?_, SlI.any (OwnK.sl hO2) (by omega), fun k hk => ⟨?_, fun e => ?_, OwnK.blk_lt hO2 k hk⟩, Turned.ofBelow hbW, fun k e => .inl e, Nat.le_refl _, hb0.trans (hbW.mono hb0.size), hb0.size, fun k e => (hF0 k e).1⟩
    · have := (hF0 _ e).2; omega
    · have := hF.klt j hj k hk; omega
    · have := hn2 k hk; omega
    · have := hn2 k hk; have := (hF0 _ e).2; omega
  have HM2 := Hid.mk7 hm2
  clear hm2 hO2 hb2 hn2
  go_wp2_with fail
  go_loopw [2, 10] (fun Fv ix wr => ∃ (i : Nat) (c : Nat → Option Nat) (h : List Int) (F : List Nd), i ≤ bl.length ∧ ix = .int .i64 i ∧ CM w0 w wr (.slice aF F0.length cF) w.heap.size root (.slice aB bl.length cB) bl Fv h F ∧ CS G off D0 c0 bl F0.length 0 i c h F) (fun _ ix _ => bl.length - (intOf ix).toNat)
  case atStart => exact ⟨0, c0, _, F0, Nat.zero_le _, rfl, HM2.out, by have := HC.out; rwa [← H1.out.2.2] at this⟩
  case round =>
    rename World => wb
    obtain ⟨i, c, h, F, hi, rfl, hm, hc⟩ := hrel
    obtain ⟨aG, cG, hG, _⟩ := hm.fm.nodes.own.sl.form
    subst hG
    by_cases hlt : i < bl.length
    · have hbnd := HB.out.le _ (List.getElem_mem hlt)
      obtain ⟨z, hz⟩ : ∃ z : Nat, bl[i] = (z : Int) := ⟨bl[i].toNat, by omega⟩
      have hzr : z ≤ root := by omega
      have hzN : z < N.length := by have := HB.out.rt; omega
      have hNl : (N.length : Int) ≤ 1048576 := by have := H0.out.2.2.2.2.1; omega
      obtain ⟨gB, oB, hgB, cB1⟩ := hm.bs.at i hlt
      subst hgB
      rw [hz] at cB1
      obtain ⟨gL, oL, hgL, n0, n1, n2, n3, n4, n5, sK⟩ := (H0.out.1.below hm.bel).at z hzN
      subst hgL
      obtain ⟨aK, cK, hkv, _⟩ := sK.form
      rw [hkv] at n4
      have hKl : (N[z].kids.length : Int) ≤ 1048576 := by have := H0.out.2.2.2.2.2.1 N[z] (List.getElem_mem _); omega
      have hFl : (F.length : Int) ≤ 2097152 := by have := hc.len; have := H0.out.2.2.2.2.2.2.1; omega
      have hii : (i : Int) < (bl.length : Int) := by omega
      have hzi : (z : Int) < (N.length : Int) := by omega
      have HK := Hid.mk7 (And.intro hkv sK)
      have HM := Hid.mk7 hm
      have HC1 := Hid.mk7 hc
      have HZ := Hid.mk7 (And.intro hz hzr)
      clear hkv sK hm hc hz hzr hbnd
      go_wp2_with fail
      go_loopw [13, 14] (fun bd ix wr2 => ∃ (k : Nat) (V : Value) (ks : List Int), bd = .bool false ∧ ix = .int .i64 k ∧ Good N z off hzN c ks k ∧ FK wb wr2 N[z] V ks) (fun _ ix _ => N[z].kids.length - (intOf ix).toNat)
      case atStart =>
        refine ⟨0, .slice none 0 0, [], rfl, rfl, Good.start, ?_⟩
        have := FK.new wb N[z] 34
        rw [HK.out.1] at this
        exact this
      case round =>
        clear n0 n1 n2 n3 n4 n5
        obtain ⟨k, V, ks, rfl, rfl, hg, hf⟩ := hrel
        have hm1 := HM.out.below hf.bx.bel
        have hRi : (R : Int) ≤ 1048576 := by have := H1.out.2.2; have := HB.out.rt; omega
        have hzR : (z : Int) < (R : Int) := by have := H1.out.2.2; have := HZ.out.2; omega
        have hzh : z < h.length := by have := hm1.hl; have := HZ.out.2; omega
        obtain ⟨cz, fz⟩ := hm1.ht.c z hzh
        obtain ⟨gB2, oB2, hgB2, cB2⟩ := hm1.bs.at i hlt
        cases hgB2
        rw [HZ.out.1] at cB2
        have z4 := hf.bx.box 4 (by decide)
        simp only [Nd.cells, List.getElem?_cons_zero, List.getElem?_cons_succ] at z4
        rw [HK.out.1] at z4
        have HH := Hid.mk7 hzh
        obtain ⟨aV, cV, hV, _⟩ := OwnK.sl hf.own |>.form
        subst hV
        by_cases hk : k < N[z].kids.length
        · have hki : (k : Int) < (N[z].kids.length : Int) := by omega
          have sK := HK.out.2.below hf.bx.bel
          rw [HK.out.1] at sK
          obtain ⟨gK, oK, hgK, cK1⟩ := sK.at k hk
          subst hgK
          have HF1 := Hid.mk7 (And.intro hg hf)
          clear sK hg hf hm1
          generalize h[z] = hz0 at cz
          by_cases h0 : N[z].kids[k] < 0
          · have HBad : Hid (∃ x ∈ N[z].kids, lowB z x = false ∨ (lowB z x = true ∧ c (off + x.toNat) = none)) := ⟨_, List.getElem_mem hk, .inl (by simp [lowB]; omega)⟩
            generalize N[z].kids[k] = kd at cK1 h0
            go_wp2_with fail
            go_quiet (fail)
            go_wp2
            go_roundw
            case rel => exact ⟨i + 1, putC c (off + z) none, h.set z (-1), F, by omega, by go_num, ((HM.out.below HF1.out.2.bx.bel).below (drewN_below _ _)).put HH.out (-1), HC1.out.bad HB.out H0.out.2.2.2.2.2.2.2 hlt HZ.out.1 hzN HH.out HBad.out⟩
            case measure => simp [intOf]; omega
          · have h0' : (0 : Int) ≤ N[z].kids[k] := by omega
            by_cases h1 : (z : Int) ≤ N[z].kids[k]
            · have HBad : Hid (∃ x ∈ N[z].kids, lowB z x = false ∨ (lowB z x = true ∧ c (off + x.toNat) = none)) := ⟨_, List.getElem_mem hk, .inl (by simp [lowB]; omega)⟩
              generalize N[z].kids[k] = kd at cK1 h0 h0' h1
              have d0 : decide (kd < 0) = false := by simpa using h0
              have d1 : decide ((z : Int) ≤ kd) = true := by simpa using h1
              go_wp2_with fail
              go_quiet (fail)
              go_wp2
              go_roundw
              case rel => exact ⟨i + 1, putC c (off + z) none, h.set z (-1), F, by omega, by go_num, ((HM.out.below HF1.out.2.bx.bel).below (drewN_below _ _)).put HH.out (-1), HC1.out.bad HB.out H0.out.2.2.2.2.2.2.2 hlt HZ.out.1 hzN HH.out HBad.out⟩
              case measure => simp [intOf]; omega
            · obtain ⟨q, hq⟩ : ∃ q : Nat, N[z].kids[k] = (q : Int) := ⟨N[z].kids[k].toNat, by omega⟩
              have hlow : lowB z N[z].kids[k] = true := by simp [lowB]; omega
              obtain ⟨_, hhq⟩ := HC1.out.kid HB.out hlt HZ.out.1 hzN (List.getElem_mem hk) hlow
              rw [hq, Int.toNat_natCast] at hhq
              obtain ⟨hqh, ehq⟩ := List.getElem?_eq_some_iff.1 hhq
              obtain ⟨cq, fq⟩ := (HM.out.below HF1.out.2.bx.bel).ht.c q hqh
              rw [ehq] at cq
              rw [hq] at cK1
              have hqz : (q : Int) < (z : Int) := by omega
              have hqz2 : ¬ (z : Int) ≤ (q : Int) := by omega
              have hq0 : ¬ (q : Int) < 0 := by omega
              have hq00 : (0 : Int) ≤ (q : Int) := by omega
              have hqR : (q : Int) < (R : Int) := by omega
              have d0 : decide ((q : Int) < 0) = false := by simp
              have d1 : decide (z ≤ q) = false := by simp; omega
              have HQ := Hid.mk7 (And.intro hq hlow)
              clear h0 h0' h1 hhq ehq hqh hlow
              cases hcq : c (off + q) with
              | none =>
                rw [hcq] at cq
                simp only [cval] at cq
                have HBad : Hid (∃ x ∈ N[z].kids, lowB z x = false ∨ (lowB z x = true ∧ c (off + x.toNat) = none)) := ⟨_, List.getElem_mem hk, .inr ⟨HQ.out.2, by rw [HQ.out.1]; simpa using hcq⟩⟩
                clear hq hcq
                go_wp2_with fail
                go_quiet (fail)
                go_wp2
                go_roundw
                case rel => exact ⟨i + 1, putC c (off + z) none, h.set z (-1), F, by omega, by go_num, ((HM.out.below HF1.out.2.bx.bel).below (drewN_below _ _)).put HH.out (-1), HC1.out.bad HB.out H0.out.2.2.2.2.2.2.2 hlt HZ.out.1 hzN HH.out HBad.out⟩
                case measure => simp [intOf]; omega
              | some j =>
                rw [hcq] at cq
                simp only [cval] at cq
                have d2 : decide ((j : Int) < 0) = false := by simp
                have HJ := Hid.mk7 hcq
                have f4 := HF1.out.2.f4
                have f4z := HF1.out.2.fz
                have hlt1 := HF1.out.2.lt
                have hksl : ks.length ≤ 1048576 := by have := HF1.out.1.len; have := HF1.out.1.le; omega
                have HKS := Hid.mk7 (And.intro hksl (And.intro (show (ks.length + [(j : Int)].length) * 8 ≤ 140737488355328 by simp; omega) (show ks.length + [(j : Int)].length ≤ 4611686018427387903 by simp; omega)))
                clear hq hcq hksl
                go_wp2_with fail
                go_quiet (fail)
                go_wp2_with fail
                have HOwn := Hid.mk7 (fun w' (hb : Below wr.heap.size wr w') => (HF1.out.2.below hb).own)
                have HCell : Hid (∀ w' w4, Below wr.heap.size wr w' → Turned (blk (.slice aV ks.length cV)) w' w4 → w4.cell? ⟨wb.heap.size + 1, 4, none⟩ = some (.slice aV ks.length cV) ∧ w4.frozen? ⟨wb.heap.size + 1, 4, none⟩ = false ∧ w4.cell? ⟨wb.heap.size, 4, none⟩ = some (.slice (some ⟨gK, oK, none⟩) N[z].kids.length cK) ∧ w4.cell? ⟨gK, oK + k, none⟩ = some (.int .i64 (q : Int)) ∧ w4.cell? ⟨w.heap.size, q, none⟩ = some (.int .i64 (j : Int)) ∧ wb.heap.size + 1 < w4.heap.size) := by
                  intro w' w4 hb T
                  have hnw := HF1.out.2.nw
                  have hgl := HM.out.ht.lt
                  have hKl : gK < wb.heap.size := by
                    have := HK.out.2.blk (by omega) gK (by rw [HK.out.1]; exact rfl)
                    exact this
                  have hn1 : ¬ blk (.slice aV ks.length cV) (wb.heap.size + 1) := fun e => by have := hnw _ e; omega
                  have hn2 : ¬ blk (.slice aV ks.length cV) wb.heap.size := fun e => by have := hnw _ e; omega
                  have hn3 : ¬ blk (.slice aV ks.length cV) gK := fun e => by have := hnw _ e; omega
                  have hn4 : ¬ blk (.slice aV ks.length cV) w.heap.size := fun e => by have := hnw _ e; omega
                  have cc : ∀ {p : Addr} {v : Value}, wr.cell? p = some v → ¬ blk (.slice aV ks.length cV) p.block → w4.cell? p = some v := fun {p v} e hn => T.cell ((hb.cell (World.block_lt_of_cell? wr _ e)).trans e) hn
                  refine ⟨cc HF1.out.2.f4 hn1, ?_, cc z4 hn2, cc cK1 hn3, cc cq hn4, ?_⟩
                  · rw [T.frozen (p := ⟨wb.heap.size + 1, 4, none⟩) (by have := hb.size; have := HF1.out.2.lt; simp; omega) hn1, hb.frozen (p := ⟨wb.heap.size + 1, 4, none⟩) HF1.out.2.lt]
                    exact HF1.out.2.fz
                  · have := hb.size; have := T.size; have := HF1.out.2.lt; omega
                have f4a : ∀ (n : Nat) (o : Obj), ((wr.drewN n).alloc o).cell? ⟨wb.heap.size + 1, 4, none⟩ = some (.slice aV ks.length cV) := fun n o => (HF1.out.2.below ((drewN_below wr n).trans ((Below.alloc0 _ o).mono (Nat.le_refl _)))).f4
                go_region_law (refine step_append_k (by rfl) (.tmp 81) (.tmp 90) (by rfl) Tryz.intTypes (by rfl) (by rfl) (HOwn.out _ (below_da _ _ _)) (SlI.one _ _ _) (ints_one _) HKS.out.2.1 HKS.out.2.2 ?_; intro V4 w4 ho4 T4 hv4; have hc4 := HCell.out _ _ (below_da _ _ _) T4; have hc4a := hc4.1; have hc4b := hc4.2.1; have hc4c := hc4.2.2.2.2.2; obtain ⟨a4, cap4, hV4, _, _⟩ := ho4.sl.form; subst hV4)
                all_goals
                  have HFK := Hid.mk7 (HF1.out.2.next (below_da _ _ _) ho4 T4 hv4)
                  clear ho4 T4 hv4 hc4 hc4a hc4b hc4c f4 f4z f4a
                  generalize w4.setCell _ _ = w5 at HFK ⊢
                  go_wp2
                  go_roundw
                  case rel => exact ⟨k + 1, _, ks ++ [(j : Int)], rfl, by go_num, HF1.out.1.next hk HQ.out.2 (by rw [HQ.out.1]; simpa using HJ.out), HFK.out⟩
                  case measure => simp [intOf]; omega
        · have hge : ¬ (k : Int) < (N[z].kids.length : Int) := by omega
          have hkl : k = N[z].kids.length := by have := hg.le; omega
          subst hkl
          have hksl : ks.length ≤ 1048576 := by have := hg.len; omega
          have hgz := HM.out.ht.lt
          have hFm := hm1.fm
          have hVn : ∀ q, blk (.slice aV ks.length cV) q → ¬ blk (.slice aG F.length cG) q ∧ q < wr.heap.size := fun q hq => ⟨fun e => by have := HM.out.fm.nodes.own.blk_lt q e; have := hf.nw q hq; omega, OwnK.blk_lt hf.own q hq⟩
          have hcl : ∀ w', Below wr.heap.size wr w' → Calls Tryz.prog 34 #[.slice aG F.length cG, .agg #[.int .i64 N[z].kind, .string N[z].text, .string N[z].mod, .int .i64 N[z].num, .slice aV ks.length cV, .int .i64 0]] w' (ClassTold w' (.slice aG F.length cG) F ⟨N[z].kind, N[z].text, N[z].mod, N[z].num, .slice aV ks.length cV, ks, 0⟩) := fun w' hb =>
            ref_class (f := ⟨N[z].kind, N[z].text, N[z].mod, N[z].num, .slice aV ks.length cV, ks, 0⟩) (hFm.below hb) (OwnK.sl (hf.below hb).own) (fun q hq => ⟨(hVn q hq).1, Nat.lt_of_lt_of_le (hVn q hq).2 hb.size⟩) (by omega) (show ks.length ≤ 16777216 by omega)
          have f0 := hf.f0
          have f1 := hf.f1
          have f2 := hf.f2
          have f3 := hf.f3
          have f4 := hf.f4
          have f5 := hf.f5
          have HF1 := Hid.mk7 (And.intro hg (And.intro hf hVn))
          have HM1 := Hid.mk7 hm1
          clear hg hf hm1 hFm hVn
          generalize h[z] = hz0 at cz
          by_cases hex : ∀ j (hj : j < F.length), formB F[j] ⟨N[z].kind, N[z].text, N[z].mod, N[z].num, .slice aV ks.length cV, ks, 0⟩ = false
          · have hcl2 : ∀ w', Below wr.heap.size wr w' → Calls Tryz.prog 34 #[.slice aG F.length cG, .agg #[.int .i64 N[z].kind, .string N[z].text, .string N[z].mod, .int .i64 N[z].num, .slice aV ks.length cV, .int .i64 0]] w' (fun x w6 => ∃ aG' cG', x = .returned (.tuple #[.int .i64 (F.length : Nat), .slice aG' (F.length + 1) cG']) ∧ CM w0 w w6 (.slice aF F0.length cF) w.heap.size root (.slice (some ⟨gB, oB, none⟩) bl.length cB) bl (.slice aG' (F.length + 1) cG') h (F ++ [⟨N[z].kind, N[z].text, N[z].mod, N[z].num, .slice aV ks.length cV, ks, 0⟩])) := fun w' hb => (hcl w' hb).mono fun x w6 ht => by
              rcases ht with ⟨j, hj, he, _⟩ | ⟨_, Fv', rfl, hF', T', hv'⟩
              · rw [hex j hj] at he; cases he
              · obtain ⟨aG', cG', hG', _⟩ := hF'.nodes.own.sl.form
                have hG'' : Fv' = .slice aG' (F.length + 1) cG' := by simpa using hG'
                subst hG''
                exact ⟨aG', cG', rfl, (HM1.out.below hb).grown hF' T' hv' (fun q hq e => by have := HF1.out.2.1.nw q hq; omega)⟩
            have HX := Hid.mk7 hex
            clear hcl hex
            go_wp2_with fail
            go_region_with (go_at_call 34; refine (hcl2 _ (Below.drew (Below.refl _ _))).mono ?_; rintro x w6 ⟨aG6, cG6, rfl, m6⟩; obtain ⟨gB6, oB6, e6, cB6⟩ := m6.bs.at i hlt; cases e6; rw [HZ.out.1] at cB6; obtain ⟨cz6, fz6⟩ := m6.ht.c z HH.out; have M6 := Hid.mk7 m6; clear m6)
            all_goals
              go_wp2
              go_roundw
              case rel => exact ⟨i + 1, putC c (off + z) (some F.length), h.set z (F.length : Int), _, by omega, by go_num, M6.out.put HH.out (F.length : Int), HC1.out.more HB.out H0.out.2.2.2.2.2.2.2 hlt HZ.out.1 hzN HH.out HF1.out.1 rfl rfl HX.out⟩
              case measure => simp [intOf]; omega
          · have hcl2 : ∀ w', Below wr.heap.size wr w' → Calls Tryz.prog 34 #[.slice aG F.length cG, .agg #[.int .i64 N[z].kind, .string N[z].text, .string N[z].mod, .int .i64 N[z].num, .slice aV ks.length cV, .int .i64 0]] w' (fun x w6 => ∃ j : Nat, x = .returned (.tuple #[.int .i64 (j : Nat), .slice aG F.length cG]) ∧ Hid (∃ hj : j < F.length, formB F[j] ⟨N[z].kind, N[z].text, N[z].mod, N[z].num, .slice aV ks.length cV, ks, 0⟩ = true) ∧ CM w0 w w6 (.slice aF F0.length cF) w.heap.size root (.slice (some ⟨gB, oB, none⟩) bl.length cB) bl (.slice aG F.length cG) h F) := fun w' hb => (hcl w' hb).mono fun x w6 ht => by
              rcases ht with ⟨j, hj, he, rfl, hb6⟩ | ⟨hno, _⟩
              · exact ⟨j, rfl, ⟨hj, he⟩, (HM1.out.below hb).below hb6⟩
              · exact absurd hno hex
            clear hcl hex
            go_wp2_with fail
            go_region_with (go_at_call 34; refine (hcl2 _ (Below.drew (Below.refl _ _))).mono ?_; rintro x w6 ⟨j, rfl, HX, m6⟩; obtain ⟨gB6, oB6, e6, cB6⟩ := m6.bs.at i hlt; cases e6; rw [HZ.out.1] at cB6; obtain ⟨cz6, fz6⟩ := m6.ht.c z HH.out; have M6 := Hid.mk7 m6; clear m6)
            all_goals
              go_wp2
              go_roundw
              case rel => exact ⟨i + 1, putC c (off + z) (some j), h.set z (j : Int), F, by omega, by go_num, M6.out.put HH.out (j : Int), HC1.out.old (f := ⟨N[z].kind, N[z].text, N[z].mod, N[z].num, .slice aV ks.length cV, ks, 0⟩) HB.out H0.out.2.2.2.2.2.2.2 hlt HZ.out.1 hzN HH.out HF1.out.1 rfl rfl HX.out.1 HX.out.2⟩
              case measure => simp [intOf]; omega
    · have hge : ¬ (i : Int) < (bl.length : Int) := by omega
      have hil : i = bl.length := by omega
      subst hil
      have HE := Hid.mk7 (And.intro hm hc)
      clear hm hc
      go_wp2
      go_ret2
      exact ⟨w.heap.size, .slice aB bl.length cB, .slice aG F.length cG, c, h, F, by rw [H1.out.2.2]; rfl, HE.out.1, HE.out.2⟩
end Go.Proofs.YtipdmmncgenppaaGreatDoor
