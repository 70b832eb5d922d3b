/-
  The document's layer 11: Below.
-/
import Derived.Test.YtipdmmncgenppaaGreatDoorPU
namespace Go.Proofs.YtipdmmncgenppaaGreatDoor
open Go.RowKit

set_option maxRecDepth 100000 in
set_option maxHeartbeats 6400000 in
theorem ref_Below {w : World} {lv rv : Value} {K : List (Value × List Int)} {roots : List Int} (hL : NArg w lv K) (hR : SlA w rv roots) (hK : K.length ≤ 2199023255552) :
    Calls Tryz.prog 6 #[lv, rv] w fun x w' => ∃ V, x = .returned V ∧ OwnI w' V (belowS K.length (kidsOf K) roots) ∧ Below w.heap.size w w' ∧ ∀ k, blk V k → w.heap.size ≤ k := by
  obtain ⟨aL, cL, hlv⟩ := hL.form
  subst hlv
  obtain ⟨aR, cR, hrv, hrl⟩ := hR.form
  subst hrv
  have HL := Hid.mk7 hL
  have HR := Hid.mk7 hR
  obtain ⟨w1, hmk, hb1, hz1, hB1⟩ := make_one Tryz.boolTypes (by simp [Value.cells]) w K.length (by omega) (by omega)
  have HM := Hid.mk7 (And.intro hb1 (And.intro hz1 (MetAt.new hB1 hz1)))
  clear hL hR hb1 hz1 hB1
  go_enter Tryz.func6, Tryz.ntmps6
  go_wp2_with fail
  go_loopw [6] (fun ix wr => ∃ (j : Nat) (mr : List Bool), j ≤ roots.length ∧ ix = .int .i64 j ∧ mr.length = K.length ∧ markL (lowB K.length) (roots.drop j) mr = markL (lowB K.length) roots (List.replicate K.length false) ∧ MetAt wr w.heap.size mr ∧ Below w.heap.size w wr) (fun ix _ => roots.length - (intOf ix).toNat)
  case atStart => exact ⟨0, _, Nat.zero_le _, rfl, by simp, rfl, HM.out.2.2, HM.out.1⟩
  case round =>
    obtain ⟨j, mr, hj, rfl, hlen, hrest, hmr, hb⟩ := hrel
    by_cases hlt : j < roots.length
    · have hji : (j : Int) < (roots.length : Int) := by omega
      obtain ⟨b, off, rfl, hc⟩ := (HR.out.below hb).at j hlt
      have hstep := markL_drop (lowB K.length) roots j hlt mr
      cases hbb : lowB K.length roots[j] with
      | true =>
        simp only [hbb] at hstep
        have hx : 0 ≤ roots[j] ∧ roots[j] < (K.length : Int) := by simpa [lowB] using hbb
        obtain ⟨q, hq⟩ : ∃ q : Nat, roots[j] = (q : Int) := ⟨roots[j].toNat, by omega⟩
        have hqi : q < mr.length := by omega
        have hqi' : (q : Int) < (K.length : Int) := by omega
        have hq0 : (0 : Int) ≤ (q : Int) := by omega
        obtain ⟨cq, fq⟩ := hmr.c q hqi
        rw [hq] at hc
        have HN := Hid.mk7 (And.intro (show markL (lowB K.length) (roots.drop (j + 1)) (mr.set q true) = markL (lowB K.length) roots (List.replicate K.length false) by rw [← hrest, hstep, hq]; simp) (And.intro (hmr.set q hqi) (Turned.toBelow hb (Turned.set1 _ w.heap.size q (.bool true)) (Nat.le_refl _))))
        clear hrest hmr hb hstep hbb hx
        go_wp2
        go_roundw
        case rel => exact ⟨j + 1, mr.set q true, by omega, by go_num, by simpa using hlen, HN.out.1, HN.out.2.1, HN.out.2.2⟩
        case measure => simp [intOf]; omega
      | false =>
        simp only [hbb] at hstep
        have hx : ¬ (0 ≤ roots[j] ∧ roots[j] < (K.length : Int)) := by simpa [lowB] using hbb
        have HN := Hid.mk7 (And.intro (show markL (lowB K.length) (roots.drop (j + 1)) mr = markL (lowB K.length) roots (List.replicate K.length false) by rw [← hrest, hstep]; simp) (And.intro hmr hb))
        generalize roots[j] = rj at hc hx
        clear hrest hmr hb hstep hbb
        by_cases h0 : (0 : Int) ≤ rj
        · have h1 : ¬ rj < (K.length : Int) := fun h => hx ⟨h0, h⟩
          clear hx
          go_wp2
          go_roundw
          case rel => exact ⟨j + 1, mr, by omega, by go_num, hlen, HN.out.1, HN.out.2.1, HN.out.2.2⟩
          case measure => simp [intOf]; omega
        · clear hx
          go_wp2
          go_roundw
          case rel => exact ⟨j + 1, mr, by omega, by go_num, hlen, HN.out.1, HN.out.2.1, HN.out.2.2⟩
          case measure => simp [intOf]; omega
    · have hge : ¬ (j : Int) < (roots.length : Int) := by omega
      have he : mr = markL (lowB K.length) roots (List.replicate K.length false) := by rw [← hrest, List.drop_of_length_le (by omega)]; rfl
      have HD : Hid (belowS K.length (kidsOf K) roots = marked 0 (downS (kidsOf K) K.length mr)) := by rw [he]; exact rfl
      have H1 := Hid.mk7 (And.intro hmr hb)
      clear hrest he hmr hb HM hmk
      go_wp2_with fail
      clear hge hlt hj
      go_loopw [7] (fun ix wr => ∃ (j : Nat) (mr : List Bool), j ≤ K.length ∧ ix = .int .i64 ((j : Int) - 1) ∧ mr.length = K.length ∧ marked 0 (downS (kidsOf K) j mr) = belowS K.length (kidsOf K) roots ∧ MetAt wr w.heap.size mr ∧ Below w.heap.size w wr) (fun ix _ => (intOf ix + 1).toNat)
      case atStart => exact ⟨K.length, mr, Nat.le_refl _, rfl, hlen, HD.out.symm, H1.out.1, H1.out.2⟩
      case round =>
        clear HD H1 hlen
        obtain ⟨j2, m2, hj2, rfl, hlen2, hrest2, hm2, hb2⟩ := hrel
        cases j2 with
        | succ i =>
          have ei : ((i + 1 : Nat) : Int) - 1 = (i : Int) := by omega
          rw [ei]
          have hin : i < K.length := by omega
          have hini : (i : Int) < (K.length : Int) := by omega
          have him : i < m2.length := by omega
          have hpos : (0 : Int) ≤ (i : Int) := by omega
          obtain ⟨cm, fm⟩ := hm2.c i him
          rw [downS] at hrest2
          have egd : (m2[i]?).getD false = m2[i] := by simp [him]
          rw [egd] at hrest2
          cases hmi : m2[i] with
          | false =>
            rw [hmi] at cm hrest2
            have HN := Hid.mk7 (And.intro (show marked 0 (downS (kidsOf K) i m2) = _ from by simpa using hrest2) (And.intro hm2 hb2))
            clear hrest2 hm2 hb2 egd hmi
            go_wp2_with fail
            refine wp_loop_rounds 1 ?_
            rw [rounds_succ]
            go_wp2
            go_roundw
            case rel => exact ⟨i, m2, by omega, by go_num, hlen2, HN.out.1, HN.out.2.1, HN.out.2.2⟩
            case measure => simp [intOf]
          | true =>
            rw [hmi] at cm hrest2
            have hm2i : m2[i]? = some true := by rw [List.getElem?_eq_getElem him, hmi]
            obtain ⟨b, off, rfl, hck, hsk⟩ := (HL.out).at i hin
            obtain ⟨ak, ck, hkv, hkl⟩ := hsk.form
            rw [kidsOf_at K i hin] at hrest2
            have HN := Hid.mk7 (And.intro (show marked 0 (downS (kidsOf K) i (markL (lowB i) K[i].2 m2)) = _ from by simpa using hrest2) (And.intro hm2 hb2))
            have HS := Hid.mk7 hsk
            generalize hkd : K[i].1 = kv at hck hkv HS
            generalize hkx : K[i].2 = kl at hkv HS HN hkl
            subst hkv
            have HC := Hid.mk7 hck
            clear hrest2 hm2 hb2 egd hmi hsk hck cm fm
            go_wp2_with fail
            go_loopw [8] (fun ix wr2 => ∃ (k : Nat) (mr : List Bool), k ≤ kl.length ∧ ix = .int .i64 k ∧ mr.length = K.length ∧ mr[i]? = some true ∧ markL (lowB i) (kl.drop k) mr = markL (lowB i) kl m2 ∧ MetAt wr2 w.heap.size mr ∧ Below w.heap.size w wr2) (fun ix _ => kl.length - (intOf ix).toNat)
            case atStart => exact ⟨0, m2, Nat.zero_le _, rfl, hlen2, hm2i, rfl, HN.out.2.1, HN.out.2.2⟩
            case round =>
              obtain ⟨k, mr, hk, rfl, hlen3, hmi3, hrest3, hm3, hb3⟩ := hrel
              have him3 : i < mr.length := by omega
              obtain ⟨cm, fm⟩ := hm3.c i him3
              have emi : mr[i] = true := by rw [List.getElem?_eq_getElem him3] at hmi3; exact Option.some.inj hmi3
              rw [emi] at cm
              have hck := (hb3.cell (p := ⟨b, off + i * 6 + 4, none⟩) (World.block_lt_of_cell? w _ HC.out)).trans HC.out
              by_cases hkl2 : k < kl.length
              · have hkli : (k : Int) < (kl.length : Int) := by omega
                obtain ⟨bk, ok, rfl, hcv⟩ := (HS.out.below hb3).at k hkl2
                have hstep := markL_drop (lowB i) kl k hkl2 mr
                cases hbb : lowB i kl[k] with
                | true =>
                  simp only [hbb] at hstep
                  have hx : 0 ≤ kl[k] ∧ kl[k] < (i : Int) := by simpa [lowB] using hbb
                  obtain ⟨q, hq⟩ : ∃ q : Nat, kl[k] = (q : Int) := ⟨kl[k].toNat, by omega⟩
                  have hqi : q < mr.length := by omega
                  have hqi' : (q : Int) < (K.length : Int) := by omega
                  have hqlt : (q : Int) < (i : Int) := by omega
                  have hq0 : (0 : Int) ≤ (q : Int) := by omega
                  obtain ⟨cq, fq⟩ := hm3.c q hqi
                  rw [hq] at hcv
                  have HN3 := Hid.mk7 (And.intro (show markL (lowB i) (kl.drop (k + 1)) (mr.set q true) = markL (lowB i) kl m2 by rw [← hrest3, hstep, hq]; simp) (And.intro (hm3.set q hqi) (And.intro (Turned.toBelow hb3 (Turned.set1 _ w.heap.size q (.bool true)) (Nat.le_refl _)) (show (mr.set q true)[i]? = some true by rw [List.getElem?_set_ne (by omega)]; exact hmi3))))
                  clear hrest3 hm3 hb3 hstep hbb hx emi hmi3
                  go_wp2
                  go_roundw
                  case rel => exact ⟨k + 1, mr.set q true, by omega, by go_num, by simpa using hlen3, HN3.out.2.2.2, HN3.out.1, HN3.out.2.1, HN3.out.2.2.1⟩
                  case measure => simp [intOf]; omega
                | false =>
                  simp only [hbb] at hstep
                  have hx : ¬ (0 ≤ kl[k] ∧ kl[k] < (i : Int)) := by simpa [lowB] using hbb
                  have HN3 := Hid.mk7 (And.intro (show markL (lowB i) (kl.drop (k + 1)) mr = markL (lowB i) kl m2 by rw [← hrest3, hstep]; simp) (And.intro hm3 (And.intro hb3 hmi3)))
                  generalize kl[k] = kd at hcv hx
                  clear hrest3 hm3 hb3 hstep hbb emi hmi3
                  by_cases h0 : (0 : Int) ≤ kd
                  · have h1 : ¬ kd < (i : Int) := fun h => hx ⟨h0, h⟩
                    clear hx
                    go_wp2
                    go_roundw
                    case rel => exact ⟨k + 1, mr, by omega, by go_num, hlen3, HN3.out.2.2.2, HN3.out.1, HN3.out.2.1, HN3.out.2.2.1⟩
                    case measure => simp [intOf]; omega
                  · clear hx
                    go_wp2
                    go_roundw
                    case rel => exact ⟨k + 1, mr, by omega, by go_num, hlen3, HN3.out.2.2.2, HN3.out.1, HN3.out.2.1, HN3.out.2.2.1⟩
                    case measure => simp [intOf]; omega
              · have hge : ¬ (k : Int) < (kl.length : Int) := by omega
                have he : mr = markL (lowB i) kl m2 := by rw [← hrest3, List.drop_of_length_le (by omega)]; rfl
                have H3 := Hid.mk7 (And.intro hm3 (And.intro hb3 he))
                clear hrest3 hm3 hb3 he emi hmi3
                go_wp2
                go_roundw
                case rel => exact ⟨i, mr, by omega, by go_num, hlen3, by rw [H3.out.2.2]; exact HN.out.1, H3.out.1, H3.out.2.1⟩
                case measure => simp [intOf]
        | zero =>
          have hneg : ¬ (0 : Int) ≤ (((0 : Nat) : Int) - 1) := by omega
          have HD2 := Hid.mk7 hrest2
          have H2 := Hid.mk7 (And.intro hm2 hb2)
          clear hrest2 hm2 hb2
          go_wp2_with fail
          clear hneg
          go_loopw [9, 10] (fun V ix wr => ∃ (j : Nat) (acc : List Int), j ≤ K.length ∧ ix = .int .i64 j ∧ acc.length ≤ j ∧ acc ++ marked j (m2.drop j) = belowS K.length (kidsOf K) roots ∧ OwnI wr V acc ∧ (∀ k, blk V k → w.heap.size < k) ∧ MetAt wr w.heap.size m2 ∧ Below w.heap.size w wr) (fun _ ix _ => K.length - (intOf ix).toNat)
          case atStart => exact ⟨0, [], Nat.zero_le _, rfl, Nat.le_refl _, HD2.out, OwnK.nil 1 _, fun _ e => e.elim, H2.out.1, H2.out.2⟩
          case round =>
            clear HD2 H2
            obtain ⟨j3, acc, hj3, rfl, hal, hrest3, ho3, hof3, hm3, hb3⟩ := hrel
            obtain ⟨aV, cV, hV, _⟩ := OwnK.sl ho3 |>.form
            subst hV
            by_cases hlt : j3 < K.length
            · have hji : (j3 : Int) < (K.length : Int) := by omega
              have him : j3 < m2.length := by omega
              obtain ⟨cm, fm⟩ := hm3.c j3 him
              rw [marked_drop m2 j3 him] at hrest3
              cases hmi : m2[j3] with
              | false =>
                rw [hmi] at cm hrest3
                have HN := Hid.mk7 (And.intro (show acc ++ marked (j3 + 1) (m2.drop (j3 + 1)) = _ from by simpa using hrest3) (And.intro ho3 (And.intro hof3 (And.intro hm3 hb3))))
                clear hrest3 ho3 hof3 hm3 hb3 hmi
                go_wp2
                go_roundw
                case rel => exact ⟨j3 + 1, acc, by omega, by go_num, by omega, HN.out.1, HN.out.2.1, HN.out.2.2.1, HN.out.2.2.2.1, HN.out.2.2.2.2⟩
                case measure => simp [intOf]; omega
              | true =>
                rw [hmi] at cm hrest3
                have hfit : (acc.length + [(j3 : Int)].length) * 8 ≤ 140737488355328 := by simp; omega
                have hfit2 : acc.length + [(j3 : Int)].length ≤ 4611686018427387903 := by simp; omega
                have HN := Hid.mk7 (And.intro (show (acc ++ [(j3 : Int)]) ++ marked (j3 + 1) (m2.drop (j3 + 1)) = _ from by simpa using hrest3) (And.intro ho3 (And.intro hof3 (And.intro hm3 hb3))))
                clear hrest3 ho3 hof3 hm3 hb3 hmi
                go_wp2_with (at_builtin; refine wpList_append_k (by rfl) (.tmp 104) (.tmp 106) (by rfl) Tryz.intTypes (by rfl) (by rfl) (OwnK.turned HN.out.2.1 (Turned.alloc (fun _ => False) _ _) (fun _ _ e => e)) (SlI.one _ _ _) (ints_one _) hfit hfit2 ?_; intro V4 w4 ho4 T4 hv4)
                obtain ⟨e3, ho3, hof3, hm3, hb3⟩ := HN.out
                have hz3 := hb3.size
                have hmlt := hm3.lt
                have B4 := hb3.trans ((Below.alloc0 _ (.cells #[.int .i64 (j3 : Int)] 3)).mono hz3)
                have H4 := Hid.mk7 (And.intro (OwnI.snoc ho4) (And.intro (show ∀ k, blk V4 k → w.heap.size < k from fun k hk => (hv4 k hk).elim (hof3 k) (fun e => by simp at e; omega)) (And.intro ((hm3.turned (Turned.alloc (fun _ => False) _ (.cells #[.int .i64 (j3 : Int)] 3)) (fun e => e)).turned T4 (fun e => by have := hof3 _ e; omega)) (B4.trans (T4.below B4.size (fun k hk => Nat.le_of_lt (hof3 k hk)))))))
                clear ho4 T4 hv4 e3 ho3 hof3 hm3 hb3 B4
                go_wp2
                go_roundw
                case rel => exact ⟨j3 + 1, acc ++ [(j3 : Int)], by omega, by go_num, by simp; omega, HN.out.1, H4.out.1, H4.out.2.1, H4.out.2.2.1, H4.out.2.2.2⟩
                case measure => simp [intOf]; omega
            · have hge : ¬ (j3 : Int) < (K.length : Int) := by omega
              have he : acc = belowS K.length (kidsOf K) roots := by rw [← hrest3, List.drop_of_length_le (by omega)]; simp [marked]
              have HE := Hid.mk7 he
              have HN := Hid.mk7 (And.intro ho3 (And.intro hb3 hof3))
              clear hrest3 ho3 hof3 hm3 hb3 he
              go_wp2
              go_ret
              exact ⟨_, rfl, by rw [← HE.out]; exact HN.out.1, HN.out.2.1, fun k hk => Nat.le_of_lt (HN.out.2.2 k hk)⟩
end Go.Proofs.YtipdmmncgenppaaGreatDoor
