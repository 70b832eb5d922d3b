/-
  Layer 11 (parse): the program's Below.
-/
import Derived.Test.YtipdmmncgenppaaGreatDoorPT
namespace Go.Proofs.YtipdmmncgenppaaGreatDoor
open Go.RowKit

theorem make_one {P : Program} {t e : TypeId} {b : Nat} {z : Value} (hB : ElTypes P t e 1 b z) (hz1 : z.cells = #[z]) (w : World) (n : Nat) (h : b * n ≤ 281474976710656) (hn : n ≤ 4611686018427387903) : ∃ w1, (Instr.makeSlice t (.int .i64 (n : Int)) (.int .i64 (n : Int))).run P w = .ok (.slice (some ⟨w.heap.size, 0, none⟩) n n) w1 ∧ Below w.heap.size w w1 ∧ w.heap.size < w1.heap.size ∧ Block w1 w.heap.size n (fun _ => z) := by
  obtain ⟨i, hi, hz, hsz, hby⟩ := hB.info
  have hb' : (b : Int) * (n : Int) ≤ 281474976710656 := by
    have h : ((b * n : Nat) : Int) ≤ 281474976710656 := by omega
    rwa [Int.natCast_mul] at h
  have hr := run_make (P := P) w t e i z hB.slice hi hz .i64 .i64 n n (by omega) (by omega) (by rw [hby]; exact hb') (by omega)
  rw [Int.toNat_natCast, hsz, Nat.mul_one] at hr
  refine ⟨_, hr, Below.alloc0 w _, by simp, fun j hj => ⟨?_, by rw [World.frozen?_alloc_new]⟩⟩
  rw [World.cell?_alloc_at _ _ _ _ rfl]
  have hj' : j < (madeCells z.cells n).size := by rw [size_madeCells]; exact hj
  rw [Array.getElem?_eq_getElem hj']
  simp [madeCells, hz1, Nat.mod_one]
theorem Tryz.boolTypes : ElTypes Tryz.prog 29 4 1 1 (.bool false) := by
  refine ⟨Tryz.underlying29, ?_, by simp [Value.cells]⟩
  have h : (Tryz.prog.info? 4).map (fun i => (i.zero, i.size, i.bytes)) = some (some (.bool false), 1, 1) := by kernel_rfl
  obtain ⟨i, hi, h0, h1, h2⟩ := info_parts h
  exact ⟨i, hi, h0, h1, h2⟩
theorem markL_drop (p : Int → Bool) (l : List Int) (j : Nat) (hj : j < l.length) (m : List Bool) : markL p (l.drop j) m = markL p (l.drop (j + 1)) (if p l[j] then m.set l[j].toNat true else m) := by
  rw [List.drop_eq_getElem_cons hj, markL]
set_option maxRecDepth 100000 in
set_option maxHeartbeats 1600000 in
theorem ps_meet {w : World} {g : Nat} {m : List Bool} (hm : MetAt w g m) {v : Value} {l : List Int} (hl : SlA w v l) (hg : 0 < l.length → ∀ k, blk v k → k ≠ g) (i : Nat) (hi : i ≤ m.length) : Calls Tryz.prog 11 #[.slice (some ⟨g, 0, none⟩) m.length m.length, v, .int .i64 i] w fun x w' => x = .returned (.tuple #[]) ∧ MetAt w' g (markL (lowB i) l m) ∧ Turned (fun k => k = g) w w' := by
  obtain ⟨a, cap, hv, hll⟩ := hl.form
  subst hv
  have HL := Hid.mk7 hl
  have HG := Hid.mk7 hg
  have HM := Hid.mk7 hm
  clear hl hg hm
  go_enter Tryz.func11, Tryz.ntmps11
  go_wp2_with fail
  go_loopw [10] (fun ix wr => ∃ (j : Nat) (mr : List Bool), j ≤ l.length ∧ ix = .int .i64 j ∧ mr.length = m.length ∧ markL (lowB i) (l.drop j) mr = markL (lowB i) l m ∧ MetAt wr g mr ∧ Turned (fun k => k = g) w wr) (fun ix _ => l.length - (intOf ix).toNat)
  case atStart => exact ⟨0, m, Nat.zero_le _, rfl, rfl, rfl, HM.out, Turned.refl _ _⟩
  case round =>
    obtain ⟨j, mr, hj, rfl, hlen, hrest, hmr, ht⟩ := hrel
    have H := Hid.mk7 (And.intro hrest (And.intro hmr ht))
    by_cases hlt : j < l.length
    · have hji : (j : Int) < (l.length : Int) := by omega
      obtain ⟨b, off, rfl, hc⟩ := (HL.out.turned ht (fun h0 k hk e => HG.out h0 k hk e)).at j hlt
      have hlow := ps_isLower l[j] i
      have hstep := markL_drop (lowB i) l j hlt mr
      cases hb : lowB i l[j] with
      | true =>
        simp only [hb] at hlow hstep
        have hx : 0 ≤ l[j] ∧ l[j] < (i : Int) := by simpa [lowB] using hb
        obtain ⟨q, hq⟩ : ∃ q : Nat, l[j] = (q : Int) := ⟨l[j].toNat, by omega⟩
        have hqi : q < mr.length := by omega
        have hqi' : (q : Int) < (m.length : Int) := by omega
        obtain ⟨cq, fq⟩ := hmr.c q hqi
        rw [hq] at hc hlow
        have HN := Hid.mk7 (And.intro (show markL (lowB i) (l.drop (j + 1)) (mr.set q true) = markL (lowB i) l m by rw [← hrest, hstep, hq]; simp) (And.intro (hmr.set q hqi) (ht.trans (Turned.set1 _ g q (.bool true)) (fun _ e => .inl e))))
        clear hrest hmr ht hstep hb hx H
        go_wp2_with (go_at_call 16; refine (hlow _).mono ?_; rintro e w1 ⟨rfl, rfl⟩)
        go_roundw
        case rel => exact ⟨j + 1, mr.set q true, by omega, by go_num, by simpa using hlen, HN.out.1, HN.out.2.1, HN.out.2.2⟩
        case measure => simp [intOf]; omega
      | false =>
        simp only [hb] at hlow hstep
        have HN := Hid.mk7 (And.intro (show markL (lowB i) (l.drop (j + 1)) mr = markL (lowB i) l m by rw [← hrest, hstep]; simp) (And.intro hmr ht))
        clear hrest hmr ht hstep hb H
        go_wp2_with (go_at_call 16; refine (hlow _).mono ?_; rintro e w1 ⟨rfl, rfl⟩)
        go_roundw
        case rel => exact ⟨j + 1, mr, by omega, by go_num, hlen, HN.out.1, HN.out.2.1, HN.out.2.2⟩
        case measure => simp [intOf]; omega
    · have hge : ¬ (j : Int) < (l.length : Int) := by omega
      have he : mr = markL (lowB i) l m := by rw [← hrest, List.drop_of_length_le (by omega)]; rfl
      clear hrest hmr ht
      go_wp2
      go_end0
      exact ⟨rfl, he ▸ H.out.2.1, H.out.2.2⟩
/-- Nodes as an argument: their Kids. -/
def NArg (w : World) (v : Value) (K : List (Value × List Int)) : Prop := (∃ a cap, v = .slice a 0 cap ∧ K = []) ∨ ∃ b off cap, v = .slice (some ⟨b, off, none⟩) K.length cap ∧ ∀ j (h : j < K.length), w.cell? ⟨b, off + j * 6 + 4, none⟩ = some K[j].1 ∧ SlA w K[j].1 K[j].2
theorem NArg.form {w : World} {v : Value} {K : List (Value × List Int)} (h : NArg w v K) : ∃ a cap, v = .slice a K.length cap := by
  rcases h with ⟨a, cap, rfl, rfl⟩ | ⟨b, off, cap, rfl, _⟩
  · exact ⟨a, cap, rfl⟩
  · exact ⟨_, cap, rfl⟩
theorem NArg.at {w : World} {a : Option Addr} {cap : Nat} {K : List (Value × List Int)} (h : NArg w (.slice a K.length cap) K) (j : Nat) (hj : j < K.length) : ∃ b off, a = some ⟨b, off, none⟩ ∧ w.cell? ⟨b, off + j * 6 + 4, none⟩ = some K[j].1 ∧ SlA w K[j].1 K[j].2 := by
  rcases h with ⟨a', cap', _, rfl⟩ | ⟨b, off, cap', e, hc⟩
  · simp at hj
  · simp only [Value.slice.injEq, true_and] at e
    exact ⟨b, off, e.1, hc j hj⟩
theorem SlA.below {w w' : World} {v : Value} {l : List Int} (h : SlA w v l) (hb : Below w.heap.size w w') : SlA w' v l := h.turned (Turned.ofBelow (S := fun _ => False) hb) (fun _ _ _ e => e)
theorem NArg.below {w w' : World} {v : Value} {K : List (Value × List Int)} (h : NArg w v K) (hb : Below w.heap.size w w') : NArg w' v K := by
  rcases h with h | ⟨b, off, cap, rfl, hc⟩
  · exact .inl h
  · exact .inr ⟨b, off, cap, rfl, fun j hj => ⟨(hb.cell (p := ⟨b, off + j * 6 + 4, none⟩) (World.block_lt_of_cell? w _ (hc j hj).1)).trans (hc j hj).1, (hc j hj).2.below hb⟩⟩
/-- The Kids of a node. -/
def kidsOf (K : List (Value × List Int)) (i : Nat) : List Int := ((K[i]?).map (·.2)).getD []
theorem kidsOf_at (K : List (Value × List Int)) (i : Nat) (h : i < K.length) : kidsOf K i = K[i].2 := by simp [kidsOf, h]
theorem MetAt.new {w : World} {g n : Nat} (h : Block w g n (fun _ => .bool false)) (hl : g < w.heap.size) : MetAt w g (List.replicate n false) := ⟨hl, fun j hj => by
  have := h j (by simpa using hj)
  simpa using this⟩
theorem Turned.toBelow {w wr w' : World} {g : Nat} (hb : Below w.heap.size w wr) (T : Turned (fun k => k = g) wr w') (hg : w.heap.size ≤ g) : Below w.heap.size w w' := hb.trans (T.below hb.size (fun _ e => by have e := e; subst e; exact hg))
theorem marked_drop (m : List Bool) (j : Nat) (hj : j < m.length) : marked j (m.drop j) = (if m[j] then [(j : Int)] else []) ++ marked (j + 1) (m.drop (j + 1)) := by
  rw [List.drop_eq_getElem_cons hj, marked]
  split <;> simp
set_option maxRecDepth 100000 in
set_option maxHeartbeats 6400000 in
theorem ps_Below {w : World} {lv rv : Value} {K : List (Value × List Int)} {roots : List Int} (hL : NArg w lv K) (hR : SlA w rv roots) (hK : K.length ≤ 2199023255552) :
    Calls Tryz.prog 5 #[lv, rv] w fun x w' => ∃ V, x = .returned V ∧ OwnI w' V (belowS K.length (kidsOf K) roots) ∧ Below w.heap.size w w' ∧ ∀ k, blk V k → w.heap.size ≤ k := by
  obtain ⟨aL, cL, hlv⟩ := hL.form
  subst hlv
  obtain ⟨aR, cR, hrv, hrl⟩ := hR.form
  subst hrv
  have HL := Hid.mk7 hL
  have HR := Hid.mk7 hR
  obtain ⟨w1, hmk, hb1, hz1, hB1⟩ := make_one Tryz.boolTypes (by simp [Value.cells]) w K.length (by omega) (by omega)
  have HM := Hid.mk7 (And.intro hb1 (And.intro hz1 (MetAt.new hB1 hz1)))
  clear hL hR hb1 hz1 hB1
  go_enter Tryz.func5, Tryz.ntmps5
  go_wp2_with fail
  go_loopw [17] (fun ix wr => ∃ (j : Nat) (mr : List Bool), j ≤ roots.length ∧ ix = .int .i64 j ∧ mr.length = K.length ∧ markL (lowB K.length) (roots.drop j) mr = markL (lowB K.length) roots (List.replicate K.length false) ∧ MetAt wr w.heap.size mr ∧ Below w.heap.size w wr) (fun ix _ => roots.length - (intOf ix).toNat)
  case atStart => exact ⟨0, _, Nat.zero_le _, rfl, by simp, rfl, HM.out.2.2, HM.out.1⟩
  case round =>
    obtain ⟨j, mr, hj, rfl, hlen, hrest, hmr, hb⟩ := hrel
    by_cases hlt : j < roots.length
    · have hji : (j : Int) < (roots.length : Int) := by omega
      obtain ⟨b, off, rfl, hc⟩ := (HR.out.below hb).at j hlt
      have hlow := ps_isNode aL K.length cL roots[j]
      have hstep := markL_drop (lowB K.length) roots j hlt mr
      cases hbb : lowB K.length roots[j] with
      | true =>
        simp only [hbb] at hlow hstep
        have hx : 0 ≤ roots[j] ∧ roots[j] < (K.length : Int) := by simpa [lowB] using hbb
        obtain ⟨q, hq⟩ : ∃ q : Nat, roots[j] = (q : Int) := ⟨roots[j].toNat, by omega⟩
        have hqi : q < mr.length := by omega
        have hqi' : (q : Int) < (K.length : Int) := by omega
        obtain ⟨cq, fq⟩ := hmr.c q hqi
        rw [hq] at hc hlow
        have HN := Hid.mk7 (And.intro (show markL (lowB K.length) (roots.drop (j + 1)) (mr.set q true) = markL (lowB K.length) roots (List.replicate K.length false) by rw [← hrest, hstep, hq]; simp) (And.intro (hmr.set q hqi) (Turned.toBelow hb (Turned.set1 _ w.heap.size q (.bool true)) (Nat.le_refl _))))
        clear hrest hmr hb hstep hbb hx
        go_wp2_with (go_at_call 10; refine (hlow _).mono ?_; rintro e w1 ⟨rfl, rfl⟩)
        go_roundw
        case rel => exact ⟨j + 1, mr.set q true, by omega, by go_num, by simpa using hlen, HN.out.1, HN.out.2.1, HN.out.2.2⟩
        case measure => simp [intOf]; omega
      | false =>
        simp only [hbb] at hlow hstep
        have HN := Hid.mk7 (And.intro (show markL (lowB K.length) (roots.drop (j + 1)) mr = markL (lowB K.length) roots (List.replicate K.length false) by rw [← hrest, hstep]; simp) (And.intro hmr hb))
        clear hrest hmr hb hstep hbb
        go_wp2_with (go_at_call 10; refine (hlow _).mono ?_; rintro e w1 ⟨rfl, rfl⟩)
        go_roundw
        case rel => exact ⟨j + 1, mr, by omega, by go_num, hlen, HN.out.1, HN.out.2.1, HN.out.2.2⟩
        case measure => simp [intOf]; omega
    · have hge : ¬ (j : Int) < (roots.length : Int) := by omega
      have he : mr = markL (lowB K.length) roots (List.replicate K.length false) := by rw [← hrest, List.drop_of_length_le (by omega)]; rfl
      have HD : Hid (belowS K.length (kidsOf K) roots = marked 0 (downS (kidsOf K) K.length mr)) := by rw [he]; exact rfl
      have H1 := Hid.mk7 (And.intro hmr hb)
      clear hrest he hmr hb HM hmk
      go_wp2_with fail
      clear hge hlt hj
      go_loopw [8] (fun ix wr => ∃ (j : Nat) (mr : List Bool), j ≤ K.length ∧ ix = .int .i64 ((j : Int) - 1) ∧ mr.length = K.length ∧ marked 0 (downS (kidsOf K) j mr) = belowS K.length (kidsOf K) roots ∧ MetAt wr w.heap.size mr ∧ Below w.heap.size w wr) (fun ix _ => (intOf ix + 1).toNat)
      case atStart => exact ⟨K.length, mr, Nat.le_refl _, rfl, hlen, HD.out.symm, H1.out.1, H1.out.2⟩
      case round =>
        clear HD H1 hlen
        obtain ⟨j2, m2, hj2, rfl, hlen2, hrest2, hm2, hb2⟩ := hrel
        cases j2 with
        | succ i =>
          have ei : ((i + 1 : Nat) : Int) - 1 = (i : Int) := by omega
          rw [ei]
          have hin : i < K.length := by omega
          have hini : (i : Int) < (K.length : Int) := by omega
          have him : i < m2.length := by omega
          have hpos : (0 : Int) ≤ (i : Int) := by omega
          obtain ⟨cm, fm⟩ := hm2.c i him
          rw [downS] at hrest2
          have egd : (m2[i]?).getD false = m2[i] := by simp [him]
          rw [egd] at hrest2
          cases hmi : m2[i] with
          | false =>
            rw [hmi] at cm hrest2
            have HN := Hid.mk7 (And.intro (show marked 0 (downS (kidsOf K) i m2) = _ from by simpa using hrest2) (And.intro hm2 hb2))
            clear hrest2 hm2 hb2 egd hmi
            go_wp2
            go_roundw
            case rel => exact ⟨i, m2, by omega, by go_num, hlen2, HN.out.1, HN.out.2.1, HN.out.2.2⟩
            case measure => simp [intOf]
          | true =>
            rw [hmi] at cm hrest2
            obtain ⟨b, off, rfl, hck, hsk⟩ := (HL.out.below hb2).at i hin
            obtain ⟨ak, ck, hkv, _⟩ := hsk.form
            have hoff : 0 < K[i].2.length → ∀ k, blk K[i].1 k → k ≠ w.heap.size := fun h0 k hk e => by
              obtain ⟨_, _, _, _, hs0⟩ := HL.out.at i hin
              have := hs0.blk h0 k hk
              omega
            have hmt := ps_meet hm2 hsk hoff i (by omega)
            rw [hlen2] at hmt
            have hbl : b < (w.heap.size) := by
              obtain ⟨b0, off0, e0, hc0, _⟩ := HL.out.at i hin
              simp only [Option.some.injEq, Addr.mk.injEq, and_true] at e0
              rw [e0.1]
              exact World.block_lt_of_cell? w _ hc0
            rw [kidsOf_at K i hin] at hrest2
            have HN := Hid.mk7 (And.intro (show marked 0 (downS (kidsOf K) i (markL (lowB i) K[i].2 m2)) = _ from by simpa using hrest2) hb2)
            clear hrest2 hm2 hb2 egd hmi hsk hoff
            generalize hkd : K[i].1 = kv at hck hkv hmt
            subst hkv
            go_wp2_with fail
            refine hmt.mono ?_
            rintro x w5 ⟨rfl, hm5, T5⟩
            have H5 := Hid.mk7 (And.intro hm5 (Turned.toBelow HN.out.2 T5 (Nat.le_refl _)))
            clear hm5 T5 hmt hck cm fm
            go_wp2
            go_roundw
            case rel => exact ⟨i, markL (lowB i) K[i].2 m2, by omega, by go_num, by rw [markL_length]; exact hlen2, HN.out.1, H5.out.1, H5.out.2⟩
            case measure => simp [intOf]
        | zero =>
          have hneg : ¬ (0 : Int) ≤ (((0 : Nat) : Int) - 1) := by omega
          have HD2 := Hid.mk7 hrest2
          have H2 := Hid.mk7 (And.intro hm2 hb2)
          clear hrest2 hm2 hb2
          go_wp2_with fail
          clear hneg
          go_loopw [9, 49] (fun V ix wr => ∃ (j : Nat) (acc : List Int), j ≤ K.length ∧ ix = .int .i64 j ∧ acc.length ≤ j ∧ acc ++ marked j (m2.drop j) = belowS K.length (kidsOf K) roots ∧ OwnI wr V acc ∧ (∀ k, blk V k → w.heap.size < k) ∧ MetAt wr w.heap.size m2 ∧ Below w.heap.size w wr) (fun _ ix _ => K.length - (intOf ix).toNat)
          case atStart => exact ⟨0, [], Nat.zero_le _, rfl, Nat.le_refl _, HD2.out, OwnK.nil 1 _, fun _ e => e.elim, H2.out.1, H2.out.2⟩
          case round =>
            clear HD2 H2
            obtain ⟨j3, acc, hj3, rfl, hal, hrest3, ho3, hof3, hm3, hb3⟩ := hrel
            obtain ⟨aV, cV, hV, _⟩ := OwnK.sl ho3 |>.form
            subst hV
            by_cases hlt : j3 < K.length
            · have hji : (j3 : Int) < (K.length : Int) := by omega
              have him : j3 < m2.length := by omega
              obtain ⟨cm, fm⟩ := hm3.c j3 him
              rw [marked_drop m2 j3 him] at hrest3
              cases hmi : m2[j3] with
              | false =>
                rw [hmi] at cm hrest3
                have HN := Hid.mk7 (And.intro (show acc ++ marked (j3 + 1) (m2.drop (j3 + 1)) = _ from by simpa using hrest3) (And.intro ho3 (And.intro hof3 (And.intro hm3 hb3))))
                clear hrest3 ho3 hof3 hm3 hb3 hmi
                go_wp2
                go_roundw
                case rel => exact ⟨j3 + 1, acc, by omega, by go_num, by omega, HN.out.1, HN.out.2.1, HN.out.2.2.1, HN.out.2.2.2.1, HN.out.2.2.2.2⟩
                case measure => simp [intOf]; omega
              | true =>
                rw [hmi] at cm hrest3
                have hfit : (acc.length + [(j3 : Int)].length) * 8 ≤ 140737488355328 := by simp; omega
                have hfit2 : acc.length + [(j3 : Int)].length ≤ 4611686018427387903 := by simp; omega
                have HN := Hid.mk7 (And.intro (show (acc ++ [(j3 : Int)]) ++ marked (j3 + 1) (m2.drop (j3 + 1)) = _ from by simpa using hrest3) (And.intro ho3 (And.intro hof3 (And.intro hm3 hb3))))
                clear hrest3 ho3 hof3 hm3 hb3 hmi
                go_wp2_with (at_builtin; refine wpList_append_k (by rfl) (.tmp 55) (.tmp 57) (by rfl) Tryz.intTypes (by rfl) (by rfl) (OwnK.turned HN.out.2.1 (Turned.alloc (fun _ => False) _ _) (fun _ _ e => e)) (SlI.one _ _ _) (ints_one _) hfit hfit2 ?_; intro V4 w4 ho4 T4 hv4)
                obtain ⟨e3, ho3, hof3, hm3, hb3⟩ := HN.out
                have hz3 := hb3.size
                have hmlt := hm3.lt
                have B4 := hb3.trans ((Below.alloc0 _ (.cells #[.int .i64 (j3 : Int)] 3)).mono hz3)
                have H4 := Hid.mk7 (And.intro (OwnI.snoc ho4) (And.intro (show ∀ k, blk V4 k → w.heap.size < k from fun k hk => (hv4 k hk).elim (hof3 k) (fun e => by simp at e; omega)) (And.intro ((hm3.turned (Turned.alloc (fun _ => False) _ (.cells #[.int .i64 (j3 : Int)] 3)) (fun e => e)).turned T4 (fun e => by have := hof3 _ e; omega)) (B4.trans (T4.below B4.size (fun k hk => Nat.le_of_lt (hof3 k hk)))))))
                clear ho4 T4 hv4 e3 ho3 hof3 hm3 hb3 B4
                go_wp2
                go_roundw
                case rel => exact ⟨j3 + 1, acc ++ [(j3 : Int)], by omega, by go_num, by simp; omega, HN.out.1, H4.out.1, H4.out.2.1, H4.out.2.2.1, H4.out.2.2.2⟩
                case measure => simp [intOf]; omega
            · have hge : ¬ (j3 : Int) < (K.length : Int) := by omega
              have he : acc = belowS K.length (kidsOf K) roots := by rw [← hrest3, List.drop_of_length_le (by omega)]; simp [marked]
              have HE := Hid.mk7 he
              have HN := Hid.mk7 (And.intro ho3 (And.intro hb3 hof3))
              clear hrest3 ho3 hof3 hm3 hb3 he
              go_wp2
              go_ret
              exact ⟨_, rfl, by rw [← HE.out]; exact HN.out.1, HN.out.2.1, fun k hk => Nat.le_of_lt (HN.out.2.2 k hk)⟩
end Go.Proofs.YtipdmmncgenppaaGreatDoor
