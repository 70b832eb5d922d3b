/-
  heddlelaw06.FrameChunks: its walk, given the program's frames.
-/
import Derived.Test.YtpbakejocjmkeaaFChunks1
import Derived.Deep.DeepCutAuto
import Derived.Deep.CutBlock
namespace Go.Proofs.Ytpbakejocjmkeaa
open Go.RowKit

set_option maxRecDepth 100000 in
set_option maxHeartbeats 3200000 in
theorem chunks_any {Mem : World → Nat → (Nat → Prop) → FSt → Prop} (I : FImplS Mem) (n : Int) (b cu : Value) (ks : Int) (bs : List Int) (L : Nat) (w : World) (hx : Sl w b bs) (hr : Rng bs) (hl : bs.length ≤ 140737488355328) (hcu : Nums w cu L) :
    Calls Try.prog 3 #[.agg #[.int .i64 n, b, cu, .int .u64 ks]] w fun ev w' => ev = .returned (.bool true) ∧ Below w.heap.size w w' := by
  by_cases hw : n ≠ 2 ∧ n ≠ 4
  · exact chunks_width I n b cu ks bs L w hw hx hcu
  obtain ⟨ab, cb, hbf, hcb, hmb⟩ := hx.form
  subst hbf
  obtain ⟨au, cc, hcf, hL, hcell⟩ := hcu
  subst hcf
  have HX : Hid (Sl w (.slice ab bs.length cb) bs) := hx
  have HC : Hid (∀ j, j < L → ∃ g off z, au = some ⟨g, off, none⟩ ∧ w.cell? ⟨g, off + j, none⟩ = some (.int .i64 z)) := hcell
  clear hx hcell
  obtain ⟨m, rfl⟩ : ∃ m : Nat, n = (m : Int) := ⟨n.toNat, by omega⟩
  have hm : m = 2 ∨ m = 4 := by omega
  have hqn : ∀ (w : World) (a : Option Addr) (n c n' c' : Nat), (binOp .neq 34 (.slice a n c) (.slice none n' c')).run Try.prog w = .ok (.bool (!a.isNone)) w := fun w a n c n' c' => run_neq_slice_nil_any w _ _ a n c n' c' Try.underlying34
  have hf4 : ∀ (w : World) (a b c d e g : Value), (Instr.field 46 (.agg #[a, b, c, d, e, g]) 4).run Try.prog w = .ok e w := fun _ _ _ _ _ _ _ => by kernel_rfl
  have hf1 : ∀ (w : World) (a b c d e g : Value), (Instr.field 46 (.agg #[a, b, c, d, e, g]) 1).run Try.prog w = .ok b w := fun _ _ _ _ _ _ _ => by kernel_rfl
  go_enter Try.func3, Try.ntmps3
  go_wp2_with fail
  go_region
  go_wp2_with fail
  refine (I.new m _ hm).mono ?_
  rintro ev w1 ⟨rb, S1, rfl, hm1, hb1, hS1⟩
  replace hS1 : ∀ k, S1 k → w.heap.size ≤ k := fun k hk => Nat.le_trans (allocDrew w _).size (hS1 k hk)
  replace hb1 := (allocDrew w _).trans (hb1.mono (allocDrew w _).size)
  go_wp2_with fail
  refine (awake_any I.toFImpl w1).mono ?_
  rintro ev w2 ⟨rfl, hb2⟩
  have hm2 := I.turned hm1 (Turned.ofBelow (S := fun _ => False) hb2) (fun _ _ h => h)
  have HM : Hid (Mem w2 rb S1 (FSt.fresh m) ∧ Below w.heap.size w w2 ∧ ∀ k, S1 k → w.heap.size ≤ k) := ⟨hm2, hb1.trans (hb2.mono hb1.size), hS1⟩
  clear hm1 hb1 hS1 hb2 hm2
  by_cases hbig : (16777216 : Int) < (bs.length : Int)
  · go_wp2
    go_ret
    exact ⟨rfl, HM.out.2.1⟩
  have hx2 : Sl w2 (.slice ab bs.length cb) bs := HX.out.turned (Turned.ofBelow (S := fun _ => False) HM.out.2.1) (fun _ _ h => h)
  have hsp := ref_split m hx2 hr (by omega)
  have hsa : splitAny m bs = splitOf m bs := by unfold splitAny; rw [if_neg hw, Int.toNat_natCast]
  rw [hsa] at hsp
  clear hx2
  go_wp2_with fail
  refine hsp.mono ?_
  rintro ev w3 ⟨V3, v3, rfl, hl3, hV3, hb3⟩
  obtain ⟨hm2, hB2, hS1⟩ := HM.out
  have hlt1 : ∀ k, S1 k → k < w2.heap.size := I.lt hm2
  have hm3 := I.turned hm2 (Turned.ofBelow (S := fun _ => False) hb3) (fun _ _ h => h)
  have HM3 : Hid (Mem w3 rb S1 (FSt.fresh m) ∧ Below w.heap.size w w3 ∧ (∀ k, S1 k → w.heap.size ≤ k) ∧ LinksF w2.heap.size w3 v3 (splitOf m bs).1 ∧ Bodies w3 w2.heap.size V3 (splitOf m bs).2.1) := ⟨hm3, hB2.trans (hb3.mono hB2.size), hS1, hl3, hV3⟩
  clear hm2 hB2 hS1 hm3 hl3 hV3 hb3 HM hsp
  generalize hK3 : (splitOf m bs).2.2 = K3
  have HK3 : Hid ((splitOf m bs).2.2 = K3) := hK3
  clear hK3
  have hbl : bs.length ≤ 16777216 := by omega
  go_wp2_with fail
  go_loopw [12, 13, 14, 15] (fun got dd ff ii wr => ∃ (i fr : Nat) (d : Bool), ii = .int .i64 i ∧ ff = .int .i64 fr ∧ dd = .bool d ∧ fr ≤ bs.length ∧ i ≤ 200 ∧ i ≤ L + 1 ∧ Rolls Mem w w2 w3 wr m bs rb fr got d 0 (i = 200 ∨ i = L + 1)) (fun _ _ _ ii _ => 200 - (intOf ii).toNat)
  case atStart =>
    obtain ⟨hm3, hB3, hS3, _, _⟩ := HM3.out
    refine ⟨0, 0, false, rfl, rfl, rfl, Nat.zero_le _, by omega, by omega, S1, FSt.fresh m, [], [], [], ⟨hm3, FSt.Ok.fresh hm, hS3, Gather.nil _ _, fun _ h => h.elim, fun i h => absurd h (Nat.not_lt_zero i), Nat.le_refl _, Told.nil (by omega), (Fed.fresh (n := m) (by omega)).bytes, rfl, fun _ => ⟨(Fed.fresh (n := m) (by omega)).alive, rfl⟩, fun h => by cases h⟩, hB3, Turned.refl _ _, fun k hk => .inl (hlt1 k hk), fun _ h => h.elim, Nat.le_refl _, fun h => by omega⟩
  case round =>
    obtain ⟨i, fr, d, rfl, rfl, rfl, hfr, hi, hiL, hroll⟩ := hrel
    have HRo : Hid (Rolls Mem w w2 w3 wr m bs rb fr u12 d 0 (i = 200 ∨ i = L + 1)) := hroll
    clear hroll
    by_cases hgo : i < 200 ∧ i ≤ L
    · have hi1 : (i : Int) < 200 := by omega
      have hi2 : (i : Int) ≤ (L : Int) := by omega
      have hi0 : (0 : Int) ≤ (i : Int) := by omega
      go_upto_region 17 with fail
      go_cut [83] (fun v83 wc => ∃ c : Bool, v83 = .bool c ∧ (c = true ↔ (i < L ∧ i < 199)) ∧ wr = wc)
      case first =>
        by_cases hB1 : (i : Int) < (L : Int)
        · by_cases hB2 : (i : Int) < 199
          · go_wp2
            go_meet
            exact ⟨true, rfl, ⟨fun _ => by omega, fun _ => rfl⟩, rfl⟩
          · go_wp2
            go_meet
            exact ⟨false, rfl, ⟨fun h => absurd h (by decide), fun h => absurd h (by omega)⟩, rfl⟩
        · go_wp2
          go_meet
          exact ⟨false, rfl, ⟨fun h => absurd h (by decide), fun h => absurd h (by omega)⟩, rfl⟩
      case rest =>
      obtain ⟨c, rfl, hc83, rfl⟩ := hcut
      go_upto_if 83 with fail
      go_cut [16] (fun v16 wc => ∃ p : Nat, v16 = .int .i64 ((fr : Int) + (p : Int)) ∧ fr + p ≤ bs.length ∧ (i = 199 ∨ i = L → fr + p = bs.length) ∧ wr = wc)
      case first =>
        cases c with
        | true =>
          have hA := hc83.1 rfl
          obtain ⟨g, off, z, rfl, hz⟩ := HC.out i hA.1
          have hz' : wr.cell? ⟨g, off + i, none⟩ = some (.int .i64 z) := by
            obtain ⟨_, _, _, _, _, _, hB, _⟩ := HRo.out
            exact (hB.cell (p := ⟨g, off + i, none⟩) (World.block_lt_of_cell? _ _ hz)).trans hz
          have hA1 : (i : Int) < (L : Int) := by omega
          clear hz
          have hq := cut_at z hfr hbl
          have hA' : ¬ (i = 199 ∨ i = L) := by omega
          clear hA
          go_wp2
          go_meet
          obtain ⟨p, hq1, hq2⟩ := hq
          exact ⟨p, by rw [hq1], hq2, fun h => absurd h hA', rfl⟩
        | false =>
          have hA : ¬ (i < L ∧ i < 199) := fun h => by have := hc83.2 h; cases this
          go_wp2
          go_meet
          exact ⟨bs.length - fr, by go_num, by omega, fun _ => by omega, rfl⟩
      case rest =>
        obtain ⟨p, rfl, hp, hpe, rfl⟩ := hcut
        obtain ⟨aF, haF⟩ : ∃ aF, aF = (if cb = fr then ab else ab.map (·.add fr)) := ⟨_, rfl⟩
        have hc2 := fun W : World => run_cut2 Try.bytes (a := ab) (len := bs.length) (cap := cb) (l := fr) (n := p) (by omega) W
        rw [← haF] at hc2
        obtain ⟨S, f, vs, acc, pre, hch, hB, hT, hSr, hgr, _, _⟩ := HRo.out
        have hxr : Sl wr (.slice ab bs.length cb) bs := HX.out.turned (Turned.ofBelow (S := fun _ => False) hB) (fun _ _ h => h)
        have hpc : (bs.take (fr + p)).drop fr = (bs.drop fr).take p := by rw [List.drop_take]; congr 1; omega
        have hF : Sl wr (.slice aF p (cb - fr)) ((bs.take (fr + p)).drop fr) := by
          rw [haF, hpc]
          have h1 := hxr.drop (n := fr) (by omega)
          have h2 : (bs.drop fr).length = bs.length - fr := by simp
          rw [← h2] at h1
          exact h1.take (by rw [h2]; omega)
        have hfd := hch.feed I.toFImpl hB.size (by omega) hp hbl hr hF (fun hne k hk => by
          rw [hpc] at hne
          have hb0 : bs ≠ [] := fun h => by subst h; simp at hne
          refine HX.out.lt hb0 k ?_
          rw [haF] at hk
          exact blk_if k hk)
        have HT : Hid (Below w.heap.size w wr ∧ Turned (fun k => k < w2.heap.size ∨ w3.heap.size ≤ k) w3 wr ∧ (∀ k, S k → k < w2.heap.size ∨ w3.heap.size ≤ k) ∧ (∀ k, blk u12 k → k < w2.heap.size ∨ w3.heap.size ≤ k) ∧ (∀ k, S k → w.heap.size ≤ k)) := ⟨hB, hT, hSr, hgr, hch.bS⟩
        clear hch hB hT hSr hgr hxr hpc hF haF
        go_upto_region 19 with fail
        go_cut [109] (fun v109 wc => v109 = .bool false ∧ Rolls Mem w w2 w3 wc m bs rb (fr + p) u12 d 0 False)
        case first =>
          go_wp2_with fail
          refine hfd.mono ?_
          rintro ev w4 ⟨u, S4, f4, rfl, hu, hch4, T4, hS4⟩
          have hR4 : Rolls Mem w w2 w3 w4 m bs rb (fr + p) u12 d 0 False := by
            obtain ⟨hB, hT, hSr, hgr, hbS⟩ := HT.out
            exact ⟨S4, f4, vs, acc, pre, hch4, hB.trans (T4.below hB.size hbS), hT.trans T4 (fun k hk => .inl (hSr k hk)), fun k hk => (hS4 k hk).elim (hSr k) (fun h => .inr (Nat.le_trans hT.size h)), hgr, Nat.zero_le _, fun h => h.elim⟩
          have HR4 : Hid (Rolls Mem w w2 w3 w4 m bs rb (fr + p) u12 d 0 False) := hR4
          clear hch4 T4 hS4 hR4
          rcases hu with rfl | ⟨rfl, t, x, rfl⟩
          · go_wp2_with fail
            go_meet
            exact ⟨rfl, HR4.out⟩
          · go_wp2_with fail
            go_meet
            exact ⟨rfl, HR4.out⟩
        case rest =>
        obtain ⟨rfl, hroll⟩ := hcut
        have HR5 : Hid (Rolls Mem w w2 w3 wc m bs rb (fr + p) u12 d 0 False) := hroll
        clear hroll hfd HT
        go_wp2_with fail
        go_loopw [12, 13, 17] (fun got dd kk wr' => ∃ (k : Nat) (d' : Bool), kk = .int .i64 k ∧ dd = .bool d' ∧ k ≤ bs.length ∧ Rolls Mem w w2 w3 wr' m bs rb (fr + p) got d' k False) (fun _ _ kk _ => bs.length + 1 - (intOf kk).toNat)
        case atStart => exact ⟨0, d, rfl, rfl, Nat.zero_le _, HR5.out⟩
        case round =>
          obtain ⟨k, d', rfl, rfl, hk, hroll⟩ := hrel
          have HRk : Hid (Rolls Mem w w2 w3 wr m bs rb (fr + p) u12 d' k False) := hroll
          clear hroll
          go_upto_region 23 with fail
          go_cut [123] (fun v123 wc => ∃ c : Bool, v123 = .bool c ∧ (c = false → fr + p ≠ bs.length) ∧ wr = wc)
          case first =>
            cases hfull : ((fr : Int) + (p : Int) == (bs.length : Int)) with
            | true =>
              go_wp2
              all_goals go_meet
              all_goals exact ⟨true, rfl, fun h => absurd h (by decide), rfl⟩
            | false =>
              have hne : fr + p ≠ bs.length := fun h => by rw [beq_eq_false_iff_ne] at hfull; omega
              go_wp2
              all_goals go_meet
              all_goals exact ⟨_, rfl, fun _ => hne, rfl⟩
          case rest =>
          obtain ⟨c, rfl, hc123, rfl⟩ := hcut
          cases c with
          | false =>
            have hnf := hc123 rfl
            go_wp2
            refine ⟨⟨i + 1, fr + p, d', by simp, by simp, rfl, hp, by omega, by omega, ?_⟩, by simp [intOf]; omega⟩
            obtain ⟨S, f, vs, acc, pre, hch, hB, hT, hSr, hgr, _, _⟩ := HRk.out
            exact ⟨S, f, vs, acc, pre, hch, hB, hT, hSr, hgr, Nat.zero_le _, fun hq => absurd (hpe (by omega)) hnf⟩
          | true =>
            obtain ⟨S, f, vs, acc, pre, hch, hB, hT, hSr, hgr, hkk, _⟩ := HRk.out
            have hnx := hch.next I.toFImpl hm hB.size
            have HK : Hid (Below w.heap.size w wr ∧ Turned (fun k => k < w2.heap.size ∨ w3.heap.size ≤ k) w3 wr ∧ (∀ k, S k → k < w2.heap.size ∨ w3.heap.size ≤ k) ∧ (∀ k, blk u12 k → k < w2.heap.size ∨ w3.heap.size ≤ k) ∧ (∀ k, S k → w.heap.size ≤ k)) := ⟨hB, hT, hSr, hgr, hch.bS⟩
            have HGB : Hid (∀ k, blk u12 k → w.heap.size ≤ k) := hch.gat.big
            have hpb := hch.big
            have hfw := hch.few
            have hvl : vs.length ≤ 2199023255552 := by have := hch.gat.len; omega
            clear hch hB hT hSr hgr
            go_wp2_with fail
            refine hnx.mono ?_
            rintro ev w5 ⟨V, o, v, rfl, hN, T5⟩
            have HK5 : Hid (Below w.heap.size w w5 ∧ Turned (fun k => k < w2.heap.size ∨ w3.heap.size ≤ k) w3 w5 ∧ (∀ (S5 : Nat → Prop), (∀ k, S5 k → S k ∨ wr.heap.size ≤ k) → ∀ k, S5 k → k < w2.heap.size ∨ w3.heap.size ≤ k) ∧ (∀ k, blk u12 k → k < w2.heap.size ∨ w3.heap.size ≤ k)) := by
              obtain ⟨hB, hT, hSr, hgr, hbS⟩ := HK.out
              exact ⟨hB.trans (T5.below hB.size hbS), hT.trans T5 (fun k hk => .inl (hSr k hk)), fun S5 h5 k hk => (h5 k hk).elim (hSr k) (fun h => .inr (Nat.le_trans hT.size h)), hgr⟩
            clear T5 hnx
            cases hN with
            | wait hS hd h hs =>
              subst hd
              have HC5 := Hid.mk6 h
              clear h
              go_wp2
              refine ⟨⟨i + 1, fr + p, false, by simp, by simp, rfl, hp, by omega, by omega, ?_⟩, by simp [intOf]; omega⟩
              obtain ⟨hB, hT, hSr, hgr⟩ := HK5.out
              exact ⟨_, _, _, _, _, HC5.out, hB, hT, hSr _ hS, hgr, Nat.zero_le _, fun hq => ⟨hpe (by omega), fun _ => by have he := hpe (by omega); rw [he, List.take_length] at hs; exact hs⟩⟩
            | bad hS h =>
              have HC5 := Hid.mk6 h
              clear h
              go_wp2
              all_goals refine ⟨⟨i + 1, fr + p, true, by simp, by simp, by simp, hp, by omega, by omega, ?_⟩, by simp [intOf]; omega⟩
              all_goals obtain ⟨hB, hT, hSr, hgr⟩ := HK5.out
              all_goals exact ⟨_, _, _, _, _, HC5.out, hB, hT, hSr _ hS, hgr, Nat.zero_le _, fun hq => ⟨hpe (by omega), fun h => by cases h⟩⟩
            | @tells S5 f5 b5 pre5 hS hd sl own off push =>
              subst hd
              obtain ⟨aV, cV, LV, rfl⟩ : ∃ aV cV LV, V = .slice aV LV cV := ⟨_, _, _, sl.form.choose_spec.choose_spec.1⟩
              have hcx : ∀ t : TypeId, (w5.alloc (.cells #[.slice aV LV cV] t)).cell? ⟨w5.heap.size, 0, none⟩ = some (.slice aV LV cV) := fun t => by simp
              have HO := fun o : Obj => own.turned (alloc0f w5 o) (fun _ _ h => h)
              have HP := Hid.mk6 (fun (w1 w2 : World) (g' : Value) => @push w1 w2 g')
              clear push sl own off
              go_wp2_with (at_builtin; refine wpList_append_row (by rfl) (.tmp 139) (.tmp 141) (by rfl) Try.rows (by rfl) (by rfl) (HO _) (hcx _) rfl hvl ?_; intro v2 w6 ho2 ht2 hb2)
              have hch6 := HP.out _ _ _ (alloc0f w5 _) ho2 ht2 hb2
              have hpb6 := hch6.big
              have hfw6 := hch6.few
              obtain ⟨hB, hT, hSr, hgr⟩ := HK5.out
              have hgB := HGB.out
              simp at hfw6
              refine ⟨⟨k + 1, false, by simp, rfl, by omega, S5, f5, _, _, pre5, hch6, ?_, ?_, hSr _ hS, ?_, by simp; omega, fun h => h.elim⟩, by simp [intOf]; omega⟩
              · exact (hB.alloc hB.size _).trans (ht2.below (by simp; have := hB.size; omega) hgB)
              · exact (hT.trans (alloc0f w5 _) (fun _ h => h.elim)).trans ht2 (fun k hk => .inl (hgr k hk))
              · exact fun k hk => (hb2 k hk).elim (hgr k) (fun e => .inr (by have := hT.size; simp at e; omega))
    · have hout : i = 200 ∨ i = L + 1 := by omega
      by_cases hA : (i : Int) ≤ (L : Int)
      · have hAB : ¬ (i : Int) < 200 := by omega
        obtain ⟨S, f, vs, acc, pre, hch, hB, hT, hSr, hgr, _, hq⟩ := HRo.out
        obtain ⟨hfr', hsp⟩ := hq hout
        obtain ⟨_, _, _, hl3, hV3⟩ := HM3.out
        have hpb := hch.big
        have hbd : Bodies wr w.heap.size u12 acc := hch.gat.bodies
        have hmid : ∀ k, w2.heap.size ≤ k → k < w3.heap.size → ¬ (k < w2.heap.size ∨ w3.heap.size ≤ k) := fun k h1 h2 h3 => by omega
        cases d with
        | true =>
          obtain ⟨hs1, hs2⟩ := hch.bad hm
          rw [hs1] at hl3
          obtain ⟨lb, hlb, rfl, l0, l1, l2⟩ := hl3
          have hlb3 : lb < w3.heap.size := World.block_lt_of_cell? w3 _ l0
          have m1 : wr.cell? ⟨lb, 1, none⟩ = some (.int .i64 ((pre.length : Nat) : Int)) := hT.cell l1 (hmid lb hlb hlb3)
          have hlr : lb < wr.heap.size := Nat.lt_of_lt_of_le hlb3 hT.size
          have hxr : Sl wr (.slice ab bs.length cb) bs := HX.out.turned (Turned.ofBelow (S := fun _ => False) hB) (fun _ _ h => h)
          have hsp2 := ref_split m (hxr.take (n := pre.length) hpb) (hr.take _) (by simp; omega)
          have hsa2 : splitAny m (bs.take pre.length) = (none, acc, pre.length) := by unfold splitAny; rw [if_neg hw, Int.toNat_natCast]; exact hs2
          rw [hsa2] at hsp2
          have hby : f.bytes = (pre.length : Int) := by rw [hch.bytes]; unfold wrap64; omega
          have HZ := Hid.mk6 (And.intro hch.mem (And.intro hch.ok (And.intro hB hbd)))
          have hpc : ((pre.length : Nat) : Int) ≤ cb := by omega
          clear hch hB hT hSr hgr hq hsp l0 l1 l2 hxr hsa2 hs1 hs2 hbd hV3
          generalize pre.length = PL at *
          go_wp2_with fail
          refine hsp2.mono ?_
          rintro ev w6 ⟨V6, v6, rfl, _, hV6, hb6⟩
          obtain ⟨hmr, hokr, hBr, hbdr⟩ := HZ.out
          have hd6 := (Below.refl w6.heap.size w6).drew
          have hb6d : Below wr.heap.size wr w6.drew := hb6.trans (hd6.mono hb6.size)
          have hsm := same_any (hbdr.below hb6d) (hV6.below hd6)
          have HB6 : Hid (Below w.heap.size w w6.drew ∧ Below wr.heap.size wr w6.drew) := ⟨hBr.trans (hb6d.mono hBr.size), hb6d⟩
          have HM6 := Hid.mk6 (I.turned hmr (Turned.ofBelow (S := fun _ => False) hb6d) (fun _ _ h => h))
          have m6 : w6.drew.cell? ⟨lb, 1, none⟩ = some (.int .i64 (PL : Int)) := (hb6d.cell (p := ⟨lb, 1, none⟩) hlr).trans m1
          have hfrm : f.framing = .agg #[.int .i64 f.width, .int .i64 f.held.length, .int .i64 f.frames, .int .i64 f.ticks, .int .i64 (PL : Int), .bool f.dead] := by rw [← hby]; rfl
          have HHF : Hid (f.framing = .agg #[.int .i64 f.width, .int .i64 f.held.length, .int .i64 f.frames, .int .i64 f.ticks, .int .i64 (PL : Int), .bool f.dead]) := hfrm
          clear hsp2 hV6 hb6 hmr hBr hbdr hd6 hb6d hfrm hby m1
          go_wp2_with fail
          go_region_held3 (fun w' => w'.cell? ⟨lb, 1, none⟩ = some (.int .i64 (PL : Int)))
            (go_keep)
            (first
              | (go_at_call 10; refine hsm.mono ?_; rintro ev w7 ⟨rfl, hb7⟩; have hlr6 : lb < w6.drew.heap.size := World.block_lt_of_cell? w6.drew _ m6; have s7 := (hb7.cell (p := ⟨lb, 1, none⟩) hlr6).trans m6; have hst7 := I.state (I.turned HM6.out (Turned.ofBelow (S := fun _ => False) hb7) (fun _ _ h => h)) hokr; rw [HHF.out] at hst7; have HB7 : Hid (Below w.heap.size w w7) := HB6.out.1.trans (hb7.mono HB6.out.1.size); clear hb7)
              | (go_at_call 11; refine hst7.mono ?_; rintro ev w8 ⟨rfl, hb8⟩; have hlr7 : lb < w7.heap.size := World.block_lt_of_cell? w7 _ s7; have s8 := (hb8.cell (p := ⟨lb, 1, none⟩) hlr7).trans s7; have HB8 : Hid (Below w.heap.size w w8) := HB7.out.trans (hb8.mono HB7.out.size); clear hb8))
          all_goals
            go_wp2
            go_ret
            exact ⟨rfl, HB8.out⟩
        | false =>
          have hs := hsp rfl
          have hk3 := HK3.out
          rw [hs] at hl3 hV3 hk3
          have hl3 : v3 = .slice none 0 0 := hl3
          have hk3 : pre.length = K3 := hk3
          subst hl3
          have hV3r : Bodies wr w2.heap.size V3 acc := Bodies.turned hV3 hT hmid
          have hsm := same_any hbd hV3r
          have hby : f.bytes = (K3 : Int) := by rw [hch.bytes, hk3]; unfold wrap64; omega
          have hhe : (f.held.length : Int) = (bs.length : Int) - (K3 : Int) := by
            have := congrArg List.length (hch.live rfl).2
            rw [hfr', List.take_length] at this
            simp at this
            omega
          have hfrm : f.framing = .agg #[.int .i64 f.width, .int .i64 ((bs.length : Int) - (K3 : Int)), .int .i64 f.frames, .int .i64 f.ticks, .int .i64 (K3 : Int), .bool f.dead] := by rw [← hhe, ← hby]; rfl
          have HHF : Hid (f.framing = .agg #[.int .i64 f.width, .int .i64 ((bs.length : Int) - (K3 : Int)), .int .i64 f.frames, .int .i64 f.ticks, .int .i64 (K3 : Int), .bool f.dead]) := hfrm
          have HZ := Hid.mk6 (And.intro hch.mem (And.intro hch.ok hB))
          have hk16 : K3 ≤ bs.length := by omega
          clear hch hB hT hSr hgr hq hsp hbd hV3 hV3r hfrm hby hhe hs
          obtain ⟨hmr, hokr, hBr⟩ := HZ.out
          have HMr := Hid.mk6 hmr
          have HBr : Hid (Below w.heap.size w wr) := hBr
          clear hmr hBr
          go_wp2_with fail
          refine hsm.mono ?_
          rintro ev w7 ⟨rfl, hb7⟩
          have hm7 := I.turned HMr.out (Turned.ofBelow (S := fun _ => False) hb7) (fun _ _ h => h)
          have hst7 := I.state hm7 hokr
          rw [HHF.out] at hst7
          have HM7 := Hid.mk6 hm7
          have HB7 : Hid (Below w.heap.size w w7) := HBr.out.trans (hb7.mono HBr.out.size)
          clear hb7 hm7 hsm
          go_wp2_with fail
          refine hst7.mono ?_
          rintro ev w8 ⟨rfl, hb8⟩
          have hst8 := I.state (I.turned HM7.out (Turned.ofBelow (S := fun _ => False) hb8) (fun _ _ h => h)) hokr
          rw [HHF.out] at hst8
          have HB8 : Hid (Below w.heap.size w w8) := HB7.out.trans (hb8.mono HB7.out.size)
          clear hb8 hst7
          go_wp2_with fail
          refine hst8.mono ?_
          rintro ev w9 ⟨rfl, hb9⟩
          have HB9 : Hid (Below w.heap.size w w9) := HB8.out.trans (hb9.mono HB8.out.size)
          clear hb9 hst8
          go_wp2
          go_ret
          exact ⟨rfl, HB9.out⟩
      · obtain ⟨S, f, vs, acc, pre, hch, hB, hT, hSr, hgr, _, hq⟩ := HRo.out
        obtain ⟨hfr', hsp⟩ := hq hout
        obtain ⟨_, _, _, hl3, hV3⟩ := HM3.out
        have hpb := hch.big
        have hbd : Bodies wr w.heap.size u12 acc := hch.gat.bodies
        have hmid : ∀ k, w2.heap.size ≤ k → k < w3.heap.size → ¬ (k < w2.heap.size ∨ w3.heap.size ≤ k) := fun k h1 h2 h3 => by omega
        cases d with
        | true =>
          obtain ⟨hs1, hs2⟩ := hch.bad hm
          rw [hs1] at hl3
          obtain ⟨lb, hlb, rfl, l0, l1, l2⟩ := hl3
          have hlb3 : lb < w3.heap.size := World.block_lt_of_cell? w3 _ l0
          have m1 : wr.cell? ⟨lb, 1, none⟩ = some (.int .i64 ((pre.length : Nat) : Int)) := hT.cell l1 (hmid lb hlb hlb3)
          have hlr : lb < wr.heap.size := Nat.lt_of_lt_of_le hlb3 hT.size
          have hxr : Sl wr (.slice ab bs.length cb) bs := HX.out.turned (Turned.ofBelow (S := fun _ => False) hB) (fun _ _ h => h)
          have hsp2 := ref_split m (hxr.take (n := pre.length) hpb) (hr.take _) (by simp; omega)
          have hsa2 : splitAny m (bs.take pre.length) = (none, acc, pre.length) := by unfold splitAny; rw [if_neg hw, Int.toNat_natCast]; exact hs2
          rw [hsa2] at hsp2
          have hby : f.bytes = (pre.length : Int) := by rw [hch.bytes]; unfold wrap64; omega
          have HZ := Hid.mk6 (And.intro hch.mem (And.intro hch.ok (And.intro hB hbd)))
          have hpc : ((pre.length : Nat) : Int) ≤ cb := by omega
          clear hch hB hT hSr hgr hq hsp l0 l1 l2 hxr hsa2 hs1 hs2 hbd hV3
          generalize pre.length = PL at *
          go_wp2_with fail
          refine hsp2.mono ?_
          rintro ev w6 ⟨V6, v6, rfl, _, hV6, hb6⟩
          obtain ⟨hmr, hokr, hBr, hbdr⟩ := HZ.out
          have hd6 := (Below.refl w6.heap.size w6).drew
          have hb6d : Below wr.heap.size wr w6.drew := hb6.trans (hd6.mono hb6.size)
          have hsm := same_any (hbdr.below hb6d) (hV6.below hd6)
          have HB6 : Hid (Below w.heap.size w w6.drew ∧ Below wr.heap.size wr w6.drew) := ⟨hBr.trans (hb6d.mono hBr.size), hb6d⟩
          have HM6 := Hid.mk6 (I.turned hmr (Turned.ofBelow (S := fun _ => False) hb6d) (fun _ _ h => h))
          have m6 : w6.drew.cell? ⟨lb, 1, none⟩ = some (.int .i64 (PL : Int)) := (hb6d.cell (p := ⟨lb, 1, none⟩) hlr).trans m1
          have hfrm : f.framing = .agg #[.int .i64 f.width, .int .i64 f.held.length, .int .i64 f.frames, .int .i64 f.ticks, .int .i64 (PL : Int), .bool f.dead] := by rw [← hby]; rfl
          have HHF : Hid (f.framing = .agg #[.int .i64 f.width, .int .i64 f.held.length, .int .i64 f.frames, .int .i64 f.ticks, .int .i64 (PL : Int), .bool f.dead]) := hfrm
          clear hsp2 hV6 hb6 hmr hBr hbdr hd6 hb6d hfrm hby m1
          go_wp2_with fail
          go_region_held3 (fun w' => w'.cell? ⟨lb, 1, none⟩ = some (.int .i64 (PL : Int)))
            (go_keep)
            (first
              | (go_at_call 10; refine hsm.mono ?_; rintro ev w7 ⟨rfl, hb7⟩; have hlr6 : lb < w6.drew.heap.size := World.block_lt_of_cell? w6.drew _ m6; have s7 := (hb7.cell (p := ⟨lb, 1, none⟩) hlr6).trans m6; have hst7 := I.state (I.turned HM6.out (Turned.ofBelow (S := fun _ => False) hb7) (fun _ _ h => h)) hokr; rw [HHF.out] at hst7; have HB7 : Hid (Below w.heap.size w w7) := HB6.out.1.trans (hb7.mono HB6.out.1.size); clear hb7)
              | (go_at_call 11; refine hst7.mono ?_; rintro ev w8 ⟨rfl, hb8⟩; have hlr7 : lb < w7.heap.size := World.block_lt_of_cell? w7 _ s7; have s8 := (hb8.cell (p := ⟨lb, 1, none⟩) hlr7).trans s7; have HB8 : Hid (Below w.heap.size w w8) := HB7.out.trans (hb8.mono HB7.out.size); clear hb8))
          all_goals
            go_wp2
            go_ret
            exact ⟨rfl, HB8.out⟩
        | false =>
          have hs := hsp rfl
          have hk3 := HK3.out
          rw [hs] at hl3 hV3 hk3
          have hl3 : v3 = .slice none 0 0 := hl3
          have hk3 : pre.length = K3 := hk3
          subst hl3
          have hV3r : Bodies wr w2.heap.size V3 acc := Bodies.turned hV3 hT hmid
          have hsm := same_any hbd hV3r
          have hby : f.bytes = (K3 : Int) := by rw [hch.bytes, hk3]; unfold wrap64; omega
          have hhe : (f.held.length : Int) = (bs.length : Int) - (K3 : Int) := by
            have := congrArg List.length (hch.live rfl).2
            rw [hfr', List.take_length] at this
            simp at this
            omega
          have hfrm : f.framing = .agg #[.int .i64 f.width, .int .i64 ((bs.length : Int) - (K3 : Int)), .int .i64 f.frames, .int .i64 f.ticks, .int .i64 (K3 : Int), .bool f.dead] := by rw [← hhe, ← hby]; rfl
          have HHF : Hid (f.framing = .agg #[.int .i64 f.width, .int .i64 ((bs.length : Int) - (K3 : Int)), .int .i64 f.frames, .int .i64 f.ticks, .int .i64 (K3 : Int), .bool f.dead]) := hfrm
          have HZ := Hid.mk6 (And.intro hch.mem (And.intro hch.ok hB))
          have hk16 : K3 ≤ bs.length := by omega
          clear hch hB hT hSr hgr hq hsp hbd hV3 hV3r hfrm hby hhe hs
          obtain ⟨hmr, hokr, hBr⟩ := HZ.out
          have HMr := Hid.mk6 hmr
          have HBr : Hid (Below w.heap.size w wr) := hBr
          clear hmr hBr
          go_wp2_with fail
          refine hsm.mono ?_
          rintro ev w7 ⟨rfl, hb7⟩
          have hm7 := I.turned HMr.out (Turned.ofBelow (S := fun _ => False) hb7) (fun _ _ h => h)
          have hst7 := I.state hm7 hokr
          rw [HHF.out] at hst7
          have HM7 := Hid.mk6 hm7
          have HB7 : Hid (Below w.heap.size w w7) := HBr.out.trans (hb7.mono HBr.out.size)
          clear hb7 hm7 hsm
          go_wp2_with fail
          refine hst7.mono ?_
          rintro ev w8 ⟨rfl, hb8⟩
          have hst8 := I.state (I.turned HM7.out (Turned.ofBelow (S := fun _ => False) hb8) (fun _ _ h => h)) hokr
          rw [HHF.out] at hst8
          have HB8 : Hid (Below w.heap.size w w8) := HB7.out.trans (hb8.mono HB7.out.size)
          clear hb8 hst7
          go_wp2_with fail
          refine hst8.mono ?_
          rintro ev w9 ⟨rfl, hb9⟩
          have HB9 : Hid (Below w.heap.size w w9) := HB8.out.trans (hb9.mono HB8.out.size)
          clear hb9 hst8
          go_wp2
          go_ret
          exact ⟨rfl, HB9.out⟩
end Go.Proofs.Ytpbakejocjmkeaa
