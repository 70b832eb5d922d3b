/-
  Layer 11 (parse): the program's Same.
-/
import Derived.Test.YtipdmmncgenppaaGreatDoorPSmH0
namespace Go.Proofs.YtipdmmncgenppaaGreatDoor
open Go.RowKit

set_option maxRecDepth 100000 in
set_option maxHeartbeats 6400000 in
theorem ps_Same_in {w : World} {aA aB : Option Addr} {cA cB : Nat} {A B : List Nd} (hA : NdArg w (.slice aA A.length cA) A) (hB : NdArg w (.slice aB B.length cB) B) (n M i k : Nat) (lA : A.length ≤ 1048576) (lB : B.length ≤ 1048576) (hM : M ≤ 1048576) (kA : ∀ x ∈ A, x.kids.length ≤ M) (hi : i < A.length) (hk : k < B.length) (hn : n = A.length + B.length) :
    Calls Tryz.prog 8 #[.slice aA A.length cA, .int .i64 i, .slice aB B.length cB, .int .i64 k] w fun x w' => ∃ b, x = .returned (.bool b) ∧ (b = true ↔ (grOf A B).Same i (A.length + k)) ∧ Below w.heap.size w w' := by
  have h1 := ps_isNode aA A.length cA i
  have h2 := ps_isNode aB B.length cB k
  rw [show lowB A.length i = true by simp [lowB]; omega] at h1
  rw [show lowB B.length k = true by simp [lowB]; omega] at h2
  have hN := ps_newSets w n (by omega)
  have he : wrap64 ((A.length : Int) + (B.length : Int)) = (n : Int) := by simp only [wrap64]; omega
  have HA := Hid.mk7 (And.intro hA hB)
  have HN := Hid.mk7 (And.intro lA (And.intro lB (And.intro hM (And.intro kA (And.intro hi (And.intro hk hn))))))
  clear hA hB lA lB hM kA hi hk hn
  generalize hna : A.length = na at h1 h2 he ⊢
  generalize hnb : B.length = nb at h1 h2 he ⊢
  have HE := Hid.mk7 (And.intro hna hnb)
  clear hna hnb
  go_enter Tryz.func8, Tryz.ntmps8
  go_wp2_with fail
  refine (h1 _).mono ?_
  rintro x w1 ⟨rfl, rfl⟩
  go_wp2_with fail
  refine (h2 _).mono ?_
  rintro x w1 ⟨rfl, rfl⟩
  go_wp2_with fail
  refine hN.mono ?_
  rintro x w1 ⟨rfl, hs1, hb1⟩
  have H1 := Hid.mk7 (And.intro hs1 hb1)
  clear hs1 hb1 hN h1 h2
  go_wp2_with fail
  go_loopw [10] (fun V wr => ∃ (P : List (Nat × Nat)) (rep : Nat → Nat), PSt w wr A B n M i k V P rep) (fun V wr => lenOf V + wsets wr w.heap.size n * (M + 1))
  case atStart =>
    have hz := H1.out.1.lt
    refine ⟨[(i, k)], id, ?_, ?_, ?_, ?_, ?_, ⟨_, SI.begin _ _ _⟩, ?_⟩
    · refine ⟨rfl, .inr ⟨w1.heap.size, 0, 1, rfl, Nat.le_refl _, by decide, by simp, fun j hj => ?_, fun j hj => ?_⟩⟩
      · have hj2 : j < 2 := hj
        match j, hj2 with
        | 0, _ => simp [pcs]
        | 1, _ => simp [pcs]
      · have hj2 : j < 2 := by omega
        match j, hj2 with
        | 0, _ => exact ⟨by simp, by rw [World.frozen?_alloc_new]⟩
        | 1, _ => exact ⟨by simp, by rw [World.frozen?_alloc_new]⟩
    · intro q hq
      exact (show w1.heap.size = q from hq) ▸ hz
    · exact ⟨id, H1.out.1.turned (Turned.alloc (fun _ => False) w1 _) (fun e => e), _, UF.begin n⟩
    · exact H1.out.2.trans ((Below.alloc0 w1 _).mono H1.out.2.size)
    · intro p hp
      simp at hp
      subst hp
      exact ⟨HN.out.2.2.2.2.1, HN.out.2.2.2.2.2.1⟩
    · have := Nat.mul_le_mul_right M (sets_le n id)
      simp only [List.length_cons, List.length_nil]
      omega
  case round =>
    obtain ⟨P, rep, hP⟩ := hrel
    rcases List.eq_nil_or_concat P with rfl | ⟨P', p, rfl⟩
    · obtain ⟨aV, cV, rfl, _, _⟩ := hP.own.sl.form
      have HR := Hid.mk7 hP
      clear hP
      simp only [List.length_nil]
      go_wp2
      go_ret
      obtain ⟨J, hJ⟩ := HR.out.si
      refine ⟨true, rfl, ?_, HR.out.bel⟩
      rw [← HE.out.1]
      exact ⟨fun _ => SI.done hJ (by have := HN.out.2.2.2.2.1; omega), fun _ => rfl⟩
    · obtain ⟨b, off, cap, rfl, hc1, hc2, d1, d2, ho⟩ := OwnK.popped (by simpa using hP.own)
      obtain ⟨pi, pk⟩ := p
      have hin := hP.inb (pi, pk) (by simp)
      generalize hL : P'.length + 1 = L at *
      generalize hm : P'.length = m at *
      have hLm : wrap64 ((L : Int) - 1) = (m : Int) := by simp only [wrap64]; simp only [maxLen] at hc2; omega
      obtain ⟨y, hy⟩ : ∃ y, y = na + pk := ⟨_, rfl⟩
      have hye : wrap64 ((na : Int) + (pk : Int)) = (y : Int) := by simp only [wrap64]; have h5 := HE.out; have h6 := HN.out.1; have h7 := HN.out.2.1; have h8 := hin.2; clear d1 d2 hP ho; simp only at h8; omega
      have HY := Hid.mk7 hy
      clear hy
      have hgt : (0 : Int) < (L : Int) := by omega
      have hmL : (m : Int) < (L : Int) := by omega
      have hmc : (m : Int) ≤ (cap : Int) := by omega
      have hm0 : (0 : Int) ≤ (m : Int) := by omega
      have HR := Hid.mk7 (And.intro hP (And.intro hc1 (And.intro ho (And.intro hin (And.intro hL hm)))))
      clear hP hc1 hc2 ho hin hL hm
      dsimp only at d1 d2
      go_wp2_with fail
      go_quiet (fail)
      go_wp2_with fail
      obtain ⟨s0, hs0, dep0, hu0⟩ := HR.out.1.set
      have hs0' := hs0.turned (Turned.ofBelow (S := fun _ => False) (drewN_below wr nq)) (fun e => e)
      have hpi : pi < n := by have := HN.out.2.2.2.2.2.2; have := HR.out.2.2.2.1.1; omega
      have hyn : y < n := by have := HN.out.2.2.2.2.2.2; have := HR.out.2.2.2.1.2; have := HE.out; have := HY.out; omega
      have hj := ps_join hs0' hu0 pi y hpi hyn
      clear hs0 hs0'
      refine hj.mono ?_
      rintro x w2 ⟨rfl, ⟨s2, hs2, dep2, hu2⟩, ht2⟩
      have T2 := ((Turned.ofBelow (S := fun k => k = w.heap.size) (drewN_below wr nq)).trans ht2 (fun _ e => .inl e))
      have hb2 : Below w.heap.size w w2 := Turned.toBelow HR.out.1.bel T2 (Nat.le_refl _)
      have ho2 : OwnK 2 w2 (.slice (some ⟨b, off, none⟩) m cap) m (pcs P') := HR.out.2.2.1.turned T2 (fun q hq e => by have := HR.out.1.new q hq; omega)
      have H2 := Hid.mk7 (And.intro hs2 (And.intro hu2 (And.intro hb2 ho2)))
      clear hj hs2 hu2 ht2 T2 hb2 ho2 d1 d2
      by_cases hr : rep pi = rep y
      · have HQ := Hid.mk7 hr
        rw [show decide (rep pi ≠ rep y) = false by simp [hr]]
        clear hr
        go_wp2
        go_roundw
        case rel =>
          have hP := HR.out.1
          rw [List.concat_eq_append] at hP
          obtain ⟨J, hJ⟩ := hP.si
          rw [List.map_append] at hJ
          refine ⟨P', rep, ?_⟩
          have hl := HR.out.2.2.2.2.2
          have hjr : joinR rep pi y = rep := by rw [joinR, if_pos HQ.out]
          refine ⟨by rw [hl]; exact H2.out.2.2.2, fun q hq => hP.new q hq, ⟨s2, H2.out.1, dep2, by have := H2.out.2.1; rwa [hjr] at this⟩, H2.out.2.2.1, fun p hp => hP.inb p (by simp [hp]), ⟨J, SI.pop hJ (by have := HQ.out; rw [HY.out, ← HE.out.1] at this; exact this)⟩, ?_⟩
          have := hP.len
          simp only [List.length_append, List.length_cons, List.length_nil] at this
          omega
        case measure =>
          have hjr : joinR rep pi y = rep := by rw [joinR, if_pos HQ.out]
          have hu2 := H2.out.2.1
          rw [hjr] at hu2
          obtain ⟨s9, hs9, dep9, hu9⟩ := HR.out.1.set
          have e1 := H2.out.1.wsets hu2
          have e2 := hs9.wsets hu9
          have := HR.out.2.2.2.2.1
          simp only [lenOf, e1, e2]
          simp
          omega
      · have HQ := Hid.mk7 hr
        rw [show decide (rep pi ≠ rep y) = true by simp [hr]]
        clear hr
        have hpA := HR.out.2.2.2.1.1
        have hpB := HR.out.2.2.2.1.2
        obtain ⟨b1, o1, rfl, a0, a1, a2, a3, a4, a5, sa⟩ := (HA.out.1.below H2.out.2.2.1).at pi hpA
        obtain ⟨b2, o2, rfl, e0, e1, e2, e3, e4, e5, se⟩ := (HA.out.2.below H2.out.2.2.1).at pk hpB
        obtain ⟨ak, ck, hak, hakl⟩ := sa.form
        obtain ⟨ek, dk, hek, hekl⟩ := se.form
        have hls : ∀ W, Calls Tryz.prog 15 #[.agg #[.int .i64 A[pi].kind, .string A[pi].text, .string A[pi].mod, .int .i64 A[pi].num, .slice ak A[pi].kids.length ck, .int .i64 A[pi].at_], .agg #[.int .i64 B[pk].kind, .string B[pk].text, .string B[pk].mod, .int .i64 B[pk].num, .slice ek B[pk].kids.length dk, .int .i64 B[pk].at_]] W fun e W' => e = .returned (.bool (lookB A[pi] B[pk])) ∧ Below W.heap.size W W' := fun W => by
          have := ps_looksSame A[pi] B[pk] W hak hek
          rw [Nd.val, Nd.val, hak, hek] at this
          exact this
        rw [hak] at a4
        rw [hek] at e4
        have HS := Hid.mk7 (And.intro sa (And.intro se (And.intro hak hek)))
        clear sa se hak hek
        have hpn : (pi : Int) < (na : Int) := by have := HE.out; omega
        have hkn : (pk : Int) < (nb : Int) := by have := HE.out; omega
        have HX := Hid.mk7 (And.intro hpA hpB)
        generalize hlk : lookB A[pi] B[pk] = lk at hls
        have HLK := Hid.mk7 hlk
        clear hlk
        go_wp2_with fail
        -- two ways (which node is loaded first), both to w3 with hb3 : Below w2.drew.heap.size w2.drew w3
        go_region_with (go_at_call 15; refine (hls _).mono ?_; rintro e w3 ⟨rfl, hb3⟩)
        all_goals
          have hb4 : Below w.heap.size w w3 := (Below.drew H2.out.2.2.1).trans (hb3.mono (by have := H2.out.2.2.1.size; simpa using this))
          have H3 := Hid.mk7 hb4
          have HT3 := Hid.mk7 ((Turned.drew (fun _ => False) w2).trans (Turned.ofBelow (S := fun _ => False) hb3) (fun _ e => .inl e))
          clear hb3 hb4 hls a0 a1 a2 a3 a4 a5 e0 e1 e2 e3 e4 e5
          cases lk with
          | false =>
            go_wp2
            go_ret
            refine ⟨false, rfl, ⟨fun h => by (cases h), fun hs => ?_⟩, H3.out⟩
            exfalso
            rw [← HE.out.1] at hs
            obtain ⟨J, hJ⟩ := HR.out.1.si
            have h9 := hJ.all hs pi (A.length + pk) (by simp)
            have h8 := (lookB_gr A B pi pk HX.out.1 HX.out.2).2 h9.lab
            rw [HLK.out] at h8
            cases h8
          | true =>
            obtain ⟨b3, o3, q3, _, _, _, _, a4, _⟩ := (HA.out.1.below H3.out).at pi HX.out.1
            cases q3
            rw [HS.out.2.2.1] at a4
            have hlen : A[pi].kids.length = B[pk].kids.length := by
              have := HLK.out
              simp [lookB] at this
              exact this.2.2.2.2
            have HLen := Hid.mk7 hlen
            clear hlen
            have HP3 : Hid (PIn w w3 A B n pi pk (.slice (some ⟨b, off, none⟩) m cap) P' (joinR rep pi y) A[pi].kids B[pk].kids 0) := by
              have T3 : Turned (fun _ => False) w2 w3 := HT3.out
              refine ⟨?_, ?_, ⟨s2, H2.out.1.turned T3 (fun e => e), dep2, H2.out.2.1⟩, H3.out, by simp, by simp⟩
              · have := H2.out.2.2.2.turned T3 (fun _ _ e => e)
                rw [prs_zero, List.append_nil, Nat.add_zero, HR.out.2.2.2.2.2]
                exact this
              · exact fun q hq => HR.out.1.new q hq
            have hkl : (A[pi].kids.length : Int) ≤ 1048576 := by have := HN.out.2.2.2.1 A[pi] (List.getElem_mem _); have := HN.out.2.2.1; omega
            go_wp2_with fail
            go_loopw [10, 82] (fun V ix wr => ∃ (j : Nat), j ≤ A[pi].kids.length ∧ ix = .int .i64 j ∧ PIn w wr A B n pi pk V P' (joinR rep pi y) A[pi].kids B[pk].kids j) (fun _ ix _ => A[pi].kids.length - (intOf ix).toNat)
            case atStart => exact ⟨0, Nat.zero_le _, rfl, HP3.out⟩
            case round =>
              obtain ⟨j, hj, rfl, hI⟩ := hrel
              obtain ⟨aV, cV, hV, _, _⟩ := hI.own.sl.form
              subst hV
              by_cases hlt : j < A[pi].kids.length
              · have hji : (j : Int) < (A[pi].kids.length : Int) := by omega
                have hltB : j < B[pk].kids.length := by have := HLen.out; omega
                have hjB : (j : Int) < (B[pk].kids.length : Int) := by omega
                obtain ⟨b4, o4, q4, _, _, _, _, _, _, sA⟩ := (HA.out.1.below hI.bel).at pi HX.out.1
                cases q4
                rw [HS.out.2.2.1] at sA
                obtain ⟨gA, oA, hgA, cA1⟩ := sA.at j hlt
                subst hgA
                obtain ⟨b5, o5, q5, _, _, _, _, e4, _, sB⟩ := (HA.out.2.below hI.bel).at pk HX.out.2
                cases q5
                rw [HS.out.2.2.2] at sB e4
                obtain ⟨gB, oB, hgB, cB1⟩ := sB.at j hltB
                subst hgB
                have hl1 := ps_isLower A[pi].kids[j] pi
                have hl2 := ps_isLower B[pk].kids[j] pk
                have HI := Hid.mk7 hI
                clear hI sA sB
                cases hb1 : lowB pi A[pi].kids[j] with
                | false =>
                  rw [hb1] at hl1
                  have HB := Hid.mk7 hb1
                  clear hb1 hl2
                  go_wp2_with fail
                  refine (hl1 _).mono ?_
                  rintro x w5 ⟨rfl, rfl⟩
                  go_wp2
                  go_ret
                  refine ⟨false, rfl, ⟨fun h => by (cases h), fun hs => ?_⟩, HI.out.bel⟩
                  exfalso
                  rw [← HE.out.1] at hs
                  obtain ⟨J, hJ⟩ := HR.out.1.si
                  have h9 := (hJ.all hs pi (A.length + pk) (by simp)).low.1
                  rw [(grOf_a A B pi HX.out.1).2.2] at h9
                  have h8 := List.all_eq_true.1 h9 _ (List.getElem_mem hlt)
                  rw [HB.out] at h8
                  cases h8
                | true =>
                  rw [hb1] at hl1
                  cases hb2 : lowB pk B[pk].kids[j] with
                  | false =>
                    rw [hb2] at hl2
                    have HB := Hid.mk7 hb2
                    clear hb1 hb2
                    go_wp2_with fail
                    refine (hl1 _).mono ?_
                    rintro x w5 ⟨rfl, rfl⟩
                    go_wp2_with fail
                    refine (hl2 _).mono ?_
                    rintro x w5 ⟨rfl, rfl⟩
                    go_wp2
                    go_ret
                    refine ⟨false, rfl, ⟨fun h => by (cases h), fun hs => ?_⟩, HI.out.bel⟩
                    exfalso
                    rw [← HE.out.1] at hs
                    obtain ⟨J, hJ⟩ := HR.out.1.si
                    have h9 := (hJ.all hs pi (A.length + pk) (by simp)).low.2
                    rw [(grOf_b A B pk HX.out.2).2.2] at h9
                    have h8 := List.all_eq_true.1 h9 _ (List.getElem_mem hltB)
                    rw [HB.out] at h8
                    cases h8
                  | true =>
                    rw [hb2] at hl2
                    have HB := Hid.mk7 (And.intro hb1 hb2)
                    obtain ⟨qx, hqx⟩ : ∃ q : Nat, A[pi].kids[j] = (q : Int) := ⟨A[pi].kids[j].toNat, by simp [lowB] at hb1; omega⟩
                    obtain ⟨qy, hqy⟩ : ∃ q : Nat, B[pk].kids[j] = (q : Int) := ⟨B[pk].kids[j].toNat, by simp [lowB] at hb2; omega⟩
                    rw [hqx] at cA1 hl1
                    rw [hqy] at cB1 hl2
                    have HQ2 := Hid.mk7 (And.intro hqx hqy)
                    have hfit : (P'.length + j + 1) * 16 ≤ 140737488355328 := by
                      have h1 := HR.out.1.len
                      have h2 : n * M ≤ 2097152 * 1048576 := Nat.mul_le_mul (by have := HN.out; omega) HN.out.2.2.1
                      simp only [List.length_concat] at h1
                      omega
                    have hone : ∀ u ∈ [Value.int .i64 (qx : Int), Value.int .i64 (qy : Int)], u.oneCell' = true := by
                      intro u hu
                      simp only [List.mem_cons, List.not_mem_nil, or_false] at hu
                      rcases hu with rfl | rfl <;> rfl
                    have hfit2 : P'.length + j + 1 ≤ 4611686018427387903 := by omega
                    have HF := Hid.mk7 (And.intro hfit hfit2)
                    clear hb1 hb2 hqx hqy hfit hfit2
                    go_wp2_with fail
                    refine (hl1 _).mono ?_
                    rintro x w5 ⟨rfl, rfl⟩
                    go_wp2_with fail
                    refine (hl2 _).mono ?_
                    rintro x w5 ⟨rfl, rfl⟩
                    clear hl1 hl2
                    go_wp2_with (at_builtin; refine wpList_append_k (by rfl) (.tmp 105) (.tmp 109) (by rfl) Tryz.pairTypes (by rfl) (by rfl) (OwnK.turned HI.out.own (Turned.alloc (fun _ => False) _ _) (fun _ _ e => e)) (SlK.pair _ _ _ _) hone HF.out.1 HF.out.2 ?_; intro V4 w4 ho4 T4 hv4)
                    have HI4 := Hid.mk7 (HI.out.next hlt hltB HQ2.out.1 HQ2.out.2 HB.out.1 HB.out.2 ho4 T4 hv4)
                    clear ho4 T4 hv4
                    go_wp2
                    go_roundw
                    case rel => exact ⟨j + 1, by omega, by go_num, HI4.out⟩
                    case measure => simp [intOf]; omega
              · have hge : ¬ (j : Int) < (A[pi].kids.length : Int) := by omega
                have hjl : j = A[pi].kids.length := by omega
                have hR1 := HR.out.1
                rw [List.concat_eq_append] at hR1
                have hQ1 := HQ.out
                rw [HY.out, ← HE.out.1] at hQ1
                have hS1 := hI.set
                rw [HY.out, ← HE.out.1] at hS1
                have hpl := prs_length A[pi].kids B[pk].kids A[pi].kids.length (Nat.le_refl _) (by have := HLen.out; omega)
                subst hjl
                have hA1 := hI.la
                have hB1 := hI.lb
                have hL1 : P'.length + A[pi].kids.length = (P' ++ prs A[pi].kids B[pk].kids A[pi].kids.length).length := by rw [List.length_append, hpl]
                have hO1 := (congrArg (fun z => OwnK 2 wr (.slice aV (P'.length + A[pi].kids.length) cV) z (pcs (P' ++ prs A[pi].kids B[pk].kids A[pi].kids.length))) hL1).mp hI.own
                rw [HLen.out] at hB1
                have HJ := Hid.mk7 (PSt.joined hR1 HX.out.1 HX.out.2 HN.out.2.2.2.2.2.2 (HN.out.2.2.2.1 _ (List.getElem_mem _)) hQ1 HLK.out (by simpa using hA1) (by simpa using hB1) hO1 hI.new hS1 hI.bel)
                clear hR1 hQ1 hS1 hO1 hA1 hB1 hpl hL1
                clear hI
                go_wp2
                go_roundw
                case rel => exact ⟨_, _, HJ.out.1⟩
                case measure =>
                  have := HJ.out.2
                  simpa [lenOf] using this
end Go.Proofs.YtipdmmncgenppaaGreatDoor
