/-
  Layer 8 (shake): the document's Answer.
  Layer 8 (shake): the document's Sames of two lists of the same bytes.
-/
import Derived.Test.YtmnibmgbicnamaaGreatDoorKi
import Derived.Test.YtmnibmgbicnamaaGreatDoorKd
import Derived.Test.YtmnibmgbicnamaaGreatDoorKb
import Derived.Test.YtmnibmgbicnamaaGreatDoorK9
namespace Go.Proofs.YtmnibmgbicnamaaGreatDoor
open Go.RowKit

set_option maxRecDepth 100000 in
set_option maxHeartbeats 3200000 in
theorem rs_answer_no {w : World} {g : Nat} {s : Sd} (h : RSide w g s) (st : ByteArray) (hst : s.state ≠ 5 ∨ isSt st = false) : Calls Tryz.prog 18 #[.pointer (some ⟨g, 0, none⟩), .string st] w (RSideTold w g (s.answer st)) := by
  obtain ⟨k0, _⟩ := h 0 (by omega)
  simp only [rsCell] at k0
  have HS := Hid.mk7 h
  by_cases h8 : s.state = 8
  · have HT : Hid (s.answer st = (sh 0 8, s, [])) := by
      have h : s.answer st = (sh 0 8, s, []) := by unfold Sd.answer; rw [if_pos h8]
      exact h
    have hno := sh_no 0 8 w
    rw [h8] at k0
    clear h h8 hst
    go_enter Tryz.func18, Tryz.ntmps18
    go_wp2_with fail
    refine hno.mono ?_
    rintro e w2 ⟨v, rfl, hl2, hb2⟩
    have H2 : Hid (LinksC w.heap.size w2 v (sh 0 8) ∧ Below w.heap.size w w2) := ⟨hl2, hb2⟩
    obtain ⟨lb, cap, _, rfl, _⟩ := hl2
    clear hb2 hno
    go_wp2
    go_ret2
    rw [HT.out]
    exact rside_no HS.out H2.out.1 H2.out.2
  · by_cases h5 : s.state = 5
    · have hs : isSt st = false := hst.resolve_left (fun h => h h5)
      have HT : Hid (s.answer st = (sh 0 1, s, [])) := by
        have h : s.answer st = (sh 0 1, s, []) := by unfold Sd.answer; rw [if_neg h8, if_neg (by simp [h5]), if_pos hs]
        exact h
      have hno := fun W => sh_no 0 1 W
      have hsq := ref_status st w
      rw [hs] at hsq
      rw [h5] at k0
      clear h h8 hst h5 hs
      go_enter Tryz.func18, Tryz.ntmps18
      go_wp2_with fail
      refine hsq.mono ?_
      rintro e ww ⟨rfl, rfl⟩
      go_wp2_with fail
      refine (hno _).mono ?_
      rintro e w2 ⟨v, rfl, hl2, hb2⟩
      have H2 : Hid (LinksC w.heap.size w2 v (sh 0 1) ∧ Below w.heap.size w w2) := ⟨hl2, hb2⟩
      obtain ⟨lb, cap, _, rfl, _⟩ := hl2
      clear hb2 hno
      go_wp2
      go_ret2
      rw [HT.out]
      exact rside_no HS.out H2.out.1 H2.out.2
    · have HT : Hid (s.answer st = (sh 0 161, s, [])) := by
        have h : s.answer st = (sh 0 161, s, []) := by unfold Sd.answer; rw [if_neg h8, if_pos h5]
        exact h
      have hno := sh_no 0 161 w
      have q8 : (s.state == 8) = false := by simp [h8]
      have q5 : (s.state == 5) = false := by simp [h5]
      clear h h8 hst h5
      go_enter Tryz.func18, Tryz.ntmps18
      go_wp2_with fail
      refine hno.mono ?_
      rintro e w2 ⟨v, rfl, hl2, hb2⟩
      have H2 : Hid (LinksC w.heap.size w2 v (sh 0 161) ∧ Below w.heap.size w w2) := ⟨hl2, hb2⟩
      obtain ⟨lb, cap, _, rfl, _⟩ := hl2
      clear hb2 hno
      go_wp2
      go_ret2
      rw [HT.out]
      exact rside_no HS.out H2.out.1 H2.out.2
set_option maxRecDepth 100000 in
set_option maxHeartbeats 6400000 in
theorem rs_answer_go {w : World} {g : Nat} {s : Sd} (h : RSide w g s) (hs : s.Ok) (hns : s.me.name.size ≤ 4611686018427387904) (h5 : s.state = 5) (hl : lacksB s.peer.flags = false) (hcr : s.peer.creation ≠ 0) (hnm : s.peer.name ≠ s.me.name) : Calls Tryz.prog 18 #[.pointer (some ⟨g, 0, none⟩), .string stOk] w (RSideTold w g (s.answer stOk)) := by
  have HT : Hid (s.answer stOk = ([], { s with state := 6, simult := false }, [writeOf (statusMsg stOk), writeOf s.challengeMsg])) := by
    have h : s.answer stOk = ([], { s with state := 6, simult := false }, [writeOf (statusMsg stOk), writeOf s.challengeMsg]) := by
      have hf : s.statusFor stOk = stOk := by unfold Sd.statusFor; rw [if_neg (by simp [hl, hcr, hnm])]
      unfold Sd.answer
      rw [if_neg (by omega), if_neg (by simp [h5]), if_neg (by decide), hf, if_pos (by decide)]
      rfl
    exact h
  have HSD : Hid (∀ W, Calls Tryz.prog 54 #[.agg #[.int .i64 3, .int .u64 s.me.flags, .int .u32 s.me.creation, .int .u32 s.challenge, .string s.me.name, .string ⟨#[]⟩, .slice none 0 0]] W fun e w' => ∃ V vs, e = .returned V ∧ Gather w' W.heap.size V vs [writeOf s.challengeMsg] ∧ Below W.heap.size W w') := fun W => ref_send s.challengeMsg ⟨hs.me.flags, hs.me.creation, ⟨by simp [Sd.challengeMsg], by have := hs.num; simp only [Sd.challengeMsg]; omega⟩, fun z hz => by cases hz⟩ hns (.inl ⟨rfl, rfl⟩)
  obtain ⟨k0, f0⟩ := h 0 (by omega)
  obtain ⟨k1, f1⟩ := h 1 (by omega)
  obtain ⟨k2, f2⟩ := h 2 (by omega)
  obtain ⟨k3, f3⟩ := h 3 (by omega)
  obtain ⟨k5, f5⟩ := h 5 (by omega)
  simp only [rsCell] at k0 k1 k2 k3 k5
  rw [h5] at k0
  have HS := Hid.mk7 h
  have hgl := h.lt
  have hla := lacks_q s.peer.flags
  rw [hl] at hla
  have qc : (s.peer.creation == 0) = false := by simp [hcr]
  have qn := toList_ne' hnm
  have hsq := ref_status stOk w
  rw [show isSt stOk = true by decide] at hsq
  have hRS : (fun e w' => RSideTold w g (s.answer stOk) e w') = RSideTold w g (s.answer stOk) := rfl
  generalize s.answer stOk = A at HT hRS ⊢
  unfold stOk at hsq ⊢
  clear h hl hcr hnm hs hns hRS
  go_enter Tryz.func18, Tryz.ntmps18
  go_wp2_with fail
  refine hsq.mono ?_
  rintro e ww ⟨rfl, rfl⟩
  go_wp2_with fail
  go_quiet ((go_at_call 53; refine hla _ _))
  obtain ⟨W0, hW0⟩ : ∃ W0, W0 = w.drewN nq := ⟨_, rfl⟩
  have b0 : Below w.heap.size w W0 := by rw [hW0]; exact below_drewN (Below.refl _ _) nq
  rw [← hW0]
  have H0 : Hid (Below w.heap.size w W0 ∧ RSide W0 g s) := ⟨b0, HS.out.below b0⟩
  have hsd := ref_send (statusMsg stOk) (status_ok _) zname (w := W0) (D := .slice none 0 0) (.inl ⟨rfl, rfl⟩)
  unfold msgV' at hsd
  simp only [statusMsg, Msg.zero] at hsd
  unfold stOk at hsd
  clear hW0 b0 k0 f0 k1 f1 k2 f2 k3 f3 k5 f5
  go_wp2_with fail
  refine hsd.mono ?_
  rintro e w1 ⟨V1, vs1, rfl, hg1, hb1⟩
  have b1 : Below w.heap.size w w1 := H0.out.1.trans (hb1.mono H0.out.1.size)
  have H1 : Hid (Below w.heap.size w w1 ∧ RSide w1 g s ∧ Gather w1 w.heap.size V1 vs1 [writeOf (statusMsg stOk)]) := ⟨b1, HS.out.below b1, hg1.mono H0.out.1.size⟩
  obtain ⟨a1, c1, hV1, _⟩ := hg1.own.sl.form
  subst hV1
  have hvs1 : vs1.length = 1 := hg1.len
  have HV1 := Hid.mk7 hvs1
  obtain ⟨k0, f0⟩ := H1.out.2.1 0 (by omega)
  obtain ⟨k4, f4⟩ := H1.out.2.1 4 (by omega)
  simp only [rsCell] at k0 k4
  obtain ⟨W2, hW2⟩ : ∃ W2, W2 = (w1.setCell ⟨g, 0, none⟩ (.int .i64 6)).setCell ⟨g, 4, none⟩ (.bool false) := ⟨_, rfl⟩
  have T2 : Turned (fun k => k = g) w1 W2 := by rw [hW2]; exact (Turned.set1 w1 g 0 _).trans (Turned.set1 _ g 4 _) (fun _ h => .inl h)
  have R2 : RSide W2 g { s with state := 6, simult := false } := by rw [hW2]; exact Block.congr (Block.set (Block.set H1.out.2.1 0 (.int .i64 6)) 4 (.bool false)) (forall11 rfl rfl rfl rfl rfl rfl rfl rfl rfl rfl rfl)
  have G2 : Gather W2 w.heap.size (.slice a1 vs1.length c1) vs1 [writeOf (statusMsg stOk)] := H1.out.2.2.turnedS T2 (fun k hk => by have hk : k = g := hk; omega)
  have TD := Turned.drew (fun _ => False) W2
  have H2 : Hid (Turned (fun k => k = g) w W2 ∧ RSide W2.drew g { s with state := 6, simult := false } ∧ Gather W2.drew w.heap.size (.slice a1 vs1.length c1) vs1 [writeOf (statusMsg stOk)]) := ⟨(Turned.ofBelow (S := fun k => k = g) H1.out.1).trans T2 (fun _ h => .inl h), Block.turned R2 TD (fun h => h), G2.turned TD⟩
  have r5 : W2.drew.cell? ⟨g, 5, none⟩ = some (.string s.me.name) := (R2 5 (by omega)).1
  have r6 : W2.drew.cell? ⟨g, 6, none⟩ = some (.int .u64 s.me.flags) := (R2 6 (by omega)).1
  have r7 : W2.drew.cell? ⟨g, 7, none⟩ = some (.int .u32 s.me.creation) := (R2 7 (by omega)).1
  have r10 : W2.drew.cell? ⟨g, 10, none⟩ = some (.int .u32 s.challenge) := (R2 10 (by omega)).1
  have hg2 : g < W2.heap.size := R2.lt
  have HW2 := Hid.mk7 hW2
  clear hg1 hb1 b1 hsd hvs1 T2 R2 G2 TD hW2
  go_wp2_with fail
  rw [← HW2.out]
  clear k0 f0 k4 f4
  go_region_held3 (fun w' => w'.cell? ⟨g, 5, none⟩ = some (.string s.me.name) ∧ w'.cell? ⟨g, 6, none⟩ = some (.int .u64 s.me.flags) ∧ w'.cell? ⟨g, 7, none⟩ = some (.int .u32 s.me.creation) ∧ w'.cell? ⟨g, 10, none⟩ = some (.int .u32 s.challenge))
    (go_keep)
    (first
      | (refine step_append_rows (by rfl) (.tmp 79) (.tmp 100) (by rfl) Tryz.rows (by rfl) (by rfl) own1 hsl3 hone hfit ?_; intro V4 w4 ho4 ht4 hb4; have e5 : w4.cell? ⟨g, 5, none⟩ = some (.string s.me.name) := ht4.cell (p := ⟨g, 5, none⟩) d5 hnb; have e6 : w4.cell? ⟨g, 6, none⟩ = some (.int .u64 s.me.flags) := ht4.cell (p := ⟨g, 6, none⟩) d6 hnb; have e7 : w4.cell? ⟨g, 7, none⟩ = some (.int .u32 s.me.creation) := ht4.cell (p := ⟨g, 7, none⟩) d7 hnb; have e10 : w4.cell? ⟨g, 10, none⟩ = some (.int .u32 s.challenge) := ht4.cell (p := ⟨g, 10, none⟩) d10 hnb; have H4 := Hid.mk7 (And.intro ho4 (And.intro ht4 hb4)); clear ho4 ht4 hb4)
      | (go_at_call 54; refine (HSD.out _).mono ?_; rintro e w3 ⟨V3, vs3, rfl, hg3, hb3⟩; have d5 : w3.cell? ⟨g, 5, none⟩ = some (.string s.me.name) := (hb3.cell (p := ⟨g, 5, none⟩) hg2).trans r5; have d6 : w3.cell? ⟨g, 6, none⟩ = some (.int .u64 s.me.flags) := (hb3.cell (p := ⟨g, 6, none⟩) hg2).trans r6; have d7 : w3.cell? ⟨g, 7, none⟩ = some (.int .u32 s.me.creation) := (hb3.cell (p := ⟨g, 7, none⟩) hg2).trans r7; have d10 : w3.cell? ⟨g, 10, none⟩ = some (.int .u32 s.challenge) := (hb3.cell (p := ⟨g, 10, none⟩) hg2).trans r10; have g3 := H2.out.2.2.turned (Turned.ofBelow (S := fun _ => False) hb3); have own1 := g3.own; have hsl3 := hg3.own.sl; have hone := hg3.cell1; have hfit : vs1.length + vs3.length ≤ 2199023255552 := (by have h1 := HV1.out; have h2 := hg3.len; simp at h2; omega); have hnb : ¬ blk (.slice a1 vs1.length c1) g := (fun h => by have := g3.big g h; omega); have H3 := Hid.mk7 (And.intro hg3 (And.intro hb3 g3)); obtain ⟨a3, c3, hV3, _⟩ := hg3.own.sl.form; subst hV3; clear hg3 hb3 g3))
  all_goals
    go_wp2
    go_ret2
    rw [HT.out]
    obtain ⟨q1, q2, q3⟩ := H3.out
    obtain ⟨u1, u2, u3⟩ := H4.out
    have hz3 : w.heap.size ≤ w3.heap.size := Nat.le_trans H2.out.1.size q2.size
    have T3 : Turned (fun k => k = g) w w3 := (H2.out.1.trans (Turned.drew (fun _ => False) W2) (fun _ h => h.elim)).trans (Turned.ofBelow (S := fun _ => False) q2) (fun _ h => h.elim)
    have hzz : w.heap.size ≤ W2.drew.heap.size := H2.out.1.size
    refine ⟨_, _, vs1 ++ vs3, rfl, rfl, q3.join hz3 q1 hzz (fun k hk => H2.out.2.2.own.blk_lt k hk) u1 u2 u3, ?_, T3.trans u2 (fun k hk => .inr (q3.big k hk))⟩
    exact (RSide.below H2.out.2.1 q2).turned u2 (fun h => by have := q3.big g h; omega)
set_option maxRecDepth 100000 in
set_option maxHeartbeats 6400000 in
theorem rs_answer_sim {w : World} {g : Nat} {s : Sd} (h : RSide w g s) (hs : s.Ok) (hns : s.me.name.size ≤ 4611686018427387904) (h5 : s.state = 5) (hl : lacksB s.peer.flags = false) (hcr : s.peer.creation ≠ 0) (hnm : s.peer.name ≠ s.me.name) : Calls Tryz.prog 18 #[.pointer (some ⟨g, 0, none⟩), .string stSim] w (RSideTold w g (s.answer stSim)) := by
  have HT : Hid (s.answer stSim = ([], { s with state := 6, simult := true }, [writeOf (statusMsg stSim), writeOf s.challengeMsg])) := by
    have h : s.answer stSim = ([], { s with state := 6, simult := true }, [writeOf (statusMsg stSim), writeOf s.challengeMsg]) := by
      have hf : s.statusFor stSim = stSim := by unfold Sd.statusFor; rw [if_neg (by simp [hl, hcr, hnm])]
      unfold Sd.answer
      rw [if_neg (by omega), if_neg (by simp [h5]), if_neg (by decide), hf, if_pos (by decide)]
      rfl
    exact h
  have HSD : Hid (∀ W, Calls Tryz.prog 54 #[.agg #[.int .i64 3, .int .u64 s.me.flags, .int .u32 s.me.creation, .int .u32 s.challenge, .string s.me.name, .string ⟨#[]⟩, .slice none 0 0]] W fun e w' => ∃ V vs, e = .returned V ∧ Gather w' W.heap.size V vs [writeOf s.challengeMsg] ∧ Below W.heap.size W w') := fun W => ref_send s.challengeMsg ⟨hs.me.flags, hs.me.creation, ⟨by simp [Sd.challengeMsg], by have := hs.num; simp only [Sd.challengeMsg]; omega⟩, fun z hz => by cases hz⟩ hns (.inl ⟨rfl, rfl⟩)
  obtain ⟨k0, f0⟩ := h 0 (by omega)
  obtain ⟨k1, f1⟩ := h 1 (by omega)
  obtain ⟨k2, f2⟩ := h 2 (by omega)
  obtain ⟨k3, f3⟩ := h 3 (by omega)
  obtain ⟨k5, f5⟩ := h 5 (by omega)
  simp only [rsCell] at k0 k1 k2 k3 k5
  rw [h5] at k0
  have HS := Hid.mk7 h
  have hgl := h.lt
  have hla := lacks_q s.peer.flags
  rw [hl] at hla
  have qc : (s.peer.creation == 0) = false := by simp [hcr]
  have qn := toList_ne' hnm
  have hsq := ref_status stSim w
  rw [show isSt stSim = true by decide] at hsq
  have hRS : (fun e w' => RSideTold w g (s.answer stSim) e w') = RSideTold w g (s.answer stSim) := rfl
  generalize s.answer stSim = A at HT hRS ⊢
  unfold stSim at hsq ⊢
  clear h hl hcr hnm hs hns hRS
  go_enter Tryz.func18, Tryz.ntmps18
  go_wp2_with fail
  refine hsq.mono ?_
  rintro e ww ⟨rfl, rfl⟩
  go_wp2_with fail
  go_quiet ((go_at_call 53; refine hla _ _))
  obtain ⟨W0, hW0⟩ : ∃ W0, W0 = w.drewN nq := ⟨_, rfl⟩
  have b0 : Below w.heap.size w W0 := by rw [hW0]; exact below_drewN (Below.refl _ _) nq
  rw [← hW0]
  have H0 : Hid (Below w.heap.size w W0 ∧ RSide W0 g s) := ⟨b0, HS.out.below b0⟩
  have hsd := ref_send (statusMsg stSim) (status_ok _) zname (w := W0) (D := .slice none 0 0) (.inl ⟨rfl, rfl⟩)
  unfold msgV' at hsd
  simp only [statusMsg, Msg.zero] at hsd
  unfold stSim at hsd
  clear hW0 b0 k0 f0 k1 f1 k2 f2 k3 f3 k5 f5
  go_wp2_with fail
  refine hsd.mono ?_
  rintro e w1 ⟨V1, vs1, rfl, hg1, hb1⟩
  have b1 : Below w.heap.size w w1 := H0.out.1.trans (hb1.mono H0.out.1.size)
  have H1 : Hid (Below w.heap.size w w1 ∧ RSide w1 g s ∧ Gather w1 w.heap.size V1 vs1 [writeOf (statusMsg stSim)]) := ⟨b1, HS.out.below b1, hg1.mono H0.out.1.size⟩
  obtain ⟨a1, c1, hV1, _⟩ := hg1.own.sl.form
  subst hV1
  have hvs1 : vs1.length = 1 := hg1.len
  have HV1 := Hid.mk7 hvs1
  obtain ⟨k0, f0⟩ := H1.out.2.1 0 (by omega)
  obtain ⟨k4, f4⟩ := H1.out.2.1 4 (by omega)
  simp only [rsCell] at k0 k4
  obtain ⟨W2, hW2⟩ : ∃ W2, W2 = (w1.setCell ⟨g, 0, none⟩ (.int .i64 6)).setCell ⟨g, 4, none⟩ (.bool true) := ⟨_, rfl⟩
  have T2 : Turned (fun k => k = g) w1 W2 := by rw [hW2]; exact (Turned.set1 w1 g 0 _).trans (Turned.set1 _ g 4 _) (fun _ h => .inl h)
  have R2 : RSide W2 g { s with state := 6, simult := true } := by rw [hW2]; exact Block.congr (Block.set (Block.set H1.out.2.1 0 (.int .i64 6)) 4 (.bool true)) (forall11 rfl rfl rfl rfl rfl rfl rfl rfl rfl rfl rfl)
  have G2 : Gather W2 w.heap.size (.slice a1 vs1.length c1) vs1 [writeOf (statusMsg stSim)] := H1.out.2.2.turnedS T2 (fun k hk => by have hk : k = g := hk; omega)
  have TD := Turned.drew (fun _ => False) W2
  have H2 : Hid (Turned (fun k => k = g) w W2 ∧ RSide W2.drew g { s with state := 6, simult := true } ∧ Gather W2.drew w.heap.size (.slice a1 vs1.length c1) vs1 [writeOf (statusMsg stSim)]) := ⟨(Turned.ofBelow (S := fun k => k = g) H1.out.1).trans T2 (fun _ h => .inl h), Block.turned R2 TD (fun h => h), G2.turned TD⟩
  have r5 : W2.drew.cell? ⟨g, 5, none⟩ = some (.string s.me.name) := (R2 5 (by omega)).1
  have r6 : W2.drew.cell? ⟨g, 6, none⟩ = some (.int .u64 s.me.flags) := (R2 6 (by omega)).1
  have r7 : W2.drew.cell? ⟨g, 7, none⟩ = some (.int .u32 s.me.creation) := (R2 7 (by omega)).1
  have r10 : W2.drew.cell? ⟨g, 10, none⟩ = some (.int .u32 s.challenge) := (R2 10 (by omega)).1
  have hg2 : g < W2.heap.size := R2.lt
  have HW2 := Hid.mk7 hW2
  clear hg1 hb1 b1 hsd hvs1 T2 R2 G2 TD hW2
  go_wp2_with fail
  rw [← HW2.out]
  clear k0 f0 k4 f4
  go_region_held3 (fun w' => w'.cell? ⟨g, 5, none⟩ = some (.string s.me.name) ∧ w'.cell? ⟨g, 6, none⟩ = some (.int .u64 s.me.flags) ∧ w'.cell? ⟨g, 7, none⟩ = some (.int .u32 s.me.creation) ∧ w'.cell? ⟨g, 10, none⟩ = some (.int .u32 s.challenge))
    (go_keep)
    (first
      | (refine step_append_rows (by rfl) (.tmp 79) (.tmp 100) (by rfl) Tryz.rows (by rfl) (by rfl) own1 hsl3 hone hfit ?_; intro V4 w4 ho4 ht4 hb4; have e5 : w4.cell? ⟨g, 5, none⟩ = some (.string s.me.name) := ht4.cell (p := ⟨g, 5, none⟩) d5 hnb; have e6 : w4.cell? ⟨g, 6, none⟩ = some (.int .u64 s.me.flags) := ht4.cell (p := ⟨g, 6, none⟩) d6 hnb; have e7 : w4.cell? ⟨g, 7, none⟩ = some (.int .u32 s.me.creation) := ht4.cell (p := ⟨g, 7, none⟩) d7 hnb; have e10 : w4.cell? ⟨g, 10, none⟩ = some (.int .u32 s.challenge) := ht4.cell (p := ⟨g, 10, none⟩) d10 hnb; have H4 := Hid.mk7 (And.intro ho4 (And.intro ht4 hb4)); clear ho4 ht4 hb4)
      | (go_at_call 54; refine (HSD.out _).mono ?_; rintro e w3 ⟨V3, vs3, rfl, hg3, hb3⟩; have d5 : w3.cell? ⟨g, 5, none⟩ = some (.string s.me.name) := (hb3.cell (p := ⟨g, 5, none⟩) hg2).trans r5; have d6 : w3.cell? ⟨g, 6, none⟩ = some (.int .u64 s.me.flags) := (hb3.cell (p := ⟨g, 6, none⟩) hg2).trans r6; have d7 : w3.cell? ⟨g, 7, none⟩ = some (.int .u32 s.me.creation) := (hb3.cell (p := ⟨g, 7, none⟩) hg2).trans r7; have d10 : w3.cell? ⟨g, 10, none⟩ = some (.int .u32 s.challenge) := (hb3.cell (p := ⟨g, 10, none⟩) hg2).trans r10; have g3 := H2.out.2.2.turned (Turned.ofBelow (S := fun _ => False) hb3); have own1 := g3.own; have hsl3 := hg3.own.sl; have hone := hg3.cell1; have hfit : vs1.length + vs3.length ≤ 2199023255552 := (by have h1 := HV1.out; have h2 := hg3.len; simp at h2; omega); have hnb : ¬ blk (.slice a1 vs1.length c1) g := (fun h => by have := g3.big g h; omega); have H3 := Hid.mk7 (And.intro hg3 (And.intro hb3 g3)); obtain ⟨a3, c3, hV3, _⟩ := hg3.own.sl.form; subst hV3; clear hg3 hb3 g3))
  all_goals
    go_wp2
    go_ret2
    rw [HT.out]
    obtain ⟨q1, q2, q3⟩ := H3.out
    obtain ⟨u1, u2, u3⟩ := H4.out
    have hz3 : w.heap.size ≤ w3.heap.size := Nat.le_trans H2.out.1.size q2.size
    have T3 : Turned (fun k => k = g) w w3 := (H2.out.1.trans (Turned.drew (fun _ => False) W2) (fun _ h => h.elim)).trans (Turned.ofBelow (S := fun _ => False) q2) (fun _ h => h.elim)
    have hzz : w.heap.size ≤ W2.drew.heap.size := H2.out.1.size
    refine ⟨_, _, vs1 ++ vs3, rfl, rfl, q3.join hz3 q1 hzz (fun k hk => H2.out.2.2.own.blk_lt k hk) u1 u2 u3, ?_, T3.trans u2 (fun k hk => .inr (q3.big k hk))⟩
    exact (RSide.below H2.out.2.1 q2).turned u2 (fun h => by have := q3.big g h; omega)
set_option maxRecDepth 100000 in
set_option maxHeartbeats 6400000 in
theorem rs_answer_keep {w : World} {g : Nat} {s : Sd} (h : RSide w g s) (h5 : s.state = 5) (st : ByteArray) (hst : isSt st = true) (hl : lacksB s.peer.flags = false) (hcr : s.peer.creation ≠ 0) (hnm : s.peer.name ≠ s.me.name) (h1 : st ≠ stOk) (h2 : st ≠ stSim) : Calls Tryz.prog 18 #[.pointer (some ⟨g, 0, none⟩), .string st] w (RSideTold w g (s.answer st)) := by
  have HT : Hid (s.answer st = ([], s.dead, [writeOf (statusMsg st)])) := by
    have h : s.answer st = ([], s.dead, [writeOf (statusMsg st)]) := by
      have hf : s.statusFor st = st := by unfold Sd.statusFor; rw [if_neg (by simp [hl, hcr, hnm])]
      unfold Sd.answer
      rw [if_neg (by omega), if_neg (by simp [h5]), if_neg (by simp [hst]), hf, if_neg (fun h => h.elim h1 h2)]
    exact h
  obtain ⟨k0, f0⟩ := h 0 (by omega)
  obtain ⟨k1, f1⟩ := h 1 (by omega)
  obtain ⟨k2, f2⟩ := h 2 (by omega)
  obtain ⟨k3, f3⟩ := h 3 (by omega)
  obtain ⟨k5, f5⟩ := h 5 (by omega)
  simp only [rsCell] at k0 k1 k2 k3 k5
  rw [h5] at k0
  have HS := Hid.mk7 h
  have hgl := h.lt
  have hla := lacks_q s.peer.flags
  rw [hl] at hla
  have hsq := ref_status st w
  rw [hst] at hsq
  generalize s.answer st = A at HT ⊢
  have qc : (s.peer.creation == 0) = false := by simp [hcr]
  have qn := toList_ne' hnm
  have s1 : (st.toList == [111, 107]) = false := by
    rw [beq_eq_false_iff_ne]
    exact fun e => h1 ((eq_stOk' st).2 e)
  have s2 : (st.toList == [111, 107, 95, 115, 105, 109, 117, 108, 116, 97, 110, 101, 111, 117, 115]) = false := by
    rw [beq_eq_false_iff_ne]
    exact fun e => h2 ((eq_stSim' st).2 e)
  clear h hst hl hcr hnm h1 h2
  go_enter Tryz.func18, Tryz.ntmps18
  go_wp2_with fail
  refine hsq.mono ?_
  rintro e ww ⟨rfl, rfl⟩
  go_wp2_with fail
  go_quiet ((go_at_call 53; refine hla _ _))
  obtain ⟨W0, hW0⟩ : ∃ W0, W0 = w.drewN nq := ⟨_, rfl⟩
  have b0 : Below w.heap.size w W0 := by rw [hW0]; exact below_drewN (Below.refl _ _) nq
  rw [← hW0]
  have H0 : Hid (Below w.heap.size w W0 ∧ RSide W0 g s) := ⟨b0, HS.out.below b0⟩
  have hsd := ref_send (statusMsg st) (status_ok _) zname (w := W0) (D := .slice none 0 0) (.inl ⟨rfl, rfl⟩)
  unfold msgV' at hsd
  simp only [statusMsg, Msg.zero] at hsd
  clear hW0 b0 k0 f0 k1 f1 k2 f2 k3 f3 k5 f5
  go_wp2_with fail
  refine hsd.mono ?_
  rintro e w1 ⟨V1, vs1, rfl, hg1, hb1⟩
  have b1 : Below w.heap.size w w1 := H0.out.1.trans (hb1.mono H0.out.1.size)
  have H1 : Hid (Below w.heap.size w w1 ∧ RSide w1 g s ∧ Gather w1 w.heap.size V1 vs1 [writeOf (statusMsg st)]) := ⟨b1, HS.out.below b1, hg1.mono H0.out.1.size⟩
  obtain ⟨a1, c1, hV1, _⟩ := hg1.own.sl.form
  subst hV1
  obtain ⟨k0, f0⟩ := H1.out.2.1 0 (by omega)
  obtain ⟨k1, f1⟩ := H1.out.2.1 1 (by omega)
  obtain ⟨k2, f2⟩ := H1.out.2.1 2 (by omega)
  obtain ⟨k3, f3⟩ := H1.out.2.1 3 (by omega)
  obtain ⟨k4, f4⟩ := H1.out.2.1 4 (by omega)
  simp only [rsCell] at k0 k1 k2 k3 k4
  clear hg1 hb1 b1 hsd
  go_wp2
  go_ret2
  rw [HT.out]
  obtain ⟨d1, d2⟩ := rside_dead (w := w1) H1.out.2.1
  have T1 := d2 (Turned.refl _ w1)
  exact ⟨_, _, vs1, rfl, rfl, H1.out.2.2.turnedS T1 (fun k hk => by have hk : k = g := hk; omega), d1, (Turned.ofBelow (S := fun k => k = g) H1.out.1).trans T1 (fun _ h => .inl h)⟩
set_option maxRecDepth 100000 in
set_option maxHeartbeats 6400000 in
theorem rs_answer_lack {w : World} {g : Nat} {s : Sd} (h : RSide w g s) (h5 : s.state = 5) (st : ByteArray) (hst : isSt st = true) (hl : lacksB s.peer.flags = true) : Calls Tryz.prog 18 #[.pointer (some ⟨g, 0, none⟩), .string st] w (RSideTold w g (s.answer st)) := by
  have HT : Hid (s.answer st = ([], s.dead, [writeOf (statusMsg stNot)])) := by
    have h : s.answer st = ([], s.dead, [writeOf (statusMsg stNot)]) := by
      have hf : s.statusFor st = stNot := by unfold Sd.statusFor; rw [if_pos (.inl hl)]
      unfold Sd.answer
      rw [if_neg (by omega), if_neg (by simp [h5]), if_neg (by simp [hst]), hf, if_neg (by decide)]
    exact h
  obtain ⟨k0, f0⟩ := h 0 (by omega)
  obtain ⟨k1, f1⟩ := h 1 (by omega)
  obtain ⟨k2, f2⟩ := h 2 (by omega)
  obtain ⟨k3, f3⟩ := h 3 (by omega)
  obtain ⟨k5, f5⟩ := h 5 (by omega)
  simp only [rsCell] at k0 k1 k2 k3 k5
  rw [h5] at k0
  have HS := Hid.mk7 h
  have hgl := h.lt
  have hla := lacks_q s.peer.flags
  rw [hl] at hla
  have hsq := ref_status st w
  rw [hst] at hsq
  generalize s.answer st = A at HT ⊢
  clear h hst hl
  go_enter Tryz.func18, Tryz.ntmps18
  go_wp2_with fail
  refine hsq.mono ?_
  rintro e ww ⟨rfl, rfl⟩
  go_wp2_with fail
  go_quiet ((go_at_call 53; refine hla _ _))
  obtain ⟨W0, hW0⟩ : ∃ W0, W0 = w.drewN nq := ⟨_, rfl⟩
  have b0 : Below w.heap.size w W0 := by rw [hW0]; exact below_drewN (Below.refl _ _) nq
  rw [← hW0]
  have H0 : Hid (Below w.heap.size w W0 ∧ RSide W0 g s) := ⟨b0, HS.out.below b0⟩
  have hsd := ref_send (statusMsg stNot) (status_ok _) zname (w := W0) (D := .slice none 0 0) (.inl ⟨rfl, rfl⟩)
  unfold msgV' at hsd
  simp only [statusMsg, Msg.zero] at hsd
  unfold stNot at hsd
  clear hW0 b0 k0 f0 k1 f1 k2 f2 k3 f3 k5 f5
  go_wp2_with fail
  refine hsd.mono ?_
  rintro e w1 ⟨V1, vs1, rfl, hg1, hb1⟩
  have b1 : Below w.heap.size w w1 := H0.out.1.trans (hb1.mono H0.out.1.size)
  have H1 : Hid (Below w.heap.size w w1 ∧ RSide w1 g s ∧ Gather w1 w.heap.size V1 vs1 [writeOf (statusMsg stNot)]) := ⟨b1, HS.out.below b1, hg1.mono H0.out.1.size⟩
  obtain ⟨a1, c1, hV1, _⟩ := hg1.own.sl.form
  subst hV1
  obtain ⟨k0, f0⟩ := H1.out.2.1 0 (by omega)
  obtain ⟨k1, f1⟩ := H1.out.2.1 1 (by omega)
  obtain ⟨k2, f2⟩ := H1.out.2.1 2 (by omega)
  obtain ⟨k3, f3⟩ := H1.out.2.1 3 (by omega)
  obtain ⟨k4, f4⟩ := H1.out.2.1 4 (by omega)
  simp only [rsCell] at k0 k1 k2 k3 k4
  clear hg1 hb1 b1 hsd
  go_wp2
  go_ret2
  rw [HT.out]
  obtain ⟨d1, d2⟩ := rside_dead (w := w1) H1.out.2.1
  have T1 := d2 (Turned.refl _ w1)
  exact ⟨_, _, vs1, rfl, rfl, H1.out.2.2.turnedS T1 (fun k hk => by have hk : k = g := hk; omega), d1, (Turned.ofBelow (S := fun k => k = g) H1.out.1).trans T1 (fun _ h => .inl h)⟩
set_option maxRecDepth 100000 in
set_option maxHeartbeats 6400000 in
theorem rs_answer_crea {w : World} {g : Nat} {s : Sd} (h : RSide w g s) (h5 : s.state = 5) (st : ByteArray) (hst : isSt st = true) (hl : lacksB s.peer.flags = false) (hcr : s.peer.creation = 0) : Calls Tryz.prog 18 #[.pointer (some ⟨g, 0, none⟩), .string st] w (RSideTold w g (s.answer st)) := by
  have HT : Hid (s.answer st = ([], s.dead, [writeOf (statusMsg stNot)])) := by
    have h : s.answer st = ([], s.dead, [writeOf (statusMsg stNot)]) := by
      have hf : s.statusFor st = stNot := by unfold Sd.statusFor; rw [if_pos (.inr (.inl hcr))]
      unfold Sd.answer
      rw [if_neg (by omega), if_neg (by simp [h5]), if_neg (by simp [hst]), hf, if_neg (by decide)]
    exact h
  obtain ⟨k0, f0⟩ := h 0 (by omega)
  obtain ⟨k1, f1⟩ := h 1 (by omega)
  obtain ⟨k2, f2⟩ := h 2 (by omega)
  obtain ⟨k3, f3⟩ := h 3 (by omega)
  obtain ⟨k5, f5⟩ := h 5 (by omega)
  simp only [rsCell] at k0 k1 k2 k3 k5
  rw [h5] at k0
  have HS := Hid.mk7 h
  have hgl := h.lt
  have hla := lacks_q s.peer.flags
  rw [hl] at hla
  have hsq := ref_status st w
  rw [hst] at hsq
  generalize s.answer st = A at HT ⊢
  rw [hcr] at k3
  clear h hst hl hcr
  go_enter Tryz.func18, Tryz.ntmps18
  go_wp2_with fail
  refine hsq.mono ?_
  rintro e ww ⟨rfl, rfl⟩
  go_wp2_with fail
  go_quiet ((go_at_call 53; refine hla _ _))
  obtain ⟨W0, hW0⟩ : ∃ W0, W0 = w.drewN nq := ⟨_, rfl⟩
  have b0 : Below w.heap.size w W0 := by rw [hW0]; exact below_drewN (Below.refl _ _) nq
  rw [← hW0]
  have H0 : Hid (Below w.heap.size w W0 ∧ RSide W0 g s) := ⟨b0, HS.out.below b0⟩
  have hsd := ref_send (statusMsg stNot) (status_ok _) zname (w := W0) (D := .slice none 0 0) (.inl ⟨rfl, rfl⟩)
  unfold msgV' at hsd
  simp only [statusMsg, Msg.zero] at hsd
  unfold stNot at hsd
  clear hW0 b0 k0 f0 k1 f1 k2 f2 k3 f3 k5 f5
  go_wp2_with fail
  refine hsd.mono ?_
  rintro e w1 ⟨V1, vs1, rfl, hg1, hb1⟩
  have b1 : Below w.heap.size w w1 := H0.out.1.trans (hb1.mono H0.out.1.size)
  have H1 : Hid (Below w.heap.size w w1 ∧ RSide w1 g s ∧ Gather w1 w.heap.size V1 vs1 [writeOf (statusMsg stNot)]) := ⟨b1, HS.out.below b1, hg1.mono H0.out.1.size⟩
  obtain ⟨a1, c1, hV1, _⟩ := hg1.own.sl.form
  subst hV1
  obtain ⟨k0, f0⟩ := H1.out.2.1 0 (by omega)
  obtain ⟨k1, f1⟩ := H1.out.2.1 1 (by omega)
  obtain ⟨k2, f2⟩ := H1.out.2.1 2 (by omega)
  obtain ⟨k3, f3⟩ := H1.out.2.1 3 (by omega)
  obtain ⟨k4, f4⟩ := H1.out.2.1 4 (by omega)
  simp only [rsCell] at k0 k1 k2 k3 k4
  clear hg1 hb1 b1 hsd
  go_wp2
  go_ret2
  rw [HT.out]
  obtain ⟨d1, d2⟩ := rside_dead (w := w1) H1.out.2.1
  have T1 := d2 (Turned.refl _ w1)
  exact ⟨_, _, vs1, rfl, rfl, H1.out.2.2.turnedS T1 (fun k hk => by have hk : k = g := hk; omega), d1, (Turned.ofBelow (S := fun k => k = g) H1.out.1).trans T1 (fun _ h => .inl h)⟩
set_option maxRecDepth 100000 in
set_option maxHeartbeats 6400000 in
theorem rs_answer_name {w : World} {g : Nat} {s : Sd} (h : RSide w g s) (h5 : s.state = 5) (st : ByteArray) (hst : isSt st = true) (hl : lacksB s.peer.flags = false) (hcr : s.peer.creation ≠ 0) (hnm : s.peer.name = s.me.name) : Calls Tryz.prog 18 #[.pointer (some ⟨g, 0, none⟩), .string st] w (RSideTold w g (s.answer st)) := by
  have HT : Hid (s.answer st = ([], s.dead, [writeOf (statusMsg stNot)])) := by
    have h : s.answer st = ([], s.dead, [writeOf (statusMsg stNot)]) := by
      have hf : s.statusFor st = stNot := by unfold Sd.statusFor; rw [if_pos (.inr (.inr hnm))]
      unfold Sd.answer
      rw [if_neg (by omega), if_neg (by simp [h5]), if_neg (by simp [hst]), hf, if_neg (by decide)]
    exact h
  obtain ⟨k0, f0⟩ := h 0 (by omega)
  obtain ⟨k1, f1⟩ := h 1 (by omega)
  obtain ⟨k2, f2⟩ := h 2 (by omega)
  obtain ⟨k3, f3⟩ := h 3 (by omega)
  obtain ⟨k5, f5⟩ := h 5 (by omega)
  simp only [rsCell] at k0 k1 k2 k3 k5
  rw [h5] at k0
  have HS := Hid.mk7 h
  have hgl := h.lt
  have hla := lacks_q s.peer.flags
  rw [hl] at hla
  have hsq := ref_status st w
  rw [hst] at hsq
  generalize s.answer st = A at HT ⊢
  have qc : (s.peer.creation == 0) = false := by simp [hcr]
  rw [hnm] at k1
  clear h hst hl hcr hnm
  go_enter Tryz.func18, Tryz.ntmps18
  go_wp2_with fail
  refine hsq.mono ?_
  rintro e ww ⟨rfl, rfl⟩
  go_wp2_with fail
  go_quiet ((go_at_call 53; refine hla _ _))
  obtain ⟨W0, hW0⟩ : ∃ W0, W0 = w.drewN nq := ⟨_, rfl⟩
  have b0 : Below w.heap.size w W0 := by rw [hW0]; exact below_drewN (Below.refl _ _) nq
  rw [← hW0]
  have H0 : Hid (Below w.heap.size w W0 ∧ RSide W0 g s) := ⟨b0, HS.out.below b0⟩
  have hsd := ref_send (statusMsg stNot) (status_ok _) zname (w := W0) (D := .slice none 0 0) (.inl ⟨rfl, rfl⟩)
  unfold msgV' at hsd
  simp only [statusMsg, Msg.zero] at hsd
  unfold stNot at hsd
  clear hW0 b0 k0 f0 k1 f1 k2 f2 k3 f3 k5 f5
  go_wp2_with fail
  refine hsd.mono ?_
  rintro e w1 ⟨V1, vs1, rfl, hg1, hb1⟩
  have b1 : Below w.heap.size w w1 := H0.out.1.trans (hb1.mono H0.out.1.size)
  have H1 : Hid (Below w.heap.size w w1 ∧ RSide w1 g s ∧ Gather w1 w.heap.size V1 vs1 [writeOf (statusMsg stNot)]) := ⟨b1, HS.out.below b1, hg1.mono H0.out.1.size⟩
  obtain ⟨a1, c1, hV1, _⟩ := hg1.own.sl.form
  subst hV1
  obtain ⟨k0, f0⟩ := H1.out.2.1 0 (by omega)
  obtain ⟨k1, f1⟩ := H1.out.2.1 1 (by omega)
  obtain ⟨k2, f2⟩ := H1.out.2.1 2 (by omega)
  obtain ⟨k3, f3⟩ := H1.out.2.1 3 (by omega)
  obtain ⟨k4, f4⟩ := H1.out.2.1 4 (by omega)
  simp only [rsCell] at k0 k1 k2 k3 k4
  clear hg1 hb1 b1 hsd
  go_wp2
  go_ret2
  rw [HT.out]
  obtain ⟨d1, d2⟩ := rside_dead (w := w1) H1.out.2.1
  have T1 := d2 (Turned.refl _ w1)
  exact ⟨_, _, vs1, rfl, rfl, H1.out.2.2.turnedS T1 (fun k hk => by have hk : k = g := hk; omega), d1, (Turned.ofBelow (S := fun k => k = g) H1.out.1).trans T1 (fun _ h => .inl h)⟩
/-- The document's Answer. -/
theorem rs_answer {w : World} {g : Nat} {s : Sd} (h : RSide w g s) (hs : s.Ok) (hns : s.me.name.size ≤ 4611686018427387904) (st : ByteArray) : Calls Tryz.prog 18 #[.pointer (some ⟨g, 0, none⟩), .string st] w (RSideTold w g (s.answer st)) := by
  by_cases h5 : s.state = 5
  case neg => exact rs_answer_no h st (.inl h5)
  cases hst : isSt st with
  | false => exact rs_answer_no h st (.inr hst)
  | true =>
    cases hl : lacksB s.peer.flags with
    | true => exact rs_answer_lack h h5 st hst hl
    | false =>
      by_cases hcr : s.peer.creation = 0
      · exact rs_answer_crea h h5 st hst hl hcr
      by_cases hnm : s.peer.name = s.me.name
      · exact rs_answer_name h h5 st hst hl hcr hnm
      by_cases h1 : st = stOk
      · subst h1
        exact rs_answer_go h hs hns h5 hl hcr hnm
      by_cases h2 : st = stSim
      · subst h2
        exact rs_answer_sim h hs hns h5 hl hcr hnm
      exact rs_answer_keep h h5 st hst hl hcr hnm h1 h2
end Go.Proofs.YtmnibmgbicnamaaGreatDoor
namespace Go.Proofs.YtmnibmgbicnamaaGreatDoor
open Go.RowKit

theorem Gather.at {w : World} {B : Nat} {a : Option Addr} {c : Nat} {vs : List Value} {ls : List (List Int)} (h : Gather w B (.slice a vs.length c) vs ls) (j : Nat) (hj : j < vs.length) (hj' : j < ls.length) : ∃ g off aj cj, a = some ⟨g, off, none⟩ ∧ w.cell? ⟨g, off + j, none⟩ = some (.slice aj ls[j].length cj) ∧ Sl w (.slice aj ls[j].length cj) ls[j] := by
  have hs := h.each j hj hj'
  obtain ⟨aj, cj, hf, _, _⟩ := hs.form
  rcases h.own.sl with ⟨_, h0⟩ | ⟨g, off, cap, h1, _, _, h4⟩
  · rw [h0] at hj; exact absurd hj (Nat.not_lt_zero j)
  · injection h1 with h1 _ _
    refine ⟨g, off, aj, cj, h1, ?_, by rw [← hf]; exact hs⟩
    rw [← hf]
    exact h4 j hj
set_option maxRecDepth 100000 in
set_option maxHeartbeats 3200000 in
theorem ref_sames {w : World} {B C : Nat} {V U : Value} {vs us : List Value} {ls : List (List Int)} (hV : Gather w B V vs ls) (hU : Gather w C U us ls) (hl : ls.length ≤ 10) : Calls Tryz.prog 19 #[V, U] w fun e w' => e = .returned (.bool true) ∧ Below w.heap.size w w' := by
  obtain ⟨aV, cV, hVf, _, _⟩ := hV.own.sl.form
  obtain ⟨aU, cU, hUf, _, _⟩ := hU.own.sl.form
  subst hVf hUf
  have HV : Hid (Gather w B (.slice aV vs.length cV) vs ls) := hV
  have HU : Hid (Gather w C (.slice aU us.length cU) us ls) := hU
  have hlv : vs.length = ls.length := hV.len
  have hlu : us.length = ls.length := hU.len
  have HLV := Hid.mk7 hlv
  have HLU := Hid.mk7 hlu
  rw [hlv, hlu]
  clear hV hU hlv hlu
  go_enter Tryz.func19, Tryz.ntmps19
  go_wp2_with fail
  go_loopw [5] (fun ii wr => ∃ j : Nat, ii = .int .i64 j ∧ j ≤ ls.length ∧ Below w.heap.size w wr) (fun ii _ => ls.length - (intOf ii).toNat)
  case atStart => exact ⟨0, rfl, Nat.zero_le _, Below.refl _ _⟩
  case round =>
    obtain ⟨j, rfl, hj, hb⟩ := hrel
    by_cases hlt : j < ls.length
    · have hlti : (j : Int) < (ls.length : Int) := by omega
      have hj0 : (0 : Int) ≤ (j : Int) := by omega
      obtain ⟨g, off, aj, cj, ha, hc, hs⟩ := HV.out.at j (by rw [HLV.out]; exact hlt) hlt
      obtain ⟨g2, off2, aj2, cj2, ha2, hc2, hs2⟩ := HU.out.at j (by rw [HLU.out]; exact hlt) hlt
      subst ha ha2
      have hc' := (hb.cell (p := ⟨g, off + j, none⟩) (World.block_lt_of_cell? w _ hc)).trans hc
      have hc2' := (hb.cell (p := ⟨g2, off2 + j, none⟩) (World.block_lt_of_cell? w _ hc2)).trans hc2
      have hdw : ∀ n, Turned (fun _ => False) wr (wr.drewN n) := fun n => ⟨rfl, rfl, rfl, Nat.le_refl _, fun _ _ _ => rfl⟩
      have cv1 := fun n => ((hs.turned (Turned.ofBelow (S := fun _ => False) hb) (fun _ _ h => h)).turned (hdw n) (fun _ _ h => h)).str
      have cv2 := fun n => ((hs2.turned (Turned.ofBelow (S := fun _ => False) hb) (fun _ _ h => h)).turned (hdw n) (fun _ _ h => h)).str
      have HB := Hid.mk7 hb
      generalize strOfNums ls[j] = z at cv1 cv2
      generalize ls[j].length = Lj at hc' hc2' cv1 cv2
      clear hb hc hc2 hs hs2 hdw
      go_wp2
      go_quiet (fail)
      go_wp2
      go_roundw
      case rel => exact ⟨j + 1, by go_num, by omega, below_drewN HB.out nq⟩
      case measure => simp [intOf]; omega
    · have hge : ¬ (j : Int) < (ls.length : Int) := by omega
      have HB := Hid.mk7 hb
      clear hb
      go_wp2
      go_ret
      exact ⟨rfl, HB.out⟩
end Go.Proofs.YtmnibmgbicnamaaGreatDoor
