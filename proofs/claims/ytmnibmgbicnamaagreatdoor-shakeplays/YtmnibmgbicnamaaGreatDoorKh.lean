/-
  Layer 8 (shake): the document's side: which message is waited for, digests, what is sent, and what a message does.
  Layer 8 (shake): the document's side: challenges, replies and acks.
-/
import Derived.Test.YtmnibmgbicnamaaGreatDoorKe
import Derived.Test.YtmnibmgbicnamaaGreatDoorKf
import Derived.Test.YtmnibmgbicnamaaGreatDoorKa
namespace Go.Proofs.YtmnibmgbicnamaaGreatDoor
open Go.RowKit

set_option maxRecDepth 100000 in
theorem rs_kind {w : World} {g : Nat} {s : Sd} (h : RSide w g s) : Calls Tryz.prog 57 #[.pointer (some ⟨g, 0, none⟩)] w fun e w' => e = .returned (.int .i64 s.kind) ∧ w = w' := by
  obtain ⟨k0, _⟩ := h 0 (by omega)
  simp only [rsCell] at k0
  unfold Sd.kind
  generalize s.state = st at k0
  have hc : st = 1 ∨ st = 2 ∨ st = 3 ∨ st = 4 ∨ (st ≠ 1 ∧ st ≠ 2 ∧ st ≠ 3 ∧ st ≠ 4) := by omega
  rcases hc with rfl | rfl | rfl | rfl | ⟨h1, h2, h3, h4⟩
  case inr.inr.inr.inr =>
    rw [if_neg h1, if_neg h2, if_neg h3, if_neg h4]
    have q1 : (st == 1) = false := by simp [h1]
    have q2 : (st == 2) = false := by simp [h2]
    have q3 : (st == 3) = false := by simp [h3]
    have q4 : (st == 4) = false := by simp [h4]
    go_enter Tryz.func57, Tryz.ntmps57
    go_wp2
    go_ret
    exact ⟨rfl, rfl⟩
  all_goals
    go_enter Tryz.func57, Tryz.ntmps57
    go_wp2
    go_ret
    exact ⟨rfl, rfl⟩
set_option maxRecDepth 100000 in
theorem rs_digest {w : World} {g : Nat} {s : Sd} (h : RSide w g s) (hc : cookieErr s.cookie = none) (ch : Nat) (hch : ch < 4294967296) : Calls Tryz.prog 85 #[.pointer (some ⟨g, 0, none⟩), .int .u32 ch] w fun e w' => ∃ V, e = .returned V ∧ Own w' V (digestOf s.cookie ch) ∧ Below w.heap.size w w' ∧ ∀ k, blk V k → w.heap.size ≤ k := by
  have hdg := ref_digest s.cookie (by have := cookie_size hc; omega) ch hch w
  have e0 : digestTold s.cookie ch = digestOf s.cookie ch := by unfold digestTold; rw [hc]; rfl
  rw [e0] at hdg
  obtain ⟨k9, _⟩ := h 9 (by omega)
  simp only [rsCell] at k9
  clear h hc e0 hch
  go_enter Tryz.func85, Tryz.ntmps85
  go_wp2_with fail
  refine hdg.mono ?_
  rintro e w1 ⟨V, v, rfl, _, ho, hb, hk⟩
  have H : Hid (Own w1 V (digestOf s.cookie ch) ∧ Below w.heap.size w w1 ∧ ∀ k, blk V k → w.heap.size ≤ k) := ⟨ho, hb, hk⟩
  clear ho hb hk hdg
  go_wp2
  go_ret
  exact ⟨V, rfl, H.out⟩
set_option maxRecDepth 100000 in
set_option maxHeartbeats 1600000 in
theorem ref_send (m : Msg) (hm : m.Ok) (hns : m.name.size ≤ 4611686018427387904) {w : World} {D : Value} (hD : Sl w D m.digest) : Calls Tryz.prog 54 #[msgV' m D] w fun e w' => ∃ V vs, e = .returned V ∧ Gather w' w.heap.size V vs [writeOf m] ∧ Below w.heap.size w w' := by
  obtain ⟨aD, cD, rfl, _, _⟩ := hD.form
  obtain ⟨wa, hwa⟩ : ∃ wa, wa = w.alloc (.cells #[.int .i64 m.kind, .int .u64 m.flags, .int .u32 m.creation, .int .u32 m.challenge, .string m.name, .string m.status, .slice aD m.digest.length cD] 27) := ⟨_, rfl⟩
  have ba : Below w.heap.size w wa := by rw [hwa]; exact (Below.refl _ _).alloc (Nat.le_refl _) _
  have hwr := ref_Write m hm hns (hD.turned (Turned.ofBelow (S := fun _ => False) ba) (fun _ _ h => h))
  have HB := Hid.mk7 ba
  have HWA := Hid.mk7 hwa
  unfold msgV' RWriteTold at hwr
  unfold msgV'
  generalize writeOf m = zs at hwr ⊢
  clear hD hm hns ba hwa
  go_enter Tryz.func54, Tryz.ntmps54
  go_wp2_with fail
  rw [← HWA.out]
  refine hwr.mono ?_
  rintro e w1 ⟨V, v, rfl, ho, _, hb, hk⟩
  have H : Hid (Own w1 V zs ∧ Below w.heap.size w w1 ∧ ∀ k, blk V k → w.heap.size ≤ k) := ⟨ho, HB.out.trans (hb.mono HB.out.size), fun k h => Nat.le_trans HB.out.size (hk k h)⟩
  obtain ⟨a1, c1, L1, hV⟩ : ∃ a c L, V = .slice a L c := ⟨_, _, _, ho.sl.form.choose_spec.choose_spec.1⟩
  subst hV
  clear ho hb hk hwr
  go_wp2
  go_ret
  exact ⟨_, _, rfl, Gather.one H.out.1 H.out.2.2 H.out.2.1.size _, H.out.2.1.alloc H.out.2.1.size _⟩
/-- What a message does, by the document. -/
def RStepTold (w : World) (g : Nat) (x : Int × Sd × List Msg) (s : Sd) (e : Ending) (w' : World) : Prop :=
  (x.1 = 0 ∧ ∃ V vs, e = .returned (.tuple #[V, .slice none 0 0]) ∧ Gather w' w.heap.size V vs (x.2.2.map writeOf) ∧ RSide w' g x.2.1 ∧ Turned (fun k => k = g) w w') ∨
  (x.1 ≠ 0 ∧ ∃ v, e = .returned (.tuple #[.slice none 0 0, v]) ∧ LinksC w.heap.size w' v (sh 0 x.1) ∧ RSide w' g s ∧ Below w.heap.size w w')
theorem rstep_no {w wa w2 : World} {g : Nat} {x : Int × Sd × List Msg} {s : Sd} {v : Value} (hx : x.1 ≠ 0) (hs : RSide w g s) (ba : Below w.heap.size w wa) (hl : LinksC wa.heap.size w2 v (sh 0 x.1)) (hb : Below wa.heap.size wa w2) : RStepTold w g x s (.returned (.tuple #[.slice none 0 0, v])) w2 := by
  have B2 := ba.trans (hb.mono ba.size)
  exact .inr ⟨hx, v, rfl, hl.mono ba.size, hs.below B2, B2⟩
set_option maxRecDepth 100000 in
set_option maxHeartbeats 3200000 in
theorem rs_took_2no {w : World} {g : Nat} {s : Sd} (h : RSide w g s) (m : Msg) (hk : m.kind = 2) (h1 : m.status ≠ stOk) (h2 : m.status ≠ stSim) {D : Value} (hD : ∃ a L c, D = .slice a L c) : Calls Tryz.prog 58 #[.pointer (some ⟨g, 0, none⟩), msgV' m D] w (RStepTold w g (s.took m) s) := by
  have HT : Hid (s.took m = (164, s, [])) := by
    have h : s.took m = (164, s, []) := by unfold Sd.took; rw [if_pos hk, if_neg (fun h => h.elim h1 h2)]
    exact h
  have q1 : (m.status.toList == [111, 107]) = false := by
    rw [beq_eq_false_iff_ne]
    exact fun e => h1 ((eq_stOk' m.status).2 e)
  have q2 : (m.status.toList == [111, 107, 95, 115, 105, 109, 117, 108, 116, 97, 110, 101, 111, 117, 115]) = false := by
    rw [beq_eq_false_iff_ne]
    exact fun e => h2 ((eq_stSim' m.status).2 e)
  clear h1 h2
  obtain ⟨aD, LD, cD, rfl⟩ := hD
  obtain ⟨wa, hwa⟩ : ∃ wa, wa = w.alloc (.cells #[.int .i64 m.kind, .int .u64 m.flags, .int .u32 m.creation, .int .u32 m.challenge, .string m.name, .string m.status, .slice aD LD cD] 27) := ⟨_, rfl⟩
  have ba : Below w.heap.size w wa := by rw [hwa]; exact (Below.refl _ _).alloc (Nat.le_refl _) _
  have hsa := h.below ba
  have HS := Hid.mk7 h
  have HA : Hid (Below w.heap.size w wa ∧ RSide wa g s) := ⟨ba, hsa⟩
  have hgl := h.lt
  have hne1 : ¬ g = w.heap.size := by omega
  have hne2 : ¬ w.heap.size = g := by omega
  have hno := fun W => sh_no 0 164 W
  unfold msgV'
  rw [hk]
  rw [hk] at hwa
  have HWA := Hid.mk7 hwa
  clear hwa ba hsa h
  go_enter Tryz.func58, Tryz.ntmps58
  go_wp2_with fail
  refine (hno _).mono ?_
  rw [← HWA.out]
  rintro e w2 ⟨v, rfl, hl2, hb2⟩
  have H2 : Hid (LinksC wa.heap.size w2 v (sh 0 164) ∧ Below wa.heap.size wa w2) := ⟨hl2, hb2⟩
  obtain ⟨lb, cap, _, rfl, _⟩ := hl2
  clear hb2 hno
  go_wp2
  go_ret2
  refine rstep_no (by rw [HT.out]; simp) HS.out HA.out.1 ?_ H2.out.2
  rw [HT.out]
  exact H2.out.1
set_option maxRecDepth 100000 in
set_option maxHeartbeats 3200000 in
theorem rs_took_2ok {w : World} {g : Nat} {s : Sd} (h : RSide w g s) (m : Msg) (hk : m.kind = 2) (h1 : m.status = stOk) {D : Value} (hD : ∃ a L c, D = .slice a L c) : Calls Tryz.prog 58 #[.pointer (some ⟨g, 0, none⟩), msgV' m D] w (RStepTold w g (s.took m) s) := by
  have HT : Hid (s.took m = (0, { s with state := 2, simult := false }, [])) := by
    have h : s.took m = (0, { s with state := 2, simult := false }, []) := by unfold Sd.took; rw [if_pos hk, if_pos (.inl h1), h1]; rfl
    exact h
  obtain ⟨aD, LD, cD, rfl⟩ := hD
  have HS := Hid.mk7 h
  have hgl := h.lt
  have hne1 : ¬ g = w.heap.size := by omega
  have hne2 : ¬ w.heap.size = g := by omega
  obtain ⟨k0, f0⟩ := h 0 (by omega)
  obtain ⟨k4, f4⟩ := h 4 (by omega)
  simp only [rsCell] at k0 k4
  unfold msgV'
  rw [hk, h1]
  unfold stOk
  clear h
  go_enter Tryz.func58, Tryz.ntmps58
  go_wp2
  go_ret2
  refine .inl ⟨by rw [HT.out], _, [], rfl, by rw [HT.out]; exact Gather.nil _ _, ?_, ?_⟩
  · rw [HT.out]
    exact Block.turned (Block.congr (Block.set (Block.set HS.out 0 (.int .i64 2)) 4 (.bool false)) (forall11 rfl rfl rfl rfl rfl rfl rfl rfl rfl rfl rfl)) (Turned.alloc (fun _ => False) _ _) (fun h => h)
  · exact ((Turned.set1 w g 0 _).trans (Turned.set1 _ g 4 _) (fun _ h => .inl h)).trans (Turned.alloc (fun k => k = g) _ _) (fun _ h => .inl h)
set_option maxRecDepth 100000 in
set_option maxHeartbeats 3200000 in
theorem rs_took_2sim {w : World} {g : Nat} {s : Sd} (h : RSide w g s) (m : Msg) (hk : m.kind = 2) (h1 : m.status = stSim) {D : Value} (hD : ∃ a L c, D = .slice a L c) : Calls Tryz.prog 58 #[.pointer (some ⟨g, 0, none⟩), msgV' m D] w (RStepTold w g (s.took m) s) := by
  have HT : Hid (s.took m = (0, { s with state := 2, simult := true }, [])) := by
    have h : s.took m = (0, { s with state := 2, simult := true }, []) := by unfold Sd.took; rw [if_pos hk, if_pos (.inr h1), h1]; rfl
    exact h
  obtain ⟨aD, LD, cD, rfl⟩ := hD
  have HS := Hid.mk7 h
  have hgl := h.lt
  have hne1 : ¬ g = w.heap.size := by omega
  have hne2 : ¬ w.heap.size = g := by omega
  obtain ⟨k0, f0⟩ := h 0 (by omega)
  obtain ⟨k4, f4⟩ := h 4 (by omega)
  simp only [rsCell] at k0 k4
  unfold msgV'
  rw [hk, h1]
  unfold stSim
  clear h
  go_enter Tryz.func58, Tryz.ntmps58
  go_wp2
  go_ret2
  refine .inl ⟨by rw [HT.out], _, [], rfl, by rw [HT.out]; exact Gather.nil _ _, ?_, ?_⟩
  · rw [HT.out]
    exact Block.turned (Block.congr (Block.set (Block.set HS.out 0 (.int .i64 2)) 4 (.bool true)) (forall11 rfl rfl rfl rfl rfl rfl rfl rfl rfl rfl rfl)) (Turned.alloc (fun _ => False) _ _) (fun h => h)
  · exact ((Turned.set1 w g 0 _).trans (Turned.set1 _ g 4 _) (fun _ h => .inl h)).trans (Turned.alloc (fun k => k = g) _ _) (fun _ h => .inl h)
set_option maxRecDepth 100000 in
set_option maxHeartbeats 3200000 in
theorem rs_took_1 {w : World} {g : Nat} {s : Sd} (h : RSide w g s) (m : Msg) (hk : m.kind = 1) {D : Value} (hD : ∃ a L c, D = .slice a L c) : Calls Tryz.prog 58 #[.pointer (some ⟨g, 0, none⟩), msgV' m D] w (RStepTold w g (s.took m) s) := by
  have HT : Hid (s.took m = (0, { s with state := 5, peer := ⟨m.name, m.flags, m.creation⟩ }, [])) := by
    have h : s.took m = (0, { s with state := 5, peer := ⟨m.name, m.flags, m.creation⟩ }, []) := by unfold Sd.took; rw [if_neg (by omega), if_neg (by omega), if_pos hk]
    exact h
  obtain ⟨aD, LD, cD, rfl⟩ := hD
  have HS := Hid.mk7 h
  have hgl := h.lt
  have hne1 : ¬ g = w.heap.size := by omega
  have hne2 : ¬ w.heap.size = g := by omega
  obtain ⟨k0, f0⟩ := h 0 (by omega)
  obtain ⟨k1, f1⟩ := h 1 (by omega)
  obtain ⟨k2, f2⟩ := h 2 (by omega)
  obtain ⟨k3, f3⟩ := h 3 (by omega)
  simp only [rsCell] at k0 k1 k2 k3
  unfold msgV'
  rw [hk]
  clear h
  go_enter Tryz.func58, Tryz.ntmps58
  go_wp2
  go_ret2
  refine .inl ⟨by rw [HT.out], _, [], rfl, by rw [HT.out]; exact Gather.nil _ _, ?_, ?_⟩
  · rw [HT.out]
    exact Block.turned (Block.congr (Block.set (Block.set (Block.set (Block.set HS.out 0 (.int .i64 5)) 1 (.string m.name)) 2 (.int .u64 m.flags)) 3 (.int .u32 m.creation)) (forall11 rfl rfl rfl rfl rfl rfl rfl rfl rfl rfl rfl)) (Turned.alloc (fun _ => False) _ _) (fun h => h)
  · exact ((((Turned.set1 w g 0 _).trans (Turned.set1 _ g 1 _) (fun _ h => .inl h)).trans (Turned.set1 _ g 2 _) (fun _ h => .inl h)).trans (Turned.set1 _ g 3 _) (fun _ h => .inl h)).trans (Turned.alloc (fun k => k = g) _ _) (fun _ h => .inl h)
end Go.Proofs.YtmnibmgbicnamaaGreatDoor
namespace Go.Proofs.YtmnibmgbicnamaaGreatDoor
open Go.RowKit

theorem lacks_q (f : Int) (W : World) (n : Nat) : Calls Tryz.prog 53 #[.int .u64 f] (W.drewN n) fun e w' => e = .returned (.bool (lacksB f)) ∧ ∃ m, w' = W.drewN m :=
  (ref_lacks f _).mono (by rintro e w' ⟨rfl, rfl⟩; exact ⟨rfl, n, rfl⟩)
set_option maxRecDepth 100000 in
set_option maxHeartbeats 3200000 in
theorem rs_took_3no {w : World} {g : Nat} {s : Sd} (h : RSide w g s) (m : Msg) (hk : m.kind = 3) (h1 : ¬ (m.name = s.want ∧ lacksB m.flags = false)) {D : Value} (hD : Sl w D m.digest) : Calls Tryz.prog 58 #[.pointer (some ⟨g, 0, none⟩), msgV' m D] w (RStepTold w g (s.took m) s) := by
  have HT : Hid (s.took m = (162, s, [])) := by
    have h : s.took m = (162, s, []) := by unfold Sd.took; rw [if_neg (by omega), if_pos hk, if_neg h1]
    exact h
  have hno := fun W => sh_no 0 162 W
  have hcs : (m.name = s.want ∧ lacksB m.flags = true) ∨ (m.name.toList == s.want.toList) = false := by
    by_cases hn : m.name = s.want
    · exact .inl ⟨hn, by simpa [hn] using h1⟩
    · exact .inr (toList_ne' hn)
  clear h1
  rcases hcs with ⟨hn, hl⟩ | hne
  · have hla := lacks_q m.flags
    rw [hl] at hla
    clear hl
    obtain ⟨aD, cD, hDf, _, _⟩ := hD.form
    subst hDf
    have HS := Hid.mk7 h
    have HD := Hid.mk7 hD
    have hgl := h.lt
    have hne1 : ¬ g = w.heap.size := by omega
    have hne2 : ¬ w.heap.size = g := by omega
    obtain ⟨k8, f8⟩ := h 8 (by omega)
    simp only [rsCell] at k8
    rw [← hn] at k8
    clear hn
    unfold msgV'
    rw [hk]
    clear h hD
    go_enter Tryz.func58, Tryz.ntmps58
    go_wp2_with fail
    go_quiet ((go_at_call 53; refine hla _ _))
    obtain ⟨W0, hW0⟩ : ∃ W0, W0 = (w.alloc (.cells #[.int .i64 3, .int .u64 m.flags, .int .u32 m.creation, .int .u32 m.challenge, .string m.name, .string m.status, .slice aD m.digest.length cD] 27)).drewN nq := ⟨_, rfl⟩
    have b0 : Below w.heap.size w W0 := by rw [hW0]; exact below_drewN ((Below.refl _ _).alloc (Nat.le_refl _) _) nq
    have c0 : MsgAt W0 w.heap.size ⟨3, m.flags, m.creation, m.challenge, m.name, m.status, m.digest⟩ (.slice aD m.digest.length cD) := by rw [hW0]; exact ⟨by simp, by simp, by simp, by simp, by simp, by simp, by simp⟩
    rw [← hW0]
    have H0 : Hid (Below w.heap.size w W0 ∧ RSide W0 g s ∧ MsgAt W0 w.heap.size ⟨3, m.flags, m.creation, m.challenge, m.name, m.status, m.digest⟩ (.slice aD m.digest.length cD)) := ⟨b0, HS.out.below b0, c0⟩
    clear hW0 b0 c0 k8 f8
    go_wp2_with fail
    refine (hno _).mono ?_
    rintro e w2 ⟨v, rfl, hl2, hb2⟩
    have H2 : Hid (LinksC W0.heap.size w2 v (sh 0 162) ∧ Below W0.heap.size W0 w2) := ⟨hl2, hb2⟩
    obtain ⟨lb, cap, _, rfl, _⟩ := hl2
    clear hb2 hno
    go_wp2
    go_ret2
    refine rstep_no (by rw [HT.out]; simp) HS.out H0.out.1 ?_ H2.out.2
    rw [HT.out]
    exact H2.out.1
  · obtain ⟨aD, cD, hDf, _, _⟩ := hD.form
    subst hDf
    have HS := Hid.mk7 h
    have HD := Hid.mk7 hD
    have hgl := h.lt
    have hne1 : ¬ g = w.heap.size := by omega
    have hne2 : ¬ w.heap.size = g := by omega
    obtain ⟨k8, f8⟩ := h 8 (by omega)
    simp only [rsCell] at k8
    unfold msgV'
    rw [hk]
    clear h hD
    go_enter Tryz.func58, Tryz.ntmps58
    go_wp2_with fail
    go_quiet (fail)
    obtain ⟨W0, hW0⟩ : ∃ W0, W0 = (w.alloc (.cells #[.int .i64 3, .int .u64 m.flags, .int .u32 m.creation, .int .u32 m.challenge, .string m.name, .string m.status, .slice aD m.digest.length cD] 27)).drewN nq := ⟨_, rfl⟩
    have b0 : Below w.heap.size w W0 := by rw [hW0]; exact below_drewN ((Below.refl _ _).alloc (Nat.le_refl _) _) nq
    have c0 : MsgAt W0 w.heap.size ⟨3, m.flags, m.creation, m.challenge, m.name, m.status, m.digest⟩ (.slice aD m.digest.length cD) := by rw [hW0]; exact ⟨by simp, by simp, by simp, by simp, by simp, by simp, by simp⟩
    rw [← hW0]
    have H0 : Hid (Below w.heap.size w W0 ∧ RSide W0 g s ∧ MsgAt W0 w.heap.size ⟨3, m.flags, m.creation, m.challenge, m.name, m.status, m.digest⟩ (.slice aD m.digest.length cD)) := ⟨b0, HS.out.below b0, c0⟩
    clear hW0 b0 c0 k8 f8
    go_wp2_with fail
    refine (hno _).mono ?_
    rintro e w2 ⟨v, rfl, hl2, hb2⟩
    have H2 : Hid (LinksC W0.heap.size w2 v (sh 0 162) ∧ Below W0.heap.size W0 w2) := ⟨hl2, hb2⟩
    obtain ⟨lb, cap, _, rfl, _⟩ := hl2
    clear hb2 hno
    go_wp2
    go_ret2
    refine rstep_no (by rw [HT.out]; simp) HS.out H0.out.1 ?_ H2.out.2
    rw [HT.out]
    exact H2.out.1
set_option maxRecDepth 100000 in
set_option maxHeartbeats 3200000 in
theorem rs_took_3ok {w : World} {g : Nat} {s : Sd} (h : RSide w g s) (m : Msg) (hk : m.kind = 3) (hm : m.Ok) (hc : cookieErr s.cookie = none) (hch : s.challenge < 4294967296) (h1 : m.name = s.want) (h2 : lacksB m.flags = false) {D : Value} (hD : Sl w D m.digest) : Calls Tryz.prog 58 #[.pointer (some ⟨g, 0, none⟩), msgV' m D] w (RStepTold w g (s.took m) s) := by
  have HT : Hid (s.took m = (0, { s with state := 3, peer := ⟨m.name, m.flags, m.creation⟩ }, [{ Msg.zero with kind := 4, challenge := s.challenge, digest := digestOf s.cookie m.challenge.toNat }])) := by
    have h : s.took m = (0, { s with state := 3, peer := ⟨m.name, m.flags, m.creation⟩ }, [{ Msg.zero with kind := 4, challenge := s.challenge, digest := digestOf s.cookie m.challenge.toNat }]) := by unfold Sd.took; rw [if_neg (by omega), if_pos hk, if_pos ⟨h1, h2⟩]
    exact h
  have hla := lacks_q m.flags
  rw [h2] at hla
  obtain ⟨mc, hmc, hmc2⟩ : ∃ mc : Nat, m.challenge = (mc : Int) ∧ mc < 4294967296 := ⟨m.challenge.toNat, by have := hm.challenge.1; omega, by have := hm.challenge.2; omega⟩
  have HMC := Hid.mk7 hmc
  have HC := Hid.mk7 hc
  have HCH := Hid.mk7 hch
  clear h2 hm hc hch hmc
  obtain ⟨aD, cD, hDf, _, _⟩ := hD.form
  subst hDf
  have HS := Hid.mk7 h
  have HD := Hid.mk7 hD
  have hgl := h.lt
  have hne1 : ¬ g = w.heap.size := by omega
  have hne2 : ¬ w.heap.size = g := by omega
  obtain ⟨k8, f8⟩ := h 8 (by omega)
  simp only [rsCell] at k8
  rw [← h1] at k8
  clear h1
  unfold msgV'
  rw [hk]
  clear h hD
  go_enter Tryz.func58, Tryz.ntmps58
  go_wp2_with fail
  go_quiet ((go_at_call 53; refine hla _ _))
  obtain ⟨W0, hW0⟩ : ∃ W0, W0 = (w.alloc (.cells #[.int .i64 3, .int .u64 m.flags, .int .u32 m.creation, .int .u32 m.challenge, .string m.name, .string m.status, .slice aD m.digest.length cD] 27)).drewN nq := ⟨_, rfl⟩
  have b0 : Below w.heap.size w W0 := by rw [hW0]; exact below_drewN ((Below.refl _ _).alloc (Nat.le_refl _) _) nq
  have c0 : MsgAt W0 w.heap.size ⟨3, m.flags, m.creation, m.challenge, m.name, m.status, m.digest⟩ (.slice aD m.digest.length cD) := by rw [hW0]; exact ⟨by simp, by simp, by simp, by simp, by simp, by simp, by simp⟩
  rw [← hW0]
  have H0 : Hid (Below w.heap.size w W0 ∧ RSide W0 g s ∧ MsgAt W0 w.heap.size ⟨3, m.flags, m.creation, m.challenge, m.name, m.status, m.digest⟩ (.slice aD m.digest.length cD)) := ⟨b0, HS.out.below b0, c0⟩
  clear hW0 b0 c0 k8 f8
  obtain ⟨m0, m1, m2, m3, m4, m5, m6⟩ := H0.out.2.2
  simp only at m0 m1 m2 m3 m4 m5 m6
  obtain ⟨k0, f0⟩ := H0.out.2.1 0 (by omega)
  obtain ⟨k1, f1⟩ := H0.out.2.1 1 (by omega)
  obtain ⟨k2, f2⟩ := H0.out.2.1 2 (by omega)
  obtain ⟨k3, f3⟩ := H0.out.2.1 3 (by omega)
  obtain ⟨k10, f10⟩ := H0.out.2.1 10 (by omega)
  simp only [rsCell] at k0 k1 k2 k3 k10
  obtain ⟨W1, hW1⟩ : ∃ W1, W1 = (((W0.setCell ⟨g, 0, none⟩ (.int .i64 3)).setCell ⟨g, 1, none⟩ (.string m.name)).setCell ⟨g, 2, none⟩ (.int .u64 m.flags)).setCell ⟨g, 3, none⟩ (.int .u32 m.creation) := ⟨_, rfl⟩
  have T1 : Turned (fun k => k = g) W0 W1 := by rw [hW1]; exact (((Turned.set1 W0 g 0 _).trans (Turned.set1 _ g 1 _) (fun _ h => .inl h)).trans (Turned.set1 _ g 2 _) (fun _ h => .inl h)).trans (Turned.set1 _ g 3 _) (fun _ h => .inl h)
  have R1 : RSide W1 g { s with state := 3, peer := ⟨m.name, m.flags, m.creation⟩ } := by rw [hW1]; exact Block.congr (Block.set (Block.set (Block.set (Block.set H0.out.2.1 0 (.int .i64 3)) 1 (.string m.name)) 2 (.int .u64 m.flags)) 3 (.int .u32 m.creation)) (forall11 rfl rfl rfl rfl rfl rfl rfl rfl rfl rfl rfl)
  have M1 : W1.cell? ⟨w.heap.size, 3, none⟩ = some (.int .u32 m.challenge) := T1.cell (p := ⟨w.heap.size, 3, none⟩) m3 (fun h => by have h : w.heap.size = g := h; omega)
  have HW1 := Hid.mk7 hW1
  obtain ⟨C, hC⟩ : ∃ C : Int, C = (s.challenge : Int) := ⟨_, rfl⟩
  have r10 : W1.drew.cell? ⟨g, 10, none⟩ = some (.int .u32 C) := by rw [hC]; exact (R1 10 (by omega)).1
  have r3 : W1.drew.cell? ⟨w.heap.size, 3, none⟩ = some (.int .u32 mc) := by rw [← HMC.out]; exact M1
  have hzW : w.heap.size < W1.heap.size := World.block_lt_of_cell? W1 _ M1
  have H1 : Hid (Turned (fun k => k = g) w W1 ∧ RSide W1.drew g { s with state := 3, peer := ⟨m.name, m.flags, m.creation⟩ }) := ⟨(Turned.ofBelow (S := fun k => k = g) H0.out.1).trans T1 (fun _ h => .inl h), Block.turned R1 (Turned.drew (fun _ => False) W1) (fun h => h)⟩
  have hgl1 : g < W1.heap.size := R1.lt
  have HSD : Hid (∀ W D, Sl W D (digestOf s.cookie mc) → Calls Tryz.prog 54 #[.agg #[.int .i64 4, .int .u64 0, .int .u32 0, .int .u32 C, .string ⟨#[]⟩, .string ⟨#[]⟩, D]] W fun e w' => ∃ V vs, e = .returned V ∧ Gather w' W.heap.size V vs [writeOf { Msg.zero with kind := 4, challenge := C, digest := digestOf s.cookie mc }] ∧ Below W.heap.size W w') := fun W D h => ref_send { Msg.zero with kind := 4, challenge := C, digest := digestOf s.cookie mc } ⟨z64, z32, ⟨by rw [hC]; simp, by rw [hC]; have := HCH.out; simp only []; omega⟩, digest_rng _ _⟩ zname h
  have HCC := Hid.mk7 hC
  clear hC T1 R1 M1 hW1
  go_wp2_with fail
  rw [← HW1.out]
  clear k0 k1 k2 k3 k10 f0 f1 f2 f3 f10 m0 m1 m2 m3 m4 m5 m6
  go_region_held3 (fun w' => w'.cell? ⟨g, 10, none⟩ = some (.int .u32 C) ∧ w'.cell? ⟨w.heap.size, 3, none⟩ = some (.int .u32 mc))
    (go_keep)
    (first
      | (go_at_call 54; refine (HSD.out _ _ H2.out.1.sl).mono ?_; rintro e w3 ⟨V3, vs3, rfl, hg3, hb3⟩; have e1 : w3.cell? ⟨g, 10, none⟩ = some (.int .u32 C) := (hb3.cell (p := ⟨g, 10, none⟩) (World.block_lt_of_cell? _ _ d1)).trans d1; have e2 : w3.cell? ⟨w.heap.size, 3, none⟩ = some (.int .u32 mc) := (hb3.cell (p := ⟨w.heap.size, 3, none⟩) (World.block_lt_of_cell? _ _ d2)).trans d2; have H3 := Hid.mk7 (And.intro hg3 hb3); obtain ⟨a3, c3, L3, hV3⟩ : ∃ a c L, V3 = .slice a L c := ⟨_, _, _, hg3.own.sl.form.choose_spec.choose_spec.1⟩; subst hV3; clear hg3 hb3)
      | (go_at_call 85; refine (rs_digest H1.out.2 HC.out mc hmc2).mono ?_; rintro e w2 ⟨V2, rfl, ho2, hb2, hk2⟩; have d1 : w2.cell? ⟨g, 10, none⟩ = some (.int .u32 C) := (hb2.cell (p := ⟨g, 10, none⟩) hgl1).trans r10; have d2 : w2.cell? ⟨w.heap.size, 3, none⟩ = some (.int .u32 mc) := (hb2.cell (p := ⟨w.heap.size, 3, none⟩) hzW).trans r3; have H2 := Hid.mk7 (And.intro ho2 hb2); obtain ⟨a2, c2, L2, hV2⟩ : ∃ a c L, V2 = .slice a L c := ⟨_, _, _, ho2.sl.form.choose_spec.choose_spec.1⟩; subst hV2; clear ho2 hb2 hk2))
  all_goals
    go_wp2
    go_ret2
    have hb2 : Below W1.heap.size W1 w2 := ((Below.refl W1.heap.size W1).drew).trans H2.out.2
    have hb3 : Below W1.heap.size W1 w3 := hb2.trans (H3.out.2.mono hb2.size)
    have hT : Turned (fun k => k = g) w w3 := H1.out.1.trans (Turned.ofBelow (S := fun _ => False) hb3) (fun _ h => h.elim)
    refine .inl ⟨by rw [HT.out], _, vs3, rfl, ?_, ?_, hT⟩
    · rw [HT.out, HMC.out]
      have hg := H3.out.1.mono (Nat.le_trans H1.out.1.size hb2.size)
      rw [HCC.out] at hg
      exact hg
    · rw [HT.out]
      exact RSide.below (w := W1) H1.out.2 hb3
end Go.Proofs.YtmnibmgbicnamaaGreatDoor
