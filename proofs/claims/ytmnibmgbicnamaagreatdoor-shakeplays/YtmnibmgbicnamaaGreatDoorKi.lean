/-
  Layer 8 (shake): the document's side: replies and acks.
  Layer 8 (shake): the document's side: replies and acks.
  Layer 8 (shake): the document's Take.
-/
import Derived.Test.YtmnibmgbicnamaaGreatDoorKh
namespace Go.Proofs.YtmnibmgbicnamaaGreatDoor
open Go.RowKit

set_option maxRecDepth 100000 in
set_option maxHeartbeats 3200000 in
theorem rs_took_4no {w : World} {g : Nat} {s : Sd} (h : RSide w g s) (m : Msg) (hk : m.kind = 4) (hm : m.Ok) (hc : cookieErr s.cookie = none) (hch : s.challenge < 4294967296) (hd : m.digest ≠ digestOf s.cookie s.challenge) {D : Value} (hD : Sl w D m.digest) : Calls Tryz.prog 58 #[.pointer (some ⟨g, 0, none⟩), msgV' m D] w (RStepTold w g (s.took m) s) := by
  have HT : Hid (s.took m = (163, s, [])) := by
    have h : s.took m = (163, s, []) := by unfold Sd.took; rw [if_neg (by omega), if_neg (by omega), if_neg (by omega), if_neg hd]
    exact h
  have HC := Hid.mk7 hc
  have HCH := Hid.mk7 hch
  have hno := fun W => sh_no 0 163 W
  have hne : ((strOfNums m.digest).toList == (strOfNums (digestOf s.cookie s.challenge)).toList) = false := toList_ne' (fun h => hd (strOfNums_inj hm.digest (digest_rng _ _) h))
  obtain ⟨zE, hzE⟩ : ∃ zE, strOfNums (digestOf s.cookie s.challenge) = zE := ⟨_, rfl⟩
  rw [hzE] at hne
  have HZE := Hid.mk7 hzE
  clear hd hm hc hch hzE
  obtain ⟨aD, cD, hDf, _, _⟩ := hD.form
  subst hDf
  obtain ⟨W0, hW0⟩ : ∃ W0, W0 = w.alloc (.cells #[.int .i64 4, .int .u64 m.flags, .int .u32 m.creation, .int .u32 m.challenge, .string m.name, .string m.status, .slice aD m.digest.length cD] 27) := ⟨_, rfl⟩
  have b0 : Below w.heap.size w W0 := by rw [hW0]; exact (Below.refl _ _).alloc (Nat.le_refl _) _
  have c0 : MsgAt W0 w.heap.size ⟨4, m.flags, m.creation, m.challenge, m.name, m.status, m.digest⟩ (.slice aD m.digest.length cD) := by rw [hW0]; exact ⟨by simp, by simp, by simp, by simp, by simp, by simp, by simp⟩
  have HS := Hid.mk7 h
  have hgl := h.lt
  have hne1 : ¬ g = w.heap.size := by omega
  have hne2 : ¬ w.heap.size = g := by omega
  have hd0 : Sl W0 (.slice aD m.digest.length cD) m.digest := hD.turned (Turned.ofBelow (S := fun _ => False) b0) (fun _ _ h => h)
  have H0 : Hid (Below w.heap.size w W0 ∧ RSide W0 g s ∧ MsgAt W0 w.heap.size ⟨4, m.flags, m.creation, m.challenge, m.name, m.status, m.digest⟩ (.slice aD m.digest.length cD) ∧ Sl W0 (.slice aD m.digest.length cD) m.digest) := ⟨b0, h.below b0, c0, hd0⟩
  have HW0 := Hid.mk7 hW0
  have hz0 : w.heap.size < W0.heap.size := c0.lt
  have hg0 : g < W0.heap.size := by omega
  have m6 : W0.drew.cell? ⟨w.heap.size, 6, none⟩ = some (.slice aD m.digest.length cD) := c0.c6
  have k10 : W0.drew.cell? ⟨g, 10, none⟩ = some (.int .u32 s.challenge) := (H0.out.2.1 10 (by omega)).1
  have cvA : (convert 25 9 (.slice aD m.digest.length cD)).run Tryz.prog W0.drew = .ok (.string (strOfNums m.digest)) W0.drew := (hd0.turned (Turned.drew (fun _ => False) W0) (fun _ _ h => h)).str
  have R0 : Hid (RSide W0.drew g s) := Block.turned H0.out.2.1 (Turned.drew (fun _ => False) W0) (fun h => h)
  have HDT : Hid (∀ w2, Below W0.heap.size W0.drew w2 → (convert 25 9 (.slice aD m.digest.length cD)).run Tryz.prog w2 = .ok (.string (strOfNums m.digest)) w2) := fun w2 hb => ((hd0.turned (Turned.drew (fun _ => False) W0) (fun _ _ h => h)).turned (Turned.ofBelow (S := fun _ => False) hb) (fun _ _ h => h)).str
  generalize strOfNums m.digest = zD at cvA HDT hne
  unfold msgV'
  rw [hk]
  clear h hD hW0 b0 c0 hd0
  go_enter Tryz.func58, Tryz.ntmps58
  go_wp2_with fail
  rw [← HW0.out]
  go_region_with (go_at_call 85; refine (rs_digest R0.out HC.out s.challenge HCH.out).mono ?_; rintro e w2 ⟨V2, rfl, ho2, hb2, hk2⟩; have d1 : w2.cell? ⟨w.heap.size, 6, none⟩ = some (.slice aD m.digest.length cD) := (hb2.cell (p := ⟨w.heap.size, 6, none⟩) hz0).trans m6; have d2 : w2.cell? ⟨g, 10, none⟩ = some (.int .u32 s.challenge) := (hb2.cell (p := ⟨g, 10, none⟩) hg0).trans k10; have d3 := HDT.out w2 hb2; have cv2 := ho2.sl.str; rw [HZE.out] at cv2; have H2 := Hid.mk7 (And.intro ho2 hb2); obtain ⟨a2, c2, L2, hV2⟩ : ∃ a c L, V2 = .slice a L c := ⟨_, _, _, ho2.sl.form.choose_spec.choose_spec.1⟩; subst hV2; clear ho2 hb2 hk2)
  all_goals
    go_wp2_with fail
    refine (hno _).mono ?_
    rintro e w3 ⟨v, rfl, hl3, hb3⟩
    have hb2 : Below W0.heap.size W0 w2 := ((Below.refl W0.heap.size W0).drew).trans H2.out.2
    have H3 : Hid (LinksC W0.heap.size w3 v (sh 0 163) ∧ Below W0.heap.size W0 w3) := ⟨hl3.mono hb2.size, hb2.trans (hb3.mono hb2.size)⟩
    obtain ⟨lb, cap, _, rfl, _⟩ := hl3
    clear hb3 hno hb2
    go_wp2
    go_ret2
    refine rstep_no (by rw [HT.out]; simp) HS.out H0.out.1 ?_ H3.out.2
    rw [HT.out]
    exact H3.out.1
set_option maxRecDepth 100000 in
set_option maxHeartbeats 3200000 in
theorem rs_took_5no {w : World} {g : Nat} {s : Sd} (h : RSide w g s) (m : Msg) (hk : m.kind = 5) (hm : m.Ok) (hc : cookieErr s.cookie = none) (hch : s.challenge < 4294967296) (hd : m.digest ≠ digestOf s.cookie s.challenge) {D : Value} (hD : Sl w D m.digest) : Calls Tryz.prog 58 #[.pointer (some ⟨g, 0, none⟩), msgV' m D] w (RStepTold w g (s.took m) s) := by
  have HT : Hid (s.took m = (163, s, [])) := by
    have h : s.took m = (163, s, []) := by unfold Sd.took; rw [if_neg (by omega), if_neg (by omega), if_neg (by omega), if_neg hd]
    exact h
  have HC := Hid.mk7 hc
  have HCH := Hid.mk7 hch
  have hno := fun W => sh_no 0 163 W
  have hne : ((strOfNums m.digest).toList == (strOfNums (digestOf s.cookie s.challenge)).toList) = false := toList_ne' (fun h => hd (strOfNums_inj hm.digest (digest_rng _ _) h))
  obtain ⟨zE, hzE⟩ : ∃ zE, strOfNums (digestOf s.cookie s.challenge) = zE := ⟨_, rfl⟩
  rw [hzE] at hne
  have HZE := Hid.mk7 hzE
  clear hd hm hc hch hzE
  obtain ⟨aD, cD, hDf, _, _⟩ := hD.form
  subst hDf
  obtain ⟨W0, hW0⟩ : ∃ W0, W0 = w.alloc (.cells #[.int .i64 5, .int .u64 m.flags, .int .u32 m.creation, .int .u32 m.challenge, .string m.name, .string m.status, .slice aD m.digest.length cD] 27) := ⟨_, rfl⟩
  have b0 : Below w.heap.size w W0 := by rw [hW0]; exact (Below.refl _ _).alloc (Nat.le_refl _) _
  have c0 : MsgAt W0 w.heap.size ⟨5, m.flags, m.creation, m.challenge, m.name, m.status, m.digest⟩ (.slice aD m.digest.length cD) := by rw [hW0]; exact ⟨by simp, by simp, by simp, by simp, by simp, by simp, by simp⟩
  have HS := Hid.mk7 h
  have hgl := h.lt
  have hne1 : ¬ g = w.heap.size := by omega
  have hne2 : ¬ w.heap.size = g := by omega
  have hd0 : Sl W0 (.slice aD m.digest.length cD) m.digest := hD.turned (Turned.ofBelow (S := fun _ => False) b0) (fun _ _ h => h)
  have H0 : Hid (Below w.heap.size w W0 ∧ RSide W0 g s ∧ MsgAt W0 w.heap.size ⟨5, m.flags, m.creation, m.challenge, m.name, m.status, m.digest⟩ (.slice aD m.digest.length cD) ∧ Sl W0 (.slice aD m.digest.length cD) m.digest) := ⟨b0, h.below b0, c0, hd0⟩
  have HW0 := Hid.mk7 hW0
  have hz0 : w.heap.size < W0.heap.size := c0.lt
  have hg0 : g < W0.heap.size := by omega
  have m6 : W0.drew.cell? ⟨w.heap.size, 6, none⟩ = some (.slice aD m.digest.length cD) := c0.c6
  have k10 : W0.drew.cell? ⟨g, 10, none⟩ = some (.int .u32 s.challenge) := (H0.out.2.1 10 (by omega)).1
  have cvA : (convert 25 9 (.slice aD m.digest.length cD)).run Tryz.prog W0.drew = .ok (.string (strOfNums m.digest)) W0.drew := (hd0.turned (Turned.drew (fun _ => False) W0) (fun _ _ h => h)).str
  have R0 : Hid (RSide W0.drew g s) := Block.turned H0.out.2.1 (Turned.drew (fun _ => False) W0) (fun h => h)
  have HDT : Hid (∀ w2, Below W0.heap.size W0.drew w2 → (convert 25 9 (.slice aD m.digest.length cD)).run Tryz.prog w2 = .ok (.string (strOfNums m.digest)) w2) := fun w2 hb => ((hd0.turned (Turned.drew (fun _ => False) W0) (fun _ _ h => h)).turned (Turned.ofBelow (S := fun _ => False) hb) (fun _ _ h => h)).str
  generalize strOfNums m.digest = zD at cvA HDT hne
  unfold msgV'
  rw [hk]
  clear h hD hW0 b0 c0 hd0
  go_enter Tryz.func58, Tryz.ntmps58
  go_wp2_with fail
  rw [← HW0.out]
  go_region_with (go_at_call 85; refine (rs_digest R0.out HC.out s.challenge HCH.out).mono ?_; rintro e w2 ⟨V2, rfl, ho2, hb2, hk2⟩; have d1 : w2.cell? ⟨w.heap.size, 6, none⟩ = some (.slice aD m.digest.length cD) := (hb2.cell (p := ⟨w.heap.size, 6, none⟩) hz0).trans m6; have d2 : w2.cell? ⟨g, 10, none⟩ = some (.int .u32 s.challenge) := (hb2.cell (p := ⟨g, 10, none⟩) hg0).trans k10; have d3 := HDT.out w2 hb2; have cv2 := ho2.sl.str; rw [HZE.out] at cv2; have H2 := Hid.mk7 (And.intro ho2 hb2); obtain ⟨a2, c2, L2, hV2⟩ : ∃ a c L, V2 = .slice a L c := ⟨_, _, _, ho2.sl.form.choose_spec.choose_spec.1⟩; subst hV2; clear ho2 hb2 hk2)
  all_goals
    go_wp2_with fail
    refine (hno _).mono ?_
    rintro e w3 ⟨v, rfl, hl3, hb3⟩
    have hb2 : Below W0.heap.size W0 w2 := ((Below.refl W0.heap.size W0).drew).trans H2.out.2
    have H3 : Hid (LinksC W0.heap.size w3 v (sh 0 163) ∧ Below W0.heap.size W0 w3) := ⟨hl3.mono hb2.size, hb2.trans (hb3.mono hb2.size)⟩
    obtain ⟨lb, cap, _, rfl, _⟩ := hl3
    clear hb3 hno hb2
    go_wp2
    go_ret2
    refine rstep_no (by rw [HT.out]; simp) HS.out H0.out.1 ?_ H3.out.2
    rw [HT.out]
    exact H3.out.1
end Go.Proofs.YtmnibmgbicnamaaGreatDoor
namespace Go.Proofs.YtmnibmgbicnamaaGreatDoor
open Go.RowKit

set_option maxRecDepth 100000 in
set_option maxHeartbeats 3200000 in
theorem rs_took_5ok {w : World} {g : Nat} {s : Sd} (h : RSide w g s) (m : Msg) (hk : m.kind = 5) (hc : cookieErr s.cookie = none) (hch : s.challenge < 4294967296) (hd : m.digest = digestOf s.cookie s.challenge) {D : Value} (hD : Sl w D m.digest) : Calls Tryz.prog 58 #[.pointer (some ⟨g, 0, none⟩), msgV' m D] w (RStepTold w g (s.took m) s) := by
  have HT : Hid (s.took m = (0, { s with state := 7 }, [])) := by
    have h : s.took m = (0, { s with state := 7 }, []) := by unfold Sd.took; rw [if_neg (by omega), if_neg (by omega), if_neg (by omega), if_pos hd, if_pos hk]
    exact h
  have HC := Hid.mk7 hc
  have HCH := Hid.mk7 hch
  have HZE : Hid (strOfNums (digestOf s.cookie s.challenge) = strOfNums m.digest) := congrArg strOfNums hd.symm
  clear hd hc hch
  obtain ⟨aD, cD, hDf, _, _⟩ := hD.form
  subst hDf
  obtain ⟨W0, hW0⟩ : ∃ W0, W0 = w.alloc (.cells #[.int .i64 5, .int .u64 m.flags, .int .u32 m.creation, .int .u32 m.challenge, .string m.name, .string m.status, .slice aD m.digest.length cD] 27) := ⟨_, rfl⟩
  have b0 : Below w.heap.size w W0 := by rw [hW0]; exact (Below.refl _ _).alloc (Nat.le_refl _) _
  have c0 : MsgAt W0 w.heap.size ⟨5, m.flags, m.creation, m.challenge, m.name, m.status, m.digest⟩ (.slice aD m.digest.length cD) := by rw [hW0]; exact ⟨by simp, by simp, by simp, by simp, by simp, by simp, by simp⟩
  have HS := Hid.mk7 h
  have hgl := h.lt
  have hne1 : ¬ g = w.heap.size := by omega
  have hne2 : ¬ w.heap.size = g := by omega
  have hd0 : Sl W0 (.slice aD m.digest.length cD) m.digest := hD.turned (Turned.ofBelow (S := fun _ => False) b0) (fun _ _ h => h)
  have H0 : Hid (Below w.heap.size w W0 ∧ RSide W0 g s ∧ MsgAt W0 w.heap.size ⟨5, m.flags, m.creation, m.challenge, m.name, m.status, m.digest⟩ (.slice aD m.digest.length cD) ∧ Sl W0 (.slice aD m.digest.length cD) m.digest) := ⟨b0, h.below b0, c0, hd0⟩
  have HW0 := Hid.mk7 hW0
  have hz0 : w.heap.size < W0.heap.size := c0.lt
  have hg0 : g < W0.heap.size := by omega
  have m6 : W0.drew.cell? ⟨w.heap.size, 6, none⟩ = some (.slice aD m.digest.length cD) := c0.c6
  have k10 : W0.drew.cell? ⟨g, 10, none⟩ = some (.int .u32 s.challenge) := (H0.out.2.1 10 (by omega)).1
  have cvA : (convert 25 9 (.slice aD m.digest.length cD)).run Tryz.prog W0.drew = .ok (.string (strOfNums m.digest)) W0.drew := (hd0.turned (Turned.drew (fun _ => False) W0) (fun _ _ h => h)).str
  have R0 : Hid (RSide W0.drew g s) := Block.turned H0.out.2.1 (Turned.drew (fun _ => False) W0) (fun h => h)
  have HDT : Hid (∀ w2, Below W0.heap.size W0.drew w2 → (convert 25 9 (.slice aD m.digest.length cD)).run Tryz.prog w2 = .ok (.string (strOfNums m.digest)) w2) := fun w2 hb => ((hd0.turned (Turned.drew (fun _ => False) W0) (fun _ _ h => h)).turned (Turned.ofBelow (S := fun _ => False) hb) (fun _ _ h => h)).str
  generalize strOfNums m.digest = zD at cvA HDT HZE
  unfold msgV'
  rw [hk]
  clear h hD hW0 b0 c0 hd0
  go_enter Tryz.func58, Tryz.ntmps58
  go_wp2_with fail
  rw [← HW0.out]
  go_region_with (go_at_call 85; refine (rs_digest R0.out HC.out s.challenge HCH.out).mono ?_; rintro e w2 ⟨V2, rfl, ho2, hb2, hk2⟩; have d1 : w2.cell? ⟨w.heap.size, 6, none⟩ = some (.slice aD m.digest.length cD) := (hb2.cell (p := ⟨w.heap.size, 6, none⟩) hz0).trans m6; have d2 : w2.cell? ⟨g, 10, none⟩ = some (.int .u32 s.challenge) := (hb2.cell (p := ⟨g, 10, none⟩) hg0).trans k10; have d3 := HDT.out w2 hb2; have cv2 := ho2.sl.str; rw [HZE.out] at cv2; have H2 := Hid.mk7 (And.intro ho2 hb2); obtain ⟨a2, c2, L2, hV2⟩ : ∃ a c L, V2 = .slice a L c := ⟨_, _, _, ho2.sl.form.choose_spec.choose_spec.1⟩; subst hV2; clear ho2 hb2 hk2)
  all_goals
    have hb2 : Below W0.heap.size W0 w2 := ((Below.refl W0.heap.size W0).drew).trans H2.out.2
    have R2 := H0.out.2.1.below hb2
    obtain ⟨k0, f0⟩ := R2 0 (by omega)
    simp only [rsCell] at k0
    obtain ⟨m0, _, _, _, _, _, _⟩ := H0.out.2.2.1.below hb2
    simp only at m0
    have H3 : Hid (Below W0.heap.size W0 w2 ∧ RSide w2 g s) := ⟨hb2, R2⟩
    clear hb2 R2
    go_wp2
    go_ret2
    have hT : Turned (fun k => k = g) w (w2.setCell ⟨g, 0, none⟩ (.int .i64 7)) := (Turned.ofBelow (S := fun k => k = g) (H0.out.1.trans (H3.out.1.mono H0.out.1.size))).trans (Turned.set1 w2 g 0 _) (fun _ h => .inl h)
    refine .inl ⟨by rw [HT.out], _, [], rfl, by rw [HT.out]; exact Gather.nil _ _, ?_, hT⟩
    rw [HT.out]
    exact Block.congr (Block.set H3.out.2 0 (.int .i64 7)) (forall11 rfl rfl rfl rfl rfl rfl rfl rfl rfl rfl rfl)
set_option maxRecDepth 100000 in
set_option maxHeartbeats 3200000 in
theorem rs_took_4ok {w : World} {g : Nat} {s : Sd} (h : RSide w g s) (m : Msg) (hk : m.kind = 4) (hm : m.Ok) (hc : cookieErr s.cookie = none) (hch : s.challenge < 4294967296) (hd : m.digest = digestOf s.cookie s.challenge) {D : Value} (hD : Sl w D m.digest) : Calls Tryz.prog 58 #[.pointer (some ⟨g, 0, none⟩), msgV' m D] w (RStepTold w g (s.took m) s) := by
  have HT : Hid (s.took m = (0, { s with state := 7 }, [{ Msg.zero with kind := 5, digest := digestOf s.cookie m.challenge.toNat }])) := by
    have h : s.took m = (0, { s with state := 7 }, [{ Msg.zero with kind := 5, digest := digestOf s.cookie m.challenge.toNat }]) := by unfold Sd.took; rw [if_neg (by omega), if_neg (by omega), if_neg (by omega), if_pos hd, if_neg (by omega)]
    exact h
  have HC := Hid.mk7 hc
  have HCH := Hid.mk7 hch
  obtain ⟨mc, hmc, hmc2⟩ : ∃ mc : Nat, m.challenge = (mc : Int) ∧ mc < 4294967296 := ⟨m.challenge.toNat, by have := hm.challenge.1; omega, by have := hm.challenge.2; omega⟩
  have HMC := Hid.mk7 hmc
  have HZE : Hid (strOfNums (digestOf s.cookie s.challenge) = strOfNums m.digest) := congrArg strOfNums hd.symm
  have HSD : Hid (∀ W D, Sl W D (digestOf s.cookie mc) → Calls Tryz.prog 54 #[.agg #[.int .i64 5, .int .u64 0, .int .u32 0, .int .u32 0, .string ⟨#[]⟩, .string ⟨#[]⟩, D]] W fun e w' => ∃ V vs, e = .returned V ∧ Gather w' W.heap.size V vs [writeOf { Msg.zero with kind := 5, digest := digestOf s.cookie mc }] ∧ Below W.heap.size W w') := fun W D h => ref_send { Msg.zero with kind := 5, digest := digestOf s.cookie mc } ⟨z64, z32, z32, digest_rng _ _⟩ zname h
  clear hd hc hch hm hmc
  obtain ⟨aD, cD, hDf, _, _⟩ := hD.form
  subst hDf
  obtain ⟨W0, hW0⟩ : ∃ W0, W0 = w.alloc (.cells #[.int .i64 4, .int .u64 m.flags, .int .u32 m.creation, .int .u32 m.challenge, .string m.name, .string m.status, .slice aD m.digest.length cD] 27) := ⟨_, rfl⟩
  have b0 : Below w.heap.size w W0 := by rw [hW0]; exact (Below.refl _ _).alloc (Nat.le_refl _) _
  have c0 : MsgAt W0 w.heap.size ⟨4, m.flags, m.creation, m.challenge, m.name, m.status, m.digest⟩ (.slice aD m.digest.length cD) := by rw [hW0]; exact ⟨by simp, by simp, by simp, by simp, by simp, by simp, by simp⟩
  have HS := Hid.mk7 h
  have hgl := h.lt
  have hne1 : ¬ g = w.heap.size := by omega
  have hne2 : ¬ w.heap.size = g := by omega
  have hd0 : Sl W0 (.slice aD m.digest.length cD) m.digest := hD.turned (Turned.ofBelow (S := fun _ => False) b0) (fun _ _ h => h)
  have H0 : Hid (Below w.heap.size w W0 ∧ RSide W0 g s ∧ MsgAt W0 w.heap.size ⟨4, m.flags, m.creation, m.challenge, m.name, m.status, m.digest⟩ (.slice aD m.digest.length cD) ∧ Sl W0 (.slice aD m.digest.length cD) m.digest) := ⟨b0, h.below b0, c0, hd0⟩
  have HW0 := Hid.mk7 hW0
  have hz0 : w.heap.size < W0.heap.size := c0.lt
  have hg0 : g < W0.heap.size := by omega
  have m6 : W0.drew.cell? ⟨w.heap.size, 6, none⟩ = some (.slice aD m.digest.length cD) := c0.c6
  have k10 : W0.drew.cell? ⟨g, 10, none⟩ = some (.int .u32 s.challenge) := (H0.out.2.1 10 (by omega)).1
  have cvA : (convert 25 9 (.slice aD m.digest.length cD)).run Tryz.prog W0.drew = .ok (.string (strOfNums m.digest)) W0.drew := (hd0.turned (Turned.drew (fun _ => False) W0) (fun _ _ h => h)).str
  have R0 : Hid (RSide W0.drew g s) := Block.turned H0.out.2.1 (Turned.drew (fun _ => False) W0) (fun h => h)
  have HDT : Hid (∀ w2, Below W0.heap.size W0.drew w2 → (convert 25 9 (.slice aD m.digest.length cD)).run Tryz.prog w2 = .ok (.string (strOfNums m.digest)) w2) := fun w2 hb => ((hd0.turned (Turned.drew (fun _ => False) W0) (fun _ _ h => h)).turned (Turned.ofBelow (S := fun _ => False) hb) (fun _ _ h => h)).str
  generalize strOfNums m.digest = zD at cvA HDT HZE
  unfold msgV'
  rw [hk]
  clear h hD hW0 b0 c0 hd0
  go_enter Tryz.func58, Tryz.ntmps58
  go_wp2_with fail
  rw [← HW0.out]
  go_region_with (go_at_call 85; refine (rs_digest R0.out HC.out s.challenge HCH.out).mono ?_; rintro e w2 ⟨V2, rfl, ho2, hb2, hk2⟩; have d1 : w2.cell? ⟨w.heap.size, 6, none⟩ = some (.slice aD m.digest.length cD) := (hb2.cell (p := ⟨w.heap.size, 6, none⟩) hz0).trans m6; have d2 : w2.cell? ⟨g, 10, none⟩ = some (.int .u32 s.challenge) := (hb2.cell (p := ⟨g, 10, none⟩) hg0).trans k10; have d3 := HDT.out w2 hb2; have cv2 := ho2.sl.str; rw [HZE.out] at cv2; have H2 := Hid.mk7 (And.intro ho2 hb2); obtain ⟨a2, c2, L2, hV2⟩ : ∃ a c L, V2 = .slice a L c := ⟨_, _, _, ho2.sl.form.choose_spec.choose_spec.1⟩; subst hV2; clear ho2 hb2 hk2)
  all_goals
    have hb2 : Below W0.heap.size W0 w2 := ((Below.refl W0.heap.size W0).drew).trans H2.out.2
    have R2 := H0.out.2.1.below hb2
    obtain ⟨k0, f0⟩ := R2 0 (by omega)
    simp only [rsCell] at k0
    obtain ⟨m0, _, _, m3, _, _, _⟩ := H0.out.2.2.1.below hb2
    simp only at m0 m3
    have H3 : Hid (Below W0.heap.size W0 w2 ∧ RSide w2 g s) := ⟨hb2, R2⟩
    have R3 : RSide (w2.setCell ⟨g, 0, none⟩ (.int .i64 7)) g { s with state := 7 } := Block.congr (Block.set R2 0 (.int .i64 7)) (forall11 rfl rfl rfl rfl rfl rfl rfl rfl rfl rfl rfl)
    have hdg := rs_digest R3 HC.out mc hmc2
    have HR3 := Hid.mk7 R3
    rw [HMC.out] at m3
    clear hb2 R2 R3
    go_wp2_with fail
    refine hdg.mono ?_
    rintro e w4 ⟨V4, rfl, ho4, hb4, hk4⟩
    have H4 : Hid (Own w4 V4 (digestOf s.cookie mc) ∧ Below (w2.setCell ⟨g, 0, none⟩ (.int .i64 7)).heap.size (w2.setCell ⟨g, 0, none⟩ (.int .i64 7)) w4) := ⟨ho4, hb4⟩
    obtain ⟨a4, c4, L4, hV4⟩ : ∃ a c L, V4 = .slice a L c := ⟨_, _, _, ho4.sl.form.choose_spec.choose_spec.1⟩
    subst hV4
    have hsd := HSD.out w4 _ H4.out.1.sl
    clear ho4 hb4 hk4 hdg k0 f0 m0 m3
    go_wp2_with fail
    refine hsd.mono ?_
    rintro e w5 ⟨V5, vs5, rfl, hg5, hb5⟩
    have H5 : Hid (Gather w5 w4.heap.size V5 vs5 [writeOf { Msg.zero with kind := 5, digest := digestOf s.cookie mc }] ∧ Below w4.heap.size w4 w5) := ⟨hg5, hb5⟩
    obtain ⟨a5, c5, L5, hV5⟩ : ∃ a c L, V5 = .slice a L c := ⟨_, _, _, hg5.own.sl.form.choose_spec.choose_spec.1⟩
    subst hV5
    clear hg5 hb5 hsd
    go_wp2
    go_ret2
    have hT2 : Turned (fun k => k = g) w (w2.setCell ⟨g, 0, none⟩ (.int .i64 7)) := (Turned.ofBelow (S := fun k => k = g) (H0.out.1.trans (H3.out.1.mono H0.out.1.size))).trans (Turned.set1 w2 g 0 _) (fun _ h => .inl h)
    have hb45 : Below (w2.setCell ⟨g, 0, none⟩ (.int .i64 7)).heap.size (w2.setCell ⟨g, 0, none⟩ (.int .i64 7)) w5 := H4.out.2.trans (H5.out.2.mono H4.out.2.size)
    refine .inl ⟨by rw [HT.out], _, vs5, rfl, ?_, ?_, hT2.trans (Turned.ofBelow (S := fun _ => False) hb45) (fun _ h => h.elim)⟩
    · rw [HT.out, HMC.out]
      exact H5.out.1.mono (Nat.le_trans hT2.size H4.out.2.size)
    · rw [HT.out]
      exact RSide.below HR3.out hb45
end Go.Proofs.YtmnibmgbicnamaaGreatDoor
namespace Go.Proofs.YtmnibmgbicnamaaGreatDoor
open Go.RowKit

theorem rs_took {w : World} {g : Nat} {s : Sd} (h : RSide w g s) (m : Msg) (hm : m.Ok) (hk : 1 ≤ m.kind ∧ m.kind ≤ 5) (hc : cookieErr s.cookie = none) (hch : s.challenge < 4294967296) {D : Value} (hD : Sl w D m.digest) : Calls Tryz.prog 58 #[.pointer (some ⟨g, 0, none⟩), msgV' m D] w (RStepTold w g (s.took m) s) := by
  have hDf : ∃ a L c, D = .slice a L c := ⟨_, _, _, hD.form.choose_spec.choose_spec.1⟩
  have h5 : m.kind = 1 ∨ m.kind = 2 ∨ m.kind = 3 ∨ m.kind = 4 ∨ m.kind = 5 := by omega
  rcases h5 with hk | hk | hk | hk | hk
  · exact rs_took_1 h m hk hDf
  · by_cases h1 : m.status = stOk
    · exact rs_took_2ok h m hk h1 hDf
    · by_cases h2 : m.status = stSim
      · exact rs_took_2sim h m hk h2 hDf
      · exact rs_took_2no h m hk h1 h2 hDf
  · by_cases h1 : m.name = s.want ∧ lacksB m.flags = false
    · exact rs_took_3ok h m hk hm hc hch h1.1 h1.2 hD
    · exact rs_took_3no h m hk h1 hD
  · by_cases hd : m.digest = digestOf s.cookie s.challenge
    · exact rs_took_4ok h m hk hm hc hch hd hD
    · exact rs_took_4no h m hk hm hc hch hd hD
  · by_cases hd : m.digest = digestOf s.cookie s.challenge
    · exact rs_took_5ok h m hk hc hch hd hD
    · exact rs_took_5no h m hk hm hc hch hd hD
/-- What the document's Take and Answer tell. -/
def RSideTold (w : World) (g : Nat) (x : List Lnk × Sd × List (List Int)) (e : Ending) (w' : World) : Prop := ∃ V v vs, e = .returned (.tuple #[V, v]) ∧ LinksC w.heap.size w' v x.1 ∧ Gather w' w.heap.size V vs x.2.2 ∧ RSide w' g x.2.1 ∧ Turned (fun k => k = g) w w'
theorem rside_no {w w2 : World} {g : Nat} {s : Sd} {v : Value} {ls : List Lnk} (h : RSide w g s) (hl : LinksC w.heap.size w2 v ls) (hb : Below w.heap.size w w2) : RSideTold w g (ls, s, []) (.returned (.tuple #[.slice none 0 0, v])) w2 :=
  ⟨_, v, [], rfl, hl, Gather.nil _ _, h.below hb, Turned.ofBelow hb⟩
theorem rside_dead {w wX : World} {g : Nat} {s : Sd} (h : RSide wX g s) : RSide (((((wX.setCell ⟨g, 0, none⟩ (.int .i64 8)).setCell ⟨g, 1, none⟩ (.string ⟨#[]⟩)).setCell ⟨g, 2, none⟩ (.int .u64 0)).setCell ⟨g, 3, none⟩ (.int .u32 0)).setCell ⟨g, 4, none⟩ (.bool false)) g s.dead ∧ (Turned (fun k => k = g) w wX → Turned (fun k => k = g) w (((((wX.setCell ⟨g, 0, none⟩ (.int .i64 8)).setCell ⟨g, 1, none⟩ (.string ⟨#[]⟩)).setCell ⟨g, 2, none⟩ (.int .u64 0)).setCell ⟨g, 3, none⟩ (.int .u32 0)).setCell ⟨g, 4, none⟩ (.bool false))) :=
  ⟨Block.congr (Block.set (Block.set (Block.set (Block.set (Block.set h 0 (.int .i64 8)) 1 (.string ⟨#[]⟩)) 2 (.int .u64 0)) 3 (.int .u32 0)) 4 (.bool false)) (forall11 rfl rfl rfl rfl rfl rfl rfl rfl rfl rfl rfl),
   fun T => ((((T.trans (Turned.set1 wX g 0 _) (fun _ h => .inl h)).trans (Turned.set1 _ g 1 _) (fun _ h => .inl h)).trans (Turned.set1 _ g 2 _) (fun _ h => .inl h)).trans (Turned.set1 _ g 3 _) (fun _ h => .inl h)).trans (Turned.set1 _ g 4 _) (fun _ h => .inl h)⟩
set_option maxRecDepth 100000 in
set_option maxHeartbeats 3200000 in
theorem rs_take_done {w : World} {g : Nat} {s : Sd} (h : RSide w g s) (hst : s.state = 8 ∨ s.state = 7 ∨ s.state = 5) {B : Value} (hB : ∃ a L c, B = .slice a L c) (b : List Int) : Calls Tryz.prog 21 #[.pointer (some ⟨g, 0, none⟩), B] w (RSideTold w g (s.take b)) := by
  obtain ⟨aB, LB, cB, rfl⟩ := hB
  obtain ⟨k0, _⟩ := h 0 (by omega)
  simp only [rsCell] at k0
  have HS := Hid.mk7 h
  rcases hst with h8 | h75
  · have HT : Hid (s.take b = (sh 0 8, s, [])) := by
      have h : s.take b = (sh 0 8, s, []) := by unfold Sd.take; rw [if_pos h8]
      exact h
    have hno := sh_no 0 8 w
    rw [h8] at k0
    clear h h8
    go_enter Tryz.func21, Tryz.ntmps21
    go_wp2_with fail
    refine hno.mono ?_
    rintro e w2 ⟨v, rfl, hl2, hb2⟩
    have H2 : Hid (LinksC w.heap.size w2 v (sh 0 8) ∧ Below w.heap.size w w2) := ⟨hl2, hb2⟩
    obtain ⟨lb, cap, _, rfl, _⟩ := hl2
    clear hb2 hno
    go_wp2
    go_ret2
    rw [HT.out]
    exact rside_no HS.out H2.out.1 H2.out.2
  · have HT : Hid (s.take b = (sh 0 161, s, [])) := by
      have h : s.take b = (sh 0 161, s, []) := by unfold Sd.take; rw [if_neg (by omega), if_pos h75]
      exact h
    have hno := sh_no 0 161 w
    clear h
    rcases h75 with h | h
    all_goals
      rw [h] at k0
      clear h
      go_enter Tryz.func21, Tryz.ntmps21
      go_wp2_with fail
      refine hno.mono ?_
      rintro e w2 ⟨v, rfl, hl2, hb2⟩
      have H2 : Hid (LinksC w.heap.size w2 v (sh 0 161) ∧ Below w.heap.size w w2) := ⟨hl2, hb2⟩
      obtain ⟨lb, cap, _, rfl, _⟩ := hl2
      clear hb2 hno
      go_wp2
      go_ret2
      rw [HT.out]
      exact rside_no HS.out H2.out.1 H2.out.2
set_option maxRecDepth 100000 in
set_option maxHeartbeats 6400000 in
theorem rs_take_live {w : World} {g : Nat} {s : Sd} (h : RSide w g s) (hs : s.Ok) (h8 : s.state ≠ 8) (h7 : s.state ≠ 7) (h5 : s.state ≠ 5) {B : Value} {b : List Int} (hB : Sl w B b) (hr : ∀ z ∈ b, 0 ≤ z ∧ z < 256) (hl : b.length ≤ 140737488355328) : Calls Tryz.prog 21 #[.pointer (some ⟨g, 0, none⟩), B] w (RSideTold w g (s.take b)) := by
  obtain ⟨aB, cB, rfl, _, _⟩ := hB.form
  obtain ⟨k0, _⟩ := h 0 (by omega)
  simp only [rsCell] at k0
  have q8 : (s.state == 8) = false := by simp [h8]
  have q7 : (s.state == 7) = false := by simp [h7]
  have q5 : (s.state == 5) = false := by simp [h5]
  have hkd := rs_kind h
  have hrd := ref_Read s.kind hr hl hB
  unfold RReadTold at hrd
  have HS := Hid.mk7 h
  have HK : Hid ((readOf s.kind b).1 = [] → (readOf s.kind b).2.kind = s.kind) := fun e => (write_read s.kind b hr e).2.2.2.2
  have HM : Hid (readOf s.kind b).2.Ok := read_ok s.kind b hr
  have HTK : Hid (s.take b = if (readOf s.kind b).1 ≠ [] then ((readOf s.kind b).1, s.dead, []) else if (s.took (readOf s.kind b).2).1 = 0 then ([], (s.took (readOf s.kind b).2).2.1, (s.took (readOf s.kind b).2).2.2.map writeOf) else (sh 0 (s.took (readOf s.kind b).2).1, s.dead, [])) := by
    have h : s.take b = if (readOf s.kind b).1 ≠ [] then ((readOf s.kind b).1, s.dead, []) else if (s.took (readOf s.kind b).2).1 = 0 then ([], (s.took (readOf s.kind b).2).2.1, (s.took (readOf s.kind b).2).2.2.map writeOf) else (sh 0 (s.took (readOf s.kind b).2).1, s.dead, []) := by unfold Sd.take; rw [if_neg h8, if_neg (by omega)]
    exact h
  have HSK : Hid (1 ≤ s.kind ∧ s.kind ≤ 5) := by
    have h : 1 ≤ s.kind ∧ s.kind ≤ 5 := by
      unfold Sd.kind
      repeat' split
      all_goals omega
    exact h
  have HC : Hid (cookieErr s.cookie = none ∧ s.challenge < 4294967296) := ⟨hs.live h7 h8, hs.num⟩
  have hnq := Tryz.neqLinks
  have heq := Tryz.eqlLinks
  have hgl := h.lt
  generalize readOf s.kind b = R at hrd HK HM HTK
  generalize s.kind = K at hkd hrd HK HSK
  clear hs h hB hr hl h8 h7 h5
  go_enter Tryz.func21, Tryz.ntmps21
  go_wp2_with fail
  refine hkd.mono ?_
  rintro e ww ⟨rfl, rfl⟩
  clear hkd
  go_wp2_with fail
  refine hrd.mono ?_
  rintro e w1 ⟨D1, v1, rfl, hl1, hD1, hb1⟩
  obtain ⟨a1, c1, hD1f, _, _⟩ := hD1.form
  subst hD1f
  obtain ⟨wa, hwa⟩ : ∃ wa, wa = w1.alloc (.cells #[.int .i64 R.2.kind, .int .u64 R.2.flags, .int .u32 R.2.creation, .int .u32 R.2.challenge, .string R.2.name, .string R.2.status, .slice a1 R.2.digest.length c1] 27) := ⟨_, rfl⟩
  have ba : Below w1.heap.size w1 wa := by rw [hwa]; exact (Below.refl _ _).alloc (Nat.le_refl _) _
  have hma : MsgAt wa w1.heap.size R.2 (.slice a1 R.2.digest.length c1) := by rw [hwa]; exact ⟨by simp, by simp, by simp, by simp, by simp, by simp, by simp⟩
  have bwa : Below w.heap.size w wa := hb1.trans (ba.mono hb1.size)
  have H1 : Hid (Below w.heap.size w wa ∧ RSide wa g s ∧ LinksC w.heap.size wa v1 R.1 ∧ Sl wa (.slice a1 R.2.digest.length c1) R.2.digest) := ⟨bwa, HS.out.below bwa, hl1.below ba, hD1.turned (Turned.ofBelow (S := fun _ => False) ba) (fun _ _ h => h)⟩
  have HWA := Hid.mk7 hwa
  have HB1 := Hid.mk7 hb1
  unfold msgV'
  clear hD1 hb1 ba hma bwa hrd hwa k0
  by_cases hls : R.1 = []
  case neg =>
    obtain ⟨al, Ll, cl, hvl⟩ := links_some hl1 hls
    subst hvl
    have HT : Hid (s.take b = (R.1, s.dead, [])) := by
      have h : s.take b = (R.1, s.dead, []) := by rw [HTK.out, if_pos hls]
      exact h
    have hR1 : RSide w1 g s := HS.out.below HB1.out
    obtain ⟨k0, f0⟩ := hR1 0 (by omega)
    obtain ⟨k1, f1⟩ := hR1 1 (by omega)
    obtain ⟨k2, f2⟩ := hR1 2 (by omega)
    obtain ⟨k3, f3⟩ := hR1 3 (by omega)
    obtain ⟨k4, f4⟩ := hR1 4 (by omega)
    simp only [rsCell] at k0 k1 k2 k3 k4
    have hg1 := hR1.lt
    have HR1 := Hid.mk7 hR1
    have hl1' : LinksC w.heap.size w1 (.slice (some al) Ll cl) R.1 := hl1
    have HL1 := Hid.mk7 hl1'
    clear hl1 hl1' hls hR1
    go_wp2
    go_ret2
    rw [HT.out]
    obtain ⟨d1, d2⟩ := rside_dead (w := w1) HR1.out
    have T1 := d2 (Turned.refl _ w1)
    have T2 := T1.trans (Turned.alloc (fun k => k = g) _ (.cells #[.int .i64 R.2.kind, .int .u64 R.2.flags, .int .u32 R.2.creation, .int .u32 R.2.challenge, .string R.2.name, .string R.2.status, .slice a1 R.2.digest.length c1] 27)) (fun _ h => .inl h)
    refine ⟨_, _, [], rfl, HL1.out.turned T2 (fun k hk _ he => by have he : k = g := he; omega), Gather.nil _ _, d1.turned (Turned.alloc (fun _ => False) _ _) (fun h => h), (Turned.ofBelow (S := fun k => k = g) HB1.out).trans T2 (fun _ h => .inl h)⟩
  case pos =>
    have hv1 : v1 = .slice none 0 0 := by rw [hls] at hl1; exact hl1
    subst hv1
    have htk := rs_took H1.out.2.1 R.2 HM.out (by rw [HK.out hls]; exact HSK.out) HC.out.1 HC.out.2 H1.out.2.2.2
    unfold msgV' at htk
    have HLS := Hid.mk7 hls
    clear hl1 hls
    go_wp2_with fail
    rw [← HWA.out]
    refine htk.mono ?_
    rintro e w2 (⟨hx, V2, vs2, rfl, hg2, hr2, ht2⟩ | ⟨hx, v2, rfl, hl2, hr2, hb2⟩)
    · have HT : Hid (s.take b = ([], (s.took R.2).2.1, (s.took R.2).2.2.map writeOf)) := by
        have h : s.take b = ([], (s.took R.2).2.1, (s.took R.2).2.2.map writeOf) := by rw [HTK.out, if_neg (by simpa using HLS.out), if_pos hx]
        exact h
      have H2 : Hid (Gather w2 w.heap.size V2 vs2 ((s.took R.2).2.2.map writeOf) ∧ RSide w2 g (s.took R.2).2.1 ∧ Turned (fun k => k = g) w w2) := ⟨hg2.mono H1.out.1.size, hr2, (Turned.ofBelow (S := fun k => k = g) H1.out.1).trans ht2 (fun _ h => .inl h)⟩
      obtain ⟨a2, c2, L2, hV2⟩ : ∃ a c L, V2 = .slice a L c := ⟨_, _, _, hg2.own.sl.form.choose_spec.choose_spec.1⟩
      subst hV2
      clear hx hg2 hr2 ht2 htk
      go_wp2
      go_ret2
      rw [HT.out]
      exact ⟨_, _, vs2, rfl, rfl, H2.out⟩
    · have HT : Hid (s.take b = (sh 0 (s.took R.2).1, s.dead, [])) := by
        have h : s.take b = (sh 0 (s.took R.2).1, s.dead, []) := by rw [HTK.out, if_neg (by simpa using HLS.out), if_neg hx]
        exact h
      have b2 : Below w.heap.size w w2 := H1.out.1.trans (hb2.mono H1.out.1.size)
      have H2 : Hid (LinksC w.heap.size w2 v2 (sh 0 (s.took R.2).1) ∧ RSide w2 g s ∧ Below w.heap.size w w2) := ⟨hl2.mono H1.out.1.size, hr2, b2⟩
      obtain ⟨lb, cap, _, hv2, _⟩ := hl2
      subst hv2
      obtain ⟨k0, f0⟩ := hr2 0 (by omega)
      obtain ⟨k1, f1⟩ := hr2 1 (by omega)
      obtain ⟨k2, f2⟩ := hr2 2 (by omega)
      obtain ⟨k3, f3⟩ := hr2 3 (by omega)
      obtain ⟨k4, f4⟩ := hr2 4 (by omega)
      simp only [rsCell] at k0 k1 k2 k3 k4
      have hg2 := hr2.lt
      clear hx hr2 hb2 htk b2
      go_wp2
      go_ret2
      rw [HT.out]
      obtain ⟨d1, d2⟩ := rside_dead (w := w2) H2.out.2.1
      have T1 := d2 (Turned.refl _ w2)
      refine ⟨_, _, [], rfl, H2.out.1.turned T1 (fun k hk _ he => by have he : k = g := he; omega), Gather.nil _ _, d1, (Turned.ofBelow (S := fun k => k = g) H2.out.2.2).trans T1 (fun _ h => .inl h)⟩
/-- The document's Take. -/
theorem rs_take {w : World} {g : Nat} {s : Sd} (h : RSide w g s) (hs : s.Ok) {B : Value} {b : List Int} (hB : Sl w B b) (hr : ∀ z ∈ b, 0 ≤ z ∧ z < 256) (hl : b.length ≤ 140737488355328) : Calls Tryz.prog 21 #[.pointer (some ⟨g, 0, none⟩), B] w (RSideTold w g (s.take b)) := by
  by_cases hst : s.state = 8 ∨ s.state = 7 ∨ s.state = 5
  · exact rs_take_done h hst ⟨_, _, _, hB.form.choose_spec.choose_spec.1⟩ b
  · exact rs_take_live h hs (fun e => hst (.inl e)) (fun e => hst (.inr (.inl e))) (fun e => hst (.inr (.inr e))) hB hr hl
end Go.Proofs.YtmnibmgbicnamaaGreatDoor
