/-
  Layer 8 (shake): the program's Answer.
-/
import Derived.Test.YtmnibmgbicnamaaGreatDoorKa
namespace Go.Proofs.YtmnibmgbicnamaaGreatDoor
open Go.RowKit

theorem peerErr_none {p : Pr} : peerErr p = [] ↔ (lacksB p.flags = false ∧ p.creation ≠ 0) := by
  unfold peerErr
  cases hl : lacksB p.flags with
  | true => simp [sh]
  | false =>
    by_cases hc : p.creation = 0
    · simp [hc, sh]
    · simp [hc]
theorem status_ok (st : ByteArray) : (statusMsg st).Ok := ⟨z64, z32, z32, fun z hz => by cases hz⟩
theorem gather_turned {S : Nat → Prop} {w w' : World} {B : Nat} {v : Value} {vs : List Value} {ls : List (List Int)} (h : Gather w B v vs ls) (T : Turned S w w') (hv : ∀ {k}, blk v k → ¬ S k) (he : ∀ i (h1 : i < vs.length) k, blk vs[i] k → ¬ S k) : Gather w' B v vs ls :=
  ⟨h.own.turned T (fun _ h => hv h), h.len, fun i h1 h2 => (h.each i h1 h2).turned T (he i h1), fun i h1 k hk => ⟨(h.off i h1 k hk).1, Nat.lt_of_lt_of_le (h.off i h1 k hk).2.1 T.size, (h.off i h1 k hk).2.2⟩, h.big⟩
theorem append_told {w w' : World} {B : Nat} {v : Value} {vs : List Value} {ls : List (List Int)} (h : Gather w B v vs ls) (hb : Below w.heap.size w w') (o : Obj) : Gather (w'.alloc o) B v vs ls := (h.turned (Turned.ofBelow (S := fun _ => False) hb)).turned (alloc0m w' o)
theorem one_each {x : Value} {g : Nat} (h : ∀ k, blk x k → k ≠ g) : ∀ i (h1 : i < [x].length) k, blk [x][i] k → ¬ k = g := by
  intro i h1 k hk
  have h0 : i = 0 := by simp at h1; omega
  subst h0
  exact h k hk
set_option maxRecDepth 100000 in
set_option maxHeartbeats 12800000 in
theorem sd_answer {w : World} {g : Nat} (hbig : Big g) {s : Sd} (h : SideAt w g s) (hs : s.Ok) (hfr : s.Fresh) (hG : Gd w) (hns : s.me.name.size ≤ 4611686018427387904) (st : ByteArray) : Calls Tryz.prog 17 #[.pointer (some ⟨g, 0, none⟩), .string st] w (SideTold w g (s.answer st)) := by
  have HSA := Hid.mk7 h
  obtain ⟨me, want, cookie, ch, h⟩ := h
  have hent := sd_enter h.cells true
  obtain ⟨tk, htk⟩ : ∃ tk, tk = s.answer st := ⟨_, rfl⟩
  rw [← htk]
  have HTK := Hid.mk7 htk
  have HB := Hid.mk7 h
  clear htk
  by_cases h8 : s.state = 8
  · have he : enterErr true s.state = sh 0 8 := by unfold enterErr; rw [if_pos h8]
    rw [he] at hent
    have HT2 : Hid (tk = (sh 0 8, s, [])) := HTK.out.trans (by unfold Sd.answer; rw [if_pos h8])
    clear he h8 h hs hfr hG hns
    go_enter Tryz.func17, Tryz.ntmps17
    go_wp2_with fail
    refine hent.mono ?_
    rintro e w1 ⟨v, rfl, hf, hb⟩
    have HN : Hid (FaultC w.heap.size w1 v (sh 0 8) ∧ Below w.heap.size w w1) := ⟨hf, hb⟩
    obtain ⟨pb, _, rfl, _⟩ := hf
    clear hb hent
    go_wp2
    go_ret2
    rw [HT2.out]
    exact ⟨_, _, [], rfl, HN.out.1, Gather.nil _ _, HSA.out.below HN.out.2, Turned.ofBelow HN.out.2⟩
  by_cases h5 : s.state = 5
  case neg =>
    have he : enterErr true s.state = sh 0 161 := by unfold enterErr; rw [if_neg h8, if_pos rfl, if_neg h5]
    rw [he] at hent
    have HT2 : Hid (tk = (sh 0 161, s, [])) := HTK.out.trans (by unfold Sd.answer; rw [if_neg h8, if_pos h5])
    clear he h8 h5 h hs hfr hG hns
    go_enter Tryz.func17, Tryz.ntmps17
    go_wp2_with fail
    refine hent.mono ?_
    rintro e w1 ⟨v, rfl, hf, hb⟩
    have HN : Hid (FaultC w.heap.size w1 v (sh 0 161) ∧ Below w.heap.size w w1) := ⟨hf, hb⟩
    obtain ⟨pb, _, rfl, _⟩ := hf
    clear hb hent
    go_wp2
    go_ret2
    rw [HT2.out]
    exact ⟨_, _, [], rfl, HN.out.1, Gather.nil _ _, HSA.out.below HN.out.2, Turned.ofBelow HN.out.2⟩
  case pos =>
    have he : enterErr true s.state = [] := by unfold enterErr; rw [if_neg h8, if_pos rfl, if_pos h5]
    rw [he] at hent
    have HT2 := Hid.mk7 (HTK.out.trans (show s.answer st = if isSt st = false then (sh 0 1, s, []) else if s.statusFor st = stOk ∨ s.statusFor st = stSim then ([], { s with state := 6, simult := decide (s.statusFor st = stSim) }, [writeOf (statusMsg (s.statusFor st)), writeOf s.challengeMsg]) else ([], s.dead, [writeOf (statusMsg (s.statusFor st))]) by unfold Sd.answer; rw [if_neg h8, if_neg (by omega)]))
    have hsst := sh_status st
    obtain ⟨hkc, hkn, _, hkm⟩ := h.keeps (by omega) h8
    have hkm := hkm (by omega)
    subst hkc hkn hkm
    have HSI : Hid (s.simult = false) := hfr (.inr (.inr h5))
    have HOK : Hid (s.me.Ok ∧ s.challenge < 4294967296) := ⟨hs.me, hs.num⟩
    have HG := Hid.mk7 hG
    have HBG := Hid.mk7 hbig
    have hgl := h.lt
    have HNS := Hid.mk7 hns
    clear he h8 h hs hfr hG hns HTK hbig h5
    cases hI : isSt st with
    | false =>
      have HT3 : Hid (tk = (sh 0 1, s, [])) := HT2.out.trans (if_pos hI)
      rw [hI] at hsst
      clear hI
      go_enter Tryz.func17, Tryz.ntmps17
      go_wp2_with fail
      refine hent.mono ?_
      rintro e w1 ⟨v, rfl, hf, hb⟩
      have hf : v = .nilIface := hf
      subst hf
      have HB1 := Hid.mk7 hb
      clear hb hent
      go_wp2_with fail
      refine (hsst _).mono ?_
      rintro e w1' ⟨rfl, rfl⟩
      go_wp2_with fail
      refine (sh_refuse _ _ _).mono ?_
      rintro e w2 ⟨v, rfl, hf, hb⟩
      have HN : Hid (FaultC w.heap.size w2 v (sh 0 1) ∧ Below w.heap.size w w2) := ⟨hf.mono HB1.out.size, HB1.out.trans (hb.mono HB1.out.size)⟩
      obtain ⟨pb, _, rfl, _⟩ := hf
      clear hb
      go_wp2
      go_ret2
      rw [HT3.out]
      exact ⟨_, _, [], rfl, HN.out.1, Gather.nil _ _, HSA.out.below HN.out.2, Turned.ofBelow HN.out.2⟩
    | true =>
      rw [hI] at hsst
      have HT3 := Hid.mk7 (HT2.out.trans (if_neg (by rw [hI]; decide)))
      clear hI HT2
      go_enter Tryz.func17, Tryz.ntmps17
      go_wp2_with fail
      refine hent.mono ?_
      rintro e w1 ⟨v, rfl, hf, hb⟩
      have hf : v = .nilIface := hf
      subst hf
      have HB1 : Hid (SideM w1 g s s.me want s.cookie s.challenge ∧ Below w.heap.size w w1) := ⟨HB.out.turned (Turned.ofBelow (S := fun _ => False) hb) (fun h => h), hb⟩
      obtain ⟨k2, _⟩ := HB1.out.1.cells 2 (by omega)
      obtain ⟨k3, _⟩ := HB1.out.1.cells 3 (by omega)
      obtain ⟨k4, _⟩ := HB1.out.1.cells 4 (by omega)
      obtain ⟨k6, _⟩ := HB1.out.1.cells 6 (by omega)
      simp only [sdCell] at k2 k3 k4 k6
      have hg1 := HB1.out.1.lt
      clear hb hent
      go_wp2_with fail
      refine (hsst _).mono ?_
      rintro e w1' ⟨rfl, rfl⟩
      have hcp := fun W : World => sd_checkPeer s.peer W
      have A1 := (Below.refl w1.heap.size w1).alloc (Nat.le_refl _) (.cells #[.string s.peer.name, .int .u64 s.peer.flags, .int .u32 s.peer.creation] 46)
      have HW : Hid (Below w1.heap.size w1 (w1.alloc (.cells #[.string s.peer.name, .int .u64 s.peer.flags, .int .u32 s.peer.creation] 46)) ∧ PeerAt (w1.alloc (.cells #[.string s.peer.name, .int .u64 s.peer.flags, .int .u32 s.peer.creation] 46)) w1.heap.size s.peer) := ⟨A1, PeerAt.ofNew w1 s.peer _⟩
      have k6a := (A1.cell (p := ⟨g, 6, none⟩) hg1).trans k6
      clear A1
      by_cases hpe : peerErr s.peer = []
      case neg =>
        -- it may not
        have HSF : Hid (s.statusFor st = stNot) := if_pos (by
          have h1 : ¬ (lacksB s.peer.flags = false ∧ s.peer.creation ≠ 0) := fun h => hpe (peerErr_none.2 h)
          by_cases h2 : lacksB s.peer.flags = true
          · exact .inl h2
          · have h2' : lacksB s.peer.flags = false := by simpa using h2
            exact .inr (.inl (Classical.byContradiction fun hc => h1 ⟨h2', hc⟩)))
        have HPE := Hid.mk7 hpe
        have HT4 : Hid (tk = ([], s.dead, [writeOf (statusMsg stNot)])) := by
          have h1 := HT3.out
          rw [HSF.out] at h1
          exact h1.trans (if_neg (by decide))
        clear hpe HT3
        go_wp2_with fail
        refine wp_region_held_drew (S := fun w' => w'.cell? ⟨w1.heap.size, 0, none⟩ = some (.string s.peer.name) ∧ w'.cell? ⟨w1.heap.size, 1, none⟩ = some (.int .u64 s.peer.flags) ∧ w'.cell? ⟨w1.heap.size, 2, none⟩ = some (.int .u32 s.peer.creation)) (by kernel_rfl) ⟨HW.out.2.c0, HW.out.2.c1, HW.out.2.c2⟩ (fun hHeld => ?_)
        refine wpAnyH_take (i := 0) (v := .agg #[.string s.peer.name, .int .u64 s.peer.flags, .int .u32 s.peer.creation]) rfl (by kernel_rfl) (by kernel_rfl) (by kernel_rfl) (fun _ _ _ h => h) (Or.inl ⟨by rfl, ?_⟩) (by assumption) ?_
        · intro w hSw; obtain ⟨u0, u1, u2⟩ := hSw; go_simp
        go_simp
        refine wpAnyH_ready (rs := [1]) (by kernel_rfl) (by simp) ?_
        refine AllReadyH.cons rfl (fun K hK => ?_) AllReadyH.nil
        go_simp
        refine (hcp _).mono ?_
        rintro e w3 ⟨v, rfl, hf3, hb30⟩
        obtain ⟨pb, rfl⟩ : ∃ pb, v = .iface 131 (.pointer (some ⟨pb, 0, none⟩)) := (fault_cases hf3).elim (fun h => absurd h.1 HPE.out) (fun h => h.2)
        have hb3 := drew_below hb30
        clear hf3
        refine hK.out _ _ ⟨(hb3.cell (p := ⟨w1.heap.size, 0, none⟩) (by simp)).trans HW.out.2.c0, (hb3.cell (p := ⟨w1.heap.size, 1, none⟩) (by simp)).trans HW.out.2.c1, (hb3.cell (p := ⟨w1.heap.size, 2, none⟩) (by simp)).trans HW.out.2.c2⟩ (fun hHeld => ?_)
        clear hK K
        refine wpAnyH_take (i := 2) (v := .bool true) rfl (by kernel_rfl) (by kernel_rfl) (by kernel_rfl) (fun _ _ _ h => h) (Or.inl ⟨by rfl, ?_⟩) (by assumption) ?_
        · intro w hSw; go_simp
        go_simp
        refine wpAnyH_take (i := 3) (v := .bool true) rfl (by kernel_rfl) (by kernel_rfl) (by kernel_rfl) (fun _ _ _ h => h) (Or.inl ⟨by rfl, ?_⟩) (by assumption) ?_
        · intro w hSw; go_simp
        go_simp
        refine wpAnyH_take (i := 4) (v := undef) rfl (by kernel_rfl) (by kernel_rfl) (by kernel_rfl) (fun _ _ _ h => h) (Or.inr ⟨by kernel_rfl, rfl⟩) (by assumption) ?_
        go_simp
        refine wpAnyH_take (i := 5) (v := undef) rfl (by kernel_rfl) (by kernel_rfl) (by kernel_rfl) (fun _ _ _ h => h) (Or.inr ⟨by kernel_rfl, rfl⟩) (by assumption) ?_
        go_simp
        refine wpAnyH_take (i := 6) (v := undef) rfl (by kernel_rfl) (by kernel_rfl) (by kernel_rfl) (fun _ _ _ h => h) (Or.inr ⟨by kernel_rfl, rfl⟩) (by assumption) ?_
        go_simp
        refine wpAnyH_take (i := 7) (v := undef) rfl (by kernel_rfl) (by kernel_rfl) (by kernel_rfl) (fun _ _ _ h => h) (Or.inr ⟨by kernel_rfl, rfl⟩) (by assumption) ?_
        go_simp
        refine wpAnyH_take (i := 8) (v := undef) rfl (by kernel_rfl) (by kernel_rfl) (by kernel_rfl) (fun _ _ _ h => h) (Or.inr ⟨by kernel_rfl, rfl⟩) (by assumption) ?_
        go_simp
        refine wpAnyH_take (i := 9) (v := undef) rfl (by kernel_rfl) (by kernel_rfl) (by kernel_rfl) (fun _ _ _ h => h) (Or.inr ⟨by kernel_rfl, rfl⟩) (by assumption) ?_
        go_simp
        refine wpAnyH_take (i := 10) (v := undef) rfl (by kernel_rfl) (by kernel_rfl) (by kernel_rfl) (fun _ _ _ h => h) (Or.inr ⟨by kernel_rfl, rfl⟩) (by assumption) ?_
        go_simp
        refine wpAnyH_take (i := 11) (v := undef) rfl (by kernel_rfl) (by kernel_rfl) (by kernel_rfl) (fun _ _ _ h => h) (Or.inr ⟨by kernel_rfl, rfl⟩) (by assumption) ?_
        go_simp
        refine wpAnyH_take (i := 12) (v := .bool true) rfl (by kernel_rfl) (by kernel_rfl) (by kernel_rfl) (fun _ _ _ h => h) (Or.inl ⟨by rfl, ?_⟩) (by assumption) ?_
        · intro w hSw; go_simp
        go_simp
        refine wpAnyH_done (by kernel_rfl) ?_ _
        have B3 := HB1.out.2.trans ((HW.out.1.trans (hb3.mono (by simp))).mono HB1.out.2.size)
        have H3 : Hid (SideM w3 g s s.me want s.cookie s.challenge ∧ Below w.heap.size w w3) := ⟨HB1.out.1.turned (Turned.ofBelow (S := fun _ => False) (HW.out.1.trans (hb3.mono (by simp)))) (fun h => h), B3⟩
        clear hb30 hb3 B3 k2 k3 k4 k6 k6a hcp
        have htl := sd_tell (statusMsg stNot) (status_ok _) zname (w := w3) (D := .slice none 0 0) (.inl ⟨rfl, rfl⟩) (HG.out.below H3.out.2).er
        unfold msgV' at htl
        simp only [statusMsg, Msg.zero, stNot] at htl
        generalize hWz : writeOf _ = zs at htl
        have HWz : Hid (writeOf (statusMsg stNot) = zs) := hWz
        clear hWz
        go_wp2_with fail
        refine htl.mono ?_
        rintro e w4 ⟨V, rfl, ho, hb4, hk4⟩
        have B4 := H3.out.2.trans (hb4.mono H3.out.2.size)
        have M4 := H3.out.1.turned (Turned.ofBelow (S := fun _ => False) hb4) (fun h => h)
        have A4 := (Below.refl w4.heap.size w4).alloc (Nat.le_refl _) (.cells #[V] 25)
        have H4 : Hid (SideM (w4.alloc (.cells #[V] 25)) g s s.me want s.cookie s.challenge ∧ Below w.heap.size w (w4.alloc (.cells #[V] 25)) ∧ Gather (w4.alloc (.cells #[V] 25)) w.heap.size (.slice (some ⟨w4.heap.size, 0, none⟩) 1 1) [V] [zs] ∧ g < w4.heap.size ∧ (∀ k, blk V k → k ≠ g) ∧ (∀ k, blk V k → k < w4.heap.size)) := ⟨M4.turned (Turned.ofBelow (S := fun _ => False) A4) (fun h => h), B4.trans (A4.mono B4.size), Gather.one ho (fun k hk => by have := hk4 k hk; have := H3.out.2.size; omega) B4.size _, M4.lt, fun k hk he => by have := hk4 k hk; have := H3.out.1.lt; omega, ho.blk_lt⟩
        obtain ⟨aV, cV, LV, rfl⟩ : ∃ a c L, V = .slice a L c := ⟨_, _, _, ho.sl.form.choose_spec.choose_spec.1⟩
        clear ho hb4 hk4 B4 M4 A4 htl
        have hdie := sd_die H4.out.1.cells s
        go_wp2_with fail
        refine hdie.mono ?_
        rintro e w5 ⟨rfl, hs5, ht5⟩
        have H5 : Hid (SideAt w5 g s.dead ∧ Turned (fun k => k = g) w w5 ∧ Gather w5 w.heap.size (.slice (some ⟨w4.heap.size, 0, none⟩) 1 1) [.slice aV LV cV] [zs]) := ⟨hs5, (Turned.ofBelow (S := fun k => k = g) H4.out.2.1).trans ht5 (fun _ h => .inl h), gather_turned H4.out.2.2.1 ht5 (fun {k} h he => by have h : w4.heap.size = k := h; have he : k = g := he; have := H4.out.2.2.2.1; omega) (one_each H4.out.2.2.2.2.1)⟩
        clear hs5 ht5 hdie
        go_wp2
        go_ret2
        rw [HT4.out, HWz.out]
        exact ⟨_, _, _, rfl, rfl, H5.out.2.2, H5.out.1, H5.out.2.1⟩
      case pos =>
        obtain ⟨hp1, hp2⟩ := peerErr_none.1 hpe
        by_cases hnm : s.peer.name = s.me.name
        case pos =>
          have HSF : Hid (s.statusFor st = stNot) := if_pos (.inr (.inr hnm))
          have HT4 : Hid (tk = ([], s.dead, [writeOf (statusMsg stNot)])) := by
            have h1 := HT3.out
            rw [HSF.out] at h1
            exact h1.trans (if_neg (by decide))
          rw [← hnm] at k6a k6
          clear HT3 hnm hp1 hp2
          go_wp2_with fail
          go_region_held3 (fun w' => w'.cell? ⟨w1.heap.size, 0, none⟩ = some (.string s.peer.name) ∧ w'.cell? ⟨w1.heap.size, 1, none⟩ = some (.int .u64 s.peer.flags) ∧ w'.cell? ⟨w1.heap.size, 2, none⟩ = some (.int .u32 s.peer.creation) ∧ w'.cell? ⟨g, 6, none⟩ = some (.string s.peer.name))
            (go_keep)
            (first | (go_at_call 50; refine (hcp _).mono ?_; rintro e w3 ⟨v, rfl, hf3, hb30⟩; rw [hpe] at hf3; have hf3 : v = .nilIface := hf3; subst hf3; have hb3 := drew_below hb30; have s0 := (hb3.cell (p := ⟨w1.heap.size, 0, none⟩) (by simp)).trans HW.out.2.c0; have s1 := (hb3.cell (p := ⟨w1.heap.size, 1, none⟩) (by simp)).trans HW.out.2.c1; have s2 := (hb3.cell (p := ⟨w1.heap.size, 2, none⟩) (by simp)).trans HW.out.2.c2; have s6 := (hb3.cell (p := ⟨g, 6, none⟩) (by simp only [World.size_alloc]; omega)).trans k6a))
          all_goals
            have B3 := HB1.out.2.trans ((HW.out.1.trans (hb3.mono (by simp))).mono HB1.out.2.size)
            have H3 : Hid (SideM w3 g s s.me want s.cookie s.challenge ∧ Below w.heap.size w w3) := ⟨HB1.out.1.turned (Turned.ofBelow (S := fun _ => False) (HW.out.1.trans (hb3.mono (by simp)))) (fun h => h), B3⟩
            clear hb30 hb3 s0 s1 s2 s6 B3 k2 k3 k4 k6 k6a hcp
            have htl := sd_tell (statusMsg stNot) (status_ok _) zname (w := w3) (D := .slice none 0 0) (.inl ⟨rfl, rfl⟩) (HG.out.below H3.out.2).er
            unfold msgV' at htl
            simp only [statusMsg, Msg.zero, stNot] at htl
            generalize hWz : writeOf _ = zs at htl
            have HWz : Hid (writeOf (statusMsg stNot) = zs) := hWz
            clear hWz
            go_wp2_with fail
            refine htl.mono ?_
            rintro e w4 ⟨V, rfl, ho, hb4, hk4⟩
            have B4 := H3.out.2.trans (hb4.mono H3.out.2.size)
            have M4 := H3.out.1.turned (Turned.ofBelow (S := fun _ => False) hb4) (fun h => h)
            have A4 := (Below.refl w4.heap.size w4).alloc (Nat.le_refl _) (.cells #[V] 25)
            have H4 : Hid (SideM (w4.alloc (.cells #[V] 25)) g s s.me want s.cookie s.challenge ∧ Below w.heap.size w (w4.alloc (.cells #[V] 25)) ∧ Gather (w4.alloc (.cells #[V] 25)) w.heap.size (.slice (some ⟨w4.heap.size, 0, none⟩) 1 1) [V] [zs] ∧ g < w4.heap.size ∧ (∀ k, blk V k → k ≠ g) ∧ (∀ k, blk V k → k < w4.heap.size)) := ⟨M4.turned (Turned.ofBelow (S := fun _ => False) A4) (fun h => h), B4.trans (A4.mono B4.size), Gather.one ho (fun k hk => by have := hk4 k hk; have := H3.out.2.size; omega) B4.size _, M4.lt, fun k hk he => by have := hk4 k hk; have := H3.out.1.lt; omega, ho.blk_lt⟩
            obtain ⟨aV, cV, LV, rfl⟩ : ∃ a c L, V = .slice a L c := ⟨_, _, _, ho.sl.form.choose_spec.choose_spec.1⟩
            clear ho hb4 hk4 B4 M4 A4 htl
            have hdie := sd_die H4.out.1.cells s
            go_wp2_with fail
            refine hdie.mono ?_
            rintro e w5 ⟨rfl, hs5, ht5⟩
            have H5 : Hid (SideAt w5 g s.dead ∧ Turned (fun k => k = g) w w5 ∧ Gather w5 w.heap.size (.slice (some ⟨w4.heap.size, 0, none⟩) 1 1) [.slice aV LV cV] [zs]) := ⟨hs5, (Turned.ofBelow (S := fun k => k = g) H4.out.2.1).trans ht5 (fun _ h => .inl h), gather_turned H4.out.2.2.1 ht5 (fun {k} h he => by have h : w4.heap.size = k := h; have he : k = g := he; have := H4.out.2.2.2.1; omega) (one_each H4.out.2.2.2.2.1)⟩
            clear hs5 ht5 hdie
            go_wp2
            go_ret2
            rw [HT4.out, HWz.out]
            exact ⟨_, _, _, rfl, rfl, H5.out.2.2, H5.out.1, H5.out.2.1⟩
        case neg =>
          have HSF : Hid (s.statusFor st = st) := if_neg (fun h => h.elim (fun h => by rw [hp1] at h; exact absurd h (by decide)) (fun h => h.elim hp2 hnm))
          have hqn := toList_ne hnm
          have HT4' := HT3.out
          rw [HSF.out] at HT4'
          have HT5 := Hid.mk7 HT4'
          clear HT4' HT3 hnm hp1 hp2
          go_wp2_with fail
          go_region_held3 (fun w' => w'.cell? ⟨w1.heap.size, 0, none⟩ = some (.string s.peer.name) ∧ w'.cell? ⟨w1.heap.size, 1, none⟩ = some (.int .u64 s.peer.flags) ∧ w'.cell? ⟨w1.heap.size, 2, none⟩ = some (.int .u32 s.peer.creation) ∧ w'.cell? ⟨g, 6, none⟩ = some (.string s.me.name))
            (go_keep)
            (first | (go_at_call 50; refine (hcp _).mono ?_; rintro e w3 ⟨v, rfl, hf3, hb30⟩; rw [hpe] at hf3; have hf3 : v = .nilIface := hf3; subst hf3; have hb3 := drew_below hb30; have s0 := (hb3.cell (p := ⟨w1.heap.size, 0, none⟩) (by simp)).trans HW.out.2.c0; have s1 := (hb3.cell (p := ⟨w1.heap.size, 1, none⟩) (by simp)).trans HW.out.2.c1; have s2 := (hb3.cell (p := ⟨w1.heap.size, 2, none⟩) (by simp)).trans HW.out.2.c2; have s6 := (hb3.cell (p := ⟨g, 6, none⟩) (by simp only [World.size_alloc]; omega)).trans k6a))
          all_goals
            have B3 := HB1.out.2.trans ((HW.out.1.trans (hb3.mono (by simp))).mono HB1.out.2.size)
            have H3 : Hid (SideM w3 g s s.me want s.cookie s.challenge ∧ Below w.heap.size w w3) := ⟨HB1.out.1.turned (Turned.ofBelow (S := fun _ => False) (HW.out.1.trans (hb3.mono (by simp)))) (fun h => h), B3⟩
            clear hb30 hb3 s0 s1 s2 s6 B3 k2 k3 k4 k6 k6a hcp
            by_cases h1 : st = stSim
            case pos =>
              subst h1
              have HT4 := Hid.mk7 (HT5.out.trans (if_pos (.inr rfl)))
              clear HT5
              rw [decide_eq_true rfl] at HT4
              unfold stSim
              have htl := sd_tell (statusMsg stSim) (status_ok _) zname (w := w3) (D := .slice none 0 0) (.inl ⟨rfl, rfl⟩) (HG.out.below H3.out.2).er
              unfold msgV' at htl
              simp only [statusMsg, Msg.zero, stSim] at htl
              generalize hWz : writeOf _ = zs at htl
              have HWz : Hid (writeOf (statusMsg stSim) = zs) := hWz
              clear hWz
              go_wp2_with fail
              refine htl.mono ?_
              rintro e w4 ⟨V, rfl, ho, hb4, hk4⟩
              have B4 := H3.out.2.trans (hb4.mono H3.out.2.size)
              have M4 := H3.out.1.turned (Turned.ofBelow (S := fun _ => False) hb4) (fun h => h)
              have H4 : Hid (SideM w4 g s s.me want s.cookie s.challenge ∧ Below w.heap.size w w4 ∧ Own w4 V zs ∧ (∀ k, blk V k → w.heap.size ≤ k) ∧ (∀ k, blk V k → k ≠ g)) := ⟨M4, B4, ho, fun k hk => by have := hk4 k hk; have := H3.out.2.size; omega, fun k hk he => by have := hk4 k hk; have := H3.out.1.lt; omega⟩
              obtain ⟨aV, cV, LV, rfl⟩ : ∃ a c L, V = .slice a L c := ⟨_, _, _, ho.sl.form.choose_spec.choose_spec.1⟩
              obtain ⟨k1, f1⟩ := H4.out.1.cells 1 (by omega)
              obtain ⟨k5, f5⟩ := H4.out.1.cells 5 (by omega)
              simp only [sdCell] at k1 k5
              have hg4 := H4.out.1.lt
              clear ho hb4 hk4 B4 M4 htl
              go_wp2_with fail
              obtain ⟨w5, hw5⟩ : ∃ w5, w5 = ((w4.setCell ⟨g, 5, none⟩ (.bool true)).setCell ⟨g, 1, none⟩ (.int .i64 6)).alloc (.cells #[.slice aV LV cV] 25) := ⟨_, rfl⟩
              rw [← hw5]
              have TS : Turned (fun k => k = g) w4 ((w4.setCell ⟨g, 5, none⟩ (.bool true)).setCell ⟨g, 1, none⟩ (.int .i64 6)) := (Turned.set1 w4 g 5 (.bool true)).trans (Turned.set1 _ g 1 (.int .i64 6)) (fun _ h => .inl h)
              have OS := H4.out.2.2.1.turned TS (fun k hk he => H4.out.2.2.2.2 k hk he)
              have T5 : Turned (fun k => k = g) w w5 := by rw [hw5]; exact ((Turned.ofBelow (S := fun k => k = g) H4.out.2.1).trans TS (fun _ h => .inl h)).trans (Turned.alloc (fun _ => False) _ _) (fun _ h => h.elim)
              have B5 : Block w5 g 12 (sdCell g 6 s.peer true s.me want s.cookie s.challenge) := by rw [hw5]; exact (((H4.out.1.cells.set 5 (.bool true)).set 1 (.int .i64 6)).turned (alloc0m _ _) (fun h => h)).congr (forall12 rfl rfl rfl rfl rfl rfl rfl rfl rfl rfl rfl rfl)
              have hz4 : w4.heap.size ≤ ((w4.setCell ⟨g, 5, none⟩ (.bool true)).setCell ⟨g, 1, none⟩ (.int .i64 6)).heap.size := TS.size
              have G5 : Gather w5 w.heap.size (.slice (some ⟨w4.heap.size, 0, none⟩) 1 1) [.slice aV LV cV] [zs] := by
                have hgo := Gather.one OS H4.out.2.2.2.1 (Nat.le_trans H4.out.2.1.size hz4) 25
                simp only [World.size_setCell] at hgo
                rw [hw5]; exact hgo
              have g5 : Gd w5 := HG.out.turned T5 HBG.out (by omega)
              have h45 : w4.heap.size < w5.heap.size := G5.own.blk_lt _ rfl
              have H5 : Hid (Block w5 g 12 (sdCell g 6 s.peer true s.me want s.cookie s.challenge) ∧ Turned (fun k => k = g) w w5 ∧ Gather w5 w.heap.size (.slice (some ⟨w4.heap.size, 0, none⟩) 1 1) [.slice aV LV cV] [zs]) := ⟨B5, T5, G5⟩
              obtain ⟨k6, _⟩ := B5 6 (by omega)
              obtain ⟨k7, _⟩ := B5 7 (by omega)
              obtain ⟨k8, _⟩ := B5 8 (by omega)
              obtain ⟨k11, _⟩ := B5 11 (by omega)
              simp only [sdCell] at k6 k7 k8 k11
              have hg5 : g < w5.heap.size := B5.lt (by omega)
              have htl := sd_tell s.challengeMsg ⟨HOK.out.1.flags, HOK.out.1.creation, ⟨by have := HOK.out.2; simp only [Sd.challengeMsg]; omega, by have := HOK.out.2; simp only [Sd.challengeMsg]; omega⟩, fun z hz => by cases hz⟩ HNS.out (w := w5.drew) (D := .slice none 0 0) (.inl ⟨rfl, rfl⟩) (g5.below ((Below.refl _ _).drew)).er
              unfold msgV' at htl
              simp only [Sd.challengeMsg, Msg.zero] at htl
              generalize hWy : writeOf _ = ys at htl
              have HWy : Hid (writeOf s.challengeMsg = ys) := hWy
              clear hWy hw5 TS OS T5 B5 G5 g5 k1 k5 f1 f5 hz4
              go_wp2_with fail
              go_region_held3 (fun w' => w'.cell? ⟨g, 7, none⟩ = some (.int .u64 s.me.flags) ∧ w'.cell? ⟨g, 11, none⟩ = some (.int .u32 s.challenge) ∧ w'.cell? ⟨g, 8, none⟩ = some (.int .u32 s.me.creation) ∧ w'.cell? ⟨g, 6, none⟩ = some (.string s.me.name))
                (go_keep)
                (first
                  | (go_at_call 51; refine htl.mono ?_; rintro e w6 ⟨V2, rfl, ho2, hb60, hk60⟩; have hb6 := drew_below hb60; have s7 := (hb6.cell (p := ⟨g, 7, none⟩) hg5).trans k7; have s11 := (hb6.cell (p := ⟨g, 11, none⟩) hg5).trans k11; have s8 := (hb6.cell (p := ⟨g, 8, none⟩) hg5).trans k8; have s6 := (hb6.cell (p := ⟨g, 6, none⟩) hg5).trans k6; have hk6 : ∀ k, blk V2 k → w5.heap.size ≤ k := hk60; have H6 := Hid.mk7 (And.intro ho2 (And.intro hb6 hk6)); have hg6 : g < w6.heap.size := Nat.lt_of_lt_of_le hg5 hb6.size; have h46 : w4.heap.size < w6.heap.size := Nat.lt_of_lt_of_le h45 hb6.size; obtain ⟨aW, cW, LW, rfl⟩ : ∃ a c L, V2 = .slice a L c := ⟨_, _, _, ho2.sl.form.choose_spec.choose_spec.1⟩; clear hb60 hk60 hb6 ho2 hk6 htl)
                  | (refine step_append_rows (by rfl) (.tmp 53) (.tmp 75) (by rfl) Tryz.rows (by rfl) (by rfl) (append_told H5.out.2.2 H6.out.2.1 _).own (Gather.one H6.out.1 (B := 0) (fun _ _ => Nat.zero_le _) (Nat.zero_le _) _).own.sl (fun u hu => by simp at hu; subst hu; rfl) (by simp) ?_; intro v7 w7 ho7 ht7 hv7; have t7 := ht7.cell (p := ⟨g, 7, none⟩) ((alloc0m w6 _).cell (p := ⟨g, 7, none⟩) s7 (fun h => h)) (fun h => by have h : w4.heap.size = g := h; omega); have t11 := ht7.cell (p := ⟨g, 11, none⟩) ((alloc0m w6 _).cell (p := ⟨g, 11, none⟩) s11 (fun h => h)) (fun h => by have h : w4.heap.size = g := h; omega); have t8 := ht7.cell (p := ⟨g, 8, none⟩) ((alloc0m w6 _).cell (p := ⟨g, 8, none⟩) s8 (fun h => h)) (fun h => by have h : w4.heap.size = g := h; omega); have t6 := ht7.cell (p := ⟨g, 6, none⟩) ((alloc0m w6 _).cell (p := ⟨g, 6, none⟩) s6 (fun h => h)) (fun h => by have h : w4.heap.size = g := h; omega)))
              all_goals
                obtain ⟨q1, q2, q3⟩ := H6.out
                have hgt := (append_told H5.out.2.2 q2 (.cells #[.slice aW LW cW] 25)).snoc (l := ys) (by have := H5.out.2.1.size; have := q2.size; simp only [World.size_alloc]; omega) (q1.sl.turned (alloc0m w6 _) (fun _ _ h => h)) (fun k hk => ⟨by have := q3 k hk; have := H5.out.2.1.size; omega, by have := q1.blk_lt k hk; simp only [World.size_alloc]; omega, fun h => by have h : w4.heap.size = k := h; have := q3 k hk; omega⟩) ho7 ht7 hv7
                have hT7 : Turned (fun k => k = g) w w7 := ((H5.out.2.1.trans (Turned.ofBelow (S := fun _ => False) q2) (fun _ h => h.elim)).trans (alloc0m w6 _) (fun _ h => h.elim)).trans ht7 (fun k hk => .inr (by have hk : w4.heap.size = k := hk; have := H4.out.2.1.size; omega))
                have hB7 := ((H5.out.1.turned (Turned.ofBelow (S := fun _ => False) q2) (fun h => h)).turned (alloc0m w6 _) (fun h => h)).turned ht7 (fun h => by have h : w4.heap.size = g := h; omega)
                have H7 := Hid.mk7 (And.intro hgt (And.intro hT7 hB7))
                obtain ⟨aZ, cZ, LZ, rfl⟩ : ∃ a c L, v7 = .slice a L c := ⟨_, _, _, ho7.sl.form.choose_spec.choose_spec.1⟩
                clear hgt hT7 hB7 ho7 ht7 hv7 t7 t11 t8 t6 s7 s11 s8 s6 k7 k11 k8 k6 q1 q2 q3
                go_wp2
                go_ret2
                rw [HT4.out, HWz.out, HWy.out]
                refine ⟨_, _, _, rfl, rfl, H7.out.1, ⟨s.me, want, s.cookie, s.challenge, ?_, fun _ _ => ⟨rfl, rfl, fun h => absurd h (show ¬ (6 : Int) ≤ 3 by decide), fun _ => rfl⟩⟩, H7.out.2.1⟩
                exact H7.out.2.2
            case neg =>
              by_cases h2 : st = stOk
              case pos =>
                subst h2
                have HT4 := Hid.mk7 (HT5.out.trans (if_pos (.inl rfl)))
                clear HT5
                rw [decide_eq_false h1] at HT4
                clear h1
                unfold stOk
                have htl := sd_tell (statusMsg stOk) (status_ok _) zname (w := w3) (D := .slice none 0 0) (.inl ⟨rfl, rfl⟩) (HG.out.below H3.out.2).er
                unfold msgV' at htl
                simp only [statusMsg, Msg.zero, stOk] at htl
                generalize hWz : writeOf _ = zs at htl
                have HWz : Hid (writeOf (statusMsg stOk) = zs) := hWz
                clear hWz
                go_wp2_with fail
                refine htl.mono ?_
                rintro e w4 ⟨V, rfl, ho, hb4, hk4⟩
                have B4 := H3.out.2.trans (hb4.mono H3.out.2.size)
                have M4 := H3.out.1.turned (Turned.ofBelow (S := fun _ => False) hb4) (fun h => h)
                have H4 : Hid (SideM w4 g s s.me want s.cookie s.challenge ∧ Below w.heap.size w w4 ∧ Own w4 V zs ∧ (∀ k, blk V k → w.heap.size ≤ k) ∧ (∀ k, blk V k → k ≠ g)) := ⟨M4, B4, ho, fun k hk => by have := hk4 k hk; have := H3.out.2.size; omega, fun k hk he => by have := hk4 k hk; have := H3.out.1.lt; omega⟩
                obtain ⟨aV, cV, LV, rfl⟩ : ∃ a c L, V = .slice a L c := ⟨_, _, _, ho.sl.form.choose_spec.choose_spec.1⟩
                obtain ⟨k1, f1⟩ := H4.out.1.cells 1 (by omega)
                obtain ⟨k5, f5⟩ := H4.out.1.cells 5 (by omega)
                simp only [sdCell] at k1 k5
                have hg4 := H4.out.1.lt
                clear ho hb4 hk4 B4 M4 htl
                go_wp2_with fail
                obtain ⟨w5, hw5⟩ : ∃ w5, w5 = (w4.setCell ⟨g, 1, none⟩ (.int .i64 6)).alloc (.cells #[.slice aV LV cV] 25) := ⟨_, rfl⟩
                rw [← hw5]
                have TS : Turned (fun k => k = g) w4 (w4.setCell ⟨g, 1, none⟩ (.int .i64 6)) := (Turned.set1 w4 g 1 (.int .i64 6))
                have OS := H4.out.2.2.1.turned TS (fun k hk he => H4.out.2.2.2.2 k hk he)
                have T5 : Turned (fun k => k = g) w w5 := by rw [hw5]; exact ((Turned.ofBelow (S := fun k => k = g) H4.out.2.1).trans TS (fun _ h => .inl h)).trans (Turned.alloc (fun _ => False) _ _) (fun _ h => h.elim)
                have B5 : Block w5 g 12 (sdCell g 6 s.peer s.simult s.me want s.cookie s.challenge) := by rw [hw5]; exact ((H4.out.1.cells.set 1 (.int .i64 6)).turned (alloc0m _ _) (fun h => h)).congr (forall12 rfl rfl rfl rfl rfl rfl rfl rfl rfl rfl rfl rfl)
                have hz4 : w4.heap.size ≤ (w4.setCell ⟨g, 1, none⟩ (.int .i64 6)).heap.size := TS.size
                have G5 : Gather w5 w.heap.size (.slice (some ⟨w4.heap.size, 0, none⟩) 1 1) [.slice aV LV cV] [zs] := by
                  have hgo := Gather.one OS H4.out.2.2.2.1 (Nat.le_trans H4.out.2.1.size hz4) 25
                  simp only [World.size_setCell] at hgo
                  rw [hw5]; exact hgo
                have g5 : Gd w5 := HG.out.turned T5 HBG.out (by omega)
                have h45 : w4.heap.size < w5.heap.size := G5.own.blk_lt _ rfl
                have H5 : Hid (Block w5 g 12 (sdCell g 6 s.peer s.simult s.me want s.cookie s.challenge) ∧ Turned (fun k => k = g) w w5 ∧ Gather w5 w.heap.size (.slice (some ⟨w4.heap.size, 0, none⟩) 1 1) [.slice aV LV cV] [zs]) := ⟨B5, T5, G5⟩
                obtain ⟨k6, _⟩ := B5 6 (by omega)
                obtain ⟨k7, _⟩ := B5 7 (by omega)
                obtain ⟨k8, _⟩ := B5 8 (by omega)
                obtain ⟨k11, _⟩ := B5 11 (by omega)
                simp only [sdCell] at k6 k7 k8 k11
                have hg5 : g < w5.heap.size := B5.lt (by omega)
                have htl := sd_tell s.challengeMsg ⟨HOK.out.1.flags, HOK.out.1.creation, ⟨by have := HOK.out.2; simp only [Sd.challengeMsg]; omega, by have := HOK.out.2; simp only [Sd.challengeMsg]; omega⟩, fun z hz => by cases hz⟩ HNS.out (w := w5.drew) (D := .slice none 0 0) (.inl ⟨rfl, rfl⟩) (g5.below ((Below.refl _ _).drew)).er
                unfold msgV' at htl
                simp only [Sd.challengeMsg, Msg.zero] at htl
                generalize hWy : writeOf _ = ys at htl
                have HWy : Hid (writeOf s.challengeMsg = ys) := hWy
                clear hWy hw5 TS OS T5 B5 G5 g5 k1 k5 f1 f5 hz4
                go_wp2_with fail
                go_region_held3 (fun w' => w'.cell? ⟨g, 7, none⟩ = some (.int .u64 s.me.flags) ∧ w'.cell? ⟨g, 11, none⟩ = some (.int .u32 s.challenge) ∧ w'.cell? ⟨g, 8, none⟩ = some (.int .u32 s.me.creation) ∧ w'.cell? ⟨g, 6, none⟩ = some (.string s.me.name))
                  (go_keep)
                  (first
                    | (go_at_call 51; refine htl.mono ?_; rintro e w6 ⟨V2, rfl, ho2, hb60, hk60⟩; have hb6 := drew_below hb60; have s7 := (hb6.cell (p := ⟨g, 7, none⟩) hg5).trans k7; have s11 := (hb6.cell (p := ⟨g, 11, none⟩) hg5).trans k11; have s8 := (hb6.cell (p := ⟨g, 8, none⟩) hg5).trans k8; have s6 := (hb6.cell (p := ⟨g, 6, none⟩) hg5).trans k6; have hk6 : ∀ k, blk V2 k → w5.heap.size ≤ k := hk60; have H6 := Hid.mk7 (And.intro ho2 (And.intro hb6 hk6)); have hg6 : g < w6.heap.size := Nat.lt_of_lt_of_le hg5 hb6.size; have h46 : w4.heap.size < w6.heap.size := Nat.lt_of_lt_of_le h45 hb6.size; obtain ⟨aW, cW, LW, rfl⟩ : ∃ a c L, V2 = .slice a L c := ⟨_, _, _, ho2.sl.form.choose_spec.choose_spec.1⟩; clear hb60 hk60 hb6 ho2 hk6 htl)
                    | (refine step_append_rows (by rfl) (.tmp 53) (.tmp 75) (by rfl) Tryz.rows (by rfl) (by rfl) (append_told H5.out.2.2 H6.out.2.1 _).own (Gather.one H6.out.1 (B := 0) (fun _ _ => Nat.zero_le _) (Nat.zero_le _) _).own.sl (fun u hu => by simp at hu; subst hu; rfl) (by simp) ?_; intro v7 w7 ho7 ht7 hv7; have t7 := ht7.cell (p := ⟨g, 7, none⟩) ((alloc0m w6 _).cell (p := ⟨g, 7, none⟩) s7 (fun h => h)) (fun h => by have h : w4.heap.size = g := h; omega); have t11 := ht7.cell (p := ⟨g, 11, none⟩) ((alloc0m w6 _).cell (p := ⟨g, 11, none⟩) s11 (fun h => h)) (fun h => by have h : w4.heap.size = g := h; omega); have t8 := ht7.cell (p := ⟨g, 8, none⟩) ((alloc0m w6 _).cell (p := ⟨g, 8, none⟩) s8 (fun h => h)) (fun h => by have h : w4.heap.size = g := h; omega); have t6 := ht7.cell (p := ⟨g, 6, none⟩) ((alloc0m w6 _).cell (p := ⟨g, 6, none⟩) s6 (fun h => h)) (fun h => by have h : w4.heap.size = g := h; omega)))
                all_goals
                  obtain ⟨q1, q2, q3⟩ := H6.out
                  have hgt := (append_told H5.out.2.2 q2 (.cells #[.slice aW LW cW] 25)).snoc (l := ys) (by have := H5.out.2.1.size; have := q2.size; simp only [World.size_alloc]; omega) (q1.sl.turned (alloc0m w6 _) (fun _ _ h => h)) (fun k hk => ⟨by have := q3 k hk; have := H5.out.2.1.size; omega, by have := q1.blk_lt k hk; simp only [World.size_alloc]; omega, fun h => by have h : w4.heap.size = k := h; have := q3 k hk; omega⟩) ho7 ht7 hv7
                  have hT7 : Turned (fun k => k = g) w w7 := ((H5.out.2.1.trans (Turned.ofBelow (S := fun _ => False) q2) (fun _ h => h.elim)).trans (alloc0m w6 _) (fun _ h => h.elim)).trans ht7 (fun k hk => .inr (by have hk : w4.heap.size = k := hk; have := H4.out.2.1.size; omega))
                  have hB7 := ((H5.out.1.turned (Turned.ofBelow (S := fun _ => False) q2) (fun h => h)).turned (alloc0m w6 _) (fun h => h)).turned ht7 (fun h => by have h : w4.heap.size = g := h; omega)
                  have H7 := Hid.mk7 (And.intro hgt (And.intro hT7 hB7))
                  obtain ⟨aZ, cZ, LZ, rfl⟩ : ∃ a c L, v7 = .slice a L c := ⟨_, _, _, ho7.sl.form.choose_spec.choose_spec.1⟩
                  clear hgt hT7 hB7 ho7 ht7 hv7 t7 t11 t8 t6 s7 s11 s8 s6 k7 k11 k8 k6 q1 q2 q3
                  go_wp2
                  go_ret2
                  rw [HT4.out, HWz.out, HWy.out]
                  refine ⟨_, _, _, rfl, rfl, H7.out.1, ⟨s.me, want, s.cookie, s.challenge, ?_, fun _ _ => ⟨rfl, rfl, fun h => absurd h (show ¬ (6 : Int) ≤ 3 by decide), fun _ => rfl⟩⟩, H7.out.2.1⟩
                  have h7 := H7.out.2.2
                  rw [HSI.out] at h7
                  exact h7
              case neg =>
                have HT4 : Hid (tk = ([], s.dead, [writeOf (statusMsg st)])) := HT5.out.trans (if_neg (fun h => h.elim h2 h1))
                rw [eq_stOk'] at h2
                rw [eq_stSim'] at h1
                have q1 := beq_eq_false_iff_ne.2 h1
                have q2 := beq_eq_false_iff_ne.2 h2
                clear h1 h2 HT5
                have htl := sd_tell (statusMsg st) (status_ok _) zname (w := w3) (D := .slice none 0 0) (.inl ⟨rfl, rfl⟩) (HG.out.below H3.out.2).er
                unfold msgV' at htl
                simp only [statusMsg, Msg.zero] at htl
                generalize hWz : writeOf _ = zs at htl
                have HWz : Hid (writeOf (statusMsg st) = zs) := hWz
                clear hWz
                go_wp2_with fail
                refine htl.mono ?_
                rintro e w4 ⟨V, rfl, ho, hb4, hk4⟩
                have B4 := H3.out.2.trans (hb4.mono H3.out.2.size)
                have M4 := H3.out.1.turned (Turned.ofBelow (S := fun _ => False) hb4) (fun h => h)
                have A4 := (Below.refl w4.heap.size w4).alloc (Nat.le_refl _) (.cells #[V] 25)
                have H4 : Hid (SideM (w4.alloc (.cells #[V] 25)) g s s.me want s.cookie s.challenge ∧ Below w.heap.size w (w4.alloc (.cells #[V] 25)) ∧ Gather (w4.alloc (.cells #[V] 25)) w.heap.size (.slice (some ⟨w4.heap.size, 0, none⟩) 1 1) [V] [zs] ∧ g < w4.heap.size ∧ (∀ k, blk V k → k ≠ g) ∧ (∀ k, blk V k → k < w4.heap.size)) := ⟨M4.turned (Turned.ofBelow (S := fun _ => False) A4) (fun h => h), B4.trans (A4.mono B4.size), Gather.one ho (fun k hk => by have := hk4 k hk; have := H3.out.2.size; omega) B4.size _, M4.lt, fun k hk he => by have := hk4 k hk; have := H3.out.1.lt; omega, ho.blk_lt⟩
                obtain ⟨aV, cV, LV, rfl⟩ : ∃ a c L, V = .slice a L c := ⟨_, _, _, ho.sl.form.choose_spec.choose_spec.1⟩
                clear ho hb4 hk4 B4 M4 A4 htl
                have hdie := sd_die H4.out.1.cells s
                go_wp2_with fail
                refine hdie.mono ?_
                rintro e w5 ⟨rfl, hs5, ht5⟩
                have H5 : Hid (SideAt w5 g s.dead ∧ Turned (fun k => k = g) w w5 ∧ Gather w5 w.heap.size (.slice (some ⟨w4.heap.size, 0, none⟩) 1 1) [.slice aV LV cV] [zs]) := ⟨hs5, (Turned.ofBelow (S := fun k => k = g) H4.out.2.1).trans ht5 (fun _ h => .inl h), gather_turned H4.out.2.2.1 ht5 (fun {k} h he => by have h : w4.heap.size = k := h; have he : k = g := he; have := H4.out.2.2.2.1; omega) (one_each H4.out.2.2.2.2.1)⟩
                clear hs5 ht5 hdie
                go_wp2
                go_ret2
                rw [HT4.out, HWz.out]
                exact ⟨_, _, _, rfl, rfl, H5.out.2.2, H5.out.1, H5.out.2.1⟩
end Go.Proofs.YtmnibmgbicnamaaGreatDoor
