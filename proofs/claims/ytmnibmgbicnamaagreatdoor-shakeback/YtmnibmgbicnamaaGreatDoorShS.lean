/-
  Layer 8 (shake): the program's Take.
-/
import Derived.Test.YtmnibmgbicnamaaGreatDoorShR
namespace Go.Proofs.YtmnibmgbicnamaaGreatDoor
open Go.RowKit

/-- A side that is not yet told whether both began was not told so. -/
def Sd.Fresh (s : Sd) : Prop := (s.state = 1 ∨ s.state = 4 ∨ s.state = 5) → s.simult = false
theorem Sd.Fresh.dead (s : Sd) : s.dead.Fresh := fun _ => rfl
theorem Sd.Fresh.took {s : Sd} (h : s.Fresh) (m : Msg) (hk : m.kind = s.kind) : (s.took m).2.1.Fresh := by
  unfold Sd.took
  split
  · split
    · intro h; simp at h
    · exact h
  · split
    · split
      · intro h; simp at h
      · exact h
    · split
      · rename_i hk1
        intro _
        have h4 : s.state = 4 := by
          rw [hk1] at hk
          unfold Sd.kind at hk
          repeat' split at hk
          all_goals first
            | assumption
            | omega
        exact h (.inr (.inl h4))
      · split
        · intro h; simp at h
        · exact h
theorem Sd.Fresh.take {s : Sd} (h : s.Fresh) {b : List Int} (hr : ∀ z ∈ b, 0 ≤ z ∧ z < 256) : (s.take b).2.1.Fresh := by
  unfold Sd.take
  split
  · exact h
  · split
    · exact h
    · split
      · exact Sd.Fresh.dead s
      · rename_i hrd
        split
        · exact h.took _ (write_read s.kind b hr (by simpa using hrd)).2.2.2.2
        · exact Sd.Fresh.dead s
theorem Sd.Fresh.answer {s : Sd} (h : s.Fresh) (st : ByteArray) : (s.answer st).2.1.Fresh := by
  unfold Sd.answer
  repeat' split
  · exact h
  · exact h
  · exact h
  · intro h; simp at h
  · exact Sd.Fresh.dead s
/-- Which function takes a message in a state. -/
def stageFn (st : Int) : Nat := if st = 1 then 80 else if st = 2 then 81 else if st = 3 then 82 else if st = 4 then 83 else 84
theorem stage_enters (st : Int) : ∀ args w, (callFunc (stageFn st) args).run Tryz.prog w = .ok (.enter (stageFn st) args) w := by
  unfold stageFn
  repeat' split
  · exact enters_of Tryz.func80 (by kernel_rfl) rfl
  · exact enters_of Tryz.func81 (by kernel_rfl) rfl
  · exact enters_of Tryz.func82 (by kernel_rfl) rfl
  · exact enters_of Tryz.func83 (by kernel_rfl) rfl
  · exact enters_of Tryz.func84 (by kernel_rfl) rfl
set_option maxRecDepth 100000 in
set_option maxHeartbeats 3200000 in
theorem sd_stage {w : World} {g : Nat} {s : Sd} (h : SideAt w g s) (hst : s.state = 1 ∨ s.state = 2 ∨ s.state = 3 ∨ s.state = 4 ∨ s.state = 6) : Calls Tryz.prog 55 #[.pointer (some ⟨g, 0, none⟩)] w fun e w' => e = .returned (.agg #[.int .i64 s.kind, .func (.func (stageFn s.state)) #[.pointer (some ⟨g, 0, none⟩)] #[]]) ∧ Below w.heap.size w w' := by
  obtain ⟨me, want, cookie, ch, h⟩ := h
  have hgl := h.lt
  obtain ⟨k1, _⟩ := h.cells 1 (by omega)
  simp only [sdCell] at k1
  clear h
  unfold Sd.kind
  generalize s.state = st at hst k1
  rcases hst with rfl | rfl | rfl | rfl | rfl
  · go_enter Tryz.func55, Tryz.ntmps55
    go_wp2
    exact bodyPost_ret (v := .agg #[.int .i64 2, .func (.func 80) #[.pointer (some ⟨g, 0, none⟩)] #[]]) (by simp [results, Tryz.results55, go_sem]) rfl ⟨rfl, (Below.refl _ _).alloc (Nat.le_refl _) _⟩
  · go_enter Tryz.func55, Tryz.ntmps55
    go_wp2
    exact bodyPost_ret (v := .agg #[.int .i64 3, .func (.func 81) #[.pointer (some ⟨g, 0, none⟩)] #[]]) (by simp [results, Tryz.results55, go_sem]) rfl ⟨rfl, (Below.refl _ _).alloc (Nat.le_refl _) _⟩
  · go_enter Tryz.func55, Tryz.ntmps55
    go_wp2
    exact bodyPost_ret (v := .agg #[.int .i64 5, .func (.func 82) #[.pointer (some ⟨g, 0, none⟩)] #[]]) (by simp [results, Tryz.results55, go_sem]) rfl ⟨rfl, (Below.refl _ _).alloc (Nat.le_refl _) _⟩
  · go_enter Tryz.func55, Tryz.ntmps55
    go_wp2
    exact bodyPost_ret (v := .agg #[.int .i64 1, .func (.func 83) #[.pointer (some ⟨g, 0, none⟩)] #[]]) (by simp [results, Tryz.results55, go_sem]) rfl ⟨rfl, (Below.refl _ _).alloc (Nat.le_refl _) _⟩
  · go_enter Tryz.func55, Tryz.ntmps55
    go_wp2
    exact bodyPost_ret (v := .agg #[.int .i64 4, .func (.func 84) #[.pointer (some ⟨g, 0, none⟩)] #[]]) (by simp [results, Tryz.results55, go_sem]) rfl ⟨rfl, (Below.refl _ _).alloc (Nat.le_refl _) _⟩
/-- Whatever message comes in a state. -/
theorem sd_step {w : World} {g : Nat} (hbig : Big g) {s : Sd} (h : SideAt w g s) (hs : s.Ok) (hfr : s.Fresh) (hG : Gd w) (m : Msg) (hm : m.Ok) (hl : m.digest.length ≤ 140737488355328) (hk : m.kind = s.kind) (hst : s.state = 1 ∨ s.state = 2 ∨ s.state = 3 ∨ s.state = 4 ∨ s.state = 6) {D : Value} (hD : Sl w D m.digest) : Calls Tryz.prog (stageFn s.state) #[.pointer (some ⟨g, 0, none⟩), msgV' m D] w (StepTold w g (s.took m) s) := by
  have hform : ∃ a L c, D = .slice a L c := by obtain ⟨a, c, h, _⟩ := hD.form; exact ⟨a, _, c, h⟩
  rcases hst with e | e | e | e | e
  · have : s.kind = 2 := by unfold Sd.kind; rw [e]; rfl
    rw [e]; exact sd_takeStatus h e (hfr (.inl e)) m (by omega) hform
  · have : s.kind = 3 := by unfold Sd.kind; rw [e]; rfl
    rw [e]; exact sd_takeChallenge hbig h e hs hG m hm (by omega) hform
  · have : s.kind = 5 := by unfold Sd.kind; rw [e]; rfl
    rw [e]; exact sd_takeAck h e hs hG m hm hl (by omega) hD
  · have : s.kind = 1 := by unfold Sd.kind; rw [e]; rfl
    rw [e]; exact sd_takeName h e m (by omega) hform
  · have : s.kind = 4 := by unfold Sd.kind; rw [e]; rfl
    rw [e]; exact sd_takeReply h e hs hG m hm hl (by omega) hD
/-- What handle tells. -/
def HandleTold (w : World) (g : Nat) (s : Sd) (b : List Int) (e : Ending) (w' : World) : Prop :=
  ((readOf s.kind b).1 ≠ [] ∧ ∃ v, e = .returned (.tuple #[.slice none 0 0, v]) ∧ FaultC w.heap.size w' v (readOf s.kind b).1 ∧ SideAt w' g s ∧ Below w.heap.size w w') ∨
  ((readOf s.kind b).1 = [] ∧ ∃ W, Below w.heap.size w W ∧ StepTold W g (s.took (readOf s.kind b).2) s e w')
theorem fault_cases {B : Nat} {w : World} {v : Value} : ∀ {ls : List Lnk}, FaultC B w v ls → (ls = [] ∧ v = .nilIface) ∨ (ls ≠ [] ∧ ∃ pb, v = .iface 131 (.pointer (some ⟨pb, 0, none⟩)))
  | [], h => .inl ⟨rfl, h⟩
  | [_], ⟨pb, _, h, _⟩ => .inr ⟨by simp, pb, h⟩
  | [_, _], ⟨pb, _, _, _, h, _⟩ => .inr ⟨by simp, pb, h⟩
  | _ :: _ :: _ :: _, h => h.elim
theorem read_few (k : Int) (b : List Int) : (readOf k b).2.digest.length ≤ b.length := by
  unfold readOf
  repeat' split
  all_goals simp [Msg.zero]
set_option maxRecDepth 100000 in
set_option maxHeartbeats 3200000 in
theorem sd_handle {w : World} {g : Nat} (hbig : Big g) {s : Sd} (h : SideAt w g s) (hs : s.Ok) (hfr : s.Fresh) (hG : Gd w) (hst : s.state = 1 ∨ s.state = 2 ∨ s.state = 3 ∨ s.state = 4 ∨ s.state = 6) {B : Value} {b : List Int} (hB : Sl w B b) (hr : ∀ z ∈ b, 0 ≤ z ∧ z < 256) (hl : b.length ≤ 140737488355328) :
    Calls Tryz.prog 56 #[.agg #[.int .i64 s.kind, .func (.func (stageFn s.state)) #[.pointer (some ⟨g, 0, none⟩)] #[]], B] w (HandleTold w g s b) := by
  have hrd := fun o : Obj => sh_read s.kind (hB.turned (alloc0m w o) (fun _ _ h => h)) hr hl (hG.er.below ((Below.refl _ _).alloc (Nat.le_refl _) o))
  have HSA := Hid.mk7 h
  have HSTEP : Hid (∀ (W : World) (D : Value), Below w.heap.size w W → (readOf s.kind b).1 = [] → Sl W D (readOf s.kind b).2.digest → Calls Tryz.prog (stageFn s.state) #[.pointer (some ⟨g, 0, none⟩), msgV' (readOf s.kind b).2 D] W (StepTold W g (s.took (readOf s.kind b).2) s)) := fun W D hW h0 hD => sd_step hbig (h.below hW) hs hfr (hG.below hW) _ (read_ok _ _ hr) (Nat.le_trans (read_few _ _) hl) (write_read s.kind b hr h0).2.2.2.2 hst hD
  obtain ⟨a, c, L, rfl⟩ : ∃ a c L, B = .slice a L c := ⟨_, _, _, hB.form.choose_spec.choose_spec.1⟩
  unfold ReadTold at hrd
  clear h hs hfr hG hst hB hr hl hbig
  unfold HandleTold
  generalize hro : readOf s.kind b = ro at hrd HSTEP ⊢
  obtain ⟨ls, m⟩ := ro
  generalize s.kind = kk at hrd hro
  have hen := stage_enters s.state
  generalize stageFn s.state = fn at HSTEP hen ⊢
  generalize s.took (ls, m).2 = tk at HSTEP ⊢
  simp only at hrd HSTEP ⊢
  clear hro
  go_enter Tryz.func56, Tryz.ntmps56
  go_wp2_with fail
  refine (hrd _).mono ?_
  rintro e w1 ⟨D, v, rfl, hf, hD, hDk, hb⟩
  have B1 : Below w.heap.size w w1 := ((Below.refl _ _).alloc (Nat.le_refl _) _).trans (hb.mono (by simp))
  have hf1 : FaultC w.heap.size w1 v ls := hf.mono (by simp)
  have c0 : w1.cell? ⟨w.heap.size, 0, none⟩ = some (.int .i64 kk) := (hb.cell (p := ⟨w.heap.size, 0, none⟩) (by simp)).trans (by simp)
  have c1 : w1.cell? ⟨w.heap.size, 1, none⟩ = some (.func (.func fn) #[.pointer (some ⟨g, 0, none⟩)] #[]) := (hb.cell (p := ⟨w.heap.size, 1, none⟩) (by simp)).trans (by simp)
  have hw1 : w.heap.size < w1.heap.size := World.block_lt_of_cell? w1 _ c0
  obtain ⟨aD, cD, LD, rfl⟩ : ∃ a c L, D = .slice a L c := ⟨_, _, _, hD.form.choose_spec.choose_spec.1⟩
  have H1 : Hid (Below w.heap.size w w1 ∧ FaultC w.heap.size w1 v ls ∧ Sl w1 (.slice aD LD cD) m.digest) := ⟨B1, hf1, hD⟩
  unfold msgV'
  clear hf hD hDk hb B1 hrd
  rcases fault_cases hf1 with ⟨hls, rfl⟩ | ⟨hls, pb, rfl⟩
  · have A1 := (Below.refl w1.heap.size w1).alloc (Nat.le_refl _) (.cells #[.int .i64 m.kind, .int .u64 m.flags, .int .u32 m.creation, .int .u32 m.challenge, .string m.name, .string m.status, .slice aD LD cD] 27)
    have BW := H1.out.1.trans (A1.mono H1.out.1.size)
    have hst := HSTEP.out _ _ BW hls (H1.out.2.2.turned (Turned.ofBelow (S := fun _ => False) A1) (fun _ _ h => h))
    unfold msgV' at hst
    have HLS := Hid.mk7 hls
    have HBW := Hid.mk7 BW
    clear A1 hls hf1 BW
    go_wp2_with fail
    refine hst.mono ?_
    rintro e w2 h2
    rcases h2 with ⟨hx, V, vs, rfl, hgt, hsd, hT⟩ | ⟨hx, v, rfl, hf2, hsd, hb2⟩
    · have HN : Hid (StepTold _ g tk s (.returned (.tuple #[V, .nilIface])) w2) := .inl ⟨hx, V, vs, rfl, hgt, hsd, hT⟩
      obtain ⟨aV, cV, LV, rfl⟩ : ∃ a c L, V = .slice a L c := ⟨_, _, _, hgt.own.sl.form.choose_spec.choose_spec.1⟩
      clear hgt hsd hT hst
      go_wp2
      go_ret2
      exact .inr ⟨HLS.out, _, HBW.out, HN.out⟩
    · have HN : Hid (StepTold _ g tk s (.returned (.tuple #[.slice none 0 0, v])) w2) := .inr ⟨hx, v, rfl, hf2, hsd, hb2⟩
      obtain ⟨pb, _, rfl, _⟩ := hf2
      clear hsd hb2 hst
      go_wp2
      go_ret2
      exact .inr ⟨HLS.out, _, HBW.out, HN.out⟩
  · have HLS := Hid.mk7 hls
    clear hls hf1
    go_wp2
    go_ret2
    exact .inl ⟨HLS.out, _, rfl, H1.out.2.1.turned (alloc0m w1 _) (fun _ _ _ h => h), HSA.out.below (H1.out.1.alloc H1.out.1.size _), H1.out.1.alloc H1.out.1.size _⟩
/-- What Take and Answer tell. -/
def SideTold (w : World) (g : Nat) (x : List Lnk × Sd × List (List Int)) (e : Ending) (w' : World) : Prop := ∃ V v vs, e = .returned (.tuple #[V, v]) ∧ FaultC w.heap.size w' v x.1 ∧ Gather w' w.heap.size V vs x.2.2 ∧ SideAt w' g x.2.1 ∧ Turned (fun k => k = g) w w'
theorem Gather.mono {w : World} {B C : Nat} {v : Value} {vs : List Value} {ls : List (List Int)} (h : Gather w B v vs ls) (hC : C ≤ B) : Gather w C v vs ls := ⟨h.own, h.len, h.each, fun i h1 k hk => ⟨Nat.le_trans hC (h.off i h1 k hk).1, (h.off i h1 k hk).2⟩, fun k hk => Nat.le_trans hC (h.big k hk)⟩
set_option maxRecDepth 100000 in
set_option maxHeartbeats 3200000 in
theorem sd_take {w : World} {g : Nat} (hbig : Big g) {s : Sd} (h : SideAt w g s) (hs : s.Ok) (hfr : s.Fresh) (hG : Gd w) {B : Value} {b : List Int} (hB : Sl w B b) (hr : ∀ z ∈ b, 0 ≤ z ∧ z < 256) (hl : b.length ≤ 140737488355328) :
    Calls Tryz.prog 20 #[.pointer (some ⟨g, 0, none⟩), B] w (SideTold w g (s.take b)) := by
  have HSA := Hid.mk7 h
  obtain ⟨a, c, L, rfl⟩ : ∃ a c L, B = .slice a L c := ⟨_, _, _, hB.form.choose_spec.choose_spec.1⟩
  have hen : ∃ me want cookie ch, Block w g 12 (sdCell g s.state s.peer s.simult me want cookie ch) := by obtain ⟨me, want, cookie, ch, h⟩ := h; exact ⟨me, want, cookie, ch, h.cells⟩
  obtain ⟨me, want, cookie, ch, hbl⟩ := hen
  have hent := sd_enter hbl false
  obtain ⟨tk, htk⟩ : ∃ tk, tk = s.take b := ⟨_, rfl⟩
  rw [← htk]
  have HTK := Hid.mk7 htk
  clear htk hbl
  by_cases h8 : s.state = 8
  · have he : enterErr false s.state = sh 0 8 := by unfold enterErr; rw [if_pos h8]
    rw [he] at hent
    have HT2 : Hid (tk = (sh 0 8, s, [])) := HTK.out.trans (by unfold Sd.take; rw [if_pos h8])
    clear he h8 h hs hfr hG hB hr hl
    go_enter Tryz.func20, Tryz.ntmps20
    go_wp2_with fail
    refine hent.mono ?_
    rintro e w1 ⟨v, rfl, hf, hb⟩
    have HN : Hid (FaultC w.heap.size w1 v (sh 0 8) ∧ Below w.heap.size w w1) := ⟨hf, hb⟩
    obtain ⟨pb, _, rfl, _⟩ := hf
    clear hb hent
    go_wp2
    go_ret2
    rw [HT2.out]
    exact ⟨_, _, [], rfl, HN.out.1, Gather.nil _ _, HSA.out.below HN.out.2, Turned.ofBelow HN.out.2⟩
  by_cases h75 : s.state = 7 ∨ s.state = 5
  · have he : enterErr false s.state = sh 0 161 := by unfold enterErr; rw [if_neg h8, if_neg (by decide), if_pos h75]
    rw [he] at hent
    have HT2 : Hid (tk = (sh 0 161, s, [])) := HTK.out.trans (by unfold Sd.take; rw [if_neg h8, if_pos h75])
    clear he h8 h75 h hs hfr hG hB hr hl
    go_enter Tryz.func20, Tryz.ntmps20
    go_wp2_with fail
    refine hent.mono ?_
    rintro e w1 ⟨v, rfl, hf, hb⟩
    have HN : Hid (FaultC w.heap.size w1 v (sh 0 161) ∧ Below w.heap.size w w1) := ⟨hf, hb⟩
    obtain ⟨pb, _, rfl, _⟩ := hf
    clear hb hent
    go_wp2
    go_ret2
    rw [HT2.out]
    exact ⟨_, _, [], rfl, HN.out.1, Gather.nil _ _, HSA.out.below HN.out.2, Turned.ofBelow HN.out.2⟩
  have he : enterErr false s.state = [] := by unfold enterErr; rw [if_neg h8, if_neg (by decide), if_neg h75]
  rw [he] at hent
  have hst : s.state = 1 ∨ s.state = 2 ∨ s.state = 3 ∨ s.state = 4 ∨ s.state = 6 := by have := hs.lo; have := hs.hi; omega
  have HSG : Hid (∀ W, Below w.heap.size w W → Calls Tryz.prog 55 #[.pointer (some ⟨g, 0, none⟩)] W fun e w' => e = .returned (.agg #[.int .i64 s.kind, .func (.func (stageFn s.state)) #[.pointer (some ⟨g, 0, none⟩)] #[]]) ∧ Below W.heap.size W w') := fun W hW => sd_stage (h.below hW) hst
  have HHD : Hid (∀ W, Below w.heap.size w W → Calls Tryz.prog 56 #[.agg #[.int .i64 s.kind, .func (.func (stageFn s.state)) #[.pointer (some ⟨g, 0, none⟩)] #[]], .slice a L c] W (HandleTold W g s b)) := fun W hW => sd_handle hbig (h.below hW) hs hfr (hG.below hW) hst (hB.turned (Turned.ofBelow (S := fun _ => False) hW) (fun _ _ h => h)) hr hl
  have HT2 : Hid (tk = if (readOf s.kind b).1 ≠ [] then ((readOf s.kind b).1, s.dead, []) else if (s.took (readOf s.kind b).2).1 = 0 then ([], (s.took (readOf s.kind b).2).2.1, (s.took (readOf s.kind b).2).2.2.map writeOf) else (sh 0 (s.took (readOf s.kind b).2).1, s.dead, [])) := HTK.out.trans (by unfold Sd.take; rw [if_neg h8, if_neg h75])
  clear he h8 h75 h hs hfr hG hB hr hl hst HTK hbig
  unfold HandleTold at HHD
  generalize readOf s.kind b = ro at HHD HT2
  obtain ⟨ls, m⟩ := ro
  simp only at HHD HT2
  generalize s.took m = tm at HHD HT2
  generalize stageFn s.state = fn at HSG HHD
  generalize s.kind = kk at HSG HHD
  go_enter Tryz.func20, Tryz.ntmps20
  go_wp2_with fail
  refine hent.mono ?_
  rintro e w1 ⟨v, rfl, hf, hb⟩
  have hf : v = .nilIface := hf
  subst hf
  have HB1 := Hid.mk7 hb
  clear hb hent
  go_wp2_with fail
  refine (HSG.out w1 HB1.out).mono ?_
  rintro e w2 ⟨rfl, hb2⟩
  have HB2 := Hid.mk7 (HB1.out.trans (hb2.mono HB1.out.size))
  clear hb2
  go_wp2_with fail
  refine (HHD.out w2 HB2.out).mono ?_
  rintro e w3 h3
  rcases h3 with ⟨hls, v, rfl, hf3, hsd3, hb3⟩ | ⟨hls, W, hbW, ⟨hx, V, vs, rfl, hgt, hsd3, hT3⟩ | ⟨hx, v, rfl, hf3, hsd3, hb3⟩⟩
  · have HT3 : Hid (tk = (ls, s.dead, [])) := HT2.out.trans (if_pos hls)
    have B3 := HB2.out.trans (hb3.mono HB2.out.size)
    have HN : Hid (FaultC w.heap.size w3 v ls ∧ Below w.heap.size w w3 ∧ g < w.heap.size) := ⟨hf3.mono HB2.out.size, B3, HSA.out.lt⟩
    obtain ⟨me3, want3, cookie3, ch3, hm3⟩ := hsd3
    have hdie := sd_die hm3.cells s
    rcases fault_cases hf3 with ⟨h0, _⟩ | ⟨_, pb, rfl⟩
    · exact absurd h0 hls
    clear hls hf3 hb3 B3 hm3
    go_wp2_with fail
    refine hdie.mono ?_
    rintro e w4 ⟨rfl, hs4, ht4⟩
    have HN4 : Hid (SideAt w4 g s.dead ∧ Turned (fun k => k = g) w3 w4) := ⟨hs4, ht4⟩
    clear hs4 ht4 hdie
    go_wp2
    go_ret2
    rw [HT3.out]
    obtain ⟨q1, q2, q3⟩ := HN.out
    exact ⟨_, _, [], rfl, q1.turned HN4.out.2 (fun k hk _ he => by have he : k = g := he; omega), Gather.nil _ _, HN4.out.1, (Turned.ofBelow q2).trans HN4.out.2 (fun _ h => .inl h)⟩
  · have HT3 : Hid (tk = ([], tm.2.1, tm.2.2.map writeOf)) := HT2.out.trans ((if_neg (fun h => h hls)).trans (if_pos hx))
    have BW := HB2.out.trans (hbW.mono HB2.out.size)
    have HN : Hid (Gather w3 w.heap.size V vs (tm.2.2.map writeOf) ∧ SideAt w3 g tm.2.1 ∧ Turned (fun k => k = g) w w3) := ⟨hgt.mono BW.size, hsd3, (Turned.ofBelow (S := fun k => k = g) BW).trans hT3 (fun _ h => .inl h)⟩
    obtain ⟨aV, cV, LV, rfl⟩ : ∃ a c L, V = .slice a L c := ⟨_, _, _, hgt.own.sl.form.choose_spec.choose_spec.1⟩
    clear hgt hsd3 hT3 hbW BW hx hls
    go_wp2
    go_ret2
    rw [HT3.out]
    exact ⟨_, _, vs, rfl, rfl, HN.out⟩
  · have HT3 : Hid (tk = (sh 0 tm.1, s.dead, [])) := HT2.out.trans ((if_neg (fun h => h hls)).trans (if_neg hx))
    have BW := HB2.out.trans (hbW.mono HB2.out.size)
    have B3 := BW.trans (hb3.mono BW.size)
    have HN : Hid (FaultC w.heap.size w3 v (sh 0 tm.1) ∧ Below w.heap.size w w3 ∧ g < w.heap.size) := ⟨hf3.mono BW.size, B3, HSA.out.lt⟩
    obtain ⟨me3, want3, cookie3, ch3, hm3⟩ := hsd3
    have hdie := sd_die hm3.cells s
    obtain ⟨pb, _, rfl, _⟩ := hf3
    clear hls hb3 B3 hm3 BW hbW hx
    go_wp2_with fail
    refine hdie.mono ?_
    rintro e w4 ⟨rfl, hs4, ht4⟩
    have HN4 : Hid (SideAt w4 g s.dead ∧ Turned (fun k => k = g) w3 w4) := ⟨hs4, ht4⟩
    clear hs4 ht4 hdie
    go_wp2
    go_ret2
    rw [HT3.out]
    obtain ⟨q1, q2, q3⟩ := HN.out
    exact ⟨_, _, [], rfl, q1.turned HN4.out.2 (fun k hk _ he => by have he : k = g := he; omega), Gather.nil _ _, HN4.out.1, (Turned.ofBelow q2).trans HN4.out.2 (fun _ h => .inl h)⟩
end Go.Proofs.YtmnibmgbicnamaaGreatDoor
