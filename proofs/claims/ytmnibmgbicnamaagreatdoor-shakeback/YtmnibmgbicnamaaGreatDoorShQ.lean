/-
  Layer 8 (shake): what the program's sides do with a message.
-/
import Derived.Test.YtmnibmgbicnamaaGreatDoorShP
namespace Go.Proofs.YtmnibmgbicnamaaGreatDoor
open Go.RowKit

/-- What a step of a side tells, at a side g: messages, a refusal's number (0: none), the side behind it. -/
def StepTold (w : World) (g : Nat) (x : Int × Sd × List Msg) (s : Sd) (e : Ending) (w' : World) : Prop :=
  (x.1 = 0 ∧ ∃ V vs, e = .returned (.tuple #[V, .nilIface]) ∧ Gather w' w.heap.size V vs (x.2.2.map writeOf) ∧ SideAt w' g x.2.1 ∧ Turned (fun k => k = g) w w') ∨
  (x.1 ≠ 0 ∧ ∃ v, e = .returned (.tuple #[.slice none 0 0, v]) ∧ FaultC w.heap.size w' v (sh 0 x.1) ∧ SideAt w' g s ∧ Below w.heap.size w w')
/-- One slice of bytes as a list. -/
theorem Gather.one {w : World} {x : Value} {zs : List Int} {B : Nat} (hx : Own w x zs) (hk : ∀ k, blk x k → B ≤ k) (hB : B ≤ w.heap.size) (t : TypeId) : Gather (w.alloc (.cells #[x] t)) B (.slice (some ⟨w.heap.size, 0, none⟩) 1 1) [x] [zs] := by
  refine ⟨.inr ⟨w.heap.size, 0, 1, rfl, Nat.le_refl _, by decide, by simp, fun j hj => ?_, fun j hj => ?_⟩, rfl, fun i h1 h2 => ?_, fun i h1 k hk2 => ?_, fun k hk2 => ?_⟩
  · have : j = 0 := by simp at hj; omega
    subst this; simp
  · have : j = 0 := by omega
    subst this; exact ⟨by simp, by rw [World.frozen?_alloc_new]⟩
  · have : i = 0 := by simp at h1; omega
    subst this; exact hx.sl.turned (alloc0m w _) (fun _ _ h => h)
  · have : i = 0 := by simp at h1; omega
    subst this
    have h1 := hx.blk_lt k hk2
    exact ⟨hk k hk2, by simp; omega, fun h => by have h : w.heap.size = k := h; omega⟩
  · have hk2 : w.heap.size = k := hk2
    omega
theorem zname : Msg.zero.name.size ≤ 4611686018427387904 := by decide
theorem setcell_alloc (w : World) (o : Obj) (g : Nat) : Turned (fun k => k = g) w (w.alloc o) := Turned.alloc _ w o
/-- The refusal of a step. -/
theorem step_no {w w1 w2 : World} {g : Nat} {x : Int × Sd × List Msg} {s : Sd} {v : Value} (hx : x.1 ≠ 0) (hs : SideAt w g s) (hb1 : Below w.heap.size w w1) (hf : FaultC w1.heap.size w2 v (sh 0 x.1)) (hb2 : Below w1.heap.size w1 w2) : StepTold w g x s (.returned (.tuple #[.slice none 0 0, v])) w2 := by
  have B2 := hb1.trans (hb2.mono hb1.size)
  exact .inr ⟨hx, v, rfl, hf.mono hb1.size, hs.below B2, B2⟩

set_option maxRecDepth 100000 in
set_option maxHeartbeats 3200000 in
theorem sd_takeStatus {w : World} {g : Nat} {s : Sd} (h : SideAt w g s) (hst : s.state = 1) (hsi : s.simult = false) (m : Msg) (hk : m.kind = 2) {D : Value} (hD : ∃ a L c, D = .slice a L c) : Calls Tryz.prog 80 #[.pointer (some ⟨g, 0, none⟩), msgV' m D] w (StepTold w g (s.took m) s) := by
  have HSA := Hid.mk7 h
  obtain ⟨me, want, cookie, ch, h⟩ := h
  obtain ⟨a, L, c, rfl⟩ := hD
  have hgl := h.lt
  have HB := Hid.mk7 h
  obtain ⟨k1, f1⟩ := h.cells 1 (by omega)
  obtain ⟨k5, f5⟩ := h.cells 5 (by omega)
  simp only [sdCell] at k1 k5
  have hkp := h.keeps (by omega) (by omega)
  have HKP := Hid.mk7 hkp
  have htk : s.took m = if m.status = stOk ∨ m.status = stSim then (0, { s with state := 2, simult := decide (m.status = stSim) }, []) else (164, s, []) := by unfold Sd.took; rw [if_pos hk]
  have HS1 : Hid (s.state = 1 ∧ s.simult = false) := ⟨hst, hsi⟩
  unfold msgV'
  clear h hkp
  by_cases h1 : m.status = stSim
  · rw [if_pos (.inr h1), h1, decide_eq_true rfl] at htk
    rw [htk, h1]
    unfold stSim
    clear htk h1 hst hsi hk
    go_enter Tryz.func80, Tryz.ntmps80
    go_wp2
    go_ret2
    obtain ⟨q1, q2, q3, q4⟩ := HKP.out
    have hq := q3 (by rw [HS1.out.1]; decide)
    refine .inl ⟨rfl, _, [], rfl, Gather.nil _ _, ⟨me, want, cookie, ch, ?_, fun _ _ => ⟨q1, q2, fun _ => hq, fun h => absurd h (show ¬ (4 : Int) ≤ 2 by decide)⟩⟩, ?_⟩
    · exact (((HB.out.cells.set 5 (.bool true)).set 1 (.int .i64 2)).turned (alloc0m _ _) (fun h => h)).congr (forall12 rfl rfl rfl rfl rfl rfl rfl rfl rfl rfl rfl rfl)
    · exact ((Turned.set1 _ g 5 _).trans (Turned.set1 _ g 1 _) (fun _ h => .inl h)).trans (setcell_alloc _ _ g) (fun _ h => .inl h)
  by_cases h2 : m.status = stOk
  · rw [if_pos (.inl h2), h2, decide_eq_false (by decide)] at htk
    rw [htk, h2]
    unfold stOk
    clear htk h1 h2 hst hsi hk
    go_enter Tryz.func80, Tryz.ntmps80
    go_wp2
    go_ret2
    obtain ⟨q1, q2, q3, q4⟩ := HKP.out
    have hq := q3 (by rw [HS1.out.1]; decide)
    refine .inl ⟨rfl, _, [], rfl, Gather.nil _ _, ⟨me, want, cookie, ch, ?_, fun _ _ => ⟨q1, q2, fun _ => hq, fun h => absurd h (show ¬ (4 : Int) ≤ 2 by decide)⟩⟩, ?_⟩
    · refine ((HB.out.cells.set 1 (.int .i64 2)).turned (alloc0m _ _) (fun h => h)).congr (forall12 rfl rfl rfl rfl rfl ?_ rfl rfl rfl rfl rfl rfl)
      show Value.bool s.simult = .bool false
      rw [HS1.out.2]
    · exact (Turned.set1 _ g 1 _).trans (setcell_alloc _ _ g) (fun _ h => .inl h)
  · rw [if_neg (fun h => h.elim h2 h1)] at htk
    rw [htk]
    rw [eq_stOk'] at h2
    rw [eq_stSim'] at h1
    have q1 := beq_eq_false_iff_ne.2 h1
    have q2 := beq_eq_false_iff_ne.2 h2
    clear htk h1 h2 hst hsi hk
    go_enter Tryz.func80, Tryz.ntmps80
    go_wp2_with fail
    refine (sh_refuse _ _ _).mono ?_
    rintro e w2 ⟨v, rfl, hf, hb⟩
    have HN := Hid.mk7 (step_no (x := (164, s, [])) (show (164 : Int) ≠ 0 by decide) HSA.out ((Below.refl _ _).alloc (Nat.le_refl _) _) hf hb)
    obtain ⟨pb, _, rfl, _⟩ := hf
    clear hb
    go_wp2
    go_ret2
    exact HN.out
set_option maxRecDepth 100000 in
set_option maxHeartbeats 3200000 in
theorem sd_takeName {w : World} {g : Nat} {s : Sd} (h : SideAt w g s) (hst : s.state = 4) (m : Msg) (hk : m.kind = 1) {D : Value} (hD : ∃ a L c, D = .slice a L c) : Calls Tryz.prog 83 #[.pointer (some ⟨g, 0, none⟩), msgV' m D] w (StepTold w g (s.took m) s) := by
  obtain ⟨me, want, cookie, ch, h⟩ := h
  have hpo := fun W : World => sd_peerOf m D hD W
  obtain ⟨a, L, c, rfl⟩ := hD
  have hgl := h.lt
  have HB := Hid.mk7 h
  have hkp := h.keeps (by omega) (by omega)
  have HKP := Hid.mk7 hkp
  have htk : s.took m = (0, { s with state := 5, peer := ⟨m.name, m.flags, m.creation⟩ }, []) := by unfold Sd.took; rw [if_neg (by omega), if_neg (by omega), if_pos hk]
  rw [htk]
  have HS1 : Hid (s.state = 4) := hst
  unfold msgV' at hpo ⊢
  clear h hkp htk hk hst
  go_enter Tryz.func83, Tryz.ntmps83
  go_wp2_with fail
  refine (hpo _).mono ?_
  rintro e w1 ⟨rfl, hb⟩
  have HB1 : Hid (SideM w1 g s me want cookie ch ∧ Below w.heap.size w w1) := ⟨(HB.out.turned (alloc0m w _) (fun h => h)).turned (Turned.ofBelow (S := fun _ => False) hb) (fun h => h), ((Below.refl _ _).alloc (Nat.le_refl _) _).trans (hb.mono (by simp))⟩
  obtain ⟨k1, f1⟩ := HB1.out.1.cells 1 (by omega)
  obtain ⟨k2, f2⟩ := HB1.out.1.cells 2 (by omega)
  obtain ⟨k3, f3⟩ := HB1.out.1.cells 3 (by omega)
  obtain ⟨k4, f4⟩ := HB1.out.1.cells 4 (by omega)
  simp only [sdCell] at k1 k2 k3 k4
  clear hb hpo
  go_wp2
  go_ret2
  obtain ⟨q1, q2, q3, q4⟩ := HKP.out
  have hq := q4 (by rw [HS1.out]; decide)
  refine .inl ⟨rfl, _, [], rfl, Gather.nil _ _, ⟨me, want, cookie, ch, ?_, fun _ _ => ⟨q1, q2, fun h => absurd h (show ¬ (5 : Int) ≤ 3 by decide), fun _ => hq⟩⟩, ?_⟩
  · exact ((((HB1.out.1.cells.set 1 (.int .i64 5)).set 2 (.string m.name)).set 3 (.int .u64 m.flags)).set 4 (.int .u32 m.creation)).congr (forall12 rfl rfl rfl rfl rfl rfl rfl rfl rfl rfl rfl rfl)
  · exact ((((Turned.ofBelow (S := fun k => k = g) HB1.out.2).trans (Turned.set1 _ g 1 _) (fun _ h => .inl h)).trans (Turned.set1 _ g 2 _) (fun _ h => .inl h)).trans (Turned.set1 _ g 3 _) (fun _ h => .inl h)).trans (Turned.set1 _ g 4 _) (fun _ h => .inl h)
set_option maxRecDepth 100000 in
set_option maxHeartbeats 3200000 in
theorem sd_takeAck {w : World} {g : Nat} {s : Sd} (h : SideAt w g s) (hst : s.state = 3) (hs : s.Ok) (hG : Gd w) (m : Msg) (hm : m.Ok) (hl : m.digest.length ≤ 140737488355328) (hk : m.kind = 5) {D : Value} (hD : Sl w D m.digest) : Calls Tryz.prog 82 #[.pointer (some ⟨g, 0, none⟩), msgV' m D] w (StepTold w g (s.took m) s) := by
  have HSA := Hid.mk7 h
  obtain ⟨me, want, cookie, ch, h⟩ := h
  have hgl := h.lt
  have HB := Hid.mk7 h
  obtain ⟨hkc, hkn, _, _⟩ := h.keeps (by omega) (by omega)
  have hck := hs.live (by omega) (by omega)
  have htk : s.took m = if m.digest = digestOf s.cookie s.challenge then (0, { s with state := 7 }, []) else (163, s, []) := by unfold Sd.took; rw [if_neg (by omega), if_neg (by omega), if_neg (by omega), if_pos hk]
  subst hkc hkn
  have hsh := fun o : Obj => sd_shown (h.cells.turned (alloc0m w o) (fun h => h)) hck hs.num (hD.turned (alloc0m w o) (fun _ _ h => h)) hm.digest hl (hG.below ((Below.refl _ _).alloc (Nat.le_refl _) o))
  obtain ⟨a, L, c, rfl⟩ : ∃ a c L, D = .slice a L c := ⟨_, _, _, hD.form.choose_spec.choose_spec.1⟩
  unfold msgV'
  clear h hs hD hm hl
  by_cases hd : m.digest = digestOf s.cookie s.challenge
  · rw [if_pos hd] at htk
    rw [htk]
    rw [decide_eq_true hd] at hsh
    clear htk hd hk hst hck
    go_enter Tryz.func82, Tryz.ntmps82
    go_wp2_with fail
    refine (hsh _).mono ?_
    rintro e w1 ⟨rfl, hb⟩
    have HB1 : Hid (SideM w1 g s me want s.cookie s.challenge ∧ Below w.heap.size w w1) := ⟨(HB.out.turned (alloc0m w _) (fun h => h)).turned (Turned.ofBelow (S := fun _ => False) hb) (fun h => h), ((Below.refl _ _).alloc (Nat.le_refl _) _).trans (hb.mono (by simp))⟩
    have hri := sd_rise HB1.out.1.cells s rfl rfl
    clear hb hsh
    go_wp2_with fail
    refine hri.mono ?_
    rintro e w2 ⟨rfl, hs2, ht2⟩
    go_wp2
    go_ret2
    exact .inl ⟨rfl, _, [], rfl, Gather.nil _ _, hs2, (Turned.ofBelow (S := fun k => k = g) HB1.out.2).trans ht2 (fun _ h => .inl h)⟩
  · rw [if_neg hd] at htk
    rw [htk]
    rw [decide_eq_false hd] at hsh
    clear htk hd hk hst hck
    go_enter Tryz.func82, Tryz.ntmps82
    go_wp2_with fail
    refine (hsh _).mono ?_
    rintro e w1 ⟨rfl, hb⟩
    have HB1 : Hid (Below w.heap.size w w1) := ((Below.refl _ _).alloc (Nat.le_refl _) _).trans (hb.mono (by simp))
    clear hb hsh
    go_wp2_with fail
    refine (sh_refuse _ _ _).mono ?_
    rintro e w2 ⟨v, rfl, hf, hb⟩
    have HN := Hid.mk7 (step_no (x := (163, s, [])) (show (163 : Int) ≠ 0 by decide) HSA.out HB1.out hf hb)
    obtain ⟨pb, _, rfl, _⟩ := hf
    clear hb
    go_wp2
    go_ret2
    exact HN.out
set_option maxRecDepth 100000 in
set_option maxHeartbeats 3200000 in
theorem sd_takeReply {w : World} {g : Nat} {s : Sd} (h : SideAt w g s) (hst : s.state = 6) (hs : s.Ok) (hG : Gd w) (m : Msg) (hm : m.Ok) (hl : m.digest.length ≤ 140737488355328) (hk : m.kind = 4) {D : Value} (hD : Sl w D m.digest) : Calls Tryz.prog 84 #[.pointer (some ⟨g, 0, none⟩), msgV' m D] w (StepTold w g (s.took m) s) := by
  have HSA := Hid.mk7 h
  obtain ⟨me, want, cookie, ch, h⟩ := h
  have hgl := h.lt
  have HB := Hid.mk7 h
  obtain ⟨hkc, hkn, _, _⟩ := h.keeps (by omega) (by omega)
  have hck := hs.live (by omega) (by omega)
  have htk : s.took m = if m.digest = digestOf s.cookie s.challenge then (0, { s with state := 7 }, [{ Msg.zero with kind := 5, digest := digestOf s.cookie m.challenge.toNat }]) else (163, s, []) := by unfold Sd.took; rw [if_neg (by omega), if_neg (by omega), if_neg (by omega), if_neg (show ¬ m.kind = 5 by omega)]
  subst hkc hkn
  have hsh := fun o : Obj => sd_shown (h.cells.turned (alloc0m w o) (fun h => h)) hck hs.num (hD.turned (alloc0m w o) (fun _ _ h => h)) hm.digest hl (hG.below ((Below.refl _ _).alloc (Nat.le_refl _) o))
  obtain ⟨a, L, c, rfl⟩ : ∃ a c L, D = .slice a L c := ⟨_, _, _, hD.form.choose_spec.choose_spec.1⟩
  obtain ⟨n, hn⟩ : ∃ n : Nat, m.challenge = (n : Int) := ⟨m.challenge.toNat, by have := hm.challenge; omega⟩
  have hn2 : n < 4294967296 := by have := hm.challenge; omega
  unfold msgV'
  rw [hn] at htk ⊢
  rw [Int.toNat_natCast] at htk
  have HCK := Hid.mk7 hck
  have HGd := Hid.mk7 hG
  clear h hs hD hm hl hn
  by_cases hd : m.digest = digestOf s.cookie s.challenge
  · rw [if_pos hd] at htk
    rw [htk]
    rw [decide_eq_true hd] at hsh
    clear htk hd hk hst hck hG
    go_enter Tryz.func84, Tryz.ntmps84
    go_wp2_with fail
    refine (hsh _).mono ?_
    rintro e w1 ⟨rfl, hb⟩
    have A1 := ((Below.refl w.heap.size w).alloc (Nat.le_refl _) (.cells #[.int .i64 m.kind, .int .u64 m.flags, .int .u32 m.creation, .int .u32 (n : Nat), .string m.name, .string m.status, .slice a c L] 27))
    have HB1 : Hid (SideM w1 g s me want s.cookie s.challenge ∧ Below w.heap.size w w1) := ⟨(HB.out.turned (alloc0m w _) (fun h => h)).turned (Turned.ofBelow (S := fun _ => False) hb) (fun h => h), A1.trans (hb.mono (by simp))⟩
    have c3 : w1.cell? ⟨w.heap.size, 3, none⟩ = some (.int .u32 (n : Nat)) := (hb.cell (p := ⟨w.heap.size, 3, none⟩) (by simp)).trans (by simp)
    have hdg := sd_digest HB1.out.1.cells HCK.out n hn2 (HGd.out.below HB1.out.2)
    clear hb hsh A1
    go_wp2_with fail
    refine hdg.mono ?_
    rintro e w2 ⟨Vd, rfl, hod, hbd, _⟩
    have HB2 : Hid (SideM w2 g s me want s.cookie s.challenge ∧ Below w.heap.size w w2) := ⟨HB1.out.1.turned (Turned.ofBelow (S := fun _ => False) hbd) (fun h => h), HB1.out.2.trans (hbd.mono HB1.out.2.size)⟩
    have htl := sd_tell { Msg.zero with kind := 5, digest := digestOf s.cookie n } ⟨z64, z32, z32, digest_rng _ _⟩ zname hod.sl (HGd.out.below HB2.out.2).er
    obtain ⟨aV, cV, LV, rfl⟩ : ∃ a c L, Vd = .slice a L c := ⟨_, _, _, hod.sl.form.choose_spec.choose_spec.1⟩
    unfold msgV' at htl
    simp only [Msg.zero] at htl
    generalize hWz : writeOf _ = zs at htl
    have HWz := Hid.mk7 hWz
    clear hdg hod hbd c3 hWz
    go_wp2_with fail
    refine htl.mono ?_
    rintro e w3 ⟨V, rfl, ho, hb3, hk3⟩
    have HB3 : Hid (SideM w3 g s me want s.cookie s.challenge ∧ Below w.heap.size w w3 ∧ Own w3 V zs ∧ (∀ k, blk V k → w.heap.size ≤ k) ∧ (∀ k, blk V k → k ≠ g)) := ⟨HB2.out.1.turned (Turned.ofBelow (S := fun _ => False) hb3) (fun h => h), HB2.out.2.trans (hb3.mono HB2.out.2.size), ho, fun k hk => by have := hk3 k hk; have := HB2.out.2.size; omega, fun k hk he => by have := hk3 k hk; have := HB2.out.1.lt; omega⟩
    have hri := sd_rise HB3.out.1.cells s rfl rfl
    obtain ⟨aV', cV', LV', rfl⟩ : ∃ a c L, V = .slice a L c := ⟨_, _, _, ho.sl.form.choose_spec.choose_spec.1⟩
    clear htl ho hb3 hk3
    go_wp2_with fail
    refine hri.mono ?_
    rintro e w4 ⟨rfl, hs4, ht4⟩
    have hT : Turned (fun k => k = g) w w4 := (Turned.ofBelow (S := fun k => k = g) HB3.out.2.1).trans ht4 (fun _ h => .inl h)
    have ho4 := HB3.out.2.2.1.turned ht4 (fun k hk he => HB3.out.2.2.2.2 k hk he)
    have HN : Hid (SideAt w4 g { s with state := 7 } ∧ Turned (fun k => k = g) w w4 ∧ Own w4 (.slice aV' LV' cV') zs ∧ (∀ k, blk (.slice aV' LV' cV') k → w.heap.size ≤ k)) := ⟨hs4, hT, ho4, HB3.out.2.2.2.1⟩
    clear hs4 ht4 hT ho4 hri
    go_wp2
    go_ret2
    obtain ⟨q1, q2, q3, q4⟩ := HN.out
    have hg := Gather.one q3 q4 q2.size 25
    rw [← HWz.out] at hg
    exact .inl ⟨rfl, _, _, rfl, hg, q1.below ((Below.refl _ _).alloc (Nat.le_refl _) _), q2.trans (Turned.alloc (fun _ => False) w4 _) (fun _ h => h.elim)⟩
  · rw [if_neg hd] at htk
    rw [htk]
    rw [decide_eq_false hd] at hsh
    clear htk hd hk hst hck hG
    go_enter Tryz.func84, Tryz.ntmps84
    go_wp2_with fail
    refine (hsh _).mono ?_
    rintro e w1 ⟨rfl, hb⟩
    have HB1 : Hid (Below w.heap.size w w1) := ((Below.refl _ _).alloc (Nat.le_refl _) _).trans (hb.mono (by simp))
    clear hb hsh
    go_wp2_with fail
    refine (sh_refuse _ _ _).mono ?_
    rintro e w2 ⟨v, rfl, hf, hb⟩
    have HN := Hid.mk7 (step_no (x := (163, s, [])) (show (163 : Int) ≠ 0 by decide) HSA.out HB1.out hf hb)
    obtain ⟨pb, _, rfl, _⟩ := hf
    clear hb
    go_wp2
    go_ret2
    exact HN.out
end Go.Proofs.YtmnibmgbicnamaaGreatDoor
