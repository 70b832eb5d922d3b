/-
  Layer 8 (shake): what the program's sides do with a message.
  Layer 8 (shake): what the program's side does with a challenge.
  Layer 8 (shake): the program's Take.
-/
import Derived.Test.YtmnibmgbicnamaaGreatDoorK9
import Derived.Laws.EntriesVeiled
namespace Go.Proofs.YtmnibmgbicnamaaGreatDoor
open Go.RowKit

/-- What a step of a side tells, at a side g: messages, a refusal's number (0: none), the side behind it. -/
def StepTold (w : World) (g : Nat) (x : Int × Sd × List Msg) (s : Sd) (e : Ending) (w' : World) : Prop :=
  (x.1 = 0 ∧ ∃ V vs, e = .returned (.tuple #[V, .nilIface]) ∧ Gather w' w.heap.size V vs (x.2.2.map writeOf) ∧ SideAt w' g x.2.1 ∧ Turned (fun k => k = g) w w') ∨
  (x.1 ≠ 0 ∧ ∃ v, e = .returned (.tuple #[.slice none 0 0, v]) ∧ FaultC w.heap.size w' v (sh 0 x.1) ∧ SideAt w' g s ∧ Below w.heap.size w w')
/-- One slice of bytes as a list. -/
theorem Gather.one {w : World} {x : Value} {zs : List Int} {B : Nat} (hx : Own w x zs) (hk : ∀ k, blk x k → B ≤ k) (hB : B ≤ w.heap.size) (t : TypeId) : Gather (w.alloc (.cells #[x] t)) B (.slice (some ⟨w.heap.size, 0, none⟩) 1 1) [x] [zs] := by
  refine ⟨.inr ⟨w.heap.size, 0, 1, rfl, Nat.le_refl _, by decide, by simp, fun j hj => ?_, fun j hj => ?_⟩, rfl, fun i h1 h2 => ?_, fun i h1 k hk2 => ?_, fun k hk2 => ?_⟩
  · have : j = 0 := by simp at hj; omega
    subst this; simp
  · have : j = 0 := by omega
    subst this; exact ⟨by simp, by rw [World.frozen?_alloc_new]⟩
  · have : i = 0 := by simp at h1; omega
    subst this; exact hx.sl.turned (alloc0m w _) (fun _ _ h => h)
  · have : i = 0 := by simp at h1; omega
    subst this
    have h1 := hx.blk_lt k hk2
    exact ⟨hk k hk2, by simp; omega, fun h => by have h : w.heap.size = k := h; omega⟩
  · have hk2 : w.heap.size = k := hk2
    omega
theorem zname : Msg.zero.name.size ≤ 4611686018427387904 := by decide
theorem setcell_alloc (w : World) (o : Obj) (g : Nat) : Turned (fun k => k = g) w (w.alloc o) := Turned.alloc _ w o
/-- The refusal of a step. -/
theorem step_no {w w1 w2 : World} {g : Nat} {x : Int × Sd × List Msg} {s : Sd} {v : Value} (hx : x.1 ≠ 0) (hs : SideAt w g s) (hb1 : Below w.heap.size w w1) (hf : FaultC w1.heap.size w2 v (sh 0 x.1)) (hb2 : Below w1.heap.size w1 w2) : StepTold w g x s (.returned (.tuple #[.slice none 0 0, v])) w2 := by
  have B2 := hb1.trans (hb2.mono hb1.size)
  exact .inr ⟨hx, v, rfl, hf.mono hb1.size, hs.below B2, B2⟩

set_option maxRecDepth 100000 in
set_option maxHeartbeats 3200000 in
theorem sd_takeStatus {w : World} {g : Nat} {s : Sd} (h : SideAt w g s) (hst : s.state = 1) (hsi : s.simult = false) (m : Msg) (hk : m.kind = 2) {D : Value} (hD : ∃ a L c, D = .slice a L c) : Calls Tryz.prog 80 #[.pointer (some ⟨g, 0, none⟩), msgV' m D] w (StepTold w g (s.took m) s) := by
  have HSA := Hid.mk7 h
  obtain ⟨me, want, cookie, ch, h⟩ := h
  obtain ⟨a, L, c, rfl⟩ := hD
  have hgl := h.lt
  have HB := Hid.mk7 h
  obtain ⟨k1, f1⟩ := h.cells 1 (by omega)
  obtain ⟨k5, f5⟩ := h.cells 5 (by omega)
  simp only [sdCell] at k1 k5
  have hkp := h.keeps (by omega) (by omega)
  have HKP := Hid.mk7 hkp
  have htk : s.took m = if m.status = stOk ∨ m.status = stSim then (0, { s with state := 2, simult := decide (m.status = stSim) }, []) else (164, s, []) := by unfold Sd.took; rw [if_pos hk]
  have HS1 : Hid (s.state = 1 ∧ s.simult = false) := ⟨hst, hsi⟩
  unfold msgV'
  clear h hkp
  by_cases h1 : m.status = stSim
  · rw [if_pos (.inr h1), h1, decide_eq_true rfl] at htk
    rw [htk, h1]
    unfold stSim
    clear htk h1 hst hsi hk
    go_enter Tryz.func80, Tryz.ntmps80
    go_wp2
    go_ret2
    obtain ⟨q1, q2, q3, q4⟩ := HKP.out
    have hq := q3 (by rw [HS1.out.1]; decide)
    refine .inl ⟨rfl, _, [], rfl, Gather.nil _ _, ⟨me, want, cookie, ch, ?_, fun _ _ => ⟨q1, q2, fun _ => hq, fun h => absurd h (show ¬ (4 : Int) ≤ 2 by decide)⟩⟩, ?_⟩
    · exact (((HB.out.cells.set 5 (.bool true)).set 1 (.int .i64 2)).turned (alloc0m _ _) (fun h => h)).congr (forall12 rfl rfl rfl rfl rfl rfl rfl rfl rfl rfl rfl rfl)
    · exact ((Turned.set1 _ g 5 _).trans (Turned.set1 _ g 1 _) (fun _ h => .inl h)).trans (setcell_alloc _ _ g) (fun _ h => .inl h)
  by_cases h2 : m.status = stOk
  · rw [if_pos (.inl h2), h2, decide_eq_false (by decide)] at htk
    rw [htk, h2]
    unfold stOk
    clear htk h1 h2 hst hsi hk
    go_enter Tryz.func80, Tryz.ntmps80
    go_wp2
    go_ret2
    obtain ⟨q1, q2, q3, q4⟩ := HKP.out
    have hq := q3 (by rw [HS1.out.1]; decide)
    refine .inl ⟨rfl, _, [], rfl, Gather.nil _ _, ⟨me, want, cookie, ch, ?_, fun _ _ => ⟨q1, q2, fun _ => hq, fun h => absurd h (show ¬ (4 : Int) ≤ 2 by decide)⟩⟩, ?_⟩
    · refine ((HB.out.cells.set 1 (.int .i64 2)).turned (alloc0m _ _) (fun h => h)).congr (forall12 rfl rfl rfl rfl rfl ?_ rfl rfl rfl rfl rfl rfl)
      show Value.bool s.simult = .bool false
      rw [HS1.out.2]
    · exact (Turned.set1 _ g 1 _).trans (setcell_alloc _ _ g) (fun _ h => .inl h)
  · rw [if_neg (fun h => h.elim h2 h1)] at htk
    rw [htk]
    rw [eq_stOk'] at h2
    rw [eq_stSim'] at h1
    have q1 := beq_eq_false_iff_ne.2 h1
    have q2 := beq_eq_false_iff_ne.2 h2
    clear htk h1 h2 hst hsi hk
    go_enter Tryz.func80, Tryz.ntmps80
    go_wp2_with fail
    refine (sh_refuse _ _ _).mono ?_
    rintro e w2 ⟨v, rfl, hf, hb⟩
    have HN := Hid.mk7 (step_no (x := (164, s, [])) (show (164 : Int) ≠ 0 by decide) HSA.out ((Below.refl _ _).alloc (Nat.le_refl _) _) hf hb)
    obtain ⟨pb, _, rfl, _⟩ := hf
    clear hb
    go_wp2
    go_ret2
    exact HN.out
set_option maxRecDepth 100000 in
set_option maxHeartbeats 3200000 in
theorem sd_takeName {w : World} {g : Nat} {s : Sd} (h : SideAt w g s) (hst : s.state = 4) (m : Msg) (hk : m.kind = 1) {D : Value} (hD : ∃ a L c, D = .slice a L c) : Calls Tryz.prog 83 #[.pointer (some ⟨g, 0, none⟩), msgV' m D] w (StepTold w g (s.took m) s) := by
  obtain ⟨me, want, cookie, ch, h⟩ := h
  have hpo := fun W : World => sd_peerOf m D hD W
  obtain ⟨a, L, c, rfl⟩ := hD
  have hgl := h.lt
  have HB := Hid.mk7 h
  have hkp := h.keeps (by omega) (by omega)
  have HKP := Hid.mk7 hkp
  have htk : s.took m = (0, { s with state := 5, peer := ⟨m.name, m.flags, m.creation⟩ }, []) := by unfold Sd.took; rw [if_neg (by omega), if_neg (by omega), if_pos hk]
  rw [htk]
  have HS1 : Hid (s.state = 4) := hst
  unfold msgV' at hpo ⊢
  clear h hkp htk hk hst
  go_enter Tryz.func83, Tryz.ntmps83
  go_wp2_with fail
  refine (hpo _).mono ?_
  rintro e w1 ⟨rfl, hb⟩
  have HB1 : Hid (SideM w1 g s me want cookie ch ∧ Below w.heap.size w w1) := ⟨(HB.out.turned (alloc0m w _) (fun h => h)).turned (Turned.ofBelow (S := fun _ => False) hb) (fun h => h), ((Below.refl _ _).alloc (Nat.le_refl _) _).trans (hb.mono (by simp))⟩
  obtain ⟨k1, f1⟩ := HB1.out.1.cells 1 (by omega)
  obtain ⟨k2, f2⟩ := HB1.out.1.cells 2 (by omega)
  obtain ⟨k3, f3⟩ := HB1.out.1.cells 3 (by omega)
  obtain ⟨k4, f4⟩ := HB1.out.1.cells 4 (by omega)
  simp only [sdCell] at k1 k2 k3 k4
  clear hb hpo
  go_wp2
  go_ret2
  obtain ⟨q1, q2, q3, q4⟩ := HKP.out
  have hq := q4 (by rw [HS1.out]; decide)
  refine .inl ⟨rfl, _, [], rfl, Gather.nil _ _, ⟨me, want, cookie, ch, ?_, fun _ _ => ⟨q1, q2, fun h => absurd h (show ¬ (5 : Int) ≤ 3 by decide), fun _ => hq⟩⟩, ?_⟩
  · exact ((((HB1.out.1.cells.set 1 (.int .i64 5)).set 2 (.string m.name)).set 3 (.int .u64 m.flags)).set 4 (.int .u32 m.creation)).congr (forall12 rfl rfl rfl rfl rfl rfl rfl rfl rfl rfl rfl rfl)
  · exact ((((Turned.ofBelow (S := fun k => k = g) HB1.out.2).trans (Turned.set1 _ g 1 _) (fun _ h => .inl h)).trans (Turned.set1 _ g 2 _) (fun _ h => .inl h)).trans (Turned.set1 _ g 3 _) (fun _ h => .inl h)).trans (Turned.set1 _ g 4 _) (fun _ h => .inl h)
set_option maxRecDepth 100000 in
set_option maxHeartbeats 3200000 in
theorem sd_takeAck {w : World} {g : Nat} {s : Sd} (h : SideAt w g s) (hst : s.state = 3) (hs : s.Ok) (hG : Gd w) (m : Msg) (hm : m.Ok) (hl : m.digest.length ≤ 140737488355328) (hk : m.kind = 5) {D : Value} (hD : Sl w D m.digest) : Calls Tryz.prog 82 #[.pointer (some ⟨g, 0, none⟩), msgV' m D] w (StepTold w g (s.took m) s) := by
  have HSA := Hid.mk7 h
  obtain ⟨me, want, cookie, ch, h⟩ := h
  have hgl := h.lt
  have HB := Hid.mk7 h
  obtain ⟨hkc, hkn, _, _⟩ := h.keeps (by omega) (by omega)
  have hck := hs.live (by omega) (by omega)
  have htk : s.took m = if m.digest = digestOf s.cookie s.challenge then (0, { s with state := 7 }, []) else (163, s, []) := by unfold Sd.took; rw [if_neg (by omega), if_neg (by omega), if_neg (by omega), if_pos hk]
  subst hkc hkn
  have hsh := fun o : Obj => sd_shown (h.cells.turned (alloc0m w o) (fun h => h)) hck hs.num (hD.turned (alloc0m w o) (fun _ _ h => h)) hm.digest hl (hG.below ((Below.refl _ _).alloc (Nat.le_refl _) o))
  obtain ⟨a, L, c, rfl⟩ : ∃ a c L, D = .slice a L c := ⟨_, _, _, hD.form.choose_spec.choose_spec.1⟩
  unfold msgV'
  clear h hs hD hm hl
  by_cases hd : m.digest = digestOf s.cookie s.challenge
  · rw [if_pos hd] at htk
    rw [htk]
    rw [decide_eq_true hd] at hsh
    clear htk hd hk hst hck
    go_enter Tryz.func82, Tryz.ntmps82
    go_wp2_with fail
    refine (hsh _).mono ?_
    rintro e w1 ⟨rfl, hb⟩
    have HB1 : Hid (SideM w1 g s me want s.cookie s.challenge ∧ Below w.heap.size w w1) := ⟨(HB.out.turned (alloc0m w _) (fun h => h)).turned (Turned.ofBelow (S := fun _ => False) hb) (fun h => h), ((Below.refl _ _).alloc (Nat.le_refl _) _).trans (hb.mono (by simp))⟩
    have hri := sd_rise HB1.out.1.cells s rfl rfl
    clear hb hsh
    go_wp2_with fail
    refine hri.mono ?_
    rintro e w2 ⟨rfl, hs2, ht2⟩
    go_wp2
    go_ret2
    exact .inl ⟨rfl, _, [], rfl, Gather.nil _ _, hs2, (Turned.ofBelow (S := fun k => k = g) HB1.out.2).trans ht2 (fun _ h => .inl h)⟩
  · rw [if_neg hd] at htk
    rw [htk]
    rw [decide_eq_false hd] at hsh
    clear htk hd hk hst hck
    go_enter Tryz.func82, Tryz.ntmps82
    go_wp2_with fail
    refine (hsh _).mono ?_
    rintro e w1 ⟨rfl, hb⟩
    have HB1 : Hid (Below w.heap.size w w1) := ((Below.refl _ _).alloc (Nat.le_refl _) _).trans (hb.mono (by simp))
    clear hb hsh
    go_wp2_with fail
    refine (sh_refuse _ _ _).mono ?_
    rintro e w2 ⟨v, rfl, hf, hb⟩
    have HN := Hid.mk7 (step_no (x := (163, s, [])) (show (163 : Int) ≠ 0 by decide) HSA.out HB1.out hf hb)
    obtain ⟨pb, _, rfl, _⟩ := hf
    clear hb
    go_wp2
    go_ret2
    exact HN.out
set_option maxRecDepth 100000 in
set_option maxHeartbeats 3200000 in
theorem sd_takeReply {w : World} {g : Nat} {s : Sd} (h : SideAt w g s) (hst : s.state = 6) (hs : s.Ok) (hG : Gd w) (m : Msg) (hm : m.Ok) (hl : m.digest.length ≤ 140737488355328) (hk : m.kind = 4) {D : Value} (hD : Sl w D m.digest) : Calls Tryz.prog 84 #[.pointer (some ⟨g, 0, none⟩), msgV' m D] w (StepTold w g (s.took m) s) := by
  have HSA := Hid.mk7 h
  obtain ⟨me, want, cookie, ch, h⟩ := h
  have hgl := h.lt
  have HB := Hid.mk7 h
  obtain ⟨hkc, hkn, _, _⟩ := h.keeps (by omega) (by omega)
  have hck := hs.live (by omega) (by omega)
  have htk : s.took m = if m.digest = digestOf s.cookie s.challenge then (0, { s with state := 7 }, [{ Msg.zero with kind := 5, digest := digestOf s.cookie m.challenge.toNat }]) else (163, s, []) := by unfold Sd.took; rw [if_neg (by omega), if_neg (by omega), if_neg (by omega), if_neg (show ¬ m.kind = 5 by omega)]
  subst hkc hkn
  have hsh := fun o : Obj => sd_shown (h.cells.turned (alloc0m w o) (fun h => h)) hck hs.num (hD.turned (alloc0m w o) (fun _ _ h => h)) hm.digest hl (hG.below ((Below.refl _ _).alloc (Nat.le_refl _) o))
  obtain ⟨a, L, c, rfl⟩ : ∃ a c L, D = .slice a L c := ⟨_, _, _, hD.form.choose_spec.choose_spec.1⟩
  obtain ⟨n, hn⟩ : ∃ n : Nat, m.challenge = (n : Int) := ⟨m.challenge.toNat, by have := hm.challenge; omega⟩
  have hn2 : n < 4294967296 := by have := hm.challenge; omega
  unfold msgV'
  rw [hn] at htk ⊢
  rw [Int.toNat_natCast] at htk
  have HCK := Hid.mk7 hck
  have HGd := Hid.mk7 hG
  clear h hs hD hm hl hn
  by_cases hd : m.digest = digestOf s.cookie s.challenge
  · rw [if_pos hd] at htk
    rw [htk]
    rw [decide_eq_true hd] at hsh
    clear htk hd hk hst hck hG
    go_enter Tryz.func84, Tryz.ntmps84
    go_wp2_with fail
    refine (hsh _).mono ?_
    rintro e w1 ⟨rfl, hb⟩
    have A1 := ((Below.refl w.heap.size w).alloc (Nat.le_refl _) (.cells #[.int .i64 m.kind, .int .u64 m.flags, .int .u32 m.creation, .int .u32 (n : Nat), .string m.name, .string m.status, .slice a c L] 27))
    have HB1 : Hid (SideM w1 g s me want s.cookie s.challenge ∧ Below w.heap.size w w1) := ⟨(HB.out.turned (alloc0m w _) (fun h => h)).turned (Turned.ofBelow (S := fun _ => False) hb) (fun h => h), A1.trans (hb.mono (by simp))⟩
    have c3 : w1.cell? ⟨w.heap.size, 3, none⟩ = some (.int .u32 (n : Nat)) := (hb.cell (p := ⟨w.heap.size, 3, none⟩) (by simp)).trans (by simp)
    have hdg := sd_digest HB1.out.1.cells HCK.out n hn2 (HGd.out.below HB1.out.2)
    clear hb hsh A1
    go_wp2_with fail
    refine hdg.mono ?_
    rintro e w2 ⟨Vd, rfl, hod, hbd, _⟩
    have HB2 : Hid (SideM w2 g s me want s.cookie s.challenge ∧ Below w.heap.size w w2) := ⟨HB1.out.1.turned (Turned.ofBelow (S := fun _ => False) hbd) (fun h => h), HB1.out.2.trans (hbd.mono HB1.out.2.size)⟩
    have htl := sd_tell { Msg.zero with kind := 5, digest := digestOf s.cookie n } ⟨z64, z32, z32, digest_rng _ _⟩ zname hod.sl (HGd.out.below HB2.out.2).er
    obtain ⟨aV, cV, LV, rfl⟩ : ∃ a c L, Vd = .slice a L c := ⟨_, _, _, hod.sl.form.choose_spec.choose_spec.1⟩
    unfold msgV' at htl
    simp only [Msg.zero] at htl
    generalize hWz : writeOf _ = zs at htl
    have HWz := Hid.mk7 hWz
    clear hdg hod hbd c3 hWz
    go_wp2_with fail
    refine htl.mono ?_
    rintro e w3 ⟨V, rfl, ho, hb3, hk3⟩
    have HB3 : Hid (SideM w3 g s me want s.cookie s.challenge ∧ Below w.heap.size w w3 ∧ Own w3 V zs ∧ (∀ k, blk V k → w.heap.size ≤ k) ∧ (∀ k, blk V k → k ≠ g)) := ⟨HB2.out.1.turned (Turned.ofBelow (S := fun _ => False) hb3) (fun h => h), HB2.out.2.trans (hb3.mono HB2.out.2.size), ho, fun k hk => by have := hk3 k hk; have := HB2.out.2.size; omega, fun k hk he => by have := hk3 k hk; have := HB2.out.1.lt; omega⟩
    have hri := sd_rise HB3.out.1.cells s rfl rfl
    obtain ⟨aV', cV', LV', rfl⟩ : ∃ a c L, V = .slice a L c := ⟨_, _, _, ho.sl.form.choose_spec.choose_spec.1⟩
    clear htl ho hb3 hk3
    go_wp2_with fail
    refine hri.mono ?_
    rintro e w4 ⟨rfl, hs4, ht4⟩
    have hT : Turned (fun k => k = g) w w4 := (Turned.ofBelow (S := fun k => k = g) HB3.out.2.1).trans ht4 (fun _ h => .inl h)
    have ho4 := HB3.out.2.2.1.turned ht4 (fun k hk he => HB3.out.2.2.2.2 k hk he)
    have HN : Hid (SideAt w4 g { s with state := 7 } ∧ Turned (fun k => k = g) w w4 ∧ Own w4 (.slice aV' LV' cV') zs ∧ (∀ k, blk (.slice aV' LV' cV') k → w.heap.size ≤ k)) := ⟨hs4, hT, ho4, HB3.out.2.2.2.1⟩
    clear hs4 ht4 hT ho4 hri
    go_wp2
    go_ret2
    obtain ⟨q1, q2, q3, q4⟩ := HN.out
    have hg := Gather.one q3 q4 q2.size 25
    rw [← HWz.out] at hg
    exact .inl ⟨rfl, _, _, rfl, hg, q1.below ((Below.refl _ _).alloc (Nat.le_refl _) _), q2.trans (Turned.alloc (fun _ => False) w4 _) (fun _ h => h.elim)⟩
  · rw [if_neg hd] at htk
    rw [htk]
    rw [decide_eq_false hd] at hsh
    clear htk hd hk hst hck hG
    go_enter Tryz.func84, Tryz.ntmps84
    go_wp2_with fail
    refine (hsh _).mono ?_
    rintro e w1 ⟨rfl, hb⟩
    have HB1 : Hid (Below w.heap.size w w1) := ((Below.refl _ _).alloc (Nat.le_refl _) _).trans (hb.mono (by simp))
    clear hb hsh
    go_wp2_with fail
    refine (sh_refuse _ _ _).mono ?_
    rintro e w2 ⟨v, rfl, hf, hb⟩
    have HN := Hid.mk7 (step_no (x := (163, s, [])) (show (163 : Int) ≠ 0 by decide) HSA.out HB1.out hf hb)
    obtain ⟨pb, _, rfl, _⟩ := hf
    clear hb
    go_wp2
    go_ret2
    exact HN.out
end Go.Proofs.YtmnibmgbicnamaaGreatDoor
namespace Go.Proofs.YtmnibmgbicnamaaGreatDoor
open Go.RowKit

theorem toList_ne {s t : ByteArray} (h : s ≠ t) : (s.toList == t.toList) = false := by
  rw [beq_eq_false_iff_ne]
  intro e
  rw [ByteArray.toList_eq, ByteArray.toList_eq] at e
  exact h (ByteArray.ext (Array.toList_inj.1 e))
/-- A node in memory. -/
structure PeerAt (w : World) (g : Nat) (p : Pr) : Prop where
  c0 : w.cell? ⟨g, 0, none⟩ = some (.string p.name)
  c1 : w.cell? ⟨g, 1, none⟩ = some (.int .u64 p.flags)
  c2 : w.cell? ⟨g, 2, none⟩ = some (.int .u32 p.creation)
theorem PeerAt.turned {S : Nat → Prop} {w w' : World} {g : Nat} {p : Pr} (h : PeerAt w g p) (ht : Turned S w w') (hs : ¬ S g) : PeerAt w' g p := ⟨ht.cell h.c0 hs, ht.cell h.c1 hs, ht.cell h.c2 hs⟩
theorem PeerAt.below {w w' : World} {g : Nat} {p : Pr} (h : PeerAt w g p) (hb : Below w.heap.size w w') : PeerAt w' g p := h.turned (Turned.ofBelow (S := fun _ => False) hb) (fun h => h)
theorem PeerAt.ofNew (w : World) (p : Pr) (t : TypeId) : PeerAt (w.alloc (.cells #[.string p.name, .int .u64 p.flags, .int .u32 p.creation] t)) w.heap.size p := ⟨by simp, by simp, by simp⟩
/-- A block that is none of the variables'. -/
def Big (g : Nat) : Prop := 0 < g ∧ 2 < g
theorem Gd.big {w : World} (h : Gd w) {g : Nat} (hg : w.heap.size ≤ g) : Big g := ⟨Nat.lt_of_lt_of_le h.er.lt hg, Nat.lt_of_lt_of_le h.tb.lt hg⟩
theorem Gd.turned {w w' : World} {g : Nat} (h : Gd w) (ht : Turned (fun k => k = g) w w') (hb : Big g) (hg : g ≤ w.heap.size) : Gd w' := by
  have hB : Below g w w' := ht.below hg (fun i hi => Nat.le_of_eq hi.symm)
  exact ⟨(hB.cell (p := ⟨0, 0, none⟩) hb.1).trans h.er, var?_below hB Tryz.pow10 hb.2 h.tb⟩
theorem drew_below {w w' : World} (h : Below w.drew.heap.size w.drew w') : Below w.heap.size w w' := ((Below.refl w.heap.size w).drew).trans h
set_option maxRecDepth 100000 in
set_option maxHeartbeats 6400000 in
theorem sd_takeChallenge {w : World} {g : Nat} (hbig : Big g) {s : Sd} (h : SideAt w g s) (hst : s.state = 2) (hs : s.Ok) (hG : Gd w) (m : Msg) (hm : m.Ok) (hk : m.kind = 3) {D : Value} (hD : ∃ a L c, D = .slice a L c) : Calls Tryz.prog 81 #[.pointer (some ⟨g, 0, none⟩), msgV' m D] w (StepTold w g (s.took m) s) := by
  have HSA := Hid.mk7 h
  have HBG := Hid.mk7 hbig
  clear hbig
  have hpo := fun W : World => sd_peerOf m D hD W
  have hlk := fun W : World => sd_lacks ⟨m.name, m.flags, m.creation⟩ W
  obtain ⟨a, L, c, rfl⟩ := hD
  obtain ⟨me, want, cookie, ch, h⟩ := h
  have hgl := h.lt
  have HB := Hid.mk7 h
  obtain ⟨hkc, hkn, hkw, _⟩ := h.keeps (by omega) (by omega)
  have hkw := hkw (by omega)
  have hck := hs.live (by omega) (by omega)
  have htk : s.took m = if m.name = s.want ∧ lacksB m.flags = false then (0, { s with state := 3, peer := ⟨m.name, m.flags, m.creation⟩ }, [{ Msg.zero with kind := 4, challenge := s.challenge, digest := digestOf s.cookie m.challenge.toNat }]) else (162, s, []) := by unfold Sd.took; rw [if_neg (by omega), if_pos hk]
  subst hkc hkn hkw
  obtain ⟨n, hn⟩ : ∃ n : Nat, m.challenge = (n : Int) := ⟨m.challenge.toNat, by have := hm.challenge; omega⟩
  have hn2 : n < 4294967296 := by have := hm.challenge; omega
  have hsn := hs.num
  have HST : Hid (s.state = 2) := hst
  unfold msgV' at hpo ⊢
  rw [hn] at htk hpo ⊢
  rw [Int.toNat_natCast] at htk
  simp only at hlk
  have HCK := Hid.mk7 hck
  have HGd := Hid.mk7 hG
  clear h hs hm hn hG hk hst hck
  by_cases hnm : m.name = s.want
  case neg =>
    rw [if_neg (fun h => hnm h.1)] at htk
    rw [htk]
    have hq := toList_ne hnm
    clear htk hnm
    go_enter Tryz.func81, Tryz.ntmps81
    go_wp2_with fail
    refine (hpo _).mono ?_
    rintro e w1 ⟨rfl, hb⟩
    have HB1 : Hid (SideM w1 g s me s.want s.cookie s.challenge ∧ Below w.heap.size w w1) := ⟨(HB.out.turned (alloc0m w _) (fun h => h)).turned (Turned.ofBelow (S := fun _ => False) hb) (fun h => h), ((Below.refl _ _).alloc (Nat.le_refl _) _).trans (hb.mono (by simp))⟩
    obtain ⟨k9, _⟩ := HB1.out.1.cells 9 (by omega)
    have hg1 := HB1.out.1.lt
    simp only [sdCell] at k9
    clear hb hpo hlk
    go_wp2_with fail
    go_quiet (fail)
    go_wp2_with fail
    refine (sh_refuse _ _ _).mono ?_
    rintro e w2 ⟨v, rfl, hf, hb⟩
    have HN := Hid.mk7 (step_no (x := (162, s, [])) (show (162 : Int) ≠ 0 by decide) HSA.out ((HB1.out.2.alloc HB1.out.2.size _).trans ((drewN_below _ nq).mono (by have := HB1.out.2.size; simp; omega))) hf hb)
    obtain ⟨pb, _, rfl, _⟩ := hf
    clear hb
    go_wp2
    go_ret2
    exact HN.out
  case pos =>
    have HNM : Hid (m.name = s.want) := hnm
    clear hnm
    have HTK := Hid.mk7 htk
    clear htk
    generalize s.took m = tk at HTK ⊢
    go_enter Tryz.func81, Tryz.ntmps81
    go_wp2_with fail
    refine (hpo _).mono ?_
    rintro e w1 ⟨rfl, hb⟩
    have HB1 : Hid (SideM w1 g s me s.want s.cookie s.challenge ∧ Below w.heap.size w w1) := ⟨(HB.out.turned (alloc0m w _) (fun h => h)).turned (Turned.ofBelow (S := fun _ => False) hb) (fun h => h), ((Below.refl _ _).alloc (Nat.le_refl _) _).trans (hb.mono (by simp))⟩
    have c3 : w1.cell? ⟨w.heap.size, 3, none⟩ = some (.int .u32 (n : Nat)) := (hb.cell (p := ⟨w.heap.size, 3, none⟩) (by simp)).trans (by simp)
    have hw1 : w.heap.size < w1.heap.size := World.block_lt_of_cell? w1 _ c3
    obtain ⟨k9, _⟩ := HB1.out.1.cells 9 (by omega)
    have hg1 := HB1.out.1.lt
    simp only [sdCell] at k9
    rw [← HNM.out] at k9
    have A1 := (Below.refl w1.heap.size w1).alloc (Nat.le_refl _) (.cells #[.string m.name, .int .u64 m.flags, .int .u32 m.creation] 46)
    have HW : Hid (SideM (w1.alloc (.cells #[.string m.name, .int .u64 m.flags, .int .u32 m.creation] 46)) g s me s.want s.cookie s.challenge ∧ Below w.heap.size w (w1.alloc (.cells #[.string m.name, .int .u64 m.flags, .int .u32 m.creation] 46)) ∧ PeerAt (w1.alloc (.cells #[.string m.name, .int .u64 m.flags, .int .u32 m.creation] 46)) w1.heap.size ⟨m.name, m.flags, m.creation⟩ ∧ (w1.alloc (.cells #[.string m.name, .int .u64 m.flags, .int .u32 m.creation] 46)).cell? ⟨w.heap.size, 3, none⟩ = some (.int .u32 (n : Nat))) := ⟨HB1.out.1.turned (alloc0m w1 _) (fun h => h), HB1.out.2.trans (A1.mono HB1.out.2.size), PeerAt.ofNew w1 ⟨m.name, m.flags, m.creation⟩ _, (A1.cell (p := ⟨w.heap.size, 3, none⟩) hw1).trans c3⟩
    clear hb hpo A1 c3
    cases hlb : lacksB m.flags with
    | true =>
      rw [hlb] at hlk
      have HTK2 : Hid (tk = (162, s, [])) := HTK.out.trans (if_neg (fun h => by rw [hlb] at h; exact absurd h.2 (by decide)))
      clear hlb
      go_wp2_with fail
      go_region_held3 (fun w' => w'.cell? ⟨w1.heap.size, 0, none⟩ = some (.string m.name) ∧ w'.cell? ⟨w1.heap.size, 1, none⟩ = some (.int .u64 m.flags) ∧ w'.cell? ⟨w1.heap.size, 2, none⟩ = some (.int .u32 m.creation) ∧ w'.cell? ⟨g, 9, none⟩ = some (.string m.name))
        (go_keep)
        (first | (go_at_call 103; refine (hlk _).mono ?_; rintro e w3 ⟨rfl, hb3⟩; have hb3' := drew_below hb3; have s0 := (hb3'.cell (p := ⟨w1.heap.size, 0, none⟩) (by simp)).trans HW.out.2.2.1.c0; have s1 := (hb3'.cell (p := ⟨w1.heap.size, 1, none⟩) (by simp)).trans HW.out.2.2.1.c1; have s2 := (hb3'.cell (p := ⟨w1.heap.size, 2, none⟩) (by simp)).trans HW.out.2.2.1.c2; have s9 := (hb3'.cell (p := ⟨g, 9, none⟩) (by simp only [World.size_alloc]; omega)).trans ((alloc0m w1 _).cell (p := ⟨g, 9, none⟩) k9 (fun h => h))))
      all_goals
        have HB3 := Hid.mk7 hb3'
        clear hb3 hb3' s0 s1 s2 s9
        go_wp2_with fail
        refine (sh_refuse _ _ _).mono ?_
        rintro e w4 ⟨v, rfl, hf, hb⟩
        have HN := Hid.mk7 (step_no (x := (162, s, [])) (show (162 : Int) ≠ 0 by decide) HSA.out (HW.out.2.1.trans (HB3.out.mono HW.out.2.1.size)) hf hb)
        obtain ⟨pb, _, rfl, _⟩ := hf
        clear hb
        go_wp2
        go_ret2
        rw [HTK2.out]
        exact HN.out
    | false =>
      rw [hlb] at hlk
      have HTK2 := Hid.mk7 (HTK.out.trans (if_pos ⟨HNM.out, hlb⟩))
      clear hlb
      go_wp2_with fail
      go_region_held3 (fun w' => w'.cell? ⟨w1.heap.size, 0, none⟩ = some (.string m.name) ∧ w'.cell? ⟨w1.heap.size, 1, none⟩ = some (.int .u64 m.flags) ∧ w'.cell? ⟨w1.heap.size, 2, none⟩ = some (.int .u32 m.creation) ∧ w'.cell? ⟨g, 9, none⟩ = some (.string m.name))
        (go_keep)
        (first | (go_at_call 103; refine (hlk _).mono ?_; rintro e w3 ⟨rfl, hb3⟩; have hb3' := drew_below hb3; have s0 := (hb3'.cell (p := ⟨w1.heap.size, 0, none⟩) (by simp)).trans HW.out.2.2.1.c0; have s1 := (hb3'.cell (p := ⟨w1.heap.size, 1, none⟩) (by simp)).trans HW.out.2.2.1.c1; have s2 := (hb3'.cell (p := ⟨w1.heap.size, 2, none⟩) (by simp)).trans HW.out.2.2.1.c2; have s9 := (hb3'.cell (p := ⟨g, 9, none⟩) (by simp only [World.size_alloc]; omega)).trans ((alloc0m w1 _).cell (p := ⟨g, 9, none⟩) k9 (fun h => h))))
      all_goals
        have B3 := HW.out.2.1.trans (hb3'.mono HW.out.2.1.size)
        have HW3 : Hid (SideM w3 g s me s.want s.cookie s.challenge ∧ Below w.heap.size w w3 ∧ PeerAt w3 w1.heap.size ⟨m.name, m.flags, m.creation⟩ ∧ w3.cell? ⟨w.heap.size, 3, none⟩ = some (.int .u32 (n : Nat)) ∧ w1.heap.size < w3.heap.size) := ⟨HW.out.1.turned (Turned.ofBelow (S := fun _ => False) hb3') (fun h => h), B3, HW.out.2.2.1.below hb3', (hb3'.cell (p := ⟨w.heap.size, 3, none⟩) (by simp only [World.size_alloc]; omega)).trans HW.out.2.2.2, by have := hb3'.size; simp only [World.size_alloc] at this; omega⟩
        clear hb3 hb3' s0 s1 s2 s9 B3 k9 hlk
        obtain ⟨p0, p1, p2⟩ := HW3.out.2.2.1
        obtain ⟨k1, f1⟩ := HW3.out.1.cells 1 (by omega)
        obtain ⟨k2, f2⟩ := HW3.out.1.cells 2 (by omega)
        obtain ⟨k3, f3⟩ := HW3.out.1.cells 3 (by omega)
        obtain ⟨k4, f4⟩ := HW3.out.1.cells 4 (by omega)
        simp only [sdCell] at k1 k2 k3 k4
        simp only at p0 p1 p2
        have hgne : ¬ g = w1.heap.size := by omega
        have hgne' : ¬ w1.heap.size = g := by omega
        go_wp2_with fail
        go_region
        obtain ⟨w5, hw5⟩ : ∃ w5, w5 = ((((w3.setCell ⟨g, 1, none⟩ (.int .i64 3)).setCell ⟨g, 2, none⟩ (.string m.name)).setCell ⟨g, 3, none⟩ (.int .u64 m.flags)).setCell ⟨g, 4, none⟩ (.int .u32 m.creation)).drew := ⟨_, rfl⟩
        rw [← hw5]
        have T5 : Turned (fun k => k = g) w3 w5 := by
          rw [hw5]
          exact ((((Turned.set1 w3 g 1 _).trans (Turned.set1 _ g 2 _) (fun _ h => .inl h)).trans (Turned.set1 _ g 3 _) (fun _ h => .inl h)).trans (Turned.set1 _ g 4 _) (fun _ h => .inl h)).trans (Turned.drew (fun k => k = g) _) (fun _ h => .inl h)
        have B5 : Block w5 g 12 (sdCell g 3 ⟨m.name, m.flags, m.creation⟩ s.simult me s.want s.cookie s.challenge) := by
          rw [hw5]
          exact (((((HW3.out.1.cells.set 1 (.int .i64 3)).set 2 (.string m.name)).set 3 (.int .u64 m.flags)).set 4 (.int .u32 m.creation)).congr (forall12 rfl rfl rfl rfl rfl rfl rfl rfl rfl rfl rfl rfl)).turned (Turned.drew (fun _ => False) _) (fun h => h)
        have c3 : w5.cell? ⟨w.heap.size, 3, none⟩ = some (.int .u32 (n : Nat)) := T5.cell (p := ⟨w.heap.size, 3, none⟩) HW3.out.2.2.2.1 (fun h => by have h : w.heap.size = g := h; omega)
        have TW : Turned (fun k => k = g) w w5 := (Turned.ofBelow (S := fun k => k = g) HW3.out.2.1).trans T5 (fun _ h => .inl h)
        have g5 : Gd w5 := HGd.out.turned TW HBG.out (by omega)
        have H5 : Hid (Block w5 g 12 (sdCell g 3 ⟨m.name, m.flags, m.creation⟩ s.simult me s.want s.cookie s.challenge) ∧ Turned (fun k => k = g) w w5 ∧ Gd w5) := ⟨B5, TW, g5⟩
        obtain ⟨k11, _⟩ := B5 11 (by omega)
        simp only [sdCell] at k11
        have hg5 : g < w5.heap.size := B5.lt (by omega)
        have hw5' : w.heap.size < w5.heap.size := World.block_lt_of_cell? w5 _ c3
        have hdg := sd_digest (B5.turned (Turned.drew (fun _ => False) w5) (fun h => h)) HCK.out n hn2 (g5.below ((Below.refl _ _).drew))
        clear hw5 T5 B5 TW g5 k1 k2 k3 k4 f1 f2 f3 f4 p0 p1 p2
        go_wp2_with fail
        go_region_held3 (fun w' => w'.cell? ⟨g, 11, none⟩ = some (.int .u32 s.challenge) ∧ w'.cell? ⟨w.heap.size, 3, none⟩ = some (.int .u32 (n : Nat)))
          (go_keep)
          (first
            | (go_at_call 104; refine hdg.mono ?_; rintro e w6 ⟨Vd, rfl, hod, hbd0, _⟩; have hbd := drew_below hbd0; have s11 := (hbd.cell (p := ⟨g, 11, none⟩) hg5).trans k11; have s3 := (hbd.cell (p := ⟨w.heap.size, 3, none⟩) hw5').trans c3; have htl := sd_tell { Msg.zero with kind := 4, challenge := s.challenge, digest := digestOf s.cookie n } ⟨z64, z32, ⟨by simp only []; omega, by simp only []; omega⟩, digest_rng _ _⟩ zname hod.sl (H5.out.2.2.below hbd).er; have HBD := Hid.mk7 hbd; have hg6 : g < w6.heap.size := Nat.lt_of_lt_of_le hg5 hbd.size; have hw6 : w.heap.size < w6.heap.size := Nat.lt_of_lt_of_le hw5' hbd.size; obtain ⟨aV, cV, LV, rfl⟩ : ∃ a c L, Vd = .slice a L c := ⟨_, _, _, hod.sl.form.choose_spec.choose_spec.1⟩; unfold msgV' at htl; simp only [Msg.zero] at htl; generalize hWz : writeOf _ = zs at htl; have HWz := Hid.mk7 hWz; clear hod hbd0 hbd hWz hdg)
            | (go_at_call 51; refine htl.mono ?_; rintro e w7 ⟨V, rfl, ho, hb7, hk7⟩; have t11 := (hb7.cell (p := ⟨g, 11, none⟩) hg6).trans s11; have t3 := (hb7.cell (p := ⟨w.heap.size, 3, none⟩) hw6).trans s3; have HN7 := Hid.mk7 (And.intro ho (And.intro hb7 hk7)); obtain ⟨aV', cV', LV', rfl⟩ : ∃ a c L, V = .slice a L c := ⟨_, _, _, ho.sl.form.choose_spec.choose_spec.1⟩; clear ho hb7 hk7))
        all_goals
          clear t11 t3 s11 s3 k11 c3 htl
          go_wp2
          go_ret2
          obtain ⟨q1, q2, q3⟩ := HN7.out
          have b57 : Below w5.heap.size w5 w7 := HBD.out.trans (q2.mono HBD.out.size)
          have hw7 : w.heap.size ≤ w7.heap.size := Nat.le_trans H5.out.2.1.size b57.size
          have hg7 : g < w7.heap.size := Nat.lt_of_lt_of_le hg5 b57.size
          have hgt := Gather.one q1 (B := w.heap.size) (fun k hk => by have := q3 k hk; omega) hw7 25
          rw [← HWz.out] at hgt
          have hsd : SideAt w7 g { s with state := 3, peer := ⟨m.name, m.flags, m.creation⟩ } := ⟨me, s.want, s.cookie, s.challenge, H5.out.1.turned (Turned.ofBelow (S := fun _ => False) b57) (fun h => h), fun _ _ => ⟨rfl, rfl, fun _ => rfl, fun h => absurd h (show ¬ (4 : Int) ≤ 3 by decide)⟩⟩
          have hT7 : Turned (fun k => k = g) w w7 := H5.out.2.1.trans (Turned.ofBelow (S := fun _ => False) b57) (fun _ h => h.elim)
          rw [HTK2.out]
          exact .inl ⟨rfl, _, _, rfl, hgt, hsd.below ((Below.refl _ _).alloc (Nat.le_refl _) _), hT7.trans (Turned.alloc (fun _ => False) w7 _) (fun _ h => h.elim)⟩
end Go.Proofs.YtmnibmgbicnamaaGreatDoor
namespace Go.Proofs.YtmnibmgbicnamaaGreatDoor
open Go.RowKit

/-- A side that is not yet told whether both began was not told so. -/
def Sd.Fresh (s : Sd) : Prop := (s.state = 1 ∨ s.state = 4 ∨ s.state = 5) → s.simult = false
theorem Sd.Fresh.dead (s : Sd) : s.dead.Fresh := fun _ => rfl
theorem Sd.Fresh.took {s : Sd} (h : s.Fresh) (m : Msg) (hk : m.kind = s.kind) : (s.took m).2.1.Fresh := by
  unfold Sd.took
  split
  · split
    · intro h; simp at h
    · exact h
  · split
    · split
      · intro h; simp at h
      · exact h
    · split
      · rename_i hk1
        intro _
        have h4 : s.state = 4 := by
          rw [hk1] at hk
          unfold Sd.kind at hk
          repeat' split at hk
          all_goals first
            | assumption
            | omega
        exact h (.inr (.inl h4))
      · split
        · intro h; simp at h
        · exact h
theorem Sd.Fresh.take {s : Sd} (h : s.Fresh) {b : List Int} (hr : ∀ z ∈ b, 0 ≤ z ∧ z < 256) : (s.take b).2.1.Fresh := by
  unfold Sd.take
  split
  · exact h
  · split
    · exact h
    · split
      · exact Sd.Fresh.dead s
      · rename_i hrd
        split
        · exact h.took _ (write_read s.kind b hr (by simpa using hrd)).2.2.2.2
        · exact Sd.Fresh.dead s
theorem Sd.Fresh.answer {s : Sd} (h : s.Fresh) (st : ByteArray) : (s.answer st).2.1.Fresh := by
  unfold Sd.answer
  repeat' split
  · exact h
  · exact h
  · exact h
  · intro h; simp at h
  · exact Sd.Fresh.dead s
/-- Which function takes a message in a state. -/
def stageFn (st : Int) : Nat := if st = 1 then 80 else if st = 2 then 81 else if st = 3 then 82 else if st = 4 then 83 else 84
theorem stage_enters (st : Int) : ∀ args w, (callFunc (stageFn st) args).run Tryz.prog w = .ok (.enter (stageFn st) args) w := by
  unfold stageFn
  repeat' split
  · exact enters_of Tryz.func80 (by kernel_rfl) rfl
  · exact enters_of Tryz.func81 (by kernel_rfl) rfl
  · exact enters_of Tryz.func82 (by kernel_rfl) rfl
  · exact enters_of Tryz.func83 (by kernel_rfl) rfl
  · exact enters_of Tryz.func84 (by kernel_rfl) rfl
set_option maxRecDepth 100000 in
set_option maxHeartbeats 3200000 in
theorem sd_stage {w : World} {g : Nat} {s : Sd} (h : SideAt w g s) (hst : s.state = 1 ∨ s.state = 2 ∨ s.state = 3 ∨ s.state = 4 ∨ s.state = 6) : Calls Tryz.prog 55 #[.pointer (some ⟨g, 0, none⟩)] w fun e w' => e = .returned (.agg #[.int .i64 s.kind, .func (.func (stageFn s.state)) #[.pointer (some ⟨g, 0, none⟩)] #[]]) ∧ Below w.heap.size w w' := by
  obtain ⟨me, want, cookie, ch, h⟩ := h
  have hgl := h.lt
  obtain ⟨k1, _⟩ := h.cells 1 (by omega)
  simp only [sdCell] at k1
  clear h
  unfold Sd.kind
  generalize s.state = st at hst k1
  rcases hst with rfl | rfl | rfl | rfl | rfl
  · go_enter Tryz.func55, Tryz.ntmps55
    go_wp2
    exact bodyPost_ret (v := .agg #[.int .i64 2, .func (.func 80) #[.pointer (some ⟨g, 0, none⟩)] #[]]) (by simp [results, Tryz.results55, go_sem]) rfl ⟨rfl, (Below.refl _ _).alloc (Nat.le_refl _) _⟩
  · go_enter Tryz.func55, Tryz.ntmps55
    go_wp2
    exact bodyPost_ret (v := .agg #[.int .i64 3, .func (.func 81) #[.pointer (some ⟨g, 0, none⟩)] #[]]) (by simp [results, Tryz.results55, go_sem]) rfl ⟨rfl, (Below.refl _ _).alloc (Nat.le_refl _) _⟩
  · go_enter Tryz.func55, Tryz.ntmps55
    go_wp2
    exact bodyPost_ret (v := .agg #[.int .i64 5, .func (.func 82) #[.pointer (some ⟨g, 0, none⟩)] #[]]) (by simp [results, Tryz.results55, go_sem]) rfl ⟨rfl, (Below.refl _ _).alloc (Nat.le_refl _) _⟩
  · go_enter Tryz.func55, Tryz.ntmps55
    go_wp2
    exact bodyPost_ret (v := .agg #[.int .i64 1, .func (.func 83) #[.pointer (some ⟨g, 0, none⟩)] #[]]) (by simp [results, Tryz.results55, go_sem]) rfl ⟨rfl, (Below.refl _ _).alloc (Nat.le_refl _) _⟩
  · go_enter Tryz.func55, Tryz.ntmps55
    go_wp2
    exact bodyPost_ret (v := .agg #[.int .i64 4, .func (.func 84) #[.pointer (some ⟨g, 0, none⟩)] #[]]) (by simp [results, Tryz.results55, go_sem]) rfl ⟨rfl, (Below.refl _ _).alloc (Nat.le_refl _) _⟩
/-- Whatever message comes in a state. -/
theorem sd_step {w : World} {g : Nat} (hbig : Big g) {s : Sd} (h : SideAt w g s) (hs : s.Ok) (hfr : s.Fresh) (hG : Gd w) (m : Msg) (hm : m.Ok) (hl : m.digest.length ≤ 140737488355328) (hk : m.kind = s.kind) (hst : s.state = 1 ∨ s.state = 2 ∨ s.state = 3 ∨ s.state = 4 ∨ s.state = 6) {D : Value} (hD : Sl w D m.digest) : Calls Tryz.prog (stageFn s.state) #[.pointer (some ⟨g, 0, none⟩), msgV' m D] w (StepTold w g (s.took m) s) := by
  have hform : ∃ a L c, D = .slice a L c := by obtain ⟨a, c, h, _⟩ := hD.form; exact ⟨a, _, c, h⟩
  rcases hst with e | e | e | e | e
  · have : s.kind = 2 := by unfold Sd.kind; rw [e]; rfl
    rw [e]; exact sd_takeStatus h e (hfr (.inl e)) m (by omega) hform
  · have : s.kind = 3 := by unfold Sd.kind; rw [e]; rfl
    rw [e]; exact sd_takeChallenge hbig h e hs hG m hm (by omega) hform
  · have : s.kind = 5 := by unfold Sd.kind; rw [e]; rfl
    rw [e]; exact sd_takeAck h e hs hG m hm hl (by omega) hD
  · have : s.kind = 1 := by unfold Sd.kind; rw [e]; rfl
    rw [e]; exact sd_takeName h e m (by omega) hform
  · have : s.kind = 4 := by unfold Sd.kind; rw [e]; rfl
    rw [e]; exact sd_takeReply h e hs hG m hm hl (by omega) hD
/-- What handle tells. -/
def HandleTold (w : World) (g : Nat) (s : Sd) (b : List Int) (e : Ending) (w' : World) : Prop :=
  ((readOf s.kind b).1 ≠ [] ∧ ∃ v, e = .returned (.tuple #[.slice none 0 0, v]) ∧ FaultC w.heap.size w' v (readOf s.kind b).1 ∧ SideAt w' g s ∧ Below w.heap.size w w') ∨
  ((readOf s.kind b).1 = [] ∧ ∃ W, Below w.heap.size w W ∧ StepTold W g (s.took (readOf s.kind b).2) s e w')
theorem fault_cases {B : Nat} {w : World} {v : Value} : ∀ {ls : List Lnk}, FaultC B w v ls → (ls = [] ∧ v = .nilIface) ∨ (ls ≠ [] ∧ ∃ pb, v = .iface 131 (.pointer (some ⟨pb, 0, none⟩)))
  | [], h => .inl ⟨rfl, h⟩
  | [_], ⟨pb, _, h, _⟩ => .inr ⟨by simp, pb, h⟩
  | [_, _], ⟨pb, _, _, _, h, _⟩ => .inr ⟨by simp, pb, h⟩
  | _ :: _ :: _ :: _, h => h.elim
theorem read_few (k : Int) (b : List Int) : (readOf k b).2.digest.length ≤ b.length := by
  unfold readOf
  repeat' split
  all_goals simp [Msg.zero]
set_option maxRecDepth 100000 in
set_option maxHeartbeats 3200000 in
theorem sd_handle {w : World} {g : Nat} (hbig : Big g) {s : Sd} (h : SideAt w g s) (hs : s.Ok) (hfr : s.Fresh) (hG : Gd w) (hst : s.state = 1 ∨ s.state = 2 ∨ s.state = 3 ∨ s.state = 4 ∨ s.state = 6) {B : Value} {b : List Int} (hB : Sl w B b) (hr : ∀ z ∈ b, 0 ≤ z ∧ z < 256) (hl : b.length ≤ 140737488355328) :
    Calls Tryz.prog 56 #[.agg #[.int .i64 s.kind, .func (.func (stageFn s.state)) #[.pointer (some ⟨g, 0, none⟩)] #[]], B] w (HandleTold w g s b) := by
  have hrd := fun o : Obj => sh_read s.kind (hB.turned (alloc0m w o) (fun _ _ h => h)) hr hl (hG.er.below ((Below.refl _ _).alloc (Nat.le_refl _) o))
  have HSA := Hid.mk7 h
  have HSTEP : Hid (∀ (W : World) (D : Value), Below w.heap.size w W → (readOf s.kind b).1 = [] → Sl W D (readOf s.kind b).2.digest → Calls Tryz.prog (stageFn s.state) #[.pointer (some ⟨g, 0, none⟩), msgV' (readOf s.kind b).2 D] W (StepTold W g (s.took (readOf s.kind b).2) s)) := fun W D hW h0 hD => sd_step hbig (h.below hW) hs hfr (hG.below hW) _ (read_ok _ _ hr) (Nat.le_trans (read_few _ _) hl) (write_read s.kind b hr h0).2.2.2.2 hst hD
  obtain ⟨a, c, L, rfl⟩ : ∃ a c L, B = .slice a L c := ⟨_, _, _, hB.form.choose_spec.choose_spec.1⟩
  unfold ReadTold at hrd
  clear h hs hfr hG hst hB hr hl hbig
  unfold HandleTold
  generalize hro : readOf s.kind b = ro at hrd HSTEP ⊢
  obtain ⟨ls, m⟩ := ro
  generalize s.kind = kk at hrd hro
  have hen := stage_enters s.state
  generalize stageFn s.state = fn at HSTEP hen ⊢
  generalize s.took (ls, m).2 = tk at HSTEP ⊢
  simp only at hrd HSTEP ⊢
  clear hro
  go_enter Tryz.func56, Tryz.ntmps56
  go_wp2_with fail
  refine (hrd _).mono ?_
  rintro e w1 ⟨D, v, rfl, hf, hD, hDk, hb⟩
  have B1 : Below w.heap.size w w1 := ((Below.refl _ _).alloc (Nat.le_refl _) _).trans (hb.mono (by simp))
  have hf1 : FaultC w.heap.size w1 v ls := hf.mono (by simp)
  have c0 : w1.cell? ⟨w.heap.size, 0, none⟩ = some (.int .i64 kk) := (hb.cell (p := ⟨w.heap.size, 0, none⟩) (by simp)).trans (by simp)
  have c1 : w1.cell? ⟨w.heap.size, 1, none⟩ = some (.func (.func fn) #[.pointer (some ⟨g, 0, none⟩)] #[]) := (hb.cell (p := ⟨w.heap.size, 1, none⟩) (by simp)).trans (by simp)
  have hw1 : w.heap.size < w1.heap.size := World.block_lt_of_cell? w1 _ c0
  obtain ⟨aD, cD, LD, rfl⟩ : ∃ a c L, D = .slice a L c := ⟨_, _, _, hD.form.choose_spec.choose_spec.1⟩
  have H1 : Hid (Below w.heap.size w w1 ∧ FaultC w.heap.size w1 v ls ∧ Sl w1 (.slice aD LD cD) m.digest) := ⟨B1, hf1, hD⟩
  unfold msgV'
  clear hf hD hDk hb B1 hrd
  rcases fault_cases hf1 with ⟨hls, rfl⟩ | ⟨hls, pb, rfl⟩
  · have A1 := (Below.refl w1.heap.size w1).alloc (Nat.le_refl _) (.cells #[.int .i64 m.kind, .int .u64 m.flags, .int .u32 m.creation, .int .u32 m.challenge, .string m.name, .string m.status, .slice aD LD cD] 27)
    have BW := H1.out.1.trans (A1.mono H1.out.1.size)
    have hst := HSTEP.out _ _ BW hls (H1.out.2.2.turned (Turned.ofBelow (S := fun _ => False) A1) (fun _ _ h => h))
    unfold msgV' at hst
    have HLS := Hid.mk7 hls
    have HBW := Hid.mk7 BW
    clear A1 hls hf1 BW
    go_wp2_with fail
    refine hst.mono ?_
    rintro e w2 h2
    rcases h2 with ⟨hx, V, vs, rfl, hgt, hsd, hT⟩ | ⟨hx, v, rfl, hf2, hsd, hb2⟩
    · have HN : Hid (StepTold _ g tk s (.returned (.tuple #[V, .nilIface])) w2) := .inl ⟨hx, V, vs, rfl, hgt, hsd, hT⟩
      obtain ⟨aV, cV, LV, rfl⟩ : ∃ a c L, V = .slice a L c := ⟨_, _, _, hgt.own.sl.form.choose_spec.choose_spec.1⟩
      clear hgt hsd hT hst
      go_wp2
      go_ret2
      exact .inr ⟨HLS.out, _, HBW.out, HN.out⟩
    · have HN : Hid (StepTold _ g tk s (.returned (.tuple #[.slice none 0 0, v])) w2) := .inr ⟨hx, v, rfl, hf2, hsd, hb2⟩
      obtain ⟨pb, _, rfl, _⟩ := hf2
      clear hsd hb2 hst
      go_wp2
      go_ret2
      exact .inr ⟨HLS.out, _, HBW.out, HN.out⟩
  · have HLS := Hid.mk7 hls
    clear hls hf1
    go_wp2
    go_ret2
    exact .inl ⟨HLS.out, _, rfl, H1.out.2.1.turned (alloc0m w1 _) (fun _ _ _ h => h), HSA.out.below (H1.out.1.alloc H1.out.1.size _), H1.out.1.alloc H1.out.1.size _⟩
/-- What Take and Answer tell. -/
def SideTold (w : World) (g : Nat) (x : List Lnk × Sd × List (List Int)) (e : Ending) (w' : World) : Prop := ∃ V v vs, e = .returned (.tuple #[V, v]) ∧ FaultC w.heap.size w' v x.1 ∧ Gather w' w.heap.size V vs x.2.2 ∧ SideAt w' g x.2.1 ∧ Turned (fun k => k = g) w w'
theorem Gather.mono {w : World} {B C : Nat} {v : Value} {vs : List Value} {ls : List (List Int)} (h : Gather w B v vs ls) (hC : C ≤ B) : Gather w C v vs ls := ⟨h.own, h.len, h.each, fun i h1 k hk => ⟨Nat.le_trans hC (h.off i h1 k hk).1, (h.off i h1 k hk).2⟩, fun k hk => Nat.le_trans hC (h.big k hk)⟩
set_option maxRecDepth 100000 in
set_option maxHeartbeats 3200000 in
theorem sd_take {w : World} {g : Nat} (hbig : Big g) {s : Sd} (h : SideAt w g s) (hs : s.Ok) (hfr : s.Fresh) (hG : Gd w) {B : Value} {b : List Int} (hB : Sl w B b) (hr : ∀ z ∈ b, 0 ≤ z ∧ z < 256) (hl : b.length ≤ 140737488355328) :
    Calls Tryz.prog 20 #[.pointer (some ⟨g, 0, none⟩), B] w (SideTold w g (s.take b)) := by
  have HSA := Hid.mk7 h
  obtain ⟨a, c, L, rfl⟩ : ∃ a c L, B = .slice a L c := ⟨_, _, _, hB.form.choose_spec.choose_spec.1⟩
  have hen : ∃ me want cookie ch, Block w g 12 (sdCell g s.state s.peer s.simult me want cookie ch) := by obtain ⟨me, want, cookie, ch, h⟩ := h; exact ⟨me, want, cookie, ch, h.cells⟩
  obtain ⟨me, want, cookie, ch, hbl⟩ := hen
  have hent := sd_enter hbl false
  obtain ⟨tk, htk⟩ : ∃ tk, tk = s.take b := ⟨_, rfl⟩
  rw [← htk]
  have HTK := Hid.mk7 htk
  clear htk hbl
  by_cases h8 : s.state = 8
  · have he : enterErr false s.state = sh 0 8 := by unfold enterErr; rw [if_pos h8]
    rw [he] at hent
    have HT2 : Hid (tk = (sh 0 8, s, [])) := HTK.out.trans (by unfold Sd.take; rw [if_pos h8])
    clear he h8 h hs hfr hG hB hr hl
    go_enter Tryz.func20, Tryz.ntmps20
    go_wp2_with fail
    refine hent.mono ?_
    rintro e w1 ⟨v, rfl, hf, hb⟩
    have HN : Hid (FaultC w.heap.size w1 v (sh 0 8) ∧ Below w.heap.size w w1) := ⟨hf, hb⟩
    obtain ⟨pb, _, rfl, _⟩ := hf
    clear hb hent
    go_wp2
    go_ret2
    rw [HT2.out]
    exact ⟨_, _, [], rfl, HN.out.1, Gather.nil _ _, HSA.out.below HN.out.2, Turned.ofBelow HN.out.2⟩
  by_cases h75 : s.state = 7 ∨ s.state = 5
  · have he : enterErr false s.state = sh 0 161 := by unfold enterErr; rw [if_neg h8, if_neg (by decide), if_pos h75]
    rw [he] at hent
    have HT2 : Hid (tk = (sh 0 161, s, [])) := HTK.out.trans (by unfold Sd.take; rw [if_neg h8, if_pos h75])
    clear he h8 h75 h hs hfr hG hB hr hl
    go_enter Tryz.func20, Tryz.ntmps20
    go_wp2_with fail
    refine hent.mono ?_
    rintro e w1 ⟨v, rfl, hf, hb⟩
    have HN : Hid (FaultC w.heap.size w1 v (sh 0 161) ∧ Below w.heap.size w w1) := ⟨hf, hb⟩
    obtain ⟨pb, _, rfl, _⟩ := hf
    clear hb hent
    go_wp2
    go_ret2
    rw [HT2.out]
    exact ⟨_, _, [], rfl, HN.out.1, Gather.nil _ _, HSA.out.below HN.out.2, Turned.ofBelow HN.out.2⟩
  have he : enterErr false s.state = [] := by unfold enterErr; rw [if_neg h8, if_neg (by decide), if_neg h75]
  rw [he] at hent
  have hst : s.state = 1 ∨ s.state = 2 ∨ s.state = 3 ∨ s.state = 4 ∨ s.state = 6 := by have := hs.lo; have := hs.hi; omega
  have HSG : Hid (∀ W, Below w.heap.size w W → Calls Tryz.prog 55 #[.pointer (some ⟨g, 0, none⟩)] W fun e w' => e = .returned (.agg #[.int .i64 s.kind, .func (.func (stageFn s.state)) #[.pointer (some ⟨g, 0, none⟩)] #[]]) ∧ Below W.heap.size W w') := fun W hW => sd_stage (h.below hW) hst
  have HHD : Hid (∀ W, Below w.heap.size w W → Calls Tryz.prog 56 #[.agg #[.int .i64 s.kind, .func (.func (stageFn s.state)) #[.pointer (some ⟨g, 0, none⟩)] #[]], .slice a L c] W (HandleTold W g s b)) := fun W hW => sd_handle hbig (h.below hW) hs hfr (hG.below hW) hst (hB.turned (Turned.ofBelow (S := fun _ => False) hW) (fun _ _ h => h)) hr hl
  have HT2 : Hid (tk = if (readOf s.kind b).1 ≠ [] then ((readOf s.kind b).1, s.dead, []) else if (s.took (readOf s.kind b).2).1 = 0 then ([], (s.took (readOf s.kind b).2).2.1, (s.took (readOf s.kind b).2).2.2.map writeOf) else (sh 0 (s.took (readOf s.kind b).2).1, s.dead, [])) := HTK.out.trans (by unfold Sd.take; rw [if_neg h8, if_neg h75])
  clear he h8 h75 h hs hfr hG hB hr hl hst HTK hbig
  unfold HandleTold at HHD
  generalize readOf s.kind b = ro at HHD HT2
  obtain ⟨ls, m⟩ := ro
  simp only at HHD HT2
  generalize s.took m = tm at HHD HT2
  generalize stageFn s.state = fn at HSG HHD
  generalize s.kind = kk at HSG HHD
  go_enter Tryz.func20, Tryz.ntmps20
  go_wp2_with fail
  refine hent.mono ?_
  rintro e w1 ⟨v, rfl, hf, hb⟩
  have hf : v = .nilIface := hf
  subst hf
  have HB1 := Hid.mk7 hb
  clear hb hent
  go_wp2_with fail
  refine (HSG.out w1 HB1.out).mono ?_
  rintro e w2 ⟨rfl, hb2⟩
  have HB2 := Hid.mk7 (HB1.out.trans (hb2.mono HB1.out.size))
  clear hb2
  go_wp2_with fail
  refine (HHD.out w2 HB2.out).mono ?_
  rintro e w3 h3
  rcases h3 with ⟨hls, v, rfl, hf3, hsd3, hb3⟩ | ⟨hls, W, hbW, ⟨hx, V, vs, rfl, hgt, hsd3, hT3⟩ | ⟨hx, v, rfl, hf3, hsd3, hb3⟩⟩
  · have HT3 : Hid (tk = (ls, s.dead, [])) := HT2.out.trans (if_pos hls)
    have B3 := HB2.out.trans (hb3.mono HB2.out.size)
    have HN : Hid (FaultC w.heap.size w3 v ls ∧ Below w.heap.size w w3 ∧ g < w.heap.size) := ⟨hf3.mono HB2.out.size, B3, HSA.out.lt⟩
    obtain ⟨me3, want3, cookie3, ch3, hm3⟩ := hsd3
    have hdie := sd_die hm3.cells s
    rcases fault_cases hf3 with ⟨h0, _⟩ | ⟨_, pb, rfl⟩
    · exact absurd h0 hls
    clear hls hf3 hb3 B3 hm3
    go_wp2_with fail
    refine hdie.mono ?_
    rintro e w4 ⟨rfl, hs4, ht4⟩
    have HN4 : Hid (SideAt w4 g s.dead ∧ Turned (fun k => k = g) w3 w4) := ⟨hs4, ht4⟩
    clear hs4 ht4 hdie
    go_wp2
    go_ret2
    rw [HT3.out]
    obtain ⟨q1, q2, q3⟩ := HN.out
    exact ⟨_, _, [], rfl, q1.turned HN4.out.2 (fun k hk _ he => by have he : k = g := he; omega), Gather.nil _ _, HN4.out.1, (Turned.ofBelow q2).trans HN4.out.2 (fun _ h => .inl h)⟩
  · have HT3 : Hid (tk = ([], tm.2.1, tm.2.2.map writeOf)) := HT2.out.trans ((if_neg (fun h => h hls)).trans (if_pos hx))
    have BW := HB2.out.trans (hbW.mono HB2.out.size)
    have HN : Hid (Gather w3 w.heap.size V vs (tm.2.2.map writeOf) ∧ SideAt w3 g tm.2.1 ∧ Turned (fun k => k = g) w w3) := ⟨hgt.mono BW.size, hsd3, (Turned.ofBelow (S := fun k => k = g) BW).trans hT3 (fun _ h => .inl h)⟩
    obtain ⟨aV, cV, LV, rfl⟩ : ∃ a c L, V = .slice a L c := ⟨_, _, _, hgt.own.sl.form.choose_spec.choose_spec.1⟩
    clear hgt hsd3 hT3 hbW BW hx hls
    go_wp2
    go_ret2
    rw [HT3.out]
    exact ⟨_, _, vs, rfl, rfl, HN.out⟩
  · have HT3 : Hid (tk = (sh 0 tm.1, s.dead, [])) := HT2.out.trans ((if_neg (fun h => h hls)).trans (if_neg hx))
    have BW := HB2.out.trans (hbW.mono HB2.out.size)
    have B3 := BW.trans (hb3.mono BW.size)
    have HN : Hid (FaultC w.heap.size w3 v (sh 0 tm.1) ∧ Below w.heap.size w w3 ∧ g < w.heap.size) := ⟨hf3.mono BW.size, B3, HSA.out.lt⟩
    obtain ⟨me3, want3, cookie3, ch3, hm3⟩ := hsd3
    have hdie := sd_die hm3.cells s
    obtain ⟨pb, _, rfl, _⟩ := hf3
    clear hls hb3 B3 hm3 BW hbW hx
    go_wp2_with fail
    refine hdie.mono ?_
    rintro e w4 ⟨rfl, hs4, ht4⟩
    have HN4 : Hid (SideAt w4 g s.dead ∧ Turned (fun k => k = g) w3 w4) := ⟨hs4, ht4⟩
    clear hs4 ht4 hdie
    go_wp2
    go_ret2
    rw [HT3.out]
    obtain ⟨q1, q2, q3⟩ := HN.out
    exact ⟨_, _, [], rfl, q1.turned HN4.out.2 (fun k hk _ he => by have he : k = g := he; omega), Gather.nil _ _, HN4.out.1, (Turned.ofBelow q2).trans HN4.out.2 (fun _ h => .inl h)⟩
end Go.Proofs.YtmnibmgbicnamaaGreatDoor
