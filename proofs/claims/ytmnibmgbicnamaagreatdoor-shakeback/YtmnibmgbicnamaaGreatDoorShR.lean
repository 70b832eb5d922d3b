/-
  Layer 8 (shake): what the program's side does with a challenge.
-/
import Derived.Test.YtmnibmgbicnamaaGreatDoorShQ
import Derived.Laws.EntriesVeiled
namespace Go.Proofs.YtmnibmgbicnamaaGreatDoor
open Go.RowKit

theorem toList_ne {s t : ByteArray} (h : s ≠ t) : (s.toList == t.toList) = false := by
  rw [beq_eq_false_iff_ne]
  intro e
  rw [ByteArray.toList_eq, ByteArray.toList_eq] at e
  exact h (ByteArray.ext (Array.toList_inj.1 e))
/-- A node in memory. -/
structure PeerAt (w : World) (g : Nat) (p : Pr) : Prop where
  c0 : w.cell? ⟨g, 0, none⟩ = some (.string p.name)
  c1 : w.cell? ⟨g, 1, none⟩ = some (.int .u64 p.flags)
  c2 : w.cell? ⟨g, 2, none⟩ = some (.int .u32 p.creation)
theorem PeerAt.turned {S : Nat → Prop} {w w' : World} {g : Nat} {p : Pr} (h : PeerAt w g p) (ht : Turned S w w') (hs : ¬ S g) : PeerAt w' g p := ⟨ht.cell h.c0 hs, ht.cell h.c1 hs, ht.cell h.c2 hs⟩
theorem PeerAt.below {w w' : World} {g : Nat} {p : Pr} (h : PeerAt w g p) (hb : Below w.heap.size w w') : PeerAt w' g p := h.turned (Turned.ofBelow (S := fun _ => False) hb) (fun h => h)
theorem PeerAt.ofNew (w : World) (p : Pr) (t : TypeId) : PeerAt (w.alloc (.cells #[.string p.name, .int .u64 p.flags, .int .u32 p.creation] t)) w.heap.size p := ⟨by simp, by simp, by simp⟩
/-- A block that is none of the variables'. -/
def Big (g : Nat) : Prop := 0 < g ∧ 2 < g
theorem Gd.big {w : World} (h : Gd w) {g : Nat} (hg : w.heap.size ≤ g) : Big g := ⟨Nat.lt_of_lt_of_le h.er.lt hg, Nat.lt_of_lt_of_le h.tb.lt hg⟩
theorem Gd.turned {w w' : World} {g : Nat} (h : Gd w) (ht : Turned (fun k => k = g) w w') (hb : Big g) (hg : g ≤ w.heap.size) : Gd w' := by
  have hB : Below g w w' := ht.below hg (fun i hi => Nat.le_of_eq hi.symm)
  exact ⟨(hB.cell (p := ⟨0, 0, none⟩) hb.1).trans h.er, var?_below hB Tryz.pow10 hb.2 h.tb⟩
theorem drew_below {w w' : World} (h : Below w.drew.heap.size w.drew w') : Below w.heap.size w w' := ((Below.refl w.heap.size w).drew).trans h
set_option maxRecDepth 100000 in
set_option maxHeartbeats 6400000 in
theorem sd_takeChallenge {w : World} {g : Nat} (hbig : Big g) {s : Sd} (h : SideAt w g s) (hst : s.state = 2) (hs : s.Ok) (hG : Gd w) (m : Msg) (hm : m.Ok) (hk : m.kind = 3) {D : Value} (hD : ∃ a L c, D = .slice a L c) : Calls Tryz.prog 81 #[.pointer (some ⟨g, 0, none⟩), msgV' m D] w (StepTold w g (s.took m) s) := by
  have HSA := Hid.mk7 h
  have HBG := Hid.mk7 hbig
  clear hbig
  have hpo := fun W : World => sd_peerOf m D hD W
  have hlk := fun W : World => sd_lacks ⟨m.name, m.flags, m.creation⟩ W
  obtain ⟨a, L, c, rfl⟩ := hD
  obtain ⟨me, want, cookie, ch, h⟩ := h
  have hgl := h.lt
  have HB := Hid.mk7 h
  obtain ⟨hkc, hkn, hkw, _⟩ := h.keeps (by omega) (by omega)
  have hkw := hkw (by omega)
  have hck := hs.live (by omega) (by omega)
  have htk : s.took m = if m.name = s.want ∧ lacksB m.flags = false then (0, { s with state := 3, peer := ⟨m.name, m.flags, m.creation⟩ }, [{ Msg.zero with kind := 4, challenge := s.challenge, digest := digestOf s.cookie m.challenge.toNat }]) else (162, s, []) := by unfold Sd.took; rw [if_neg (by omega), if_pos hk]
  subst hkc hkn hkw
  obtain ⟨n, hn⟩ : ∃ n : Nat, m.challenge = (n : Int) := ⟨m.challenge.toNat, by have := hm.challenge; omega⟩
  have hn2 : n < 4294967296 := by have := hm.challenge; omega
  have hsn := hs.num
  have HST : Hid (s.state = 2) := hst
  unfold msgV' at hpo ⊢
  rw [hn] at htk hpo ⊢
  rw [Int.toNat_natCast] at htk
  simp only at hlk
  have HCK := Hid.mk7 hck
  have HGd := Hid.mk7 hG
  clear h hs hm hn hG hk hst hck
  by_cases hnm : m.name = s.want
  case neg =>
    rw [if_neg (fun h => hnm h.1)] at htk
    rw [htk]
    have hq := toList_ne hnm
    clear htk hnm
    go_enter Tryz.func81, Tryz.ntmps81
    go_wp2_with fail
    refine (hpo _).mono ?_
    rintro e w1 ⟨rfl, hb⟩
    have HB1 : Hid (SideM w1 g s me s.want s.cookie s.challenge ∧ Below w.heap.size w w1) := ⟨(HB.out.turned (alloc0m w _) (fun h => h)).turned (Turned.ofBelow (S := fun _ => False) hb) (fun h => h), ((Below.refl _ _).alloc (Nat.le_refl _) _).trans (hb.mono (by simp))⟩
    obtain ⟨k9, _⟩ := HB1.out.1.cells 9 (by omega)
    have hg1 := HB1.out.1.lt
    simp only [sdCell] at k9
    clear hb hpo hlk
    go_wp2_with fail
    go_quiet (fail)
    go_wp2_with fail
    refine (sh_refuse _ _ _).mono ?_
    rintro e w2 ⟨v, rfl, hf, hb⟩
    have HN := Hid.mk7 (step_no (x := (162, s, [])) (show (162 : Int) ≠ 0 by decide) HSA.out ((HB1.out.2.alloc HB1.out.2.size _).trans ((drewN_below _ nq).mono (by have := HB1.out.2.size; simp; omega))) hf hb)
    obtain ⟨pb, _, rfl, _⟩ := hf
    clear hb
    go_wp2
    go_ret2
    exact HN.out
  case pos =>
    have HNM : Hid (m.name = s.want) := hnm
    clear hnm
    have HTK := Hid.mk7 htk
    clear htk
    generalize s.took m = tk at HTK ⊢
    go_enter Tryz.func81, Tryz.ntmps81
    go_wp2_with fail
    refine (hpo _).mono ?_
    rintro e w1 ⟨rfl, hb⟩
    have HB1 : Hid (SideM w1 g s me s.want s.cookie s.challenge ∧ Below w.heap.size w w1) := ⟨(HB.out.turned (alloc0m w _) (fun h => h)).turned (Turned.ofBelow (S := fun _ => False) hb) (fun h => h), ((Below.refl _ _).alloc (Nat.le_refl _) _).trans (hb.mono (by simp))⟩
    have c3 : w1.cell? ⟨w.heap.size, 3, none⟩ = some (.int .u32 (n : Nat)) := (hb.cell (p := ⟨w.heap.size, 3, none⟩) (by simp)).trans (by simp)
    have hw1 : w.heap.size < w1.heap.size := World.block_lt_of_cell? w1 _ c3
    obtain ⟨k9, _⟩ := HB1.out.1.cells 9 (by omega)
    have hg1 := HB1.out.1.lt
    simp only [sdCell] at k9
    rw [← HNM.out] at k9
    have A1 := (Below.refl w1.heap.size w1).alloc (Nat.le_refl _) (.cells #[.string m.name, .int .u64 m.flags, .int .u32 m.creation] 46)
    have HW : Hid (SideM (w1.alloc (.cells #[.string m.name, .int .u64 m.flags, .int .u32 m.creation] 46)) g s me s.want s.cookie s.challenge ∧ Below w.heap.size w (w1.alloc (.cells #[.string m.name, .int .u64 m.flags, .int .u32 m.creation] 46)) ∧ PeerAt (w1.alloc (.cells #[.string m.name, .int .u64 m.flags, .int .u32 m.creation] 46)) w1.heap.size ⟨m.name, m.flags, m.creation⟩ ∧ (w1.alloc (.cells #[.string m.name, .int .u64 m.flags, .int .u32 m.creation] 46)).cell? ⟨w.heap.size, 3, none⟩ = some (.int .u32 (n : Nat))) := ⟨HB1.out.1.turned (alloc0m w1 _) (fun h => h), HB1.out.2.trans (A1.mono HB1.out.2.size), PeerAt.ofNew w1 ⟨m.name, m.flags, m.creation⟩ _, (A1.cell (p := ⟨w.heap.size, 3, none⟩) hw1).trans c3⟩
    clear hb hpo A1 c3
    cases hlb : lacksB m.flags with
    | true =>
      rw [hlb] at hlk
      have HTK2 : Hid (tk = (162, s, [])) := HTK.out.trans (if_neg (fun h => by rw [hlb] at h; exact absurd h.2 (by decide)))
      clear hlb
      go_wp2_with fail
      go_region_held3 (fun w' => w'.cell? ⟨w1.heap.size, 0, none⟩ = some (.string m.name) ∧ w'.cell? ⟨w1.heap.size, 1, none⟩ = some (.int .u64 m.flags) ∧ w'.cell? ⟨w1.heap.size, 2, none⟩ = some (.int .u32 m.creation) ∧ w'.cell? ⟨g, 9, none⟩ = some (.string m.name))
        (go_keep)
        (first | (go_at_call 103; refine (hlk _).mono ?_; rintro e w3 ⟨rfl, hb3⟩; have hb3' := drew_below hb3; have s0 := (hb3'.cell (p := ⟨w1.heap.size, 0, none⟩) (by simp)).trans HW.out.2.2.1.c0; have s1 := (hb3'.cell (p := ⟨w1.heap.size, 1, none⟩) (by simp)).trans HW.out.2.2.1.c1; have s2 := (hb3'.cell (p := ⟨w1.heap.size, 2, none⟩) (by simp)).trans HW.out.2.2.1.c2; have s9 := (hb3'.cell (p := ⟨g, 9, none⟩) (by simp only [World.size_alloc]; omega)).trans ((alloc0m w1 _).cell (p := ⟨g, 9, none⟩) k9 (fun h => h))))
      all_goals
        have HB3 := Hid.mk7 hb3'
        clear hb3 hb3' s0 s1 s2 s9
        go_wp2_with fail
        refine (sh_refuse _ _ _).mono ?_
        rintro e w4 ⟨v, rfl, hf, hb⟩
        have HN := Hid.mk7 (step_no (x := (162, s, [])) (show (162 : Int) ≠ 0 by decide) HSA.out (HW.out.2.1.trans (HB3.out.mono HW.out.2.1.size)) hf hb)
        obtain ⟨pb, _, rfl, _⟩ := hf
        clear hb
        go_wp2
        go_ret2
        rw [HTK2.out]
        exact HN.out
    | false =>
      rw [hlb] at hlk
      have HTK2 := Hid.mk7 (HTK.out.trans (if_pos ⟨HNM.out, hlb⟩))
      clear hlb
      go_wp2_with fail
      go_region_held3 (fun w' => w'.cell? ⟨w1.heap.size, 0, none⟩ = some (.string m.name) ∧ w'.cell? ⟨w1.heap.size, 1, none⟩ = some (.int .u64 m.flags) ∧ w'.cell? ⟨w1.heap.size, 2, none⟩ = some (.int .u32 m.creation) ∧ w'.cell? ⟨g, 9, none⟩ = some (.string m.name))
        (go_keep)
        (first | (go_at_call 103; refine (hlk _).mono ?_; rintro e w3 ⟨rfl, hb3⟩; have hb3' := drew_below hb3; have s0 := (hb3'.cell (p := ⟨w1.heap.size, 0, none⟩) (by simp)).trans HW.out.2.2.1.c0; have s1 := (hb3'.cell (p := ⟨w1.heap.size, 1, none⟩) (by simp)).trans HW.out.2.2.1.c1; have s2 := (hb3'.cell (p := ⟨w1.heap.size, 2, none⟩) (by simp)).trans HW.out.2.2.1.c2; have s9 := (hb3'.cell (p := ⟨g, 9, none⟩) (by simp only [World.size_alloc]; omega)).trans ((alloc0m w1 _).cell (p := ⟨g, 9, none⟩) k9 (fun h => h))))
      all_goals
        have B3 := HW.out.2.1.trans (hb3'.mono HW.out.2.1.size)
        have HW3 : Hid (SideM w3 g s me s.want s.cookie s.challenge ∧ Below w.heap.size w w3 ∧ PeerAt w3 w1.heap.size ⟨m.name, m.flags, m.creation⟩ ∧ w3.cell? ⟨w.heap.size, 3, none⟩ = some (.int .u32 (n : Nat)) ∧ w1.heap.size < w3.heap.size) := ⟨HW.out.1.turned (Turned.ofBelow (S := fun _ => False) hb3') (fun h => h), B3, HW.out.2.2.1.below hb3', (hb3'.cell (p := ⟨w.heap.size, 3, none⟩) (by simp only [World.size_alloc]; omega)).trans HW.out.2.2.2, by have := hb3'.size; simp only [World.size_alloc] at this; omega⟩
        clear hb3 hb3' s0 s1 s2 s9 B3 k9 hlk
        obtain ⟨p0, p1, p2⟩ := HW3.out.2.2.1
        obtain ⟨k1, f1⟩ := HW3.out.1.cells 1 (by omega)
        obtain ⟨k2, f2⟩ := HW3.out.1.cells 2 (by omega)
        obtain ⟨k3, f3⟩ := HW3.out.1.cells 3 (by omega)
        obtain ⟨k4, f4⟩ := HW3.out.1.cells 4 (by omega)
        simp only [sdCell] at k1 k2 k3 k4
        simp only at p0 p1 p2
        have hgne : ¬ g = w1.heap.size := by omega
        have hgne' : ¬ w1.heap.size = g := by omega
        go_wp2_with fail
        go_region
        obtain ⟨w5, hw5⟩ : ∃ w5, w5 = ((((w3.setCell ⟨g, 1, none⟩ (.int .i64 3)).setCell ⟨g, 2, none⟩ (.string m.name)).setCell ⟨g, 3, none⟩ (.int .u64 m.flags)).setCell ⟨g, 4, none⟩ (.int .u32 m.creation)).drew := ⟨_, rfl⟩
        rw [← hw5]
        have T5 : Turned (fun k => k = g) w3 w5 := by
          rw [hw5]
          exact ((((Turned.set1 w3 g 1 _).trans (Turned.set1 _ g 2 _) (fun _ h => .inl h)).trans (Turned.set1 _ g 3 _) (fun _ h => .inl h)).trans (Turned.set1 _ g 4 _) (fun _ h => .inl h)).trans (Turned.drew (fun k => k = g) _) (fun _ h => .inl h)
        have B5 : Block w5 g 12 (sdCell g 3 ⟨m.name, m.flags, m.creation⟩ s.simult me s.want s.cookie s.challenge) := by
          rw [hw5]
          exact (((((HW3.out.1.cells.set 1 (.int .i64 3)).set 2 (.string m.name)).set 3 (.int .u64 m.flags)).set 4 (.int .u32 m.creation)).congr (forall12 rfl rfl rfl rfl rfl rfl rfl rfl rfl rfl rfl rfl)).turned (Turned.drew (fun _ => False) _) (fun h => h)
        have c3 : w5.cell? ⟨w.heap.size, 3, none⟩ = some (.int .u32 (n : Nat)) := T5.cell (p := ⟨w.heap.size, 3, none⟩) HW3.out.2.2.2.1 (fun h => by have h : w.heap.size = g := h; omega)
        have TW : Turned (fun k => k = g) w w5 := (Turned.ofBelow (S := fun k => k = g) HW3.out.2.1).trans T5 (fun _ h => .inl h)
        have g5 : Gd w5 := HGd.out.turned TW HBG.out (by omega)
        have H5 : Hid (Block w5 g 12 (sdCell g 3 ⟨m.name, m.flags, m.creation⟩ s.simult me s.want s.cookie s.challenge) ∧ Turned (fun k => k = g) w w5 ∧ Gd w5) := ⟨B5, TW, g5⟩
        obtain ⟨k11, _⟩ := B5 11 (by omega)
        simp only [sdCell] at k11
        have hg5 : g < w5.heap.size := B5.lt (by omega)
        have hw5' : w.heap.size < w5.heap.size := World.block_lt_of_cell? w5 _ c3
        have hdg := sd_digest (B5.turned (Turned.drew (fun _ => False) w5) (fun h => h)) HCK.out n hn2 (g5.below ((Below.refl _ _).drew))
        clear hw5 T5 B5 TW g5 k1 k2 k3 k4 f1 f2 f3 f4 p0 p1 p2
        go_wp2_with fail
        go_region_held3 (fun w' => w'.cell? ⟨g, 11, none⟩ = some (.int .u32 s.challenge) ∧ w'.cell? ⟨w.heap.size, 3, none⟩ = some (.int .u32 (n : Nat)))
          (go_keep)
          (first
            | (go_at_call 104; refine hdg.mono ?_; rintro e w6 ⟨Vd, rfl, hod, hbd0, _⟩; have hbd := drew_below hbd0; have s11 := (hbd.cell (p := ⟨g, 11, none⟩) hg5).trans k11; have s3 := (hbd.cell (p := ⟨w.heap.size, 3, none⟩) hw5').trans c3; have htl := sd_tell { Msg.zero with kind := 4, challenge := s.challenge, digest := digestOf s.cookie n } ⟨z64, z32, ⟨by simp only []; omega, by simp only []; omega⟩, digest_rng _ _⟩ zname hod.sl (H5.out.2.2.below hbd).er; have HBD := Hid.mk7 hbd; have hg6 : g < w6.heap.size := Nat.lt_of_lt_of_le hg5 hbd.size; have hw6 : w.heap.size < w6.heap.size := Nat.lt_of_lt_of_le hw5' hbd.size; obtain ⟨aV, cV, LV, rfl⟩ : ∃ a c L, Vd = .slice a L c := ⟨_, _, _, hod.sl.form.choose_spec.choose_spec.1⟩; unfold msgV' at htl; simp only [Msg.zero] at htl; generalize hWz : writeOf _ = zs at htl; have HWz := Hid.mk7 hWz; clear hod hbd0 hbd hWz hdg)
            | (go_at_call 51; refine htl.mono ?_; rintro e w7 ⟨V, rfl, ho, hb7, hk7⟩; have t11 := (hb7.cell (p := ⟨g, 11, none⟩) hg6).trans s11; have t3 := (hb7.cell (p := ⟨w.heap.size, 3, none⟩) hw6).trans s3; have HN7 := Hid.mk7 (And.intro ho (And.intro hb7 hk7)); obtain ⟨aV', cV', LV', rfl⟩ : ∃ a c L, V = .slice a L c := ⟨_, _, _, ho.sl.form.choose_spec.choose_spec.1⟩; clear ho hb7 hk7))
        all_goals
          clear t11 t3 s11 s3 k11 c3 htl
          go_wp2
          go_ret2
          obtain ⟨q1, q2, q3⟩ := HN7.out
          have b57 : Below w5.heap.size w5 w7 := HBD.out.trans (q2.mono HBD.out.size)
          have hw7 : w.heap.size ≤ w7.heap.size := Nat.le_trans H5.out.2.1.size b57.size
          have hg7 : g < w7.heap.size := Nat.lt_of_lt_of_le hg5 b57.size
          have hgt := Gather.one q1 (B := w.heap.size) (fun k hk => by have := q3 k hk; omega) hw7 25
          rw [← HWz.out] at hgt
          have hsd : SideAt w7 g { s with state := 3, peer := ⟨m.name, m.flags, m.creation⟩ } := ⟨me, s.want, s.cookie, s.challenge, H5.out.1.turned (Turned.ofBelow (S := fun _ => False) b57) (fun h => h), fun _ _ => ⟨rfl, rfl, fun _ => rfl, fun h => absurd h (show ¬ (4 : Int) ≤ 3 by decide)⟩⟩
          have hT7 : Turned (fun k => k = g) w w7 := H5.out.2.1.trans (Turned.ofBelow (S := fun _ => False) b57) (fun _ h => h.elim)
          rw [HTK2.out]
          exact .inl ⟨rfl, _, _, rfl, hgt, hsd.below ((Below.refl _ _).alloc (Nat.le_refl _) _), hT7.trans (Turned.alloc (fun _ => False) w7 _) (fun _ h => h.elim)⟩
end Go.Proofs.YtmnibmgbicnamaaGreatDoor
