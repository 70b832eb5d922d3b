/-
  Layer 8 (shake): what the program's sides tell: digests, messages.
-/
import Derived.Test.YtmnibmgbicnamaaGreatDoorShN
namespace Go.Proofs.YtmnibmgbicnamaaGreatDoor
open Go.RowKit

theorem digest_told {s : ByteArray} (h : cookieErr s = none) (n : Nat) : digestTold s n = digestOf s n := by
  unfold digestTold
  rw [h]
  rfl
set_option maxRecDepth 100000 in
set_option maxHeartbeats 1600000 in
theorem sd_digest {w : World} {g : Nat} {st : Int} {p : Pr} {si : Bool} {me : Pr} {want cookie : ByteArray} {ch : Int} (h : Block w g 12 (sdCell g st p si me want cookie ch)) (hc : cookieErr cookie = none) (n : Nat) (hn : n < 4294967296) (hg : Gd w) :
    Calls Tryz.prog 104 #[.pointer (some ⟨g, 0, none⟩), .int .u32 n] w fun e w' => ∃ V, e = .returned V ∧ Own w' V (digestOf cookie n) ∧ Below w.heap.size w w' ∧ ∀ k, blk V k → w.heap.size ≤ k := by
  have hsz := cookie_size hc
  have hd := mix_impl.digest cookie (by omega) n hn w hg.tb
  rw [hc, digest_told hc n] at hd
  obtain ⟨k10, _⟩ := h 10 (by omega)
  simp only [sdCell] at k10
  clear h hc
  go_enter Tryz.func104, Tryz.ntmps104
  go_wp2_with fail
  refine hd.mono ?_
  rintro e w1 ⟨V, v, rfl, he, ho, hb, hk⟩
  have he : v = .nilIface := he
  subst he
  have HN : Hid (Own w1 V (digestOf cookie n) ∧ Below w.heap.size w w1 ∧ ∀ k, blk V k → w.heap.size ≤ k) := ⟨ho, hb, hk⟩
  obtain ⟨aV, cV, LV, rfl⟩ : ∃ a c L, V = .slice a L c := ⟨_, _, _, ho.sl.form.choose_spec.choose_spec.1⟩
  clear ho hb hk hd
  go_wp2
  go_ret
  exact ⟨_, rfl, HN.out⟩
set_option maxRecDepth 100000 in
set_option maxHeartbeats 1600000 in
theorem sd_shown {w : World} {g : Nat} {st : Int} {p : Pr} {si : Bool} {me : Pr} {want cookie : ByteArray} {ch : Nat} (h : Block w g 12 (sdCell g st p si me want cookie ch)) (hc : cookieErr cookie = none) (hch : ch < 4294967296) {D : Value} {ds : List Int} (hD : Sl w D ds) (hr : ∀ z ∈ ds, 0 ≤ z ∧ z < 256) (hl : ds.length ≤ 140737488355328) (hg : Gd w) :
    Calls Tryz.prog 105 #[.pointer (some ⟨g, 0, none⟩), D] w fun e w' => e = .returned (.bool (decide (ds = digestOf cookie ch))) ∧ Below w.heap.size w w' := by
  have hsz := cookie_size hc
  have hgl : g < w.heap.size := h.lt (by omega)
  have hsm := fun q : Nat => mix_impl.same cookie (by omega) ch hch (hg.tb.below (drewN_below w q)) (hD.turned (Turned.ofBelow (S := fun _ => False) (drewN_below w q)) (fun _ _ h => h)) hr hl
  simp only [same_iff cookie ch hc ds hr] at hsm
  obtain ⟨aD, cD, LD, rfl⟩ : ∃ a c L, D = .slice a L c := ⟨_, _, _, hD.form.choose_spec.choose_spec.1⟩
  obtain ⟨k10, _⟩ := h 10 (by omega)
  obtain ⟨k11, _⟩ := h 11 (by omega)
  simp only [sdCell] at k10 k11
  generalize decide (ds = digestOf cookie ch) = bb at hsm
  clear h hc hD hr hl
  go_enter Tryz.func105, Tryz.ntmps105
  go_wp2_with fail
  go_region_held3 (fun w' => w'.cell? ⟨g, 10, none⟩ = some (.string cookie) ∧ w'.cell? ⟨g, 11, none⟩ = some (.int .u32 (ch : Nat)))
    (go_keep)
    (first | (go_at_call 115; refine (hsm 1).mono ?_; rintro e w1 ⟨rfl, hb1⟩; have s1 := (hb1.cell (p := ⟨g, 10, none⟩) hgl).trans k10; have s2 := (hb1.cell (p := ⟨g, 11, none⟩) hgl).trans k11))
  all_goals
    go_wp2
    go_ret
    exact ⟨rfl, (drewN_below w 1).trans hb1⟩
set_option maxRecDepth 100000 in
set_option maxHeartbeats 1600000 in
theorem sd_tell (m : Msg) (hm : m.Ok) (hns : m.name.size ≤ 4611686018427387904) {w : World} {D : Value} (hD : Sl w D m.digest) (her : Er w) : Calls Tryz.prog 51 #[msgV' m D] w fun e w' => ∃ V, e = .returned V ∧ Own w' V (writeOf m) ∧ Below w.heap.size w w' ∧ ∀ k, blk V k → w.heap.size ≤ k := by
  have hW := fun o : Obj => sh_Write m hm hns (hD.turned (alloc0m w o) (fun _ _ h => h)) (her.below ((Below.refl _ _).alloc (Nat.le_refl _) o))
  obtain ⟨aD, cD, LD, rfl⟩ : ∃ a c L, D = .slice a L c := ⟨_, _, _, hD.form.choose_spec.choose_spec.1⟩
  unfold msgV' at hW ⊢
  have HE : Hid (∀ m w e w', WriteTold m w e w' → WriteTold m w e w') := fun _ _ _ _ h => h
  clear hD her
  generalize hWT : writeOf m = zs
  have HWT : Hid (writeOf m = zs) := hWT
  clear hWT
  go_enter Tryz.func51, Tryz.ntmps51
  go_wp2_with fail
  refine (hW _).mono ?_
  rintro e w1 ⟨V, v, rfl, ho, hf, hb, hk⟩
  have HN : Hid (Own w1 V (writeOf m) ∧ Below w.heap.size w w1 ∧ ∀ k, blk V k → w.heap.size ≤ k) := ⟨ho, ((Below.refl _ _).alloc (Nat.le_refl _) _).trans (hb.mono (by simp)), fun k h => by have := hk k h; simp at this; omega⟩
  obtain ⟨aV, cV, LV, rfl⟩ : ∃ a c L, V = .slice a L c := ⟨_, _, _, ho.sl.form.choose_spec.choose_spec.1⟩
  have hv : (v = .nilIface) ∨ ∃ pb, v = .iface 131 (.pointer (some ⟨pb, 0, none⟩)) := by
    unfold writeErr at hf
    repeat' split at hf
    · obtain ⟨pb, _, h, _⟩ := hf; exact .inr ⟨pb, h⟩
    · obtain ⟨pb, _, _, _, h, _⟩ := hf; exact .inr ⟨pb, h⟩
    · exact .inl hf
  clear ho hf hb hk hW HE
  rcases hv with rfl | ⟨pb, rfl⟩
  all_goals
    go_wp2
    go_ret
    exact ⟨_, rfl, by rw [← HWT.out]; exact HN.out.1, HN.out.2⟩
set_option maxRecDepth 100000 in
theorem sd_peerOf (m : Msg) (D : Value) (hD : ∃ a L c, D = .slice a L c) (w : World) : Calls Tryz.prog 102 #[msgV' m D] w fun e w' => e = .returned (.agg #[.string m.name, .int .u64 m.flags, .int .u32 m.creation]) ∧ Below w.heap.size w w' := by
  obtain ⟨a, L, c, rfl⟩ := hD
  unfold msgV'
  go_enter Tryz.func102, Tryz.ntmps102
  go_wp2
  refine bodyPost_ret (v := .agg #[.string m.name, .int .u64 m.flags, .int .u32 m.creation]) (by simp [results, Tryz.results102, go_sem]) rfl ⟨rfl, ?_⟩
  exact ((Below.refl _ _).alloc (Nat.le_refl _) _).alloc (by simp) _
/-- Which refusal a node meets. -/
def peerErr (p : Pr) : List Lnk := if lacksB p.flags = true then sh 0 162 else if p.creation = 0 then sh 0 1 else []
set_option maxRecDepth 100000 in
set_option maxHeartbeats 1600000 in
theorem sd_checkPeer (p : Pr) (w : World) : Calls Tryz.prog 50 #[.agg #[.string p.name, .int .u64 p.flags, .int .u32 p.creation]] w fun e w' => ∃ v, e = .returned v ∧ FaultC w.heap.size w' v (peerErr p) ∧ Below w.heap.size w w' := by
  obtain ⟨nm, fl, cr⟩ := p
  obtain ⟨ls, hls⟩ : ∃ ls, ls = peerErr ⟨nm, fl, cr⟩ := ⟨_, rfl⟩
  rw [← hls]
  have HLS : Hid (ls = peerErr ⟨nm, fl, cr⟩) := hls
  clear hls
  simp only
  by_cases hf : bits .and .u64 fl 4345626892 = 4345626892
  · have hlk : lacksB fl = false := by unfold lacksB flagsNeeded; simp [hf]
    by_cases hc : cr = 0
    · subst hc
      have hL2 : ls = sh 0 1 := by rw [HLS.out]; simp [peerErr, hlk]
      have HL2 : Hid (ls = sh 0 1) := hL2
      clear hL2 hlk
      go_enter Tryz.func50, Tryz.ntmps50
      go_wp2_with fail
      refine (sh_refuse _ _ _).mono ?_
      rintro e w2 ⟨v, rfl, hf2, hb2⟩
      have HF : Hid (FaultC w.heap.size w2 v (sh 0 1) ∧ Below w.heap.size w w2) := ⟨hf2.mono (by simp), ((Below.refl _ _).alloc (Nat.le_refl _) _).trans (hb2.mono (by simp))⟩
      obtain ⟨pb, _, rfl, _⟩ := hf2
      clear hb2
      go_wp2
      go_ret
      exact ⟨_, rfl, by rw [HL2.out]; exact HF.out.1, HF.out.2⟩
    · have hL2 : ls = [] := by rw [HLS.out]; simp [peerErr, hlk, hc]
      have HL2 : Hid (ls = []) := hL2
      have q : (cr == 0) = false := by simpa using hc
      clear hL2 hlk
      go_enter Tryz.func50, Tryz.ntmps50
      go_wp2
      go_ret
      exact ⟨_, rfl, by rw [HL2.out]; rfl, (Below.refl _ _).alloc (Nat.le_refl _) _⟩
  · have hlk : lacksB fl = true := by unfold lacksB flagsNeeded; simp [hf]
    have hL2 : ls = sh 0 162 := by rw [HLS.out]; simp [peerErr, hlk]
    have HL2 : Hid (ls = sh 0 162) := hL2
    clear hL2 hlk
    go_enter Tryz.func50, Tryz.ntmps50
    go_wp2_with fail
    refine (sh_refuse _ _ _).mono ?_
    rintro e w2 ⟨v, rfl, hf2, hb2⟩
    have HF : Hid (FaultC w.heap.size w2 v (sh 0 162) ∧ Below w.heap.size w w2) := ⟨hf2.mono (by simp), ((Below.refl _ _).alloc (Nat.le_refl _) _).trans (hb2.mono (by simp))⟩
    obtain ⟨pb, _, rfl, _⟩ := hf2
    clear hb2
    go_wp2
    go_ret
    exact ⟨_, rfl, by rw [HL2.out]; exact HF.out.1, HF.out.2⟩
end Go.Proofs.YtmnibmgbicnamaaGreatDoor
