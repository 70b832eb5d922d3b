/-
  Layer 11 (parse): the program's Parse and Text of that text; the statements' question whether it is alive.
-/
import Derived.Test.YtipdmmncgenppaaGreatDoorPW
namespace Go.Proofs.YtipdmmncgenppaaGreatDoor
open Go.RowKit

def NF : List Sh := mProgram 0
theorem NF_length : NF.length = 12 := by decide
/-- The Kids of that tree's nodes. -/
def kidsF (i : Nat) : List Int := ((NF[i]?).map (·.kids)).getD []
theorem belowF : belowS 12 kidsF [11] = [0, 1, 2, 3, 4, 5, 6, 7, 8, 9, 10, 11] := by decide +kernel
theorem heightsF : ((heightsS kidsF [0, 1, 2, 3, 4, 5, 6, 7, 8, 9, 10, 11] (List.replicate 12 0))[11]?).getD 0 ≤ 500 := by decide +kernel
theorem kidsF_low : ∀ i < 12, ∀ k ∈ kidsF i, 0 ≤ k ∧ k < 12 := by decide +kernel
/-- Nodes' Kids, with their values. -/
def kvs (N : List Nd) : List (Value × List Int) := N.map fun n => (n.kv, n.kids)
theorem kvs_length (N : List Nd) : (kvs N).length = N.length := by simp [kvs]
theorem kids_of {N : List Nd} (h : N.map Nd.sh = NF) : kidsOf (kvs N) = kidsF := by
  funext i
  unfold kidsOf kidsF kvs
  rw [← h]
  cases e : N[i]? with
  | none => simp [e]
  | some n => simp [e, Nd.sh]
theorem NodesAt.cells {w : World} {Nv : Value} {N : List Nd} (h : NodesAt w Nv N) (j : Nat) (hj : j < N.length) : ∃ b off cap, Nv = .slice (some ⟨b, off, none⟩) N.length cap ∧ w.cell? ⟨b, off + j * 6, none⟩ = some (.int .i64 N[j].kind) ∧ w.cell? ⟨b, off + j * 6 + 1, none⟩ = some (.string N[j].text) ∧ w.cell? ⟨b, off + j * 6 + 4, none⟩ = some N[j].kv := by
  obtain ⟨b, off, cap, e, _, _, hc⟩ := h.own.sl.at j hj
  have c : ∀ q, q < 6 → w.cell? ⟨b, off + j * 6 + q, none⟩ = N[j].cells[q]? := fun q hq => (hc q hq).1.trans (nds_get N j hj q hq)
  exact ⟨b, off, cap, e, c 0 (by decide), c 1 (by decide), c 4 (by decide)⟩
theorem NodesAt.arg {w : World} {Nv : Value} {N : List Nd} (h : NodesAt w Nv N) (hn : 0 < N.length) (hs : ∀ n ∈ N, n.kids.length ≤ 4611686018427387903) : NArg w Nv (kvs N) := by
  obtain ⟨b, off, cap, e, _⟩ := h.cells 0 hn
  refine .inr ⟨b, off, cap, by rw [kvs_length]; exact e, fun j hj => ?_⟩
  have hj' : j < N.length := by simpa [kvs] using hj
  obtain ⟨b', off', cap', e', _, _, c4⟩ := h.cells j hj'
  rw [e] at e'
  simp only [Value.slice.injEq, Option.some.injEq, Addr.mk.injEq, and_true, true_and] at e'
  obtain ⟨⟨rfl, rfl⟩, rfl⟩ := e'
  simp only [kvs, List.getElem_map]
  exact ⟨c4, (h.kid j hj').any (hs _ (List.getElem_mem hj'))⟩
theorem NodesAt.below {w w' : World} {Nv : Value} {N : List Nd} (h : NodesAt w Nv N) (hb : Below w.heap.size w w') : NodesAt w' Nv N := h.turned (Turned.ofBelow (S := fun _ => False) hb) (fun _ _ e => e) (fun _ _ _ _ e => e)
set_option maxRecDepth 100000 in
set_option maxHeartbeats 1600000 in
theorem ps_Parse {w : World} {Tv : Value} (htok : SlK 4 w Tv 17 (toks T0)) :
    Calls Tryz.prog 20 #[Tv] w fun x w' => ∃ Nv N, x = .returned (.tuple #[Nv, .int .i64 11, .nilIface]) ∧ N.map Nd.sh = NF ∧ NodesAt w' Nv N ∧ Below w.heap.size w w' := by
  have hg := ps_grow T0 (by decide) (by decide) mProgram (fun n => n + 11) program0 htok
  obtain ⟨aT, cT, hTv, _⟩ := htok.form
  subst hTv
  clear htok
  go_enter Tryz.func20, Tryz.ntmps20
  go_wp2_with fail
  refine hg.mono ?_
  rintro x w1 ⟨Nv, N, rfl, e1, h1, hb1⟩
  have hNl : N.length = 12 := by have := congrArg List.length e1; simpa [mProgram, mModule, mFunction, mFun, mBody, mSum, mProd] using this
  have hks : ∀ n ∈ N, n.kids.length ≤ 4611686018427387903 := fun n hn => by
    have h2 : n.sh ∈ NF := by rw [show NF = N.map Nd.sh from e1.symm]; exact List.mem_map_of_mem hn
    have h3 : ∀ s ∈ NF, s.kids.length ≤ 4611686018427387903 := by decide +kernel
    exact h3 _ h2
  have a1 := h1.arg (by omega) hks
  have B2 := Below.alloc0 w1 (.cells #[.int .i64 (11 : Int)] 3)
  have hbl := ps_Below (a1.below B2) (SlI.any (SlI.one w1 11 3) (by simp)) (by rw [kvs_length]; omega)
  rw [kvs_length, hNl, kids_of e1, belowF] at hbl
  obtain ⟨aN, cN, hNv, _⟩ := h1.own.sl.form
  subst hNv
  have H1 := Hid.mk7 (And.intro e1 (And.intro h1 (And.intro hb1 (And.intro a1 B2))))
  rw [hNl] at hbl
  clear hg e1 h1 hb1 a1 B2
  go_wp2_with fail
  refine hbl.mono ?_
  rintro x w3 ⟨V, rfl, ho3, hb3, _⟩
  have B3 := H1.out.2.2.2.2.trans (hb3.mono H1.out.2.2.2.2.size)
  have a3 := H1.out.2.2.2.1.below B3
  have hli := ps_limit a3 (SlI.any (OwnK.sl ho3) (by simp)) (by rw [kvs_length]; omega) (by rw [kvs_length, hNl]; decide) (by rw [kvs_length, hNl, kids_of H1.out.1]; exact kidsF_low) (by decide) (by decide) (by rw [kvs_length, hNl, kids_of H1.out.1]; exact heightsF)
  obtain ⟨aV, cV, hV, _⟩ := OwnK.sl ho3 |>.form
  subst hV
  have H3 := Hid.mk7 B3
  rw [hNl] at hli
  clear hbl ho3 hb3 a3 B3
  go_wp2_with fail
  refine hli.mono ?_
  rintro x w4 ⟨rfl, hb4⟩
  have H4 := Hid.mk7 (H3.out.trans (hb4.mono H3.out.size))
  clear hli hb4
  go_wp2
  go_ret3
  refine ⟨.slice aN N.length cN, N, by rw [hNl]; rfl, H1.out.1, H1.out.2.1.below H4.out, H1.out.2.2.1.trans (H4.out.mono H1.out.2.2.1.size)⟩
set_option maxRecDepth 100000 in
theorem er_as_nil (t : Value) (w : World) : Calls Tryz.prog 21 #[.nilIface, t] w fun e w' => e = .returned (.bool false) ∧ w = w' := by
  go_enter Tryz.func21, Tryz.ntmps21
  go_wp2
  go_ret
  exact ⟨rfl, rfl⟩
set_option maxRecDepth 100000 in
set_option maxHeartbeats 1600000 in
theorem ps_Text {w : World} (hw : SgAt w) :
    Calls Tryz.prog 12 #[.string S0] w fun x w' => ∃ Nv N, x = .returned (.tuple #[Nv, .int .i64 11, .nilIface]) ∧ N.map Nd.sh = NF ∧ NodesAt w' Nv N ∧ Below w.heap.size w w' := by
  have hs := lx_Scan w hw
  clear hw
  generalize S0 = s0 at hs ⊢
  go_enter Tryz.func12, Tryz.ntmps12
  go_wp2_with fail
  refine hs.mono ?_
  rintro x w1 ⟨V, rfl, ho, hb1, _⟩
  have hp := ps_Parse ho.sl
  obtain ⟨aV, cV, hV, _⟩ := ho.sl.form
  subst hV
  have HB1 := Hid.mk7 hb1
  clear hs ho hb1
  go_wp2_with fail
  refine hp.mono ?_
  rintro x w2 ⟨Nv, N, rfl, e2, h2, hb2⟩
  obtain ⟨aN, cN, hNv, _⟩ := h2.own.sl.form
  have hNl : N.length = 12 := by have := congrArg List.length e2; simpa [NF_length] using this
  rw [hNl] at hNv
  subst hNv
  have ha := fun t w => er_as_nil t w
  have H2 := Hid.mk7 (And.intro e2 (And.intro h2 (HB1.out.trans (hb2.mono HB1.out.size))))
  clear hp e2 h2 hb2
  go_wp2_with (go_at_call 21; refine (ha _ _).mono ?_; rintro x w3 ⟨rfl, rfl⟩)
  go_ret3
  exact ⟨_, N, rfl, H2.out.1, H2.out.2.1.below (Below.alloc0 w2 _), H2.out.2.2.trans ((Below.alloc0 w2 _).mono H2.out.2.2.size)⟩
end Go.Proofs.YtipdmmncgenppaaGreatDoor
