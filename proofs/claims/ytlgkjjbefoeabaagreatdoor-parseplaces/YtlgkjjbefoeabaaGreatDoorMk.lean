/-
  Layer 11 (parse): the same tokens at other places; chains of faults held against each other.
  Layer 11 (parse): heddlelaw11.ParsePlaces, the statement's walk: whatever the text and the number, it answers true.
  heddlelaw11.ParsePlaces: the row.
  heddlelaw11.ParsePlaces: the card.
  Whatever the text and the number, heddlelaw11.ParsePlaces answers true: the tokens of a text, told at other places, are parsed into a tree that is the same but for its places, or refused alike; and the program's parser is alive. Conditions: those of the given row alone (the nine listed variables, heddle's lex.signs and eight of Go's library, start as the program's text lays them; the card ties that, to the seat's pruned copy of the project); the program is the landed one, translated at its commit.
-/
import Derived.Test.YtlgkjjbefoeabaaGreatDoorMf
import Derived.Test.YtlgkjjbefoeabaaGreatDoorMg
import Derived.Test.YtlgkjjbefoeabaaGreatDoorMb
import Derived.Test.YtlgkjjbefoeabaaGreatDoorMc
import Derived.Test.YtlgkjjbefoeabaaGreatDoorMj
import Derived.Test.YtlgkjjbefoeabaaGreatDoorTie
import Derived.Test.YtlgkjjbefoeabaaGreatDoorCards
import Derived.SevenTiedAt
namespace Go.Proofs.YtlgkjjbefoeabaaGreatDoor
open Go.RowKit

/-- The first tokens of two rows are alike. -/
def AlikeTo (T T' : List Tk) (j : Nat) : Prop := T'.length = j ∧ ∀ i, i < j → (tokAt T i).kind = (tokAt T' i).kind ∧ (tokAt T i).text = (tokAt T' i).text ∧ (tokAt T i).num = (tokAt T' i).num
theorem AlikeTo.snoc {T T' : List Tk} {j : Nat} (h : AlikeTo T T' j) (z : Int) : AlikeTo T (T' ++ [⟨(tokAt T j).kind, (tokAt T j).text, (tokAt T j).num, z⟩]) (j + 1) := by
  obtain ⟨h1, h2⟩ := h
  refine ⟨by simp [h1], fun i hi => ?_⟩
  by_cases hij : i < j
  · have e : tokAt (T' ++ [⟨(tokAt T j).kind, (tokAt T j).text, (tokAt T j).num, z⟩]) i = tokAt T' i := by
      unfold tokAt
      rw [List.getElem?_append_left (by omega)]
    rw [e]
    exact h2 i hij
  · obtain rfl : i = j := by omega
    have e : ∀ q : Tk, tokAt (T' ++ [q]) i = q := by
      intro q
      unfold tokAt
      rw [List.getElem?_append_right (by omega)]
      simp [h1]
    rw [e]
    exact ⟨rfl, rfl, rfl⟩
theorem AlikeTo.all {T T' : List Tk} (h : AlikeTo T T' T.length) : Alike T T' := by
  refine ⟨h.1.symm, fun i => ?_⟩
  by_cases hi : i < T.length
  · exact h.2 i hi
  · have e1 : tokAt T i = zeroTk := by simp [tokAt, List.getElem?_eq_none (Nat.le_of_not_lt hi)]
    have e2 : tokAt T' i = zeroTk := by simp [tokAt, List.getElem?_eq_none (show T'.length ≤ i by rw [h.1]; omega)]
    rw [e1, e2]
    exact ⟨rfl, rfl, rfl⟩
theorem SlK.tokAt {w : World} {aT : Option Addr} {cT : Nat} {T : List Tk} (h : SlK 4 w (.slice aT T.length cT) T.length (toks T)) (j : Nat) (hj : j < T.length) : ∃ b off, aT = some ⟨b, off, none⟩ ∧ w.cell? ⟨b, off + j * 4, none⟩ = some (.int .i64 (Go.Proofs.YtlgkjjbefoeabaaGreatDoor.tokAt T j).kind) ∧ w.cell? ⟨b, off + j * 4 + 1, none⟩ = some (.string (Go.Proofs.YtlgkjjbefoeabaaGreatDoor.tokAt T j).text) ∧ w.cell? ⟨b, off + j * 4 + 2, none⟩ = some (.int .i64 (Go.Proofs.YtlgkjjbefoeabaaGreatDoor.tokAt T j).num) ∧ w.cell? ⟨b, off + j * 4 + 3, none⟩ = some (.int .i64 (Go.Proofs.YtlgkjjbefoeabaaGreatDoor.tokAt T j).at_) := by
  obtain ⟨b, off, cap, e, _, _, hc⟩ := h.at j hj
  simp only [Value.slice.injEq] at e
  obtain ⟨t0, t1, t2, t3⟩ := toks_get T j hj
  have et : Go.Proofs.YtlgkjjbefoeabaaGreatDoor.tokAt T j = T[j] := by simp [Go.Proofs.YtlgkjjbefoeabaaGreatDoor.tokAt, hj]
  have e0 := (hc 0 (by omega)).1
  have e1 := (hc 1 (by omega)).1
  have e2 := (hc 2 (by omega)).1
  have e3 := (hc 3 (by omega)).1
  rw [Nat.add_zero, Nat.add_zero, t0] at e0
  rw [t1] at e1
  rw [t2] at e2
  rw [t3] at e3
  rw [et]
  exact ⟨b, off, e.1, e0, e1, e2, e3⟩
/-- Where 'moved' stands. -/
structure MvI (T : List Tk) (w wr : World) (V : Value) (j : Nat) (T' : List Tk) : Prop where
  alike : AlikeTo T T' j
  own : OwnK 4 wr V T'.length (toks T')
  new : ∀ k, blk V k → w.heap.size ≤ k
  bl : Below w.heap.size w wr
theorem MvI.more {T T' : List Tk} {w wr w2 w3 : World} {V V2 : Value} {j : Nat} {z : Int} (h : MvI T w wr V j T') (hb : Below wr.heap.size wr w2) (ho : OwnK 4 w3 V2 (T'.length + 1) (toks T' ++ (⟨(tokAt T j).kind, (tokAt T j).text, (tokAt T j).num, z⟩ : Tk).cells)) (ht : Turned (blk V) w2 w3) (hv : ∀ k, blk V2 k → blk V k ∨ k = w2.heap.size) : MvI T w w3 V2 (j + 1) (T' ++ [⟨(tokAt T j).kind, (tokAt T j).text, (tokAt T j).num, z⟩]) := by
  have b2 := h.bl.trans (hb.mono h.bl.size)
  exact ⟨h.alike.snoc z, by rw [toks_snoc, List.length_append]; exact ho, fun k hk => (hv k hk).elim (h.new k) (fun e => by have := b2.size; omega), b2.trans (ht.below b2.size h.new)⟩
/-- What 'moved' says. -/
def MovedTold (T : List Tk) (w w' : World) (V : Value) : Prop := ∃ T', OwnK 4 w' V T'.length (toks T') ∧ Alike T T' ∧ (∀ k, blk V k → w.heap.size ≤ k) ∧ Below w.heap.size w w'
theorem MvI.told {T T' : List Tk} {w wr : World} {V : Value} {j : Nat} (h : MvI T w wr V j T') (e : j = T.length) : MovedTold T w wr V :=
  ⟨T', h.own, AlikeTo.all (e ▸ h.alike), h.new, h.bl⟩
set_option maxRecDepth 100000 in
set_option maxHeartbeats 3200000 in
theorem law_moved {w : World} {Tv : Value} {T : List Tk} (h : SlK 4 w Tv T.length (toks T)) (hT : T.length ≤ 65536) (m : Int) (hm0 : 0 ≤ m) (hm1 : m < 65536) (hbT : ∀ k, blk Tv k → k < w.heap.size) : Calls Tryz.prog 8 #[Tv, .int .i64 m] w fun e w' => ∃ V, e = .returned V ∧ MovedTold T w w' V := by
  obtain ⟨aT, cT, hTv, _⟩ := h.form
  subst hTv
  have HT := Hid.mk7 h
  clear h
  go_enter Tryz.func8, Tryz.ntmps8
  go_wp2_with fail
  go_loopw [5, 6] (fun lv ii wr => ∃ (j : Nat) (T' : List Tk), ii = .int .i64 (j : Int) ∧ j ≤ T.length ∧ MvI T w wr lv j T') (fun _ ii _ => T.length - (intOf ii).toNat)
  case atStart => exact ⟨0, [], rfl, by omega, ⟨⟨rfl, fun i hi => absurd hi (Nat.not_lt_zero i)⟩, OwnK.nil 4 _, fun _ e => e.elim, Below.refl _ _⟩⟩
  case round =>
    obtain ⟨j, T', rfl, hj, hI⟩ := hrel
    obtain ⟨aV, cV, hV, _⟩ := hI.own.sl.form
    subst hV
    have HI := Hid.mk7 hI
    have hlen := hI.alike.1
    clear hI
    by_cases hlt : j < T.length
    · have hlti : (j : Int) < (T.length : Int) := by omega
      obtain ⟨b, off, haT, k0, k1, k2, k3⟩ := (HT.out.turned (Turned.ofBelow (S := fun _ => False) HI.out.bl) (fun _ _ e => e)).tokAt j hlt
      subst haT
      have lb : b < wr.heap.size := World.block_lt_of_cell? wr _ k0
      obtain ⟨qk, hqk⟩ : ∃ q, (tokAt T j).kind = q := ⟨_, rfl⟩
      obtain ⟨qt, hqt⟩ : ∃ q, (tokAt T j).text = q := ⟨_, rfl⟩
      obtain ⟨qn, hqn⟩ : ∃ q, (tokAt T j).num = q := ⟨_, rfl⟩
      have HM := Hid.mk7 (fun (w2 w3 : World) (V2 : Value) (z : Int) a b c d => HI.out.more (w2 := w2) (w3 := w3) (V2 := V2) (z := z) a b c d)
      rw [hqk] at k0 HM
      rw [hqt] at k1 HM
      rw [hqn] at k2 HM
      generalize (tokAt T j).at_ = qa at k3
      have HX := Hid.mk7 (fun o1 => SlK.tok (wr.alloc o1) ⟨qk, qt, qn, (j : Int) + m⟩)
      simp only [World.size_alloc] at HX
      have HB := Hid.mk7 (fun o1 o2 => (Below.alloc0 wr o1).trans ((Below.alloc0 (wr.alloc o1) o2).mono (by simp)))
      have hfit : (T'.length + 1) * 40 ≤ 140737488355328 := by omega
      have hfit2 : T'.length + 1 ≤ 4611686018427387903 := by omega
      have HF := Hid.mk7 (And.intro hfit hfit2)
      clear hfit hfit2 hqk hqt hqn hlen
      go_wp2_with (at_builtin; refine wpList_append_k (by rfl) (.tmp 22) (.tmp 24) (by rfl) Tryz.tokTypes (by rfl) (by rfl) (HI.out.own.turned (Turned.ofBelow (S := fun _ => False) (HB.out _ _)) (fun _ _ h => h)) (HX.out _) (Tk.cells_one _) HF.out.1 HF.out.2 ?_; intro V5 w5 ho5 ht5 hv5; have HN := Hid.mk7 (HM.out _ _ _ _ (HB.out _ _) ho5 ht5 hv5); clear ho5 ht5 hv5)
      go_roundw
      case rel => exact ⟨j + 1, _, by go_num, by omega, HN.out⟩
      case measure => simp [intOf]; omega
    · have hge : ¬ (j : Int) < (T.length : Int) := by omega
      have HJ := Hid.mk7 (HI.out.told (by omega))
      clear hlen
      go_wp2
      go_ret
      exact ⟨_, rfl, HJ.out⟩
set_option maxRecDepth 100000 in
theorem mem_chain_nil (w : World) : Calls Tryz.prog 10 #[.nilIface] w fun e w' => e = .returned (.slice none 0 0) ∧ w = w' := by
  go_enter Tryz.func10, Tryz.ntmps10
  go_wp2
  refine wp_loop_rounds 1 ?_
  rw [rounds_succ]
  go_wp2
  go_ret
  exact ⟨rfl, rfl⟩
set_option maxRecDepth 100000 in
theorem mem_same_nil (w : World) : Calls Tryz.prog 9 #[.slice none 0 0, .slice none 0 0] w fun e w' => e = .returned (.bool true) ∧ Below w.heap.size w w' := by
  go_enter Tryz.func9, Tryz.ntmps9
  go_wp2
  refine wp_loop_rounds 1 ?_
  rw [rounds_succ]
  go_wp2
  go_ret
  exact ⟨rfl, Below.refl _ _⟩
set_option maxRecDepth 100000 in
set_option maxHeartbeats 1600000 in
theorem mem_same_one (g1 c1 g2 c2 : Nat) (ly : ByteArray) (a c : Int) (w : World) (h0 : w.cell? ⟨g1, 0, none⟩ = some (.string ly)) (h1 : w.cell? ⟨g1, 1, none⟩ = some (.int .i64 a)) (h2 : w.cell? ⟨g1, 2, none⟩ = some (.int .i64 c)) (k0 : w.cell? ⟨g2, 0, none⟩ = some (.string ly)) (k1 : w.cell? ⟨g2, 1, none⟩ = some (.int .i64 a)) (k2 : w.cell? ⟨g2, 2, none⟩ = some (.int .i64 c)) :
    Calls Tryz.prog 9 #[.slice (some ⟨g1, 0, none⟩) 1 c1, .slice (some ⟨g2, 0, none⟩) 1 c2] w fun e w' => e = .returned (.bool true) ∧ Below w.heap.size w w' := by
  have l1 : g1 < w.heap.size := World.block_lt_of_cell? w _ h0
  have l2 : g2 < w.heap.size := World.block_lt_of_cell? w _ k0
  go_enter Tryz.func9, Tryz.ntmps9
  go_wp2
  refine wp_loop_rounds 2 ?_
  rw [rounds_succ]
  go_wp2
  go_quiet (fail)
  go_wp2
  rw [rounds_succ]
  go_wp2
  go_ret
  exact ⟨rfl, drewN_below w _⟩
end Go.Proofs.YtlgkjjbefoeabaaGreatDoor
namespace Go.Proofs.YtlgkjjbefoeabaaGreatDoor
open Go.RowKit

theorem NodesAt.ndArg {w : World} {Nv : Value} {N : List Nd} (h : NodesAt w Nv N) (hs : ∀ n ∈ N, n.kids.length ≤ 4611686018427387903) : NdArg w Nv N := by
  by_cases hn : N.length = 0
  · obtain ⟨a, cap, e, _⟩ := h.own.sl.form
    subst e
    rw [hn]
    exact .inl ⟨a, cap, rfl, List.length_eq_zero_iff.1 hn⟩
  · obtain ⟨b, off, cap, e, _⟩ := h.all 0 (by omega)
    refine .inr ⟨b, off, cap, e, fun j hj => ⟨?_, SlI.any (h.kid j hj) (hs _ (List.getElem_mem hj))⟩⟩
    obtain ⟨b', off', cap', e', hc⟩ := h.all j hj
    rw [e] at e'
    simp only [Value.slice.injEq, Option.some.injEq, Addr.mk.injEq, and_true, true_and] at e'
    obtain ⟨⟨rfl, rfl⟩, rfl⟩ := e'
    exact hc
theorem NodesAt.ndOk {T : List Tk} {a : Nat} {w : World} {Nv : Value} {N : List Nd} (h : NodesAt w Nv N) (hr : Right T a (N.map Nd.sh)) (hT : T.length ≤ 65536) : NdOk w Nv N := by
  have hk : ∀ n ∈ N, n.kids.length ≤ 65541 := fun n hn => by
    have h9 : n.kids.length ≤ T.length + 5 := hr.kids n.sh (List.mem_map_of_mem hn)
    omega
  have hl := hr.len
  simp only [List.length_map] at hl
  exact ⟨h.ndArg (fun n hn => by have := hk n hn; omega), by omega, fun n hn => by have := hk n hn; omega⟩
theorem parseOf_err {T T' : List Tk} (hA : Alike T T') {e : Int × Int} (h : parseOf T = .error e) : parseOf T' = .error e := by
  rcases parseOf_alike hA with ⟨e', h1, h2⟩ | ⟨a, L, L', h1, _⟩
  · rw [h1] at h
    rw [h2, h]
  · rw [h1] at h
    cases h
theorem parseOf_okay {T T' : List Tk} (hA : Alike T T') {a : Nat} {L : List Sh} (h : parseOf T = .ok (a, L)) : ∃ L', parseOf T' = .ok (a, L') ∧ L.map Sh.bare = L'.map Sh.bare := by
  rcases parseOf_alike hA with ⟨e', h1, _⟩ | ⟨a', L1, L', h1, h2, h3⟩
  · rw [h1] at h
    cases h
  · rw [h1] at h
    simp only [Except.ok.injEq, Prod.mk.injEq] at h
    obtain ⟨rfl, rfl⟩ := h
    exact ⟨L', h2, h3⟩
theorem sameP_of {T : List Tk} {a : Nat} {A B : List Nd} (hr : Right T a (A.map Nd.sh)) (hb : (A.map Nd.sh).map Sh.bare = (B.map Nd.sh).map Sh.bare) : SameP A B a a := by
  have hlA : a < A.length := by simpa using hr.root
  have hl : A.length = B.length := by simpa using congrArg List.length hb
  rw [SameP.in hlA (by omega)]
  have hlow : ∀ j (h : j < (A.map Nd.sh).length), ∀ k ∈ (A.map Nd.sh)[j].kids, 0 ≤ k ∧ k < (j : Int) := hr.low
  exact fun n => same_of_bare (A := A) (B := B) rfl rfl hb hlow n a hlA
set_option maxRecDepth 100000 in
set_option maxHeartbeats 3200000 in
/-- heddlelaw11.ParsePlaces. -/
theorem law_places (s : ByteArray) (m : Int) (hm0 : 0 ≤ m) (hm1 : m < 65536) {w : World} (hg : Er w) (hw : SgAt w) : Calls Tryz.prog 3 #[.string s, .int .u16 m] w fun x w' => x = .returned (.bool true) ∧ Below w.heap.size w w' := by
  have C5 := Hid.mk7 (fun w' (hb : Below w.heap.size w w') => (law_alive (hw.below hb)).mono fun x w2 h => (show x = .returned (.bool true) ∧ Below w.heap.size w w2 from ⟨h.1, hb.trans (h.2.mono hb.size)⟩))
  have HE := Hid.mk7 (fun w' (hb : Below w.heap.size w w') => hg.below hb)
  have hS := rf_Scan s w
  clear hg hw
  go_enter Tryz.func3, Tryz.ntmps3
  go_wp2_with fail
  refine hS.mono ?_
  clear hS
  rintro e w1 (⟨v, rfl, hv, hb1⟩ | ⟨V, T, rfl, ho, hT, hn, hb1⟩)
  · obtain ⟨a, n, cap, rfl⟩ := hv
    have hpos : (0 : Int) < ((n + 1 : Nat) : Int) := by omega
    have H1 := Hid.mk7 hb1
    clear hb1
    go_wp2_with fail
    refine (C5.out _ H1.out).mono ?_
    rintro x w2 ⟨rfl, hb2⟩
    go_wp2
    go_ret
    exact ⟨rfl, hb2⟩
  · have hP := rd_Parse T hT (HE.out _ hb1) ho.sl ho.blk_lt
    have HM := Hid.mk7 (fun w2 (hb2 : Below w1.heap.size w1 w2) => law_moved (OwnK.turned ho (Turned.ofBelow (S := fun _ => False) hb2) (fun _ _ e => e)).sl hT m hm0 hm1 (fun k hk => Nat.lt_of_lt_of_le (ho.blk_lt k hk) hb2.size))
    obtain ⟨aV, cV, hV, _⟩ := ho.sl.form
    subst hV
    have H1 := Hid.mk7 hb1
    clear hb1 ho hn
    cases hr : parseOf T with
    | error ac =>
      obtain ⟨a, c⟩ := ac
      rw [hr] at hP
      have HR := Hid.mk7 (fun T' (hA : Alike T T') => parseOf_err hA hr)
      have HT := Hid.mk7 hT
      clear hr hT
      go_wp2_with fail
      refine hP.mono ?_
      rintro e w2 ⟨v, rfl, hf, hb2⟩
      clear hP
      have hM := HM.out _ hb2
      have H2 := Hid.mk7 (And.intro hf hb2)
      obtain ⟨pb, _, hv, _⟩ := hf
      subst hv
      clear hb2
      go_wp2_with fail
      refine hM.mono ?_
      rintro e w3 ⟨V', rfl, T', ho', hA, hn', hb3⟩
      clear hM
      have hP := rd_Parse T' (hA.len ▸ HT.out) (HE.out _ ((H1.out.trans (H2.out.2.mono H1.out.size)).trans (hb3.mono (H1.out.trans (H2.out.2.mono H1.out.size)).size))) ho'.sl ho'.blk_lt
      rw [HR.out _ hA] at hP
      obtain ⟨aW, cW, hW, _⟩ := ho'.sl.form
      subst hW
      have H3 := Hid.mk7 hb3
      clear hb3 ho' hn'
      go_wp2_with fail
      refine hP.mono ?_
      rintro e w4 ⟨v, rfl, hg, hb4⟩
      clear hP
      have B13 := H2.out.2.trans (H3.out.mono H2.out.2.size)
      have B14 := B13.trans (hb4.mono B13.size)
      have B04 := Hid.mk7 (H1.out.trans (B14.mono H1.out.size))
      have hff := H2.out.1.below (H3.out.trans (hb4.mono H3.out.size))
      obtain ⟨pb', _, hv, f0, f1, f2, f3⟩ := hff
      simp only [Value.iface.injEq, Value.pointer.injEq, Option.some.injEq, Addr.mk.injEq, and_true, true_and] at hv
      subst hv
      have hC := chain_fault pb 0 _ a c w4 (HE.out _ B04.out) f0 f1 f2 f3
      have H4 := Hid.mk7 hg
      obtain ⟨pg, _, hv, _⟩ := hg
      subst hv
      clear f0 f1 f2 f3 B13 B14 hb4
      go_wp2_with fail
      refine hC.mono ?_
      rintro e w5 ⟨g1, c1, rfl, k0, k1, k2, _, hb5⟩
      clear hC
      obtain ⟨pg', _, hv, f0, f1, f2, f3⟩ := H4.out.below hb5
      simp only [Value.iface.injEq, Value.pointer.injEq, Option.some.injEq, Addr.mk.injEq, and_true, true_and] at hv
      subst hv
      have B05 := Hid.mk7 (B04.out.trans (hb5.mono B04.out.size))
      have hC := chain_fault pg 0 _ a c w5 (HE.out _ B05.out) f0 f1 f2 f3
      have K := Hid.mk7 (And.intro k0 (And.intro k1 k2))
      clear f0 f1 f2 f3 k0 k1 k2 hb5
      go_wp2_with fail
      refine hC.mono ?_
      rintro e w6 ⟨g2, c2, rfl, j0, j1, j2, _, hb6⟩
      clear hC
      have lk := World.block_lt_of_cell? w5 _ K.out.1
      have hSm := mem_same_one g1 c1 g2 c2 _ a c w6 ((hb6.cell (p := ⟨g1, 0, none⟩) lk).trans K.out.1) ((hb6.cell (p := ⟨g1, 1, none⟩) lk).trans K.out.2.1) ((hb6.cell (p := ⟨g1, 2, none⟩) lk).trans K.out.2.2) j0 j1 j2
      have B06 := Hid.mk7 (B05.out.trans (hb6.mono B05.out.size))
      clear j0 j1 j2 lk hb6
      go_wp2_with fail
      refine hSm.mono ?_
      rintro e w7 ⟨rfl, hb7⟩
      clear hSm
      have B07 := Hid.mk7 (B06.out.trans (hb7.mono B06.out.size))
      clear hb7
      go_wp2_with fail
      refine (C5.out _ B07.out).mono ?_
      rintro x w8 ⟨rfl, hb8⟩
      go_wp2
      go_ret
      exact ⟨rfl, hb8⟩
    | ok aL =>
      obtain ⟨a, L⟩ := aL
      rw [hr] at hP
      have HR := Hid.mk7 (fun T' (hA : Alike T T') => parseOf_okay hA hr)
      have HT := Hid.mk7 (And.intro hT (parseOf_right hr))
      clear hr hT
      go_wp2_with fail
      refine hP.mono ?_
      rintro e w2 ⟨Nv, N, rfl, hL, hN, hb2, _, _⟩
      subst hL
      clear hP
      have hM := HM.out _ hb2
      have H2 := Hid.mk7 (And.intro hN hb2)
      obtain ⟨aN, cN, hv, _⟩ := hN.own.sl.form
      subst hv
      clear hb2 hN
      go_wp2_with fail
      refine hM.mono ?_
      rintro e w3 ⟨V', rfl, T', ho', hA, hn', hb3⟩
      clear hM
      obtain ⟨L', hr', hbare⟩ := HR.out _ hA
      have hP := rd_Parse T' (hA.len ▸ HT.out.1) (HE.out _ ((H1.out.trans (H2.out.2.mono H1.out.size)).trans (hb3.mono (H1.out.trans (H2.out.2.mono H1.out.size)).size))) ho'.sl ho'.blk_lt
      rw [hr'] at hP
      have hR' := parseOf_right hr'
      have hT' : T'.length ≤ 65536 := hA.len ▸ HT.out.1
      obtain ⟨aW, cW, hW, _⟩ := ho'.sl.form
      subst hW
      have H3 := Hid.mk7 (And.intro hb3 (And.intro hR' (And.intro hT' hbare)))
      clear hb3 ho' hn' hr' hR' hT' hbare
      go_wp2_with fail
      refine hP.mono ?_
      rintro e w4 ⟨Nv', N', rfl, hL, hN', hb4, _, _⟩
      subst hL
      clear hP
      have B13 := H2.out.2.trans (H3.out.1.mono H2.out.2.size)
      have B14 := B13.trans (hb4.mono B13.size)
      have B04 := Hid.mk7 (H1.out.trans (B14.mono H1.out.size))
      have ok1 := (H2.out.1.ndOk HT.out.2 HT.out.1).below (H3.out.1.trans (hb4.mono H3.out.1.size))
      have ok2 := hN'.ndOk H3.out.2.1 H3.out.2.2.1
      have HS := Hid.mk7 (fun w5 (hb : Below w4.heap.size w4 w5) => ref_Same (ok1.below hb) (ok2.below hb) (a : Int) (a : Int))
      have HP := Hid.mk7 (sameP_of HT.out.2 H3.out.2.2.2)
      obtain ⟨aN', cN', hv, _⟩ := hN'.own.sl.form
      subst hv
      clear B13 B14 hb4 ok1 ok2 hN'
      have hC := mem_chain_nil w4
      go_wp2_with fail
      refine hC.mono ?_
      rintro e w5 ⟨rfl, rfl⟩
      go_wp2_with fail
      refine hC.mono ?_
      rintro e w5 ⟨rfl, rfl⟩
      clear hC
      have hSm := mem_same_nil w4
      go_wp2_with fail
      refine hSm.mono ?_
      rintro e w7 ⟨rfl, hb7⟩
      clear hSm
      have hRS := HS.out _ hb7
      have B07 := Hid.mk7 (B04.out.trans (hb7.mono B04.out.size))
      clear hb7
      go_wp2_with fail
      refine hRS.mono ?_
      rintro e w8 ⟨b, rfl, hbt, hb8⟩
      obtain rfl := hbt.2 HP.out
      clear hRS hbt
      have B08 := Hid.mk7 (B07.out.trans (hb8.mono B07.out.size))
      clear hb8
      go_wp2_with fail
      refine (C5.out _ B08.out).mono ?_
      rintro x w9 ⟨rfl, hb9⟩
      go_wp2
      go_ret
      exact ⟨rfl, hb9⟩
end Go.Proofs.YtlgkjjbefoeabaaGreatDoor
namespace Go.Proofs.YtlgkjjbefoeabaaGreatDoor
open Go.ChangeShapes Go.WideShapes Go.RowKit

theorem Tryz.rt : (Tryz.prog.cutTypes.find? (·.1 == "internal/reflectlite.rtype")).map (·.2) = some 127 := by kernel_rfl
theorem Tryz.oneRow : ((List.range 244).filter fun t => Tryz.prog.rowNamed t [101, 114, 114, 111, 114]) = [30] := by kernel_rfl
theorem Tryz.size : Tryz.prog.types.size = 244 := by kernel_rfl
/-- What the listed variable errors.errorType gives a walk: its one cell. -/
theorem er9 {W : World} (h : laidMetH Tryz.prog laidNine W) : Er W := by
  obtain ⟨name, u, ty, e1, e2, e3, e4, e5⟩ := (laidMetH_iff.1 h).2 ("errors.errorType", Rows.laid_errors_errorType) (List.mem_filter.2 ⟨by simp, rfl⟩)
  have en : name = [101, 114, 114, 111, 114] := (Option.some.inj e1).symm
  subst en
  obtain rfl := Option.some.inj (Tryz.rt.symm.trans e2)
  have hm : ty ∈ (List.range 244).filter fun t => Tryz.prog.rowNamed t [101, 114, 114, 111, 114] := List.mem_filter.2 ⟨List.mem_range.2 (by rw [← Tryz.size]; exact e3), e4⟩
  rw [Tryz.oneRow] at hm
  obtain rfl := List.mem_singleton.1 hm
  have hh : typeHandle Tryz.prog 30 = .pointer (some ⟨9, 30, none⟩) := by kernel_rfl
  rw [hh] at e5
  have h9 := World.var?_cell Tryz.et e5 0
  unfold Er
  simpa using h9
set_option maxRecDepth 100000 in
theorem pplaces_lifted (os : Os) (started : os.Started) (H : Type) (enc : TypeId × Value → H) :
    ReturnsInHanded {} Tryz.checked os 3 .any (fun w args => (Rows.parsePlacesSpec.pre enc Tryz.prog Tryz.f3 [] false w args ∧ laidMetH Tryz.prog laidNine w) ∧ sizedMet enc Tryz.prog Tryz.f3 (OpenSpec.ofChange Rows.parsePlacesSpec) false w args)
      (Rows.parsePlacesSpec.post enc Tryz.prog Tryz.f3 false true false false) := by
  refine returnsInHanded_of_change_and (C := Tryz.checked) (X := fun w _ => laidMetH Tryz.prog laidNine w) (fun _ _ _ hh h => h.of_heap hh) Tryz.own started (by kernel_rfl) Tryz.func3
    (ChangeSpec.witness_at (enc := enc) (C := Tryz.checked) (os := os) (X := fun w _ => laidMetH Tryz.prog laidNine w) false (withVar (World.holding Tryz.prog os ⟨#[], #[], []⟩)) #[.string ⟨#[]⟩, .int .u16 0] 8 rfl (by kernel_rfl) (by kernel_rfl) (by kernel_rfl) (by kernel_rfl) (by kernel_rfl) (withVar_met9 os _)) ?_
  intro W base args ds gs before hval0 hW _ _ hL _
  have hval : ∀ (j : Nat) t v, Tryz.f3.params[j]? = some t → args[j]? = some v → Value.okWide Tryz.prog W .any base t v := hval0
  have hW' := hW
  obtain ⟨p, q, hA0, hV0, rfl, hfz, hnd⟩ := hW
  have hA : DataW.TrodAll enc Tryz.prog W 0 (fun _ => true) true Tryz.f3.params.toList args.toList ds p := hA0
  have hV : DataW.TrodVars enc Tryz.prog W (fun _ => true) [] gs q := hV0
  rw [Tryz.params3] at hA hval
  obtain ⟨v0, v1, d0, d1, p0, p1, rfl, rfl, rfl, h0, h1⟩ := trodAll_two hA
  obtain ⟨rfl, rfl⟩ := trodVars_none hV
  obtain ⟨s0, rfl⟩ := okWide_string Tryz.underlying9 (hval 0 9 v0 rfl rfl)
  obtain ⟨n1, rfl⟩ := okWide_int Tryz.underlying22 (hval 1 22 v1 rfl rfl)
  have hn : 0 ≤ n1 ∧ n1 < 65536 := by
    obtain ⟨fuel, hf⟩ := h1
    obtain ⟨z, hz, _, hw⟩ := DataW.trod_int Tryz.underlying22 hf
    have e : n1 = z := by simpa [Value.cells] using hz
    subst e
    have hw : IntKind.u16.min ≤ n1 ∧ n1 ≤ IntKind.u16.max := by simpa [Lit.wf] using hw
    have e0 : IntKind.u16.min = 0 := by decide
    have e1 : IntKind.u16.max = 65535 := by decide
    rw [e0, e1] at hw
    omega
  refine (law_places s0 n1 hn.1 hn.2 (er9 hL) (signs9 hL)).mono fun ev W' ⟨he, hb⟩ => ?_
  subst he
  have e1 : Rows.parsePlacesSpec.fn H ([d0, d1] ++ []) = { results := [.lit (.bool true)], args := [d0, d1] } := rfl
  refine ⟨_, rfl, _, _, _, [], p0 ++ p1, [], hW', ?_, ?_, ?_, hb.frame _, fun h => by cases h⟩
  · rw [e1]; exact trodAll_mk1 (shut_bool Tryz.underlying4 true)
  · rw [e1]
    exact trodAll_cons_mk (Below.trod Tryz.laidOut (by kernel_rfl) (of_decide_eq_true (by kernel_rfl)) h0 hb (fun z hz => by simpa using hW'.lt z (by simp [hz]))) (trodAll_mk1 (Below.trod Tryz.laidOut (by kernel_rfl) (of_decide_eq_true (by kernel_rfl)) h1 hb (fun z hz => by simpa using hW'.lt z (by simp [hz]))))
  · rw [e1]; rfl

theorem pplaces_holds : Rows.ParsePlacesSaid :=
  OpenClaim.holds_of_wide 3 Tryz.f3 rfl rfl rfl rfl rfl rfl rfl ⟨rfl, rfl, rfl, rfl, rfl⟩ rfl rfl rfl rfl rfl (by kernel_rfl) Tryz.func3 (by kernel_rfl)
    (of_decide_eq_true (by kernel_rfl)) (by unfold Func.isWrapper; rw [if_neg (of_decide_eq_false (by kernel_rfl))]; exact ⟨rfl, rfl⟩)
    (fun os started H enc _ => pplaces_lifted os started H enc)
end Go.Proofs.YtlgkjjbefoeabaaGreatDoor
namespace Go.Proofs.YtlgkjjbefoeabaaGreatDoor
open Go

theorem pplaces_card : Rows.ParsePlacesCardSaid :=
  Claim7.holds_tied_plain_at .later [] [.data, .data, .data, .data, .handle, .sentinel, .sentinel, .data, .pinned] true Rows.parsePlacesCard.stood.harness true
    pplaces_holds (fun _ h => by cases h) (by kernel_rfl) (fun _ h => by cases h) parsePlaces_row_tie rfl ⟨rfl, rfl⟩ (by kernel_rfl) rfl
    (fun f fn hf hfn => by
      obtain rfl : f = 3 := Option.some.inj ((show Tryz.prog.funcNamed Tryz.f3.name = some 3 by kernel_rfl).symm.trans hf) |>.symm
      obtain rfl : fn = Tryz.f3 := (Option.some.inj (Tryz.func3.symm.trans hfn)).symm
      exact ⟨by kernel_rfl, fun j t ht => by
        rw [Tryz.params3] at ht
        rcases j with _ | _ | j
        · obtain rfl : t = 9 := by simpa using ht.symm
          exact (show Tryz.prog.wantsStandIn 9 = false by kernel_rfl)
        · obtain rfl : t = 22 := by simpa using ht.symm
          exact (show Tryz.prog.wantsStandIn 22 = false by kernel_rfl)
        · simp at ht⟩)
    (by kernel_rfl)
end Go.Proofs.YtlgkjjbefoeabaaGreatDoor
namespace Go.Proofs.YtlgkjjbefoeabaaGreatDoor

theorem parse_places_said : Rows.ParsePlacesCardSaid := pplaces_card
end Go.Proofs.YtlgkjjbefoeabaaGreatDoor
