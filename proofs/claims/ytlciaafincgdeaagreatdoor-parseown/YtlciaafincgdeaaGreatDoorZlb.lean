/-
  Layer 11 (parse): heddlelaw11.told, of the program's and the document's answer to one row of tokens.
  Layer 11 (parse): the program's answer as nodes that may be written.
  Layer 11 (parse): heddlelaw11.ParseOwn, whatever the text.
-/
import Derived.Test.YtlciaafincgdeaaGreatDoorPKb
import Derived.Test.YtlciaafincgdeaaGreatDoorZla
import Derived.Test.YtlciaafincgdeaaGreatDoorPYb
namespace Go.Proofs.YtlciaafincgdeaaGreatDoor
open Go.RowKit

/-- The program's answer, in blocks from B on. -/
def PAns (B : Nat) (w : World) (r : Except (Int × Int) (Nat × List Sh)) (lv rv ev : Value) : Prop :=
  match r with
  | .error (a, c) => lv = .slice none 0 0 ∧ rv = .int .i64 0 ∧ FaultP B w ev a c
  | .ok (a, L) => rv = .int .i64 (a : Nat) ∧ ev = .nilIface ∧ ∃ N, N.map Nd.sh = L ∧ NodesAt w lv N ∧ (∀ k, blk lv k → B ≤ k) ∧ ∀ j (h : j < N.length) k, blk N[j].kv k → B ≤ k
/-- The document's. -/
def DAns (B : Nat) (w : World) (r : Except (Int × Int) (Nat × List Sh)) (lv rv fv : Value) : Prop :=
  match r with
  | .error (a, c) => lv = .slice none 0 0 ∧ rv = .int .i64 0 ∧ LnkAt B w fv a c
  | .ok (a, L) => rv = .int .i64 (a : Nat) ∧ fv = .slice none 0 0 ∧ ∃ N, N.map Nd.sh = L ∧ NodesAt w lv N ∧ (∀ k, blk lv k → B ≤ k) ∧ ∀ j (h : j < N.length) k, blk N[j].kv k → B ≤ k
theorem LnkAt.turned {B : Nat} {S : Nat → Prop} {w w' : World} {v : Value} {a c : Int} (h : LnkAt B w v a c) (T : Turned S w w') (hs : ∀ k, B ≤ k → ¬ S k) : LnkAt B w' v a c := by
  obtain ⟨g, h1, h2, h3, h4, h5⟩ := h
  exact ⟨g, h1, h2, T.cell h3 (hs g h1), T.cell h4 (hs g h1), T.cell h5 (hs g h1)⟩
theorem PAns.turned {B : Nat} {S : Nat → Prop} {w w' : World} {r : Except (Int × Int) (Nat × List Sh)} {lv rv ev : Value} (h : PAns B w r lv rv ev) (T : Turned S w w') (hs : ∀ k, B ≤ k → ¬ S k) : PAns B w' r lv rv ev := by
  cases r with
  | error ac => exact ⟨h.1, h.2.1, h.2.2.turned T hs⟩
  | ok aL =>
    obtain ⟨h1, h2, N, h3, h4, h5, h6⟩ := h
    exact ⟨h1, h2, N, h3, h4.turned T (fun k hk => hs k (h5 k hk)) (fun j hj k hk => hs k (h6 j hj k hk)), h5, h6⟩
theorem DAns.turned {B : Nat} {S : Nat → Prop} {w w' : World} {r : Except (Int × Int) (Nat × List Sh)} {lv rv fv : Value} (h : DAns B w r lv rv fv) (T : Turned S w w') (hs : ∀ k, B ≤ k → ¬ S k) : DAns B w' r lv rv fv := by
  cases r with
  | error ac => exact ⟨h.1, h.2.1, h.2.2.turned T hs⟩
  | ok aL =>
    obtain ⟨h1, h2, N, h3, h4, h5, h6⟩ := h
    exact ⟨h1, h2, N, h3, h4.turned T (fun k hk => hs k (h5 k hk)) (fun j hj k hk => hs k (h6 j hj k hk)), h5, h6⟩
theorem PAns.below {B : Nat} {w w' : World} {r : Except (Int × Int) (Nat × List Sh)} {lv rv ev : Value} (h : PAns B w r lv rv ev) (hb : Below w.heap.size w w') : PAns B w' r lv rv ev := h.turned (Turned.ofBelow (S := fun _ => False) hb) (fun _ _ e => e)
theorem DAns.below {B : Nat} {w w' : World} {r : Except (Int × Int) (Nat × List Sh)} {lv rv ev : Value} (h : DAns B w r lv rv ev) (hb : Below w.heap.size w w') : DAns B w' r lv rv ev := h.turned (Turned.ofBelow (S := fun _ => False) hb) (fun _ _ e => e)
theorem parseOf_belowS {T : List Tk} {a : Nat} {L : List Sh} (h : parseOf T = .ok (a, L)) : belowS L.length (kidsS L) [(a : Int)] = uptoN L.length := by
  unfold parseOf at h
  cases ht : treeOf T with
  | error e => simp [ht] at h
  | ok at_ =>
    obtain ⟨b, t⟩ := at_
    rw [ht] at h
    simp only at h
    split at h
    · cases h
    · simp only [Except.ok.injEq, Prod.mk.injEq] at h
      obtain ⟨rfl, rfl⟩ := h
      exact treeOf_below ht
set_option maxRecDepth 100000 in
set_option maxHeartbeats 1600000 in
theorem told_err {B B' : Nat} {w : World} {v l : Value} {a c : Int} (her : Er w) (hf : FaultP B w v a c) (hl : LnkAt B' w l a c) :
    Calls Tryz.prog 13 #[.slice none 0 0, .int .i64 0, v, .slice none 0 0, .int .i64 0, l] w fun e w' => e = .returned (.bool true) ∧ Below w.heap.size w w' := by
  have hr := refused_parse her hf hl
  obtain ⟨g, _, hve, _⟩ := hl
  subst hve
  clear hf her
  go_enter Tryz.func13, Tryz.ntmps13
  go_wp2_with fail
  refine hr.mono ?_
  rintro e w1 ⟨rfl, hb1⟩
  have H1 := Hid.mk7 hb1
  clear hr hb1
  go_wp2
  go_ret
  exact ⟨rfl, H1.out⟩
set_option maxRecDepth 100000 in
set_option maxHeartbeats 1600000 in
theorem told_ok {T : List Tk} {a : Nat} {w : World} {va vb : Value} {A B : List Nd} (hA : NodesAt w va A) (hB : NodesAt w vb B) (hr : Right T a (A.map Nd.sh)) (hsh : A.map Nd.sh = B.map Nd.sh) (hT : T.length ≤ 65536) (hbl : belowS A.length (kidsS (A.map Nd.sh)) [(a : Int)] = uptoN A.length) :
    Calls Tryz.prog 13 #[va, .int .i64 (a : Int), .nilIface, vb, .int .i64 (a : Int), .slice none 0 0] w fun e w' => e = .returned (.bool true) ∧ Below w.heap.size w w' := by
  have ha : a < A.length := by simpa using hr.root
  have okA := hA.ndOk hr hT
  have okB := hB.ndOk (hsh ▸ hr) hT
  have hS := ref_Same okA okB (a : Int) (a : Int)
  have HP := Hid.mk7 (sameP_of hr (congrArg _ hsh))
  have HPl := Hid.mk7 (fun w' (hb : Below w.heap.size w w') => rt_Places (okA.arg.below hb) (okB.arg.below hb) hsh (fun j hj k hk => by have := hr.low j (by simpa using hj) k (by simpa [Nd.sh] using hk); exact this) okA.len okA.kid a ha)
  have HT := Hid.mk7 (fun w' (hb : Below w.heap.size w w') => rt_Tidy (root := (a : Int)) ((hA.arg (by omega) (fun n hn => by have := okA.kid n hn; omega)).below hb) (by rw [kvs_length]; have := okA.len; omega) (by rw [kvs_length, kids_ofS rfl]; exact hbl))
  have hR := refused_nil w none 0
  obtain ⟨aA, cA, eA, _⟩ := hA.own.sl.form
  obtain ⟨aB, cB, eB, _⟩ := hB.own.sl.form
  subst eA eB
  obtain ⟨n, hn⟩ : ∃ n : Nat, n = A.length := ⟨_, rfl⟩
  rw [← hn] at ha ⊢
  have hai : (a : Int) < (n : Int) := by omega
  have ha0 : (0 : Int) ≤ (a : Int) := by omega
  rw [← hn] at hS HPl HT
  have hnl : (n : Int) ≤ 1048576 := by have := okA.len; omega
  clear hA hB hr hsh hT hbl okA okB hn
  go_enter Tryz.func13, Tryz.ntmps13
  go_wp2_with fail
  refine hR.mono ?_
  rintro e w1 ⟨rfl, rfl⟩
  clear hR
  go_wp2_with fail
  refine hS.mono ?_
  rintro e w2 ⟨b, rfl, hbt, hb2⟩
  obtain rfl := hbt.2 HP.out
  clear hS hbt
  have c3 := HPl.out _ hb2
  have H2 := Hid.mk7 hb2
  clear hb2
  go_wp2_with fail
  refine c3.mono ?_
  rintro e w3 ⟨rfl, hb3⟩
  have B3 := H2.out.trans (hb3.mono H2.out.size)
  have c4 := HT.out _ B3
  have H3 := Hid.mk7 B3
  clear hb3 B3 c3
  go_wp2_with fail
  refine c4.mono ?_
  rintro e w4 ⟨rfl, hb4⟩
  have H4 := Hid.mk7 (H3.out.trans (hb4.mono H3.out.size))
  clear hb4 c4
  go_wp2
  go_ret
  exact ⟨rfl, H4.out⟩
/-- heddlelaw11.told: both answers are one. -/
theorem law_told {B B' : Nat} {T : List Tk} {w : World} {lv rv ev mv tv fv : Value} (hT : T.length ≤ 65536) (her : Er w) (hp : PAns B w (parseOf T) lv rv ev) (hd : DAns B' w (parseOf T) mv tv fv) :
    Calls Tryz.prog 13 #[lv, rv, ev, mv, tv, fv] w fun e w' => e = .returned (.bool true) ∧ Below w.heap.size w w' := by
  cases hr : parseOf T with
  | error ac =>
    obtain ⟨a, c⟩ := ac
    rw [hr] at hp hd
    obtain ⟨rfl, rfl, hf⟩ := hp
    obtain ⟨rfl, rfl, hl⟩ := hd
    exact told_err her hf hl
  | ok aL =>
    obtain ⟨a, L⟩ := aL
    rw [hr] at hp hd
    obtain ⟨rfl, rfl, A, hA, nA, _⟩ := hp
    obtain ⟨rfl, rfl, C, hC, nC, _⟩ := hd
    subst hA
    have h9 := parseOf_belowS hr
    rw [List.length_map] at h9
    exact told_ok nA nC (parseOf_right hr) hC.symm hT h9
end Go.Proofs.YtlciaafincgdeaaGreatDoor
namespace Go.Proofs.YtlciaafincgdeaaGreatDoor
open Go.RowKit

theorem zr_start {lo : Nat} {w : World} {lv : Value} {N : List Nd} (hN : NodesAt w lv N) (hk : KidsOwn w N) (h1 : ∀ k, blk lv k → lo ≤ k) (h2 : ∀ n ∈ N, ∀ k, blk n.kv k → lo ≤ k) :
    ∃ a cap b o, lv = .slice a N.length cap ∧ (0 < N.length → a = some ⟨b, o, none⟩) ∧ ZrB lo w.heap.size b N ∧ ∀ w0, Turned (fun k => k < lo) w w0 → ZrI lo w.heap.size w0 w0 b o N 0 := by
  have hkid : ∀ w0, Turned (fun k => k < lo) w w0 → ∀ j (h : j < N.length), KidW w0 N[j].kv N[j].kids.length := fun w0 hb j hj => KidW.ofOwn (OwnK.turned (hk j hj) hb (fun k hk' e => by have := h2 _ (List.getElem_mem hj) k hk'; omega))
  by_cases h0 : N.length = 0
  · obtain ⟨a, cap, e, _⟩ := hN.own.sl.form
    exact ⟨a, cap, 0, 0, e, fun h => by omega, ⟨fun h => by omega, fun j hj => by omega⟩, fun w0 hb => ⟨fun q hq => by omega, fun j hj => by omega, hkid w0 hb, Turned.refl _ _⟩⟩
  · have hl : (nds N).length = N.length * 6 := hN.own.1
    have hown := fun w0 (hb : Turned (fun k => k < lo) w w0) => hN.own.turned hb (fun k hk' (e : k < lo) => by have := h1 k hk'; omega)
    obtain ⟨_, ⟨_, e⟩ | ⟨g, off, cap, e, hc, _, hg, h4, h5⟩⟩ := hN.own
    · exact absurd e h0
    subst e
    refine ⟨_, cap, g, off, rfl, fun _ => rfl, ⟨fun _ => ⟨h1 g rfl, hg⟩, fun j hj k hk' => ⟨h2 _ (List.getElem_mem hj) k hk', OwnK.blk_lt (hk j hj) k hk', fun e => hN.off j hj k hk' (by subst e; rfl)⟩⟩, fun w0 hb => ?_⟩
    obtain ⟨_, ⟨_, e⟩ | ⟨g', off', cap', e, _, _, _, h4', h5'⟩⟩ := hown w0 hb
    · exact absurd e h0
    simp only [Value.slice.injEq, Option.some.injEq, Addr.mk.injEq, and_true, true_and] at e
    obtain ⟨⟨rfl, rfl⟩, rfl⟩ := e
    refine ⟨fun q hq => h5' q (by omega), fun j hj _ => ?_, hkid w0 hb, Turned.refl _ _⟩
    have hj6 : j * 6 + 4 < (nds N).length := by omega
    rw [Nat.add_assoc, h4' (j * 6 + 4) hj6, ← List.getElem?_eq_getElem hj6, nds_get N j hj 4 (by decide)]
    rfl
end Go.Proofs.YtlciaafincgdeaaGreatDoor
namespace Go.Proofs.YtlciaafincgdeaaGreatDoor
open Go.RowKit

theorem ParseTold.own {T : List Tk} (hT : T.length ≤ 65536) {W w' : World} {x : Ending} (h : ParseTold W (parseOf T) x w') : PlTold (fun B W lv rv ev => PAns B W (parseOf T) lv rv ev) W x w' := by
  cases hr : parseOf T with
  | error ac =>
    obtain ⟨a, c⟩ := ac
    rw [hr] at h
    obtain ⟨v, rfl, hf, hb⟩ := h
    refine ⟨_, _, _, rfl, ⟨rfl, rfl, hf⟩, hb, [], none, 0, 0, 0, rfl, fun h => absurd h (Nat.lt_irrefl 0), ⟨fun h => absurd h (Nat.lt_irrefl 0), fun j hj => absurd hj (Nat.not_lt_zero j)⟩, fun w0 _ => ⟨fun q hq => absurd hq (Nat.not_lt_zero q), fun j hj => absurd hj (Nat.not_lt_zero j), fun j hj => absurd hj (Nat.not_lt_zero j), Turned.refl _ _⟩, Nat.zero_le _, fun j hj => absurd hj (Nat.not_lt_zero j)⟩
  | ok aL =>
    obtain ⟨a, L⟩ := aL
    rw [hr] at h
    obtain ⟨Nv, N, rfl, hL, hN, hb, h1, h2, h3⟩ := h
    subst hL
    have hR := parseOf_right hr
    obtain ⟨aN, cN, b, o, e, z1, z2, z3⟩ := zr_start hN h3 h1 h2
    refine ⟨_, _, _, rfl, ⟨rfl, rfl, N, rfl, hN, h1, fun j hj k hk => h2 _ (List.getElem_mem hj) k hk⟩, hb, N, aN, cN, b, o, e, z1, z2, z3, ?_, fun j hj => ?_⟩
    · have := hR.len
      simp only [List.length_map] at this
      omega
    · have h9 : N[j].kids.length ≤ T.length + 5 := hR.kids N[j].sh (List.mem_map_of_mem (List.getElem_mem hj))
      omega
theorem RpTold.own {T : List Tk} {W w' : World} {x : Ending} (h : RpTold W (parseOf T) x w') : DlTold (fun B W lv rv ev => DAns B W (parseOf T) lv rv ev) W x w' := by
  cases hr : parseOf T with
  | error ac =>
    obtain ⟨a, c⟩ := ac
    rw [hr] at h
    obtain ⟨v, rfl, hf, hb⟩ := h
    exact ⟨_, _, _, rfl, ⟨rfl, rfl, hf⟩, hb⟩
  | ok aL =>
    obtain ⟨a, L⟩ := aL
    rw [hr] at h
    obtain ⟨Nv, N, rfl, hL, hN, hb, h1, h2⟩ := h
    exact ⟨_, _, _, rfl, ⟨rfl, rfl, N, hL, hN, h1, fun j hj k hk => h2 _ (List.getElem_mem hj) k hk⟩, hb⟩
/-- heddlelaw11.ParseOwn. -/
theorem law_own (s : ByteArray) {w : World} (hg : Er w) (hw : SgAt w) : Calls Tryz.prog 4 #[.string s] w fun x w' => x = .returned (.bool true) ∧ Below w.heap.size w w' := by
  have hA : ∀ W, Below w.heap.size w W → Calls Tryz.prog 6 #[] W (Yes W) := fun W hb => law_alive0 (hw.below hb) (hg.below hb)
  refine own_walk s ((rf_Scan s w).mono ?_) hA
  rintro e w1 (⟨v, rfl, ⟨a, n, cap, hv⟩, hb1⟩ | ⟨V, T, rfl, ho, hT, hn, hb1, hW⟩)
  · exact .inl ⟨v, rfl, ⟨_, n, cap, hv⟩, hb1⟩
  · refine .inr ⟨V, T, _, _, rfl, ho, hb1, ⟨hT, fun W Tv hb htok hbT => (rd_Parse T hT (hg.below hb) htok hbT).mono fun x w' h => h.own hT, fun W Tv htok hbT => (rf_Parse_any T hT (tkOk_all hW) htok hbT).mono fun x w' h => h.own, fun B B' W lv rv ev mv tv fv hb hp hd => law_told hT (hg.below hb) hp hd, fun hp T1 hs => PAns.turned hp T1 hs, fun hd T1 hs => DAns.turned hd T1 hs, hA⟩⟩
end Go.Proofs.YtlciaafincgdeaaGreatDoor
