/-
  Layer 11 (parse): what ParseOwn writes into: a row of tokens, a row of nodes, the Kids of each; which of it stays.
  Layer 11 (parse): heddlelaw11.ParseOwn, the statement's walk, of what its callees tell.
-/
import Derived.Test.YtlciaafincgdeaaGreatDoorZad
import Derived.Deep.MidRow
namespace Go.Proofs.YtlciaafincgdeaaGreatDoor
open Go.RowKit

theorem setCells_one (w : World) (g p : Nat) (v : Value) : w.setCells g p [v] = w.setCell ⟨g, p, none⟩ v := by
  rw [World.setCells.eq_2, World.setCells.eq_1]
theorem there_set {w : World} {b o n : Nat} (h : w.there b o n) (g p : Nat) (v : Value) : (w.setCell ⟨g, p, none⟩ v).there b o n := by
  rw [← setCells_one]
  exact World.there_setCells h g p [v]
/-- The slice v: n numbers that may be written. -/
def KidW (w : World) (v : Value) (n : Nat) : Prop := ∃ a cap, v = .slice a n cap ∧ (0 < n → ∃ g o, a = some ⟨g, o, none⟩ ∧ w.there g o n)
theorem KidW.setCells {w : World} {v : Value} {n : Nat} (h : KidW w v n) (g p : Nat) (vs : List Value) : KidW (w.setCells g p vs) v n := by
  obtain ⟨a, cap, rfl, h2⟩ := h
  refine ⟨a, cap, rfl, fun hn => ?_⟩
  obtain ⟨g', o, rfl, h3⟩ := h2 hn
  exact ⟨g', o, rfl, World.there_setCells h3 g p vs⟩
theorem KidW.ofOwn {w : World} {v : Value} {l : List Int} (h : OwnI w v l) : KidW w v l.length := by
  obtain ⟨_, ⟨rfl, h0⟩ | ⟨g, off, cap, rfl, h1, _, _, _, h5⟩⟩ := h
  · rw [h0]
    exact ⟨none, 0, rfl, fun h => absurd h (Nat.lt_irrefl 0)⟩
  · exact ⟨_, cap, rfl, fun _ => ⟨g, off, rfl, fun q hq => h5 q (by omega)⟩⟩
/-- Where the law's loop over the tokens stands. -/
structure OwI (lo hi : Nat) (w0 wr : World) (b o : Nat) (T : List Tk) (i : Nat) : Prop where
  th : wr.there b o (T.length * 4)
  kept : ∀ j, j < T.length → i ≤ j → ∀ q, q < 4 → wr.cell? ⟨b, o + j * 4 + q, none⟩ = (toks T)[j * 4 + q]?
  t : Turned (fun k => lo ≤ k ∧ k < hi) w0 wr
theorem ow_start {lo : Nat} {w : World} {V : Value} {T : List Tk} (h : OwnK 4 w V T.length (toks T)) (hlo : ∀ k, blk V k → lo ≤ k) :
    ∃ a cap b o, V = .slice a T.length cap ∧ (0 < T.length → a = some ⟨b, o, none⟩) ∧ (0 < T.length → lo ≤ b ∧ b < w.heap.size) ∧ ∀ w0, Turned (fun _ => False) w w0 → OwI lo w.heap.size w0 w0 b o T 0 := by
  by_cases h0 : T.length = 0
  · obtain ⟨a, cap, e, _⟩ := h.sl.form
    exact ⟨a, cap, 0, 0, e, fun h => by omega, fun h => by omega, fun w0 _ => ⟨fun q hq => by omega, fun j hj => by omega, Turned.refl _ _⟩⟩
  · have h' := h
    obtain ⟨_, ⟨_, e⟩ | ⟨g, off, cap, e, hc, _, hg, h4, h5⟩⟩ := h
    · exact absurd e h0
    subst e
    refine ⟨_, cap, g, off, rfl, fun _ => rfl, fun _ => ⟨hlo g rfl, hg⟩, fun w0 T0 => ?_⟩
    obtain ⟨_, ⟨_, e⟩ | ⟨g', off', cap', e, _, _, _, k4, k5⟩⟩ := OwnK.turned h' T0 (fun _ _ e => e)
    · exact absurd e h0
    simp only [Value.slice.injEq, Option.some.injEq, Addr.mk.injEq, and_true, true_and] at e
    obtain ⟨⟨rfl, rfl⟩, rfl⟩ := e
    have hl := toks_length T
    refine ⟨fun q hq => k5 q (by omega), fun j hj _ q hq => ?_, Turned.refl _ _⟩
    rw [Nat.add_assoc, k4 (j * 4 + q) (by omega), List.getElem?_eq_getElem (by omega)]
theorem OwI.next {lo hi : Nat} {w0 wr : World} {b o : Nat} {T : List Tk} {i : Nat} (hb : lo ≤ b ∧ b < hi) (h : OwI lo hi w0 wr b o T i) (vs : List Value) (hv : vs.length = 4) : OwI lo hi w0 (wr.setCells b (o + i * 4) vs) b o T (i + 1) := by
  refine ⟨World.there_setCells h.th _ _ _, fun j hj hij q hq => ?_, h.t.trans (Turned.setCells b vs _ wr) (fun k e => .inl ?_)⟩
  · rw [World.cell?_setCells_out b vs _ wr ⟨b, o + j * 4 + q, none⟩ (fun _ _ => .inr (by rw [hv]; show o + i * 4 + 4 ≤ o + j * 4 + q; omega))]
    exact h.kept j hj (by omega) q hq
  · have e : k = b := e
    subst e
    exact hb
theorem OwI.at {lo hi : Nat} {w0 wr : World} {b o : Nat} {T : List Tk} {i : Nat} (h : OwI lo hi w0 wr b o T i) (hi' : i < T.length) : wr.rangeAt b (o + i * 4) (tokAt T i).cells ∧ wr.there b (o + i * 4) 4 := by
  obtain ⟨t0, t1, t2, t3⟩ := toks_get T i hi'
  have et : tokAt T i = T[i] := by simp [tokAt, hi']
  rw [et]
  refine ⟨fun j v hj => ?_, fun j hj => ?_⟩
  · have hk := h.kept i hi' (Nat.le_refl _)
    match j, hj with
    | 0, hj => simp [Tk.cells] at hj; subst hj; rw [hk 0 (by omega)]; exact t0
    | 1, hj => simp [Tk.cells] at hj; subst hj; rw [hk 1 (by omega)]; exact t1
    | 2, hj => simp [Tk.cells] at hj; subst hj; rw [hk 2 (by omega)]; exact t2
    | 3, hj => simp [Tk.cells] at hj; subst hj; rw [hk 3 (by omega)]; exact t3
    | j + 4, hj => simp [Tk.cells] at hj
  · have := h.th (i * 4 + j) (by omega)
    rw [← Nat.add_assoc] at this
    exact this
/-- Where the law's loop over the nodes stands. -/
structure ZrI (lo hi : Nat) (w0 wr : World) (b o : Nat) (N : List Nd) (i : Nat) : Prop where
  th : wr.there b o (N.length * 6)
  kv : ∀ j (h : j < N.length), i ≤ j → wr.cell? ⟨b, o + j * 6 + 4, none⟩ = some N[j].kv
  kid : ∀ j (h : j < N.length), KidW wr N[j].kv N[j].kids.length
  t : Turned (fun k => lo ≤ k ∧ k < hi) w0 wr
/-- Blocks of the nodes and of their Kids. -/
structure ZrB (lo hi : Nat) (b : Nat) (N : List Nd) : Prop where
  b0 : 0 < N.length → lo ≤ b ∧ b < hi
  k0 : ∀ j (h : j < N.length) k, blk N[j].kv k → lo ≤ k ∧ k < hi ∧ k ≠ b
theorem ZrI.kidset {lo hi : Nat} {w0 wr : World} {b o : Nat} {N : List Nd} {i : Nat} (hB : ZrB lo hi b N) (h : ZrI lo hi w0 wr b o N i) (hi' : i < N.length) {g p n cap : Nat} (e : N[i].kv = .slice (some ⟨g, p, none⟩) n cap) (q : Nat) (v : Value) : ZrI lo hi w0 (wr.setCell ⟨g, q, none⟩ v) b o N i := by
  obtain ⟨h1, h2, h3⟩ := hB.k0 i hi' g (by rw [e]; rfl)
  refine ⟨there_set h.th g q v, fun j hj hij => ?_, fun j hj => ?_, h.t.trans (Turned.set1 wr g q v) (fun k e => .inl ?_)⟩
  · rw [World.cell?_setCell_far _ _ _ _ h3]
    exact h.kv j hj hij
  · rw [← setCells_one]
    exact (h.kid j hj).setCells _ _ _
  · have e : k = g := e
    subst e
    exact ⟨h1, h2⟩
theorem ZrI.next {lo hi : Nat} {w0 wr : World} {b o : Nat} {N : List Nd} {i : Nat} (hB : ZrB lo hi b N) (h : ZrI lo hi w0 wr b o N i) (hi' : i < N.length) (vs : List Value) (hv : vs.length = 6) : ZrI lo hi w0 (wr.setCells b (o + i * 6) vs) b o N (i + 1) := by
  refine ⟨World.there_setCells h.th _ _ _, fun j hj hij => ?_, fun j hj => (h.kid j hj).setCells _ _ _, h.t.trans (Turned.setCells b vs _ wr) (fun k e => .inl ?_)⟩
  · rw [World.cell?_setCells_out b vs _ wr ⟨b, o + j * 6 + 4, none⟩ (fun _ _ => .inr (by rw [hv]; show o + i * 6 + 6 ≤ o + j * 6 + 4; omega))]
    exact h.kv j hj (by omega)
  · have e : k = b := e
    subst e
    exact hB.b0 (by omega)
theorem ZrI.room {lo hi : Nat} {w0 wr : World} {b o : Nat} {N : List Nd} {i : Nat} (h : ZrI lo hi w0 wr b o N i) (hi' : i < N.length) : wr.there b (o + i * 6) 6 := fun j hj => by
  have := h.th (i * 6 + j) (by omega)
  rw [← Nat.add_assoc] at this
  exact this
theorem toks_one (T : List Tk) : ∀ u ∈ toks T, u.oneCell' = true := fun u hu => by
  obtain ⟨t, _, h⟩ := List.mem_flatMap.1 hu
  exact Tk.cells_one t u h
theorem there_turned {S : Nat → Prop} {w w' : World} {b o n : Nat} (h : w.there b o n) (T : Turned S w w') (hs : ¬ S b) : w'.there b o n := fun j hj => by
  obtain ⟨h1, h2⟩ := h j hj
  obtain ⟨u, hu⟩ := Option.isSome_iff_exists.1 h1
  exact ⟨by rw [T.cell hu hs]; rfl, by rw [T.frozen (p := ⟨b, o + j, none⟩) (World.block_lt_of_cell? w _ hu) hs]; exact h2⟩
theorem OwI.below {lo hi : Nat} {w0 wr w' : World} {b o : Nat} {T : List Tk} {i : Nat} (h : OwI lo hi w0 wr b o T i) (hb : Below wr.heap.size wr w') : OwI lo hi w0 w' b o T i := by
  have T1 := Turned.ofBelow (S := fun _ => False) hb
  refine ⟨there_turned h.th T1 (fun e => e), fun j hj hij q hq => ?_, h.t.trans T1 (fun _ e => e.elim)⟩
  have h1 := h.kept j hj hij q hq
  have hl := toks_length T
  rw [List.getElem?_eq_getElem (by omega)] at h1 ⊢
  exact T1.cell h1 (fun e => e)
theorem tok_range {w : World} {aT : Option Addr} {cT : Nat} {T : List Tk} (h : SlK 4 w (.slice aT T.length cT) T.length (toks T)) (j : Nat) (hj : j < T.length) : ∃ b o, aT = some ⟨b, o, none⟩ ∧ w.rangeAt b (o + j * 4) (tokAt T j).cells := by
  obtain ⟨b, off, cap, e, _, _, hc⟩ := h.at j hj
  simp only [Value.slice.injEq] at e
  obtain ⟨t0, t1, t2, t3⟩ := toks_get T j hj
  have et : tokAt T j = T[j] := by simp [tokAt, hj]
  refine ⟨b, off, e.1, ?_⟩
  rw [et]
  intro q v hq
  match q, hq with
  | 0, hq => simp [Tk.cells] at hq; subst hq; rw [(hc 0 (by omega)).1]; exact t0
  | 1, hq => simp [Tk.cells] at hq; subst hq; rw [(hc 1 (by omega)).1]; exact t1
  | 2, hq => simp [Tk.cells] at hq; subst hq; rw [(hc 2 (by omega)).1]; exact t2
  | 3, hq => simp [Tk.cells] at hq; subst hq; rw [(hc 3 (by omega)).1]; exact t3
  | q + 4, hq => simp [Tk.cells] at hq
/-- The empty row. -/
theorem OwnK.lit (w : World) (t : TypeId) : OwnK 4 (w.alloc (.cells #[] t)) (.slice (some ⟨w.heap.size, 0, none⟩) 0 0) 0 [] :=
  ⟨by simp, .inr ⟨w.heap.size, 0, 0, rfl, Nat.le_refl _, Nat.zero_le _, by simp, fun j hj => absurd hj (Nat.not_lt_zero j), fun j hj => absurd hj (by simp)⟩⟩
theorem own_copied {w1 w2 : World} {V : Value} {T : List Tk} {o : Obj} (h : OwnK 4 w2 V (0 + T.length) ([] ++ toks T)) (T2 : Turned (blk (.slice (some ⟨w1.heap.size, 0, none⟩) 0 0)) (w1.alloc o) w2) (hv : ∀ k, blk V k → blk (.slice (some ⟨w1.heap.size, 0, none⟩) 0 0) k ∨ k = (w1.alloc o).heap.size) :
    OwnK 4 w2 V T.length (toks T) ∧ Below w1.heap.size w1 w2 ∧ ∀ k, blk V k → w1.heap.size ≤ k := by
  rw [Nat.zero_add, List.nil_append] at h
  refine ⟨h, (Below.alloc0 w1 o).trans (T2.below (by simp) (fun k e => ?_)), fun k hk => (hv k hk).elim (fun e => ?_) (fun e => by rw [e, World.size_alloc]; omega)⟩
  · have e : w1.heap.size = k := e
    omega
  · have e : w1.heap.size = k := e
    omega
theorem there_at {w : World} {b o n : Nat} (h : w.there b o n) (j : Nat) (hj : j < n) : ∃ u, w.cell? ⟨b, o + j, none⟩ = some u ∧ w.frozen? ⟨b, o + j, none⟩ = false := by
  obtain ⟨u, hu⟩ := Option.isSome_iff_exists.1 (h j hj).1
  exact ⟨u, hu, (h j hj).2⟩
theorem there_first {w : World} {b o n : Nat} (h : w.there b o n) (hj : 0 < n) : ∃ u, w.cell? ⟨b, o, none⟩ = some u ∧ w.frozen? ⟨b, o, none⟩ = false := there_at h 0 hj
end Go.Proofs.YtlciaafincgdeaaGreatDoor
namespace Go.Proofs.YtlciaafincgdeaaGreatDoor
open Go.RowKit

theorem drewN_low (w : World) (n : Nat) : Below w.heap.size w (w.drewN n) := ⟨rfl, rfl, rfl, Nat.le_refl _, fun _ _ => rfl⟩
/-- What the law asks of the program's Parse. -/
def PlTold (PA : Nat → World → Value → Value → Value → Prop) (W : World) (x : Ending) (w' : World) : Prop :=
  ∃ lv rv ev, x = .returned (.tuple #[lv, rv, ev]) ∧ PA W.heap.size w' lv rv ev ∧ Below W.heap.size W w' ∧ ∃ N a cap b o, lv = .slice a N.length cap ∧ (0 < N.length → a = some ⟨b, o, none⟩) ∧ ZrB W.heap.size w'.heap.size b N ∧ (∀ w0, Turned (fun k => k < W.heap.size) w' w0 → ZrI W.heap.size w'.heap.size w0 w0 b o N 0) ∧ N.length ≤ 1048576 ∧ ∀ j (h : j < N.length), N[j].kids.length ≤ 1048576
/-- .. of the document's. -/
def DlTold (DA : Nat → World → Value → Value → Value → Prop) (W : World) (x : Ending) (w' : World) : Prop :=
  ∃ mv tv fv, x = .returned (.tuple #[mv, tv, fv]) ∧ DA W.heap.size w' mv tv fv ∧ Below W.heap.size W w'
def Yes (w : World) (x : Ending) (w' : World) : Prop := x = .returned (.bool true) ∧ Below w.heap.size w w'
/-- What is asked of the callees, tokens T. -/
structure OwnAsk (w : World) (T : List Tk) (PA DA : Nat → World → Value → Value → Value → Prop) : Prop where
  len : T.length ≤ 65536
  parse : ∀ W Tv, Below w.heap.size w W → SlK 4 W Tv T.length (toks T) → (∀ k, blk Tv k → k < W.heap.size) → Calls Tryz.prog 7 #[Tv] W (PlTold PA W)
  doc : ∀ W Tv, SlK 4 W Tv T.length (toks T) → (∀ k, blk Tv k → k < W.heap.size) → Calls Tryz.prog 12 #[Tv] W (DlTold DA W)
  told : ∀ B B' W lv rv ev mv tv fv, Below w.heap.size w W → PA B W lv rv ev → DA B' W mv tv fv → Calls Tryz.prog 13 #[lv, rv, ev, mv, tv, fv] W (Yes W)
  pt : ∀ {B : Nat} {S : Nat → Prop} {W W' : World} {lv rv ev : Value}, PA B W lv rv ev → Turned S W W' → (∀ k, B ≤ k → ¬ S k) → PA B W' lv rv ev
  dt : ∀ {B : Nat} {S : Nat → Prop} {W W' : World} {lv rv ev : Value}, DA B W lv rv ev → Turned S W W' → (∀ k, B ≤ k → ¬ S k) → DA B W' lv rv ev
  alive : ∀ W, Below w.heap.size w W → Calls Tryz.prog 6 #[] W (Yes W)
theorem OwnAsk.pb {w : World} {T : List Tk} {PA DA : Nat → World → Value → Value → Value → Prop} (h : OwnAsk w T PA DA) {B : Nat} {W W' : World} {lv rv ev : Value} (hp : PA B W lv rv ev) (hb : Below W.heap.size W W') : PA B W' lv rv ev := h.pt hp (Turned.ofBelow (S := fun _ => False) hb) (fun _ _ e => e)
theorem OwnAsk.db {w : World} {T : List Tk} {PA DA : Nat → World → Value → Value → Value → Prop} (h : OwnAsk w T PA DA) {B : Nat} {W W' : World} {lv rv ev : Value} (hp : DA B W lv rv ev) (hb : Below W.heap.size W W') : DA B W' lv rv ev := h.dt hp (Turned.ofBelow (S := fun _ => False) hb) (fun _ _ e => e)
theorem SlK.below {k : Nat} {w w' : World} {v : Value} {n : Nat} {cs : List Value} {B : Nat} (h : SlK k w v n cs) (hb : Below B w w') (hB : B = w.heap.size) : SlK k w' v n cs := by
  subst hB
  exact h.turned (Turned.ofBelow (S := fun _ => False) hb) (fun _ _ e => e)
set_option maxRecDepth 100000 in
set_option maxHeartbeats 3200000 in
theorem own_walk (s : ByteArray) {w : World} (hS : Calls Tryz.prog 5 #[.string s] w fun e w' => (∃ v, e = .returned (.tuple #[.slice none 0 0, v]) ∧ (∃ a n cap, v = .slice a (n + 1) cap) ∧ Below w.heap.size w w') ∨ ∃ V T PA DA, e = .returned (.tuple #[V, .slice none 0 0]) ∧ OwnK 4 w' V T.length (toks T) ∧ Below w.heap.size w w' ∧ OwnAsk w T PA DA)
    (hA : ∀ W, Below w.heap.size w W → Calls Tryz.prog 6 #[] W (Yes W)) :
    Calls Tryz.prog 4 #[.string s] w (Yes w) := by
  have C5 := Hid.mk7 hA
  clear hA
  go_enter Tryz.func4, Tryz.ntmps4
  go_wp2_with fail
  refine hS.mono ?_
  clear hS
  rintro e w1 (⟨v, rfl, hv, hb1⟩ | ⟨V, T, PA, DA, rfl, ho, hb1, hQ⟩)
  · obtain ⟨a, n, cap, rfl⟩ := hv
    have hpos : (0 : Int) < ((n + 1 : Nat) : Int) := by omega
    have H1 := Hid.mk7 hb1
    clear hb1
    go_wp2_with fail
    refine (C5.out _ H1.out).mono ?_
    rintro x w2 ⟨rfl, hb2⟩
    go_wp2
    go_ret
    exact ⟨rfl, H1.out.trans (hb2.mono H1.out.size)⟩
  · obtain ⟨aV, cV, hV, _⟩ := ho.sl.form
    subst hV
    have hlen := hQ.len
    have H1 := Hid.mk7 (And.intro ho (And.intro hb1 hQ))
    have hfit : (0 + T.length) * 40 ≤ 140737488355328 := by omega
    have hfit2 : 0 + T.length ≤ 4611686018427387903 := by omega
    have HF := Hid.mk7 (And.intro hfit hfit2)
    clear ho hb1 hQ C5 hfit hfit2
    go_wp2_with (at_builtin; refine wpList_append_k (by rfl) (.tmp 27) (.tmp 28) (by rfl) Tryz.tokTypes (by rfl) (by rfl) (OwnK.lit w1 _) (H1.out.1.sl.below (Below.alloc0 w1 _) rfl) (toks_one T) HF.out.1 HF.out.2 ?_; intro V2 w2 ho2 T2 hv2; obtain ⟨hO, B12, hlo⟩ := own_copied ho2 T2 hv2; obtain ⟨aO, cO, bo, oo, hV2, hsome, hbo, hOw⟩ := ow_start hO hlo; subst hV2; have hP := H1.out.2.2.parse w2 _ (H1.out.2.1.trans (B12.mono H1.out.2.1.size)) hO.sl hO.blk_lt; have H2 := Hid.mk7 (And.intro B12 (And.intro hsome (And.intro hbo hOw))); clear ho2 T2 hv2 hO hlo B12 hsome hbo hOw)
    go_wp2_with fail
    refine hP.mono ?_
    rintro e w3 ⟨lv, rv, ev, rfl, hpa, hb3, N, aN, cN, bn, on, rfl, hz1, hz2, hz3, hz4, hz5⟩
    have H3 := Hid.mk7 (And.intro hpa (And.intro hb3 (And.intro hz1 (And.intro hz2 (And.intro hz3 hz5)))))
    clear hP hpa hb3 hz1 hz2 hz3 hz5
    go_wp2_with fail
    go_loopw [38] (fun ix wr => ∃ j : Nat, j ≤ T.length ∧ ix = .int .i64 (j : Int) ∧ OwI w1.heap.size w2.heap.size w3 wr bo oo T j) (fun ix _ => T.length - (intOf ix).toNat)
    case atStart => exact ⟨0, Nat.zero_le _, rfl, H2.out.2.2.2 w3 (Turned.ofBelow H3.out.2.1)⟩
    case round =>
      obtain ⟨j, hj, rfl, hI⟩ := hrel
      have hTr : Below w1.heap.size w1 wr := H2.out.1.trans ((H3.out.2.1.mono H2.out.1.size).trans (hI.t.below (Nat.le_trans H2.out.1.size H3.out.2.1.size) (fun k e => e.1)))
      have hTv := H1.out.1.sl.below hTr rfl
      by_cases hlt : j < T.length
      · have hlti : (j : Int) < (T.length : Int) := by omega
        obtain rfl := H2.out.2.1 (by omega)
        obtain ⟨rO, _⟩ := hI.at hlt
        obtain ⟨bt, ot, haT, rT⟩ := tok_range hTv j hlt
        subst haT
        obtain ⟨⟨qk, qt, qn, qa⟩, hq⟩ : ∃ q, tokAt T j = q := ⟨_, rfl⟩
        rw [hq] at rO rT
        have o0 := rO 0 _ rfl
        have o1 := rO 1 _ rfl
        have o2 := rO 2 _ rfl
        have o3 := rO 3 _ rfl
        have t0 := rT 0 _ rfl
        have t1 := rT 1 _ rfl
        have t2 := rT 2 _ rfl
        have t3 := rT 3 _ rfl
        rw [Nat.add_zero] at o0 t0
        have lo_ := World.block_lt_of_cell? wr _ o0
        have lt_ := World.block_lt_of_cell? wr _ t0
        have HI := Hid.mk7 hI
        clear hI hTr hTv rO rT hq
        go_wp2_with fail
        go_quiet (fail)
        have B4 := drewN_low wr nq
        generalize wr.drewN nq = w4 at B4 ⊢
        have HI4 := Hid.mk7 (HI.out.below B4)
        have hroom := (HI4.out.at hlt).2
        clear B4 o0 o1 o2 o3 t0 t1 t2 t3 lo_ lt_
        obtain ⟨u0, c0, f0⟩ := there_first hroom (by omega)
        obtain ⟨u1, c1, f1⟩ := there_at hroom 1 (by omega)
        obtain ⟨u2, c2, f2⟩ := there_at hroom 2 (by omega)
        obtain ⟨u3, c3, f3⟩ := there_at hroom 3 (by omega)
        have lb_ := World.block_lt_of_cell? _ _ c0
        clear hroom
        go_wp2
        go_roundw
        case rel => exact ⟨j + 1, by omega, by go_num, HI4.out.next (H2.out.2.2.1 (by omega)) [_, _, _, _] rfl⟩
        case measure => simp [intOf]; omega
      · have hge : ¬ (j : Int) < (T.length : Int) := by omega
        have hD := H1.out.2.2.doc wr _ hTv (fun k hk => Nat.lt_of_lt_of_le (H1.out.1.blk_lt k hk) hTr.size)
        have H4 := Hid.mk7 (And.intro hTr (And.intro (H1.out.2.2.pt H3.out.1 hI.t (fun k e1 e2 => by omega)) hI.t))
        clear hI hTr hTv
        go_wp2_with fail
        refine hD.mono ?_
        rintro e w5 ⟨mv, tv, fv, rfl, hda, hb5⟩
        have B05 : Below w.heap.size w w5 := (H1.out.2.1.trans (H4.out.1.mono H1.out.2.1.size)).trans (hb5.mono (Nat.le_trans H1.out.2.1.size H4.out.1.size))
        have hTo := H1.out.2.2.told _ _ w5 _ _ _ _ _ _ B05 (H1.out.2.2.pb H4.out.2.1 hb5) hda
        have H5 := Hid.mk7 (And.intro hda (And.intro hb5 B05))
        clear hD hda hb5 B05
        go_wp2_with fail
        refine hTo.mono ?_
        rintro e w6 ⟨rfl, hb6⟩
        have T36 : Turned (fun k => k < w2.heap.size) w3 w6 := (H4.out.2.2.mono (fun k e => .inl e.2)).trans ((Turned.ofBelow (S := fun _ => False) H5.out.2.1).trans (Turned.ofBelow (S := fun _ => False) hb6) (fun _ e => e.elim)) (fun _ e => e.elim)
        have Z0 := H3.out.2.2.2.2.1 w6 T36
        have H6 := Hid.mk7 (And.intro hb6 Z0)
        clear hTo hb6 T36 Z0
        go_wp2_with fail
        go_loopw [71] (fun ix wr => ∃ i : Nat, i ≤ N.length ∧ ix = .int .i64 (i : Int) ∧ ZrI w2.heap.size w3.heap.size w6 wr bn on N i) (fun ix _ => N.length - (intOf ix).toNat)
        case atStart => exact ⟨0, Nat.zero_le _, rfl, H6.out.2⟩
        case round =>
          obtain ⟨i, hi, rfl, hZ⟩ := hrel
          by_cases hlt : i < N.length
          · have hlti : (i : Int) < (N.length : Int) := by omega
            obtain rfl := H3.out.2.2.1 (by omega)
            have ckv := hZ.kv i hlt (Nat.le_refl _)
            obtain ⟨ak, ck, ek, _⟩ := hZ.kid i hlt
            obtain ⟨nk, hnk⟩ : ∃ nk : Nat, N[i].kids.length = nk := ⟨_, rfl⟩
            have hnk2 := H3.out.2.2.2.2.2 i hlt
            rw [hnk] at ek hnk2
            rw [ek] at ckv
            have HK := Hid.mk7 (And.intro ek hnk)
            have HZ := Hid.mk7 hZ
            have lb_ := World.block_lt_of_cell? _ _ ckv
            clear hZ ek hnk
            go_wp2_with fail
            go_loopw [80] (fun ix wr => ∃ q : Nat, q ≤ nk ∧ ix = .int .i64 (q : Int) ∧ ZrI w2.heap.size w3.heap.size w6 wr bn on N i) (fun ix _ => nk - (intOf ix).toNat)
            case atStart => exact ⟨0, Nat.zero_le _, rfl, HZ.out⟩
            case round =>
              clear ckv lb_
              obtain ⟨q, hq, rfl, hY⟩ := hrel
              by_cases hql : q < nk
              · have hqli : (q : Int) < (nk : Int) := by omega
                have ckv := hY.kv i hlt (Nat.le_refl _)
                obtain ⟨ak', ck', ek', hth⟩ := hY.kid i hlt
                rw [HK.out.1] at ckv ek'
                rw [HK.out.2] at ek' hth
                simp only [Value.slice.injEq, true_and] at ek'
                obtain ⟨rfl, rfl⟩ := ek'
                obtain ⟨g, o, rfl, hth2⟩ := hth (by omega)
                obtain ⟨u, hu⟩ := Option.isSome_iff_exists.1 (hth2 q hql).1
                have hfz := (hth2 q hql).2
                have lg_ := World.block_lt_of_cell? _ _ hu
                have lb_ := World.block_lt_of_cell? _ _ ckv
                have HY := Hid.mk7 hY
                clear hY hth hth2
                go_wp2_with fail
                go_roundw
                case rel => exact ⟨q + 1, by omega, by go_num, HY.out.kidset H3.out.2.2.2.1 hlt HK.out.1 _ _⟩
                case measure => simp [intOf]; omega
              · have hge : ¬ (q : Int) < (nk : Int) := by omega
                have hroom := hY.room hlt
                have HY := Hid.mk7 hY
                clear hY
                obtain ⟨u0, c0, f0⟩ := there_first hroom (by omega)
                obtain ⟨u1, c1, f1⟩ := there_at hroom 1 (by omega)
                obtain ⟨u2, c2, f2⟩ := there_at hroom 2 (by omega)
                obtain ⟨u3, c3, f3⟩ := there_at hroom 3 (by omega)
                obtain ⟨u4, c4, f4⟩ := there_at hroom 4 (by omega)
                obtain ⟨u5, c5, f5⟩ := there_at hroom 5 (by omega)
                have lb_ := World.block_lt_of_cell? _ _ c0
                clear hroom
                go_wp2
                go_roundw
                case rel => exact ⟨i + 1, by omega, by go_num, HY.out.next H3.out.2.2.2.1 hlt [_, _, _, _, _, _] rfl⟩
                case measure => simp [intOf]; omega
          · have hge : ¬ (i : Int) < (N.length : Int) := by omega
            have B17 : Below w1.heap.size w1 wr := (H4.out.1.trans ((H5.out.2.1.mono H4.out.1.size).trans (H6.out.1.mono (Nat.le_trans H4.out.1.size H5.out.2.1.size)))).trans (hZ.t.below (Nat.le_trans H4.out.1.size (Nat.le_trans H5.out.2.1.size H6.out.1.size)) (fun k e => Nat.le_trans H2.out.1.size e.1))
            have B07 := H1.out.2.1.trans (B17.mono H1.out.2.1.size)
            have hP := H1.out.2.2.parse wr _ B07 (H1.out.1.sl.below B17 rfl) (fun k hk => Nat.lt_of_lt_of_le (H1.out.1.blk_lt k hk) B17.size)
            have hda := H1.out.2.2.dt (H1.out.2.2.db H5.out.1 H6.out.1) hZ.t (fun k e1 e2 => by have := H4.out.2.2.size; omega)
            have H7 := Hid.mk7 (And.intro B07 hda)
            clear hZ B17 B07 hda
            go_wp2_with fail
            refine hP.mono ?_
            rintro e w8 ⟨lv8, rv8, ev8, rfl, hpa8, hb8, _⟩
            have B08 := H7.out.1.trans (hb8.mono H7.out.1.size)
            have hTo := H1.out.2.2.told _ _ w8 _ _ _ _ _ _ B08 hpa8 (H1.out.2.2.db H7.out.2 hb8)
            have H8 := Hid.mk7 B08
            clear hP hpa8 hb8 B08
            go_wp2_with fail
            refine hTo.mono ?_
            rintro e w9 ⟨rfl, hb9⟩
            have B09 := H8.out.trans (hb9.mono H8.out.size)
            have hAl := H1.out.2.2.alive w9 B09
            have H9 := Hid.mk7 B09
            clear hTo hb9 B09
            go_wp2_with fail
            refine hAl.mono ?_
            rintro e w10 ⟨rfl, hb10⟩
            have H10 := Hid.mk7 (H9.out.trans (hb10.mono H9.out.size))
            clear hAl hb10
            go_wp2
            go_ret
            exact ⟨rfl, H10.out⟩
end Go.Proofs.YtlciaafincgdeaaGreatDoor
