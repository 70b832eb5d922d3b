/-
  Layer 10 (lex): the program's scan, of a text of ASCII bytes whose tokens are told one by one.
-/
import Derived.Test.YtlgkjjbefoeabaaGreatDoorPE
import Derived.Laws.RangeAny
namespace Go.Proofs.YtlgkjjbefoeabaaGreatDoor
open Go.RowKit

/-- A world whose iterator over a text stands elsewhere. -/
def iterTo (W : World) (b : Nat) (s : ByteArray) (p : Nat) : World := { W with heap := W.heap.setIfInBounds b (.stringIter s p) }
theorem iterTo_turned (W : World) (b : Nat) (s : ByteArray) (p : Nat) : Turned (fun k => k = b) W (iterTo W b s p) :=
  ⟨rfl, rfl, rfl, by simp [iterTo], fun k _ hk => by simp [iterTo]; rw [Array.getElem?_setIfInBounds_ne (fun h => hk h.symm)]⟩
theorem iterTo_heap {W : World} {b : Nat} (h : b < W.heap.size) (s : ByteArray) (p : Nat) : (iterTo W b s p).heap[b]? = some (.stringIter s p) := by
  simp [iterTo, h]
theorem run_next_at {P : Program} {W : World} {b : Nat} {s : ByteArray} {pos : Nat} (hb : W.heap[b]? = some (.stringIter s pos)) (h : pos < s.size) (ha : (s[pos]'h).toNat < 128) (ty : TypeId) :
    (Instr.next (.pointer (some ⟨b, 0, none⟩)) true ty).run P W = .ok (.tuple #[.bool true, .int .i64 pos, .int .i32 (s[pos]'h).toNat]) (iterTo W b s (pos + 1)) := by
  simp only [Instr.next, getObj, setObj, Sem.run_bind, Sem.run, hb, Result.andThen, h, if_true, decode_ascii s pos h ha]
  simp [goInt, iterTo]
theorem run_next_over {P : Program} {W : World} {b : Nat} {s : ByteArray} {pos : Nat} (hb : W.heap[b]? = some (.stringIter s pos)) (h : ¬ pos < s.size) (ty : TypeId) :
    (Instr.next (.pointer (some ⟨b, 0, none⟩)) true ty).run P W = .ok (.tuple #[.bool false]) W := by
  simp [Instr.next, getObj, Sem.run, hb, h]

/-- A text's tokens, each by its beginning. -/
def scanS (s : ByteArray) (tk : Nat → Option (Tk × Nat)) : Nat → Nat → Nat → List Tk → Option (List Tk)
  | 0, _, _, acc => some acc
  | k + 1, p, e, acc => if h : p < s.size then
      (if p < e ∨ blankB (s[p].toNat : Int) = true then scanS s tk k (p + 1) e acc else
        if (s[p].toNat : Int) = 37 then none else
        match tk p with
        | none => none
        | some (t, e') => scanS s tk k (p + 1) e' (acc ++ [t])) else some acc
def toks (l : List Tk) : List Value := l.flatMap Tk.cells
theorem toks_snoc (l : List Tk) (t : Tk) : toks (l ++ [t]) = toks l ++ t.cells := by simp [toks]
theorem toks_length (l : List Tk) : (toks l).length = l.length * 4 := by
  induction l with
  | nil => rfl
  | cons t r ih => simp only [toks, List.flatMap_cons, List.length_append, List.length_cons] at ih ⊢; rw [ih]; simp [Tk.cells]; omega
theorem Tk.cells_one (t : Tk) : ∀ u ∈ t.cells, u.oneCell' = true := by
  intro u hu
  simp only [Tk.cells, List.mem_cons, List.not_mem_nil, or_false] at hu
  rcases hu with rfl | rfl | rfl | rfl <;> rfl
theorem Tryz.tokTypes : ElTypes Tryz.prog 23 40 4 40 (.agg #[.int .i64 0, .string ⟨#[]⟩, .int .i64 0, .int .i64 0]) := by
  refine ⟨Tryz.underlying23, ?_, by simp [Value.cells]⟩
  have h : (Tryz.prog.info? 40).map (fun i => (i.zero, i.size, i.bytes)) = some (some (.agg #[.int .i64 0, .string ⟨#[]⟩, .int .i64 0, .int .i64 0]), 4, 40) := by kernel_rfl
  obtain ⟨i, hi, h0, h1, h2⟩ := info_parts h
  exact ⟨i, hi, h0, h1, h2⟩
/-- Where the program's scan stands. -/
structure ScanAt (w wr : World) (s : ByteArray) (tk : Nat → Option (Tk × Nat)) (L : List Tk) (p e : Nat) (V : Value) (acc : List Tk) : Prop where
  it : wr.heap[w.heap.size]? = some (.stringIter s p)
  own : OwnK 4 wr V acc.length (toks acc)
  off : ∀ k, blk V k → w.heap.size < k
  b : Below w.heap.size w wr
  le : acc.length ≤ p
  ps : p ≤ s.size
  es : e ≤ 4611686018427387904
  rest : scanS s tk (s.size - p) p e acc = some L
theorem ScanAt.lt {w wr : World} {s : ByteArray} {tk : Nat → Option (Tk × Nat)} {L : List Tk} {p e : Nat} {V : Value} {acc : List Tk} (h : ScanAt w wr s tk L p e V acc) : w.heap.size < wr.heap.size := by
  have := h.it
  rw [Array.getElem?_eq_some_iff] at this
  exact this.1
theorem ScanAt.next {w wr : World} {s : ByteArray} {tk : Nat → Option (Tk × Nat)} {L : List Tk} {p e : Nat} {V : Value} {acc : List Tk} (h : ScanAt w wr s tk L p e V acc) (hp : p < s.size) (hc : p < e ∨ blankB (s[p].toNat : Int) = true) : ScanAt w (iterTo wr w.heap.size s (p + 1)) s tk L (p + 1) e V acc := by
  have T := iterTo_turned wr w.heap.size s (p + 1)
  refine ⟨iterTo_heap h.lt _ _, h.own.turned T (fun k hk e => by have := h.off k hk; omega), h.off, h.b.trans (T.below h.b.size (fun _ e => Nat.le_of_eq e.symm)), by have := h.le; omega, by omega, h.es, ?_⟩
  have hr := h.rest
  have e1 : s.size - p = s.size - (p + 1) + 1 := by omega
  rw [e1, scanS, dif_pos hp, if_pos hc] at hr
  exact hr
theorem ScanAt.done {w wr : World} {s : ByteArray} {tk : Nat → Option (Tk × Nat)} {L : List Tk} {p e : Nat} {V : Value} {acc : List Tk} (h : ScanAt w wr s tk L p e V acc) (hp : ¬ p < s.size) : acc = L := by
  have hr := h.rest
  cases hk : s.size - p with
  | zero => rw [hk] at hr; exact Option.some.inj hr
  | succ k => omega
theorem ScanAt.pos {w wr : World} {s : ByteArray} {tk : Nat → Option (Tk × Nat)} {L : List Tk} {p e : Nat} {V : Value} {acc : List Tk} (h : ScanAt w wr s tk L p e V acc) : wr.iterPos w.heap.size = p := by simp [World.iterPos, h.it]
theorem ScanAt.here {w wr : World} {s : ByteArray} {tk : Nat → Option (Tk × Nat)} {L : List Tk} {p e : Nat} {V : Value} {acc : List Tk} (h : ScanAt w wr s tk L p e V acc) (hp : p < s.size) (hc : ¬ (p < e ∨ blankB (s[p].toNat : Int) = true)) : ¬ (s[p].toNat : Int) = 37 ∧ ∃ t e', tk p = some (t, e') := by
  have hr := h.rest
  have e1 : s.size - p = s.size - (p + 1) + 1 := by omega
  rw [e1, scanS, dif_pos hp, if_neg hc] at hr
  by_cases h37 : (s[p].toNat : Int) = 37
  · rw [if_pos h37] at hr; cases hr
  · rw [if_neg h37] at hr
    cases ht : tk p with
    | none => rw [ht] at hr; cases hr
    | some x => exact ⟨h37, x.1, x.2, rfl⟩
theorem ScanAt.tok {w wr w2 w3 : World} {s : ByteArray} {tk : Nat → Option (Tk × Nat)} {L : List Tk} {p e : Nat} {V V' : Value} {acc : List Tk} (h : ScanAt w wr s tk L p e V acc) (hp : p < s.size) (hc : ¬ (p < e ∨ blankB (s[p].toNat : Int) = true)) (h37 : ¬ (s[p].toNat : Int) = 37) {t : Tk} {e' : Nat} (ht : tk p = some (t, e')) (he' : e' ≤ 4611686018427387904)
    (hb : Below (iterTo wr w.heap.size s (p + 1)).heap.size (iterTo wr w.heap.size s (p + 1)) w2) (ho : OwnK 4 w3 V' (acc.length + 1) (toks acc ++ t.cells)) (T : Turned (blk V) w2 w3) (hV : ∀ q, blk V' q → blk V q ∨ q = w2.heap.size) : ScanAt w w3 s tk L (p + 1) e' V' (acc ++ [t]) := by
  have T1 := iterTo_turned wr w.heap.size s (p + 1)
  have hlt := h.lt
  have hz : (iterTo wr w.heap.size s (p + 1)).heap.size = wr.heap.size := by simp [iterTo]
  have hz2 := hb.size
  have hb1 : Below w.heap.size w w2 := (h.b.trans (T1.below h.b.size (fun _ e => Nat.le_of_eq e.symm))).trans (hb.mono (by rw [hz]; exact h.b.size))
  refine ⟨?_, by rw [toks_snoc]; simpa using ho, fun k hk => (hV k hk).elim (h.off k) (fun e => by omega), hb1.trans (T.below hb1.size (fun k hk => Nat.le_of_lt (h.off k hk))), by have := h.le; simp; omega, by omega, he', ?_⟩
  · rw [T.block _ (by omega) (fun hk => by have := h.off _ hk; omega), hb.block _ (by omega)]
    exact iterTo_heap hlt _ _
  · have hr := h.rest
    have e1 : s.size - p = s.size - (p + 1) + 1 := by omega
    rw [e1, scanS, dif_pos hp, if_neg hc, if_neg h37, ht] at hr
    exact hr
theorem SlK.tok (w : World) (t : Tk) : SlK 4 (w.alloc (.cells #[.int .i64 t.kind, .string t.text, .int .i64 t.num, .int .i64 t.at_] 40)) (.slice (some ⟨w.heap.size, 0, none⟩) 1 1) 1 t.cells := by
  refine ⟨rfl, .inr ⟨w.heap.size, 0, 1, rfl, Nat.le_refl _, by decide, fun j hj => ?_⟩⟩
  have hj4 : j < 4 := hj
  match j, hj4 with
  | 0, _ => simp [Tk.cells]
  | 1, _ => simp [Tk.cells]
  | 2, _ => simp [Tk.cells]
  | 3, _ => simp [Tk.cells]
set_option maxRecDepth 100000 in
set_option maxHeartbeats 3200000 in
theorem lx_scan (s : ByteArray) (hs : s.size ≤ 60000) (hasc : ∀ i (h : i < s.size), s[i].toNat < 128) (tk : Nat → Option (Tk × Nat)) (htk : ∀ p t e, tk p = some (t, e) → e ≤ 4611686018427387904 ∧ ∀ W, SgAt W → Calls Tryz.prog 92 #[.string s, .int .i64 p] W (TokTold t e W)) (L : List Tk) (hL : scanS s tk s.size 0 0 [] = some L) (w : World) (hw : SgAt w) :
    Calls Tryz.prog 75 #[.string s] w fun x w' => ∃ V, x = .returned (.tuple #[V, .nilIface]) ∧ OwnK 4 w' V L.length (toks L) ∧ Below w.heap.size w w' ∧ ∀ k, blk V k → w.heap.size < k := by
  have HT := Hid.mk7 htk
  have HA := Hid.mk7 hasc
  have HW := Hid.mk7 hw
  clear htk hasc hw
  go_enter Tryz.func75, Tryz.ntmps75
  go_wp2_with fail
  go_loopw [4, 5] (fun V i wr => ∃ (p e : Nat) (acc : List Tk), i = .int .i64 e ∧ ScanAt w wr s tk L p e V acc) (fun _ _ wr => s.size - wr.iterPos w.heap.size)
  case atStart => exact ⟨0, 0, [], rfl, ⟨World.iter_heap w s 0, OwnK.nil 4 _, fun _ h => h.elim, (World.iter_extends w s 0 |> fun _ => Below.alloc0 w _), Nat.le_refl _, Nat.zero_le _, by decide, by simpa using hL⟩⟩
  case round =>
    obtain ⟨p, e, acc, rfl, h⟩ := hrel
    have H := Hid.mk7 h
    have hes := h.es
    have hm0 := ScanAt.pos h
    obtain ⟨aV, cV, hV, _⟩ := h.own.sl.form
    subst hV
    by_cases hp : p < s.size
    · have hnx := fun ty => run_next_at (P := Tryz.prog) h.it hp (HA.out p hp) ty
      by_cases hpe : p < e
      · have hN := h.next hp (.inl hpe)
        have hm1 := ScanAt.pos hN
        have HN := Hid.mk7 hN
        have hpi : (p : Int) < (e : Int) := by omega
        clear hN h
        generalize iterTo _ w.heap.size s (p + 1) = w1 at hnx HN hm1
        go_wp2
        go_roundw
        case rel => exact ⟨p + 1, e, acc, rfl, HN.out⟩
        case measure => rw [hm0, hm1]; omega
      · have hpi : ¬ (p : Int) < (e : Int) := by omega
        have hbl := fun w => lx_blank (s[p].toNat : Int) w
        cases hb : blankB (s[p].toNat : Int) with
        | true =>
          simp only [hb] at hbl
          have hN := h.next hp (.inr hb)
          have hm1 := ScanAt.pos hN
          have HN := Hid.mk7 hN
          clear hN h hb
          generalize iterTo _ w.heap.size s (p + 1) = w1 at hnx HN hm1
          go_wp2_with (go_at_call 89; refine (hbl _).mono ?_; rintro x w2 ⟨rfl, rfl⟩)
          go_roundw
          case rel => exact ⟨p + 1, e, acc, rfl, HN.out⟩
          case measure => rw [hm0, hm1]; omega
        | false =>
          simp only [hb] at hbl
          have hc : ¬ (p < e ∨ blankB (s[p].toNat : Int) = true) := by rw [hb]; simp [hpe]
          obtain ⟨h37, t, e', ht⟩ := h.here hp hc
          obtain ⟨he', hrt⟩ := HT.out p t e' ht
          have hq := (HW.out.below h.b).turned (iterTo_turned _ w.heap.size s (p + 1)) (fun e => by have := HW.out.2; omega)
          have hrt := hrt _ hq
          have HK := Hid.mk7 (fun w2 w3 V' a b c d => h.tok (w2 := w2) (w3 := w3) (V' := V') hp hc h37 ht he' a b c d)
          have hown := h.own.turned (iterTo_turned _ w.heap.size s (p + 1)) (fun k hk e => by have := h.off k hk; omega)
          have hmany : ¬ (acc.length : Int) = 65536 := by have := h.le; omega
          have hfit : (acc.length + 1) * 40 ≤ 140737488355328 := by have := h.le; omega
          obtain ⟨tkk, tkt, tkn, tka⟩ := t
          clear h hb hc ht hq
          generalize iterTo _ w.heap.size s (p + 1) = w1 at hnx HK hrt hown
          go_wp2_with (go_at_call 89; refine (hbl _).mono ?_; rintro x w2 ⟨rfl, rfl⟩)
          refine hrt.mono ?_
          rintro x w2 ⟨rfl, hb2⟩
          simp only [Tk.val]
          have HB := Hid.mk7 (fun o1 o2 => hb2.trans ((Below.alloc0 w2 o1).trans ((Below.alloc0 (w2.alloc o1) o2).mono (by simp)) |>.mono hb2.size))
          have HO := Hid.mk7 (fun o1 o2 => hown.turned (Turned.ofBelow (S := fun _ => False) (HB.out o1 o2)) (fun _ _ h => h))
          have HX := Hid.mk7 (fun o1 => SlK.tok (w2.alloc o1) ⟨tkk, tkt, tkn, tka⟩)
          simp only [World.size_alloc] at HX
          clear hb2 hrt hown hnx hbl
          go_wp2_with (at_builtin; refine wpList_append_k (by rfl) (.tmp 50) (.tmp 52) (by rfl) Tryz.tokTypes (by rfl) (by rfl) (HO.out _ _) (HX.out _) (Tk.cells_one _) hfit (by omega) ?_; intro V1 w3 ho3 ht3 hv3)
          have hN := HK.out _ _ _ (HB.out _ _) ho3 ht3 hv3
          have hm1 := ScanAt.pos hN
          have HN := Hid.mk7 hN
          clear hN ho3 ht3 hv3 HO HX HB HK
          go_wp2
          go_roundw
          case rel => exact ⟨p + 1, e', acc ++ [⟨tkk, tkt, tkn, tka⟩], rfl, HN.out⟩
          case measure => rw [hm0, hm1]; omega
    · have hnx := fun ty => run_next_over (P := Tryz.prog) h.it hp ty
      obtain rfl := h.done hp
      have HO := Hid.mk7 (And.intro h.own (And.intro h.b h.off))
      clear h
      go_wp2
      go_ret2
      exact ⟨_, rfl, HO.out⟩
end Go.Proofs.YtlgkjjbefoeabaaGreatDoor
