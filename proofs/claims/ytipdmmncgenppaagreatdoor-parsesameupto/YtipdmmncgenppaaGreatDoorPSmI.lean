/-
  The document's layer 11: class: which of the forms a node has.
-/
import Derived.Test.YtipdmmncgenppaaGreatDoorPSmD
namespace Go.Proofs.YtipdmmncgenppaaGreatDoor
open Go.RowKit

/-- Are two forms one? -/
def formB (x f : Nd) : Bool := lookB x f && decide (x.kids = f.kids)
theorem NodesAt.all {w : World} {Nv : Value} {N : List Nd} (h : NodesAt w Nv N) (j : Nat) (hj : j < N.length) : ∃ b off cap, Nv = .slice (some ⟨b, off, none⟩) N.length cap ∧ ∀ q, q < 6 → w.cell? ⟨b, off + j * 6 + q, none⟩ = N[j].cells[q]? := by
  obtain ⟨b, off, cap, e, _, _, hc⟩ := h.own.sl.at j hj
  exact ⟨b, off, cap, e, fun q hq => (hc q hq).1.trans (nds_get N j hj q hq)⟩
/-- A node that was laid into a block of its own. -/
structure Bx (w wr : World) (f : Nd) : Prop where
  bel : Below w.heap.size w wr
  box : ∀ q, q < 6 → wr.cell? ⟨w.heap.size, q, none⟩ = f.cells[q]?
theorem Bx.lt {w wr : World} {f : Nd} (h : Bx w wr f) : w.heap.size < wr.heap.size := World.block_lt_of_cell? wr _ (h.box 0 (by decide))
theorem Bx.below {w wr w' : World} {f : Nd} (h : Bx w wr f) (hb : Below wr.heap.size wr w') : Bx w w' f := by
  refine ⟨h.bel.trans (hb.mono h.bel.size), fun q hq => ?_⟩
  have hq6 : q < f.cells.length := hq
  have h0 := h.box q hq
  rw [List.getElem?_eq_getElem hq6] at h0 ⊢
  exact (hb.cell (p := ⟨w.heap.size, q, none⟩) h.lt).trans h0
theorem Bx.new (w : World) (f : Nd) (t : TypeId) : Bx w (w.alloc (.cells #[.int .i64 f.kind, .string f.text, .string f.mod, .int .i64 f.num, f.kv, .int .i64 f.at_] t)) f := by
  refine ⟨Below.alloc0 w _, fun q hq => ?_⟩
  match q, hq with
  | 0, _ => simp [Nd.cells]
  | 1, _ => simp [Nd.cells]
  | 2, _ => simp [Nd.cells]
  | 3, _ => simp [Nd.cells]
  | 4, _ => simp [Nd.cells]
  | 5, _ => simp [Nd.cells]
theorem take_step {l m : List Int} {k : Nat} (h1 : k < l.length) (h2 : k < m.length) (h : l.take k = m.take k) (e : l[k] = m[k]) : l.take (k + 1) = m.take (k + 1) := by
  rw [List.take_succ_eq_append_getElem h1, List.take_succ_eq_append_getElem h2, h, e]
/-- Forms in memory. -/
structure FmAt (w : World) (Fv : Value) (F : List Nd) : Prop where
  nodes : NodesAt w Fv F
  klt : ∀ j (h : j < F.length) k, blk F[j].kv k → k < w.heap.size
theorem FmAt.turned {S : Nat → Prop} {w w' : World} {Fv : Value} {F : List Nd} (h : FmAt w Fv F) (T : Turned S w w') (hn : ∀ k, blk Fv k → ¬ S k) (hk : ∀ j (h : j < F.length) k, blk F[j].kv k → ¬ S k) : FmAt w' Fv F :=
  ⟨h.nodes.turned T hn hk, fun j hj k hb => Nat.lt_of_lt_of_le (h.klt j hj k hb) T.size⟩
theorem FmAt.below {w w' : World} {Fv : Value} {F : List Nd} (h : FmAt w Fv F) (hb : Below w.heap.size w w') : FmAt w' Fv F := h.turned (Turned.ofBelow (S := fun _ => False) hb) (fun _ _ e => e) (fun _ _ _ _ e => e)
theorem FmAt.snoc {w w2 w4 : World} {Fv V4 : Value} {F : List Nd} {f : Nd} (h : FmAt w Fv F) (hk : SlI w f.kv f.kids) (hk1 : ∀ k, blk f.kv k → ¬ blk Fv k ∧ k < w.heap.size) (hb : Below w.heap.size w w2) (ho : OwnK 6 w4 V4 (F.length + 1) (nds F ++ f.cells)) (T : Turned (blk Fv) w2 w4) (hv : ∀ q, blk V4 q → blk Fv q ∨ q = w2.heap.size) :
    FmAt w4 V4 (F ++ [f]) ∧ Turned (blk Fv) w w4 ∧ ∀ k, blk V4 k → blk Fv k ∨ w.heap.size ≤ k := by
  have hz := hb.size
  have T2 : Turned (blk Fv) w w4 := (Turned.ofBelow (S := blk Fv) hb).trans T (fun _ e => .inl e)
  have hz2 := T2.size
  have hnd : ∀ j (hj : j < (F ++ [f]).length), SlI w (F ++ [f])[j].kv (F ++ [f])[j].kids ∧ ∀ k, blk (F ++ [f])[j].kv k → ¬ blk Fv k ∧ k < w.heap.size := fun j hj => by
    by_cases hjn : j < F.length
    · rw [List.getElem_append_left hjn]
      exact ⟨h.nodes.kid j hjn, fun k hk => ⟨h.nodes.off j hjn k hk, h.klt j hjn k hk⟩⟩
    · have e : j = F.length := by simp at hj; omega
      subst e
      simp only [List.getElem_append_right (Nat.le_refl _), Nat.sub_self, List.getElem_cons_zero]
      exact ⟨hk, hk1⟩
  refine ⟨⟨⟨?_, fun j hj => SlK.turned (hnd j hj).1 T2 (fun k hk => ((hnd j hj).2 k hk).1), fun j hj k hk e => (hv k e).elim ((hnd j hj).2 k hk).1 (fun e => by have := ((hnd j hj).2 k hk).2; omega)⟩, fun j hj k hk => Nat.lt_of_lt_of_le ((hnd j hj).2 k hk).2 hz2⟩, T2, fun k e => (hv k e).elim .inl (fun e => .inr (by omega))⟩
  rw [nds_snoc]
  simpa using ho
/-- What class tells. -/
def ClassTold (w : World) (Fv : Value) (F : List Nd) (f : Nd) (x : Ending) (w' : World) : Prop :=
  (∃ j, ∃ h : j < F.length, formB F[j] f = true ∧ x = .returned (.tuple #[.int .i64 (j : Nat), Fv]) ∧ Below w.heap.size w w') ∨
  ((∀ j (h : j < F.length), formB F[j] f = false) ∧ ∃ Fv', x = .returned (.tuple #[.int .i64 (F.length : Nat), Fv']) ∧ FmAt w' Fv' (F ++ [f]) ∧ Turned (blk Fv) w w' ∧ ∀ k, blk Fv' k → blk Fv k ∨ w.heap.size ≤ k)
set_option maxRecDepth 100000 in
set_option maxHeartbeats 6400000 in
theorem ref_class {w : World} {Fv : Value} {F : List Nd} {f : Nd} (hF : FmAt w Fv F) (hk : SlI w f.kv f.kids) (hk1 : ∀ k, blk f.kv k → ¬ blk Fv k ∧ k < w.heap.size) (hl : F.length ≤ 16777216) (hfk : f.kids.length ≤ 16777216) :
    Calls Tryz.prog 34 #[Fv, f.val] w (ClassTold w Fv F f) := by
  obtain ⟨aK, cK, hkv⟩ := SlI.form hk
  obtain ⟨aF, cF, hFv, _⟩ := hF.nodes.own.sl.form
  have HF := Hid.mk7 (And.intro hF (And.intro hk hk1))
  have HL := Hid.mk7 (And.intro hl hfk)
  clear hF hk hk1 hl hfk
  subst hFv
  obtain ⟨nk, nt, nm, nn, kv, kids, na⟩ := f
  simp only at hkv
  subst hkv
  simp only [Nd.val]
  go_enter Tryz.func34, Tryz.ntmps34
  go_wp2_with fail
  go_loopw [6] (fun ix wr => ∃ j : Nat, j ≤ F.length ∧ ix = .int .i64 j ∧ (∀ t (h : t < F.length), t < j → formB F[t] ⟨nk, nt, nm, nn, .slice aK kids.length cK, kids, na⟩ = false) ∧ Bx w wr ⟨nk, nt, nm, nn, .slice aK kids.length cK, kids, na⟩) (fun ix _ => F.length - (intOf ix).toNat)
  case atStart => exact ⟨0, Nat.zero_le _, rfl, fun t _ h => absurd h (Nat.not_lt_zero t), Bx.new w ⟨nk, nt, nm, nn, .slice aK kids.length cK, kids, na⟩ _⟩
  case round =>
    obtain ⟨j, hj, rfl, hno, hB⟩ := hrel
    by_cases hlt : j < F.length
    · have hji : (j : Int) < (F.length : Int) := by omega
      have hFl : (F.length : Int) ≤ 16777216 := by have := HL.out.1; omega
      obtain ⟨bF, oF, cF', eF, hc⟩ := (HF.out.1.nodes.below hB.bel).all j hlt
      simp only [Value.slice.injEq, true_and] at eF
      obtain ⟨rfl, rfl⟩ := eF
      obtain ⟨aX, cX, hkx⟩ := SlI.form (HF.out.1.nodes.kid j hlt)
      have x0 := hc 0 (by decide)
      have x1 := hc 1 (by decide)
      have x2 := hc 2 (by decide)
      have x3 := hc 3 (by decide)
      have x4 := hc 4 (by decide)
      have x5 := hc 5 (by decide)
      have y0 := hB.box 0 (by decide)
      have y1 := hB.box 1 (by decide)
      have y2 := hB.box 2 (by decide)
      have y3 := hB.box 3 (by decide)
      have y4 := hB.box 4 (by decide)
      have y5 := hB.box 5 (by decide)
      simp only [Nd.cells, List.getElem?_cons_zero, List.getElem?_cons_succ, Nat.add_zero] at x0 x1 x2 x3 x4 x5 y0 y1 y2 y3 y4 y5
      rw [hkx] at x4
      have hwlt := hB.lt
      have HN := Hid.mk7 (And.intro hno hB)
      clear hno hB hc
      have hcase : (lookB F[j] ⟨nk, nt, nm, nn, .slice aK kids.length cK, kids, na⟩ = true ∧ F[j].kind = nk ∧ F[j].text.toList = nt.toList ∧ F[j].mod.toList = nm.toList ∧ F[j].num = nn ∧ (F[j].kids.length : Int) = (kids.length : Int)) ∨ (lookB F[j] ⟨nk, nt, nm, nn, .slice aK kids.length cK, kids, na⟩ = false ∧ (¬ F[j].kind = nk ∨ (F[j].kind = nk ∧ ¬ F[j].text.toList = nt.toList) ∨ (F[j].kind = nk ∧ F[j].text.toList = nt.toList ∧ ¬ F[j].mod.toList = nm.toList) ∨ (F[j].kind = nk ∧ F[j].text.toList = nt.toList ∧ F[j].mod.toList = nm.toList ∧ ¬ F[j].num = nn) ∨ (F[j].kind = nk ∧ F[j].text.toList = nt.toList ∧ F[j].mod.toList = nm.toList ∧ F[j].num = nn ∧ ¬ (F[j].kids.length : Int) = (kids.length : Int)))) := by
        unfold lookB
        by_cases e1 : F[j].kind = nk <;> by_cases e2 : F[j].text.toList = nt.toList <;> by_cases e3 : F[j].mod.toList = nm.toList <;> by_cases e4 : F[j].num = nn <;> by_cases e5 : (F[j].kids.length : Int) = (kids.length : Int) <;> simp [e1, e2, e3, e4, e5] <;> omega
      have HM := Hid.mk7 (And.intro hkx (HF.out.1.nodes.kid j hlt))
      clear hkx
      rcases hcase with ⟨hlk, e1, e2, e3, e4, e5⟩ | ⟨hlk, hcs⟩
      · have HK := Hid.mk7 hlk
        clear hlk
        have hlen : F[j].kids.length = kids.length := by omega
        rw [hlen] at x4
        have hkl : (kids.length : Int) ≤ 16777216 := by have := HL.out.2; omega
        have HE := Hid.mk7 hlen
        clear hlen e5
        go_wp2_with fail
        go_loopw [8, 9] (fun sv ix wr2 => ∃ (k : Nat) (b : Bool), k ≤ kids.length ∧ ix = .int .i64 k ∧ sv = .bool b ∧ (b = true → F[j].kids.take k = kids.take k) ∧ (b = false → ¬ F[j].kids = kids) ∧ Bx wr wr2 ⟨nk, F[j].text, F[j].mod, nn, .slice aX kids.length cX, F[j].kids, F[j].at_⟩) (fun _ ix _ => kids.length - (intOf ix).toNat)
        case atStart => exact ⟨0, true, Nat.zero_le _, rfl, rfl, fun _ => by (simp), fun h => by (cases h), Bx.new wr ⟨nk, F[j].text, F[j].mod, nn, .slice aX kids.length cX, F[j].kids, F[j].at_⟩ _⟩
        case round =>
          clear x0 x1 x2 x3 x4 x5 y0 y1 y2 y3 y4 y5 e1 e2 e3 e4
          obtain ⟨k, b, hk, rfl, rfl, ht, hf, hB2⟩ := hrel
          have hBf := HN.out.2.below hB2.bel
          have z4 := hB2.box 4 (by decide)
          have y4 := hBf.box 4 (by decide)
          simp only [Nd.cells, List.getElem?_cons_zero, List.getElem?_cons_succ] at z4 y4
          cases b with
          | false =>
            have H2 := Hid.mk7 (And.intro (hf rfl) hBf)
            clear ht hf hBf hB2
            go_wp2
            go_roundw
            case rel =>
              refine ⟨j + 1, by omega, by go_num, fun t ht htj => ?_, H2.out.2⟩
              by_cases e : t = j
              · subst e; unfold formB; rw [HK.out]; simpa using H2.out.1
              · exact HN.out.1 t ht (by omega)
            case measure => simp [intOf]; omega
          | true =>
            by_cases hkk : k < kids.length
            · have hkki : (k : Int) < (kids.length : Int) := by omega
              have hkx : k < F[j].kids.length := by rw [HE.out]; exact hkk
              have hkx1 := HM.out.1
              have sX := SlI.any (HM.out.2) (by have := HE.out; omega)
              rw [hkx1] at sX
              obtain ⟨gX, oX, hgX, cX1⟩ := ((sX.below HN.out.2.bel).below hB2.bel).at k hkx
              have sK := SlI.any (HF.out.2.1) (by omega)
              obtain ⟨gK, oK, hgK, cK1⟩ := (sK.below hBf.bel).at k hkk
              subst hgX hgK
              have H2 := Hid.mk7 (And.intro hBf (And.intro hB2 (ht rfl)))
              clear ht hf hBf hB2 sX sK hkx1
              by_cases he : F[j].kids[k] = kids[k]
              · have H3 := Hid.mk7 (And.intro hkx he)
                rw [he] at cX1
                clear he
                go_wp2_with fail
                go_quiet (fail)
                go_wp2
                go_roundw
                case rel => exact ⟨k + 1, true, by omega, by go_num, by simp, fun _ => take_step H3.out.1 hkk H2.out.2.2 H3.out.2, fun h => by (cases h), H2.out.2.1.below (drewN_below _ _)⟩
                case measure => simp [intOf]; omega
              · have H3 := Hid.mk7 (And.intro hkx he)
                generalize F[j].kids[k] = xk at cX1 he
                generalize kids[k] = yk at cK1 he
                go_wp2_with fail
                go_quiet (fail)
                go_wp2
                go_roundw
                case rel => exact ⟨k + 1, false, by omega, by go_num, by (simpa using he), fun h => by (cases h), fun _ h => H3.out.2 (by simp [h]), H2.out.2.1.below (drewN_below _ _)⟩
                case measure => simp [intOf]; omega
            · have hge : ¬ (k : Int) < (kids.length : Int) := by omega
              have H2 := Hid.mk7 (And.intro hBf (ht rfl))
              clear ht hf hBf hB2
              go_wp2
              go_ret2
              refine .inl ⟨j, hlt, ?_, rfl, H2.out.1.bel⟩
              unfold formB
              rw [HK.out]
              have h3 := H2.out.2
              rw [List.take_of_length_le (by have := HE.out; omega), List.take_of_length_le (by omega)] at h3
              simpa using h3
      · have HK := Hid.mk7 hlk
        clear hlk
        rcases hcs with h1 | ⟨h1, h2⟩ | ⟨h1, h2, h3⟩ | ⟨h1, h2, h3, h4⟩ | ⟨h1, h2, h3, h4, h5⟩
        all_goals
          go_wp2_with fail
          refine wp_loop_rounds 1 ?_
          rw [rounds_succ]
          go_wp2
          go_roundw
          case rel =>
            refine ⟨j + 1, by omega, by go_num, fun t ht htj => ?_, HN.out.2.below ?_⟩
            · by_cases e : t = j
              · subst e; unfold formB; rw [HK.out]; rfl
              · exact HN.out.1 t ht (by omega)
            · exact Below.alloc0 _ _
          case measure => simp [intOf]; omega
    · have hge : ¬ (j : Int) < (F.length : Int) := by omega
      have hFl : (F.length : Int) ≤ 16777216 := by have := HL.out.1; omega
      have y0 := hB.box 0 (by decide)
      have y1 := hB.box 1 (by decide)
      have y2 := hB.box 2 (by decide)
      have y3 := hB.box 3 (by decide)
      have y4 := hB.box 4 (by decide)
      have y5 := hB.box 5 (by decide)
      simp only [Nd.cells, List.getElem?_cons_zero, List.getElem?_cons_succ] at y0 y1 y2 y3 y4 y5
      have HO := Hid.mk7 (fun o => (HF.out.1.nodes.below hB.bel).own.turned (Turned.alloc (fun _ => False) wr o) (fun _ _ e => e))
      have HX := Hid.mk7 (SlK.nd wr ⟨nk, nt, nm, nn, .slice aK kids.length cK, kids, na⟩)
      have hone : ∀ u ∈ (⟨nk, nt, nm, nn, .slice aK kids.length cK, kids, na⟩ : Nd).cells, u.oneCell' = true := Nd.cells_one _ rfl
      have hfit : (F.length + 1) * 80 ≤ 140737488355328 := by omega
      have HN := Hid.mk7 (And.intro hno hB)
      clear hno hB
      go_wp2_with (at_builtin; refine wpList_append_k (by rfl) (.tmp 81) (.tmp 83) (by rfl) Tryz.nodeTypes (by rfl) (by rfl) (HO.out _) HX.out hone hfit (by omega) ?_; intro V4 w4 ho4 T4 hv4)
      have hs := HF.out.1.snoc (f := ⟨nk, nt, nm, nn, .slice aK kids.length cK, kids, na⟩) HF.out.2.1 HF.out.2.2 (HN.out.2.bel.trans ((Below.alloc0 wr _).mono HN.out.2.bel.size)) ho4 T4 hv4
      have HS := Hid.mk7 hs
      clear ho4 T4 hv4 hs
      go_wp2
      go_ret2
      exact .inr ⟨fun t ht => HN.out.1 t ht (by omega), V4, rfl, HS.out.1, HS.out.2.1, HS.out.2.2⟩
end Go.Proofs.YtipdmmncgenppaaGreatDoor
