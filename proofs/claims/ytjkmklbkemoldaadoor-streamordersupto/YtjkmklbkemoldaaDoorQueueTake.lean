/-
  The program's queues of bytes: take.
-/
import Derived.Test.YtjkmklbkemoldaaDoorQueuePut
import Derived.Deep.QuietTactic
import Derived.BigQuiet
namespace Go.Proofs.YtjkmklbkemoldaaDoor
open Go.RowKit

theorem Turned.drewN (S : Nat → Prop) (w : World) (n : Nat) : Turned S w (w.drewN n) := ⟨rfl, rfl, rfl, Nat.le_refl _, fun _ _ _ => rfl⟩

theorem size_q {w : World} {sb o p z cap : Nat} {a : Option Addr} (h0 : w.cell? ⟨sb, o, none⟩ = some (.slice a (p + z) cap)) (h1 : w.cell? ⟨sb, o + 1, none⟩ = some (.int .i64 p)) (hl : p + z ≤ 1099511627776) (k n : Nat) :
    Calls Tryd.prog 36 #[.pointer (some ⟨sb, o, none⟩)] (w.drewN (k + n)) fun e w' => e = .returned (.int .i64 z) ∧ ∃ m, w' = w.drewN (k + m) := by
  refine (size_any (w := w.drewN (k + n)) h0 h1 hl).mono ?_
  rintro e w' ⟨rfl, rfl⟩
  exact ⟨rfl, n + 1, rfl⟩

/-- The queue behind a take that drops nothing. -/
theorem Q.more {w : World} {V : Value} {p n : Nat} {zs : List Int} (h : Q w V p zs) (hn : n ≤ zs.length) (hl : p + n ≤ zs.length - n) : Q w V (p + n) (zs.drop n) := by
  obtain ⟨pre, h1, h2, h3⟩ := h
  refine ⟨pre ++ zs.take n, by simp; omega, by simp; omega, ?_⟩
  rw [List.append_assoc, List.take_append_drop]; exact h3
theorem Q.rest {w : World} {a : Option Addr} {p cap len n : Nat} {zs : List Int} (h : Q w (.slice a len cap) p zs) (hn : n ≤ zs.length) : Sl w (.slice (if cap = p + n then a else a.map (·.add (p + n))) (p + zs.length - (p + n)) (cap - (p + n))) (zs.drop n) := by
  obtain ⟨pre, h1, h2, h3⟩ := h
  obtain ⟨a', cap', h4, h5, h6⟩ := h3.sl.form
  cases h4
  have := h3.sl.drop (n := p + n) (by simp; omega)
  rw [List.drop_append, List.drop_eq_nil_of_le (by omega), List.nil_append, List.length_append, h1] at this
  rw [show p + n - p = n by omega] at this
  exact this
theorem Q.first {w : World} {a : Option Addr} {p cap len n : Nat} {zs : List Int} (h : Q w (.slice a len cap) p zs) (hn : n ≤ zs.length) : Sl w (.slice (if n = 0 then a else a.map (·.add p)) n n) (zs.take n) := by
  obtain ⟨pre, h1, h2, h3⟩ := h
  obtain ⟨a', cap', h4, h5, h6⟩ := h3.sl.form
  have hs := h3.sl
  cases h4
  rw [List.length_append] at hs
  subst h1
  exact hs.part hn

/-- 'x[l:l+n:l+n]' of a slice of bytes. -/
theorem run_cut3 {P : Program} {t e : TypeId} (hB : ByteTypes P t e) {a : Option Addr} {len cap l n : Nat} (h : l + n ≤ cap) (W : World) :
    (Instr.slice t (.slice a len cap) (some (.int .i64 (l : Int))) (some (.int .i64 ((l : Int) + (n : Int)))) (some (.int .i64 ((l : Int) + (n : Int))))).run P W = .ok (.slice (if n = 0 then a else a.map (·.add l)) n n) W := by
  obtain ⟨i, hi, hz, hsz, hby⟩ := hB.info
  have e1 : ((l : Int) + (n : Int)).toNat = l + n := by omega
  have e3 : l + n - l = n := by omega
  have b1 := run_sliceBound (P := P) (w := W) .i64 ((l : Int) + (n : Int)) cap .slice3Acap (by omega) (by omega)
  have b2 := run_sliceBound (P := P) (w := W) .i64 ((l : Int) + (n : Int)) (l + n) .slice3B (by omega) (by omega)
  have b3 := run_sliceBound (P := P) (w := W) .i64 (l : Int) (l + n) .slice3C (by omega) (by omega)
  simp [Instr.slice, run_underlying hB.slice, Instr.sliceBounds, b1, b2, b3, e1, e3, sizeOf, typeInfo, hi, hsz]
/-- 'x[l:]' of a slice of bytes. -/
theorem run_cutFrom {P : Program} {t e : TypeId} (hB : ByteTypes P t e) {a : Option Addr} {len cap l : Nat} (h : l ≤ len) (W : World) :
    (Instr.slice t (.slice a len cap) (some (.int .i64 (l : Int))) none none).run P W = .ok (.slice (if cap = l then a else a.map (·.add l)) (len - l) (cap - l)) W := by
  obtain ⟨i, hi, hz, hsz, hby⟩ := hB.info
  have b3 := run_sliceBound (P := P) (w := W) .i64 (l : Int) len .sliceB (by omega) (by omega)
  simp [Instr.slice, run_underlying hB.slice, Instr.sliceBounds, b3, sizeOf, typeInfo, hi, hsz]

theorem fset_at {f : Nat → Value} {i : Nat} {v : Value} : fset f i v i = v := if_pos rfl
theorem fset_off {f : Nat → Value} {i j : Nat} {v : Value} (h : j ≠ i) : fset f i v j = f j := if_neg h
theorem fset_same {f : Nat → Value} {o : Nat} {v : Value} (h : f o = v) : ∀ j, fset f o v j = f j := by
  intro j
  unfold fset
  by_cases hj : j = o
  · subst hj; rw [if_pos rfl]; exact h.symm
  · rw [if_neg hj]

set_option maxRecDepth 100000 in
set_option maxHeartbeats 3200000 in
theorem take_any {w : World} {sb o p n : Nat} {f : Nat → Value} {V : Value} {zs : List Int} (hb : Block w sb 16 f) (ho : o + 1 < 16) (hV : f o = V) (hp : f (o + 1) = .int .i64 p) (hq : Q w V p zs) (hn : n ≤ zs.length) (hl : zs.length ≤ 549755813888) (hne : ∀ k, blk V k → k ≠ sb) :
    Calls Tryd.prog 38 #[.pointer (some ⟨sb, o, none⟩), .int .i64 n] w fun e w' => ∃ F V' p', e = .returned F ∧ Sl w' F (zs.take n) ∧ (∀ k, blk F k → blk V k) ∧ Q w' V' p' (zs.drop n) ∧ Block w' sb 16 (fset (fset f o V') (o + 1) (.int .i64 (p' : Nat))) ∧ Turned (fun k => k = sb) w w' ∧ ∀ k, blk V' k → blk V k ∨ w.heap.size ≤ k := by
  obtain ⟨k0, f0⟩ := hb o (by omega)
  obtain ⟨k1, f1⟩ := hb (o + 1) ho
  rw [hV] at k0
  rw [hp] at k1
  have hsb : sb < w.heap.size := World.block_lt_of_cell? w _ k0
  obtain ⟨aV, capV, hf, hc, hm⟩ := hq.form
  subst hf
  have hple := hq.le
  have e1 : wrap64 ((p : Int) + (n : Int)) = ((p + n : Nat) : Int) := by rw [show (p : Int) + (n : Int) = ((p + n : Nat) : Int) by omega]; exact w64 _ (by omega)
  have b0 : (0 : Int) ≤ (p : Int) := by omega
  have b1 : (p : Int) ≤ ((p + n : Nat) : Int) := by omega
  have b2 : ((p + n : Nat) : Int) ≤ capV := by omega
  have hF := hq.first hn
  have HB : Hid (Block w sb 16 f) := hb
  have HQ : Hid (Q w (.slice aV (p + zs.length) capV) p zs) := hq
  have HN : Hid (∀ k, blk (.slice aV (p + zs.length) capV) k → k ≠ sb) := hne
  have HF : Hid (Sl w (.slice (if n = 0 then aV else aV.map (·.add p)) n n) (zs.take n)) := hF
  have kz : (w.setCell ⟨sb, o + 1, none⟩ (.int .i64 ((p : Int) + (n : Int)))).cell? ⟨sb, o, none⟩ = some (.slice aV ((p + n) + (zs.length - n)) capV) := by
    rw [World.cell?_setCell_other _ _ _ _ (fun e => by have := congrArg Addr.off e; simp at this), k0, show p + zs.length = p + n + (zs.length - n) by omega]
  have kp : (w.setCell ⟨sb, o + 1, none⟩ (.int .i64 ((p : Int) + (n : Int)))).cell? ⟨sb, o + 1, none⟩ = some (.int .i64 ((p + n : Nat) : Int)) := by
    rw [World.cell?_setCell_same _ _ _ k1, Int.natCast_add]
  have HKz : Hid ((w.setCell ⟨sb, o + 1, none⟩ (.int .i64 ((p : Int) + (n : Int)))).cell? ⟨sb, o, none⟩ = some (.slice aV ((p + n) + (zs.length - n)) capV)) := kz
  have HKp : Hid ((w.setCell ⟨sb, o + 1, none⟩ (.int .i64 ((p : Int) + (n : Int)))).cell? ⟨sb, o + 1, none⟩ = some (.int .i64 ((p + n : Nat) : Int))) := kp
  clear hb hq hne hF kz kp
  have hz1 : p + n + (zs.length - n) ≤ 1099511627776 := by omega
  obtain ⟨aF, haF⟩ : ∃ aF, aF = (if n = 0 then aV else aV.map (·.add p)) := ⟨_, rfl⟩
  have hbF : ∀ k, blk (.slice aF n n) k → blk (.slice aV (p + zs.length) capV) k := fun k hk => by rw [haF] at hk; exact blk_part k hk
  have hsl := fun W : World => run_cut3 Tryd.bytes (a := aV) (len := p + zs.length) (cap := capV) (l := p) (n := n) (by omega) W
  rw [← haF] at hsl HF
  clear haF
  have HBF : Hid (∀ k, blk (.slice aF n n) k → blk (.slice aV (p + zs.length) capV) k) := hbF
  clear hbF
  by_cases hclean : p + n < zs.length - n
  · have hge : ¬ ((zs.length - n : Nat) : Int) ≤ (p : Int) + n := by omega
    go_enter Tryd.func38, Tryd.ntmps38
    go_wp2_with fail
    go_region
    go_wp2_with fail
    go_quiet ((go_at_call 36; refine size_q HKz.out HKp.out hz1 1 _))
    go_wp2
    go_ret
    have T1 : Turned (fun k => k = sb) w (w.setCell ⟨sb, o + 1, none⟩ (.int .i64 ((p : Int) + (n : Int)))) := Turned.setCell w ⟨sb, o + 1, none⟩ _
    have T2 : Turned (fun k => k = sb) w ((w.setCell ⟨sb, o + 1, none⟩ (.int .i64 ((p : Int) + (n : Int)))).drew.drewN nq) := T1.trans ((Turned.drew (fun _ => False) _).trans (Turned.drewN (fun _ => False) _ _) (fun _ h => .inl h)) (fun _ h => h.elim)
    have hB : Block ((w.setCell ⟨sb, o + 1, none⟩ (.int .i64 ((p : Int) + (n : Int)))).drew.drewN nq) sb 16 (fset f (o + 1) (.int .i64 ((p : Int) + (n : Int)))) := ((HB.out.set (o + 1) (.int .i64 ((p : Int) + (n : Int)))).turned (Turned.drew (fun _ => False) _) (fun h => h)).turned (Turned.drewN (fun _ => False) _ nq) (fun h => h)
    refine ⟨.slice aF n n, .slice aV (p + zs.length) capV, p + n, rfl, HF.out.turned T2 (fun k hk => HN.out k (HBF.out k hk)), HBF.out, (HQ.out.more hn (by omega)).turned T2 HN.out, hB.congr (fun j _ => ?_), T2, fun k hk => .inl hk⟩
    rw [Int.natCast_add]
    unfold fset
    by_cases hj : j = o + 1
    · rw [if_pos hj, if_pos hj]
    · rw [if_neg hj, if_neg hj]
      by_cases hj2 : j = o
      · rw [if_pos hj2, hj2, hV]
      · rw [if_neg hj2]
  · have hge : ((zs.length - n : Nat) : Int) ≤ (p : Int) + n := by omega
    obtain ⟨aD, haD⟩ : ∃ aD, aD = (if capV = p + n then aV else aV.map (·.add (p + n))) := ⟨_, rfl⟩
    have hct := fun W : World => run_cutFrom Tryd.bytes (a := aV) (len := p + zs.length) (cap := capV) (l := p + n) (by omega) W
    have hD := HQ.out.rest hn
    have hbD : ∀ k, blk (.slice aD (p + zs.length - (p + n)) (capV - (p + n))) k → blk (.slice aV (p + zs.length) capV) k := fun k hk => by rw [haD] at hk; exact blk_part k hk
    rw [← haD] at hct hD
    clear haD
    simp only [Int.natCast_add] at hct
    have T1 : Turned (fun k => k = sb) w (w.setCell ⟨sb, o + 1, none⟩ (.int .i64 ((p : Int) + (n : Int)))) := Turned.setCell w ⟨sb, o + 1, none⟩ _
    have hD1 : Hid (Sl (w.setCell ⟨sb, o + 1, none⟩ (.int .i64 ((p : Int) + (n : Int)))) (.slice aD (p + zs.length - (p + n)) (capV - (p + n))) (zs.drop n)) := hD.turned T1 (fun k hk => HN.out k (hbD k hk))
    have hdl : (zs.drop n).length ≤ 1099511627776 := by simp; omega
    have HDn : Hid (∀ m, Sl ((w.setCell ⟨sb, o + 1, none⟩ (.int .i64 ((p : Int) + (n : Int)))).drewN m) (.slice aD (p + zs.length - (p + n)) (capV - (p + n))) (zs.drop n)) := fun m => hD1.out.turned (Turned.drewN (fun _ => False) _ m) (fun _ _ h => h)
    have T1n : ∀ m, Turned (fun k => k = sb) w ((w.setCell ⟨sb, o + 1, none⟩ (.int .i64 ((p : Int) + (n : Int)))).drewN m) := fun m => T1.trans (Turned.drewN (fun _ => False) _ m) (fun _ h => h.elim)
    have B1n : Hid (∀ m, Block ((w.setCell ⟨sb, o + 1, none⟩ (.int .i64 ((p : Int) + (n : Int)))).drewN m) sb 16 (fset f (o + 1) (.int .i64 ((p : Int) + (n : Int))))) := fun m => (HB.out.set (o + 1) (.int .i64 ((p : Int) + (n : Int)))).turned (Turned.drewN (fun _ => False) _ m) (fun h => h)
    have HT1 : Hid (∀ m, Turned (fun k => k = sb) w ((w.setCell ⟨sb, o + 1, none⟩ (.int .i64 ((p : Int) + (n : Int)))).drewN m)) := T1n
    clear hD hD1 T1 T1n
    have hlast : ∀ (w5 w6 : World) (V6 : Value), Block w5 sb 16 (fset f (o + 1) (.int .i64 ((p : Int) + (n : Int)))) → Turned (fun k => k = sb) w w5 → Own w6 V6 (zs.drop n) → Turned (fun _ => False) w5 w6 → (∀ k, blk V6 k → w5.heap.size ≤ k) →
        Sl ((w6.setCell ⟨sb, o, none⟩ V6).setCell ⟨sb, o + 1, none⟩ (.int .i64 0)) (.slice aF n n) (zs.take n) ∧ Q ((w6.setCell ⟨sb, o, none⟩ V6).setCell ⟨sb, o + 1, none⟩ (.int .i64 0)) V6 0 (zs.drop n) ∧ Block ((w6.setCell ⟨sb, o, none⟩ V6).setCell ⟨sb, o + 1, none⟩ (.int .i64 0)) sb 16 (fset (fset f o V6) (o + 1) (.int .i64 (0 : Nat))) ∧
        Turned (fun k => k = sb) w ((w6.setCell ⟨sb, o, none⟩ V6).setCell ⟨sb, o + 1, none⟩ (.int .i64 0)) ∧ ∀ k, blk V6 k → blk (.slice aV (p + zs.length) capV) k ∨ w.heap.size ≤ k := by
      intro w5 w6 V6 hB5 hT5 ho6 ht6 hb6
      have TS : Turned (fun k => k = sb) w6 ((w6.setCell ⟨sb, o, none⟩ V6).setCell ⟨sb, o + 1, none⟩ (.int .i64 0)) := (Turned.setCell w6 ⟨sb, o, none⟩ V6).trans (Turned.setCell _ ⟨sb, o + 1, none⟩ _) (fun _ h => .inl h)
      have T6 : Turned (fun k => k = sb) w w6 := hT5.trans ht6 (fun _ h => h.elim)
      have hn6 : ∀ k, blk V6 k → ¬ k = sb := fun k hk he => by have := hb6 k hk; have := hT5.size; omega
      refine ⟨(HF.out.turned T6 (fun k hk => HN.out k (HBF.out k hk))).turned TS (fun k hk => HN.out k (HBF.out k hk)), ⟨[], rfl, Nat.zero_le _, ho6.turned TS hn6⟩, (((hB5.turned ht6 (fun h => h)).set o V6).set (o + 1) (.int .i64 0)).congr (fun j _ => ?_), T6.trans TS (fun _ h => .inl h), fun k hk => .inr (Nat.le_trans hT5.size (hb6 k hk))⟩
      unfold fset
      by_cases hj : j = o + 1
      · simp only [if_pos hj]; rfl
      · by_cases hj2 : j = o
        · simp only [if_neg hj, if_pos hj2]
        · simp only [if_neg hj, if_neg hj2]
    have HL : Hid (∀ (w5 w6 : World) (V6 : Value), Block w5 sb 16 (fset f (o + 1) (.int .i64 ((p : Int) + (n : Int)))) → Turned (fun k => k = sb) w w5 → Own w6 V6 (zs.drop n) → Turned (fun _ => False) w5 w6 → (∀ k, blk V6 k → w5.heap.size ≤ k) →
        Sl ((w6.setCell ⟨sb, o, none⟩ V6).setCell ⟨sb, o + 1, none⟩ (.int .i64 0)) (.slice aF n n) (zs.take n) ∧ Q ((w6.setCell ⟨sb, o, none⟩ V6).setCell ⟨sb, o + 1, none⟩ (.int .i64 0)) V6 0 (zs.drop n) ∧ Block ((w6.setCell ⟨sb, o, none⟩ V6).setCell ⟨sb, o + 1, none⟩ (.int .i64 0)) sb 16 (fset (fset f o V6) (o + 1) (.int .i64 (0 : Nat))) ∧
        Turned (fun k => k = sb) w ((w6.setCell ⟨sb, o, none⟩ V6).setCell ⟨sb, o + 1, none⟩ (.int .i64 0)) ∧ ∀ k, blk V6 k → blk (.slice aV (p + zs.length) capV) k ∨ w.heap.size ≤ k) := hlast
    clear hlast
    go_enter Tryd.func38, Tryd.ntmps38
    go_wp2_with fail
    go_region
    go_wp2_with fail
    go_quiet ((go_at_call 36; refine size_q HKz.out HKp.out hz1 1 _))
    go_wp2_with fail
    go_region_with ((go_at_call 37; refine (clone_any (HDn.out _) hdl).mono ?_; rintro e w6 ⟨V6, rfl, ho6, ht6, hb6⟩; have R := HL.out _ w6 V6 (B1n.out _) (HT1.out _) ho6 ht6 hb6; have HR : Hid _ := R; obtain ⟨c6, f6⟩ := (B1n.out _).turned ht6 (fun h => h) o (by omega); obtain ⟨c7, f7⟩ := (B1n.out _).turned ht6 (fun h => h) (o + 1) ho; obtain ⟨a6, cap6, rfl, hc6, hm6⟩ := ho6.sl.form; rw [fset_at] at c7; rw [fset_off (by omega), hV] at c6; clear R ho6 ht6 hb6))
    all_goals
      go_wp2
      go_ret
      have hR := HR.out
      simp only [List.length_drop] at hR
      obtain ⟨r1, r2, r3, r4, r5⟩ := hR
      exact ⟨.slice aF n n, _, _, rfl, r1, HBF.out, r2, r3, r4, r5⟩
end Go.Proofs.YtjkmklbkemoldaaDoor
