/-
  heddlelaw06.FrameBack: its walk, given the program's frames.
-/
import Derived.Test.YtpbakejocjmkeaaFSame
import Derived.Test.YtpbakejocjmkeaaFPure
namespace Go.Proofs.Ytpbakejocjmkeaa
open Go.RowKit

set_option maxRecDepth 100000 in
theorem same_none (a b : Option Addr) (c d : Nat) (w : World) : Calls Try.prog 10 #[.slice a 0 c, .slice b 0 d] w fun e w' => e = .returned (.bool true) ∧ Below w.heap.size w w' := by
  go_enter Try.func10, Try.ntmps10
  go_wp2
  refine wp_loop_rounds 1 ?_
  rw [rounds_succ]
  go_wp2
  go_ret
  exact ⟨rfl, Below.refl _ _⟩

/-- A slice of slices that read as ls; of none, whatever it is. -/
def Rows2 (w : World) (l : Value) (ls : List (List Int)) : Prop :=
  ∃ a c vs, l = .slice a ls.length c ∧ ls.length ≤ c ∧ c ≤ maxLen ∧ vs.length = ls.length ∧ (ls ≠ [] → SlV w l vs) ∧ ∀ i (h1 : i < vs.length) (h2 : i < ls.length), Sl w vs[i] ls[i]
theorem same_rows {w : World} {B : Nat} {a b : Value} {ls : List (List Int)} (ha : Rows2 w a ls) (hb : Bodies w B b ls) :
    Calls Try.prog 10 #[a, b] w fun e w' => e = .returned (.bool true) ∧ Below w.heap.size w w' := by
  obtain ⟨x, c, vs, rfl, h1, h2, h3, h4, h5⟩ := ha
  by_cases h0 : ls = []
  · subst h0
    obtain ⟨vb, sb, lb, _, _⟩ := hb
    obtain ⟨ab, cb, hfb, _, _⟩ := sb.form
    rw [lb] at hfb
    subst hfb
    exact same_none _ _ _ _ w
  · refine same_any (B := 0) ⟨vs, h4 h0, h3, fun k hk => ⟨Nat.zero_le k, ?_⟩, fun i h1 h2 => ⟨h5 i h1 h2, fun k _ => Nat.zero_le k⟩⟩ hb
    rcases h4 h0 with ⟨_, hn⟩ | ⟨g, off, cap, e, _, _, hc⟩
    · subst hn
      exact absurd (List.length_eq_zero_iff.1 h3.symm) h0
    · rw [e] at hk
      have hk : g = k := hk
      subst hk
      have : 0 < vs.length := by rw [h3]; exact List.length_pos_iff.2 h0
      exact World.block_lt_of_cell? w _ (hc 0 this)
/-- All the bytes of the bodies and of their lengths. -/
def sizes : List (List Int) → Nat
  | [] => 0
  | b :: l => b.length + 4 + sizes l
theorem frameBytes_length (n : Int) (b : List Int) : (frameBytes n b).length ≤ b.length + 4 := by
  unfold frameBytes headOf
  split
  · simp
  · split
    · simp
    · split <;> simp <;> omega
theorem framesOf_length (n : Int) : ∀ l : List (List Int), (framesOf n l).length ≤ sizes l
  | [] => by simp [framesOf, sizes]
  | b :: l => by
    have h1 := framesOf_length n l
    have h2 := frameBytes_length n b
    simp only [framesOf, sizes, List.length_append]
    omega
theorem sizes_take (j : Nat) : ∀ l : List (List Int), sizes (l.take j) ≤ sizes l := by
  induction j with
  | zero => intro l; simp [sizes]
  | succ j ih =>
    intro l
    cases l with
    | nil => simp [sizes]
    | cons b l =>
      have := ih l
      simp only [List.take_succ_cons, sizes]
      omega
theorem sizes_get : ∀ (l : List (List Int)) (j : Nat) (h : j < l.length), l[j].length ≤ sizes l
  | [], j, h => absurd h (Nat.not_lt_zero j)
  | b :: l, 0, _ => by simp [sizes]; omega
  | b :: l, j + 1, h => by
    have := sizes_get l j (by simpa using h)
    simp only [List.getElem_cons_succ, sizes]
    omega
theorem frameBytes_rng (n : Int) {b : List Int} (h : Rng b) : Rng (frameBytes n b) := by
  unfold frameBytes
  by_cases h1 : n ≠ 2 ∧ n ≠ 4
  · rw [if_pos h1]; intro z hz; cases hz
  rw [if_neg h1]
  by_cases h2 : most n < (b.length : Int)
  · rw [if_pos h2]; intro z hz; cases hz
  rw [if_neg h2]
  refine Rng.append ?_ h
  intro z hz
  rcases (by omega : n = 2 ∨ n = 4) with rfl | rfl
  · have : most 2 = 1024 := rfl
    simp [headOf] at hz
    omega
  · have : most 4 = 131072 := rfl
    simp [headOf] at hz
    omega
theorem framesOf_rng (n : Int) : ∀ {l : List (List Int)}, (∀ b ∈ l, Rng b) → Rng (framesOf n l)
  | [], _ => fun z hz => by cases hz
  | b :: l, h => (frameBytes_rng n (h b (List.mem_cons_self ..))).append (framesOf_rng n fun c hc => h c (List.mem_cons_of_mem _ hc))

set_option maxRecDepth 100000 in
set_option maxHeartbeats 3200000 in
theorem back_any {Mem : World → Nat → (Nat → Prop) → FSt → Prop} (I : FImplS Mem) (n : Int) (l : Value) (ls : List (List Int)) (w : World) (hl : Rows2 w l ls) (hr : ∀ b ∈ ls, Rng b) (hs : sizes ls ≤ 16777216) :
    Calls Try.prog 4 #[.int .i64 n, l] w fun ev w' => ev = .returned (.bool true) ∧ Below w.heap.size w w' := by
  have hl0 := hl
  obtain ⟨al, cl, vs, rfl, hc, hm, hvl, hsl, hea⟩ := hl
  have hlm : ls.length ≤ 9223372036854775807 := by unfold maxLen at hm; omega
  have HR : Hid (Rows2 w (.slice al ls.length cl) ls) := hl0
  have HS : Hid (ls ≠ [] → SlV w (.slice al ls.length cl) vs) := hsl
  have HE : Hid (∀ i (h1 : i < vs.length) (h2 : i < ls.length), Sl w vs[i] ls[i]) := hea
  clear hl0 hsl hea
  go_enter Try.func4, Try.ntmps4
  go_wp2_with fail
  go_loopw [5, 6] (fun o i wr => ∃ j : Nat, j ≤ ls.length ∧ i = .int .i64 j ∧ Own wr o (framesOf n (ls.take j)) ∧ (∀ k, blk o k → w.heap.size ≤ k) ∧ (∀ x ∈ ls.take j, frameErr n x = none) ∧ Below w.heap.size w wr) (fun _ i _ => ls.length - (intOf i).toNat)
  case atStart => exact ⟨0, Nat.zero_le _, rfl, .inl ⟨rfl, rfl⟩, fun _ h => h.elim, fun x hx => by simp at hx, Below.refl _ _⟩
  case round =>
    obtain ⟨j, hj, rfl, hO, hOb, hok, hB⟩ := hrel
    by_cases hlt : j < ls.length
    · have hlti : (j : Int) < (ls.length : Int) := by omega
      have hj0 : (0 : Int) ≤ (j : Int) := by omega
      have hne : ls ≠ [] := fun h => by subst h; simp at hlt
      rcases HS.out hne with ⟨_, hn⟩ | ⟨gl, ol, cl', h1, _, _, h4⟩
      · subst hn; simp at hvl; omega
      rw [hvl] at h1
      cases h1
      have T := Turned.ofBelow (S := fun _ => False) hB
      have ra := T.cell (h4 j (by omega)) (fun h => h)
      have xa := (HE.out j (by omega) hlt).turned T (fun _ _ h => h)
      have hmem : ls[j] ∈ ls := List.getElem_mem hlt
      have hsz := sizes_get ls j hlt
      have htk : ls.take (j + 1) = ls.take j ++ [ls[j]] := by rw [List.take_succ_eq_append_getElem hlt]
      have hfr := I.frame n xa (by omega)
      have HO : Hid (Own wr u5 (framesOf n (ls.take j)) ∧ (∀ k, blk u5 k → w.heap.size ≤ k) ∧ (∀ x ∈ ls.take j, frameErr n x = none) ∧ Below w.heap.size w wr) := ⟨hO, hOb, hok, hB⟩
      obtain ⟨a1, c1, f1, _, _⟩ := xa.form
      rw [f1] at ra hfr
      have hjb : ls[j].length ≤ 16777216 := by omega
      have HFL : Hid (frameBytes n ls[j] = [] ∨ frameErr n ls[j] = none) := by
        unfold frameErr frameBytes
        by_cases h1 : n ≠ 2 ∧ n ≠ 4
        · exact .inl (by rw [if_pos h1])
        · by_cases h2 : most n < (ls[j].length : Int)
          · exact .inl (by rw [if_neg h1, if_pos h2])
          · exact .inr (by rw [if_neg h1, if_neg h2])
      clear hO hOb hok hB xa f1 h4 T hmem
      cases hfe : frameErr n ls[j] with
      | some x =>
        rw [hfe] at hfr
        have hfb : frameBytes n ls[j] = [] := HFL.out.resolve_right (by rw [hfe]; simp)
        rw [hfb] at hfr
        by_cases hw : n ≠ 2 ∧ n ≠ 4
        · have k2 : (n == 2) = false := by simpa using hw.1
          have k4 : (n == 4) = false := by simpa using hw.2
          go_wp2_with fail
          refine hfr.mono ?_
          rintro ev w1 ⟨V, v, rfl, he, hV, hb, hVk⟩
          obtain ⟨pb, _, rfl, _, _, _, _⟩ := he
          obtain ⟨aV, cV, hVf, _, _⟩ := hV.form
          rw [List.length_nil] at hVf
          subst hVf
          have B1 := HO.out.2.2.2.trans (hb.mono HO.out.2.2.2.size)
          have HB1 : Hid (Below w.heap.size w w1) := B1
          have hcell : w1.cell? ⟨gl, ol + j, none⟩ = some (.slice a1 ls[j].length c1) := (hb.cell (p := ⟨gl, ol + j, none⟩) (World.block_lt_of_cell? _ _ ra)).trans ra
          clear hV hVk
          go_wp2_with fail
          refine (awake_any I.toFImpl w1).mono ?_
          rintro ev w2 ⟨rfl, hb2⟩
          have hcell2 : w2.cell? ⟨gl, ol + j, none⟩ = some (.slice a1 ls[j].length c1) := (hb2.cell (p := ⟨gl, ol + j, none⟩) (World.block_lt_of_cell? _ _ hcell)).trans hcell
          have B2 := HB1.out.trans (hb2.mono HB1.out.size)
          clear hb hb2 ra hcell B1
          have HB2 : Hid (Below w.heap.size w w2) := B2
          clear B2
          go_wp2
          go_ret
          exact ⟨rfl, HB2.out⟩
        · have hbig : (1024 : Int) < (ls[j].length : Int) := by
            unfold frameErr at hfe
            rw [if_neg hw] at hfe
            by_cases h2 : most n < (ls[j].length : Int)
            · rcases (by omega : n = 2 ∨ n = 4) with rfl | rfl
              · have : most 2 = 1024 := rfl
                omega
              · have : most 4 = 131072 := rfl
                omega
            · rw [if_neg h2] at hfe; cases hfe
          rcases (by omega : n = 2 ∨ n = 4) with rfl | rfl
          · go_wp2_with fail
            refine hfr.mono ?_
            rintro ev w1 ⟨V, v, rfl, he, hV, hb, hVk⟩
            obtain ⟨pb, _, rfl, _, _, _, _⟩ := he
            obtain ⟨aV, cV, hVf, _, _⟩ := hV.form
            rw [List.length_nil] at hVf
            subst hVf
            have B1 := HO.out.2.2.2.trans (hb.mono HO.out.2.2.2.size)
            have HB1 : Hid (Below w.heap.size w w1) := B1
            have hcell : w1.cell? ⟨gl, ol + j, none⟩ = some (.slice a1 ls[j].length c1) := (hb.cell (p := ⟨gl, ol + j, none⟩) (World.block_lt_of_cell? _ _ ra)).trans ra
            clear hV hVk
            go_wp2_with fail
            refine (awake_any I.toFImpl w1).mono ?_
            rintro ev w2 ⟨rfl, hb2⟩
            have hcell2 : w2.cell? ⟨gl, ol + j, none⟩ = some (.slice a1 ls[j].length c1) := (hb2.cell (p := ⟨gl, ol + j, none⟩) (World.block_lt_of_cell? _ _ hcell)).trans hcell
            have B2 := HB1.out.trans (hb2.mono HB1.out.size)
            clear hb hb2 ra hcell B1
            have HB2 : Hid (Below w.heap.size w w2) := B2
            clear B2
            go_wp2
            go_ret
            exact ⟨rfl, HB2.out⟩
          · go_wp2_with fail
            refine hfr.mono ?_
            rintro ev w1 ⟨V, v, rfl, he, hV, hb, hVk⟩
            obtain ⟨pb, _, rfl, _, _, _, _⟩ := he
            obtain ⟨aV, cV, hVf, _, _⟩ := hV.form
            rw [List.length_nil] at hVf
            subst hVf
            have B1 := HO.out.2.2.2.trans (hb.mono HO.out.2.2.2.size)
            have HB1 : Hid (Below w.heap.size w w1) := B1
            have hcell : w1.cell? ⟨gl, ol + j, none⟩ = some (.slice a1 ls[j].length c1) := (hb.cell (p := ⟨gl, ol + j, none⟩) (World.block_lt_of_cell? _ _ ra)).trans ra
            clear hV hVk
            go_wp2_with fail
            refine (awake_any I.toFImpl w1).mono ?_
            rintro ev w2 ⟨rfl, hb2⟩
            have hcell2 : w2.cell? ⟨gl, ol + j, none⟩ = some (.slice a1 ls[j].length c1) := (hb2.cell (p := ⟨gl, ol + j, none⟩) (World.block_lt_of_cell? _ _ hcell)).trans hcell
            have B2 := HB1.out.trans (hb2.mono HB1.out.size)
            clear hb hb2 ra hcell B1
            have HB2 : Hid (Below w.heap.size w w2) := B2
            clear B2
            go_wp2
            go_ret
            exact ⟨rfl, HB2.out⟩
      | none =>
        rw [hfe] at hfr
        go_wp2_with fail
        refine hfr.mono ?_
        rintro ev w1 ⟨V, v, rfl, he, hV, hb, hVk⟩
        have hv : v = .nilIface := he
        subst hv
        obtain ⟨hO, hOb, hok, hB⟩ := HO.out
        have hO1 := hO.turned (Turned.ofBelow (S := fun _ => False) hb) (fun _ _ h => h)
        have hfl := framesOf_length n (ls.take j)
        have hfl2 := sizes_take j ls
        have hfl3 := frameBytes_length n ls[j]
        have B1 := hB.trans (hb.mono hB.size)
        have HK : Hid ((∀ k, blk u5 k → w.heap.size ≤ k) ∧ (∀ x ∈ ls.take j, frameErr n x = none) ∧ Below w.heap.size w w1) := ⟨hOb, hok, B1⟩
        clear hO hOb hok hB hb hVk B1
        go_wp2_with (at_builtin; refine wpList_append_bytes (by rfl) (.tmp 51) (.tmp 52) (by rfl) Try.bytes (by rfl) (by rfl) hO1 hV (by omega) ?_; intro v2 w2 ho2 ht2 hb2)
        obtain ⟨hOb, hok, B1⟩ := HK.out
        refine ⟨⟨j + 1, by omega, by simp, ?_, fun k hk => (hb2 k hk).elim (hOb k) (fun e => by have := B1.size; omega), ?_, B1.trans (ht2.below B1.size hOb)⟩, ?_⟩
        · rw [htk, framesOf_snoc]
          exact ho2
        · rw [htk]
          intro x hx
          rcases List.mem_append.1 hx with h | h
          · exact hok x h
          · rw [List.mem_singleton.1 h]; exact hfe
        · simp [intOf]
          omega
    · have hge : ¬ (j : Int) < (ls.length : Int) := by omega
      have hjl : j = ls.length := by omega
      subst hjl
      rw [List.take_length] at hO hok
      have hfl := framesOf_length n ls
      have hsp := I.split n hO.sl (framesOf_rng n hr) (by omega)
      have hR1 : Rows2 wr (.slice al ls.length cl) ls := by
        obtain ⟨a, c, vs', e, h1, h2, h3, h4, h5⟩ := HR.out
        have T := Turned.ofBelow (S := fun _ => False) hB
        exact ⟨a, c, vs', e, h1, h2, h3, fun h => (h4 h).turned T (fun _ _ h => h), fun i h1 h2 => (h5 i h1 h2).turned T (fun _ _ h => h)⟩
      have HR1 : Hid (Rows2 wr (.slice al ls.length cl) ls) := hR1
      have HB : Hid (Below w.heap.size w wr) := hB
      obtain ⟨ao, co, hof, _, _⟩ := hO.sl.form
      subst hof
      clear hR1 hB hO hOb
      by_cases hw : n ≠ 2 ∧ n ≠ 4
      · have k2 : (n == 2) = false := by simpa using hw.1
        have k4 : (n == 4) = false := by simpa using hw.2
        have m2 : (n != 2) = true := by simpa using hw.1
        have m4 : (n != 4) = true := by simpa using hw.2
        have hsa : splitAny n (framesOf n ls) = (some (0, 1), [], 0) := by unfold splitAny; rw [if_pos hw]
        rw [hsa] at hsp
        generalize (framesOf n ls).length = L at hfl hsp
        go_wp2_with fail
        refine hsp.mono ?_
        rintro ev w1 ⟨V, v, rfl, he, hV, hb⟩
        obtain ⟨pb, _, rfl, _, _, _, _⟩ := he
        clear hV
        go_wp2_with fail
        refine (awake_any I.toFImpl w1).mono ?_
        rintro ev w2 ⟨rfl, hb2⟩
        have B1 := HB.out.trans (hb.mono HB.out.size)
        have HB2 : Hid (Below w.heap.size w w2) := B1.trans (hb2.mono B1.size)
        clear hb hb2 B1
        go_wp2
        go_ret
        exact ⟨rfl, HB2.out⟩
      · have hn : n = 2 ∨ n = 4 := by omega
        have hsa : splitAny n (framesOf n ls) = (none, ls, (framesOf n ls).length) := by
          unfold splitAny
          rw [if_neg hw]
          rcases hn with rfl | rfl
          · exact split_frames (.inl rfl) hok
          · exact split_frames (.inr rfl) hok
        rw [hsa] at hsp
        have hL64 : (framesOf n ls).length ≤ 16777216 := by omega
        generalize (framesOf n ls).length = L at hfl hsp hL64
        have fin : ∀ (w1 : World) (V : Value), Bodies w1 wr.heap.size V ls → Below wr.heap.size wr w1 → Calls Try.prog 10 #[.slice al ls.length cl, V] w1 fun e w' => e = .returned (.bool true) ∧ Below w1.heap.size w1 w' := fun w1 V hV hb => by
          refine same_rows ?_ hV
          obtain ⟨a, c, vs', e, h1, h2, h3, h4, h5⟩ := HR1.out
          have T := Turned.ofBelow (S := fun _ => False) hb
          exact ⟨a, c, vs', e, h1, h2, h3, fun h => (h4 h).turned T (fun _ _ h => h), fun i h1 h2 => (h5 i h1 h2).turned T (fun _ _ h => h)⟩
        rcases hn with rfl | rfl
        · go_wp2_with fail
          refine hsp.mono ?_
          rintro ev w1 ⟨V, v, rfl, he, hV, hb⟩
          have hv : v = .nilIface := he
          subst hv
          have hsm := fin w1 V hV hb
          clear hV fin hsp
          go_wp2_with fail
          refine hsm.mono ?_
          rintro ev w2 ⟨rfl, hb2⟩
          go_wp2_with fail
          refine (awake_any I.toFImpl w2).mono ?_
          rintro ev w3 ⟨rfl, hb3⟩
          have B1 := HB.out.trans (hb.mono HB.out.size)
          have B2 := B1.trans (hb2.mono B1.size)
          have HB3 : Hid (Below w.heap.size w w3) := B2.trans (hb3.mono B2.size)
          clear hb hb2 hb3 B1 B2 hsm
          go_wp2
          go_ret
          exact ⟨rfl, HB3.out⟩
        · go_wp2_with fail
          refine hsp.mono ?_
          rintro ev w1 ⟨V, v, rfl, he, hV, hb⟩
          have hv : v = .nilIface := he
          subst hv
          have hsm := fin w1 V hV hb
          clear hV fin hsp
          go_wp2_with fail
          refine hsm.mono ?_
          rintro ev w2 ⟨rfl, hb2⟩
          go_wp2_with fail
          refine (awake_any I.toFImpl w2).mono ?_
          rintro ev w3 ⟨rfl, hb3⟩
          have B1 := HB.out.trans (hb.mono HB.out.size)
          have B2 := B1.trans (hb2.mono B1.size)
          have HB3 : Hid (Below w.heap.size w w3) := B2.trans (hb3.mono B2.size)
          clear hb hb2 hb3 B1 B2 hsm
          go_wp2
          go_ret
          exact ⟨rfl, HB3.out⟩
end Go.Proofs.Ytpbakejocjmkeaa
