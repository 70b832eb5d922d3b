/-
  Layer 7 (mix): the program's Digest.
-/
import Derived.Test.YtmnibmgbicnamaaGreatDoorMxd
import Derived.Test.YtmnibmgbicnamaaGreatDoorMxb
import Derived.Test.YtmnibmgbicnamaaGreatDoorMxDigits
namespace Go.Proofs.YtmnibmgbicnamaaGreatDoor
open Go.RowKit

theorem firstBad_none : ∀ (zs : List Int) (i : Nat), firstBad zs i = none → ∀ z ∈ zs, 33 ≤ z ∧ z ≤ 126
  | [], _, _, z, hz => by cases hz
  | y :: r, i, h, z, hz => by
    unfold firstBad at h
    by_cases hb : i = 255 ∨ y < 33 ∨ 126 < y
    · rw [if_pos hb] at h; cases h
    · rw [if_neg hb] at h
      rcases List.mem_cons.1 hz with rfl | hz
      · omega
      · exact firstBad_none r (i + 1) h z hz
theorem cookie_ascii {s : ByteArray} (h : cookieErr s = none) : ∀ z ∈ nums s, z < 128 := by
  unfold cookieErr at h
  by_cases h0 : s.size = 0
  · rw [if_pos h0] at h; cases h
  · rw [if_neg h0] at h
    have hf : firstBad (nums s) 0 = none := by
      cases hf : firstBad (nums s) 0 with
      | none => rfl
      | some i => rw [hf] at h; cases h
    intro z hz
    have := firstBad_none _ _ hf z hz
    omega
theorem cookie_code {s : ByteArray} {x : Int × Int} (h : cookieErr s = some x) : x.2 = 140 := by
  unfold cookieErr at h
  by_cases h0 : s.size = 0
  · rw [if_pos h0] at h; cases h; rfl
  · rw [if_neg h0] at h
    cases hf : firstBad (nums s) 0 with
    | none => rw [hf] at h; cases h
    | some i => rw [hf] at h; cases h; rfl
theorem digits_ascii (n : Nat) : ∀ z ∈ digitsOf n, z < 128 := by
  have hd : ∀ (k m : Nat) (acc : List Int), (∀ z ∈ acc, z < 128) → ∀ z ∈ digFrom k m acc, z < 128 := by
    intro k
    induction k with
    | zero => exact fun _ _ h => h
    | succ k ih =>
      intro m acc h
      unfold digFrom
      by_cases h0 : m = 0
      · rw [if_pos h0]; exact h
      · rw [if_neg h0]
        exact ih _ _ (fun z hz => by
          rcases List.mem_cons.1 hz with rfl | hz
          · omega
          · exact h z hz)
  unfold digitsOf
  by_cases h0 : n = 0
  · rw [if_pos h0]; intro z hz; simp at hz; omega
  · rw [if_neg h0]; exact hd 10 n [] (fun z hz => by cases hz)
theorem dec_len (n : Nat) (hn : n < 4294967296) : (Lib.decDigits n).length ≤ 20 := by
  rw [Lib.decDigits_length]
  by_cases h0 : n < 10
  · rw [Lib.nDigits_small h0]; omega
  · have := Lib.numDigits_eq n (by omega) (by omega)
    split at this <;> omega
/-- The text that is taken in. -/
theorem nums_both (s : ByteArray) (n : Nat) (hn : n < 4294967296) : nums (s ++ ⟨(Lib.decDigits n).toArray⟩) = nums s ++ digitsOf n := by
  rw [digits_dec n hn]
  simp [nums]
theorem both_ascii {s : ByteArray} (h : cookieErr s = none) (n : Nat) (hn : n < 4294967296) : ∀ i (h : i < (s ++ (⟨(Lib.decDigits n).toArray⟩ : ByteArray)).size), (s ++ (⟨(Lib.decDigits n).toArray⟩ : ByteArray))[i].toNat < 128 := by
  intro i hi
  have h1 : i < (nums (s ++ (⟨(Lib.decDigits n).toArray⟩ : ByteArray))).length := by rw [nums_length]; exact hi
  have h2 := List.getElem_mem h1
  rw [nums_get _ i hi h1] at h2
  rw [nums_both s n hn] at h2
  rcases List.mem_append.1 h2 with h2 | h2
  · have := cookie_ascii h _ h2; omega
  · have := digits_ascii n _ h2; omega

/-- 'make([]byte, 0, 16)'. -/
theorem make16 (w : World) : ∃ w1, (Instr.makeSlice 25 (.int .i64 0) (.int .i64 16)).run Tryz.prog w = .ok (.slice (some ⟨w.heap.size, 0, none⟩) 0 16) w1 ∧ Turned (fun _ => False) w w1 ∧ Own w1 (.slice (some ⟨w.heap.size, 0, none⟩) 0 16) [] := by
  obtain ⟨i, hi, hz, hsz, hby⟩ := Tryz.bytes.info
  have hr := run_make (P := Tryz.prog) w 25 5 i (.int .u8 0) Tryz.bytes.slice hi hz .i64 .i64 0 16 (by omega) (by omega) (by rw [hby]; omega) (by omega)
  rw [hsz] at hr
  refine ⟨_, hr, alloc0m w _, .inr ⟨w.heap.size, 0, 16, rfl, by simp, by decide, by simp, fun j hj => absurd hj (Nat.not_lt_zero j), fun j hj => ⟨?_, by rw [World.frozen?_alloc_new]⟩⟩⟩
  rw [World.cell?_alloc_at _ _ _ _ rfl]
  have hj' : 0 + j < (madeCells (Value.int .u8 0).cells (Int.toNat 16 * 1)).size := by rw [size_madeCells]; simpa using hj
  rw [Array.getElem?_eq_getElem hj']
  rfl

set_option maxRecDepth 100000 in
set_option maxHeartbeats 1600000 in
theorem mix_digest_no (s : ByteArray) (hs : s.size ≤ 4611686018427387904) (n : Nat) (w : World) {x : Int × Int} (hc : cookieErr s = some x) : Calls Tryz.prog 114 #[.string s, .int .u32 n] w fun e w' => ∃ v, e = .returned (.tuple #[.slice none 0 0, v]) ∧ FaultAt w.heap.size w' v x ∧ Below w.heap.size w w' := by
  have hck := mix_cookie s hs w
  rw [hc] at hck
  go_enter Tryz.func114, Tryz.ntmps114
  go_wp2_with fail
  refine hck.mono ?_
  rintro e w1 ⟨v, rfl, hf, hb⟩
  have HF : Hid (FaultAt w.heap.size w1 v x) := hf
  obtain ⟨pb, _, rfl, _⟩ := hf
  go_wp2
  go_ret2
  exact ⟨_, rfl, HF.out, hb⟩

set_option maxRecDepth 100000 in
set_option maxHeartbeats 3200000 in
theorem mix_digest_ok (s : ByteArray) (hs : s.size ≤ 255) (n : Nat) (hn : n < 4294967296) (w : World) (htb : Tb w) (hc : cookieErr s = none) : Calls Tryz.prog 114 #[.string s, .int .u32 n] w fun e w' => ∃ V, e = .returned (.tuple #[V, .nilIface]) ∧ Own w' V (digestOf s n) ∧ Below w.heap.size w w' ∧ ∀ k, blk V k → w.heap.size ≤ k := by
  have hck := mix_cookie s (by omega) w
  rw [hc] at hck
  have HC : Hid (cookieErr s = none) := hc
  have hdl := dec_len n hn
  clear hc
  go_enter Tryz.func114, Tryz.ntmps114
  go_wp2_with fail
  refine hck.mono ?_
  rintro e w1 ⟨v, rfl, hf, hb1⟩
  have hf' : v = .nilIface := hf
  subst hf'
  have htb1 := htb.below hb1
  have HB1 : Hid (Below w.heap.size w w1) := hb1
  clear hf hck hb1 htb
  go_wp2_with fail
  refine (fmt_uint n hn w1 htb1).mono ?_
  rintro e w2 ⟨rfl, hb2⟩
  have HB2 : Hid (Below w.heap.size w w2) := HB1.out.trans (hb2.mono HB1.out.size)
  clear hb2 htb1
  have habs := mix_absorb _ (both_ascii HC.out n hn) w2
  rw [nums_both s n hn] at habs
  have HD : Hid (digestOf s n = bytes8 (stirN 4 (mixBytes (14695981039346656037, 88172645463325252) (nums s ++ digitsOf n))).1 ++ bytes8 (stirN 4 (mixBytes (14695981039346656037, 88172645463325252) (nums s ++ digitsOf n))).2) := by exact rfl
  obtain ⟨ua, ub⟩ := mixBytes_u64 (nums s ++ digitsOf n) (14695981039346656037, 88172645463325252) ⟨by decide, by decide⟩ ⟨by decide, by decide⟩
  generalize mixBytes (14695981039346656037, 88172645463325252) (nums s ++ digitsOf n) = p at habs HD ua ub
  go_wp2_with fail
  refine habs.mono ?_
  rintro e w3 ⟨rfl, hb3⟩
  have HB3 : Hid (Below w.heap.size w w3) := HB2.out.trans (hb3.mono HB2.out.size)
  clear hb3 habs
  have hst := mix_stir p ua ub w3
  generalize stirN 4 p = q at hst HD
  go_wp2_with fail
  refine hst.mono ?_
  rintro e w3' ⟨rfl, rfl⟩
  clear hst ua ub
  obtain ⟨w4, hmk, T4, ho4⟩ := make16 w3
  have hap := mix_append q.1 (by simp) ho4
  have HB4 : Hid (Turned (fun _ => False) w w4 ∧ w.heap.size ≤ w3.heap.size) := ⟨(Turned.ofBelow (S := fun _ => False) HB3.out).trans T4 (fun _ h => h.elim), HB3.out.size⟩
  clear T4 ho4
  go_wp2_with fail
  refine hap.mono ?_
  rintro e w5 ⟨V5, rfl, ho5, T5, hb5⟩
  have hap2 := mix_append q.2 (by simp [bytes8]) ho5
  have HB5 : Hid (Turned (fun _ => False) w w5 ∧ ∀ k, blk V5 k → w.heap.size ≤ k) := ⟨HB4.out.1.trans T5 (fun k (hk : w3.heap.size = k) => .inr (by have := HB4.out.2; omega)), fun k hk => (hb5 k hk).elim (fun (h : w3.heap.size = k) => by have := HB4.out.2; omega) (fun h => by have := HB4.out.1.size; omega)⟩
  obtain ⟨a5, c5, L5, rfl⟩ : ∃ a c L, V5 = .slice a L c := ⟨_, _, _, ho5.sl.form.choose_spec.choose_spec.1⟩
  clear hmk hap ho5 T5 hb5
  go_wp2_with fail
  refine hap2.mono ?_
  rintro e w6 ⟨V6, rfl, ho6, T6, hb6⟩
  rw [List.nil_append, ← HD.out] at ho6
  have HB6 : Hid (Own w6 V6 (digestOf s n) ∧ Below w.heap.size w w6 ∧ ∀ k, blk V6 k → w.heap.size ≤ k) := ⟨ho6, (HB5.out.1.trans T6 (fun k hk => .inr (HB5.out.2 k hk))).below (Nat.le_refl _) (fun _ h => h.elim), fun k hk => (hb6 k hk).elim (HB5.out.2 k) (fun h => by have := HB5.out.1.size; omega)⟩
  obtain ⟨a6, c6, L6, rfl⟩ : ∃ a c L, V6 = .slice a L c := ⟨_, _, _, ho6.sl.form.choose_spec.choose_spec.1⟩
  clear hap2 ho6 T6 hb6
  go_wp2
  go_ret2
  exact ⟨_, rfl, HB6.out⟩

theorem mix_digest (s : ByteArray) (hs : s.size ≤ 4611686018427387904) (n : Nat) (hn : n < 4294967296) (w : World) (htb : Tb w) : Calls Tryz.prog 114 #[.string s, .int .u32 n] w fun e w' => ∃ V v, e = .returned (.tuple #[V, v]) ∧ ErrsM w.heap.size w' v (cookieErr s) ∧ Own w' V (digestTold s n) ∧ Below w.heap.size w w' ∧ ∀ k, blk V k → w.heap.size ≤ k := by
  unfold digestTold
  cases hc : cookieErr s with
  | none => exact (mix_digest_ok s (cookie_size hc) n hn w htb hc).mono fun e w' ⟨V, h1, h2, h3, h4⟩ => ⟨V, _, h1, rfl, h2, h3, h4⟩
  | some x => exact (mix_digest_no s hs n w hc).mono fun e w' ⟨v, h1, h2, h3⟩ => ⟨_, v, h1, h2, .inl ⟨rfl, rfl⟩, h3, fun _ h => h.elim⟩
end Go.Proofs.YtmnibmgbicnamaaGreatDoor
