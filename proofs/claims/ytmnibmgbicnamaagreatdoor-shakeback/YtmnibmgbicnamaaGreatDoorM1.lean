/-
  Layer 7 (mix): the document's digits and Digest.
-/
import Derived.Test.YtmnibmgbicnamaaGreatDoorM0
import Derived.Deep.DeepCutAuto
import Derived.Laws.IdiomStrings
namespace Go.Proofs.YtmnibmgbicnamaaGreatDoor
open Go.RowKit

theorem Sl.one (w : World) (t : TypeId) (x : Int) : Own (w.alloc (.cells #[.int .u8 x] t)) (.slice (some ⟨w.heap.size, 0, none⟩) 1 1) [x] := by
  refine .inr ⟨w.heap.size, 0, 1, rfl, Nat.le_refl _, by decide, by simp, fun j hj => ?_, fun j hj => ?_⟩
  · have : j = 0 := by simpa using hj
    subst this
    simp
  · have : j = 0 := by omega
    subst this
    exact ⟨by simp, by simp⟩
/-- '[]byte(s)'. -/
theorem conv_bytes (w : World) (s : ByteArray) (hs : s.size ≤ maxLen) : ∃ cap w1, (convert 9 25 (.string s)).run Tryz.prog w = .ok (.slice (some ⟨w.heap.size, 0, none⟩) s.size cap) w1 ∧ Own w1 (.slice (some ⟨w.heap.size, 0, none⟩) s.size cap) (nums s) ∧ Turned (fun _ => False) w w1 := by
  have hr := run_bytes_of_string (P := Tryz.prog) w 9 25 5 s Tryz.underlying9 Tryz.underlying25 Tryz.underlying5
  have hge := grownCap_ge w s.size 0 5
  have hle := grownCap_le_maxLen w s.size 0 5 hs
  generalize grownCap w s.size 0 5 = c at hr hge hle
  refine ⟨c, _, hr, ?_, (Turned.drew (fun _ => False) w).trans (alloc0m w.drew _) (fun _ h => h.elim)⟩
  have hl := nums_length s
  have hsz : (bytesRow s c).size = c := by
    have : s.data.size = s.size := rfl
    simp [bytesRow]
    omega
  refine .inr ⟨w.heap.size, 0, c, by rw [hl], by rw [hl]; exact hge, hle, by simp, fun j hj => ?_, fun j hj => ?_⟩
  · have hj' : j < s.size := by rw [← hl]; exact hj
    have hjd : j < s.data.size := hj'
    rw [Nat.zero_add, show w.heap.size = w.drew.heap.size from rfl, World.cell?_alloc_mark, nums_get s j hj' hj]
    unfold bytesRow
    rw [Array.getElem?_append_left (by simpa using hjd), Array.getElem?_map, Array.getElem?_eq_getElem hjd]
    rfl
  · rw [Nat.zero_add, show w.heap.size = w.drew.heap.size from rfl, World.cell?_alloc_mark, World.frozen?_alloc_mark, hsz]
    refine ⟨?_, by simp; omega⟩
    rw [Array.getElem?_eq_getElem (by rw [hsz]; exact hj)]
    rfl
theorem digFrom_zero (k : Nat) (acc : List Int) : digFrom k 0 acc = acc := by cases k <;> rfl
theorem digFrom_step (k n : Nat) (acc : List Int) (h : n ≠ 0) : digFrom (k + 1) n acc = digFrom k (n / 10) ((48 + (n % 10 : Nat) : Int) :: acc) := by
  show (if n = 0 then acc else _) = _
  rw [if_neg h]

theorem digFrom_rng : ∀ (k n : Nat) (acc : List Int), (∀ z ∈ acc, 0 ≤ z ∧ z < 256) → ∀ z ∈ digFrom k n acc, 0 ≤ z ∧ z < 256
  | 0, _, _, h => h
  | k + 1, n, acc, h => by
    unfold digFrom
    by_cases h0 : n = 0
    · rw [if_pos h0]; exact h
    · rw [if_neg h0]
      exact digFrom_rng k (n / 10) _ (fun z hz => by
        rcases List.mem_cons.1 hz with rfl | hz
        · omega
        · exact h z hz)
theorem digits_rng (n : Nat) : ∀ z ∈ digitsOf n, 0 ≤ z ∧ z < 256 := by
  unfold digitsOf
  by_cases h0 : n = 0
  · rw [if_pos h0]; intro z hz; simp at hz; omega
  · rw [if_neg h0]; exact digFrom_rng 10 n [] (fun z hz => by cases hz)

set_option maxRecDepth 100000 in
set_option maxHeartbeats 1600000 in
theorem ref_digits (n : Nat) (hn : n < 4294967296) (w : World) : Calls Tryz.prog 62 #[.int .u32 n] w fun e w' => ∃ V, e = .returned V ∧ Own w' V (digitsOf n) ∧ (digitsOf n).length ≤ 10 ∧ Turned (fun _ => False) w w' ∧ ∀ k, blk V k → w.heap.size ≤ k := by
  unfold digitsOf
  by_cases h0 : n = 0
  · subst h0
    rw [if_pos rfl]
    have HT := fun t : TypeId => Sl.one w t 48
    go_enter Tryz.func62, Tryz.ntmps62
    go_wp2
    go_ret
    exact ⟨_, rfl, HT _, by decide, alloc0m w _, fun k hk => Nat.le_of_eq hk⟩
  · rw [if_neg h0]
    have hq : ((n : Int) == 0) = false := by simp; omega
    go_enter Tryz.func62, Tryz.ntmps62
    go_wp2_with fail
    go_loopw [0, 3] (fun nn bb wr => ∃ (n' k : Nat) (acc : List Int), nn = .int .u32 n' ∧ n' < 4294967296 ∧ n' < 10 ^ k ∧ k + acc.length ≤ 10 ∧ digFrom k n' acc = digFrom 10 n [] ∧ Own wr bb acc ∧ Turned (fun _ => False) w wr ∧ ∀ q, blk bb q → w.heap.size ≤ q) (fun nn _ _ => (intOf nn).toNat)
    case atStart => exact ⟨n, 10, [], rfl, hn, by omega, by simp, rfl, .inl ⟨rfl, rfl⟩, Turned.refl _ _, fun _ h => h.elim⟩
    case round =>
      obtain ⟨n', k, acc, rfl, hn', hk, hl, hd, ho, hT, hb⟩ := hrel
      by_cases hz : n' = 0
      · have hz' : ¬ (0 : Int) < (n' : Int) := by omega
        subst hz
        rw [digFrom_zero] at hd
        have HD : Hid (acc = digFrom 10 n []) := hd
        have HO : Hid (Own wr u3 acc ∧ Turned (fun _ => False) w wr ∧ ∀ q, blk u3 q → w.heap.size ≤ q) := ⟨ho, hT, hb⟩
        clear hd ho hT hb
        go_wp2
        go_ret
        rw [← HD.out]
        exact ⟨_, rfl, HO.out.1, by omega, HO.out.2.1, HO.out.2.2⟩
      · have hz' : (0 : Int) < (n' : Int) := by omega
        obtain ⟨k', rfl⟩ : ∃ k', k = k' + 1 := ⟨k - 1, by cases k with | zero => simp at hk; omega | succ k => rfl⟩
        rw [digFrom_step k' n' acc hz] at hd
        have hw1 : IntKind.u32.wrap (48 + (n' : Int) % 10) = 48 + (n' : Int) % 10 := by rw [IntKind.wrap_u32]; omega
        have hw2 : IntKind.u8.wrap (48 + (n' : Int) % 10) = 48 + (n' : Int) % 10 := by rw [IntKind.wrap_u8]; omega
        have hm0 : 0 ≤ (n' : Int) % 10 := by omega
        have hm1 : (n' : Int) % 10 < 10 := by omega
        have hlt : n' / 10 < 10 ^ k' := by rw [Nat.pow_succ] at hk; omega
        have HD : Hid (digFrom k' (n' / 10) ((48 + (n' : Int) % 10) :: acc) = digFrom 10 n []) := by rw [show (48 + (n' : Int) % 10) = (48 + (n' % 10 : Nat) : Int) by omega]; exact hd
        have HO : Hid (Own wr u3 acc ∧ Turned (fun _ => False) w wr ∧ ∀ q, blk u3 q → w.heap.size ≤ q) := ⟨ho, hT, hb⟩
        obtain ⟨a3, c3, L3, rfl⟩ : ∃ a c L, u3 = .slice a L c := ⟨_, _, _, ho.sl.form.choose_spec.choose_spec.1⟩
        have HT := fun t : TypeId => Sl.one wr t (48 + (n' : Int) % 10)
        have HA := fun o : Obj => (ho.turned (alloc0m wr o) (fun _ _ h => h)).sl
        clear hd ho hT hb
        go_wp2_with (at_builtin; refine wpList_append_bytes (by rfl) (.tmp 13) (.tmp 14) (by rfl) Tryz.bytes (by rfl) (by rfl) (HT _) (HA _) (by simp; omega) ?_; intro v1 w1 ho1 ht1 hb1; have HO1 : Hid (Own w1 v1 ([48 + (n' : Int) % 10] ++ acc) ∧ Turned (fun _ => False) wr w1 ∧ ∀ q, blk v1 q → wr.heap.size ≤ q) := ⟨ho1, (alloc0m wr _).trans ht1 (fun _ hk => .inr (Nat.le_of_eq hk)), fun q hq => (hb1 q hq).elim (fun h => Nat.le_of_eq h) (fun h => by simp at h; omega)⟩; clear ho1 ht1 hb1)
        go_roundw
        case rel =>
          obtain ⟨h1, h2, h3⟩ := HO.out
          obtain ⟨o1, o2, o3⟩ := HO1.out
          exact ⟨n' / 10, k', (48 + (n' : Int) % 10) :: acc, by simp, by omega, hlt, by simp; omega, HD.out, o1, h2.trans o2 (fun _ h => h.elim), fun q hq => Nat.le_trans h2.size (o3 q hq)⟩
        case measure => simp [intOf]; omega
theorem Hid.mk7 {p : Prop} (h : p) : Hid p := h
/-- A byte behind what is there. -/
theorem appended {w wr w1 : World} {o : Obj} {v v1 : Value} {zs : List Int} (hT : Turned (fun _ => False) w wr) (hb : ∀ q, blk v q → w.heap.size ≤ q) (ho1 : Own w1 v1 zs) (ht1 : Turned (blk v) (wr.alloc o) w1) (hb1 : ∀ k, blk v1 k → blk v k ∨ k = (wr.alloc o).heap.size) :
    Own w1 v1 zs ∧ Turned (fun _ => False) w w1 ∧ ∀ q, blk v1 q → w.heap.size ≤ q :=
  ⟨ho1, (hT.trans (alloc0m wr o) (fun _ h => h.elim)).trans ht1 (fun k hk => .inr (hb k hk)), fun k hk => (hb1 k hk).elim (hb k) (fun h => by have := hT.size; simp at h; omega)⟩
set_option maxRecDepth 100000 in
set_option maxHeartbeats 1600000 in
theorem ref_digest_no (s : ByteArray) (hs : s.size ≤ 4611686018427387904) (n : Nat) (w : World) {x : Int × Int} (hc : cookieErr s = some x) : Calls Tryz.prog 26 #[.string s, .int .u32 n] w fun e w' => ∃ v, e = .returned (.tuple #[.slice none 0 0, v]) ∧ LinksM w.heap.size w' v (some x) ∧ Below w.heap.size w w' := by
  have hck := ref_cookie s hs w
  rw [hc] at hck
  go_enter Tryz.func26, Tryz.ntmps26
  go_wp2_with fail
  refine hck.mono ?_
  rintro e w1 ⟨v, rfl, hf, hb⟩
  have HF : Hid (LinksM w.heap.size w1 v (some x)) := hf
  obtain ⟨lb, _, rfl, _⟩ := hf
  go_wp2
  go_ret2
  exact ⟨_, rfl, HF.out, hb⟩

set_option maxRecDepth 100000 in
set_option maxHeartbeats 3200000 in
theorem ref_digest_ok (s : ByteArray) (hs : s.size ≤ 255) (n : Nat) (hn : n < 4294967296) (w : World) (hc : cookieErr s = none) : Calls Tryz.prog 26 #[.string s, .int .u32 n] w fun e w' => ∃ V, e = .returned (.tuple #[V, .slice none 0 0]) ∧ Own w' V (digestOf s n) ∧ Turned (fun _ => False) w w' ∧ ∀ k, blk V k → w.heap.size ≤ k := by
  have hck := ref_cookie s (by omega) w
  rw [hc] at hck
  go_enter Tryz.func26, Tryz.ntmps26
  go_wp2_with fail
  refine hck.mono ?_
  rintro e w1 ⟨v, rfl, hf, hb⟩
  have hf' : v = .slice none 0 0 := hf
  subst hf'
  clear hf hck
  obtain ⟨c2, w2, hcv, ho2, T2⟩ := conv_bytes w1 s (by unfold maxLen; omega)
  have HO2 : Hid (Own w2 (.slice (some ⟨w1.heap.size, 0, none⟩) s.size c2) (nums s) ∧ Turned (fun _ => False) w w2 ∧ w.heap.size ≤ w1.heap.size) := ⟨ho2, (Turned.ofBelow (S := fun _ => False) hb).trans T2 (fun _ h => h.elim), hb.size⟩
  clear ho2 T2 hb
  go_wp2_with fail
  refine (ref_digits n hn w2).mono ?_
  rintro e w3 ⟨D, rfl, hoD, hlD, T3, hbD⟩
  obtain ⟨h2, hT2, hz⟩ := HO2.out
  have h3 : Own w3 (.slice (some ⟨w1.heap.size, 0, none⟩) s.size c2) (nums s) := h2.turned T3 (fun _ _ h => h)
  have HT3 : Hid (Turned (fun _ => False) w w3 ∧ w.heap.size ≤ w1.heap.size) := ⟨hT2.trans T3 (fun _ h => h.elim), hz⟩
  have hDs := hoD.sl
  obtain ⟨aD, cD, LD, rfl⟩ : ∃ a c L, D = .slice a L c := ⟨_, _, _, hDs.form.choose_spec.choose_spec.1⟩
  have hnl := nums_length s
  clear h2 hT2 hz HO2 T3 hbD hoD
  obtain ⟨ts, hts⟩ : ∃ ts, ts = nums s ++ digitsOf n := ⟨_, rfl⟩
  have HD : Hid (digestOf s n = bytes8 (stirN 4 (mixBytes (14695981039346656037, 88172645463325252) ts)).1 ++ bytes8 (stirN 4 (mixBytes (14695981039346656037, 88172645463325252) ts)).2) := by rw [hts]; rfl
  have hl4 : ts.length ≤ 265 := by rw [hts, List.length_append, hnl]; omega
  have HTS : Hid (ts = nums s ++ digitsOf n) := hts
  have HDL : Hid ((nums s).length = s.size ∧ (digitsOf n).length ≤ 10) := ⟨hnl, hlD⟩
  have HR : Hid (∀ z ∈ ts, 0 ≤ z ∧ z < 256) := by
    rw [hts]
    intro z hz
    rcases List.mem_append.1 hz with hz | hz
    · exact nums_rng s z hz
    · exact digits_rng n z hz
  clear hts hcv hlD hnl
  go_wp2_with (at_builtin; refine wpList_append_bytes (by rfl) (.tmp 23) (.tmp 25) (by rfl) Tryz.bytes (by rfl) (by rfl) h3 hDs (by have := HDL.out; omega) ?_; intro v4 w4 ho4 ht4 hb4; have HT4 : Hid (Turned (fun _ => False) w w4) := HT3.out.1.trans ht4 (fun k (hk : w1.heap.size = k) => .inr (by have := HT3.out.2; omega)); rw [← HTS.out] at ho4; have hs4 := ho4.sl; obtain ⟨a4, c4, hv4, hc4, _⟩ := hs4.form; subst hv4; have HS4 : Hid (Sl w4 (.slice a4 ts.length c4) ts) := hs4; clear ht4 hb4 h3 hDs HT3 ho4 hs4)
  go_loopw [7, 8, 10] (fun aa bb ii wr => ∃ j : Nat, ii = .int .i64 j ∧ j ≤ ts.length ∧ aa = .int .u64 (mixBytes (14695981039346656037, 88172645463325252) (ts.take j)).1 ∧ bb = .int .u64 (mixBytes (14695981039346656037, 88172645463325252) (ts.take j)).2 ∧ w4 = wr) (fun _ _ ii _ => ts.length - (intOf ii).toNat)
  case atStart => exact ⟨0, rfl, Nat.zero_le _, rfl, rfl, rfl⟩
  case round =>
    obtain ⟨j, rfl, hj, rfl, rfl, rfl⟩ := hrel
    by_cases hlt : j < ts.length
    · have hlti : (j : Int) < (ts.length : Int) := by omega
      have hj0 : (0 : Int) ≤ (j : Int) := by omega
      rcases HS4.out with ⟨_, hn0⟩ | ⟨_, _, hn0⟩ | ⟨g4, o4, c4', hv, _, _, h4⟩
      · subst hn0; simp at hlt
      · subst hn0; simp at hlt
      · cases hv
        have c0 := h4 j hlt
        have htk : ts.take (j + 1) = ts.take j ++ [ts[j]] := by rw [List.take_add_one, List.getElem?_eq_getElem hlt]; rfl
        have hnx := mixBytes_snoc (14695981039346656037, 88172645463325252) (ts.take j) ts[j]
        rw [← htk] at hnx
        obtain ⟨ua, ub⟩ := mixBytes_u64 (ts.take j) (14695981039346656037, 88172645463325252) ⟨by decide, by decide⟩ ⟨by decide, by decide⟩
        generalize mixBytes (14695981039346656037, 88172645463325252) (ts.take j) = p at hnx ua ub ⊢
        have hz := HR.out ts[j] (List.getElem_mem hlt)
        generalize ts[j] = z at c0 hnx hz
        clear h4
        go_wp2_with fail
        refine ⟨⟨j + 1, by simp, by omega, ?_, ?_, trivial⟩, by simp [intOf]; omega⟩
        · rw [hnx]
          simp only [IntKind.wrap_u64]
          rfl
        · rw [hnx]
          simp only [IntKind.wrap_u64]
          rfl
    · have hge : ¬ (j : Int) < (ts.length : Int) := by omega
      obtain rfl : j = ts.length := by omega
      rw [List.take_length]
      obtain ⟨ua, ub⟩ := mixBytes_u64 ts (14695981039346656037, 88172645463325252) ⟨by decide, by decide⟩ ⟨by decide, by decide⟩
      generalize mixBytes (14695981039346656037, 88172645463325252) ts = p at HD ua ub ⊢
      go_wp2_with fail
      go_loopw [7, 8, 12] (fun aa bb ii wr => ∃ j : Nat, ii = .int .i64 j ∧ j ≤ 4 ∧ aa = .int .u64 (stirN j p).1 ∧ bb = .int .u64 (stirN j p).2 ∧ U64 (stirN j p).1 ∧ U64 (stirN j p).2 ∧ w4 = wr) (fun _ _ ii _ => 4 - (intOf ii).toNat)
      case atStart => exact ⟨0, rfl, by omega, rfl, rfl, ua, ub, rfl⟩
      case round =>
        obtain ⟨j, rfl, hj, rfl, rfl, ua, ub, rfl⟩ := hrel
        by_cases hlt : j < 4
        · have hlti : (j : Int) < 4 := by omega
          have hst : stirN (j + 1) p = stir (stirN j p) := rfl
          generalize stirN j p = q at hst ua ub ⊢
          go_wp2_with fail
          refine ⟨⟨j + 1, by simp, by omega, ?_, ?_, ?_, ?_, trivial⟩, by simp [intOf]; omega⟩
          · rw [hst]
            simp only [IntKind.wrap_u64]
            rfl
          · rw [hst]
            simp only [IntKind.wrap_u64]
            rfl
          · rw [hst]; exact U64.mod _
          · rw [hst]; exact U64.mod _
        · have hge : ¬ (j : Int) < 4 := by omega
          obtain rfl : j = 4 := by omega
          generalize stirN 4 p = q at HD ua ub ⊢
          go_wp2_with fail
          go_loopw [13, 14] (fun oo ii wr => ∃ j : Nat, ii = .int .i64 (7 - (j : Int)) ∧ j ≤ 8 ∧ Own wr oo ((bytes8 q.1).take j) ∧ Turned (fun _ => False) w wr ∧ ∀ q, blk oo q → w.heap.size ≤ q) (fun _ ii _ => (intOf ii + 1).toNat)
          case atStart => exact ⟨0, rfl, by omega, .inl ⟨rfl, rfl⟩, HT4.out, fun _ h => h.elim⟩
          case round =>
            obtain ⟨j, rfl, hj, ho, hT, hb⟩ := hrel
            obtain ⟨ao, co, Lo, rfl⟩ : ∃ a c L, u13 = .slice a L c := ⟨_, _, _, ho.sl.form.choose_spec.choose_spec.1⟩
            by_cases h8 : j = 8
            · subst h8
              have HO3 : Hid (Own wr (.slice ao Lo co) (bytes8 q.1) ∧ Turned (fun _ => False) w wr ∧ ∀ q, blk (.slice ao Lo co) q → w.heap.size ≤ q) := ⟨ho, hT, hb⟩
              clear ho hT hb
              rw [show (7 - ((8 : Nat) : Int)) = -1 from rfl]
              go_wp2_with fail
              go_loopw [13, 15] (fun oo ii wr => ∃ j : Nat, ii = .int .i64 (7 - (j : Int)) ∧ j ≤ 8 ∧ Own wr oo (bytes8 q.1 ++ (bytes8 q.2).take j) ∧ Turned (fun _ => False) w wr ∧ ∀ q, blk oo q → w.heap.size ≤ q) (fun _ ii _ => (intOf ii + 1).toNat)
              case atStart => exact ⟨0, rfl, by omega, by simpa using HO3.out.1, HO3.out.2.1, HO3.out.2.2⟩
              case round =>
                obtain ⟨j, rfl, hj, ho, hT, hb⟩ := hrel
                obtain ⟨ao, co, Lo, rfl⟩ : ∃ a c L, u13 = .slice a L c := ⟨_, _, _, ho.sl.form.choose_spec.choose_spec.1⟩
                by_cases h8 : j = 8
                · subst h8
                  have HO4 : Hid (Own wr (.slice ao Lo co) (bytes8 q.1 ++ bytes8 q.2) ∧ Turned (fun _ => False) w wr ∧ ∀ q, blk (.slice ao Lo co) q → w.heap.size ≤ q) := ⟨ho, hT, hb⟩
                  clear ho hT hb
                  go_wp2
                  go_ret2
                  obtain ⟨o1, o2, o3⟩ := HO4.out
                  exact ⟨_, rfl, by rw [HD.out]; exact o1, o2, o3⟩
                · have h7 : j = 0 ∨ j = 1 ∨ j = 2 ∨ j = 3 ∨ j = 4 ∨ j = 5 ∨ j = 6 ∨ j = 7 := by omega
                  have HO : Hid (Own wr (.slice ao Lo co) (bytes8 q.1 ++ (bytes8 q.2).take j) ∧ Turned (fun _ => False) w wr ∧ ∀ q, blk (.slice ao Lo co) q → w.heap.size ≤ q) := ⟨ho, hT, hb⟩
                  have HA := fun o : Obj => ho.turned (alloc0m wr o) (fun _ _ h => h)
                  have hlen : (bytes8 q.1 ++ (bytes8 q.2).take j).length + 1 ≤ 70368744177664 := by simp [bytes8]; omega
                  clear ho hT hb
                  rcases h7 with rfl | rfl | rfl | rfl | rfl | rfl | rfl | rfl
                  · go_wp2_with (at_builtin; refine wpList_append_bytes (by rfl) (.tmp 79) (.tmp 85) (by rfl) Tryz.bytes (by rfl) (by rfl) (HA _) (Sl.one wr _ _).sl hlen ?_; intro v1 w5 ho1 ht1 hb1; have HN := Hid.mk7 (appended HO.out.2.1 HO.out.2.2 ho1 ht1 hb1); clear ho1 ht1 hb1)
                    go_roundw
                    case rel => exact ⟨1, by simp, by omega, by rw [show bytes8 q.1 ++ (bytes8 q.2).take 1 = (bytes8 q.1 ++ (bytes8 q.2).take 0) ++ [_] from by rw [List.append_assoc]; rfl]; exact HN.out.1, HN.out.2.1, HN.out.2.2⟩
                    case measure => simp [intOf]
                  · go_wp2_with (at_builtin; refine wpList_append_bytes (by rfl) (.tmp 79) (.tmp 85) (by rfl) Tryz.bytes (by rfl) (by rfl) (HA _) (Sl.one wr _ _).sl hlen ?_; intro v1 w5 ho1 ht1 hb1; have HN := Hid.mk7 (appended HO.out.2.1 HO.out.2.2 ho1 ht1 hb1); clear ho1 ht1 hb1)
                    go_roundw
                    case rel => exact ⟨2, by simp, by omega, by rw [show bytes8 q.1 ++ (bytes8 q.2).take 2 = (bytes8 q.1 ++ (bytes8 q.2).take 1) ++ [_] from by rw [List.append_assoc]; rfl]; exact HN.out.1, HN.out.2.1, HN.out.2.2⟩
                    case measure => simp [intOf]
                  · go_wp2_with (at_builtin; refine wpList_append_bytes (by rfl) (.tmp 79) (.tmp 85) (by rfl) Tryz.bytes (by rfl) (by rfl) (HA _) (Sl.one wr _ _).sl hlen ?_; intro v1 w5 ho1 ht1 hb1; have HN := Hid.mk7 (appended HO.out.2.1 HO.out.2.2 ho1 ht1 hb1); clear ho1 ht1 hb1)
                    go_roundw
                    case rel => exact ⟨3, by simp, by omega, by rw [show bytes8 q.1 ++ (bytes8 q.2).take 3 = (bytes8 q.1 ++ (bytes8 q.2).take 2) ++ [_] from by rw [List.append_assoc]; rfl]; exact HN.out.1, HN.out.2.1, HN.out.2.2⟩
                    case measure => simp [intOf]
                  · go_wp2_with (at_builtin; refine wpList_append_bytes (by rfl) (.tmp 79) (.tmp 85) (by rfl) Tryz.bytes (by rfl) (by rfl) (HA _) (Sl.one wr _ _).sl hlen ?_; intro v1 w5 ho1 ht1 hb1; have HN := Hid.mk7 (appended HO.out.2.1 HO.out.2.2 ho1 ht1 hb1); clear ho1 ht1 hb1)
                    go_roundw
                    case rel => exact ⟨4, by simp, by omega, by rw [show bytes8 q.1 ++ (bytes8 q.2).take 4 = (bytes8 q.1 ++ (bytes8 q.2).take 3) ++ [_] from by rw [List.append_assoc]; rfl]; exact HN.out.1, HN.out.2.1, HN.out.2.2⟩
                    case measure => simp [intOf]
                  · go_wp2_with (at_builtin; refine wpList_append_bytes (by rfl) (.tmp 79) (.tmp 85) (by rfl) Tryz.bytes (by rfl) (by rfl) (HA _) (Sl.one wr _ _).sl hlen ?_; intro v1 w5 ho1 ht1 hb1; have HN := Hid.mk7 (appended HO.out.2.1 HO.out.2.2 ho1 ht1 hb1); clear ho1 ht1 hb1)
                    go_roundw
                    case rel => exact ⟨5, by simp, by omega, by rw [show bytes8 q.1 ++ (bytes8 q.2).take 5 = (bytes8 q.1 ++ (bytes8 q.2).take 4) ++ [_] from by rw [List.append_assoc]; rfl]; exact HN.out.1, HN.out.2.1, HN.out.2.2⟩
                    case measure => simp [intOf]
                  · go_wp2_with (at_builtin; refine wpList_append_bytes (by rfl) (.tmp 79) (.tmp 85) (by rfl) Tryz.bytes (by rfl) (by rfl) (HA _) (Sl.one wr _ _).sl hlen ?_; intro v1 w5 ho1 ht1 hb1; have HN := Hid.mk7 (appended HO.out.2.1 HO.out.2.2 ho1 ht1 hb1); clear ho1 ht1 hb1)
                    go_roundw
                    case rel => exact ⟨6, by simp, by omega, by rw [show bytes8 q.1 ++ (bytes8 q.2).take 6 = (bytes8 q.1 ++ (bytes8 q.2).take 5) ++ [_] from by rw [List.append_assoc]; rfl]; exact HN.out.1, HN.out.2.1, HN.out.2.2⟩
                    case measure => simp [intOf]
                  · go_wp2_with (at_builtin; refine wpList_append_bytes (by rfl) (.tmp 79) (.tmp 85) (by rfl) Tryz.bytes (by rfl) (by rfl) (HA _) (Sl.one wr _ _).sl hlen ?_; intro v1 w5 ho1 ht1 hb1; have HN := Hid.mk7 (appended HO.out.2.1 HO.out.2.2 ho1 ht1 hb1); clear ho1 ht1 hb1)
                    go_roundw
                    case rel => exact ⟨7, by simp, by omega, by rw [show bytes8 q.1 ++ (bytes8 q.2).take 7 = (bytes8 q.1 ++ (bytes8 q.2).take 6) ++ [_] from by rw [List.append_assoc]; rfl]; exact HN.out.1, HN.out.2.1, HN.out.2.2⟩
                    case measure => simp [intOf]
                  · go_wp2_with (at_builtin; refine wpList_append_bytes (by rfl) (.tmp 79) (.tmp 85) (by rfl) Tryz.bytes (by rfl) (by rfl) (HA _) (Sl.one wr _ _).sl hlen ?_; intro v1 w5 ho1 ht1 hb1; have HN := Hid.mk7 (appended HO.out.2.1 HO.out.2.2 ho1 ht1 hb1); clear ho1 ht1 hb1)
                    go_roundw
                    case rel => exact ⟨8, by simp, by omega, by rw [show bytes8 q.1 ++ (bytes8 q.2).take 8 = (bytes8 q.1 ++ (bytes8 q.2).take 7) ++ [_] from by rw [List.append_assoc]; rfl]; exact HN.out.1, HN.out.2.1, HN.out.2.2⟩
                    case measure => simp [intOf]
            · have h7 : j = 0 ∨ j = 1 ∨ j = 2 ∨ j = 3 ∨ j = 4 ∨ j = 5 ∨ j = 6 ∨ j = 7 := by omega
              have HO : Hid (Own wr (.slice ao Lo co) ((bytes8 q.1).take j) ∧ Turned (fun _ => False) w wr ∧ ∀ q, blk (.slice ao Lo co) q → w.heap.size ≤ q) := ⟨ho, hT, hb⟩
              have HA := fun o : Obj => ho.turned (alloc0m wr o) (fun _ _ h => h)
              have hlen : ((bytes8 q.1).take j).length + 1 ≤ 70368744177664 := by simp [bytes8]; omega
              clear ho hT hb
              rcases h7 with rfl | rfl | rfl | rfl | rfl | rfl | rfl | rfl
              · go_wp2_with (at_builtin; refine wpList_append_bytes (by rfl) (.tmp 67) (.tmp 73) (by rfl) Tryz.bytes (by rfl) (by rfl) (HA _) (Sl.one wr _ _).sl hlen ?_; intro v1 w5 ho1 ht1 hb1; have HN := Hid.mk7 (appended HO.out.2.1 HO.out.2.2 ho1 ht1 hb1); clear ho1 ht1 hb1)
                go_roundw
                case rel => exact ⟨1, by simp, by omega, HN.out.1, HN.out.2.1, HN.out.2.2⟩
                case measure => simp [intOf]
              · go_wp2_with (at_builtin; refine wpList_append_bytes (by rfl) (.tmp 67) (.tmp 73) (by rfl) Tryz.bytes (by rfl) (by rfl) (HA _) (Sl.one wr _ _).sl hlen ?_; intro v1 w5 ho1 ht1 hb1; have HN := Hid.mk7 (appended HO.out.2.1 HO.out.2.2 ho1 ht1 hb1); clear ho1 ht1 hb1)
                go_roundw
                case rel => exact ⟨2, by simp, by omega, HN.out.1, HN.out.2.1, HN.out.2.2⟩
                case measure => simp [intOf]
              · go_wp2_with (at_builtin; refine wpList_append_bytes (by rfl) (.tmp 67) (.tmp 73) (by rfl) Tryz.bytes (by rfl) (by rfl) (HA _) (Sl.one wr _ _).sl hlen ?_; intro v1 w5 ho1 ht1 hb1; have HN := Hid.mk7 (appended HO.out.2.1 HO.out.2.2 ho1 ht1 hb1); clear ho1 ht1 hb1)
                go_roundw
                case rel => exact ⟨3, by simp, by omega, HN.out.1, HN.out.2.1, HN.out.2.2⟩
                case measure => simp [intOf]
              · go_wp2_with (at_builtin; refine wpList_append_bytes (by rfl) (.tmp 67) (.tmp 73) (by rfl) Tryz.bytes (by rfl) (by rfl) (HA _) (Sl.one wr _ _).sl hlen ?_; intro v1 w5 ho1 ht1 hb1; have HN := Hid.mk7 (appended HO.out.2.1 HO.out.2.2 ho1 ht1 hb1); clear ho1 ht1 hb1)
                go_roundw
                case rel => exact ⟨4, by simp, by omega, HN.out.1, HN.out.2.1, HN.out.2.2⟩
                case measure => simp [intOf]
              · go_wp2_with (at_builtin; refine wpList_append_bytes (by rfl) (.tmp 67) (.tmp 73) (by rfl) Tryz.bytes (by rfl) (by rfl) (HA _) (Sl.one wr _ _).sl hlen ?_; intro v1 w5 ho1 ht1 hb1; have HN := Hid.mk7 (appended HO.out.2.1 HO.out.2.2 ho1 ht1 hb1); clear ho1 ht1 hb1)
                go_roundw
                case rel => exact ⟨5, by simp, by omega, HN.out.1, HN.out.2.1, HN.out.2.2⟩
                case measure => simp [intOf]
              · go_wp2_with (at_builtin; refine wpList_append_bytes (by rfl) (.tmp 67) (.tmp 73) (by rfl) Tryz.bytes (by rfl) (by rfl) (HA _) (Sl.one wr _ _).sl hlen ?_; intro v1 w5 ho1 ht1 hb1; have HN := Hid.mk7 (appended HO.out.2.1 HO.out.2.2 ho1 ht1 hb1); clear ho1 ht1 hb1)
                go_roundw
                case rel => exact ⟨6, by simp, by omega, HN.out.1, HN.out.2.1, HN.out.2.2⟩
                case measure => simp [intOf]
              · go_wp2_with (at_builtin; refine wpList_append_bytes (by rfl) (.tmp 67) (.tmp 73) (by rfl) Tryz.bytes (by rfl) (by rfl) (HA _) (Sl.one wr _ _).sl hlen ?_; intro v1 w5 ho1 ht1 hb1; have HN := Hid.mk7 (appended HO.out.2.1 HO.out.2.2 ho1 ht1 hb1); clear ho1 ht1 hb1)
                go_roundw
                case rel => exact ⟨7, by simp, by omega, HN.out.1, HN.out.2.1, HN.out.2.2⟩
                case measure => simp [intOf]
              · go_wp2_with (at_builtin; refine wpList_append_bytes (by rfl) (.tmp 67) (.tmp 73) (by rfl) Tryz.bytes (by rfl) (by rfl) (HA _) (Sl.one wr _ _).sl hlen ?_; intro v1 w5 ho1 ht1 hb1; have HN := Hid.mk7 (appended HO.out.2.1 HO.out.2.2 ho1 ht1 hb1); clear ho1 ht1 hb1)
                go_roundw
                case rel => exact ⟨8, by simp, by omega, HN.out.1, HN.out.2.1, HN.out.2.2⟩
                case measure => simp [intOf]
end Go.Proofs.YtmnibmgbicnamaaGreatDoor
