/-
  Layer 8 (shake), of lists of bytes alone: what is written is read as itself, and what is read is written as itself.
-/
import Derived.Test.YtmnibmgbicnamaaGreatDoorSDef
import Derived.Test.YtmnibmgbicnamaaGreatDoorM2
namespace Go.Proofs.YtmnibmgbicnamaaGreatDoor
open Go.RowKit

theorem cons_of {b : List Int} {n : Nat} (h : n + 1 ≤ b.length) : ∃ x t, b = x :: t ∧ n ≤ t.length := by
  cases b with
  | nil => simp at h
  | cons x t => exact ⟨x, t, rfl, by simpa using h⟩
theorem strOf_nums (s : ByteArray) : strOfNums (nums s) = s := by
  apply ByteArray.ext
  apply Array.toList_inj.1
  rw [strOfNums_data, nums, List.map_map]
  conv => rhs; rw [← List.map_id s.data.toList]
  apply List.map_congr_left
  intro b _
  simp
theorem nums_strOf {zs : List Int} (h : ∀ z ∈ zs, 0 ≤ z ∧ z < 256) : nums (strOfNums zs) = zs := strOfNums_inj (nums_rng _) h (strOf_nums _)
theorem strOf_size (zs : List Int) : (strOfNums zs).size = zs.length := by
  have h := congrArg List.length (strOfNums_data zs)
  simpa using h
theorem empty_size {s : ByteArray} (h : s.size = 0) : s = ⟨#[]⟩ := by
  apply ByteArray.ext
  exact Array.eq_empty_of_size_eq_zero h
theorem be4_num (n : Int) (h : 0 ≤ n ∧ n < 4294967296) (r : List Int) : ((be4 n ++ r).take 4).foldl (fun v z => v * 256 + z) 0 = n := by
  simp only [be4, List.cons_append, List.take, List.foldl, List.nil_append]
  omega
theorem bytes8_num (n : Int) (h : U64 n) (r : List Int) : ((bytes8 n ++ r).take 8).foldl (fun v z => v * 256 + z) 0 = n := by
  obtain ⟨h0, h1⟩ := h
  simp only [bytes8, List.cons_append, List.take, List.foldl, List.nil_append]
  omega
theorem be2_num (n : Int) (h : 0 ≤ n ∧ n < 65536) (r : List Int) : ((be2 n ++ r).take 2).foldl (fun v z => v * 256 + z) 0 = n := by
  simp only [be2, List.cons_append, List.take, List.foldl, List.nil_append]
  omega
theorem nodeOk_size {s : ByteArray} (h : nodeOk s = true) : 3 ≤ s.size ∧ s.size ≤ 64 := by
  have key : ∀ (zs : List Int) (i : Nat) (a : Int) (g : Bool), (nodeScan zs i a g).2 = true → g = true := by
    intro zs
    induction zs with
    | nil => exact fun _ _ _ h => h
    | cons c r ih =>
      intro i a g h
      unfold nodeScan at h
      by_cases h64 : c = 64
      · rw [if_pos h64] at h
        have := ih _ _ _ h
        cases g
        · simp at this
        · rfl
      · rw [if_neg h64] at h
        have := ih _ _ _ h
        cases g
        · simp at this
        · rfl
  unfold nodeOk at h
  simp only [Bool.and_eq_true, decide_eq_true_eq] at h
  have := key _ _ _ _ h.1.1
  simpa using this

theorem bytes_k1 (m : Msg) (h : m.kind = 1) : bytesOfMsg m = 78 :: (bytes8 m.flags ++ (be4 m.creation ++ (be2 m.name.size ++ nums m.name))) := by
  unfold bytesOfMsg
  rw [if_neg (by omega), if_neg (by omega), if_neg (by omega), if_neg (by omega)]
  rfl
theorem bytes_k2 (m : Msg) (h : m.kind = 2) : bytesOfMsg m = 115 :: nums m.status := by
  unfold bytesOfMsg
  rw [if_pos h]
theorem bytes_k3 (m : Msg) (h : m.kind = 3) : bytesOfMsg m = 78 :: (bytes8 m.flags ++ (be4 m.challenge ++ (be4 m.creation ++ (be2 m.name.size ++ nums m.name)))) := by
  unfold bytesOfMsg
  rw [if_neg (by omega), if_neg (by omega), if_neg (by omega), if_pos h]
theorem bytes_k4 (m : Msg) (h : m.kind = 4) : bytesOfMsg m = 114 :: (be4 m.challenge ++ m.digest) := by
  unfold bytesOfMsg
  rw [if_neg (by omega), if_pos h]
theorem bytes_k5 (m : Msg) (h : m.kind = 5) : bytesOfMsg m = 97 :: m.digest := by
  unfold bytesOfMsg
  rw [if_neg (by omega), if_neg (by omega), if_pos h]

/-- What is written is read as itself. -/
theorem read_write (m : Msg) (hm : m.Ok) (hf : fits m) (hn : (m.kind = 1 ∨ m.kind = 3) → nodeOk m.name = true) : readOf m.kind (bytesOfMsg m) = ([], m) := by
  obtain ⟨k, fl, cr, ch, nm, st, dg⟩ := m
  obtain ⟨hfl, hcr, hch, hdg⟩ := hm
  obtain ⟨f1, f2, f3, f4⟩ := hf
  simp only at hfl hcr hch hdg f1 f2 f3 f4 hn ⊢
  have hk : k = 1 ∨ k = 2 ∨ k = 3 ∨ k = 4 ∨ k = 5 := by
    by_cases h45 : k = 4 ∨ k = 5
    · omega
    · rw [if_neg h45] at f4; omega
  rcases hk with rfl | rfl | rfl | rfl | rfl
  · have hz := nodeOk_size (hn (.inl rfl))
    rw [if_neg (by omega)] at f3
    rw [if_neg (by omega)] at f4
    obtain rfl := empty_size f3
    obtain rfl : dg = [] := List.eq_nil_of_length_eq_zero f4.1
    obtain rfl : ch = 0 := by omega
    have e : bytesOfMsg ⟨1, fl, cr, 0, nm, ⟨#[]⟩, []⟩ = 78 :: (bytes8 fl ++ (be4 cr ++ (be2 nm.size ++ nums nm))) := by simp [bytesOfMsg]
    have hl : (78 :: (bytes8 fl ++ (be4 cr ++ (be2 nm.size ++ nums nm)))).length = 15 + nm.size := by simp [bytes8, be4, be2, nums_length]; omega
    have n1 : numAt (78 :: (bytes8 fl ++ (be4 cr ++ (be2 nm.size ++ nums nm)))) 1 8 = fl := bytes8_num fl hfl _
    have n2 : numAt (78 :: (bytes8 fl ++ (be4 cr ++ (be2 nm.size ++ nums nm)))) 9 4 = cr := be4_num cr hcr _
    have n3 : numAt (78 :: (bytes8 fl ++ (be4 cr ++ (be2 nm.size ++ nums nm)))) 13 2 = nm.size := be2_num nm.size (by omega) _
    have dr : (78 :: (bytes8 fl ++ (be4 cr ++ (be2 nm.size ++ nums nm)))).drop 15 = nums nm := rfl
    have h0 : (78 :: (bytes8 fl ++ (be4 cr ++ (be2 nm.size ++ nums nm)))).getD 0 0 = 78 := rfl
    rw [e]
    generalize 78 :: (bytes8 fl ++ (be4 cr ++ (be2 nm.size ++ nums nm))) = b at hl n1 n2 n3 dr h0
    have he : endOf 1 b = 15 + nm.size := by simp [endOf, headLen, n3]
    unfold readOf
    rw [if_neg (by omega), if_neg (by rw [h0, hl]; simp [letterOf]), if_neg (by omega), if_neg (by rw [hl]; simp [headLen]), if_neg (by rw [he, hl]; omega), if_neg (by rw [he, hl]; omega), if_neg (by omega), if_neg (by omega)]
    simp only [headLen, if_true, dr, strOf_nums, hn (.inl rfl), n1, n2, Msg.zero]
    simp
  · rw [if_pos rfl] at f3
    rw [if_neg (by omega)] at f4
    obtain rfl : dg = [] := List.eq_nil_of_length_eq_zero f4.1
    obtain rfl : ch = 0 := by omega
    have h3 : fl = 0 ∧ cr = 0 ∧ nm.size = 0 := by omega
    obtain ⟨rfl, rfl, h3⟩ := h3
    obtain rfl := empty_size h3
    unfold readOf
    rw [if_neg (by omega), if_neg (by simp [bytesOfMsg, letterOf]), if_pos rfl]
    simp only [bytesOfMsg, if_true, List.drop_succ_cons, List.drop_zero, strOf_nums, f3]
    rfl
  · have hz := nodeOk_size (hn (.inr rfl))
    rw [if_neg (by omega)] at f3
    rw [if_neg (by omega)] at f4
    obtain rfl := empty_size f3
    obtain rfl : dg = [] := List.eq_nil_of_length_eq_zero f4.1
    have e : bytesOfMsg ⟨3, fl, cr, ch, nm, ⟨#[]⟩, []⟩ = 78 :: (bytes8 fl ++ (be4 ch ++ (be4 cr ++ (be2 nm.size ++ nums nm)))) := by simp [bytesOfMsg]
    have hl : (78 :: (bytes8 fl ++ (be4 ch ++ (be4 cr ++ (be2 nm.size ++ nums nm))))).length = 19 + nm.size := by simp [bytes8, be4, be2, nums_length]; omega
    have n1 : numAt (78 :: (bytes8 fl ++ (be4 ch ++ (be4 cr ++ (be2 nm.size ++ nums nm))))) 1 8 = fl := bytes8_num fl hfl _
    have n4 : numAt (78 :: (bytes8 fl ++ (be4 ch ++ (be4 cr ++ (be2 nm.size ++ nums nm))))) 9 4 = ch := be4_num ch hch _
    have n2 : numAt (78 :: (bytes8 fl ++ (be4 ch ++ (be4 cr ++ (be2 nm.size ++ nums nm))))) 13 4 = cr := be4_num cr hcr _
    have n3 : numAt (78 :: (bytes8 fl ++ (be4 ch ++ (be4 cr ++ (be2 nm.size ++ nums nm))))) 17 2 = nm.size := be2_num nm.size (by omega) _
    have dr : (78 :: (bytes8 fl ++ (be4 ch ++ (be4 cr ++ (be2 nm.size ++ nums nm))))).drop 19 = nums nm := rfl
    have h0 : (78 :: (bytes8 fl ++ (be4 ch ++ (be4 cr ++ (be2 nm.size ++ nums nm))))).getD 0 0 = 78 := rfl
    rw [e]
    generalize 78 :: (bytes8 fl ++ (be4 ch ++ (be4 cr ++ (be2 nm.size ++ nums nm)))) = b at hl n1 n2 n3 n4 dr h0
    have he : endOf 3 b = 19 + nm.size := by simp [endOf, headLen, n3]
    unfold readOf
    rw [if_neg (by omega), if_neg (by rw [h0, hl]; simp [letterOf]), if_neg (by omega), if_neg (by rw [hl]; simp [headLen]), if_neg (by rw [he, hl]; omega), if_neg (by rw [he, hl]; omega), if_neg (by omega), if_neg (by omega)]
    have hh : headLen 3 = 19 := rfl
    simp only [hh, if_true, dr, strOf_nums, hn (.inr rfl), n1, n2, n4, Msg.zero]
    simp
  · rw [if_neg (by omega)] at f3
    rw [if_pos (by omega)] at f4
    obtain rfl := empty_size f3
    have h3 : fl = 0 ∧ cr = 0 ∧ nm.size = 0 := by omega
    obtain ⟨rfl, rfl, h3⟩ := h3
    obtain rfl := empty_size h3
    have e : bytesOfMsg ⟨4, 0, 0, ch, ⟨#[]⟩, ⟨#[]⟩, dg⟩ = 114 :: (be4 ch ++ dg) := by simp [bytesOfMsg]
    have hl : (114 :: (be4 ch ++ dg)).length = 21 := by simp [be4, f4]
    have n1 : numAt (114 :: (be4 ch ++ dg)) 1 4 = ch := be4_num ch hch _
    have dr : (114 :: (be4 ch ++ dg)).drop 5 = dg := rfl
    have h0 : (114 :: (be4 ch ++ dg)).getD 0 0 = 114 := rfl
    rw [e]
    generalize 114 :: (be4 ch ++ dg) = b at hl n1 dr h0
    have he : endOf 4 b = 21 := by simp [endOf, headLen]
    unfold readOf
    rw [if_neg (by omega), if_neg (by rw [h0, hl]; simp [letterOf]), if_neg (by omega), if_neg (by rw [hl]; simp [headLen]), if_neg (by rw [he, hl]; omega), if_neg (by rw [he, hl]; omega), if_pos rfl, dr, n1]
    rfl
  · rw [if_neg (by omega)] at f3
    rw [if_pos (by omega)] at f4
    obtain rfl := empty_size f3
    have h3 : fl = 0 ∧ cr = 0 ∧ nm.size = 0 := by omega
    obtain ⟨rfl, rfl, h3⟩ := h3
    obtain rfl := empty_size h3
    obtain rfl : ch = 0 := by omega
    have e : bytesOfMsg ⟨5, 0, 0, 0, ⟨#[]⟩, ⟨#[]⟩, dg⟩ = 97 :: dg := by simp [bytesOfMsg]
    have hl : (97 :: dg).length = 17 := by simp [f4]
    have he : endOf 5 (97 :: dg) = 17 := by simp [endOf, headLen]
    rw [e]
    unfold readOf
    rw [if_neg (by omega), if_neg (by rw [hl]; simp [letterOf]), if_neg (by omega), if_neg (by rw [hl]; simp [headLen]), if_neg (by rw [he, hl]; omega), if_neg (by rw [he, hl]; omega), if_neg (by omega), if_pos rfl]
    rfl

/-- What is read is written as just these bytes. -/
theorem write_read (k : Int) (b : List Int) (hr : ∀ z ∈ b, 0 ≤ z ∧ z < 256) (h : (readOf k b).1 = []) : fits (readOf k b).2 ∧ (((readOf k b).2.kind = 1 ∨ (readOf k b).2.kind = 3) → nodeOk (readOf k b).2.name = true) ∧ bytesOfMsg (readOf k b).2 = b ∧ (readOf k b).2.Ok ∧ (readOf k b).2.kind = k := by
  by_cases hk0 : k < 1 ∨ 5 < k
  · unfold readOf at h; rw [if_pos hk0] at h; cases h
  by_cases hl0 : b.length = 0 ∨ b.getD 0 0 ≠ letterOf k
  · unfold readOf at h; rw [if_neg hk0, if_pos hl0] at h; cases h
  have hk : k = 1 ∨ k = 2 ∨ k = 3 ∨ k = 4 ∨ k = 5 := by omega
  rcases hk with rfl | rfl | rfl | rfl | rfl
  · by_cases h1 : b.length < headLen 1
    · unfold readOf at h; rw [if_neg hk0, if_neg hl0, if_neg (by omega), if_pos h1] at h; cases h
    by_cases h2 : b.length < endOf 1 b
    · unfold readOf at h; rw [if_neg hk0, if_neg hl0, if_neg (by omega), if_neg h1, if_pos h2] at h; cases h
    by_cases h3 : endOf 1 b < b.length
    · unfold readOf at h; rw [if_neg hk0, if_neg hl0, if_neg (by omega), if_neg h1, if_neg h2, if_pos h3] at h; cases h
    by_cases h4 : nodeOk (strOfNums (b.drop (headLen 1))) = false
    · unfold readOf at h; rw [if_neg hk0, if_neg hl0, if_neg (by omega), if_neg h1, if_neg h2, if_neg h3, if_neg (by omega), if_neg (by omega), if_pos h4] at h; cases h
    have e : readOf 1 b = ([], { Msg.zero with kind := 1, flags := numAt b 1 8, creation := numAt b 9 4, challenge := 0, name := strOfNums (b.drop 15) }) := by
      unfold readOf; rw [if_neg hk0, if_neg hl0, if_neg (by omega), if_neg h1, if_neg h2, if_neg h3, if_neg (by omega), if_neg (by omega), if_neg h4]
      rfl
    rw [e]
    clear e h
    have hh : headLen 1 = 15 := rfl
    have hend : endOf 1 b = 15 + (numAt b 13 2).toNat := rfl
    rw [hend] at h2 h3
    rw [hh] at h1 h4
    have hb0 : b.getD 0 0 = 78 := by simpa [letterOf] using fun h => hl0 (.inr h)
    obtain ⟨b0, t0, rfl, q0⟩ := cons_of (n := 14) (b := b) (by omega)
    obtain ⟨b1, t1, rfl, q1⟩ := cons_of (n := 13) (b := t0) (by omega)
    obtain ⟨b2, t2, rfl, q2⟩ := cons_of (n := 12) (b := t1) (by omega)
    obtain ⟨b3, t3, rfl, q3⟩ := cons_of (n := 11) (b := t2) (by omega)
    obtain ⟨b4, t4, rfl, q4⟩ := cons_of (n := 10) (b := t3) (by omega)
    obtain ⟨b5, t5, rfl, q5⟩ := cons_of (n := 9) (b := t4) (by omega)
    obtain ⟨b6, t6, rfl, q6⟩ := cons_of (n := 8) (b := t5) (by omega)
    obtain ⟨b7, t7, rfl, q7⟩ := cons_of (n := 7) (b := t6) (by omega)
    obtain ⟨b8, t8, rfl, q8⟩ := cons_of (n := 6) (b := t7) (by omega)
    obtain ⟨b9, t9, rfl, q9⟩ := cons_of (n := 5) (b := t8) (by omega)
    obtain ⟨b10, t10, rfl, q10⟩ := cons_of (n := 4) (b := t9) (by omega)
    obtain ⟨b11, t11, rfl, q11⟩ := cons_of (n := 3) (b := t10) (by omega)
    obtain ⟨b12, t12, rfl, q12⟩ := cons_of (n := 2) (b := t11) (by omega)
    obtain ⟨b13, t13, rfl, q13⟩ := cons_of (n := 1) (b := t12) (by omega)
    obtain ⟨b14, t14, rfl, q14⟩ := cons_of (n := 0) (b := t13) (by omega)
    have r0 := hr b0 (by simp)
    have r1 := hr b1 (by simp)
    have r2 := hr b2 (by simp)
    have r3 := hr b3 (by simp)
    have r4 := hr b4 (by simp)
    have r5 := hr b5 (by simp)
    have r6 := hr b6 (by simp)
    have r7 := hr b7 (by simp)
    have r8 := hr b8 (by simp)
    have r9 := hr b9 (by simp)
    have r10 := hr b10 (by simp)
    have r11 := hr b11 (by simp)
    have r12 := hr b12 (by simp)
    have r13 := hr b13 (by simp)
    have r14 := hr b14 (by simp)
    have hdr : (b0 :: b1 :: b2 :: b3 :: b4 :: b5 :: b6 :: b7 :: b8 :: b9 :: b10 :: b11 :: b12 :: b13 :: b14 :: t14).drop 15 = t14 := rfl
    have hv2 : numAt (b0 :: b1 :: b2 :: b3 :: b4 :: b5 :: b6 :: b7 :: b8 :: b9 :: b10 :: b11 :: b12 :: b13 :: b14 :: t14) 13 2 = b13 * 256 + b14 := by simp only [numAt, List.drop, List.take, List.foldl]; omega
    have hv8 : numAt (b0 :: b1 :: b2 :: b3 :: b4 :: b5 :: b6 :: b7 :: b8 :: b9 :: b10 :: b11 :: b12 :: b13 :: b14 :: t14) 1 8 = ((((((b1 * 256 + b2) * 256 + b3) * 256 + b4) * 256 + b5) * 256 + b6) * 256 + b7) * 256 + b8 := by simp only [numAt, List.drop, List.take, List.foldl]; omega
    have hvc : numAt (b0 :: b1 :: b2 :: b3 :: b4 :: b5 :: b6 :: b7 :: b8 :: b9 :: b10 :: b11 :: b12 :: b13 :: b14 :: t14) 9 4 = ((b9 * 256 + b10) * 256 + b11) * 256 + b12 := by simp only [numAt, List.drop, List.take, List.foldl]; omega
    have hlen : (b0 :: b1 :: b2 :: b3 :: b4 :: b5 :: b6 :: b7 :: b8 :: b9 :: b10 :: b11 :: b12 :: b13 :: b14 :: t14).length = 15 + t14.length := by simp; omega
    have hb0 : b0 = 78 := hb0
    rw [hv2, hlen] at h2 h3
    rw [hdr] at h4 ⊢
    rw [hv8, hvc]
    have hrt : ∀ z ∈ t14, 0 ≤ z ∧ z < 256 := fun z hz => hr z (by simp [hz])
    have hsz := strOf_size t14
    have hnn := nums_strOf hrt
    have hok : nodeOk (strOfNums t14) = true := by simpa using h4
    have hlt : t14.length = (b13 * 256 + b14).toNat := by omega
    clear hv2 hv8 hvc hdr hlen h1 h2 h3 h4 hend hl0 hr
    refine ⟨⟨.inl rfl, .inr (.inr rfl), by simp [Msg.zero]; rfl, by simp [Msg.zero]⟩, fun _ => hok, ?_, ⟨⟨by simp only []; omega, by simp only []; omega⟩, ⟨by simp only []; omega, by simp only []; omega⟩, ⟨by simp only []; omega, by simp only []; omega⟩, fun z hz => by cases hz⟩, rfl⟩
    rw [bytes_k1 _ rfl]
    simp only [bytes8, be4, be2, hnn, hsz, hlt, List.cons_append, List.nil_append, List.cons.injEq, and_true]
    omega
  · by_cases h1 : isSt (strOfNums (b.drop 1)) = true
    · have e : readOf 2 b = ([], { Msg.zero with kind := 2, status := strOfNums (b.drop 1) }) := by unfold readOf; rw [if_neg hk0, if_neg hl0, if_pos rfl, if_pos h1]
      rw [e]
      obtain ⟨b0, t0, rfl, _⟩ := cons_of (n := 0) (b := b) (by omega)
      have hb0 : b0 = 115 := by simpa [letterOf] using fun h => hl0 (.inr h)
      have hrt : ∀ z ∈ t0, 0 ≤ z ∧ z < 256 := fun z hz => hr z (by simp [hz])
      refine ⟨⟨.inr (.inr ⟨rfl, rfl, rfl⟩), .inr (.inr rfl), h1, by simp [Msg.zero]⟩, fun h => by simp at h, ?_, ⟨⟨by simp [Msg.zero], by simp [Msg.zero]⟩, ⟨by simp [Msg.zero], by simp [Msg.zero]⟩, ⟨by simp [Msg.zero], by simp [Msg.zero]⟩, fun z hz => by cases hz⟩, rfl⟩
      simp only [bytesOfMsg, if_true, List.drop_succ_cons, List.drop_zero, nums_strOf hrt, hb0]
    · unfold readOf at h; rw [if_neg hk0, if_neg hl0, if_pos rfl, if_neg h1] at h; cases h
  · by_cases h1 : b.length < headLen 3
    · unfold readOf at h; rw [if_neg hk0, if_neg hl0, if_neg (by omega), if_pos h1] at h; cases h
    by_cases h2 : b.length < endOf 3 b
    · unfold readOf at h; rw [if_neg hk0, if_neg hl0, if_neg (by omega), if_neg h1, if_pos h2] at h; cases h
    by_cases h3 : endOf 3 b < b.length
    · unfold readOf at h; rw [if_neg hk0, if_neg hl0, if_neg (by omega), if_neg h1, if_neg h2, if_pos h3] at h; cases h
    by_cases h4 : nodeOk (strOfNums (b.drop (headLen 3))) = false
    · unfold readOf at h; rw [if_neg hk0, if_neg hl0, if_neg (by omega), if_neg h1, if_neg h2, if_neg h3, if_neg (by omega), if_neg (by omega), if_pos h4] at h; cases h
    have e : readOf 3 b = ([], { Msg.zero with kind := 3, flags := numAt b 1 8, creation := numAt b 13 4, challenge := numAt b 9 4, name := strOfNums (b.drop 19) }) := by
      unfold readOf; rw [if_neg hk0, if_neg hl0, if_neg (by omega), if_neg h1, if_neg h2, if_neg h3, if_neg (by omega), if_neg (by omega), if_neg h4]
      rfl
    rw [e]
    clear e h
    have hh : headLen 3 = 19 := rfl
    have hend : endOf 3 b = 19 + (numAt b 17 2).toNat := rfl
    rw [hend] at h2 h3
    rw [hh] at h1 h4
    have hb0 : b.getD 0 0 = 78 := by simpa [letterOf] using fun h => hl0 (.inr h)
    obtain ⟨b0, t0, rfl, q0⟩ := cons_of (n := 18) (b := b) (by omega)
    obtain ⟨b1, t1, rfl, q1⟩ := cons_of (n := 17) (b := t0) (by omega)
    obtain ⟨b2, t2, rfl, q2⟩ := cons_of (n := 16) (b := t1) (by omega)
    obtain ⟨b3, t3, rfl, q3⟩ := cons_of (n := 15) (b := t2) (by omega)
    obtain ⟨b4, t4, rfl, q4⟩ := cons_of (n := 14) (b := t3) (by omega)
    obtain ⟨b5, t5, rfl, q5⟩ := cons_of (n := 13) (b := t4) (by omega)
    obtain ⟨b6, t6, rfl, q6⟩ := cons_of (n := 12) (b := t5) (by omega)
    obtain ⟨b7, t7, rfl, q7⟩ := cons_of (n := 11) (b := t6) (by omega)
    obtain ⟨b8, t8, rfl, q8⟩ := cons_of (n := 10) (b := t7) (by omega)
    obtain ⟨b9, t9, rfl, q9⟩ := cons_of (n := 9) (b := t8) (by omega)
    obtain ⟨b10, t10, rfl, q10⟩ := cons_of (n := 8) (b := t9) (by omega)
    obtain ⟨b11, t11, rfl, q11⟩ := cons_of (n := 7) (b := t10) (by omega)
    obtain ⟨b12, t12, rfl, q12⟩ := cons_of (n := 6) (b := t11) (by omega)
    obtain ⟨b13, t13, rfl, q13⟩ := cons_of (n := 5) (b := t12) (by omega)
    obtain ⟨b14, t14, rfl, q14⟩ := cons_of (n := 4) (b := t13) (by omega)
    obtain ⟨b15, t15, rfl, q15⟩ := cons_of (n := 3) (b := t14) (by omega)
    obtain ⟨b16, t16, rfl, q16⟩ := cons_of (n := 2) (b := t15) (by omega)
    obtain ⟨b17, t17, rfl, q17⟩ := cons_of (n := 1) (b := t16) (by omega)
    obtain ⟨b18, t18, rfl, q18⟩ := cons_of (n := 0) (b := t17) (by omega)
    have r0 := hr b0 (by simp)
    have r1 := hr b1 (by simp)
    have r2 := hr b2 (by simp)
    have r3 := hr b3 (by simp)
    have r4 := hr b4 (by simp)
    have r5 := hr b5 (by simp)
    have r6 := hr b6 (by simp)
    have r7 := hr b7 (by simp)
    have r8 := hr b8 (by simp)
    have r9 := hr b9 (by simp)
    have r10 := hr b10 (by simp)
    have r11 := hr b11 (by simp)
    have r12 := hr b12 (by simp)
    have r13 := hr b13 (by simp)
    have r14 := hr b14 (by simp)
    have r15 := hr b15 (by simp)
    have r16 := hr b16 (by simp)
    have r17 := hr b17 (by simp)
    have r18 := hr b18 (by simp)
    have hdr : (b0 :: b1 :: b2 :: b3 :: b4 :: b5 :: b6 :: b7 :: b8 :: b9 :: b10 :: b11 :: b12 :: b13 :: b14 :: b15 :: b16 :: b17 :: b18 :: t18).drop 19 = t18 := rfl
    have hv2 : numAt (b0 :: b1 :: b2 :: b3 :: b4 :: b5 :: b6 :: b7 :: b8 :: b9 :: b10 :: b11 :: b12 :: b13 :: b14 :: b15 :: b16 :: b17 :: b18 :: t18) 17 2 = b17 * 256 + b18 := by simp only [numAt, List.drop, List.take, List.foldl]; omega
    have hv8 : numAt (b0 :: b1 :: b2 :: b3 :: b4 :: b5 :: b6 :: b7 :: b8 :: b9 :: b10 :: b11 :: b12 :: b13 :: b14 :: b15 :: b16 :: b17 :: b18 :: t18) 1 8 = ((((((b1 * 256 + b2) * 256 + b3) * 256 + b4) * 256 + b5) * 256 + b6) * 256 + b7) * 256 + b8 := by simp only [numAt, List.drop, List.take, List.foldl]; omega
    have hvc : numAt (b0 :: b1 :: b2 :: b3 :: b4 :: b5 :: b6 :: b7 :: b8 :: b9 :: b10 :: b11 :: b12 :: b13 :: b14 :: b15 :: b16 :: b17 :: b18 :: t18) 13 4 = ((b13 * 256 + b14) * 256 + b15) * 256 + b16 := by simp only [numAt, List.drop, List.take, List.foldl]; omega
    have hvh : numAt (b0 :: b1 :: b2 :: b3 :: b4 :: b5 :: b6 :: b7 :: b8 :: b9 :: b10 :: b11 :: b12 :: b13 :: b14 :: b15 :: b16 :: b17 :: b18 :: t18) 9 4 = ((b9 * 256 + b10) * 256 + b11) * 256 + b12 := by simp only [numAt, List.drop, List.take, List.foldl]; omega
    have hlen : (b0 :: b1 :: b2 :: b3 :: b4 :: b5 :: b6 :: b7 :: b8 :: b9 :: b10 :: b11 :: b12 :: b13 :: b14 :: b15 :: b16 :: b17 :: b18 :: t18).length = 19 + t18.length := by simp; omega
    have hb0 : b0 = 78 := hb0
    rw [hv2, hlen] at h2 h3
    rw [hdr] at h4 ⊢
    rw [hv8, hvc, hvh]
    have hrt : ∀ z ∈ t18, 0 ≤ z ∧ z < 256 := fun z hz => hr z (by simp [hz])
    have hsz := strOf_size t18
    have hnn := nums_strOf hrt
    have hok : nodeOk (strOfNums t18) = true := by simpa using h4
    have hlt : t18.length = (b17 * 256 + b18).toNat := by omega
    clear hv2 hv8 hvc hvh hdr hlen h1 h2 h3 h4 hend hl0 hr
    refine ⟨⟨.inr (.inl rfl), .inl rfl, by simp [Msg.zero]; rfl, by simp [Msg.zero]⟩, fun _ => hok, ?_, ⟨⟨by simp only []; omega, by simp only []; omega⟩, ⟨by simp only []; omega, by simp only []; omega⟩, ⟨by simp only []; omega, by simp only []; omega⟩, fun z hz => by cases hz⟩, rfl⟩
    rw [bytes_k3 _ rfl]
    simp only [bytes8, be4, be2, hnn, hsz, hlt, List.cons_append, List.nil_append, List.cons.injEq, and_true]
    omega
  · by_cases h1 : b.length < headLen 4
    · unfold readOf at h; rw [if_neg hk0, if_neg hl0, if_neg (by omega), if_pos h1] at h; cases h
    by_cases h2 : b.length < endOf 4 b
    · unfold readOf at h; rw [if_neg hk0, if_neg hl0, if_neg (by omega), if_neg h1, if_pos h2] at h; cases h
    by_cases h3 : endOf 4 b < b.length
    · unfold readOf at h; rw [if_neg hk0, if_neg hl0, if_neg (by omega), if_neg h1, if_neg h2, if_pos h3] at h; cases h
    have e : readOf 4 b = ([], { Msg.zero with kind := 4, challenge := numAt b 1 4, digest := b.drop 5 }) := by unfold readOf; rw [if_neg hk0, if_neg hl0, if_neg (by omega), if_neg h1, if_neg h2, if_neg h3, if_pos rfl]
    rw [e]
    have hend : endOf 4 b = 21 := rfl
    rw [hend] at h2 h3
    have hb0 : b.getD 0 0 = 114 := by simpa [letterOf] using fun h => hl0 (.inr h)
    clear e h hl0
    obtain ⟨b0, t0, rfl, q0⟩ := cons_of (n := 4) (b := b) (by omega)
    obtain ⟨b1, t1, rfl, q1⟩ := cons_of (n := 3) (b := t0) (by omega)
    obtain ⟨b2, t2, rfl, q2⟩ := cons_of (n := 2) (b := t1) (by omega)
    obtain ⟨b3, t3, rfl, q3⟩ := cons_of (n := 1) (b := t2) (by omega)
    obtain ⟨b4, t4, rfl, q4⟩ := cons_of (n := 0) (b := t3) (by omega)
    have r0 := hr b0 (by simp)
    have r1 := hr b1 (by simp)
    have r2 := hr b2 (by simp)
    have r3 := hr b3 (by simp)
    have r4 := hr b4 (by simp)
    have hb0 : b0 = 114 := hb0
    have hdr : (b0 :: b1 :: b2 :: b3 :: b4 :: t4).drop 5 = t4 := rfl
    have hvh : numAt (b0 :: b1 :: b2 :: b3 :: b4 :: t4) 1 4 = ((b1 * 256 + b2) * 256 + b3) * 256 + b4 := by simp only [numAt, List.drop, List.take, List.foldl]; omega
    rw [hvh]
    rw [hdr]
    have hlen : t4.length = 16 := by simp at h2 h3; omega
    refine ⟨⟨.inr (.inr ⟨rfl, rfl, rfl⟩), .inr (.inl rfl), by simp [Msg.zero]; rfl, by simpa [Msg.zero] using hlen⟩, fun h => by simp at h, ?_, ⟨⟨by simp [Msg.zero], by simp [Msg.zero]⟩, ⟨by simp [Msg.zero], by simp [Msg.zero]⟩, ⟨by simp only []; omega, by simp only []; omega⟩, fun z hz => hr z (by simp at hz; simp [hz])⟩, rfl⟩
    rw [bytes_k4 _ rfl]
    simp only [be4, List.cons_append, List.nil_append, List.cons.injEq, and_true]
    omega
  · by_cases h1 : b.length < headLen 5
    · unfold readOf at h; rw [if_neg hk0, if_neg hl0, if_neg (by omega), if_pos h1] at h; cases h
    by_cases h2 : b.length < endOf 5 b
    · unfold readOf at h; rw [if_neg hk0, if_neg hl0, if_neg (by omega), if_neg h1, if_pos h2] at h; cases h
    by_cases h3 : endOf 5 b < b.length
    · unfold readOf at h; rw [if_neg hk0, if_neg hl0, if_neg (by omega), if_neg h1, if_neg h2, if_pos h3] at h; cases h
    have e : readOf 5 b = ([], { Msg.zero with kind := 5, digest := b.drop 1 }) := by unfold readOf; rw [if_neg hk0, if_neg hl0, if_neg (by omega), if_neg h1, if_neg h2, if_neg h3, if_neg (by omega), if_pos rfl]
    rw [e]
    have hend : endOf 5 b = 17 := rfl
    rw [hend] at h2 h3
    have hb0 : b.getD 0 0 = 97 := by simpa [letterOf] using fun h => hl0 (.inr h)
    clear e h hl0
    obtain ⟨b0, t0, rfl, q0⟩ := cons_of (n := 0) (b := b) (by omega)
    have r0 := hr b0 (by simp)
    have hb0 : b0 = 97 := hb0
    have hdr : (b0 :: t0).drop 1 = t0 := rfl
    rw [hdr]
    have hlen : t0.length = 16 := by simp at h2 h3; omega
    refine ⟨⟨.inr (.inr ⟨rfl, rfl, rfl⟩), .inr (.inr rfl), by simp [Msg.zero]; rfl, by simpa [Msg.zero] using hlen⟩, fun h => by simp at h, ?_, ⟨⟨by simp [Msg.zero], by simp [Msg.zero]⟩, ⟨by simp [Msg.zero], by simp [Msg.zero]⟩, ⟨by simp [Msg.zero], by simp [Msg.zero]⟩, fun z hz => hr z (by simp at hz; simp [hz])⟩, rfl⟩
    rw [bytes_k5 _ rfl, hb0]
end Go.Proofs.YtmnibmgbicnamaaGreatDoor
