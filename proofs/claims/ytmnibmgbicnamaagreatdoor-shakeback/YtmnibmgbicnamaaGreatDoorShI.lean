/-
  Layer 8 (shake), of lists alone: a message's fields read one after the other, as the program does it, are what is read.
-/
import Derived.Test.YtmnibmgbicnamaaGreatDoorShH
import Derived.Test.YtmnibmgbicnamaaGreatDoorS5
namespace Go.Proofs.YtmnibmgbicnamaaGreatDoor
open Go.RowKit

/-- How many bytes a field has with which bytes begin. -/
def widthOf (f : Int) (r : List Int) : Nat := if f = 0 then 8 else if f = 1 ∨ f = 2 then 4 else if f = 5 then 16 else if f = 3 then (if r.length < 2 then 2 else 2 + (numAt r 0 2).toNat) else r.length
/-- A field's bytes put into a message. -/
def setField (f : Int) (m : Msg) (b : List Int) : Msg :=
  if f = 0 then { m with flags := numAt b 0 b.length } else if f = 1 then { m with challenge := numAt b 0 b.length } else if f = 2 then { m with creation := numAt b 0 b.length }
  else if f = 3 then { m with name := strOfNums (b.drop 2) } else if f = 4 then { m with status := strOfNums b } else { m with digest := b }
/-- The message whose fields stand there, and where they end. -/
def readF (b : List Int) : List Int → Nat → Msg → Msg × Nat
  | [], e, m => (m, e)
  | f :: r, e, m => if b.length < e + widthOf f (b.drop e) then (m, e + widthOf f (b.drop e)) else readF b r (e + widthOf f (b.drop e)) (setField f m ((b.drop e).take (widthOf f (b.drop e))))
/-- What Read tells of it. -/
def readG (k : Int) (b : List Int) : List Lnk × Msg :=
  if b.length < (readF b (fieldsOf k) 1 .zero).2 then (sh b.length 160, .zero)
  else if (readF b (fieldsOf k) 1 .zero).2 < b.length then (sh (readF b (fieldsOf k) 1 .zero).2 160, .zero)
  else if k = 2 ∧ isSt (readF b (fieldsOf k) 1 .zero).1.status = false then (sh 1 160, .zero)
  else if (k = 1 ∨ k = 3) ∧ nodeOk (readF b (fieldsOf k) 1 .zero).1.name = false then (shName ((readF b (fieldsOf k) 1 .zero).2 - (readF b (fieldsOf k) 1 .zero).1.name.size : Int), .zero)
  else ([], { (readF b (fieldsOf k) 1 .zero).1 with kind := k })
theorem numAt_drop (b : List Int) (i n : Nat) : numAt (b.drop i) 0 n = numAt b i n := by simp [numAt]
theorem numAt_take (b : List Int) (n : Nat) : numAt (b.take n) 0 (b.take n).length = numAt b 0 n := by
  unfold numAt
  rw [List.drop_zero, List.drop_zero, List.take_of_length_le (Nat.le_refl _)]
theorem numAt_cut (b : List Int) (i n : Nat) : numAt ((b.drop i).take n) 0 ((b.drop i).take n).length = numAt b i n := by rw [numAt_take, numAt_drop]
theorem readF_go (b : List Int) (f : Int) (r : List Int) (e n : Nat) (m : Msg) (hw : widthOf f (b.drop e) = n) (h : e + n ≤ b.length) : readF b (f :: r) e m = readF b r (e + n) (setField f m ((b.drop e).take n)) := by
  rw [readF, hw, if_neg (by omega)]
theorem readF_stop (b : List Int) (f : Int) (r : List Int) (e n : Nat) (m : Msg) (hw : widthOf f (b.drop e) = n) (h : b.length < e + n) : readF b (f :: r) e m = (m, e + n) := by
  rw [readF, hw, if_pos h]
theorem w0 (r : List Int) : widthOf 0 r = 8 := rfl
theorem w1 (r : List Int) : widthOf 1 r = 4 := rfl
theorem w2 (r : List Int) : widthOf 2 r = 4 := rfl
theorem w5 (r : List Int) : widthOf 5 r = 16 := rfl
theorem w4 (r : List Int) : widthOf 4 r = r.length := rfl
theorem w3 (b : List Int) (e : Nat) : widthOf 3 (b.drop e) = if b.length < e + 2 then 2 else 2 + (numAt b e 2).toNat := by
  have : widthOf 3 (b.drop e) = if (b.drop e).length < 2 then 2 else 2 + (numAt (b.drop e) 0 2).toNat := rfl
  rw [this, numAt_drop, List.length_drop]
  by_cases h : b.length < e + 2
  · rw [if_pos h, if_pos (by omega)]
  · rw [if_neg h, if_neg (by omega)]
theorem readG_of {k : Int} {b : List Int} {m : Msg} {e : Nat} (hr : readF b (fieldsOf k) 1 .zero = (m, e)) : readG k b = if b.length < e then (sh b.length 160, .zero) else if e < b.length then (sh e 160, .zero) else if k = 2 ∧ isSt m.status = false then (sh 1 160, .zero) else if (k = 1 ∨ k = 3) ∧ nodeOk m.name = false then (shName (e - m.name.size : Int), .zero) else ([], { m with kind := k }) := by
  unfold readG
  rw [hr]
/-- What is read where the letter is right. -/
theorem readOf_of {k : Int} {b : List Int} (hk : 1 ≤ k ∧ k ≤ 5) (hb : 1 ≤ b.length) (h0 : b.getD 0 0 = letterOf k) (h2 : k ≠ 2) : readOf k b = if b.length < headLen k then (sh b.length 160, .zero)
    else if b.length < endOf k b then (sh b.length 160, .zero)
    else if endOf k b < b.length then (sh (endOf k b) 160, .zero)
    else if k = 4 then ([], { Msg.zero with kind := 4, challenge := numAt b 1 4, digest := b.drop 5 })
    else if k = 5 then ([], { Msg.zero with kind := 5, digest := b.drop 1 })
    else if nodeOk (strOfNums (b.drop (headLen k))) = false then (shName (headLen k), .zero)
    else ([], { Msg.zero with kind := k, flags := numAt b 1 8, creation := numAt b (headLen k - 6) 4, challenge := if k = 3 then numAt b 9 4 else 0, name := strOfNums (b.drop (headLen k)) }) := by
  have h1 : ¬ (b.length = 0 ∨ b.getD 0 0 ≠ letterOf k) := fun h => h.elim (fun h => by omega) (fun h => h h0)
  unfold readOf
  rw [if_neg (by omega), if_neg h1, if_neg h2]
theorem read_k2 (b : List Int) (hb : 1 ≤ b.length) (h0 : b.getD 0 0 = letterOf 2) : readG 2 b = readOf 2 b := by
  have hr : readF b (fieldsOf 2) 1 .zero = ({ Msg.zero with status := strOfNums (b.drop 1) }, b.length) := by
    rw [show fieldsOf 2 = [4] from rfl, readF_go b 4 [] 1 (b.length - 1) .zero (by rw [w4, List.length_drop]) (by omega), readF, List.take_of_length_le (by rw [List.length_drop]; exact Nat.le_refl _)]
    rw [show 1 + (b.length - 1) = b.length by omega]
    rfl
  have h1 : ¬ (b.length = 0 ∨ b.getD 0 0 ≠ letterOf 2) := fun h => h.elim (fun h => by omega) (fun h => h h0)
  have hR : readOf 2 b = if isSt (strOfNums (b.drop 1)) = true then ([], { Msg.zero with kind := 2, status := strOfNums (b.drop 1) }) else (sh 1 160, .zero) := by
    unfold readOf
    rw [if_neg (by omega), if_neg h1, if_pos rfl]
  rw [hR, readG_of hr, if_neg (Nat.lt_irrefl _), if_neg (Nat.lt_irrefl _)]
  simp only
  cases hs : isSt (strOfNums (b.drop 1)) with
  | true => simp
  | false => simp
theorem read_short {k : Int} {b : List Int} (hk : 1 ≤ k ∧ k ≤ 5) (h2 : k ≠ 2) (hb : 1 ≤ b.length) (h0 : b.getD 0 0 = letterOf k) (hh : b.length < headLen k) (hl : b.length < (readF b (fieldsOf k) 1 .zero).2) : readG k b = readOf k b := by
  rw [readOf_of hk hb h0 h2, if_pos hh]
  unfold readG
  rw [if_pos hl]
theorem read_k5 (b : List Int) (hb : 1 ≤ b.length) (h0 : b.getD 0 0 = letterOf 5) : readG 5 b = readOf 5 b := by
  by_cases h17 : b.length < 17
  · exact read_short (by omega) (by omega) hb h0 h17 (by rw [show fieldsOf 5 = [5] from rfl, readF_stop b 5 [] 1 16 .zero (w5 _) (by omega)]; exact h17)
  · have hr : readF b (fieldsOf 5) 1 .zero = ({ Msg.zero with digest := (b.drop 1).take 16 }, 17) := by
      rw [show fieldsOf 5 = [5] from rfl, readF_go b 5 [] 1 16 .zero (w5 _) (by omega), readF]
      rfl
    have hR : readOf 5 b = if 17 < b.length then (sh 17 160, .zero) else ([], { Msg.zero with kind := 5, digest := b.drop 1 }) := by
      rw [readOf_of (by omega) hb h0 (by omega), if_neg (show ¬ b.length < headLen 5 from h17), if_neg (show ¬ b.length < endOf 5 b from h17)]
      rfl
    rw [hR, readG_of hr, if_neg h17]
    by_cases hgt : 17 < b.length
    · rw [if_pos hgt, if_pos hgt]
      rfl
    · rw [if_neg hgt, if_neg hgt, if_neg (by simp), if_neg (by simp), List.take_of_length_le (by rw [List.length_drop]; omega)]
theorem read_k4 (b : List Int) (hb : 1 ≤ b.length) (h0 : b.getD 0 0 = letterOf 4) : readG 4 b = readOf 4 b := by
  have hf : fieldsOf 4 = [1, 5] := rfl
  by_cases h5 : b.length < 5
  · exact read_short (by omega) (by omega) hb h0 (show b.length < 21 by omega) (by rw [hf, readF_stop b 1 [5] 1 4 .zero (w1 _) (by omega)]; exact h5)
  · have e1 := readF_go b 1 [5] 1 4 .zero (w1 _) (by omega)
    by_cases h21 : b.length < 21
    · exact read_short (by omega) (by omega) hb h0 h21 (by rw [hf, e1, readF_stop b 5 [] (1 + 4) 16 _ (w5 _) (by omega)]; exact h21)
    · have hr : readF b (fieldsOf 4) 1 .zero = ({ Msg.zero with challenge := numAt b 1 4, digest := (b.drop 5).take 16 }, 21) := by
        rw [hf, e1, readF_go b 5 [] (1 + 4) 16 _ (w5 _) (by omega), readF]
        have : setField 1 .zero ((b.drop 1).take 4) = { Msg.zero with challenge := numAt ((b.drop 1).take 4) 0 ((b.drop 1).take 4).length } := rfl
        rw [this, numAt_cut]
        rfl
      have hR : readOf 4 b = if 21 < b.length then (sh 21 160, .zero) else ([], { Msg.zero with kind := 4, challenge := numAt b 1 4, digest := b.drop 5 }) := by
        rw [readOf_of (by omega) hb h0 (by omega), if_neg (show ¬ b.length < headLen 4 from h21), if_neg (show ¬ b.length < endOf 4 b from h21)]
        rfl
      rw [hR, readG_of hr, if_neg h21]
      by_cases hgt : 21 < b.length
      · rw [if_pos hgt, if_pos hgt]
        rfl
      · rw [if_neg hgt, if_neg hgt, if_neg (by simp), if_neg (by simp), List.take_of_length_le (by rw [List.length_drop]; omega)]
/-- The end of a message with a name. -/
theorem read_named (k : Int) (hk : k = 1 ∨ k = 3) (b : List Int) (hr : ∀ z ∈ b, 0 ≤ z ∧ z < 256) (hb : headLen k ≤ b.length) (h0 : b.getD 0 0 = letterOf k) (m : Msg) (hm : m = { Msg.zero with flags := numAt b 1 8, creation := numAt b (headLen k - 6) 4, challenge := if k = 3 then numAt b 9 4 else 0 }) (hF : readF b (fieldsOf k) 1 .zero = readF b [3] (headLen k - 2) m) : readG k b = readOf k b := by
  have hh : headLen k = 15 ∨ headLen k = 19 := by rcases hk with rfl | rfl <;> decide
  have hv := (numAt_rng b hr (headLen k - 2) 2 (by omega)).1
  obtain ⟨n, hn⟩ : ∃ n : Nat, numAt b (headLen k - 2) 2 = (n : Int) := ⟨_, (Int.toNat_of_nonneg hv).symm⟩
  have hw : widthOf 3 (b.drop (headLen k - 2)) = 2 + n := by
    rw [w3, if_neg (by omega), hn]
    simp
  have hend : endOf k b = headLen k + n := by
    unfold endOf
    rw [if_pos hk, hn]
    simp
  have hR := readOf_of (by omega) (by omega) h0 (show k ≠ 2 by omega)
  rw [if_neg (show ¬ b.length < headLen k by omega), hend] at hR
  rw [hR]
  clear hR
  by_cases hs : b.length < headLen k + n
  · rw [readG_of (hF.trans (readF_stop b 3 [] _ (2 + n) m hw (by omega))), if_pos (show b.length < headLen k - 2 + (2 + n) by omega), if_pos hs]
  · have hnm : ((b.drop (headLen k - 2)).take (2 + n)).drop 2 = (b.drop (headLen k)).take n := by
      rw [List.drop_take, List.drop_drop, show headLen k - 2 + 2 = headLen k by omega, show 2 + n - 2 = n by omega]
    have hset : setField 3 m ((b.drop (headLen k - 2)).take (2 + n)) = { m with name := strOfNums ((b.drop (headLen k)).take n) } := by
      rw [← hnm]
      rfl
    have hF2 : readF b (fieldsOf k) 1 .zero = ({ m with name := strOfNums ((b.drop (headLen k)).take n) }, headLen k + n) := by
      rw [hF, readF_go b 3 [] _ (2 + n) m hw (by omega), readF, hset, show headLen k - 2 + (2 + n) = headLen k + n by omega]
    rw [readG_of hF2, if_neg hs, if_neg hs]
    by_cases hg : headLen k + n < b.length
    · rw [if_pos hg, if_pos hg]
    · have ht : (b.drop (headLen k)).take n = b.drop (headLen k) := List.take_of_length_le (by rw [List.length_drop]; omega)
      have hsz : (strOfNums (b.drop (headLen k))).size = n := by rw [strOf_size, List.length_drop]; omega
      rw [if_neg hg, if_neg hg, if_neg (show ¬ (k = 2 ∧ _) from fun h => by omega), if_neg (show ¬ k = 4 by omega), if_neg (show ¬ k = 5 by omega), ht]
      simp only
      by_cases hok : nodeOk (strOfNums (b.drop (headLen k))) = false
      · rw [if_pos ⟨hk, hok⟩, if_pos hok, hsz]
        rw [show ((headLen k + n : Nat) : Int) - (n : Int) = (headLen k : Int) by omega]
      · rw [if_neg (fun h => hok h.2), if_neg hok, hm]
theorem read_k1 (b : List Int) (hr : ∀ z ∈ b, 0 ≤ z ∧ z < 256) (hb : 1 ≤ b.length) (h0 : b.getD 0 0 = letterOf 1) : readG 1 b = readOf 1 b := by
  have hf : fieldsOf 1 = [0, 2, 3] := rfl
  by_cases h9 : b.length < 9
  · exact read_short (by omega) (by omega) hb h0 (show b.length < 15 by omega) (by rw [hf, readF_stop b 0 _ 1 8 .zero (w0 _) (by omega)]; exact h9)
  have e1 := readF_go b 0 [2, 3] 1 8 .zero (w0 _) (by omega)
  by_cases h13 : b.length < 13
  · exact read_short (by omega) (by omega) hb h0 (show b.length < 15 by omega) (by rw [hf, e1, readF_stop b 2 _ (1 + 8) 4 _ (w2 _) (by omega)]; exact h13)
  have e2 := readF_go b 2 [3] (1 + 8) 4 (setField 0 .zero ((b.drop 1).take 8)) (w2 _) (by omega)
  by_cases h15 : b.length < 15
  · exact read_short (by omega) (by omega) hb h0 h15 (by rw [hf, e1, e2, readF_stop b 3 [] (1 + 8 + 4) 2 _ (by rw [w3, if_pos (by omega)]) (by omega)]; exact h15)
  refine read_named 1 (.inl rfl) b hr (show 15 ≤ b.length by omega) h0 _ rfl ?_
  rw [hf, e1, e2]
  have q1 : setField 0 .zero ((b.drop 1).take 8) = { Msg.zero with flags := numAt ((b.drop 1).take 8) 0 ((b.drop 1).take 8).length } := rfl
  rw [q1, numAt_cut]
  have q2 : setField 2 { Msg.zero with flags := numAt b 1 8 } ((b.drop (1 + 8)).take 4) = { Msg.zero with flags := numAt b 1 8, creation := numAt ((b.drop (1 + 8)).take 4) 0 ((b.drop (1 + 8)).take 4).length } := rfl
  rw [q2, numAt_cut]
  rfl
theorem read_k3 (b : List Int) (hr : ∀ z ∈ b, 0 ≤ z ∧ z < 256) (hb : 1 ≤ b.length) (h0 : b.getD 0 0 = letterOf 3) : readG 3 b = readOf 3 b := by
  have hf : fieldsOf 3 = [0, 1, 2, 3] := rfl
  by_cases h9 : b.length < 9
  · exact read_short (by omega) (by omega) hb h0 (show b.length < 19 by omega) (by rw [hf, readF_stop b 0 _ 1 8 .zero (w0 _) (by omega)]; exact h9)
  have e1 := readF_go b 0 [1, 2, 3] 1 8 .zero (w0 _) (by omega)
  by_cases h13 : b.length < 13
  · exact read_short (by omega) (by omega) hb h0 (show b.length < 19 by omega) (by rw [hf, e1, readF_stop b 1 _ (1 + 8) 4 _ (w1 _) (by omega)]; exact h13)
  have e2 := readF_go b 1 [2, 3] (1 + 8) 4 (setField 0 .zero ((b.drop 1).take 8)) (w1 _) (by omega)
  by_cases h17 : b.length < 17
  · exact read_short (by omega) (by omega) hb h0 (show b.length < 19 by omega) (by rw [hf, e1, e2, readF_stop b 2 _ (1 + 8 + 4) 4 _ (w2 _) (by omega)]; exact h17)
  have e3 := readF_go b 2 [3] (1 + 8 + 4) 4 (setField 1 (setField 0 .zero ((b.drop 1).take 8)) ((b.drop (1 + 8)).take 4)) (w2 _) (by omega)
  by_cases h19 : b.length < 19
  · exact read_short (by omega) (by omega) hb h0 h19 (by rw [hf, e1, e2, e3, readF_stop b 3 [] (1 + 8 + 4 + 4) 2 _ (by rw [w3, if_pos (by omega)]) (by omega)]; exact h19)
  refine read_named 3 (.inr rfl) b hr (show 19 ≤ b.length by omega) h0 _ rfl ?_
  rw [hf, e1, e2, e3]
  have q1 : setField 0 .zero ((b.drop 1).take 8) = { Msg.zero with flags := numAt ((b.drop 1).take 8) 0 ((b.drop 1).take 8).length } := rfl
  rw [q1, numAt_cut]
  have q2 : setField 1 { Msg.zero with flags := numAt b 1 8 } ((b.drop (1 + 8)).take 4) = { Msg.zero with flags := numAt b 1 8, challenge := numAt ((b.drop (1 + 8)).take 4) 0 ((b.drop (1 + 8)).take 4).length } := rfl
  rw [q2, numAt_cut]
  have q3 : setField 2 { Msg.zero with flags := numAt b 1 8, challenge := numAt b (1 + 8) 4 } ((b.drop (1 + 8 + 4)).take 4) = { Msg.zero with flags := numAt b 1 8, challenge := numAt b (1 + 8) 4, creation := numAt ((b.drop (1 + 8 + 4)).take 4) 0 ((b.drop (1 + 8 + 4)).take 4).length } := rfl
  rw [q3, numAt_cut]
  rfl
theorem read_same (k : Int) (hk : 1 ≤ k ∧ k ≤ 5) (b : List Int) (hr : ∀ z ∈ b, 0 ≤ z ∧ z < 256) (hb : 1 ≤ b.length) (h0 : b.getD 0 0 = letterOf k) : readG k b = readOf k b := by
  have h5 : k = 1 ∨ k = 2 ∨ k = 3 ∨ k = 4 ∨ k = 5 := by omega
  rcases h5 with rfl | rfl | rfl | rfl | rfl
  · exact read_k1 b hr hb h0
  · exact read_k2 b hb h0
  · exact read_k3 b hr hb h0
  · exact read_k4 b hb h0
  · exact read_k5 b hb h0
end Go.Proofs.YtmnibmgbicnamaaGreatDoor
