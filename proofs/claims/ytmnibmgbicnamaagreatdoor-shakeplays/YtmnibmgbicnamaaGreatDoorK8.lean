/-
  Layer 8 (shake), of lists alone: a message's fields read one after the other, as the program does it, are what is read.
  Layer 8 (shake): the program's numbers out of bytes, widths of fields.
  Layer 8 (shake): the program's fields out of bytes.
  Layer 8 (shake): the program's fields read one after the other.
  Layer 8 (shake): the program's Read.
-/
import Derived.Test.YtmnibmgbicnamaaGreatDoorK7
import Derived.Test.YtmnibmgbicnamaaGreatDoorK3
namespace Go.Proofs.YtmnibmgbicnamaaGreatDoor
open Go.RowKit

/-- How many bytes a field has with which bytes begin. -/
def widthOf (f : Int) (r : List Int) : Nat := if f = 0 then 8 else if f = 1 ∨ f = 2 then 4 else if f = 5 then 16 else if f = 3 then (if r.length < 2 then 2 else 2 + (numAt r 0 2).toNat) else r.length
/-- A field's bytes put into a message. -/
def setField (f : Int) (m : Msg) (b : List Int) : Msg :=
  if f = 0 then { m with flags := numAt b 0 b.length } else if f = 1 then { m with challenge := numAt b 0 b.length } else if f = 2 then { m with creation := numAt b 0 b.length }
  else if f = 3 then { m with name := strOfNums (b.drop 2) } else if f = 4 then { m with status := strOfNums b } else { m with digest := b }
/-- The message whose fields stand there, and where they end. -/
def readF (b : List Int) : List Int → Nat → Msg → Msg × Nat
  | [], e, m => (m, e)
  | f :: r, e, m => if b.length < e + widthOf f (b.drop e) then (m, e + widthOf f (b.drop e)) else readF b r (e + widthOf f (b.drop e)) (setField f m ((b.drop e).take (widthOf f (b.drop e))))
/-- What Read tells of it. -/
def readG (k : Int) (b : List Int) : List Lnk × Msg :=
  if b.length < (readF b (fieldsOf k) 1 .zero).2 then (sh b.length 160, .zero)
  else if (readF b (fieldsOf k) 1 .zero).2 < b.length then (sh (readF b (fieldsOf k) 1 .zero).2 160, .zero)
  else if k = 2 ∧ isSt (readF b (fieldsOf k) 1 .zero).1.status = false then (sh 1 160, .zero)
  else if (k = 1 ∨ k = 3) ∧ nodeOk (readF b (fieldsOf k) 1 .zero).1.name = false then (shName ((readF b (fieldsOf k) 1 .zero).2 - (readF b (fieldsOf k) 1 .zero).1.name.size : Int), .zero)
  else ([], { (readF b (fieldsOf k) 1 .zero).1 with kind := k })
theorem numAt_drop (b : List Int) (i n : Nat) : numAt (b.drop i) 0 n = numAt b i n := by simp [numAt]
theorem numAt_take (b : List Int) (n : Nat) : numAt (b.take n) 0 (b.take n).length = numAt b 0 n := by
  unfold numAt
  rw [List.drop_zero, List.drop_zero, List.take_of_length_le (Nat.le_refl _)]
theorem numAt_cut (b : List Int) (i n : Nat) : numAt ((b.drop i).take n) 0 ((b.drop i).take n).length = numAt b i n := by rw [numAt_take, numAt_drop]
theorem readF_go (b : List Int) (f : Int) (r : List Int) (e n : Nat) (m : Msg) (hw : widthOf f (b.drop e) = n) (h : e + n ≤ b.length) : readF b (f :: r) e m = readF b r (e + n) (setField f m ((b.drop e).take n)) := by
  rw [readF, hw, if_neg (by omega)]
theorem readF_stop (b : List Int) (f : Int) (r : List Int) (e n : Nat) (m : Msg) (hw : widthOf f (b.drop e) = n) (h : b.length < e + n) : readF b (f :: r) e m = (m, e + n) := by
  rw [readF, hw, if_pos h]
theorem w0 (r : List Int) : widthOf 0 r = 8 := rfl
theorem w1 (r : List Int) : widthOf 1 r = 4 := rfl
theorem w2 (r : List Int) : widthOf 2 r = 4 := rfl
theorem w5 (r : List Int) : widthOf 5 r = 16 := rfl
theorem w4 (r : List Int) : widthOf 4 r = r.length := rfl
theorem w3 (b : List Int) (e : Nat) : widthOf 3 (b.drop e) = if b.length < e + 2 then 2 else 2 + (numAt b e 2).toNat := by
  have : widthOf 3 (b.drop e) = if (b.drop e).length < 2 then 2 else 2 + (numAt (b.drop e) 0 2).toNat := rfl
  rw [this, numAt_drop, List.length_drop]
  by_cases h : b.length < e + 2
  · rw [if_pos h, if_pos (by omega)]
  · rw [if_neg h, if_neg (by omega)]
theorem readG_of {k : Int} {b : List Int} {m : Msg} {e : Nat} (hr : readF b (fieldsOf k) 1 .zero = (m, e)) : readG k b = if b.length < e then (sh b.length 160, .zero) else if e < b.length then (sh e 160, .zero) else if k = 2 ∧ isSt m.status = false then (sh 1 160, .zero) else if (k = 1 ∨ k = 3) ∧ nodeOk m.name = false then (shName (e - m.name.size : Int), .zero) else ([], { m with kind := k }) := by
  unfold readG
  rw [hr]
/-- What is read where the letter is right. -/
theorem readOf_of {k : Int} {b : List Int} (hk : 1 ≤ k ∧ k ≤ 5) (hb : 1 ≤ b.length) (h0 : b.getD 0 0 = letterOf k) (h2 : k ≠ 2) : readOf k b = if b.length < headLen k then (sh b.length 160, .zero)
    else if b.length < endOf k b then (sh b.length 160, .zero)
    else if endOf k b < b.length then (sh (endOf k b) 160, .zero)
    else if k = 4 then ([], { Msg.zero with kind := 4, challenge := numAt b 1 4, digest := b.drop 5 })
    else if k = 5 then ([], { Msg.zero with kind := 5, digest := b.drop 1 })
    else if nodeOk (strOfNums (b.drop (headLen k))) = false then (shName (headLen k), .zero)
    else ([], { Msg.zero with kind := k, flags := numAt b 1 8, creation := numAt b (headLen k - 6) 4, challenge := if k = 3 then numAt b 9 4 else 0, name := strOfNums (b.drop (headLen k)) }) := by
  have h1 : ¬ (b.length = 0 ∨ b.getD 0 0 ≠ letterOf k) := fun h => h.elim (fun h => by omega) (fun h => h h0)
  unfold readOf
  rw [if_neg (by omega), if_neg h1, if_neg h2]
theorem read_k2 (b : List Int) (hb : 1 ≤ b.length) (h0 : b.getD 0 0 = letterOf 2) : readG 2 b = readOf 2 b := by
  have hr : readF b (fieldsOf 2) 1 .zero = ({ Msg.zero with status := strOfNums (b.drop 1) }, b.length) := by
    rw [show fieldsOf 2 = [4] from rfl, readF_go b 4 [] 1 (b.length - 1) .zero (by rw [w4, List.length_drop]) (by omega), readF, List.take_of_length_le (by rw [List.length_drop]; exact Nat.le_refl _)]
    rw [show 1 + (b.length - 1) = b.length by omega]
    rfl
  have h1 : ¬ (b.length = 0 ∨ b.getD 0 0 ≠ letterOf 2) := fun h => h.elim (fun h => by omega) (fun h => h h0)
  have hR : readOf 2 b = if isSt (strOfNums (b.drop 1)) = true then ([], { Msg.zero with kind := 2, status := strOfNums (b.drop 1) }) else (sh 1 160, .zero) := by
    unfold readOf
    rw [if_neg (by omega), if_neg h1, if_pos rfl]
  rw [hR, readG_of hr, if_neg (Nat.lt_irrefl _), if_neg (Nat.lt_irrefl _)]
  simp only
  cases hs : isSt (strOfNums (b.drop 1)) with
  | true => simp
  | false => simp
theorem read_short {k : Int} {b : List Int} (hk : 1 ≤ k ∧ k ≤ 5) (h2 : k ≠ 2) (hb : 1 ≤ b.length) (h0 : b.getD 0 0 = letterOf k) (hh : b.length < headLen k) (hl : b.length < (readF b (fieldsOf k) 1 .zero).2) : readG k b = readOf k b := by
  rw [readOf_of hk hb h0 h2, if_pos hh]
  unfold readG
  rw [if_pos hl]
theorem read_k5 (b : List Int) (hb : 1 ≤ b.length) (h0 : b.getD 0 0 = letterOf 5) : readG 5 b = readOf 5 b := by
  by_cases h17 : b.length < 17
  · exact read_short (by omega) (by omega) hb h0 h17 (by rw [show fieldsOf 5 = [5] from rfl, readF_stop b 5 [] 1 16 .zero (w5 _) (by omega)]; exact h17)
  · have hr : readF b (fieldsOf 5) 1 .zero = ({ Msg.zero with digest := (b.drop 1).take 16 }, 17) := by
      rw [show fieldsOf 5 = [5] from rfl, readF_go b 5 [] 1 16 .zero (w5 _) (by omega), readF]
      rfl
    have hR : readOf 5 b = if 17 < b.length then (sh 17 160, .zero) else ([], { Msg.zero with kind := 5, digest := b.drop 1 }) := by
      rw [readOf_of (by omega) hb h0 (by omega), if_neg (show ¬ b.length < headLen 5 from h17), if_neg (show ¬ b.length < endOf 5 b from h17)]
      rfl
    rw [hR, readG_of hr, if_neg h17]
    by_cases hgt : 17 < b.length
    · rw [if_pos hgt, if_pos hgt]
      rfl
    · rw [if_neg hgt, if_neg hgt, if_neg (by simp), if_neg (by simp), List.take_of_length_le (by rw [List.length_drop]; omega)]
theorem read_k4 (b : List Int) (hb : 1 ≤ b.length) (h0 : b.getD 0 0 = letterOf 4) : readG 4 b = readOf 4 b := by
  have hf : fieldsOf 4 = [1, 5] := rfl
  by_cases h5 : b.length < 5
  · exact read_short (by omega) (by omega) hb h0 (show b.length < 21 by omega) (by rw [hf, readF_stop b 1 [5] 1 4 .zero (w1 _) (by omega)]; exact h5)
  · have e1 := readF_go b 1 [5] 1 4 .zero (w1 _) (by omega)
    by_cases h21 : b.length < 21
    · exact read_short (by omega) (by omega) hb h0 h21 (by rw [hf, e1, readF_stop b 5 [] (1 + 4) 16 _ (w5 _) (by omega)]; exact h21)
    · have hr : readF b (fieldsOf 4) 1 .zero = ({ Msg.zero with challenge := numAt b 1 4, digest := (b.drop 5).take 16 }, 21) := by
        rw [hf, e1, readF_go b 5 [] (1 + 4) 16 _ (w5 _) (by omega), readF]
        have : setField 1 .zero ((b.drop 1).take 4) = { Msg.zero with challenge := numAt ((b.drop 1).take 4) 0 ((b.drop 1).take 4).length } := rfl
        rw [this, numAt_cut]
        rfl
      have hR : readOf 4 b = if 21 < b.length then (sh 21 160, .zero) else ([], { Msg.zero with kind := 4, challenge := numAt b 1 4, digest := b.drop 5 }) := by
        rw [readOf_of (by omega) hb h0 (by omega), if_neg (show ¬ b.length < headLen 4 from h21), if_neg (show ¬ b.length < endOf 4 b from h21)]
        rfl
      rw [hR, readG_of hr, if_neg h21]
      by_cases hgt : 21 < b.length
      · rw [if_pos hgt, if_pos hgt]
        rfl
      · rw [if_neg hgt, if_neg hgt, if_neg (by simp), if_neg (by simp), List.take_of_length_le (by rw [List.length_drop]; omega)]
/-- The end of a message with a name. -/
theorem read_named (k : Int) (hk : k = 1 ∨ k = 3) (b : List Int) (hr : ∀ z ∈ b, 0 ≤ z ∧ z < 256) (hb : headLen k ≤ b.length) (h0 : b.getD 0 0 = letterOf k) (m : Msg) (hm : m = { Msg.zero with flags := numAt b 1 8, creation := numAt b (headLen k - 6) 4, challenge := if k = 3 then numAt b 9 4 else 0 }) (hF : readF b (fieldsOf k) 1 .zero = readF b [3] (headLen k - 2) m) : readG k b = readOf k b := by
  have hh : headLen k = 15 ∨ headLen k = 19 := by rcases hk with rfl | rfl <;> decide
  have hv := (numAt_rng b hr (headLen k - 2) 2 (by omega)).1
  obtain ⟨n, hn⟩ : ∃ n : Nat, numAt b (headLen k - 2) 2 = (n : Int) := ⟨_, (Int.toNat_of_nonneg hv).symm⟩
  have hw : widthOf 3 (b.drop (headLen k - 2)) = 2 + n := by
    rw [w3, if_neg (by omega), hn]
    simp
  have hend : endOf k b = headLen k + n := by
    unfold endOf
    rw [if_pos hk, hn]
    simp
  have hR := readOf_of (by omega) (by omega) h0 (show k ≠ 2 by omega)
  rw [if_neg (show ¬ b.length < headLen k by omega), hend] at hR
  rw [hR]
  clear hR
  by_cases hs : b.length < headLen k + n
  · rw [readG_of (hF.trans (readF_stop b 3 [] _ (2 + n) m hw (by omega))), if_pos (show b.length < headLen k - 2 + (2 + n) by omega), if_pos hs]
  · have hnm : ((b.drop (headLen k - 2)).take (2 + n)).drop 2 = (b.drop (headLen k)).take n := by
      rw [List.drop_take, List.drop_drop, show headLen k - 2 + 2 = headLen k by omega, show 2 + n - 2 = n by omega]
    have hset : setField 3 m ((b.drop (headLen k - 2)).take (2 + n)) = { m with name := strOfNums ((b.drop (headLen k)).take n) } := by
      rw [← hnm]
      rfl
    have hF2 : readF b (fieldsOf k) 1 .zero = ({ m with name := strOfNums ((b.drop (headLen k)).take n) }, headLen k + n) := by
      rw [hF, readF_go b 3 [] _ (2 + n) m hw (by omega), readF, hset, show headLen k - 2 + (2 + n) = headLen k + n by omega]
    rw [readG_of hF2, if_neg hs, if_neg hs]
    by_cases hg : headLen k + n < b.length
    · rw [if_pos hg, if_pos hg]
    · have ht : (b.drop (headLen k)).take n = b.drop (headLen k) := List.take_of_length_le (by rw [List.length_drop]; omega)
      have hsz : (strOfNums (b.drop (headLen k))).size = n := by rw [strOf_size, List.length_drop]; omega
      rw [if_neg hg, if_neg hg, if_neg (show ¬ (k = 2 ∧ _) from fun h => by omega), if_neg (show ¬ k = 4 by omega), if_neg (show ¬ k = 5 by omega), ht]
      simp only
      by_cases hok : nodeOk (strOfNums (b.drop (headLen k))) = false
      · rw [if_pos ⟨hk, hok⟩, if_pos hok, hsz]
        rw [show ((headLen k + n : Nat) : Int) - (n : Int) = (headLen k : Int) by omega]
      · rw [if_neg (fun h => hok h.2), if_neg hok, hm]
theorem read_k1 (b : List Int) (hr : ∀ z ∈ b, 0 ≤ z ∧ z < 256) (hb : 1 ≤ b.length) (h0 : b.getD 0 0 = letterOf 1) : readG 1 b = readOf 1 b := by
  have hf : fieldsOf 1 = [0, 2, 3] := rfl
  by_cases h9 : b.length < 9
  · exact read_short (by omega) (by omega) hb h0 (show b.length < 15 by omega) (by rw [hf, readF_stop b 0 _ 1 8 .zero (w0 _) (by omega)]; exact h9)
  have e1 := readF_go b 0 [2, 3] 1 8 .zero (w0 _) (by omega)
  by_cases h13 : b.length < 13
  · exact read_short (by omega) (by omega) hb h0 (show b.length < 15 by omega) (by rw [hf, e1, readF_stop b 2 _ (1 + 8) 4 _ (w2 _) (by omega)]; exact h13)
  have e2 := readF_go b 2 [3] (1 + 8) 4 (setField 0 .zero ((b.drop 1).take 8)) (w2 _) (by omega)
  by_cases h15 : b.length < 15
  · exact read_short (by omega) (by omega) hb h0 h15 (by rw [hf, e1, e2, readF_stop b 3 [] (1 + 8 + 4) 2 _ (by rw [w3, if_pos (by omega)]) (by omega)]; exact h15)
  refine read_named 1 (.inl rfl) b hr (show 15 ≤ b.length by omega) h0 _ rfl ?_
  rw [hf, e1, e2]
  have q1 : setField 0 .zero ((b.drop 1).take 8) = { Msg.zero with flags := numAt ((b.drop 1).take 8) 0 ((b.drop 1).take 8).length } := rfl
  rw [q1, numAt_cut]
  have q2 : setField 2 { Msg.zero with flags := numAt b 1 8 } ((b.drop (1 + 8)).take 4) = { Msg.zero with flags := numAt b 1 8, creation := numAt ((b.drop (1 + 8)).take 4) 0 ((b.drop (1 + 8)).take 4).length } := rfl
  rw [q2, numAt_cut]
  rfl
theorem read_k3 (b : List Int) (hr : ∀ z ∈ b, 0 ≤ z ∧ z < 256) (hb : 1 ≤ b.length) (h0 : b.getD 0 0 = letterOf 3) : readG 3 b = readOf 3 b := by
  have hf : fieldsOf 3 = [0, 1, 2, 3] := rfl
  by_cases h9 : b.length < 9
  · exact read_short (by omega) (by omega) hb h0 (show b.length < 19 by omega) (by rw [hf, readF_stop b 0 _ 1 8 .zero (w0 _) (by omega)]; exact h9)
  have e1 := readF_go b 0 [1, 2, 3] 1 8 .zero (w0 _) (by omega)
  by_cases h13 : b.length < 13
  · exact read_short (by omega) (by omega) hb h0 (show b.length < 19 by omega) (by rw [hf, e1, readF_stop b 1 _ (1 + 8) 4 _ (w1 _) (by omega)]; exact h13)
  have e2 := readF_go b 1 [2, 3] (1 + 8) 4 (setField 0 .zero ((b.drop 1).take 8)) (w1 _) (by omega)
  by_cases h17 : b.length < 17
  · exact read_short (by omega) (by omega) hb h0 (show b.length < 19 by omega) (by rw [hf, e1, e2, readF_stop b 2 _ (1 + 8 + 4) 4 _ (w2 _) (by omega)]; exact h17)
  have e3 := readF_go b 2 [3] (1 + 8 + 4) 4 (setField 1 (setField 0 .zero ((b.drop 1).take 8)) ((b.drop (1 + 8)).take 4)) (w2 _) (by omega)
  by_cases h19 : b.length < 19
  · exact read_short (by omega) (by omega) hb h0 h19 (by rw [hf, e1, e2, e3, readF_stop b 3 [] (1 + 8 + 4 + 4) 2 _ (by rw [w3, if_pos (by omega)]) (by omega)]; exact h19)
  refine read_named 3 (.inr rfl) b hr (show 19 ≤ b.length by omega) h0 _ rfl ?_
  rw [hf, e1, e2, e3]
  have q1 : setField 0 .zero ((b.drop 1).take 8) = { Msg.zero with flags := numAt ((b.drop 1).take 8) 0 ((b.drop 1).take 8).length } := rfl
  rw [q1, numAt_cut]
  have q2 : setField 1 { Msg.zero with flags := numAt b 1 8 } ((b.drop (1 + 8)).take 4) = { Msg.zero with flags := numAt b 1 8, challenge := numAt ((b.drop (1 + 8)).take 4) 0 ((b.drop (1 + 8)).take 4).length } := rfl
  rw [q2, numAt_cut]
  have q3 : setField 2 { Msg.zero with flags := numAt b 1 8, challenge := numAt b (1 + 8) 4 } ((b.drop (1 + 8 + 4)).take 4) = { Msg.zero with flags := numAt b 1 8, challenge := numAt b (1 + 8) 4, creation := numAt ((b.drop (1 + 8 + 4)).take 4) 0 ((b.drop (1 + 8 + 4)).take 4).length } := rfl
  rw [q3, numAt_cut]
  rfl
theorem read_same (k : Int) (hk : 1 ≤ k ∧ k ≤ 5) (b : List Int) (hr : ∀ z ∈ b, 0 ≤ z ∧ z < 256) (hb : 1 ≤ b.length) (h0 : b.getD 0 0 = letterOf k) : readG k b = readOf k b := by
  have h5 : k = 1 ∨ k = 2 ∨ k = 3 ∨ k = 4 ∨ k = 5 := by omega
  rcases h5 with rfl | rfl | rfl | rfl | rfl
  · exact read_k1 b hr hb h0
  · exact read_k2 b hb h0
  · exact read_k3 b hr hb h0
  · exact read_k4 b hb h0
  · exact read_k5 b hb h0
end Go.Proofs.YtmnibmgbicnamaaGreatDoor
namespace Go.Proofs.YtmnibmgbicnamaaGreatDoor
open Go.RowKit

set_option maxRecDepth 100000 in
set_option maxHeartbeats 1600000 in
theorem sh_numb {w : World} {B : Value} {b : List Int} (hB : Sl w B b) (hr : ∀ z ∈ b, 0 ≤ z ∧ z < 256) (hl : b.length ≤ 8) : Calls Tryz.prog 96 #[B] w fun e w' => e = .returned (.int .u64 (numAt b 0 b.length)) ∧ w = w' := by
  generalize hm : numAt b 0 b.length = m
  have HM : Hid (numAt b 0 b.length = m) := hm
  clear hm
  have HB : Hid (∀ (g off cap : Nat), B = .slice (some ⟨g, off, none⟩) b.length cap → True) := fun _ _ _ _ => trivial
  obtain ⟨a, cap, rfl, hcap, hmax⟩ := hB.form
  have HC : Hid (∀ j (h : j < b.length), ∃ g off, a = some ⟨g, off, none⟩ ∧ w.cell? ⟨g, off + j, none⟩ = some (.int .u8 b[j])) := fun j hj => by
    rcases hB with ⟨_, rfl⟩ | ⟨_, _, rfl⟩ | ⟨g, off, cap', h1, h2, h3, h4⟩
    · simp at hj
    · simp at hj
    · injection h1 with h1
      exact ⟨g, off, h1, h4 j hj⟩
  have HR : Hid (∀ z ∈ b, 0 ≤ z ∧ z < 256) := hr
  clear hB hr HB
  go_enter Tryz.func96, Tryz.ntmps96
  go_wp2_with fail
  go_loopw [3, 8] (fun vv ii wr => ∃ j : Nat, ii = .int .i64 j ∧ j ≤ b.length ∧ vv = .int .u64 (numAt b 0 j) ∧ w = wr) (fun _ ii _ => b.length - (intOf ii).toNat)
  case atStart => exact ⟨0, rfl, Nat.zero_le _, rfl, rfl⟩
  case round =>
    obtain ⟨j, rfl, hj, rfl, rfl⟩ := hrel
    by_cases hlt : j < b.length
    · have hlti : (j : Int) < (b.length : Int) := by omega
      obtain ⟨g, off, rfl, hx⟩ := HC.out j hlt
      have hst := numAt_step b 0 j (by omega)
      have hv := numAt_rng b HR.out 0 j (by omega)
      have hp := pow256 j 8 (Nat.le_refl _) (by omega)
      have hc := HR.out b[j] (List.getElem_mem (by omega))
      simp only [Nat.zero_add] at hst
      generalize b[j] = c at hx hst hc
      have HST : Hid (numAt b 0 (j + 1) = numAt b 0 j * 256 + c) := hst
      have hv1 : 0 ≤ numAt b 0 j ∧ numAt b 0 j < 72057594037927936 := by omega
      have hor := or_join (numAt b 0 j) c hv1 hc
      clear hst hv hp
      generalize numAt b 0 j = v at hv1 hor HST
      obtain ⟨v0, v1⟩ := hv1
      obtain ⟨c0, c1⟩ := hc
      go_wp2
      go_roundw
      case rel => exact ⟨j + 1, by go_num, by omega, by rw [HST.out], trivial⟩
      case measure => simp [intOf]; omega
    · have hge : ¬ (j : Int) < (b.length : Int) := by omega
      obtain rfl : j = b.length := by omega
      rw [HM.out]
      go_wp2
      go_ret
      exact ⟨rfl, rfl⟩
/-- 'x[:n]' of a slice of bytes. -/
theorem run_cutTo {P : Program} {t e : TypeId} (hB : ByteTypes P t e) {a : Option Addr} {len cap n : Nat} (h : n ≤ cap) (W : World) :
    (Instr.slice t (.slice a len cap) none (some (.int .i64 (n : Int))) none).run P W = .ok (.slice a n cap) W := by
  obtain ⟨i, hi, hz, hsz, hby⟩ := hB.info
  have b2 := run_sliceBound (P := P) (w := W) .i64 (n : Int) cap .sliceAcap (by omega) (by omega)
  simp [Instr.slice, run_underlying hB.slice, Instr.sliceBounds, b2, sizeOf, typeInfo, hi]
  intro _
  cases a <;> simp [Addr.add]
set_option maxRecDepth 100000 in
set_option maxHeartbeats 1600000 in
theorem sh_width (f : Int) (hf : 0 ≤ f ∧ f ≤ 5) {w : World} {B : Value} {b : List Int} (hB : Sl w B b) (hr : ∀ z ∈ b, 0 ≤ z ∧ z < 256) (hl : b.length ≤ 140737488355328) : Calls Tryz.prog 75 #[.int .i64 f, B] w fun e w' => e = .returned (.int .i64 (widthOf f b)) ∧ w = w' := by
  have h6 : f = 0 ∨ f = 1 ∨ f = 2 ∨ f = 3 ∨ f = 4 ∨ f = 5 := by omega
  obtain ⟨a, cap, rfl, hcap, hmax⟩ := hB.form
  have HB : Hid (Sl w (.slice a b.length cap) b) := hB
  have HR : Hid (∀ z ∈ b, 0 ≤ z ∧ z < 256) := hr
  clear hB hr
  rcases h6 with rfl | rfl | rfl | rfl | rfl | rfl
  · go_enter Tryz.func75, Tryz.ntmps75
    go_wp2
    go_ret
    exact ⟨rfl, rfl⟩
  · go_enter Tryz.func75, Tryz.ntmps75
    go_wp2
    go_ret
    exact ⟨rfl, rfl⟩
  · go_enter Tryz.func75, Tryz.ntmps75
    go_wp2
    go_ret
    exact ⟨rfl, rfl⟩
  · by_cases h2 : b.length < 2
    · have h2i : (b.length : Int) < 2 := by omega
      have HW : Hid (widthOf 3 b = 2) := by
        have : widthOf 3 b = if b.length < 2 then 2 else 2 + (numAt b 0 2).toNat := rfl
        rw [this, if_pos h2]
        rfl
      go_enter Tryz.func75, Tryz.ntmps75
      go_wp2
      go_ret
      exact ⟨by rw [HW.out]; rfl, rfl⟩
    · have h2i : ¬ (b.length : Int) < 2 := by omega
      have hn := sh_numb (HB.out.take (n := 2) (by omega)) (fun z hz => HR.out z (List.mem_of_mem_take hz)) (by simp; omega)
      rw [numAt_take] at hn
      have hv := numAt_rng b HR.out 0 2 (by omega)
      have hc2 : ∀ W : World, (Instr.slice 25 (.slice a b.length cap) none (some (.int .i64 2)) none).run Tryz.prog W = .ok (.slice a 2 cap) W := fun W => run_cutTo Tryz.bytes (a := a) (len := b.length) (cap := cap) (n := 2) (by omega) W
      have HW : Hid ((widthOf 3 b : Int) = 2 + numAt b 0 2) := by
        have : widthOf 3 b = if b.length < 2 then 2 else 2 + (numAt b 0 2).toNat := rfl
        have h3 : (widthOf 3 b : Int) = 2 + numAt b 0 2 := by
          rw [this, if_neg h2]
          omega
        exact h3
      generalize numAt b 0 2 = v at hn hv HW
      obtain ⟨hv0, hv1⟩ := hv
      have hv1 : v < 65536 := by simpa using hv1
      go_enter Tryz.func75, Tryz.ntmps75
      go_wp2_with fail
      refine hn.mono ?_
      rintro e w' ⟨rfl, rfl⟩
      go_wp2
      go_ret
      exact ⟨by rw [HW.out]; rfl, rfl⟩
  · go_enter Tryz.func75, Tryz.ntmps75
    go_wp2
    go_ret
    exact ⟨rfl, rfl⟩
  · go_enter Tryz.func75, Tryz.ntmps75
    go_wp2
    go_ret
    exact ⟨rfl, rfl⟩
end Go.Proofs.YtmnibmgbicnamaaGreatDoor
namespace Go.Proofs.YtmnibmgbicnamaaGreatDoor
open Go.RowKit

/-- A message's cells. -/
def msgCell (m : Msg) (D : Value) : Nat → Value
  | 0 => .int .i64 m.kind
  | 1 => .int .u64 m.flags
  | 2 => .int .u32 m.creation
  | 3 => .int .u32 m.challenge
  | 4 => .string m.name
  | 5 => .string m.status
  | _ => D
/-- A message in memory that may be written. -/
def MsgB (w : World) (g : Nat) (m : Msg) (D : Value) : Prop := Block w g 7 (msgCell m D)
theorem MsgB.at_ {w : World} {g : Nat} {m : Msg} {D : Value} (h : MsgB w g m D) : MsgAt w g m D := ⟨(h 0 (by omega)).1, (h 1 (by omega)).1, (h 2 (by omega)).1, (h 3 (by omega)).1, (h 4 (by omega)).1, (h 5 (by omega)).1, (h 6 (by omega)).1⟩
theorem forall7 {p : Nat → Prop} (h0 : p 0) (h1 : p 1) (h2 : p 2) (h3 : p 3) (h4 : p 4) (h5 : p 5) (h6 : p 6) : ∀ j, j < 7 → p j
  | 0, _ => h0 | 1, _ => h1 | 2, _ => h2 | 3, _ => h3 | 4, _ => h4 | 5, _ => h5 | 6, _ => h6
  | j + 7, h => by omega
theorem MsgB.ofNew (w : World) (m : Msg) (D : Value) (t : TypeId) : MsgB (w.alloc (.cells #[.int .i64 m.kind, .int .u64 m.flags, .int .u32 m.creation, .int .u32 m.challenge, .string m.name, .string m.status, D] t)) w.heap.size m D :=
  forall7 ⟨by simp [msgCell], by rw [World.frozen?_alloc_new]⟩ ⟨by simp [msgCell], by rw [World.frozen?_alloc_new]⟩ ⟨by simp [msgCell], by rw [World.frozen?_alloc_new]⟩ ⟨by simp [msgCell], by rw [World.frozen?_alloc_new]⟩ ⟨by simp [msgCell], by rw [World.frozen?_alloc_new]⟩ ⟨by simp [msgCell], by rw [World.frozen?_alloc_new]⟩ ⟨by simp [msgCell], by rw [World.frozen?_alloc_new]⟩
theorem MsgB.set {w : World} {g : Nat} {m m' : Msg} {D D' : Value} (h : MsgB w g m D) (i : Nat) (v : Value) (hc : ∀ j, j < 7 → (if j = i then v else msgCell m D j) = msgCell m' D' j) : MsgB (w.setCell ⟨g, i, none⟩ v) g m' D' := (Block.set h i v).congr hc
theorem Turned.set1 (w : World) (g i : Nat) (v : Value) : Turned (fun k => k = g) w (w.setCell ⟨g, i, none⟩ v) := Turned.setCell w ⟨g, i, none⟩ v
/-- A field's bytes may be such. -/
def fieldOk (f : Int) (b : List Int) : Prop := (f = 0 → b.length = 8) ∧ (f = 1 ∨ f = 2 → b.length = 4) ∧ (f = 3 → 2 ≤ b.length) ∧ (f = 5 → b.length = 16)
set_option maxRecDepth 100000 in
set_option maxHeartbeats 6400000 in
theorem sh_fread (f : Int) (hf : 0 ≤ f ∧ f ≤ 5) {w : World} {B : Value} {b : List Int} (hB : Sl w B b) (hr : ∀ z ∈ b, 0 ≤ z ∧ z < 256) (hfo : fieldOk f b) {g : Nat} {m : Msg} {D : Value} (hM : MsgB w g m D) (hD : Sl w D m.digest) (hDg : ∀ k, blk D k → k ≠ g) :
    Calls Tryz.prog 76 #[.int .i64 f, .pointer (some ⟨g, 0, none⟩), B] w fun e w' => ∃ D', e = .returned (.tuple #[]) ∧ MsgB w' g (setField f m b) D' ∧ Sl w' D' (setField f m b).digest ∧ (∀ k, blk D' k → blk D k ∨ w.heap.size ≤ k) ∧ Turned (fun k => k = g) w w' := by
  obtain ⟨hf0, hf12, hf3, hf5⟩ := hfo
  have h6 : f = 0 ∨ f = 1 ∨ f = 2 ∨ f = 3 ∨ f = 4 ∨ f = 5 := by omega
  have HM : Hid (MsgB w g m D) := hM
  have HD : Hid (Sl w D m.digest ∧ ∀ k, blk D k → k ≠ g) := ⟨hD, hDg⟩
  have hgl : g < w.heap.size := hM.at_.lt
  obtain ⟨a, cap, rfl, hcap, hmax⟩ := hB.form
  rcases h6 with rfl | rfl | rfl | rfl | rfl | rfl
  · have hn := sh_numb hB hr (by have := hf0 rfl; omega)
    obtain ⟨k1, f1⟩ := hM 1 (by omega)
    simp only [msgCell] at k1
    clear hM hD hDg hB hf0 hf12 hf3 hf5
    go_enter Tryz.func76, Tryz.ntmps76
    go_wp2_with fail
    refine hn.mono ?_
    rintro e w' ⟨rfl, rfl⟩
    go_wp2
    go_end0
    exact ⟨D, rfl, HM.out.set 1 _ (forall7 rfl rfl rfl rfl rfl rfl rfl), HD.out.1.turned (Turned.set1 w g 1 _) HD.out.2, fun _ h => .inl h, Turned.set1 w g 1 _⟩
  · have hn := sh_numb hB hr (by have := hf12 (.inl rfl); omega)
    have hv := numAt_rng b hr 0 b.length (by omega)
    rw [hf12 (.inl rfl)] at hv
    have hw : IntKind.u32.wrap (numAt b 0 b.length) = numAt b 0 b.length := by
      rw [hf12 (.inl rfl), IntKind.wrap_u32]
      simp at hv
      omega
    obtain ⟨k1, f1⟩ := hM 3 (by omega)
    simp only [msgCell] at k1
    clear hM hD hDg hB hf0 hf12 hf3 hf5 hv
    go_enter Tryz.func76, Tryz.ntmps76
    go_wp2_with fail
    refine hn.mono ?_
    rintro e w' ⟨rfl, rfl⟩
    go_wp2
    go_end0
    exact ⟨D, rfl, HM.out.set 3 _ (forall7 rfl rfl rfl rfl rfl rfl rfl), HD.out.1.turned (Turned.set1 w g 3 _) HD.out.2, fun _ h => .inl h, Turned.set1 w g 3 _⟩
  · have hn := sh_numb hB hr (by have := hf12 (.inr rfl); omega)
    have hv := numAt_rng b hr 0 b.length (by omega)
    rw [hf12 (.inr rfl)] at hv
    have hw : IntKind.u32.wrap (numAt b 0 b.length) = numAt b 0 b.length := by
      rw [hf12 (.inr rfl), IntKind.wrap_u32]
      simp at hv
      omega
    obtain ⟨k1, f1⟩ := hM 2 (by omega)
    simp only [msgCell] at k1
    clear hM hD hDg hB hf0 hf12 hf3 hf5 hv
    go_enter Tryz.func76, Tryz.ntmps76
    go_wp2_with fail
    refine hn.mono ?_
    rintro e w' ⟨rfl, rfl⟩
    go_wp2
    go_end0
    exact ⟨D, rfl, HM.out.set 2 _ (forall7 rfl rfl rfl rfl rfl rfl rfl), HD.out.1.turned (Turned.set1 w g 2 _) HD.out.2, fun _ h => .inl h, Turned.set1 w g 2 _⟩
  · have h2 := hf3 rfl
    obtain ⟨aF, haF⟩ : ∃ aF, aF = (if cap = 2 then a else a.map (·.add 2)) := ⟨_, rfl⟩
    have hc2 : ∀ W : World, (Instr.slice 25 (.slice a b.length cap) (some (.int .i64 2)) none none).run Tryz.prog W = .ok (.slice aF (b.length - 2) (cap - 2)) W := fun W => by rw [haF]; exact run_cutFrom Tryz.bytes (l := 2) (by omega) W
    have hs := (hB.drop (n := 2) (by omega))
    rw [← haF] at hs
    have hst := hs.str
    obtain ⟨k1, f1⟩ := hM 4 (by omega)
    simp only [msgCell] at k1
    clear hM hD hDg hB hf0 hf12 hf3 hf5 haF hs
    go_enter Tryz.func76, Tryz.ntmps76
    go_wp2
    go_end0
    exact ⟨D, rfl, HM.out.set 4 _ (forall7 rfl rfl rfl rfl rfl rfl rfl), HD.out.1.turned (Turned.set1 w g 4 _) HD.out.2, fun _ h => .inl h, Turned.set1 w g 4 _⟩
  · have hst := hB.str
    obtain ⟨k1, f1⟩ := hM 5 (by omega)
    simp only [msgCell] at k1
    clear hM hD hDg hB hf0 hf12 hf3 hf5
    go_enter Tryz.func76, Tryz.ntmps76
    go_wp2
    go_end0
    exact ⟨D, rfl, HM.out.set 5 _ (forall7 rfl rfl rfl rfl rfl rfl rfl), HD.out.1.turned (Turned.set1 w g 5 _) HD.out.2, fun _ h => .inl h, Turned.set1 w g 5 _⟩
  · have hcl := clone_any hB (by have := hf5 rfl; omega)
    obtain ⟨k1, f1⟩ := hM 6 (by omega)
    simp only [msgCell] at k1
    clear hM hD hDg hB hf0 hf12 hf3 hf5
    go_enter Tryz.func76, Tryz.ntmps76
    go_wp2_with fail
    refine hcl.mono ?_
    rintro e w1 ⟨V, rfl, ho, ht, hb⟩
    have j1 := ht.cell (p := ⟨g, 6, none⟩) k1 (fun h => h)
    have j2 := (ht.frozen (p := ⟨g, 6, none⟩) hgl (fun h => h)).trans f1
    have HN : Hid (Own w1 V b ∧ Turned (fun _ => False) w w1 ∧ (∀ k, blk V k → w.heap.size ≤ k) ∧ MsgB w1 g m D) := ⟨ho, ht, hb, Block.turned HM.out ht (fun h => h)⟩
    obtain ⟨aV, cV, LV, rfl⟩ : ∃ a c L, V = .slice a L c := ⟨_, _, _, ho.sl.form.choose_spec.choose_spec.1⟩
    clear ho ht hb k1 f1 hcl
    go_wp2
    go_end0
    obtain ⟨q1, q2, q3, q4⟩ := HN.out
    exact ⟨_, rfl, q4.set 6 _ (forall7 rfl rfl rfl rfl rfl rfl rfl), q1.sl.turned (Turned.set1 w1 g 6 _) (fun k hk he => by have := q3 k hk; have he : k = g := he; omega), fun k hk => .inr (q3 k hk), (q2.mono (fun _ h => h.elim)).trans (Turned.set1 w1 g 6 _) (fun _ h => .inl h)⟩
end Go.Proofs.YtmnibmgbicnamaaGreatDoor
namespace Go.Proofs.YtmnibmgbicnamaaGreatDoor
open Go.RowKit

theorem width_ok (f : Int) (b : List Int) (e : Nat) (h : e + widthOf f (b.drop e) ≤ b.length) : fieldOk f ((b.drop e).take (widthOf f (b.drop e))) := by
  have hl : ((b.drop e).take (widthOf f (b.drop e))).length = widthOf f (b.drop e) := by rw [List.length_take, List.length_drop]; omega
  unfold fieldOk
  rw [hl]
  refine ⟨?_, ?_, ?_, ?_⟩
  · rintro rfl; rfl
  · rintro (rfl | rfl) <;> rfl
  · rintro rfl; rw [w3]; split <;> omega
  · rintro rfl; rfl
theorem width_pos (f : Int) (b : List Int) (e : Nat) (hr : ∀ z ∈ b, 0 ≤ z ∧ z < 256) : widthOf f (b.drop e) ≤ 65600 + b.length := by
  unfold widthOf
  repeat' split
  all_goals try omega
  · rename_i h2
    rw [numAt_drop]
    have := numAt_rng b hr e 2 (by rw [List.length_drop] at h2; omega)
    simp at this
    omega
  · rw [List.length_drop]; omega
theorem turned7 (w : World) (g : Nat) (v0 v1 v2 v3 v4 v5 v6 : Value) : Turned (fun k => k = g) w (((((((w.setCell ⟨g, 0, none⟩ v0).setCell ⟨g, 1, none⟩ v1).setCell ⟨g, 2, none⟩ v2).setCell ⟨g, 3, none⟩ v3).setCell ⟨g, 4, none⟩ v4).setCell ⟨g, 5, none⟩ v5).setCell ⟨g, 6, none⟩ v6) :=
  ((((((Turned.set1 w g 0 v0).trans (Turned.set1 _ g 1 v1) (fun _ h => .inl h)).trans (Turned.set1 _ g 2 v2) (fun _ h => .inl h)).trans (Turned.set1 _ g 3 v3) (fun _ h => .inl h)).trans (Turned.set1 _ g 4 v4) (fun _ h => .inl h)).trans (Turned.set1 _ g 5 v5) (fun _ h => .inl h)).trans (Turned.set1 _ g 6 v6) (fun _ h => .inl h)
theorem sread_end {w wr : World} {D : Value} {ds : List Int} (H : Nat) (hD : Sl wr D ds) (hk : ∀ k, blk D k → H + 1 + 1 + 1 ≤ k) (hB : Below H w wr) (g : Nat) (hg : g = H + 1) (hH : H ≤ w.heap.size) (v0 v1 v2 v3 v4 v5 v6 : Value) :
    Sl (((((((wr.setCell ⟨g, 0, none⟩ v0).setCell ⟨g, 1, none⟩ v1).setCell ⟨g, 2, none⟩ v2).setCell ⟨g, 3, none⟩ v3).setCell ⟨g, 4, none⟩ v4).setCell ⟨g, 5, none⟩ v5).setCell ⟨g, 6, none⟩ v6) D ds ∧ (∀ k, blk D k → H ≤ k) ∧ Below H w (((((((wr.setCell ⟨g, 0, none⟩ v0).setCell ⟨g, 1, none⟩ v1).setCell ⟨g, 2, none⟩ v2).setCell ⟨g, 3, none⟩ v3).setCell ⟨g, 4, none⟩ v4).setCell ⟨g, 5, none⟩ v5).setCell ⟨g, 6, none⟩ v6) := by
  have T := turned7 wr g v0 v1 v2 v3 v4 v5 v6
  have := hB.size
  exact ⟨hD.turned T (fun k hb he => by have := hk k hb; have he : k = g := he; omega), fun k hb => by have := hk k hb; omega, hB.trans (T.below (by omega) (fun k he => by have he : k = g := he; omega))⟩
set_option maxRecDepth 100000 in
set_option maxHeartbeats 6400000 in
theorem sh_sread (L : Value) (hL : ∃ x, L = .int .u8 x) {w : World} {BF : Nat} {V : Value} {fs : List Int} (hV : Fl w BF V fs) (hfl : fs.length ≤ 6) (hfr : ∀ f ∈ fs, 0 ≤ f ∧ f ≤ 5) {B : Value} {b : List Int} (hB : Sl w B b) (hr : ∀ z ∈ b, 0 ≤ z ∧ z < 256) (hb1 : 1 ≤ b.length) (hl : b.length ≤ 140737488355328) :
    Calls Tryz.prog 42 #[.agg #[L, V], B] w fun e w' => ∃ D, e = .returned (.tuple #[msgV' (readF b fs 1 .zero).1 D, .int .i64 (readF b fs 1 .zero).2]) ∧ Sl w' D (readF b fs 1 .zero).1.digest ∧ (∀ k, blk D k → w.heap.size ≤ k) ∧ Below w.heap.size w w' := by
  obtain ⟨x, rfl⟩ := hL
  obtain ⟨g, hg1, hg2, rfl, hgc⟩ := hV
  obtain ⟨a, cap, rfl, hcap, hmax⟩ := hB.form
  have HC : Hid (∀ j (h : j < fs.length), w.cell? ⟨g, j, none⟩ = some (.int .i64 fs[j])) := hgc
  have HB : Hid (Sl w (.slice a b.length cap) b) := hB
  have HR : Hid (∀ z ∈ b, 0 ≤ z ∧ z < 256) := hr
  have HFR : Hid (∀ f ∈ fs, 0 ≤ f ∧ f ≤ 5) := hfr
  have hbl : ∀ k, blk (.slice a b.length cap) k → k < w.heap.size := hB.lt (fun h => by rw [h] at hb1; simp at hb1)
  have HBL : Hid (∀ k, blk (.slice a b.length cap) k → k < w.heap.size) := hbl
  generalize hRF : readF b fs 1 .zero = RF
  have HRF : Hid (readF b fs 1 .zero = RF) := hRF
  clear hgc hB hr hfr hRF hbl
  go_enter Tryz.func42, Tryz.ntmps42
  go_wp2_with fail
  go_loopw [7, 14] (fun ee ii wr => ∃ (j e : Nat) (m : Msg) (D : Value), ii = .int .i64 j ∧ j ≤ fs.length ∧ ee = .int .i64 e ∧ 1 ≤ e ∧ e ≤ b.length ∧ readF b (fs.drop j) e m = RF ∧ MsgB wr (w.heap.size + 1 + 1) m D ∧ Sl wr D m.digest ∧ (∀ k, blk D k → w.heap.size + 1 + 1 + 1 ≤ k) ∧ Block wr (w.heap.size + 1) 7 (msgCell .zero (.slice none 0 0)) ∧ Below (w.heap.size) w wr) (fun _ ii _ => fs.length - (intOf ii).toNat)
  case atStart =>
    refine ⟨0, 1, .zero, .slice none 0 0, rfl, Nat.zero_le _, rfl, Nat.le_refl _, hb1, HRF.out, ?_, .inl ⟨rfl, rfl⟩, fun _ h => h.elim, ?_, ?_⟩
    · have := MsgB.ofNew ((w.alloc (.cells #[.int .u8 x, .slice (some ⟨g, 0, none⟩) fs.length fs.length] 85)).alloc (.cells #[.int .i64 0, .int .u64 0, .int .u32 0, .int .u32 0, .string ⟨#[]⟩, .string ⟨#[]⟩, .slice none 0 0] 27)) .zero (.slice none 0 0) 27
      simp only [World.size_alloc] at this
      exact this
    · have h1 := MsgB.ofNew (w.alloc (.cells #[.int .u8 x, .slice (some ⟨g, 0, none⟩) fs.length fs.length] 85)) .zero (.slice none 0 0) 27
      have h2 := Block.turned h1 (alloc0m _ (.cells #[.int .i64 0, .int .u64 0, .int .u32 0, .int .u32 0, .string ⟨#[]⟩, .string ⟨#[]⟩, .slice none 0 0] 27)) (fun h => h)
      simp only [World.size_alloc] at h2
      exact h2
    · exact (((Below.refl _ _).alloc (Nat.le_refl _) _).alloc (by simp) _).alloc (by simp; omega) _
  case round =>
    obtain ⟨j, e, m, D, rfl, hj, rfl, he1, he2, hrf, hM, hD, hDk, hZ, hBw⟩ := hrel
    by_cases hlt : j < fs.length
    · have hlti : (j : Int) < (fs.length : Int) := by omega
      have hx := (hBw.cell (p := ⟨g, j, none⟩) hg2).trans (HC.out j hlt)
      have hfj := HFR.out fs[j] (List.getElem_mem hlt)
      rw [List.drop_eq_getElem_cons hlt] at hrf
      generalize fs[j] = f at hx hfj hrf
      have hBr : Sl wr (.slice a b.length cap) b := HB.out.turned (Turned.ofBelow (S := fun _ => False) hBw) (fun _ _ h => h)
      obtain ⟨aF, haF⟩ : ∃ aF, aF = (if cap = e then a else a.map (·.add e)) := ⟨_, rfl⟩
      have hc2 : ∀ W : World, (Instr.slice 25 (.slice a b.length cap) (some (.int .i64 (e : Int))) none none).run Tryz.prog W = .ok (.slice aF (b.length - e) (cap - e)) W := fun W => by rw [haF]; exact run_cutFrom Tryz.bytes (l := e) (by omega) W
      have hs := hBr.drop (n := e) (by omega)
      rw [← haF] at hs
      have hwd := sh_width f hfj hs (fun z hz => HR.out z (List.mem_of_mem_drop hz)) (by rw [List.length_drop]; omega)
      have hwp := width_pos f b e HR.out
      have hwo := width_ok f b e
      rw [readF] at hrf
      obtain ⟨n, hn⟩ : ∃ n, n = widthOf f (b.drop e) := ⟨_, rfl⟩
      rw [← hn] at hwd hwp hwo hrf
      clear hn haF
      have HX : Hid (MsgB wr (w.heap.size + 1 + 1) m D ∧ Sl wr D m.digest ∧ (∀ k, blk D k → w.heap.size + 1 + 1 + 1 ≤ k) ∧ Block wr (w.heap.size + 1) 7 (msgCell .zero (.slice none 0 0)) ∧ Below (w.heap.size) w wr ∧ Sl wr (.slice a b.length cap) b) := ⟨hM, hD, hDk, hZ, hBw, hBr⟩
      clear hM hD hDk hZ hBw hBr
      by_cases hlong : b.length < e + n
      · rw [if_pos hlong] at hrf
        have hli : (b.length : Int) < (e : Int) + (n : Int) := by omega
        have HRF2 : Hid ((m, e + n) = RF) := hrf
        obtain ⟨aD, cD, LD, rfl⟩ : ∃ a c L, D = .slice a L c := ⟨_, _, _, HX.out.2.1.form.choose_spec.choose_spec.1⟩
        obtain ⟨m0, m1, m2, m3, m4, m5, m6⟩ := HX.out.1.at_
        obtain ⟨z0, y0⟩ := HX.out.2.2.2.1 0 (by omega)
        obtain ⟨z1, y1⟩ := HX.out.2.2.2.1 1 (by omega)
        obtain ⟨z2, y2⟩ := HX.out.2.2.2.1 2 (by omega)
        obtain ⟨z3, y3⟩ := HX.out.2.2.2.1 3 (by omega)
        obtain ⟨z4, y4⟩ := HX.out.2.2.2.1 4 (by omega)
        obtain ⟨z5, y5⟩ := HX.out.2.2.2.1 5 (by omega)
        obtain ⟨z6, y6⟩ := HX.out.2.2.2.1 6 (by omega)
        simp only [msgCell] at z0 z1 z2 z3 z4 z5 z6
        clear hrf hwo hs
        go_wp2_with fail
        refine hwd.mono ?_
        rintro ev w' ⟨rfl, rfl⟩
        go_wp2
        have hE := sread_end w.heap.size HX.out.2.1 HX.out.2.2.1 HX.out.2.2.2.2.1 (w.heap.size + 1) (by omega) (by omega) (.int .i64 m.kind) (.int .u64 m.flags) (.int .u32 m.creation) (.int .u32 m.challenge) (.string m.name) (.string m.status) (.slice aD LD cD)
        have HE := Hid.mk7 hE
        refine bodyPost_ret (v := .tuple #[.agg #[.int .i64 m.kind, .int .u64 m.flags, .int .u32 m.creation, .int .u32 m.challenge, .string m.name, .string m.status, .slice aD LD cD], .int .i64 ((e : Int) + (n : Int))]) (by simp [results, Tryz.results42, go_sem, z0, z1, z2, z3, z4, z5, z6]) rfl ?_
        rw [← HRF2.out]
        exact ⟨_, by simp [msgV'], HE.out⟩
      · rw [if_neg hlong] at hrf
        have hli : ¬ (b.length : Int) < (e : Int) + (n : Int) := by omega
        have HRF2 : Hid (readF b (fs.drop (j + 1)) (e + n) (setField f m ((b.drop e).take n)) = RF) := hrf
        obtain ⟨aG, haG⟩ : ∃ aG, aG = (if cap = e then a else a.map (·.add e)) := ⟨_, rfl⟩
        have hc3 : ∀ W : World, (Instr.slice 25 (.slice a b.length cap) (some (.int .i64 (e : Int))) (some (.int .i64 ((e : Int) + (n : Int)))) none).run Tryz.prog W = .ok (.slice aG n (cap - e)) W := fun W => by rw [haG]; exact run_cut2 Tryz.bytes (l := e) (n := n) (by omega) W
        have hs2 := HX.out.2.2.2.2.2.drop (n := e) (by omega)
        rw [← haG] at hs2
        have hdl : (b.drop e).length = b.length - e := List.length_drop ..
        rw [← hdl] at hs2
        have hs3 := hs2.take (n := n) (by omega)
        have hrd := sh_fread f hfj hs3 (fun z hz => HR.out z (List.mem_of_mem_drop (List.mem_of_mem_take hz))) (hwo (by omega)) HX.out.1 HX.out.2.1 (fun k hk => by have := HX.out.2.2.1 k hk; omega)
        clear hrf hwo hs hs2 hs3 haG hdl
        go_wp2_with fail
        refine hwd.mono ?_
        rintro ev w' ⟨rfl, rfl⟩
        go_wp2_with fail
        refine hrd.mono ?_
        rintro ev w5 ⟨D5, rfl, hM5, hD5, hk5, ht5⟩
        have hww := HX.out.2.2.2.2.1.size
        have HN : Hid (MsgB w5 (w.heap.size + 1 + 1) (setField f m ((b.drop e).take n)) D5 ∧ Sl w5 D5 (setField f m ((b.drop e).take n)).digest ∧ (∀ k, blk D5 k → w.heap.size + 1 + 1 + 1 ≤ k) ∧ Block w5 (w.heap.size + 1) 7 (msgCell .zero (.slice none 0 0)) ∧ Below (w.heap.size) w w5) := ⟨hM5, hD5, fun k hk => (hk5 k hk).elim (HX.out.2.2.1 k) (fun h => by have := HX.out.1.at_.lt; omega), Block.turned HX.out.2.2.2.1 ht5 (fun h => by have h : w.heap.size + 1 = w.heap.size + 1 + 1 := h; omega), HX.out.2.2.2.2.1.trans (ht5.below hww (fun k hk => by have hk : k = w.heap.size + 1 + 1 := hk; omega))⟩
        clear hM5 hD5 hk5 ht5 hrd HX hww
        go_wp2
        go_roundw
        case rel => exact ⟨j + 1, e + n, _, D5, by go_num, by omega, by go_num, by omega, by omega, HRF2.out, HN.out⟩
        case measure => simp [intOf]; omega
    · have hge : ¬ (j : Int) < (fs.length : Int) := by omega
      rw [List.drop_eq_nil_of_le (by omega)] at hrf
      have HRF2 : Hid ((m, e) = RF) := hrf
      have HX : Hid (MsgB wr (w.heap.size + 1 + 1) m D ∧ Sl wr D m.digest ∧ (∀ k, blk D k → w.heap.size + 1 + 1 + 1 ≤ k) ∧ Block wr (w.heap.size + 1) 7 (msgCell .zero (.slice none 0 0)) ∧ Below (w.heap.size) w wr) := ⟨hM, hD, hDk, hZ, hBw⟩
      clear hM hD hDk hZ hBw hrf
      obtain ⟨aD, cD, LD, rfl⟩ : ∃ a c L, D = .slice a L c := ⟨_, _, _, HX.out.2.1.form.choose_spec.choose_spec.1⟩
      obtain ⟨m0, m1, m2, m3, m4, m5, m6⟩ := HX.out.1.at_
      obtain ⟨z0, y0⟩ := HX.out.2.2.2.1 0 (by omega)
      obtain ⟨z1, y1⟩ := HX.out.2.2.2.1 1 (by omega)
      obtain ⟨z2, y2⟩ := HX.out.2.2.2.1 2 (by omega)
      obtain ⟨z3, y3⟩ := HX.out.2.2.2.1 3 (by omega)
      obtain ⟨z4, y4⟩ := HX.out.2.2.2.1 4 (by omega)
      obtain ⟨z5, y5⟩ := HX.out.2.2.2.1 5 (by omega)
      obtain ⟨z6, y6⟩ := HX.out.2.2.2.1 6 (by omega)
      simp only [msgCell] at z0 z1 z2 z3 z4 z5 z6
      go_wp2
      have hE := sread_end w.heap.size HX.out.2.1 HX.out.2.2.1 HX.out.2.2.2.2 (w.heap.size + 1) (by omega) (by omega) (.int .i64 m.kind) (.int .u64 m.flags) (.int .u32 m.creation) (.int .u32 m.challenge) (.string m.name) (.string m.status) (.slice aD LD cD)
      have HE := Hid.mk7 hE
      refine bodyPost_ret (v := .tuple #[.agg #[.int .i64 m.kind, .int .u64 m.flags, .int .u32 m.creation, .int .u32 m.challenge, .string m.name, .string m.status, .slice aD LD cD], .int .i64 (e : Int)]) (by simp [results, Tryz.results42, go_sem, z0, z1, z2, z3, z4, z5, z6]) rfl ?_
      rw [← HRF2.out]
      exact ⟨_, by simp [msgV'], HE.out⟩
end Go.Proofs.YtmnibmgbicnamaaGreatDoor
namespace Go.Proofs.YtmnibmgbicnamaaGreatDoor
open Go.RowKit

/-- What is told of Read. -/
def ReadTold (k : Int) (b : List Int) (w : World) (e : Ending) (w' : World) : Prop := ∃ D v, e = .returned (.tuple #[msgV' (readOf k b).2 D, v]) ∧ FaultC w.heap.size w' v (readOf k b).1 ∧ Sl w' D (readOf k b).2.digest ∧ (∀ q, blk D q → w.heap.size ≤ q) ∧ Below w.heap.size w w'
/-- A refusal and no message. -/
theorem read_told_no {k : Int} {b : List Int} {w : World} {ls : List Lnk} (h : readOf k b = (ls, .zero)) {W w2 w' : World} {v : Value} (hB : Below w.heap.size w W) (hz : w.heap.size < W.heap.size) (hf : FaultC W.heap.size w2 v ls) (hb : Below W.heap.size W w2) (ht : Turned (fun q => q = w.heap.size) w2 w') : ReadTold k b w (.returned (.tuple #[.agg #[.int .i64 0, .int .u64 0, .int .u32 0, .int .u32 0, .string ⟨#[]⟩, .string ⟨#[]⟩, .slice none 0 0], v])) w' := by
  unfold ReadTold
  rw [h]
  have h1 := hB.size
  have hb2 : Below w.heap.size w w2 := hB.trans (hb.mono h1)
  exact ⟨_, _, rfl, (hf.turned ht (fun q hq _ he => by have he : q = w.heap.size := he; omega)).mono h1, .inl ⟨rfl, rfl⟩, fun _ h => h.elim, hb2.trans (ht.below hb2.size (fun q he => Nat.le_of_eq he.symm))⟩
/-- What lies there while Read runs. -/
structure RB (w : World) (sb : Nat) (x : Int) (V B : Value) (fs b : List Int) (W : World) : Prop where
  z : MsgB W w.heap.size .zero (.slice none 0 0)
  bw : Below w.heap.size w W
  v : Fl W (w.heap.size + 1) V fs
  s : ShapeAt W sb (.int .u8 x) V
  b : Sl W B b
theorem RB.below {w : World} {sb : Nat} {x : Int} {V B : Value} {fs b : List Int} {W W' : World} (h : RB w sb x V B fs b W) (hb : Below W.heap.size W W') : RB w sb x V B fs b W' :=
  ⟨Block.turned h.z (Turned.ofBelow (S := fun _ => False) hb) (fun h => h), h.bw.trans (hb.mono h.bw.size), h.v.below hb, h.s.below hb, h.b.turned (Turned.ofBelow (S := fun _ => False) hb) (fun _ _ h => h)⟩
theorem sl_first {W : World} {a : Option Addr} {cap : Nat} {b : List Int} (h : Sl W (.slice a b.length cap) b) (h1 : 1 ≤ b.length) : ∃ gb off, a = some ⟨gb, off, none⟩ ∧ W.cell? ⟨gb, off, none⟩ = some (.int .u8 (b.getD 0 0)) := by
  rcases h with ⟨_, rfl⟩ | ⟨_, _, rfl⟩ | ⟨g, off, cap', h2, _, _, h4⟩
  · simp at h1
  · simp at h1
  · injection h2 with h2
    refine ⟨g, off, h2, ?_⟩
    have := h4 0 (by omega)
    rw [Nat.add_zero] at this
    rw [this]
    cases b with
    | nil => simp at h1
    | cons z r => rfl
theorem has_status (k : Int) (hk : 1 ≤ k ∧ k ≤ 5) : decide ((4 : Int) ∈ fieldsOf k) = decide (k = 2) := by
  have h5 : k = 1 ∨ k = 2 ∨ k = 3 ∨ k = 4 ∨ k = 5 := by omega
  rcases h5 with rfl | rfl | rfl | rfl | rfl <;> decide
theorem readF_name (b : List Int) : ∀ (fs : List Int) (e : Nat) (m : Msg), (readF b fs e m).1.name.size ≤ max m.name.size b.length
  | [], e, m => by rw [readF]; exact Nat.le_max_left _ _
  | f :: r, e, m => by
    rw [readF]
    split
    · exact Nat.le_max_left _ _
    · refine Nat.le_trans (readF_name b r _ _) ?_
      have : (setField f m ((b.drop e).take (widthOf f (b.drop e)))).name.size ≤ max m.name.size b.length := by
        unfold setField
        repeat' split
        all_goals first
          | exact Nat.le_max_left _ _
          | (simp only [strOf_size, List.length_drop, List.length_take]; omega)
      omega
/-- .. and the message that was found. -/
structure RC (w : World) (sb : Nat) (x : Int) (V B : Value) (fs b : List Int) (mb : Nat) (m : Msg) (D : Value) (W : World) : Prop where
  rb : RB w sb x V B fs b W
  ms : MsgB W mb m D
  d : Sl W D m.digest
theorem RC.below {w : World} {sb : Nat} {x : Int} {V B : Value} {fs b : List Int} {mb : Nat} {m : Msg} {D : Value} {W W' : World} (h : RC w sb x V B fs b mb m D W) (hb : Below W.heap.size W W') : RC w sb x V B fs b mb m D W' :=
  ⟨h.rb.below hb, Block.turned h.ms (Turned.ofBelow (S := fun _ => False) hb) (fun h => h), h.d.turned (Turned.ofBelow (S := fun _ => False) hb) (fun _ _ h => h)⟩
set_option maxRecDepth 100000 in
set_option maxHeartbeats 12800000 in
theorem sh_read_any (k : Int) (hk : 1 ≤ k ∧ k ≤ 5) {w : World} {B : Value} {b : List Int} (hB : Sl w B b) (hr : ∀ z ∈ b, 0 ≤ z ∧ z < 256) (hl : b.length ≤ 140737488355328) (her : Er w) : Calls Tryz.prog 13 #[.int .i64 k, B] w (ReadTold k b w) := by
  obtain ⟨a, cap, rfl, hcap, hmax⟩ := hB.form
  have HT : Hid (∀ ls, readOf k b = (ls, .zero) → ∀ (W w2 w' : World) (v : Value), Below w.heap.size w W → w.heap.size < W.heap.size → FaultC W.heap.size w2 v ls → Below W.heap.size W w2 → Turned (fun q => q = w.heap.size) w2 w' → ReadTold k b w (.returned (.tuple #[.agg #[.int .i64 0, .int .u64 0, .int .u32 0, .int .u32 0, .string ⟨#[]⟩, .string ⟨#[]⟩, .slice none 0 0], v])) w') := fun _ h _ _ _ _ h1 h2 h3 h4 h5 => read_told_no h h1 h2 h3 h4 h5
  have HS : Hid (∀ W : World, Calls Tryz.prog 27 #[.int .i64 k] W fun e w' => ∃ V, e = .returned (.tuple #[.agg #[.int .u8 (letterOf k), V], .bool true]) ∧ Fl w' W.heap.size V (fieldsOf k) ∧ Below W.heap.size W w') := sh_shape k hk
  have HK : Hid (1 ≤ k ∧ k ≤ 5) := hk
  have HB : Hid (Sl w (.slice a b.length cap) b) := hB
  have HE : Hid (Er w) := her
  have HRG : Hid (∀ z ∈ b, 0 ≤ z ∧ z < 256) := hr
  have HT2 : Hid (∀ (D v : Value) (w' : World), (readOf k b).1 = [] → Sl w' D (readOf k b).2.digest → (∀ q, blk D q → w.heap.size ≤ q) → Below w.heap.size w w' → ReadTold k b w (.returned (.tuple #[msgV' (readOf k b).2 D, .nilIface])) w') := fun D v w' h1 h2 h3 h4 => ⟨D, _, rfl, by rw [h1]; rfl, h2, h3, h4⟩
  have HLE : Hid (b.length = 0 ∨ b.getD 0 0 ≠ letterOf k → readOf k b = (sh 0 160, .zero)) := fun h => by unfold readOf; rw [if_neg (by omega), if_pos h]
  have HRS : Hid (1 ≤ b.length → b.getD 0 0 = letterOf k → readOf k b = readG k b) := fun h1 h2 => (read_same k hk b hr h1 h2).symm
  generalize hTd : ReadTold k b w = T at HT HT2 ⊢
  clear hTd hB her hr hk
  go_enter Tryz.func13, Tryz.ntmps13
  go_wp2_with fail
  refine (HS.out _).mono ?_
  rintro e w1 ⟨V, rfl, hV, hb1⟩
  have B1 : Below w.heap.size w w1 := ((Below.refl _ _).alloc (Nat.le_refl _) _).trans (hb1.mono (by simp))
  have Z1 := Block.turned (MsgB.ofNew w .zero (.slice none 0 0) 27) (Turned.ofBelow (S := fun _ => False) hb1) (fun h => h)
  have A1 := (Below.refl w1.heap.size w1).alloc (Nat.le_refl _) (.cells #[.int .u8 (letterOf k), V] 85)
  simp only [World.size_alloc] at hV
  have HRB1 : Hid (RB w w1.heap.size (letterOf k) V (.slice a b.length cap) (fieldsOf k) b (w1.alloc (.cells #[.int .u8 (letterOf k), V] 85))) := ⟨Block.turned Z1 (Turned.ofBelow (S := fun _ => False) A1) (fun h => h), B1.trans (A1.mono B1.size), hV.below A1, ShapeAt.ofNew w1 _ _ _, HB.out.turned (Turned.ofBelow (S := fun _ => False) (B1.trans (A1.mono B1.size))) (fun _ _ h => h)⟩
  obtain ⟨g, hg1, hg2, rfl, hgc⟩ := hV
  clear hb1 B1 Z1 A1 hgc
  by_cases hb0 : b.length = 0
  case pos =>
    have HR : Hid (readOf k b = (sh 0 160, .zero)) := HLE.out (.inl hb0)
    have hb0i : (b.length : Int) = 0 := by omega
    go_wp2_with fail
    go_quiet (fail)
    go_wp2_with fail
    have HRB := Hid.mk7 (HRB1.out.below (drewN_below _ nq))
    refine (sh_refuse _ _ _).mono ?_
    rintro e w8 ⟨v, rfl, hf8, hb8⟩
    have Z8 := (HRB.out.below hb8).z
    obtain ⟨z0, y0⟩ := Z8 0 (by omega)
    obtain ⟨z1, y1⟩ := Z8 1 (by omega)
    obtain ⟨z2, y2⟩ := Z8 2 (by omega)
    obtain ⟨z3, y3⟩ := Z8 3 (by omega)
    obtain ⟨z4, y4⟩ := Z8 4 (by omega)
    obtain ⟨z5, y5⟩ := Z8 5 (by omega)
    obtain ⟨z6, y6⟩ := Z8 6 (by omega)
    simp only [msgCell, Msg.zero] at z0 z1 z2 z3 z4 z5 z6
    have HF8 : Hid (FaultC _ w8 v (sh 0 160) ∧ Below _ _ w8) := ⟨hf8, hb8⟩
    obtain ⟨pb, _, rfl, _⟩ := hf8
    clear hb8 Z8
    go_wp2
    refine bodyPost_ret (v := .tuple #[.agg #[.int .i64 0, .int .u64 0, .int .u32 0, .int .u32 0, .string ⟨#[]⟩, .string ⟨#[]⟩, .slice none 0 0], .iface 131 (.pointer (some ⟨pb, 0, none⟩))]) (by simp [results, Tryz.results13, go_sem, z0, z1, z2, z3, z4, z5, z6]) rfl ?_
    exact HT.out _ HR.out _ _ _ _ HRB.out.bw HRB.out.z.at_.lt HF8.out.1 HF8.out.2 (turned7 _ _ _ _ _ _ _ _ _)
  case neg =>
    have hb1 : 1 ≤ b.length := by omega
    have hb0i : ¬ (b.length : Int) = 0 := by omega
    have hq0 : ((b.length : Int) == 0) = false := by simpa using hb0
    obtain ⟨gb, off, rfl, hx0⟩ := sl_first HRB1.out.b hb1
    by_cases hlet : b.getD 0 0 = letterOf k
    case neg =>
      have HR : Hid (readOf k b = (sh 0 160, .zero)) := HLE.out (.inr hlet)
      generalize b.getD 0 0 = x0 at hx0 hlet
      have hql : (x0 == letterOf k) = false := by simpa using hlet
      go_wp2_with fail
      go_quiet (fail)
      go_wp2_with fail
      have HRB := Hid.mk7 (HRB1.out.below (drewN_below _ nq))
      refine (sh_refuse _ _ _).mono ?_
      rintro e w8 ⟨v, rfl, hf8, hb8⟩
      have Z8 := (HRB.out.below hb8).z
      obtain ⟨z0, y0⟩ := Z8 0 (by omega)
      obtain ⟨z1, y1⟩ := Z8 1 (by omega)
      obtain ⟨z2, y2⟩ := Z8 2 (by omega)
      obtain ⟨z3, y3⟩ := Z8 3 (by omega)
      obtain ⟨z4, y4⟩ := Z8 4 (by omega)
      obtain ⟨z5, y5⟩ := Z8 5 (by omega)
      obtain ⟨z6, y6⟩ := Z8 6 (by omega)
      simp only [msgCell, Msg.zero] at z0 z1 z2 z3 z4 z5 z6
      have HF8 : Hid (FaultC _ w8 v (sh 0 160) ∧ Below _ _ w8) := ⟨hf8, hb8⟩
      obtain ⟨pb, _, rfl, _⟩ := hf8
      clear hb8 Z8
      go_wp2
      refine bodyPost_ret (v := .tuple #[.agg #[.int .i64 0, .int .u64 0, .int .u32 0, .int .u32 0, .string ⟨#[]⟩, .string ⟨#[]⟩, .slice none 0 0], .iface 131 (.pointer (some ⟨pb, 0, none⟩))]) (by simp [results, Tryz.results13, go_sem, z0, z1, z2, z3, z4, z5, z6]) rfl ?_
      exact HT.out _ HR.out _ _ _ _ HRB.out.bw HRB.out.z.at_.lt HF8.out.1 HF8.out.2 (turned7 _ _ _ _ _ _ _ _ _)
    case pos =>
      have hRS := HRS.out hb1 hlet
      rw [hlet] at hx0
      clear hlet
      go_wp2_with fail
      go_quiet (fail)
      go_wp2_with fail
      have HRB := Hid.mk7 (HRB1.out.below (drewN_below _ nq))
      obtain ⟨m, e, hRF⟩ : ∃ m e, readF b (fieldsOf k) 1 .zero = (m, e) := ⟨_, _, rfl⟩
      have hrd := sh_sread (.int .u8 (letterOf k)) ⟨_, rfl⟩ HRB.out.v (fields_few k) (fields_rng k) HRB.out.b HRG.out hb1 hl
      rw [hRF] at hrd
      rw [readG_of hRF] at hRS
      have HRS2 := Hid.mk7 hRS
      have hns : m.name.size ≤ 4611686018427387904 := by
        have h1 := readF_name b (fieldsOf k) 1 .zero
        rw [hRF] at h1
        have e0 : Msg.zero.name.size = 0 := rfl
        rw [e0] at h1
        simp only at h1
        omega
      have HNS : Hid (m.name.size ≤ 4611686018427387904) := hns
      clear hns
      clear hRS hRF hx0
      refine hrd.mono ?_
      rintro ev w2 ⟨D, rfl, hD, hDk, hb2⟩
      have HRB2 := Hid.mk7 (HRB.out.below hb2)
      have A2 := (Below.refl w2.heap.size w2).alloc (Nat.le_refl _) (.cells #[.int .i64 m.kind, .int .u64 m.flags, .int .u32 m.creation, .int .u32 m.challenge, .string m.name, .string m.status, D] 27)
      have HRC : Hid (RC w w1.heap.size (letterOf k) (.slice (some ⟨g, 0, none⟩) (fieldsOf k).length (fieldsOf k).length) (.slice (some ⟨gb, off, none⟩) b.length cap) (fieldsOf k) b w2.heap.size m D (w2.alloc (.cells #[.int .i64 m.kind, .int .u64 m.flags, .int .u32 m.creation, .int .u32 m.challenge, .string m.name, .string m.status, D] 27))) := ⟨HRB2.out.below A2, MsgB.ofNew w2 m D _, hD.turned (Turned.ofBelow (S := fun _ => False) A2) (fun _ _ h => h)⟩
      have HDK : Hid ((∀ q, blk D q → w.heap.size < q) ∧ (m.digest ≠ [] → ∀ q, blk D q → q < w2.heap.size) ∧ w.heap.size < w2.heap.size) := ⟨fun q hq => by have := hDk q hq; have := HRB.out.z.at_.lt; omega, hD.lt, HRB2.out.z.at_.lt⟩
      obtain ⟨aD, cD, LD, rfl⟩ : ∃ a c L, D = .slice a L c := ⟨_, _, _, hD.form.choose_spec.choose_spec.1⟩
      unfold msgV'
      clear hD hDk hb2 A2 hrd
      by_cases hlong : b.length < e
      case pos =>
        have HR : Hid (readOf k b = (sh b.length 160, .zero)) := HRS2.out.trans (if_pos hlong)
        have hli : (b.length : Int) < (e : Int) := by omega
        have HRB := Hid.mk7 HRC.out.rb
        go_wp2_with fail
        refine (sh_refuse _ _ _).mono ?_
        rintro e w8 ⟨v, rfl, hf8, hb8⟩
        have Z8 := (HRB.out.below hb8).z
        obtain ⟨z0, y0⟩ := Z8 0 (by omega)
        obtain ⟨z1, y1⟩ := Z8 1 (by omega)
        obtain ⟨z2, y2⟩ := Z8 2 (by omega)
        obtain ⟨z3, y3⟩ := Z8 3 (by omega)
        obtain ⟨z4, y4⟩ := Z8 4 (by omega)
        obtain ⟨z5, y5⟩ := Z8 5 (by omega)
        obtain ⟨z6, y6⟩ := Z8 6 (by omega)
        simp only [msgCell, Msg.zero] at z0 z1 z2 z3 z4 z5 z6
        have HF8 : Hid (FaultC _ w8 v (sh b.length 160) ∧ Below _ _ w8) := ⟨hf8, hb8⟩
        obtain ⟨pb, _, rfl, _⟩ := hf8
        clear hb8 Z8
        go_wp2
        refine bodyPost_ret (v := .tuple #[.agg #[.int .i64 0, .int .u64 0, .int .u32 0, .int .u32 0, .string ⟨#[]⟩, .string ⟨#[]⟩, .slice none 0 0], .iface 131 (.pointer (some ⟨pb, 0, none⟩))]) (by simp [results, Tryz.results13, go_sem, z0, z1, z2, z3, z4, z5, z6]) rfl ?_
        exact HT.out _ HR.out _ _ _ _ HRB.out.bw HRB.out.z.at_.lt HF8.out.1 HF8.out.2 (turned7 _ _ _ _ _ _ _ _ _)
      case neg =>
        have hli : ¬ (b.length : Int) < (e : Int) := by omega
        have hRS3 := HRS2.out.trans (if_neg hlong)
        by_cases hshort : e < b.length
        case pos =>
          have HR : Hid (readOf k b = (sh e 160, .zero)) := hRS3.trans (if_pos hshort)
          have hsi : (e : Int) < (b.length : Int) := by omega
          have HRB := Hid.mk7 HRC.out.rb
          clear hRS3
          go_wp2_with fail
          refine (sh_refuse _ _ _).mono ?_
          rintro e w8 ⟨v, rfl, hf8, hb8⟩
          have Z8 := (HRB.out.below hb8).z
          obtain ⟨z0, y0⟩ := Z8 0 (by omega)
          obtain ⟨z1, y1⟩ := Z8 1 (by omega)
          obtain ⟨z2, y2⟩ := Z8 2 (by omega)
          obtain ⟨z3, y3⟩ := Z8 3 (by omega)
          obtain ⟨z4, y4⟩ := Z8 4 (by omega)
          obtain ⟨z5, y5⟩ := Z8 5 (by omega)
          obtain ⟨z6, y6⟩ := Z8 6 (by omega)
          simp only [msgCell, Msg.zero] at z0 z1 z2 z3 z4 z5 z6
          have HF8 : Hid (FaultC _ w8 v (sh e 160) ∧ Below _ _ w8) := ⟨hf8, hb8⟩
          obtain ⟨pb, _, rfl, _⟩ := hf8
          clear hb8 Z8
          go_wp2
          refine bodyPost_ret (v := .tuple #[.agg #[.int .i64 0, .int .u64 0, .int .u32 0, .int .u32 0, .string ⟨#[]⟩, .string ⟨#[]⟩, .slice none 0 0], .iface 131 (.pointer (some ⟨pb, 0, none⟩))]) (by simp [results, Tryz.results13, go_sem, z0, z1, z2, z3, z4, z5, z6]) rfl ?_
          exact HT.out _ HR.out _ _ _ _ HRB.out.bw HRB.out.z.at_.lt HF8.out.1 HF8.out.2 (turned7 _ _ _ _ _ _ _ _ _)
        case neg =>
          have hsi : ¬ (e : Int) < (b.length : Int) := by omega
          have HRS4 := Hid.mk7 (hRS3.trans (if_neg hshort))
          clear hRS3
          have hh4 := sh_has ⟨letterOf k, rfl⟩ HRC.out.rb.v (fields_few k) 4
          rw [has_status k HK.out] at hh4
          by_cases hk2 : k = 2
          case pos =>
            rw [decide_eq_true hk2] at hh4
            have HK2 : Hid (k = 2) := hk2
            obtain ⟨s0, s1⟩ := HRC.out.rb.s
            clear hk2
            go_wp2_with fail
            refine hh4.mono ?_
            rintro ev w3 ⟨rfl, hb3⟩
            have HRC3 := Hid.mk7 (HRC.out.below hb3)
            have c5 := HRC3.out.ms.at_.c5
            have hst := sh_status m.status w3
            clear hb3 hh4 s0 s1
            cases hS : isSt m.status with
            | false =>
              have HR : Hid (readOf k b = (sh 1 160, .zero)) := HRS4.out.trans (if_pos ⟨HK2.out, hS⟩)
              rw [hS] at hst
              have HRB := Hid.mk7 HRC3.out.rb
              clear hS
              go_wp2_with fail
              refine hst.mono ?_
              rintro ev w3' ⟨rfl, rfl⟩
              go_wp2_with fail
              refine (sh_refuse _ _ _).mono ?_
              rintro e w8 ⟨v, rfl, hf8, hb8⟩
              have Z8 := (HRB.out.below hb8).z
              obtain ⟨z0, y0⟩ := Z8 0 (by omega)
              obtain ⟨z1, y1⟩ := Z8 1 (by omega)
              obtain ⟨z2, y2⟩ := Z8 2 (by omega)
              obtain ⟨z3, y3⟩ := Z8 3 (by omega)
              obtain ⟨z4, y4⟩ := Z8 4 (by omega)
              obtain ⟨z5, y5⟩ := Z8 5 (by omega)
              obtain ⟨z6, y6⟩ := Z8 6 (by omega)
              simp only [msgCell, Msg.zero] at z0 z1 z2 z3 z4 z5 z6
              have HF8 : Hid (FaultC _ w8 v (sh 1 160) ∧ Below _ _ w8) := ⟨hf8, hb8⟩
              obtain ⟨pb, _, rfl, _⟩ := hf8
              clear hb8 Z8
              go_wp2
              refine bodyPost_ret (v := .tuple #[.agg #[.int .i64 0, .int .u64 0, .int .u32 0, .int .u32 0, .string ⟨#[]⟩, .string ⟨#[]⟩, .slice none 0 0], .iface 131 (.pointer (some ⟨pb, 0, none⟩))]) (by simp [results, Tryz.results13, go_sem, z0, z1, z2, z3, z4, z5, z6]) rfl ?_
              exact HT.out _ HR.out _ _ _ _ HRB.out.bw HRB.out.z.at_.lt HF8.out.1 HF8.out.2 (turned7 _ _ _ _ _ _ _ _ _)
            | true =>
              have HROK : Hid (readOf k b = ([], { m with kind := k })) := HRS4.out.trans ((if_neg (fun h => by rw [hS] at h; exact absurd h.2 (by decide))).trans (if_neg (fun h => by have := HK2.out; omega)))
              rw [hS] at hst
              have hh3 := sh_has ⟨letterOf k, rfl⟩ HRC3.out.rb.v (fields_few k) 3
              have hn3 : decide ((3 : Int) ∈ fieldsOf k) = false := by rw [has_name k HK.out]; exact decide_eq_false (by have := HK2.out; omega)
              rw [hn3] at hh3
              obtain ⟨s0, s1⟩ := HRC3.out.rb.s
              clear hS hn3
              go_wp2_with fail
              refine hst.mono ?_
              rintro ev w3' ⟨rfl, rfl⟩
              go_wp2_with fail
              refine hh3.mono ?_
              rintro ev wE ⟨rfl, hbE⟩
              have HRCE := Hid.mk7 (HRC3.out.below hbE)
              clear hbE hh3 s0 s1 c5 hst
              obtain ⟨z0, y0⟩ := HRCE.out.rb.z 0 (by omega)
              obtain ⟨z1, y1⟩ := HRCE.out.rb.z 1 (by omega)
              obtain ⟨z2, y2⟩ := HRCE.out.rb.z 2 (by omega)
              obtain ⟨z3, y3⟩ := HRCE.out.rb.z 3 (by omega)
              obtain ⟨z4, y4⟩ := HRCE.out.rb.z 4 (by omega)
              obtain ⟨z5, y5⟩ := HRCE.out.rb.z 5 (by omega)
              obtain ⟨z6, y6⟩ := HRCE.out.rb.z 6 (by omega)
              simp only [msgCell, Msg.zero] at z0 z1 z2 z3 z4 z5 z6
              obtain ⟨m0, m1, m2, m3, m4, m5, m6⟩ := HRCE.out.ms.at_
              obtain ⟨_, n0⟩ := HRCE.out.ms 0 (by omega)
              have hwm : ¬ w.heap.size = w2.heap.size := by have := HDK.out.2.2; omega
              have hwm' : ¬ w2.heap.size = w.heap.size := by have := HDK.out.2.2; omega
              go_wp2
              have hT := (Turned.set1 wE w2.heap.size 0 (.int .i64 k)).mono (T := fun q => q = w2.heap.size ∨ q = w.heap.size) (fun _ h => .inl (.inl h))
              have hT2 := hT.trans (turned7 (wE.setCell ⟨w2.heap.size, 0, none⟩ (.int .i64 k)) w.heap.size (.int .i64 k) (.int .u64 m.flags) (.int .u32 m.creation) (.int .u32 m.challenge) (.string m.name) (.string m.status) (.slice aD LD cD)) (fun _ h => .inl (.inr h))
              have hDe := HRCE.out.d.turnedN hT2 (fun hne q hq he => by have h1 := HDK.out.1 q hq; have h2 := HDK.out.2.1 hne q hq; omega)
              have hBe := HRCE.out.rb.bw.trans (hT2.below HRCE.out.rb.bw.size (fun q he => by have := HDK.out.2.2; omega))
              have hfin := HT2.out (.slice aD LD cD) .nilIface _ (by rw [HROK.out]) (by rw [HROK.out]; exact hDe) (fun q hq => Nat.le_of_lt (HDK.out.1 q hq)) hBe
              rw [HROK.out] at hfin
              have HFIN := Hid.mk7 hfin
              refine bodyPost_ret (v := .tuple #[.agg #[.int .i64 k, .int .u64 m.flags, .int .u32 m.creation, .int .u32 m.challenge, .string m.name, .string m.status, .slice aD LD cD], .nilIface]) (by simp [results, Tryz.results13, go_sem, z0, z1, z2, z3, z4, z5, z6]) rfl ?_
              exact HFIN.out
          case neg =>
            rw [decide_eq_false hk2] at hh4
            have HRS5 := Hid.mk7 (HRS4.out.trans (if_neg (fun h => hk2 h.1)))
            obtain ⟨s0, s1⟩ := HRC.out.rb.s
            clear hk2
            go_wp2_with fail
            refine hh4.mono ?_
            rintro ev w3 ⟨rfl, hb3⟩
            have HRC3 := Hid.mk7 (HRC.out.below hb3)
            have hh3 := sh_has ⟨letterOf k, rfl⟩ HRC3.out.rb.v (fields_few k) 3
            rw [has_name k HK.out] at hh3
            clear hb3 hh4 s0 s1
            obtain ⟨s0, s1⟩ := HRC3.out.rb.s
            by_cases hnm : k = 1 ∨ k = 3
            case neg =>
              rw [decide_eq_false hnm] at hh3
              have HROK : Hid (readOf k b = ([], { m with kind := k })) := HRS5.out.trans (if_neg (fun h => hnm h.1))
              clear hnm
              go_wp2_with fail
              refine hh3.mono ?_
              rintro ev wE ⟨rfl, hbE⟩
              have HRCE := Hid.mk7 (HRC3.out.below hbE)
              clear hbE hh3 s0 s1
              obtain ⟨z0, y0⟩ := HRCE.out.rb.z 0 (by omega)
              obtain ⟨z1, y1⟩ := HRCE.out.rb.z 1 (by omega)
              obtain ⟨z2, y2⟩ := HRCE.out.rb.z 2 (by omega)
              obtain ⟨z3, y3⟩ := HRCE.out.rb.z 3 (by omega)
              obtain ⟨z4, y4⟩ := HRCE.out.rb.z 4 (by omega)
              obtain ⟨z5, y5⟩ := HRCE.out.rb.z 5 (by omega)
              obtain ⟨z6, y6⟩ := HRCE.out.rb.z 6 (by omega)
              simp only [msgCell, Msg.zero] at z0 z1 z2 z3 z4 z5 z6
              obtain ⟨m0, m1, m2, m3, m4, m5, m6⟩ := HRCE.out.ms.at_
              obtain ⟨_, n0⟩ := HRCE.out.ms 0 (by omega)
              have hwm : ¬ w.heap.size = w2.heap.size := by have := HDK.out.2.2; omega
              have hwm' : ¬ w2.heap.size = w.heap.size := by have := HDK.out.2.2; omega
              go_wp2
              have hT := (Turned.set1 wE w2.heap.size 0 (.int .i64 k)).mono (T := fun q => q = w2.heap.size ∨ q = w.heap.size) (fun _ h => .inl (.inl h))
              have hT2 := hT.trans (turned7 (wE.setCell ⟨w2.heap.size, 0, none⟩ (.int .i64 k)) w.heap.size (.int .i64 k) (.int .u64 m.flags) (.int .u32 m.creation) (.int .u32 m.challenge) (.string m.name) (.string m.status) (.slice aD LD cD)) (fun _ h => .inl (.inr h))
              have hDe := HRCE.out.d.turnedN hT2 (fun hne q hq he => by have h1 := HDK.out.1 q hq; have h2 := HDK.out.2.1 hne q hq; omega)
              have hBe := HRCE.out.rb.bw.trans (hT2.below HRCE.out.rb.bw.size (fun q he => by have := HDK.out.2.2; omega))
              have hfin := HT2.out (.slice aD LD cD) .nilIface _ (by rw [HROK.out]) (by rw [HROK.out]; exact hDe) (fun q hq => Nat.le_of_lt (HDK.out.1 q hq)) hBe
              rw [HROK.out] at hfin
              have HFIN := Hid.mk7 hfin
              refine bodyPost_ret (v := .tuple #[.agg #[.int .i64 k, .int .u64 m.flags, .int .u32 m.creation, .int .u32 m.challenge, .string m.name, .string m.status, .slice aD LD cD], .nilIface]) (by simp [results, Tryz.results13, go_sem, z0, z1, z2, z3, z4, z5, z6]) rfl ?_
              exact HFIN.out
            case pos =>
              rw [decide_eq_true hnm] at hh3
              have HNM : Hid (k = 1 ∨ k = 3) := hnm
              clear hnm
              go_wp2_with fail
              refine hh3.mono ?_
              rintro ev w4 ⟨rfl, hb4⟩
              have HRC4 := Hid.mk7 (HRC3.out.below hb4)
              have c4 := HRC4.out.ms.at_.c4
              clear hb4 hh3 s0 s1
              have hns : m.name.size ≤ 4611686018427387904 := HNS.out
              have hnme := sh_name ((e : Int) - (m.name.size : Int)) m.name hns w4 (HE.out.below HRC4.out.rb.bw)
              cases hok : nodeOk m.name with
              | false =>
                have HR : Hid (readOf k b = (shName ((e : Int) - (m.name.size : Int)), .zero)) := HRS5.out.trans (if_pos ⟨HNM.out, hok⟩)
                rw [hok] at hnme
                have HRB := Hid.mk7 HRC4.out.rb
                clear hok
                go_wp2_with fail
                refine hnme.mono ?_
                rintro e w8 ⟨v, rfl, hf8, hb8⟩
                have hf8 : FaultC w4.heap.size w8 v (shName ((e : Int) - (m.name.size : Int))) := hf8
                have Z8 := (HRB.out.below hb8).z
                obtain ⟨z0, y0⟩ := Z8 0 (by omega)
                obtain ⟨z1, y1⟩ := Z8 1 (by omega)
                obtain ⟨z2, y2⟩ := Z8 2 (by omega)
                obtain ⟨z3, y3⟩ := Z8 3 (by omega)
                obtain ⟨z4, y4⟩ := Z8 4 (by omega)
                obtain ⟨z5, y5⟩ := Z8 5 (by omega)
                obtain ⟨z6, y6⟩ := Z8 6 (by omega)
                simp only [msgCell, Msg.zero] at z0 z1 z2 z3 z4 z5 z6
                have HF8 : Hid (FaultC _ w8 v (shName ((e : Int) - (m.name.size : Int))) ∧ Below _ _ w8) := ⟨hf8, hb8⟩
                obtain ⟨pb, qb, _, _, rfl, _⟩ := hf8
                clear hb8 Z8
                go_wp2
                refine bodyPost_ret (v := .tuple #[.agg #[.int .i64 0, .int .u64 0, .int .u32 0, .int .u32 0, .string ⟨#[]⟩, .string ⟨#[]⟩, .slice none 0 0], .iface 131 (.pointer (some ⟨pb, 0, none⟩))]) (by simp [results, Tryz.results13, go_sem, z0, z1, z2, z3, z4, z5, z6]) rfl ?_
                exact HT.out _ HR.out _ _ _ _ HRB.out.bw HRB.out.z.at_.lt HF8.out.1 HF8.out.2 (turned7 _ _ _ _ _ _ _ _ _)
              | true =>
                have HROK : Hid (readOf k b = ([], { m with kind := k })) := HRS5.out.trans (if_neg (fun h => by rw [hok] at h; exact absurd h.2 (by decide)))
                rw [hok] at hnme
                clear hok
                go_wp2_with fail
                refine hnme.mono ?_
                rintro ev wE ⟨v, rfl, hfE, hbE⟩
                have hfE : v = .nilIface := hfE
                subst hfE
                have HRCE := Hid.mk7 (HRC4.out.below hbE)
                clear hbE hnme c4
                obtain ⟨z0, y0⟩ := HRCE.out.rb.z 0 (by omega)
                obtain ⟨z1, y1⟩ := HRCE.out.rb.z 1 (by omega)
                obtain ⟨z2, y2⟩ := HRCE.out.rb.z 2 (by omega)
                obtain ⟨z3, y3⟩ := HRCE.out.rb.z 3 (by omega)
                obtain ⟨z4, y4⟩ := HRCE.out.rb.z 4 (by omega)
                obtain ⟨z5, y5⟩ := HRCE.out.rb.z 5 (by omega)
                obtain ⟨z6, y6⟩ := HRCE.out.rb.z 6 (by omega)
                simp only [msgCell, Msg.zero] at z0 z1 z2 z3 z4 z5 z6
                obtain ⟨m0, m1, m2, m3, m4, m5, m6⟩ := HRCE.out.ms.at_
                obtain ⟨_, n0⟩ := HRCE.out.ms 0 (by omega)
                have hwm : ¬ w.heap.size = w2.heap.size := by have := HDK.out.2.2; omega
                have hwm' : ¬ w2.heap.size = w.heap.size := by have := HDK.out.2.2; omega
                go_wp2
                have hT := (Turned.set1 wE w2.heap.size 0 (.int .i64 k)).mono (T := fun q => q = w2.heap.size ∨ q = w.heap.size) (fun _ h => .inl (.inl h))
                have hT2 := hT.trans (turned7 (wE.setCell ⟨w2.heap.size, 0, none⟩ (.int .i64 k)) w.heap.size (.int .i64 k) (.int .u64 m.flags) (.int .u32 m.creation) (.int .u32 m.challenge) (.string m.name) (.string m.status) (.slice aD LD cD)) (fun _ h => .inl (.inr h))
                have hDe := HRCE.out.d.turnedN hT2 (fun hne q hq he => by have h1 := HDK.out.1 q hq; have h2 := HDK.out.2.1 hne q hq; omega)
                have hBe := HRCE.out.rb.bw.trans (hT2.below HRCE.out.rb.bw.size (fun q he => by have := HDK.out.2.2; omega))
                have hfin := HT2.out (.slice aD LD cD) .nilIface _ (by rw [HROK.out]) (by rw [HROK.out]; exact hDe) (fun q hq => Nat.le_of_lt (HDK.out.1 q hq)) hBe
                rw [HROK.out] at hfin
                have HFIN := Hid.mk7 hfin
                refine bodyPost_ret (v := .tuple #[.agg #[.int .i64 k, .int .u64 m.flags, .int .u32 m.creation, .int .u32 m.challenge, .string m.name, .string m.status, .slice aD LD cD], .nilIface]) (by simp [results, Tryz.results13, go_sem, z0, z1, z2, z3, z4, z5, z6]) rfl ?_
                exact HFIN.out
structure RZ (w W : World) : Prop where
  z : MsgB W w.heap.size .zero (.slice none 0 0)
  bw : Below w.heap.size w W
theorem RZ.below {w W W' : World} (h : RZ w W) (hb : Below W.heap.size W W') : RZ w W' := ⟨Block.turned h.z (Turned.ofBelow (S := fun _ => False) hb) (fun h => h), h.bw.trans (hb.mono h.bw.size)⟩
set_option maxRecDepth 100000 in
set_option maxHeartbeats 3200000 in
theorem sh_read_kind (k : Int) (hk : k < 1 ∨ 5 < k) (b : List Int) (B : Value) (w : World) (hB : ∃ a c, B = .slice a b.length c) : Calls Tryz.prog 13 #[.int .i64 k, B] w (ReadTold k b w) := by
  have HR : Hid (readOf k b = (sh 0 1, .zero)) := by
    have h : readOf k b = (sh 0 1, .zero) := by unfold readOf; rw [if_pos hk]
    exact h
  have hsh := sh_shape_no k hk
  have HT : Hid (∀ ls, readOf k b = (ls, .zero) → ∀ (W w2 w' : World) (v : Value), Below w.heap.size w W → w.heap.size < W.heap.size → FaultC W.heap.size w2 v ls → Below W.heap.size W w2 → Turned (fun q => q = w.heap.size) w2 w' → ReadTold k b w (.returned (.tuple #[.agg #[.int .i64 0, .int .u64 0, .int .u32 0, .int .u32 0, .string ⟨#[]⟩, .string ⟨#[]⟩, .slice none 0 0], v])) w') := fun _ h _ _ _ _ h1 h2 h3 h4 h5 => read_told_no h h1 h2 h3 h4 h5
  generalize hTd : ReadTold k b w = T at HT ⊢
  obtain ⟨a, c, rfl⟩ := hB
  clear hk hTd
  go_enter Tryz.func13, Tryz.ntmps13
  go_wp2_with fail
  refine (hsh _).mono ?_
  rintro e w1 ⟨rfl, hb1⟩
  have B1 : Below w.heap.size w w1 := ((Below.refl _ _).alloc (Nat.le_refl _) _).trans (hb1.mono (by simp))
  have Z1 := Block.turned (MsgB.ofNew w .zero (.slice none 0 0) 27) (Turned.ofBelow (S := fun _ => False) hb1) (fun h => h)
  have HRB0 : Hid (RZ w w1) := ⟨Z1, B1⟩
  have A1 := Hid.mk7 ((Below.refl w1.heap.size w1).alloc (Nat.le_refl _) (.cells #[.int .u8 0, .slice none 0 0] 85))
  have HRB := Hid.mk7 (HRB0.out.below A1.out)
  clear hb1 hsh B1 Z1
  go_wp2_with fail
  refine (sh_refuse _ _ _).mono ?_
  rintro e w8 ⟨v, rfl, hf8, hb8⟩
  have Z8 := (HRB.out.below hb8).z
  obtain ⟨z0, y0⟩ := Z8 0 (by omega)
  obtain ⟨z1, y1⟩ := Z8 1 (by omega)
  obtain ⟨z2, y2⟩ := Z8 2 (by omega)
  obtain ⟨z3, y3⟩ := Z8 3 (by omega)
  obtain ⟨z4, y4⟩ := Z8 4 (by omega)
  obtain ⟨z5, y5⟩ := Z8 5 (by omega)
  obtain ⟨z6, y6⟩ := Z8 6 (by omega)
  simp only [msgCell, Msg.zero] at z0 z1 z2 z3 z4 z5 z6
  have HF8 : Hid (FaultC _ w8 v (sh 0 1) ∧ Below _ _ w8) := ⟨hf8, hb8⟩
  obtain ⟨pb, _, rfl, _⟩ := hf8
  clear hb8 Z8
  go_wp2
  refine bodyPost_ret (v := .tuple #[.agg #[.int .i64 0, .int .u64 0, .int .u32 0, .int .u32 0, .string ⟨#[]⟩, .string ⟨#[]⟩, .slice none 0 0], .iface 131 (.pointer (some ⟨pb, 0, none⟩))]) (by simp [results, Tryz.results13, go_sem, z0, z1, z2, z3, z4, z5, z6]) rfl ?_
  exact HT.out _ HR.out _ _ _ _ HRB.out.bw HRB.out.z.at_.lt HF8.out.1 HF8.out.2 (turned7 _ _ _ _ _ _ _ _ _)

/-- The program's Read. -/
theorem sh_read (k : Int) {w : World} {B : Value} {b : List Int} (hB : Sl w B b) (hr : ∀ z ∈ b, 0 ≤ z ∧ z < 256) (hl : b.length ≤ 140737488355328) (her : Er w) : Calls Tryz.prog 13 #[.int .i64 k, B] w (ReadTold k b w) := by
  by_cases hk : k < 1 ∨ 5 < k
  · exact sh_read_kind k hk b B w (by obtain ⟨a, c, h, _, _⟩ := hB.form; exact ⟨a, c, h⟩)
  · exact sh_read_any k (by omega) hB hr hl her
/-- The program's Write. -/
theorem sh_Write (m : Msg) (hm : m.Ok) (hns : m.name.size ≤ 4611686018427387904) {w : World} {D : Value} (hD : Sl w D m.digest) (her : Er w) : Calls Tryz.prog 9 #[msgV' m D] w (WriteTold m w) := by
  by_cases hk : m.kind < 1 ∨ 5 < m.kind
  · exact sh_write_kind m hk D w (by obtain ⟨a, c, h, _, _⟩ := hD.form; exact ⟨a, c, h⟩)
  · exact sh_write_any m hm (by omega) hns hD her
end Go.Proofs.YtmnibmgbicnamaaGreatDoor
