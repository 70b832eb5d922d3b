/-
  Layer 6 (frame), of lists of bytes alone: frames one behind the other are split into their bodies; what a reader tells is what a split tells.
-/
import Derived.Test.YtpbakejocjmkeaaFDef
namespace Go.Proofs.Ytpbakejocjmkeaa
open Go.RowKit

theorem lenAt_shift (n : Nat) (pre tail : List Int) : lenAt n (pre ++ tail) pre.length = lenAt n tail 0 := by
  unfold lenAt
  simp only [List.length_append, List.drop_append, List.drop_length, List.nil_append, Nat.sub_self, List.drop_zero, Nat.zero_add]
  by_cases h : tail.length < n
  · rw [if_pos (by omega), if_pos h]
  · rw [if_neg (by omega), if_neg h]
theorem lenAt_head {n : Nat} {h : List Int} (hl : h.length = n) (tail : List Int) : lenAt n (h ++ tail) 0 = numOf h := by
  unfold lenAt
  rw [if_neg (by simp; omega), List.drop_zero, ← hl, List.take_left']
  rfl
theorem lenAt_more {n : Nat} {held more : List Int} (h : ¬ held.length < n) : lenAt n (held ++ more) 0 = lenAt n held 0 := by
  unfold lenAt
  rw [if_neg (by simp; omega), if_neg (by omega), List.drop_zero, List.drop_zero, List.take_append_of_le_length (by omega)]
theorem lenAt_few {n : Nat} {held : List Int} (h : held.length < n) : lenAt n held 0 = -1 := by
  unfold lenAt
  rw [if_pos (by omega)]
theorem splitFrom_fuel {n : Nat} (hn : 0 < n) (bs : List Int) : ∀ (k k' a : Nat) (acc : List (List Int)), a ≤ bs.length → bs.length < a + k → bs.length < a + k' → splitFrom n bs k a acc = splitFrom n bs k' a acc
  | 0, _, _, _, h0, h1, _ => by omega
  | k + 1, 0, _, _, h0, _, h2 => by omega
  | k + 1, k' + 1, a, acc, h0, h1, h2 => by
    unfold splitFrom
    by_cases h3 : most n < lenAt n bs a
    · rw [if_pos h3, if_pos h3]
    · rw [if_neg h3, if_neg h3]
      by_cases h4 : lenAt n bs a < 0 ∨ (bs.length : Int) - a - n < lenAt n bs a
      · rw [if_pos h4, if_pos h4]
      · rw [if_neg h4, if_neg h4]
        have h5 : ¬ lenAt n bs a < 0 := fun h => h4 (.inl h)
        have h6 : ¬ (bs.length : Int) - a - n < lenAt n bs a := fun h => h4 (.inr h)
        exact splitFrom_fuel hn bs k k' _ _ (by omega) (by omega) (by omega)
/-- Behind these bytes a split has told these bodies, whatever comes behind them. -/
def Told (n : Nat) (pre : List Int) (acc : List (List Int)) : Prop :=
  ∀ (tail : List Int) (k : Nat), tail.length < k → splitOf n (pre ++ tail) = splitFrom n (pre ++ tail) k pre.length acc
theorem Told.nil {n : Nat} (hn : 0 < n) : Told n [] [] := fun tail k hk => by
  simp only [List.nil_append, List.length_nil]
  exact splitFrom_fuel hn tail _ _ _ _ (by omega) (by omega) (by omega)
theorem Told.step {n : Nat} {pre h b : List Int} {acc : List (List Int)} (t : Told n pre acc) (hl : h.length = n) (hh : numOf h = b.length) (hm : (b.length : Int) ≤ most n) : Told n (pre ++ h ++ b) (acc ++ [b]) := fun tail k hk => by
  have e : pre ++ h ++ b ++ tail = pre ++ (h ++ (b ++ tail)) := by simp only [List.append_assoc]
  have e2 : pre ++ (h ++ (b ++ tail)) = (pre ++ h) ++ (b ++ tail) := by simp only [List.append_assoc]
  have h1 := t (h ++ (b ++ tail)) (k + n + b.length + 1) (by simp; omega)
  have hle : lenAt n (pre ++ (h ++ (b ++ tail))) pre.length = (b.length : Int) := by rw [lenAt_shift, lenAt_head hl, hh]
  rw [e, h1, splitFrom, hle, if_neg (by omega), if_neg (by simp only [List.length_append]; omega), Int.toNat_natCast]
  have hd : ((pre ++ (h ++ (b ++ tail))).drop (pre.length + n)).take b.length = b := by
    rw [e2, List.drop_append_of_le_length (by simp; omega), List.drop_of_length_le (by simp; omega), List.nil_append, List.take_left']
    rfl
  by_cases hn : 0 < n
  · rw [hd, splitFrom_fuel hn _ (k + n + b.length) k _ _ (by simp; omega) (by simp; omega) (by simp; omega)]
    congr 1
    simp only [List.length_append]
    omega
  · exfalso
    have h0 : n = 0 := by omega
    subst h0
    have : most ((0 : Nat) : Int) = -1 := rfl
    omega
/-- A length that is too great. -/
theorem Told.bad {n : Nat} {pre tail : List Int} {acc : List (List Int)} (t : Told n pre acc) (h : most n < lenAt n tail 0) : splitOf n (pre ++ tail) = (some ((pre.length : Int), 120), [], 0) := by
  rw [t tail (tail.length + 1) (by omega), splitFrom, lenAt_shift, if_pos h]
/-- Nothing whole behind it. -/
theorem Told.whole {n : Nat} {pre tail : List Int} {acc : List (List Int)} (t : Told n pre acc) (hb : ¬ most n < lenAt n tail 0) (h : lenAt n tail 0 < 0 ∨ (tail.length : Int) - n < lenAt n tail 0) : splitOf n (pre ++ tail) = (none, acc, pre.length) := by
  rw [t tail (tail.length + 1) (by omega), splitFrom, lenAt_shift, if_neg hb, if_pos]
  simp only [List.length_append]
  rcases h with h | h
  · exact .inl h
  · exact .inr (by omega)
theorem Told.done {n : Nat} (hn : n = 2 ∨ n = 4) {pre : List Int} {acc : List (List Int)} (t : Told n pre acc) : splitOf n pre = (none, acc, pre.length) := by
  have hf : lenAt n [] 0 = -1 := lenAt_few (by simp; omega)
  have h := t.whole (tail := []) (by rw [hf]; rcases hn with h | h <;> subst h <;> decide) (.inl (by rw [hf]; decide))
  rwa [List.append_nil] at h
/-- The head of a frame tells its body's length. -/
theorem head_len {w : Int} {m : Nat} (hw : w = 2 ∨ w = 4) : ((headOf w m).length : Int) = w := by
  rcases hw with h | h <;> subst h <;> rfl
theorem head_num {w : Int} {m : Nat} (hw : w = 2 ∨ w = 4) (hm : (m : Int) ≤ most w) : numOf (headOf w m) = m := by
  rcases hw with h | h <;> subst h
  · have h1 : most 2 = 1024 := rfl
    simp only [headOf, show ¬ (2 : Int) = 4 by decide, if_false, numOf, List.foldl_cons, List.foldl_nil]
    omega
  · have h1 : most 4 = 131072 := rfl
    simp only [headOf, if_true, numOf, List.foldl_cons, List.foldl_nil]
    omega
/-- Frames, one behind the other. -/
def framesOf (w : Int) : List (List Int) → List Int
  | [] => []
  | b :: l => frameBytes w b ++ framesOf w l
theorem framesOf_snoc (w : Int) (b : List Int) : ∀ l : List (List Int), framesOf w (l ++ [b]) = framesOf w l ++ frameBytes w b
  | [] => by simp [framesOf]
  | c :: l => by rw [List.cons_append, framesOf, framesOf_snoc w b l, framesOf, List.append_assoc]
theorem frameBytes_ok {w : Int} {b : List Int} (h : frameErr w b = none) : (w = 2 ∨ w = 4) ∧ (b.length : Int) ≤ most w ∧ frameBytes w b = headOf w b.length ++ b := by
  unfold frameErr at h
  split at h
  · simp at h
  · rename_i h1
    split at h
    · simp at h
    · rename_i h2
      exact ⟨by omega, by omega, by unfold frameBytes; rw [if_neg h1, if_neg h2]⟩
theorem told_frames {n : Nat} (hn : n = 2 ∨ n = 4) : ∀ (l acc : List (List Int)) (pre : List Int), Told n pre acc → (∀ b ∈ l, frameErr n b = none) → Told n (pre ++ framesOf n l) (acc ++ l)
  | [], acc, pre, t, _ => by simpa [framesOf] using t
  | b :: l, acc, pre, t, hl => by
    obtain ⟨hw, hm, hb⟩ := frameBytes_ok (hl b (List.mem_cons_self ..))
    have h1 := t.step (h := headOf n b.length) (b := b) (by have := head_len (m := b.length) hw; omega) (head_num hw hm) hm
    have h2 := told_frames hn l _ _ h1 (fun c hc => hl c (List.mem_cons_of_mem _ hc))
    rw [framesOf, hb]
    simpa only [List.append_assoc, List.cons_append, List.nil_append] using h2
/-- There and back: frames, one behind the other, are split into their bodies. -/
theorem split_frames {n : Nat} (hn : n = 2 ∨ n = 4) {l : List (List Int)} (hl : ∀ b ∈ l, frameErr n b = none) : splitOf n (framesOf n l) = (none, l, (framesOf n l).length) := by
  have h := (told_frames hn l [] [] (Told.nil (by omega)) hl).done hn
  simpa only [List.nil_append] using h
/-- A reader that is not dead and has told these bodies of these bytes. -/
structure Fed (n : Nat) (pre : List Int) (acc : List (List Int)) (f : FSt) : Prop where
  width : f.width = n
  told : Told n pre acc
  bytes : f.bytes = wrap64 pre.length
  alive : ¬ f.dead = true
theorem Fed.fresh {n : Nat} (hn : 0 < n) : Fed n [] [] (FSt.fresh n) := ⟨rfl, Told.nil hn, by show (0 : Int) = wrap64 ((0 : Nat) : Int); unfold wrap64; rfl, by simp [FSt.fresh]⟩
theorem Fed.feed {n : Nat} {pre : List Int} {acc : List (List Int)} {f : FSt} (h : Fed n pre acc f) {bs : List Int} (hs : (f.held.length : Int) + bs.length ≤ 16777216) : f.feed bs = (none, { f with held := f.held ++ bs }) ∧ Fed n pre acc { f with held := f.held ++ bs } :=
  ⟨by unfold FSt.feed; rw [if_neg h.alive, if_neg (by omega)], ⟨h.width, h.told, h.bytes, h.alive⟩⟩
theorem Fed.bad {n : Nat} {pre : List Int} {acc : List (List Int)} {f : FSt} (h : Fed n pre acc f) (hb : most n < lenAt n f.held 0) : f.next = (some (f.bytes, 120), none, { f with dead := true }) := by
  unfold FSt.next
  rw [if_neg h.alive, if_pos (by rw [FSt.len, h.width]; exact hb)]
theorem Fed.wait {n : Nat} {pre : List Int} {acc : List (List Int)} {f : FSt} (h : Fed n pre acc f) (hb : ¬ most n < lenAt n f.held 0) (hw : lenAt n f.held 0 < 0 ∨ (f.held.length : Int) - n < lenAt n f.held 0) : f.next = (none, none, f) := by
  unfold FSt.next
  rw [if_neg h.alive, if_neg (by rw [FSt.len, h.width]; exact hb), if_pos (by rw [FSt.len, h.width]; exact hw)]
theorem wrap_add (a b : Int) : wrap64 (wrap64 a + b) = wrap64 (a + b) := by
  unfold wrap64
  omega
theorem Fed.tells {n : Nat} {pre : List Int} {acc : List (List Int)} {f : FSt} (h : Fed n pre acc f) (hb : ¬ most n < lenAt n f.held 0) (hw : ¬ (lenAt n f.held 0 < 0 ∨ (f.held.length : Int) - n < lenAt n f.held 0)) :
    ∃ b pre' f', f.next = (none, some b, f') ∧ Fed n pre' (acc ++ [b]) f' ∧ pre' ++ f'.held = pre ++ f.held ∧ f'.held.length + n + b.length = f.held.length := by
  have hl : f.len = lenAt n f.held 0 := by rw [FSt.len, h.width]
  have h0 : ¬ lenAt n f.held 0 < 0 := fun x => hw (.inl x)
  have h1 : ¬ (f.held.length : Int) - n < lenAt n f.held 0 := fun x => hw (.inr x)
  have hn : ¬ f.held.length < n := by omega
  have hx := FSt.past_next h.alive (by rw [hl, h.width]; exact hb) (by rw [hl, h.width]; exact hw)
  rw [hl, h.width] at hx
  generalize hm : (lenAt n f.held 0).toNat = m at hx
  have hbl : ((f.held.drop n).take m).length = m := by simp; omega
  have hnum : numOf (f.held.take n) = (m : Int) := by
    have : lenAt n f.held 0 = numOf (f.held.take n) := by unfold lenAt; rw [if_neg (by omega), List.drop_zero]
    omega
  refine ⟨_, pre ++ f.held.take n ++ (f.held.drop n).take m, _, hx, ⟨h.width, h.told.step (by simp; omega) (by rw [hnum, hbl]) (by rw [hbl]; omega), ?_, h.alive⟩, ?_, ?_⟩
  · show wrap64 (f.bytes + _) = _
    rw [h.bytes, wrap_add, h.width]
    congr 1
    simp only [List.length_append, hbl, List.length_take]
    omega
  · show _ ++ f.held.drop (f.width + m) = _
    rw [h.width, ← List.drop_drop]
    simp only [List.append_assoc, List.take_append_drop]
  · show (f.held.drop (f.width + m)).length + n + _ = _
    rw [h.width, hbl]
    simp
    omega
end Go.Proofs.Ytpbakejocjmkeaa
