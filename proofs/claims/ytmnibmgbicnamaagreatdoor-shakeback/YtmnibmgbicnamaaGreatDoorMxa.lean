/-
  Layer 7 (mix): the program's faults; its Cookie, where it goes through the text by a range over it.
-/
import Derived.Test.YtmnibmgbicnamaaGreatDoorM3
import Derived.Laws.RangeAny
import Derived.Deep.DeepCutAuto
namespace Go.Proofs.YtmnibmgbicnamaaGreatDoor
open Go.RowKit

theorem mix_refuse (a c : Int) (w : World) : Calls Tryz.prog 113 #[.int .i64 a, .int .i64 c] w fun e w' => ∃ v, e = .returned v ∧ FaultAt w.heap.size w' v (a, c) ∧ Below w.heap.size w w' := by
  go_enter Tryz.func113, Tryz.ntmps113
  go_wp2
  go_ret
  exact ⟨_, rfl, ⟨_, Nat.le_refl _, rfl, by simp, by simp, by simp, by simp⟩, (Below.refl _ _).alloc (Nat.le_refl _) _⟩
theorem iter_below (w : World) (s : ByteArray) (pos : Nat) : Below w.heap.size w (w.iter s pos) := (Below.refl _ _).alloc (Nat.le_refl _) _
theorem iter_size (w : World) (s : ByteArray) (pos : Nat) : w.heap.size ≤ (w.iter s pos).heap.size := (iter_below w s pos).size
/-- Where and what a range over a text finds: its byte, or a rune above all bytes. -/
theorem rune_at (s : ByteArray) (pos : Nat) (h : pos < s.size) : ((s[pos].toNat : Int) ≤ 126 → Utf8.decode s pos = (s[pos].toNat, 1)) ∧ (126 < (s[pos].toNat : Int) → 126 < ((Utf8.decode s pos).1 : Int)) := by
  refine ⟨fun ha => decode_ascii s pos h (by omega), fun ha => ?_⟩
  by_cases h7 : s[pos].toNat < 128
  · rw [decode_ascii s pos h h7]; exact ha
  · have := (decode_high s pos h (by omega)).1
    omega

set_option maxRecDepth 100000 in
set_option maxHeartbeats 1600000 in
theorem mix_cookie (s : ByteArray) (hs : s.size ≤ 4611686018427387904) (w : World) : Calls Tryz.prog 100 #[.string s] w fun e w' => ∃ v, e = .returned v ∧ ErrsM w.heap.size w' v (cookieErr s) ∧ Below w.heap.size w w' := by
  unfold cookieErr
  by_cases h0 : s.size = 0
  · rw [if_pos h0]
    obtain rfl : s = ⟨#[]⟩ := by
      apply ByteArray.ext
      exact Array.eq_empty_of_size_eq_zero h0
    go_enter Tryz.func100, Tryz.ntmps100
    go_wp2_with (go_at_call 113; refine (mix_refuse _ _ _).mono ?_; rintro e w1 ⟨v, rfl, hf, hb⟩)
    go_ret
    exact ⟨v, rfl, hf, hb⟩
  · rw [if_neg h0]
    generalize hoc : (firstBad (nums s) 0).map (fun (i : Nat) => (Int.ofNat i, (140 : Int))) = oc
    have HOC : Hid ((firstBad (nums s) 0).map (fun (i : Nat) => (Int.ofNat i, (140 : Int))) = oc) := hoc
    clear hoc
    have hE : s.toList.isEmpty = false := by
      rw [← decide_eq_emptyBytes]
      simp
      intro h
      subst h
      exact h0 rfl
    go_enter Tryz.func100, Tryz.ntmps100
    go_wp2_with fail
    go_loopw [] (fun wr => ∃ pos : Nat, wr = w.iter s pos ∧ pos ≤ s.size ∧ pos ≤ 255 ∧ firstBad ((nums s).drop pos) pos = firstBad (nums s) 0) (fun wr => s.size - wr.iterPos w.heap.size)
    case atStart => exact ⟨0, rfl, Nat.zero_le _, by omega, rfl⟩
    case round =>
      obtain ⟨pos, rfl, hp, hp5, hfb⟩ := hrel
      by_cases hlt : pos < s.size
      · have hnx : ∀ ty, (Instr.next (.pointer (some ⟨w.heap.size, 0, none⟩)) true ty).run Tryz.prog (w.iter s pos) = _ := fun ty => run_next_any w s pos ty hlt
        rw [firstBad_step s pos hlt] at hfb
        obtain ⟨hr1, hr2⟩ := rune_at s pos hlt
        obtain ⟨r, wd, hdec⟩ : ∃ r wd : Nat, Utf8.decode s pos = (r, wd) := ⟨_, _, rfl⟩
        rw [hdec] at hnx hr1 hr2
        have hz := iter_size w s (pos + wd)
        have bad : (pos = 255 ∨ (s[pos].toNat : Int) < 33 ∨ 126 < (s[pos].toNat : Int)) → some ((pos : Int), (140 : Int)) = oc := fun h => by
          rw [if_pos h] at hfb
          have hoc := HOC.out
          rw [← hfb] at hoc
          exact hoc
        have ret : ∀ (v : Value) (w1 : World), some ((pos : Int), (140 : Int)) = oc → FaultAt (w.iter s (pos + wd)).heap.size w1 v (pos, 140) → Below (w.iter s (pos + wd)).heap.size (w.iter s (pos + wd)) w1 → ErrsM w.heap.size w1 v oc ∧ Below w.heap.size w w1 := fun v w1 ho hf hb => by
          subst ho
          obtain ⟨pb, h1, h2⟩ := hf
          exact ⟨⟨pb, Nat.le_trans hz h1, h2⟩, (iter_below w s (pos + wd)).trans (hb.mono hz)⟩
        have RET := Hid.mk7 ret
        by_cases h255 : pos = 255
        · have hoc := bad (.inl h255)
          clear bad ret hr1 hr2 hdec hz hfb
          subst h255
          go_wp2_with (go_at_call 113; refine (mix_refuse _ _ _).mono ?_; rintro e w1 ⟨v, rfl, hf, hb⟩)
          go_ret
          exact ⟨v, rfl, RET.out v w1 hoc hf hb⟩
        · have hq : ((pos : Int) == 255) = false := by simp; omega
          by_cases h33 : (s[pos].toNat : Int) < 33
          · have hoc := bad (.inr (.inl h33))
            have h1 := hr1 (by omega)
            have hr : (r : Int) < 33 := by simp only [Prod.mk.injEq] at h1; omega
            clear bad ret hr1 hr2 hdec hz hfb h1 h33
            go_wp2_with (go_at_call 113; refine (mix_refuse _ _ _).mono ?_; rintro e w1 ⟨v, rfl, hf, hb⟩)
            go_ret
            exact ⟨v, rfl, RET.out v w1 hoc hf hb⟩
          · by_cases h126 : 126 < (s[pos].toNat : Int)
            · have hoc := bad (.inr (.inr h126))
              have hr : 126 < (r : Int) := hr2 h126
              have hr3 : ¬ (r : Int) < 33 := by omega
              clear bad ret hr1 hr2 hdec hz hfb h33 h126
              go_wp2_with (go_at_call 113; refine (mix_refuse _ _ _).mono ?_; rintro e w1 ⟨v, rfl, hf, hb⟩)
              go_ret
              exact ⟨v, rfl, RET.out v w1 hoc hf hb⟩
            · rw [if_neg (by omega)] at hfb
              have h1 := hr1 (by omega)
              simp only [Prod.mk.injEq] at h1
              obtain ⟨hr, rfl⟩ := h1
              have hr3 : ¬ (r : Int) < 33 := by omega
              have hr4 : ¬ 126 < (r : Int) := by omega
              have HFB : Hid (firstBad ((nums s).drop (pos + 1)) (pos + 1) = firstBad (nums s) 0) := hfb
              clear bad ret RET hr1 hr2 hdec hz hfb h33 h126 hr
              go_wp2
              go_roundw
              case rel => exact ⟨pos + 1, rfl, by omega, by omega, HFB.out⟩
              case measure => simp; omega
      · have hnx : ∀ ty, (Instr.next (.pointer (some ⟨w.heap.size, 0, none⟩)) true ty).run Tryz.prog (w.iter s pos) = _ := fun ty => run_next_end w s pos ty hlt
        have hpe : pos = s.size := by omega
        have hend := firstBad_end s
        rw [← hpe] at hend
        rw [hend] at hfb
        have hoc := HOC.out
        rw [← hfb] at hoc
        have hoc : none = oc := hoc
        subst hoc
        clear hpe hend hfb
        go_wp2
        go_ret
        exact ⟨_, rfl, rfl, iter_below _ _ _⟩
end Go.Proofs.YtmnibmgbicnamaaGreatDoor
