/-
  The document's frame and reader, one contract a call; what is asked of the program's (FImpl).
-/
import Derived.Test.YtpbakejocjmkeaaDoorF5
namespace Go.Proofs.YtpbakejocjmkeaaDoor
open Go.RowKit


theorem ref_frame {w : World} {b : Value} {bs : List Int} (n : Int) (hx : Sl w b bs) :
    Calls Tryd.prog 8 #[.int .i64 n, b] w fun e w' => ∃ V v, e = .returned (.tuple #[V, v]) ∧ LinksF w.heap.size w' v (frameErr n bs) ∧ Sl w' V (frameBytes n bs) ∧ Below w.heap.size w w' ∧ ∀ k, blk V k → w.heap.size ≤ k := by
  unfold frameErr frameBytes
  by_cases h : n ≠ 2 ∧ n ≠ 4
  · rw [if_pos h, if_pos h]
    exact (refFrame_arg n h.1 h.2 b w).mono fun e w' ⟨v, h1, h2, h3⟩ => ⟨_, v, h1, h2, .inl ⟨rfl, rfl⟩, h3, fun _ hk => hk.elim⟩
  rw [if_neg h, if_neg h]
  have hn : n = 2 ∨ n = 4 := by omega
  by_cases hl : most n < (bs.length : Int)
  · rw [if_pos hl, if_pos hl]
    exact (refFrame_long n hn hx hl).mono fun e w' ⟨v, h1, h2, h3⟩ => ⟨_, v, h1, h2, .inl ⟨rfl, rfl⟩, h3, fun _ hk => hk.elim⟩
  rw [if_neg hl, if_neg hl]
  have hT : ∀ {a b : World}, Turned (fun _ => False) a b → Below a.heap.size a b := fun h => h.below (Nat.le_refl _) (fun _ h => h.elim)
  rcases hn with rfl | rfl
  · have : most 2 = 1024 := rfl
    exact (refFrame2 hx (by omega)).mono fun e w' ⟨V, h1, h2, h3, h4⟩ => ⟨V, _, h1, rfl, h2.sl, hT h3, h4⟩
  · have : most 4 = 131072 := rfl
    exact (refFrame4 hx (by omega)).mono fun e w' ⟨V, h1, h2, h3, h4⟩ => ⟨V, _, h1, rfl, h2.sl, hT h3, h4⟩

/-- What R grows by. -/
def growF (R : Nat → Prop) (w w' : World) (k : Nat) : Prop := R k ∨ (w.heap.size ≤ k ∧ k < w'.heap.size)

theorem ref_feed {w : World} {g : Nat} {R : Nat → Prop} {f : FSt} (h : RdAt w g R f) (hok : f.Ok) {b : Value} {bs : List Int} (hx : Sl w b bs) (hl : bs.length ≤ 140737488355328) :
    Calls Tryd.prog 17 #[.pointer (some ⟨g, 0, none⟩), b] w fun e w' => ∃ v, e = .returned v ∧ LinksF w.heap.size w' v (f.feed bs).1 ∧ RdAt w' g (growF R w w') (f.feed bs).2 ∧ Turned (fun k => k = g) w w' := by
  obtain ⟨B, hm, hg, hB, hR⟩ := h
  have keep : ∀ {w' : World}, Below w.heap.size w w' → RdAt w' g (growF R w w') f := fun {w'} hb => ⟨B, hm.turned (Turned.ofBelow (S := fun _ => False) hb) (fun h => h) (fun _ _ h => h), .inl hg, fun k hk => .inl (hB k hk), fun k hk => hk.elim (fun h => Nat.lt_of_lt_of_le (hR k h) hb.size) (fun h => h.2)⟩
  unfold FSt.feed
  by_cases hd : f.dead = true
  · rw [if_pos hd]
    exact (refFeed_dead hm hd b).mono fun e w' ⟨v, h1, h2, h3⟩ => ⟨v, h1, h2, keep h3, Turned.ofBelow h3⟩
  rw [if_neg hd]
  have hd' : f.dead = false := by simpa using hd
  by_cases hlo : 16777216 < (f.held.length : Int) + bs.length
  · rw [if_pos hlo]
    exact (refFeed_long hm hd' hok.held hx hl hlo).mono fun e w' ⟨v, h1, h2, h3⟩ => ⟨v, h1, h2, keep h3, Turned.ofBelow h3⟩
  rw [if_neg hlo]
  exact (refFeed_ok hm hd' hx hlo).mono fun e w' ⟨h1, B', h2, h3, h4⟩ => ⟨_, h1, rfl, ⟨B', h2, .inl hg, fun k hk => .inr ⟨h4 k hk, h2.lt k hk⟩, fun k hk => hk.elim (fun h => Nat.lt_of_lt_of_le (hR k h) h3.size) (fun h => h.2)⟩, h3⟩

theorem ref_widen {w : World} {g : Nat} {R : Nat → Prop} {f : FSt} (h : RdAt w g R f) (hok : f.Ok) :
    Calls Tryd.prog 21 #[.pointer (some ⟨g, 0, none⟩)] w fun e w' => ∃ v, e = .returned v ∧ LinksF w.heap.size w' v f.widen.1 ∧ RdAt w' g (growF R w w') f.widen.2 ∧ Turned (fun k => k = g) w w' := by
  obtain ⟨B, hm, hg, hB, hR⟩ := h
  have keep : ∀ {w' : World}, Below w.heap.size w w' → RdAt w' g (growF R w w') f := fun {w'} hb => ⟨B, hm.turned (Turned.ofBelow (S := fun _ => False) hb) (fun h => h) (fun _ _ h => h), .inl hg, fun k hk => .inl (hB k hk), fun k hk => hk.elim (fun h => Nat.lt_of_lt_of_le (hR k h) hb.size) (fun h => h.2)⟩
  unfold FSt.widen
  by_cases hd : f.dead = true
  · rw [if_pos hd]
    exact (refWiden_dead hm hd).mono fun e w' ⟨v, h1, h2, h3⟩ => ⟨v, h1, h2, keep h3, Turned.ofBelow h3⟩
  rw [if_neg hd]
  have hd' : f.dead = false := by simpa using hd
  by_cases h4 : f.width = 4
  · rw [if_pos h4]
    exact (refWiden_twice hm hd' h4).mono fun e w' ⟨v, h1, h2, h3⟩ => ⟨v, h1, h2, keep h3, Turned.ofBelow h3⟩
  rw [if_neg h4]
  exact (refWiden_ok hm hd' (hok.width.resolve_right h4)).mono fun e w' ⟨h1, h2, h3⟩ => ⟨_, h1, rfl, ⟨B, h2, .inl hg, fun k hk => .inl (hB k hk), fun k hk => hk.elim (fun h => Nat.lt_of_lt_of_le (hR k h) h3.size) (fun h => h.2)⟩, h3⟩



theorem ref_next {w : World} {g : Nat} {R : Nat → Prop} {f : FSt} (h : RdAt w g R f) (hok : f.Ok) :
    Calls Tryd.prog 19 #[.pointer (some ⟨g, 0, none⟩)] w fun e w' => ∃ V v, e = .returned (.tuple #[V, .bool f.next.2.1.isSome, v]) ∧ LinksF w.heap.size w' v f.next.1 ∧ Sl w' V (bodyOf f.next.2.1) ∧ (∀ k, blk V k → w.heap.size ≤ k ∧ k < w'.heap.size) ∧ RdAt w' g (growF R w w') f.next.2.2 ∧ Turned (fun k => k = g) w w' := by
  obtain ⟨B, hm, hg, hB, hR⟩ := h
  have keep : ∀ {w' : World}, Below w.heap.size w w' → RdAt w' g (growF R w w') f := fun {w'} hb => ⟨B, hm.turned (Turned.ofBelow (S := fun _ => False) hb) (fun h => h) (fun _ _ h => h), .inl hg, fun k hk => .inl (hB k hk), fun k hk => hk.elim (fun h => Nat.lt_of_lt_of_le (hR k h) hb.size) (fun h => h.2)⟩
  by_cases hd : f.dead = true
  · have hr : f.next = (some (f.bytes, 120), none, f) := by unfold FSt.next; rw [if_pos hd]
    rw [hr]
    exact (refNext_dead hm hd).mono fun e w' ⟨v, h1, h2, h3⟩ => ⟨_, v, h1, h2, .inl ⟨rfl, rfl⟩, fun _ hk => hk.elim, keep h3, Turned.ofBelow h3⟩
  have hd' : f.dead = false := by simpa using hd
  by_cases hl : most f.width < f.len
  · have hr : f.next = (some (f.bytes, 120), none, { f with dead := true }) := by unfold FSt.next; rw [if_neg hd, if_pos hl]
    rw [hr]
    exact (refNext_big hm hok hd' hl).mono fun e w' ⟨v, h1, h2, h3, h4⟩ => ⟨_, v, h1, h2, .inl ⟨rfl, rfl⟩, fun _ hk => hk.elim, ⟨B, h3, .inl hg, fun k hk => .inl (hB k hk), fun k hk => hk.elim (fun h => Nat.lt_of_lt_of_le (hR k h) h4.size) (fun h => h.2)⟩, h4⟩
  by_cases hn : f.len < 0 ∨ (f.held.length : Int) - f.width < f.len
  · have hr : f.next = (none, none, f) := by unfold FSt.next; rw [if_neg hd, if_neg hl, if_pos hn]
    rw [hr]
    exact (refNext_none hm hok hd' hl hn).mono fun e w' ⟨h1, h2⟩ => by
      subst h2
      exact ⟨_, _, h1, rfl, .inl ⟨rfl, rfl⟩, fun _ hk => hk.elim, keep (Below.refl _ _), Turned.refl _ _⟩
  · rw [FSt.past_next hd hl hn]
    have h0 : f.len = (f.len.toNat : Int) := by omega
    exact (refNext_ok hm hok hd' h0 hl (by omega)).mono fun e w' ⟨V, B', h1, h2, h3, h4, h5, h6⟩ => ⟨V, _, h1, rfl, h2.sl, fun k hk => ⟨h3 k hk, h2.blk_lt k hk⟩, ⟨B', h4, .inl hg, fun k hk => .inl (hB k (h5 k hk)), fun k hk => hk.elim (fun h => Nat.lt_of_lt_of_le (hR k h) h6.size) (fun h => h.2)⟩, h6⟩

/-- The program's frames and readers. Mem w rb S f: in w the reader at block rb has the state f, and lies in the blocks of S. -/
structure FImpl (Mem : World → Nat → (Nat → Prop) → FSt → Prop) : Prop where
  lt : ∀ {w : World} {rb : Nat} {S : Nat → Prop} {f : FSt}, Mem w rb S f → ∀ k, S k → k < w.heap.size
  turned : ∀ {w w' : World} {rb : Nat} {S T : Nat → Prop} {f : FSt}, Mem w rb S f → Turned T w w' → (∀ k, S k → ¬ T k) → Mem w' rb S f
  frame : ∀ {w : World} {b : Value} {bs : List Int} (n : Int), Sl w b bs → bs.length ≤ 140737488355328 →
    Calls Tryd.prog 7 #[.int .i64 n, b] w fun e w' => ∃ V v, e = .returned (.tuple #[V, v]) ∧ ErrsF w.heap.size w' v (frameErr n bs) ∧ Sl w' V (frameBytes n bs) ∧ Below w.heap.size w w' ∧ ∀ k, blk V k → w.heap.size ≤ k
  newBad : ∀ (n : Int) (w : World), n ≠ 2 → n ≠ 4 → Calls Tryd.prog 14 #[.int .i64 n] w fun e w' => ∃ v, e = .returned (.tuple #[.pointer none, v]) ∧ ErrsF w.heap.size w' v (some (0, 1)) ∧ Below w.heap.size w w'
  new : ∀ (n : Nat) (w : World), n = 2 ∨ n = 4 → Calls Tryd.prog 14 #[.int .i64 n] w fun e w' => ∃ rb S, e = .returned (.tuple #[.pointer (some ⟨rb, 0, none⟩), .nilIface]) ∧ Mem w' rb S (FSt.fresh n) ∧ Below w.heap.size w w' ∧ ∀ k, S k → w.heap.size ≤ k
  feed : ∀ {w : World} {rb : Nat} {S : Nat → Prop} {f : FSt}, Mem w rb S f → f.Ok → ∀ {b : Value} {bs : List Int}, Sl w b bs → Rng bs → bs.length ≤ 140737488355328 → (bs ≠ [] → ∀ k, blk b k → ¬ S k) →
    Calls Tryd.prog 16 #[.pointer (some ⟨rb, 0, none⟩), b] w fun e w' => ∃ v S', e = .returned v ∧ ErrsF w.heap.size w' v (f.feed bs).1 ∧ Mem w' rb S' (f.feed bs).2 ∧ Turned S w w' ∧ ∀ k, S' k → S k ∨ w.heap.size ≤ k
  next : ∀ {w : World} {rb : Nat} {S : Nat → Prop} {f : FSt}, Mem w rb S f → f.Ok →
    Calls Tryd.prog 18 #[.pointer (some ⟨rb, 0, none⟩)] w fun e w' => ∃ V v S', e = .returned (.tuple #[V, .bool f.next.2.1.isSome, v]) ∧ ErrsF w.heap.size w' v f.next.1 ∧ Sl w' V (bodyOf f.next.2.1) ∧ (∀ k, blk V k → w.heap.size ≤ k ∧ k < w'.heap.size ∧ ¬ S' k) ∧ Mem w' rb S' f.next.2.2 ∧ Turned S w w' ∧ ∀ k, S' k → S k ∨ w.heap.size ≤ k
  widen : ∀ {w : World} {rb : Nat} {S : Nat → Prop} {f : FSt}, Mem w rb S f → f.Ok →
    Calls Tryd.prog 20 #[.pointer (some ⟨rb, 0, none⟩)] w fun e w' => ∃ v S', e = .returned v ∧ ErrsF w.heap.size w' v f.widen.1 ∧ Mem w' rb S' f.widen.2 ∧ Turned S w w' ∧ ∀ k, S' k → S k ∨ w.heap.size ≤ k
  state : ∀ {w : World} {rb : Nat} {S : Nat → Prop} {f : FSt}, Mem w rb S f → f.Ok →
    Calls Tryd.prog 22 #[.pointer (some ⟨rb, 0, none⟩)] w fun e w' => e = .returned f.framing ∧ Below w.heap.size w w'
end Go.Proofs.YtpbakejocjmkeaaDoor
