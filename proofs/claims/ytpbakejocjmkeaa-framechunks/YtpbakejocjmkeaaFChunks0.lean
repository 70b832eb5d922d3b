/-
  heddlelaw06.FrameChunks: what holds between its calls (Chunk), and what each call makes of it, given the program's frames.
-/
import Derived.Test.YtpbakejocjmkeaaFSame
import Derived.Test.YtpbakejocjmkeaaFPure
namespace Go.Proofs.Ytpbakejocjmkeaa
open Go.RowKit

theorem Gather.turnedS {S : Nat → Prop} {w w' : World} {B : Nat} {v : Value} {vs : List Value} {ls : List (List Int)} (h : Gather w B v vs ls) (T : Turned S w w') (d : ∀ k, blk v k → ¬ S k) (dE : ∀ i (h1 : i < vs.length) k, blk vs[i] k → ¬ S k) : Gather w' B v vs ls :=
  ⟨h.own.turned T d, h.len, fun i h1 h2 => (h.each i h1 h2).turned T (dE i h1), fun i h1 k hk => ⟨(h.off i h1 k hk).1, Nat.lt_of_lt_of_le (h.off i h1 k hk).2.1 T.size, (h.off i h1 k hk).2.2⟩, h.big⟩

/-- The reader, what it has told, and the bodies that were gathered. -/
structure Chunk (Mem : World → Nat → (Nat → Prop) → FSt → Prop) (B : Nat) (w : World) (n : Nat) (bs : List Int) (rb fr : Nat) (got : Value) (dead : Bool) (S : Nat → Prop) (f : FSt) (vs : List Value) (acc : List (List Int)) (pre : List Int) : Prop where
  mem : Mem w rb S f
  ok : f.Ok
  bS : ∀ k, S k → B ≤ k
  gat : Gather w B got vs acc
  dis : ∀ k, blk got k → ¬ S k
  disE : ∀ i (h1 : i < vs.length) k, blk vs[i] k → ¬ S k
  few : acc.length ≤ pre.length
  told : Told n pre acc
  bytes : f.bytes = wrap64 pre.length
  width : f.width = n
  live : dead = false → ¬ f.dead = true ∧ pre ++ f.held = bs.take fr
  gone : dead = true → f.dead = true ∧ ∃ tail, bs = pre ++ tail ∧ most n < lenAt n tail 0
theorem Chunk.fed {Mem : World → Nat → (Nat → Prop) → FSt → Prop} {B : Nat} {w : World} {n : Nat} {bs : List Int} {rb fr : Nat} {got : Value} {S : Nat → Prop} {f : FSt} {vs : List Value} {acc : List (List Int)} {pre : List Int} (h : Chunk Mem B w n bs rb fr got false S f vs acc pre) : Fed n pre acc f := ⟨h.width, h.told, h.bytes, (h.live rfl).1⟩
theorem Chunk.big {Mem : World → Nat → (Nat → Prop) → FSt → Prop} {B : Nat} {w : World} {n : Nat} {bs : List Int} {rb fr : Nat} {got : Value} {dead : Bool} {S : Nat → Prop} {f : FSt} {vs : List Value} {acc : List (List Int)} {pre : List Int} (h : Chunk Mem B w n bs rb fr got dead S f vs acc pre) : pre.length ≤ bs.length := by
  cases dead with
  | false =>
    have := congrArg List.length (h.live rfl).2
    simp at this
    omega
  | true =>
    obtain ⟨_, tail, ht, _⟩ := h.gone rfl
    rw [ht]
    simp
/-- The reader turned: what was gathered reads on. -/
theorem Chunk.stir {Mem : World → Nat → (Nat → Prop) → FSt → Prop} {B : Nat} {w w' : World} {n : Nat} {bs : List Int} {rb fr : Nat} {got : Value} {dead : Bool} {S S' : Nat → Prop} {f : FSt} {vs : List Value} {acc : List (List Int)} {pre : List Int} (h : Chunk Mem B w n bs rb fr got dead S f vs acc pre) (hB : B ≤ w.heap.size) (T : Turned S w w') (hS : ∀ k, S' k → S k ∨ w.heap.size ≤ k) :
    Gather w' B got vs acc ∧ (∀ k, blk got k → ¬ S' k) ∧ (∀ i (h1 : i < vs.length) k, blk vs[i] k → ¬ S' k) ∧ ∀ k, S' k → B ≤ k :=
  ⟨h.gat.turnedS T h.dis h.disE, fun k hk hs => (hS k hs).elim (h.dis k hk) (fun hl => by have := h.gat.own.blk_lt k hk; omega), fun i h1 k hk hs => (hS k hs).elim (h.disE i h1 k hk) (fun hl => by have := (h.gat.off i h1 k hk).2.1; omega), fun k hk => (hS k hk).elim (h.bS k) (Nat.le_trans hB)⟩

theorem Chunk.feed {Mem : World → Nat → (Nat → Prop) → FSt → Prop} (I : FImpl Mem) {B : Nat} {w : World} {n : Nat} {bs : List Int} {rb fr tt : Nat} {got : Value} {dead : Bool} {S : Nat → Prop} {f : FSt} {vs : List Value} {acc : List (List Int)} {pre : List Int} (h : Chunk Mem B w n bs rb fr got dead S f vs acc pre)
    (hB : B ≤ w.heap.size) (hf : fr ≤ tt) (ht : tt ≤ bs.length) (hl : bs.length ≤ 16777216) (hr : Rng bs) {v : Value} (hx : Sl w v ((bs.take tt).drop fr)) (hv : (bs.take tt).drop fr ≠ [] → ∀ k, blk v k → k < B) :
    Calls Try.prog 8 #[.pointer (some ⟨rb, 0, none⟩), v] w fun e w' => ∃ u S' f', e = .returned u ∧ (u = .nilIface ∨ dead = true ∧ ∃ t x, u = .iface t x) ∧ Chunk Mem B w' n bs rb tt got dead S' f' vs acc pre ∧ Turned S w w' ∧ ∀ k, S' k → S k ∨ w.heap.size ≤ k := by
  have hrp : Rng ((bs.take tt).drop fr) := (hr.take tt).drop fr
  have hpl : ((bs.take tt).drop fr).length = tt - fr := by simp; omega
  refine (I.feed h.mem h.ok hx hrp (by omega) (fun hne k hk hs => by have := hv hne k hk; have := h.bS k hs; omega)).mono ?_
  rintro e w' ⟨u, S', rfl, he, hm, T, hS⟩
  obtain ⟨g1, g2, g3, g4⟩ := h.stir hB T hS
  have hok := h.ok.feed hrp
  cases dead with
  | false =>
    obtain ⟨hd, hp⟩ := h.live rfl
    have hpp := congrArg List.length hp
    simp only [List.length_append, List.length_take] at hpp
    obtain ⟨hfe, _⟩ := h.fed.feed (bs := (bs.take tt).drop fr) (by omega)
    rw [hfe] at he hm hok
    refine ⟨u, S', _, rfl, .inl he, ⟨hm, hok, g4, g1, g2, g3, h.few, h.told, h.bytes, h.width, fun _ => ⟨hd, ?_⟩, fun h => by cases h⟩, T, hS⟩
    show pre ++ (f.held ++ (bs.take tt).drop fr) = bs.take tt
    rw [← List.append_assoc, hp]
    have : bs.take fr = (bs.take tt).take fr := by rw [List.take_take, Nat.min_eq_left hf]
    rw [this, List.take_append_drop]
  | true =>
    obtain ⟨hd, hg⟩ := h.gone rfl
    have hfe : f.feed ((bs.take tt).drop fr) = (some (f.bytes, 120), f) := by unfold FSt.feed; rw [if_pos hd]
    rw [hfe] at he hm
    obtain ⟨pb, _, hu, _⟩ := he
    exact ⟨u, S', f, rfl, .inr ⟨rfl, _, _, hu⟩, ⟨hm, h.ok, g4, g1, g2, g3, h.few, h.told, h.bytes, h.width, (fun h => by cases h), fun _ => ⟨hd, hg⟩⟩, T, hS⟩

/-- What Next made of it. -/
inductive Nexted (Mem : World → Nat → (Nat → Prop) → FSt → Prop) (S0 : Nat → Prop) (h0 B : Nat) (w : World) (n : Nat) (bs : List Int) (rb fr : Nat) (got : Value) (dead : Bool) (vs : List Value) (acc : List (List Int)) (pre : List Int) : Value → Bool → Value → Prop
  | wait {V : Value} {S : Nat → Prop} {f : FSt} (hS : ∀ k, S k → S0 k ∨ h0 ≤ k) (hd : dead = false) (h : Chunk Mem B w n bs rb fr got false S f vs acc pre) (hs : splitOf n (bs.take fr) = (none, acc, pre.length)) : Nexted Mem S0 h0 B w n bs rb fr got dead vs acc pre V false .nilIface
  | bad {V x : Value} {t : TypeId} {S : Nat → Prop} {f : FSt} (hS : ∀ k, S k → S0 k ∨ h0 ≤ k) (h : Chunk Mem B w n bs rb fr got true S f vs acc pre) : Nexted Mem S0 h0 B w n bs rb fr got dead vs acc pre V false (.iface t x)
  | tells {V : Value} {S : Nat → Prop} {f : FSt} {b pre' : List Int} (hS : ∀ k, S k → S0 k ∨ h0 ≤ k) (hd : dead = false) (sl : Sl w V b) (own : OwnV w got vs) (off : ∀ k, blk V k → B ≤ k ∧ k < w.heap.size ∧ ¬ blk got k)
      (push : ∀ {w1 w2 : World} {got' : Value}, Turned (fun _ => False) w w1 → OwnV w2 got' (vs ++ [V]) → Turned (blk got) w1 w2 → (∀ k, blk got' k → blk got k ∨ k = w1.heap.size) → Chunk Mem B w2 n bs rb fr got' false S f (vs ++ [V]) (acc ++ [b]) pre') : Nexted Mem S0 h0 B w n bs rb fr got dead vs acc pre V true .nilIface

theorem Chunk.next {Mem : World → Nat → (Nat → Prop) → FSt → Prop} (I : FImpl Mem) {B : Nat} {w : World} {n : Nat} {bs : List Int} {rb fr : Nat} {got : Value} {dead : Bool} {S : Nat → Prop} {f : FSt} {vs : List Value} {acc : List (List Int)} {pre : List Int} (h : Chunk Mem B w n bs rb fr got dead S f vs acc pre)
    (hn : n = 2 ∨ n = 4) (hB : B ≤ w.heap.size) :
    Calls Try.prog 9 #[.pointer (some ⟨rb, 0, none⟩)] w fun e w' => ∃ V o v, e = .returned (.tuple #[V, .bool o, v]) ∧ Nexted Mem S w.heap.size B w' n bs rb fr got dead vs acc pre V o v ∧ Turned S w w' := by
  refine (I.next h.mem h.ok).mono ?_
  rintro e w' ⟨V, v, S', rfl, he, hV, hVk, hm, T, hS⟩
  obtain ⟨g1, g2, g3, g4⟩ := h.stir hB T hS
  have hok := h.ok.next
  refine ⟨V, _, v, rfl, ?_, T⟩
  cases dead with
  | true =>
    obtain ⟨hd, hg⟩ := h.gone rfl
    have hfe : f.next = (some (f.bytes, 120), none, f) := by unfold FSt.next; rw [if_pos hd]
    rw [hfe] at he hm ⊢
    obtain ⟨pb, _, hu, _⟩ := he
    subst hu
    exact .bad hS ⟨hm, h.ok, g4, g1, g2, g3, h.few, h.told, h.bytes, h.width, (fun h => by cases h), fun _ => ⟨hd, hg⟩⟩
  | false =>
    obtain ⟨hd, hp⟩ := h.live rfl
    by_cases hb : most n < lenAt n f.held 0
    · have hfe := h.fed.bad hb
      rw [hfe] at he hm hok ⊢
      obtain ⟨pb, _, hu, _⟩ := he
      subst hu
      refine .bad hS ⟨hm, hok, g4, g1, g2, g3, h.few, h.told, h.bytes, h.width, (fun h => by cases h), fun _ => ⟨rfl, f.held ++ bs.drop fr, ?_, ?_⟩⟩
      · rw [← List.append_assoc, hp, List.take_append_drop]
      · have h0 : ¬ f.held.length < n := fun hf => by
          rw [lenAt_few hf] at hb
          rcases hn with h | h <;> subst h <;> exact absurd hb (by decide)
        rw [lenAt_more h0]
        exact hb
    · by_cases hw : lenAt n f.held 0 < 0 ∨ (f.held.length : Int) - n < lenAt n f.held 0
      · have hfe := h.fed.wait hb hw
        rw [hfe] at he hm ⊢
        have he : v = .nilIface := he
        subst he
        exact .wait hS rfl ⟨hm, h.ok, g4, g1, g2, g3, h.few, h.told, h.bytes, h.width, (fun _ => ⟨hd, hp⟩), (fun h => by cases h)⟩ (by rw [← hp]; exact h.told.whole hb hw)
      · obtain ⟨b, pre', f', hfe, hfed, hpre, hlen⟩ := h.fed.tells hb hw
        rw [hfe] at he hm hV hok ⊢
        have he : v = .nilIface := he
        subst he
        have hV : Sl w' V b := hV
        have hpl : pre.length + n + b.length = pre'.length := by
          have := congrArg List.length hpre
          simp only [List.length_append] at this
          omega
        refine .tells (S := S') (f := f') (b := b) (pre' := pre') hS rfl hV g1.own (fun k hk => ⟨Nat.le_trans hB (hVk k hk).1, (hVk k hk).2.1, fun hg => by have := h.gat.own.blk_lt k hg; have := (hVk k hk).1; omega⟩) ?_
        intro w1 w2 got' T1 ho T2 hg
        have hlt : ∀ k, S' k → k < w'.heap.size := I.lt hm
        have hm1 := I.turned hm T1 (fun _ _ h => h)
        have hm2 := I.turned hm1 T2 (fun k hk hb => g2 k hb hk)
        have hz := T1.size
        have hz0 := T.size
        refine ⟨hm2, hok, g4, (g1.turned T1).snoc (by omega) (hV.turned T1 (fun _ _ h => h)) (fun k hk => ⟨by have := (hVk k hk).1; omega, by have := (hVk k hk).2.1; omega, fun hg => by have := h.gat.own.blk_lt k hg; have := (hVk k hk).1; omega⟩) ho T2 hg, ?_, ?_, by simp; have := h.few; omega, hfed.told, hfed.bytes, hfed.width, fun _ => ⟨hfed.alive, by rw [hpre, hp]⟩, fun h => by cases h⟩
        · intro k hk hs
          rcases hg k hk with h1 | h1
          · exact g2 k h1 hs
          · have := hlt k hs; omega
        · intro i h1 k hk hs
          by_cases hi : i < vs.length
          · rw [List.getElem_append_left hi] at hk
            exact g3 i hi k hk hs
          · rw [List.getElem_append_right (by omega)] at hk
            have e1 : i - vs.length = 0 := by simp at h1; omega
            simp only [e1, List.getElem_cons_zero] at hk
            exact (hVk k hk).2.2 hs
/-- What all of it was. -/
theorem Chunk.bad {Mem : World → Nat → (Nat → Prop) → FSt → Prop} {B : Nat} {w : World} {n : Nat} {bs : List Int} {rb fr : Nat} {got : Value} {S : Nat → Prop} {f : FSt} {vs : List Value} {acc : List (List Int)} {pre : List Int} (h : Chunk Mem B w n bs rb fr got true S f vs acc pre) (hn : n = 2 ∨ n = 4) :
    splitOf n bs = (some ((pre.length : Int), 120), [], 0) ∧ splitOf n (bs.take pre.length) = (none, acc, pre.length) := by
  obtain ⟨_, tail, ht, hb⟩ := h.gone rfl
  refine ⟨by rw [ht]; exact h.told.bad hb, ?_⟩
  have : bs.take pre.length = pre := by rw [ht]; exact List.take_left' rfl
  rw [this]
  exact h.told.done hn
end Go.Proofs.Ytpbakejocjmkeaa
