/-
  Layer 6: the program's reader and the document's side by side (FPair).
-/
import Derived.Test.YtpbakejocjmkeaaDoorF7
namespace Go.Proofs.YtpbakejocjmkeaaDoor
open Go.RowKit

/-- Both readers, in one state; all that is theirs lies from B on. -/
structure FPair (Mem : World → Nat → (Nat → Prop) → FSt → Prop) (B : Nat) (w : World) (rb g : Nat) (S R : Nat → Prop) (f : FSt) : Prop where
  mem : Mem w rb S f
  ref : RdAt w g R f
  ok : f.Ok
  dis : ∀ k, S k → ¬ R k
  bS : ∀ k, S k → B ≤ k
  bR : ∀ k, R k → B ≤ k
  er : Er w
  erB : 0 < B
  big : B ≤ w.heap.size

theorem RdAt.own {w : World} {g : Nat} {R : Nat → Prop} {f : FSt} (h : RdAt w g R f) : R g ∧ ∀ k, R k → k < w.heap.size := by
  obtain ⟨_, _, hg, _, hl⟩ := h
  exact ⟨hg, hl⟩

theorem FPair.below {Mem : World → Nat → (Nat → Prop) → FSt → Prop} (I : FImpl Mem) {B : Nat} {w w' : World} {rb g : Nat} {S R : Nat → Prop} {f : FSt} (p : FPair Mem B w rb g S R f) (hb : Below w.heap.size w w') : FPair Mem B w' rb g S R f :=
  ⟨I.turned p.mem (Turned.ofBelow (S := fun _ => False) hb) (fun _ _ h => h), p.ref.turned (Turned.ofBelow (S := fun _ => False) hb) (fun _ _ h => h), p.ok, p.dis, p.bS, p.bR, p.er.below hb, p.erB, Nat.le_trans p.big hb.size⟩

/-- The program's call, then the document's, to one new state. -/
theorem FPair.next {Mem : World → Nat → (Nat → Prop) → FSt → Prop} (I : FImpl Mem) {B : Nat} {w w1 w2 : World} {rb g : Nat} {S R S' : Nat → Prop} {f f' : FSt} (p : FPair Mem B w rb g S R f) (hok : f'.Ok)
    (m : Mem w1 rb S' f') (T : Turned S w w1) (hS : ∀ k, S' k → S k ∨ w.heap.size ≤ k) (r : RdAt w2 g (growF R w1 w2) f') (T2 : Turned (fun k => k = g) w1 w2) : FPair Mem B w2 rb g S' (growF R w1 w2) f' ∧ Below B w w2 := by
  obtain ⟨hg, hRl⟩ := p.ref.own
  have hSg : ∀ k, S' k → ¬ k = g := fun k hk he => by
    subst he
    rcases hS k hk with h | h
    · exact p.dis k h hg
    · have := hRl k hg; omega
  have hz := T.size
  have hB : Below B w w2 := (T.below p.big p.bS).trans (T2.below (Nat.le_trans p.big T.size) (fun k hk => by subst hk; exact p.bR _ hg))
  refine ⟨⟨I.turned m T2 hSg, r, hok, fun k hk hr => ?_, fun k hk => ?_, fun k hk => ?_, (p.er.turned T (fun h => by have := p.bS _ h; have := p.erB; omega)).turned T2 (fun h => by have := p.bR _ hg; have := p.erB; omega), p.erB, Nat.le_trans p.big hB.size⟩, hB⟩
  · rcases hr with hr | hr
    · rcases hS k hk with h | h
      · exact p.dis k h hr
      · have := hRl k hr; omega
    · have := I.lt m k hk; omega
  · rcases hS k hk with h | h
    · exact p.bS k h
    · have := p.big; omega
  · rcases hk with hr | hr
    · exact p.bR k hr
    · have := p.big; omega

/-- The document's reader behind the program's call. -/
theorem FPair.refAt {Mem : World → Nat → (Nat → Prop) → FSt → Prop} {B : Nat} {w w1 : World} {rb g : Nat} {S R : Nat → Prop} {f : FSt} (p : FPair Mem B w rb g S R f) (T : Turned S w w1) : RdAt w1 g R f := p.ref.turned T (fun k hr hs => p.dis k hs hr)
end Go.Proofs.YtpbakejocjmkeaaDoor
