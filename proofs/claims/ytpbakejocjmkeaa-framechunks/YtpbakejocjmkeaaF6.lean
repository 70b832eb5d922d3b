/-
  The document's frame and reader, one contract a call; what is asked of the program's (FImpl).
-/
import Derived.Test.YtpbakejocjmkeaaF5
namespace Go.Proofs.Ytpbakejocjmkeaa
open Go.RowKit


/-- What R grows by. -/
def growF (R : Nat → Prop) (w w' : World) (k : Nat) : Prop := R k ∨ (w.heap.size ≤ k ∧ k < w'.heap.size)

/-- The program's frames and readers. Mem w rb S f: in w the reader at block rb has the state f, and lies in the blocks of S. -/
structure FImpl (Mem : World → Nat → (Nat → Prop) → FSt → Prop) : Prop where
  lt : ∀ {w : World} {rb : Nat} {S : Nat → Prop} {f : FSt}, Mem w rb S f → ∀ k, S k → k < w.heap.size
  turned : ∀ {w w' : World} {rb : Nat} {S T : Nat → Prop} {f : FSt}, Mem w rb S f → Turned T w w' → (∀ k, S k → ¬ T k) → Mem w' rb S f
  frame : ∀ {w : World} {b : Value} {bs : List Int} (n : Int), Sl w b bs → bs.length ≤ 140737488355328 →
    Calls Try.prog 12 #[.int .i64 n, b] w fun e w' => ∃ V v, e = .returned (.tuple #[V, v]) ∧ ErrsF w.heap.size w' v (frameErr n bs) ∧ Sl w' V (frameBytes n bs) ∧ Below w.heap.size w w' ∧ ∀ k, blk V k → w.heap.size ≤ k
  newBad : ∀ (n : Int) (w : World), n ≠ 2 → n ≠ 4 → Calls Try.prog 5 #[.int .i64 n] w fun e w' => ∃ v, e = .returned (.tuple #[.pointer none, v]) ∧ ErrsF w.heap.size w' v (some (0, 1)) ∧ Below w.heap.size w w'
  new : ∀ (n : Nat) (w : World), n = 2 ∨ n = 4 → Calls Try.prog 5 #[.int .i64 n] w fun e w' => ∃ rb S, e = .returned (.tuple #[.pointer (some ⟨rb, 0, none⟩), .nilIface]) ∧ Mem w' rb S (FSt.fresh n) ∧ Below w.heap.size w w' ∧ ∀ k, S k → w.heap.size ≤ k
  feed : ∀ {w : World} {rb : Nat} {S : Nat → Prop} {f : FSt}, Mem w rb S f → f.Ok → ∀ {b : Value} {bs : List Int}, Sl w b bs → Rng bs → bs.length ≤ 140737488355328 → (bs ≠ [] → ∀ k, blk b k → ¬ S k) →
    Calls Try.prog 8 #[.pointer (some ⟨rb, 0, none⟩), b] w fun e w' => ∃ v S', e = .returned v ∧ ErrsF w.heap.size w' v (f.feed bs).1 ∧ Mem w' rb S' (f.feed bs).2 ∧ Turned S w w' ∧ ∀ k, S' k → S k ∨ w.heap.size ≤ k
  next : ∀ {w : World} {rb : Nat} {S : Nat → Prop} {f : FSt}, Mem w rb S f → f.Ok →
    Calls Try.prog 9 #[.pointer (some ⟨rb, 0, none⟩)] w fun e w' => ∃ V v S', e = .returned (.tuple #[V, .bool f.next.2.1.isSome, v]) ∧ ErrsF w.heap.size w' v f.next.1 ∧ Sl w' V (bodyOf f.next.2.1) ∧ (∀ k, blk V k → w.heap.size ≤ k ∧ k < w'.heap.size ∧ ¬ S' k) ∧ Mem w' rb S' f.next.2.2 ∧ Turned S w w' ∧ ∀ k, S' k → S k ∨ w.heap.size ≤ k
  state : ∀ {w : World} {rb : Nat} {S : Nat → Prop} {f : FSt}, Mem w rb S f → f.Ok →
    Calls Try.prog 11 #[.pointer (some ⟨rb, 0, none⟩)] w fun e w' => e = .returned f.framing ∧ Below w.heap.size w w'
end Go.Proofs.Ytpbakejocjmkeaa
