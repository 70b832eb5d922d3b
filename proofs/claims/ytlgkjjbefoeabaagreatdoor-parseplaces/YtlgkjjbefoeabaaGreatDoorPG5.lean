/-
  Layer 11 (parse): how far the program's parser has come; a row of phrases.
-/
import Derived.Test.YtlgkjjbefoeabaaGreatDoorPG4
namespace Go.Proofs.YtlgkjjbefoeabaaGreatDoor
open Go.RowKit

/-- From one world to another a parser has read so far. -/
structure Rg (T : List Tk) (w wr : World) (g : Nat) (Tv Nv : Value) (N : List Nd) (s : Ps) (Nv1 : Value) (M1 : List Nd) : Prop where
  ps : PS wr g Tv T Nv1 (N ++ M1) s
  off : ∀ n ∈ M1, ∀ k, blk n.kv k → w.heap.size ≤ k
  st : Stp g Nv Nv1 w wr
section
variable {T : List Tk} {w wr w2 : World} {g : Nat} {Tv Nv Nv1 Nv2 : Value} {N M1 M2 : List Nd} {s t : Ps}
theorem Rg.refl (h : PS w g Tv T Nv N s) : Rg T w w g Tv Nv N s Nv [] := ⟨by simpa using h, fun n hn => by (cases hn), ⟨Turned.refl _ _, fun _ e => .inl e⟩⟩
theorem Rg.below (h : Rg T w wr g Tv Nv N s Nv1 M1) (hb : Below wr.heap.size wr w2) : Rg T w w2 g Tv Nv N s Nv1 M1 := ⟨h.ps.below hb, h.off, h.st.trans (Stp.ofB hb)⟩
theorem Rg.size (h : Rg T w wr g Tv Nv N s Nv1 M1) : w.heap.size ≤ wr.heap.size := h.st.t.size
theorem Rg.more (h : Rg T w wr g Tv Nv N s Nv1 M1) (o : ∀ n ∈ M2, ∀ k, blk n.kv k → wr.heap.size ≤ k) (p : PS w2 g Tv T Nv2 (N ++ M1 ++ M2) t) (S : Stp g Nv1 Nv2 wr w2) : Rg T w w2 g Tv Nv N t Nv2 (M1 ++ M2) :=
  ⟨by simpa [List.append_assoc] using p, fun n hn k hk => (List.mem_append.1 hn).elim (fun hn => h.off n hn k hk) (fun hn => Nat.le_trans h.size (o n hn k hk)), h.st.trans S⟩
theorem Rg.bad (h : Rg T w wr g Tv Nv N s Nv1 M1) (T2 : Turned (fun k => k = g ∨ blk Nv1 k) wr w2) : Turned (fun k => k = g ∨ blk Nv k) w w2 := h.st.t.trans T2 (fun k e => e.elim (fun e => .inl (.inl e)) (fun e => (h.st.n k e).elim (fun e => .inl (.inr e)) .inr))
/-- Some tokens are passed by. -/
theorem Rg.skip (h : Rg T w wr g Tv Nv N s Nv1 M1) (n : Nat) (hn : s.i + n ≤ T.length) : Rg T w (wr.setCell ⟨g, 1, none⟩ (.int .i64 ((s.i + n : Nat) : Int))) g Tv Nv N ⟨s.i + n, s.N⟩ Nv1 M1 := by
  obtain ⟨h2, T2⟩ := h.ps.at_.next (s.i + n) hn rfl
  refine ⟨⟨h2, h.ps.n, h.ps.ok.next hn, ?_⟩, h.off, h.st.trans (Stp.ofG T2)⟩
  have := h.ps.cnt
  unfold Cnt at this ⊢
  simp only
  omega
theorem Rg.of (h : Rg T w wr g Tv Nv N t Nv1 M1) {a : Nat} : Rd T w g Tv Nv N (.ok (a, t)) (.returned (.int .i64 (a : Nat))) wr := ⟨rfl, Nv1, M1, h.off, h.ps, h.st⟩
/-- What a phrase has read. -/
theorem Rg.rd (h : Rg T w wr g Tv Nv N s Nv1 M1) {a : Nat} {x : Ending} (hr : Rd T wr g Tv Nv1 (N ++ M1) (.ok (a, t)) x w2) : x = .returned (.int .i64 (a : Nat)) ∧ ∃ Nv2 M2, Rg T w w2 g Tv Nv N t Nv2 M2 ∧ Stp g Nv1 Nv2 wr w2 ∧ ∃ M3, M2 = M1 ++ M3 ∧ ∀ n ∈ M3, ∀ k, blk n.kv k → wr.heap.size ≤ k := by
  obtain ⟨rfl, Nv2, M3, o, p, S⟩ := hr
  exact ⟨rfl, Nv2, M1 ++ M3, h.more o p S, S, M3, rfl, o⟩
end
/-- Kids that are gathered, in memory of one's own. -/
structure Kd (T : List Tk) (w wr : World) (g : Nat) (Tv Nv1 : Value) (N : List Nd) (V : Value) (l : List Int) : Prop where
  own : OwnI wr V l
  fv : ∀ k, blk V k → w.heap.size ≤ k ∧ Free wr g Tv Nv1 N k
section
variable {T : List Tk} {w wr w2 : World} {g : Nat} {Tv Nv Nv1 Nv2 V V2 : Value} {N M1 M2 : List Nd} {s t : Ps} {l : List Int}
theorem Kd.below (h : Kd T w wr g Tv Nv1 N V l) (hb : Below wr.heap.size wr w2) : Kd T w w2 g Tv Nv1 N V l := ⟨OwnK.turned h.own (Turned.ofBelow (S := fun _ => False) hb) (fun _ _ e => e), fun k hk => ⟨(h.fv k hk).1, ⟨(h.fv k hk).2.g, (h.fv k hk).2.t, (h.fv k hk).2.n, (h.fv k hk).2.k⟩⟩⟩
theorem Kd.set (h : Kd T w wr g Tv Nv1 N V l) (j : Nat) (v : Value) : Kd T w (wr.setCell ⟨g, j, none⟩ v) g Tv Nv1 N V l := ⟨OwnK.turned h.own (Turned.set1 wr g j v) (fun k hk e => (h.fv k hk).2.g e), fun k hk => ⟨(h.fv k hk).1, ⟨(h.fv k hk).2.g, (h.fv k hk).2.t, (h.fv k hk).2.n, (h.fv k hk).2.k⟩⟩⟩
theorem Kd.step (h : Kd T w wr g Tv Nv1 N V l) (S : Stp g Nv1 Nv2 wr w2) (o : ∀ n ∈ M2, ∀ k, blk n.kv k → wr.heap.size ≤ k) : Kd T w w2 g Tv Nv2 (N ++ M2) V l :=
  ⟨OwnK.turned h.own S.t (fun k hk e => e.elim (h.fv k hk).2.g (h.fv k hk).2.n), fun k hk => ⟨(h.fv k hk).1, (h.fv k hk).2.step (OwnK.blk_lt h.own k hk) S o⟩⟩
/-- One more. -/
theorem Kd.more (h : Kd T w wr g Tv Nv1 N V l) (hp : PAt wr g Tv T s.i Nv1 N) (hT : 0 < T.length) (hw : w.heap.size ≤ wr.heap.size) {w3 w4 : World} (hb : Below wr.heap.size wr w3) {q : Int} (ho : OwnK 1 w4 V2 (l.length + 1) (ints l ++ ints [q])) (T4 : Turned (blk V) w3 w4) (hv : ∀ k, blk V2 k → blk V k ∨ k = w3.heap.size) :
    Kd T w w4 g Tv Nv1 N V2 (l ++ [q]) ∧ PAt w4 g Tv T s.i Nv1 N ∧ Turned (blk V) wr w4 := by
  have hz := hb.size
  have TT : Turned (blk V) wr w4 := (Turned.ofBelow (S := blk V) hb).trans T4 (fun _ e => .inl e)
  refine ⟨⟨OwnI.snoc ho, fun k hk => ?_⟩, hp.offS (w0 := wr) (fun k e => (h.fv k e).2) TT, TT⟩
  rcases hv k hk with e | e
  · exact ⟨(h.fv k e).1, ⟨(h.fv k e).2.g, (h.fv k e).2.t, (h.fv k e).2.n, (h.fv k e).2.k⟩⟩
  · have f := hp.free hT k (by omega)
    exact ⟨by omega, ⟨f.g, f.t, f.n, f.k⟩⟩
theorem Rg.mine (h : Rg T w wr g Tv Nv N s Nv1 M1) {k : Nat → Prop} (hk : ∀ q, k q → w.heap.size ≤ q) (p : PAt w2 g Tv T s.i Nv1 (N ++ M1)) (T2 : Turned k wr w2) : Rg T w w2 g Tv Nv N s Nv1 M1 :=
  ⟨⟨p, h.ps.n, h.ps.ok, h.ps.cnt⟩, h.off, ⟨h.st.t.trans T2 (fun q e => .inr (hk q e)), h.st.n⟩⟩
end
/-- Where a parser is, seen in memory. -/
def posOf (w : World) (g : Nat) : Nat := match w.cell? ⟨g, 1, none⟩ with
  | some (.int _ z) => z.toNat
  | _ => 0
theorem PAt.pos {w : World} {g : Nat} {Tv : Value} {T : List Tk} {i : Nat} {Nv : Value} {N : List Nd} (h : PAt w g Tv T i Nv N) : posOf w g = i := by simp [posOf, h.c1.1]
end Go.Proofs.YtlgkjjbefoeabaaGreatDoor
