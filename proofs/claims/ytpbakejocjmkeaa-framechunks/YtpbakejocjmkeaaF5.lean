/-
  The document's Next (heddleref06.Reader), where a body is there.
-/
import Derived.Test.YtpbakejocjmkeaaF4
namespace Go.Proofs.Ytpbakejocjmkeaa
open Go.RowKit

/-- 'x[l:l+n]' of a slice of bytes. -/
theorem run_cut2 {P : Program} {t e : TypeId} (hB : ByteTypes P t e) {a : Option Addr} {len cap l n : Nat} (h : l + n ≤ cap) (W : World) :
    (Instr.slice t (.slice a len cap) (some (.int .i64 (l : Int))) (some (.int .i64 ((l : Int) + (n : Int)))) none).run P W = .ok (.slice (if cap = l then a else a.map (·.add l)) n (cap - l)) W := by
  obtain ⟨i, hi, hz, hsz, hby⟩ := hB.info
  have e1 : ((l : Int) + (n : Int)).toNat = l + n := by omega
  have e3 : l + n - l = n := by omega
  have b2 := run_sliceBound (P := P) (w := W) .i64 ((l : Int) + (n : Int)) cap .sliceAcap (by omega) (by omega)
  have b3 := run_sliceBound (P := P) (w := W) .i64 (l : Int) (l + n) .sliceB (by omega) (by omega)
  simp [Instr.slice, run_underlying hB.slice, Instr.sliceBounds, b2, b3, e1, e3, sizeOf, typeInfo, hi, hsz]
/-- 'x[l+n:]' of a slice of bytes. -/
theorem run_cutRest {P : Program} {t e : TypeId} (hB : ByteTypes P t e) {a : Option Addr} {len cap l n : Nat} (h : l + n ≤ len) (W : World) :
    (Instr.slice t (.slice a len cap) (some (.int .i64 ((l : Int) + (n : Int)))) none none).run P W = .ok (.slice (if cap = l + n then a else a.map (·.add (l + n))) (len - (l + n)) (cap - (l + n))) W := by
  obtain ⟨i, hi, hz, hsz, hby⟩ := hB.info
  have e1 : ((l : Int) + (n : Int)).toNat = l + n := by omega
  have b3 := run_sliceBound (P := P) (w := W) .i64 ((l : Int) + (n : Int)) len .sliceB (by omega) (by omega)
  simp [Instr.slice, run_underlying hB.slice, Instr.sliceBounds, b3, e1, sizeOf, typeInfo, hi, hsz]
theorem blk_if {a : Option Addr} {n m cap len p : Nat} {c : Prop} [Decidable c] : ∀ k, blk (.slice (if c then a else a.map (·.add p)) n m) k → blk (.slice a len cap) k := by
  intro k hk
  by_cases h : c
  · rw [if_pos h] at hk
    cases a with
    | none => exact hk
    | some a => exact hk
  · rw [if_neg h] at hk
    cases a with
    | none => exact hk
    | some a =>
      by_cases h0 : p = 0
      · subst h0; simpa [blk, Addr.add] using hk
      · simpa [blk, Addr.add, h0] using hk
theorem wrapTwice (a : Int) (b c : Nat) : wrap64 (wrap64 (a + b) + c) = wrap64 (a + (b + c : Nat)) := by unfold wrap64; omega


/-- The memory behind it. -/
theorem RdMem.past {w w1 : World} {g m : Nat} {f : FSt} {B D : Value} (h : RdMem w g f B) (T : Turned (fun _ => False) w w1) (hD : Sl w D (f.held.drop (f.width + m))) (hDB : ∀ k, blk D k → blk B k) :
    RdMem ((((w1.setCell ⟨g, 6, none⟩ D).setCell ⟨g, 1, none⟩ (.int .i64 ((f.held.length - (f.width + m) : Nat) : Int))).setCell ⟨g, 2, none⟩ (.int .i64 (wrap64 (f.frames + 1)))).setCell ⟨g, 4, none⟩ (.int .i64 (wrap64 (f.bytes + (f.width + m : Nat))))) g (f.past m false) D ∧
    Turned (fun k => k = g) w ((((w1.setCell ⟨g, 6, none⟩ D).setCell ⟨g, 1, none⟩ (.int .i64 ((f.held.length - (f.width + m) : Nat) : Int))).setCell ⟨g, 2, none⟩ (.int .i64 (wrap64 (f.frames + 1)))).setCell ⟨g, 4, none⟩ (.int .i64 (wrap64 (f.bytes + (f.width + m : Nat))))) ∧ Turned (fun k => k = g) w1 ((((w1.setCell ⟨g, 6, none⟩ D).setCell ⟨g, 1, none⟩ (.int .i64 ((f.held.length - (f.width + m) : Nat) : Int))).setCell ⟨g, 2, none⟩ (.int .i64 (wrap64 (f.frames + 1)))).setCell ⟨g, 4, none⟩ (.int .i64 (wrap64 (f.bytes + (f.width + m : Nat))))) := by
  have T3 := (((Turned.setCell w1 ⟨g, 6, none⟩ D).trans (Turned.setCell _ ⟨g, 1, none⟩ (.int .i64 ((f.held.length - (f.width + m) : Nat) : Int))) (fun _ h => .inl h)).trans (Turned.setCell _ ⟨g, 2, none⟩ (.int .i64 (wrap64 (f.frames + 1)))) (fun _ h => .inl h)).trans (Turned.setCell _ ⟨g, 4, none⟩ (.int .i64 (wrap64 (f.bytes + (f.width + m : Nat))))) (fun _ h => .inl h)
  have hn : ∀ k, blk D k → ¬ k = g := fun k hk => h.ne k (hDB k hk)
  refine ⟨⟨(((((h.cells.turned T (fun h => h)).set 6 D).set 1 _).set 2 _).set 4 _).congr (forall7 rfl ?_ rfl rfl rfl rfl rfl), (hD.turned T (fun _ _ h => h)).turned T3 hn, fun k hk => ?_, hn⟩, (T.mono (fun _ h => h.elim)).trans T3 (fun _ h => .inl h), T3⟩
  · simp [rdCell, FSt.past]
  · have h1 := h.lt k (hDB k hk)
    have h2 := T.size
    have h3 := T3.size
    omega
theorem RdMem.tick {w : World} {g m : Nat} {f : FSt} {B : Value} (h : RdMem w g (f.past m false) B) : RdMem (w.setCell ⟨g, 3, none⟩ (.int .i64 (wrap64 (f.ticks + 1)))) g (f.past m true) B := by
  have T3 := Turned.setCell w ⟨g, 3, none⟩ (.int .i64 (wrap64 (f.ticks + 1)))
  exact ⟨(h.cells.set 3 _).congr (forall7 rfl rfl rfl rfl rfl rfl rfl), h.sl.turned T3 h.ne, fun k hk => Nat.lt_of_lt_of_le (h.lt k hk) T3.size, h.ne⟩

end Go.Proofs.Ytpbakejocjmkeaa
