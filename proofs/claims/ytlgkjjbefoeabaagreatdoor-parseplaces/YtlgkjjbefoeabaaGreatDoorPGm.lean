/-
  Layer 11 (parse): what is written into a node in the making: its kind, its module, its number, other Kids, more Kids.
-/
import Derived.Test.YtlgkjjbefoeabaaGreatDoorPGj
import Derived.Test.YtlgkjjbefoeabaaGreatDoorPQ
namespace Go.Proofs.YtlgkjjbefoeabaaGreatDoor
open Go.RowKit

theorem OwnI.join {w : World} {v : Value} {l m : List Int} (h : OwnK 1 w v (l.length + m.length) (ints l ++ ints m)) : OwnI w v (l ++ m) := by
  unfold OwnI
  have e : ints (l ++ m) = ints l ++ ints m := by simp [ints]
  rw [e, List.length_append]
  exact h
section
variable {w w' : World} {g : Nat} {Tv Nv : Value} {N : List Nd} {q : Nat} {nk : Int} {nt nm : ByteArray} {nn : Int} {V : Value} {l : List Int} {na : Int} {T : List Tk} {i : Nat}
theorem Making.kindTo (h : Making w g Tv Nv N q nk nt nm nn V l na) (hp : PAt w g Tv T i Nv N) (z : Int) : Making (w.setCell ⟨q, 0, none⟩ (.int .i64 z)) g Tv Nv N q z nt nm nn V l na ∧ PAt (w.setCell ⟨q, 0, none⟩ (.int .i64 z)) g Tv T i Nv N := by
  have o : ∀ (j : Nat) (v : Value), 0 ≠ j → w.cell? ⟨q, j, none⟩ = some v → (w.setCell ⟨q, 0, none⟩ (.int .i64 z)).cell? ⟨q, j, none⟩ = some v := fun j v hj e => by
    rw [World.cell?_setCell_other _ _ _ _ (by simp; try omega)]; exact e
  have T1 := Turned.set1 w q 0 (.int .i64 z)
  exact ⟨⟨World.cell?_setCell_same _ _ _ h.n0, o 1 _ (by decide) h.n1, o 2 _ (by decide) h.n2, o 3 _ (by decide) h.n3, o 4 _ (by decide) h.n4, o 5 _ (by decide) h.n5, fun j => by rw [World.frozen?_setCell]; exact h.fz j, OwnK.turned h.own T1 (fun k hk e => h.qv ((show k = q from e) ▸ hk)), h.qv, ⟨h.fq.g, h.fq.t, h.fq.n, h.fq.k⟩, fun k hk => ⟨(h.fv k hk).g, (h.fv k hk).t, (h.fv k hk).n, (h.fv k hk).k⟩⟩, hp.off h.fq T1⟩
theorem Making.modTo (h : Making w g Tv Nv N q nk nt nm nn V l na) (hp : PAt w g Tv T i Nv N) (z : ByteArray) : Making (w.setCell ⟨q, 2, none⟩ (.string z)) g Tv Nv N q nk nt z nn V l na ∧ PAt (w.setCell ⟨q, 2, none⟩ (.string z)) g Tv T i Nv N := by
  have o : ∀ (j : Nat) (v : Value), 2 ≠ j → w.cell? ⟨q, j, none⟩ = some v → (w.setCell ⟨q, 2, none⟩ (.string z)).cell? ⟨q, j, none⟩ = some v := fun j v hj e => by
    rw [World.cell?_setCell_other _ _ _ _ (by simp; try omega)]; exact e
  have T1 := Turned.set1 w q 2 (.string z)
  exact ⟨⟨o 0 _ (by decide) h.n0, o 1 _ (by decide) h.n1, World.cell?_setCell_same _ _ _ h.n2, o 3 _ (by decide) h.n3, o 4 _ (by decide) h.n4, o 5 _ (by decide) h.n5, fun j => by rw [World.frozen?_setCell]; exact h.fz j, OwnK.turned h.own T1 (fun k hk e => h.qv ((show k = q from e) ▸ hk)), h.qv, ⟨h.fq.g, h.fq.t, h.fq.n, h.fq.k⟩, fun k hk => ⟨(h.fv k hk).g, (h.fv k hk).t, (h.fv k hk).n, (h.fv k hk).k⟩⟩, hp.off h.fq T1⟩
theorem Making.numTo (h : Making w g Tv Nv N q nk nt nm nn V l na) (hp : PAt w g Tv T i Nv N) (z : Int) : Making (w.setCell ⟨q, 3, none⟩ (.int .i64 z)) g Tv Nv N q nk nt nm z V l na ∧ PAt (w.setCell ⟨q, 3, none⟩ (.int .i64 z)) g Tv T i Nv N := by
  have o : ∀ (j : Nat) (v : Value), 3 ≠ j → w.cell? ⟨q, j, none⟩ = some v → (w.setCell ⟨q, 3, none⟩ (.int .i64 z)).cell? ⟨q, j, none⟩ = some v := fun j v hj e => by
    rw [World.cell?_setCell_other _ _ _ _ (by simp; try omega)]; exact e
  have T1 := Turned.set1 w q 3 (.int .i64 z)
  exact ⟨⟨o 0 _ (by decide) h.n0, o 1 _ (by decide) h.n1, o 2 _ (by decide) h.n2, World.cell?_setCell_same _ _ _ h.n3, o 4 _ (by decide) h.n4, o 5 _ (by decide) h.n5, fun j => by rw [World.frozen?_setCell]; exact h.fz j, OwnK.turned h.own T1 (fun k hk e => h.qv ((show k = q from e) ▸ hk)), h.qv, ⟨h.fq.g, h.fq.t, h.fq.n, h.fq.k⟩, fun k hk => ⟨(h.fv k hk).g, (h.fv k hk).t, (h.fv k hk).n, (h.fv k hk).k⟩⟩, hp.off h.fq T1⟩
/-- Other Kids. -/
theorem Making.kidsTo {V2 : Value} {l2 : List Int} (h : Making w g Tv Nv N q nk nt nm nn V l na) (hp : PAt w g Tv T i Nv N) (ow : OwnI w V2 l2) (fv : ∀ k, blk V2 k → Free w g Tv Nv N k) (hq : ¬ blk V2 q) : Making (w.setCell ⟨q, 4, none⟩ V2) g Tv Nv N q nk nt nm nn V2 l2 na ∧ PAt (w.setCell ⟨q, 4, none⟩ V2) g Tv T i Nv N := by
  have o : ∀ (j : Nat) (v : Value), 4 ≠ j → w.cell? ⟨q, j, none⟩ = some v → (w.setCell ⟨q, 4, none⟩ V2).cell? ⟨q, j, none⟩ = some v := fun j v hj e => by
    rw [World.cell?_setCell_other _ _ _ _ (by simp; try omega)]; exact e
  have T1 := Turned.set1 w q 4 V2
  exact ⟨⟨o 0 _ (by decide) h.n0, o 1 _ (by decide) h.n1, o 2 _ (by decide) h.n2, o 3 _ (by decide) h.n3, World.cell?_setCell_same _ _ _ h.n4, o 5 _ (by decide) h.n5, fun j => by rw [World.frozen?_setCell]; exact h.fz j, OwnK.turned ow T1 (fun k hk e => hq ((show k = q from e) ▸ hk)), hq, ⟨h.fq.g, h.fq.t, h.fq.n, h.fq.k⟩, fun k hk => ⟨(fv k hk).g, (fv k hk).t, (fv k hk).n, (fv k hk).k⟩⟩, hp.off h.fq T1⟩
/-- More Kids. -/
theorem Making.moreL {w1 w2 : World} {V' : Value} {x : List Int} (h : Making w g Tv Nv N q nk nt nm nn V l na) (hp : PAt w g Tv T i Nv N) (hT : 0 < T.length) (hb : Below w.heap.size w w1) (ho : OwnK 1 w2 V' (l.length + x.length) (ints l ++ ints x)) (Tt : Turned (blk V) w1 w2) (hv : ∀ k, blk V' k → blk V k ∨ k = w1.heap.size) :
    Making (w2.setCell ⟨q, 4, none⟩ V') g Tv Nv N q nk nt nm nn V' (l ++ x) na ∧ PAt (w2.setCell ⟨q, 4, none⟩ V') g Tv T i Nv N ∧ Turned (fun k => k = q ∨ blk V k) w (w2.setCell ⟨q, 4, none⟩ V') ∧ ∀ k, blk V' k → blk V k ∨ w.heap.size ≤ k := by
  have hz := hb.size
  have hql := h.lt
  have c : ∀ (j : Nat) (v : Value), w.cell? ⟨q, j, none⟩ = some v → w2.cell? ⟨q, j, none⟩ = some v := fun j v e => Tt.cell ((hb.cell (p := ⟨q, j, none⟩) hql).trans e) h.qv
  have o : ∀ (j : Nat) (v : Value), 4 ≠ j → w2.cell? ⟨q, j, none⟩ = some v → (w2.setCell ⟨q, 4, none⟩ V').cell? ⟨q, j, none⟩ = some v := fun j v hj e => by
    rw [World.cell?_setCell_other _ _ _ _ (by simp; try omega)]; exact e
  have fzz : ∀ j, w2.frozen? ⟨q, j, none⟩ = false := fun j => by
    rw [Tt.frozen (p := ⟨q, j, none⟩) (by simp; omega) h.qv, (Turned.ofBelow (S := fun _ => False) hb).frozen (p := ⟨q, j, none⟩) hql (fun e => e)]
    exact h.fz j
  have hqv' : ¬ blk V' q := fun e => (hv q e).elim h.qv (fun e => by omega)
  have T4 := Turned.set1 w2 q 4 V'
  have TT : Turned (fun k => k = q ∨ blk V k) w (w2.setCell ⟨q, 4, none⟩ V') := ((Turned.ofBelow (S := fun k => k = q ∨ blk V k) hb).trans Tt (fun _ e => .inl (.inr e))).trans T4 (fun _ e => .inl (.inl e))
  refine ⟨⟨o 0 _ (by decide) (c 0 _ h.n0), o 1 _ (by decide) (c 1 _ h.n1), o 2 _ (by decide) (c 2 _ h.n2), o 3 _ (by decide) (c 3 _ h.n3), World.cell?_setCell_same _ _ _ (c 4 _ h.n4), o 5 _ (by decide) (c 5 _ h.n5), fun j => by rw [World.frozen?_setCell]; exact fzz j, OwnK.turned (OwnI.join ho) T4 (fun k hk e => hqv' ((show k = q from e) ▸ hk)), hqv', ⟨h.fq.g, h.fq.t, h.fq.n, h.fq.k⟩, fun k hk => ?_⟩, hp.offS (w0 := w) (fun k e => e.elim (fun e => e ▸ h.fq) (h.fv k)) TT, TT, fun k hk => (hv k hk).elim .inl (fun e => .inr (by omega))⟩
  have f : Free w g Tv Nv N k := (hv k hk).elim (h.fv k) (fun e => hp.free hT k (by omega))
  exact ⟨f.g, f.t, f.n, f.k⟩
end
section
variable {T : List Tk} {w wr w2 : World} {g : Nat} {Tv Nv Nv1 : Value} {N M1 : List Nd} {s t : Ps} {q : Nat} {nk : Int} {nt nm : ByteArray} {nn : Int} {V V2 : Value} {l l2 : List Int} {na : Int}
theorem MkI.kind (h : MkI T w wr g Tv Nv N s Nv1 M1 q nk nt nm nn V l na) (z : Int) : MkI T w (wr.setCell ⟨q, 0, none⟩ (.int .i64 z)) g Tv Nv N s Nv1 M1 q z nt nm nn V l na := by
  obtain ⟨m, p⟩ := h.bx.kindTo h.rg.ps.at_ z
  exact ⟨h.rg.mine (k := fun k => k = q) (fun k e => e ▸ h.qw) p (Turned.set1 wr q 0 _), m, h.vw, h.qw⟩
theorem MkI.text (h : MkI T w wr g Tv Nv N s Nv1 M1 q nk nt nm nn V l na) (t : ByteArray) : MkI T w (wr.setCell ⟨q, 1, none⟩ (.string t)) g Tv Nv N s Nv1 M1 q nk t nm nn V l na := by
  obtain ⟨m, p⟩ := h.bx.text h.rg.ps.at_ t
  exact ⟨h.rg.mine (k := fun k => k = q) (fun k e => e ▸ h.qw) p (Turned.set1 wr q 1 (.string t)), m, h.vw, h.qw⟩
theorem MkI.mod (h : MkI T w wr g Tv Nv N s Nv1 M1 q nk nt nm nn V l na) (z : ByteArray) : MkI T w (wr.setCell ⟨q, 2, none⟩ (.string z)) g Tv Nv N s Nv1 M1 q nk nt z nn V l na := by
  obtain ⟨m, p⟩ := h.bx.modTo h.rg.ps.at_ z
  exact ⟨h.rg.mine (k := fun k => k = q) (fun k e => e ▸ h.qw) p (Turned.set1 wr q 2 _), m, h.vw, h.qw⟩
theorem MkI.num (h : MkI T w wr g Tv Nv N s Nv1 M1 q nk nt nm nn V l na) (z : Int) : MkI T w (wr.setCell ⟨q, 3, none⟩ (.int .i64 z)) g Tv Nv N s Nv1 M1 q nk nt nm z V l na := by
  obtain ⟨m, p⟩ := h.bx.numTo h.rg.ps.at_ z
  exact ⟨h.rg.mine (k := fun k => k = q) (fun k e => e ▸ h.qw) p (Turned.set1 wr q 3 _), m, h.vw, h.qw⟩
theorem MkI.kids (h : MkI T w wr g Tv Nv N s Nv1 M1 q nk nt nm nn V l na) (k : Kd T w wr g Tv Nv1 (N ++ M1) V2 l2) (hq : ¬ blk V2 q) : MkI T w (wr.setCell ⟨q, 4, none⟩ V2) g Tv Nv N s Nv1 M1 q nk nt nm nn V2 l2 na := by
  obtain ⟨m, p⟩ := h.bx.kidsTo h.rg.ps.at_ k.own (fun b hb => (k.fv b hb).2) hq
  exact ⟨h.rg.mine (k := fun k => k = q) (fun k e => e ▸ h.qw) p (Turned.set1 wr q 4 _), m, fun b hb => (k.fv b hb).1, h.qw⟩
theorem Kd.setQ (h : Kd T w wr g Tv Nv1 N V l) (hq : ¬ blk V q) (j : Nat) (v : Value) : Kd T w (wr.setCell ⟨q, j, none⟩ v) g Tv Nv1 N V l := ⟨OwnK.turned h.own (Turned.set1 wr q j v) (fun k hk e => hq ((show k = q from e) ▸ hk)), fun k hk => ⟨(h.fv k hk).1, ⟨(h.fv k hk).2.g, (h.fv k hk).2.t, (h.fv k hk).2.n, (h.fv k hk).2.k⟩⟩⟩
/-- Some phrases are read beside a node in the making. -/
theorem MkI.stepL (h : MkI T w wr g Tv Nv N s Nv1 M1 q nk nt nm nn V l na) {w3 : World} (hb : Below wr.heap.size wr w3) {x : Ending} (hr : RdL T w3 g Tv Nv1 (N ++ M1) (.ok (l2, t)) x w2) : ∃ V2, x = .returned V2 ∧ (∃ a c, V2 = .slice a l2.length c) ∧ (∃ Nv2 M2, MkI T w w2 g Tv Nv N t Nv2 M2 q nk nt nm nn V l na ∧ Kd T w w2 g Tv Nv2 (N ++ M2) V2 l2) ∧ ¬ blk V2 q := by
  obtain ⟨V2, rfl, Nv2, M3, o, p, S, ow, fv⟩ := hr
  have r2 := (h.rg.below hb).more o p S
  have m2 := (h.bx.stepN (Stp.ofB hb)).step S o
  rw [List.append_assoc] at m2
  obtain ⟨a2, c2, hV2, _⟩ := OwnK.sl ow |>.form
  have hq := h.bx.lt
  have hz := hb.size
  have hw := h.rg.size
  refine ⟨V2, rfl, ⟨a2, c2, hV2⟩, ⟨Nv2, M1 ++ M3, ⟨r2, m2, h.vw, h.qw⟩, ⟨ow, fun k hk => ⟨by have := (fv k hk).1; omega, by have := (fv k hk).2; rwa [List.append_assoc] at this⟩⟩⟩, fun e => by have := (fv q e).1; omega⟩
theorem MkI.moreL (h : MkI T w wr g Tv Nv N s Nv1 M1 q nk nt nm nn V l na) (hT : 0 < T.length) {w3 w4 : World} (hb : Below wr.heap.size wr w3) (ho : OwnK 1 w4 V2 (l.length + l2.length) (ints l ++ ints l2)) (Tt : Turned (blk V) w3 w4) (hv : ∀ k, blk V2 k → blk V k ∨ k = w3.heap.size) : MkI T w (w4.setCell ⟨q, 4, none⟩ V2) g Tv Nv N s Nv1 M1 q nk nt nm nn V2 (l ++ l2) na := by
  obtain ⟨m, p, T2, v⟩ := h.bx.moreL h.rg.ps.at_ hT hb ho Tt hv
  refine ⟨h.rg.mine (fun k e => ?_) p T2, m, fun k hk => (v k hk).elim (h.vw k) (fun e => Nat.le_trans h.rg.size e), h.qw⟩
  rcases e with e | e
  · exact e ▸ h.qw
  · exact h.vw k e
/-- One phrase is read, its number becomes the Kids of a node in the making. -/
theorem MkI.one (h : MkI T w wr g Tv Nv N s Nv1 M1 q nk nt nm nn V l na) (hT : 0 < T.length) (a z : Int) : MkI T w (((wr.alloc (.cells #[.int .i64 a] 3)).setCell ⟨q, 0, none⟩ (.int .i64 z)).setCell ⟨q, 4, none⟩ (.slice (some ⟨wr.heap.size, 0, none⟩) 1 1)) g Tv Nv N s Nv1 M1 q z nt nm nn (.slice (some ⟨wr.heap.size, 0, none⟩) 1 1) [a] na := by
  have hb := Below.alloc0 wr (.cells #[.int .i64 a] 3)
  have hq : ¬ blk (.slice (some ⟨wr.heap.size, 0, none⟩) 1 1) q := fun e => by
    have e : wr.heap.size = q := e
    have := h.bx.lt
    omega
  exact ((h.to (h.rg.below hb) (Stp.ofB hb)).kind z).kids ((Kd.one h.rg hT a).setQ hq 0 _) hq
/-- As the walk has it: what is written stands ahead of the new block. -/
theorem MkI.oneA (h : MkI T w wr g Tv Nv N s Nv1 M1 q nk nt nm nn V l na) (hT : 0 < T.length) (a z : Int) : MkI T w (((wr.setCell ⟨q, 0, none⟩ (.int .i64 z)).setCell ⟨q, 4, none⟩ (.slice (some ⟨wr.heap.size, 0, none⟩) 1 1)).alloc (.cells #[.int .i64 a] 3)) g Tv Nv N s Nv1 M1 q z nt nm nn (.slice (some ⟨wr.heap.size, 0, none⟩) 1 1) [a] na := by
  have e := h.one hT a z
  rwa [World.setCell_alloc_past _ _ _ _ h.bx.lt, World.setCell_alloc_past _ _ _ _ (by rw [World.size_setCell]; exact h.bx.lt)] at e
/-- Two numbers as Kids. -/
theorem Kd.two (r : Rg T w wr g Tv Nv N s Nv1 M1) (hT : 0 < T.length) (a b : Int) : Kd T w (wr.alloc (.cells #[.int .i64 a, .int .i64 b] 3)) g Tv Nv1 (N ++ M1) (.slice (some ⟨wr.heap.size, 0, none⟩) 2 2) [a, b] := by
  refine ⟨⟨by simp [ints], .inr ⟨wr.heap.size, 0, 2, rfl, Nat.le_refl _, by decide, by simp, fun j hj => ?_, fun j hj => ?_⟩⟩, fun k hk => ?_⟩
  · have hj1 : j < 2 := hj
    match j, hj1 with
    | 0, _ => simp [ints]
    | 1, _ => simp [ints]
  · have hj1 : j < 2 := by omega
    match j, hj1 with
    | 0, _ => exact ⟨by simp, by rw [World.frozen?_alloc_new]⟩
    | 1, _ => exact ⟨by simp, by rw [World.frozen?_alloc_new]⟩
  · have hk : wr.heap.size = k := hk
    subst hk
    have f := r.ps.at_.free hT wr.heap.size (Nat.le_refl _)
    exact ⟨r.size, ⟨f.g, f.t, f.n, f.k⟩⟩
theorem MkI.twoA (h : MkI T w wr g Tv Nv N s Nv1 M1 q nk nt nm nn V l na) (hT : 0 < T.length) (a b : Int) : MkI T w ((wr.setCell ⟨q, 4, none⟩ (.slice (some ⟨wr.heap.size, 0, none⟩) 2 2)).alloc (.cells #[.int .i64 a, .int .i64 b] 3)) g Tv Nv N s Nv1 M1 q nk nt nm nn (.slice (some ⟨wr.heap.size, 0, none⟩) 2 2) [a, b] na := by
  have hb := Below.alloc0 wr (.cells #[.int .i64 a, .int .i64 b] 3)
  have hq : ¬ blk (.slice (some ⟨wr.heap.size, 0, none⟩) 2 2) q := fun e => by
    have e : wr.heap.size = q := e
    have := h.bx.lt
    omega
  have e := (h.to (h.rg.below hb) (Stp.ofB hb)).kids (Kd.two h.rg hT a b) hq
  rwa [World.setCell_alloc_past _ _ _ _ h.bx.lt] at e
end
end Go.Proofs.YtlgkjjbefoeabaaGreatDoor
