/-
  heddlelaw05.step: Break and Read.
-/
import Derived.Test.YtjkmklbkemoldaaDoorStep
import Derived.Laws.BytesArg
namespace Go.Proofs.YtjkmklbkemoldaaDoor
open Go.RowKit

theorem Sl.str {w : World} {v : Value} {zs : List Int} (h : Sl w v zs) : (convert 29 9 v).run Tryd.prog w = .ok (.string (strOfNums zs)) w := by
  rcases h with ⟨rfl, rfl⟩ | ⟨a, rfl, rfl⟩ | ⟨g, off, cap, rfl, _, _, h4⟩
  · exact run_convert_bytes_nil w _ _ Tryd.underlying29 Tryd.underlying5 0 0 _ Tryd.underlying9
  · rw [run_convert_bytes_string w _ _ _ _ _ _ Tryd.underlying29 Tryd.underlying5 Tryd.underlying9]
    have hl : (loadCells a 0).run Tryd.prog w = .ok #[] w := by simpa using run_loadCells_list (P := Tryd.prog) w a [] (fun j v hj => by simp at hj)
    simp [Conv.bytesToString, strOfNums, hl]
    rfl
  · exact run_convert_bytes_arg w _ _ Tryd.underlying29 Tryd.underlying5 g off zs.length cap zs rfl (fun i hi => by rw [h4 i hi]; simp [List.getD, List.getElem?_eq_getElem hi]) _ Tryd.underlying9

set_option maxRecDepth 100000 in
set_option maxHeartbeats 3200000 in
theorem step_break {Mem : World → Nat → (Nat → Prop) → St → Prop} (I : Impl Mem) {B : Nat} {w : World} {sb g : Nat} {S R : Nat → Prop} {st : St} (p : Pair Mem B w sb g S R st) (e n : Int) (y : Bool) (x : Value) :
    Calls Tryd.prog 12 #[.pointer (some ⟨sb, 0, none⟩), .pointer (some ⟨g, 0, none⟩), .agg #[.int .i64 5, .int .i64 e, .int .i64 n, .bool y, x]] w fun ev w' => ev = .returned (.bool true) ∧ ∃ S' R', Pair Mem B w' sb g S' R' st.break.2 ∧ Below B w w' := by
  have PB : Pair Mem B (w.alloc (.cells #[.int .i64 5, .int .i64 e, .int .i64 n, .bool y, x] 31)) sb g S R st := p.box1 I _
  have BD : Hid (Below B w (w.alloc (.cells #[.int .i64 5, .int .i64 e, .int .i64 n, .bool y, x] 31))) := (Below.refl _ _).alloc p.big _
  go_enter Tryd.func12, Tryd.ntmps12
  go_wp2_with (first
      | (go_at_call 18; refine (I.brk PB.mem PB.ok).mono ?_; rintro ev w1 ⟨v, S', rfl, he, hm, T1, hS'⟩)
      | (go_at_call 27; refine (doc_break (PB.ref.turned T1 (fun k hk hs => PB.dis k hs hk)) PB.ok).mono ?_; rintro ev w2 ⟨l, rfl, hl, hr, T2⟩; have hN := PB.next I (PB.ok.break) hm T1 hS' hr T2)
      | (go_at_call 21; refine (refused_both hN.1.er (he.turned T2 (fun k hk _ hh => by subst hh; have := PB.gl; omega)) hl).mono ?_; rintro ev w3 ⟨rfl, hb3⟩))
  go_ret
  exact ⟨rfl, _, _, hN.1.below I hb3, (BD.out.trans hN.2).trans (hb3.mono hN.1.big)⟩

set_option maxRecDepth 100000 in
set_option maxHeartbeats 3200000 in
theorem step_read {Mem : World → Nat → (Nat → Prop) → St → Prop} (I : Impl Mem) {B : Nat} {w : World} {sb g : Nat} {S R : Nat → Prop} {st : St} (p : Pair Mem B w sb g S R st) (e n : Int) (y : Bool) (x : Value) :
    Calls Tryd.prog 12 #[.pointer (some ⟨sb, 0, none⟩), .pointer (some ⟨g, 0, none⟩), .agg #[.int .i64 4, .int .i64 e, .int .i64 n, .bool y, x]] w fun ev w' => ev = .returned (.bool true) ∧ ∃ S' R', Pair Mem B w' sb g S' R' (st.read e n).2.2 ∧ Below B w w' := by
  have hgl := p.gl
  have hSl : ¬ S w.heap.size := fun h => by have := I.lt p.mem _ h; omega
  have PB : Pair Mem B (w.alloc (.cells #[.int .i64 4, .int .i64 e, .int .i64 n, .bool y, x] 31)) sb g S R st := p.box1 I _
  have BD : Hid (Below B w (w.alloc (.cells #[.int .i64 4, .int .i64 e, .int .i64 n, .bool y, x] 31))) := (Below.refl _ _).alloc p.big _
  have q1 : (w.alloc (.cells #[.int .i64 4, .int .i64 e, .int .i64 n, .bool y, x] 31)).cell? ⟨w.heap.size, 1, none⟩ = some (.int .i64 e) := by simp
  have q2 : (w.alloc (.cells #[.int .i64 4, .int .i64 e, .int .i64 n, .bool y, x] 31)).cell? ⟨w.heap.size, 2, none⟩ = some (.int .i64 n) := by simp
  go_enter Tryd.func12, Tryd.ntmps12
  go_wp2_with (first
      | (go_at_call 17; refine (I.read PB.mem PB.ok e n).mono ?_; rintro ev w1 ⟨V, v, S', rfl, he, hV, hm, T1, hS', hVb⟩; have r1 := T1.cell q1 hSl; have r2 := T1.cell q2 hSl)
      | (go_at_call 26; refine (doc_read (PB.ref.turned T1 (fun k hk hs => PB.dis k hs hk)) PB.ok e n).mono ?_; rintro ev w2 ⟨V2, l, rfl, hl, hV2, hr, T2⟩; have hN := PB.next I (PB.ok.read e n) hm T1 hS' hr T2; have c1 := (hV.turned T2 (fun k hk hh => by subst hh; have := (hVb k hk).1; have := PB.gl; omega)).str; have c2 := hV2.str)
      | (go_at_call 21; refine (refused_both hN.1.er (he.turned T2 (fun k hk _ hh => by subst hh; have := PB.gl; omega)) hl).mono ?_; rintro ev w3 ⟨rfl, hb3⟩))
  go_ret
  exact ⟨rfl, _, _, hN.1.below I hb3, (BD.out.trans hN.2).trans (hb3.mono hN.1.big)⟩
end Go.Proofs.YtjkmklbkemoldaaDoor
