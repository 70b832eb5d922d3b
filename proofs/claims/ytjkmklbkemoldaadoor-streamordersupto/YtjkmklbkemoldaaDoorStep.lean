/-
  heddlelaw05.step: one call of both streams: they answer alike, and stay alike.
-/
import Derived.Test.YtjkmklbkemoldaaDoorImpl
namespace Go.Proofs.YtjkmklbkemoldaaDoor
open Go.RowKit

theorem Pair.box {Mem : World → Nat → (Nat → Prop) → St → Prop} (I : Impl Mem) {B : Nat} {w : World} {sb g : Nat} {S R : Nat → Prop} {st : St} (p : Pair Mem B w sb g S R st) (o : Obj) : Pair Mem B ((w.alloc o).drew) sb g S R st :=
  p.below I (((Below.refl _ _).alloc (Nat.le_refl _) o).drew)
theorem Pair.box1 {Mem : World → Nat → (Nat → Prop) → St → Prop} (I : Impl Mem) {B : Nat} {w : World} {sb g : Nat} {S R : Nat → Prop} {st : St} (p : Pair Mem B w sb g S R st) (o : Obj) : Pair Mem B (w.alloc o) sb g S R st :=
  p.below I ((Below.refl _ _).alloc (Nat.le_refl _) o)
theorem Pair.gl {Mem : World → Nat → (Nat → Prop) → St → Prop} {B : Nat} {w : World} {sb g : Nat} {S R : Nat → Prop} {st : St} (p : Pair Mem B w sb g S R st) : g < w.heap.size := p.ref.own.2 g p.ref.own.1

set_option maxRecDepth 100000 in
set_option maxHeartbeats 3200000 in
theorem step_send {Mem : World → Nat → (Nat → Prop) → St → Prop} (I : Impl Mem) {B : Nat} {w : World} {sb g : Nat} {S R : Nat → Prop} {st : St} (p : Pair Mem B w sb g S R st) (e n : Int) (y : Bool) (x : Value) {bs : List Int} (hx : Sl w x bs) (hbs : bs.length ≤ 140737488355328) (hxB : bs ≠ [] → ∀ k, blk x k → k < B) :
    Calls Tryd.prog 12 #[.pointer (some ⟨sb, 0, none⟩), .pointer (some ⟨g, 0, none⟩), .agg #[.int .i64 1, .int .i64 e, .int .i64 n, .bool y, x]] w fun ev w' => ev = .returned (.bool true) ∧ ∃ S' R', Pair Mem B w' sb g S' R' (st.send e bs).2 ∧ Below B w w' := by
  have hgl := p.gl
  have hSl : ¬ S w.heap.size := fun h => by have := I.lt p.mem _ h; omega
  have hgn : ¬ w.heap.size = g := by omega
  have PD : Pair Mem B ((w.alloc (.cells #[.int .i64 1, .int .i64 e, .int .i64 n, .bool y, x] 31)).drew) sb g S R st := p.box I _
  have hxd : Sl ((w.alloc (.cells #[.int .i64 1, .int .i64 e, .int .i64 n, .bool y, x] 31)).drew) x bs := hx.turned ((Turned.alloc (fun _ => False) w _).trans (Turned.drew (fun _ => False) _) (fun _ h => h.elim)) (fun _ _ h => h)
  have q1 : ((w.alloc (.cells #[.int .i64 1, .int .i64 e, .int .i64 n, .bool y, x] 31)).drew).cell? ⟨w.heap.size, 1, none⟩ = some (.int .i64 e) := by simp
  have q4 : ((w.alloc (.cells #[.int .i64 1, .int .i64 e, .int .i64 n, .bool y, x] 31)).drew).cell? ⟨w.heap.size, 4, none⟩ = some (x) := by simp
  have BD : Hid (Below B w ((w.alloc (.cells #[.int .i64 1, .int .i64 e, .int .i64 n, .bool y, x] 31)).drew)) := ((Below.refl _ _).alloc p.big _).drew
  go_enter Tryd.func12, Tryd.ntmps12
  go_wp2
  go_region_held3 (fun w' => w'.cell? ⟨w.heap.size, 1, none⟩ = some (.int .i64 e) ∧ w'.cell? ⟨w.heap.size, 4, none⟩ = some (x))
    (first | go_keep | exact ⟨T1.cell q1 hSl, T1.cell q4 hSl⟩ | exact ⟨T2.cell (T1.cell q1 hSl) hgn, T2.cell (T1.cell q4 hSl) hgn⟩ | exact ⟨(Turned.ofBelow (S := fun _ => False) hb3).cell (T2.cell (T1.cell q1 hSl) hgn) (fun h => h), (Turned.ofBelow (S := fun _ => False) hb3).cell (T2.cell (T1.cell q4 hSl) hgn) (fun h => h)⟩)
    (first
      | (go_at_call 14; refine (I.send PD.mem PD.ok e hxd hbs (fun hne k hk hs => by have := PD.bS k hs; have := hxB hne k hk; omega)).mono ?_; rintro ev w1 ⟨v, S', rfl, he, hm, T1, hS'⟩)
      | (go_at_call 23; refine (doc_send (PD.ref.turned T1 (fun k hk hs => PD.dis k hs hk)) PD.ok e (hxd.turnedN T1 (fun hne k hk hs => by have := PD.bS k hs; have := hxB hne k hk; omega)) hbs).mono ?_; rintro ev w2 ⟨l, rfl, hl, hr, T2⟩; have hN := PD.next I (PD.ok.send e bs) hm T1 hS' hr T2)
      | (go_at_call 21; refine (refused_both hN.1.er (he.turned T2 (fun k hk _ hh => by subst hh; have := PD.gl; omega)) hl).mono ?_; rintro ev w3 ⟨rfl, hb3⟩))
  go_wp2
  go_ret
  exact ⟨rfl, _, _, hN.1.below I hb3, (BD.out.trans hN.2).trans (hb3.mono hN.1.big)⟩

set_option maxRecDepth 100000 in
set_option maxHeartbeats 3200000 in
theorem step_move {Mem : World → Nat → (Nat → Prop) → St → Prop} (I : Impl Mem) {B : Nat} {w : World} {sb g : Nat} {S R : Nat → Prop} {st : St} (p : Pair Mem B w sb g S R st) (e n : Int) (y : Bool) (x : Value) :
    Calls Tryd.prog 12 #[.pointer (some ⟨sb, 0, none⟩), .pointer (some ⟨g, 0, none⟩), .agg #[.int .i64 2, .int .i64 e, .int .i64 n, .bool y, x]] w fun ev w' => ev = .returned (.bool true) ∧ ∃ S' R', Pair Mem B w' sb g S' R' (st.move e n).2 ∧ Below B w w' := by
  have hgl := p.gl
  have hSl : ¬ S w.heap.size := fun h => by have := I.lt p.mem _ h; omega
  have hgn : ¬ w.heap.size = g := by omega
  have PD : Pair Mem B ((w.alloc (.cells #[.int .i64 2, .int .i64 e, .int .i64 n, .bool y, x] 31)).drew) sb g S R st := p.box I _
  have q1 : ((w.alloc (.cells #[.int .i64 2, .int .i64 e, .int .i64 n, .bool y, x] 31)).drew).cell? ⟨w.heap.size, 1, none⟩ = some (.int .i64 e) := by simp
  have q2 : ((w.alloc (.cells #[.int .i64 2, .int .i64 e, .int .i64 n, .bool y, x] 31)).drew).cell? ⟨w.heap.size, 2, none⟩ = some (.int .i64 n) := by simp
  have BD : Hid (Below B w ((w.alloc (.cells #[.int .i64 2, .int .i64 e, .int .i64 n, .bool y, x] 31)).drew)) := ((Below.refl _ _).alloc p.big _).drew
  go_enter Tryd.func12, Tryd.ntmps12
  go_wp2
  go_region_held3 (fun w' => w'.cell? ⟨w.heap.size, 1, none⟩ = some (.int .i64 e) ∧ w'.cell? ⟨w.heap.size, 2, none⟩ = some (.int .i64 n))
    (first | go_keep | exact ⟨T1.cell q1 hSl, T1.cell q2 hSl⟩ | exact ⟨T2.cell (T1.cell q1 hSl) hgn, T2.cell (T1.cell q2 hSl) hgn⟩ | exact ⟨(Turned.ofBelow (S := fun _ => False) hb3).cell (T2.cell (T1.cell q1 hSl) hgn) (fun h => h), (Turned.ofBelow (S := fun _ => False) hb3).cell (T2.cell (T1.cell q2 hSl) hgn) (fun h => h)⟩)
    (first
      | (go_at_call 15; refine (I.move PD.mem PD.ok e n).mono ?_; rintro ev w1 ⟨v, S', rfl, he, hm, T1, hS'⟩)
      | (go_at_call 24; refine (doc_move (PD.ref.turned T1 (fun k hk hs => PD.dis k hs hk)) PD.ok e n).mono ?_; rintro ev w2 ⟨l, rfl, hl, hr, T2⟩; have hN := PD.next I (PD.ok.move e n) hm T1 hS' hr T2)
      | (go_at_call 21; refine (refused_both hN.1.er (he.turned T2 (fun k hk _ hh => by subst hh; have := PD.gl; omega)) hl).mono ?_; rintro ev w3 ⟨rfl, hb3⟩))
  go_wp2
  go_ret
  exact ⟨rfl, _, _, hN.1.below I hb3, (BD.out.trans hN.2).trans (hb3.mono hN.1.big)⟩

set_option maxRecDepth 100000 in
set_option maxHeartbeats 3200000 in
theorem step_stall {Mem : World → Nat → (Nat → Prop) → St → Prop} (I : Impl Mem) {B : Nat} {w : World} {sb g : Nat} {S R : Nat → Prop} {st : St} (p : Pair Mem B w sb g S R st) (e n : Int) (y : Bool) (x : Value) :
    Calls Tryd.prog 12 #[.pointer (some ⟨sb, 0, none⟩), .pointer (some ⟨g, 0, none⟩), .agg #[.int .i64 3, .int .i64 e, .int .i64 n, .bool y, x]] w fun ev w' => ev = .returned (.bool true) ∧ ∃ S' R', Pair Mem B w' sb g S' R' (st.stall e y).2 ∧ Below B w w' := by
  have hgl := p.gl
  have hSl : ¬ S w.heap.size := fun h => by have := I.lt p.mem _ h; omega
  have hgn : ¬ w.heap.size = g := by omega
  have PD : Pair Mem B ((w.alloc (.cells #[.int .i64 3, .int .i64 e, .int .i64 n, .bool y, x] 31)).drew) sb g S R st := p.box I _
  have q1 : ((w.alloc (.cells #[.int .i64 3, .int .i64 e, .int .i64 n, .bool y, x] 31)).drew).cell? ⟨w.heap.size, 1, none⟩ = some (.int .i64 e) := by simp
  have q3 : ((w.alloc (.cells #[.int .i64 3, .int .i64 e, .int .i64 n, .bool y, x] 31)).drew).cell? ⟨w.heap.size, 3, none⟩ = some (.bool y) := by simp
  have BD : Hid (Below B w ((w.alloc (.cells #[.int .i64 3, .int .i64 e, .int .i64 n, .bool y, x] 31)).drew)) := ((Below.refl _ _).alloc p.big _).drew
  go_enter Tryd.func12, Tryd.ntmps12
  go_wp2
  go_region_held3 (fun w' => w'.cell? ⟨w.heap.size, 1, none⟩ = some (.int .i64 e) ∧ w'.cell? ⟨w.heap.size, 3, none⟩ = some (.bool y))
    (first | go_keep | exact ⟨T1.cell q1 hSl, T1.cell q3 hSl⟩ | exact ⟨T2.cell (T1.cell q1 hSl) hgn, T2.cell (T1.cell q3 hSl) hgn⟩ | exact ⟨(Turned.ofBelow (S := fun _ => False) hb3).cell (T2.cell (T1.cell q1 hSl) hgn) (fun h => h), (Turned.ofBelow (S := fun _ => False) hb3).cell (T2.cell (T1.cell q3 hSl) hgn) (fun h => h)⟩)
    (first
      | (go_at_call 16; refine (I.stall PD.mem PD.ok e y).mono ?_; rintro ev w1 ⟨v, S', rfl, he, hm, T1, hS'⟩)
      | (go_at_call 25; refine (doc_stall (PD.ref.turned T1 (fun k hk hs => PD.dis k hs hk)) PD.ok e y).mono ?_; rintro ev w2 ⟨l, rfl, hl, hr, T2⟩; have hN := PD.next I (PD.ok.stall e y) hm T1 hS' hr T2)
      | (go_at_call 21; refine (refused_both hN.1.er (he.turned T2 (fun k hk _ hh => by subst hh; have := PD.gl; omega)) hl).mono ?_; rintro ev w3 ⟨rfl, hb3⟩))
  go_wp2
  go_ret
  exact ⟨rfl, _, _, hN.1.below I hb3, (BD.out.trans hN.2).trans (hb3.mono hN.1.big)⟩

set_option maxRecDepth 100000 in
set_option maxHeartbeats 3200000 in
theorem step_close {Mem : World → Nat → (Nat → Prop) → St → Prop} (I : Impl Mem) {B : Nat} {w : World} {sb g : Nat} {S R : Nat → Prop} {st : St} (p : Pair Mem B w sb g S R st) (e n : Int) (y : Bool) (x : Value) :
    Calls Tryd.prog 12 #[.pointer (some ⟨sb, 0, none⟩), .pointer (some ⟨g, 0, none⟩), .agg #[.int .i64 6, .int .i64 e, .int .i64 n, .bool y, x]] w fun ev w' => ev = .returned (.bool true) ∧ ∃ S' R', Pair Mem B w' sb g S' R' (st.close e).2 ∧ Below B w w' := by
  have hgl := p.gl
  have hSl : ¬ S w.heap.size := fun h => by have := I.lt p.mem _ h; omega
  have hgn : ¬ w.heap.size = g := by omega
  have PD : Pair Mem B ((w.alloc (.cells #[.int .i64 6, .int .i64 e, .int .i64 n, .bool y, x] 31)).drew) sb g S R st := p.box I _
  have q1 : ((w.alloc (.cells #[.int .i64 6, .int .i64 e, .int .i64 n, .bool y, x] 31)).drew).cell? ⟨w.heap.size, 1, none⟩ = some (.int .i64 e) := by simp
  have BD : Hid (Below B w ((w.alloc (.cells #[.int .i64 6, .int .i64 e, .int .i64 n, .bool y, x] 31)).drew)) := ((Below.refl _ _).alloc p.big _).drew
  go_enter Tryd.func12, Tryd.ntmps12
  go_wp2
  go_region_held3 (fun w' => w'.cell? ⟨w.heap.size, 1, none⟩ = some (.int .i64 e))
    (first | go_keep | exact T1.cell q1 hSl | exact T2.cell (T1.cell q1 hSl) hgn | exact (Turned.ofBelow (S := fun _ => False) hb3).cell (T2.cell (T1.cell q1 hSl) hgn) (fun h => h))
    (first
      | (go_at_call 19; refine (I.close PD.mem PD.ok e).mono ?_; rintro ev w1 ⟨v, S', rfl, he, hm, T1, hS'⟩)
      | (go_at_call 28; refine (doc_close (PD.ref.turned T1 (fun k hk hs => PD.dis k hs hk)) PD.ok e).mono ?_; rintro ev w2 ⟨l, rfl, hl, hr, T2⟩; have hN := PD.next I (PD.ok.close e) hm T1 hS' hr T2)
      | (go_at_call 21; refine (refused_both hN.1.er (he.turned T2 (fun k hk _ hh => by subst hh; have := PD.gl; omega)) hl).mono ?_; rintro ev w3 ⟨rfl, hb3⟩))
  go_wp2
  go_ret
  exact ⟨rfl, _, _, hN.1.below I hb3, (BD.out.trans hN.2).trans (hb3.mono hN.1.big)⟩
end Go.Proofs.YtjkmklbkemoldaaDoor
