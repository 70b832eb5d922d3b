/-
  Layer 11 (parse): nodes as an argument, whole; the program's looksSame.
-/
import Derived.Test.YtipdmmncgenppaaGreatDoorPSmC
import Derived.Test.YtipdmmncgenppaaGreatDoorPX
namespace Go.Proofs.YtipdmmncgenppaaGreatDoor
open Go.RowKit

/-- Nodes as an argument. -/
def NdArg (w : World) (v : Value) (N : List Nd) : Prop := (∃ a cap, v = .slice a 0 cap ∧ N = []) ∨ ∃ b off cap, v = .slice (some ⟨b, off, none⟩) N.length cap ∧ ∀ j (h : j < N.length), (∀ q, q < 6 → w.cell? ⟨b, off + j * 6 + q, none⟩ = N[j].cells[q]?) ∧ SlA w N[j].kv N[j].kids
theorem NdArg.form {w : World} {v : Value} {N : List Nd} (h : NdArg w v N) : ∃ a cap, v = .slice a N.length cap := by
  rcases h with ⟨a, cap, rfl, rfl⟩ | ⟨b, off, cap, rfl, _⟩
  · exact ⟨a, cap, rfl⟩
  · exact ⟨_, cap, rfl⟩
theorem NdArg.below {w w' : World} {v : Value} {N : List Nd} (h : NdArg w v N) (hb : Below w.heap.size w w') : NdArg w' v N := by
  rcases h with h | ⟨b, off, cap, rfl, hc⟩
  · exact .inl h
  · refine .inr ⟨b, off, cap, rfl, fun j hj => ⟨fun q hq => ?_, (hc j hj).2.below hb⟩⟩
    have h0 := (hc j hj).1 q hq
    have hq6 : q < N[j].cells.length := hq
    rw [List.getElem?_eq_getElem hq6] at h0 ⊢
    exact (hb.cell (p := ⟨b, off + j * 6 + q, none⟩) (World.block_lt_of_cell? w _ h0)).trans h0
theorem NdArg.arg {w : World} {v : Value} {N : List Nd} (h : NdArg w v N) : NArg w v (kvs N) := by
  rcases h with ⟨a, cap, rfl, rfl⟩ | ⟨b, off, cap, rfl, hc⟩
  · exact .inl ⟨a, cap, rfl, rfl⟩
  · refine .inr ⟨b, off, cap, by rw [kvs_length], fun j hj => ?_⟩
    have hj' : j < N.length := by simpa [kvs] using hj
    simp only [kvs, List.getElem_map]
    exact ⟨(hc j hj').1 4 (by decide), (hc j hj').2⟩
theorem NdArg.at {w : World} {a : Option Addr} {cap : Nat} {N : List Nd} (h : NdArg w (.slice a N.length cap) N) (j : Nat) (hj : j < N.length) : ∃ b off, a = some ⟨b, off, none⟩ ∧ w.cell? ⟨b, off + j * 6, none⟩ = some (.int .i64 N[j].kind) ∧ w.cell? ⟨b, off + j * 6 + 1, none⟩ = some (.string N[j].text) ∧ w.cell? ⟨b, off + j * 6 + 2, none⟩ = some (.string N[j].mod) ∧ w.cell? ⟨b, off + j * 6 + 3, none⟩ = some (.int .i64 N[j].num) ∧ w.cell? ⟨b, off + j * 6 + 4, none⟩ = some N[j].kv ∧ w.cell? ⟨b, off + j * 6 + 5, none⟩ = some (.int .i64 N[j].at_) ∧ SlA w N[j].kv N[j].kids := by
  rcases h with ⟨a', cap', _, rfl⟩ | ⟨b, off, cap', e, hc⟩
  · simp at hj
  · simp only [Value.slice.injEq, true_and] at e
    obtain ⟨c, s⟩ := hc j hj
    exact ⟨b, off, e.1, c 0 (by decide), c 1 (by decide), c 2 (by decide), c 3 (by decide), c 4 (by decide), c 5 (by decide), s⟩
/-- Are two nodes the same, but for what their Kids are? -/
def lookB (x y : Nd) : Bool := decide (x.kind = y.kind ∧ x.text.toList = y.text.toList ∧ x.mod.toList = y.mod.toList ∧ x.num = y.num ∧ x.kids.length = y.kids.length)
set_option maxRecDepth 100000 in
set_option maxHeartbeats 1600000 in
theorem ps_looksSame (x y : Nd) (w : World) {a b : Option Addr} {c d : Nat} (hx : x.kv = .slice a x.kids.length c) (hy : y.kv = .slice b y.kids.length d) :
    Calls Tryz.prog 15 #[x.val, y.val] w fun e w' => e = .returned (.bool (lookB x y)) ∧ Below w.heap.size w w' := by
  rw [Nd.val, Nd.val, hx, hy]
  obtain ⟨k1, t1, m1, n1, kv1, l1, p1⟩ := x
  obtain ⟨k2, t2, m2, n2, kv2, l2, p2⟩ := y
  dsimp only [lookB] at *
  clear hx hy
  go_enter Tryz.func15, Tryz.ntmps15
  go_wp2
  all_goals go_ret
  all_goals
    refine ⟨congrArg Ending.returned (congrArg Value.bool ?_), (Below.alloc0 w _).trans ((Below.alloc0 _ _).mono (by simp))⟩
    rw [Bool.eq_iff_iff]
    simp_all
    try omega
end Go.Proofs.YtipdmmncgenppaaGreatDoor
