/-
  Layer 8 (shake): the document's Read.
-/
import Derived.Test.YtmnibmgbicnamaaGreatDoorKe
import Derived.Test.YtmnibmgbicnamaaGreatDoorK6
import Derived.Test.YtmnibmgbicnamaaGreatDoorK3
import Derived.Test.YtmnibmgbicnamaaGreatDoorK8
namespace Go.Proofs.YtmnibmgbicnamaaGreatDoor
open Go.RowKit

/-- What the document's Read tells. -/
def RReadTold (k : Int) (b : List Int) (w : World) (e : Ending) (w' : World) : Prop := ∃ D v, e = .returned (.tuple #[msgV' (readOf k b).2 D, v]) ∧ LinksC w.heap.size w' v (readOf k b).1 ∧ Sl w' D (readOf k b).2.digest ∧ Below w.heap.size w w'
theorem letter_q (k : Int) (hk : 1 ≤ k ∧ k ≤ 5) (W : World) (n : Nat) : Calls Tryz.prog 44 #[.int .i64 k] (W.drewN n) fun e w' => e = .returned (.int .u8 (letterOf k)) ∧ ∃ m, w' = W.drewN m :=
  (ref_letter k hk _).mono (by rintro e w' ⟨rfl, rfl⟩; exact ⟨rfl, n, rfl⟩)
/-- What lies there while Read runs: the answer's place, and the message. -/
structure RR (w : World) (m : Msg) (D : Value) (W : World) : Prop where
  z : MsgB W w.heap.size .zero (.slice none 0 0)
  m : MsgB W (w.heap.size + 1) m D
  bw : Below w.heap.size w W
theorem RR.turned {w : World} {m : Msg} {D : Value} {W W' : World} (h : RR w m D W) (ht : Turned (fun _ => False) W W') : RR w m D W' :=
  ⟨Block.turned h.z ht (fun h => h), Block.turned h.m ht (fun h => h), h.bw.trans (ht.below h.bw.size (fun _ h => h.elim))⟩
theorem RR.turnedS {S : Nat → Prop} {w : World} {m : Msg} {D : Value} {W W' : World} (h : RR w m D W) (ht : Turned S W W') (hS : ∀ k, S k → w.heap.size + 1 < k) : RR w m D W' :=
  ⟨Block.turned h.z ht (fun h => by have := hS _ h; omega), Block.turned h.m ht (fun h => by have := hS _ h; omega), h.bw.trans (ht.below h.bw.size (fun k h => by have := hS k h; omega))⟩
theorem Sl.zero (w : World) (t : TypeId) : Own (w.alloc (.cells #[] t)) (.slice (some ⟨w.heap.size, 0, none⟩) 0 0) [] := .inr ⟨w.heap.size, 0, 0, rfl, Nat.le_refl _, by decide, by simp, fun j hj => absurd hj (by simp), fun j hj => absurd hj (by omega)⟩
theorem RR.below {w : World} {m : Msg} {D : Value} {W W' : World} (h : RR w m D W) (hb : Below W.heap.size W W') : RR w m D W' := h.turned (Turned.ofBelow hb)
theorem RR.size {w : World} {m : Msg} {D : Value} {W : World} (h : RR w m D W) : w.heap.size + 1 < W.heap.size := Block.lt h.m (by omega)
theorem RR.set {w : World} {m m' : Msg} {D D' : Value} {W : World} (h : RR w m D W) (i : Nat) (v : Value) (hc : ∀ j, j < 7 → (if j = i then v else msgCell m D j) = msgCell m' D' j) : RR w m' D' (W.setCell ⟨w.heap.size + 1, i, none⟩ v) :=
  ⟨Block.turned h.z (Turned.set1 W (w.heap.size + 1) i v) (fun h => by have h : w.heap.size = w.heap.size + 1 := h; omega), MsgB.set h.m i v hc, h.bw.trans ((Turned.set1 W (w.heap.size + 1) i v).below h.bw.size (fun k hk => by have hk : k = w.heap.size + 1 := hk; omega))⟩
/-- An answer's digest put in its place. -/
theorem rr_digest {w : World} {m : Msg} {W1 w2 : World} {V : Value} {zs : List Int} {t : TypeId} (h : RR w m (.slice none 0 0) W1) (ho : Own w2 V ([] ++ zs)) (ht : Turned (blk (.slice (some ⟨W1.heap.size, 0, none⟩) 0 0)) (W1.alloc (.cells #[] t)) w2) (hb : ∀ k, blk V k → blk (.slice (some ⟨W1.heap.size, 0, none⟩) 0 0) k ∨ k = (W1.alloc (.cells #[] t)).heap.size) :
    RR w m (.slice none 0 0) w2 ∧ Own w2 V zs ∧ ∀ k, blk V k → w.heap.size + 1 < k := by
  have h0 := h.size
  have hk : ∀ k, blk V k → w.heap.size + 1 < k := fun k hk => (hb k hk).elim (fun h => by have h : W1.heap.size = k := h; omega) (fun h => by simp at h; omega)
  exact ⟨(h.turned (Turned.alloc _ _ _)).turnedS ht (fun k hk => by have hk : W1.heap.size = k := hk; omega), ho, hk⟩
theorem rr_done {w : World} {m m' : Msg} {D V : Value} {w2 : World} {zs : List Int} (h : RR w m D w2) (ho : Own w2 V zs) (hk : ∀ k, blk V k → w.heap.size + 1 < k) (hc : ∀ j, j < 7 → (if j = 6 then V else msgCell m D j) = msgCell m' V j) :
    RR w m' V (w2.setCell ⟨w.heap.size + 1, 6, none⟩ V) ∧ Sl (w2.setCell ⟨w.heap.size + 1, 6, none⟩ V) V zs :=
  ⟨h.set 6 V hc, ho.sl.turned (Turned.set1 w2 (w.heap.size + 1) 6 V) (fun k h1 h2 => by have h2 : k = w.heap.size + 1 := h2; have := hk k h1; omega)⟩
theorem Turned.drewN8 (S : Nat → Prop) (w : World) (n : Nat) : Turned S w (w.drewN n) := ⟨rfl, rfl, rfl, Nat.le_refl _, fun _ _ _ => rfl⟩
/-- The first byte. -/
theorem Sl.first {w : World} {B : Value} {b : List Int} (hB : Sl w B b) (hb0 : b ≠ []) : ∃ g off cap, B = .slice (some ⟨g, off, none⟩) b.length cap ∧ b.length ≤ cap ∧ g < w.heap.size ∧ w.cell? ⟨g, off, none⟩ = some (.int .u8 (b.getD 0 0)) := by
  have h0 : 0 < b.length := List.length_pos_iff.2 hb0
  rcases hB with ⟨_, h⟩ | ⟨_, _, h⟩ | ⟨g, off, cap, rfl, h2, h3, h4⟩
  · exact absurd h hb0
  · exact absurd h hb0
  · have hx := h4 0 h0
    refine ⟨g, off, cap, rfl, h2, World.block_lt_of_cell? w _ hx, ?_⟩
    rw [Nat.add_zero] at hx
    rw [hx]
    simp [List.getD, List.getElem?_eq_getElem h0]
theorem refuse_told {k : Int} {b : List Int} {w : World} {ls : List Lnk} (h : readOf k b = (ls, .zero)) {m : Msg} {D : Value} {W w2 w' : World} {v : Value} (hW : RR w m D W) (hl : LinksC W.heap.size w2 v ls) (hb : Below W.heap.size W w2) (ht : Turned (fun q => q = w.heap.size) w2 w') : RReadTold k b w (.returned (.tuple #[.agg #[.int .i64 0, .int .u64 0, .int .u32 0, .int .u32 0, .string ⟨#[]⟩, .string ⟨#[]⟩, .slice none 0 0], v])) w' := by
  unfold RReadTold
  rw [h]
  have h0 := hW.size
  have h1 := hW.bw.size
  have hb2 : Below w.heap.size w w2 := hW.bw.trans (hb.mono h1)
  exact ⟨.slice none 0 0, v, rfl, (hl.turned ht (fun q hq _ he => by have he : q = w.heap.size := he; omega)).mono h1, .inl ⟨rfl, rfl⟩, hb2.trans (ht.below hb2.size (fun q he => Nat.le_of_eq he.symm))⟩
theorem read_told {k : Int} {b : List Int} {w : World} {m : Msg} (h : readOf k b = ([], m)) {D : Value} {W w' : World} (hW : RR w m D W) (hD : Sl W D m.digest) (hk : ∀ q, blk D q → w.heap.size + 1 < q) (ht : Turned (fun q => q = w.heap.size) W w') : RReadTold k b w (.returned (.tuple #[.agg #[.int .i64 m.kind, .int .u64 m.flags, .int .u32 m.creation, .int .u32 m.challenge, .string m.name, .string m.status, D], .slice none 0 0])) w' := by
  unfold RReadTold
  rw [h]
  exact ⟨D, .slice none 0 0, rfl, rfl, hD.turned ht (fun q hq he => by have he : q = w.heap.size := he; have := hk q hq; omega), hW.bw.trans (ht.below hW.bw.size (fun q he => Nat.le_of_eq he.symm))⟩
theorem rr_new (w : World) (k : Int) (nq : Nat) : RR w { Msg.zero with kind := k } (.slice none 0 0) (((w.alloc (.cells #[.int .i64 0, .int .u64 0, .int .u32 0, .int .u32 0, .string ⟨#[]⟩, .string ⟨#[]⟩, .slice none 0 0] 27)).alloc (.cells #[.int .i64 k, .int .u64 0, .int .u32 0, .int .u32 0, .string ⟨#[]⟩, .string ⟨#[]⟩, .slice none 0 0] 27)).drewN nq) := by
  refine RR.turned (W := (w.alloc _).alloc _) ?_ (Turned.drewN8 _ _ nq)
  refine ⟨Block.turned (MsgB.ofNew w .zero (.slice none 0 0) 27) (Turned.alloc (fun _ => False) _ _) (fun h => h), ?_, ((Below.refl w.heap.size w).alloc (Nat.le_refl _) _).alloc (by simp) _⟩
  have h := MsgB.ofNew (w.alloc (.cells #[.int .i64 0, .int .u64 0, .int .u32 0, .int .u32 0, .string ⟨#[]⟩, .string ⟨#[]⟩, .slice none 0 0] 27)) { Msg.zero with kind := k } (.slice none 0 0) 27
  rw [World.size_alloc] at h
  exact h
set_option maxRecDepth 100000 in
theorem ref_read_under (k : Int) (hk : k < 1) (b : List Int) {w : World} {B : Value} (hB : Sl w B b) : Calls Tryz.prog 14 #[.int .i64 k, B] w (RReadTold k b w) := by
  have hrd : readOf k b = (sh 0 1, .zero) := by unfold readOf; rw [if_pos (by omega)]
  obtain ⟨aB, cB, rfl, _, _⟩ := hB.form
  generalize b.length = L
  have hno := sh_no 0 1
  have HR := Hid.mk7 hrd
  clear hrd hB
  go_enter Tryz.func14, Tryz.ntmps14
  go_wp2_with fail
  refine (hno _).mono ?_
  rintro e w2 ⟨v, rfl, hl2, hb2⟩
  have HA := Hid.mk7 (rr_new w k 0)
  have HL2 := Hid.mk7 (And.intro hl2 hb2)
  have Z2 := (HA.out.below hb2).z
  obtain ⟨z0, y0⟩ := Z2 0 (by omega)
  obtain ⟨z1, y1⟩ := Z2 1 (by omega)
  obtain ⟨z2, y2⟩ := Z2 2 (by omega)
  obtain ⟨z3, y3⟩ := Z2 3 (by omega)
  obtain ⟨z4, y4⟩ := Z2 4 (by omega)
  obtain ⟨z5, y5⟩ := Z2 5 (by omega)
  obtain ⟨z6, y6⟩ := Z2 6 (by omega)
  simp only [msgCell, Msg.zero] at z0 z1 z2 z3 z4 z5 z6
  obtain ⟨lb, capl, _, rfl, _⟩ := hl2
  clear hb2 Z2 hno
  go_wp2
  refine bodyPost_ret (v := .tuple #[.agg #[.int .i64 0, .int .u64 0, .int .u32 0, .int .u32 0, .string ⟨#[]⟩, .string ⟨#[]⟩, .slice none 0 0], .slice (some ⟨lb, 0, none⟩) 1 capl]) (by simp [results, Tryz.results14, go_sem, z0, z1, z2, z3, z4, z5, z6]) rfl ?_
  exact refuse_told HR.out HA.out HL2.out.1 HL2.out.2 (turned7 _ _ _ _ _ _ _ _ _)
set_option maxRecDepth 100000 in
theorem ref_read_above (k : Int) (hk : 5 < k) (b : List Int) {w : World} {B : Value} (hB : Sl w B b) : Calls Tryz.prog 14 #[.int .i64 k, B] w (RReadTold k b w) := by
  have hrd : readOf k b = (sh 0 1, .zero) := by unfold readOf; rw [if_pos (by omega)]
  obtain ⟨aB, cB, rfl, _, _⟩ := hB.form
  generalize b.length = L
  have hno := sh_no 0 1
  have HR := Hid.mk7 hrd
  clear hrd hB
  go_enter Tryz.func14, Tryz.ntmps14
  go_wp2_with fail
  refine (hno _).mono ?_
  rintro e w2 ⟨v, rfl, hl2, hb2⟩
  have HA := Hid.mk7 (rr_new w k 0)
  have HL2 := Hid.mk7 (And.intro hl2 hb2)
  have Z2 := (HA.out.below hb2).z
  obtain ⟨z0, y0⟩ := Z2 0 (by omega)
  obtain ⟨z1, y1⟩ := Z2 1 (by omega)
  obtain ⟨z2, y2⟩ := Z2 2 (by omega)
  obtain ⟨z3, y3⟩ := Z2 3 (by omega)
  obtain ⟨z4, y4⟩ := Z2 4 (by omega)
  obtain ⟨z5, y5⟩ := Z2 5 (by omega)
  obtain ⟨z6, y6⟩ := Z2 6 (by omega)
  simp only [msgCell, Msg.zero] at z0 z1 z2 z3 z4 z5 z6
  obtain ⟨lb, capl, _, rfl, _⟩ := hl2
  clear hb2 Z2 hno
  go_wp2
  refine bodyPost_ret (v := .tuple #[.agg #[.int .i64 0, .int .u64 0, .int .u32 0, .int .u32 0, .string ⟨#[]⟩, .string ⟨#[]⟩, .slice none 0 0], .slice (some ⟨lb, 0, none⟩) 1 capl]) (by simp [results, Tryz.results14, go_sem, z0, z1, z2, z3, z4, z5, z6]) rfl ?_
  exact refuse_told HR.out HA.out HL2.out.1 HL2.out.2 (turned7 _ _ _ _ _ _ _ _ _)
set_option maxRecDepth 100000 in
set_option maxHeartbeats 3200000 in
theorem ref_read_none (k : Int) (hk : 1 ≤ k ∧ k ≤ 5) {w : World} {B : Value} (hB : Sl w B []) : Calls Tryz.prog 14 #[.int .i64 k, B] w (RReadTold k [] w) := by
  have hrd : readOf k [] = (sh 0 160, .zero) := by unfold readOf; rw [if_neg (by omega), if_pos (.inl rfl)]
  obtain ⟨aB, cB, rfl, _, _⟩ := hB.form
  have hno := sh_no 0 160
  have HR := Hid.mk7 hrd
  have k1 : ¬ k < 1 := by omega
  have k5 : ¬ 5 < k := by omega
  clear hrd hB
  simp only [List.length_nil]
  go_enter Tryz.func14, Tryz.ntmps14
  go_wp2_with fail
  go_quiet (fail)
  have HA := Hid.mk7 (rr_new w k nq)
  go_wp2_with fail
  refine (hno _).mono ?_
  rintro e w2 ⟨v, rfl, hl2, hb2⟩
  have HL2 := Hid.mk7 (And.intro hl2 hb2)
  have Z2 := (HA.out.below hb2).z
  obtain ⟨z0, y0⟩ := Z2 0 (by omega)
  obtain ⟨z1, y1⟩ := Z2 1 (by omega)
  obtain ⟨z2, y2⟩ := Z2 2 (by omega)
  obtain ⟨z3, y3⟩ := Z2 3 (by omega)
  obtain ⟨z4, y4⟩ := Z2 4 (by omega)
  obtain ⟨z5, y5⟩ := Z2 5 (by omega)
  obtain ⟨z6, y6⟩ := Z2 6 (by omega)
  simp only [msgCell, Msg.zero] at z0 z1 z2 z3 z4 z5 z6
  obtain ⟨lb, capl, _, rfl, _⟩ := hl2
  clear hb2 Z2 hno
  go_wp2
  refine bodyPost_ret (v := .tuple #[.agg #[.int .i64 0, .int .u64 0, .int .u32 0, .int .u32 0, .string ⟨#[]⟩, .string ⟨#[]⟩, .slice none 0 0], .slice (some ⟨lb, 0, none⟩) 1 capl]) (by simp [results, Tryz.results14, go_sem, z0, z1, z2, z3, z4, z5, z6]) rfl ?_
  exact refuse_told HR.out HA.out HL2.out.1 HL2.out.2 (turned7 _ _ _ _ _ _ _ _ _)
set_option maxRecDepth 100000 in
set_option maxHeartbeats 3200000 in
theorem ref_read_letter (k : Int) (hk : 1 ≤ k ∧ k ≤ 5) (b : List Int) (hb0 : b ≠ []) (hb1 : b.getD 0 0 ≠ letterOf k) {w : World} {B : Value} (hB : Sl w B b) : Calls Tryz.prog 14 #[.int .i64 k, B] w (RReadTold k b w) := by
  have hrd : readOf k b = (sh 0 160, .zero) := by unfold readOf; rw [if_neg (by omega), if_pos (.inr hb1)]
  have hle := letter_q k hk
  obtain ⟨g, off, cap, rfl, hcap, hlt, hx⟩ := hB.first hb0
  have hq : ((b.length : Int) == 0) = false := by
    have h0 : 0 < b.length := List.length_pos_iff.2 hb0
    simp
    omega
  have hi : (0 : Int) < (b.length : Int) := by
    have h0 : 0 < b.length := List.length_pos_iff.2 hb0
    omega
  have HB := Hid.mk7 hB
  have HR := Hid.mk7 hrd
  have HLT := Hid.mk7 hlt
  have hno := sh_no 0 160
  have k1 : ¬ k < 1 := by omega
  have k5 : ¬ 5 < k := by omega
  generalize b.getD 0 0 = c0 at hx hb1
  generalize letterOf k = lt at hle hb1
  have hne : (c0 == lt) = false := by simp [hb1]
  clear hrd hB hb0 hb1 hk
  go_enter Tryz.func14, Tryz.ntmps14
  go_wp2_with fail
  go_quiet ((go_at_call 44; refine hle _ _))
  have HA := Hid.mk7 (rr_new w k nq)
  go_wp2_with fail
  refine (hno _).mono ?_
  rintro e w2 ⟨v, rfl, hl2, hb2⟩
  have HL2 := Hid.mk7 (And.intro hl2 hb2)
  have Z2 := (HA.out.below hb2).z
  obtain ⟨z0, y0⟩ := Z2 0 (by omega)
  obtain ⟨z1, y1⟩ := Z2 1 (by omega)
  obtain ⟨z2, y2⟩ := Z2 2 (by omega)
  obtain ⟨z3, y3⟩ := Z2 3 (by omega)
  obtain ⟨z4, y4⟩ := Z2 4 (by omega)
  obtain ⟨z5, y5⟩ := Z2 5 (by omega)
  obtain ⟨z6, y6⟩ := Z2 6 (by omega)
  simp only [msgCell, Msg.zero] at z0 z1 z2 z3 z4 z5 z6
  obtain ⟨lb, capl, _, rfl, _⟩ := hl2
  clear hb2 Z2 hno
  go_wp2
  refine bodyPost_ret (v := .tuple #[.agg #[.int .i64 0, .int .u64 0, .int .u32 0, .int .u32 0, .string ⟨#[]⟩, .string ⟨#[]⟩, .slice none 0 0], .slice (some ⟨lb, 0, none⟩) 1 capl]) (by simp [results, Tryz.results14, go_sem, z0, z1, z2, z3, z4, z5, z6]) rfl ?_
  exact refuse_told HR.out HA.out HL2.out.1 HL2.out.2 (turned7 _ _ _ _ _ _ _ _ _)
set_option maxRecDepth 100000 in
set_option maxHeartbeats 3200000 in
theorem ref_read_2no (b : List Int) (hb0 : b ≠ []) (hb1 : b.getD 0 0 = 115) (hs : isSt (strOfNums (b.drop 1)) = false) {w : World} {B : Value} (hB : Sl w B b) : Calls Tryz.prog 14 #[.int .i64 2, B] w (RReadTold 2 b w) := by
  have hrd : readOf 2 b = (sh 1 160, .zero) := by
    have h0 : ¬ b.length = 0 := by simpa using hb0
    unfold readOf
    rw [if_neg (by omega), if_neg (by rw [hb1]; simpa [letterOf] using h0), if_pos rfl, if_neg (by rw [hs]; decide)]
  have hle := letter_q 2 (by omega)
  rw [show letterOf 2 = 115 from rfl] at hle
  obtain ⟨g, off, cap, rfl, hcap, hlt, hx⟩ := hB.first hb0
  have hq : ((b.length : Int) == 0) = false := by
    have h0 : 0 < b.length := List.length_pos_iff.2 hb0
    simp
    omega
  have hi : (0 : Int) < (b.length : Int) := by
    have h0 : 0 < b.length := List.length_pos_iff.2 hb0
    omega
  have HB := Hid.mk7 hB
  have HR := Hid.mk7 hrd
  have HLT := Hid.mk7 hlt
  rw [hb1] at hx
  clear hrd hB hb1
  have hl1 : 1 ≤ b.length := List.length_pos_iff.2 hb0
  have hno := sh_no 1 160
  clear hb0
  go_enter Tryz.func14, Tryz.ntmps14
  go_wp2_with fail
  go_quiet ((go_at_call 44; refine hle _ _))
  obtain ⟨W0, hW0⟩ : ∃ W0, W0 = ((w.alloc (.cells #[.int .i64 0, .int .u64 0, .int .u32 0, .int .u32 0, .string ⟨#[]⟩, .string ⟨#[]⟩, .slice none 0 0] 27)).alloc (.cells #[.int .i64 2, .int .u64 0, .int .u32 0, .int .u32 0, .string ⟨#[]⟩, .string ⟨#[]⟩, .slice none 0 0] 27)).drewN nq := ⟨_, rfl⟩
  have r0 : RR w { Msg.zero with kind := 2 } (.slice none 0 0) W0 := by rw [hW0]; exact rr_new w 2 nq
  have H0 := Hid.mk7 r0
  rw [← hW0]
  have hB0 := HB.out.turned (Turned.ofBelow (S := fun _ => False) r0.bw) (fun _ _ h => h)
  obtain ⟨k0, f0⟩ := r0.m 0 (by omega)
  obtain ⟨k1, f1⟩ := r0.m 1 (by omega)
  obtain ⟨k2, f2⟩ := r0.m 2 (by omega)
  obtain ⟨k3, f3⟩ := r0.m 3 (by omega)
  obtain ⟨k4, f4⟩ := r0.m 4 (by omega)
  obtain ⟨k5, f5⟩ := r0.m 5 (by omega)
  obtain ⟨k6, f6⟩ := r0.m 6 (by omega)
  simp only [msgCell, Msg.zero] at k0 k1 k2 k3 k4 k5 k6
  clear hW0 r0 hx hlt hq hle
  obtain ⟨aF, haF⟩ : ∃ aF : Option Addr, aF = if cap = 1 then some ⟨g, off, none⟩ else (some ⟨g, off, none⟩ : Option Addr).map (·.add 1) := ⟨_, rfl⟩
  have hc2 : ∀ W : World, (Instr.slice 25 (.slice (some ⟨g, off, none⟩) b.length cap) (some (.int .i64 1)) none none).run Tryz.prog W = .ok (.slice aF (b.length - 1) (cap - 1)) W := fun W => by rw [haF]; exact run_cutFrom Tryz.bytes (l := 1) (by omega) W
  have hsF : Sl W0 (.slice aF (b.length - 1) (cap - 1)) (b.drop 1) := by rw [haF]; exact Sl.drop hB0 (by omega)
  have cvs := hsF.str
  have HCV : Hid (aF = if cap = 1 then some ⟨g, off, none⟩ else (some ⟨g, off, none⟩ : Option Addr).map (·.add 1)) := haF
  have hst := fun W => ref_status (strOfNums (b.drop 1)) W
  rw [hs] at hst
  clear haF hsF hB0 hs
  generalize strOfNums (b.drop 1) = s at cvs hst HR
  have H1 : Hid (RR w { Msg.zero with kind := 2, status := s } (.slice none 0 0) (W0.setCell ⟨w.heap.size + 1, 5, none⟩ (.string s))) := H0.out.set 5 (.string s) (forall7 rfl rfl rfl rfl rfl rfl rfl)
  go_wp2_with fail
  refine (hst _).mono ?_
  rintro e w1 ⟨rfl, rfl⟩
  go_wp2_with fail
  refine (hno _).mono ?_
  rintro e w2 ⟨v, rfl, hl2, hb2⟩
  have HL2 := Hid.mk7 (And.intro hl2 hb2)
  have Z2 := (H1.out.below hb2).z
  obtain ⟨z0, y0⟩ := Z2 0 (by omega)
  obtain ⟨z1, y1⟩ := Z2 1 (by omega)
  obtain ⟨z2, y2⟩ := Z2 2 (by omega)
  obtain ⟨z3, y3⟩ := Z2 3 (by omega)
  obtain ⟨z4, y4⟩ := Z2 4 (by omega)
  obtain ⟨z5, y5⟩ := Z2 5 (by omega)
  obtain ⟨z6, y6⟩ := Z2 6 (by omega)
  simp only [msgCell, Msg.zero] at z0 z1 z2 z3 z4 z5 z6
  obtain ⟨lb, capl, _, rfl, _⟩ := hl2
  clear hb2 Z2 hno
  go_wp2
  refine bodyPost_ret (v := .tuple #[.agg #[.int .i64 0, .int .u64 0, .int .u32 0, .int .u32 0, .string ⟨#[]⟩, .string ⟨#[]⟩, .slice none 0 0], .slice (some ⟨lb, 0, none⟩) 1 capl]) (by simp [results, Tryz.results14, go_sem, z0, z1, z2, z3, z4, z5, z6]) rfl ?_
  exact refuse_told HR.out H1.out HL2.out.1 HL2.out.2 (turned7 _ _ _ _ _ _ _ _ _)
set_option maxRecDepth 100000 in
set_option maxHeartbeats 3200000 in
theorem ref_read_2ok (b : List Int) (hb0 : b ≠ []) (hb1 : b.getD 0 0 = 115) (hs : isSt (strOfNums (b.drop 1)) = true) {w : World} {B : Value} (hB : Sl w B b) : Calls Tryz.prog 14 #[.int .i64 2, B] w (RReadTold 2 b w) := by
  have hrd : readOf 2 b = ([], { Msg.zero with kind := 2, status := strOfNums (b.drop 1) }) := by
    have h0 : ¬ b.length = 0 := by simpa using hb0
    unfold readOf
    rw [if_neg (by omega), if_neg (by rw [hb1]; simpa [letterOf] using h0), if_pos rfl, if_pos hs]
  have hle := letter_q 2 (by omega)
  rw [show letterOf 2 = 115 from rfl] at hle
  obtain ⟨g, off, cap, rfl, hcap, hlt, hx⟩ := hB.first hb0
  have hq : ((b.length : Int) == 0) = false := by
    have h0 : 0 < b.length := List.length_pos_iff.2 hb0
    simp
    omega
  have hi : (0 : Int) < (b.length : Int) := by
    have h0 : 0 < b.length := List.length_pos_iff.2 hb0
    omega
  have HB := Hid.mk7 hB
  have HR := Hid.mk7 hrd
  have HLT := Hid.mk7 hlt
  rw [hb1] at hx
  clear hrd hB hb1
  have hl1 : 1 ≤ b.length := List.length_pos_iff.2 hb0
  clear hb0
  go_enter Tryz.func14, Tryz.ntmps14
  go_wp2_with fail
  go_quiet ((go_at_call 44; refine hle _ _))
  obtain ⟨W0, hW0⟩ : ∃ W0, W0 = ((w.alloc (.cells #[.int .i64 0, .int .u64 0, .int .u32 0, .int .u32 0, .string ⟨#[]⟩, .string ⟨#[]⟩, .slice none 0 0] 27)).alloc (.cells #[.int .i64 2, .int .u64 0, .int .u32 0, .int .u32 0, .string ⟨#[]⟩, .string ⟨#[]⟩, .slice none 0 0] 27)).drewN nq := ⟨_, rfl⟩
  have r0 : RR w { Msg.zero with kind := 2 } (.slice none 0 0) W0 := by rw [hW0]; exact rr_new w 2 nq
  have H0 := Hid.mk7 r0
  rw [← hW0]
  have hB0 := HB.out.turned (Turned.ofBelow (S := fun _ => False) r0.bw) (fun _ _ h => h)
  obtain ⟨k0, f0⟩ := r0.m 0 (by omega)
  obtain ⟨k1, f1⟩ := r0.m 1 (by omega)
  obtain ⟨k2, f2⟩ := r0.m 2 (by omega)
  obtain ⟨k3, f3⟩ := r0.m 3 (by omega)
  obtain ⟨k4, f4⟩ := r0.m 4 (by omega)
  obtain ⟨k5, f5⟩ := r0.m 5 (by omega)
  obtain ⟨k6, f6⟩ := r0.m 6 (by omega)
  simp only [msgCell, Msg.zero] at k0 k1 k2 k3 k4 k5 k6
  clear hW0 r0 hx hlt hq hle
  obtain ⟨aF, haF⟩ : ∃ aF : Option Addr, aF = if cap = 1 then some ⟨g, off, none⟩ else (some ⟨g, off, none⟩ : Option Addr).map (·.add 1) := ⟨_, rfl⟩
  have hc2 : ∀ W : World, (Instr.slice 25 (.slice (some ⟨g, off, none⟩) b.length cap) (some (.int .i64 1)) none none).run Tryz.prog W = .ok (.slice aF (b.length - 1) (cap - 1)) W := fun W => by rw [haF]; exact run_cutFrom Tryz.bytes (l := 1) (by omega) W
  have hsF : Sl W0 (.slice aF (b.length - 1) (cap - 1)) (b.drop 1) := by rw [haF]; exact Sl.drop hB0 (by omega)
  have cvs := hsF.str
  have HCV : Hid (aF = if cap = 1 then some ⟨g, off, none⟩ else (some ⟨g, off, none⟩ : Option Addr).map (·.add 1)) := haF
  have hst := fun W => ref_status (strOfNums (b.drop 1)) W
  rw [hs] at hst
  clear haF hsF hB0 hs
  generalize strOfNums (b.drop 1) = s at cvs hst HR
  have H1 : Hid (RR w { Msg.zero with kind := 2, status := s } (.slice none 0 0) (W0.setCell ⟨w.heap.size + 1, 5, none⟩ (.string s))) := H0.out.set 5 (.string s) (forall7 rfl rfl rfl rfl rfl rfl rfl)
  go_wp2_with fail
  refine (hst _).mono ?_
  rintro e w1 ⟨rfl, rfl⟩
  obtain ⟨z0, y0⟩ := H1.out.z 0 (by omega)
  obtain ⟨z1, y1⟩ := H1.out.z 1 (by omega)
  obtain ⟨z2, y2⟩ := H1.out.z 2 (by omega)
  obtain ⟨z3, y3⟩ := H1.out.z 3 (by omega)
  obtain ⟨z4, y4⟩ := H1.out.z 4 (by omega)
  obtain ⟨z5, y5⟩ := H1.out.z 5 (by omega)
  obtain ⟨z6, y6⟩ := H1.out.z 6 (by omega)
  simp only [msgCell, Msg.zero] at z0 z1 z2 z3 z4 z5 z6
  obtain ⟨m0, m1, m2, m3, m4, m5, m6⟩ := H1.out.m.at_
  simp only [Msg.zero] at m0 m1 m2 m3 m4 m5 m6
  go_wp2
  refine bodyPost_ret (v := .tuple #[.agg #[.int .i64 2, .int .u64 0, .int .u32 0, .int .u32 0, .string ⟨#[]⟩, .string s, .slice none 0 0], .slice none 0 0]) (by simp [results, Tryz.results14, go_sem, z0, z1, z2, z3, z4, z5, z6]) rfl ?_
  exact read_told HR.out H1.out (.inl ⟨rfl, rfl⟩) (fun _ h => h.elim) (turned7 _ _ _ _ _ _ _ _ _)
set_option maxRecDepth 100000 in
set_option maxHeartbeats 3200000 in
theorem ref_read_4short (b : List Int) (hb0 : b ≠ []) (hb1 : b.getD 0 0 = 114) (hl : b.length < 21) {w : World} {B : Value} (hB : Sl w B b) : Calls Tryz.prog 14 #[.int .i64 4, B] w (RReadTold 4 b w) := by
  have hrd : readOf 4 b = (sh b.length 160, .zero) := by
    have h0 : ¬ b.length = 0 := by simpa using hb0
    unfold readOf
    rw [if_neg (by omega), if_neg (by rw [hb1]; simpa [letterOf] using h0), if_neg (by omega), if_pos (by simpa [headLen] using hl)]
  have hle := letter_q 4 (by omega)
  rw [show letterOf 4 = 114 from rfl] at hle
  obtain ⟨g, off, cap, rfl, hcap, hlt, hx⟩ := hB.first hb0
  have hq : ((b.length : Int) == 0) = false := by
    have h0 : 0 < b.length := List.length_pos_iff.2 hb0
    simp
    omega
  have hi : (0 : Int) < (b.length : Int) := by
    have h0 : 0 < b.length := List.length_pos_iff.2 hb0
    omega
  have HB := Hid.mk7 hB
  have HR := Hid.mk7 hrd
  have HLT := Hid.mk7 hlt
  rw [hb1] at hx
  clear hrd hB hb0 hb1
  have hli : (b.length : Int) < 21 := by omega
  have hno := sh_no (b.length : Int) 160
  go_enter Tryz.func14, Tryz.ntmps14
  go_wp2_with fail
  go_quiet ((go_at_call 44; refine hle _ _))
  obtain ⟨W0, hW0⟩ : ∃ W0, W0 = ((w.alloc (.cells #[.int .i64 0, .int .u64 0, .int .u32 0, .int .u32 0, .string ⟨#[]⟩, .string ⟨#[]⟩, .slice none 0 0] 27)).alloc (.cells #[.int .i64 4, .int .u64 0, .int .u32 0, .int .u32 0, .string ⟨#[]⟩, .string ⟨#[]⟩, .slice none 0 0] 27)).drewN nq := ⟨_, rfl⟩
  have r0 : RR w { Msg.zero with kind := 4 } (.slice none 0 0) W0 := by rw [hW0]; exact rr_new w 4 nq
  have H0 := Hid.mk7 r0
  rw [← hW0]
  have hB0 := HB.out.turned (Turned.ofBelow (S := fun _ => False) r0.bw) (fun _ _ h => h)
  obtain ⟨k0, f0⟩ := r0.m 0 (by omega)
  obtain ⟨k1, f1⟩ := r0.m 1 (by omega)
  obtain ⟨k2, f2⟩ := r0.m 2 (by omega)
  obtain ⟨k3, f3⟩ := r0.m 3 (by omega)
  obtain ⟨k4, f4⟩ := r0.m 4 (by omega)
  obtain ⟨k5, f5⟩ := r0.m 5 (by omega)
  obtain ⟨k6, f6⟩ := r0.m 6 (by omega)
  simp only [msgCell, Msg.zero] at k0 k1 k2 k3 k4 k5 k6
  clear hW0 r0 hx hlt hq hle
  clear hB0 hl
  go_wp2_with fail
  refine (hno _).mono ?_
  rintro e w2 ⟨v, rfl, hl2, hb2⟩
  have HL2 := Hid.mk7 (And.intro hl2 hb2)
  have Z2 := (H0.out.below hb2).z
  obtain ⟨z0, y0⟩ := Z2 0 (by omega)
  obtain ⟨z1, y1⟩ := Z2 1 (by omega)
  obtain ⟨z2, y2⟩ := Z2 2 (by omega)
  obtain ⟨z3, y3⟩ := Z2 3 (by omega)
  obtain ⟨z4, y4⟩ := Z2 4 (by omega)
  obtain ⟨z5, y5⟩ := Z2 5 (by omega)
  obtain ⟨z6, y6⟩ := Z2 6 (by omega)
  simp only [msgCell, Msg.zero] at z0 z1 z2 z3 z4 z5 z6
  obtain ⟨lb, capl, _, rfl, _⟩ := hl2
  clear hb2 Z2 hno
  go_wp2
  refine bodyPost_ret (v := .tuple #[.agg #[.int .i64 0, .int .u64 0, .int .u32 0, .int .u32 0, .string ⟨#[]⟩, .string ⟨#[]⟩, .slice none 0 0], .slice (some ⟨lb, 0, none⟩) 1 capl]) (by simp [results, Tryz.results14, go_sem, z0, z1, z2, z3, z4, z5, z6]) rfl ?_
  exact refuse_told HR.out H0.out HL2.out.1 HL2.out.2 (turned7 _ _ _ _ _ _ _ _ _)
set_option maxRecDepth 100000 in
set_option maxHeartbeats 3200000 in
theorem ref_read_4long (b : List Int) (hb0 : b ≠ []) (hb1 : b.getD 0 0 = 114) (hl : 21 < b.length) {w : World} {B : Value} (hB : Sl w B b) : Calls Tryz.prog 14 #[.int .i64 4, B] w (RReadTold 4 b w) := by
  have hrd : readOf 4 b = (sh 21 160, .zero) := by
    have h0 : ¬ b.length = 0 := by simpa using hb0
    unfold readOf
    rw [if_neg (by omega), if_neg (by rw [hb1]; simpa [letterOf] using h0), if_neg (by omega), if_neg (by simp [headLen]; omega), if_neg (by simp [endOf, headLen]; omega), if_pos (by simpa [endOf, headLen] using hl)]
    rfl
  have hle := letter_q 4 (by omega)
  rw [show letterOf 4 = 114 from rfl] at hle
  obtain ⟨g, off, cap, rfl, hcap, hlt, hx⟩ := hB.first hb0
  have hq : ((b.length : Int) == 0) = false := by
    have h0 : 0 < b.length := List.length_pos_iff.2 hb0
    simp
    omega
  have hi : (0 : Int) < (b.length : Int) := by
    have h0 : 0 < b.length := List.length_pos_iff.2 hb0
    omega
  have HB := Hid.mk7 hB
  have HR := Hid.mk7 hrd
  have HLT := Hid.mk7 hlt
  rw [hb1] at hx
  clear hrd hB hb0 hb1
  have hli : ¬ (b.length : Int) < 21 := by omega
  have hlj : (21 : Int) < (b.length : Int) := by omega
  have hno := sh_no 21 160
  go_enter Tryz.func14, Tryz.ntmps14
  go_wp2_with fail
  go_quiet ((go_at_call 44; refine hle _ _))
  obtain ⟨W0, hW0⟩ : ∃ W0, W0 = ((w.alloc (.cells #[.int .i64 0, .int .u64 0, .int .u32 0, .int .u32 0, .string ⟨#[]⟩, .string ⟨#[]⟩, .slice none 0 0] 27)).alloc (.cells #[.int .i64 4, .int .u64 0, .int .u32 0, .int .u32 0, .string ⟨#[]⟩, .string ⟨#[]⟩, .slice none 0 0] 27)).drewN nq := ⟨_, rfl⟩
  have r0 : RR w { Msg.zero with kind := 4 } (.slice none 0 0) W0 := by rw [hW0]; exact rr_new w 4 nq
  have H0 := Hid.mk7 r0
  rw [← hW0]
  have hB0 := HB.out.turned (Turned.ofBelow (S := fun _ => False) r0.bw) (fun _ _ h => h)
  obtain ⟨k0, f0⟩ := r0.m 0 (by omega)
  obtain ⟨k1, f1⟩ := r0.m 1 (by omega)
  obtain ⟨k2, f2⟩ := r0.m 2 (by omega)
  obtain ⟨k3, f3⟩ := r0.m 3 (by omega)
  obtain ⟨k4, f4⟩ := r0.m 4 (by omega)
  obtain ⟨k5, f5⟩ := r0.m 5 (by omega)
  obtain ⟨k6, f6⟩ := r0.m 6 (by omega)
  simp only [msgCell, Msg.zero] at k0 k1 k2 k3 k4 k5 k6
  clear hW0 r0 hx hlt hq hle
  clear hB0 hl
  go_wp2_with fail
  refine (hno _).mono ?_
  rintro e w2 ⟨v, rfl, hl2, hb2⟩
  have HL2 := Hid.mk7 (And.intro hl2 hb2)
  have Z2 := (H0.out.below hb2).z
  obtain ⟨z0, y0⟩ := Z2 0 (by omega)
  obtain ⟨z1, y1⟩ := Z2 1 (by omega)
  obtain ⟨z2, y2⟩ := Z2 2 (by omega)
  obtain ⟨z3, y3⟩ := Z2 3 (by omega)
  obtain ⟨z4, y4⟩ := Z2 4 (by omega)
  obtain ⟨z5, y5⟩ := Z2 5 (by omega)
  obtain ⟨z6, y6⟩ := Z2 6 (by omega)
  simp only [msgCell, Msg.zero] at z0 z1 z2 z3 z4 z5 z6
  obtain ⟨lb, capl, _, rfl, _⟩ := hl2
  clear hb2 Z2 hno
  go_wp2
  refine bodyPost_ret (v := .tuple #[.agg #[.int .i64 0, .int .u64 0, .int .u32 0, .int .u32 0, .string ⟨#[]⟩, .string ⟨#[]⟩, .slice none 0 0], .slice (some ⟨lb, 0, none⟩) 1 capl]) (by simp [results, Tryz.results14, go_sem, z0, z1, z2, z3, z4, z5, z6]) rfl ?_
  exact refuse_told HR.out H0.out HL2.out.1 HL2.out.2 (turned7 _ _ _ _ _ _ _ _ _)
set_option maxRecDepth 100000 in
set_option maxHeartbeats 3200000 in
theorem ref_read_5short (b : List Int) (hb0 : b ≠ []) (hb1 : b.getD 0 0 = 97) (hl : b.length < 17) {w : World} {B : Value} (hB : Sl w B b) : Calls Tryz.prog 14 #[.int .i64 5, B] w (RReadTold 5 b w) := by
  have hrd : readOf 5 b = (sh b.length 160, .zero) := by
    have h0 : ¬ b.length = 0 := by simpa using hb0
    unfold readOf
    rw [if_neg (by omega), if_neg (by rw [hb1]; simpa [letterOf] using h0), if_neg (by omega), if_pos (by simpa [headLen] using hl)]
  have hle := letter_q 5 (by omega)
  rw [show letterOf 5 = 97 from rfl] at hle
  obtain ⟨g, off, cap, rfl, hcap, hlt, hx⟩ := hB.first hb0
  have hq : ((b.length : Int) == 0) = false := by
    have h0 : 0 < b.length := List.length_pos_iff.2 hb0
    simp
    omega
  have hi : (0 : Int) < (b.length : Int) := by
    have h0 : 0 < b.length := List.length_pos_iff.2 hb0
    omega
  have HB := Hid.mk7 hB
  have HR := Hid.mk7 hrd
  have HLT := Hid.mk7 hlt
  rw [hb1] at hx
  clear hrd hB hb0 hb1
  have hli : (b.length : Int) < 17 := by omega
  have hno := sh_no (b.length : Int) 160
  go_enter Tryz.func14, Tryz.ntmps14
  go_wp2_with fail
  go_quiet ((go_at_call 44; refine hle _ _))
  obtain ⟨W0, hW0⟩ : ∃ W0, W0 = ((w.alloc (.cells #[.int .i64 0, .int .u64 0, .int .u32 0, .int .u32 0, .string ⟨#[]⟩, .string ⟨#[]⟩, .slice none 0 0] 27)).alloc (.cells #[.int .i64 5, .int .u64 0, .int .u32 0, .int .u32 0, .string ⟨#[]⟩, .string ⟨#[]⟩, .slice none 0 0] 27)).drewN nq := ⟨_, rfl⟩
  have r0 : RR w { Msg.zero with kind := 5 } (.slice none 0 0) W0 := by rw [hW0]; exact rr_new w 5 nq
  have H0 := Hid.mk7 r0
  rw [← hW0]
  have hB0 := HB.out.turned (Turned.ofBelow (S := fun _ => False) r0.bw) (fun _ _ h => h)
  obtain ⟨k0, f0⟩ := r0.m 0 (by omega)
  obtain ⟨k1, f1⟩ := r0.m 1 (by omega)
  obtain ⟨k2, f2⟩ := r0.m 2 (by omega)
  obtain ⟨k3, f3⟩ := r0.m 3 (by omega)
  obtain ⟨k4, f4⟩ := r0.m 4 (by omega)
  obtain ⟨k5, f5⟩ := r0.m 5 (by omega)
  obtain ⟨k6, f6⟩ := r0.m 6 (by omega)
  simp only [msgCell, Msg.zero] at k0 k1 k2 k3 k4 k5 k6
  clear hW0 r0 hx hlt hq hle
  clear hB0 hl
  go_wp2_with fail
  refine (hno _).mono ?_
  rintro e w2 ⟨v, rfl, hl2, hb2⟩
  have HL2 := Hid.mk7 (And.intro hl2 hb2)
  have Z2 := (H0.out.below hb2).z
  obtain ⟨z0, y0⟩ := Z2 0 (by omega)
  obtain ⟨z1, y1⟩ := Z2 1 (by omega)
  obtain ⟨z2, y2⟩ := Z2 2 (by omega)
  obtain ⟨z3, y3⟩ := Z2 3 (by omega)
  obtain ⟨z4, y4⟩ := Z2 4 (by omega)
  obtain ⟨z5, y5⟩ := Z2 5 (by omega)
  obtain ⟨z6, y6⟩ := Z2 6 (by omega)
  simp only [msgCell, Msg.zero] at z0 z1 z2 z3 z4 z5 z6
  obtain ⟨lb, capl, _, rfl, _⟩ := hl2
  clear hb2 Z2 hno
  go_wp2
  refine bodyPost_ret (v := .tuple #[.agg #[.int .i64 0, .int .u64 0, .int .u32 0, .int .u32 0, .string ⟨#[]⟩, .string ⟨#[]⟩, .slice none 0 0], .slice (some ⟨lb, 0, none⟩) 1 capl]) (by simp [results, Tryz.results14, go_sem, z0, z1, z2, z3, z4, z5, z6]) rfl ?_
  exact refuse_told HR.out H0.out HL2.out.1 HL2.out.2 (turned7 _ _ _ _ _ _ _ _ _)
set_option maxRecDepth 100000 in
set_option maxHeartbeats 3200000 in
theorem ref_read_5long (b : List Int) (hb0 : b ≠ []) (hb1 : b.getD 0 0 = 97) (hl : 17 < b.length) {w : World} {B : Value} (hB : Sl w B b) : Calls Tryz.prog 14 #[.int .i64 5, B] w (RReadTold 5 b w) := by
  have hrd : readOf 5 b = (sh 17 160, .zero) := by
    have h0 : ¬ b.length = 0 := by simpa using hb0
    unfold readOf
    rw [if_neg (by omega), if_neg (by rw [hb1]; simpa [letterOf] using h0), if_neg (by omega), if_neg (by simp [headLen]; omega), if_neg (by simp [endOf, headLen]; omega), if_pos (by simpa [endOf, headLen] using hl)]
    rfl
  have hle := letter_q 5 (by omega)
  rw [show letterOf 5 = 97 from rfl] at hle
  obtain ⟨g, off, cap, rfl, hcap, hlt, hx⟩ := hB.first hb0
  have hq : ((b.length : Int) == 0) = false := by
    have h0 : 0 < b.length := List.length_pos_iff.2 hb0
    simp
    omega
  have hi : (0 : Int) < (b.length : Int) := by
    have h0 : 0 < b.length := List.length_pos_iff.2 hb0
    omega
  have HB := Hid.mk7 hB
  have HR := Hid.mk7 hrd
  have HLT := Hid.mk7 hlt
  rw [hb1] at hx
  clear hrd hB hb0 hb1
  have hli : ¬ (b.length : Int) < 17 := by omega
  have hlj : (17 : Int) < (b.length : Int) := by omega
  have hno := sh_no 17 160
  go_enter Tryz.func14, Tryz.ntmps14
  go_wp2_with fail
  go_quiet ((go_at_call 44; refine hle _ _))
  obtain ⟨W0, hW0⟩ : ∃ W0, W0 = ((w.alloc (.cells #[.int .i64 0, .int .u64 0, .int .u32 0, .int .u32 0, .string ⟨#[]⟩, .string ⟨#[]⟩, .slice none 0 0] 27)).alloc (.cells #[.int .i64 5, .int .u64 0, .int .u32 0, .int .u32 0, .string ⟨#[]⟩, .string ⟨#[]⟩, .slice none 0 0] 27)).drewN nq := ⟨_, rfl⟩
  have r0 : RR w { Msg.zero with kind := 5 } (.slice none 0 0) W0 := by rw [hW0]; exact rr_new w 5 nq
  have H0 := Hid.mk7 r0
  rw [← hW0]
  have hB0 := HB.out.turned (Turned.ofBelow (S := fun _ => False) r0.bw) (fun _ _ h => h)
  obtain ⟨k0, f0⟩ := r0.m 0 (by omega)
  obtain ⟨k1, f1⟩ := r0.m 1 (by omega)
  obtain ⟨k2, f2⟩ := r0.m 2 (by omega)
  obtain ⟨k3, f3⟩ := r0.m 3 (by omega)
  obtain ⟨k4, f4⟩ := r0.m 4 (by omega)
  obtain ⟨k5, f5⟩ := r0.m 5 (by omega)
  obtain ⟨k6, f6⟩ := r0.m 6 (by omega)
  simp only [msgCell, Msg.zero] at k0 k1 k2 k3 k4 k5 k6
  clear hW0 r0 hx hlt hq hle
  clear hB0 hl
  go_wp2_with fail
  refine (hno _).mono ?_
  rintro e w2 ⟨v, rfl, hl2, hb2⟩
  have HL2 := Hid.mk7 (And.intro hl2 hb2)
  have Z2 := (H0.out.below hb2).z
  obtain ⟨z0, y0⟩ := Z2 0 (by omega)
  obtain ⟨z1, y1⟩ := Z2 1 (by omega)
  obtain ⟨z2, y2⟩ := Z2 2 (by omega)
  obtain ⟨z3, y3⟩ := Z2 3 (by omega)
  obtain ⟨z4, y4⟩ := Z2 4 (by omega)
  obtain ⟨z5, y5⟩ := Z2 5 (by omega)
  obtain ⟨z6, y6⟩ := Z2 6 (by omega)
  simp only [msgCell, Msg.zero] at z0 z1 z2 z3 z4 z5 z6
  obtain ⟨lb, capl, _, rfl, _⟩ := hl2
  clear hb2 Z2 hno
  go_wp2
  refine bodyPost_ret (v := .tuple #[.agg #[.int .i64 0, .int .u64 0, .int .u32 0, .int .u32 0, .string ⟨#[]⟩, .string ⟨#[]⟩, .slice none 0 0], .slice (some ⟨lb, 0, none⟩) 1 capl]) (by simp [results, Tryz.results14, go_sem, z0, z1, z2, z3, z4, z5, z6]) rfl ?_
  exact refuse_told HR.out H0.out HL2.out.1 HL2.out.2 (turned7 _ _ _ _ _ _ _ _ _)
set_option maxRecDepth 100000 in
set_option maxHeartbeats 3200000 in
theorem ref_read_4ok (b : List Int) (hr : ∀ z ∈ b, 0 ≤ z ∧ z < 256) (hb : b.length ≤ 140737488355328) (hb0 : b ≠ []) (hb1 : b.getD 0 0 = 114) (hl : b.length = 21) {w : World} {B : Value} (hB : Sl w B b) : Calls Tryz.prog 14 #[.int .i64 4, B] w (RReadTold 4 b w) := by
  have hrd : readOf 4 b = ([], { Msg.zero with kind := 4, challenge := numAt b 1 4, digest := b.drop 5 }) := by
    have h0 : ¬ b.length = 0 := by simpa using hb0
    unfold readOf
    rw [if_neg (by omega), if_neg (by rw [hb1]; simpa [letterOf] using h0), if_neg (by omega), if_neg (by simp [headLen]; omega), if_neg (by simp [endOf, headLen]; omega), if_neg (by simp [endOf, headLen]; omega), if_pos rfl]
  have hle := letter_q 4 (by omega)
  rw [show letterOf 4 = 114 from rfl] at hle
  obtain ⟨g, off, cap, rfl, hcap, hlt, hx⟩ := hB.first hb0
  have hq : ((b.length : Int) == 0) = false := by
    have h0 : 0 < b.length := List.length_pos_iff.2 hb0
    simp
    omega
  have hi : (0 : Int) < (b.length : Int) := by
    have h0 : 0 < b.length := List.length_pos_iff.2 hb0
    omega
  have HB := Hid.mk7 hB
  have HR := Hid.mk7 hrd
  have HLT := Hid.mk7 hlt
  rw [hb1] at hx
  clear hrd hB hb0 hb1
  have hln : 5 ≤ b.length := by omega
  have hl2 : 21 ≤ b.length := by omega
  have hli : ¬ (b.length : Int) < 21 := by omega
  have hlj : ¬ (21 : Int) < (b.length : Int) := by omega
  have HL := Hid.mk7 hl
  clear hl
  go_enter Tryz.func14, Tryz.ntmps14
  go_wp2_with fail
  go_quiet ((go_at_call 44; refine hle _ _))
  obtain ⟨W0, hW0⟩ : ∃ W0, W0 = ((w.alloc (.cells #[.int .i64 0, .int .u64 0, .int .u32 0, .int .u32 0, .string ⟨#[]⟩, .string ⟨#[]⟩, .slice none 0 0] 27)).alloc (.cells #[.int .i64 4, .int .u64 0, .int .u32 0, .int .u32 0, .string ⟨#[]⟩, .string ⟨#[]⟩, .slice none 0 0] 27)).drewN nq := ⟨_, rfl⟩
  have r0 : RR w { Msg.zero with kind := 4 } (.slice none 0 0) W0 := by rw [hW0]; exact rr_new w 4 nq
  have H0 := Hid.mk7 r0
  rw [← hW0]
  have hB0 := HB.out.turned (Turned.ofBelow (S := fun _ => False) r0.bw) (fun _ _ h => h)
  obtain ⟨k0, f0⟩ := r0.m 0 (by omega)
  obtain ⟨k1, f1⟩ := r0.m 1 (by omega)
  obtain ⟨k2, f2⟩ := r0.m 2 (by omega)
  obtain ⟨k3, f3⟩ := r0.m 3 (by omega)
  obtain ⟨k4, f4⟩ := r0.m 4 (by omega)
  obtain ⟨k5, f5⟩ := r0.m 5 (by omega)
  obtain ⟨k6, f6⟩ := r0.m 6 (by omega)
  simp only [msgCell, Msg.zero] at k0 k1 k2 k3 k4 k5 k6
  clear hW0 r0 hx hlt hq hle
  obtain ⟨aF, haF⟩ : ∃ aF : Option Addr, aF = if cap = 5 then some ⟨g, off, none⟩ else (some ⟨g, off, none⟩ : Option Addr).map (·.add 5) := ⟨_, rfl⟩
  have hc2 : ∀ W : World, (Instr.slice 25 (.slice (some ⟨g, off, none⟩) b.length cap) (some (.int .i64 5)) none none).run Tryz.prog W = .ok (.slice aF (b.length - 5) (cap - 5)) W := fun W => by rw [haF]; exact run_cutFrom Tryz.bytes (l := 5) (by omega) W
  have hsF : Sl W0 (.slice aF (b.length - 5) (cap - 5)) (b.drop 5) := by rw [haF]; exact Sl.drop hB0 (by omega)
  have HSF := Hid.mk7 hsF
  have HGB : Hid (∀ k, blk (.slice aF (b.length - 5) (cap - 5)) k → k < w.heap.size) := fun k hk => by rw [haF] at hk; have hk := blk_if (len := b.length) (cap := cap) k hk; have hk : g = k := hk; have := HLT.out; omega
  have hld : (b.drop 5).length ≤ 16 := by have := HL.out; simp; omega
  clear haF hsF
  have hnum : Calls Tryz.prog 46 #[.slice (some ⟨g, off, none⟩) b.length cap, .int .i64 1, .int .i64 4] W0 fun e w' => e = .returned (.int .u64 (numAt b 1 4)) ∧ W0 = w' := ref_num hB0 hr 1 4 (by omega) (by omega) (by omega) hb
  have hv := numAt_rng b hr 1 4 (by omega)
  have v0 : 0 ≤ numAt b 1 4 := hv.1
  have v1 : numAt b 1 4 < 4294967296 := by have := hv.2; omega
  generalize numAt b 1 4 = v4 at hnum v0 v1 HR
  clear hv
  go_wp2_with fail
  refine hnum.mono ?_
  rintro e w1 ⟨rfl, rfl⟩
  have H1 : Hid (RR w { Msg.zero with kind := 4, challenge := v4 } (.slice none 0 0) (W0.setCell ⟨w.heap.size + 1, 3, none⟩ (.int .u32 v4))) := H0.out.set 3 (.int .u32 v4) (forall7 rfl rfl rfl rfl rfl rfl rfl)
  obtain ⟨W1, hW1⟩ : ∃ W1, W1 = W0.setCell ⟨w.heap.size + 1, 3, none⟩ (.int .u32 v4) := ⟨_, rfl⟩
  rw [← hW1] at H1
  have T01 : Turned (fun k => k = w.heap.size + 1) W0 W1 := by rw [hW1]; exact Turned.set1 W0 (w.heap.size + 1) 3 _
  have hz1 : W1.heap.size = W0.heap.size := by rw [hW1]; simp [World.setCell]
  have hoe := Sl.zero W1 5
  have hsx : Sl (W1.alloc (.cells #[] 5)) (.slice aF (b.length - 5) (cap - 5)) (b.drop 5) := (HSF.out.turned T01 (fun k h1 h2 => by have h2 : k = w.heap.size + 1 := h2; have h3 := HGB.out k h1; have := H0.out.bw.size; omega)).turned (Turned.alloc (fun _ => False) _ _) (fun _ _ h => h)
  have hln2 : ([] : List Int).length + (b.drop 5).length ≤ 70368744177664 := by simp at hld ⊢; omega
  have HZ := Hid.mk7 hz1
  rw [hz1, hW1] at hoe
  rw [hW1] at hsx
  have HT : Hid (∀ w2 V2, Own w2 V2 ([] ++ b.drop 5) → Turned (blk (.slice (some ⟨W0.heap.size, 0, none⟩) 0 0)) ((W0.setCell ⟨w.heap.size + 1, 3, none⟩ (.int .u32 v4)).alloc (.cells #[] 5)) w2 → (∀ k, blk V2 k → blk (.slice (some ⟨W0.heap.size, 0, none⟩) 0 0) k ∨ k = ((W0.setCell ⟨w.heap.size + 1, 3, none⟩ (.int .u32 v4)).alloc (.cells #[] 5)).heap.size) → RR w { Msg.zero with kind := 4, challenge := v4 } (.slice none 0 0) w2 ∧ Own w2 V2 (b.drop 5) ∧ ∀ k, blk V2 k → w.heap.size + 1 < k) := fun w2 V2 h1 h2 h3 => by rw [← HZ.out, ← hW1] at h2 h3; exact rr_digest H1.out h1 h2 h3
  clear hW1 T01 hz1 hld
  go_wp2_with (at_builtin; refine wpList_append_bytes (by rfl) (.tmp 99) (.tmp 101) (by rfl) Tryz.bytes (by rfl) (by rfl) hoe hsx hln2 ?_; intro V2 w2 ho2 ht2 hb2; have H2 := Hid.mk7 (HT.out w2 V2 ho2 ht2 hb2); obtain ⟨a2, c2, L2, rfl⟩ : ∃ a c L, V2 = .slice a L c := ⟨_, _, _, ho2.sl.form.choose_spec.choose_spec.1⟩; obtain ⟨d6, e6⟩ := H2.out.1.m 6 (by omega); simp only [msgCell] at d6; obtain ⟨n0, n1, n2, n3, n4, n5, n6⟩ := H2.out.1.m.at_; simp only [Msg.zero] at n0 n1 n2 n3 n4 n5 n6; have H3 : Hid (RR w { Msg.zero with kind := 4, challenge := v4, digest := b.drop 5 } (.slice a2 L2 c2) (w2.setCell ⟨w.heap.size + 1, 6, none⟩ (.slice a2 L2 c2)) ∧ Sl (w2.setCell ⟨w.heap.size + 1, 6, none⟩ (.slice a2 L2 c2)) (.slice a2 L2 c2) (b.drop 5)) := rr_done H2.out.1 H2.out.2.1 H2.out.2.2 (forall7 rfl rfl rfl rfl rfl rfl rfl); obtain ⟨z0, y0⟩ := H3.out.1.z 0 (by omega); obtain ⟨z1, y1⟩ := H3.out.1.z 1 (by omega); obtain ⟨z2, y2⟩ := H3.out.1.z 2 (by omega); obtain ⟨z3, y3⟩ := H3.out.1.z 3 (by omega); obtain ⟨z4, y4⟩ := H3.out.1.z 4 (by omega); obtain ⟨z5, y5⟩ := H3.out.1.z 5 (by omega); obtain ⟨z6, y6⟩ := H3.out.1.z 6 (by omega); simp only [msgCell, Msg.zero] at z0 z1 z2 z3 z4 z5 z6; obtain ⟨m0, m1, m2, m3, m4, m5, m6⟩ := H3.out.1.m.at_; simp only [Msg.zero] at m0 m1 m2 m3 m4 m5 m6; clear ho2 ht2 hb2 k0 k1 k2 k3 k4 k5 k6 f0 f1 f2 f3 f4 f5 f6 hoe hsx)
  refine bodyPost_ret (v := .tuple #[.agg #[.int .i64 4, .int .u64 0, .int .u32 0, .int .u32 v4, .string ⟨#[]⟩, .string ⟨#[]⟩, .slice a2 L2 c2], .slice none 0 0]) (by simp [results, Tryz.results14, go_sem, z0, z1, z2, z3, z4, z5, z6]) rfl ?_
  exact read_told HR.out H3.out.1 H3.out.2 H2.out.2.2 (turned7 _ _ _ _ _ _ _ _ _)
set_option maxRecDepth 100000 in
set_option maxHeartbeats 3200000 in
theorem ref_read_5ok (b : List Int) (hb0 : b ≠ []) (hb1 : b.getD 0 0 = 97) (hl : b.length = 17) {w : World} {B : Value} (hB : Sl w B b) : Calls Tryz.prog 14 #[.int .i64 5, B] w (RReadTold 5 b w) := by
  have hrd : readOf 5 b = ([], { Msg.zero with kind := 5, digest := b.drop 1 }) := by
    have h0 : ¬ b.length = 0 := by simpa using hb0
    unfold readOf
    rw [if_neg (by omega), if_neg (by rw [hb1]; simpa [letterOf] using h0), if_neg (by omega), if_neg (by simp [headLen]; omega), if_neg (by simp [endOf, headLen]; omega), if_neg (by simp [endOf, headLen]; omega), if_neg (by omega), if_pos rfl]
  have hle := letter_q 5 (by omega)
  rw [show letterOf 5 = 97 from rfl] at hle
  obtain ⟨g, off, cap, rfl, hcap, hlt, hx⟩ := hB.first hb0
  have hq : ((b.length : Int) == 0) = false := by
    have h0 : 0 < b.length := List.length_pos_iff.2 hb0
    simp
    omega
  have hi : (0 : Int) < (b.length : Int) := by
    have h0 : 0 < b.length := List.length_pos_iff.2 hb0
    omega
  have HB := Hid.mk7 hB
  have HR := Hid.mk7 hrd
  have HLT := Hid.mk7 hlt
  rw [hb1] at hx
  clear hrd hB hb0 hb1
  have hln : 1 ≤ b.length := by omega
  have hl2 : 17 ≤ b.length := by omega
  have hli : ¬ (b.length : Int) < 17 := by omega
  have hlj : ¬ (17 : Int) < (b.length : Int) := by omega
  have HL := Hid.mk7 hl
  clear hl
  go_enter Tryz.func14, Tryz.ntmps14
  go_wp2_with fail
  go_quiet ((go_at_call 44; refine hle _ _))
  obtain ⟨W0, hW0⟩ : ∃ W0, W0 = ((w.alloc (.cells #[.int .i64 0, .int .u64 0, .int .u32 0, .int .u32 0, .string ⟨#[]⟩, .string ⟨#[]⟩, .slice none 0 0] 27)).alloc (.cells #[.int .i64 5, .int .u64 0, .int .u32 0, .int .u32 0, .string ⟨#[]⟩, .string ⟨#[]⟩, .slice none 0 0] 27)).drewN nq := ⟨_, rfl⟩
  have r0 : RR w { Msg.zero with kind := 5 } (.slice none 0 0) W0 := by rw [hW0]; exact rr_new w 5 nq
  have H0 := Hid.mk7 r0
  rw [← hW0]
  have hB0 := HB.out.turned (Turned.ofBelow (S := fun _ => False) r0.bw) (fun _ _ h => h)
  obtain ⟨k0, f0⟩ := r0.m 0 (by omega)
  obtain ⟨k1, f1⟩ := r0.m 1 (by omega)
  obtain ⟨k2, f2⟩ := r0.m 2 (by omega)
  obtain ⟨k3, f3⟩ := r0.m 3 (by omega)
  obtain ⟨k4, f4⟩ := r0.m 4 (by omega)
  obtain ⟨k5, f5⟩ := r0.m 5 (by omega)
  obtain ⟨k6, f6⟩ := r0.m 6 (by omega)
  simp only [msgCell, Msg.zero] at k0 k1 k2 k3 k4 k5 k6
  clear hW0 r0 hx hlt hq hle
  obtain ⟨aF, haF⟩ : ∃ aF : Option Addr, aF = if cap = 1 then some ⟨g, off, none⟩ else (some ⟨g, off, none⟩ : Option Addr).map (·.add 1) := ⟨_, rfl⟩
  have hc2 : ∀ W : World, (Instr.slice 25 (.slice (some ⟨g, off, none⟩) b.length cap) (some (.int .i64 1)) none none).run Tryz.prog W = .ok (.slice aF (b.length - 1) (cap - 1)) W := fun W => by rw [haF]; exact run_cutFrom Tryz.bytes (l := 1) (by omega) W
  have hsF : Sl W0 (.slice aF (b.length - 1) (cap - 1)) (b.drop 1) := by rw [haF]; exact Sl.drop hB0 (by omega)
  have HSF := Hid.mk7 hsF
  have HGB : Hid (∀ k, blk (.slice aF (b.length - 1) (cap - 1)) k → k < w.heap.size) := fun k hk => by rw [haF] at hk; have hk := blk_if (len := b.length) (cap := cap) k hk; have hk : g = k := hk; have := HLT.out; omega
  have hld : (b.drop 1).length ≤ 16 := by have := HL.out; simp; omega
  clear haF hsF
  have H1 : Hid (RR w { Msg.zero with kind := 5 } (.slice none 0 0) (W0)) := H0.out
  obtain ⟨W1, hW1⟩ : ∃ W1, W1 = W0 := ⟨_, rfl⟩
  rw [← hW1] at H1
  have T01 : Turned (fun k => k = w.heap.size + 1) W0 W1 := by rw [hW1]; exact Turned.refl _ _
  have hz1 : W1.heap.size = W0.heap.size := by rw [hW1]
  have hoe := Sl.zero W1 5
  have hsx : Sl (W1.alloc (.cells #[] 5)) (.slice aF (b.length - 1) (cap - 1)) (b.drop 1) := (HSF.out.turned T01 (fun k h1 h2 => by have h2 : k = w.heap.size + 1 := h2; have h3 := HGB.out k h1; have := H0.out.bw.size; omega)).turned (Turned.alloc (fun _ => False) _ _) (fun _ _ h => h)
  have hln2 : ([] : List Int).length + (b.drop 1).length ≤ 70368744177664 := by simp at hld ⊢; omega
  have HZ := Hid.mk7 hz1
  rw [hW1] at hoe hsx
  have HT : Hid (∀ w2 V2, Own w2 V2 ([] ++ b.drop 1) → Turned (blk (.slice (some ⟨W0.heap.size, 0, none⟩) 0 0)) ((W0).alloc (.cells #[] 5)) w2 → (∀ k, blk V2 k → blk (.slice (some ⟨W0.heap.size, 0, none⟩) 0 0) k ∨ k = ((W0).alloc (.cells #[] 5)).heap.size) → RR w { Msg.zero with kind := 5 } (.slice none 0 0) w2 ∧ Own w2 V2 (b.drop 1) ∧ ∀ k, blk V2 k → w.heap.size + 1 < k) := fun w2 V2 h1 h2 h3 => by rw [← hW1] at h2 h3; exact rr_digest H1.out h1 h2 h3
  clear hW1 T01 hz1 hld
  go_wp2_with (at_builtin; refine wpList_append_bytes (by rfl) (.tmp 107) (.tmp 109) (by rfl) Tryz.bytes (by rfl) (by rfl) hoe hsx hln2 ?_; intro V2 w2 ho2 ht2 hb2; have H2 := Hid.mk7 (HT.out w2 V2 ho2 ht2 hb2); obtain ⟨a2, c2, L2, rfl⟩ : ∃ a c L, V2 = .slice a L c := ⟨_, _, _, ho2.sl.form.choose_spec.choose_spec.1⟩; obtain ⟨d6, e6⟩ := H2.out.1.m 6 (by omega); simp only [msgCell] at d6; obtain ⟨n0, n1, n2, n3, n4, n5, n6⟩ := H2.out.1.m.at_; simp only [Msg.zero] at n0 n1 n2 n3 n4 n5 n6; have H3 : Hid (RR w { Msg.zero with kind := 5, digest := b.drop 1 } (.slice a2 L2 c2) (w2.setCell ⟨w.heap.size + 1, 6, none⟩ (.slice a2 L2 c2)) ∧ Sl (w2.setCell ⟨w.heap.size + 1, 6, none⟩ (.slice a2 L2 c2)) (.slice a2 L2 c2) (b.drop 1)) := rr_done H2.out.1 H2.out.2.1 H2.out.2.2 (forall7 rfl rfl rfl rfl rfl rfl rfl); obtain ⟨z0, y0⟩ := H3.out.1.z 0 (by omega); obtain ⟨z1, y1⟩ := H3.out.1.z 1 (by omega); obtain ⟨z2, y2⟩ := H3.out.1.z 2 (by omega); obtain ⟨z3, y3⟩ := H3.out.1.z 3 (by omega); obtain ⟨z4, y4⟩ := H3.out.1.z 4 (by omega); obtain ⟨z5, y5⟩ := H3.out.1.z 5 (by omega); obtain ⟨z6, y6⟩ := H3.out.1.z 6 (by omega); simp only [msgCell, Msg.zero] at z0 z1 z2 z3 z4 z5 z6; obtain ⟨m0, m1, m2, m3, m4, m5, m6⟩ := H3.out.1.m.at_; simp only [Msg.zero] at m0 m1 m2 m3 m4 m5 m6; clear ho2 ht2 hb2 k0 k1 k2 k3 k4 k5 k6 f0 f1 f2 f3 f4 f5 f6 hoe hsx)
  refine bodyPost_ret (v := .tuple #[.agg #[.int .i64 5, .int .u64 0, .int .u32 0, .int .u32 0, .string ⟨#[]⟩, .string ⟨#[]⟩, .slice a2 L2 c2], .slice none 0 0]) (by simp [results, Tryz.results14, go_sem, z0, z1, z2, z3, z4, z5, z6]) rfl ?_
  exact read_told HR.out H3.out.1 H3.out.2 H2.out.2.2 (turned7 _ _ _ _ _ _ _ _ _)
set_option maxRecDepth 100000 in
set_option maxHeartbeats 3200000 in
theorem ref_read_1head (b : List Int) (hb0 : b ≠ []) (hb1 : b.getD 0 0 = 78) (hl : b.length < 15) {w : World} {B : Value} (hB : Sl w B b) : Calls Tryz.prog 14 #[.int .i64 1, B] w (RReadTold 1 b w) := by
  have hrd : readOf 1 b = (sh b.length 160, .zero) := by
    have h0 : ¬ b.length = 0 := by simpa using hb0
    unfold readOf
    rw [if_neg (by omega), if_neg (by rw [hb1]; simpa [letterOf] using h0), if_neg (by omega), if_pos (by simpa [headLen] using hl)]
  have hle := letter_q 1 (by omega)
  rw [show letterOf 1 = 78 from rfl] at hle
  obtain ⟨g, off, cap, rfl, hcap, hlt, hx⟩ := hB.first hb0
  have hq : ((b.length : Int) == 0) = false := by
    have h0 : 0 < b.length := List.length_pos_iff.2 hb0
    simp
    omega
  have hi : (0 : Int) < (b.length : Int) := by
    have h0 : 0 < b.length := List.length_pos_iff.2 hb0
    omega
  have HB := Hid.mk7 hB
  have HR := Hid.mk7 hrd
  have HLT := Hid.mk7 hlt
  rw [hb1] at hx
  clear hrd hB hb0 hb1
  have hli : (b.length : Int) < 15 := by omega
  have hno := sh_no (b.length : Int) 160
  go_enter Tryz.func14, Tryz.ntmps14
  go_wp2_with fail
  go_quiet ((go_at_call 44; refine hle _ _))
  obtain ⟨W0, hW0⟩ : ∃ W0, W0 = ((w.alloc (.cells #[.int .i64 0, .int .u64 0, .int .u32 0, .int .u32 0, .string ⟨#[]⟩, .string ⟨#[]⟩, .slice none 0 0] 27)).alloc (.cells #[.int .i64 1, .int .u64 0, .int .u32 0, .int .u32 0, .string ⟨#[]⟩, .string ⟨#[]⟩, .slice none 0 0] 27)).drewN nq := ⟨_, rfl⟩
  have r0 : RR w { Msg.zero with kind := 1 } (.slice none 0 0) W0 := by rw [hW0]; exact rr_new w 1 nq
  have H0 := Hid.mk7 r0
  rw [← hW0]
  have hB0 := HB.out.turned (Turned.ofBelow (S := fun _ => False) r0.bw) (fun _ _ h => h)
  obtain ⟨k0, f0⟩ := r0.m 0 (by omega)
  obtain ⟨k1, f1⟩ := r0.m 1 (by omega)
  obtain ⟨k2, f2⟩ := r0.m 2 (by omega)
  obtain ⟨k3, f3⟩ := r0.m 3 (by omega)
  obtain ⟨k4, f4⟩ := r0.m 4 (by omega)
  obtain ⟨k5, f5⟩ := r0.m 5 (by omega)
  obtain ⟨k6, f6⟩ := r0.m 6 (by omega)
  simp only [msgCell, Msg.zero] at k0 k1 k2 k3 k4 k5 k6
  clear hW0 r0 hx hlt hq hle
  clear hB0 hl
  go_wp2_with fail
  refine (hno _).mono ?_
  rintro e w2 ⟨v, rfl, hl2, hb2⟩
  have HL2 := Hid.mk7 (And.intro hl2 hb2)
  have Z2 := (H0.out.below hb2).z
  obtain ⟨z0, y0⟩ := Z2 0 (by omega)
  obtain ⟨z1, y1⟩ := Z2 1 (by omega)
  obtain ⟨z2, y2⟩ := Z2 2 (by omega)
  obtain ⟨z3, y3⟩ := Z2 3 (by omega)
  obtain ⟨z4, y4⟩ := Z2 4 (by omega)
  obtain ⟨z5, y5⟩ := Z2 5 (by omega)
  obtain ⟨z6, y6⟩ := Z2 6 (by omega)
  simp only [msgCell, Msg.zero] at z0 z1 z2 z3 z4 z5 z6
  obtain ⟨lb, capl, _, rfl, _⟩ := hl2
  clear hb2 Z2 hno
  go_wp2
  refine bodyPost_ret (v := .tuple #[.agg #[.int .i64 0, .int .u64 0, .int .u32 0, .int .u32 0, .string ⟨#[]⟩, .string ⟨#[]⟩, .slice none 0 0], .slice (some ⟨lb, 0, none⟩) 1 capl]) (by simp [results, Tryz.results14, go_sem, z0, z1, z2, z3, z4, z5, z6]) rfl ?_
  exact refuse_told HR.out H0.out HL2.out.1 HL2.out.2 (turned7 _ _ _ _ _ _ _ _ _)
set_option maxRecDepth 100000 in
set_option maxHeartbeats 3200000 in
theorem ref_read_1short (b : List Int) (hr : ∀ z ∈ b, 0 ≤ z ∧ z < 256) (hb : b.length ≤ 140737488355328) (hb0 : b ≠ []) (hb1 : b.getD 0 0 = 78) (hl : 15 ≤ b.length) (he : b.length < endOf 1 b) {w : World} {B : Value} (hB : Sl w B b) : Calls Tryz.prog 14 #[.int .i64 1, B] w (RReadTold 1 b w) := by
  have hrd : readOf 1 b = (sh b.length 160, .zero) := by
    have h0 : ¬ b.length = 0 := by simpa using hb0
    unfold readOf
    rw [if_neg (by omega), if_neg (by rw [hb1]; simpa [letterOf] using h0), if_neg (by omega), if_neg (by simp [headLen]; omega), if_pos he]
  have hle := letter_q 1 (by omega)
  rw [show letterOf 1 = 78 from rfl] at hle
  obtain ⟨g, off, cap, rfl, hcap, hlt, hx⟩ := hB.first hb0
  have hq : ((b.length : Int) == 0) = false := by
    have h0 : 0 < b.length := List.length_pos_iff.2 hb0
    simp
    omega
  have hi : (0 : Int) < (b.length : Int) := by
    have h0 : 0 < b.length := List.length_pos_iff.2 hb0
    omega
  have HB := Hid.mk7 hB
  have HR := Hid.mk7 hrd
  have HLT := Hid.mk7 hlt
  rw [hb1] at hx
  clear hrd hB hb0 hb1
  have hEn : ((endOf 1 b : Nat) : Int) = 15 + numAt b 13 2 := by
    have h0 := (numAt_rng b hr 13 2 (by omega)).1
    have h1 : endOf 1 b = 15 + (numAt b 13 2).toNat := rfl
    rw [h1]
    omega
  have pr := numAt_rng b hr 13 2 (by omega)
  have p0 : 0 ≤ numAt b 13 2 := pr.1
  have p1 : numAt b 13 2 < 65536 := by have := pr.2; omega
  clear pr
  have hn2 : ∀ W : World, Below w.heap.size w W → Calls Tryz.prog 46 #[.slice (some ⟨g, off, none⟩) b.length cap, .int .i64 13, .int .i64 2] W fun e w' => e = .returned (.int .u64 (numAt b 13 2)) ∧ W = w' := fun W h => ref_num (HB.out.turned (Turned.ofBelow (S := fun _ => False) h) (fun _ _ h => h)) hr 13 2 (by omega) (by omega) (by omega) hb
  have hli : ¬ (b.length : Int) < 15 := by omega
  have hlj : (b.length : Int) < 15 + numAt b 13 2 := by omega
  have hno := sh_no (b.length : Int) 160
  generalize numAt b 13 2 = v2 at p0 p1 hn2 hlj
  clear hEn he hl hb hr
  go_enter Tryz.func14, Tryz.ntmps14
  go_wp2_with fail
  go_quiet ((go_at_call 44; refine hle _ _))
  obtain ⟨W0, hW0⟩ : ∃ W0, W0 = ((w.alloc (.cells #[.int .i64 0, .int .u64 0, .int .u32 0, .int .u32 0, .string ⟨#[]⟩, .string ⟨#[]⟩, .slice none 0 0] 27)).alloc (.cells #[.int .i64 1, .int .u64 0, .int .u32 0, .int .u32 0, .string ⟨#[]⟩, .string ⟨#[]⟩, .slice none 0 0] 27)).drewN nq := ⟨_, rfl⟩
  have r0 : RR w { Msg.zero with kind := 1 } (.slice none 0 0) W0 := by rw [hW0]; exact rr_new w 1 nq
  have H0 := Hid.mk7 r0
  rw [← hW0]
  have hB0 := HB.out.turned (Turned.ofBelow (S := fun _ => False) r0.bw) (fun _ _ h => h)
  obtain ⟨k0, f0⟩ := r0.m 0 (by omega)
  obtain ⟨k1, f1⟩ := r0.m 1 (by omega)
  obtain ⟨k2, f2⟩ := r0.m 2 (by omega)
  obtain ⟨k3, f3⟩ := r0.m 3 (by omega)
  obtain ⟨k4, f4⟩ := r0.m 4 (by omega)
  obtain ⟨k5, f5⟩ := r0.m 5 (by omega)
  obtain ⟨k6, f6⟩ := r0.m 6 (by omega)
  simp only [msgCell, Msg.zero] at k0 k1 k2 k3 k4 k5 k6
  clear hW0 r0 hx hlt hq hle
  clear hB0
  have hn2' := hn2 W0 H0.out.bw
  clear hn2
  go_wp2_with fail
  refine hn2'.mono ?_
  rintro e w1 ⟨rfl, rfl⟩
  go_wp2_with fail
  refine (hno _).mono ?_
  rintro e w2 ⟨v, rfl, hl2, hb2⟩
  have HL2 := Hid.mk7 (And.intro hl2 hb2)
  have Z2 := (H0.out.below hb2).z
  obtain ⟨z0, y0⟩ := Z2 0 (by omega)
  obtain ⟨z1, y1⟩ := Z2 1 (by omega)
  obtain ⟨z2, y2⟩ := Z2 2 (by omega)
  obtain ⟨z3, y3⟩ := Z2 3 (by omega)
  obtain ⟨z4, y4⟩ := Z2 4 (by omega)
  obtain ⟨z5, y5⟩ := Z2 5 (by omega)
  obtain ⟨z6, y6⟩ := Z2 6 (by omega)
  simp only [msgCell, Msg.zero] at z0 z1 z2 z3 z4 z5 z6
  obtain ⟨lb, capl, _, rfl, _⟩ := hl2
  clear hb2 Z2 hno
  go_wp2
  refine bodyPost_ret (v := .tuple #[.agg #[.int .i64 0, .int .u64 0, .int .u32 0, .int .u32 0, .string ⟨#[]⟩, .string ⟨#[]⟩, .slice none 0 0], .slice (some ⟨lb, 0, none⟩) 1 capl]) (by simp [results, Tryz.results14, go_sem, z0, z1, z2, z3, z4, z5, z6]) rfl ?_
  exact refuse_told HR.out H0.out HL2.out.1 HL2.out.2 (turned7 _ _ _ _ _ _ _ _ _)
set_option maxRecDepth 100000 in
set_option maxHeartbeats 3200000 in
theorem ref_read_1long (b : List Int) (hr : ∀ z ∈ b, 0 ≤ z ∧ z < 256) (hb : b.length ≤ 140737488355328) (hb0 : b ≠ []) (hb1 : b.getD 0 0 = 78) (hl : 15 ≤ b.length) (he : endOf 1 b < b.length) {w : World} {B : Value} (hB : Sl w B b) : Calls Tryz.prog 14 #[.int .i64 1, B] w (RReadTold 1 b w) := by
  have hrd : readOf 1 b = (sh (endOf 1 b : Nat) 160, .zero) := by
    have h0 : ¬ b.length = 0 := by simpa using hb0
    unfold readOf
    rw [if_neg (by omega), if_neg (by rw [hb1]; simpa [letterOf] using h0), if_neg (by omega), if_neg (by simp [headLen]; omega), if_neg (by omega), if_pos he]
  have hle := letter_q 1 (by omega)
  rw [show letterOf 1 = 78 from rfl] at hle
  obtain ⟨g, off, cap, rfl, hcap, hlt, hx⟩ := hB.first hb0
  have hq : ((b.length : Int) == 0) = false := by
    have h0 : 0 < b.length := List.length_pos_iff.2 hb0
    simp
    omega
  have hi : (0 : Int) < (b.length : Int) := by
    have h0 : 0 < b.length := List.length_pos_iff.2 hb0
    omega
  have HB := Hid.mk7 hB
  have HR := Hid.mk7 hrd
  have HLT := Hid.mk7 hlt
  rw [hb1] at hx
  clear hrd hB hb0 hb1
  have hEn : ((endOf 1 b : Nat) : Int) = 15 + numAt b 13 2 := by
    have h0 := (numAt_rng b hr 13 2 (by omega)).1
    have h1 : endOf 1 b = 15 + (numAt b 13 2).toNat := rfl
    rw [h1]
    omega
  have pr := numAt_rng b hr 13 2 (by omega)
  have p0 : 0 ≤ numAt b 13 2 := pr.1
  have p1 : numAt b 13 2 < 65536 := by have := pr.2; omega
  clear pr
  have hn2 : ∀ W : World, Below w.heap.size w W → Calls Tryz.prog 46 #[.slice (some ⟨g, off, none⟩) b.length cap, .int .i64 13, .int .i64 2] W fun e w' => e = .returned (.int .u64 (numAt b 13 2)) ∧ W = w' := fun W h => ref_num (HB.out.turned (Turned.ofBelow (S := fun _ => False) h) (fun _ _ h => h)) hr 13 2 (by omega) (by omega) (by omega) hb
  have hli : ¬ (b.length : Int) < 15 := by omega
  have hlj : ¬ (b.length : Int) < 15 + numAt b 13 2 := by omega
  have hlk : 15 + numAt b 13 2 < (b.length : Int) := by omega
  have hno := sh_no (15 + numAt b 13 2) 160
  rw [hEn] at HR
  generalize numAt b 13 2 = v2 at p0 p1 hn2 hlj hlk hno HR
  clear hEn he hl hb hr
  go_enter Tryz.func14, Tryz.ntmps14
  go_wp2_with fail
  go_quiet ((go_at_call 44; refine hle _ _))
  obtain ⟨W0, hW0⟩ : ∃ W0, W0 = ((w.alloc (.cells #[.int .i64 0, .int .u64 0, .int .u32 0, .int .u32 0, .string ⟨#[]⟩, .string ⟨#[]⟩, .slice none 0 0] 27)).alloc (.cells #[.int .i64 1, .int .u64 0, .int .u32 0, .int .u32 0, .string ⟨#[]⟩, .string ⟨#[]⟩, .slice none 0 0] 27)).drewN nq := ⟨_, rfl⟩
  have r0 : RR w { Msg.zero with kind := 1 } (.slice none 0 0) W0 := by rw [hW0]; exact rr_new w 1 nq
  have H0 := Hid.mk7 r0
  rw [← hW0]
  have hB0 := HB.out.turned (Turned.ofBelow (S := fun _ => False) r0.bw) (fun _ _ h => h)
  obtain ⟨k0, f0⟩ := r0.m 0 (by omega)
  obtain ⟨k1, f1⟩ := r0.m 1 (by omega)
  obtain ⟨k2, f2⟩ := r0.m 2 (by omega)
  obtain ⟨k3, f3⟩ := r0.m 3 (by omega)
  obtain ⟨k4, f4⟩ := r0.m 4 (by omega)
  obtain ⟨k5, f5⟩ := r0.m 5 (by omega)
  obtain ⟨k6, f6⟩ := r0.m 6 (by omega)
  simp only [msgCell, Msg.zero] at k0 k1 k2 k3 k4 k5 k6
  clear hW0 r0 hx hlt hq hle
  clear hB0
  have hn2' := hn2 W0 H0.out.bw
  clear hn2
  go_wp2_with fail
  refine hn2'.mono ?_
  rintro e w1 ⟨rfl, rfl⟩
  go_wp2_with fail
  refine (hno _).mono ?_
  rintro e w2 ⟨v, rfl, hl2, hb2⟩
  have HL2 := Hid.mk7 (And.intro hl2 hb2)
  have Z2 := (H0.out.below hb2).z
  obtain ⟨z0, y0⟩ := Z2 0 (by omega)
  obtain ⟨z1, y1⟩ := Z2 1 (by omega)
  obtain ⟨z2, y2⟩ := Z2 2 (by omega)
  obtain ⟨z3, y3⟩ := Z2 3 (by omega)
  obtain ⟨z4, y4⟩ := Z2 4 (by omega)
  obtain ⟨z5, y5⟩ := Z2 5 (by omega)
  obtain ⟨z6, y6⟩ := Z2 6 (by omega)
  simp only [msgCell, Msg.zero] at z0 z1 z2 z3 z4 z5 z6
  obtain ⟨lb, capl, _, rfl, _⟩ := hl2
  clear hb2 Z2 hno
  go_wp2
  refine bodyPost_ret (v := .tuple #[.agg #[.int .i64 0, .int .u64 0, .int .u32 0, .int .u32 0, .string ⟨#[]⟩, .string ⟨#[]⟩, .slice none 0 0], .slice (some ⟨lb, 0, none⟩) 1 capl]) (by simp [results, Tryz.results14, go_sem, z0, z1, z2, z3, z4, z5, z6]) rfl ?_
  exact refuse_told HR.out H0.out HL2.out.1 HL2.out.2 (turned7 _ _ _ _ _ _ _ _ _)
set_option maxRecDepth 100000 in
set_option maxHeartbeats 3200000 in
theorem ref_read_1name (b : List Int) (hr : ∀ z ∈ b, 0 ≤ z ∧ z < 256) (hb : b.length ≤ 140737488355328) (hb0 : b ≠ []) (hb1 : b.getD 0 0 = 78) (hl : 15 ≤ b.length) (he : b.length = endOf 1 b) (hok : nodeOk (strOfNums (b.drop 15)) = false) {w : World} {B : Value} (hB : Sl w B b) : Calls Tryz.prog 14 #[.int .i64 1, B] w (RReadTold 1 b w) := by
  have hrd : readOf 1 b = (shName 15, .zero) := by
    have h0 : ¬ b.length = 0 := by simpa using hb0
    unfold readOf
    rw [if_neg (by omega), if_neg (by rw [hb1]; simpa [letterOf] using h0), if_neg (by omega), if_neg (by simp [headLen]; omega), if_neg (by omega), if_neg (by omega), if_neg (by omega), if_neg (by omega), if_pos (show nodeOk (strOfNums (b.drop (headLen 1))) = false from hok)]
    rfl
  have hle := letter_q 1 (by omega)
  rw [show letterOf 1 = 78 from rfl] at hle
  obtain ⟨g, off, cap, rfl, hcap, hlt, hx⟩ := hB.first hb0
  have hq : ((b.length : Int) == 0) = false := by
    have h0 : 0 < b.length := List.length_pos_iff.2 hb0
    simp
    omega
  have hi : (0 : Int) < (b.length : Int) := by
    have h0 : 0 < b.length := List.length_pos_iff.2 hb0
    omega
  have HB := Hid.mk7 hB
  have HR := Hid.mk7 hrd
  have HLT := Hid.mk7 hlt
  rw [hb1] at hx
  clear hrd hB hb0 hb1
  have hEn : ((endOf 1 b : Nat) : Int) = 15 + numAt b 13 2 := by
    have h0 := (numAt_rng b hr 13 2 (by omega)).1
    have h1 : endOf 1 b = 15 + (numAt b 13 2).toNat := rfl
    rw [h1]
    omega
  have pr := numAt_rng b hr 13 2 (by omega)
  have p0 : 0 ≤ numAt b 13 2 := pr.1
  have p1 : numAt b 13 2 < 65536 := by have := pr.2; omega
  clear pr
  have hn2 : ∀ W : World, Below w.heap.size w W → Calls Tryz.prog 46 #[.slice (some ⟨g, off, none⟩) b.length cap, .int .i64 13, .int .i64 2] W fun e w' => e = .returned (.int .u64 (numAt b 13 2)) ∧ W = w' := fun W h => ref_num (HB.out.turned (Turned.ofBelow (S := fun _ => False) h) (fun _ _ h => h)) hr 13 2 (by omega) (by omega) (by omega) hb
  have hli : ¬ (b.length : Int) < 15 := by omega
  have hlj : ¬ (b.length : Int) < 15 + numAt b 13 2 := by omega
  have hlk : ¬ 15 + numAt b 13 2 < (b.length : Int) := by omega
  have HE := Hid.mk7 he
  generalize numAt b 13 2 = v2 at p0 p1 hn2 hlj hlk
  clear hEn he hr
  go_enter Tryz.func14, Tryz.ntmps14
  go_wp2_with fail
  go_quiet ((go_at_call 44; refine hle _ _))
  obtain ⟨W0, hW0⟩ : ∃ W0, W0 = ((w.alloc (.cells #[.int .i64 0, .int .u64 0, .int .u32 0, .int .u32 0, .string ⟨#[]⟩, .string ⟨#[]⟩, .slice none 0 0] 27)).alloc (.cells #[.int .i64 1, .int .u64 0, .int .u32 0, .int .u32 0, .string ⟨#[]⟩, .string ⟨#[]⟩, .slice none 0 0] 27)).drewN nq := ⟨_, rfl⟩
  have r0 : RR w { Msg.zero with kind := 1 } (.slice none 0 0) W0 := by rw [hW0]; exact rr_new w 1 nq
  have H0 := Hid.mk7 r0
  rw [← hW0]
  have hB0 := HB.out.turned (Turned.ofBelow (S := fun _ => False) r0.bw) (fun _ _ h => h)
  obtain ⟨k0, f0⟩ := r0.m 0 (by omega)
  obtain ⟨k1, f1⟩ := r0.m 1 (by omega)
  obtain ⟨k2, f2⟩ := r0.m 2 (by omega)
  obtain ⟨k3, f3⟩ := r0.m 3 (by omega)
  obtain ⟨k4, f4⟩ := r0.m 4 (by omega)
  obtain ⟨k5, f5⟩ := r0.m 5 (by omega)
  obtain ⟨k6, f6⟩ := r0.m 6 (by omega)
  simp only [msgCell, Msg.zero] at k0 k1 k2 k3 k4 k5 k6
  clear hW0 r0 hx hlt hq hle
  obtain ⟨aF, haF⟩ : ∃ aF : Option Addr, aF = if cap = 15 then some ⟨g, off, none⟩ else (some ⟨g, off, none⟩ : Option Addr).map (·.add 15) := ⟨_, rfl⟩
  have hc2 : ∀ W : World, (Instr.slice 25 (.slice (some ⟨g, off, none⟩) b.length cap) (some (.int .i64 15)) none none).run Tryz.prog W = .ok (.slice aF (b.length - 15) (cap - 15)) W := fun W => by rw [haF]; exact run_cutFrom Tryz.bytes (l := 15) (by omega) W
  have hsF : Sl W0 (.slice aF (b.length - 15) (cap - 15)) (b.drop 15) := by rw [haF]; exact Sl.drop hB0 (by omega)
  have cvs := hsF.str
  have hzs : (strOfNums (b.drop 15)).size ≤ 4611686018427387904 := by rw [strOfNums_size, List.length_drop]; omega
  clear haF hsF hB0
  generalize strOfNums (b.drop 15) = s at cvs hzs hok HR
  have hnq := Tryz.neqLinks
  have hnd := fun W => ref_node s hzs W
  rw [hok, if_neg (by decide)] at hnd
  have hn2' := hn2 W0 H0.out.bw
  clear hn2
  go_wp2_with fail
  refine hn2'.mono ?_
  rintro e w1 ⟨rfl, rfl⟩
  have H1 : Hid (RR w { Msg.zero with kind := 1, name := s } (.slice none 0 0) (W0.setCell ⟨w.heap.size + 1, 4, none⟩ (.string s))) := H0.out.set 4 (.string s) (forall7 rfl rfl rfl rfl rfl rfl rfl)
  go_wp2_with fail
  refine (hnd _).mono ?_
  rintro e w2 ⟨x2, y2, v2', rfl, hl2, hb2⟩
  have H2 := Hid.mk7 (H1.out.below hb2)
  have hov := sh_over 15 ⟨lyAtom, 0, 24⟩ hl2
  obtain ⟨lb, capl, _, rfl, _⟩ := hl2
  clear hb2 hnd H1
  go_wp2_with fail
  refine hov.mono ?_
  rintro e w3 ⟨v, rfl, hl2, hb2⟩
  have HL2 := Hid.mk7 (And.intro hl2 hb2)
  have Z2 := (H2.out.below hb2).z
  obtain ⟨z0, y0⟩ := Z2 0 (by omega)
  obtain ⟨z1, y1⟩ := Z2 1 (by omega)
  obtain ⟨z2, y2⟩ := Z2 2 (by omega)
  obtain ⟨z3, y3⟩ := Z2 3 (by omega)
  obtain ⟨z4, y4⟩ := Z2 4 (by omega)
  obtain ⟨z5, y5⟩ := Z2 5 (by omega)
  obtain ⟨z6, y6⟩ := Z2 6 (by omega)
  simp only [msgCell, Msg.zero] at z0 z1 z2 z3 z4 z5 z6
  obtain ⟨lb, capl, _, rfl, _⟩ := hl2
  clear hb2 Z2 hov
  go_wp2
  refine bodyPost_ret (v := .tuple #[.agg #[.int .i64 0, .int .u64 0, .int .u32 0, .int .u32 0, .string ⟨#[]⟩, .string ⟨#[]⟩, .slice none 0 0], .slice (some ⟨lb, 0, none⟩) 2 capl]) (by simp [results, Tryz.results14, go_sem, z0, z1, z2, z3, z4, z5, z6]) rfl ?_
  exact refuse_told HR.out H2.out HL2.out.1 HL2.out.2 (turned7 _ _ _ _ _ _ _ _ _)
set_option maxRecDepth 100000 in
set_option maxHeartbeats 3200000 in
theorem ref_read_1ok (b : List Int) (hr : ∀ z ∈ b, 0 ≤ z ∧ z < 256) (hb : b.length ≤ 140737488355328) (hb0 : b ≠ []) (hb1 : b.getD 0 0 = 78) (hl : 15 ≤ b.length) (he : b.length = endOf 1 b) (hok : nodeOk (strOfNums (b.drop 15)) = true) {w : World} {B : Value} (hB : Sl w B b) : Calls Tryz.prog 14 #[.int .i64 1, B] w (RReadTold 1 b w) := by
  have hrd : readOf 1 b = ([], { Msg.zero with kind := 1, flags := numAt b 1 8, creation := numAt b 9 4, name := strOfNums (b.drop 15) }) := by
    have h0 : ¬ b.length = 0 := by simpa using hb0
    unfold readOf
    rw [if_neg (by omega), if_neg (by rw [hb1]; simpa [letterOf] using h0), if_neg (by omega), if_neg (by simp [headLen]; omega), if_neg (by omega), if_neg (by omega), if_neg (by omega), if_neg (by omega), if_neg (by rw [show headLen 1 = 15 from rfl, hok]; decide)]
    rfl
  have hle := letter_q 1 (by omega)
  rw [show letterOf 1 = 78 from rfl] at hle
  obtain ⟨g, off, cap, rfl, hcap, hlt, hx⟩ := hB.first hb0
  have hq : ((b.length : Int) == 0) = false := by
    have h0 : 0 < b.length := List.length_pos_iff.2 hb0
    simp
    omega
  have hi : (0 : Int) < (b.length : Int) := by
    have h0 : 0 < b.length := List.length_pos_iff.2 hb0
    omega
  have HB := Hid.mk7 hB
  have HR := Hid.mk7 hrd
  have HLT := Hid.mk7 hlt
  rw [hb1] at hx
  clear hrd hB hb0 hb1
  have hEn : ((endOf 1 b : Nat) : Int) = 15 + numAt b 13 2 := by
    have h0 := (numAt_rng b hr 13 2 (by omega)).1
    have h1 : endOf 1 b = 15 + (numAt b 13 2).toNat := rfl
    rw [h1]
    omega
  have pr := numAt_rng b hr 13 2 (by omega)
  have p0 : 0 ≤ numAt b 13 2 := pr.1
  have p1 : numAt b 13 2 < 65536 := by have := pr.2; omega
  clear pr
  have hn2 : ∀ W : World, Below w.heap.size w W → Calls Tryz.prog 46 #[.slice (some ⟨g, off, none⟩) b.length cap, .int .i64 13, .int .i64 2] W fun e w' => e = .returned (.int .u64 (numAt b 13 2)) ∧ W = w' := fun W h => ref_num (HB.out.turned (Turned.ofBelow (S := fun _ => False) h) (fun _ _ h => h)) hr 13 2 (by omega) (by omega) (by omega) hb
  have hli : ¬ (b.length : Int) < 15 := by omega
  have hlj : ¬ (b.length : Int) < 15 + numAt b 13 2 := by omega
  have hlk : ¬ 15 + numAt b 13 2 < (b.length : Int) := by omega
  have hnf : ∀ W : World, Below w.heap.size w W → Calls Tryz.prog 46 #[.slice (some ⟨g, off, none⟩) b.length cap, .int .i64 1, .int .i64 8] W fun e w' => e = .returned (.int .u64 (numAt b 1 8)) ∧ W = w' := fun W h => ref_num (HB.out.turned (Turned.ofBelow (S := fun _ => False) h) (fun _ _ h => h)) hr 1 8 (by omega) (by omega) (by omega) hb
  have hnc : ∀ W : World, Below w.heap.size w W → Calls Tryz.prog 46 #[.slice (some ⟨g, off, none⟩) b.length cap, .int .i64 9, .int .i64 4] W fun e w' => e = .returned (.int .u64 (numAt b 9 4)) ∧ W = w' := fun W h => ref_num (HB.out.turned (Turned.ofBelow (S := fun _ => False) h) (fun _ _ h => h)) hr 9 4 (by omega) (by omega) (by omega) hb
  have fr := numAt_rng b hr 1 8 (by omega)
  have f0 : 0 ≤ numAt b 1 8 := fr.1
  have f1 : numAt b 1 8 < 18446744073709551616 := by have := fr.2; omega
  clear fr
  have cr := numAt_rng b hr 9 4 (by omega)
  have c0 : 0 ≤ numAt b 9 4 := cr.1
  have c1 : numAt b 9 4 < 4294967296 := by have := cr.2; omega
  clear cr
  have HE := Hid.mk7 he
  generalize numAt b 13 2 = v2 at p0 p1 hn2 hlj hlk
  generalize numAt b 1 8 = vf at hnf f0 f1 HR
  generalize numAt b 9 4 = vc at hnc c0 c1 HR
  clear hEn he hr
  go_enter Tryz.func14, Tryz.ntmps14
  go_wp2_with fail
  go_quiet ((go_at_call 44; refine hle _ _))
  obtain ⟨W0, hW0⟩ : ∃ W0, W0 = ((w.alloc (.cells #[.int .i64 0, .int .u64 0, .int .u32 0, .int .u32 0, .string ⟨#[]⟩, .string ⟨#[]⟩, .slice none 0 0] 27)).alloc (.cells #[.int .i64 1, .int .u64 0, .int .u32 0, .int .u32 0, .string ⟨#[]⟩, .string ⟨#[]⟩, .slice none 0 0] 27)).drewN nq := ⟨_, rfl⟩
  have r0 : RR w { Msg.zero with kind := 1 } (.slice none 0 0) W0 := by rw [hW0]; exact rr_new w 1 nq
  have H0 := Hid.mk7 r0
  rw [← hW0]
  have hB0 := HB.out.turned (Turned.ofBelow (S := fun _ => False) r0.bw) (fun _ _ h => h)
  obtain ⟨k0, g0⟩ := r0.m 0 (by omega)
  obtain ⟨k1, g1⟩ := r0.m 1 (by omega)
  obtain ⟨k2, g2⟩ := r0.m 2 (by omega)
  obtain ⟨k3, g3⟩ := r0.m 3 (by omega)
  obtain ⟨k4, g4⟩ := r0.m 4 (by omega)
  obtain ⟨k5, g5⟩ := r0.m 5 (by omega)
  obtain ⟨k6, g6⟩ := r0.m 6 (by omega)
  simp only [msgCell, Msg.zero] at k0 k1 k2 k3 k4 k5 k6
  clear hW0 r0 hx hlt hq hle
  obtain ⟨aF, haF⟩ : ∃ aF : Option Addr, aF = if cap = 15 then some ⟨g, off, none⟩ else (some ⟨g, off, none⟩ : Option Addr).map (·.add 15) := ⟨_, rfl⟩
  have hc2 : ∀ W : World, (Instr.slice 25 (.slice (some ⟨g, off, none⟩) b.length cap) (some (.int .i64 15)) none none).run Tryz.prog W = .ok (.slice aF (b.length - 15) (cap - 15)) W := fun W => by rw [haF]; exact run_cutFrom Tryz.bytes (l := 15) (by omega) W
  have hsF : Sl W0 (.slice aF (b.length - 15) (cap - 15)) (b.drop 15) := by rw [haF]; exact Sl.drop hB0 (by omega)
  have cvs := hsF.str
  have hzs : (strOfNums (b.drop 15)).size ≤ 4611686018427387904 := by rw [strOfNums_size, List.length_drop]; omega
  clear haF hsF hB0
  generalize strOfNums (b.drop 15) = s at cvs hzs hok HR
  have hnq := Tryz.neqLinks
  have hnd := fun W => ref_node s hzs W
  rw [hok, if_pos rfl] at hnd
  have hn2' := hn2 W0 H0.out.bw
  clear hn2
  go_wp2_with fail
  refine hn2'.mono ?_
  rintro e w1 ⟨rfl, rfl⟩
  have H1 : Hid (RR w { Msg.zero with kind := 1, name := s } (.slice none 0 0) (W0.setCell ⟨w.heap.size + 1, 4, none⟩ (.string s))) := H0.out.set 4 (.string s) (forall7 rfl rfl rfl rfl rfl rfl rfl)
  go_wp2_with fail
  refine (hnd _).mono ?_
  rintro e w2 ⟨x2, y2, v2', rfl, hl2, hb2⟩
  have hl2 : v2' = .slice none 0 0 := hl2
  subst hl2
  have H2 := Hid.mk7 (H1.out.below hb2)
  clear hb2 hnd H1 k0 k1 k2 k3 k4 k5 k6 g0 g1 g2 g3 g4 g5 g6 cvs
  obtain ⟨k0, g0⟩ := H2.out.m 0 (by omega)
  obtain ⟨k1, g1⟩ := H2.out.m 1 (by omega)
  obtain ⟨k2, g2⟩ := H2.out.m 2 (by omega)
  obtain ⟨k3, g3⟩ := H2.out.m 3 (by omega)
  obtain ⟨k4, g4⟩ := H2.out.m 4 (by omega)
  obtain ⟨k5, g5⟩ := H2.out.m 5 (by omega)
  obtain ⟨k6, g6⟩ := H2.out.m 6 (by omega)
  simp only [msgCell, Msg.zero] at k0 k1 k2 k3 k4 k5 k6
  go_wp2_with fail
  refine (hnf _ H2.out.bw).mono ?_
  rintro e ww ⟨rfl, rfl⟩
  have H3 : Hid (RR w { Msg.zero with kind := 1, name := s, flags := vf } (.slice none 0 0) (w2.setCell ⟨w.heap.size + 1, 1, none⟩ (.int .u64 vf))) := H2.out.set 1 (.int .u64 vf) (forall7 rfl rfl rfl rfl rfl rfl rfl)
  go_wp2_with fail
  refine (hnc _ H3.out.bw).mono ?_
  rintro e ww ⟨rfl, rfl⟩
  have H4 : Hid (RR w { Msg.zero with kind := 1, name := s, flags := vf, creation := vc } (.slice none 0 0) ((w2.setCell ⟨w.heap.size + 1, 1, none⟩ (.int .u64 vf)).setCell ⟨w.heap.size + 1, 2, none⟩ (.int .u32 vc))) := H3.out.set 2 (.int .u32 vc) (forall7 rfl rfl rfl rfl rfl rfl rfl)
  obtain ⟨z0, y0⟩ := H4.out.z 0 (by omega)
  obtain ⟨z1, y1⟩ := H4.out.z 1 (by omega)
  obtain ⟨z2, y2⟩ := H4.out.z 2 (by omega)
  obtain ⟨z3, y3⟩ := H4.out.z 3 (by omega)
  obtain ⟨z4, y4⟩ := H4.out.z 4 (by omega)
  obtain ⟨z5, y5⟩ := H4.out.z 5 (by omega)
  obtain ⟨z6, y6⟩ := H4.out.z 6 (by omega)
  simp only [msgCell, Msg.zero] at z0 z1 z2 z3 z4 z5 z6
  obtain ⟨m0, m1, m2, m3, m4, m5, m6⟩ := H4.out.m.at_
  simp only [Msg.zero] at m0 m1 m2 m3 m4 m5 m6
  go_wp2
  refine bodyPost_ret (v := .tuple #[.agg #[.int .i64 1, .int .u64 vf, .int .u32 vc, .int .u32 0, .string s, .string ⟨#[]⟩, .slice none 0 0], .slice none 0 0]) (by simp [results, Tryz.results14, go_sem, z0, z1, z2, z3, z4, z5, z6]) rfl ?_
  exact read_told HR.out H4.out (.inl ⟨rfl, rfl⟩) (fun _ h => h.elim) (turned7 _ _ _ _ _ _ _ _ _)
set_option maxRecDepth 100000 in
set_option maxHeartbeats 3200000 in
theorem ref_read_3head (b : List Int) (hb0 : b ≠ []) (hb1 : b.getD 0 0 = 78) (hl : b.length < 19) {w : World} {B : Value} (hB : Sl w B b) : Calls Tryz.prog 14 #[.int .i64 3, B] w (RReadTold 3 b w) := by
  have hrd : readOf 3 b = (sh b.length 160, .zero) := by
    have h0 : ¬ b.length = 0 := by simpa using hb0
    unfold readOf
    rw [if_neg (by omega), if_neg (by rw [hb1]; simpa [letterOf] using h0), if_neg (by omega), if_pos (by simpa [headLen] using hl)]
  have hle := letter_q 3 (by omega)
  rw [show letterOf 3 = 78 from rfl] at hle
  obtain ⟨g, off, cap, rfl, hcap, hlt, hx⟩ := hB.first hb0
  have hq : ((b.length : Int) == 0) = false := by
    have h0 : 0 < b.length := List.length_pos_iff.2 hb0
    simp
    omega
  have hi : (0 : Int) < (b.length : Int) := by
    have h0 : 0 < b.length := List.length_pos_iff.2 hb0
    omega
  have HB := Hid.mk7 hB
  have HR := Hid.mk7 hrd
  have HLT := Hid.mk7 hlt
  rw [hb1] at hx
  clear hrd hB hb0 hb1
  have hli : (b.length : Int) < 19 := by omega
  have hno := sh_no (b.length : Int) 160
  go_enter Tryz.func14, Tryz.ntmps14
  go_wp2_with fail
  go_quiet ((go_at_call 44; refine hle _ _))
  obtain ⟨W0, hW0⟩ : ∃ W0, W0 = ((w.alloc (.cells #[.int .i64 0, .int .u64 0, .int .u32 0, .int .u32 0, .string ⟨#[]⟩, .string ⟨#[]⟩, .slice none 0 0] 27)).alloc (.cells #[.int .i64 3, .int .u64 0, .int .u32 0, .int .u32 0, .string ⟨#[]⟩, .string ⟨#[]⟩, .slice none 0 0] 27)).drewN nq := ⟨_, rfl⟩
  have r0 : RR w { Msg.zero with kind := 3 } (.slice none 0 0) W0 := by rw [hW0]; exact rr_new w 3 nq
  have H0 := Hid.mk7 r0
  rw [← hW0]
  have hB0 := HB.out.turned (Turned.ofBelow (S := fun _ => False) r0.bw) (fun _ _ h => h)
  obtain ⟨k0, f0⟩ := r0.m 0 (by omega)
  obtain ⟨k1, f1⟩ := r0.m 1 (by omega)
  obtain ⟨k2, f2⟩ := r0.m 2 (by omega)
  obtain ⟨k3, f3⟩ := r0.m 3 (by omega)
  obtain ⟨k4, f4⟩ := r0.m 4 (by omega)
  obtain ⟨k5, f5⟩ := r0.m 5 (by omega)
  obtain ⟨k6, f6⟩ := r0.m 6 (by omega)
  simp only [msgCell, Msg.zero] at k0 k1 k2 k3 k4 k5 k6
  clear hW0 r0 hx hlt hq hle
  clear hB0 hl
  go_wp2_with fail
  refine (hno _).mono ?_
  rintro e w2 ⟨v, rfl, hl2, hb2⟩
  have HL2 := Hid.mk7 (And.intro hl2 hb2)
  have Z2 := (H0.out.below hb2).z
  obtain ⟨z0, y0⟩ := Z2 0 (by omega)
  obtain ⟨z1, y1⟩ := Z2 1 (by omega)
  obtain ⟨z2, y2⟩ := Z2 2 (by omega)
  obtain ⟨z3, y3⟩ := Z2 3 (by omega)
  obtain ⟨z4, y4⟩ := Z2 4 (by omega)
  obtain ⟨z5, y5⟩ := Z2 5 (by omega)
  obtain ⟨z6, y6⟩ := Z2 6 (by omega)
  simp only [msgCell, Msg.zero] at z0 z1 z2 z3 z4 z5 z6
  obtain ⟨lb, capl, _, rfl, _⟩ := hl2
  clear hb2 Z2 hno
  go_wp2
  refine bodyPost_ret (v := .tuple #[.agg #[.int .i64 0, .int .u64 0, .int .u32 0, .int .u32 0, .string ⟨#[]⟩, .string ⟨#[]⟩, .slice none 0 0], .slice (some ⟨lb, 0, none⟩) 1 capl]) (by simp [results, Tryz.results14, go_sem, z0, z1, z2, z3, z4, z5, z6]) rfl ?_
  exact refuse_told HR.out H0.out HL2.out.1 HL2.out.2 (turned7 _ _ _ _ _ _ _ _ _)
set_option maxRecDepth 100000 in
set_option maxHeartbeats 3200000 in
theorem ref_read_3short (b : List Int) (hr : ∀ z ∈ b, 0 ≤ z ∧ z < 256) (hb : b.length ≤ 140737488355328) (hb0 : b ≠ []) (hb1 : b.getD 0 0 = 78) (hl : 19 ≤ b.length) (he : b.length < endOf 3 b) {w : World} {B : Value} (hB : Sl w B b) : Calls Tryz.prog 14 #[.int .i64 3, B] w (RReadTold 3 b w) := by
  have hrd : readOf 3 b = (sh b.length 160, .zero) := by
    have h0 : ¬ b.length = 0 := by simpa using hb0
    unfold readOf
    rw [if_neg (by omega), if_neg (by rw [hb1]; simpa [letterOf] using h0), if_neg (by omega), if_neg (by simp [headLen]; omega), if_pos he]
  have hle := letter_q 3 (by omega)
  rw [show letterOf 3 = 78 from rfl] at hle
  obtain ⟨g, off, cap, rfl, hcap, hlt, hx⟩ := hB.first hb0
  have hq : ((b.length : Int) == 0) = false := by
    have h0 : 0 < b.length := List.length_pos_iff.2 hb0
    simp
    omega
  have hi : (0 : Int) < (b.length : Int) := by
    have h0 : 0 < b.length := List.length_pos_iff.2 hb0
    omega
  have HB := Hid.mk7 hB
  have HR := Hid.mk7 hrd
  have HLT := Hid.mk7 hlt
  rw [hb1] at hx
  clear hrd hB hb0 hb1
  have hEn : ((endOf 3 b : Nat) : Int) = 19 + numAt b 17 2 := by
    have h0 := (numAt_rng b hr 17 2 (by omega)).1
    have h1 : endOf 3 b = 19 + (numAt b 17 2).toNat := rfl
    rw [h1]
    omega
  have pr := numAt_rng b hr 17 2 (by omega)
  have p0 : 0 ≤ numAt b 17 2 := pr.1
  have p1 : numAt b 17 2 < 65536 := by have := pr.2; omega
  clear pr
  have hn2 : ∀ W : World, Below w.heap.size w W → Calls Tryz.prog 46 #[.slice (some ⟨g, off, none⟩) b.length cap, .int .i64 17, .int .i64 2] W fun e w' => e = .returned (.int .u64 (numAt b 17 2)) ∧ W = w' := fun W h => ref_num (HB.out.turned (Turned.ofBelow (S := fun _ => False) h) (fun _ _ h => h)) hr 17 2 (by omega) (by omega) (by omega) hb
  have hli : ¬ (b.length : Int) < 19 := by omega
  have hlj : (b.length : Int) < 19 + numAt b 17 2 := by omega
  have hno := sh_no (b.length : Int) 160
  generalize numAt b 17 2 = v2 at p0 p1 hn2 hlj
  clear hEn he hl hb hr
  go_enter Tryz.func14, Tryz.ntmps14
  go_wp2_with fail
  go_quiet ((go_at_call 44; refine hle _ _))
  obtain ⟨W0, hW0⟩ : ∃ W0, W0 = ((w.alloc (.cells #[.int .i64 0, .int .u64 0, .int .u32 0, .int .u32 0, .string ⟨#[]⟩, .string ⟨#[]⟩, .slice none 0 0] 27)).alloc (.cells #[.int .i64 3, .int .u64 0, .int .u32 0, .int .u32 0, .string ⟨#[]⟩, .string ⟨#[]⟩, .slice none 0 0] 27)).drewN nq := ⟨_, rfl⟩
  have r0 : RR w { Msg.zero with kind := 3 } (.slice none 0 0) W0 := by rw [hW0]; exact rr_new w 3 nq
  have H0 := Hid.mk7 r0
  rw [← hW0]
  have hB0 := HB.out.turned (Turned.ofBelow (S := fun _ => False) r0.bw) (fun _ _ h => h)
  obtain ⟨k0, f0⟩ := r0.m 0 (by omega)
  obtain ⟨k1, f1⟩ := r0.m 1 (by omega)
  obtain ⟨k2, f2⟩ := r0.m 2 (by omega)
  obtain ⟨k3, f3⟩ := r0.m 3 (by omega)
  obtain ⟨k4, f4⟩ := r0.m 4 (by omega)
  obtain ⟨k5, f5⟩ := r0.m 5 (by omega)
  obtain ⟨k6, f6⟩ := r0.m 6 (by omega)
  simp only [msgCell, Msg.zero] at k0 k1 k2 k3 k4 k5 k6
  clear hW0 r0 hx hlt hq hle
  clear hB0
  have hn2' := hn2 W0 H0.out.bw
  clear hn2
  go_wp2_with fail
  refine hn2'.mono ?_
  rintro e w1 ⟨rfl, rfl⟩
  go_wp2_with fail
  refine (hno _).mono ?_
  rintro e w2 ⟨v, rfl, hl2, hb2⟩
  have HL2 := Hid.mk7 (And.intro hl2 hb2)
  have Z2 := (H0.out.below hb2).z
  obtain ⟨z0, y0⟩ := Z2 0 (by omega)
  obtain ⟨z1, y1⟩ := Z2 1 (by omega)
  obtain ⟨z2, y2⟩ := Z2 2 (by omega)
  obtain ⟨z3, y3⟩ := Z2 3 (by omega)
  obtain ⟨z4, y4⟩ := Z2 4 (by omega)
  obtain ⟨z5, y5⟩ := Z2 5 (by omega)
  obtain ⟨z6, y6⟩ := Z2 6 (by omega)
  simp only [msgCell, Msg.zero] at z0 z1 z2 z3 z4 z5 z6
  obtain ⟨lb, capl, _, rfl, _⟩ := hl2
  clear hb2 Z2 hno
  go_wp2
  refine bodyPost_ret (v := .tuple #[.agg #[.int .i64 0, .int .u64 0, .int .u32 0, .int .u32 0, .string ⟨#[]⟩, .string ⟨#[]⟩, .slice none 0 0], .slice (some ⟨lb, 0, none⟩) 1 capl]) (by simp [results, Tryz.results14, go_sem, z0, z1, z2, z3, z4, z5, z6]) rfl ?_
  exact refuse_told HR.out H0.out HL2.out.1 HL2.out.2 (turned7 _ _ _ _ _ _ _ _ _)
set_option maxRecDepth 100000 in
set_option maxHeartbeats 3200000 in
theorem ref_read_3long (b : List Int) (hr : ∀ z ∈ b, 0 ≤ z ∧ z < 256) (hb : b.length ≤ 140737488355328) (hb0 : b ≠ []) (hb1 : b.getD 0 0 = 78) (hl : 19 ≤ b.length) (he : endOf 3 b < b.length) {w : World} {B : Value} (hB : Sl w B b) : Calls Tryz.prog 14 #[.int .i64 3, B] w (RReadTold 3 b w) := by
  have hrd : readOf 3 b = (sh (endOf 3 b : Nat) 160, .zero) := by
    have h0 : ¬ b.length = 0 := by simpa using hb0
    unfold readOf
    rw [if_neg (by omega), if_neg (by rw [hb1]; simpa [letterOf] using h0), if_neg (by omega), if_neg (by simp [headLen]; omega), if_neg (by omega), if_pos he]
  have hle := letter_q 3 (by omega)
  rw [show letterOf 3 = 78 from rfl] at hle
  obtain ⟨g, off, cap, rfl, hcap, hlt, hx⟩ := hB.first hb0
  have hq : ((b.length : Int) == 0) = false := by
    have h0 : 0 < b.length := List.length_pos_iff.2 hb0
    simp
    omega
  have hi : (0 : Int) < (b.length : Int) := by
    have h0 : 0 < b.length := List.length_pos_iff.2 hb0
    omega
  have HB := Hid.mk7 hB
  have HR := Hid.mk7 hrd
  have HLT := Hid.mk7 hlt
  rw [hb1] at hx
  clear hrd hB hb0 hb1
  have hEn : ((endOf 3 b : Nat) : Int) = 19 + numAt b 17 2 := by
    have h0 := (numAt_rng b hr 17 2 (by omega)).1
    have h1 : endOf 3 b = 19 + (numAt b 17 2).toNat := rfl
    rw [h1]
    omega
  have pr := numAt_rng b hr 17 2 (by omega)
  have p0 : 0 ≤ numAt b 17 2 := pr.1
  have p1 : numAt b 17 2 < 65536 := by have := pr.2; omega
  clear pr
  have hn2 : ∀ W : World, Below w.heap.size w W → Calls Tryz.prog 46 #[.slice (some ⟨g, off, none⟩) b.length cap, .int .i64 17, .int .i64 2] W fun e w' => e = .returned (.int .u64 (numAt b 17 2)) ∧ W = w' := fun W h => ref_num (HB.out.turned (Turned.ofBelow (S := fun _ => False) h) (fun _ _ h => h)) hr 17 2 (by omega) (by omega) (by omega) hb
  have hli : ¬ (b.length : Int) < 19 := by omega
  have hlj : ¬ (b.length : Int) < 19 + numAt b 17 2 := by omega
  have hlk : 19 + numAt b 17 2 < (b.length : Int) := by omega
  have hno := sh_no (19 + numAt b 17 2) 160
  rw [hEn] at HR
  generalize numAt b 17 2 = v2 at p0 p1 hn2 hlj hlk hno HR
  clear hEn he hl hb hr
  go_enter Tryz.func14, Tryz.ntmps14
  go_wp2_with fail
  go_quiet ((go_at_call 44; refine hle _ _))
  obtain ⟨W0, hW0⟩ : ∃ W0, W0 = ((w.alloc (.cells #[.int .i64 0, .int .u64 0, .int .u32 0, .int .u32 0, .string ⟨#[]⟩, .string ⟨#[]⟩, .slice none 0 0] 27)).alloc (.cells #[.int .i64 3, .int .u64 0, .int .u32 0, .int .u32 0, .string ⟨#[]⟩, .string ⟨#[]⟩, .slice none 0 0] 27)).drewN nq := ⟨_, rfl⟩
  have r0 : RR w { Msg.zero with kind := 3 } (.slice none 0 0) W0 := by rw [hW0]; exact rr_new w 3 nq
  have H0 := Hid.mk7 r0
  rw [← hW0]
  have hB0 := HB.out.turned (Turned.ofBelow (S := fun _ => False) r0.bw) (fun _ _ h => h)
  obtain ⟨k0, f0⟩ := r0.m 0 (by omega)
  obtain ⟨k1, f1⟩ := r0.m 1 (by omega)
  obtain ⟨k2, f2⟩ := r0.m 2 (by omega)
  obtain ⟨k3, f3⟩ := r0.m 3 (by omega)
  obtain ⟨k4, f4⟩ := r0.m 4 (by omega)
  obtain ⟨k5, f5⟩ := r0.m 5 (by omega)
  obtain ⟨k6, f6⟩ := r0.m 6 (by omega)
  simp only [msgCell, Msg.zero] at k0 k1 k2 k3 k4 k5 k6
  clear hW0 r0 hx hlt hq hle
  clear hB0
  have hn2' := hn2 W0 H0.out.bw
  clear hn2
  go_wp2_with fail
  refine hn2'.mono ?_
  rintro e w1 ⟨rfl, rfl⟩
  go_wp2_with fail
  refine (hno _).mono ?_
  rintro e w2 ⟨v, rfl, hl2, hb2⟩
  have HL2 := Hid.mk7 (And.intro hl2 hb2)
  have Z2 := (H0.out.below hb2).z
  obtain ⟨z0, y0⟩ := Z2 0 (by omega)
  obtain ⟨z1, y1⟩ := Z2 1 (by omega)
  obtain ⟨z2, y2⟩ := Z2 2 (by omega)
  obtain ⟨z3, y3⟩ := Z2 3 (by omega)
  obtain ⟨z4, y4⟩ := Z2 4 (by omega)
  obtain ⟨z5, y5⟩ := Z2 5 (by omega)
  obtain ⟨z6, y6⟩ := Z2 6 (by omega)
  simp only [msgCell, Msg.zero] at z0 z1 z2 z3 z4 z5 z6
  obtain ⟨lb, capl, _, rfl, _⟩ := hl2
  clear hb2 Z2 hno
  go_wp2
  refine bodyPost_ret (v := .tuple #[.agg #[.int .i64 0, .int .u64 0, .int .u32 0, .int .u32 0, .string ⟨#[]⟩, .string ⟨#[]⟩, .slice none 0 0], .slice (some ⟨lb, 0, none⟩) 1 capl]) (by simp [results, Tryz.results14, go_sem, z0, z1, z2, z3, z4, z5, z6]) rfl ?_
  exact refuse_told HR.out H0.out HL2.out.1 HL2.out.2 (turned7 _ _ _ _ _ _ _ _ _)
set_option maxRecDepth 100000 in
set_option maxHeartbeats 3200000 in
theorem ref_read_3name (b : List Int) (hr : ∀ z ∈ b, 0 ≤ z ∧ z < 256) (hb : b.length ≤ 140737488355328) (hb0 : b ≠ []) (hb1 : b.getD 0 0 = 78) (hl : 19 ≤ b.length) (he : b.length = endOf 3 b) (hok : nodeOk (strOfNums (b.drop 19)) = false) {w : World} {B : Value} (hB : Sl w B b) : Calls Tryz.prog 14 #[.int .i64 3, B] w (RReadTold 3 b w) := by
  have hrd : readOf 3 b = (shName 19, .zero) := by
    have h0 : ¬ b.length = 0 := by simpa using hb0
    unfold readOf
    rw [if_neg (by omega), if_neg (by rw [hb1]; simpa [letterOf] using h0), if_neg (by omega), if_neg (by simp [headLen]; omega), if_neg (by omega), if_neg (by omega), if_neg (by omega), if_neg (by omega), if_pos (show nodeOk (strOfNums (b.drop (headLen 3))) = false from hok)]
    rfl
  have hle := letter_q 3 (by omega)
  rw [show letterOf 3 = 78 from rfl] at hle
  obtain ⟨g, off, cap, rfl, hcap, hlt, hx⟩ := hB.first hb0
  have hq : ((b.length : Int) == 0) = false := by
    have h0 : 0 < b.length := List.length_pos_iff.2 hb0
    simp
    omega
  have hi : (0 : Int) < (b.length : Int) := by
    have h0 : 0 < b.length := List.length_pos_iff.2 hb0
    omega
  have HB := Hid.mk7 hB
  have HR := Hid.mk7 hrd
  have HLT := Hid.mk7 hlt
  rw [hb1] at hx
  clear hrd hB hb0 hb1
  have hEn : ((endOf 3 b : Nat) : Int) = 19 + numAt b 17 2 := by
    have h0 := (numAt_rng b hr 17 2 (by omega)).1
    have h1 : endOf 3 b = 19 + (numAt b 17 2).toNat := rfl
    rw [h1]
    omega
  have pr := numAt_rng b hr 17 2 (by omega)
  have p0 : 0 ≤ numAt b 17 2 := pr.1
  have p1 : numAt b 17 2 < 65536 := by have := pr.2; omega
  clear pr
  have hn2 : ∀ W : World, Below w.heap.size w W → Calls Tryz.prog 46 #[.slice (some ⟨g, off, none⟩) b.length cap, .int .i64 17, .int .i64 2] W fun e w' => e = .returned (.int .u64 (numAt b 17 2)) ∧ W = w' := fun W h => ref_num (HB.out.turned (Turned.ofBelow (S := fun _ => False) h) (fun _ _ h => h)) hr 17 2 (by omega) (by omega) (by omega) hb
  have hli : ¬ (b.length : Int) < 19 := by omega
  have hlj : ¬ (b.length : Int) < 19 + numAt b 17 2 := by omega
  have hlk : ¬ 19 + numAt b 17 2 < (b.length : Int) := by omega
  have HE := Hid.mk7 he
  generalize numAt b 17 2 = v2 at p0 p1 hn2 hlj hlk
  clear hEn he hr
  go_enter Tryz.func14, Tryz.ntmps14
  go_wp2_with fail
  go_quiet ((go_at_call 44; refine hle _ _))
  obtain ⟨W0, hW0⟩ : ∃ W0, W0 = ((w.alloc (.cells #[.int .i64 0, .int .u64 0, .int .u32 0, .int .u32 0, .string ⟨#[]⟩, .string ⟨#[]⟩, .slice none 0 0] 27)).alloc (.cells #[.int .i64 3, .int .u64 0, .int .u32 0, .int .u32 0, .string ⟨#[]⟩, .string ⟨#[]⟩, .slice none 0 0] 27)).drewN nq := ⟨_, rfl⟩
  have r0 : RR w { Msg.zero with kind := 3 } (.slice none 0 0) W0 := by rw [hW0]; exact rr_new w 3 nq
  have H0 := Hid.mk7 r0
  rw [← hW0]
  have hB0 := HB.out.turned (Turned.ofBelow (S := fun _ => False) r0.bw) (fun _ _ h => h)
  obtain ⟨k0, f0⟩ := r0.m 0 (by omega)
  obtain ⟨k1, f1⟩ := r0.m 1 (by omega)
  obtain ⟨k2, f2⟩ := r0.m 2 (by omega)
  obtain ⟨k3, f3⟩ := r0.m 3 (by omega)
  obtain ⟨k4, f4⟩ := r0.m 4 (by omega)
  obtain ⟨k5, f5⟩ := r0.m 5 (by omega)
  obtain ⟨k6, f6⟩ := r0.m 6 (by omega)
  simp only [msgCell, Msg.zero] at k0 k1 k2 k3 k4 k5 k6
  clear hW0 r0 hx hlt hq hle
  obtain ⟨aF, haF⟩ : ∃ aF : Option Addr, aF = if cap = 19 then some ⟨g, off, none⟩ else (some ⟨g, off, none⟩ : Option Addr).map (·.add 19) := ⟨_, rfl⟩
  have hc2 : ∀ W : World, (Instr.slice 25 (.slice (some ⟨g, off, none⟩) b.length cap) (some (.int .i64 19)) none none).run Tryz.prog W = .ok (.slice aF (b.length - 19) (cap - 19)) W := fun W => by rw [haF]; exact run_cutFrom Tryz.bytes (l := 19) (by omega) W
  have hsF : Sl W0 (.slice aF (b.length - 19) (cap - 19)) (b.drop 19) := by rw [haF]; exact Sl.drop hB0 (by omega)
  have cvs := hsF.str
  have hzs : (strOfNums (b.drop 19)).size ≤ 4611686018427387904 := by rw [strOfNums_size, List.length_drop]; omega
  clear haF hsF hB0
  generalize strOfNums (b.drop 19) = s at cvs hzs hok HR
  have hnq := Tryz.neqLinks
  have hnd := fun W => ref_node s hzs W
  rw [hok, if_neg (by decide)] at hnd
  have hn2' := hn2 W0 H0.out.bw
  clear hn2
  go_wp2_with fail
  refine hn2'.mono ?_
  rintro e w1 ⟨rfl, rfl⟩
  have H1 : Hid (RR w { Msg.zero with kind := 3, name := s } (.slice none 0 0) (W0.setCell ⟨w.heap.size + 1, 4, none⟩ (.string s))) := H0.out.set 4 (.string s) (forall7 rfl rfl rfl rfl rfl rfl rfl)
  go_wp2_with fail
  refine (hnd _).mono ?_
  rintro e w2 ⟨x2, y2, v2', rfl, hl2, hb2⟩
  have H2 := Hid.mk7 (H1.out.below hb2)
  have hov := sh_over 19 ⟨lyAtom, 0, 24⟩ hl2
  obtain ⟨lb, capl, _, rfl, _⟩ := hl2
  clear hb2 hnd H1
  go_wp2_with fail
  refine hov.mono ?_
  rintro e w3 ⟨v, rfl, hl2, hb2⟩
  have HL2 := Hid.mk7 (And.intro hl2 hb2)
  have Z2 := (H2.out.below hb2).z
  obtain ⟨z0, y0⟩ := Z2 0 (by omega)
  obtain ⟨z1, y1⟩ := Z2 1 (by omega)
  obtain ⟨z2, y2⟩ := Z2 2 (by omega)
  obtain ⟨z3, y3⟩ := Z2 3 (by omega)
  obtain ⟨z4, y4⟩ := Z2 4 (by omega)
  obtain ⟨z5, y5⟩ := Z2 5 (by omega)
  obtain ⟨z6, y6⟩ := Z2 6 (by omega)
  simp only [msgCell, Msg.zero] at z0 z1 z2 z3 z4 z5 z6
  obtain ⟨lb, capl, _, rfl, _⟩ := hl2
  clear hb2 Z2 hov
  go_wp2
  refine bodyPost_ret (v := .tuple #[.agg #[.int .i64 0, .int .u64 0, .int .u32 0, .int .u32 0, .string ⟨#[]⟩, .string ⟨#[]⟩, .slice none 0 0], .slice (some ⟨lb, 0, none⟩) 2 capl]) (by simp [results, Tryz.results14, go_sem, z0, z1, z2, z3, z4, z5, z6]) rfl ?_
  exact refuse_told HR.out H2.out HL2.out.1 HL2.out.2 (turned7 _ _ _ _ _ _ _ _ _)
set_option maxRecDepth 100000 in
set_option maxHeartbeats 3200000 in
theorem ref_read_3ok (b : List Int) (hr : ∀ z ∈ b, 0 ≤ z ∧ z < 256) (hb : b.length ≤ 140737488355328) (hb0 : b ≠ []) (hb1 : b.getD 0 0 = 78) (hl : 19 ≤ b.length) (he : b.length = endOf 3 b) (hok : nodeOk (strOfNums (b.drop 19)) = true) {w : World} {B : Value} (hB : Sl w B b) : Calls Tryz.prog 14 #[.int .i64 3, B] w (RReadTold 3 b w) := by
  have hrd : readOf 3 b = ([], { Msg.zero with kind := 3, flags := numAt b 1 8, creation := numAt b 13 4, challenge := numAt b 9 4, name := strOfNums (b.drop 19) }) := by
    have h0 : ¬ b.length = 0 := by simpa using hb0
    unfold readOf
    rw [if_neg (by omega), if_neg (by rw [hb1]; simpa [letterOf] using h0), if_neg (by omega), if_neg (by simp [headLen]; omega), if_neg (by omega), if_neg (by omega), if_neg (by omega), if_neg (by omega), if_neg (by rw [show headLen 3 = 19 from rfl, hok]; decide)]
    rfl
  have hle := letter_q 3 (by omega)
  rw [show letterOf 3 = 78 from rfl] at hle
  obtain ⟨g, off, cap, rfl, hcap, hlt, hx⟩ := hB.first hb0
  have hq : ((b.length : Int) == 0) = false := by
    have h0 : 0 < b.length := List.length_pos_iff.2 hb0
    simp
    omega
  have hi : (0 : Int) < (b.length : Int) := by
    have h0 : 0 < b.length := List.length_pos_iff.2 hb0
    omega
  have HB := Hid.mk7 hB
  have HR := Hid.mk7 hrd
  have HLT := Hid.mk7 hlt
  rw [hb1] at hx
  clear hrd hB hb0 hb1
  have hEn : ((endOf 3 b : Nat) : Int) = 19 + numAt b 17 2 := by
    have h0 := (numAt_rng b hr 17 2 (by omega)).1
    have h1 : endOf 3 b = 19 + (numAt b 17 2).toNat := rfl
    rw [h1]
    omega
  have pr := numAt_rng b hr 17 2 (by omega)
  have p0 : 0 ≤ numAt b 17 2 := pr.1
  have p1 : numAt b 17 2 < 65536 := by have := pr.2; omega
  clear pr
  have hn2 : ∀ W : World, Below w.heap.size w W → Calls Tryz.prog 46 #[.slice (some ⟨g, off, none⟩) b.length cap, .int .i64 17, .int .i64 2] W fun e w' => e = .returned (.int .u64 (numAt b 17 2)) ∧ W = w' := fun W h => ref_num (HB.out.turned (Turned.ofBelow (S := fun _ => False) h) (fun _ _ h => h)) hr 17 2 (by omega) (by omega) (by omega) hb
  have hli : ¬ (b.length : Int) < 19 := by omega
  have hlj : ¬ (b.length : Int) < 19 + numAt b 17 2 := by omega
  have hlk : ¬ 19 + numAt b 17 2 < (b.length : Int) := by omega
  have hnf : ∀ W : World, Below w.heap.size w W → Calls Tryz.prog 46 #[.slice (some ⟨g, off, none⟩) b.length cap, .int .i64 1, .int .i64 8] W fun e w' => e = .returned (.int .u64 (numAt b 1 8)) ∧ W = w' := fun W h => ref_num (HB.out.turned (Turned.ofBelow (S := fun _ => False) h) (fun _ _ h => h)) hr 1 8 (by omega) (by omega) (by omega) hb
  have hnc : ∀ W : World, Below w.heap.size w W → Calls Tryz.prog 46 #[.slice (some ⟨g, off, none⟩) b.length cap, .int .i64 13, .int .i64 4] W fun e w' => e = .returned (.int .u64 (numAt b 13 4)) ∧ W = w' := fun W h => ref_num (HB.out.turned (Turned.ofBelow (S := fun _ => False) h) (fun _ _ h => h)) hr 13 4 (by omega) (by omega) (by omega) hb
  have hnh : ∀ W : World, Below w.heap.size w W → Calls Tryz.prog 46 #[.slice (some ⟨g, off, none⟩) b.length cap, .int .i64 9, .int .i64 4] W fun e w' => e = .returned (.int .u64 (numAt b 9 4)) ∧ W = w' := fun W h => ref_num (HB.out.turned (Turned.ofBelow (S := fun _ => False) h) (fun _ _ h => h)) hr 9 4 (by omega) (by omega) (by omega) hb
  have fr := numAt_rng b hr 1 8 (by omega)
  have f0 : 0 ≤ numAt b 1 8 := fr.1
  have f1 : numAt b 1 8 < 18446744073709551616 := by have := fr.2; omega
  clear fr
  have cr := numAt_rng b hr 13 4 (by omega)
  have c0 : 0 ≤ numAt b 13 4 := cr.1
  have c1 : numAt b 13 4 < 4294967296 := by have := cr.2; omega
  clear cr
  have hr := numAt_rng b hr 9 4 (by omega)
  have h0 : 0 ≤ numAt b 9 4 := hr.1
  have h1 : numAt b 9 4 < 4294967296 := by have := hr.2; omega
  clear hr
  have HE := Hid.mk7 he
  generalize numAt b 17 2 = v2 at p0 p1 hn2 hlj hlk
  generalize numAt b 1 8 = vf at hnf f0 f1 HR
  generalize numAt b 13 4 = vc at hnc c0 c1 HR
  generalize numAt b 9 4 = vh at hnh h0 h1 HR
  clear hEn he hr
  go_enter Tryz.func14, Tryz.ntmps14
  go_wp2_with fail
  go_quiet ((go_at_call 44; refine hle _ _))
  obtain ⟨W0, hW0⟩ : ∃ W0, W0 = ((w.alloc (.cells #[.int .i64 0, .int .u64 0, .int .u32 0, .int .u32 0, .string ⟨#[]⟩, .string ⟨#[]⟩, .slice none 0 0] 27)).alloc (.cells #[.int .i64 3, .int .u64 0, .int .u32 0, .int .u32 0, .string ⟨#[]⟩, .string ⟨#[]⟩, .slice none 0 0] 27)).drewN nq := ⟨_, rfl⟩
  have r0 : RR w { Msg.zero with kind := 3 } (.slice none 0 0) W0 := by rw [hW0]; exact rr_new w 3 nq
  have H0 := Hid.mk7 r0
  rw [← hW0]
  have hB0 := HB.out.turned (Turned.ofBelow (S := fun _ => False) r0.bw) (fun _ _ h => h)
  obtain ⟨k0, g0⟩ := r0.m 0 (by omega)
  obtain ⟨k1, g1⟩ := r0.m 1 (by omega)
  obtain ⟨k2, g2⟩ := r0.m 2 (by omega)
  obtain ⟨k3, g3⟩ := r0.m 3 (by omega)
  obtain ⟨k4, g4⟩ := r0.m 4 (by omega)
  obtain ⟨k5, g5⟩ := r0.m 5 (by omega)
  obtain ⟨k6, g6⟩ := r0.m 6 (by omega)
  simp only [msgCell, Msg.zero] at k0 k1 k2 k3 k4 k5 k6
  clear hW0 r0 hx hlt hq hle
  obtain ⟨aF, haF⟩ : ∃ aF : Option Addr, aF = if cap = 19 then some ⟨g, off, none⟩ else (some ⟨g, off, none⟩ : Option Addr).map (·.add 19) := ⟨_, rfl⟩
  have hc2 : ∀ W : World, (Instr.slice 25 (.slice (some ⟨g, off, none⟩) b.length cap) (some (.int .i64 19)) none none).run Tryz.prog W = .ok (.slice aF (b.length - 19) (cap - 19)) W := fun W => by rw [haF]; exact run_cutFrom Tryz.bytes (l := 19) (by omega) W
  have hsF : Sl W0 (.slice aF (b.length - 19) (cap - 19)) (b.drop 19) := by rw [haF]; exact Sl.drop hB0 (by omega)
  have cvs := hsF.str
  have hzs : (strOfNums (b.drop 19)).size ≤ 4611686018427387904 := by rw [strOfNums_size, List.length_drop]; omega
  clear haF hsF hB0
  generalize strOfNums (b.drop 19) = s at cvs hzs hok HR
  have hnq := Tryz.neqLinks
  have hnd := fun W => ref_node s hzs W
  rw [hok, if_pos rfl] at hnd
  have hn2' := hn2 W0 H0.out.bw
  clear hn2
  go_wp2_with fail
  refine hn2'.mono ?_
  rintro e w1 ⟨rfl, rfl⟩
  have H1 : Hid (RR w { Msg.zero with kind := 3, name := s } (.slice none 0 0) (W0.setCell ⟨w.heap.size + 1, 4, none⟩ (.string s))) := H0.out.set 4 (.string s) (forall7 rfl rfl rfl rfl rfl rfl rfl)
  go_wp2_with fail
  refine (hnd _).mono ?_
  rintro e w2 ⟨x2, y2, v2', rfl, hl2, hb2⟩
  have hl2 : v2' = .slice none 0 0 := hl2
  subst hl2
  have H2 := Hid.mk7 (H1.out.below hb2)
  clear hb2 hnd H1 k0 k1 k2 k3 k4 k5 k6 g0 g1 g2 g3 g4 g5 g6 cvs
  obtain ⟨k0, g0⟩ := H2.out.m 0 (by omega)
  obtain ⟨k1, g1⟩ := H2.out.m 1 (by omega)
  obtain ⟨k2, g2⟩ := H2.out.m 2 (by omega)
  obtain ⟨k3, g3⟩ := H2.out.m 3 (by omega)
  obtain ⟨k4, g4⟩ := H2.out.m 4 (by omega)
  obtain ⟨k5, g5⟩ := H2.out.m 5 (by omega)
  obtain ⟨k6, g6⟩ := H2.out.m 6 (by omega)
  simp only [msgCell, Msg.zero] at k0 k1 k2 k3 k4 k5 k6
  go_wp2_with fail
  refine (hnf _ H2.out.bw).mono ?_
  rintro e ww ⟨rfl, rfl⟩
  have H3 : Hid (RR w { Msg.zero with kind := 3, name := s, flags := vf } (.slice none 0 0) (w2.setCell ⟨w.heap.size + 1, 1, none⟩ (.int .u64 vf))) := H2.out.set 1 (.int .u64 vf) (forall7 rfl rfl rfl rfl rfl rfl rfl)
  go_wp2_with fail
  refine (hnc _ H3.out.bw).mono ?_
  rintro e ww ⟨rfl, rfl⟩
  have H4 : Hid (RR w { Msg.zero with kind := 3, name := s, flags := vf, creation := vc } (.slice none 0 0) ((w2.setCell ⟨w.heap.size + 1, 1, none⟩ (.int .u64 vf)).setCell ⟨w.heap.size + 1, 2, none⟩ (.int .u32 vc))) := H3.out.set 2 (.int .u32 vc) (forall7 rfl rfl rfl rfl rfl rfl rfl)
  go_wp2_with fail
  refine (hnh _ H4.out.bw).mono ?_
  rintro e ww ⟨rfl, rfl⟩
  have H5 : Hid (RR w { Msg.zero with kind := 3, name := s, flags := vf, creation := vc, challenge := vh } (.slice none 0 0) (((w2.setCell ⟨w.heap.size + 1, 1, none⟩ (.int .u64 vf)).setCell ⟨w.heap.size + 1, 2, none⟩ (.int .u32 vc)).setCell ⟨w.heap.size + 1, 3, none⟩ (.int .u32 vh))) := H4.out.set 3 (.int .u32 vh) (forall7 rfl rfl rfl rfl rfl rfl rfl)
  obtain ⟨z0, y0⟩ := H5.out.z 0 (by omega)
  obtain ⟨z1, y1⟩ := H5.out.z 1 (by omega)
  obtain ⟨z2, y2⟩ := H5.out.z 2 (by omega)
  obtain ⟨z3, y3⟩ := H5.out.z 3 (by omega)
  obtain ⟨z4, y4⟩ := H5.out.z 4 (by omega)
  obtain ⟨z5, y5⟩ := H5.out.z 5 (by omega)
  obtain ⟨z6, y6⟩ := H5.out.z 6 (by omega)
  simp only [msgCell, Msg.zero] at z0 z1 z2 z3 z4 z5 z6
  obtain ⟨m0, m1, m2, m3, m4, m5, m6⟩ := H5.out.m.at_
  simp only [Msg.zero] at m0 m1 m2 m3 m4 m5 m6
  go_wp2
  refine bodyPost_ret (v := .tuple #[.agg #[.int .i64 3, .int .u64 vf, .int .u32 vc, .int .u32 vh, .string s, .string ⟨#[]⟩, .slice none 0 0], .slice none 0 0]) (by simp [results, Tryz.results14, go_sem, z0, z1, z2, z3, z4, z5, z6]) rfl ?_
  exact read_told HR.out H5.out (.inl ⟨rfl, rfl⟩) (fun _ h => h.elim) (turned7 _ _ _ _ _ _ _ _ _)
/-- The document's Read. -/
theorem ref_Read (k : Int) {b : List Int} (hr : ∀ z ∈ b, 0 ≤ z ∧ z < 256) (hb : b.length ≤ 140737488355328) {w : World} {B : Value} (hB : Sl w B b) : Calls Tryz.prog 14 #[.int .i64 k, B] w (RReadTold k b w) := by
  by_cases h1 : k < 1
  · exact ref_read_under k h1 b hB
  by_cases h5 : 5 < k
  · exact ref_read_above k h5 b hB
  by_cases hb0 : b = []
  · subst hb0
    exact ref_read_none k (by omega) hB
  by_cases hl : b.getD 0 0 = letterOf k
  case neg => exact ref_read_letter k (by omega) b hb0 hl hB
  have hk : k = 1 ∨ k = 2 ∨ k = 3 ∨ k = 4 ∨ k = 5 := by omega
  rcases hk with rfl | rfl | rfl | rfl | rfl
  · by_cases h : b.length < 15
    · exact ref_read_1head b hb0 hl h hB
    by_cases he : b.length < endOf 1 b
    · exact ref_read_1short b hr hb hb0 hl (by omega) he hB
    by_cases he' : endOf 1 b < b.length
    · exact ref_read_1long b hr hb hb0 hl (by omega) he' hB
    cases hok : nodeOk (strOfNums (b.drop 15)) with
    | false => exact ref_read_1name b hr hb hb0 hl (by omega) (by omega) hok hB
    | true => exact ref_read_1ok b hr hb hb0 hl (by omega) (by omega) hok hB
  · cases hs : isSt (strOfNums (b.drop 1)) with
    | true => exact ref_read_2ok b hb0 hl hs hB
    | false => exact ref_read_2no b hb0 hl hs hB
  · by_cases h : b.length < 19
    · exact ref_read_3head b hb0 hl h hB
    by_cases he : b.length < endOf 3 b
    · exact ref_read_3short b hr hb hb0 hl (by omega) he hB
    by_cases he' : endOf 3 b < b.length
    · exact ref_read_3long b hr hb hb0 hl (by omega) he' hB
    cases hok : nodeOk (strOfNums (b.drop 19)) with
    | false => exact ref_read_3name b hr hb hb0 hl (by omega) (by omega) hok hB
    | true => exact ref_read_3ok b hr hb hb0 hl (by omega) (by omega) hok hB
  · by_cases h : b.length < 21
    · exact ref_read_4short b hb0 hl h hB
    by_cases h' : 21 < b.length
    · exact ref_read_4long b hb0 hl h' hB
    exact ref_read_4ok b hr hb hb0 hl (by omega) hB
  · by_cases h : b.length < 17
    · exact ref_read_5short b hb0 hl h hB
    by_cases h' : 17 < b.length
    · exact ref_read_5long b hb0 hl h' hB
    exact ref_read_5ok b hb0 hl (by omega) hB
end Go.Proofs.YtmnibmgbicnamaaGreatDoor
