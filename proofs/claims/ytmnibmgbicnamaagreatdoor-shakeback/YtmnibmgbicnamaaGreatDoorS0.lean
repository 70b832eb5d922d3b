/-
  Layer 8 (shake): chains of one and two faults, as the program tells them (FaultC) and as the document does (LinksC); heddlemem.Over; the document's refusals.
-/
import Derived.Test.YtmnibmgbicnamaaGreatDoorSDef
import Derived.Test.YtmnibmgbicnamaaGreatDoorChain2
import Derived.Test.YtmnibmgbicnamaaGreatDoorM3
namespace Go.Proofs.YtmnibmgbicnamaaGreatDoor
open Go.RowKit

/-- A link's three cells. -/
structure LCell (w : World) (lb o : Nat) (x : Lnk) : Prop where
  c0 : w.cell? ⟨lb, o, none⟩ = some (.string x.layer)
  c1 : w.cell? ⟨lb, o + 1, none⟩ = some (.int .i64 x.at_)
  c2 : w.cell? ⟨lb, o + 2, none⟩ = some (.int .i64 x.code)
theorem LCell.turned {S : Nat → Prop} {w w' : World} {lb o : Nat} {x : Lnk} (h : LCell w lb o x) (ht : Turned S w w') (hs : ¬ S lb) : LCell w' lb o x := ⟨ht.cell h.c0 hs, ht.cell h.c1 hs, ht.cell h.c2 hs⟩
theorem LCell.lt {w : World} {lb o : Nat} {x : Lnk} (h : LCell w lb o x) : lb < w.heap.size := World.block_lt_of_cell? w _ h.c0
theorem FCell.turned {S : Nat → Prop} {w w' : World} {pb : Nat} {ly : ByteArray} {a c : Int} {u : Value} (h : FCell w pb ly a c u) (ht : Turned S w w') (hs : ¬ S pb) : FCell w' pb ly a c u := ⟨ht.cell h.c0 hs, ht.cell h.c1 hs, ht.cell h.c2 hs, ht.cell h.c3 hs⟩

/-- A chain of at most two links, in blocks from B on. -/
def LinksC (B : Nat) (w : World) (v : Value) : List Lnk → Prop
  | [] => v = .slice none 0 0
  | [x] => ∃ lb cap, B ≤ lb ∧ v = .slice (some ⟨lb, 0, none⟩) 1 cap ∧ LCell w lb 0 x
  | [x, y] => ∃ lb cap, B ≤ lb ∧ v = .slice (some ⟨lb, 0, none⟩) 2 cap ∧ LCell w lb 0 x ∧ LCell w lb 3 y
  | _ => False
theorem LinksC.turned {B : Nat} {S : Nat → Prop} {w w' : World} {v : Value} : ∀ {ls : List Lnk}, LinksC B w v ls → Turned S w w' → (∀ k, B ≤ k → k < w.heap.size → ¬ S k) → LinksC B w' v ls
  | [], h, _, _ => h
  | [_], ⟨lb, cap, h1, h2, h3⟩, ht, hs => ⟨lb, cap, h1, h2, h3.turned ht (hs lb h1 h3.lt)⟩
  | [_, _], ⟨lb, cap, h1, h2, h3, h4⟩, ht, hs => ⟨lb, cap, h1, h2, h3.turned ht (hs lb h1 h3.lt), h4.turned ht (hs lb h1 h3.lt)⟩
  | _ :: _ :: _ :: _, h, _, _ => h.elim
theorem LinksC.below {B : Nat} {w w' : World} {v : Value} {ls : List Lnk} (h : LinksC B w v ls) (hb : Below w.heap.size w w') : LinksC B w' v ls := h.turned (Turned.ofBelow (S := fun _ => False) hb) (fun _ _ _ h => h)
theorem LinksC.mono {B C : Nat} {w : World} {v : Value} (hC : C ≤ B) : ∀ {ls : List Lnk}, LinksC B w v ls → LinksC C w v ls
  | [], h => h
  | [_], ⟨lb, cap, h1, h⟩ => ⟨lb, cap, by omega, h⟩
  | [_, _], ⟨lb, cap, h1, h⟩ => ⟨lb, cap, by omega, h⟩
  | _ :: _ :: _ :: _, h => h.elim

/-- A fault, or one with one under it, in blocks from B on. -/
def FaultC (B : Nat) (w : World) (v : Value) : List Lnk → Prop
  | [] => v = .nilIface
  | [x] => ∃ pb, B ≤ pb ∧ v = .iface 131 (.pointer (some ⟨pb, 0, none⟩)) ∧ FCell w pb x.layer x.at_ x.code .nilIface
  | [x, y] => ∃ pb qb, B ≤ pb ∧ B ≤ qb ∧ v = .iface 131 (.pointer (some ⟨pb, 0, none⟩)) ∧ FCell w pb x.layer x.at_ x.code (.iface 131 (.pointer (some ⟨qb, 0, none⟩))) ∧ FCell w qb y.layer y.at_ y.code .nilIface
  | _ => False
theorem FaultC.turned {B : Nat} {S : Nat → Prop} {w w' : World} {v : Value} : ∀ {ls : List Lnk}, FaultC B w v ls → Turned S w w' → (∀ k, B ≤ k → k < w.heap.size → ¬ S k) → FaultC B w' v ls
  | [], h, _, _ => h
  | [_], ⟨pb, h1, h2, h3⟩, ht, hs => ⟨pb, h1, h2, h3.turned ht (hs pb h1 h3.lt)⟩
  | [_, _], ⟨pb, qb, h1, h1', h2, h3, h4⟩, ht, hs => ⟨pb, qb, h1, h1', h2, h3.turned ht (hs pb h1 h3.lt), h4.turned ht (hs qb h1' h4.lt)⟩
  | _ :: _ :: _ :: _, h, _, _ => h.elim
theorem FaultC.below {B : Nat} {w w' : World} {v : Value} {ls : List Lnk} (h : FaultC B w v ls) (hb : Below w.heap.size w w') : FaultC B w' v ls := h.turned (Turned.ofBelow (S := fun _ => False) hb) (fun _ _ _ h => h)
theorem FaultC.mono {B C : Nat} {w : World} {v : Value} (hC : C ≤ B) : ∀ {ls : List Lnk}, FaultC B w v ls → FaultC C w v ls
  | [], h => h
  | [_], ⟨pb, h1, h⟩ => ⟨pb, by omega, h⟩
  | [_, _], ⟨pb, qb, h1, h2, h⟩ => ⟨pb, qb, by omega, by omega, h⟩
  | _ :: _ :: _ :: _, h => h.elim

/-- Refused of what both tell. -/
theorem refused_bothC {B B' : Nat} {w : World} {v l : Value} (her : Er w) : ∀ {ls : List Lnk}, FaultC B w v ls → LinksC B' w l ls →
    Calls Tryz.prog 11 #[v, l] w fun ev w' => ev = .returned (.bool true) ∧ Below w.heap.size w w'
  | [], he, hl => by
    have hv : v = .nilIface := he
    have hl' : l = .slice none 0 0 := hl
    subst hv hl'
    refine (refused_nil w none 0).mono ?_
    rintro ev w' ⟨rfl, rfl⟩
    exact ⟨rfl, Below.refl _ _⟩
  | [x], ⟨pb, _, hv, hf⟩, ⟨lb, cap, _, hl, hc⟩ => by
    subst hv hl
    exact refused_fault pb 0 lb cap _ _ _ w her hf.c0 hf.c1 hf.c2 hf.c3 hc.c0 hc.c1 hc.c2
  | [x, y], ⟨pb, qb, _, _, hv, hf, hq⟩, ⟨lb, cap, _, hl, hc, hd⟩ => by
    subst hv hl
    exact refused_fault2 pb qb lb cap _ _ _ _ _ _ w her hf hq hc.c0 hc.c1 hc.c2 hd.c0 hd.c1 hd.c2
  | _ :: _ :: _ :: _, h, _ => h.elim

theorem LinksC.ofNew (w : World) (x : Lnk) : LinksC w.heap.size (w.alloc (.cells #[.string x.layer, .int .i64 x.at_, .int .i64 x.code] 102)) (.slice (some ⟨w.heap.size, 0, none⟩) 1 1) [x] :=
  ⟨_, _, Nat.le_refl _, rfl, ⟨by simp, by simp, by simp⟩⟩
/-- The document's refusal of layer shake's own. -/
theorem sh_no (a c : Int) (w : World) : Calls Tryz.prog 34 #[.int .i64 a, .int .i64 c] w fun e w' => ∃ v, e = .returned v ∧ LinksC w.heap.size w' v (sh a c) ∧ Below w.heap.size w w' := by
  go_enter Tryz.func34, Tryz.ntmps34
  go_wp2_with (go_at_call 41; refine (one_any _ _ _ _).mono ?_; rintro e w1 ⟨rfl, rfl⟩)
  go_ret
  exact ⟨_, rfl, LinksC.ofNew w ⟨lyShake, a, c⟩, (Below.refl _ _).alloc (Nat.le_refl _) _⟩
theorem at_no (a c : Int) (w : World) : Calls Tryz.prog 70 #[.int .i64 a, .int .i64 c] w fun e w' => ∃ v, e = .returned v ∧ LinksC w.heap.size w' v [⟨lyAtom, a, c⟩] ∧ Below w.heap.size w w' := by
  go_enter Tryz.func70, Tryz.ntmps70
  go_wp2_with (go_at_call 41; refine (one_any _ _ _ _).mono ?_; rintro e w1 ⟨rfl, rfl⟩)
  go_ret
  exact ⟨_, rfl, LinksC.ofNew w ⟨lyAtom, a, c⟩, (Below.refl _ _).alloc (Nat.le_refl _) _⟩

theorem lcell_news {w : World} {lb : Nat} {y : Lnk} (h : LCell w lb 0 y) : ∀ j u, [Value.string y.layer, .int .i64 y.at_, .int .i64 y.code][j]? = some u → w.cell? ((⟨lb, 0, none⟩ : Addr).add j) = some u := by
  intro j u hu
  match j, hu with
  | 0, hu => simp at hu; subst hu; simpa [Addr.add] using h.c0
  | 1, hu => simp at hu; subst hu; simpa [Addr.add] using h.c1
  | 2, hu => simp at hu; subst hu; simpa [Addr.add] using h.c2
  | j + 3, hu => simp at hu

set_option maxRecDepth 100000 in
set_option maxHeartbeats 3200000 in
/-- A fault over a chain of one. -/
theorem over_any (ly : ByteArray) (a c : Int) (y : Lnk) {B : Nat} {w : World} {l : Value} (hl : LinksC B w l [y]) : Calls Tryz.prog 71 #[.string ly, .int .i64 a, .int .i64 c, l] w fun e w' => ∃ v, e = .returned v ∧ LinksC w.heap.size w' v [⟨ly, a, c⟩, y] ∧ Below w.heap.size w w' := by
  obtain ⟨i0, hi0, hz0, hz1, hz2⟩ := info_parts Tryz.infoLink
  obtain ⟨lb, cap, _, rfl, hc⟩ := hl
  have hlt := hc.lt
  go_enter Tryz.func71, Tryz.ntmps71
  go_wp2_with (first
    | (at_builtin; refine wpList_append_lies _ (by rfl) _ _ _ (by rfl) w.heap.size 102 i0 _ 3 32 Tryz.underlying32 hi0 hz0 hz1 hz2 rfl (by omega) (.slice none 0 0) 0 [] (by rfl) (World.ownsRow_nil _ _ _ _)
        ⟨w.heap.size, 0, none⟩ 1 1 [.string ly, .int .i64 a, .int .i64 c] (by rfl) (by rfl) (World.news_of_block (cs := #[.string ly, .int .i64 a, .int .i64 c]) (t := 102) (fr := (0, 0)) (heap_alloc_new w _)) (by simp [Value.oneCell'])
        (by omega) (by decide) (by decide) (by simp) (w.heap.size + 1) (by simp) ?_
       intro gg cap1 w1 hown1 hgrow1 hat1 hlt1
       have hgg : gg = w.heap.size + 1 := by simpa [Value.ownBlock] using hat1
       have hb1 : Below w.heap.size w w1 := ((Below.refl _ _).alloc (Nat.le_refl _) _).grown hgrow1 (by simp) (by simp [Value.ownBlock])
       have hc1 : LCell w1 lb 0 y := hc.turned (Turned.ofBelow (S := fun _ => False) hb1) (fun h => h)
       have HB1 : Hid (Below w.heap.size w w1) := hb1
       have hnw := lcell_news hc1
       have hgw : w.heap.size < gg := by omega
       clear hat1 hgrow1 hb1 hgg)
    | (at_builtin; refine wpList_append_lies _ (by rfl) _ _ _ (by rfl) w.heap.size 102 i0 _ 3 32 Tryz.underlying32 hi0 hz0 hz1 hz2 rfl (by omega) (.slice (some ⟨gg, 0, none⟩) 1 cap1) 1 [.string ly, .int .i64 a, .int .i64 c] (by rfl) hown1 ⟨lb, 0, none⟩ 1 cap [.string y.layer, .int .i64 y.at_, .int .i64 y.code] (by rfl) (by rfl) hnw (by simp [Value.oneCell']) (by omega) (by decide) (by decide) HB1.out.size _ rfl ?_; intro g2 cap2 w2 hown2 hgrow2 hat2 hlt2))
  go_ret
  have hcs := hown2.cells (g := g2) (by simp [Value.ownBlock])
  have hg2 : w.heap.size ≤ g2 := by
    rcases hat2 with h | h
    · simp [Value.ownBlock] at h; omega
    · have := HB1.out.size; omega
  refine ⟨_, rfl, ⟨g2, cap2, hg2, rfl, ⟨by simpa [Addr.add] using hcs 0 _ rfl, by simpa [Addr.add] using hcs 1 _ rfl, by simpa [Addr.add] using hcs 2 _ rfl⟩, ⟨by simpa [Addr.add] using hcs 3 _ rfl, by simpa [Addr.add] using hcs 4 _ rfl, by simpa [Addr.add] using hcs 5 _ rfl⟩⟩, ?_⟩
  exact HB1.out.grown hgrow2 HB1.out.size (by simp [Value.ownBlock]; omega)
end Go.Proofs.YtmnibmgbicnamaaGreatDoor
