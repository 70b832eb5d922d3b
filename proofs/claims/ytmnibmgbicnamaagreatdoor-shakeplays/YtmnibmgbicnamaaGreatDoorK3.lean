/-
  Layer 8 (shake): chains of one and two faults, as the program tells them (FaultC) and as the document does (LinksC); heddlemem.Over; the document's refusals.
  Layer 8 (shake): the document's names of nodes; its refusals over those of the layers below.
  Layer 8 (shake): the document's Node: whether it is a name.
  Layer 8 (shake): the document's statuses, flags and letters.
  Layer 8 (shake): the document's numbers as bytes, and out of bytes.
  Layer 8 (shake): the document's numbers out of bytes.
  Layer 8 (shake): a chain of links held against nil.
-/
import Derived.Test.YtmnibmgbicnamaaGreatDoorK2
import Derived.Test.YtmnibmgbicnamaaGreatDoorK1
import Derived.WalkSpells
namespace Go.Proofs.YtmnibmgbicnamaaGreatDoor
open Go.RowKit

/-- A link's three cells. -/
structure LCell (w : World) (lb o : Nat) (x : Lnk) : Prop where
  c0 : w.cell? ⟨lb, o, none⟩ = some (.string x.layer)
  c1 : w.cell? ⟨lb, o + 1, none⟩ = some (.int .i64 x.at_)
  c2 : w.cell? ⟨lb, o + 2, none⟩ = some (.int .i64 x.code)
theorem LCell.turned {S : Nat → Prop} {w w' : World} {lb o : Nat} {x : Lnk} (h : LCell w lb o x) (ht : Turned S w w') (hs : ¬ S lb) : LCell w' lb o x := ⟨ht.cell h.c0 hs, ht.cell h.c1 hs, ht.cell h.c2 hs⟩
theorem LCell.lt {w : World} {lb o : Nat} {x : Lnk} (h : LCell w lb o x) : lb < w.heap.size := World.block_lt_of_cell? w _ h.c0
theorem FCell.turned {S : Nat → Prop} {w w' : World} {pb : Nat} {ly : ByteArray} {a c : Int} {u : Value} (h : FCell w pb ly a c u) (ht : Turned S w w') (hs : ¬ S pb) : FCell w' pb ly a c u := ⟨ht.cell h.c0 hs, ht.cell h.c1 hs, ht.cell h.c2 hs, ht.cell h.c3 hs⟩

/-- A chain of at most two links, in blocks from B on. -/
def LinksC (B : Nat) (w : World) (v : Value) : List Lnk → Prop
  | [] => v = .slice none 0 0
  | [x] => ∃ lb cap, B ≤ lb ∧ v = .slice (some ⟨lb, 0, none⟩) 1 cap ∧ LCell w lb 0 x
  | [x, y] => ∃ lb cap, B ≤ lb ∧ v = .slice (some ⟨lb, 0, none⟩) 2 cap ∧ LCell w lb 0 x ∧ LCell w lb 3 y
  | _ => False
theorem LinksC.turned {B : Nat} {S : Nat → Prop} {w w' : World} {v : Value} : ∀ {ls : List Lnk}, LinksC B w v ls → Turned S w w' → (∀ k, B ≤ k → k < w.heap.size → ¬ S k) → LinksC B w' v ls
  | [], h, _, _ => h
  | [_], ⟨lb, cap, h1, h2, h3⟩, ht, hs => ⟨lb, cap, h1, h2, h3.turned ht (hs lb h1 h3.lt)⟩
  | [_, _], ⟨lb, cap, h1, h2, h3, h4⟩, ht, hs => ⟨lb, cap, h1, h2, h3.turned ht (hs lb h1 h3.lt), h4.turned ht (hs lb h1 h3.lt)⟩
  | _ :: _ :: _ :: _, h, _, _ => h.elim
theorem LinksC.below {B : Nat} {w w' : World} {v : Value} {ls : List Lnk} (h : LinksC B w v ls) (hb : Below w.heap.size w w') : LinksC B w' v ls := h.turned (Turned.ofBelow (S := fun _ => False) hb) (fun _ _ _ h => h)
theorem LinksC.mono {B C : Nat} {w : World} {v : Value} (hC : C ≤ B) : ∀ {ls : List Lnk}, LinksC B w v ls → LinksC C w v ls
  | [], h => h
  | [_], ⟨lb, cap, h1, h⟩ => ⟨lb, cap, by omega, h⟩
  | [_, _], ⟨lb, cap, h1, h⟩ => ⟨lb, cap, by omega, h⟩
  | _ :: _ :: _ :: _, h => h.elim

/-- A fault, or one with one under it, in blocks from B on. -/
def FaultC (B : Nat) (w : World) (v : Value) : List Lnk → Prop
  | [] => v = .nilIface
  | [x] => ∃ pb, B ≤ pb ∧ v = .iface 131 (.pointer (some ⟨pb, 0, none⟩)) ∧ FCell w pb x.layer x.at_ x.code .nilIface
  | [x, y] => ∃ pb qb, B ≤ pb ∧ B ≤ qb ∧ v = .iface 131 (.pointer (some ⟨pb, 0, none⟩)) ∧ FCell w pb x.layer x.at_ x.code (.iface 131 (.pointer (some ⟨qb, 0, none⟩))) ∧ FCell w qb y.layer y.at_ y.code .nilIface
  | _ => False
theorem FaultC.turned {B : Nat} {S : Nat → Prop} {w w' : World} {v : Value} : ∀ {ls : List Lnk}, FaultC B w v ls → Turned S w w' → (∀ k, B ≤ k → k < w.heap.size → ¬ S k) → FaultC B w' v ls
  | [], h, _, _ => h
  | [_], ⟨pb, h1, h2, h3⟩, ht, hs => ⟨pb, h1, h2, h3.turned ht (hs pb h1 h3.lt)⟩
  | [_, _], ⟨pb, qb, h1, h1', h2, h3, h4⟩, ht, hs => ⟨pb, qb, h1, h1', h2, h3.turned ht (hs pb h1 h3.lt), h4.turned ht (hs qb h1' h4.lt)⟩
  | _ :: _ :: _ :: _, h, _, _ => h.elim
theorem FaultC.below {B : Nat} {w w' : World} {v : Value} {ls : List Lnk} (h : FaultC B w v ls) (hb : Below w.heap.size w w') : FaultC B w' v ls := h.turned (Turned.ofBelow (S := fun _ => False) hb) (fun _ _ _ h => h)
theorem FaultC.mono {B C : Nat} {w : World} {v : Value} (hC : C ≤ B) : ∀ {ls : List Lnk}, FaultC B w v ls → FaultC C w v ls
  | [], h => h
  | [_], ⟨pb, h1, h⟩ => ⟨pb, by omega, h⟩
  | [_, _], ⟨pb, qb, h1, h2, h⟩ => ⟨pb, qb, by omega, by omega, h⟩
  | _ :: _ :: _ :: _, h => h.elim

/-- Refused of what both tell. -/
theorem refused_bothC {B B' : Nat} {w : World} {v l : Value} (her : Er w) : ∀ {ls : List Lnk}, FaultC B w v ls → LinksC B' w l ls →
    Calls Tryz.prog 11 #[v, l] w fun ev w' => ev = .returned (.bool true) ∧ Below w.heap.size w w'
  | [], he, hl => by
    have hv : v = .nilIface := he
    have hl' : l = .slice none 0 0 := hl
    subst hv hl'
    refine (refused_nil w none 0).mono ?_
    rintro ev w' ⟨rfl, rfl⟩
    exact ⟨rfl, Below.refl _ _⟩
  | [x], ⟨pb, _, hv, hf⟩, ⟨lb, cap, _, hl, hc⟩ => by
    subst hv hl
    exact refused_fault pb 0 lb cap _ _ _ w her hf.c0 hf.c1 hf.c2 hf.c3 hc.c0 hc.c1 hc.c2
  | [x, y], ⟨pb, qb, _, _, hv, hf, hq⟩, ⟨lb, cap, _, hl, hc, hd⟩ => by
    subst hv hl
    exact refused_fault2 pb qb lb cap _ _ _ _ _ _ w her hf hq hc.c0 hc.c1 hc.c2 hd.c0 hd.c1 hd.c2
  | _ :: _ :: _ :: _, h, _ => h.elim

theorem LinksC.ofNew (w : World) (x : Lnk) : LinksC w.heap.size (w.alloc (.cells #[.string x.layer, .int .i64 x.at_, .int .i64 x.code] 102)) (.slice (some ⟨w.heap.size, 0, none⟩) 1 1) [x] :=
  ⟨_, _, Nat.le_refl _, rfl, ⟨by simp, by simp, by simp⟩⟩
/-- The document's refusal of layer shake's own. -/
theorem sh_no (a c : Int) (w : World) : Calls Tryz.prog 34 #[.int .i64 a, .int .i64 c] w fun e w' => ∃ v, e = .returned v ∧ LinksC w.heap.size w' v (sh a c) ∧ Below w.heap.size w w' := by
  go_enter Tryz.func34, Tryz.ntmps34
  go_wp2_with (go_at_call 41; refine (one_any _ _ _ _).mono ?_; rintro e w1 ⟨rfl, rfl⟩)
  go_ret
  exact ⟨_, rfl, LinksC.ofNew w ⟨lyShake, a, c⟩, (Below.refl _ _).alloc (Nat.le_refl _) _⟩
theorem at_no (a c : Int) (w : World) : Calls Tryz.prog 70 #[.int .i64 a, .int .i64 c] w fun e w' => ∃ v, e = .returned v ∧ LinksC w.heap.size w' v [⟨lyAtom, a, c⟩] ∧ Below w.heap.size w w' := by
  go_enter Tryz.func70, Tryz.ntmps70
  go_wp2_with (go_at_call 41; refine (one_any _ _ _ _).mono ?_; rintro e w1 ⟨rfl, rfl⟩)
  go_ret
  exact ⟨_, rfl, LinksC.ofNew w ⟨lyAtom, a, c⟩, (Below.refl _ _).alloc (Nat.le_refl _) _⟩

theorem lcell_news {w : World} {lb : Nat} {y : Lnk} (h : LCell w lb 0 y) : ∀ j u, [Value.string y.layer, .int .i64 y.at_, .int .i64 y.code][j]? = some u → w.cell? ((⟨lb, 0, none⟩ : Addr).add j) = some u := by
  intro j u hu
  match j, hu with
  | 0, hu => simp at hu; subst hu; simpa [Addr.add] using h.c0
  | 1, hu => simp at hu; subst hu; simpa [Addr.add] using h.c1
  | 2, hu => simp at hu; subst hu; simpa [Addr.add] using h.c2
  | j + 3, hu => simp at hu

set_option maxRecDepth 100000 in
set_option maxHeartbeats 3200000 in
/-- A fault over a chain of one. -/
theorem over_any (ly : ByteArray) (a c : Int) (y : Lnk) {B : Nat} {w : World} {l : Value} (hl : LinksC B w l [y]) : Calls Tryz.prog 71 #[.string ly, .int .i64 a, .int .i64 c, l] w fun e w' => ∃ v, e = .returned v ∧ LinksC w.heap.size w' v [⟨ly, a, c⟩, y] ∧ Below w.heap.size w w' := by
  obtain ⟨i0, hi0, hz0, hz1, hz2⟩ := info_parts Tryz.infoLink
  obtain ⟨lb, cap, _, rfl, hc⟩ := hl
  have hlt := hc.lt
  go_enter Tryz.func71, Tryz.ntmps71
  go_wp2_with (first
    | (at_builtin; refine wpList_append_lies _ (by rfl) _ _ _ (by rfl) w.heap.size 102 i0 _ 3 32 Tryz.underlying32 hi0 hz0 hz1 hz2 rfl (by omega) (.slice none 0 0) 0 [] (by rfl) (World.ownsRow_nil _ _ _ _)
        ⟨w.heap.size, 0, none⟩ 1 1 [.string ly, .int .i64 a, .int .i64 c] (by rfl) (by rfl) (World.news_of_block (cs := #[.string ly, .int .i64 a, .int .i64 c]) (t := 102) (fr := (0, 0)) (heap_alloc_new w _)) (by simp [Value.oneCell'])
        (by omega) (by decide) (by decide) (by simp) (w.heap.size + 1) (by simp) ?_
       intro gg cap1 w1 hown1 hgrow1 hat1 hlt1
       have hgg : gg = w.heap.size + 1 := by simpa [Value.ownBlock] using hat1
       have hb1 : Below w.heap.size w w1 := ((Below.refl _ _).alloc (Nat.le_refl _) _).grown hgrow1 (by simp) (by simp [Value.ownBlock])
       have hc1 : LCell w1 lb 0 y := hc.turned (Turned.ofBelow (S := fun _ => False) hb1) (fun h => h)
       have HB1 : Hid (Below w.heap.size w w1) := hb1
       have hnw := lcell_news hc1
       have hgw : w.heap.size < gg := by omega
       clear hat1 hgrow1 hb1 hgg)
    | (at_builtin; refine wpList_append_lies _ (by rfl) _ _ _ (by rfl) w.heap.size 102 i0 _ 3 32 Tryz.underlying32 hi0 hz0 hz1 hz2 rfl (by omega) (.slice (some ⟨gg, 0, none⟩) 1 cap1) 1 [.string ly, .int .i64 a, .int .i64 c] (by rfl) hown1 ⟨lb, 0, none⟩ 1 cap [.string y.layer, .int .i64 y.at_, .int .i64 y.code] (by rfl) (by rfl) hnw (by simp [Value.oneCell']) (by omega) (by decide) (by decide) HB1.out.size _ rfl ?_; intro g2 cap2 w2 hown2 hgrow2 hat2 hlt2))
  go_ret
  have hcs := hown2.cells (g := g2) (by simp [Value.ownBlock])
  have hg2 : w.heap.size ≤ g2 := by
    rcases hat2 with h | h
    · simp [Value.ownBlock] at h; omega
    · have := HB1.out.size; omega
  refine ⟨_, rfl, ⟨g2, cap2, hg2, rfl, ⟨by simpa [Addr.add] using hcs 0 _ rfl, by simpa [Addr.add] using hcs 1 _ rfl, by simpa [Addr.add] using hcs 2 _ rfl⟩, ⟨by simpa [Addr.add] using hcs 3 _ rfl, by simpa [Addr.add] using hcs 4 _ rfl, by simpa [Addr.add] using hcs 5 _ rfl⟩⟩, ?_⟩
  exact HB1.out.grown hgrow2 HB1.out.size (by simp [Value.ownBlock]; omega)
end Go.Proofs.YtmnibmgbicnamaaGreatDoor
namespace Go.Proofs.YtmnibmgbicnamaaGreatDoor
open Go.RowKit

set_option maxRecDepth 100000 in
/-- The document's refusal over a chain of one: its number is that one's. -/
theorem sh_over (a : Int) (y : Lnk) {B : Nat} {w : World} {l : Value} (hl : LinksC B w l [y]) : Calls Tryz.prog 37 #[.int .i64 a, l] w fun e w' => ∃ v, e = .returned v ∧ LinksC w.heap.size w' v [⟨lyShake, a, y.code⟩, y] ∧ Below w.heap.size w w' := by
  have hov := over_any lyShake a y.code y hl
  obtain ⟨lb, cap, _, rfl, hc⟩ := hl
  have k2 := hc.c2
  simp only [Nat.zero_add] at k2
  clear hc
  unfold lyShake at hov ⊢
  go_enter Tryz.func37, Tryz.ntmps37
  go_wp2_with fail
  refine hov.mono ?_
  rintro e w1 ⟨v, rfl, h1, h2⟩
  go_wp2
  go_ret
  exact ⟨v, rfl, h1, h2⟩

set_option maxRecDepth 100000 in
theorem in_word (c : Int) (w : World) : Calls Tryz.prog 69 #[.int .u8 c] w fun e w' => e = .returned (.bool (inWordB c)) ∧ w = w' := by
  go_enter Tryz.func69, Tryz.ntmps69
  go_wp2
  all_goals go_ret
  all_goals
    refine ⟨congrArg Ending.returned (congrArg Value.bool ?_), rfl⟩
    rw [Bool.eq_iff_iff]
    simp [inWordB]
    try omega

theorem nodeScan_step (s : ByteArray) (i : Nat) (h : i < s.size) (a : Int) (g : Bool) : nodeScan ((nums s).drop i) i a g = if (s[i].toNat : Int) = 64 then nodeScan ((nums s).drop (i + 1)) (i + 1) i (g && decide (a < 0)) else nodeScan ((nums s).drop (i + 1)) (i + 1) a (g && (inWordB (s[i].toNat : Int) || decide ((s[i].toNat : Int) = 45) || (decide ((s[i].toNat : Int) = 46) && decide (0 ≤ a)))) := by
  have h' : i < (nums s).length := by rw [nums_length]; exact h
  rw [List.drop_eq_getElem_cons h', nums_get s i h h']
  rfl
theorem nodeScan_end (s : ByteArray) (a : Int) (g : Bool) : nodeScan ((nums s).drop s.size) s.size a g = (a, g) := by rw [List.drop_eq_nil_of_le (by rw [nums_length]; exact Nat.le_refl _)]; rfl

end Go.Proofs.YtmnibmgbicnamaaGreatDoor
namespace Go.Proofs.YtmnibmgbicnamaaGreatDoor
open Go.RowKit

set_option maxRecDepth 100000 in
set_option maxHeartbeats 6400000 in
theorem ref_node_in (s : ByteArray) (hs : s.size ≤ 4611686018427387904) (h3 : 3 ≤ s.size) (h64 : s.size ≤ 64) (ls : List Lnk) (HLS : Hid ((if nodeOk s = true then [] else [(⟨lyAtom, 0, 24⟩ : Lnk)]) = ls)) (p0 : Int × Bool) (HP0 : Hid (nodeOk s = (p0.2 && decide (1 ≤ p0.1) && decide (p0.1 ≠ (s.size : Int) - 1)))) (HS : Hid (p0 = nodeScan (nums s) 0 (-1) true)) (w : World) :
    Calls Tryz.prog 36 #[.string s] w fun e w' => ∃ x y v, e = .returned (.tuple #[x, y, v]) ∧ LinksC w.heap.size w' v ls ∧ Below w.heap.size w w' := by
  have i3 : (3 : Int) ≤ (s.size : Int) := by omega
  have i64 : (s.size : Int) ≤ 64 := by omega
  clear h3 h64
  go_enter Tryz.func36, Tryz.ntmps36
  go_wp2_with fail
  go_loopw [5, 6, 7] (fun aa gg ii wr => ∃ (j : Nat) (a : Int) (g : Bool), ii = .int .i64 j ∧ j ≤ s.size ∧ aa = .int .i64 a ∧ -1 ≤ a ∧ a < (j : Int) ∧ gg = .bool g ∧ p0 = nodeScan ((nums s).drop j) j a g ∧ w = wr) (fun _ _ ii _ => s.size - (intOf ii).toNat)
  case atStart => exact ⟨0, -1, true, rfl, Nat.zero_le _, rfl, by omega, by omega, rfl, HS.out, rfl⟩
  case round =>
    obtain ⟨j, a, g, rfl, hj, rfl, ha0, ha1, rfl, hp, rfl⟩ := hrel
    by_cases hlt : j < s.size
    · have hlti : (j : Int) < (s.size : Int) := by omega
      have hj0 : (0 : Int) ≤ (j : Int) := by omega
      rw [nodeScan_step s j hlt] at hp
      have hidx : ∀ W : World, (Instr.index 9 (.string s) (.int .i64 (j : Int))).run Tryz.prog W = .ok (.int .u8 (s[j].toNat : Int)) W := fun W => by
        rw [run_index_string W _ _ _ _ Tryz.underlying9, dif_pos ⟨hj0, hlti⟩]
        simp
      generalize (s[j].toNat : Int) = c at hidx hp
      by_cases h64 : c = 64
      · rw [if_pos h64] at hp
        subst h64
        cases g with
        | false =>
          have HP : Hid (p0 = nodeScan ((nums s).drop (j + 1)) (j + 1) j false) := hp
          clear hp
          go_wp2
          go_roundw
          case rel => exact ⟨j + 1, j, false, by go_num, by omega, rfl, by omega, by omega, rfl, HP.out, trivial⟩
          case measure => simp [intOf]; omega
        | true =>
          by_cases han : a < 0
          · have hx : p0 = nodeScan ((nums s).drop (j + 1)) (j + 1) j true := by rw [hp]; simp [han]
            have HP : Hid (p0 = nodeScan ((nums s).drop (j + 1)) (j + 1) j true) := hx
            clear hp hx
            go_wp2
            go_roundw
            case rel => exact ⟨j + 1, j, true, by go_num, by omega, rfl, by omega, by omega, rfl, HP.out, trivial⟩
            case measure => simp [intOf]; omega
          · have hx : p0 = nodeScan ((nums s).drop (j + 1)) (j + 1) j false := by rw [hp]; simp [han]
            have HP : Hid (p0 = nodeScan ((nums s).drop (j + 1)) (j + 1) j false) := hx
            have han' : 0 ≤ a := by omega
            clear hp hx
            go_wp2
            go_roundw
            case rel => exact ⟨j + 1, j, false, by go_num, by omega, rfl, by omega, by omega, rfl, HP.out, trivial⟩
            case measure => simp [intOf]; omega
      · rw [if_neg h64] at hp
        have hq : (c == 64) = false := by simp [h64]
        cases g with
        | false =>
          have HP : Hid (p0 = nodeScan ((nums s).drop (j + 1)) (j + 1) a false) := hp
          clear hp
          go_wp2
          go_roundw
          case rel => exact ⟨j + 1, a, false, by go_num, by omega, rfl, by omega, by omega, rfl, HP.out, trivial⟩
          case measure => simp [intOf]; omega
        | true =>
          have hin := in_word c w
          cases hb : inWordB c with
          | true =>
            rw [hb] at hin
            have hx : p0 = nodeScan ((nums s).drop (j + 1)) (j + 1) a true := by rw [hp]; simp [hb]
            have HP : Hid (p0 = nodeScan ((nums s).drop (j + 1)) (j + 1) a true) := hx
            clear hp hx
            go_wp2_with (go_at_call 69; refine hin.mono ?_; rintro e w1 ⟨rfl, rfl⟩)
            go_roundw
            case rel => exact ⟨j + 1, a, true, by go_num, by omega, rfl, by omega, by omega, rfl, HP.out, trivial⟩
            case measure => simp [intOf]; omega
          | false =>
            rw [hb] at hin
            by_cases h45 : c = 45
            · subst h45
              have hx : p0 = nodeScan ((nums s).drop (j + 1)) (j + 1) a true := by rw [hp]; simp [hb]
              have HP : Hid (p0 = nodeScan ((nums s).drop (j + 1)) (j + 1) a true) := hx
              clear hp hx
              go_wp2_with (go_at_call 69; refine hin.mono ?_; rintro e w1 ⟨rfl, rfl⟩)
              go_roundw
              case rel => exact ⟨j + 1, a, true, by go_num, by omega, rfl, by omega, by omega, rfl, HP.out, trivial⟩
              case measure => simp [intOf]; omega
            · have hq5 : (c == 45) = false := by simp [h45]
              by_cases h46 : c = 46
              · subst h46
                by_cases han : 0 ≤ a
                · skip
                  have hx : p0 = nodeScan ((nums s).drop (j + 1)) (j + 1) a true := by rw [hp]; simp [hb, han]
                  have HP : Hid (p0 = nodeScan ((nums s).drop (j + 1)) (j + 1) a true) := hx
                  clear hp hx
                  go_wp2_with (go_at_call 69; refine hin.mono ?_; rintro e w1 ⟨rfl, rfl⟩)
                  go_roundw
                  case rel => exact ⟨j + 1, a, true, by go_num, by omega, rfl, by omega, by omega, rfl, HP.out, trivial⟩
                  case measure => simp [intOf]; omega
                · have han' : decide (0 ≤ a) = false := by simp [han]
                  have hx : p0 = nodeScan ((nums s).drop (j + 1)) (j + 1) a false := by rw [hp]; simp [hb, han]
                  have HP : Hid (p0 = nodeScan ((nums s).drop (j + 1)) (j + 1) a false) := hx
                  clear hp hx
                  go_wp2_with (go_at_call 69; refine hin.mono ?_; rintro e w1 ⟨rfl, rfl⟩)
                  go_roundw
                  case rel => exact ⟨j + 1, a, false, by go_num, by omega, rfl, by omega, by omega, rfl, HP.out, trivial⟩
                  case measure => simp [intOf]; omega
              · have hq6 : (c == 46) = false := by simp [h46]
                have hx : p0 = nodeScan ((nums s).drop (j + 1)) (j + 1) a false := by rw [hp]; simp [hb, h45, h46]
                have HP : Hid (p0 = nodeScan ((nums s).drop (j + 1)) (j + 1) a false) := hx
                clear hp hx
                go_wp2_with (go_at_call 69; refine hin.mono ?_; rintro e w1 ⟨rfl, rfl⟩)
                go_roundw
                case rel => exact ⟨j + 1, a, false, by go_num, by omega, rfl, by omega, by omega, rfl, HP.out, trivial⟩
                case measure => simp [intOf]; omega
    · have hge : ¬ (j : Int) < (s.size : Int) := by omega
      obtain rfl : j = s.size := by omega
      rw [nodeScan_end] at hp
      subst hp
      have hok := HP0.out
      simp only at hok
      have bad : nodeOk s = false → [(⟨lyAtom, 0, 24⟩ : Lnk)] = ls := fun h => by have := HLS.out; rw [h] at this; exact this
      have good : nodeOk s = true → [] = ls := fun h => by have := HLS.out; rw [h] at this; exact this
      cases g with
      | false =>
        have hls := bad (by rw [hok]; simp)
        subst hls
        clear bad good hok
        go_wp2_with (go_at_call 70; refine (at_no _ _ _).mono ?_; rintro e w1 ⟨v, rfl, hf, hbw⟩)
        go_ret3
        exact ⟨_, _, v, rfl, hf, hbw⟩
      | true =>
        by_cases hl1 : a < 1
        · skip
          have hls := bad (by rw [hok]; simp; omega)
          subst hls
          clear bad good hok
          go_wp2_with (go_at_call 70; refine (at_no _ _ _).mono ?_; rintro e w1 ⟨v, rfl, hf, hbw⟩)
          go_ret3
          exact ⟨_, _, v, rfl, hf, hbw⟩
        · have hl1' : 1 ≤ a := by omega
          by_cases hl2 : a = (s.size : Int) - 1
          · have hq : (a == (s.size : Int) - 1) = true := by simp [hl2]
            have hls := bad (by rw [hok]; simp; omega)
            subst hls
            clear bad good hok
            go_wp2_with (go_at_call 70; refine (at_no _ _ _).mono ?_; rintro e w1 ⟨v, rfl, hf, hbw⟩)
            go_ret3
            exact ⟨_, _, v, rfl, hf, hbw⟩
          · have hq : (a == (s.size : Int) - 1) = false := by simp [hl2]
            have hls := good (by rw [hok]; simp; omega)
            subst hls
            clear bad good hok
            have b0 : (0 : Int) ≤ a := by omega
            have b1 : a + 1 ≤ (s.size : Int) := by omega
            have b2 : (0 : Int) ≤ a + 1 := by omega
            have b3 : a ≤ (s.size : Int) := by omega
            go_wp2
            go_region
            go_wp2
            go_ret3
            exact ⟨_, _, _, rfl, rfl, (Below.refl _ _).drew⟩

set_option maxRecDepth 100000 in
set_option maxHeartbeats 6400000 in
theorem ref_node_less (s : ByteArray) (hs : s.size ≤ 4611686018427387904) (h3 : s.size < 3) (ls : List Lnk) (HLS : Hid ((if nodeOk s = true then [] else [(⟨lyAtom, 0, 24⟩ : Lnk)]) = ls)) (p0 : Int × Bool) (HP0 : Hid (nodeOk s = (p0.2 && decide (1 ≤ p0.1) && decide (p0.1 ≠ (s.size : Int) - 1)))) (HS : Hid (p0 = nodeScan (nums s) 0 (-1) false)) (w : World) :
    Calls Tryz.prog 36 #[.string s] w fun e w' => ∃ x y v, e = .returned (.tuple #[x, y, v]) ∧ LinksC w.heap.size w' v ls ∧ Below w.heap.size w w' := by
  have i3 : ¬ (3 : Int) ≤ (s.size : Int) := by omega
  go_enter Tryz.func36, Tryz.ntmps36
  go_wp2_with fail
  go_loopw [5, 6, 7] (fun aa gg ii wr => ∃ (j : Nat) (a : Int) (g : Bool), ii = .int .i64 j ∧ j ≤ s.size ∧ aa = .int .i64 a ∧ -1 ≤ a ∧ a < (j : Int) ∧ gg = .bool g ∧ p0 = nodeScan ((nums s).drop j) j a g ∧ w = wr) (fun _ _ ii _ => s.size - (intOf ii).toNat)
  case atStart => exact ⟨0, -1, false, rfl, Nat.zero_le _, rfl, by omega, by omega, rfl, HS.out, rfl⟩
  case round =>
    obtain ⟨j, a, g, rfl, hj, rfl, ha0, ha1, rfl, hp, rfl⟩ := hrel
    by_cases hlt : j < s.size
    · have hlti : (j : Int) < (s.size : Int) := by omega
      have hj0 : (0 : Int) ≤ (j : Int) := by omega
      rw [nodeScan_step s j hlt] at hp
      have hidx : ∀ W : World, (Instr.index 9 (.string s) (.int .i64 (j : Int))).run Tryz.prog W = .ok (.int .u8 (s[j].toNat : Int)) W := fun W => by
        rw [run_index_string W _ _ _ _ Tryz.underlying9, dif_pos ⟨hj0, hlti⟩]
        simp
      generalize (s[j].toNat : Int) = c at hidx hp
      by_cases h64 : c = 64
      · rw [if_pos h64] at hp
        subst h64
        cases g with
        | false =>
          have HP : Hid (p0 = nodeScan ((nums s).drop (j + 1)) (j + 1) j false) := hp
          clear hp
          go_wp2
          go_roundw
          case rel => exact ⟨j + 1, j, false, by go_num, by omega, rfl, by omega, by omega, rfl, HP.out, trivial⟩
          case measure => simp [intOf]; omega
        | true =>
          by_cases han : a < 0
          · have hx : p0 = nodeScan ((nums s).drop (j + 1)) (j + 1) j true := by rw [hp]; simp [han]
            have HP : Hid (p0 = nodeScan ((nums s).drop (j + 1)) (j + 1) j true) := hx
            clear hp hx
            go_wp2
            go_roundw
            case rel => exact ⟨j + 1, j, true, by go_num, by omega, rfl, by omega, by omega, rfl, HP.out, trivial⟩
            case measure => simp [intOf]; omega
          · have hx : p0 = nodeScan ((nums s).drop (j + 1)) (j + 1) j false := by rw [hp]; simp [han]
            have HP : Hid (p0 = nodeScan ((nums s).drop (j + 1)) (j + 1) j false) := hx
            have han' : 0 ≤ a := by omega
            clear hp hx
            go_wp2
            go_roundw
            case rel => exact ⟨j + 1, j, false, by go_num, by omega, rfl, by omega, by omega, rfl, HP.out, trivial⟩
            case measure => simp [intOf]; omega
      · rw [if_neg h64] at hp
        have hq : (c == 64) = false := by simp [h64]
        cases g with
        | false =>
          have HP : Hid (p0 = nodeScan ((nums s).drop (j + 1)) (j + 1) a false) := hp
          clear hp
          go_wp2
          go_roundw
          case rel => exact ⟨j + 1, a, false, by go_num, by omega, rfl, by omega, by omega, rfl, HP.out, trivial⟩
          case measure => simp [intOf]; omega
        | true =>
          have hin := in_word c w
          cases hb : inWordB c with
          | true =>
            rw [hb] at hin
            have hx : p0 = nodeScan ((nums s).drop (j + 1)) (j + 1) a true := by rw [hp]; simp [hb]
            have HP : Hid (p0 = nodeScan ((nums s).drop (j + 1)) (j + 1) a true) := hx
            clear hp hx
            go_wp2_with (go_at_call 69; refine hin.mono ?_; rintro e w1 ⟨rfl, rfl⟩)
            go_roundw
            case rel => exact ⟨j + 1, a, true, by go_num, by omega, rfl, by omega, by omega, rfl, HP.out, trivial⟩
            case measure => simp [intOf]; omega
          | false =>
            rw [hb] at hin
            by_cases h45 : c = 45
            · subst h45
              have hx : p0 = nodeScan ((nums s).drop (j + 1)) (j + 1) a true := by rw [hp]; simp [hb]
              have HP : Hid (p0 = nodeScan ((nums s).drop (j + 1)) (j + 1) a true) := hx
              clear hp hx
              go_wp2_with (go_at_call 69; refine hin.mono ?_; rintro e w1 ⟨rfl, rfl⟩)
              go_roundw
              case rel => exact ⟨j + 1, a, true, by go_num, by omega, rfl, by omega, by omega, rfl, HP.out, trivial⟩
              case measure => simp [intOf]; omega
            · have hq5 : (c == 45) = false := by simp [h45]
              by_cases h46 : c = 46
              · subst h46
                by_cases han : 0 ≤ a
                · skip
                  have hx : p0 = nodeScan ((nums s).drop (j + 1)) (j + 1) a true := by rw [hp]; simp [hb, han]
                  have HP : Hid (p0 = nodeScan ((nums s).drop (j + 1)) (j + 1) a true) := hx
                  clear hp hx
                  go_wp2_with (go_at_call 69; refine hin.mono ?_; rintro e w1 ⟨rfl, rfl⟩)
                  go_roundw
                  case rel => exact ⟨j + 1, a, true, by go_num, by omega, rfl, by omega, by omega, rfl, HP.out, trivial⟩
                  case measure => simp [intOf]; omega
                · have han' : decide (0 ≤ a) = false := by simp [han]
                  have hx : p0 = nodeScan ((nums s).drop (j + 1)) (j + 1) a false := by rw [hp]; simp [hb, han]
                  have HP : Hid (p0 = nodeScan ((nums s).drop (j + 1)) (j + 1) a false) := hx
                  clear hp hx
                  go_wp2_with (go_at_call 69; refine hin.mono ?_; rintro e w1 ⟨rfl, rfl⟩)
                  go_roundw
                  case rel => exact ⟨j + 1, a, false, by go_num, by omega, rfl, by omega, by omega, rfl, HP.out, trivial⟩
                  case measure => simp [intOf]; omega
              · have hq6 : (c == 46) = false := by simp [h46]
                have hx : p0 = nodeScan ((nums s).drop (j + 1)) (j + 1) a false := by rw [hp]; simp [hb, h45, h46]
                have HP : Hid (p0 = nodeScan ((nums s).drop (j + 1)) (j + 1) a false) := hx
                clear hp hx
                go_wp2_with (go_at_call 69; refine hin.mono ?_; rintro e w1 ⟨rfl, rfl⟩)
                go_roundw
                case rel => exact ⟨j + 1, a, false, by go_num, by omega, rfl, by omega, by omega, rfl, HP.out, trivial⟩
                case measure => simp [intOf]; omega
    · have hge : ¬ (j : Int) < (s.size : Int) := by omega
      obtain rfl : j = s.size := by omega
      rw [nodeScan_end] at hp
      subst hp
      have hok := HP0.out
      simp only at hok
      have bad : nodeOk s = false → [(⟨lyAtom, 0, 24⟩ : Lnk)] = ls := fun h => by have := HLS.out; rw [h] at this; exact this
      have good : nodeOk s = true → [] = ls := fun h => by have := HLS.out; rw [h] at this; exact this
      cases g with
      | false =>
        have hls := bad (by rw [hok]; simp)
        subst hls
        clear bad good hok
        go_wp2_with (go_at_call 70; refine (at_no _ _ _).mono ?_; rintro e w1 ⟨v, rfl, hf, hbw⟩)
        go_ret3
        exact ⟨_, _, v, rfl, hf, hbw⟩
      | true =>
        by_cases hl1 : a < 1
        · skip
          have hls := bad (by rw [hok]; simp; omega)
          subst hls
          clear bad good hok
          go_wp2_with (go_at_call 70; refine (at_no _ _ _).mono ?_; rintro e w1 ⟨v, rfl, hf, hbw⟩)
          go_ret3
          exact ⟨_, _, v, rfl, hf, hbw⟩
        · have hl1' : 1 ≤ a := by omega
          by_cases hl2 : a = (s.size : Int) - 1
          · have hq : (a == (s.size : Int) - 1) = true := by simp [hl2]
            have hls := bad (by rw [hok]; simp; omega)
            subst hls
            clear bad good hok
            go_wp2_with (go_at_call 70; refine (at_no _ _ _).mono ?_; rintro e w1 ⟨v, rfl, hf, hbw⟩)
            go_ret3
            exact ⟨_, _, v, rfl, hf, hbw⟩
          · have hq : (a == (s.size : Int) - 1) = false := by simp [hl2]
            have hls := good (by rw [hok]; simp; omega)
            subst hls
            clear bad good hok
            have b0 : (0 : Int) ≤ a := by omega
            have b1 : a + 1 ≤ (s.size : Int) := by omega
            have b2 : (0 : Int) ≤ a + 1 := by omega
            have b3 : a ≤ (s.size : Int) := by omega
            go_wp2
            go_region
            go_wp2
            go_ret3
            exact ⟨_, _, _, rfl, rfl, (Below.refl _ _).drew⟩

set_option maxRecDepth 100000 in
set_option maxHeartbeats 6400000 in
theorem ref_node_more (s : ByteArray) (hs : s.size ≤ 4611686018427387904) (h3 : 64 < s.size) (ls : List Lnk) (HLS : Hid ((if nodeOk s = true then [] else [(⟨lyAtom, 0, 24⟩ : Lnk)]) = ls)) (p0 : Int × Bool) (HP0 : Hid (nodeOk s = (p0.2 && decide (1 ≤ p0.1) && decide (p0.1 ≠ (s.size : Int) - 1)))) (HS : Hid (p0 = nodeScan (nums s) 0 (-1) false)) (w : World) :
    Calls Tryz.prog 36 #[.string s] w fun e w' => ∃ x y v, e = .returned (.tuple #[x, y, v]) ∧ LinksC w.heap.size w' v ls ∧ Below w.heap.size w w' := by
  have i3 : (3 : Int) ≤ (s.size : Int) := by omega
  have i64 : ¬ (s.size : Int) ≤ 64 := by omega
  go_enter Tryz.func36, Tryz.ntmps36
  go_wp2_with fail
  go_loopw [5, 6, 7] (fun aa gg ii wr => ∃ (j : Nat) (a : Int) (g : Bool), ii = .int .i64 j ∧ j ≤ s.size ∧ aa = .int .i64 a ∧ -1 ≤ a ∧ a < (j : Int) ∧ gg = .bool g ∧ p0 = nodeScan ((nums s).drop j) j a g ∧ w = wr) (fun _ _ ii _ => s.size - (intOf ii).toNat)
  case atStart => exact ⟨0, -1, false, rfl, Nat.zero_le _, rfl, by omega, by omega, rfl, HS.out, rfl⟩
  case round =>
    obtain ⟨j, a, g, rfl, hj, rfl, ha0, ha1, rfl, hp, rfl⟩ := hrel
    by_cases hlt : j < s.size
    · have hlti : (j : Int) < (s.size : Int) := by omega
      have hj0 : (0 : Int) ≤ (j : Int) := by omega
      rw [nodeScan_step s j hlt] at hp
      have hidx : ∀ W : World, (Instr.index 9 (.string s) (.int .i64 (j : Int))).run Tryz.prog W = .ok (.int .u8 (s[j].toNat : Int)) W := fun W => by
        rw [run_index_string W _ _ _ _ Tryz.underlying9, dif_pos ⟨hj0, hlti⟩]
        simp
      generalize (s[j].toNat : Int) = c at hidx hp
      by_cases h64 : c = 64
      · rw [if_pos h64] at hp
        subst h64
        cases g with
        | false =>
          have HP : Hid (p0 = nodeScan ((nums s).drop (j + 1)) (j + 1) j false) := hp
          clear hp
          go_wp2
          go_roundw
          case rel => exact ⟨j + 1, j, false, by go_num, by omega, rfl, by omega, by omega, rfl, HP.out, trivial⟩
          case measure => simp [intOf]; omega
        | true =>
          by_cases han : a < 0
          · have hx : p0 = nodeScan ((nums s).drop (j + 1)) (j + 1) j true := by rw [hp]; simp [han]
            have HP : Hid (p0 = nodeScan ((nums s).drop (j + 1)) (j + 1) j true) := hx
            clear hp hx
            go_wp2
            go_roundw
            case rel => exact ⟨j + 1, j, true, by go_num, by omega, rfl, by omega, by omega, rfl, HP.out, trivial⟩
            case measure => simp [intOf]; omega
          · have hx : p0 = nodeScan ((nums s).drop (j + 1)) (j + 1) j false := by rw [hp]; simp [han]
            have HP : Hid (p0 = nodeScan ((nums s).drop (j + 1)) (j + 1) j false) := hx
            have han' : 0 ≤ a := by omega
            clear hp hx
            go_wp2
            go_roundw
            case rel => exact ⟨j + 1, j, false, by go_num, by omega, rfl, by omega, by omega, rfl, HP.out, trivial⟩
            case measure => simp [intOf]; omega
      · rw [if_neg h64] at hp
        have hq : (c == 64) = false := by simp [h64]
        cases g with
        | false =>
          have HP : Hid (p0 = nodeScan ((nums s).drop (j + 1)) (j + 1) a false) := hp
          clear hp
          go_wp2
          go_roundw
          case rel => exact ⟨j + 1, a, false, by go_num, by omega, rfl, by omega, by omega, rfl, HP.out, trivial⟩
          case measure => simp [intOf]; omega
        | true =>
          have hin := in_word c w
          cases hb : inWordB c with
          | true =>
            rw [hb] at hin
            have hx : p0 = nodeScan ((nums s).drop (j + 1)) (j + 1) a true := by rw [hp]; simp [hb]
            have HP : Hid (p0 = nodeScan ((nums s).drop (j + 1)) (j + 1) a true) := hx
            clear hp hx
            go_wp2_with (go_at_call 69; refine hin.mono ?_; rintro e w1 ⟨rfl, rfl⟩)
            go_roundw
            case rel => exact ⟨j + 1, a, true, by go_num, by omega, rfl, by omega, by omega, rfl, HP.out, trivial⟩
            case measure => simp [intOf]; omega
          | false =>
            rw [hb] at hin
            by_cases h45 : c = 45
            · subst h45
              have hx : p0 = nodeScan ((nums s).drop (j + 1)) (j + 1) a true := by rw [hp]; simp [hb]
              have HP : Hid (p0 = nodeScan ((nums s).drop (j + 1)) (j + 1) a true) := hx
              clear hp hx
              go_wp2_with (go_at_call 69; refine hin.mono ?_; rintro e w1 ⟨rfl, rfl⟩)
              go_roundw
              case rel => exact ⟨j + 1, a, true, by go_num, by omega, rfl, by omega, by omega, rfl, HP.out, trivial⟩
              case measure => simp [intOf]; omega
            · have hq5 : (c == 45) = false := by simp [h45]
              by_cases h46 : c = 46
              · subst h46
                by_cases han : 0 ≤ a
                · skip
                  have hx : p0 = nodeScan ((nums s).drop (j + 1)) (j + 1) a true := by rw [hp]; simp [hb, han]
                  have HP : Hid (p0 = nodeScan ((nums s).drop (j + 1)) (j + 1) a true) := hx
                  clear hp hx
                  go_wp2_with (go_at_call 69; refine hin.mono ?_; rintro e w1 ⟨rfl, rfl⟩)
                  go_roundw
                  case rel => exact ⟨j + 1, a, true, by go_num, by omega, rfl, by omega, by omega, rfl, HP.out, trivial⟩
                  case measure => simp [intOf]; omega
                · have han' : decide (0 ≤ a) = false := by simp [han]
                  have hx : p0 = nodeScan ((nums s).drop (j + 1)) (j + 1) a false := by rw [hp]; simp [hb, han]
                  have HP : Hid (p0 = nodeScan ((nums s).drop (j + 1)) (j + 1) a false) := hx
                  clear hp hx
                  go_wp2_with (go_at_call 69; refine hin.mono ?_; rintro e w1 ⟨rfl, rfl⟩)
                  go_roundw
                  case rel => exact ⟨j + 1, a, false, by go_num, by omega, rfl, by omega, by omega, rfl, HP.out, trivial⟩
                  case measure => simp [intOf]; omega
              · have hq6 : (c == 46) = false := by simp [h46]
                have hx : p0 = nodeScan ((nums s).drop (j + 1)) (j + 1) a false := by rw [hp]; simp [hb, h45, h46]
                have HP : Hid (p0 = nodeScan ((nums s).drop (j + 1)) (j + 1) a false) := hx
                clear hp hx
                go_wp2_with (go_at_call 69; refine hin.mono ?_; rintro e w1 ⟨rfl, rfl⟩)
                go_roundw
                case rel => exact ⟨j + 1, a, false, by go_num, by omega, rfl, by omega, by omega, rfl, HP.out, trivial⟩
                case measure => simp [intOf]; omega
    · have hge : ¬ (j : Int) < (s.size : Int) := by omega
      obtain rfl : j = s.size := by omega
      rw [nodeScan_end] at hp
      subst hp
      have hok := HP0.out
      simp only at hok
      have bad : nodeOk s = false → [(⟨lyAtom, 0, 24⟩ : Lnk)] = ls := fun h => by have := HLS.out; rw [h] at this; exact this
      have good : nodeOk s = true → [] = ls := fun h => by have := HLS.out; rw [h] at this; exact this
      cases g with
      | false =>
        have hls := bad (by rw [hok]; simp)
        subst hls
        clear bad good hok
        go_wp2_with (go_at_call 70; refine (at_no _ _ _).mono ?_; rintro e w1 ⟨v, rfl, hf, hbw⟩)
        go_ret3
        exact ⟨_, _, v, rfl, hf, hbw⟩
      | true =>
        by_cases hl1 : a < 1
        · skip
          have hls := bad (by rw [hok]; simp; omega)
          subst hls
          clear bad good hok
          go_wp2_with (go_at_call 70; refine (at_no _ _ _).mono ?_; rintro e w1 ⟨v, rfl, hf, hbw⟩)
          go_ret3
          exact ⟨_, _, v, rfl, hf, hbw⟩
        · have hl1' : 1 ≤ a := by omega
          by_cases hl2 : a = (s.size : Int) - 1
          · have hq : (a == (s.size : Int) - 1) = true := by simp [hl2]
            have hls := bad (by rw [hok]; simp; omega)
            subst hls
            clear bad good hok
            go_wp2_with (go_at_call 70; refine (at_no _ _ _).mono ?_; rintro e w1 ⟨v, rfl, hf, hbw⟩)
            go_ret3
            exact ⟨_, _, v, rfl, hf, hbw⟩
          · have hq : (a == (s.size : Int) - 1) = false := by simp [hl2]
            have hls := good (by rw [hok]; simp; omega)
            subst hls
            clear bad good hok
            have b0 : (0 : Int) ≤ a := by omega
            have b1 : a + 1 ≤ (s.size : Int) := by omega
            have b2 : (0 : Int) ≤ a + 1 := by omega
            have b3 : a ≤ (s.size : Int) := by omega
            go_wp2
            go_region
            go_wp2
            go_ret3
            exact ⟨_, _, _, rfl, rfl, (Below.refl _ _).drew⟩

/-- The document's Node: whether it is a name. -/
theorem ref_node (s : ByteArray) (hs : s.size ≤ 4611686018427387904) (w : World) : Calls Tryz.prog 36 #[.string s] w fun e w' => ∃ x y v, e = .returned (.tuple #[x, y, v]) ∧ LinksC w.heap.size w' v (if nodeOk s = true then [] else [⟨lyAtom, 0, 24⟩]) ∧ Below w.heap.size w w' := by
  by_cases h3 : 3 ≤ s.size
  · by_cases h64 : s.size ≤ 64
    · have e : (decide (3 ≤ s.size) && decide (s.size ≤ 64)) = true := by simp [h3, h64]
      exact ref_node_in s hs h3 h64 _ rfl (nodeScan (nums s) 0 (-1) true) (by unfold nodeOk; rw [e]; rfl) rfl w
    · have e : (decide (3 ≤ s.size) && decide (s.size ≤ 64)) = false := by simp [h64]
      exact ref_node_more s hs (by omega) _ rfl (nodeScan (nums s) 0 (-1) false) (by unfold nodeOk; rw [e]; rfl) rfl w
  · have e : (decide (3 ≤ s.size) && decide (s.size ≤ 64)) = false := by simp [h3]
    exact ref_node_less s hs (by omega) _ rfl (nodeScan (nums s) 0 (-1) false) (by unfold nodeOk; rw [e]; rfl) rfl w
end Go.Proofs.YtmnibmgbicnamaaGreatDoor
namespace Go.Proofs.YtmnibmgbicnamaaGreatDoor
open Go.RowKit

theorem eq_bytes (s t : ByteArray) : s = t ↔ s.toList = t.data.toList := by
  constructor
  · rintro rfl; exact ByteArray.toList_eq s
  · intro h
    rw [ByteArray.toList_eq] at h
    apply ByteArray.ext
    exact Array.toList_inj.1 h
theorem eq_stOk (s : ByteArray) : s = stOk ↔ s.toList = [111, 107] := eq_bytes s stOk
theorem eq_stSim (s : ByteArray) : s = stSim ↔ s.toList = [111, 107, 95, 115, 105, 109, 117, 108, 116, 97, 110, 101, 111, 117, 115] := eq_bytes s stSim
theorem eq_stNok (s : ByteArray) : s = stNok ↔ s.toList = [110, 111, 107] := eq_bytes s stNok
theorem eq_stNot (s : ByteArray) : s = stNot ↔ s.toList = [110, 111, 116, 95, 97, 108, 108, 111, 119, 101, 100] := eq_bytes s stNot
theorem eq_stAlive (s : ByteArray) : s = stAlive ↔ s.toList = [97, 108, 105, 118, 101] := eq_bytes s stAlive
set_option maxRecDepth 100000 in
theorem ref_letter (k : Int) (hk : 1 ≤ k ∧ k ≤ 5) (w : World) : Calls Tryz.prog 44 #[.int .i64 k] w fun e w' => e = .returned (.int .u8 (letterOf k)) ∧ w = w' := by
  have h5 : k = 1 ∨ k = 2 ∨ k = 3 ∨ k = 4 ∨ k = 5 := by omega
  rcases h5 with rfl | rfl | rfl | rfl | rfl
  all_goals
    go_enter Tryz.func44, Tryz.ntmps44
    go_wp2
    go_ret
    exact ⟨rfl, rfl⟩
set_option maxRecDepth 100000 in
theorem ref_lacks (f : Int) (w : World) : Calls Tryz.prog 53 #[.int .u64 f] w fun e w' => e = .returned (.bool (lacksB f)) ∧ w = w' := by
  go_enter Tryz.func53, Tryz.ntmps53
  go_wp2
  go_ret
  refine ⟨congrArg Ending.returned (congrArg Value.bool ?_), rfl⟩
  unfold lacksB flagsNeeded
  by_cases h : bits .and .u64 f 4345626892 = 4345626892 <;> simp [h]
set_option maxRecDepth 100000 in
theorem ref_status (s : ByteArray) (w : World) : Calls Tryz.prog 45 #[.string s] w fun e w' => e = .returned (.bool (isSt s)) ∧ w = w' := by
  go_enter Tryz.func45, Tryz.ntmps45
  go_wp2
  all_goals go_ret
  all_goals
    refine ⟨congrArg Ending.returned (congrArg Value.bool ?_), rfl⟩
    rw [Bool.eq_iff_iff]
    simp only [isSt, Bool.or_eq_true, decide_eq_true_eq, eq_stOk, eq_stSim, eq_stNok, eq_stNot, eq_stAlive]
    simp [*]
end Go.Proofs.YtmnibmgbicnamaaGreatDoor
namespace Go.Proofs.YtmnibmgbicnamaaGreatDoor
open Go.RowKit

theorem Sl.four (w : World) (t : TypeId) (a b c d : Int) : Own (w.alloc (.cells #[.int .u8 a, .int .u8 b, .int .u8 c, .int .u8 d] t)) (.slice (some ⟨w.heap.size, 0, none⟩) 4 4) [a, b, c, d] := by
  refine .inr ⟨w.heap.size, 0, 4, rfl, Nat.le_refl _, by decide, by simp, fun j hj => ?_, fun j hj => ?_⟩
  · have : j = 0 ∨ j = 1 ∨ j = 2 ∨ j = 3 := by simp at hj; omega
    rcases this with rfl | rfl | rfl | rfl <;> simp
  · have : j = 0 ∨ j = 1 ∨ j = 2 ∨ j = 3 := by omega
    rcases this with rfl | rfl | rfl | rfl <;> exact ⟨by simp, by simp⟩
theorem four_told {w w1 : World} {o : Obj} {V v1 : Value} {zs : List Int} (ho1 : Own w1 v1 zs) (ht1 : Turned (blk V) (w.alloc o) w1) (hb1 : ∀ k, blk v1 k → blk V k ∨ k = (w.alloc o).heap.size) : Own w1 v1 zs ∧ Turned (blk V) w w1 ∧ ∀ k, blk v1 k → blk V k ∨ w.heap.size ≤ k :=
  ⟨ho1, ((alloc0m w o).mono (fun _ h => h.elim)).trans ht1 (fun _ h => .inl h), fun k hk => (hb1 k hk).imp id (fun h => by simp at h; omega)⟩
set_option maxRecDepth 100000 in
set_option maxHeartbeats 1600000 in
theorem ref_four (n : Int) {w : World} {V : Value} {zs : List Int} (hl : zs.length ≤ 1000) (ho : Own w V zs) : Calls Tryz.prog 35 #[V, .int .u32 n] w fun e w' => ∃ V', e = .returned V' ∧ Own w' V' (zs ++ be4 n) ∧ Turned (blk V) w w' ∧ ∀ k, blk V' k → blk V k ∨ w.heap.size ≤ k := by
  have HA := fun o : Obj => ho.turned (alloc0m w o) (fun _ _ h => h)
  have hlen : zs.length + 4 ≤ 70368744177664 := by omega
  obtain ⟨ao, co, Lo, rfl⟩ : ∃ a c L, V = .slice a L c := ⟨_, _, _, ho.sl.form.choose_spec.choose_spec.1⟩
  clear ho hl
  go_enter Tryz.func35, Tryz.ntmps35
  go_wp2_with (at_builtin; refine wpList_append_bytes (by rfl) (.tmp 5) (.tmp 17) (by rfl) Tryz.bytes (by rfl) (by rfl) (HA _) (Sl.four w _ _ _ _ _).sl hlen ?_; intro v1 w1 ho1 ht1 hb1; have HN := Hid.mk7 (four_told ho1 ht1 hb1); clear ho1 ht1 hb1)
  go_ret
  exact ⟨_, rfl, HN.out⟩
end Go.Proofs.YtmnibmgbicnamaaGreatDoor
namespace Go.Proofs.YtmnibmgbicnamaaGreatDoor
open Go.RowKit

theorem numAt_step (b : List Int) (i k : Nat) (h : i + k < b.length) : numAt b i (k + 1) = numAt b i k * 256 + b[i + k] := by
  unfold numAt
  rw [List.take_add_one, List.getElem?_drop, List.getElem?_eq_getElem h, Option.toList_some, List.foldl_append]
  rfl
theorem numAt_rng (b : List Int) (hr : ∀ z ∈ b, 0 ≤ z ∧ z < 256) (i : Nat) : ∀ k, i + k ≤ b.length → 0 ≤ numAt b i k ∧ numAt b i k < (256 ^ k : Nat)
  | 0, _ => by simp [numAt]
  | k + 1, h => by
    have ih := numAt_rng b hr i k (by omega)
    have hz := hr b[i + k] (List.getElem_mem (by omega))
    rw [numAt_step b i k (by omega)]
    generalize numAt b i k = v at ih
    rw [Nat.pow_succ]
    generalize 256 ^ k = p at ih
    omega
theorem or_join (v c : Int) (hv : 0 ≤ v ∧ v < 72057594037927936) (hc : 0 ≤ c ∧ c < 256) : bits .or .u64 (v * 256) c = v * 256 + c := by
  obtain ⟨m, rfl⟩ : ∃ m : Nat, v = (m : Int) := ⟨v.toNat, by omega⟩
  obtain ⟨k, rfl⟩ : ∃ k : Nat, c = (k : Int) := ⟨c.toNat, by omega⟩
  have h := nat_join 8 (m * 256) k (by simp) (by omega)
  rw [show (m : Int) * 256 = ((m * 256 : Nat) : Int) by omega, u64_or_nat _ _ (by omega) (by omega), h]
  omega
theorem pow256 (j n : Nat) (hn : n ≤ 8) (h : j < n) : 256 ^ j ≤ 72057594037927936 := by
  have h7 : j ≤ 7 := by omega
  have : 256 ^ j ≤ 256 ^ 7 := Nat.pow_le_pow_right (by omega) h7
  omega

set_option maxRecDepth 100000 in
set_option maxHeartbeats 1600000 in
theorem ref_num {w : World} {B : Value} {b : List Int} (hB : Sl w B b) (hr : ∀ z ∈ b, 0 ≤ z ∧ z < 256) (i n : Nat) (hn : n ≤ 8) (hn1 : 1 ≤ n) (hl : i + n ≤ b.length) (hb : b.length ≤ 140737488355328) : Calls Tryz.prog 46 #[B, .int .i64 i, .int .i64 n] w fun e w' => e = .returned (.int .u64 (numAt b i n)) ∧ w = w' := by
  generalize hm : numAt b i n = m
  have HM : Hid (numAt b i n = m) := hm
  clear hm
  rcases hB with ⟨rfl, rfl⟩ | ⟨a, rfl, rfl⟩ | ⟨g, off, cap, rfl, h2, h3, h4⟩
  · simp at hl; omega
  · simp at hl; omega
  · have H4 : Hid (∀ j (h : j < b.length), w.cell? ⟨g, off + j, none⟩ = some (.int .u8 b[j])) := h4
    have HR : Hid (∀ z ∈ b, 0 ≤ z ∧ z < 256) := hr
    clear h4 hr
    go_enter Tryz.func46, Tryz.ntmps46
    go_wp2_with fail
    go_loopw [7, 8] (fun vv ii wr => ∃ j : Nat, ii = .int .i64 j ∧ j ≤ n ∧ vv = .int .u64 (numAt b i j) ∧ w = wr) (fun _ ii _ => n - (intOf ii).toNat)
    case atStart => exact ⟨0, rfl, Nat.zero_le _, rfl, rfl⟩
    case round =>
      obtain ⟨j, rfl, hj, rfl, rfl⟩ := hrel
      by_cases hlt : j < n
      · have hlti : (j : Int) < (n : Int) := by omega
        have hx := H4.out (i + j) (by omega)
        have hst := numAt_step b i j (by omega)
        have hv := numAt_rng b HR.out i j (by omega)
        have hp := pow256 j n hn hlt
        have hc := HR.out b[i + j] (List.getElem_mem (by omega))
        generalize b[i + j] = c at hx hst hc
        have HST : Hid (numAt b i (j + 1) = numAt b i j * 256 + c) := hst
        have hv1 : 0 ≤ numAt b i j ∧ numAt b i j < 72057594037927936 := by omega
        have hor := or_join (numAt b i j) c hv1 hc
        have hbd : (i : Int) + (j : Int) < (b.length : Int) := by omega
        have hbd0 : (0 : Int) ≤ (i : Int) + (j : Int) := by omega
        clear hst hv hp
        generalize numAt b i j = v at hv1 hor HST
        obtain ⟨v0, v1⟩ := hv1
        go_wp2
        go_roundw
        case rel => exact ⟨j + 1, by go_num, by omega, by rw [HST.out], trivial⟩
        case measure => simp [intOf]; omega
      · have hge : ¬ (j : Int) < (n : Int) := by omega
        obtain rfl : j = n := by omega
        rw [HM.out]
        go_wp2
        go_ret
        exact ⟨rfl, rfl⟩
end Go.Proofs.YtmnibmgbicnamaaGreatDoor
namespace Go.Proofs.YtmnibmgbicnamaaGreatDoor
open Go.RowKit

theorem Tryz.neqLinks (a : Option Addr) (l c : Nat) (W : World) : (binOp .neq 32 (.slice a l c) (.slice none 0 0)).run Tryz.prog W = .ok (.bool (!a.isNone)) W := run_neq_slice_nil_any W _ _ a l c 0 0 Tryz.underlying32
theorem Tryz.eqlLinks (a : Option Addr) (l c : Nat) (W : World) : (binOp .eql 32 (.slice a l c) (.slice none 0 0)).run Tryz.prog W = .ok (.bool a.isNone) W := Lib.run_eql_slice_nil W _ _ a l c 0 0 Tryz.underlying32
end Go.Proofs.YtmnibmgbicnamaaGreatDoor
