/-
  Layer 11 (parse): the program's limit, where it refuses nothing.
-/
import Derived.Test.YtipdmmncgenppaaGreatDoorPU
namespace Go.Proofs.YtipdmmncgenppaaGreatDoor
open Go.RowKit

/-- The highest of some heights. -/
def highest (h : List Int) : List Int → Int → Int
  | [], x => x
  | k :: ks, x => highest h ks (max x ((h[k.toNat]?).getD 0))
/-- The heights of nodes, in their order. -/
def heightsS (kids : Nat → List Int) : List Int → List Int → List Int
  | [], h => h
  | i :: r, h => heightsS kids r (h.set i.toNat (highest h (kids i.toNat) 0 + 1))
theorem heightsS_length (kids : Nat → List Int) : ∀ (l h : List Int), (heightsS kids l h).length = h.length
  | [], _ => rfl
  | i :: r, h => by rw [heightsS, heightsS_length kids r]; simp
/-- Heights in a block of one's own. -/
structure HtAt (w : World) (g : Nat) (h : List Int) : Prop where
  lt : g < w.heap.size
  c : ∀ j (hj : j < h.length), w.cell? ⟨g, j, none⟩ = some (.int .i64 h[j]) ∧ w.frozen? ⟨g, j, none⟩ = false
theorem HtAt.set {w : World} {g : Nat} {h : List Int} (hh : HtAt w g h) (k : Nat) (hk : k < h.length) (x : Int) : HtAt (w.setCell ⟨g, k, none⟩ (.int .i64 x)) g (h.set k x) := by
  refine ⟨by simp [World.setCell]; exact hh.lt, fun j hj => ⟨?_, by rw [World.frozen?_setCell]; exact (hh.c j (by simpa using hj)).2⟩⟩
  have hj' : j < h.length := by simpa using hj
  by_cases hkj : k = j
  · subst hkj
    rw [World.cell?_setCell_same _ _ _ (hh.c k hk).1]
    simp
  · rw [World.cell?_setCell_other _ _ _ _ (by simp; try omega), (hh.c j hj').1]
    simp [List.getElem_set_ne hkj]
theorem HtAt.new {w : World} {g n : Nat} (h : Block w g n (fun _ => .int .i64 0)) (hl : g < w.heap.size) : HtAt w g (List.replicate n 0) := ⟨hl, fun j hj => by
  have := h j (by simpa using hj)
  simpa using this⟩
theorem highest_bounds (h : List Int) (B : Int) (hB : ∀ x ∈ h, 0 ≤ x ∧ x ≤ B) (hB0 : 0 ≤ B) : ∀ (l : List Int) (x : Int), 0 ≤ x → x ≤ B → 0 ≤ highest h l x ∧ highest h l x ≤ B
  | [], x, h0, h1 => ⟨h0, h1⟩
  | k :: ks, x, h0, h1 => by
    have hg : 0 ≤ (h[k.toNat]?).getD 0 ∧ (h[k.toNat]?).getD 0 ≤ B := by
      cases e : h[k.toNat]? with
      | none => simp; omega
      | some y => simp; exact hB y (List.mem_of_getElem? e)
    rw [highest]
    exact highest_bounds h B hB hB0 ks _ (by omega) (by omega)
theorem highest_drop (h l : List Int) (j : Nat) (hj : j < l.length) (x : Int) : highest h (l.drop j) x = highest h (l.drop (j + 1)) (max x ((h[l[j].toNat]?).getD 0)) := by
  rw [List.drop_eq_getElem_cons hj, highest]
theorem heightsS_drop (kids : Nat → List Int) (l : List Int) (j : Nat) (hj : j < l.length) (h : List Int) : heightsS kids (l.drop j) h = heightsS kids (l.drop (j + 1)) (h.set l[j].toNat (highest h (kids l[j].toNat) 0 + 1)) := by
  rw [List.drop_eq_getElem_cons hj, heightsS]
set_option maxRecDepth 100000 in
set_option maxHeartbeats 6400000 in
theorem ps_limit {w : World} {lv tv : Value} {K : List (Value × List Int)} {tree : List Int} (hL : NArg w lv K) (hR : SlA w tv tree) (hK : K.length ≤ 1099511627776) (hin : ∀ i ∈ tree, 0 ≤ i ∧ i < (K.length : Int)) (hkid : ∀ i < K.length, ∀ k ∈ kidsOf K i, 0 ≤ k ∧ k < (K.length : Int)) (ht : tree.length ≤ 65536) (t0 : 0 < tree.length) (hlast : ((heightsS (kidsOf K) tree (List.replicate K.length 0))[tree[tree.length - 1].toNat]?).getD 0 ≤ 500) :
    Calls Tryz.prog 29 #[lv, tv] w fun x w' => x = .returned .nilIface ∧ Below w.heap.size w w' := by
  obtain ⟨aL, cL, hlv⟩ := hL.form
  subst hlv
  obtain ⟨aR, cR, hrv, hrl⟩ := hR.form
  subst hrv
  have HL := Hid.mk7 hL
  have HR := Hid.mk7 hR
  have HI := Hid.mk7 hin
  have HK := Hid.mk7 hkid
  have HLast := Hid.mk7 hlast
  obtain ⟨w1, hmk, hb1, hz1, hB1⟩ := make_one Tryz.intTypes (by simp [Value.cells]) w K.length (by omega) (by omega)
  have HM := Hid.mk7 (And.intro hb1 (And.intro hz1 (HtAt.new hB1 hz1)))
  have h65 : ¬ (65536 : Int) < (tree.length : Int) := by omega
  clear hL hR hb1 hz1 hB1 hin hkid hlast
  go_enter Tryz.func29, Tryz.ntmps29
  go_wp2_with fail
  clear h65 hmk
  go_loopw [20] (fun ix wr => ∃ (j : Nat) (h : List Int), j ≤ tree.length ∧ ix = .int .i64 j ∧ h.length = K.length ∧ (∀ x ∈ h, 0 ≤ x ∧ x ≤ (j : Int)) ∧ heightsS (kidsOf K) (tree.drop j) h = heightsS (kidsOf K) tree (List.replicate K.length 0) ∧ HtAt wr w.heap.size h ∧ Below w.heap.size w wr) (fun ix _ => tree.length - (intOf ix).toNat)
  case atStart => exact ⟨0, _, Nat.zero_le _, rfl, by simp, fun x hx => by rw [List.mem_replicate] at hx; omega, rfl, HM.out.2.2, HM.out.1⟩
  case round =>
    clear HM
    obtain ⟨j, h, hj, rfl, hlen, hbd, hrest, hht, hb⟩ := hrel
    by_cases hlt : j < tree.length
    · have hji : (j : Int) < (tree.length : Int) := by omega
      obtain ⟨b, off, rfl, hc⟩ := (HR.out.below hb).at j hlt
      obtain ⟨hx0, hx1⟩ := HI.out tree[j] (List.getElem_mem hlt)
      obtain ⟨q, hq⟩ : ∃ q : Nat, tree[j] = (q : Int) := ⟨tree[j].toNat, by omega⟩
      have hqK : q < K.length := by omega
      have hqKi : (q : Int) < (K.length : Int) := by omega
      rw [hq] at hc
      obtain ⟨bL, oL, rfl, hck, hsk⟩ := (HL.out.below hb).at q hqK
      have hkd := HK.out q hqK
      rw [kidsOf_at K q hqK] at hkd
      have hstep := heightsS_drop (kidsOf K) tree j hlt h
      rw [hq, Int.toNat_natCast, kidsOf_at K q hqK] at hstep
      obtain ⟨ak, ck, hkv, hkl⟩ := hsk.form
      have HS := Hid.mk7 hsk
      have HH := Hid.mk7 (And.intro hht (And.intro hb (And.intro hbd (hrest.symm.trans hstep))))
      generalize hkk : K[q].1 = kv at hck hkv HS
      generalize hkx : K[q].2 = kl at hkd hkv HS HH hkl
      subst hkv
      clear hht hb hsk hstep hbd hrest hq
      go_wp2_with fail
      clear hck hc
      go_loopw [8, 30] (fun x8 ix wr2 => ∃ (i : Nat) (x : Int), i ≤ kl.length ∧ ix = .int .i64 i ∧ x8 = .int .i64 x ∧ 0 ≤ x ∧ x ≤ (j : Int) ∧ highest h (kl.drop i) x = highest h kl 0 ∧ wr2 = wr) (fun _ ix _ => kl.length - (intOf ix).toNat)
      case atStart => exact ⟨0, 0, Nat.zero_le _, rfl, rfl, Int.le_refl _, by omega, rfl, rfl⟩
      case round =>
        obtain ⟨i, x, hi, rfl, rfl, hxa, hxb, hrx, rfl⟩ := hrel
        by_cases hil : i < kl.length
        · have hili : (i : Int) < (kl.length : Int) := by omega
          obtain ⟨bk, ok, rfl, hc⟩ := HS.out.at i hil
          obtain ⟨hk0, hk1⟩ := hkd kl[i] (List.getElem_mem hil)
          obtain ⟨y, hy⟩ : ∃ y : Nat, kl[i] = (y : Int) := ⟨kl[i].toNat, by omega⟩
          have hyK : y < h.length := by omega
          have hyKi : (y : Int) < (K.length : Int) := by omega
          rw [hy] at hc
          obtain ⟨cy, fy⟩ := HH.out.1.c y hyK
          have hstep2 := highest_drop h kl i hil x
          rw [hy, Int.toNat_natCast] at hstep2
          have egd : (h[y]?).getD 0 = h[y] := by simp [hyK]
          rw [egd] at hstep2
          obtain ⟨hy0, hy1⟩ := HH.out.2.2.1 h[y] (List.getElem_mem hyK)
          have HX := Hid.mk7 (hrx.symm.trans hstep2)
          generalize h[y] = z at cy hy0 hy1 HX
          clear hrx hstep2 egd hy hk0 hk1
          go_wp2
          go_roundw
          case rel => exact ⟨i + 1, max x z, by omega, by go_num, rfl, by omega, by omega, HX.out.symm, trivial⟩
          case measure => simp [intOf]; omega
        · have hge : ¬ (i : Int) < (kl.length : Int) := by omega
          have he : x = highest h kl 0 := by rw [← hrx, List.drop_of_length_le (by omega)]; rfl
          obtain ⟨cq, fq⟩ := HH.out.1.c q (by omega)
          have hqh : q < h.length := by omega
          have HE := Hid.mk7 he
          have HN := Hid.mk7 (And.intro (HH.out.1.set q hqh (x + 1)) (Turned.toBelow HH.out.2.1 (Turned.set1 _ w.heap.size q (.int .i64 (x + 1))) (Nat.le_refl _)))
          have hbd := Hid.mk7 HH.out.2.2.1
          clear hrx he
          go_wp2
          go_roundw
          case rel =>
            refine ⟨j + 1, h.set q (x + 1), by omega, by go_num, by simpa using hlen, fun y hy => ?_, ?_, HN.out.1, HN.out.2⟩
            · rcases List.mem_or_eq_of_mem_set hy with hy | rfl
              · have := hbd.out y hy; omega
              · omega
            · rw [HE.out]; exact HH.out.2.2.2.symm
          case measure => simp [intOf]; omega
    · have hge : ¬ (j : Int) < (tree.length : Int) := by omega
      have he : h = heightsS (kidsOf K) tree (List.replicate K.length 0) := by rw [← hrest, List.drop_of_length_le (by omega)]; rfl
      have hla : tree.length - 1 < tree.length := by omega
      obtain ⟨b, off, rfl, hc⟩ := (HR.out.below hb).at (tree.length - 1) hla
      obtain ⟨hx0, hx1⟩ := HI.out tree[tree.length - 1] (List.getElem_mem hla)
      obtain ⟨q, hq⟩ : ∃ q : Nat, tree[tree.length - 1] = (q : Int) := ⟨tree[tree.length - 1].toNat, by omega⟩
      have hqh : q < h.length := by omega
      have hqi : (q : Int) < (K.length : Int) := by omega
      obtain ⟨cq, fq⟩ := hht.c q hqh
      have hl5 : h[q] ≤ 500 := by
        have := HLast.out
        rw [← he, hq, Int.toNat_natCast] at this
        simpa [hqh] using this
      have h500 : ¬ (500 : Int) < h[q] := by omega
      rw [hq] at hc
      have hlen1 : (tree.length : Int) - 1 = ((tree.length - 1 : Nat) : Int) := by omega
      have hlt1 : ((tree.length - 1 : Nat) : Int) < (tree.length : Int) := by omega
      have HB := Hid.mk7 hb
      generalize h[q] = z at cq h500
      generalize tree.length - 1 = tl at hc hlen1 hlt1
      clear hb hht hrest he hbd hq hl5 hx0 hx1 hla
      go_wp2
      go_ret
      exact ⟨rfl, HB.out⟩
end Go.Proofs.YtipdmmncgenppaaGreatDoor
