/-
  heddlelaw05.StreamOwn: what a caller does to its slices is no matter of the stream's; its walk, given the program's stream, whose Read hands out a slice that may be written.
-/
import Derived.Test.YtjkmklbkemoldaaDoorRowBase
namespace Go.Proofs.YtjkmklbkemoldaaDoor
open Go.RowKit

/-- .. and what Read hands out may be written. -/
structure ImplOwn (Mem : World → Nat → (Nat → Prop) → St → Prop) : Prop extends Impl Mem where
  readOwn : ∀ {w : World} {sb : Nat} {S : Nat → Prop} {st : St}, Mem w sb S st → st.Ok → ∀ (e m : Int),
    Calls Tryd.prog 17 #[.pointer (some ⟨sb, 0, none⟩), .int .i64 e, .int .i64 m] w fun ev w' => ∃ V v S', ev = .returned (.tuple #[V, v]) ∧ Errs w.heap.size w' v (st.read e m).1 ∧ Own w' V (st.read e m).2.1 ∧ Mem w' sb S' (st.read e m).2.2 ∧ Turned S w w' ∧ (∀ k, S' k → S k ∨ w.heap.size ≤ k) ∧ ∀ k, blk V k → w.heap.size ≤ k ∧ k < w'.heap.size ∧ ¬ S' k

/-- One byte of it written. -/
theorem Own.put {w : World} {a : Option Addr} {n cap k : Nat} {zs : List Int} (h : Own w (.slice a n cap) zs) (hk : k < zs.length) :
    ∃ g off, a = some ⟨g, off, none⟩ ∧ (w.cell? ⟨g, off + k, none⟩ = some (.int .u8 zs[k])) ∧ w.frozen? ⟨g, off + k, none⟩ = false ∧ ∀ z : Int, Own (w.setCell ⟨g, off + k, none⟩ (.int .u8 z)) (.slice a n cap) (zs.set k z) := by
  rcases h with ⟨_, rfl⟩ | ⟨g, off, cap', h, h2, h3, hg, h4, h5⟩
  · simp at hk
  · cases h
    refine ⟨g, off, rfl, h4 k hk, (h5 k (by omega)).2, fun z => .inr ⟨g, off, cap, by simp, by simpa using h2, h3, by simpa [World.setCell] using hg, fun j hj => ?_, fun j hj => ?_⟩⟩
    · have hj' : j < zs.length := by simpa using hj
      by_cases e : j = k
      · subst e
        rw [World.cell?_setCell_same _ _ _ (h4 j hk)]
        simp
      · rw [World.cell?_setCell_other _ _ _ _ (by intro h; simp only [Addr.mk.injEq] at h; omega), h4 j hj']
        simp [show ¬ k = j from fun h => e h.symm]
    · refine ⟨?_, by rw [World.frozen?_setCell]; exact (h5 j hj).2⟩
      by_cases e : j = k
      · subst e
        rw [World.cell?_setCell_same _ _ _ (h4 j hk)]
        rfl
      · rw [World.cell?_setCell_other _ _ _ _ (by intro h; simp only [Addr.mk.injEq] at h; omega)]
        exact (h5 j hj).1

/-- The states that the walk meets. -/
def way (und : List Int) (s : Int) (come : List Int) (m r : Int) : St := ⟨⟨und, [], s, 0, 0, false⟩, ⟨[], come, 0, m, r, false⟩, false⟩
theorem way0 : St.fresh = way [] 0 [] 0 0 := rfl
theorem way_send {xs ys : List Int} {s : Int} (h : xs.length + ys.length ≤ 4194304) : (way xs s [] 0 0).send 0 ys = (none, way (xs ++ ys) (wrap64 (s + ys.length)) [] 0 0) := by
  have : ¬ 4194304 < (xs.length : Int) + ys.length := by omega
  simp [St.send, bad, St.at, St.up, way, this]
theorem way_move {xs : List Int} {s n : Int} (h : xs.length ≤ 4194304) (hn : n = xs.length) : (way xs s [] 0 0).move 0 n = (none, way [] s xs (wrap64 (0 + xs.length)) 0) := by
  subst hn
  have h1 : ¬ (4194304 : Int) < xs.length := by omega
  have h2 : ¬ (xs.length : Int) < 0 := by omega
  simp [St.move, bad, St.at, St.other, way, h1, h2, St.mv, St.both]
theorem way_read {xs ys : List Int} {s m r : Int} : (way [] s (xs ++ ys) m r).read 1 xs.length = (none, xs, way [] s ys m (wrap64 (r + xs.length))) := by
  have h2 : ¬ (xs.length : Int) < 0 := by omega
  have h3 : (way [] s (xs ++ ys) m r).takes 1 xs.length = xs.length := by
    have e : ((way [] s (xs ++ ys) m r).at 1).come = xs ++ ys := rfl
    unfold St.takes
    rw [e]
    split
    · simp
    · rename_i h
      rw [List.length_append] at h ⊢
      omega
  simp only [St.read, h3]
  simp [bad, St.at, St.up, way, h2]
theorem way_ok {u c : List Int} {s m r : Int} (hu : u.length ≤ 4194304) (hc : c.length ≤ 4194304) : (way u s c m r).Ok :=
  ⟨hu, by simp [way], by simp [way], by simp only [way]; omega, fun _ => by simp [way], fun _ => hc⟩

set_option maxRecDepth 100000 in
set_option maxHeartbeats 6400000 in
theorem own_any {Mem : World → Nat → (Nat → Prop) → St → Prop} (J : ImplOwn Mem) (x : Value) (bs : List Int) (w : World) (her : Er w) (hx : Sl w x bs) :
    Calls Tryd.prog 8 #[x] w fun ev w' => ev = .returned (.bool true) ∧ Below w.heap.size w w' := by
  have I := J.toImpl
  obtain ⟨ax, capx, rfl, hcx, hmx⟩ := hx.form
  go_enter Tryd.func8, Tryd.ntmps8
  go_wp2_with fail
  refine (I.new w).mono ?_
  rintro ev w1 ⟨sb, S1, rfl, hm1, hb1, hS1⟩
  have s1 := hb1.size
  by_cases hlong : 1000 < (bs.length : Int)
  · go_wp2_with fail
    refine (alive_any I w1 (her.below hb1)).mono ?_
    rintro ev w2 ⟨rfl, hb2⟩
    go_wp2
    go_ret
    exact ⟨rfl, hb1.trans (hb2.mono hb1.size)⟩
  · have hx1 : Sl (w1.alloc (.cells #[] 5)) (.slice ax bs.length capx) bs := (hx.turnedN (Turned.ofBelow (S := fun _ => False) hb1) (fun _ _ _ h => h)).turned (Turned.alloc (fun _ => False) w1 _) (fun _ _ h => h)
    have ho0 : Own (w1.alloc (.cells #[] 5)) (.slice (some ⟨w1.heap.size, 0, none⟩) 0 0) [] := Own.empty w1 _ _ rfl
    have HX : Hid (Sl w (.slice ax bs.length capx) bs) := hx
    clear hx
    go_wp2_with (at_builtin; refine wpList_append_bytes (by rfl) (.tmp 25) (.tmp 26) (by rfl) Tryd.bytes (by rfl) (by rfl) ho0 hx1 (by simp; omega) ?_; intro v2 w2 ho2 T2 hb2; simp only [List.nil_append] at ho2)
    have z2 := T2.size
    simp at z2
    have v2b : ∀ q, blk v2 q → w1.heap.size ≤ q := fun q h => (hb2 q h).elim (fun h => Nat.le_of_eq h) (fun h => by simp at h; omega)
    have v2l := ho2.blk_lt
    have B2 : Below w.heap.size w w2 := (hb1.alloc s1 _).trans (T2.below (by simp; omega) (fun q h => by have h : w1.heap.size = q := h; omega))
    have hm2 : Mem w2 sb S1 (way [] 0 [] 0 0) := I.turned (I.turned hm1 (Turned.alloc (fun _ => False) w1 _) (fun _ _ h => h)) T2 (fun q h h' => by have h' : w1.heap.size = q := h'; have := I.lt hm1 q h; omega)
    have n1 : ∀ q, blk v2 q → ¬ S1 q := fun q h h' => by have := v2b q h; have := I.lt hm1 q h'; omega
    clear T2 hb2 hx1 ho0 hm1 hb1
    -- sent once
    have hc3 := I.send hm2 (way_ok (by simp) (by simp)) 0 ho2.sl (by omega) (fun _ => n1)
    rw [way_send (by simp; omega)] at hc3
    refine hc3.mono ?_
    rintro ev w3 ⟨v3, S3, rfl, he3, hm3, T3, hS3⟩
    have he3 : v3 = .nilIface := he3
    subst he3
    clear hc3 he3
    have z3 := T3.size
    have n3 : ∀ q, blk v2 q → ¬ S3 q := fun q h h' => (hS3 q h').elim (n1 q h) (fun h'' => by have := v2l q h; omega)
    have b3 := upTo hS1 hS3 (by omega)
    have ho3 := ho2.turned T3 n1
    have B3 := B2.trans (T3.below (by omega) hS1)
    simp only [List.nil_append] at hm3
    -- sent twice
    have hc4 := I.send hm3 (way_ok (by omega) (by simp)) 0 ho3.sl (by omega) (fun _ => n3)
    rw [way_send (by omega)] at hc4
    go_wp2_with fail
    refine hc4.mono ?_
    rintro ev w4 ⟨v4, S4, rfl, he4, hm4, T4, hS4⟩
    have he4 : v4 = .nilIface := he4
    subst he4
    clear hc4 he4
    have z4 := T4.size
    have n4 : ∀ q, blk v2 q → ¬ S4 q := fun q h h' => (hS4 q h').elim (n3 q h) (fun h'' => by have := v2l q h; omega)
    have b4 := upTo b3 hS4 (by omega)
    have ho4 := ho3.turned T4 n3
    have B4 := B3.trans (T4.below (by omega) b3)
    obtain ⟨s4, hs4⟩ : ∃ z, z = wrap64 (wrap64 (0 + (bs.length : Int)) + (bs.length : Int)) := ⟨_, rfl⟩
    rw [← hs4] at hm4
    obtain ⟨a2, cap2, rfl, hc2, hcm2⟩ := ho4.sl.form
    have v2w : ∀ q, blk (.slice a2 bs.length cap2) q → w.heap.size ≤ q := fun q h => by have := v2b q h; omega
    clear hm2 hm3 T3 T4 hS3 hS4 n1 n3 ho2 ho3 B2 B3 b3 hs4 hS1 v2b v2l
    go_wp2_with fail
    -- its own bytes turned
    go_loopw [40] (fun i wr => ∃ (k : Nat) (zs : List Int), k ≤ bs.length ∧ i = .int .i64 k ∧ zs.length = bs.length ∧ Own wr (.slice a2 bs.length cap2) zs ∧ Mem wr sb S4 (way (bs ++ bs) s4 [] 0 0) ∧ Below w.heap.size w wr) (fun i _ => bs.length - (intOf i).toNat)
    case atStart => exact ⟨0, bs, Nat.zero_le _, rfl, rfl, ho4, hm4, B4⟩
    case round =>
      clear ho4 hm4 B4
      obtain ⟨k, zs, hk, rfl, hzl, ho, hm, hB⟩ := hrel
      by_cases hlt : k < bs.length
      · have hlti : (k : Int) < (bs.length : Int) := by omega
        have hk0 : (0 : Int) ≤ (k : Int) := by omega
        obtain ⟨g, off, rfl, hcell, hfz, hput⟩ := ho.put (k := k) (by omega)
        generalize zs[k] = z at hcell
        have TS := fun y : Int => Turned.setCell wr ⟨g, off + k, none⟩ (.int .u8 y)
        have HM := fun y : Int => I.turned hm (TS y) (fun q h h' => n4 q (Eq.symm h') h)
        have HB := fun y : Int => hB.trans ((TS y).below hB.size (fun q h => v2w q (Eq.symm h)))
        clear TS hm hB ho
        go_wp2
        go_roundw
        case rel => exact ⟨k + 1, _, by omega, by go_num, by simpa using hzl, hput _, HM _, HB _⟩
        case measure => simp [intOf]; omega
      · have hge : ¬ (k : Int) < (bs.length : Int) := by omega
        go_wp2_with fail
        have z5 := hB.size
        have hc5 := I.move hm (way_ok (by simp; omega) (by simp)) 0 (2 * bs.length)
        rw [way_move (by simp; omega) (by simp; omega)] at hc5
        refine hc5.mono ?_
        rintro ev w5 ⟨v5, S5, rfl, he5, hm5, T5, hS5⟩
        have he5 : v5 = .nilIface := he5
        subst he5
        clear hc5 he5
        have z6 := T5.size
        have b5 := upTo b4 hS5 (by omega)
        have B5 := hB.trans (T5.below (by omega) b4)
        obtain ⟨m5, hm5'⟩ : ∃ z, z = wrap64 (0 + ((bs ++ bs).length : Int)) := ⟨_, rfl⟩
        rw [← hm5'] at hm5
        clear T5 hS5 hm ho hB n4 hm5' v2w
        -- read once
        have hc6 := J.readOwn hm5 (way_ok (by simp) (by simp; omega)) 1 bs.length
        rw [way_read] at hc6
        go_wp2_with fail
        refine hc6.mono ?_
        rintro ev w6 ⟨V6, v6, S6, rfl, he6, hV6, hm6, T6, hS6, hb6⟩
        have he6 : v6 = .nilIface := he6
        subst he6
        clear hc6 he6
        have z7 := T6.size
        have b6 := upTo b5 hS6 (by omega)
        have B6 := B5.trans (T6.below (by omega) b5)
        obtain ⟨aV, capV, rfl, hcV, hcmV⟩ := hV6.sl.form
        have c6 := hV6.sl.str
        have V6w : ∀ q, blk (.slice aV bs.length capV) q → w.heap.size ≤ q ∧ ¬ S6 q := fun q h => ⟨by have := (hb6 q h).1; omega, (hb6 q h).2.2⟩
        generalize wrap64 (0 + (bs.length : Int)) = r6 at hm6
        clear T6 hS6 hm5 B5 hb6
        go_wp2_with fail
        go_loopw [69] (fun i wr => ∃ (k : Nat) (zs : List Int), k ≤ bs.length ∧ i = .int .i64 k ∧ zs.length = bs.length ∧ Own wr (.slice aV bs.length capV) zs ∧ Mem wr sb S6 (way [] s4 bs m5 r6) ∧ Below w.heap.size w wr) (fun i _ => bs.length - (intOf i).toNat)
        case atStart => exact ⟨0, bs, Nat.zero_le _, rfl, rfl, hV6, hm6, B6⟩
        case round =>
          clear hV6 hm6 B6 c6
          obtain ⟨k, zs, hk, rfl, hzl, ho, hm, hB⟩ := hrel
          by_cases hlt : k < bs.length
          · have hlti : (k : Int) < (bs.length : Int) := by omega
            have hk0 : (0 : Int) ≤ (k : Int) := by omega
            obtain ⟨g, off, rfl, hcell, hfz, hput⟩ := ho.put (k := k) (by omega)
            generalize zs[k] = z at hcell
            have TS := fun y : Int => Turned.setCell wr ⟨g, off + k, none⟩ (.int .u8 y)
            have HM := fun y : Int => I.turned hm (TS y) (fun q h h' => (V6w q (Eq.symm h')).2 h)
            have HB := fun y : Int => hB.trans ((TS y).below hB.size (fun q h => (V6w q (Eq.symm h)).1))
            clear TS hm hB ho
            go_wp2
            go_roundw
            case rel => exact ⟨k + 1, _, by omega, by go_num, by simpa using hzl, hput _, HM _, HB _⟩
            case measure => simp [intOf]; omega
          · have hge : ¬ (k : Int) < (bs.length : Int) := by omega
            have z8 := hB.size
            have hc7 := I.read hm (way_ok (by simp) (by omega)) 1 bs.length
            rw [show way [] s4 bs m5 r6 = way [] s4 (bs ++ []) m5 r6 by rw [List.append_nil], way_read] at hc7
            go_wp2_with fail
            refine hc7.mono ?_
            rintro ev w7 ⟨V7, v7, S7, rfl, he7, hV7, hm7, T7, hS7, hb7⟩
            have he7 : v7 = .nilIface := he7
            subst he7
            clear hc7 he7
            have B7 := hB.trans (T7.below (by omega) b6)
            have c7 := hV7.str
            have c8 := (HX.out.turnedN (Turned.ofBelow (S := fun _ => False) B7) (fun _ _ _ h => h)).str
            clear hm hm7 T7 hS7 hb7 ho
            go_wp2_with fail
            refine (alive_any I _ (her.below B7)).mono ?_
            rintro ev w8 ⟨rfl, hb8⟩
            go_wp2
            go_ret
            exact ⟨rfl, B7.trans (hb8.mono B7.size)⟩
end Go.Proofs.YtjkmklbkemoldaaDoor
