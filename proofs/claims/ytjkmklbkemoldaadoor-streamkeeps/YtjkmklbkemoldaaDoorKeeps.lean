/-
  heddlelaw05.StreamKeeps: in an open stream nothing is lost; its walk, given the program's stream.
-/
import Derived.Test.YtjkmklbkemoldaaDoorRowBase
namespace Go.Proofs.YtjkmklbkemoldaaDoor
open Go.RowKit

theorem wrap_add (x y z : Int) (h : z = x + y) : wrap64 (wrap64 x + y) = wrap64 z := by
  subst h
  simp only [wrap64.eq_1]
  omega

/-- An open stream of which nothing is lost. -/
structure St.Keep (st : St) : Prop where
  o : st.shut = false
  sa : st.a.sent = wrap64 (st.b.moved + st.a.und.length)
  sb : st.b.sent = wrap64 (st.a.moved + st.b.und.length)
  ma : st.a.moved = wrap64 (st.a.read + st.a.come.length)
  mb : st.b.moved = wrap64 (st.b.read + st.b.come.length)

theorem St.Keep.fresh : St.fresh.Keep := by
  have h0 : wrap64 0 = 0 := by decide +kernel
  exact ⟨rfl, by simp [St.fresh, h0], by simp [St.fresh, h0], by simp [St.fresh, h0], by simp [St.fresh, h0]⟩

theorem St.Keep.send {st : St} (h : st.Keep) (e : Int) (bs : List Int) : (st.send e bs).2.Keep := by
  unfold St.send
  split
  · exact h
  · rename_i hb
    split
    · exact h
    · split
      · exact h
      · rcases bad_yes hb with rfl | rfl
        · exact ⟨h.o, by simp [St.up, St.at]; rw [h.sa, wrap_add _ _ _ rfl]; congr 1; omega, h.sb, h.ma, h.mb⟩
        · exact ⟨h.o, h.sa, by simp [St.up, St.at]; rw [h.sb, wrap_add _ _ _ rfl]; congr 1; omega, h.ma, h.mb⟩
theorem St.Keep.stall {st : St} (h : st.Keep) (e : Int) (y : Bool) : (st.stall e y).2.Keep := by
  unfold St.stall
  split
  · exact h
  · rename_i hb
    split
    · exact h
    · rcases bad_yes hb with rfl | rfl
      · exact ⟨h.o, h.sa, h.sb, h.ma, h.mb⟩
      · exact ⟨h.o, h.sa, h.sb, h.ma, h.mb⟩
theorem St.Keep.move {st : St} (h : st.Keep) (e m : Int) : (st.move e m).2.Keep := by
  unfold St.move
  split
  · exact h
  · rename_i hb
    split
    · exact h
    · split
      · exact h
      · split
        · exact h
        · split
          · exact h
          · split
            · exact h
            · rename_i h1 h2 h3 h4
              rcases bad_yes hb with rfl | rfl
              · simp [St.at] at h3
                refine ⟨h.o, ?_, h.sb, h.ma, ?_⟩
                · simp [St.mv, St.both, St.at, St.other]
                  rw [h.sa, wrap_add _ _ (st.b.moved + st.a.und.length) (by omega)]
                · simp [St.mv, St.both, St.at, St.other]
                  rw [h.mb, wrap_add _ _ _ rfl]; congr 1; omega
              · simp [St.at] at h3
                refine ⟨h.o, h.sa, ?_, ?_, h.mb⟩
                · simp [St.mv, St.both, St.at, St.other]
                  rw [h.sb, wrap_add _ _ (st.a.moved + st.b.und.length) (by omega)]
                · simp [St.mv, St.both, St.at, St.other]
                  rw [h.ma, wrap_add _ _ _ rfl]; congr 1; omega
theorem St.Keep.read {st : St} (h : st.Keep) (e m : Int) : (st.read e m).2.2.Keep := by
  unfold St.read
  split
  · exact h
  · rename_i hb
    split
    · exact h
    · split
      · exact h
      · rename_i h1 h2
        have hk : ∀ e, st.takes e m ≤ (st.at e).come.length := fun e => by unfold St.takes; split <;> omega
        rcases bad_yes hb with rfl | rfl
        · have := hk 0
          simp [St.at] at this
          refine ⟨h.o, h.sa, h.sb, ?_, h.mb⟩
          simp [St.up, St.at]
          rw [h.ma, wrap_add _ _ (st.a.read + st.a.come.length) (by omega)]
        · have := hk 1
          simp [St.at] at this
          refine ⟨h.o, h.sa, h.sb, h.ma, ?_⟩
          simp [St.up, St.at]
          rw [h.mb, wrap_add _ _ (st.b.read + st.b.come.length) (by omega)]
theorem St.Keep.next {st st' : St} {k : Int} (h : st.Keep) (hn : Nexts k st st') (hk : k < 5) : st'.Keep := by
  rcases hn with rfl | ⟨e, bs, rfl⟩ | ⟨e, m, rfl⟩ | ⟨e, y, rfl⟩ | ⟨e, m, rfl⟩ | h5
  · exact h
  · exact h.send e bs
  · exact h.move e m
  · exact h.stall e y
  · exact h.read e m
  · omega

set_option maxRecDepth 100000 in
set_option maxHeartbeats 6400000 in
theorem keeps_any {Mem : World → Nat → (Nat → Prop) → St → Prop} (I : Impl Mem) (v : Value) (w : World) (her : Er w) (hv : Script w v) :
    Calls Tryd.prog 5 #[v] w fun ev w' => ev = .returned (.bool true) ∧ Below w.heap.size w w' := by
  obtain ⟨a, len, cap, rfl, hlen, hops⟩ := hv
  have hlt : 0 < w.heap.size := World.block_lt_of_cell? w _ her
  have HO : Hid (∀ j, j < len → ∃ b off, a = some ⟨b, off, none⟩ ∧ ∃ k e n y x bs, w.cell? ⟨b, off + j * 5, none⟩ = some (.int .i64 k) ∧ w.cell? ⟨b, off + j * 5 + 1, none⟩ = some (.int .i64 e) ∧ w.cell? ⟨b, off + j * 5 + 2, none⟩ = some (.int .i64 n) ∧
    w.cell? ⟨b, off + j * 5 + 3, none⟩ = some (.bool y) ∧ w.cell? ⟨b, off + j * 5 + 4, none⟩ = some x ∧ Sl w x bs ∧ bs.length ≤ 140737488355328) := hops
  clear hops
  go_enter Tryd.func5, Tryd.ntmps5
  go_wp2_with fail
  refine (I.new w).mono ?_
  rintro ev w1 ⟨sb, S1, rfl, hm1, hb1, hS1⟩
  go_wp2_with fail
  refine (doc_new w1).mono ?_
  rintro ev w2 ⟨g, rfl, hr2, hb2, hg2⟩
  have hs1 := hb1.size
  have hs2 := hb2.size
  have hB2 : Below w.heap.size w w2 := hb1.trans (hb2.mono hs1)
  have P0 : Pair Mem w.heap.size w2 sb g S1 (fun k => k = g) St.fresh :=
    ⟨I.turned hm1 (Turned.ofBelow (S := fun _ => False) hb2) (fun _ _ h => h), hr2, St.Ok.fresh, fun k hk he => by have := I.lt hm1 k hk; have he : k = g := he; omega, hS1, by omega, (hB2.cell (p := ⟨0, 0, none⟩) hlt).trans her, hlt, by omega⟩
  clear hm1 hb1 hr2 hb2 hg2 hS1
  go_wp2_with fail
  go_loopw [5] (fun i wr => ∃ j : Nat, j ≤ len ∧ i = .int .i64 j ∧ Below w.heap.size w wr ∧ ∃ S R st, Pair Mem w.heap.size wr sb g S R st ∧ st.Keep) (fun i _ => len - (intOf i).toNat)
  case atStart => exact ⟨0, Nat.zero_le _, rfl, hB2, _, _, _, P0, St.Keep.fresh⟩
  case round =>
    clear P0 hB2
    obtain ⟨j, hj, rfl, hB, S, R, st, P, K⟩ := hrel
    by_cases hlt2 : j < len
    · obtain ⟨b, off, rfl, k, e, n, y, x, bs, c0, c1, c2, c3, c4, hx, hbs⟩ := HO.out j hlt2
      obtain ⟨ax, capx, hxf, _, _⟩ := hx.form
      subst hxf
      have hbl : b < w.heap.size := World.block_lt_of_cell? w _ c0
      have d0 := (hB.cell (p := ⟨b, off + j * 5, none⟩) hbl).trans c0
      have d1 := (hB.cell (p := ⟨b, off + j * 5 + 1, none⟩) hbl).trans c1
      have d2 := (hB.cell (p := ⟨b, off + j * 5 + 2, none⟩) hbl).trans c2
      have d3 := (hB.cell (p := ⟨b, off + j * 5 + 3, none⟩) hbl).trans c3
      have d4 := (hB.cell (p := ⟨b, off + j * 5 + 4, none⟩) hbl).trans c4
      have hlti : (j : Int) < (len : Int) := by omega
      have hj0 : (0 : Int) ≤ (j : Int) := by omega
      clear c0 c1 c2 c3 c4
      by_cases hk5 : 5 ≤ k
      · go_wp2
        go_roundw
        case rel => exact ⟨j + 1, by omega, by go_num, hB.alloc hB.size _, _, _, _, P.box1 I _, K⟩
        case measure => simp [intOf]; omega
      · have PB := P.box1 I (.cells #[.int .i64 k, .int .i64 e, .int .i64 n, .bool y, .slice ax bs.length capx] 31)
        have hxB := (hx.turnedN (Turned.ofBelow (S := fun _ => False) hB) (fun _ _ _ h => h)).turnedN (Turned.alloc (fun _ => False) wr (.cells #[.int .i64 k, .int .i64 e, .int .i64 n, .bool y, .slice ax bs.length capx] 31)) (fun _ _ _ h => h)
        have HB : Hid (Below w.heap.size w (wr.alloc (.cells #[.int .i64 k, .int .i64 e, .int .i64 n, .bool y, .slice ax bs.length capx] 31))) := hB.alloc hB.size _
        go_wp2_with fail
        refine (step_any I PB k e n y (.slice ax bs.length capx) hxB hbs (fun hne => hx.lt hne)).mono ?_
        rintro ev w4 ⟨rfl, S', R', st', P', hB', hN⟩
        have K' := K.next hN (by omega)
        have B4 : Hid (Below w.heap.size w w4) := HB.out.trans hB'
        clear d0 d1 d2 d3 d4 hN hB' PB hxB HB K
        obtain ⟨u0, hu0⟩ : ∃ z : Int, z = st'.a.und.length := ⟨_, rfl⟩
        obtain ⟨c0, hc0⟩ : ∃ z : Int, z = st'.a.come.length := ⟨_, rfl⟩
        obtain ⟨s0, hs0⟩ : ∃ z : Int, z = st'.a.sent := ⟨_, rfl⟩
        obtain ⟨m0, hm0⟩ : ∃ z : Int, z = st'.a.moved := ⟨_, rfl⟩
        obtain ⟨r0, hr0⟩ : ∃ z : Int, z = st'.a.read := ⟨_, rfl⟩
        obtain ⟨t0, ht0⟩ : ∃ z : Bool, z = st'.a.stall := ⟨_, rfl⟩
        obtain ⟨u1, hu1⟩ : ∃ z : Int, z = st'.b.und.length := ⟨_, rfl⟩
        obtain ⟨c1, hc1⟩ : ∃ z : Int, z = st'.b.come.length := ⟨_, rfl⟩
        obtain ⟨s1, hs1⟩ : ∃ z : Int, z = st'.b.sent := ⟨_, rfl⟩
        obtain ⟨m1, hm1⟩ : ∃ z : Int, z = st'.b.moved := ⟨_, rfl⟩
        obtain ⟨r1, hr1⟩ : ∃ z : Int, z = st'.b.read := ⟨_, rfl⟩
        obtain ⟨t1, ht1⟩ : ∃ z : Bool, z = st'.b.stall := ⟨_, rfl⟩
        have f1 : (s0 != wrap64 (m1 + u0)) = false := by simp [hs0, hm1, hu0, ← K'.sa]
        have f2 : (s1 != wrap64 (m0 + u1)) = false := by simp [hs1, hm0, hu1, ← K'.sb]
        have f3 : (m0 != wrap64 (r0 + c0)) = false := by simp [hm0, hr0, hc0, ← K'.ma]
        have f4 : (m1 != wrap64 (r1 + c1)) = false := by simp [hm1, hr1, hc1, ← K'.mb]
        have hp0 : st'.pipe 0 = .agg #[.int .i64 u0, .int .i64 c0, .int .i64 s0, .int .i64 m0, .int .i64 r0, .bool t0, .bool false] := by simp [St.pipe, bad, St.at, hu0, hc0, hs0, hm0, hr0, ht0, K'.o]
        have hp1 : st'.pipe 1 = .agg #[.int .i64 u1, .int .i64 c1, .int .i64 s1, .int .i64 m1, .int .i64 r1, .bool t1, .bool false] := by simp [St.pipe, bad, St.at, hu1, hc1, hs1, hm1, hr1, ht1, K'.o]
        have C0 := I.state P'.mem P'.ok 0
        rw [hp0] at C0
        have C1 : Hid (∀ W : World, Mem W sb S' st' → Calls Tryd.prog 20 #[.pointer (some ⟨sb, 0, none⟩), .int .i64 1] W fun ev w' => ∃ v, ev = .returned (.tuple #[.agg #[.int .i64 u1, .int .i64 c1, .int .i64 s1, .int .i64 m1, .int .i64 r1, .bool t1, .bool false], v]) ∧ Errs W.heap.size w' v (St.stateErr 1) ∧ Below W.heap.size W w') := fun W hM => by rw [← hp1]; exact I.state hM P'.ok 1
        have HK : Hid st'.Keep := K'
        clear hu0 hc0 hs0 hm0 hr0 ht0 hu1 hc1 hs1 hm1 hr1 ht1 hp0 hp1 K'
        go_wp2_with fail
        refine C0.mono ?_
        rintro ev w5 ⟨v5, rfl, he5, hb5⟩
        have he5 : v5 = .nilIface := he5
        subst he5
        have P5 := (P'.below I hb5).box1 I (.cells #[.int .i64 u0, .int .i64 c0, .int .i64 s0, .int .i64 m0, .int .i64 r0, .bool t0, .bool false] 45)
        have B5 : Hid (Below w.heap.size w w5) := B4.out.trans (hb5.mono (by have := B4.out.size; omega))
        clear C0 hb5
        go_wp2_with fail
        refine (C1.out _ P5.mem).mono ?_
        rintro ev w6 ⟨v6, rfl, he6, hb6⟩
        have he6 : v6 = .nilIface := he6
        subst he6
        obtain ⟨hc, hfz⟩ := belowCells hb6
        have hz := hb6.size
        simp at hz
        have hz2 : w5.heap.size < w6.heap.size := by omega
        have hw6 : ∀ o, w6.cell? ⟨w5.heap.size, o, none⟩ = (#[.int .i64 u0, .int .i64 c0, .int .i64 s0, .int .i64 m0, .int .i64 r0, .bool t0, .bool false] : Array Value)[o]? := fun o => by rw [hc _ _ (by simp)]; simp
        have P6 := (P5.below I hb6).box1 I (.cells #[.int .i64 u1, .int .i64 c1, .int .i64 s1, .int .i64 m1, .int .i64 r1, .bool t1, .bool false] 45)
        have B6 : Hid (Below w.heap.size w w6) := (B5.out.alloc B5.out.size _).trans (hb6.mono (by have := B5.out.size; simp; omega))
        clear hc hfz hb6 C1
        go_wp2
        go_roundw
        case rel => exact ⟨j + 1, by omega, by go_num, B6.out.alloc B6.out.size _, _, _, _, P6, HK.out⟩
        case measure => simp [intOf]; omega
    · have hge : ¬ (j : Int) < (len : Int) := by omega
      go_wp2_with fail
      refine (alive_any I _ P.er).mono ?_
      rintro ev w5 ⟨rfl, hb5⟩
      go_wp2
      go_ret
      exact ⟨rfl, hB.trans (hb5.mono P.big)⟩
end Go.Proofs.YtjkmklbkemoldaaDoor
