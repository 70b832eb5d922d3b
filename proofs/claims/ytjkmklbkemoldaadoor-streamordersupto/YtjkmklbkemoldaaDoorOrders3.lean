/-
  heddlelaw05.StreamOrders: its walk.
-/
import Derived.Test.YtjkmklbkemoldaaDoorOrders2
import Derived.Deep.DeepCutAuto
import Derived.Deep.CutBlock
import Derived.Deep.QuietTactic
import Derived.BigQuiet
namespace Go.Proofs.YtjkmklbkemoldaaDoor
open Go.RowKit

/-- Only what lies from B on has turned. -/
theorem Turned.ofBelow' {a b : World} (h : Below a.heap.size a b) : Turned (fun _ => False) a b := Turned.ofBelow h

set_option maxRecDepth 100000 in
set_option maxHeartbeats 6400000 in
theorem orders_any {Mem : World → Nat → (Nat → Prop) → St → Prop} (I : Impl Mem) (a : Option Addr) (len cap : Nat) (w : World) (her : Er w) (hlen : len ≤ 1048576)
    (HO : Hid (∀ j, j < len → ∃ b off, a = some ⟨b, off, none⟩ ∧ ∃ k e n y x bs, w.cell? ⟨b, off + j * 5, none⟩ = some (.int .i64 k) ∧ w.cell? ⟨b, off + j * 5 + 1, none⟩ = some (.int .i64 e) ∧ w.cell? ⟨b, off + j * 5 + 2, none⟩ = some (.int .i64 n) ∧
      w.cell? ⟨b, off + j * 5 + 3, none⟩ = some (.bool y) ∧ w.cell? ⟨b, off + j * 5 + 4, none⟩ = some x ∧ Sl w x bs ∧ bs.length ≤ 1048576)) :
    Calls Tryd.prog 4 #[.slice a len cap] w fun ev w' => ev = .returned (.bool true) ∧ Below w.heap.size w w' := by
  have hlt : 0 < w.heap.size := World.block_lt_of_cell? w _ her
  go_enter Tryd.func4, Tryd.ntmps4
  go_wp2_with fail
  refine (I.new w).mono ?_
  rintro ev w1 ⟨sb, S1, rfl, hm1, hb1, hS1⟩
  have s1 := hb1.size
  go_wp2_with fail
  have G0 : Gone I w sb w1.heap.size (w1.heap.size + 1) 0 ((w1.alloc (.cells #[.slice none 0 0, .slice none 0 0] 34)).alloc (.cells #[.slice none 0 0, .slice none 0 0] 34)) S1 St.fresh (fun _ => .slice none 0 0) (fun _ => []) := by
    have T1 : Turned (fun _ => False) w1 ((w1.alloc (.cells #[.slice none 0 0, .slice none 0 0] 34)).alloc (.cells #[.slice none 0 0, .slice none 0 0] 34)) := (Turned.alloc _ _ _).trans (Turned.alloc (fun _ => False) _ _) (fun _ h => h.elim)
    refine ⟨I.turned hm1 T1 (fun _ _ h => h), St.Ok.fresh, St.Trail.fresh, ⟨fun i hi => ?_, fun i hi => .inl ⟨rfl, rfl⟩, by omega, fun i hi q hq => hq.elim, fun i j hi hj hij q hq => hq.elim, ⟨fun h => by have := I.lt hm1 _ h; omega, fun h => by have := I.lt hm1 _ h; omega⟩, ⟨s1, by omega⟩, ⟨by simp; omega, by simp⟩⟩, hS1, Nat.zero_le _, Nat.zero_le _, hb1.trans (T1.below s1 (fun _ h => h.elim))⟩
    match i, hi with
    | 0, _ => exact ⟨by simp [seat], by simp [seat]⟩
    | 1, _ => exact ⟨by simp [seat], by simp [seat]⟩
    | 2, _ => exact ⟨by simp [seat], by simp [seat]⟩
    | 3, _ => exact ⟨by simp [seat], by simp [seat]⟩
  obtain ⟨gs, hgs⟩ : ∃ g, g = w1.heap.size := ⟨_, rfl⟩
  obtain ⟨gr, hgr⟩ : ∃ g, g = w1.heap.size + 1 := ⟨_, rfl⟩
  rw [← hgr, ← hgs] at G0
  try rw [← hgr]
  try rw [← hgs]
  clear hm1 hb1 hS1 hgs hgr
  go_loopw [6] (fun i wr => ∃ j : Nat, j ≤ len ∧ i = .int .i64 j ∧ ∃ S st V z, Gone I w sb gs gr j wr S st V z) (fun i _ => len - (intOf i).toNat)
  case atStart => exact ⟨0, Nat.zero_le _, rfl, _, _, _, _, G0⟩
  case round =>
    clear G0
    obtain ⟨j, hj, rfl, S, st, V, z, G⟩ := hrel
    by_cases hlt2 : j < len
    · obtain ⟨b, off, rfl, k, e, n, y, x, bs, c0, c1, c2, c3, c4, hx, hbs⟩ := HO.out j hlt2
      obtain ⟨ax, capx, hxf, _, _⟩ := hx.form
      subst hxf
      have hbl : b < w.heap.size := World.block_lt_of_cell? w _ c0
      have d0 := (G.below.cell (p := ⟨b, off + j * 5, none⟩) hbl).trans c0
      have d1 := (G.below.cell (p := ⟨b, off + j * 5 + 1, none⟩) hbl).trans c1
      have d2 := (G.below.cell (p := ⟨b, off + j * 5 + 2, none⟩) hbl).trans c2
      have d3 := (G.below.cell (p := ⟨b, off + j * 5 + 3, none⟩) hbl).trans c3
      have d4 := (G.below.cell (p := ⟨b, off + j * 5 + 4, none⟩) hbl).trans c4
      have hlti : (j : Int) < (len : Int) := by omega
      have hj0 : (0 : Int) ≤ (j : Int) := by omega
      clear c0 c1 c2 c3 c4
      have GB : Gone I w sb gs gr j (wr.alloc (.cells #[.int .i64 k, .int .i64 e, .int .i64 n, .bool y, .slice ax bs.length capx] 31)) S st V z :=
        ⟨I.turned G.mem (Turned.alloc (fun _ => False) wr _) (fun _ _ h => h), G.ok, G.trail, G.four.below ((Below.refl _ _).alloc (Nat.le_refl _) _), G.bS, G.l0, G.l1, G.below.alloc G.below.size _⟩
      by_cases hbad : bad e = true
      · obtain ⟨e0, e1⟩ := bad_no hbad
        have f0 : (e != 0) = true := by simpa using e0
        have f1 : (e != 1) = true := by simpa using e1
        go_wp2
        go_roundw
        case rel => exact ⟨j + 1, by omega, by go_num, _, _, _, _, GB.weaken⟩
        case measure => simp [intOf]; omega
      · rcases bad_yes hbad with rfl | rfl
        · go_upto_block 2 with fail
          go_cut [8, 9] from 32 to 98 (fun v8 v9 wc => ∃ S' st' V' z', Gone I w sb gs gr (j + 1) wc S' st' V' z')
          case first =>
            have q0 : (wr.alloc (.cells #[.int .i64 k, .int .i64 0, .int .i64 n, .bool y, .slice ax bs.length capx] 31)).cell? ⟨wr.heap.size, 0, none⟩ = some (.int .i64 k) := by simp
            have hno : ¬ S wr.heap.size := fun h => by have := I.lt G.mem _ h; omega
            have nbx : ∀ i, i < 4 → ¬ blk (V i) wr.heap.size := fun i hi h => Nat.lt_irrefl _ ((G.four.own i hi).blk_lt _ h)
            have hxS : bs ≠ [] → ∀ q, blk (.slice ax bs.length capx) q → ¬ S q := fun hne q hq hs => by have h1 := hx.lt hne q hq; have h2 := G.bS q hs; omega
            have hxA : Sl (wr.alloc (.cells #[.int .i64 k, .int .i64 0, .int .i64 n, .bool y, .slice ax bs.length capx] 31)) (.slice ax bs.length capx) bs := (hx.turnedN (Turned.ofBelow' G.below) (fun _ _ _ h => h)).turnedN (Turned.alloc (fun _ => False) wr _) (fun _ _ _ h => h)
            clear d0 d1 d2 d3 d4 G
            by_cases k1 : k = 1
            · subst k1
              go_wp2_with fail
              refine (I.send GB.mem GB.ok 0 hxA (by omega) hxS).mono ?_
              rintro ev w3 ⟨v3, S3, rfl, he3, hm3, T3, hS3⟩
              have r1 := T3.cell (p := ⟨wr.heap.size, 1, none⟩) (v := .int .i64 0) (by simp) hno
              have r5 := T3.cell (p := ⟨wr.heap.size, 4, none⟩) (v := .slice ax bs.length capx) (by simp) hno
              have hok3 := GB.ok.send 0 bs
              have htr3 := GB.trail.send0 (bs := bs)
              have hx3 := hxA.turnedN T3 hxS
              by_cases hsend : (st.send 0 bs).1 = none
              · rw [if_pos hsend] at htr3
                rw [hsend] at he3
                have he3 : v3 = .nilIface := he3
                subst he3
                have hm3' : Mem w3.drew sb S3 (st.send 0 bs).2 := I.turned hm3 (Turned.drew (fun _ => False) w3) (fun _ _ h => h)
                have F3 := (GB.four.turned T3 hS3).turned (Turned.drew S3 w3) (fun _ h => .inl h)
                have hx3' : Sl w3.drew (.slice ax bs.length capx) bs := hx3.turned (Turned.drew (fun _ => False) w3) (fun _ _ h => h)
                obtain ⟨kU, fU⟩ := F3.cell 0 (by omega)
                have kU : w3.cell? ⟨gs, 0, none⟩ = some (V 0) := kU
                have fU : w3.frozen? ⟨gs, 0, none⟩ = false := fU
                have hO := F3.own 0 (by omega)
                have hgl : gs < w3.drew.heap.size := F3.lt.1
                have hng : ¬ blk (V 0) gs := fun h => (F3.off 0 (by omega) gs h).1 rfl
                have hfit : (z 0).length + bs.length ≤ 70368744177664 := by
                  have h2 := small_of GB.l0 (by omega)
                  omega
                have nb2 := nbx 0 (by omega)
                have F3' : Hid (Four w3.drew w.heap.size gs gr S3 V z) := F3
                have HX : Hid (Sl w3.drew (.slice ax bs.length capx) bs) := hx3'
                obtain ⟨a2, cp2, hv2, _, _⟩ := hO.sl.form
                rw [hv2] at kU hO hng nb2
                clear F3 hx3 hx3'
                go_wp2_with fail
                go_region_law (refine step_append_bytes (by rfl) (.tmp 48) (.tmp 50) (by rfl) Tryd.bytes (by rfl) (by rfl) hO HX.out hfit ?_; intro v4 w4 ho4 T4 hb4; have c4 := T4.cell (p := ⟨gs, 0, none⟩) kU hng; have r4 := T4.cell (p := ⟨wr.heap.size, 1, none⟩) r1 nb2; have f4 := (T4.frozen (p := ⟨gs, 0, none⟩) hgl hng).trans fU; obtain ⟨a4, cap4, rfl, _, _⟩ := ho4.sl.form)
                all_goals
                  go_wp2
                  go_meet
                  rw [List.length_append] at ho4 hb4
                  refine ⟨S3, _, _, _, four_gone (i := 0) (by omega) hm3' hok3 F3'.out (fun q hq => (hS3 q hq).elim (GB.bS q) (fun h => Nat.le_trans GB.below.size h)) ?b ho4 (by rw [hv2]; exact T4) (by rw [hv2]; exact hb4) ?t ?l0 ?l1⟩
                  case b => exact GB.below.trans ((T3.trans (Turned.drew S3 w3) hS3).below GB.below.size GB.bS)
                  case t => exact htr3
                  case l0 => rw [upd_same, List.length_append]; exact grown_by GB.l0 hbs
                  case l1 => exact grown GB.l1
              · rw [if_neg hsend] at htr3
                obtain ⟨c3, hc3⟩ := Option.ne_none_iff_exists'.1 hsend
                rw [hc3] at he3
                obtain ⟨pb, _, rfl, _⟩ := he3
                go_wp2
                go_meet
                exact ⟨_, _, _, _, (GB.call hm3 T3 hS3 hok3 htr3).weaken⟩
            by_cases k2 : k = 2
            · subst k2
              go_wp2_with fail
              refine (I.move GB.mem GB.ok 0 n).mono ?_
              rintro ev w3 ⟨v3, S3, rfl, he3, hm3, T3, hS3⟩
              go_wp2
              go_meet
              exact ⟨_, _, _, _, (GB.call hm3 T3 hS3 (GB.ok.move 0 n) (GB.trail.move 0 n)).weaken⟩
            by_cases k3 : k = 3
            · subst k3
              go_wp2_with fail
              refine (I.stall GB.mem GB.ok 0 y).mono ?_
              rintro ev w3 ⟨v3, S3, rfl, he3, hm3, T3, hS3⟩
              go_wp2
              go_meet
              exact ⟨_, _, _, _, (GB.call hm3 T3 hS3 (GB.ok.stall 0 y) (GB.trail.stall 0 y)).weaken⟩
            by_cases k4 : k = 4
            · subst k4
              go_wp2_with fail
              refine (I.read GB.mem GB.ok 0 n).mono ?_
              rintro ev w3 ⟨V3, v3, S3, rfl, he3, hV3, hm3, T3, hS3, hb3⟩
              have hm3' : Mem w3.drew sb S3 (st.read 0 n).2.2 := I.turned hm3 (Turned.drew (fun _ => False) w3) (fun _ _ h => h)
              have F3 := (GB.four.turned T3 hS3).turned (Turned.drew S3 w3) (fun _ h => .inl h)
              have hV3' : Sl w3.drew V3 (st.read 0 n).2.1 := hV3.turned (Turned.drew (fun _ => False) w3) (fun _ _ h => h)
              have r1 := T3.cell (p := ⟨wr.heap.size, 1, none⟩) (v := .int .i64 0) (by simp) hno
              have hok3 := GB.ok.read 0 n
              have htr3 := GB.trail.read0 n
              obtain ⟨kU, fU⟩ := F3.cell 2 (by omega)
              have kU : w3.cell? ⟨gr, 0, none⟩ = some (V 2) := kU
              have fU : w3.frozen? ⟨gr, 0, none⟩ = false := fU
              have hO := F3.own 2 (by omega)
              have hgl : gr < w3.drew.heap.size := F3.lt.2
              have hng : ¬ blk (V 2) gr := fun h => (F3.off 2 (by omega) gr h).2.1 rfl
              have hfit : (z 2).length + (st.read 0 n).2.1.length ≤ 70368744177664 := by
                have h1 := htr3.asks.1.1
                have h2 := small_of GB.l1 (by omega)
                rw [List.length_append] at h1
                omega
              have nb2 := nbx 2 (by omega)
              have F3' : Hid (Four w3.drew w.heap.size gs gr S3 V z) := F3
              obtain ⟨a2, cp2, hv2, _, _⟩ := hO.sl.form
              rw [hv2] at kU hO hng nb2
              clear F3
              go_wp2_with fail
              go_region_law (refine step_append_bytes (by rfl) (.tmp 85) (.tmp 86) (by rfl) Tryd.bytes (by rfl) (by rfl) hO hV3' hfit ?_; intro v4 w4 ho4 T4 hb4; have c4 := T4.cell (p := ⟨gr, 0, none⟩) kU hng; have r4 := T4.cell (p := ⟨wr.heap.size, 1, none⟩) r1 nb2; have f4 := (T4.frozen (p := ⟨gr, 0, none⟩) hgl hng).trans fU; obtain ⟨a4, cap4, rfl, _, _⟩ := ho4.sl.form)
              all_goals
                go_wp2
                go_meet
                rw [List.length_append] at ho4 hb4
                refine ⟨S3, _, _, _, four_gone (i := 2) (by omega) hm3' hok3 F3'.out (fun q hq => (hS3 q hq).elim (GB.bS q) (fun h => Nat.le_trans GB.below.size h)) ?b ho4 (by rw [hv2]; exact T4) (by rw [hv2]; exact hb4) ?t ?l0 ?l1⟩
                case b => exact GB.below.trans ((T3.trans (Turned.drew S3 w3) hS3).below GB.below.size GB.bS)
                case t => exact htr3
                case l0 => exact grown GB.l0
                case l1 => exact grown GB.l1
            by_cases k5 : k = 5
            · subst k5
              go_wp2_with fail
              refine (I.brk GB.mem GB.ok).mono ?_
              rintro ev w3 ⟨v3, S3, rfl, he3, hm3, T3, hS3⟩
              go_wp2
              go_meet
              exact ⟨_, _, _, _, (GB.call hm3 T3 hS3 (GB.ok.break) (GB.trail.break)).weaken⟩
            by_cases k6 : k = 6
            · subst k6
              go_wp2_with fail
              refine (I.close GB.mem GB.ok 0).mono ?_
              rintro ev w3 ⟨v3, S3, rfl, he3, hm3, T3, hS3⟩
              go_wp2
              go_meet
              exact ⟨_, _, _, _, (GB.call hm3 T3 hS3 (GB.ok.close 0) (GB.trail.close 0)).weaken⟩
            have k1 : (k == 1) = false := by simpa using k1
            have k2 : (k == 2) = false := by simpa using k2
            have k3 : (k == 3) = false := by simpa using k3
            have k4 : (k == 4) = false := by simpa using k4
            have k5 : (k == 5) = false := by simpa using k5
            have k6 : (k == 6) = false := by simpa using k6
            go_wp2
            go_meet
            exact ⟨_, _, _, _, GB.weaken⟩
          case rest =>
            obtain ⟨S', st', V', z', G'⟩ := hcut
            clear d0 d1 d2 d3 d4 G GB hx
            obtain ⟨c0, _⟩ := G'.four.cell 0 (by omega)
            obtain ⟨c1, _⟩ := G'.four.cell 1 (by omega)
            obtain ⟨c2, _⟩ := G'.four.cell 2 (by omega)
            obtain ⟨c3, _⟩ := G'.four.cell 3 (by omega)
            have s0 := (G'.four.own 0 (by omega)).sl
            have s1 := (G'.four.own 1 (by omega)).sl
            have s2 := (G'.four.own 2 (by omega)).sl
            have s3 := (G'.four.own 3 (by omega)).sl
            obtain ⟨⟨h21, t21⟩, ⟨h30, t30⟩⟩ := G'.trail.asks
            obtain ⟨a0, cp0, v0, b0, _⟩ := s0.form
            obtain ⟨a1, cp1, v1, b1, _⟩ := s1.form
            obtain ⟨a2, cp2, v2, b2, _⟩ := s2.form
            obtain ⟨a3, cp3, v3, b3, _⟩ := s3.form
            rw [v0] at c0 s0
            rw [v1] at c1 s1
            rw [v2] at c2 s2
            rw [v3] at c3 s3
            have c0 : wc.cell? ⟨gs, 0, none⟩ = some (.slice a0 (z' 0).length cp0) := c0
            have c1 : wc.cell? ⟨gs, 1, none⟩ = some (.slice a1 (z' 1).length cp1) := c1
            have c2 : wc.cell? ⟨gr, 0, none⟩ = some (.slice a2 (z' 2).length cp2) := c2
            have c3 : wc.cell? ⟨gr, 1, none⟩ = some (.slice a3 (z' 3).length cp3) := c3
            have x1 := s1.take h21
            rw [t21] at x1
            have x0 := s0.take h30
            rw [t30] at x0
            have cv2 : ∀ m : Nat, (convert 29 9 (.slice a2 (z' 2).length cp2)).run Tryd.prog (wc.drewN m) = .ok (.string (strOfNums (z' 2))) (wc.drewN m) := fun m => (s2.turned (Turned.ofBelow' ⟨rfl, rfl, rfl, Nat.le_refl _, fun _ _ => rfl⟩ : Turned (fun _ => False) wc (wc.drewN m)) (fun _ _ h => h)).str
            have cv1 : ∀ m : Nat, (convert 29 9 (.slice a1 (z' 2).length cp1)).run Tryd.prog (wc.drewN m) = .ok (.string (strOfNums (z' 2))) (wc.drewN m) := fun m => (x1.turned (Turned.ofBelow' ⟨rfl, rfl, rfl, Nat.le_refl _, fun _ _ => rfl⟩ : Turned (fun _ => False) wc (wc.drewN m)) (fun _ _ h => h)).str
            have cv3 : ∀ m : Nat, (convert 29 9 (.slice a3 (z' 3).length cp3)).run Tryd.prog (wc.drewN m) = .ok (.string (strOfNums (z' 3))) (wc.drewN m) := fun m => (s3.turned (Turned.ofBelow' ⟨rfl, rfl, rfl, Nat.le_refl _, fun _ _ => rfl⟩ : Turned (fun _ => False) wc (wc.drewN m)) (fun _ _ h => h)).str
            have cv0 : ∀ m : Nat, (convert 29 9 (.slice a0 (z' 3).length cp0)).run Tryd.prog (wc.drewN m) = .ok (.string (strOfNums (z' 3))) (wc.drewN m) := fun m => (x0.turned (Turned.ofBelow' ⟨rfl, rfl, rfl, Nat.le_refl _, fun _ _ => rfl⟩ : Turned (fun _ => False) wc (wc.drewN m)) (fun _ _ h => h)).str
            have hd1 : decide (((z' 1).length : Int) < ((z' 2).length : Int)) = false := by simp; omega
            have hd0 : decide (((z' 0).length : Int) < ((z' 3).length : Int)) = false := by simp; omega
            have hn1 : decide ((z' 1).length < (z' 2).length) = false := by simp; omega
            have hn0 : decide ((z' 0).length < (z' 3).length) = false := by simp; omega
            have p2 : (0 : Int) ≤ ((z' 2).length : Int) := by omega
            have p3 : (0 : Int) ≤ ((z' 3).length : Int) := by omega
            have q1 : ((z' 2).length : Int) ≤ (cp1 : Int) := by omega
            have q0 : ((z' 3).length : Int) ≤ (cp0 : Int) := by omega
            have hw0 : IntKind.i64.wrap 0 = 0 := by decide
            have hw1 : IntKind.i64.wrap 1 = 1 := by decide
            have HG : Hid (Gone I w sb gs gr (j + 1) wc S' st' V' z') := G'
            clear G' s0 s1 s2 s3 x0 x1 v0 v1 v2 v3 t21 t30 h21 h30 b0 b1 b2 b3
            generalize (z' 0).length = L0 at c0 hd0 hn0
            generalize (z' 1).length = L1 at c1 hd1 hn1
            generalize (z' 2).length = L2 at c2 cv2 cv1 hd1 hn1 p2 q1
            generalize (z' 3).length = L3 at c3 cv3 cv0 hd0 hn0 p3 q0
            generalize strOfNums (z' 2) = T2 at cv2 cv1
            generalize strOfNums (z' 3) = T3 at cv3 cv0
            go_wp2_with fail
            refine wp_loop_rounds 3 ?_
            rw [rounds_succ]
            go_wp2_with fail
            go_quiet (fail)
            go_wp2_with fail
            rw [rounds_succ]
            go_wp2_with fail
            go_quiet (fail)
            go_wp2_with fail
            rw [rounds_succ]
            go_wp2
            go_roundw
            case rel => exact ⟨j + 1, by omega, by go_num, _, _, _, _, HG.out.next ⟨rfl, rfl, rfl, Nat.le_refl _, fun _ _ => rfl⟩⟩
            case measure => simp [intOf]; omega
        · go_upto_block 2 with fail
          go_cut [8, 9] from 32 to 98 (fun v8 v9 wc => ∃ S' st' V' z', Gone I w sb gs gr (j + 1) wc S' st' V' z')
          case first =>
            have q0 : (wr.alloc (.cells #[.int .i64 k, .int .i64 1, .int .i64 n, .bool y, .slice ax bs.length capx] 31)).cell? ⟨wr.heap.size, 0, none⟩ = some (.int .i64 k) := by simp
            have hno : ¬ S wr.heap.size := fun h => by have := I.lt G.mem _ h; omega
            have nbx : ∀ i, i < 4 → ¬ blk (V i) wr.heap.size := fun i hi h => Nat.lt_irrefl _ ((G.four.own i hi).blk_lt _ h)
            have hxS : bs ≠ [] → ∀ q, blk (.slice ax bs.length capx) q → ¬ S q := fun hne q hq hs => by have h1 := hx.lt hne q hq; have h2 := G.bS q hs; omega
            have hxA : Sl (wr.alloc (.cells #[.int .i64 k, .int .i64 1, .int .i64 n, .bool y, .slice ax bs.length capx] 31)) (.slice ax bs.length capx) bs := (hx.turnedN (Turned.ofBelow' G.below) (fun _ _ _ h => h)).turnedN (Turned.alloc (fun _ => False) wr _) (fun _ _ _ h => h)
            clear d0 d1 d2 d3 d4 G
            by_cases k1 : k = 1
            · subst k1
              go_wp2_with fail
              refine (I.send GB.mem GB.ok 1 hxA (by omega) hxS).mono ?_
              rintro ev w3 ⟨v3, S3, rfl, he3, hm3, T3, hS3⟩
              have r1 := T3.cell (p := ⟨wr.heap.size, 1, none⟩) (v := .int .i64 1) (by simp) hno
              have r5 := T3.cell (p := ⟨wr.heap.size, 4, none⟩) (v := .slice ax bs.length capx) (by simp) hno
              have hok3 := GB.ok.send 1 bs
              have htr3 := GB.trail.send1 (bs := bs)
              have hx3 := hxA.turnedN T3 hxS
              by_cases hsend : (st.send 1 bs).1 = none
              · rw [if_pos hsend] at htr3
                rw [hsend] at he3
                have he3 : v3 = .nilIface := he3
                subst he3
                have hm3' : Mem w3.drew sb S3 (st.send 1 bs).2 := I.turned hm3 (Turned.drew (fun _ => False) w3) (fun _ _ h => h)
                have F3 := (GB.four.turned T3 hS3).turned (Turned.drew S3 w3) (fun _ h => .inl h)
                have hx3' : Sl w3.drew (.slice ax bs.length capx) bs := hx3.turned (Turned.drew (fun _ => False) w3) (fun _ _ h => h)
                obtain ⟨kU, fU⟩ := F3.cell 1 (by omega)
                have kU : w3.cell? ⟨gs, 1, none⟩ = some (V 1) := kU
                have fU : w3.frozen? ⟨gs, 1, none⟩ = false := fU
                have hO := F3.own 1 (by omega)
                have hgl : gs < w3.drew.heap.size := F3.lt.1
                have hng : ¬ blk (V 1) gs := fun h => (F3.off 1 (by omega) gs h).1 rfl
                have hfit : (z 1).length + bs.length ≤ 70368744177664 := by
                  have h2 := small_of GB.l1 (by omega)
                  omega
                have nb2 := nbx 1 (by omega)
                have F3' : Hid (Four w3.drew w.heap.size gs gr S3 V z) := F3
                have HX : Hid (Sl w3.drew (.slice ax bs.length capx) bs) := hx3'
                obtain ⟨a2, cp2, hv2, _, _⟩ := hO.sl.form
                rw [hv2] at kU hO hng nb2
                clear F3 hx3 hx3'
                go_wp2_with fail
                go_region_law (refine step_append_bytes (by rfl) (.tmp 48) (.tmp 50) (by rfl) Tryd.bytes (by rfl) (by rfl) hO HX.out hfit ?_; intro v4 w4 ho4 T4 hb4; have c4 := T4.cell (p := ⟨gs, 1, none⟩) kU hng; have r4 := T4.cell (p := ⟨wr.heap.size, 1, none⟩) r1 nb2; have f4 := (T4.frozen (p := ⟨gs, 1, none⟩) hgl hng).trans fU; obtain ⟨a4, cap4, rfl, _, _⟩ := ho4.sl.form)
                all_goals
                  go_wp2
                  go_meet
                  rw [List.length_append] at ho4 hb4
                  refine ⟨S3, _, _, _, four_gone (i := 1) (by omega) hm3' hok3 F3'.out (fun q hq => (hS3 q hq).elim (GB.bS q) (fun h => Nat.le_trans GB.below.size h)) ?b ho4 (by rw [hv2]; exact T4) (by rw [hv2]; exact hb4) ?t ?l0 ?l1⟩
                  case b => exact GB.below.trans ((T3.trans (Turned.drew S3 w3) hS3).below GB.below.size GB.bS)
                  case t => exact htr3
                  case l0 => exact grown GB.l0
                  case l1 => rw [upd_same, List.length_append]; exact grown_by GB.l1 hbs
              · rw [if_neg hsend] at htr3
                obtain ⟨c3, hc3⟩ := Option.ne_none_iff_exists'.1 hsend
                rw [hc3] at he3
                obtain ⟨pb, _, rfl, _⟩ := he3
                go_wp2
                go_meet
                exact ⟨_, _, _, _, (GB.call hm3 T3 hS3 hok3 htr3).weaken⟩
            by_cases k2 : k = 2
            · subst k2
              go_wp2_with fail
              refine (I.move GB.mem GB.ok 1 n).mono ?_
              rintro ev w3 ⟨v3, S3, rfl, he3, hm3, T3, hS3⟩
              go_wp2
              go_meet
              exact ⟨_, _, _, _, (GB.call hm3 T3 hS3 (GB.ok.move 1 n) (GB.trail.move 1 n)).weaken⟩
            by_cases k3 : k = 3
            · subst k3
              go_wp2_with fail
              refine (I.stall GB.mem GB.ok 1 y).mono ?_
              rintro ev w3 ⟨v3, S3, rfl, he3, hm3, T3, hS3⟩
              go_wp2
              go_meet
              exact ⟨_, _, _, _, (GB.call hm3 T3 hS3 (GB.ok.stall 1 y) (GB.trail.stall 1 y)).weaken⟩
            by_cases k4 : k = 4
            · subst k4
              go_wp2_with fail
              refine (I.read GB.mem GB.ok 1 n).mono ?_
              rintro ev w3 ⟨V3, v3, S3, rfl, he3, hV3, hm3, T3, hS3, hb3⟩
              have hm3' : Mem w3.drew sb S3 (st.read 1 n).2.2 := I.turned hm3 (Turned.drew (fun _ => False) w3) (fun _ _ h => h)
              have F3 := (GB.four.turned T3 hS3).turned (Turned.drew S3 w3) (fun _ h => .inl h)
              have hV3' : Sl w3.drew V3 (st.read 1 n).2.1 := hV3.turned (Turned.drew (fun _ => False) w3) (fun _ _ h => h)
              have r1 := T3.cell (p := ⟨wr.heap.size, 1, none⟩) (v := .int .i64 1) (by simp) hno
              have hok3 := GB.ok.read 1 n
              have htr3 := GB.trail.read1 n
              obtain ⟨kU, fU⟩ := F3.cell 3 (by omega)
              have kU : w3.cell? ⟨gr, 1, none⟩ = some (V 3) := kU
              have fU : w3.frozen? ⟨gr, 1, none⟩ = false := fU
              have hO := F3.own 3 (by omega)
              have hgl : gr < w3.drew.heap.size := F3.lt.2
              have hng : ¬ blk (V 3) gr := fun h => (F3.off 3 (by omega) gr h).2.1 rfl
              have hfit : (z 3).length + (st.read 1 n).2.1.length ≤ 70368744177664 := by
                have h1 := htr3.asks.2.1
                have h2 := small_of GB.l0 (by omega)
                rw [List.length_append] at h1
                omega
              have nb2 := nbx 3 (by omega)
              have F3' : Hid (Four w3.drew w.heap.size gs gr S3 V z) := F3
              obtain ⟨a2, cp2, hv2, _, _⟩ := hO.sl.form
              rw [hv2] at kU hO hng nb2
              clear F3
              go_wp2_with fail
              go_region_law (refine step_append_bytes (by rfl) (.tmp 85) (.tmp 86) (by rfl) Tryd.bytes (by rfl) (by rfl) hO hV3' hfit ?_; intro v4 w4 ho4 T4 hb4; have c4 := T4.cell (p := ⟨gr, 1, none⟩) kU hng; have r4 := T4.cell (p := ⟨wr.heap.size, 1, none⟩) r1 nb2; have f4 := (T4.frozen (p := ⟨gr, 1, none⟩) hgl hng).trans fU; obtain ⟨a4, cap4, rfl, _, _⟩ := ho4.sl.form)
              all_goals
                go_wp2
                go_meet
                rw [List.length_append] at ho4 hb4
                refine ⟨S3, _, _, _, four_gone (i := 3) (by omega) hm3' hok3 F3'.out (fun q hq => (hS3 q hq).elim (GB.bS q) (fun h => Nat.le_trans GB.below.size h)) ?b ho4 (by rw [hv2]; exact T4) (by rw [hv2]; exact hb4) ?t ?l0 ?l1⟩
                case b => exact GB.below.trans ((T3.trans (Turned.drew S3 w3) hS3).below GB.below.size GB.bS)
                case t => exact htr3
                case l0 => exact grown GB.l0
                case l1 => exact grown GB.l1
            by_cases k5 : k = 5
            · subst k5
              go_wp2_with fail
              refine (I.brk GB.mem GB.ok).mono ?_
              rintro ev w3 ⟨v3, S3, rfl, he3, hm3, T3, hS3⟩
              go_wp2
              go_meet
              exact ⟨_, _, _, _, (GB.call hm3 T3 hS3 (GB.ok.break) (GB.trail.break)).weaken⟩
            by_cases k6 : k = 6
            · subst k6
              go_wp2_with fail
              refine (I.close GB.mem GB.ok 1).mono ?_
              rintro ev w3 ⟨v3, S3, rfl, he3, hm3, T3, hS3⟩
              go_wp2
              go_meet
              exact ⟨_, _, _, _, (GB.call hm3 T3 hS3 (GB.ok.close 1) (GB.trail.close 1)).weaken⟩
            have k1 : (k == 1) = false := by simpa using k1
            have k2 : (k == 2) = false := by simpa using k2
            have k3 : (k == 3) = false := by simpa using k3
            have k4 : (k == 4) = false := by simpa using k4
            have k5 : (k == 5) = false := by simpa using k5
            have k6 : (k == 6) = false := by simpa using k6
            go_wp2
            go_meet
            exact ⟨_, _, _, _, GB.weaken⟩
          case rest =>
            obtain ⟨S', st', V', z', G'⟩ := hcut
            clear d0 d1 d2 d3 d4 G GB hx
            obtain ⟨c0, _⟩ := G'.four.cell 0 (by omega)
            obtain ⟨c1, _⟩ := G'.four.cell 1 (by omega)
            obtain ⟨c2, _⟩ := G'.four.cell 2 (by omega)
            obtain ⟨c3, _⟩ := G'.four.cell 3 (by omega)
            have s0 := (G'.four.own 0 (by omega)).sl
            have s1 := (G'.four.own 1 (by omega)).sl
            have s2 := (G'.four.own 2 (by omega)).sl
            have s3 := (G'.four.own 3 (by omega)).sl
            obtain ⟨⟨h21, t21⟩, ⟨h30, t30⟩⟩ := G'.trail.asks
            obtain ⟨a0, cp0, v0, b0, _⟩ := s0.form
            obtain ⟨a1, cp1, v1, b1, _⟩ := s1.form
            obtain ⟨a2, cp2, v2, b2, _⟩ := s2.form
            obtain ⟨a3, cp3, v3, b3, _⟩ := s3.form
            rw [v0] at c0 s0
            rw [v1] at c1 s1
            rw [v2] at c2 s2
            rw [v3] at c3 s3
            have c0 : wc.cell? ⟨gs, 0, none⟩ = some (.slice a0 (z' 0).length cp0) := c0
            have c1 : wc.cell? ⟨gs, 1, none⟩ = some (.slice a1 (z' 1).length cp1) := c1
            have c2 : wc.cell? ⟨gr, 0, none⟩ = some (.slice a2 (z' 2).length cp2) := c2
            have c3 : wc.cell? ⟨gr, 1, none⟩ = some (.slice a3 (z' 3).length cp3) := c3
            have x1 := s1.take h21
            rw [t21] at x1
            have x0 := s0.take h30
            rw [t30] at x0
            have cv2 : ∀ m : Nat, (convert 29 9 (.slice a2 (z' 2).length cp2)).run Tryd.prog (wc.drewN m) = .ok (.string (strOfNums (z' 2))) (wc.drewN m) := fun m => (s2.turned (Turned.ofBelow' ⟨rfl, rfl, rfl, Nat.le_refl _, fun _ _ => rfl⟩ : Turned (fun _ => False) wc (wc.drewN m)) (fun _ _ h => h)).str
            have cv1 : ∀ m : Nat, (convert 29 9 (.slice a1 (z' 2).length cp1)).run Tryd.prog (wc.drewN m) = .ok (.string (strOfNums (z' 2))) (wc.drewN m) := fun m => (x1.turned (Turned.ofBelow' ⟨rfl, rfl, rfl, Nat.le_refl _, fun _ _ => rfl⟩ : Turned (fun _ => False) wc (wc.drewN m)) (fun _ _ h => h)).str
            have cv3 : ∀ m : Nat, (convert 29 9 (.slice a3 (z' 3).length cp3)).run Tryd.prog (wc.drewN m) = .ok (.string (strOfNums (z' 3))) (wc.drewN m) := fun m => (s3.turned (Turned.ofBelow' ⟨rfl, rfl, rfl, Nat.le_refl _, fun _ _ => rfl⟩ : Turned (fun _ => False) wc (wc.drewN m)) (fun _ _ h => h)).str
            have cv0 : ∀ m : Nat, (convert 29 9 (.slice a0 (z' 3).length cp0)).run Tryd.prog (wc.drewN m) = .ok (.string (strOfNums (z' 3))) (wc.drewN m) := fun m => (x0.turned (Turned.ofBelow' ⟨rfl, rfl, rfl, Nat.le_refl _, fun _ _ => rfl⟩ : Turned (fun _ => False) wc (wc.drewN m)) (fun _ _ h => h)).str
            have hd1 : decide (((z' 1).length : Int) < ((z' 2).length : Int)) = false := by simp; omega
            have hd0 : decide (((z' 0).length : Int) < ((z' 3).length : Int)) = false := by simp; omega
            have hn1 : decide ((z' 1).length < (z' 2).length) = false := by simp; omega
            have hn0 : decide ((z' 0).length < (z' 3).length) = false := by simp; omega
            have p2 : (0 : Int) ≤ ((z' 2).length : Int) := by omega
            have p3 : (0 : Int) ≤ ((z' 3).length : Int) := by omega
            have q1 : ((z' 2).length : Int) ≤ (cp1 : Int) := by omega
            have q0 : ((z' 3).length : Int) ≤ (cp0 : Int) := by omega
            have hw0 : IntKind.i64.wrap 0 = 0 := by decide
            have hw1 : IntKind.i64.wrap 1 = 1 := by decide
            have HG : Hid (Gone I w sb gs gr (j + 1) wc S' st' V' z') := G'
            clear G' s0 s1 s2 s3 x0 x1 v0 v1 v2 v3 t21 t30 h21 h30 b0 b1 b2 b3
            generalize (z' 0).length = L0 at c0 hd0 hn0
            generalize (z' 1).length = L1 at c1 hd1 hn1
            generalize (z' 2).length = L2 at c2 cv2 cv1 hd1 hn1 p2 q1
            generalize (z' 3).length = L3 at c3 cv3 cv0 hd0 hn0 p3 q0
            generalize strOfNums (z' 2) = T2 at cv2 cv1
            generalize strOfNums (z' 3) = T3 at cv3 cv0
            go_wp2_with fail
            refine wp_loop_rounds 3 ?_
            rw [rounds_succ]
            go_wp2_with fail
            go_quiet (fail)
            go_wp2_with fail
            rw [rounds_succ]
            go_wp2_with fail
            go_quiet (fail)
            go_wp2_with fail
            rw [rounds_succ]
            go_wp2
            go_roundw
            case rel => exact ⟨j + 1, by omega, by go_num, _, _, _, _, HG.out.next ⟨rfl, rfl, rfl, Nat.le_refl _, fun _ _ => rfl⟩⟩
            case measure => simp [intOf]; omega
    · have hge : ¬ (j : Int) < (len : Int) := by omega
      go_wp2_with fail
      refine (alive_any I _ (her.below G.below)).mono ?_
      rintro ev w5 ⟨rfl, hb5⟩
      go_wp2
      go_ret
      exact ⟨rfl, G.below.trans (hb5.mono G.below.size)⟩
end Go.Proofs.YtjkmklbkemoldaaDoor
