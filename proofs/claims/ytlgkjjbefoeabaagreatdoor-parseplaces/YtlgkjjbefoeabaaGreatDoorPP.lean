/-
  Layer 11 (parse): the program's functions.
-/
import Derived.Test.YtlgkjjbefoeabaaGreatDoorPO
namespace Go.Proofs.YtlgkjjbefoeabaaGreatDoor
open Go.RowKit

theorem nds_get : ∀ (L : List Nd) (i : Nat) (h : i < L.length) (q : Nat), q < 6 → (nds L)[i * 6 + q]? = L[i].cells[q]?
  | t :: r, 0, _, q, hq => by
    show (Nd.cells t ++ nds r)[0 * 6 + q]? = _
    rw [Nat.zero_mul, Nat.zero_add, List.getElem?_append_left (by simpa [Nd.cells] using hq)]
    rfl
  | t :: r, i + 1, h, q, hq => by
    have ih := nds_get r i (by simpa using h) q hq
    have e : (i + 1) * 6 + q = (i * 6 + q) + 6 := by omega
    rw [e]
    show (Nd.cells t ++ nds r)[i * 6 + q + 6]? = _
    rw [List.getElem?_append_right (by simp [Nd.cells])]
    simp only [Nd.cells, List.length_cons, List.length_nil, Nat.zero_add, Nat.reduceAdd, Nat.add_sub_cancel]
    exact ih
/-- Where a node lies. -/
theorem PAt.node {w : World} {g : Nat} {Tv : Value} {T : List Tk} {i : Nat} {Nv : Value} {N : List Nd} (h : PAt w g Tv T i Nv N) (j : Nat) (hj : j < N.length) : ∃ b off cap, Nv = .slice (some ⟨b, off, none⟩) N.length cap ∧ w.cell? ⟨b, off + j * 6, none⟩ = some (.int .i64 N[j].kind) ∧ w.cell? ⟨b, off + j * 6 + 1, none⟩ = some (.string N[j].text) ∧ w.cell? ⟨b, off + j * 6 + 2, none⟩ = some (.string N[j].mod) ∧ w.cell? ⟨b, off + j * 6 + 3, none⟩ = some (.int .i64 N[j].num) ∧ w.cell? ⟨b, off + j * 6 + 4, none⟩ = some N[j].kv ∧ w.cell? ⟨b, off + j * 6 + 5, none⟩ = some (.int .i64 N[j].at_) := by
  obtain ⟨b, off, cap, e, _, _, hc⟩ := h.own.sl.at j hj
  have c : ∀ q, q < 6 → w.cell? ⟨b, off + j * 6 + q, none⟩ = N[j].cells[q]? := fun q hq => (hc q hq).1.trans (nds_get N j hj q hq)
  exact ⟨b, off, cap, e, c 0 (by decide), c 1 (by decide), c 2 (by decide), c 3 (by decide), c 4 (by decide), c 5 (by decide)⟩
/-- A first number. -/
theorem SlI.head {w : World} {v : Value} {x : Int} {l : List Int} (h : SlI w v (x :: l)) : ∃ b off cap, v = .slice (some ⟨b, off, none⟩) (l.length + 1) cap ∧ w.cell? ⟨b, off, none⟩ = some (.int .i64 x) := by
  obtain ⟨_, ⟨_, h0⟩ | ⟨b, off, cap, e, _, _, hc⟩⟩ := h
  · simp at h0
  · exact ⟨b, off, cap, e, hc 0 (by simp [ints])⟩
set_option maxRecDepth 100000 in
set_option maxHeartbeats 6400000 in
theorem ps_function (b0 : Nat) (hbB : b0 ≤ 400) (T : List Tk) (i j : Nat) (hj : j < T.length) (M : Nat → List Sh) (r : Nat → Nat) (hM : ∀ n, (M n).length ≤ 200) (hE : Phrase b0 121 [] T i j M r) (hs : isTk 5 ⟨#[59]⟩ (tokAt T j) = false) (hd : (tokAt T j).kind = 6)
    (cs ag : Nat → Sh) (a : Nat → Nat) (more : Nat → List Int) (hc : ∀ n, (M n)[r n - n]? = some (cs n) ∧ n ≤ r n ∧ (cs n).kids = (a n : Int) :: more n ∧ n ≤ a n ∧ (M n)[a n - n]? = some (ag n)) :
    Phrase b0 100 [] T i (j + 1) (fun n => M n ++ [⟨26, (cs n).text, ⟨#[]⟩, ((ag n).kids.length : Int), [(r n : Int)], (tokAt T i).at_⟩]) (fun n => n + (M n).length) := by
  intro w g Tv Nv N h hN
  show Calls Tryz.prog 100 #[.pointer (some ⟨g, 0, none⟩)] w _
  have hT : 0 < T.length := by omega
  have hp := ps_peek h
  have H := Hid.mk7 h
  have hfa := Tryz.tokPlace
  have hmf := Tryz.makeFn
  obtain ⟨hc1, hrn, hc2, han, hc3⟩ := hc N.length
  generalize hcs : cs N.length = cN at hc1 hc2
  generalize has : ag N.length = aN at hc3
  unfold ReadTo
  simp only [hcs, has]
  generalize tokAt T i = t at hp ⊢
  obtain ⟨tk, tt, tn, ta⟩ := t
  simp only [Tk.val] at hp
  simp only
  clear h hc hcs has
  go_enter Tryz.func100, Tryz.ntmps100
  go_wp2_with fail
  refine hp.mono ?_
  rintro x w1 ⟨rfl, hb1⟩
  have hr := ps_row_fun b0 (by omega) T i j M r hE ⟨#[59]⟩ hs (H.out.below hb1) hN
  unfold RowTo at hr
  have HB1 := Hid.mk7 hb1
  clear hp hb1
  go_wp2_with fail
  refine hr.mono ?_
  rintro x w2 ⟨V, rfl, Nv2, M2, e2, o2, p2, S2, k2, v2⟩
  have hM2 : M2.length = (M N.length).length := by have := congrArg List.length e2; simpa using this
  have hMl := hM N.length
  -- the clause and its arguments
  have hrl : r N.length - N.length < (M N.length).length := (List.getElem?_eq_some_iff.1 hc1).1
  have hal : a N.length - N.length < (M N.length).length := (List.getElem?_eq_some_iff.1 hc3).1
  have hrL : r N.length < (N ++ M2).length := by simp; omega
  have haL : a N.length < (N ++ M2).length := by simp; omega
  have er : ((N ++ M2)[r N.length]'hrL).sh = cN := by
    have : ((N ++ M2)[r N.length]'hrL) = M2[r N.length - N.length]'(by omega) := by rw [List.getElem_append_right hrn]
    rw [this]
    have h1 : (M2.map Nd.sh)[r N.length - N.length]? = some cN := by rw [e2]; exact hc1
    rw [List.getElem?_map, List.getElem?_eq_getElem (by omega)] at h1
    exact Option.some.inj h1
  have ea : ((N ++ M2)[a N.length]'haL).sh = aN := by
    have : ((N ++ M2)[a N.length]'haL) = M2[a N.length - N.length]'(by omega) := by rw [List.getElem_append_right han]
    rw [this]
    have h1 : (M2.map Nd.sh)[a N.length - N.length]? = some aN := by rw [e2]; exact hc3
    rw [List.getElem?_map, List.getElem?_eq_getElem (by omega)] at h1
    exact Option.some.inj h1
  obtain ⟨b, off, cap, hNv, d0, d1, d2, d3, d4, d5⟩ := p2.node (r N.length) hrL
  obtain ⟨b', off', cap', hNv', u0, u1, u2, u3, d4', u5⟩ := p2.node (a N.length) haL
  obtain ⟨rfl, rfl, rfl⟩ : b = b' ∧ off = off' ∧ cap = cap' := by rw [hNv] at hNv'; simp at hNv'; exact ⟨hNv'.1.1, hNv'.1.2, hNv'.2⟩
  clear hNv' u0 u1 u2 u3 u5
  have kc := (p2.kid (r N.length) hrL).1
  have ka := (p2.kid (a N.length) haL).1
  generalize hxr : (N ++ M2)[r N.length]'hrL = xr at d0 d1 d2 d3 d4 d5 er kc
  generalize hxa : (N ++ M2)[a N.length]'haL = xa at d4' ea ka
  obtain ⟨xk, xt, xm, xn, xv, xl, xp⟩ := xr
  obtain ⟨yk, yt, ym, yn, yv, yl, yp⟩ := xa
  subst er
  subst ea
  simp only [Nd.sh] at hc2
  simp only at d0 d1 d2 d3 d4 d5 d4' kc ka
  rw [hc2] at kc
  obtain ⟨bc, oc, cc, hxv, e0⟩ := SlI.head kc
  subst hxv
  obtain ⟨ay, cy, hyv⟩ := SlI.form ka
  subst hyv
  obtain ⟨bv, ov, cv, hV, v0⟩ := SlI.head k2.sl
  subst hV
  have hb : b < w2.heap.size := World.block_lt_of_cell? w2 _ d0
  have hbc : bc < w2.heap.size := World.block_lt_of_cell? w2 _ e0
  have hbv : bv < w2.heap.size := World.block_lt_of_cell? w2 _ v0
  have g2 := p2.c2.1
  rw [hNv] at g2
  have hgl := p2.lt
  have hri : (r N.length : Int) < ((N ++ M2).length : Int) := by omega
  have hai : (a N.length : Int) < ((N ++ M2).length : Int) := by omega
  have H2 := Hid.mk7 (And.intro e2 (And.intro o2 (And.intro p2 (And.intro S2 (And.intro k2 v2)))))
  clear hr e2 o2 p2 S2 k2 v2 kc ka hxr hxa hc1 hc3
  have hLe : (N ++ M2).length = N.length + (M N.length).length := by simp; omega
  generalize hLN : (N ++ M2).length = LN at hri hai g2 hNv
  generalize hR : r N.length = R at d0 d1 d2 d3 d4 d5 hri v0
  generalize hA : a N.length = A at d4' hai e0
  go_wp2_with fail
  go_region
  all_goals
    go_wp2_with fail
    go_region
  all_goals
    go_wp2_with fail
  obtain ⟨e2, o2, p2, S2, k2, v2⟩ := H2.out
  have T0 := ((Turned.alloc (fun k => k = g) (w2.alloc (.cells #[.int .i64 26, .string xt, .string ⟨#[]⟩, .int .i64 (yl.length : Int), .slice (some ⟨bv, ov, none⟩) 1 cv, .int .i64 ta] 47)) (.cells #[.int .i64 xk, .string xt, .string xm, .int .i64 xn, .slice (some ⟨bc, oc, none⟩) ((more N.length).length + 1) cc, .int .i64 xp] 47)).trans (Turned.drew (fun _ => False) _) (fun _ e => e.elim)).trans (Turned.drew (fun _ => False) _) (fun _ e => e.elim)
  have B5 := (((Below.alloc0 w2 (.cells #[.int .i64 26, .string xt, .string ⟨#[]⟩, .int .i64 (yl.length : Int), .slice (some ⟨bv, ov, none⟩) 1 cv, .int .i64 ta] 47)).trans ((Below.alloc0 _ (.cells #[.int .i64 xk, .string xt, .string xm, .int .i64 xn, .slice (some ⟨bc, oc, none⟩) ((more N.length).length + 1) cc, .int .i64 xp] 47)).mono (by simp))).drew).drew
  have p5 := p2.below B5
  have hk5 := ps_kind p5 hj 6 hd
  unfold Took at hk5
  generalize tokAt T j = tj at hk5
  obtain ⟨jk, jt, jn, ja⟩ := tj
  simp only [Tk.val] at hk5
  have HQ := Hid.mk7 (And.intro T0 B5)
  clear T0 B5 p5 e2 o2 p2 S2 k2 v2
  refine hk5.mono ?_
  rintro x w6 ⟨rfl, p6, T6⟩
  obtain ⟨e2, o2, p2, S2, k2, v2⟩ := H2.out
  obtain ⟨⟨n0, n1, n2, n3, n4, n5⟩, _⟩ := newNode _ _ _ _ _ _ (HQ.out.1.trans T6 (fun _ e => .inl e)) (show ¬ w2.heap.size = g by omega)
  have kk6 := (k2.below HQ.out.2).stp (Stp.ofG T6)
  have ha6 := ps_add p6 hT ⟨26, xt, ⟨#[]⟩, (yl.length : Int), .slice (some ⟨bv, ov, none⟩) 1 cv, [(r N.length : Int)], ta⟩ kk6 (by simp; omega)
  unfold Added at ha6
  simp only [Nd.val] at ha6
  have S6 := (((Stp.ofB HB1.out).trans S2).trans (Stp.ofB HQ.out.2)).trans (Stp.ofG T6)
  have H6 := Hid.mk7 (And.intro e2 (And.intro o2 (And.intro S6 v2)))
  have hz1 := HB1.out.size
  clear e2 o2 p2 S2 k2 v2 kk6 p6 T6 S6 hk5 d0 d1 d2 d3 d4 d5 d4' e0 v0 g2
  go_wp2_with fail
  refine ha6.mono ?_
  rintro x w7 ⟨rfl, Nv7, p7, S7⟩
  have H7 := Hid.mk7 (And.intro p7 S7)
  clear p7 S7 ha6 n0 n1 n2 n3 n4 n5
  go_wp2
  go_ret
  refine ⟨by simp, Nv7, M2 ++ [⟨26, xt, ⟨#[]⟩, (yl.length : Int), .slice (some ⟨bv, ov, none⟩) 1 cv, [(r N.length : Int)], ta⟩], by simp [H6.out.1, Nd.sh], fun n hn q hq => ?_, by simpa [List.append_assoc] using H7.out.1, H6.out.2.2.1.trans H7.out.2⟩
  simp only [List.mem_append, List.mem_cons, List.not_mem_nil, or_false] at hn
  rcases hn with hn | rfl
  · exact Nat.le_trans hz1 (H6.out.2.1 n hn q hq)
  · exact Nat.le_trans hz1 (H6.out.2.2.2 q hq)
end Go.Proofs.YtlgkjjbefoeabaaGreatDoor
