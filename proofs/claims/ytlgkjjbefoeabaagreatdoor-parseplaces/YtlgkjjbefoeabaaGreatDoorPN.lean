/-
  Layer 11 (parse): the program's clauses of functions.
-/
import Derived.Test.YtlgkjjbefoeabaaGreatDoorPM
namespace Go.Proofs.YtlgkjjbefoeabaaGreatDoor
open Go.RowKit

theorem Tryz.intTypes : ElTypes Tryz.prog 45 3 1 8 (.int .i64 0) := by
  refine ⟨Tryz.underlying45, ?_, by simp [Value.cells]⟩
  have h : (Tryz.prog.info? 3).map (fun i => (i.zero, i.size, i.bytes)) = some (some (.int .i64 0), 1, 8) := by kernel_rfl
  obtain ⟨i, hi, h0, h1, h2⟩ := info_parts h
  exact ⟨i, hi, h0, h1, h2⟩
/-- Numbers that may be appended to. -/
def OwnI (w : World) (v : Value) (l : List Int) : Prop := OwnK 1 w v l.length (ints l)
theorem ints_one (l : List Int) : ∀ u ∈ ints l, u.oneCell' = true := by
  intro u hu
  obtain ⟨z, _, rfl⟩ := List.mem_map.1 hu
  rfl
theorem OwnI.snoc {w : World} {v : Value} {l : List Int} {x : Int} (h : OwnK 1 w v (l.length + 1) (ints l ++ ints [x])) : OwnI w v (l ++ [x]) := by
  unfold OwnI
  simpa [ints] using h
/-- A node in a block of one's own, another block made behind it. -/
theorem newNode2 {S : Nat → Prop} {w w1 : World} {a b c d e f : Value} {o : Obj} (T : Turned S ((w.alloc (.cells #[a, b, c, d, e, f] 47)).alloc o) w1) (hs : ¬ S w.heap.size := by exact fun h => h) :
    (w1.cell? ⟨w.heap.size, 0, none⟩ = some a ∧ w1.cell? ⟨w.heap.size, 1, none⟩ = some b ∧ w1.cell? ⟨w.heap.size, 2, none⟩ = some c ∧ w1.cell? ⟨w.heap.size, 3, none⟩ = some d ∧ w1.cell? ⟨w.heap.size, 4, none⟩ = some e ∧ w1.cell? ⟨w.heap.size, 5, none⟩ = some f) ∧ ∀ j, w1.frozen? ⟨w.heap.size, j, none⟩ = false :=
  newNode a b c d e f ((Turned.alloc S _ o).trans T (fun _ e => .inl e)) hs
theorem Free.step {w w' : World} {g : Nat} {Tv Nv Nv' : Value} {N M : List Nd} {q : Nat} (f : Free w g Tv Nv N q) (hq : q < w.heap.size) (S : Stp g Nv Nv' w w') (o : ∀ n ∈ M, ∀ k, blk n.kv k → w.heap.size ≤ k) : Free w' g Tv Nv' (N ++ M) q :=
  ⟨f.g, f.t, fun e => (S.n q e).elim f.n (fun e => by omega), fun j hj e => by
    by_cases hjn : j < N.length
    · rw [List.getElem_append_left hjn] at e
      exact f.k j hjn e
    · rw [List.getElem_append_right (by omega)] at e
      have := o _ (List.getElem_mem _) _ e
      omega⟩
/-- A node that is being made in a block of one's own: its Kids so far. -/
structure Making (w : World) (g : Nat) (Tv Nv : Value) (N : List Nd) (q : Nat) (nk : Int) (nt nm : ByteArray) (nn : Int) (V : Value) (l : List Int) (na : Int) : Prop where
  n0 : w.cell? ⟨q, 0, none⟩ = some (.int .i64 nk)
  n1 : w.cell? ⟨q, 1, none⟩ = some (.string nt)
  n2 : w.cell? ⟨q, 2, none⟩ = some (.string nm)
  n3 : w.cell? ⟨q, 3, none⟩ = some (.int .i64 nn)
  n4 : w.cell? ⟨q, 4, none⟩ = some V
  n5 : w.cell? ⟨q, 5, none⟩ = some (.int .i64 na)
  fz : ∀ j, w.frozen? ⟨q, j, none⟩ = false
  own : OwnI w V l
  qv : ¬ blk V q
  fq : Free w g Tv Nv N q
  fv : ∀ k, blk V k → Free w g Tv Nv N k
section
variable {w w' : World} {g : Nat} {Tv Nv Nv' : Value} {N M : List Nd} {q : Nat} {nk : Int} {nt nm : ByteArray} {nn : Int} {V : Value} {l : List Int} {na : Int}
theorem Making.lt (h : Making w g Tv Nv N q nk nt nm nn V l na) : q < w.heap.size := World.block_lt_of_cell? w _ h.n0
theorem Making.step (h : Making w g Tv Nv N q nk nt nm nn V l na) (S : Stp g Nv Nv' w w') (o : ∀ n ∈ M, ∀ k, blk n.kv k → w.heap.size ≤ k) : Making w' g Tv Nv' (N ++ M) q nk nt nm nn V l na := by
  have hs : ¬ (q = g ∨ blk Nv q) := fun e => e.elim h.fq.g h.fq.n
  exact ⟨S.t.cell h.n0 hs, S.t.cell h.n1 hs, S.t.cell h.n2 hs, S.t.cell h.n3 hs, S.t.cell h.n4 hs, S.t.cell h.n5 hs, fun j => by rw [S.t.frozen (p := ⟨q, j, none⟩) h.lt hs]; exact h.fz j, OwnK.turned h.own S.t (fun k hk e => e.elim (h.fv k hk).g (h.fv k hk).n), h.qv, h.fq.step h.lt S o, fun k hk => (h.fv k hk).step (OwnK.blk_lt h.own k hk) S o⟩
theorem Making.stepN (h : Making w g Tv Nv N q nk nt nm nn V l na) (S : Stp g Nv Nv' w w') : Making w' g Tv Nv' N q nk nt nm nn V l na := by
  have := h.step (M := []) S (fun _ hn => by cases hn)
  simpa using this
theorem Making.kid (h : Making w g Tv Nv N q nk nt nm nn V l na) : KidOk w g Nv V l := ⟨OwnK.sl h.own, fun k hk => ⟨(h.fv k hk).g, (h.fv k hk).n, OwnK.blk_lt h.own k hk⟩⟩
theorem PAt.offS {S : Nat → Prop} {w0 : World} {T : List Tk} {i : Nat} (h : PAt w g Tv T i Nv N) (f : ∀ k, S k → Free w0 g Tv Nv N k) (ht : Turned S w w') : PAt w' g Tv T i Nv N :=
  h.turned ht (fun e => (f g e).g rfl) (fun k hk e => (f k e).t hk) (fun k hk e => (f k e).n hk) (fun j hj k hk e => (f k e).k j hj hk)
theorem Stp.mine {w0 : World} {N0 : Value} (S : Stp g N0 Nv w0 w) (T : Turned (fun k => w0.heap.size ≤ k) w w') : Stp g N0 Nv w0 w' := ⟨S.t.trans T (fun _ e => .inr e), S.n⟩
theorem Making.new {T : List Tk} {i : Nat} (h : PAt w g Tv T i Nv N) (hT : 0 < T.length) (nk : Int) (nt nm : ByteArray) (nn na : Int) : Making (w.alloc (.cells #[.int .i64 nk, .string nt, .string nm, .int .i64 nn, .slice none 0 0, .int .i64 na] 47)) g Tv Nv N w.heap.size nk nt nm nn (.slice none 0 0) [] na := by
  obtain ⟨⟨n0, n1, n2, n3, n4, n5⟩, nf⟩ := newNode (w := w) (.int .i64 nk) (.string nt) (.string nm) (.int .i64 nn) (.slice none 0 0) (.int .i64 na) (Turned.refl (fun _ => False) _) (fun e => e)
  have f := h.free hT w.heap.size (Nat.le_refl _)
  exact ⟨n0, n1, n2, n3, n4, n5, nf, OwnK.nil 1 _, fun e => e, ⟨f.g, f.t, f.n, f.k⟩, fun _ e => e.elim⟩
/-- One more Kid. -/
theorem Making.more {w1 w2 : World} {V' : Value} {x : Int} {T : List Tk} {i : Nat} (h : Making w g Tv Nv N q nk nt nm nn V l na) (hp : PAt w g Tv T i Nv N) (hT : 0 < T.length) (hb : Below w.heap.size w w1) (ho : OwnK 1 w2 V' (l.length + 1) (ints l ++ ints [x])) (Tt : Turned (blk V) w1 w2) (hv : ∀ k, blk V' k → blk V k ∨ k = w1.heap.size) :
    Making (w2.setCell ⟨q, 4, none⟩ V') g Tv Nv N q nk nt nm nn V' (l ++ [x]) na ∧ PAt (w2.setCell ⟨q, 4, none⟩ V') g Tv T i Nv N ∧ Turned (fun k => k = q ∨ blk V k) w (w2.setCell ⟨q, 4, none⟩ V') ∧ ∀ k, blk V' k → blk V k ∨ w.heap.size ≤ k := by
  have hz := hb.size
  have hql := h.lt
  have c : ∀ (j : Nat) (v : Value), w.cell? ⟨q, j, none⟩ = some v → w2.cell? ⟨q, j, none⟩ = some v := fun j v e => Tt.cell ((hb.cell (p := ⟨q, j, none⟩) hql).trans e) h.qv
  have o : ∀ (j : Nat) (v : Value), 4 ≠ j → w2.cell? ⟨q, j, none⟩ = some v → (w2.setCell ⟨q, 4, none⟩ V').cell? ⟨q, j, none⟩ = some v := fun j v hj e => by
    rw [World.cell?_setCell_other _ _ _ _ (by simp; try omega)]; exact e
  have fzz : ∀ j, w2.frozen? ⟨q, j, none⟩ = false := fun j => by
    rw [Tt.frozen (p := ⟨q, j, none⟩) (by simp; omega) h.qv, (Turned.ofBelow (S := fun _ => False) hb).frozen (p := ⟨q, j, none⟩) hql (fun e => e)]
    exact h.fz j
  have hqv' : ¬ blk V' q := fun e => (hv q e).elim h.qv (fun e => by omega)
  have T4 := Turned.set1 w2 q 4 V'
  have TT : Turned (fun k => k = q ∨ blk V k) w (w2.setCell ⟨q, 4, none⟩ V') := ((Turned.ofBelow (S := fun k => k = q ∨ blk V k) hb).trans Tt (fun _ e => .inl (.inr e))).trans T4 (fun _ e => .inl (.inl e))
  refine ⟨⟨o 0 _ (by decide) (c 0 _ h.n0), o 1 _ (by decide) (c 1 _ h.n1), o 2 _ (by decide) (c 2 _ h.n2), o 3 _ (by decide) (c 3 _ h.n3), World.cell?_setCell_same _ _ _ (c 4 _ h.n4), o 5 _ (by decide) (c 5 _ h.n5), fun j => by rw [World.frozen?_setCell]; exact fzz j, OwnK.turned (OwnI.snoc ho) T4 (fun k hk e => hqv' ((show k = q from e) ▸ hk)), hqv', ⟨h.fq.g, h.fq.t, h.fq.n, h.fq.k⟩, fun k hk => ?_⟩, hp.offS (w0 := w) (fun k e => e.elim (fun e => e ▸ h.fq) (h.fv k)) TT, TT, fun k hk => (hv k hk).elim .inl (fun e => .inr (by omega))⟩
  have f : Free w g Tv Nv N k := (hv k hk).elim (h.fv k) (fun e => hp.free hT k (by omega))
  exact ⟨f.g, f.t, f.n, f.k⟩
end
set_option maxRecDepth 100000 in
set_option maxHeartbeats 3200000 in
theorem ps_rest (b0 : Nat) (hbB : b0 ≤ 500) (T : List Tk) (i j : Nat) (hi : i + 1 < T.length) (M : Nat → List Sh) (r : Nat → Nat) (hM : ∀ n, (M n).length ≤ 200) (hE : Phrase b0 148 [] T (i + 1) j M r) (hw : isTk 4 ⟨#[119, 104, 101, 110]⟩ (tokAt T i) = false) (ha : isTk 5 ⟨#[45, 62]⟩ (tokAt T i) = true) (nk : Int) (nt nm : ByteArray) (nn na pv : Int) {w : World} {g : Nat} {Tv Nv : Value} {N : List Nd} (h : PAt w g Tv T i Nv N) (hN : N.length ≤ b0) :
    Calls Tryz.prog 134 #[.pointer (some ⟨g, 0, none⟩), .agg #[.int .i64 nk, .string nt, .string nm, .int .i64 nn, .slice none 0 0, .int .i64 na], .int .i64 pv] w (ReadTo w g Tv T Nv N j (M N.length ++ [⟨nk, nt, nm, nn, [pv, (r N.length : Int)], na⟩]) (N.length + (M N.length).length)) := by
  have hT : 0 < T.length := by omega
  have hgl := h.lt
  have H := Hid.mk7 h
  have HX := Hid.mk7 (fun o1 => SlI.one (w.alloc o1) pv 3)
  simp only [World.size_alloc] at HX
  have hf1 : (0 + [pv].length) * 8 ≤ 140737488355328 := by simp
  have hf2 : 0 + [pv].length ≤ 4611686018427387903 := by simp
  have hm1 := Making.new h hT nk nt nm nn na
  have HM1 := Hid.mk7 (And.intro hm1 (h.below (Below.alloc0 w (.cells #[.int .i64 nk, .string nt, .string nm, .int .i64 nn, .slice none 0 0, .int .i64 na] 47))))
  unfold ReadTo
  clear h hm1
  go_enter Tryz.func134, Tryz.ntmps134
  go_wp2_with (at_builtin; refine wpList_append_k (by rfl) (.tmp 8) (.tmp 10) (by rfl) Tryz.intTypes (by rfl) (by rfl) (OwnK.nil 1 _) (HX.out _) (ints_one _) hf1 hf2 ?_; intro V1 w1 ho1 ht1 hv1; obtain ⟨aV1, cV1, rfl, _, _⟩ := ho1.sl.form; obtain ⟨⟨n0, n1, n2, n3, n4, n5⟩, nf⟩ := newNode2 ht1; have f4 := nf 4)
  obtain ⟨hm2, hp2, T2, b2⟩ := HM1.out.1.more (l := []) HM1.out.2 hT (Below.alloc0 _ _) ho1 ht1 hv1
  have S2 : Stp g Nv Nv w (w1.setCell ⟨w.heap.size, 4, none⟩ (.slice aV1 (0 + [pv].length) cV1)) := (Stp.ofB (Below.alloc0 w _)).mine (T2.mono (fun k e => .inl (e.elim (fun e => Nat.le_of_eq e.symm) (fun e => e.elim))))
  have hq := ps_isWord hp2 ⟨#[119, 104, 101, 110]⟩
  rw [hw] at hq
  have b2' : ∀ k, blk (.slice aV1 (0 + [pv].length) cV1) k → w.heap.size ≤ k := fun k hk => (b2 k hk).elim (fun e => e.elim) (fun e => by simp at e; omega)
  have H2 := Hid.mk7 (And.intro hm2 (And.intro hp2 (And.intro S2 b2')))
  clear hm2 hp2 T2 b2 S2 b2' ho1 ht1 hv1 n0 n1 n2 n3 n4 n5 nf f4 HM1 HX hw
  refine hq.mono ?_
  rintro x w3 ⟨rfl, hb3⟩
  have hp3 := H2.out.2.1.below hb3
  have hm3 := H2.out.1.stepN (Stp.ofB hb3)
  have S3 := H2.out.2.2.1.trans (Stp.ofB hb3)
  have hs3 := ps_sign hp3 (by omega) ⟨#[45, 62]⟩ ha
  unfold Took at hs3
  generalize tokAt T i = t at hs3
  obtain ⟨tk, tt, tn, ta⟩ := t
  simp only [Tk.val] at hs3
  have H3 := Hid.mk7 (And.intro hm3 (And.intro S3 H2.out.2.2.2))
  clear hq hb3 hp3 hm3 S3 ha
  go_wp2_with fail
  refine hs3.mono ?_
  rintro x w4 ⟨rfl, hp4, T4⟩
  have hm4 := H3.out.1.stepN (Stp.ofG T4)
  have S4 := H3.out.2.1.trans (Stp.ofG T4)
  have H4 := Hid.mk7 (And.intro hm4 (And.intro hp4 (And.intro S4 H3.out.2.2)))
  have hE4 := fun W (hW : Below w4.heap.size w4 W) => hE W g Tv Nv N (hp4.below hW) hN
  have n4 := hm4.n4
  clear hs3 hp4 T4 S4 hm4 H3 H2
  go_wp2_with fail
  go_region_law (first
    | (rw [if_pos (by rfl)]; go_simp; go_at_call 148; refine (hE4 _ (Below.refl _ _).drew).mono ?_; rintro x w5 ⟨rfl, Nv5, M5, e5, o5, h5, S5⟩; have hm5 := H4.out.1.step ((Stp.ofB (Below.refl _ _).drew).trans S5) o5; have k5 := hm5.n4; have q5 := hm5.lt; have H5 := Hid.mk7 (And.intro hm5 (And.intro h5 (And.intro ((H4.out.2.2.1.trans (Stp.ofB (Below.refl _ _).drew)).trans S5) (And.intro e5 o5)))); clear h5 S5 e5 o5 hm5; dsimp only)
    | (refine step_append_k (by rfl) (.tmp 32) (.tmp 35) (by rfl) Tryz.intTypes (by rfl) (by rfl) (OwnK.turned H5.out.1.own (Turned.alloc (fun _ => False) _ _) (fun _ _ e => e)) (SlI.one w5 _ _) (ints_one _) (by simp) (by simp) ?_; intro V6 w6 ho6 T6 hv6; obtain ⟨aV6, cV6, rfl, _, _⟩ := ho6.sl.form; have c6 := T6.cell (p := ⟨w.heap.size, 4, none⟩) ((Turned.alloc (fun _ => False) w5 _).cell H5.out.1.n4 (fun e => e)) H5.out.1.qv; have f6 := (T6.frozen (p := ⟨w.heap.size, 4, none⟩) (by simp; omega) H5.out.1.qv).trans (((Turned.alloc (fun _ => False) w5 _).frozen (p := ⟨w.heap.size, 4, none⟩) q5 (fun e => e)).trans (H5.out.1.fz 4))))
  all_goals
    obtain ⟨hm7, hp7, T7, b7⟩ := H5.out.1.more (V' := .slice aV6 2 cV6) H5.out.2.1 hT (Below.alloc0 w5 _) ho6 T6 hv6
    have S7 := H5.out.2.2.1.mine (T7.mono (fun k e => .inl (e.elim (fun e => Nat.le_of_eq e.symm) (fun e => H4.out.2.2.2 k e))))
    have o7 : ∀ k, blk (.slice aV6 2 cV6) k → w.heap.size ≤ k := fun k hk => (b7 k hk).elim (fun e => H4.out.2.2.2 k e) (fun e => Nat.le_trans H5.out.2.2.1.t.size e)
    have hM5 : M5.length = (M N.length).length := by have := congrArg List.length H5.out.2.2.2.1; simpa using this
    have hMl := hM N.length
    have hz4 := H4.out.2.2.1.t.size
    have ha7 := ps_add hp7 hT ⟨nk, nt, nm, nn, .slice aV6 2 cV6, [pv] ++ [(r N.length : Int)], na⟩ hm7.kid (by simp; omega)
    unfold Added at ha7
    simp only [Nd.val] at ha7
    obtain ⟨n0, n1, n2, n3, n4', n5, _, _, _, _, _⟩ := hm7
    have H7 := Hid.mk7 (And.intro S7 o7)
    clear S7 o7 hp7 T7 b7 ho6 T6 hv6 c6 f6
    generalize w6.setCell _ _ = w7 at H7 ha7 n0 n1 n2 n3 n4' n5 ⊢
    go_wp2_with fail
    refine ha7.mono ?_
    rintro x w8 ⟨rfl, Nv8, h8, S8⟩
    have H8 := Hid.mk7 (And.intro h8 S8)
    clear h8 S8 ha7 n0 n1 n2 n3 n4' n5
    go_wp2
    go_ret
    refine ⟨by simp, Nv8, M5 ++ [⟨nk, nt, nm, nn, .slice aV6 2 cV6, [pv] ++ [(r N.length : Int)], na⟩], by simp [H5.out.2.2.2.1, Nd.sh], fun n hn k hk => ?_, by simpa [List.append_assoc] using H8.out.1, H7.out.1.trans H8.out.2⟩
    simp only [List.mem_append, List.mem_cons, List.not_mem_nil, or_false] at hn
    rcases hn with hn | rfl
    · exact Nat.le_trans hz4 (H5.out.2.2.2.2 n hn k hk)
    · exact H7.out.2 k hk
end Go.Proofs.YtlgkjjbefoeabaaGreatDoor
