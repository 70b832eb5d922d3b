/-
  Layer 8 (shake): what the laws' two sides send one another, in lists and in memory.
  heddlelaw08.met: two sides that take one another's messages.
  heddlelaw08.awake.
  heddleref08.Same; heddlelaw08.ShakeBack.
-/
import Derived.Test.YtmnibmgbicnamaaGreatDoorKc
import Derived.Test.YtmnibmgbicnamaaGreatDoorK9
import Derived.Test.YtmnibmgbicnamaaGreatDoorK6
import Derived.Lib.SlBytesConst
namespace Go.Proofs.YtmnibmgbicnamaaGreatDoor
open Go.RowKit

/-- Bytes, and few. -/
def Byts (l : List Int) : Prop := (∀ z ∈ l, 0 ≤ z ∧ z < 256) ∧ l.length ≤ 4096
theorem be4_rng (n : Int) : ∀ z ∈ be4 n, 0 ≤ z ∧ z < 256 := by
  intro z hz
  simp only [be4, List.mem_cons, List.not_mem_nil, or_false] at hz
  rcases hz with rfl | rfl | rfl | rfl <;> omega
theorem be2_rng (n : Int) : ∀ z ∈ be2 n, 0 ≤ z ∧ z < 256 := by
  intro z hz
  simp only [be2, List.mem_cons, List.not_mem_nil, or_false] at hz
  rcases hz with rfl | rfl <;> omega
theorem Byts.nil : Byts [] := ⟨(fun _ h => by cases h), by simp⟩
theorem Byts.write (m : Msg) (hm : ∀ z ∈ m.digest, 0 ≤ z ∧ z < 256) : Byts (writeOf m) := by
  unfold writeOf
  split
  · exact Byts.nil
  · rename_i hf
    split
    · exact Byts.nil
    · rename_i hn
      have hs := fits_small (by simpa using hf) (fun h => by
        cases hx : nodeOk m.name with
        | true => rfl
        | false => exact absurd ⟨h, hx⟩ hn)
      have hnm := nums_rng m.name
      have hst := nums_rng m.status
      have h4 := be4_rng m.challenge
      have h4' := be4_rng m.creation
      have h8 := bytes8_rng m.flags
      have h2 := be2_rng m.name.size
      unfold bytesOfMsg
      refine ⟨?_, ?_⟩
      · repeat' split
        all_goals simp only [List.forall_mem_cons, List.forall_mem_append]
        · exact ⟨by omega, hst⟩
        · exact ⟨by omega, h4, hm⟩
        · exact ⟨by omega, hm⟩
        · exact ⟨by omega, h8, h4, h4', h2, hnm⟩
        · exact ⟨by omega, h8, (fun _ h => by cases h), h4', h2, hnm⟩
      · repeat' split
        all_goals simp [be4, be2, bytes8, nums_length]
        all_goals omega
theorem took_out (s : Sd) (m : Msg) : ∀ o ∈ (s.took m).2.2, ∀ z ∈ o.digest, 0 ≤ z ∧ z < 256 := by
  have hd := fun n => digest_rng s.cookie n
  intro o ho
  unfold Sd.took at ho
  repeat' split at ho
  all_goals first
    | (cases ho; done)
    | (simp only [List.mem_cons, List.not_mem_nil, or_false] at ho; subst ho; exact hd _)
theorem take_out (s : Sd) (b : List Int) : ∀ l ∈ (s.take b).2.2, Byts l := by
  intro l hl
  unfold Sd.take at hl
  repeat' split at hl
  · cases hl
  · cases hl
  · cases hl
  · obtain ⟨o, ho, rfl⟩ := List.mem_map.1 hl
    exact Byts.write o (took_out _ _ o ho)
  · cases hl
theorem answer_out (s : Sd) (st : ByteArray) : ∀ l ∈ (s.answer st).2.2, Byts l := by
  intro l hl
  unfold Sd.answer at hl
  repeat' split at hl
  · cases hl
  · cases hl
  · cases hl
  · simp only [List.mem_cons, List.not_mem_nil, or_false] at hl
    rcases hl with rfl | rfl <;> exact Byts.write _ (fun _ h => by cases h)
  · simp only [List.mem_cons, List.not_mem_nil, or_false] at hl
    subst hl
    exact Byts.write _ (fun _ h => by cases h)
theorem takes_step (s : Sd) (acc l : List (List Int)) (j : Nat) (hj : j < l.length) : takesA s acc (l.drop j) = takesA (s.take l[j]).2.1 (acc ++ (s.take l[j]).2.2) (l.drop (j + 1)) := by
  rw [List.drop_eq_getElem_cons hj]
  rfl
theorem rounds_more (n : Nat) (x y : Sd) (l : List (List Int)) : metRounds (n + 1) x y l = metRounds n (takesA x [] l).1 (takesA y [] (takesA x [] l).2).1 (takesA y [] (takesA x [] l).2).2 := rfl

theorem Gather.turnedS {S : Nat → Prop} {w w' : World} {B : Nat} {v : Value} {vs : List Value} {ls : List (List Int)} (h : Gather w B v vs ls) (T : Turned S w w') (hS : ∀ k, S k → k < B) : Gather w' B v vs ls :=
  ⟨h.own.turned T (fun k hk hs => by have := h.big k hk; have := hS k hs; omega), h.len, fun i h1 h2 => (h.each i h1 h2).turned T (fun k hk hs => by have := (h.off i h1 k hk).1; have := hS k hs; omega), fun i h1 k hk => ⟨(h.off i h1 k hk).1, Nat.lt_of_lt_of_le (h.off i h1 k hk).2.1 T.size, (h.off i h1 k hk).2.2⟩, h.big⟩
/-- Many more. -/
theorem Gather.join {w w1 : World} {B C : Nat} {v v' x : Value} {vs ys : List Value} {ls ms : List (List Int)} (h : Gather w B v vs ls) (hB : B ≤ w.heap.size) (hx : Gather w C x ys ms) (hC : B ≤ C) (hvC : ∀ k, blk v k → k < C)
    (ho : OwnV w1 v' (vs ++ ys)) (ht : Turned (blk v) w w1) (hv : ∀ k, blk v' k → blk v k ∨ k = w.heap.size) : Gather w1 B v' (vs ++ ys) (ls ++ ms) := by
  have hz := ht.size
  refine ⟨ho, by simp [h.len, hx.len], fun i h1 h2 => ?_, fun i h1 k hk => ?_, fun k hk => (hv k hk).elim (h.big k) (fun e => by omega)⟩
  · by_cases hi : i < vs.length
    · rw [List.getElem_append_left hi, List.getElem_append_left (by rw [← h.len]; exact hi)]
      exact (h.each i hi (by rw [← h.len]; exact hi)).turned ht (fun k hk => (h.off i hi k hk).2.2)
    · have h3 : i - vs.length < ys.length := by simp at h1; omega
      have h4 : i - vs.length < ms.length := by rw [← hx.len]; exact h3
      have e : Sl w1 ys[i - vs.length] ms[i - vs.length] := (hx.each _ h3 h4).turned ht (fun k hk hb => by have := (hx.off _ h3 k hk).1; have := hvC k hb; omega)
      rw [List.getElem_append_right (by omega), List.getElem_append_right (by rw [← h.len]; omega)]
      simp only [← h.len]
      exact e
  · have key : B ≤ k ∧ k < w.heap.size ∧ ¬ blk v k := by
      by_cases hi : i < vs.length
      · rw [List.getElem_append_left hi] at hk
        exact h.off i hi k hk
      · have h3 : i - vs.length < ys.length := by simp at h1; omega
        rw [List.getElem_append_right (by omega)] at hk
        have hq := hx.off _ h3 k hk
        exact ⟨Nat.le_trans hC hq.1, hq.2.1, fun hb => by have := hvC k hb; omega⟩
    exact ⟨key.1, by omega, fun hb => (hv k hb).elim key.2.2 (fun e => by omega)⟩
/-- Messages that lie below C, and in no side. -/
structure Mail (w : World) (C gx gy : Nat) (V : Value) (vs : List Value) (ls : List (List Int)) : Prop where
  sl : SlV w V vs
  len : vs.length = ls.length
  each : ∀ i (h1 : i < vs.length) (h2 : i < ls.length), Sl w vs[i] ls[i]
  lies : ∀ k, blk V k → k < C ∧ k ≠ gx ∧ k ≠ gy
  offs : ∀ i (h1 : i < vs.length) k, blk vs[i] k → k < C ∧ k ≠ gx ∧ k ≠ gy
theorem Mail.turned {S : Nat → Prop} {w w' : World} {C gx gy : Nat} {V : Value} {vs : List Value} {ls : List (List Int)} (h : Mail w C gx gy V vs ls) (T : Turned S w w') (hS : ∀ k, S k → C ≤ k ∨ k = gx ∨ k = gy) : Mail w' C gx gy V vs ls :=
  ⟨h.sl.turned T (fun k hk hs => by have := h.lies k hk; have := hS k hs; omega), h.len, fun i h1 h2 => (h.each i h1 h2).turned T (fun k hk hs => by have := h.offs i h1 k hk; have := hS k hs; omega), h.lies, h.offs⟩
theorem Gather.mail {w : World} {B gx gy : Nat} {V : Value} {vs : List Value} {ls : List (List Int)} (h : Gather w B V vs ls) (hx : gx < B) (hy : gy < B) : Mail w w.heap.size gx gy V vs ls :=
  ⟨h.own.sl, h.len, h.each, fun k hk => ⟨h.own.blk_lt k hk, by have := h.big k hk; omega, by have := h.big k hk; omega⟩, fun i h1 k hk => ⟨(h.off i h1 k hk).2.1, by have := (h.off i h1 k hk).1; omega, by have := (h.off i h1 k hk).1; omega⟩⟩
theorem Gather.cell1 {w : World} {B : Nat} {V : Value} {vs : List Value} {ls : List (List Int)} (h : Gather w B V vs ls) : ∀ u ∈ vs, u.oneCell' = true := by
  intro u hu
  obtain ⟨i, hi, rfl⟩ := List.getElem_of_mem hu
  obtain ⟨a, c, e, _⟩ := (h.each i hi (by rw [← h.len]; exact hi)).form
  rw [e]; rfl
/-- Two sides. -/
structure Two (w wr : World) (gx gy : Nat) (X Y : Sd) : Prop where
  x : SideAt wr gx X
  y : SideAt wr gy Y
  xo : X.Ok
  yo : Y.Ok
  xf : X.Fresh
  yf : Y.Fresh
  gd : Gd wr
  b : Below w.heap.size w wr
  ne : gx ≠ gy
  xw : w.heap.size ≤ gx
  yw : w.heap.size ≤ gy
  xb : Big gx
  yb : Big gy
theorem Two.takeX {w wr w' : World} {gx gy : Nat} {X Y : Sd} {l : List Int} (h : Two w wr gx gy X Y) (hl : Byts l) (hs : SideAt w' gx (X.take l).2.1) (T : Turned (fun k => k = gx) wr w') : Two w w' gx gy (X.take l).2.1 Y :=
  ⟨hs, h.y.turned T (fun e => h.ne e.symm), h.xo.take hl.1, h.yo, h.xf.take hl.1, h.yf, h.gd.turned T h.xb (Nat.le_of_lt h.x.lt), h.b.trans (T.below h.b.size (fun k hk => by have hk : k = gx := hk; have := h.xw; omega)), h.ne, h.xw, h.yw, h.xb, h.yb⟩
theorem Two.takeY {w wr w' : World} {gx gy : Nat} {X Y : Sd} {l : List Int} (h : Two w wr gx gy X Y) (hl : Byts l) (hs : SideAt w' gy (Y.take l).2.1) (T : Turned (fun k => k = gy) wr w') : Two w w' gx gy X (Y.take l).2.1 :=
  ⟨h.x.turned T (fun e => h.ne e), hs, h.xo, h.yo.take hl.1, h.xf, h.yf.take hl.1, h.gd.turned T h.yb (Nat.le_of_lt h.y.lt), h.b.trans (T.below h.b.size (fun k hk => by have hk : k = gy := hk; have := h.yw; omega)), h.ne, h.xw, h.yw, h.xb, h.yb⟩
theorem Two.grown {S : Nat → Prop} {w wr w' : World} {gx gy C : Nat} {X Y : Sd} (h : Two w wr gx gy X Y) (T : Turned S wr w') (hx : gx < C) (hy : gy < C) (hC : C ≤ wr.heap.size) (hS : ∀ k, S k → C ≤ k) : Two w w' gx gy X Y := by
  have hB : Below C wr w' := T.below hC hS
  refine ⟨h.x.turned T (fun e => by have := hS _ e; omega), h.y.turned T (fun e => by have := hS _ e; omega), h.xo, h.yo, h.xf, h.yf, ⟨(hB.cell (p := ⟨0, 0, none⟩) (by have := h.xb.1; simp; omega)).trans h.gd.er, var?_below hB Tryz.pow10 (by have := h.xb.2; omega) h.gd.tb⟩, h.b.trans (T.below h.b.size (fun k hk => by have := hS k hk; have := h.xw; omega)), h.ne, h.xw, h.yw, h.xb, h.yb⟩
end Go.Proofs.YtmnibmgbicnamaaGreatDoor
namespace Go.Proofs.YtmnibmgbicnamaaGreatDoor
open Go.RowKit

/-- What met tells. -/
def MetTold (a b : Pr) (c0 c1 : ByteArray) (n0 n1 : Nat) (w : World) (e : Ending) (w' : World) : Prop :=
  ((madeErr a b.name true c0 ≠ [] ∨ madeErr b ⟨#[]⟩ false c1 ≠ []) ∧ e = .returned (.tuple #[.pointer none, .pointer none, .bool false]) ∧ Below w.heap.size w w') ∨
  (madeErr a b.name true c0 = [] ∧ madeErr b ⟨#[]⟩ false c1 = [] ∧ ∃ gx gy, e = .returned (.tuple #[.pointer (some ⟨gx, 0, none⟩), .pointer (some ⟨gy, 0, none⟩), .bool true]) ∧ SideAt w' gx (metAll a b c0 c1 n0 n1).1 ∧ SideAt w' gy (metAll a b c0 c1 n0 n1).2.1 ∧ w.heap.size ≤ gx ∧ w.heap.size ≤ gy ∧ Below w.heap.size w w')

set_option maxRecDepth 100000 in
set_option maxHeartbeats 6400000 in
theorem law_met (a b : Pr) (ha : a.Ok) (hb : b.Ok) (c0 c1 : ByteArray) (n0 n1 : Nat) (hn0 : n0 < 4294967296) (hn1 : n1 < 4294967296) (has : a.name.size ≤ 4611686018427387904) (hbs : b.name.size ≤ 4611686018427387904) (hc0 : c0.size ≤ 4611686018427387904) (hc1 : c1.size ≤ 4611686018427387904) {w : World} (hG : Gd w) :
    Calls Tryz.prog 25 #[.agg #[.string a.name, .int .u64 a.flags, .int .u32 a.creation], .agg #[.string b.name, .int .u64 b.flags, .int .u32 b.creation], .agg #[.string c0, .string c1], .agg #[.int .u32 n0, .int .u32 n1]] w (MetTold a b c0 c1 n0 n1 w) := by
  obtain ⟨wa, hwa⟩ : ∃ wa, wa = w.alloc (.cells #[.string a.name, .int .u64 a.flags, .int .u32 a.creation] 46) := ⟨_, rfl⟩
  obtain ⟨wb, hwb⟩ : ∃ wb, wb = wa.alloc (.cells #[.string b.name, .int .u64 b.flags, .int .u32 b.creation] 46) := ⟨_, rfl⟩
  obtain ⟨wc, hwc⟩ : ∃ wc, wc = wb.alloc (.cells #[.string c0, .string c1] 71) := ⟨_, rfl⟩
  obtain ⟨wd, hwd⟩ : ∃ wd, wd = wc.alloc (.cells #[.int .u32 n0, .int .u32 n1] 72) := ⟨_, rfl⟩
  have ba : Below w.heap.size w wa := by rw [hwa]; exact (Below.refl _ _).alloc (Nat.le_refl _) _
  have bb : Below wa.heap.size wa wb := by rw [hwb]; exact (Below.refl _ _).alloc (Nat.le_refl _) _
  have bc : Below wb.heap.size wb wc := by rw [hwc]; exact (Below.refl _ _).alloc (Nat.le_refl _) _
  have bdd : Below wc.heap.size wc wd := by rw [hwd]; exact (Below.refl _ _).alloc (Nat.le_refl _) _
  have sa : wa.heap.size = w.heap.size + 1 := by rw [hwa]; simp
  have sb : wb.heap.size = w.heap.size + 1 + 1 := by rw [hwb]; simp [sa]
  have sc : wc.heap.size = w.heap.size + 1 + 1 + 1 := by rw [hwc]; simp [sb]
  have bcd : Below wb.heap.size wb wd := bc.trans (bdd.mono bc.size)
  have bd : Below w.heap.size w wd := (ba.trans (bb.mono ba.size)).trans (bcd.mono (by omega))
  have pb : PeerAt wd wa.heap.size b := PeerAt.below (by rw [hwb]; exact PeerAt.ofNew wa b _) bcd
  have pc : wd.cell? ⟨wb.heap.size, 1, none⟩ = some (.string c1) := (bdd.cell (p := ⟨wb.heap.size, 1, none⟩) (by simp; omega)).trans (by rw [hwc]; simp)
  have pd : wd.cell? ⟨wc.heap.size, 1, none⟩ = some (.int .u32 n1) := by rw [hwd]; simp
  rw [sa] at pb
  rw [sb] at pc
  rw [sc] at pd
  have hbg := sd_begin a ha b.name c0 n0 has hbs hc0 (hG.below bd)
  have H0 : Hid (Below w.heap.size w wd ∧ PeerAt wd (w.heap.size + 1) b ∧ wd.cell? ⟨w.heap.size + 1 + 1, 1, none⟩ = some (.string c1) ∧ wd.cell? ⟨w.heap.size + 1 + 1 + 1, 1, none⟩ = some (.int .u32 n1)) := ⟨bd, pb, pc, pd⟩
  have HG := Hid.mk7 hG
  have HA := Hid.mk7 ha
  have HB := Hid.mk7 hb
  have hwt : wd = (((w.alloc (.cells #[.string a.name, .int .u64 a.flags, .int .u32 a.creation] 46)).alloc (.cells #[.string b.name, .int .u64 b.flags, .int .u32 b.creation] 46)).alloc (.cells #[.string c0, .string c1] 71)).alloc (.cells #[.int .u32 n0, .int .u32 n1] 72) := by rw [hwd, hwc, hwb, hwa]
  have HE := Hid.mk7 hwt
  clear hG ha hb hwa hwb hwc hwd ba bb bc bdd bcd bd pb pc pd sa sb sc hwt
  obtain ⟨mt, hmt⟩ : ∃ mt, mt = MetTold a b c0 c1 n0 n1 w := ⟨_, rfl⟩
  rw [← hmt]
  have HMT := Hid.mk7 hmt
  clear hmt
  go_enter Tryz.func25, Tryz.ntmps25
  go_wp2_with fail
  rw [← HE.out]
  refine hbg.mono ?_
  rintro e w1 (⟨hl1, v1, rfl, hf1, hb1⟩ | ⟨hl1, gx, V1, rfl, hgx, hs1, ho1, hv1, hb1⟩)
  · have HL1 := Hid.mk7 hl1
    have H1 : Hid (Below w.heap.size w w1) := H0.out.1.trans (hb1.mono H0.out.1.size)
    obtain ⟨p0, p1, p2⟩ := H0.out.2.1.below hb1
    have p3 := (hb1.cell (p := ⟨w.heap.size + 1 + 1, 1, none⟩) (World.block_lt_of_cell? _ _ H0.out.2.2.1)).trans H0.out.2.2.1
    have p4 := (hb1.cell (p := ⟨w.heap.size + 1 + 1 + 1, 1, none⟩) (World.block_lt_of_cell? _ _ H0.out.2.2.2)).trans H0.out.2.2.2
    have hwt := sd_wait b c1 n1 hbs hc1 (HG.out.below H1.out)
    rcases fault_cases hf1 with ⟨hls, rfl⟩ | ⟨hls, pb1, rfl⟩
    · exact absurd hls hl1
    clear hl1 hf1 hb1 hbg H0 HE
    go_wp2_with fail
    refine hwt.mono ?_
    rintro e w2 (⟨hl2, v2, rfl, hf2, hb2⟩ | ⟨hl2, gy, rfl, hgy, hs2, hb2⟩)
    · have H2 : Hid (Below w.heap.size w w2) := H1.out.trans (hb2.mono H1.out.size)
      clear hf2 hb2 hl2 p0 p1 p2 p3 p4
      go_wp2
      go_ret3
      rw [HMT.out]
      exact .inl ⟨.inl HL1.out, rfl, H2.out⟩
    · have H2 : Hid (Below w.heap.size w w2) := H1.out.trans (hb2.mono H1.out.size)
      clear hs2 hb2 hl2 p0 p1 p2 p3 p4
      go_wp2
      go_ret3
      rw [HMT.out]
      exact .inl ⟨.inl HL1.out, rfl, H2.out⟩
  · have HL1 := Hid.mk7 hl1
    have H1 : Hid (Below w.heap.size w w1) := H0.out.1.trans (hb1.mono H0.out.1.size)
    have hz0 := H0.out.1.size
    have H1s : Hid (SideAt w1 gx (madeOf 1 a b.name c0 n0) ∧ Own w1 V1 (writeOf (nameMsg a)) ∧ (∀ k, blk V1 k → w.heap.size ≤ k ∧ k ≠ gx) ∧ w.heap.size ≤ gx) := ⟨hs1, ho1, fun k hk => ⟨by have := (hv1 k hk).1; omega, (hv1 k hk).2⟩, by omega⟩
    obtain ⟨aV, cV, LV, rfl⟩ : ∃ a c L, V1 = .slice a L c := ⟨_, _, _, ho1.sl.form.choose_spec.choose_spec.1⟩
    obtain ⟨p0, p1, p2⟩ := H0.out.2.1.below hb1
    have p3 := (hb1.cell (p := ⟨w.heap.size + 1 + 1, 1, none⟩) (World.block_lt_of_cell? _ _ H0.out.2.2.1)).trans H0.out.2.2.1
    have p4 := (hb1.cell (p := ⟨w.heap.size + 1 + 1 + 1, 1, none⟩) (World.block_lt_of_cell? _ _ H0.out.2.2.2)).trans H0.out.2.2.2
    have hwt := sd_wait b c1 n1 hbs hc1 (HG.out.below H1.out)
    clear hl1 hs1 ho1 hv1 hb1 hbg H0 HE hgx hz0
    go_wp2_with fail
    refine hwt.mono ?_
    rintro e w2 (⟨hl2, v2, rfl, hf2, hb2⟩ | ⟨hl2, gy, rfl, hgy, hs2, hb2⟩)
    · have H2 : Hid (Below w.heap.size w w2) := H1.out.trans (hb2.mono H1.out.size)
      have HL2 := Hid.mk7 hl2
      rcases fault_cases hf2 with ⟨hls, rfl⟩ | ⟨hls, pb1, rfl⟩
      · exact absurd hls hl2
      clear hf2 hb2 hl2 hls p0 p1 p2 p3 p4
      go_wp2
      go_ret3
      rw [HMT.out]
      exact .inl ⟨.inr HL2.out, rfl, H2.out⟩
    · have HL2 := Hid.mk7 hl2
      have H2 : Hid (Below w.heap.size w w2) := H1.out.trans (hb2.mono H1.out.size)
      obtain ⟨a1, _, a3, a4, a5⟩ := made_none HL1.out
      obtain ⟨b1, _, b3, b4, b5⟩ := made_none hl2
      have hw1 := H1.out.size
      have hxl := H1s.out.1.lt
      have htwo : Two w w2 gx gy (madeOf 1 a b.name c0 n0) (madeOf 4 b ⟨#[]⟩ c1 n1) := ⟨H1s.out.1.below hb2, hs2, ⟨by simp [madeOf], by simp [madeOf], .zero, HA.out, hn0, fun _ _ => a5⟩, ⟨by simp [madeOf], by simp [madeOf], .zero, HB.out, hn1, fun _ _ => b5⟩, fun _ => rfl, fun _ => rfl, HG.out.below H2.out, H2.out, by omega, H1s.out.2.2.2, by omega, HG.out.big H1s.out.2.2.2, HG.out.big (by omega)⟩
      have hby : Byts (writeOf (nameMsg a)) := Byts.write _ (fun _ h => by cases h)
      have hsl : Sl w2 (.slice aV LV cV) (writeOf (nameMsg a)) := H1s.out.2.1.sl.turned (Turned.ofBelow (S := fun _ => False) hb2) (fun _ _ h => h)
      have htk := sd_take htwo.yb htwo.y htwo.yo htwo.yf htwo.gd hsl hby.1 (by have := hby.2; omega)
      have HTW := Hid.mk7 htwo
      have HBY := Hid.mk7 hby
      clear hl2 hgy hs2 hb2 htwo hby hsl p0 p1 p2 p3 p4 hxl hw1 a1 a3 a4 a5 b1 b3 b4 b5 hwt
      go_wp2_with fail
      refine htk.mono ?_
      rintro e w3 ⟨V3, v3, vs3, rfl, hf3, hg3, hs3, ht3⟩
      have htw3 := HTW.out.takeY HBY.out hs3 ht3
      have hme : ((madeOf 4 b ⟨#[]⟩ c1 n1).take (writeOf (nameMsg a))).2.1.me.name.size ≤ 4611686018427387904 := by
        rw [met_e1 a b c1 n1 HA.out (made_none HL1.out).1]
        exact hbs
      have han := sd_answer htw3.yb htw3.y htw3.yo htw3.yf htw3.gd hme stOk
      have HTW3 := Hid.mk7 htw3
      obtain ⟨aT, cT, LT, rfl⟩ : ∃ a c L, V3 = .slice a L c := ⟨_, _, _, hg3.own.sl.form.choose_spec.choose_spec.1⟩
      clear hf3 hg3 hs3 ht3 htw3 hme htk HTW
      unfold stOk at han
      go_wp2_with fail
      refine han.mono ?_
      rintro e w4 ⟨V4, v4, vs4, rfl, hf4, hg4, hs4, ht4⟩
      have hY : Two w w4 gx gy (madeOf 1 a b.name c0 n0) (((madeOf 4 b ⟨#[]⟩ c1 n1).take (writeOf (nameMsg a))).2.1.answer stOk).2.1 := by
        have h := HTW3.out
        exact ⟨h.x.turned ht4 (fun e => h.ne e), hs4, h.xo, h.yo.answer _, h.xf, h.yf.answer _, h.gd.turned ht4 h.yb (Nat.le_of_lt h.y.lt), h.b.trans (ht4.below h.b.size (fun k hk => by have hk : k = gy := hk; have := h.yw; omega)), h.ne, h.xw, h.yw, h.xb, h.yb⟩
      have hM : metRounds 4 (madeOf 1 a b.name c0 n0) (((madeOf 4 b ⟨#[]⟩ c1 n1).take (writeOf (nameMsg a))).2.1.answer stOk).2.1 (((madeOf 4 b ⟨#[]⟩ c1 n1).take (writeOf (nameMsg a))).2.1.answer stOk).2.2 = metAll a b c0 c1 n0 n1 := rfl
      have hfew := answer_few ((madeOf 4 b ⟨#[]⟩ c1 n1).take (writeOf (nameMsg a))).2.1 stOk
      have hout := answer_out ((madeOf 4 b ⟨#[]⟩ c1 n1).take (writeOf (nameMsg a))).2.1 stOk
      have hmail := hg4.mail (gx := gx) (gy := gy) HTW3.out.x.lt HTW3.out.y.lt
      change Mail w4 w4.heap.size gx gy V4 vs4 (((madeOf 4 b ⟨#[]⟩ c1 n1).take (writeOf (nameMsg a))).2.1.answer stOk).2.2 at hmail
      have hne : v4 = .nilIface ∨ ∃ t x, v4 = .iface t x := by
        rcases fault_cases hf4 with ⟨_, h⟩ | ⟨_, p, h⟩
        · exact .inl h
        · exact .inr ⟨_, _, h⟩
      generalize hMM : metAll a b c0 c1 n0 n1 = M at hM
      have HMM := Hid.mk7 hMM
      clear hMM
      generalize (((madeOf 4 b ⟨#[]⟩ c1 n1).take (writeOf (nameMsg a))).2.1.answer stOk).2.1 = Y0 at hY hM
      generalize (((madeOf 4 b ⟨#[]⟩ c1 n1).take (writeOf (nameMsg a))).2.1.answer stOk).2.2 = L0 at hM hfew hout hmail
      generalize madeOf 1 a b.name c0 n0 = X0 at hY hM
      have HS : Hid (Two w w4 gx gy X0 Y0 ∧ metRounds 4 X0 Y0 L0 = M ∧ L0.length ≤ 2 ∧ (∀ l ∈ L0, Byts l) ∧ Mail w4 w4.heap.size gx gy V4 vs4 L0) := ⟨hY, hM, hfew, hout, hmail⟩
      obtain ⟨a4, c4, hV4, _⟩ := hmail.sl.form
      subst hV4
      clear hf4 hg4 hs4 ht4 hY hM hfew hout hmail han HTW3 hne
      go_wp2_with fail
      go_loopw [16, 18] (fun tt rr wr => ∃ (r : Nat) (X Y : Sd) (vs : List Value) (ls : List (List Int)), rr = .int .i64 r ∧ r ≤ 4 ∧ metRounds (4 - r) X Y ls = M ∧ Two w wr gx gy X Y ∧ Mail wr wr.heap.size gx gy tt vs ls ∧ ls.length ≤ 2 ∧ ∀ l ∈ ls, Byts l) (fun _ rr _ => 4 - (intOf rr).toNat)
      case atStart =>
        obtain ⟨h1, h2, h3, h4, h5⟩ := HS.out
        exact ⟨0, X0, Y0, vs4, L0, rfl, by omega, h2, h1, h5, h3, h4⟩
      case round =>
        obtain ⟨r, X, Y, vs, ls, rfl, hr, hmr, htw, hml, hlen, hby⟩ := hrel
        obtain ⟨aT, cT, hT, hTc, hTm⟩ := hml.sl.form
        subst hT
        by_cases hr4 : r < 4
        · have hri : (r : Int) < 4 := by omega
          obtain ⟨C, hC⟩ : ∃ C, C = wr.heap.size := ⟨_, rfl⟩
          rw [← hC] at hml
          have HO : Hid (metRounds (4 - r) X Y ls = M ∧ Two w wr gx gy X Y ∧ Mail wr C gx gy (.slice aT vs.length cT) vs ls ∧ C ≤ wr.heap.size) := ⟨hmr, htw, hml, Nat.le_of_eq hC⟩
          have HBL := Hid.mk7 hby
          have HCG : Hid (gx < C ∧ gy < C) := ⟨by rw [hC]; exact htw.x.lt, by rw [hC]; exact htw.y.lt⟩
          clear hmr htw hml hby HS hC
          go_wp2_with fail
          go_loopw [19, 20] (fun bk ii wi => ∃ (j : Nat) (X' : Sd) (vb : List Value) (lb : List (List Int)), ii = .int .i64 j ∧ j ≤ ls.length ∧ lb.length ≤ j ∧ takesA X' lb (ls.drop j) = takesA X [] ls ∧ (∀ l ∈ lb, Byts l) ∧ Two w wi gx gy X' Y ∧ Mail wi C gx gy (.slice aT vs.length cT) vs ls ∧ Gather wi C bk vb lb ∧ C ≤ wi.heap.size) (fun _ ii _ => ls.length - (intOf ii).toNat)
          case atStart =>
            obtain ⟨_, h2, h3, h4⟩ := HO.out
            exact ⟨0, X, [], [], rfl, Nat.zero_le _, Nat.le_refl _, rfl, (fun l hl => by cases hl), h2, h3, Gather.nil _ _, h4⟩
          case round =>
            obtain ⟨j, X', vb, lb, rfl, hj, hlb, htk, hbl, htw, hml, hga, hCw⟩ := hrel
            obtain ⟨aB, cB, hBf, hBc, hBm⟩ := hga.own.sl.form
            subst hBf
            by_cases hjl : j < ls.length
            · have hjv : j < vs.length := by have := hml.len; omega
              have hji : (j : Int) < (vs.length : Int) := by omega
              have hcell : ∃ g off, aT = some ⟨g, off, none⟩ ∧ wr.cell? ⟨g, off + j, none⟩ = some vs[j] := by
                rcases hml.sl with ⟨_, h0⟩ | ⟨g, off, cap, h1, _, _, h4⟩
                · rw [h0] at hjv; exact absurd hjv (Nat.not_lt_zero j)
                · injection h1 with h1 _ _
                  exact ⟨g, off, h1, h4 j hjv⟩
              obtain ⟨g, off, rfl, hcell⟩ := hcell
              have hbyj := HBL.out ls[j] (List.getElem_mem hjl)
              have hst := takes_step X' lb ls j hjl
              rw [hst] at htk
              have hsl := hml.each j hjv hjl
              have htake := sd_take htw.xb htw.x htw.xo htw.xf htw.gd hsl hbyj.1 (by have := hbyj.2; omega)
              have hfew := take_few X' ls[j]
              have hout := take_out X' ls[j]
              obtain ⟨aj, cj, hjf, _⟩ := hsl.form
              rw [hjf] at hcell htake
              generalize ls[j].length = Lj at hcell htake
              have HI : Hid (takesA (X'.take ls[j]).2.1 (lb ++ (X'.take ls[j]).2.2) (ls.drop (j + 1)) = takesA X [] ls ∧ (∀ l ∈ lb, Byts l) ∧ Two w wr gx gy X' Y ∧ Mail wr C gx gy (.slice (some ⟨g, off, none⟩) vs.length cT) vs ls ∧ Gather wr C (.slice aB vb.length cB) vb lb ∧ Byts ls[j] ∧ (X'.take ls[j]).2.2.length ≤ 1 ∧ ∀ l ∈ (X'.take ls[j]).2.2, Byts l) := ⟨htk, hbl, htw, hml, hga, hbyj, hfew, hout⟩
              clear htk hbl htw hml hga hbyj hst hsl hfew hout hjf
              go_wp2_with fail
              refine htake.mono ?_
              rintro e w5 ⟨V5, v5, vs5, rfl, hf5, hg5, hs5, ht5⟩
              obtain ⟨q1, q2, q3, q4, q5, q6, q7, q8⟩ := HI.out
              have r3 := q3.takeX q6 hs5 ht5
              have r4 := q4.turned ht5 (fun k hk => .inr (.inl hk))
              have r5 := q5.turnedS ht5 (fun k hk => by have hk : k = gx := hk; have := HCG.out; omega)
              have hfit : vb.length + vs5.length ≤ 2199023255552 := by have h1 := q5.len; have h2 := hg5.len; have h3 : vs5.length = (X'.take ls[j]).2.2.length := h2; omega
              have hown := r5.own
              have hslv := hg5.own.sl
              have hone := hg5.cell1
              have HJ : Hid (takesA (X'.take ls[j]).2.1 (lb ++ (X'.take ls[j]).2.2) (ls.drop (j + 1)) = takesA X [] ls ∧ (∀ l ∈ lb ++ (X'.take ls[j]).2.2, Byts l) ∧ Two w w5 gx gy (X'.take ls[j]).2.1 Y ∧ Mail w5 C gx gy (.slice (some ⟨g, off, none⟩) vs.length cT) vs ls ∧ Gather w5 C (.slice aB vb.length cB) vb lb ∧ Gather w5 wr.heap.size V5 vs5 (X'.take ls[j]).2.2 ∧ (lb ++ (X'.take ls[j]).2.2).length ≤ j + 1 ∧ (∀ k, blk (.slice aB vb.length cB) k → k < wr.heap.size) ∧ wr.heap.size ≤ w5.heap.size) := ⟨q1, List.forall_mem_append.2 ⟨q2, q8⟩, r3, r4, r5, hg5, by rw [List.length_append]; omega, q5.own.blk_lt, ht5.size⟩
              obtain ⟨a5, c5, h5f, _⟩ := hslv.form
              subst h5f
              clear hf5 hg5 hs5 ht5 q1 q2 q3 q4 q5 q6 q7 q8 r3 r4 r5 htake HI hcell
              go_wp2_with (at_builtin; refine wpList_append_rows (by rfl) (.tmp 88) (.tmp 89) (by rfl) Tryz.rows (by rfl) (by rfl) hown hslv hone hfit ?_; intro v6 w6 ho6 ht6 hb6; have HK := Hid.mk7 (And.intro ho6 (And.intro ht6 hb6)); clear ho6 ht6 hb6)
              go_roundw
              case rel =>
                obtain ⟨q1, q2, q3, q4, q5, q6, q7, q8, q9⟩ := HJ.out
                obtain ⟨ho6, ht6, hb6⟩ := HK.out
                have hC5 : C ≤ w5.heap.size := Nat.le_trans hCw q9
                exact ⟨j + 1, _, _, _, by go_num, by omega, q7, q1, q2, q3.grown ht6 HCG.out.1 HCG.out.2 hC5 (fun k hk => q5.big k hk), q4.turned ht6 (fun k hk => .inl (q5.big k hk)), q5.join hC5 q6 hCw q8 ho6 ht6 hb6, Nat.le_trans hC5 ht6.size⟩
              case measure => simp [intOf]; omega
            · have hge : ¬ (j : Int) < (vs.length : Int) := by have := hml.len; omega
              have hjd : takesA X [] ls = (X', lb) := by
                rw [← htk, List.drop_of_length_le (by omega)]
                rfl
              obtain ⟨X1, hX1⟩ : ∃ X1, X1 = X' := ⟨_, rfl⟩
              obtain ⟨l1, hl1⟩ : ∃ l1, l1 = lb := ⟨_, rfl⟩
              obtain ⟨v1s, hv1s⟩ : ∃ v1s, v1s = vb := ⟨_, rfl⟩
              obtain ⟨a1B, ha1B⟩ : ∃ a1B, a1B = aB := ⟨_, rfl⟩
              obtain ⟨c1B, hc1B⟩ : ∃ c1B, c1B = cB := ⟨_, rfl⟩
              subst hX1 hl1 hv1s ha1B hc1B
              obtain ⟨C2, hC2⟩ : ∃ C2, C2 = wr.heap.size := ⟨_, rfl⟩
              have hml2 : Mail wr C2 gx gy (.slice a1B v1s.length c1B) v1s l1 := by rw [hC2]; exact hga.mail HCG.out.1 HCG.out.2
              have HO2 : Hid (takesA X [] ls = (X1, l1) ∧ Two w wr gx gy X1 Y ∧ Mail wr C2 gx gy (.slice a1B v1s.length c1B) v1s l1 ∧ C2 ≤ wr.heap.size ∧ l1.length ≤ ls.length) := ⟨hjd, htw, hml2, Nat.le_of_eq hC2, by omega⟩
              have HBL2 := Hid.mk7 hbl
              have HCG2 : Hid (gx < C2 ∧ gy < C2) := ⟨by rw [hC2]; exact htw.x.lt, by rw [hC2]; exact htw.y.lt⟩
              have HMR : Hid (metRounds (4 - r) X Y ls = M) := HO.out.1
              have hl2 : l1.length ≤ 2 := by omega
              clear htk hbl htw hml hga hjd hml2 hC2 HO HBL HCG hCw hlb hBc hBm
              go_wp2_with fail
              go_loopw [16, 23] (fun bk ii wi => ∃ (j : Nat) (Y' : Sd) (vb : List Value) (lb : List (List Int)), ii = .int .i64 j ∧ j ≤ l1.length ∧ lb.length ≤ j ∧ takesA Y' lb (l1.drop j) = takesA Y [] l1 ∧ (∀ l ∈ lb, Byts l) ∧ Two w wi gx gy X1 Y' ∧ Mail wi C2 gx gy (.slice a1B v1s.length c1B) v1s l1 ∧ Gather wi C2 bk vb lb ∧ C2 ≤ wi.heap.size) (fun _ ii _ => l1.length - (intOf ii).toNat)
              case atStart =>
                obtain ⟨_, h2, h3, h4, _⟩ := HO2.out
                exact ⟨0, Y, [], [], rfl, Nat.zero_le _, Nat.le_refl _, rfl, (fun l hl => by cases hl), h2, h3, Gather.nil _ _, h4⟩
              case round =>
                obtain ⟨j, Y', vb, lb, rfl, hj, hlb, htk, hbl, htw, hml, hga, hCw⟩ := hrel
                obtain ⟨aB, cB, hBf, hBc, hBm⟩ := hga.own.sl.form
                subst hBf
                by_cases hjl : j < l1.length
                · have hjv : j < v1s.length := by have := hml.len; omega
                  have hji : (j : Int) < (v1s.length : Int) := by omega
                  have hcell : ∃ g off, a1B = some ⟨g, off, none⟩ ∧ wr.cell? ⟨g, off + j, none⟩ = some v1s[j] := by
                    rcases hml.sl with ⟨_, h0⟩ | ⟨g, off, cap, h1, _, _, h4⟩
                    · rw [h0] at hjv; exact absurd hjv (Nat.not_lt_zero j)
                    · injection h1 with h1 _ _
                      exact ⟨g, off, h1, h4 j hjv⟩
                  obtain ⟨g, off, rfl, hcell⟩ := hcell
                  have hbyj := HBL2.out l1[j] (List.getElem_mem hjl)
                  have hst := takes_step Y' lb l1 j hjl
                  rw [hst] at htk
                  have hsl := hml.each j hjv hjl
                  have htake := sd_take htw.yb htw.y htw.yo htw.yf htw.gd hsl hbyj.1 (by have := hbyj.2; omega)
                  have hfew := take_few Y' l1[j]
                  have hout := take_out Y' l1[j]
                  obtain ⟨aj, cj, hjf, _⟩ := hsl.form
                  rw [hjf] at hcell htake
                  generalize l1[j].length = Lj at hcell htake
                  have HI : Hid (takesA (Y'.take l1[j]).2.1 (lb ++ (Y'.take l1[j]).2.2) (l1.drop (j + 1)) = takesA Y [] l1 ∧ (∀ l ∈ lb, Byts l) ∧ Two w wr gx gy X1 Y' ∧ Mail wr C2 gx gy (.slice (some ⟨g, off, none⟩) v1s.length c1B) v1s l1 ∧ Gather wr C2 (.slice aB vb.length cB) vb lb ∧ Byts l1[j] ∧ (Y'.take l1[j]).2.2.length ≤ 1 ∧ ∀ l ∈ (Y'.take l1[j]).2.2, Byts l) := ⟨htk, hbl, htw, hml, hga, hbyj, hfew, hout⟩
                  clear htk hbl htw hml hga hbyj hst hsl hfew hout hjf
                  go_wp2_with fail
                  refine htake.mono ?_
                  rintro e w5 ⟨V5, v5, vs5, rfl, hf5, hg5, hs5, ht5⟩
                  obtain ⟨q1, q2, q3, q4, q5, q6, q7, q8⟩ := HI.out
                  have r3 := q3.takeY q6 hs5 ht5
                  have r4 := q4.turned ht5 (fun k hk => .inr (.inr hk))
                  have r5 := q5.turnedS ht5 (fun k hk => by have hk : k = gy := hk; have := HCG2.out; omega)
                  have hfit : vb.length + vs5.length ≤ 2199023255552 := by have h1 := q5.len; have h2 := hg5.len; have h3 : vs5.length = (Y'.take l1[j]).2.2.length := h2; omega
                  have hown := r5.own
                  have hslv := hg5.own.sl
                  have hone := hg5.cell1
                  have HJ : Hid (takesA (Y'.take l1[j]).2.1 (lb ++ (Y'.take l1[j]).2.2) (l1.drop (j + 1)) = takesA Y [] l1 ∧ (∀ l ∈ lb ++ (Y'.take l1[j]).2.2, Byts l) ∧ Two w w5 gx gy X1 (Y'.take l1[j]).2.1 ∧ Mail w5 C2 gx gy (.slice (some ⟨g, off, none⟩) v1s.length c1B) v1s l1 ∧ Gather w5 C2 (.slice aB vb.length cB) vb lb ∧ Gather w5 wr.heap.size V5 vs5 (Y'.take l1[j]).2.2 ∧ (lb ++ (Y'.take l1[j]).2.2).length ≤ j + 1 ∧ (∀ k, blk (.slice aB vb.length cB) k → k < wr.heap.size) ∧ wr.heap.size ≤ w5.heap.size) := ⟨q1, List.forall_mem_append.2 ⟨q2, q8⟩, r3, r4, r5, hg5, by rw [List.length_append]; omega, q5.own.blk_lt, ht5.size⟩
                  obtain ⟨a5, c5, h5f, _⟩ := hslv.form
                  subst h5f
                  clear hf5 hg5 hs5 ht5 q1 q2 q3 q4 q5 q6 q7 q8 r3 r4 r5 htake HI hcell
                  go_wp2_with (at_builtin; refine wpList_append_rows (by rfl) (.tmp 106) (.tmp 107) (by rfl) Tryz.rows (by rfl) (by rfl) hown hslv hone hfit ?_; intro v6 w6 ho6 ht6 hb6; have HK := Hid.mk7 (And.intro ho6 (And.intro ht6 hb6)); clear ho6 ht6 hb6)
                  go_roundw
                  case rel =>
                    obtain ⟨q1, q2, q3, q4, q5, q6, q7, q8, q9⟩ := HJ.out
                    obtain ⟨ho6, ht6, hb6⟩ := HK.out
                    have hC5 : C2 ≤ w5.heap.size := Nat.le_trans hCw q9
                    exact ⟨j + 1, _, _, _, by go_num, by omega, q7, q1, q2, q3.grown ht6 HCG2.out.1 HCG2.out.2 hC5 (fun k hk => q5.big k hk), q4.turned ht6 (fun k hk => .inl (q5.big k hk)), q5.join hC5 q6 hCw q8 ho6 ht6 hb6, Nat.le_trans hC5 ht6.size⟩
                  case measure => simp [intOf]; omega
                · have hge2 : ¬ (j : Int) < (v1s.length : Int) := by have := hml.len; omega
                  have hjd : takesA Y [] l1 = (Y', lb) := by
                    rw [← htk, List.drop_of_length_le (by omega)]
                    rfl
                  have hnew : metRounds (4 - (r + 1)) X1 Y' lb = M := by
                    rw [← HMR.out, show 4 - r = (4 - (r + 1)) + 1 by omega, rounds_more, HO2.out.1]
                    simp only
                    rw [hjd]
                  have HF : Hid (metRounds (4 - (r + 1)) X1 Y' lb = M ∧ Two w wr gx gy X1 Y' ∧ Mail wr wr.heap.size gx gy (.slice aB vb.length cB) vb lb ∧ lb.length ≤ 2 ∧ ∀ l ∈ lb, Byts l) := ⟨hnew, htw, hga.mail HCG2.out.1 HCG2.out.2, by omega, hbl⟩
                  clear htk hbl htw hml hga hjd hnew HO2 HBL2 HCG2 hCw hlb hBc hBm
                  go_wp2
                  go_roundw
                  case rel =>
                    obtain ⟨q1, q2, q3, q4, q5⟩ := HF.out
                    exact ⟨r + 1, _, _, _, _, by go_num, by omega, q1, q2, q3, q4, q5⟩
                  case measure => simp [intOf]; omega
        · have hri : ¬ (r : Int) < 4 := by omega
          have hm0 : metRounds 0 X Y ls = M := by
            rw [← hmr, show 4 - r = 0 by omega]
          have HF : Hid ((X, Y, ls) = M ∧ Two w wr gx gy X Y) := ⟨hm0, htw⟩
          clear hmr htw hml hby HS hm0
          go_wp2
          go_ret3
          rw [HMT.out]
          obtain ⟨q1, q2⟩ := HF.out
          have q3 := HMM.out
          refine .inr ⟨HL1.out, HL2.out, gx, gy, rfl, ?_, ?_, q2.xw, q2.yw, q2.b⟩
          · rw [q3, ← q1]; exact q2.x
          · rw [q3, ← q1]; exact q2.y
end Go.Proofs.YtmnibmgbicnamaaGreatDoor
namespace Go.Proofs.YtmnibmgbicnamaaGreatDoor
open Go.RowKit

def nodeN : Pr := ⟨⟨#[110, 64, 104]⟩, 4345626892, 1⟩
def nodeM : Pr := ⟨⟨#[109, 64, 104]⟩, 4345626892, 2⟩
def ckC : ByteArray := ⟨#[99]⟩
theorem wake_n : nodeN.Ok := ⟨⟨by decide, by decide⟩, by decide, by decide⟩
theorem wake_m : nodeM.Ok := ⟨⟨by decide, by decide⟩, by decide, by decide⟩
theorem wake_1 : madeErr nodeN nodeM.name true ckC = [] := by decide +kernel
theorem wake_2 : madeErr nodeM ⟨#[]⟩ false ckC = [] := by decide +kernel
theorem wake_3 : readOf 2 [115, 111, 107, 97, 121] = (sh 1 160, Msg.zero) := by kernel_rfl
theorem wake_met : (metAll nodeN nodeM ckC ckC 5 6).1.state = 7 ∧ (metAll nodeN nodeM ckC ckC 5 6).1.peer = nodeM ∧ (metAll nodeN nodeM ckC ckC 5 6).2.1.state = 7 ∧ (metAll nodeN nodeM ckC ckC 5 6).2.1.peer = nodeN := by
  obtain ⟨h, _⟩ := met_told nodeN nodeM ckC ckC 5 6 wake_n wake_m (by decide) (by decide) wake_1 wake_2
  obtain ⟨h1, h2, h3⟩ := h rfl
  obtain ⟨h4, h5⟩ := h3 rfl
  exact ⟨h4, h5, h1, h2⟩
theorem law_peer (nm : ByteArray) (cr : Int) (w : World) : Calls Tryz.prog 40 #[.string nm, .int .u32 cr] w fun e w' => e = .returned (.agg #[.string nm, .int .u64 4345626892, .int .u32 cr]) ∧ Below w.heap.size w w' := by
  go_enter Tryz.func40, Tryz.ntmps40
  go_wp2
  refine bodyPost_ret (v := .agg #[.string nm, .int .u64 4345626892, .int .u32 cr]) (by simp [results, Tryz.results40, go_sem]) rfl ⟨rfl, ?_⟩
  exact (Below.refl _ _).alloc (Nat.le_refl _) _
set_option maxRecDepth 100000 in
set_option maxHeartbeats 6400000 in
theorem law_awake {w : World} (hG : Gd w) : Calls Tryz.prog 12 #[] w fun e w' => e = .returned (.bool true) ∧ Below w.heap.size w w' := by
  have HG := Hid.mk7 hG
  clear hG
  have hcv := fun (w : World) (C : Array Value) (n c : Nat) => Lib.run_convert_bytes_const (P := Tryz.prog) w 25 5 C n c Tryz.underlying25 Tryz.underlying5
  have hp1 := law_peer nodeN.name nodeN.creation w
  unfold nodeN at hp1
  go_enter Tryz.func12, Tryz.ntmps12
  go_wp2_with fail
  refine hp1.mono ?_
  rintro e w1 ⟨rfl, hb1⟩
  have hp2 := law_peer nodeM.name nodeM.creation w1
  unfold nodeM at hp2
  have H1 := Hid.mk7 hb1
  clear hb1 hp1
  go_wp2_with fail
  refine hp2.mono ?_
  rintro e w2 ⟨rfl, hb2⟩
  have H2 : Hid (Below w.heap.size w w2) := H1.out.trans (hb2.mono H1.out.size)
  have hmt := law_met nodeN nodeM wake_n wake_m ckC ckC 5 6 (by decide) (by decide) (by decide) (by decide) (by decide) (by decide) (HG.out.below H2.out)
  simp only [nodeN, nodeM, ckC] at hmt
  clear hb2 hp2 H1
  go_wp2_with fail
  refine hmt.mono ?_
  rintro e w3 (⟨h, _, _⟩ | ⟨_, _, gx, gy, rfl, hx, hy, hgx, hgy, hb3⟩)
  · exact absurd h (fun h => h.elim (fun h => h wake_1) (fun h => h wake_2))
  have hx : SideAt w3 gx (metAll nodeN nodeM ckC ckC 5 6).1 := hx
  have hy : SideAt w3 gy (metAll nodeN nodeM ckC ckC 5 6).2.1 := hy
  obtain ⟨m1, m2, m3, m4⟩ := wake_met
  have hnx := sd_now hx
  rw [m1, m2] at hnx
  generalize (metAll nodeN nodeM ckC ckC 5 6).1.simult = s1 at hnx
  have HY := Hid.mk7 hy
  have H3 : Hid (Below w.heap.size w w3) := H2.out.trans (hb3.mono H2.out.size)
  simp only [nodeM] at hnx
  clear hx hy hb3 hmt hgx hgy H2 m1 m2
  go_wp2_with fail
  refine hnx.mono ?_
  rintro e w4 ⟨rfl, hb4⟩
  have hny := sd_now (HY.out.below hb4)
  rw [m3, m4] at hny
  generalize (metAll nodeN nodeM ckC ckC 5 6).2.1.simult = s2 at hny
  have H4 : Hid (Below w.heap.size w w4) := H3.out.trans (hb4.mono H3.out.size)
  simp only [nodeN] at hny
  clear hb4 hnx H3 m3 m4 HY
  go_wp2_with fail
  refine hny.mono ?_
  rintro e w5 ⟨rfl, hb5⟩
  have H5 : Hid (Below w.heap.size w w5) := H4.out.trans (hb5.mono H4.out.size)
  obtain ⟨wa, hwa⟩ : ∃ wa, wa = w5.alloc (.cells #[.int .i64 7, .string ⟨#[109, 64, 104]⟩, .int .u64 4345626892, .int .u32 2, .bool s1] 66) := ⟨_, rfl⟩
  obtain ⟨wb, hwb⟩ : ∃ wb, wb = wa.alloc (.cells #[.int .i64 7, .string ⟨#[110, 64, 104]⟩, .int .u64 4345626892, .int .u32 1, .bool s2] 66) := ⟨_, rfl⟩
  obtain ⟨wc, hwc⟩ : ∃ wc, wc = wb.alloc (.cells #[.int .u8 115, .int .u8 111, .int .u8 107, .int .u8 97, .int .u8 121] 5 (5, 6)) := ⟨_, rfl⟩
  have ba : Below w5.heap.size w5 wa := by rw [hwa]; exact (Below.refl _ _).alloc (Nat.le_refl _) _
  have bb : Below wa.heap.size wa wb := by rw [hwb]; exact (Below.refl _ _).alloc (Nat.le_refl _) _
  have bc : Below wb.heap.size wb wc := by rw [hwc]; exact (Below.refl _ _).alloc (Nat.le_refl _) _
  have sa : wa.heap.size = w5.heap.size + 1 := by rw [hwa]; simp
  have sb : wb.heap.size = w5.heap.size + 1 + 1 := by rw [hwb]; simp [sa]
  have bbc : Below wa.heap.size wa wc := bb.trans (bc.mono bb.size)
  have pa : wc.cell? ⟨w5.heap.size, 0, none⟩ = some (.int .i64 7) ∧ wc.cell? ⟨w5.heap.size, 1, none⟩ = some (.string ⟨#[109, 64, 104]⟩) := ⟨(bbc.cell (p := ⟨w5.heap.size, 0, none⟩) (by simp; omega)).trans (by rw [hwa]; simp), (bbc.cell (p := ⟨w5.heap.size, 1, none⟩) (by simp; omega)).trans (by rw [hwa]; simp)⟩
  have pb : wc.cell? ⟨wa.heap.size, 0, none⟩ = some (.int .i64 7) ∧ wc.cell? ⟨wa.heap.size, 3, none⟩ = some (.int .u32 1) := ⟨(bc.cell (p := ⟨wa.heap.size, 0, none⟩) (by simp; omega)).trans (by rw [hwb]; simp), (bc.cell (p := ⟨wa.heap.size, 3, none⟩) (by simp; omega)).trans (by rw [hwb]; simp)⟩
  have hsl : Sl wc (.slice (some ⟨wb.heap.size, 0, none⟩) 5 5) [115, 111, 107, 97, 121] := by
    rw [hwc]
    refine .inr (.inr ⟨wb.heap.size, 0, 5, rfl, by simp, by unfold maxLen; omega, fun j hj => ?_⟩)
    have h5 : j = 0 ∨ j = 1 ∨ j = 2 ∨ j = 3 ∨ j = 4 := by simp at hj; omega
    rcases h5 with rfl | rfl | rfl | rfl | rfl <;> (rw [World.cell?_alloc_mark]; rfl)
  have bw : Below w.heap.size w wc := H5.out.trans ((ba.trans (bbc.mono ba.size)).mono H5.out.size)
  have hrd := sh_read 2 hsl (by decide) (by decide) (HG.out.below bw).er
  have hcv5 := hcv wb #[.int .u8 115, .int .u8 111, .int .u8 107, .int .u8 97, .int .u8 121] 5 5
  simp only [List.size_toArray, List.length_cons, List.length_nil, Nat.zero_add, Nat.reduceAdd] at hcv5
  rw [sb] at hsl hrd hcv5
  rw [sa] at pb
  have HW : Hid (Below w.heap.size w wc ∧ (wc.cell? ⟨w5.heap.size, 0, none⟩ = some (.int .i64 7) ∧ wc.cell? ⟨w5.heap.size, 1, none⟩ = some (.string ⟨#[109, 64, 104]⟩)) ∧ (wc.cell? ⟨w5.heap.size + 1, 0, none⟩ = some (.int .i64 7) ∧ wc.cell? ⟨w5.heap.size + 1, 3, none⟩ = some (.int .u32 1))) := ⟨bw, pa, pb⟩
  rw [← hwc] at hcv5
  have HE : Hid (wc = ((w5.alloc (.cells #[.int .i64 7, .string ⟨#[109, 64, 104]⟩, .int .u64 4345626892, .int .u32 2, .bool s1] 66)).alloc (.cells #[.int .i64 7, .string ⟨#[110, 64, 104]⟩, .int .u64 4345626892, .int .u32 1, .bool s2] 66)).alloc (.cells #[.int .u8 115, .int .u8 111, .int .u8 107, .int .u8 97, .int .u8 121] 5 (5, 6))) := by
    have h : wc = ((w5.alloc (.cells #[.int .i64 7, .string ⟨#[109, 64, 104]⟩, .int .u64 4345626892, .int .u32 2, .bool s1] 66)).alloc (.cells #[.int .i64 7, .string ⟨#[110, 64, 104]⟩, .int .u64 4345626892, .int .u32 1, .bool s2] 66)).alloc (.cells #[.int .u8 115, .int .u8 111, .int .u8 107, .int .u8 97, .int .u8 121] 5 (5, 6)) := by rw [hwc, hwb, hwa]
    exact h
  rw [hwb, hwa] at hcv5
  clear hwa hwb hwc ba bb bc bbc sa sb pa pb hsl bw hcv hb5 hny H4
  go_wp2_with fail
  refine hrd.mono ?_
  unfold ReadTold
  rw [wake_3]
  rintro e w6 ⟨D, v, rfl, hf6, hD6, _, hb6⟩
  have hf6 : FaultC wc.heap.size w6 v (sh 1 160) := hf6
  obtain ⟨aD, cD, hDf, _, _⟩ := hD6.form
  subst hDf
  have H6 : Hid (Below w.heap.size w w6 ∧ FaultC wc.heap.size w6 v (sh 1 160)) := ⟨HW.out.1.trans (hb6.mono HW.out.1.size), hf6⟩
  have q0 := (hb6.cell (p := ⟨w5.heap.size, 0, none⟩) (World.block_lt_of_cell? _ _ HW.out.2.1.1)).trans HW.out.2.1.1
  have q1 := (hb6.cell (p := ⟨w5.heap.size, 1, none⟩) (World.block_lt_of_cell? _ _ HW.out.2.1.2)).trans HW.out.2.1.2
  have q2 := (hb6.cell (p := ⟨w5.heap.size + 1, 0, none⟩) (World.block_lt_of_cell? _ _ HW.out.2.2.1)).trans HW.out.2.2.1
  have q3 := (hb6.cell (p := ⟨w5.heap.size + 1, 3, none⟩) (World.block_lt_of_cell? _ _ HW.out.2.2.2)).trans HW.out.2.2.2
  have hz1 : w5.heap.size + 1 < w6.heap.size := World.block_lt_of_cell? w6 _ q2
  have hz0 : w5.heap.size < w6.heap.size := World.block_lt_of_cell? w6 _ q0
  unfold msgV'
  simp only [Msg.zero]
  obtain ⟨pb, _, rfl, _⟩ := hf6
  clear hD6 hb6 hrd hcv5 HW HE H5
  obtain ⟨wm, hwm⟩ : ∃ wm, wm = w6.alloc (.cells #[.int .i64 0, .int .u64 0, .int .u32 0, .int .u32 0, .string ⟨#[]⟩, .string ⟨#[]⟩, .slice aD 0 cD] 27) := ⟨_, rfl⟩
  obtain ⟨wn, hwn⟩ : ∃ wn, wn = wm.alloc (.cells #[.string ⟨#[115, 104, 97, 107, 101]⟩, .int .i64 1, .int .i64 160] 102) := ⟨_, rfl⟩
  have bm : Below w6.heap.size w6 wm := by rw [hwm]; exact (Below.refl _ _).alloc (Nat.le_refl _) _
  have bn : Below wm.heap.size wm wn := by rw [hwn]; exact (Below.refl _ _).alloc (Nat.le_refl _) _
  have sm : wm.heap.size = w6.heap.size + 1 := by rw [hwm]; simp
  have hlc : LinksC wm.heap.size wn (.slice (some ⟨wm.heap.size, 0, none⟩) 1 1) (sh 1 160) := ⟨wm.heap.size, 1, Nat.le_refl _, rfl, by rw [hwn]; exact ⟨by simp [lyShake], by simp, by simp⟩⟩
  have bmn : Below w6.heap.size w6 wn := bm.trans (bn.mono bm.size)
  have bwn : Below w.heap.size w wn := H6.out.1.trans (bmn.mono H6.out.1.size)
  have hre := refused_bothC (HG.out.below bwn).er (H6.out.2.below bmn) hlc
  have HN := Hid.mk7 bwn
  rw [sm] at hre
  rw [hwn, hwm] at hre
  have HSZ : Hid (w.heap.size ≤ wn.heap.size) := bwn.size
  have HWN : Hid (wn = (w6.alloc (.cells #[.int .i64 0, .int .u64 0, .int .u32 0, .int .u32 0, .string ⟨#[]⟩, .string ⟨#[]⟩, .slice aD 0 cD] 27)).alloc (.cells #[.string ⟨#[115, 104, 97, 107, 101]⟩, .int .i64 1, .int .i64 160] 102)) := by
    have h : wn = (w6.alloc (.cells #[.int .i64 0, .int .u64 0, .int .u32 0, .int .u32 0, .string ⟨#[]⟩, .string ⟨#[]⟩, .slice aD 0 cD] 27)).alloc (.cells #[.string ⟨#[115, 104, 97, 107, 101]⟩, .int .i64 1, .int .i64 160] 102) := by rw [hwn, hwm]
    exact h
  clear hwm hwn bm bn sm hlc bmn bwn
  go_wp2_with (first
      | (go_at_call 41; refine (one_any _ _ _ _).mono ?_; rintro ev w7 ⟨rfl, rfl⟩)
      | fail)
  refine hre.mono ?_
  rintro e w8 ⟨rfl, hb8⟩
  rw [← HWN.out] at hb8
  have H8 : Hid (Below w.heap.size w w8) := HN.out.trans (hb8.mono HSZ.out)
  clear hb8 hre
  go_wp2
  go_ret
  exact ⟨rfl, H8.out⟩
end Go.Proofs.YtmnibmgbicnamaaGreatDoor
namespace Go.Proofs.YtmnibmgbicnamaaGreatDoor
open Go.RowKit

set_option maxRecDepth 100000 in
set_option maxHeartbeats 3200000 in
theorem ref_same_eq (m : Msg) {w : World} {D E : Value} (hD : Sl w D m.digest) (hE : Sl w E m.digest) : Calls Tryz.prog 15 #[msgV' m D, msgV' m E] w fun e w' => e = .returned (.bool true) ∧ Below w.heap.size w w' := by
  obtain ⟨aD, cD, rfl, _, _⟩ := hD.form
  obtain ⟨aE, cE, rfl, _, _⟩ := hE.form
  obtain ⟨k, fl, cr, ch, nm, st, dg⟩ := m
  unfold msgV'
  simp only at hD hE ⊢
  obtain ⟨wa, hwa⟩ : ∃ wa, wa = w.alloc (.cells #[.int .i64 k, .int .u64 fl, .int .u32 cr, .int .u32 ch, .string nm, .string st, .slice aD dg.length cD] 27) := ⟨_, rfl⟩
  obtain ⟨wb, hwb⟩ : ∃ wb, wb = wa.alloc (.cells #[.int .i64 k, .int .u64 fl, .int .u32 cr, .int .u32 ch, .string nm, .string st, .slice aE dg.length cE] 27) := ⟨_, rfl⟩
  have ba : Below w.heap.size w wa := by rw [hwa]; exact (Below.refl _ _).alloc (Nat.le_refl _) _
  have bb : Below wa.heap.size wa wb := by rw [hwb]; exact (Below.refl _ _).alloc (Nat.le_refl _) _
  have bab : Below w.heap.size w wb := ba.trans (bb.mono ba.size)
  have cvD := (hD.turned (Turned.ofBelow (S := fun _ => False) bab) (fun _ _ h => h)).str
  have cvE := (hE.turned (Turned.ofBelow (S := fun _ => False) bab) (fun _ _ h => h)).str
  have HB := Hid.mk7 bab
  rw [hwb, hwa] at cvD cvE
  have HW : Hid (wb = (w.alloc (.cells #[.int .i64 k, .int .u64 fl, .int .u32 cr, .int .u32 ch, .string nm, .string st, .slice aD dg.length cD] 27)).alloc (.cells #[.int .i64 k, .int .u64 fl, .int .u32 cr, .int .u32 ch, .string nm, .string st, .slice aE dg.length cE] 27)) := by
    have h : wb = (w.alloc (.cells #[.int .i64 k, .int .u64 fl, .int .u32 cr, .int .u32 ch, .string nm, .string st, .slice aD dg.length cD] 27)).alloc (.cells #[.int .i64 k, .int .u64 fl, .int .u32 cr, .int .u32 ch, .string nm, .string st, .slice aE dg.length cE] 27) := by rw [hwb, hwa]
    exact h
  clear hwa hwb ba bb bab hD hE
  go_enter Tryz.func15, Tryz.ntmps15
  go_wp2
  go_ret
  refine ⟨rfl, ?_⟩
  have h := HB.out
  rw [HW.out] at h
  exact h
end Go.Proofs.YtmnibmgbicnamaaGreatDoor
