/-
  heddlelaw05.StreamChunks: chunks play no part; its walk, given the program's stream.
-/
import Derived.Test.YtjkmklbkemoldaaDoorRowBase
import Derived.Deep.DeepCutAuto
namespace Go.Proofs.YtjkmklbkemoldaaDoor
open Go.RowKit

/-- A part of a slice. -/
theorem Sl.mid {w : World} {a : Option Addr} {cap i n : Nat} {zs : List Int} (h : Sl w (.slice a zs.length cap) zs) (hn : i + n ≤ zs.length) : Sl w (.slice (if cap = i then a else a.map (·.add i)) n (cap - i)) ((zs.drop i).take n) := by
  have hd := h.drop (n := i) (by omega)
  rw [show zs.length - i = (zs.drop i).length by simp] at hd
  exact hd.take (by simp; omega)

/-- What the loop keeps of the stream: end 1 has sent all that came, end 0 has read it. -/
structure St.Level (st : St) : Prop where
  o : st.shut = false
  u : st.b.und = []
  c : st.a.come = []
  t : st.b.stall = false

theorem Level.send {st : St} (h : st.Level) {bs : List Int} (hb : bs.length ≤ 4194304) : st.send 1 bs = (none, { st with b := { st.b with und := bs, sent := wrap64 (st.b.sent + bs.length) } }) := by
  have : ¬ 4194304 < (bs.length : Int) := by omega
  simp [St.send, bad, h.o, St.at, h.u, St.up, this]
theorem Level.move {st : St} (h : st.Level) {bs : List Int} {s : Int} (hb : bs.length ≤ 4194304) : ({ st with b := { st.b with und := bs, sent := s } } : St).move 1 bs.length = (none, { st with a := { st.a with come := bs, moved := wrap64 (st.a.moved + bs.length) }, b := { st.b with und := [], sent := s } }) := by
  have h1 : ¬ (4194304 : Int) < bs.length := by omega
  have h2 : ¬ (bs.length : Int) < 0 := by omega
  simp [St.move, bad, h.o, St.at, St.other, h.t, h.c, h1, h2, St.mv, St.both]
theorem Level.read {st : St} (h : st.Level) {bs : List Int} {s m : Int} : ({ st with a := { st.a with come := bs, moved := m }, b := { st.b with und := [], sent := s } } : St).read 0 bs.length = (none, bs, { st with a := { st.a with come := [], moved := m, read := wrap64 (st.a.read + bs.length) }, b := { st.b with und := [], sent := s } }) := by
  have h2 : ¬ (bs.length : Int) < 0 := by omega
  simp [St.read, bad, h.o, St.at, St.takes, St.up, h2]

set_option maxRecDepth 100000 in
set_option maxHeartbeats 6400000 in
theorem chunks_any {Mem : World → Nat → (Nat → Prop) → St → Prop} (I : Impl Mem) (x y : Value) (bs ps : List Int) (w : World) (her : Er w) (hx : Sl w x bs) (hy : Sl w y ps) (hps : ∀ z ∈ ps, 0 ≤ z ∧ z ≤ 255) (hbs : bs.length ≤ 140737488355328) :
    Calls Tryd.prog 6 #[x, y] w fun ev w' => ev = .returned (.bool true) ∧ Below w.heap.size w w' := by
  obtain ⟨ax, capx, rfl, hcx, hmx⟩ := hx.form
  obtain ⟨ay, capy, rfl, hcy, hmy⟩ := hy.form
  go_enter Tryd.func6, Tryd.ntmps6
  go_wp2_with fail
  refine (I.new w).mono ?_
  rintro ev w1 ⟨sb, S1, rfl, hm1, hb1, hS1⟩
  by_cases hlong : 4194304 < (bs.length : Int)
  · go_wp2_with fail
    refine (alive_any I w1 (her.below hb1)).mono ?_
    rintro ev w2 ⟨rfl, hb2⟩
    go_wp2
    go_ret
    exact ⟨rfl, hb1.trans (hb2.mono hb1.size)⟩
  · go_wp2_with fail
    go_loopw [6, 7, 8, 9, 10, 11] (fun o at_ i n x1 e1 wr => ∃ (k j : Nat) (st : St) (S : Nat → Prop), k ≤ bs.length ∧ at_ = .int .i64 k ∧ i = .int .i64 j ∧ j ≤ k ∧ Own wr o (bs.take k) ∧ Mem wr sb S st ∧ st.Ok ∧ st.Level ∧ (∀ q, blk o q → w.heap.size ≤ q ∧ ¬ S q) ∧ (∀ q, S q → w.heap.size ≤ q) ∧ Below w.heap.size w wr) (fun _ at_ _ _ _ _ _ => bs.length - (intOf at_).toNat)
    case atStart => exact ⟨0, 0, St.fresh, S1, Nat.zero_le _, rfl, rfl, Nat.le_refl _, .inl ⟨rfl, rfl⟩, hm1, St.Ok.fresh, ⟨rfl, rfl, rfl, rfl⟩, fun q h => h.elim, hS1, hb1⟩
    case round =>
      obtain ⟨k, j, st, S, hk, rfl, rfl, hj, ho, hm, hok, hl, hob, hSb, hB⟩ := hrel
      by_cases hlt : k < bs.length
      · have hlti : (k : Int) < (bs.length : Int) := by omega
        go_upto_if 33 with fail
        go_cut [9] (fun v9 wc => ∃ m : Nat, v9 = .int .i64 m ∧ 1 ≤ m ∧ m ≤ 256 ∧ wr = wc)
        case first =>
          by_cases hp0 : ps = []
          · have hpb : ¬ (0 : Int) < (ps.length : Int) := by simp [hp0]
            clear hp0
            go_wp2
            go_meet
            exact ⟨1, rfl, by omega, by omega, rfl⟩
          · have hpl : 0 < ps.length := List.length_pos_iff.2 hp0
            have hpb : (0 : Int) < (ps.length : Int) := by omega
            obtain ⟨gy, offy, rfl, hcell⟩ : ∃ gy offy, ay = some ⟨gy, offy, none⟩ ∧ ∀ q (h : q < ps.length), w.cell? ⟨gy, offy + q, none⟩ = some (.int .u8 ps[q]) := by
              rcases hy with ⟨_, h⟩ | ⟨_, _, h⟩ | ⟨gy, offy, cap', h, _, _, h4⟩
              · exact absurd h hp0
              · exact absurd h hp0
              · cases h; exact ⟨gy, offy, rfl, h4⟩
            obtain ⟨q, hqd⟩ : ∃ q : Nat, q = j % ps.length := ⟨_, rfl⟩
            have hq : q < ps.length := by rw [hqd]; exact Nat.mod_lt _ hpl
            have hmod : (j : Int) % (ps.length : Int) = (q : Int) := by rw [hqd]; simp
            have hcq := hcell q hq
            have hrq : wr.cell? ⟨gy, offy + q, none⟩ = some (.int .u8 ps[q]) := (hB.cell (p := ⟨gy, offy + q, none⟩) (World.block_lt_of_cell? w _ hcq)).trans hcq
            have hz := hps _ (List.getElem_mem hq)
            generalize ps[q] = z at hrq hz
            obtain ⟨hz0, hz1⟩ := hz
            have hq0 : (0 : Int) ≤ (q : Int) := by omega
            have hq1 : (q : Int) < (ps.length : Int) := by omega
            clear hcell hcq hqd
            clear hp0
            go_wp2
            go_meet
            exact ⟨1 + z.toNat, by go_num, by omega, by omega, rfl⟩
        case rest =>
          obtain ⟨m, rfl, hm1, hm2, rfl⟩ := hcut
          go_upto_region 12 with fail
          go_cut [52] (fun v52 wc => ∃ b : Bool, v52 = .bool b ∧ (b = false → k + m ≤ bs.length) ∧ wr = wc)
          case first =>
            by_cases hj4 : (4000 : Int) < (j : Int)
            · go_wp2_with fail
              go_meet
              exact ⟨true, rfl, fun h => absurd h (by decide), rfl⟩
            · by_cases hmk : (bs.length : Int) - (k : Int) < (m : Int)
              · go_wp2_with fail
                go_meet
                exact ⟨true, rfl, fun h => absurd h (by decide), rfl⟩
              · go_wp2_with fail
                go_meet
                exact ⟨false, rfl, fun _ => by omega, rfl⟩
          case rest =>
          obtain ⟨bb, rfl, hbb, rfl⟩ := hcut
          go_upto_if 52 with fail
          go_cut [9] (fun v9 wc => ∃ n : Nat, v9 = .int .i64 n ∧ 1 ≤ n ∧ k + n ≤ bs.length ∧ wr = wc)
          case first =>
            cases bb with
            | true =>
              go_wp2
              go_meet
              exact ⟨bs.length - k, by go_num, by omega, by omega, rfl⟩
            | false =>
              have hkm := hbb rfl
              go_wp2
              go_meet
              exact ⟨m, rfl, by omega, by omega, rfl⟩
          case rest =>
            obtain ⟨n, rfl, hn1, hn2, rfl⟩ := hcut
            obtain ⟨cs, hcs⟩ : ∃ cs, cs = (bs.drop k).take n := ⟨_, rfl⟩
            have hcl : cs.length = n := by rw [hcs]; simp; omega
            have hX : Sl wr (.slice (ax.map (·.add k)) n (capx - k)) cs := by
              have := (hx.turnedN (Turned.ofBelow (S := fun _ => False) hB) (fun _ _ _ h => h)).mid (i := k) (n := n) hn2
              rwa [if_neg (by omega), ← hcs] at this
            have HC : Hid (bs.take k ++ cs = bs.take (k + n)) := by unfold Hid; rw [hcs, List.take_add]
            have hXb : cs ≠ [] → ∀ q, blk (.slice (ax.map (·.add k)) n (capx - k)) q → ¬ S q := fun _ q hq hs => by
              have h1 := hSb q hs
              have h2 : blk (.slice ax bs.length capx) q := by
                cases ax with
                | none => exact hq.elim
                | some a => simp only [Option.map_some, blk] at hq ⊢; rw [← hq]; unfold Addr.add; split <;> rfl
              have := hx.lt (by intro h; rw [h] at hlt; simp at hlt) q h2
              omega
            have ob := ho.blk_lt
            clear hcs
            subst hcl
            have hc1 := I.send hm hok 1 hX (by omega) hXb
            rw [Level.send hl (by omega)] at hc1
            have hok1 := hok.send 1 cs
            rw [Level.send hl (by omega)] at hok1
            have hok2 := hok1.move 1 cs.length
            rw [Level.move hl (by omega)] at hok2
            have hok3 := hok2.read 0 cs.length
            rw [Level.read hl] at hok3
            clear hX hXb
            go_wp2_with fail
            refine hc1.mono ?_
            rintro ev w2 ⟨v2, S2, rfl, he2, hm2', T2, hS2⟩
            have he2 : v2 = .nilIface := he2
            subst he2
            clear hc1
            have hc2 := I.move hm2' hok1 1 cs.length
            rw [Level.move hl (by omega)] at hc2
            have o2 := T2.size
            go_wp2_with fail
            refine hc2.mono ?_
            rintro ev w3 ⟨v3, S3, rfl, he3, hm3, T3, hS3⟩
            have he3 : v3 = .nilIface := he3
            subst he3
            clear hc2
            have hc3 := I.read hm3 hok2 0 cs.length
            rw [Level.read hl] at hc3
            have o3 := T3.size
            go_wp2_with fail
            refine hc3.mono ?_
            rintro ev w4 ⟨V4, v4, S4, rfl, he4, hV4, hm4, T4, hS4, hb4⟩
            have he4 : v4 = .nilIface := he4
            subst he4
            clear hc3
            have o4 := T4.size
            have n2 : ∀ q, q < wr.heap.size → ¬ S q → ¬ S2 q := fun q h1 h2 h3 => (hS2 q h3).elim h2 (by omega)
            have n3 : ∀ q, q < wr.heap.size → ¬ S q → ¬ S3 q := fun q h1 h2 h3 => (hS3 q h3).elim (n2 q h1 h2) (by omega)
            have n4 : ∀ q, q < wr.heap.size → ¬ S q → ¬ S4 q := fun q h1 h2 h3 => (hS4 q h3).elim (n3 q h1 h2) (by omega)
            have hsz := hB.size
            have b2 : ∀ q, S2 q → w.heap.size ≤ q := fun q h => (hS2 q h).elim (hSb q) (by omega)
            have b3 : ∀ q, S3 q → w.heap.size ≤ q := fun q h => (hS3 q h).elim (b2 q) (by omega)
            have b4 : ∀ q, S4 q → w.heap.size ≤ q := fun q h => (hS4 q h).elim (b3 q) (by omega)
            have ho4 : Own w4 u6 (bs.take k) := ((ho.turned T2 (fun q h => (hob q h).2)).turned T3 (fun q h => n2 q (ob q h) (hob q h).2)).turned T4 (fun q h => n3 q (ob q h) (hob q h).2)
            have B4 : Below w.heap.size w w4 := ((hB.trans (T2.below hsz hSb)).trans (T3.below (by omega) b2)).trans (T4.below (by omega) b3)
            have oS4 : ∀ q, blk u6 q → ¬ S4 q := fun q h => n4 q (ob q h) (hob q h).2
            have hlen : (bs.take k).length + cs.length ≤ 70368744177664 := by simp; omega
            have ob4 : ∀ q, blk u6 q → w.heap.size ≤ q := fun q h => (hob q h).1
            clear T2 T3 T4 hS2 hS3 hS4 n2 n3 n4 b2 b3 hm hm2' hm3 hB ho hSb hok hok1 hok2 hob ob he2 he3 he4 hb4
            go_wp2_with (at_builtin; refine wpList_append_bytes (by rfl) (.tmp 80) (.tmp 81) (by rfl) Tryd.bytes (by rfl) (by rfl) ho4 hV4 hlen ?_; intro v5 w5 ho5 T5 hb5)
            go_roundw
            case rel =>
              rw [HC.out] at ho5
              refine ⟨k + cs.length, j + 1, _, S4, hn2, by go_num, by go_num, by omega, ho5, I.turned hm4 T5 (fun q h1 h2 => oS4 q h2 h1), hok3, ⟨hl.o, rfl, rfl, hl.t⟩, fun q h => ?_, b4, B4.trans (T5.below (by omega) ob4)⟩
              rcases hb5 q h with h | h
              · exact ⟨ob4 q h, oS4 q h⟩
              · exact ⟨by omega, fun h' => by have := I.lt hm4 q h'; omega⟩
            case measure => simp [intOf]; omega
      · have hge : ¬ (k : Int) < (bs.length : Int) := by omega
        obtain rfl : k = bs.length := by omega
        rw [List.take_length] at ho
        have c1 := ho.sl.str
        have c2 := (hx.turnedN (Turned.ofBelow (S := fun _ => False) hB) (fun _ _ _ h => h)).str
        go_wp2_with fail
        refine (alive_any I _ (her.below hB)).mono ?_
        rintro ev w5 ⟨rfl, hb5⟩
        go_wp2
        go_ret
        exact ⟨rfl, hB.trans (hb5.mono hB.size)⟩
end Go.Proofs.YtjkmklbkemoldaaDoor
