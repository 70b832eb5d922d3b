/-
  heddlelaw07.MixKnows: its walk, given the program's mix.
-/
import Derived.Test.YtldpolbgdhgomaaDoorM3
import Derived.Deep.DeepCutAuto
namespace Go.Proofs.YtldpolbgdhgomaaDoor
open Go.RowKit

theorem xor8 (z t : Int) (hz : 0 ≤ z ∧ z < 256) (ht : 0 ≤ t ∧ t < 256) : (0 ≤ bits .xor .u8 z t ∧ bits .xor .u8 z t < 256) ∧ (bits .xor .u8 z t = z ↔ t = 0) := by
  rw [u8_xor z t hz.1 hz.2 ht.1 ht.2]
  have h1 : z.toNat ^^^ t.toNat < 2 ^ 8 := Nat.xor_lt_two_pow (by omega) (by omega)
  refine ⟨⟨by omega, by omega⟩, ?_⟩
  constructor
  · intro h
    have h2 : z.toNat ^^^ t.toNat = z.toNat := by omega
    have h3 : z.toNat ^^^ (z.toNat ^^^ t.toNat) = t.toNat := by rw [← Nat.xor_assoc, Nat.xor_self, Nat.zero_xor]
    rw [h2, Nat.xor_self] at h3
    omega
  · intro h
    subst h
    simp
    omega
/-- Where the turned byte stands. -/
theorem turn_at (z : Int) : ∃ k : Nat, k < 16 ∧ wrap64 ((IntKind.u64.wrap z).tmod 16) = (k : Int) := by
  have h0 : 0 ≤ IntKind.u64.wrap z := by rw [IntKind.wrap_u64]; omega
  have h1 := Int.tmod_nonneg 16 h0
  have h2 := Int.tmod_lt_of_pos (IntKind.u64.wrap z) (b := 16) (by omega)
  generalize (IntKind.u64.wrap z).tmod 16 = q at h1 h2
  refine ⟨q.toNat, by omega, ?_⟩
  unfold wrap64
  omega
theorem set_ne (zs : List Int) (k : Nat) (hk : k < zs.length) (x : Int) : zs.set k x = zs ↔ x = zs[k] := by
  constructor
  · intro h
    have := congrArg (fun l : List Int => l[k]?) h
    simp only [List.getElem?_set_self hk, List.getElem?_eq_getElem hk, Option.some.injEq] at this
    exact this
  · intro h
    rw [h]
    exact List.set_getElem_self hk
/-- A byte of a slice is another one. -/
theorem Own.setAt {w : World} {g off cap k : Nat} {zs : List Int} (h : Own w (.slice (some ⟨g, off, none⟩) zs.length cap) zs) (hk : k < zs.length) (x : Int) : Own (w.setCell ⟨g, off + k, none⟩ (.int .u8 x)) (.slice (some ⟨g, off, none⟩) zs.length cap) (zs.set k x) := by
  rcases h with ⟨h, _⟩ | ⟨g', off', cap', h1, h2, h3, hg, h4, h5⟩
  · cases h
  · cases h1
    have hl : (zs.set k x).length = zs.length := List.length_set
    refine .inr ⟨g, off, cap, by rw [hl], by rw [hl]; exact h2, h3, by simpa [World.setCell] using hg, fun j hj => ?_, fun j hj => ⟨?_, by rw [World.frozen?_setCell]; exact (h5 j hj).2⟩⟩
    · by_cases hjk : j = k
      · subst hjk
        rw [World.cell?_setCell_same _ _ _ (h4 j hk)]
        simp
      · rw [World.cell?_setCell_other _ _ _ _ (fun e => hjk (by have := congrArg Addr.off e; simp at this; omega)), h4 j (by rw [hl] at hj; exact hj)]
        rw [List.getElem_set_ne (fun h => hjk h.symm)]
    · by_cases hjk : j = k
      · subst hjk
        rw [World.cell?_setCell_same _ _ _ (h4 j hk)]
        rfl
      · rw [World.cell?_setCell_other _ _ _ _ (fun e => hjk (by have := congrArg Addr.off e; simp at this; omega))]
        exact (h5 j hj).1

set_option maxRecDepth 100000 in
set_option maxHeartbeats 3200000 in
theorem knows_any (I : MImpl) (s : ByteArray) (hs : s.size ≤ 4611686018427387904) (n : Nat) (hn : n < 4294967296) (D : Value) (ds : List Int) (at_ turn : Int) (ht : 0 ≤ turn ∧ turn < 256) (w : World) (htb : Tb w) (hD : Sl w D ds) (hr : ∀ z ∈ ds, 0 ≤ z ∧ z < 256) (hl : ds.length ≤ 140737488355328) :
    Calls Tryd.prog 5 #[.string s, .int .u32 n, D, .int .i64 at_, .int .u8 turn] w fun ev w' => ev = .returned (.bool true) ∧ Below w.heap.size w w' := by
  obtain ⟨k, hk, hkk⟩ := turn_at at_
  have hs1 := I.same s hs n hn htb hD hr hl
  have HD : Hid (Sl w D ds) := hD
  clear hD
  go_enter Tryd.func5, Tryd.ntmps5
  go_wp2_with fail
  refine hs1.mono ?_
  rintro ev w1 ⟨rfl, hb1⟩
  have hs2 := ref_same s hs n hn (HD.out.turned (Turned.ofBelow (S := fun _ => False) hb1) (fun _ _ h => h))
  have HB1 : Hid (Below w.heap.size w w1) := hb1
  clear hb1 hs1
  generalize sameTold s n ds = sm at hs2
  have hss : (sm != sm) = false := by cases sm <;> rfl
  go_wp2_with fail
  refine hs2.mono ?_
  rintro ev w2 ⟨rfl, hb2⟩
  have HB2 : Hid (Below w.heap.size w w2) := HB1.out.trans (hb2.mono HB1.out.size)
  have hdg := I.digest s hs n hn w2 (htb.below HB2.out)
  clear hb2 hs2
  go_wp2_with fail
  refine hdg.mono ?_
  rintro ev w3 ⟨V, v, rfl, he, ho, hb3, hbV⟩
  have HB3 : Hid (Below w.heap.size w w3) := HB2.out.trans (hb3.mono HB2.out.size)
  clear hb3 hdg
  cases hc : cookieErr s with
  | some x =>
    rw [hc] at he
    obtain ⟨pb, _, rfl, _⟩ := he
    have hck := ref_cookie s hs w3
    rw [hc] at hck
    clear ho hbV
    go_wp2_with fail
    refine hck.mono ?_
    rintro ev w4 ⟨v4, rfl, hl4, hb4⟩
    obtain ⟨lb, _, rfl, _⟩ := hl4
    have HB4 : Hid (Below w.heap.size w w4) := HB3.out.trans (hb4.mono HB3.out.size)
    clear hb4 hck
    go_wp2_with fail
    refine (alive_any I w4 (htb.below HB4.out)).mono ?_
    rintro ev w5 ⟨rfl, hb5⟩
    go_wp2
    go_ret
    exact ⟨rfl, HB4.out.trans (hb5.mono HB4.out.size)⟩
  | none =>
    rw [hc] at he
    have he : v = .nilIface := he
    subst he
    have htold : digestTold s n = digestOf s n := by unfold digestTold; rw [hc]; rfl
    rw [htold] at ho
    have hss2 := I.same s hs n hn (htb.below HB3.out) ho.sl (digest_rng _ _) (by rw [digest_length]; omega)
    rw [same_self s n hc] at hss2
    rcases ho with ⟨_, h0⟩ | ⟨g, off, cap, hV, h2, h3, hg, h4, h5⟩
    · have := congrArg List.length h0; rw [digest_length] at this; simp at this
    have ho : Own w3 V (digestOf s n) := .inr ⟨g, off, cap, hV, h2, h3, hg, h4, h5⟩
    rw [digest_length] at hV h2
    subst hV
    have HO : Hid (Own w3 (.slice (some ⟨g, off, none⟩) 16 cap) (digestOf s n) ∧ w.heap.size ≤ g) := ⟨ho, Nat.le_trans HB2.out.size (hbV g rfl)⟩
    clear ho h4 h5 hbV
    go_wp2_with fail
    refine hss2.mono ?_
    rintro ev w4 ⟨rfl, hb4⟩
    have ho4 : Own w4 (.slice (some ⟨g, off, none⟩) 16 cap) (digestOf s n) := HO.out.1.turned (Turned.ofBelow (S := fun _ => False) hb4) (fun _ _ h => h)
    have hkl : k < (digestOf s n).length := by rw [digest_length]; exact hk
    obtain ⟨ck, fk⟩ : w4.cell? ⟨g, off + k, none⟩ = some (.int .u8 (digestOf s n)[k]) ∧ w4.frozen? ⟨g, off + k, none⟩ = false := by
      rcases ho4 with ⟨h, _⟩ | ⟨g', off', cap', h1, h2, h3, hg, h4, h5⟩
      · cases h
      · cases h1
        exact ⟨h4 k hkl, (h5 k (by omega)).2⟩
    have hxr := xor8 (digestOf s n)[k] turn (digest_rng s n _ (List.getElem_mem hkl)) ht
    have HB4 : Hid (Below w.heap.size w w4) := HB3.out.trans (hb4.mono HB3.out.size)
    have HO4 : Hid (Own w4 (.slice (some ⟨g, off, none⟩) 16 cap) (digestOf s n)) := ho4
    clear ho4 hb4 hss2
    have hk0 : (0 : Int) ≤ (k : Int) := by omega
    have hk1 : (k : Int) < 16 := by omega
    have hset : ∀ x : Int, (0 ≤ x ∧ x < 256) → (x = (digestOf s n)[k] ↔ turn = 0) → Calls Tryd.prog 14 #[.string s, .int .u32 n, .slice (some ⟨g, off, none⟩) 16 cap] (w4.setCell ⟨g, off + k, none⟩ (.int .u8 x)) fun e w' => e = .returned (.bool (turn == 0)) ∧ Below w4.heap.size (w4.setCell ⟨g, off + k, none⟩ (.int .u8 x)) w' := fun x hx hxt => by
      have ho5 := Own.setAt (show Own w4 (.slice (some ⟨g, off, none⟩) (digestOf s n).length cap) (digestOf s n) from HO4.out) hkl x
      have hrs : ∀ z ∈ (digestOf s n).set k x, 0 ≤ z ∧ z < 256 := fun z hz => (List.mem_or_eq_of_mem_set hz).elim (digest_rng s n z) (fun h => h ▸ hx)
      have hq := I.same s hs n hn (htb.below (HB4.out.trans ((Turned.setCell w4 ⟨g, off + k, none⟩ (.int .u8 x)).below HB4.out.size (fun q (h : q = g) => by have := HO.out.2; omega)))) ho5.sl hrs (by rw [List.length_set, digest_length]; omega)
      rw [same_iff s n hc _ hrs] at hq
      have hd : decide ((digestOf s n).set k x = digestOf s n) = (turn == 0) := by
        by_cases h0 : turn = 0
        · rw [decide_eq_true ((set_ne _ _ hkl x).2 (hxt.2 h0))]; simp [h0]
        · rw [decide_eq_false (fun h => h0 (hxt.1 ((set_ne _ _ hkl x).1 h)))]; simp [h0]
      rw [hd] at hq
      have hz : (w4.setCell ⟨g, off + k, none⟩ (.int .u8 x)).heap.size = w4.heap.size := by simp [World.setCell]
      rw [hz] at hq
      exact hq
    have hsx := hset _ hxr.1 hxr.2
    generalize (digestOf s n)[k] = z at ck hsx
    clear hxr hset
    have HG : Hid (w.heap.size ≤ g) := HO.out.2
    cases htz : (turn == 0) with
    | true =>
      rw [htz] at hsx
      go_wp2_with fail
      refine hsx.mono ?_
      rintro ev w5 ⟨rfl, hb5⟩
      have HB5 : Hid (Below w.heap.size w w5) := by
        have h1 := HB4.out.trans ((Turned.setCell w4 ⟨g, off + k, none⟩ (.int .u8 (bits .xor .u8 z turn))).below HB4.out.size (fun q (h : q = g) => by have := HG.out; omega))
        exact h1.trans (hb5.mono HB4.out.size)
      clear hb5 hsx
      go_wp2_with fail
      refine (alive_any I w5 (htb.below HB5.out)).mono ?_
      rintro ev w6 ⟨rfl, hb6⟩
      go_wp2
      go_ret
      exact ⟨rfl, HB5.out.trans (hb6.mono HB5.out.size)⟩
    | false =>
      rw [htz] at hsx
      go_wp2_with fail
      refine hsx.mono ?_
      rintro ev w5 ⟨rfl, hb5⟩
      have HB5 : Hid (Below w.heap.size w w5) := by
        have h1 := HB4.out.trans ((Turned.setCell w4 ⟨g, off + k, none⟩ (.int .u8 (bits .xor .u8 z turn))).below HB4.out.size (fun q (h : q = g) => by have := HG.out; omega))
        exact h1.trans (hb5.mono HB4.out.size)
      clear hb5 hsx
      go_wp2_with fail
      refine (alive_any I w5 (htb.below HB5.out)).mono ?_
      rintro ev w6 ⟨rfl, hb6⟩
      go_wp2
      go_ret
      exact ⟨rfl, HB5.out.trans (hb6.mono HB5.out.size)⟩
end Go.Proofs.YtldpolbgdhgomaaDoor
