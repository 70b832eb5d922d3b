/-
  Layer 7 (mix): the document's Digest, Same and generator; what is asked of the program's mix (MImpl).
-/
import Derived.Test.YtldpolbgdhgomaaDoorM1
import Derived.Lib.Bytes
namespace Go.Proofs.YtldpolbgdhgomaaDoor
open Go.RowKit

theorem firstBad_long : ∀ (zs : List Int) (i : Nat), i ≤ 255 → 255 < i + zs.length → (firstBad zs i).isSome = true
  | [], i, h1, h2 => by simp at h2; omega
  | z :: r, i, h1, h2 => by
    unfold firstBad
    by_cases hb : i = 255 ∨ z < 33 ∨ 126 < z
    · rw [if_pos hb]; rfl
    · rw [if_neg hb]
      exact firstBad_long r (i + 1) (by omega) (by simp at h2; omega)
theorem cookie_size {s : ByteArray} (h : cookieErr s = none) : s.size ≤ 255 := by
  unfold cookieErr at h
  by_cases h0 : s.size = 0
  · rw [if_pos h0] at h; cases h
  · rw [if_neg h0] at h
    apply Classical.byContradiction
    intro hc
    have := firstBad_long (nums s) 0 (by omega) (by rw [nums_length]; omega)
    cases hf : firstBad (nums s) 0 with
    | none => rw [hf] at this; cases this
    | some i => rw [hf] at h; cases h

theorem ref_digest (s : ByteArray) (hs : s.size ≤ 4611686018427387904) (n : Nat) (hn : n < 4294967296) (w : World) : Calls Tryd.prog 13 #[.string s, .int .u32 n] w fun e w' => ∃ V v, e = .returned (.tuple #[V, v]) ∧ LinksM w.heap.size w' v (cookieErr s) ∧ Own w' V (digestTold s n) ∧ Below w.heap.size w w' ∧ ∀ k, blk V k → w.heap.size ≤ k := by
  unfold digestTold
  cases hc : cookieErr s with
  | none =>
    exact (ref_digest_ok s (cookie_size hc) n hn w hc).mono fun e w' ⟨V, h1, h2, h3, h4⟩ => ⟨V, _, h1, rfl, h2, h3.below (Nat.le_refl _) (fun _ h => h.elim), h4⟩
  | some x =>
    exact (ref_digest_no s hs n w hc).mono fun e w' ⟨v, h1, h2, h3⟩ => ⟨_, v, h1, h2, .inl ⟨rfl, rfl⟩, h3, fun _ h => h.elim⟩

/-- Bytes are one another's where their texts are. -/
theorem strOfNums_inj {xs ys : List Int} (hx : ∀ z ∈ xs, 0 ≤ z ∧ z < 256) (hy : ∀ z ∈ ys, 0 ≤ z ∧ z < 256) (h : strOfNums xs = strOfNums ys) : xs = ys := by
  have h1 := congrArg (fun b : ByteArray => b.data.toList) h
  simp only [strOfNums_data] at h1
  have back : ∀ l : List Int, (∀ z ∈ l, 0 ≤ z ∧ z < 256) → (l.map fun n => UInt8.ofNat n.toNat).map (fun b => (b.toNat : Int)) = l := by
    intro l hl
    rw [List.map_map]
    conv => rhs; rw [← List.map_id l]
    apply List.map_congr_left
    intro z hz
    have := hl z hz
    have e : z.toNat % 256 = z.toNat := Nat.mod_eq_of_lt (by omega)
    simp [e]
    omega
  rw [← back xs hx, ← back ys hy, h1]
theorem bytes8_rng (a : Int) : ∀ z ∈ bytes8 a, 0 ≤ z ∧ z < 256 := by
  intro z hz
  simp only [bytes8, List.mem_cons, List.not_mem_nil, or_false] at hz
  omega
theorem digest_rng (s : ByteArray) (n : Nat) : ∀ z ∈ digestOf s n, 0 ≤ z ∧ z < 256 := fun z hz => (List.mem_append.1 hz).elim (bytes8_rng _ z) (bytes8_rng _ z)
/-- What Same tells. -/
def sameTold (s : ByteArray) (n : Nat) (ds : List Int) : Bool := decide (cookieErr s = none) && ((strOfNums (digestOf s n)).toList == (strOfNums ds).toList)

set_option maxRecDepth 100000 in
set_option maxHeartbeats 1600000 in
theorem ref_same (s : ByteArray) (hs : s.size ≤ 4611686018427387904) (n : Nat) (hn : n < 4294967296) {w : World} {D : Value} {ds : List Int} (hD : Sl w D ds) : Calls Tryd.prog 15 #[.string s, .int .u32 n, D] w fun e w' => e = .returned (.bool (sameTold s n ds)) ∧ Below w.heap.size w w' := by
  unfold sameTold
  obtain ⟨aD, cD, LD, rfl⟩ : ∃ a c L, D = .slice a L c := ⟨_, _, _, hD.form.choose_spec.choose_spec.1⟩
  cases hc : cookieErr s with
  | some x =>
    have hdg := ref_digest_no s hs n w hc
    clear hD
    go_enter Tryd.func15, Tryd.ntmps15
    go_wp2_with fail
    refine hdg.mono ?_
    rintro e w1 ⟨v, rfl, hf, hb⟩
    obtain ⟨lb, _, rfl, _⟩ := hf
    go_wp2
    go_ret
    exact ⟨by simp, hb⟩
  | none =>
    have hdg := ref_digest_ok s (cookie_size hc) n hn w hc
    have HD : Hid (Sl w (.slice aD LD cD) ds) := hD
    clear hD
    go_enter Tryd.func15, Tryd.ntmps15
    go_wp2_with fail
    refine hdg.mono ?_
    rintro e w1 ⟨V, rfl, ho, hT, hb⟩
    have hcx := ho.sl.str
    have hcy := (HD.out.turned hT (fun _ _ h => h)).str
    obtain ⟨aV, cV, LV, rfl⟩ : ∃ a c L, V = .slice a L c := ⟨_, _, _, ho.sl.form.choose_spec.choose_spec.1⟩
    have HB : Hid (Below w.heap.size w w1) := hT.below (Nat.le_refl _) (fun _ h => h.elim)
    generalize hX : strOfNums (digestOf s n) = tx at hcx
    generalize hY : strOfNums ds = ty at hcy
    have HX : Hid (strOfNums (digestOf s n) = tx ∧ strOfNums ds = ty) := ⟨hX, hY⟩
    clear ho hT hb hdg hX hY
    go_wp2
    go_ret
    refine ⟨?_, HB.out⟩
    rw [HX.out.1, HX.out.2]
    simp
/-- The document's generator at block g. -/
def GenAt (w : World) (g : Nat) (s n : Int) : Prop := Block w g 2 (fun j => if j = 0 then .int .u64 s else .int .i64 n)
theorem GenAt.turned {S : Nat → Prop} {w w' : World} {g : Nat} {s n : Int} (h : GenAt w g s n) (ht : Turned S w w') (hg : ¬ S g) : GenAt w' g s n := Block.turned h ht hg
set_option maxRecDepth 100000 in
theorem ref_gen {w : World} {g : Nat} {s n : Int} (h : GenAt w g s n) : Calls Tryd.prog 18 #[.pointer (some ⟨g, 0, none⟩)] w fun e w' => e = .returned (.int .u32 (chal (genS s))) ∧ GenAt w' g (genS s) (wrap64 (n + 1)) ∧ Turned (fun k => k = g) w w' := by
  obtain ⟨k0, f0⟩ := h 0 (by omega)
  obtain ⟨k1, f1⟩ := h 1 (by omega)
  simp at k0 k1
  have HH : Hid (GenAt w g s n) := h
  clear h
  go_enter Tryd.func18, Tryd.ntmps18
  go_wp2
  go_ret
  refine ⟨?_, ?_, ?_⟩
  · simp only [IntKind.wrap_u64]
    rfl
  · refine ((Block.set HH.out 0 _).set 1 _).congr (fun j hj => ?_)
    have : j = 0 ∨ j = 1 := by omega
    rcases this with rfl | rfl
    · simp only [IntKind.wrap_u64]
      rfl
    · rfl
  · exact (Turned.setCell w ⟨g, 0, none⟩ _).trans (Turned.setCell _ ⟨g, 1, none⟩ _) (fun _ h => .inl h)
end Go.Proofs.YtldpolbgdhgomaaDoor
