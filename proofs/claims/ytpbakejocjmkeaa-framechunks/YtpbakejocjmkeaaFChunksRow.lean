/-
  heddlelaw06.FrameChunks: the row, given the program's frames.
-/
import Derived.Test.YtpbakejocjmkeaaFRowBase
import Derived.Test.YtpbakejocjmkeaaFChunks
import Derived.Deep.DeepHandedRow
namespace Go.Proofs.Ytpbakejocjmkeaa
open Go.ChangeShapes Go.WideShapes Go.RowKit

theorem Try.cellsInt : Try.prog.cellsOf 3 = 1 := by kernel_rfl
theorem Try.bytesInt : Try.prog.bytesOf 3 = 8 := by kernel_rfl

section
variable {H : Type} {enc : TypeId × Value → H} {W : World}
set_option maxRecDepth 100000 in
theorem nums_of_trod {n : Nat} {x : Value} {y : DataW H × List MemPlace} (h : DataW.trod enc Try.prog W 0 (fun _ => true) true n 23 [x] = some y) (hsz : ∀ k ∈ y.1.weights Try.prog 23, k ≤ reachBytes) : ∃ L, Nums W x L := by
  rcases Deep.open_slice1 Try.underlying23 Try.cellsInt h with ⟨hx, rfl⟩ | ⟨a, len, cap, m, n', V, D, Pl, hx, _, hl, hm, hmm, rfl, hc⟩
  · simp only [List.cons.injEq, and_true] at hx
    subst hx
    exact ⟨0, none, 0, rfl, Nat.zero_le _, fun j hj => absurd hj (Nat.not_lt_zero j)⟩
  · simp only [List.cons.injEq, and_true] at hx
    subst hx
    simp only [if_true] at hmm
    subst hmm
    have hlen : len ≤ 4611686018427387904 := by
      have := hsz ((((List.range len).map D).length + ((List.range (m - len)).map fun j => D (len + j)).length) * Try.prog.bytesOf 3) (by simp [DataW.weights, Try.underlying23])
      rw [Try.bytesInt] at this
      simp [reachBytes] at this
      omega
    refine ⟨len, some a, m, rfl, hlen, fun j hj => ?_⟩
    obtain ⟨b, off, spot⟩ := a
    have hspot : spot = none := by simpa [Addr.add] using World.cell?_spot (hc 0 (by omega)).1
    subst hspot
    obtain ⟨z, hz, _, _⟩ := DataW.trod_int Try.underlying3 (hc j (by omega)).2
    simp only [List.cons.injEq, and_true] at hz
    have := (hc j (by omega)).1
    rw [Addr.add_lit, hz] at this
    exact ⟨b, off, z, rfl, this⟩
set_option maxRecDepth 100000 in
theorem cuts_of_trod {v : Value} {d : DataW H} {p : List MemPlace} {base : Nat} (hv : Value.okWide Try.prog W .any base 26 v) (h : DataW.Trod enc Try.prog W 0 (fun _ => true) true 26 v d p) (hsz : ∀ k ∈ d.weights Try.prog 26, k ≤ reachBytes) :
    ∃ n b cu ks bs L, v = .agg #[.int .i64 n, b, cu, .int .u64 ks] ∧ Sl W b bs ∧ Rng bs ∧ bs.length ≤ 140737488355328 ∧ Nums W cu L := by
  obtain ⟨v0, v1, v2, v3, y0, y1, y2, y3, n, rfl, rfl, rfl, t0, t1, t2, t3⟩ := Joins.open_agg4 Try.underlying26 (by kernel_rfl) (by kernel_rfl) hv h
  obtain ⟨k, hk, _⟩ := DataW.trod_int Try.underlying3 t0
  obtain ⟨ks, hks, _⟩ := DataW.trod_int Try.underlying24 t3
  simp only [List.cons.injEq, and_true] at hk hks
  subst hk hks
  have hw : ∀ (t : TypeId) (y : DataW H), (t, y) ∈ [(22, y1.1), (23, y2.1)] → ∀ z ∈ y.weights Try.prog t, z ≤ reachBytes := by
    intro t y hy z hz
    refine hsz z ?_
    simp only [DataW.weights, Try.underlying26]
    simp only [List.mem_cons, Prod.mk.injEq, List.not_mem_nil, or_false] at hy
    rcases hy with ⟨rfl, rfl⟩ | ⟨rfl, rfl⟩ <;> simp [DataW.weightsEach, hz]
  obtain ⟨bs, hbs, hpl, hrg⟩ := field_of_trod t1
  obtain ⟨L, hL⟩ := nums_of_trod t2 (hw _ _ (by simp))
  exact ⟨k, v1, v2, ks, bs, L, rfl, hbs, hrg, Nat.le_trans hpl (places_small (hw _ _ (by simp))), hL⟩
end

set_option maxRecDepth 100000 in
theorem chunks_lifted {Mem : World → Nat → (Nat → Prop) → FSt → Prop} (I : FImplS Mem) (os : Os) (started : os.Started) (H : Type) (enc : TypeId × Value → H) :
    ReturnsInHanded {} Try.checked os 3 .any (fun w args => (Rows.frameChunksSpec.pre enc Try.prog Try.f3 [] false w args ∧ laidMetH Try.prog [] w) ∧ sizedMet enc Try.prog Try.f3 (OpenSpec.ofChange Rows.frameChunksSpec) false w args)
      (Rows.frameChunksSpec.post enc Try.prog Try.f3 false true false false) := by
  refine returnsInHanded_of_change_and (C := Try.checked) (X := fun w _ => laidMetH Try.prog [] w) (fun _ _ _ hh h => h.of_heap hh) Try.own started (by kernel_rfl) Try.func3
    (ChangeSpec.witness_at (enc := enc) (C := Try.checked) (os := os) (X := fun w _ => laidMetH Try.prog [] w) false (World.holding Try.prog os ⟨#[], #[], []⟩) #[.agg #[.int .i64 0, .slice none 0 0, .slice none 0 0, .int .u64 0]] 8 rfl (by kernel_rfl) (by kernel_rfl) (by kernel_rfl) (by kernel_rfl) (by kernel_rfl) (laidMetH_of_parts (laidMet_nil _ _) (by kernel_rfl))) ?_
  intro W base args ds gs before hval0 hW _ hsz0 hL _
  have hval : ∀ (j : Nat) t v, Try.f3.params[j]? = some t → args[j]? = some v → Value.okWide Try.prog W .any base t v := hval0
  have hW' := hW
  obtain ⟨p, q, hA0, hV0, rfl, hfz, hnd⟩ := hW
  have hA : DataW.TrodAll enc Try.prog W 0 (fun _ => true) true Try.f3.params.toList args.toList ds p := hA0
  have hV : DataW.TrodVars enc Try.prog W (fun _ => true) [] gs q := hV0
  rw [Try.params3] at hA hval
  obtain ⟨v0, d0, rfl, rfl, h0⟩ := trodAll_one hA
  obtain ⟨rfl, rfl⟩ := trodVars_none hV
  have hsz : (∀ k ∈ d0.weights Try.prog 26, k ≤ reachBytes) := fun k hk => by
    have h1 : ((DataW.weightsEach Try.prog (Try.f3.params.toList ++ []) ([d0] ++ [])).all (· ≤ reachBytes)) = true := hsz0
    rw [Try.params3] at h1
    exact of_decide_eq_true (List.all_eq_true.1 h1 k (by simp [DataW.weightsEach, hk]))
  obtain ⟨n, b, cu, ks, bs, L, rfl, hx, hr, hl, hcu⟩ := cuts_of_trod (hval 0 26 v0 rfl rfl) h0 hsz
  refine (chunks_any I n b cu ks bs L W hx hr hl hcu).mono fun ev W' ⟨he, hb⟩ => ?_
  subst he
  have e1 : Rows.frameChunksSpec.fn H ([d0] ++ []) = { results := [.lit (.bool true)], args := [d0] } := rfl
  refine ⟨_, rfl, _, _, _, [], p, [], hW', ?_, ?_, ?_, hb.frame _, fun h => by cases h⟩
  · rw [e1]; exact trodAll_mk1 (shut_bool Try.underlying4 true)
  · rw [e1]
    exact trodAll_mk1 (Below.trod Try.laidOut (by kernel_rfl) (of_decide_eq_true (by kernel_rfl)) h0 hb (fun z hz => by simpa using hW'.lt z (by simp [hz])))
  · rw [e1]; rfl

theorem noneLaid (w : World) : laidMetH Try.prog [] w := by
  refine laidMetH_of_parts (laidMet_nil _ _) ?_
  rfl

theorem chunks_holds {Mem : World → Nat → (Nat → Prop) → FSt → Prop} (I : FImplS Mem) : Rows.FrameChunksSaid :=
  OpenClaim.holds_of_wide 3 Try.f3 rfl rfl rfl rfl rfl rfl rfl ⟨rfl, rfl, rfl, rfl, rfl⟩ rfl rfl rfl rfl rfl (by kernel_rfl) Try.func3 (by kernel_rfl)
    (of_decide_eq_true (by kernel_rfl)) (by unfold Func.isWrapper; rw [if_neg (of_decide_eq_false (by kernel_rfl))]; exact ⟨rfl, rfl⟩)
    (fun os started H enc _ => by
      have h := chunks_lifted I os started H enc
      have e : (fun w args => (Rows.frameChunksSpec.pre enc Try.prog Try.f3 [] false w args ∧ laidMetH Try.prog [] w) ∧ sizedMet enc Try.prog Try.f3 (OpenSpec.ofChange Rows.frameChunksSpec) false w args) = OpenClaim.pre enc Try.prog Try.f3 (OpenSpec.ofChange Rows.frameChunksSpec) Rows.frameChunksRow := by
        funext w args
        exact propext ⟨fun ⟨⟨a, _⟩, b⟩ => ⟨a, b⟩, fun ⟨a, b⟩ => ⟨⟨a, noneLaid w⟩, b⟩⟩
      rw [e] at h
      exact h)
end Go.Proofs.Ytpbakejocjmkeaa
