/-
  heddlelaw06.FrameBack: the row of the second form, given the program's frames.
-/
import Derived.Test.YtpbakejocjmkeaaFRowBase
import Derived.Test.YtpbakejocjmkeaaFBack
import Derived.Deep.DeepHandedRow
namespace Go.Proofs.Ytpbakejocjmkeaa
open Go.ChangeShapes Go.WideShapes Go.RowKit

theorem Try.cellsRow : Try.prog.cellsOf 22 = 1 := by kernel_rfl
theorem sizes_append : ∀ xs ys : List (List Int), sizes (xs ++ ys) = sizes xs + sizes ys
  | [], ys => by simp [sizes]
  | x :: xs, ys => by simp only [List.cons_append, sizes, sizes_append xs ys]; omega
theorem bulkAll_append {H : Type} : ∀ xs ys : List (DataW H), Rows.uptoBulkAll (xs ++ ys) = Rows.uptoBulkAll xs + Rows.uptoBulkAll ys
  | [], ys => by simp [Rows.uptoBulkAll]
  | x :: xs, ys => by simp only [List.cons_append, Rows.uptoBulkAll, bulkAll_append xs ys]; omega
theorem sizes_bulk {H : Type} {z : Nat → List Int} {D : Nat → DataW H} : ∀ n : Nat, (∀ i, i < n → (z i).length ≤ placesOf (D i)) → sizes ((List.range n).map z) ≤ 5 * Rows.uptoBulkAll ((List.range n).map D)
  | 0, _ => by simp [sizes]
  | n + 1, h => by
    have h1 := sizes_bulk n (fun i hi => h i (by omega))
    have h2 := h n (by omega)
    have h3 := bulk_places (D n)
    have h4 := bulk_pos (D n)
    rw [List.range_succ, List.map_append, List.map_append, sizes_append, bulkAll_append]
    simp only [List.map_cons, List.map_nil, sizes, Rows.uptoBulkAll]
    omega

section
variable {H : Type} {enc : TypeId × Value → H} {W : World}
set_option maxRecDepth 100000 in
theorem rows_of_trod {x : Value} {d : DataW H} {p : List MemPlace} {base : Nat} (hv : Value.okWide Try.prog W .any base 33 x) (h : DataW.Trod enc Try.prog W 0 (fun _ => true) true 33 x d p) : ∃ ls, Rows2 W x ls ∧ (∀ b ∈ ls, Rng b) ∧ sizes ls ≤ 5 * Rows.uptoBulk d := by
  obtain ⟨a0, len0, cap0, rfl⟩ := okWide_slice Try.underlying33 hv
  obtain ⟨fuel, hf⟩ := h
  rcases Deep.open_slice1 Try.underlying33 Try.cellsRow hf with ⟨hx, hd⟩ | ⟨a, len, cap, m, n', V, D, Pl, hx, _, hl, hm, hmm, hd, hc⟩
  · simp [Value.cells] at hx
    obtain ⟨rfl, rfl, rfl⟩ := hx
    exact ⟨[], ⟨none, 0, [], rfl, Nat.le_refl _, Nat.zero_le _, rfl, fun h => absurd rfl h, fun i h => absurd h (Nat.not_lt_zero i)⟩, fun b hb => absurd hb List.not_mem_nil, Nat.zero_le _⟩
  · simp [Value.cells] at hx
    obtain ⟨rfl, rfl, rfl⟩ := hx
    simp only [if_true] at hmm
    subst hmm
    simp only [Prod.mk.injEq] at hd
    obtain ⟨rfl, rfl⟩ := hd
    have hz : ∀ i, i < len0 → ∃ bs, Sl W (V i) bs ∧ bs.length ≤ placesOf (D i) ∧ Rng bs := fun i hi => field_of_trod (hc i (by omega)).2
    obtain ⟨z, hz⟩ := Deep.choose_lt hz
    refine ⟨(List.range len0).map z, ⟨some a, m, (List.range len0).map V, by simp, by simpa using hl, hm, by simp, fun hne => ?_, fun i h1 h2 => ?_⟩, fun b hb => ?_, ?_⟩
    · have h0 : 0 < len0 := by
        rcases Nat.eq_zero_or_pos len0 with h | h
        · subst h; simp at hne
        · exact h
      obtain ⟨b, off, spot⟩ := a
      have hspot : spot = none := by simpa [Addr.add] using World.cell?_spot (hc 0 (by omega)).1
      subst hspot
      refine .inr ⟨b, off, m, by simp, by simpa using hl, hm, fun j hj => ?_⟩
      have hj : j < len0 := by simpa using hj
      have := (hc j (by omega)).1
      rw [Addr.add_lit] at this
      rw [this]
      simp
    · have hi : i < len0 := by simpa using h1
      simpa using (hz i hi).1
    · obtain ⟨j, hj, rfl⟩ := List.mem_map.1 hb
      exact (hz j (List.mem_range.1 hj)).2.2
    · have := sizes_bulk (z := z) (D := D) len0 (fun i hi => (hz i hi).2.1)
      simp only [Rows.uptoBulk]
      omega
end

theorem back_reads (os : Os) {H : Type} (enc : TypeId × Value → H) : ∃ places, DataW.whole enc Try.prog ((World.holding Try.prog os ⟨#[], #[], []⟩).forCall (fun _ _ => 0) ⟨#[], #[.int .i64 0, .slice none 0 0], []⟩).memory Try.f4.params.toList Rows.frameBackSpec.vars false #[Value.int .i64 0, Value.slice none 0 0].toList 8 = some ([.lit (.int .i64 0), .nil], [], places) :=
  ⟨[], by kernel_rfl⟩

set_option maxRecDepth 100000 in
theorem back_lifted {Mem : World → Nat → (Nat → Prop) → FSt → Prop} (I : FImplS Mem) (os : Os) (started : os.Started) (H : Type) (enc : TypeId × Value → H) (F : Stop.Interp) :
    ReturnsInHanded {} Try.checked os 4 .any ((Rows.OpenSpec.upto Rows.frameBackSpec).preRow enc Try.prog Try.f4 Rows.frameBackUptoRow.domain false Rows.frameBackUptoRow.laid)
      (((Rows.OpenSpec.upto Rows.frameBackSpec).at F).post enc Try.prog Try.f4 false true false false) := by
  obtain ⟨places, hx⟩ := back_reads os enc
  refine returnsInHanded_of_row (C := Try.checked) (s := Rows.OpenSpec.upto Rows.frameBackSpec) Try.own started (by kernel_rfl) Try.func4
    (witness_row_at (enc := enc) (C := Try.checked) false (World.holding Try.prog os ⟨#[], #[], []⟩) #[.int .i64 0, .slice none 0 0] rfl (by kernel_rfl) (by kernel_rfl) (by kernel_rfl)
      (OpenSpec.preRow_of_cond 8 hx (by kernel_rfl) (fun k hk => by cases hk; kernel_rfl) (by kernel_rfl) (laidMetH_of_parts (laidMet_nil _ _) (by kernel_rfl)))) ?_
  intro W base args ds gs before hval0 hW _ hcond _ hL _ _
  have hval : ∀ (j : Nat) t v, Try.f4.params[j]? = some t → args[j]? = some v → Value.okWide Try.prog W .any base t v := hval0
  have hk : Rows.uptoSmall H (ds ++ gs) = true := hcond _ rfl
  have hW' := hW
  obtain ⟨p, q, hA0, hV0, rfl, hfz, hnd⟩ := hW
  have hA : DataW.TrodAll enc Try.prog W 0 (fun _ => true) true Try.f4.params.toList args.toList ds p := hA0
  have hV : DataW.TrodVars enc Try.prog W (fun _ => true) [] gs q := hV0
  rw [Try.params4] at hA hval
  obtain ⟨v0, v1, d0, d1, p0, p1, rfl, rfl, rfl, h0, h1⟩ := trodAll_two hA
  obtain ⟨rfl, rfl⟩ := trodVars_none hV
  have hbulk : Rows.uptoBulk d1 ≤ 1048576 := by
    have h1 := of_decide_eq_true hk
    simp only [List.append_nil, Rows.uptoBulkAll] at h1
    omega
  obtain ⟨n, rfl⟩ : ∃ n : Int, v0 = .int .i64 n := by
    obtain ⟨m, hm⟩ := okWide_int Try.underlying3 (hval 0 3 v0 rfl rfl)
    exact ⟨m, hm⟩
  obtain ⟨ls, hx1, hrg, hsz⟩ := rows_of_trod (hval 1 33 v1 rfl rfl) h1
  refine (back_any I n v1 ls W hx1 hrg (by omega)).mono fun ev W' ⟨he, hb⟩ => ?_
  subst he
  refine ⟨_, rfl, _, _, _, [], p0 ++ p1, [], hW', ?_, ?_, ?_, hb.frame _, fun h => by cases h⟩
  · exact trodAll_mk1 (shut_bool Try.underlying4 true)
  · exact trodAll_mk2 (Below.trod Try.laidOut (by kernel_rfl) (of_decide_eq_true (by kernel_rfl)) h0 hb (fun z hz => by simpa using hW'.lt z (by simp [hz]))) (Below.trod Try.laidOut (by kernel_rfl) (of_decide_eq_true (by kernel_rfl)) h1 hb (fun z hz => by simpa using hW'.lt z (by simp [hz])))
  · rfl

theorem back_holds {Mem : World → Nat → (Nat → Prop) → FSt → Prop} (I : FImplS Mem) : Rows.FrameBackUptoSaid :=
  OpenClaim.holds_of_cond 4 Try.f4 rfl rfl rfl rfl rfl rfl rfl ⟨rfl, rfl, rfl, rfl, rfl⟩ rfl rfl rfl rfl rfl (by kernel_rfl) Try.func4 (by kernel_rfl)
    (of_decide_eq_true (by kernel_rfl)) (by unfold Func.isWrapper; rw [if_neg (of_decide_eq_false (by kernel_rfl))]; exact ⟨rfl, rfl⟩)
    (fun os started H enc _ F => by rw [OpenClaim.pre_eq_preRow]; exact back_lifted I os started H enc F)
end Go.Proofs.Ytpbakejocjmkeaa
