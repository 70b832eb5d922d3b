/-
  Layer 8 (shake): the program's fields as bytes (write).
-/
import Derived.Test.YtmnibmgbicnamaaGreatDoorShE
import Derived.Test.YtmnibmgbicnamaaGreatDoorBytesT
import Derived.Test.YtmnibmgbicnamaaGreatDoorSlX
import Derived.Deep.RegionHeld3
namespace Go.Proofs.YtmnibmgbicnamaaGreatDoor
open Go.RowKit

/-- A field's bytes. -/
def fieldBytes (f : Int) (m : Msg) : List Int := if f = 0 then bytes8 m.flags else if f = 1 then be4 m.challenge else if f = 2 then be4 m.creation else if f = 3 then be2 m.name.size ++ nums m.name else if f = 4 then nums m.status else m.digest
/-- What is told of an appended slice, if a message was boxed ahead. -/
theorem wrote_told {w w1 : World} {o : Obj} {V v1 : Value} {zs : List Int} (ho1 : Own w1 v1 zs) (ht1 : Turned (blk V) (w.alloc o) w1) (hb1 : ∀ k, blk v1 k → blk V k ∨ (w.alloc o).heap.size ≤ k) : Own w1 v1 zs ∧ Turned (blk V) w w1 ∧ ∀ k, blk v1 k → blk V k ∨ w.heap.size ≤ k :=
  ⟨ho1, ((alloc0m w o).mono (fun _ h => h.elim)).trans ht1 (fun _ h => .inl h), fun k hk => (hb1 k hk).imp id (fun h => by simp at h; omega)⟩
theorem wrote_told_d {w w1 : World} {o : Obj} {V v1 : Value} {zs : List Int} (ho1 : Own w1 v1 zs) (ht1 : Turned (blk V) (w.alloc o).drew w1) (hb1 : ∀ k, blk v1 k → blk V k ∨ (w.alloc o).drew.heap.size ≤ k) : Own w1 v1 zs ∧ Turned (blk V) w w1 ∧ ∀ k, blk v1 k → blk V k ∨ w.heap.size ≤ k :=
  wrote_told ho1 ((Turned.drew (blk V) (w.alloc o)).trans ht1 (fun _ h => .inl h)) hb1
/-- .. and of what is appended to it. -/
theorem wrote_more {w w1 w2 : World} {V v1 v2 : Value} {zs : List Int} (h1 : Turned (blk V) w w1) (hb1 : ∀ k, blk v1 k → blk V k ∨ w.heap.size ≤ k) (ho2 : Own w2 v2 zs) (ht2 : Turned (blk v1) w1 w2) (hb2 : ∀ k, blk v2 k → blk v1 k ∨ k = w1.heap.size) : Own w2 v2 zs ∧ Turned (blk V) w w2 ∧ ∀ k, blk v2 k → blk V k ∨ w.heap.size ≤ k :=
  ⟨ho2, h1.trans ht2 hb1, fun k hk => (hb2 k hk).elim (hb1 k) (fun h => .inr (by have := h1.size; omega))⟩
set_option maxRecDepth 100000 in
set_option maxHeartbeats 6400000 in
theorem sh_write (f : Int) (hf : 0 ≤ f ∧ f ≤ 5) (m : Msg) (hm : m.Ok) (hnm : m.name.size ≤ 70000) (hsm : m.status.size ≤ 70000) (hdm : m.digest.length ≤ 70000) {w : World} {V : Value} {zs : List Int} (hl : zs.length ≤ 1000) (ho : Own w V zs) {D : Value} (hD : Sl w D m.digest) :
    Calls Tryz.prog 32 #[.int .i64 f, V, msgV' m D] w fun e w' => ∃ V', e = .returned V' ∧ Own w' V' (zs ++ fieldBytes f m) ∧ Turned (blk V) w w' ∧ ∀ q, blk V' q → blk V q ∨ w.heap.size ≤ q := by
  obtain ⟨k, fl, cr, ch, nm, st, dg⟩ := m
  obtain ⟨_, hcr, hch, _⟩ := hm
  simp only at hnm hsm hdm hD hcr hch
  have ecr : IntKind.u64.wrap cr = cr := by rw [IntKind.wrap_u64]; omega
  have ech : IntKind.u64.wrap ch = ch := by rw [IntKind.wrap_u64]; omega
  clear hcr hch
  have h6 : f = 0 ∨ f = 1 ∨ f = 2 ∨ f = 3 ∨ f = 4 ∨ f = 5 := by omega
  have HOB := fun o : Obj => ho.turned (alloc0m w o) (fun _ _ h => h)
  have HDB := fun o : Obj => hD.turned (alloc0m w o) (fun _ _ h => h)
  have HBL : Hid (∀ k, blk V k → k < w.heap.size) := ho.blk_lt
  obtain ⟨ao, co, Lo, rfl⟩ : ∃ a c L, V = .slice a L c := ⟨_, _, _, ho.sl.form.choose_spec.choose_spec.1⟩
  obtain ⟨aD, cD, LD, rfl⟩ : ∃ a c L, D = .slice a L c := ⟨_, _, _, hD.form.choose_spec.choose_spec.1⟩
  have hlen : zs.length ≤ 70000000 := by omega
  have hls : zs.length + st.size ≤ 70368744177664 := by omega
  have hld : zs.length + dg.length ≤ 70368744177664 := by omega
  have hln : (zs ++ beN 2 nm.size).length + nm.size ≤ 70368744177664 := by rw [List.length_append, beN_len 2 (by omega)]; omega
  have enm : IntKind.u64.wrap (nm.size : Int) = (nm.size : Int) := by rw [IntKind.wrap_u64]; omega
  clear ho hD
  unfold msgV'
  simp only
  rcases h6 with rfl | rfl | rfl | rfl | rfl | rfl
  · go_enter Tryz.func32, Tryz.ntmps32
    go_wp2_with fail
    refine (sh_num8 fl hlen (HOB _)).mono ?_
    rintro e w1 ⟨V1, rfl, ho1, ht1, hb1⟩
    have HN := Hid.mk7 (wrote_told ho1 ht1 hb1)
    clear ho1 ht1 hb1
    go_wp2
    go_ret
    exact ⟨_, rfl, HN.out⟩
  · go_enter Tryz.func32, Tryz.ntmps32
    go_wp2_with fail
    refine (sh_num4 _ hlen (HOB _)).mono ?_
    rintro e w1 ⟨V1, rfl, ho1, ht1, hb1⟩
    have HN := Hid.mk7 (wrote_told ho1 ht1 hb1)
    clear ho1 ht1 hb1
    go_wp2
    go_ret
    exact ⟨_, rfl, HN.out⟩
  · go_enter Tryz.func32, Tryz.ntmps32
    go_wp2_with fail
    refine (sh_num4 _ hlen (HOB _)).mono ?_
    rintro e w1 ⟨V1, rfl, ho1, ht1, hb1⟩
    have HN := Hid.mk7 (wrote_told ho1 ht1 hb1)
    clear ho1 ht1 hb1
    go_wp2
    go_ret
    exact ⟨_, rfl, HN.out⟩
  · go_enter Tryz.func32, Tryz.ntmps32
    go_wp2_with fail
    go_region_held3 (fun w' => w'.cell? ⟨w.heap.size, 4, none⟩ = some (.string nm))
      (go_keep)
      (first
        | (go_at_call 68; refine (sh_num2 _ hlen ((HOB _).turned (Turned.drew (fun _ => False) _) (fun _ _ h => h))).mono ?_; rintro e w1 ⟨V1, rfl, ho1, ht1, hb1⟩; have s1 : w1.cell? ⟨w.heap.size, 4, none⟩ = some (.string nm) := ht1.cell (p := ⟨w.heap.size, 4, none⟩) (by simp) (fun h => Nat.lt_irrefl _ (HBL.out _ h)); have hV1 : ¬ blk V1 w.heap.size := fun h => (hb1 _ h).elim (fun h => Nat.lt_irrefl _ (HBL.out _ h)) (fun h => by simp at h; omega); have H1 := Hid.mk7 (wrote_told_d ho1 ht1 hb1); obtain ⟨a1, c1, L1, rfl⟩ : ∃ a c L, V1 = .slice a L c := ⟨_, _, _, ho1.sl.form.choose_spec.choose_spec.1⟩; clear ho1 ht1 hb1)
        | (refine step_append_text (by rfl) (.tmp 35) (.tmp 37) (by rfl) Tryz.bytes Tryz.underlying9 (by rfl) (by rfl) H1.out.1 hln ?_; intro v2 w2 ho2 ht2 hb2; have s2 : w2.cell? ⟨w.heap.size, 4, none⟩ = some (.string nm) := ht2.cell (p := ⟨w.heap.size, 4, none⟩) s1 hV1; have H2 := Hid.mk7 (wrote_more H1.out.2.1 H1.out.2.2 ho2 ht2 hb2); clear ho2 ht2 hb2))
    all_goals
      go_wp2
      go_ret
      exact ⟨_, rfl, by have h2 := H2.out.1; rw [List.append_assoc] at h2; exact h2, H2.out.2⟩
  · go_enter Tryz.func32, Tryz.ntmps32
    go_wp2_with (at_builtin; refine wpList_append_text (by rfl) (.tmp 41) (.tmp 43) (by rfl) Tryz.bytes Tryz.underlying9 (by rfl) (by rfl) (HOB _) hls ?_; intro v1 w1 ho1 ht1 hb1; have HN := Hid.mk7 (wrote_told ho1 ht1 (fun k hk => (hb1 k hk).imp id (fun h => Nat.le_of_eq h.symm))); clear ho1 ht1 hb1)
    go_ret
    exact ⟨_, rfl, HN.out⟩
  · go_enter Tryz.func32, Tryz.ntmps32
    go_wp2_with (at_builtin; refine wpList_append_bytes (by rfl) (.tmp 45) (.tmp 47) (by rfl) Tryz.bytes (by rfl) (by rfl) (HOB _) (HDB _) hld ?_; intro v1 w1 ho1 ht1 hb1; have HN := Hid.mk7 (wrote_told ho1 ht1 (fun k hk => (hb1 k hk).imp id (fun h => Nat.le_of_eq h.symm))); clear ho1 ht1 hb1)
    go_ret
    exact ⟨_, rfl, HN.out⟩
end Go.Proofs.YtmnibmgbicnamaaGreatDoor
