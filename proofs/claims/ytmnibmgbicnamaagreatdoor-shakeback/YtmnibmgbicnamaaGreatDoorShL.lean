/-
  Layer 8 (shake): the program's fields read one after the other.
-/
import Derived.Test.YtmnibmgbicnamaaGreatDoorShK
namespace Go.Proofs.YtmnibmgbicnamaaGreatDoor
open Go.RowKit

theorem width_ok (f : Int) (b : List Int) (e : Nat) (h : e + widthOf f (b.drop e) ≤ b.length) : fieldOk f ((b.drop e).take (widthOf f (b.drop e))) := by
  have hl : ((b.drop e).take (widthOf f (b.drop e))).length = widthOf f (b.drop e) := by rw [List.length_take, List.length_drop]; omega
  unfold fieldOk
  rw [hl]
  refine ⟨?_, ?_, ?_, ?_⟩
  · rintro rfl; rfl
  · rintro (rfl | rfl) <;> rfl
  · rintro rfl; rw [w3]; split <;> omega
  · rintro rfl; rfl
theorem width_pos (f : Int) (b : List Int) (e : Nat) (hr : ∀ z ∈ b, 0 ≤ z ∧ z < 256) : widthOf f (b.drop e) ≤ 65600 + b.length := by
  unfold widthOf
  repeat' split
  all_goals try omega
  · rename_i h2
    rw [numAt_drop]
    have := numAt_rng b hr e 2 (by rw [List.length_drop] at h2; omega)
    simp at this
    omega
  · rw [List.length_drop]; omega
theorem turned7 (w : World) (g : Nat) (v0 v1 v2 v3 v4 v5 v6 : Value) : Turned (fun k => k = g) w (((((((w.setCell ⟨g, 0, none⟩ v0).setCell ⟨g, 1, none⟩ v1).setCell ⟨g, 2, none⟩ v2).setCell ⟨g, 3, none⟩ v3).setCell ⟨g, 4, none⟩ v4).setCell ⟨g, 5, none⟩ v5).setCell ⟨g, 6, none⟩ v6) :=
  ((((((Turned.set1 w g 0 v0).trans (Turned.set1 _ g 1 v1) (fun _ h => .inl h)).trans (Turned.set1 _ g 2 v2) (fun _ h => .inl h)).trans (Turned.set1 _ g 3 v3) (fun _ h => .inl h)).trans (Turned.set1 _ g 4 v4) (fun _ h => .inl h)).trans (Turned.set1 _ g 5 v5) (fun _ h => .inl h)).trans (Turned.set1 _ g 6 v6) (fun _ h => .inl h)
theorem sread_end {w wr : World} {D : Value} {ds : List Int} (H : Nat) (hD : Sl wr D ds) (hk : ∀ k, blk D k → H + 1 + 1 + 1 ≤ k) (hB : Below H w wr) (g : Nat) (hg : g = H + 1) (hH : H ≤ w.heap.size) (v0 v1 v2 v3 v4 v5 v6 : Value) :
    Sl (((((((wr.setCell ⟨g, 0, none⟩ v0).setCell ⟨g, 1, none⟩ v1).setCell ⟨g, 2, none⟩ v2).setCell ⟨g, 3, none⟩ v3).setCell ⟨g, 4, none⟩ v4).setCell ⟨g, 5, none⟩ v5).setCell ⟨g, 6, none⟩ v6) D ds ∧ (∀ k, blk D k → H ≤ k) ∧ Below H w (((((((wr.setCell ⟨g, 0, none⟩ v0).setCell ⟨g, 1, none⟩ v1).setCell ⟨g, 2, none⟩ v2).setCell ⟨g, 3, none⟩ v3).setCell ⟨g, 4, none⟩ v4).setCell ⟨g, 5, none⟩ v5).setCell ⟨g, 6, none⟩ v6) := by
  have T := turned7 wr g v0 v1 v2 v3 v4 v5 v6
  have := hB.size
  exact ⟨hD.turned T (fun k hb he => by have := hk k hb; have he : k = g := he; omega), fun k hb => by have := hk k hb; omega, hB.trans (T.below (by omega) (fun k he => by have he : k = g := he; omega))⟩
set_option maxRecDepth 100000 in
set_option maxHeartbeats 6400000 in
theorem sh_sread (L : Value) (hL : ∃ x, L = .int .u8 x) {w : World} {BF : Nat} {V : Value} {fs : List Int} (hV : Fl w BF V fs) (hfl : fs.length ≤ 6) (hfr : ∀ f ∈ fs, 0 ≤ f ∧ f ≤ 5) {B : Value} {b : List Int} (hB : Sl w B b) (hr : ∀ z ∈ b, 0 ≤ z ∧ z < 256) (hb1 : 1 ≤ b.length) (hl : b.length ≤ 140737488355328) :
    Calls Tryz.prog 42 #[.agg #[L, V], B] w fun e w' => ∃ D, e = .returned (.tuple #[msgV' (readF b fs 1 .zero).1 D, .int .i64 (readF b fs 1 .zero).2]) ∧ Sl w' D (readF b fs 1 .zero).1.digest ∧ (∀ k, blk D k → w.heap.size ≤ k) ∧ Below w.heap.size w w' := by
  obtain ⟨x, rfl⟩ := hL
  obtain ⟨g, hg1, hg2, rfl, hgc⟩ := hV
  obtain ⟨a, cap, rfl, hcap, hmax⟩ := hB.form
  have HC : Hid (∀ j (h : j < fs.length), w.cell? ⟨g, j, none⟩ = some (.int .i64 fs[j])) := hgc
  have HB : Hid (Sl w (.slice a b.length cap) b) := hB
  have HR : Hid (∀ z ∈ b, 0 ≤ z ∧ z < 256) := hr
  have HFR : Hid (∀ f ∈ fs, 0 ≤ f ∧ f ≤ 5) := hfr
  have hbl : ∀ k, blk (.slice a b.length cap) k → k < w.heap.size := hB.lt (fun h => by rw [h] at hb1; simp at hb1)
  have HBL : Hid (∀ k, blk (.slice a b.length cap) k → k < w.heap.size) := hbl
  generalize hRF : readF b fs 1 .zero = RF
  have HRF : Hid (readF b fs 1 .zero = RF) := hRF
  clear hgc hB hr hfr hRF hbl
  go_enter Tryz.func42, Tryz.ntmps42
  go_wp2_with fail
  go_loopw [7, 14] (fun ee ii wr => ∃ (j e : Nat) (m : Msg) (D : Value), ii = .int .i64 j ∧ j ≤ fs.length ∧ ee = .int .i64 e ∧ 1 ≤ e ∧ e ≤ b.length ∧ readF b (fs.drop j) e m = RF ∧ MsgB wr (w.heap.size + 1 + 1) m D ∧ Sl wr D m.digest ∧ (∀ k, blk D k → w.heap.size + 1 + 1 + 1 ≤ k) ∧ Block wr (w.heap.size + 1) 7 (msgCell .zero (.slice none 0 0)) ∧ Below (w.heap.size) w wr) (fun _ ii _ => fs.length - (intOf ii).toNat)
  case atStart =>
    refine ⟨0, 1, .zero, .slice none 0 0, rfl, Nat.zero_le _, rfl, Nat.le_refl _, hb1, HRF.out, ?_, .inl ⟨rfl, rfl⟩, fun _ h => h.elim, ?_, ?_⟩
    · have := MsgB.ofNew ((w.alloc (.cells #[.int .u8 x, .slice (some ⟨g, 0, none⟩) fs.length fs.length] 85)).alloc (.cells #[.int .i64 0, .int .u64 0, .int .u32 0, .int .u32 0, .string ⟨#[]⟩, .string ⟨#[]⟩, .slice none 0 0] 27)) .zero (.slice none 0 0) 27
      simp only [World.size_alloc] at this
      exact this
    · have h1 := MsgB.ofNew (w.alloc (.cells #[.int .u8 x, .slice (some ⟨g, 0, none⟩) fs.length fs.length] 85)) .zero (.slice none 0 0) 27
      have h2 := Block.turned h1 (alloc0m _ (.cells #[.int .i64 0, .int .u64 0, .int .u32 0, .int .u32 0, .string ⟨#[]⟩, .string ⟨#[]⟩, .slice none 0 0] 27)) (fun h => h)
      simp only [World.size_alloc] at h2
      exact h2
    · exact (((Below.refl _ _).alloc (Nat.le_refl _) _).alloc (by simp) _).alloc (by simp; omega) _
  case round =>
    obtain ⟨j, e, m, D, rfl, hj, rfl, he1, he2, hrf, hM, hD, hDk, hZ, hBw⟩ := hrel
    by_cases hlt : j < fs.length
    · have hlti : (j : Int) < (fs.length : Int) := by omega
      have hx := (hBw.cell (p := ⟨g, j, none⟩) hg2).trans (HC.out j hlt)
      have hfj := HFR.out fs[j] (List.getElem_mem hlt)
      rw [List.drop_eq_getElem_cons hlt] at hrf
      generalize fs[j] = f at hx hfj hrf
      have hBr : Sl wr (.slice a b.length cap) b := HB.out.turned (Turned.ofBelow (S := fun _ => False) hBw) (fun _ _ h => h)
      obtain ⟨aF, haF⟩ : ∃ aF, aF = (if cap = e then a else a.map (·.add e)) := ⟨_, rfl⟩
      have hc2 : ∀ W : World, (Instr.slice 25 (.slice a b.length cap) (some (.int .i64 (e : Int))) none none).run Tryz.prog W = .ok (.slice aF (b.length - e) (cap - e)) W := fun W => by rw [haF]; exact run_cutFrom Tryz.bytes (l := e) (by omega) W
      have hs := hBr.drop (n := e) (by omega)
      rw [← haF] at hs
      have hwd := sh_width f hfj hs (fun z hz => HR.out z (List.mem_of_mem_drop hz)) (by rw [List.length_drop]; omega)
      have hwp := width_pos f b e HR.out
      have hwo := width_ok f b e
      rw [readF] at hrf
      obtain ⟨n, hn⟩ : ∃ n, n = widthOf f (b.drop e) := ⟨_, rfl⟩
      rw [← hn] at hwd hwp hwo hrf
      clear hn haF
      have HX : Hid (MsgB wr (w.heap.size + 1 + 1) m D ∧ Sl wr D m.digest ∧ (∀ k, blk D k → w.heap.size + 1 + 1 + 1 ≤ k) ∧ Block wr (w.heap.size + 1) 7 (msgCell .zero (.slice none 0 0)) ∧ Below (w.heap.size) w wr ∧ Sl wr (.slice a b.length cap) b) := ⟨hM, hD, hDk, hZ, hBw, hBr⟩
      clear hM hD hDk hZ hBw hBr
      by_cases hlong : b.length < e + n
      · rw [if_pos hlong] at hrf
        have hli : (b.length : Int) < (e : Int) + (n : Int) := by omega
        have HRF2 : Hid ((m, e + n) = RF) := hrf
        obtain ⟨aD, cD, LD, rfl⟩ : ∃ a c L, D = .slice a L c := ⟨_, _, _, HX.out.2.1.form.choose_spec.choose_spec.1⟩
        obtain ⟨m0, m1, m2, m3, m4, m5, m6⟩ := HX.out.1.at_
        obtain ⟨z0, y0⟩ := HX.out.2.2.2.1 0 (by omega)
        obtain ⟨z1, y1⟩ := HX.out.2.2.2.1 1 (by omega)
        obtain ⟨z2, y2⟩ := HX.out.2.2.2.1 2 (by omega)
        obtain ⟨z3, y3⟩ := HX.out.2.2.2.1 3 (by omega)
        obtain ⟨z4, y4⟩ := HX.out.2.2.2.1 4 (by omega)
        obtain ⟨z5, y5⟩ := HX.out.2.2.2.1 5 (by omega)
        obtain ⟨z6, y6⟩ := HX.out.2.2.2.1 6 (by omega)
        simp only [msgCell] at z0 z1 z2 z3 z4 z5 z6
        clear hrf hwo hs
        go_wp2_with fail
        refine hwd.mono ?_
        rintro ev w' ⟨rfl, rfl⟩
        go_wp2
        have hE := sread_end w.heap.size HX.out.2.1 HX.out.2.2.1 HX.out.2.2.2.2.1 (w.heap.size + 1) (by omega) (by omega) (.int .i64 m.kind) (.int .u64 m.flags) (.int .u32 m.creation) (.int .u32 m.challenge) (.string m.name) (.string m.status) (.slice aD LD cD)
        have HE := Hid.mk7 hE
        refine bodyPost_ret (v := .tuple #[.agg #[.int .i64 m.kind, .int .u64 m.flags, .int .u32 m.creation, .int .u32 m.challenge, .string m.name, .string m.status, .slice aD LD cD], .int .i64 ((e : Int) + (n : Int))]) (by simp [results, Tryz.results42, go_sem, z0, z1, z2, z3, z4, z5, z6]) rfl ?_
        rw [← HRF2.out]
        exact ⟨_, by simp [msgV'], HE.out⟩
      · rw [if_neg hlong] at hrf
        have hli : ¬ (b.length : Int) < (e : Int) + (n : Int) := by omega
        have HRF2 : Hid (readF b (fs.drop (j + 1)) (e + n) (setField f m ((b.drop e).take n)) = RF) := hrf
        obtain ⟨aG, haG⟩ : ∃ aG, aG = (if cap = e then a else a.map (·.add e)) := ⟨_, rfl⟩
        have hc3 : ∀ W : World, (Instr.slice 25 (.slice a b.length cap) (some (.int .i64 (e : Int))) (some (.int .i64 ((e : Int) + (n : Int)))) none).run Tryz.prog W = .ok (.slice aG n (cap - e)) W := fun W => by rw [haG]; exact run_cut2 Tryz.bytes (l := e) (n := n) (by omega) W
        have hs2 := HX.out.2.2.2.2.2.drop (n := e) (by omega)
        rw [← haG] at hs2
        have hdl : (b.drop e).length = b.length - e := List.length_drop ..
        rw [← hdl] at hs2
        have hs3 := hs2.take (n := n) (by omega)
        have hrd := sh_fread f hfj hs3 (fun z hz => HR.out z (List.mem_of_mem_drop (List.mem_of_mem_take hz))) (hwo (by omega)) HX.out.1 HX.out.2.1 (fun k hk => by have := HX.out.2.2.1 k hk; omega)
        clear hrf hwo hs hs2 hs3 haG hdl
        go_wp2_with fail
        refine hwd.mono ?_
        rintro ev w' ⟨rfl, rfl⟩
        go_wp2_with fail
        refine hrd.mono ?_
        rintro ev w5 ⟨D5, rfl, hM5, hD5, hk5, ht5⟩
        have hww := HX.out.2.2.2.2.1.size
        have HN : Hid (MsgB w5 (w.heap.size + 1 + 1) (setField f m ((b.drop e).take n)) D5 ∧ Sl w5 D5 (setField f m ((b.drop e).take n)).digest ∧ (∀ k, blk D5 k → w.heap.size + 1 + 1 + 1 ≤ k) ∧ Block w5 (w.heap.size + 1) 7 (msgCell .zero (.slice none 0 0)) ∧ Below (w.heap.size) w w5) := ⟨hM5, hD5, fun k hk => (hk5 k hk).elim (HX.out.2.2.1 k) (fun h => by have := HX.out.1.at_.lt; omega), Block.turned HX.out.2.2.2.1 ht5 (fun h => by have h : w.heap.size + 1 = w.heap.size + 1 + 1 := h; omega), HX.out.2.2.2.2.1.trans (ht5.below hww (fun k hk => by have hk : k = w.heap.size + 1 + 1 := hk; omega))⟩
        clear hM5 hD5 hk5 ht5 hrd HX hww
        go_wp2
        go_roundw
        case rel => exact ⟨j + 1, e + n, _, D5, by go_num, by omega, by go_num, by omega, by omega, HRF2.out, HN.out⟩
        case measure => simp [intOf]; omega
    · have hge : ¬ (j : Int) < (fs.length : Int) := by omega
      rw [List.drop_eq_nil_of_le (by omega)] at hrf
      have HRF2 : Hid ((m, e) = RF) := hrf
      have HX : Hid (MsgB wr (w.heap.size + 1 + 1) m D ∧ Sl wr D m.digest ∧ (∀ k, blk D k → w.heap.size + 1 + 1 + 1 ≤ k) ∧ Block wr (w.heap.size + 1) 7 (msgCell .zero (.slice none 0 0)) ∧ Below (w.heap.size) w wr) := ⟨hM, hD, hDk, hZ, hBw⟩
      clear hM hD hDk hZ hBw hrf
      obtain ⟨aD, cD, LD, rfl⟩ : ∃ a c L, D = .slice a L c := ⟨_, _, _, HX.out.2.1.form.choose_spec.choose_spec.1⟩
      obtain ⟨m0, m1, m2, m3, m4, m5, m6⟩ := HX.out.1.at_
      obtain ⟨z0, y0⟩ := HX.out.2.2.2.1 0 (by omega)
      obtain ⟨z1, y1⟩ := HX.out.2.2.2.1 1 (by omega)
      obtain ⟨z2, y2⟩ := HX.out.2.2.2.1 2 (by omega)
      obtain ⟨z3, y3⟩ := HX.out.2.2.2.1 3 (by omega)
      obtain ⟨z4, y4⟩ := HX.out.2.2.2.1 4 (by omega)
      obtain ⟨z5, y5⟩ := HX.out.2.2.2.1 5 (by omega)
      obtain ⟨z6, y6⟩ := HX.out.2.2.2.1 6 (by omega)
      simp only [msgCell] at z0 z1 z2 z3 z4 z5 z6
      go_wp2
      have hE := sread_end w.heap.size HX.out.2.1 HX.out.2.2.1 HX.out.2.2.2.2 (w.heap.size + 1) (by omega) (by omega) (.int .i64 m.kind) (.int .u64 m.flags) (.int .u32 m.creation) (.int .u32 m.challenge) (.string m.name) (.string m.status) (.slice aD LD cD)
      have HE := Hid.mk7 hE
      refine bodyPost_ret (v := .tuple #[.agg #[.int .i64 m.kind, .int .u64 m.flags, .int .u32 m.creation, .int .u32 m.challenge, .string m.name, .string m.status, .slice aD LD cD], .int .i64 (e : Int)]) (by simp [results, Tryz.results42, go_sem, z0, z1, z2, z3, z4, z5, z6]) rfl ?_
      rw [← HRF2.out]
      exact ⟨_, by simp [msgV'], HE.out⟩
end Go.Proofs.YtmnibmgbicnamaaGreatDoor
