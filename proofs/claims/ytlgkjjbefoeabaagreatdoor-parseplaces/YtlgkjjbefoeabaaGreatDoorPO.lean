/-
  Layer 11 (parse): the program's functions of one clause.
-/
import Derived.Test.YtlgkjjbefoeabaaGreatDoorPN
namespace Go.Proofs.YtlgkjjbefoeabaaGreatDoor
open Go.RowKit

theorem tokKept {S : Nat → Prop} {w w1 : World} {t : Tk} (T : Turned S (w.alloc (.cells #[.int .i64 t.kind, .string t.text, .int .i64 t.num, .int .i64 t.at_] 40)) w1) (hs : ¬ S w.heap.size) :
    w1.cell? ⟨w.heap.size, 0, none⟩ = some (.int .i64 t.kind) ∧ w1.cell? ⟨w.heap.size, 1, none⟩ = some (.string t.text) ∧ w1.cell? ⟨w.heap.size, 2, none⟩ = some (.int .i64 t.num) ∧ w1.cell? ⟨w.heap.size, 3, none⟩ = some (.int .i64 t.at_) :=
  ⟨T.cell (by simp) hs, T.cell (by simp) hs, T.cell (by simp) hs, T.cell (by simp) hs⟩
set_option maxRecDepth 100000 in
set_option maxHeartbeats 3200000 in
theorem ps_fun (b0 : Nat) (hbB : b0 ≤ 400) (T : List Tk) (i k j : Nat) (hi : i + 2 < T.length) (hk : k + 2 < T.length) (Ma Mb : Nat → List Sh) (ra rb : Nat → Nat) (hMa : ∀ n, (Ma n).length = 1) (hMb : ∀ n, (Mb n).length ≤ 200)
    (hA : Phrase b0 145 [] T (i + 2) k Ma ra) (hB : Phrase (b0 + 2) 148 [] T (k + 2) j Mb rb) (hn : (tokAt T i).kind = 1)
    (h1 : isTk 5 ⟨#[40]⟩ (tokAt T (i + 1)) = true) (h2 : isTk 5 ⟨#[41]⟩ (tokAt T (i + 2)) = false) (h3 : isTk 5 ⟨#[41]⟩ (tokAt T k) = true) (h4 : isTk 5 ⟨#[44]⟩ (tokAt T k) = false) (h5 : isTk 4 ⟨#[119, 104, 101, 110]⟩ (tokAt T (k + 1)) = false) (h6 : isTk 5 ⟨#[45, 62]⟩ (tokAt T (k + 1)) = true) :
    Phrase b0 121 [] T i j (fun n => Ma n ++ [⟨25, ⟨#[]⟩, ⟨#[]⟩, 0, [(ra n : Int)], (tokAt T (i + 1)).at_⟩] ++ Mb (n + 2) ++ [⟨20, (tokAt T i).text, ⟨#[]⟩, 0, [(n : Int) + 1, (rb (n + 2) : Int)], (tokAt T i).at_⟩]) (fun n => n + 2 + (Mb (n + 2)).length) := by
  intro w g Tv Nv N h hN
  show Calls Tryz.prog 121 #[.pointer (some ⟨g, 0, none⟩)] w _
  have hT : 0 < T.length := by omega
  have hk1 := ps_kind h (by omega) 1 hn
  have H := Hid.mk7 h
  have hfa := Tryz.tokPlace
  unfold Took at hk1
  unfold ReadTo
  generalize hta : tokAt T (i + 1) = ta at h1 ⊢
  obtain ⟨ak, at', an, aa⟩ := ta
  generalize htn : tokAt T i = tn at hk1 ⊢
  obtain ⟨nk, nt, nn, na⟩ := tn
  simp only [Tk.val] at hk1
  simp only
  clear h hn htn
  go_enter Tryz.func121, Tryz.ntmps121
  go_wp2_with fail
  refine hk1.mono ?_
  rintro x w1 ⟨rfl, p1, T1⟩
  have B2 := Below.alloc0 w1 (.cells #[.int .i64 nk, .string nt, .int .i64 nn, .int .i64 na] 40)
  have p2 := p1.below B2
  have hp2 := ps_peek p2
  rw [hta] at hp2
  simp only [Tk.val] at hp2
  have H2 := Hid.mk7 (And.intro p2 ((Stp.ofG (Nv := Nv) T1).trans (Stp.ofB B2)))
  have hgl1 := p1.lt
  have nb1 : ¬ (w1.heap.size = g ∨ blk Nv w1.heap.size) := fun e => e.elim (fun e => by omega) (fun e => by have := p1.own.blk_lt _ e; omega)
  clear hk1 p1 T1 p2 B2
  go_wp2_with fail
  refine hp2.mono ?_
  rintro x w3 ⟨rfl, hb3⟩
  have p3 := H2.out.1.below hb3
  have har := ps_arguments b0 (by omega) T (i + 1) k (by omega) (by omega) Ma ra hA (by rw [hta]; exact h1) h2 h3 h4 p3 hN
  unfold RowTo at har
  have H3 := Hid.mk7 (Stp.ofB (g := g) (Nv := Nv) hb3)
  clear hp2 hb3 p3
  go_wp2_with fail
  refine har.mono ?_
  rintro x w4 ⟨V, rfl, Nv4, M4, e4, o4, p4, S4, k4, v4⟩
  have hM4 : M4.length = 1 := by have := congrArg List.length e4; rw [hMa] at this; simpa using this
  have had := ps_add p4 hT ⟨25, ⟨#[]⟩, ⟨#[]⟩, 0, V, [(ra N.length : Int)], aa⟩ k4 (by simp; omega)
  unfold Added at had
  simp only [Nd.val] at had
  have e5 : (N ++ M4).length = N.length + 1 := by simp; omega
  rw [e5] at had
  obtain ⟨aV, cV, hV⟩ := SlI.form k4.sl
  subst hV
  have H4 := Hid.mk7 (And.intro e4 (And.intro o4 (And.intro (H3.out.trans S4) v4)))
  have hz3 := H3.out.t.size
  simp only [World.size_alloc] at hz3
  clear har e4 o4 p4 S4 k4 v4
  go_wp2_with fail
  refine had.mono ?_
  rintro x w5 ⟨rfl, Nv5, p5, S5⟩
  obtain ⟨c0, c1, c2, c3⟩ := tokKept (t := ⟨nk, nt, nn, na⟩) (H4.out.2.2.1.trans S5).t nb1
  have hrs := ps_rest (b0 + 2) (by omega) T (k + 1) j (by omega) Mb rb hMb hB h5 h6 20 nt ⟨#[]⟩ 0 na ((N.length : Int) + 1) p5 (by simp; omega)
  have e6 : (N ++ M4 ++ [(⟨25, ⟨#[]⟩, ⟨#[]⟩, 0, .slice aV [(ra N.length : Int)].length cV, [(ra N.length : Int)], aa⟩ : Nd)]).length = N.length + 2 := by simp; omega
  rw [e6] at hrs
  have H5 := Hid.mk7 ((H2.out.2.trans (H4.out.2.2.1.trans S5)))
  have hz5 := S5.t.size
  have hz4 := H4.out.2.2.1.t.size
  simp only [World.size_alloc] at hz4
  have hz2 := H2.out.2.t.size
  simp only [World.size_alloc] at hz2
  clear had p5 S5
  go_wp2_with fail
  refine hrs.mono ?_
  rintro x w6 ⟨rfl, Nv6, M6, e7, o6, p6, S6⟩
  have H6 := Hid.mk7 (And.intro e7 (And.intro o6 (And.intro p6 S6)))
  clear hrs e7 o6 p6 S6 c0 c1 c2 c3
  go_wp2
  go_ret
  refine ⟨rfl, Nv6, M4 ++ [⟨25, ⟨#[]⟩, ⟨#[]⟩, 0, .slice aV [(ra N.length : Int)].length cV, [(ra N.length : Int)], aa⟩] ++ M6, by simp [H4.out.1, H6.out.1, Nd.sh], fun n hn q hq => ?_, by simpa [List.append_assoc] using H6.out.2.2.1, H5.out.trans H6.out.2.2.2⟩
  simp only [List.mem_append, List.mem_cons, List.not_mem_nil, or_false] at hn
  rcases hn with (hn | rfl) | hn
  · have := H4.out.2.1 n hn q hq; omega
  · have := H4.out.2.2.2 q hq; omega
  · have := H6.out.2.1 n hn q hq; omega
end Go.Proofs.YtlgkjjbefoeabaaGreatDoor
