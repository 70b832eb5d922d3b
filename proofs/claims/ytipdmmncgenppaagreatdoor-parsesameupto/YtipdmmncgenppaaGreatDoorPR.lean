/-
  Layer 11 (parse): the program's programs of one module; the parser's run.
-/
import Derived.Test.YtipdmmncgenppaaGreatDoorPQ
namespace Go.Proofs.YtipdmmncgenppaaGreatDoor
open Go.RowKit

set_option maxRecDepth 100000 in
set_option maxHeartbeats 3200000 in
theorem ps_program (b0 : Nat) (hbB : b0 ≤ 400) (T : List Tk) (hT : 0 < T.length) (M : Nat → List Sh) (r : Nat → Nat) (hM : ∀ n, (M n).length ≤ 200) (hE : Phrase b0 58 [] T 0 T.length M r) :
    Phrase b0 41 [] T 0 T.length (fun n => M n ++ [⟨28, ⟨#[]⟩, ⟨#[]⟩, 0, [(r n : Int)], (tokAt T 0).at_⟩]) (fun n => n + (M n).length) := by
  intro w g Tv Nv N h hN
  show Calls Tryz.prog 41 #[.pointer (some ⟨g, 0, none⟩)] w _
  have hp := ps_peek h
  have hfa := Tryz.tokPlace
  have H := Hid.mk7 h
  obtain ⟨aT, cT, hTv, _⟩ := h.tok.form
  unfold ReadTo
  generalize tokAt T 0 = t at hp ⊢
  obtain ⟨tk, tt, tn, ta⟩ := t
  simp only [Tk.val] at hp
  simp only
  clear h
  go_enter Tryz.func41, Tryz.ntmps41
  go_wp2_with fail
  refine hp.mono ?_
  rintro x w1 ⟨rfl, hb1⟩
  have hE1 := hE w1 g Tv Nv N (H.out.below hb1) hN
  have HB1 := Hid.mk7 hb1
  clear hp hb1
  go_wp2_with fail
  refine hE1.mono ?_
  rintro x w2 ⟨rfl, Nv2, M2, e2, o2, p2, S2⟩
  have B2 := (Below.alloc0 w2 (.cells #[.int .i64 (r N.length : Int)] 3)).trans ((Below.alloc0 _ (.cells #[.int .i64 28, .string ⟨#[]⟩, .string ⟨#[]⟩, .int .i64 0, .slice (some ⟨w2.heap.size, 0, none⟩) 1 1, .int .i64 ta] 34)).mono (by simp))
  have p3 := p2.below B2
  have kk : KidOk (w2.alloc (.cells #[.int .i64 (r N.length : Int)] 3)) g Nv2 (.slice (some ⟨w2.heap.size, 0, none⟩) 1 1) [(r N.length : Int)] := ⟨SlI.one w2 _ _, fun k hk => by
    have hk : w2.heap.size = k := hk
    subst hk
    exact ⟨by have := p2.lt; omega, fun e => by have := p2.own.blk_lt _ e; omega, by simp⟩⟩
  have k3 := kk.below (Below.alloc0 _ (.cells #[.int .i64 28, .string ⟨#[]⟩, .string ⟨#[]⟩, .int .i64 0, .slice (some ⟨w2.heap.size, 0, none⟩) 1 1, .int .i64 ta] 34))
  have hM2 : M2.length = (M N.length).length := by have := congrArg List.length e2; simpa using this
  have hMl := hM N.length
  have ha := fun W (hW : Below _ _ W) => ps_add (p3.below hW) hT ⟨28, ⟨#[]⟩, ⟨#[]⟩, 0, .slice (some ⟨w2.heap.size, 0, none⟩) 1 1, [(r N.length : Int)], ta⟩ (k3.below hW) (by simp; omega)
  have c0 := p2.c0
  have c1 := p2.c1.1
  rw [hTv] at c0
  have hgl := p2.lt
  have hge : decide ((T.length : Int) < (T.length : Int)) = false := by simp
  have hz2 := S2.t.size
  have hz1 := HB1.out.size
  have H2 := Hid.mk7 (And.intro e2 (And.intro o2 (((Stp.ofB HB1.out).trans S2).trans (Stp.ofB B2))))
  clear hE1 e2 o2 p2 S2 B2 p3 kk k3
  go_wp2_with fail
  refine wp_loop_rounds 1 ?_
  rw [rounds_succ]
  go_wp2_with fail
  go_region
  go_wp2_with fail
  refine (ha _ (Below.refl _ _).drew).mono ?_
  rintro x w4 ⟨rfl, Nv4, p4, S4⟩
  have H4 := Hid.mk7 (And.intro p4 ((Stp.ofB (Below.refl _ _).drew).trans S4))
  clear p4 S4 ha c0 c1
  go_wp2
  go_ret
  refine ⟨by simp, Nv4, M2 ++ [⟨28, ⟨#[]⟩, ⟨#[]⟩, 0, .slice (some ⟨w2.heap.size, 0, none⟩) 1 1, [(r N.length : Int)], ta⟩], by simp [H2.out.1, Nd.sh], fun n hn q hq => ?_, by simpa [List.append_assoc] using H4.out.1, H2.out.2.2.trans H4.out.2⟩
  simp only [List.mem_append, List.mem_cons, List.not_mem_nil, or_false] at hn
  rcases hn with hn | rfl
  · exact Nat.le_trans hz1 (H2.out.2.1 n hn q hq)
  · have hq : w2.heap.size = q := hq
    omega
end Go.Proofs.YtipdmmncgenppaaGreatDoor
