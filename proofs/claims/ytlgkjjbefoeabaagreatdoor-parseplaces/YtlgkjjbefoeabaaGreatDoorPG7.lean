/-
  Layer 11 (parse): the tokens that the program's parser takes, one by one; what stands in brackets.
-/
import Derived.Test.YtlgkjjbefoeabaaGreatDoorPG5
namespace Go.Proofs.YtlgkjjbefoeabaaGreatDoor
open Go.RowKit

section
variable {T : List Tk} {w wr : World} {g : Nat} {Tv Nv Nv1 : Value} {N M1 : List Nd} {s : Ps}
/-- The next token is taken. -/
def Tkn (T : List Tk) (w wr : World) (g : Nat) (Tv Nv : Value) (N : List Nd) (s : Ps) (Nv1 : Value) (M1 : List Nd) (e : Ending) (w2 : World) : Prop := e = .returned (tokAt T s.i).val ∧ Rg T w w2 g Tv Nv N ⟨s.i + 1, s.N⟩ Nv1 M1 ∧ Turned (fun k => k = g) wr w2
theorem Rg.took (r : Rg T w wr g Tv Nv N s Nv1 M1) (hi : s.i < T.length) {e : Ending} {w2 : World} (h : Took wr g Tv T s.i Nv1 (N ++ M1) e w2) : Tkn T w wr g Tv Nv N s Nv1 M1 e w2 := by
  obtain ⟨rfl, p, T2⟩ := h
  refine ⟨rfl, ⟨⟨p, r.ps.n, r.ps.ok.next hi, ?_⟩, r.off, r.st.trans (Stp.ofG T2)⟩, T2⟩
  have := r.ps.cnt
  unfold Cnt at this ⊢
  simp only
  omega
theorem Rg.stop (r : Rg T w wr g Tv Nv N s Nv1 M1) {e : Ending} {w2 : World} (h : e = badAt s.i ∧ Below wr.heap.size wr w2) : e = badAt s.i ∧ Turned (fun k => k = g ∨ blk Nv k) w w2 := ⟨h.1, r.bad (Turned.ofBelow h.2)⟩
theorem rg_sign (r : Rg T w wr g Tv Nv N s Nv1 M1) {x : ByteArray} (h : sgn T x s.i = true) : Calls Tryz.prog 94 #[.pointer (some ⟨g, 0, none⟩), .string x] wr (Tkn T w wr g Tv Nv N s Nv1 M1) := (ps_sign r.ps.at_ (sgn_lt h) x h).mono fun _ _ h2 => r.took (sgn_lt h) h2
theorem rg_sign_bad (r : Rg T w wr g Tv Nv N s Nv1 M1) {x : ByteArray} (h : sgn T x s.i = false) : Calls Tryz.prog 94 #[.pointer (some ⟨g, 0, none⟩), .string x] wr (fun e w2 => e = badAt s.i ∧ Turned (fun k => k = g ∨ blk Nv k) w w2) := (ps_sign_bad r.ps.at_ x h).mono fun _ _ h2 => r.stop h2
theorem rg_word (r : Rg T w wr g Tv Nv N s Nv1 M1) {x : ByteArray} (h : wrd T x s.i = true) : Calls Tryz.prog 190 #[.pointer (some ⟨g, 0, none⟩), .string x] wr (Tkn T w wr g Tv Nv N s Nv1 M1) := (ps_word r.ps.at_ (wrd_lt h) x h).mono fun _ _ h2 => r.took (wrd_lt h) h2
theorem rg_word_bad (r : Rg T w wr g Tv Nv N s Nv1 M1) {x : ByteArray} (h : wrd T x s.i = false) : Calls Tryz.prog 190 #[.pointer (some ⟨g, 0, none⟩), .string x] wr (fun e w2 => e = badAt s.i ∧ Turned (fun k => k = g ∨ blk Nv k) w w2) := (ps_word_bad r.ps.at_ x h).mono fun _ _ h2 => r.stop h2
theorem rg_atom (r : Rg T w wr g Tv Nv N s Nv1 M1) {x : ByteArray} (h : atm T x s.i = true) : Calls Tryz.prog 95 #[.pointer (some ⟨g, 0, none⟩), .string x] wr (Tkn T w wr g Tv Nv N s Nv1 M1) := (ps_atom r.ps.at_ (atm_lt h) x h).mono fun _ _ h2 => r.took (atm_lt h) h2
theorem rg_atom_bad (r : Rg T w wr g Tv Nv N s Nv1 M1) {x : ByteArray} (h : atm T x s.i = false) : Calls Tryz.prog 95 #[.pointer (some ⟨g, 0, none⟩), .string x] wr (fun e w2 => e = badAt s.i ∧ Turned (fun k => k = g ∨ blk Nv k) w w2) := (ps_atom_bad r.ps.at_ x h).mono fun _ _ h2 => r.stop h2
theorem rg_kind (r : Rg T w wr g Tv Nv N s Nv1 M1) {k : Int} (hk : k ≠ 0) (h : knd T k s.i = true) : Calls Tryz.prog 96 #[.pointer (some ⟨g, 0, none⟩), .int .i64 k] wr (Tkn T w wr g Tv Nv N s Nv1 M1) := (ps_kind r.ps.at_ (knd_lt hk h) k (by simpa [knd] using h)).mono fun _ _ h2 => r.took (knd_lt hk h) h2
theorem rg_kind_bad (r : Rg T w wr g Tv Nv N s Nv1 M1) {k : Int} (h : knd T k s.i = false) : Calls Tryz.prog 96 #[.pointer (some ⟨g, 0, none⟩), .int .i64 k] wr (fun e w2 => e = badAt s.i ∧ Turned (fun k => k = g ∨ blk Nv k) w w2) := (ps_kind_bad r.ps.at_ k (by simpa [knd] using h)).mono fun _ _ h2 => r.stop h2
theorem rg_isSign (r : Rg T w wr g Tv Nv N s Nv1 M1) (x : ByteArray) : Calls Tryz.prog 98 #[.pointer (some ⟨g, 0, none⟩), .string x] wr (fun e w2 => e = .returned (.bool (sgn T x s.i)) ∧ Rg T w w2 g Tv Nv N s Nv1 M1 ∧ Below wr.heap.size wr w2) := (ps_isSign r.ps.at_ x).mono fun _ _ h2 => ⟨h2.1, r.below h2.2, h2.2⟩
theorem rg_isWord (r : Rg T w wr g Tv Nv N s Nv1 M1) (x : ByteArray) : Calls Tryz.prog 146 #[.pointer (some ⟨g, 0, none⟩), .string x] wr (fun e w2 => e = .returned (.bool (wrd T x s.i)) ∧ Rg T w w2 g Tv Nv N s Nv1 M1 ∧ Below wr.heap.size wr w2) := (ps_isWord r.ps.at_ x).mono fun _ _ h2 => ⟨h2.1, r.below h2.2, h2.2⟩
theorem rg_peek (r : Rg T w wr g Tv Nv N s Nv1 M1) : Calls Tryz.prog 76 #[.pointer (some ⟨g, 0, none⟩)] wr (fun e w2 => e = .returned (tokAt T s.i).val ∧ Rg T w w2 g Tv Nv N s Nv1 M1 ∧ Below wr.heap.size wr w2) := (ps_peek r.ps.at_).mono fun _ _ h2 => ⟨h2.1, r.below h2.2, h2.2⟩
end
set_option maxRecDepth 100000 in
set_option maxHeartbeats 1600000 in
theorem rd_whole {T : List Tk} {m : PM Nat} {i0 : Nat} (hr : Runs T 156 [.int .i64 1] m i0) : Runs T 145 [] m i0 := by
  intro s hi w g Tv Nv N h
  have hE := hr s hi w g Tv Nv N h
  show Calls Tryz.prog 145 #[.pointer (some ⟨g, 0, none⟩)] w _
  clear hr
  cases hms : m s with
  | error e =>
    rw [hms] at hE
    go_enter Tryz.func145, Tryz.ntmps145
    go_wp2_with fail
    refine hE.mono ?_
    rintro x w1 ⟨rfl, T1⟩
    exact ⟨rfl, rfl, T1⟩
  | ok at_ =>
    obtain ⟨a, t⟩ := at_
    rw [hms] at hE
    go_enter Tryz.func145, Tryz.ntmps145
    go_wp2_with fail
    refine hE.mono ?_
    rintro x w1 ⟨rfl, h1⟩
    have H1 := Hid.mk7 h1
    clear h1 hE
    go_wp2
    go_ret
    exact ⟨rfl, H1.out⟩
end Go.Proofs.YtlgkjjbefoeabaaGreatDoor
