/-
  Layer 11 (parse): what the program's parser does at any tokens: the words of its contracts; a token that may not stand there.
-/
import Derived.Test.YtlgkjjbefoeabaaGreatDoorPN
import Derived.Test.YtlgkjjbefoeabaaGreatDoorPG3
import Derived.WalkLawsBesides
namespace Go.Proofs.YtlgkjjbefoeabaaGreatDoor
open Go.RowKit

/-- A token that may not stand there. -/
@[reducible] def badAt (n : Nat) : Ending := .panicked [{ v := .iface 120 (.int .i64 n), recovered := false }]
theorem Alike.refl (T : List Tk) : Alike T T := ⟨rfl, fun _ => ⟨rfl, rfl, rfl⟩⟩
/-- No more nodes than there is room for. -/
def Cnt (T : List Tk) (s : Ps) : Prop := s.N.length + 4 * (T.length - s.i) ≤ 1000000
/-- A parser in memory, and as lists. -/
structure PS (w : World) (g : Nat) (Tv : Value) (T : List Tk) (Nv : Value) (N : List Nd) (s : Ps) : Prop where
  at_ : PAt w g Tv T s.i Nv N
  n : N.map Nd.sh = s.N
  ok : S2 T s s
  cnt : Cnt T s
theorem PS.below {w w' : World} {g : Nat} {Tv : Value} {T : List Tk} {Nv : Value} {N : List Nd} {s : Ps} (h : PS w g Tv T Nv N s) (hb : Below w.heap.size w w') : PS w' g Tv T Nv N s := ⟨h.at_.below hb, h.n, h.ok, h.cnt⟩
theorem PS.len {w : World} {g : Nat} {Tv : Value} {T : List Tk} {Nv : Value} {N : List Nd} {s : Ps} (h : PS w g Tv T Nv N s) : N.length = s.N.length := by rw [← h.n]; simp
/-- What a call that reads a phrase tells. -/
def Rd (T : List Tk) (w : World) (g : Nat) (Tv Nv : Value) (N : List Nd) (r : Except Nat (Nat × Ps)) (x : Ending) (w' : World) : Prop :=
  match r with
  | .error e => x = badAt e ∧ Turned (fun k => k = g ∨ blk Nv k) w w'
  | .ok (a, t) => x = .returned (.int .i64 (a : Nat)) ∧ ∃ Nv' M', (∀ n ∈ M', ∀ k, blk n.kv k → w.heap.size ≤ k) ∧ PS w' g Tv T Nv' (N ++ M') t ∧ Stp g Nv Nv' w w'
/-- What a call that reads some phrases tells. -/
def RdL (T : List Tk) (w : World) (g : Nat) (Tv Nv : Value) (N : List Nd) (r : Except Nat (List Int × Ps)) (x : Ending) (w' : World) : Prop :=
  match r with
  | .error e => x = badAt e ∧ Turned (fun k => k = g ∨ blk Nv k) w w'
  | .ok (l, t) => ∃ V, x = .returned V ∧ ∃ Nv' M', (∀ n ∈ M', ∀ k, blk n.kv k → w.heap.size ≤ k) ∧ PS w' g Tv T Nv' (N ++ M') t ∧ Stp g Nv Nv' w w' ∧ OwnI w' V l ∧ ∀ k, blk V k → w.heap.size ≤ k ∧ Free w' g Tv Nv' (N ++ M') k
/-- A phrase goes on. -/
def Fwd (T : List Tk) (m : PM Nat) : Prop := ∀ s, S2 T s s → Ok2 T VN 1 m m s s
theorem Fwd.of (T : List Tk) (f : Nat) (ph : Ph) (hp : okPh ph) : Fwd T (runP T f ph) := fun s hs => (runP_ok2 (Alike.refl T) f ph hp s s hs).mono (dOf_pos ph)
theorem Fwd.ok {T : List Tk} {m : PM Nat} (h : Fwd T m) {s t : Ps} (hs : S2 T s s) (hc : Cnt T s) {a : Nat} (e : m s = .ok (a, t)) : S2 T t t ∧ a < t.N.length ∧ s.i < t.i ∧ Cnt T t := by
  rcases h s hs with ⟨x, h1, _⟩ | ⟨a1, a2, t1, t2, h1, h2, h3, h4, h5, M, h6, h7⟩
  · rw [e] at h1; cases h1
  · rw [e] at h1 h2
    obtain ⟨rfl, rfl⟩ : a = a1 ∧ t = t1 := by simpa using h1
    obtain ⟨rfl, rfl⟩ : a = a2 ∧ t = t2 := by simpa using h2
    refine ⟨h3, h4.2, by omega, ?_⟩
    unfold Cnt at hc ⊢
    have := h3.il
    rw [h6]
    simp
    omega
/-- A function of the program reads a phrase, from a token on. -/
def Runs (T : List Tk) (F : FuncId) (more : List Value) (m : PM Nat) (i0 : Nat) : Prop := ∀ s, i0 ≤ s.i → ∀ w g Tv Nv N, PS w g Tv T Nv N s → Calls Tryz.prog F (Value.pointer (some ⟨g, 0, none⟩) :: more).toArray w (Rd T w g Tv Nv N (m s))
section
variable {w : World} {g : Nat} {Tv : Value} {T : List Tk} {i : Nat} {Nv : Value} {N : List Nd}
set_option maxRecDepth 100000 in
set_option maxHeartbeats 400000 in
theorem ps_need_bad (h : PAt w g Tv T i Nv N) : Calls Tryz.prog 116 #[.pointer (some ⟨g, 0, none⟩), .bool false] w fun x w' => x = badAt i ∧ Below w.heap.size w w' := by
  have hc1 := h.c1.1
  have hgl := h.lt
  clear h
  go_enter Tryz.func116, Tryz.ntmps116
  go_wp2
  exact ⟨rfl, rfl, Below.alloc0 w _⟩
set_option maxRecDepth 100000 in
set_option maxHeartbeats 400000 in
theorem ps_kind_bad (h : PAt w g Tv T i Nv N) (k : Int) (hk : ¬ (tokAt T i).kind = k) : Calls Tryz.prog 96 #[.pointer (some ⟨g, 0, none⟩), .int .i64 k] w fun x w' => x = badAt i ∧ Below w.heap.size w w' := by
  have hgl := h.lt
  have hp := fun o => ps_peek (h.below (Below.alloc0 w o))
  have hn := fun o (w1 : World) (hb : Below (w.alloc o).heap.size (w.alloc o) w1) => ps_need_bad ((h.below (Below.alloc0 w o)).below hb)
  have hfk := Tryz.tokKind
  generalize tokAt T i = t at hp hn hk
  obtain ⟨tk, tt, tn, ta⟩ := t
  simp only [Tk.val] at hp hn hk ⊢
  have hbe : (tk == k) = false := by simpa using hk
  clear h
  go_enter Tryz.func96, Tryz.ntmps96
  go_wp2_with fail
  refine (hp _).mono ?_
  rintro x w1 ⟨rfl, hb1⟩
  go_wp2_with fail
  refine (hn _ _ hb1).mono ?_
  rintro x w2 ⟨rfl, hb2⟩
  exact ⟨rfl, rfl, (Below.alloc0 w _).trans ((hb1.trans (hb2.mono hb1.size)).mono (by simp))⟩
set_option maxRecDepth 100000 in
set_option maxHeartbeats 400000 in
theorem ps_sign_bad (h : PAt w g Tv T i Nv N) (s : ByteArray) (hk : isTk 5 s (tokAt T i) = false) : Calls Tryz.prog 94 #[.pointer (some ⟨g, 0, none⟩), .string s] w fun x w' => x = badAt i ∧ Below w.heap.size w w' := by
  have hgl := h.lt
  have hp := fun o => ps_isSign (h.below (Below.alloc0 w o)) s
  have hn := fun o (w1 : World) (hb : Below (w.alloc o).heap.size (w.alloc o) w1) => ps_need_bad ((h.below (Below.alloc0 w o)).below hb)
  simp only [hk] at hp
  clear h hk
  go_enter Tryz.func94, Tryz.ntmps94
  go_wp2_with fail
  refine (hp _).mono ?_
  rintro x w1 ⟨rfl, hb1⟩
  go_wp2_with fail
  refine (hn _ _ hb1).mono ?_
  rintro x w2 ⟨rfl, hb2⟩
  exact ⟨rfl, rfl, (Below.alloc0 w _).trans ((hb1.trans (hb2.mono hb1.size)).mono (by simp))⟩
set_option maxRecDepth 100000 in
set_option maxHeartbeats 400000 in
theorem ps_word_bad (h : PAt w g Tv T i Nv N) (s : ByteArray) (hk : isTk 4 s (tokAt T i) = false) : Calls Tryz.prog 190 #[.pointer (some ⟨g, 0, none⟩), .string s] w fun x w' => x = badAt i ∧ Below w.heap.size w w' := by
  have hgl := h.lt
  have hp := fun o => ps_isWord (h.below (Below.alloc0 w o)) s
  have hn := fun o (w1 : World) (hb : Below (w.alloc o).heap.size (w.alloc o) w1) => ps_need_bad ((h.below (Below.alloc0 w o)).below hb)
  simp only [hk] at hp
  clear h hk
  go_enter Tryz.func190, Tryz.ntmps190
  go_wp2_with fail
  refine (hp _).mono ?_
  rintro x w1 ⟨rfl, hb1⟩
  go_wp2_with fail
  refine (hn _ _ hb1).mono ?_
  rintro x w2 ⟨rfl, hb2⟩
  exact ⟨rfl, rfl, (Below.alloc0 w _).trans ((hb1.trans (hb2.mono hb1.size)).mono (by simp))⟩
set_option maxRecDepth 100000 in
set_option maxHeartbeats 1600000 in
theorem ps_word (h : PAt w g Tv T i Nv N) (hi : i < T.length) (s : ByteArray) (hk : isTk 4 s (tokAt T i) = true) : Calls Tryz.prog 190 #[.pointer (some ⟨g, 0, none⟩), .string s] w (Took w g Tv T i Nv N) := by
  have H := Hid.mk7 h
  have hgl := h.lt
  have hp := fun o => ps_isWord (h.below (Below.alloc0 w o)) s
  have hn := fun o (w1 : World) (hb : Below (w.alloc o).heap.size (w.alloc o) w1) => ps_need ((h.below (Below.alloc0 w o)).below hb) hi
  simp only [hk] at hp
  clear hk
  unfold Took at hn ⊢
  generalize tokAt T i = t at hn ⊢
  obtain ⟨tk, tt, tn, ta⟩ := t
  simp only [Tk.val] at hn ⊢
  clear h
  go_enter Tryz.func190, Tryz.ntmps190
  go_wp2_with fail
  refine (hp _).mono ?_
  rintro x w1 ⟨rfl, hb1⟩
  go_wp2_with fail
  refine (hn _ _ hb1).mono ?_
  rintro x w2 ⟨rfl, h2, T2⟩
  have T3 := (Turned.ofBelow (S := fun k => k = g) hb1).trans T2 (fun _ e => .inl e)
  obtain ⟨⟨c0, f0⟩, ⟨c1, f1⟩, ⟨c2, f2⟩, ⟨c3, f3⟩⟩ := newTokT hgl T3
  have HN := Hid.mk7 (H.out.tookOn (by omega) h2 T3 ⟨tk, tt, tn, ta⟩)
  clear hp hn hb1 h2 T2 T3
  go_wp2
  have hr := lay4_range _ w.heap.size ⟨tk, tt, tn, ta⟩ c0 c1 c2 c3
  exact bodyPost_ret (v := (⟨tk, tt, tn, ta⟩ : Tk).val) (results_tok Tryz.results190 rfl hr) rfl ⟨rfl, HN.out⟩
set_option maxRecDepth 100000 in
set_option maxHeartbeats 1600000 in
theorem ps_atom_bad (h : PAt w g Tv T i Nv N) (s : ByteArray) (hk : isTk 1 s (tokAt T i) = false) : Calls Tryz.prog 95 #[.pointer (some ⟨g, 0, none⟩), .string s] w fun x w' => x = badAt i ∧ Below w.heap.size w w' := by
  have hgl := h.lt
  have hp := fun o => ps_peek (h.below (Below.alloc0 w o))
  have hq : ∀ o (w0 : World), Below (w.alloc o).heap.size (w.alloc o) w0 → Calls Tryz.prog 117 #[(tokAt T i).val, .int .i64 1, .string s] w0 fun x w' => x = .returned (.bool false) ∧ Below (w.alloc o).heap.size (w.alloc o) w' := fun o w0 hb => (ps_is (tokAt T i) 1 s w0).mono (fun x w' hx => ⟨by rw [hx.1]; exact congrArg Ending.returned (congrArg Value.bool hk), hb.trans (hx.2.mono hb.size)⟩)
  have hn := fun o (w1 : World) (hb : Below (w.alloc o).heap.size (w.alloc o) w1) => ps_need_bad ((h.below (Below.alloc0 w o)).below hb)
  clear hk
  generalize tokAt T i = t at hp hq hn ⊢
  obtain ⟨tk, tt, tn, ta⟩ := t
  simp only [Tk.val] at hp hq hn ⊢
  clear h
  go_enter Tryz.func95, Tryz.ntmps95
  go_wp2_with fail
  refine (hp _).mono ?_
  rintro x w0 ⟨rfl, hb0⟩
  go_wp2_with fail
  refine (hq _ _ hb0).mono ?_
  rintro x w1 ⟨rfl, hb1⟩
  clear hb0
  go_wp2_with fail
  refine (hn _ _ hb1).mono ?_
  rintro x w2 ⟨rfl, hb2⟩
  exact ⟨rfl, rfl, (Below.alloc0 w _).trans ((hb1.trans (hb2.mono hb1.size)).mono (by simp))⟩
end
end Go.Proofs.YtlgkjjbefoeabaaGreatDoor
