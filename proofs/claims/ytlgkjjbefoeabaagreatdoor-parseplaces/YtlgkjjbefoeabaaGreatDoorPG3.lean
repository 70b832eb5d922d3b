/-
  Layer 11 (parse), of lists alone: every phrase of the parser goes on as the lists allow.
-/
import Derived.Test.YtlgkjjbefoeabaaGreatDoorPG2
namespace Go.Proofs.YtlgkjjbefoeabaaGreatDoor

def dOf : Ph → Int
  | .expr _ => 3
  | .operand => 3
  | .conj => 2
  | .body => 2
  | _ => 1
/-- A level is one. -/
def okPh : Ph → Prop
  | .expr l => 1 ≤ l
  | _ => True
theorem dOf_pos (ph : Ph) : 1 ≤ dOf ph := by cases ph <;> simp [dOf]
theorem nameOf_bare (N : List Sh) (c : Int) : nameOf N c = nameOf (N.map Sh.bare) c := by
  unfold nameOf
  rw [List.getElem?_map]
  cases N[c.toNat]? <;> rfl
theorem argsOf_bare (N : List Sh) (c : Int) : argsOf N c = argsOf (N.map Sh.bare) c := by
  unfold argsOf
  rw [List.getElem?_map, List.getElem?_map]
  have h : ∀ o : Option Sh, (o.map Sh.bare).map Sh.kids = o.map Sh.kids := fun o => by cases o <;> rfl
  rw [h, h]
section
variable {T T' : List Tk} (hA : Alike T T') {rec rec' : Ph → PM Nat}
include hA
theorem rowL_ok2 {x : ByteArray} {ph ph' : PM Nat} {d : Int} (hd : 0 ≤ d) (hp : ∀ s s', S2 T s s' → Ok2 T VN d ph ph' s s') : ∀ (f : Nat) (acc acc' : List Int) (s s' : Ps), S2 T s s' → VL acc acc' s.N → Ok2 T VL 0 (rowL T x ph f acc) (rowL T' x ph' f acc') s s'
  | 0, _, _, _, _, hs, hv => Ok2.ret hs hv
  | f + 1, acc, acc', s, s', hs, hv => by
    unfold rowL
    refine Ok2.iff (hA.sgn hs x) (fun hb => ?_) (fun _ => Ok2.ret hs hv)
    have hl := sgn_lt hb
    refine (Ok2.skip (e := d + 0) (n := 1) ((hp _ _ (hs.next hl)).bind fun a a' t t' ht va _ hM => rowL_ok2 hd hp f _ _ t t' ht ((hv.up hM).snoc va))).mono (by omega)
theorem row_ok2 {x : ByteArray} {ph ph' : PM Nat} {d : Int} (hd : 0 ≤ d) (hp : ∀ s s', S2 T s s' → Ok2 T VN d ph ph' s s') {s s' : Ps} (hs : S2 T s s') : Ok2 T VL d (row T x ph) (row T' x ph') s s' := by
  unfold row
  rw [← hA.len]
  exact ((hp s s' hs).bind fun a a' t t' ht va _ _ => rowL_ok2 hA hd hp _ _ _ t t' ht (VL.one va)).mono (by omega)
theorem enclosed_ok2 {l r : ByteArray} {ph ph' : PM Nat} {d : Int} (hd : 0 ≤ d) (hp : ∀ s s', S2 T s s' → Ok2 T VN d ph ph' s s') {s s' : Ps} (hs : S2 T s s') : Ok2 T VL 8 (enclosed T l r ph) (enclosed T' l r ph') s s' := by
  unfold enclosed
  refine (Ok2.sign (e := 0 + (0 + 4)) hA hs l fun _ h1 => ?_).mono (by omega)
  refine Ok2.bind (V := VL) (d := 0) (Ok2.iff (hA.sgn h1 r) (fun _ => Ok2.ret h1 (VL.nil _)) (fun _ => (row_ok2 hA hd hp h1).mono (by omega))) fun a a' t t' ht va _ _ => ?_
  exact Ok2.sign hA ht r fun _ h2 => Ok2.ret h2 va
variable (hR : ∀ ph, okPh ph → ∀ s s', S2 T s s' → Ok2 T VN (dOf ph) (rec ph) (rec' ph) s s')
include hR
omit hA in
theorem whole_ok2 {s s' : Ps} (hs : S2 T s s') : Ok2 T VN 3 (whole rec) (whole rec') s s' := hR (.expr 1) (by simp [okPh]) s s' hs
theorem arguments_ok2 {s s' : Ps} (hs : S2 T s s') : Ok2 T VL 8 (arguments T rec) (arguments T' rec') s s' := enclosed_ok2 hA (d := 3) (by omega) (fun _ _ h => whole_ok2 hR h) hs
omit hR in
theorem lev_alike {s s' : Ps} (hs : S2 T s s') : lev (tokAt T s.i) = lev (tokAt T' s'.i) := by
  have e := hA.tok s.i
  rw [← hs.i]
  simp [lev, e.1, e.2.1]
omit hR in
theorem opSh_alike {s s' : Ps} (hs : S2 T s s') (l : List Int) : (opSh (tokAt T s.i) l).bare = (opSh (tokAt T' s'.i) l).bare := by
  have e := hA.tok s.i
  rw [← hs.i]
  unfold opSh
  rw [e.2.1]
  split
  · rfl
  · split
    · rfl
    · split
      · rfl
      · split <;> rfl
omit hA hR in
theorem opSh_kids (t : Tk) (l : List Int) : (opSh t l).kids = l := by
  unfold opSh
  split
  · rfl
  · split
    · rfl
    · split
      · rfl
      · split <;> rfl
omit hA hR in
theorem lev_lt {i : Nat} (h : lev (tokAt T i) ≠ 0) : i < T.length := tok_lt fun h0 => h (by simp [lev, h0])
theorem exprL_ok2 {least : Int} (hl : 1 ≤ least) : ∀ (f : Nat) (most : Int) (l l' : Nat) (s s' : Ps), S2 T s s' → VN l l' s.N → Ok2 T VN 0 (exprL T rec least f most l) (exprL T' rec' least f most l') s s'
  | 0, _, _, _, _, _, hs, hv => Ok2.ret hs hv
  | f + 1, most, l, l', s, s', hs, hv => by
    unfold exprL
    refine Ok2.tok ?_
    rw [← lev_alike hA hs]
    split
    · exact Ok2.ret hs hv
    · rename_i hc
      have hlt : s.i < T.length := lev_lt (by omega)
      refine (Ok2.skip (e := 3 + (-1 + 0)) (n := 1) ((hR (.expr (sidesR (lev (tokAt T s.i)))) (show 1 ≤ sidesR (lev (tokAt T s.i)) by unfold sidesR; split <;> omega) _ _ (hs.next hlt)).bind fun a a' t t' ht va _ hM => ?_)).mono (by omega)
      refine (Ok2.add ht ?_ ?_).bind fun b b' u u' hu vb _ _ => exprL_ok2 hl f _ b b' u u' hu vb
      · rw [va.1, (hv.up hM).1]
        exact opSh_alike hA hs _
      · rw [opSh_kids]
        intro k hk
        have h1 := (hv.up hM).2
        have h2 := va.2
        simp at hk
        omega
theorem rest_ok2 {n n' : Sh} (hn : n.bare = n'.bare) {p p' : Nat} {s s' : Ps} (hs : S2 T s s') (hv : VN p p' s.N) : Ok2 T VN 5 (rest T rec n p) (rest T' rec' n' p') s s' := by
  unfold rest
  refine (Ok2.bind (V := VL) (d := 0) (e := 2 + -1 + 4) (Ok2.iff (hA.wrd hs _) (fun hb => ?_) (fun _ => Ok2.ret hs (VL.one hv))) fun a a' t t' ht va _ _ => ?_).mono (by omega)
  · have hl := wrd_lt hb
    refine (Ok2.skip (e := 1 + 0) (n := 1) ((hR .guard trivial _ _ (hs.next hl)).bind fun b b' u u' hu vb _ hM => Ok2.ret hu ?_)).mono (by omega)
    exact VL.cons (hv.up hM) (VL.one vb)
  · refine Ok2.sign hA ht _ fun _ h1 => ?_
    refine (hR .body trivial _ _ h1).bind fun b b' u u' hu vb _ hM => Ok2.add hu ?_ ((va.up hM).snoc vb).2
    have hb := ((va.up hM).snoc vb).1
    simp only [Sh.bare, Sh.mk.injEq] at hn ⊢
    exact ⟨hn.1, hn.2.1, hn.2.2.1, hn.2.2.2.1, hb, trivial⟩
theorem named_ok2 {s s' : Ps} (hs : S2 T s s') (hl : s.i < T.length) : Ok2 T VN 3 (named T rec (tokAt T s.i)) (named T' rec' (tokAt T' s'.i)) s s' := by
  have e := hA.tok s.i
  rw [hs.i] at e
  rw [← hs.i] at e
  unfold named
  have ht : (tokAt T s.i).text = (tokAt T' s'.i).text := by rw [← hs.i]; exact e.2.1
  generalize tokAt T s.i = t at ht
  generalize tokAt T' s'.i = t' at ht
  have h1 := hs.next (n := 1) hl
  refine (Ok2.skip (e := 0 + (0 + -1)) (n := 1) ?_).mono (by omega)
  refine Ok2.bind (V := fun a a' _ => a = a') (d := 0) (Ok2.iff (by rw [ht, hA.sgn h1]) (fun hb => ?_) (fun _ => Ok2.ret h1 (by rw [ht]))) fun a a' u u' hu va _ _ => ?_
  · have hl2 : (⟨s.i + 1, s.N⟩ : Ps).i < T.length := sgn_lt (x := ⟨#[58]⟩) (by simp at hb; exact hb.2)
    refine Ok2.mono (d := 0 + 4 + 4 * (1 : Nat)) (Ok2.skip (Ok2.kind hA (h1.next hl2) (by decide) fun _ h3 => ?_)) (by omega)
    refine Ok2.ret h3 ?_
    have e2 := hA.tok (s.i + 1 + 1)
    rw [ht]
    simp only [Prod.mk.injEq, true_and]
    rw [← hs.i]
    exact e2.2.1
  · subst va
    refine Ok2.bind (V := fun (a a' : Int × List Int) N => a.1 = a'.1 ∧ VL a.2 a'.2 N) (d := 0) (Ok2.iff (by rw [hA.sgn hu]) (fun _ => ?_) (fun _ => Ok2.ret hu ⟨rfl, VL.nil _⟩)) fun b b' v v' hv vb _ _ => Ok2.add hv ?_ vb.2.2
    · exact ((arguments_ok2 hA hR hu).bind fun b b' v v' hv vb _ _ => Ok2.ret hv (show (13 : Int) = 13 ∧ VL b b' v.N from ⟨rfl, vb⟩)).mono (by omega)
    · simp [Sh.bare, vb.1, vb.2.1]
theorem tail_ok2 {s s' : Ps} (hs : S2 T s s') : Ok2 T VN 3 (tail T rec) (tail T' rec') s s' := by
  unfold tail
  refine Ok2.iff (hA.sgn hs _) (fun hb => ?_) (fun _ => ?_)
  · refine (Ok2.skip (e := 3 + (0 + 4)) (n := 1) (Ok2.bind (whole_ok2 hR (hs.next (sgn_lt hb))) fun b b' u u' hu vb _ _ => ?_)).mono (by omega)
    exact Ok2.sign hA hu _ fun _ h2 => Ok2.ret h2 vb
  · refine Ok2.mono (d := -1 + 4) ?_ (by omega)
    exact Ok2.sign hA hs _ fun _ h1 => Ok2.add h1 rfl (fun k hk => by cases hk)
theorem list_ok2 {s s' : Ps} (hs : S2 T s s') : Ok2 T VN 3 (list T rec) (list T' rec') s s' := by
  unfold list
  refine Ok2.mono (d := 3 + 4) (Ok2.sign hA hs _ fun _ h1 => Ok2.iff (hA.sgn h1 _) (fun hb => ?_) (fun _ => ?_)) (by omega)
  · refine Ok2.mono (d := -1 + 4 * (1 : Nat)) ?_ (by omega)
    exact Ok2.skip (Ok2.add (h1.next (sgn_lt hb)) rfl (fun k hk => by cases hk))
  · refine Ok2.mono (d := 3 + (3 + -1)) (Ok2.bind (row_ok2 hA (d := 3) (by omega) (fun _ _ h => whole_ok2 hR h) h1) fun b b' u u' hu vb _ _ => ?_) (by omega)
    refine Ok2.bind (tail_ok2 hA hR hu) fun c c' v v' hv vc _ hM => Ok2.add hv ?_ ((vb.up hM).snoc vc).2
    simp [Sh.bare, vb.1, vc.1]
theorem bracketed_ok2 {s s' : Ps} (hs : S2 T s s') : Ok2 T VN 3 (bracketed T rec (tokAt T s.i)) (bracketed T' rec' (tokAt T' s'.i)) s s' := by
  have e := hA.tok s.i
  have ht : (tokAt T s.i).text = (tokAt T' s'.i).text := by rw [← hs.i]; exact e.2.1
  generalize tokAt T s.i = t at ht
  generalize tokAt T' s'.i = t' at ht
  unfold bracketed
  rw [ht]
  split
  · exact ((enclosed_ok2 hA (d := 3) (by omega) (fun _ _ h => whole_ok2 hR h) hs).bind fun b b' u u' hu vb _ _ => Ok2.add hu (by simp [Sh.bare, vb.1]) vb.2).mono (by omega)
  · split
    · exact list_ok2 hA hR hs
    · refine Ok2.mono (d := 3 + (0 + 4) + 4) (Ok2.sign hA hs _ fun _ h1 => Ok2.bind (whole_ok2 hR h1) fun b b' u u' hu vb _ _ => ?_) (by omega)
      exact Ok2.sign hA hu _ fun _ h2 => Ok2.ret h2 vb
theorem after_ok2 {s s' : Ps} (hs : S2 T s s') : Ok2 T VN 3 (after T rec) (after T' rec') s s' := by
  unfold after
  refine (Ok2.word (e := 3 + (2 + -1 + 4)) hA hs _ fun _ h1 => (whole_ok2 hR h1).bind fun b b' u u' hu vb _ _ => Ok2.sign hA hu _ fun _ h2 => (hR .body trivial _ _ h2).bind fun c c' v v' hv vc _ hM => ?_).mono (by omega)
  have vb2 : VN b b' v.N := vb.up hM
  exact Ok2.add hv (by simp [Sh.bare, vb.1, vc.1]) (VL.cons vb2 (VL.one vc)).2
theorem choices_ok2 {s s' : Ps} (hs : S2 T s s') : Ok2 T VL 0 (choices T rec) (choices T' rec') s s' := by
  unfold choices
  refine (Ok2.bind (V := VL) (d := 0) (e := 0) (Ok2.iff (hA.wrd hs _) (fun _ => Ok2.ret hs (VL.nil _)) (fun _ => (row_ok2 hA (d := 1) (by omega) (fun s s' h => hR .clause trivial s s' h) hs).mono (by omega))) fun a a' t t' ht va _ _ => ?_).mono (by omega)
  exact Ok2.iff (hA.wrd ht _) (fun _ => ((after_ok2 hA hR ht).bind fun b b' u u' hu vb _ hM => Ok2.ret hu ((va.up hM).snoc vb)).mono (by omega)) (fun _ => Ok2.ret ht va)
theorem blockKids_ok2 {t t' : Tk} (ht : t.text = t'.text) {s s' : Ps} (hs : S2 T s s') : Ok2 T (fun (a a' : Int × List Int) N => a.1 = a'.1 ∧ VL a.2 a'.2 N) 0 (blockKids T rec t) (blockKids T' rec' t') s s' := by
  unfold blockKids
  rw [ht]
  split
  · exact ((hR .body trivial _ _ hs).bind fun b b' u u' hu vb _ _ => Ok2.ret hu ⟨rfl, VL.one vb⟩).mono (by simp [dOf])
  · split
    · refine ((whole_ok2 hR hs).bind (e := 1 + 0 + 4) fun b b' u u' hu vb _ _ => Ok2.word hA hu _ fun _ h1 => (row_ok2 hA (d := 1) (by omega) (fun s s' h => hR .clause trivial s s' h) h1).bind fun c c' v v' hv vc _ hM => ?_).mono (by omega)
      have vb2 : VN b b' v.N := vb.up hM
      exact Ok2.ret hv ⟨rfl, VL.cons vb2 vc⟩
    · split
      · exact ((choices_ok2 hA hR hs).bind fun b b' u u' hu vb _ _ => Ok2.ret hu ⟨rfl, vb⟩).mono (by omega)
      · refine ((hR .body trivial _ _ hs).bind (e := 1 + 0 + 4) fun b b' u u' hu vb _ _ => Ok2.word hA hu _ fun _ h1 => (row_ok2 hA (d := 1) (by omega) (fun s s' h => hR .cclause trivial s s' h) h1).bind fun c c' v v' hv vc _ hM => ?_).mono (by simp [dOf])
        have vb2 : VN b b' v.N := vb.up hM
        exact Ok2.ret hv ⟨rfl, VL.cons vb2 vc⟩
theorem block_ok2 {s s' : Ps} (hs : S2 T s s') : Ok2 T VN 3 (block T rec (tokAt T s.i)) (block T' rec' (tokAt T' s'.i)) s s' := by
  have e := hA.tok s.i
  have ht : (tokAt T s.i).text = (tokAt T' s'.i).text := by rw [← hs.i]; exact e.2.1
  have hk : (tokAt T s.i).kind = (tokAt T' s'.i).kind := by rw [← hs.i]; exact e.1
  have hb : begins (tokAt T s.i) = begins (tokAt T' s'.i) := by simp [begins, ht, hk]
  unfold block
  refine (Ok2.need (e := 0 + (-1 + 4)) hs hb (fun h => tok_lt (by simp [begins] at h; omega)) fun hl _ => ?_).mono (by omega)
  refine (blockKids_ok2 hA hR ht (hs.next hl)).bind fun b b' u u' hu vb _ _ => Ok2.word hA hu _ fun _ h1 => Ok2.add h1 (by simp [Sh.bare, vb.1, vb.2.1]) vb.2.2
theorem single_ok2 {s s' : Ps} (hs : S2 T s s') : Ok2 T VN 3 (single T rec (tokAt T s.i)) (single T' rec' (tokAt T' s'.i)) s s' := by
  have e := hA.tok s.i
  have ht : (tokAt T s.i).text = (tokAt T' s'.i).text := by rw [← hs.i]; exact e.2.1
  have hn : (tokAt T s.i).num = (tokAt T' s'.i).num := by rw [← hs.i]; exact e.2.2
  have hk : (tokAt T s.i).kind = (tokAt T' s'.i).kind := by rw [← hs.i]; exact e.1
  unfold single
  rw [← hk]
  split
  · rename_i h3
    exact (Ok2.skip (e := -1) (n := 1) (Ok2.add (hs.next (tok_lt (by omega))) (by simp [Sh.bare, hn]) (fun k hk => by cases hk))).mono (by omega)
  · split
    · rename_i h2
      exact (Ok2.skip (e := -1) (n := 1) (Ok2.add (hs.next (tok_lt (by omega))) (by simp [Sh.bare, ht]) (fun k hk => by cases hk))).mono (by omega)
    · split
      · rename_i h1
        exact named_ok2 hA hR hs (tok_lt (by omega))
      · split
        · exact bracketed_ok2 hA hR hs
        · exact block_ok2 hA hR hs
theorem exports_ok2 {s s' : Ps} (hs : S2 T s s') : Ok2 T VL 0 (exports T rec) (exports T' rec') s s' := by
  unfold exports
  refine (Ok2.sign (e := 8 + (0 + 4 + 4) + 4 + 4) hA hs _ fun _ h1 => Ok2.atom hA h1 _ fun _ h2 => Ok2.sign hA h2 _ fun _ h3 => ?_).mono (by omega)
  exact (enclosed_ok2 hA (d := 1) (by omega) (fun s s' h => hR .export trivial s s' h) h3).bind fun b b' u u' hu vb _ _ => Ok2.sign hA hu _ fun _ h4 => Ok2.kind hA h4 (by decide) fun _ h5 => Ok2.ret h5 vb
omit hR in
theorem atModule_alike {s s' : Ps} (hs : S2 T s s') : atModule T s.i = atModule T' s'.i := by
  unfold atModule
  rw [hA.sgn hs]
  congr 1
  exact hA.is hs 1 _ 1
theorem formsL_ok2 : ∀ (f : Nat) (acc acc' : List Int) (s s' : Ps), S2 T s s' → VL acc acc' s.N → Ok2 T VL 0 (formsL T rec f acc) (formsL T' rec' f acc') s s'
  | 0, _, _, _, _, hs, hv => Ok2.ret hs hv
  | f + 1, acc, acc', s, s', hs, hv => by
    unfold formsL
    refine Ok2.iff (by rw [hs.i, hA.len]; have := atModule_alike hA hs; rw [hs.i] at this; rw [this]) (fun _ => ?_) (fun _ => Ok2.ret hs hv)
    refine (Ok2.bind (V := VL) (d := 0) (e := 0) (Ok2.iff (hA.sgn hs _) (fun _ => exports_ok2 hA hR hs) (fun _ => ?_)) fun a a' t t' ht va _ hM => formsL_ok2 f _ _ t t' ht ((hv.up hM).join va)).mono (by omega)
    exact ((hR .function trivial _ _ hs).bind fun b b' u u' hu vb _ _ => Ok2.ret hu (VL.one vb)).mono (by simp [dOf])
theorem phBody_ok2 (ph : Ph) (hp : okPh ph) {s s' : Ps} (hs : S2 T s s') : Ok2 T VN (dOf ph) (phBody T rec ph) (phBody T' rec' ph) s s' := by
  have e := hA.tok s.i
  have ht : (tokAt T s.i).text = (tokAt T' s'.i).text := by rw [← hs.i]; exact e.2.1
  have hn : (tokAt T s.i).num = (tokAt T' s'.i).num := by rw [← hs.i]; exact e.2.2
  have hk : (tokAt T s.i).kind = (tokAt T' s'.i).kind := by rw [← hs.i]; exact e.1
  cases ph with
  | module =>
    unfold phBody
    refine Ok2.mono (d := 0 + -1 + 4 + 4 + 4 + 4 + 4 + 4) (Ok2.sign hA hs _ fun _ h1 => Ok2.atom hA h1 _ fun _ h2 => Ok2.sign hA h2 _ fun _ h3 => Ok2.kind hA h3 (by decide) fun _ h4 => Ok2.sign hA h4 _ fun _ h5 => Ok2.kind hA h5 (by decide) fun _ h6 => ?_) (by simp [dOf])
    rw [← hA.len]
    refine Ok2.bind (formsL_ok2 hA hR _ _ _ _ _ h6 (VL.nil _)) fun b b' u u' hu vb _ _ => Ok2.add hu ?_ vb.2
    have e2 := hA.tok (s.i + 1 + 1 + 1)
    rw [show s'.i = s.i from hs.i.symm]
    simp [Sh.bare, vb.1, e2.2.1]
  | «export» =>
    unfold phBody
    refine Ok2.mono (d := -1 + 4 + 4 + 4) (Ok2.kind hA hs (by decide) fun _ h1 => Ok2.sign hA h1 _ fun _ h2 => Ok2.kind hA h2 (by decide) fun _ h3 => ?_) (by simp [dOf])
    refine Ok2.add h3 ?_ (fun k hk => by cases hk)
    have e2 := hA.tok (s.i + 1 + 1)
    rw [show s'.i = s.i from hs.i.symm]
    simp [Sh.bare, e.2.1, e2.2.2]
  | function =>
    unfold phBody
    refine Ok2.tok ?_
    refine Ok2.mono (d := 1 + (-1 + 4)) (Ok2.bind (row_ok2 hA (d := 1) (by omega) (fun s s' h => hR .fclause trivial s s' h) hs) fun b b' u u' hu vb _ _ => ?_) (by simp [dOf])
    have h1 : nameOf u.N (b.headD 0) = nameOf u'.N (b'.headD 0) := by rw [nameOf_bare, hu.n, ← nameOf_bare, vb.1]
    have h2 : argsOf u.N (b.headD 0) = argsOf u'.N (b'.headD 0) := by rw [argsOf_bare, hu.n, ← argsOf_bare, vb.1]
    refine Ok2.kind hA hu (by decide) fun _ h3 => Ok2.add h3 ?_ vb.2
    simp only [Sh.bare, Sh.mk.injEq]
    exact ⟨trivial, h1, trivial, h2, vb.1, trivial⟩
  | fclause =>
    unfold phBody
    refine Ok2.mono (d := 8 + (-1 + 5) + 4) (Ok2.kind hA hs (by decide) fun _ h1 => Ok2.tok ?_) (by simp [dOf])
    refine Ok2.bind (arguments_ok2 hA hR h1) fun b b' u u' hu vb _ _ => Ok2.bind (Ok2.add hu (by simp [Sh.bare, vb.1]) vb.2) fun c c' v v' hv vc _ _ => ?_
    exact rest_ok2 hA hR (by simp [Sh.bare, ht]) hv vc
  | clause =>
    unfold phBody
    refine Ok2.tok (Ok2.mono (d := 3 + 5) (Ok2.bind (whole_ok2 hR hs) fun c c' v v' hv vc _ _ => ?_) (by simp [dOf]))
    exact rest_ok2 hA hR (by simp [Sh.bare]) hv vc
  | cclause =>
    unfold phBody
    refine Ok2.tok (Ok2.mono (d := 0 + (3 + 5)) ?_ (by simp [dOf]))
    have hc : atClass T s.i = atClass T' s'.i := by
      unfold atClass
      have h1 := hA.is hs 5 ⟨#[58]⟩ 1
      simp only [sgn, isTk, ht, hk] at h1 ⊢
      rw [h1]
    refine Ok2.bind (V := fun a a' _ => a = a') (Ok2.iff hc (fun hb => ?_) (fun _ => Ok2.ret hs rfl)) fun b b' u u' hu vb _ _ => Ok2.bind (whole_ok2 hR hu) fun c c' v v' hv vc _ _ => rest_ok2 hA hR (by simp [Sh.bare, vb]) hv vc
    have hl : s.i + 1 < T.length := sgn_lt (x := ⟨#[58]⟩) (by unfold atClass at hb; simp at hb; exact hb.2)
    refine Ok2.mono (d := 0 + 4 * (2 : Nat)) (Ok2.skip ?_) (by omega)
    exact Ok2.ret (hs.next (by omega)) ht
  | conj =>
    unfold phBody
    refine Ok2.tok (Ok2.mono (d := 3 + -1) (Ok2.bind (row_ok2 hA (d := 3) (by omega) (fun _ _ h => whole_ok2 hR h) hs) fun b b' u u' hu vb _ _ => ?_) (by simp [dOf]))
    exact Ok2.add hu (by simp [Sh.bare, vb.1]) vb.2
  | guard =>
    unfold phBody
    refine Ok2.tok (Ok2.mono (d := 2 + -1) (Ok2.bind (row_ok2 hA (d := 2) (by omega) (fun s s' h => hR .conj trivial s s' h) hs) fun b b' u u' hu vb _ _ => ?_) (by simp [dOf]))
    exact Ok2.add hu (by simp [Sh.bare, vb.1]) vb.2
  | body =>
    unfold phBody
    refine Ok2.tok (Ok2.mono (d := 3 + -1) (Ok2.bind (row_ok2 hA (d := 3) (by omega) (fun _ _ h => whole_ok2 hR h) hs) fun b b' u u' hu vb _ _ => ?_) (by simp [dOf]))
    exact Ok2.add hu (by simp [Sh.bare, vb.1]) vb.2
  | operand =>
    unfold phBody
    refine Ok2.tok ?_
    have hu : isUn (tokAt T s.i) = isUn (tokAt T' s'.i) := by simp [isUn, isTk, ht, hk]
    rw [← hu]
    split
    · rename_i hun
      have hl : s.i < T.length := tok_lt (by simp [isUn, isTk] at hun; omega)
      refine Ok2.mono (d := 3 + -1 + 4 * (1 : Nat)) (Ok2.skip (Ok2.bind (hR .operand trivial _ _ (hs.next hl)) fun b b' u u' hu vb _ _ => ?_)) (by simp [dOf])
      exact Ok2.add hu (by simp [Sh.bare, ht, vb.1]) (VL.one vb).2
    · exact single_ok2 hA hR hs
  | expr l =>
    unfold phBody
    rw [← hA.len]
    exact (Ok2.bind (hR .operand trivial _ _ hs) fun b b' u u' hu vb _ _ => exprL_ok2 hA hR hp _ _ _ _ u u' hu vb).mono (by simp [dOf])
end
theorem runP_ok2 {T T' : List Tk} (hA : Alike T T') : ∀ (f : Nat) (ph : Ph), okPh ph → ∀ (s s' : Ps), S2 T s s' → Ok2 T VN (dOf ph) (runP T f ph) (runP T' f ph) s s'
  | 0, _, _, s, s', hs => .inl ⟨s.i, rfl, by rw [hs.i]; rfl, hs.il⟩
  | f + 1, ph, hp, s, s', hs => phBody_ok2 hA (fun ph hp s s' hs => runP_ok2 hA f ph hp s s' hs) ph hp hs
theorem modsL_ok2 {T T' : List Tk} (hA : Alike T T') (q : Nat) : ∀ (f : Nat) (acc acc' : List Int) (s s' : Ps), S2 T s s' → VL acc acc' s.N → Ok2 T VL 0 (modsL T (runP T q) f acc) (modsL T' (runP T' q) f acc') s s'
  | 0, _, _, _, _, hs, hv => Ok2.ret hs hv
  | f + 1, acc, acc', s, s', hs, hv => by
    unfold modsL
    refine Ok2.iff (by rw [hs.i, hA.len]) (fun _ => ?_) (fun _ => Ok2.ret hs hv)
    exact (Ok2.bind (runP_ok2 hA q .module trivial _ _ hs) fun b b' u u' hu vb _ hM => modsL_ok2 hA q f _ _ u u' hu ((hv.up hM).snoc vb)).mono (by simp [dOf])
theorem programP_ok2 {T T' : List Tk} (hA : Alike T T') (q : Nat) {s s' : Ps} (hs : S2 T s s') : Ok2 T VN 0 (programP T (runP T q)) (programP T' (runP T' q)) s s' := by
  unfold programP
  rw [← hA.len]
  refine Ok2.tok (Ok2.mono (d := 1 + (0 + -1)) (Ok2.bind (runP_ok2 hA q .module trivial _ _ hs) fun b b' u u' hu vb _ _ => Ok2.bind (modsL_ok2 hA q _ _ _ _ _ hu (VL.one vb)) fun c c' v v' hv vc _ _ => ?_) (by omega))
  exact Ok2.add hv (by simp [Sh.bare, vc.1]) vc.2
end Go.Proofs.YtlgkjjbefoeabaaGreatDoor
