/-
  Layer 11 (parse), of lists alone: the parser goes on, makes no more nodes than tokens allow, gives each node lower Kids, and looks at no place.
-/
import Derived.Test.YtlgkjjbefoeabaaGreatDoorPG1
namespace Go.Proofs.YtlgkjjbefoeabaaGreatDoor

/-- The same tokens, places aside. -/
structure Alike (T T' : List Tk) : Prop where
  len : T.length = T'.length
  tok : ∀ i, (tokAt T i).kind = (tokAt T' i).kind ∧ (tokAt T i).text = (tokAt T' i).text ∧ (tokAt T i).num = (tokAt T' i).num
def Sh.bare (x : Sh) : Sh := { x with at_ := 0 }
/-- Two parsers that have read the same. -/
structure S2 (T : List Tk) (s s' : Ps) : Prop where
  i : s.i = s'.i
  n : s.N.map Sh.bare = s'.N.map Sh.bare
  il : s.i ≤ T.length
  low : ∀ j (h : j < s.N.length), ∀ k ∈ s.N[j].kids, 0 ≤ k ∧ k < (j : Int)
theorem S2.len {T : List Tk} {s s' : Ps} (h : S2 T s s') : s.N.length = s'.N.length := by simpa using congrArg List.length h.n
/-- What two runs come to. -/
def Ok2 {α : Type} (T : List Tk) (V : α → α → List Sh → Prop) (d : Int) (m m' : PM α) (s s' : Ps) : Prop :=
  (∃ e, m s = .error e ∧ m' s' = .error e ∧ e ≤ T.length) ∨
  ∃ a a' t t', m s = .ok (a, t) ∧ m' s' = .ok (a', t') ∧ S2 T t t' ∧ V a a' t.N ∧ s.i ≤ t.i ∧ ∃ M, t.N = s.N ++ M ∧ (M.length : Int) + d ≤ 4 * ((t.i : Int) - s.i)
theorem Ok2.mono {α : Type} {T : List Tk} {V : α → α → List Sh → Prop} {d d' : Int} {m m' : PM α} {s s' : Ps} (h : Ok2 T V d m m' s s') (hd : d' ≤ d) : Ok2 T V d' m m' s s' := by
  rcases h with h | ⟨a, a', t, t', h1, h2, h3, h4, h5, M, h6, h7⟩
  · exact .inl h
  · exact .inr ⟨a, a', t, t', h1, h2, h3, h4, h5, M, h6, by omega⟩
theorem Ok2.bind {α β : Type} {T : List Tk} {V : α → α → List Sh → Prop} {U : β → β → List Sh → Prop} {d e : Int} {m m' : PM α} {k k' : α → PM β} {s s' : Ps} (h : Ok2 T V d m m' s s')
    (hk : ∀ a a' t t', S2 T t t' → V a a' t.N → s.i ≤ t.i → (∃ M, t.N = s.N ++ M) → Ok2 T U e (k a) (k' a') t t') : Ok2 T U (d + e) (PM.bind m k) (PM.bind m' k') s s' := by
  rcases h with ⟨x, h1, h2, h3⟩ | ⟨a, a', t, t', h1, h2, h3, h4, h5, M, h6, h7⟩
  · exact .inl ⟨x, by simp [PM.bind, h1], by simp [PM.bind, h2], h3⟩
  · rcases hk a a' t t' h3 h4 h5 ⟨M, h6⟩ with ⟨x, g1, g2, g3⟩ | ⟨b, b', u, u', g1, g2, g3, g4, g5, M2, g6, g7⟩
    · exact .inl ⟨x, by simp [PM.bind, h1, g1], by simp [PM.bind, h2, g2], g3⟩
    · exact .inr ⟨b, b', u, u', by simp [PM.bind, h1, g1], by simp [PM.bind, h2, g2], g3, g4, by omega, M ++ M2, by rw [g6, h6, List.append_assoc], by simp; omega⟩
section
variable {T T' : List Tk} {s s' : Ps} {α β : Type} {U : β → β → List Sh → Prop} {e : Int}
theorem Ok2.ret (hs : S2 T s s') {a a' : β} (h : U a a' s.N) : Ok2 T U 0 (PM.ret a) (PM.ret a') s s' := .inr ⟨a, a', s, s', rfl, rfl, hs, h, Nat.le_refl _, [], by simp, by simp⟩
theorem Ok2.tok {k k' : Tk → PM β} (h : Ok2 T U e (k (tokAt T s.i)) (k' (tokAt T' s'.i)) s s') : Ok2 T U e (PM.bind (pTok T) k) (PM.bind (pTok T') k') s s' := h
theorem S2.next (hs : S2 T s s') {n : Nat} (h : s.i + n ≤ T.length) : S2 T ⟨s.i + n, s.N⟩ ⟨s'.i + n, s'.N⟩ := ⟨by simp [hs.i], hs.n, h, hs.low⟩
theorem Ok2.skip {n : Nat} {k k' : Unit → PM β} (h : Ok2 T U e (k ()) (k' ()) ⟨s.i + n, s.N⟩ ⟨s'.i + n, s'.N⟩) : Ok2 T U (e + 4 * n) (PM.bind (pSkip n) k) (PM.bind (pSkip n) k') s s' := by
  rcases h with ⟨x, g1, g2, g3⟩ | ⟨b, b', u, u', g1, g2, g3, g4, g5, M, g6, g7⟩
  · exact .inl ⟨x, g1, g2, g3⟩
  · exact .inr ⟨b, b', u, u', g1, g2, g3, g4, by simp at g5; omega, M, g6, by simp at g5 g7; omega⟩
theorem Ok2.need (hs : S2 T s s') {b b' : Nat → Bool} (hb : b s.i = b' s'.i) (hl : b s.i = true → s.i < T.length) {k k' : Tk → PM β} (h : s.i < T.length → b s.i = true → Ok2 T U e (k (tokAt T s.i)) (k' (tokAt T' s'.i)) ⟨s.i + 1, s.N⟩ ⟨s'.i + 1, s'.N⟩) : Ok2 T U (e + 4) (PM.bind (pNeed T b) k) (PM.bind (pNeed T' b') k') s s' := by
  cases hc : b s.i with
  | false =>
    rw [hc] at hb
    refine .inl ⟨s.i, ?_, ?_, hs.il⟩
    · simp [PM.bind, pNeed, hc]
    · simp [PM.bind, pNeed, ← hb, hs.i]
  | true =>
    rw [hc] at hb
    rcases h (hl hc) hc with ⟨x, g1, g2, g3⟩ | ⟨c, c', u, u', g1, g2, g3, g4, g5, M, g6, g7⟩
    · exact .inl ⟨x, by simpa [PM.bind, pNeed, hc] using g1, by simpa [PM.bind, pNeed, ← hb] using g2, g3⟩
    · exact .inr ⟨c, c', u, u', by simpa [PM.bind, pNeed, hc] using g1, by simpa [PM.bind, pNeed, ← hb] using g2, g3, g4, by simp at g5; omega, M, g6, by simp at g5 g7; omega⟩
theorem Ok2.iff {b b' : Nat → Bool} (hb : b s.i = b' s'.i) {m m' k k' : PM β} (h1 : b s.i = true → Ok2 T U e m m' s s') (h2 : b s.i = false → Ok2 T U e k k' s s') : Ok2 T U e (pIf b m k) (pIf b' m' k') s s' := by
  cases hc : b s.i with
  | true => rw [hc] at hb; have := h1 hc; unfold Ok2 at this ⊢; simpa [pIf, hc, ← hb] using this
  | false => rw [hc] at hb; have := h2 hc; unfold Ok2 at this ⊢; simpa [pIf, hc, ← hb] using this
end
/-- A node's number; nodes' numbers. -/
def VN (a a' : Nat) (N : List Sh) : Prop := a = a' ∧ a < N.length
def VL (l l' : List Int) (N : List Sh) : Prop := l = l' ∧ ∀ k ∈ l, 0 ≤ k ∧ k < (N.length : Int)
theorem VN.up {a a' : Nat} {N N' : List Sh} (h : VN a a' N) (hp : ∃ M, N' = N ++ M) : VN a a' N' := by
  obtain ⟨M, rfl⟩ := hp
  exact ⟨h.1, by simp; have := h.2; omega⟩
theorem VL.up {l l' : List Int} {N N' : List Sh} (h : VL l l' N) (hp : ∃ M, N' = N ++ M) : VL l l' N' := by
  obtain ⟨M, rfl⟩ := hp
  exact ⟨h.1, fun k hk => by have := h.2 k hk; simp; omega⟩
theorem VL.one {a a' : Nat} {N : List Sh} (h : VN a a' N) : VL [(a : Int)] [(a' : Int)] N := ⟨by rw [h.1], fun k hk => by simp at hk; have := h.2; omega⟩
theorem VL.snoc {l l' : List Int} {a a' : Nat} {N : List Sh} (h : VL l l' N) (h2 : VN a a' N) : VL (l ++ [(a : Int)]) (l' ++ [(a' : Int)]) N := ⟨by rw [h.1, h2.1], fun k hk => by
  rcases List.mem_append.1 hk with hk | hk
  · exact h.2 k hk
  · simp at hk; have := h2.2; omega⟩
theorem VL.join {l l' m m' : List Int} {N : List Sh} (h : VL l l' N) (h2 : VL m m' N) : VL (l ++ m) (l' ++ m') N := ⟨by rw [h.1, h2.1], fun k hk => (List.mem_append.1 hk).elim (h.2 k) (h2.2 k)⟩
theorem VL.cons {l l' : List Int} {a a' : Nat} {N : List Sh} (h2 : VN a a' N) (h : VL l l' N) : VL ((a : Int) :: l) ((a' : Int) :: l') N := ⟨by rw [h.1, h2.1], fun k hk => by
  rcases List.mem_cons.1 hk with hk | hk
  · have := h2.2; omega
  · exact h.2 k hk⟩
theorem VL.nil (N : List Sh) : VL [] [] N := ⟨rfl, fun k hk => by cases hk⟩
section
variable {T T' : List Tk} {s s' : Ps}
theorem Ok2.add (hs : S2 T s s') {x x' : Sh} (hx : x.bare = x'.bare) (hk : ∀ k ∈ x.kids, 0 ≤ k ∧ k < (s.N.length : Int)) : Ok2 T VN (-1) (pAdd x) (pAdd x') s s' := by
  refine .inr ⟨s.N.length, s'.N.length, ⟨s.i, s.N ++ [x]⟩, ⟨s'.i, s'.N ++ [x']⟩, rfl, rfl, ⟨hs.i, by simp [hs.n, hx], hs.il, fun j hj k hkj => ?_⟩, ⟨hs.len, by simp⟩, Nat.le_refl _, [x], rfl, by simp⟩
  by_cases h : j < s.N.length
  · rw [List.getElem_append_left h] at hkj
    exact hs.low j h k hkj
  · have e : j = s.N.length := by simp at hj; omega
    subst e
    simp at hkj
    exact hk k hkj
theorem tok_lt {T : List Tk} {i : Nat} (h : (tokAt T i).kind ≠ 0) : i < T.length := by
  by_cases hi : i < T.length
  · exact hi
  · exfalso; apply h; simp [tokAt, zeroTk, hi]
theorem isTk_lt {T : List Tk} {i : Nat} {k : Int} {x : ByteArray} (hk : k ≠ 0) (h : isTk k x (tokAt T i) = true) : i < T.length := by
  refine tok_lt ?_
  simp [isTk] at h
  omega
theorem Alike.is (h : Alike T T') (hs : S2 T s s') (k : Int) (x : ByteArray) (n : Nat) : isTk k x (tokAt T (s.i + n)) = isTk k x (tokAt T' (s'.i + n)) := by
  have e := h.tok (s.i + n)
  rw [← hs.i]
  simp [isTk, e.1, e.2.1]
theorem Alike.sgn (h : Alike T T') (hs : S2 T s s') (x : ByteArray) : sgn T x s.i = sgn T' x s'.i := h.is hs 5 x 0
theorem Alike.wrd (h : Alike T T') (hs : S2 T s s') (x : ByteArray) : wrd T x s.i = wrd T' x s'.i := h.is hs 4 x 0
theorem Alike.atm (h : Alike T T') (hs : S2 T s s') (x : ByteArray) : atm T x s.i = atm T' x s'.i := h.is hs 1 x 0
theorem Alike.knd (h : Alike T T') (hs : S2 T s s') (k : Int) : knd T k s.i = knd T' k s'.i := by
  have e := h.tok s.i
  rw [← hs.i]
  simp [Go.Proofs.YtlgkjjbefoeabaaGreatDoor.knd, e.1]
theorem sgn_lt {T : List Tk} {x : ByteArray} {i : Nat} (h : sgn T x i = true) : i < T.length := isTk_lt (by decide) h
theorem wrd_lt {T : List Tk} {x : ByteArray} {i : Nat} (h : wrd T x i = true) : i < T.length := isTk_lt (by decide) h
theorem atm_lt {T : List Tk} {x : ByteArray} {i : Nat} (h : atm T x i = true) : i < T.length := isTk_lt (by decide) h
theorem knd_lt {T : List Tk} {k : Int} {i : Nat} (hk : k ≠ 0) (h : knd T k i = true) : i < T.length := tok_lt (by simp [knd] at h; omega)
variable {β : Type} {U : β → β → List Sh → Prop} {e : Int}
theorem Ok2.sign (hA : Alike T T') (hs : S2 T s s') (x : ByteArray) {k k' : Tk → PM β} (h : s.i < T.length → S2 T ⟨s.i + 1, s.N⟩ ⟨s'.i + 1, s'.N⟩ → Ok2 T U e (k (tokAt T s.i)) (k' (tokAt T' s'.i)) ⟨s.i + 1, s.N⟩ ⟨s'.i + 1, s'.N⟩) : Ok2 T U (e + 4) (PM.bind (pNeed T (Go.Proofs.YtlgkjjbefoeabaaGreatDoor.sgn T x)) k) (PM.bind (pNeed T' (Go.Proofs.YtlgkjjbefoeabaaGreatDoor.sgn T' x)) k') s s' :=
  Ok2.need hs (hA.sgn hs x) sgn_lt fun hl _ => h hl (hs.next hl)
theorem Ok2.word (hA : Alike T T') (hs : S2 T s s') (x : ByteArray) {k k' : Tk → PM β} (h : s.i < T.length → S2 T ⟨s.i + 1, s.N⟩ ⟨s'.i + 1, s'.N⟩ → Ok2 T U e (k (tokAt T s.i)) (k' (tokAt T' s'.i)) ⟨s.i + 1, s.N⟩ ⟨s'.i + 1, s'.N⟩) : Ok2 T U (e + 4) (PM.bind (pNeed T (Go.Proofs.YtlgkjjbefoeabaaGreatDoor.wrd T x)) k) (PM.bind (pNeed T' (Go.Proofs.YtlgkjjbefoeabaaGreatDoor.wrd T' x)) k') s s' :=
  Ok2.need hs (hA.wrd hs x) wrd_lt fun hl _ => h hl (hs.next hl)
theorem Ok2.atom (hA : Alike T T') (hs : S2 T s s') (x : ByteArray) {k k' : Tk → PM β} (h : s.i < T.length → S2 T ⟨s.i + 1, s.N⟩ ⟨s'.i + 1, s'.N⟩ → Ok2 T U e (k (tokAt T s.i)) (k' (tokAt T' s'.i)) ⟨s.i + 1, s.N⟩ ⟨s'.i + 1, s'.N⟩) : Ok2 T U (e + 4) (PM.bind (pNeed T (Go.Proofs.YtlgkjjbefoeabaaGreatDoor.atm T x)) k) (PM.bind (pNeed T' (Go.Proofs.YtlgkjjbefoeabaaGreatDoor.atm T' x)) k') s s' :=
  Ok2.need hs (hA.atm hs x) atm_lt fun hl _ => h hl (hs.next hl)
theorem Ok2.kind (hA : Alike T T') (hs : S2 T s s') {q : Int} (hq : q ≠ 0) {k k' : Tk → PM β} (h : s.i < T.length → S2 T ⟨s.i + 1, s.N⟩ ⟨s'.i + 1, s'.N⟩ → Ok2 T U e (k (tokAt T s.i)) (k' (tokAt T' s'.i)) ⟨s.i + 1, s.N⟩ ⟨s'.i + 1, s'.N⟩) : Ok2 T U (e + 4) (PM.bind (pNeed T (Go.Proofs.YtlgkjjbefoeabaaGreatDoor.knd T q)) k) (PM.bind (pNeed T' (Go.Proofs.YtlgkjjbefoeabaaGreatDoor.knd T' q)) k') s s' :=
  Ok2.need hs (hA.knd hs q) (knd_lt hq) fun hl _ => h hl (hs.next hl)
end
end Go.Proofs.YtlgkjjbefoeabaaGreatDoor
