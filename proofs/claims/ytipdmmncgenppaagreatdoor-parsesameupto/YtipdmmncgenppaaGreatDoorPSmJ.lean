/-
  The document's layer 11: classify, of lists alone: which classes the nodes so far have.
-/
import Derived.Test.YtipdmmncgenppaaGreatDoorPSmI
import Derived.Test.YtipdmmncgenppaaGreatDoorPSmE
import Derived.Test.YtipdmmncgenppaaGreatDoorPSmF
import Derived.Test.YtipdmmncgenppaaGreatDoorPSmG
namespace Go.Proofs.YtipdmmncgenppaaGreatDoor

abbrev Lb := Option (Int × List UInt8 × List UInt8 × Int)
/-- Forms, as lists. -/
def FA (F : List Nd) : List (Lb × List Nat) := F.map fun f => (some f.lab, f.kids.map Int.toNat)
def cval : Option Nat → Int
  | none => -1
  | some j => j
theorem formB_iff (x f : Nd) : formB x f = true ↔ x.lab = f.lab ∧ x.kids = f.kids := by
  simp only [formB, lookB, Nd.lab, Bool.and_eq_true, decide_eq_true_eq, Prod.mk.injEq]
  constructor
  · rintro ⟨⟨h1, h2, h3, h4, _⟩, h6⟩; exact ⟨⟨h1, h2, h3, h4⟩, h6⟩
  · rintro ⟨⟨h1, h2, h3, h4⟩, h6⟩; exact ⟨⟨h1, h2, h3, h4, by rw [h6]⟩, h6⟩
theorem toNat_inj : ∀ {a b : List Int}, (∀ z ∈ a, 0 ≤ z) → (∀ z ∈ b, 0 ≤ z) → a.map Int.toNat = b.map Int.toNat → a = b
  | [], [], _, _, _ => rfl
  | [], _ :: _, _, _, h => by simp at h
  | _ :: _, [], _, _, h => by simp at h
  | x :: a, y :: b, h1, h2, h => by
    simp only [List.map_cons, List.cons.injEq] at h
    have e1 := h1 x (by simp)
    have e2 := h2 y (by simp)
    rw [toNat_inj (fun z hz => h1 z (by simp [hz])) (fun z hz => h2 z (by simp [hz])) h.2, show x = y by omega]
/-- What is below a node, and its nodes' place in the graph. -/
structure Blw (G : Gr Lb) (off : Nat) (N : List Nd) (root : Nat) (bl : List Int) : Prop where
  lab : ∀ z (h : z < N.length), G.lab (off + z) = some N[z].lab
  kid : ∀ z (h : z < N.length), G.kid (off + z) = N[z].kids.map fun k => off + k.toNat
  low : ∀ z (h : z < N.length), G.low (off + z) = N[z].kids.all (lowB z)
  rise : bl.Pairwise (· < ·)
  has : (root : Int) ∈ bl
  le : ∀ z ∈ bl, 0 ≤ z ∧ z ≤ (root : Int)
  shut : ∀ z (h : z < N.length), (z : Int) ∈ bl → ∀ k ∈ N[z].kids, lowB z k = true → k ∈ bl
  rt : root < N.length
theorem Blw.before {G : Gr Lb} {off : Nat} {N : List Nd} {root : Nat} {bl : List Int} (h : Blw G off N root bl) {i : Nat} (hi : i < bl.length) {k : Int} (hk : k ∈ bl) (hlt : k < bl[i]) : ∃ t, ∃ ht : t < bl.length, t < i ∧ bl[t] = k := by
  obtain ⟨t, ht, e⟩ := List.getElem_of_mem hk
  refine ⟨t, ht, ?_, e⟩
  rcases Nat.lt_trichotomy t i with h1 | h1 | h1
  · exact h1
  · subst h1; omega
  · have := (List.pairwise_iff_getElem.1 h.rise) i t hi ht h1
    omega
/-- The nodes that have been looked at. -/
def Dn (D0 : Nat → Prop) (off : Nat) (bl : List Int) (i : Nat) (x : Nat) : Prop := D0 x ∨ ∃ t, ∃ ht : t < bl.length, t < i ∧ x = off + bl[t].toNat
structure CS (G : Gr Lb) (off : Nat) (D0 : Nat → Prop) (c0 : Nat → Option Nat) (bl : List Int) (B M : Nat) (i : Nat) (c : Nat → Option Nat) (h : List Int) (F : List Nd) : Prop where
  ci : CI G c (FA F) (Dn D0 off bl i)
  nn : ∀ f ∈ F, ∀ z ∈ f.kids, 0 ≤ z
  hv : ∀ t (ht : t < bl.length), t < i → h[bl[t].toNat]? = some (cval (c (off + bl[t].toNat)))
  len : F.length ≤ B + i
  keep : ∀ x, x < off → c x = c0 x
theorem Dn.fresh {G : Gr Lb} {off : Nat} {N : List Nd} {root : Nat} {bl : List Int} {D0 : Nat → Prop} (hB : Blw G off N root bl) (hD : ∀ x, D0 x → x < off) {i z : Nat} (hi : i < bl.length) (hz : bl[i] = (z : Int)) : ¬ Dn D0 off bl i (off + z) := by
  rintro (h | ⟨t, ht, hti, e⟩)
  · have := hD _ h; omega
  · have := (List.pairwise_iff_getElem.1 hB.rise) t i ht hi hti
    have := (hB.le _ (List.getElem_mem ht)).1
    omega
theorem Dn.succ {D0 : Nat → Prop} {off : Nat} {bl : List Int} {i z : Nat} (hi : i < bl.length) (hz : bl[i] = (z : Int)) : Dn D0 off bl (i + 1) = fun x => Dn D0 off bl i x ∨ x = off + z := by
  funext x
  refine propext ⟨?_, ?_⟩
  · rintro (h | ⟨t, ht, hti, e⟩)
    · exact .inl (.inl h)
    · by_cases h1 : t = i
      · subst h1; exact .inr (by rw [e, hz]; simp)
      · exact .inl (.inr ⟨t, ht, by omega, e⟩)
  · rintro ((h | ⟨t, ht, hti, e⟩) | h)
    · exact .inl h
    · exact .inr ⟨t, ht, by omega, e⟩
    · exact .inr ⟨i, hi, by omega, by rw [h, hz]; simp⟩
/-- A kid that is lower has been looked at. -/
theorem CS.kid {G : Gr Lb} {off : Nat} {N : List Nd} {root : Nat} {bl : List Int} {D0 : Nat → Prop} {c0 c : Nat → Option Nat} {B M i z : Nat} {h : List Int} {F : List Nd} (hC : CS G off D0 c0 bl B M i c h F) (hB : Blw G off N root bl) (hi : i < bl.length) (hz : bl[i] = (z : Int)) (hzN : z < N.length) {k : Int} (hk : k ∈ N[z].kids) (hlow : lowB z k = true) :
    Dn D0 off bl i (off + k.toNat) ∧ h[k.toNat]? = some (cval (c (off + k.toNat))) := by
  have h1 := hB.shut z hzN (by rw [← hz]; exact List.getElem_mem hi) k hk hlow
  have h2 : 0 ≤ k ∧ k < (z : Int) := by simpa [lowB] using hlow
  obtain ⟨t, ht, hti, e⟩ := hB.before hi h1 (by rw [hz]; exact h2.2)
  refine ⟨.inr ⟨t, ht, hti, by rw [e]⟩, ?_⟩
  have := hC.hv t ht hti
  rwa [e] at this
theorem CS.hvNext {off : Nat} {bl : List Int} {i z : Nat} {c : Nat → Option Nat} {h : List Int} {v : Option Nat} (hv : ∀ t (ht : t < bl.length), t < i → h[bl[t].toNat]? = some (cval (c (off + bl[t].toNat)))) (hr : bl.Pairwise (· < ·)) (hn : ∀ z ∈ bl, 0 ≤ z) (hi : i < bl.length) (hz : bl[i] = (z : Int)) (hzh : z < h.length) :
    ∀ t (ht : t < bl.length), t < i + 1 → (h.set z (cval v))[bl[t].toNat]? = some (cval (putC c (off + z) v (off + bl[t].toNat))) := by
  intro t ht hti
  by_cases e : t = i
  · subst e
    rw [hz]
    simp [putC, hzh]
  · have h1 := (List.pairwise_iff_getElem.1 hr) t i ht hi (by omega)
    have h2 := hn _ (List.getElem_mem ht)
    rw [List.getElem?_set_ne (by omega), hv t ht (by omega)]
    have : ¬ bl[t].toNat = z := by omega
    simp [putC, this]
section
variable {G : Gr Lb} {off : Nat} {N : List Nd} {root : Nat} {bl : List Int} {D0 : Nat → Prop} {c0 c : Nat → Option Nat} {B M i z : Nat} {h : List Int} {F : List Nd}
theorem CS.bad (hC : CS G off D0 c0 bl B M i c h F) (hB : Blw G off N root bl) (hD : ∀ x, D0 x → x < off) (hi : i < bl.length) (hz : bl[i] = (z : Int)) (hzN : z < N.length) (hzh : z < h.length)
    (hb : ∃ k ∈ N[z].kids, lowB z k = false ∨ (lowB z k = true ∧ c (off + k.toNat) = none)) : CS G off D0 c0 bl B M (i + 1) (putC c (off + z) none) (h.set z (-1)) F := by
  refine ⟨?_, hC.nn, CS.hvNext (v := none) hC.hv hB.rise (fun z hz => (hB.le z hz).1) hi hz hzh, by have := hC.len; omega, fun x hx => ?_⟩
  · rw [Dn.succ hi hz]
    refine hC.ci.bad (Dn.fresh hB hD hi hz) ?_
    obtain ⟨k, hk, h1 | ⟨h1, h2⟩⟩ := hb
    · left
      rw [hB.low z hzN]
      exact Bool.eq_false_iff.2 fun h3 => by rw [List.all_eq_true.1 h3 k hk] at h1; cases h1
    · right
      exact ⟨off + k.toNat, by rw [hB.kid z hzN]; exact List.mem_map.2 ⟨k, hk, rfl⟩, (hC.kid hB hi hz hzN hk h1).1, h2⟩
  · have : ¬ x = off + z := by omega
    simp [putC, this, hC.keep x hx]
/-- All Kids have classes. -/
structure Good (N : List Nd) (z off : Nat) (hz : z < N.length) (c : Nat → Option Nat) (ks : List Int) (k : Nat) : Prop where
  len : ks.length = k
  le : k ≤ N[z].kids.length
  low : ∀ t (h : t < N[z].kids.length), t < k → lowB z N[z].kids[t] = true
  cls : ∀ t (h : t < N[z].kids.length) (h2 : t < ks.length), c (off + N[z].kids[t].toNat) = some ks[t].toNat
  nn : ∀ x ∈ ks, 0 ≤ x
theorem Good.start {hz : z < N.length} : Good N z off hz c [] 0 := ⟨rfl, Nat.zero_le _, fun _ _ h => by omega, fun _ _ h => by simp at h, fun _ h => by cases h⟩
theorem Good.next {hz : z < N.length} {ks : List Int} {k : Nat} (hg : Good N z off hz c ks k) (hk : k < N[z].kids.length) (hl : lowB z N[z].kids[k] = true) {q : Nat} (hc : c (off + N[z].kids[k].toNat) = some q) : Good N z off hz c (ks ++ [(q : Int)]) (k + 1) := by
  have hl0 := hg.len
  refine ⟨by simp [hl0], hk, fun t h1 h2 => ?_, fun t h1 h2 => ?_, fun x hx => ?_⟩
  · by_cases e : t = k
    · subst e; exact hl
    · exact hg.low t h1 (by omega)
  · by_cases e : t < ks.length
    · rw [List.getElem_append_left e]; exact hg.cls t h1 e
    · have e2 : t = ks.length := by simp at h2; omega
      subst e2
      simp only [List.getElem_append_right (Nat.le_refl _), Nat.sub_self, List.getElem_cons_zero, Int.toNat_natCast]
      simp only [hl0]
      exact hc
  · rcases List.mem_append.1 hx with hx | hx
    · exact hg.nn x hx
    · simp at hx; omega
theorem Good.done {hz : z < N.length} {ks : List Int} (hg : Good N z off hz c ks N[z].kids.length) (hB : Blw G off N root bl) : G.low (off + z) = true ∧ (G.kid (off + z)).map c = (ks.map Int.toNat).map some := by
  refine ⟨(hB.low z hz).trans (List.all_eq_true.2 fun k hk => ?_), ?_⟩
  · obtain ⟨t, ht, rfl⟩ := List.getElem_of_mem hk
    exact hg.low t ht ht
  · rw [hB.kid z hz]
    refine List.ext_getElem (by simp [hg.len]) fun t h1 h2 => ?_
    simp only [List.getElem_map]
    exact hg.cls t (by simpa using h1) (by simpa using h2)
theorem FA_get {F : List Nd} {j : Nat} (hj : j < F.length) : (FA F)[j]? = some (some F[j].lab, F[j].kids.map Int.toNat) := by simp [FA, hj]
theorem CS.old (hC : CS G off D0 c0 bl B M i c h F) (hB : Blw G off N root bl) (hD : ∀ x, D0 x → x < off) (hi : i < bl.length) (hz : bl[i] = (z : Int)) (hzN : z < N.length) (hzh : z < h.length) {ks : List Int} (hg : Good N z off hzN c ks N[z].kids.length)
    {f : Nd} (hfl : f.lab = N[z].lab) (hfk : f.kids = ks) {j : Nat} (hj : j < F.length) (he : formB F[j] f = true) : CS G off D0 c0 bl B M (i + 1) (putC c (off + z) (some j)) (h.set z (j : Int)) F := by
  obtain ⟨g1, g2⟩ := hg.done hB
  obtain ⟨e1, e2⟩ := (formB_iff _ _).1 he
  refine ⟨?_, hC.nn, CS.hvNext (v := some j) hC.hv hB.rise (fun z hz => (hB.le z hz).1) hi hz hzh, by have := hC.len; omega, fun x hx => ?_⟩
  · rw [Dn.succ hi hz]
    refine hC.ci.old (Dn.fresh hB hD hi hz) g1 (fun k hk => ?_) g2 (by rw [FA_get hj, hB.lab z hzN, e1, hfl, e2, hfk])
    rw [hB.kid z hzN] at hk
    obtain ⟨q, hq, rfl⟩ := List.mem_map.1 hk
    have hlow : lowB z q = true := by
      rw [hB.low z hzN] at g1
      exact List.all_eq_true.1 g1 q hq
    exact (hC.kid hB hi hz hzN hq hlow).1
  · have : ¬ x = off + z := by omega
    simp [putC, this, hC.keep x hx]
theorem CS.more (hC : CS G off D0 c0 bl B M i c h F) (hB : Blw G off N root bl) (hD : ∀ x, D0 x → x < off) (hi : i < bl.length) (hz : bl[i] = (z : Int)) (hzN : z < N.length) (hzh : z < h.length) {ks : List Int} (hg : Good N z off hzN c ks N[z].kids.length)
    {f : Nd} (hfl : f.lab = N[z].lab) (hfk : f.kids = ks) (he : ∀ j (hj : j < F.length), formB F[j] f = false) : CS G off D0 c0 bl B M (i + 1) (putC c (off + z) (some F.length)) (h.set z (F.length : Int)) (F ++ [f]) := by
  obtain ⟨g1, g2⟩ := hg.done hB
  have hlow : ∀ q ∈ N[z].kids, lowB z q = true := fun q hq => by
    rw [hB.low z hzN] at g1
    exact List.all_eq_true.1 g1 q hq
  have hFA : FA (F ++ [f]) = FA F ++ [(some f.lab, f.kids.map Int.toNat)] := by simp [FA]
  have hnew : CI G c (FA (F ++ [f])) (Dn D0 off bl i) := by
    rw [hFA]
    refine hC.ci.more (fun hm => ?_) (fun q hq => ?_)
    · obtain ⟨x, hx, e⟩ := List.mem_map.1 hm
      obtain ⟨j, hj, rfl⟩ := List.getElem_of_mem hx
      have h1 := he j hj
      simp only [Prod.mk.injEq, Option.some.injEq] at e
      have h2 := (formB_iff F[j] f).2 ⟨e.1, toNat_inj (hC.nn _ hx) (by rw [hfk]; exact hg.nn) e.2⟩
      rw [h1] at h2
      cases h2
    · simp only [hfk] at hq
      obtain ⟨x, hx, rfl⟩ := List.mem_map.1 hq
      obtain ⟨t, ht, rfl⟩ := List.getElem_of_mem hx
      have ht2 : t < N[z].kids.length := by have := hg.len; omega
      have hc := hg.cls t ht2 ht
      have hd := (hC.kid hB hi hz hzN (List.getElem_mem ht2) (hlow _ (List.getElem_mem ht2))).1
      obtain ⟨_, h3, _⟩ := hC.ci.has _ _ hd hc
      exact (List.getElem?_eq_some_iff.1 h3).1
  refine ⟨?_, fun f' hf z hz => ?_, CS.hvNext (v := some F.length) hC.hv hB.rise (fun z hz => (hB.le z hz).1) hi hz hzh, by have := hC.len; simp; omega, fun x hx => ?_⟩
  · rw [Dn.succ hi hz]
    refine hnew.old (Dn.fresh hB hD hi hz) g1 (fun k hk => ?_) g2 (by rw [FA_get (by simp), hB.lab z hzN]; simp [hfl, hfk])
    rw [hB.kid z hzN] at hk
    obtain ⟨q, hq, rfl⟩ := List.mem_map.1 hk
    exact (hC.kid hB hi hz hzN hq (hlow q hq)).1
  · rcases List.mem_append.1 hf with hf | hf
    · exact hC.nn f' hf z hz
    · simp at hf
      subst hf
      exact hg.nn z (by rw [← hfk]; exact hz)
  · have : ¬ x = off + z := by omega
    simp [putC, this, hC.keep x hx]
/-- The root's class. -/
theorem CS.rooted (hC : CS G off D0 c0 bl B M bl.length c h F) (hB : Blw G off N root bl) : Dn D0 off bl bl.length (off + root) ∧ h[root]? = some (cval (c (off + root))) := by
  obtain ⟨t, ht, e⟩ := List.getElem_of_mem hB.has
  have := hC.hv t ht ht
  rw [e] at this
  exact ⟨.inr ⟨t, ht, ht, by rw [e]; simp⟩, by simpa using this⟩
end
end Go.Proofs.YtipdmmncgenppaaGreatDoor
