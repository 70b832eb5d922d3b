/-
  heddlelaw07.MixChallenges: its walk, given the program's mix and its generators (MGen).
-/
import Derived.Test.YtldpolbgdhgomaaDoorM3
import Derived.Deep.DeepCutAuto
namespace Go.Proofs.YtldpolbgdhgomaaDoor
open Go.RowKit

/-- The program's generators. Gm w gb S s n: in w the generator at block gb has the state s, has told n challenges, and lies in the blocks of S. -/
structure MGen (Gm : World → Nat → (Nat → Prop) → Int → Int → Prop) : Prop where
  lt : ∀ {w : World} {gb : Nat} {S : Nat → Prop} {s n : Int}, Gm w gb S s n → ∀ k, S k → k < w.heap.size
  turned : ∀ {w w' : World} {gb : Nat} {S T : Nat → Prop} {s n : Int}, Gm w gb S s n → Turned T w w' → (∀ k, S k → ¬ T k) → Gm w' gb S s n
  new : ∀ (s : Int) (w : World), U64 s → Calls Tryd.prog 16 #[.int .u64 s] w fun e w' => ∃ gb S, e = .returned (.pointer (some ⟨gb, 0, none⟩)) ∧ Gm w' gb S s 0 ∧ Below w.heap.size w w' ∧ ∀ k, S k → w.heap.size ≤ k
  next : ∀ {w : World} {gb : Nat} {S : Nat → Prop} {s n : Int}, Gm w gb S s n → U64 s → Calls Tryd.prog 17 #[.pointer (some ⟨gb, 0, none⟩)] w fun e w' => ∃ S', e = .returned (.tuple #[.int .u32 (chal (genS s)), .nilIface]) ∧ Gm w' gb S' (genS s) (wrap64 (n + 1)) ∧ Turned S w w' ∧ ∀ k, S' k → S k ∨ w.heap.size ≤ k
  count : ∀ {w : World} {gb : Nat} {S : Nat → Prop} {s n : Int}, Gm w gb S s n → Calls Tryd.prog 19 #[.pointer (some ⟨gb, 0, none⟩)] w fun e w' => e = .returned (.int .i64 n) ∧ Below w.heap.size w w'

/-- Three generators in one state, apart. -/
structure Three (Gm : World → Nat → (Nat → Prop) → Int → Int → Prop) (w wr : World) (gb hb rg : Nat) (Sg Sh : Nat → Prop) (s n : Int) : Prop where
  g : Gm wr gb Sg s n
  h : Gm wr hb Sh s n
  r : GenAt wr rg s n
  u : U64 s
  gh : ∀ k, Sg k → ¬ Sh k
  gr : ¬ Sg rg
  hr : ¬ Sh rg
  lg : ∀ k, Sg k → w.heap.size ≤ k
  lh : ∀ k, Sh k → w.heap.size ≤ k
  lr : w.heap.size ≤ rg
  below : Below w.heap.size w wr

set_option maxRecDepth 100000 in
set_option maxHeartbeats 3200000 in
theorem challenges_any {Gm : World → Nat → (Nat → Prop) → Int → Int → Prop} (I : MImpl) (G : MGen Gm) (s : Int) (hs : U64 s) (n : Nat) (hn : n < 65536) (w : World) (htb : Tb w) :
    Calls Tryd.prog 6 #[.int .u64 s, .int .u16 n] w fun ev w' => ev = .returned (.bool true) ∧ Below w.heap.size w w' := by
  go_enter Tryd.func6, Tryd.ntmps6
  go_wp2_with fail
  refine (G.new s w hs).mono ?_
  rintro ev w1 ⟨gb, Sg, rfl, hg1, hb1, hS1⟩
  have H1 : Hid (Gm w1 gb Sg s 0 ∧ Below w.heap.size w w1 ∧ ∀ k, Sg k → w.heap.size ≤ k) := ⟨hg1, hb1, hS1⟩
  clear hg1 hb1 hS1
  go_wp2_with fail
  refine (G.new s w1 hs).mono ?_
  rintro ev w2 ⟨hb, Sh, rfl, hh2, hb2, hS2⟩
  have H2 : Hid (∀ o : Obj, o = .cells #[.int .u64 s, .int .i64 0] 46 → Three Gm w (w2.alloc o) gb hb w2.heap.size Sg Sh s 0) := fun o ho => by
    obtain ⟨hg1, hb1, hS1⟩ := H1.out
    have T2 : Turned (fun _ => False) w1 w2 := Turned.ofBelow hb2
    have Ta := alloc0m w2 o
    have hg2 := G.turned hg1 T2 (fun _ _ h => h)
    refine ⟨G.turned hg2 Ta (fun _ _ h => h), G.turned hh2 Ta (fun _ _ h => h), ?_, hs, fun k h1 h2 => by have := G.lt hg1 k h1; have := hS2 k h2; omega, fun h => by have := G.lt hg2 _ h; omega, fun h => by have := G.lt hh2 _ h; omega, hS1, fun k hk => by have := hS2 k hk; have := hb1.size; omega, by have := hb1.size; have := hb2.size; omega, (hb1.trans (hb2.mono hb1.size)).alloc (by have := hb1.size; have := hb2.size; omega) _⟩
    subst ho
    intro j hj
    refine ⟨?_, by rw [World.frozen?_alloc_new]⟩
    have : j = 0 ∨ j = 1 := by omega
    rcases this with rfl | rfl <;> simp
  clear hh2 hb2 hS2
  go_wp2_with fail
  go_loopw [8] (fun ii wr => ∃ j : Nat, ii = .int .i64 j ∧ (j : Int) ≤ (n : Int) % 2000 ∧ ∃ (Sg Sh : Nat → Prop) (x c : Int), Three Gm w wr gb hb w2.heap.size Sg Sh x c) (fun ii _ => 2000 - (intOf ii).toNat)
  case atStart => exact ⟨0, rfl, by omega, Sg, Sh, s, 0, H2.out _ rfl⟩
  case round =>
    obtain ⟨j, rfl, hj, Sg, Sh, x, c, H⟩ := hrel
    have HH : Hid (Three Gm w wr gb hb w2.heap.size Sg Sh x c) := H
    by_cases hlt : (j : Int) < (n : Int) % 2000
    · have hng := G.next H.g H.u
      clear H H1 H2
      go_wp2_with fail
      refine hng.mono ?_
      rintro ev wa ⟨Sa, rfl, hga, Ta, hSa⟩
      have hha := G.turned HH.out.h Ta (fun k hk hs => HH.out.gh k hs hk)
      have hnh := G.next hha HH.out.u
      have HA : Hid (Gm wa gb Sa (genS x) (wrap64 (c + 1)) ∧ Turned Sg wr wa ∧ (∀ k, Sa k → Sg k ∨ wr.heap.size ≤ k) ∧ Gm wa hb Sh x c) := ⟨hga, Ta, hSa, hha⟩
      clear hga Ta hSa hha hng
      go_wp2_with fail
      refine hnh.mono ?_
      rintro ev wb ⟨Sb, rfl, hhb, Tb, hSb⟩
      obtain ⟨hga, Ta, hSa, hha⟩ := HA.out
      have hza := Ta.size
      have hSaSh : ∀ k, Sa k → ¬ Sh k := fun k hk hs => (hSa k hk).elim (fun h => HH.out.gh k h hs) (fun h => by have := G.lt HH.out.h k hs; omega)
      have hgb : Gm wb gb Sa (genS x) (wrap64 (c + 1)) := G.turned hga Tb hSaSh
      have hrb : GenAt wb w2.heap.size x c := (HH.out.r.turned Ta HH.out.gr).turned Tb HH.out.hr
      have hnr := ref_gen hrb
      have hrlt : w2.heap.size < wr.heap.size := Block.lt HH.out.r (by omega)
      have HB : Hid (Gm wb gb Sa (genS x) (wrap64 (c + 1)) ∧ Gm wb hb Sb (genS x) (wrap64 (c + 1)) ∧ Turned Sg wr wa ∧ Turned Sh wa wb ∧ (∀ k, Sa k → Sg k ∨ wr.heap.size ≤ k) ∧ (∀ k, Sb k → Sh k ∨ wa.heap.size ≤ k) ∧ w2.heap.size < wr.heap.size ∧ (∀ k, Sa k → k < wa.heap.size) ∧ ∀ k, Sa k → ¬ Sh k) := ⟨hgb, hhb, Ta, Tb, hSa, hSb, hrlt, G.lt hga, hSaSh⟩
      clear hga Ta hSa hha hza hSaSh hgb hrb hrlt hhb Tb hSb hnh HA
      go_wp2_with fail
      refine hnr.mono ?_
      rintro ev wc ⟨rfl, hrc, Tc⟩
      obtain ⟨hgb, hhb, Ta, Tb, hSa, hSb, hrlt, hal, hSaSh⟩ := HB.out
      have hz1 := Ta.size
      have hz2 := Tb.size
      have hSar : ¬ Sa w2.heap.size := fun h => (hSa _ h).elim HH.out.gr (fun h => by omega)
      have hSbr : ¬ Sb w2.heap.size := fun h => (hSb _ h).elim HH.out.hr (fun h => by omega)
      have hN : Three Gm w wc gb hb w2.heap.size Sa Sb (genS x) (wrap64 (c + 1)) := by
        have B1 := HH.out.below.trans (Ta.below HH.out.below.size HH.out.lg)
        have B2 := B1.trans (Tb.below B1.size HH.out.lh)
        exact ⟨G.turned hgb Tc (fun k hk (h : k = _) => hSar (h ▸ hk)), G.turned hhb Tc (fun k hk (h : k = _) => hSbr (h ▸ hk)), hrc, U64.mod _, fun k h1 h2 => (hSb k h2).elim (hSaSh k h1) (fun h => by have := hal k h1; omega), hSar, hSbr, fun k hk => (hSa k hk).elim (HH.out.lg k) (fun h => by have := HH.out.below.size; omega), fun k hk => (hSb k hk).elim (HH.out.lh k) (fun h => by have := HH.out.below.size; omega), HH.out.lr, B2.trans (Tc.below B2.size (fun k (h : k = _) => h ▸ HH.out.lr))⟩
      have HN : Hid (Three Gm w wc gb hb w2.heap.size Sa Sb (genS x) (wrap64 (c + 1))) := hN
      have kN := (hN.r 1 (by omega)).1
      simp at kN
      have hct := G.count (G.turned hN.g (Turned.drew (fun _ => False) wc) (fun _ _ h => h))
      clear hgb hhb Ta Tb hSa hSb hrlt hal hSaSh hz1 hz2 hSar hSbr hN hrc Tc HB hnr
      generalize wrap64 (c + 1) = c1 at HN kN hct
      generalize chal (genS x) = ch
      have hr2 : w2.heap.size < wc.heap.size := World.block_lt_of_cell? wc _ kN
      go_wp2_with fail
      go_region_held3 (fun w' => w'.cell? ⟨w2.heap.size, 1, none⟩ = some (.int .i64 c1))
        (go_keep)
        (first
          | (go_at_call 19; refine hct.mono ?_; rintro ev wd ⟨rfl, hbd⟩; have sd : wd.cell? ⟨w2.heap.size, 1, none⟩ = some (.int .i64 c1) := (hbd.cell (p := ⟨w2.heap.size, 1, none⟩) hr2).trans kN; have HD : Hid (Below wc.heap.size wc wd) := ((Below.refl wc.heap.size wc).drew).trans hbd; clear hbd))
      all_goals
        go_wp2
        refine ⟨⟨j + 1, by simp, by omega, Sa, Sb, genS x, c1, ?_⟩, by simp [intOf]; omega⟩
        have H := HN.out
        have T : Turned (fun _ => False) wc wd := Turned.ofBelow HD.out
        exact ⟨G.turned H.g T (fun _ _ h => h), G.turned H.h T (fun _ _ h => h), H.r.turned T (fun h => h), H.u, H.gh, H.gr, H.hr, H.lg, H.lh, H.lr, H.below.trans (HD.out.mono H.below.size)⟩
    · have hB := H.below
      have HB : Hid (Below w.heap.size w wr) := hB
      clear H hB H1 H2
      go_wp2_with fail
      refine (alive_any I wr (htb.below HB.out)).mono ?_
      rintro ev w3 ⟨rfl, hb3⟩
      go_wp2
      go_ret
      exact ⟨rfl, HB.out.trans (hb3.mono HB.out.size)⟩
end Go.Proofs.YtldpolbgdhgomaaDoor
