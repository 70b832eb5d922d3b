/-
  Layer 8 (shake), of lists alone: two that may meet; what brings a side up.
-/
import Derived.Test.YtmnibmgbicnamaaGreatDoorSPure
namespace Go.Proofs.YtmnibmgbicnamaaGreatDoor
open Go.RowKit

theorem z32 : (0 : Int) ≤ 0 ∧ (0 : Int) < 4294967296 := by decide
theorem z64 : U64 0 := ⟨by decide, by decide⟩
/-- A node's numbers are such. -/
structure Pr.Ok (p : Pr) : Prop where
  flags : U64 p.flags
  creation : 0 ≤ p.creation ∧ p.creation < 4294967296
/-- A side's numbers are such. -/
structure Sd.Ok (s : Sd) : Prop where
  lo : 1 ≤ s.state
  hi : s.state ≤ 8
  peer : s.peer.Ok
  me : s.me.Ok
  num : s.challenge < 4294967296
  live : s.state ≠ 7 → s.state ≠ 8 → cookieErr s.cookie = none
theorem Pr.Ok.zero : Pr.zero.Ok := ⟨⟨by decide, by decide⟩, by decide, by decide⟩
theorem Sd.Ok.dead {s : Sd} (h : s.Ok) : s.dead.Ok := ⟨by simp [Sd.dead], by simp [Sd.dead], .zero, h.me, h.num, fun _ h8 => absurd rfl h8⟩
theorem Sd.Ok.took {s : Sd} (h : s.Ok) (h8 : s.state ≠ 8) (h7 : s.state ≠ 7) {m : Msg} (hm : m.Ok) : (s.took m).2.1.Ok := by
  have hl := h.live h7 h8
  have hp : Pr.Ok ⟨m.name, m.flags, m.creation⟩ := ⟨hm.flags, hm.creation⟩
  unfold Sd.took
  split
  · split
    · exact ⟨by simp, by simp, h.peer, h.me, h.num, fun _ _ => hl⟩
    · exact h
  · split
    · split
      · exact ⟨by simp, by simp, hp, h.me, h.num, fun _ _ => hl⟩
      · exact h
    · split
      · exact ⟨by simp, by simp, hp, h.me, h.num, fun _ _ => hl⟩
      · split
        · exact ⟨by simp, by simp, h.peer, h.me, h.num, fun h7 _ => absurd rfl h7⟩
        · exact h
theorem Msg.Ok.zero : Msg.zero.Ok := ⟨⟨by decide, by decide⟩, by decide, by decide, fun z hz => by cases hz⟩
theorem read_zero (k : Int) (b : List Int) : (readOf k b).1 = [] ∨ (readOf k b).2 = .zero := by
  unfold readOf
  repeat' split
  all_goals first
    | exact .inr rfl
    | exact .inl rfl
theorem read_ok (k : Int) (b : List Int) (hr : ∀ z ∈ b, 0 ≤ z ∧ z < 256) : (readOf k b).2.Ok := by
  rcases read_zero k b with h | h
  · exact (write_read k b hr h).2.2.2.1
  · rw [h]; exact .zero
theorem Sd.Ok.take {s : Sd} (h : s.Ok) {b : List Int} (hr : ∀ z ∈ b, 0 ≤ z ∧ z < 256) : (s.take b).2.1.Ok := by
  unfold Sd.take
  split
  · exact h
  · rename_i h8
    split
    · exact h
    · rename_i h7
      split
      · exact h.dead
      · split
        · exact h.took h8 (fun e => h7 (.inl e)) (read_ok _ _ hr)
        · exact h.dead
theorem Sd.Ok.answer {s : Sd} (h : s.Ok) (st : ByteArray) : (s.answer st).2.1.Ok := by
  unfold Sd.answer
  split
  · exact h
  · rename_i h8
    split
    · exact h
    · rename_i h5
      have h5 : s.state = 5 := by omega
      split
      · exact h
      · split
        · exact ⟨by simp, by simp, h.peer, h.me, h.num, fun _ _ => h.live (by omega) h8⟩
        · exact h.dead

/-- What is kept. -/
theorem took_keeps (s : Sd) (m : Msg) : (s.took m).2.1.cookie = s.cookie ∧ (s.took m).2.1.challenge = s.challenge := by
  unfold Sd.took
  repeat' split
  all_goals exact ⟨rfl, rfl⟩
theorem take_keeps (s : Sd) (b : List Int) : (s.take b).2.1.cookie = s.cookie ∧ (s.take b).2.1.challenge = s.challenge := by
  unfold Sd.take
  repeat' split
  · exact ⟨rfl, rfl⟩
  · exact ⟨rfl, rfl⟩
  · exact ⟨rfl, rfl⟩
  · exact took_keeps _ _
  · exact ⟨rfl, rfl⟩
theorem answer_keeps (s : Sd) (st : ByteArray) : (s.answer st).2.1.cookie = s.cookie ∧ (s.answer st).2.1.challenge = s.challenge := by
  unfold Sd.answer
  repeat' split
  all_goals exact ⟨rfl, rfl⟩
theorem took_few (s : Sd) (m : Msg) : (s.took m).2.2.length ≤ 1 := by
  unfold Sd.took
  repeat' split
  all_goals simp
theorem take_few (s : Sd) (b : List Int) : (s.take b).2.2.length ≤ 1 := by
  unfold Sd.take
  repeat' split
  · simp
  · simp
  · simp
  · simpa using took_few _ _
  · simp
theorem answer_few (s : Sd) (st : ByteArray) : (s.answer st).2.2.length ≤ 2 := by
  unfold Sd.answer
  repeat' split
  all_goals simp
theorem answer_up (s : Sd) (st : ByteArray) (h : (s.answer st).2.1.state = 7) : s.state = 7 := by
  unfold Sd.answer at h
  repeat' split at h
  all_goals first
    | exact h
    | (simp [Sd.dead] at h)
theorem took_up (s : Sd) (m : Msg) (h7 : s.state ≠ 7) (h : (s.took m).2.1.state = 7) : m.kind ≠ 1 ∧ m.kind ≠ 2 ∧ m.kind ≠ 3 ∧ m.digest = digestOf s.cookie s.challenge := by
  unfold Sd.took at h
  repeat' split at h
  all_goals first
    | exact absurd h h7
    | (simp at h; done)
    | exact ⟨by assumption, by assumption, by assumption, by assumption⟩
/-- What a read message's digest is. -/
theorem read_digest (k : Int) (b : List Int) (h : (readOf k b).1 = []) (hk : k = 4 ∨ k = 5) : 17 ≤ b.length ∧ (readOf k b).2.digest = b.drop (b.length - 16) := by
  have hk0 : ¬ (k < 1 ∨ 5 < k) := by omega
  unfold readOf at h ⊢
  rw [if_neg hk0] at h ⊢
  split at h
  · cases h
  rename_i h0
  rw [if_neg h0, if_neg (by omega)]
  rw [if_neg (by omega)] at h
  split at h
  · cases h
  rename_i h1
  rw [if_neg h1]
  split at h
  · cases h
  rename_i h2
  rw [if_neg h2]
  split at h
  · cases h
  rename_i h3
  rw [if_neg h3]
  rcases hk with rfl | rfl
  · have e : endOf 4 b = 21 := rfl
    rw [e] at h2 h3
    have hl : b.length = 21 := by omega
    rw [if_pos rfl, hl]
    exact ⟨by omega, rfl⟩
  · have e : endOf 5 b = 17 := rfl
    rw [e] at h2 h3
    have hl : b.length = 17 := by omega
    rw [if_neg (by omega), if_pos rfl, hl]
    exact ⟨by omega, rfl⟩
theorem take_up (s : Sd) (b : List Int) (hr : ∀ z ∈ b, 0 ≤ z ∧ z < 256) (hs : s.Ok) (h7 : s.state ≠ 7) (h : (s.take b).2.1.state = 7) : (s.state = 3 ∨ s.state = 6) ∧ 17 ≤ b.length ∧ b.drop (b.length - 16) = digestOf s.cookie s.challenge := by
  unfold Sd.take at h
  split at h
  · exact absurd h h7
  rename_i h8
  split at h
  · exact absurd h h7
  rename_i h5
  split at h
  · simp [Sd.dead] at h
  rename_i hrd
  split at h
  · have hrd : (readOf s.kind b).1 = [] := by simpa using hrd
    have hm := took_up s _ h7 h
    have hk := (write_read s.kind b hr hrd).2.2.2.2
    rw [hk] at hm
    have hlo := hs.lo
    have hhi := hs.hi
    have hst : (s.state = 3 ∨ s.state = 6) ∧ (s.kind = 4 ∨ s.kind = 5) := by
      obtain ⟨m1, m2, m3, _⟩ := hm
      unfold Sd.kind at m1 m2 m3 ⊢
      repeat' split
      all_goals simp_all
      all_goals omega
    have hd := read_digest s.kind b hrd hst.2
    exact ⟨hst.1, hd.1, by rw [← hd.2]; exact hm.2.2.2⟩
  · simp [Sd.dead] at h

/-- Messages taken one after the other, and all that is to be sent. -/
def takesA : Sd → List (List Int) → List (List Int) → Sd × List (List Int)
  | s, acc, [] => (s, acc)
  | s, acc, b :: r => takesA (s.take b).2.1 (acc ++ (s.take b).2.2) r
def metRounds : Nat → Sd → Sd → List (List Int) → Sd × Sd × List (List Int)
  | 0, x, y, l => (x, y, l)
  | n + 1, x, y, l => metRounds n (takesA x [] l).1 (takesA y [] (takesA x [] l).2).1 (takesA y [] (takesA x [] l).2).2
theorem takesA_few : ∀ (l : List (List Int)) (s : Sd) (acc : List (List Int)), (takesA s acc l).2.length ≤ acc.length + l.length
  | [], s, acc => by simp [takesA]
  | b :: r, s, acc => by
    have h := takesA_few r (s.take b).2.1 (acc ++ (s.take b).2.2)
    have := take_few s b
    simp only [takesA, List.length_append, List.length_cons] at h ⊢
    omega

theorem writeOf_ok {m : Msg} (hf : fits m) (hn : (m.kind = 1 ∨ m.kind = 3) → nodeOk m.name = true) : writeOf m = bytesOfMsg m := by
  unfold writeOf
  rw [if_neg (by simpa using hf), if_neg (fun h => by rw [hn h.1] at h; exact absurd h.2 (by decide))]
theorem take_msg (s : Sd) (m : Msg) (hm : m.Ok) (hf : fits m) (hn : (m.kind = 1 ∨ m.kind = 3) → nodeOk m.name = true) (hk : s.kind = m.kind) (h8 : s.state ≠ 8) (h7 : ¬ (s.state = 7 ∨ s.state = 5)) :
    s.take (writeOf m) = if (s.took m).1 = 0 then ([], (s.took m).2.1, (s.took m).2.2.map writeOf) else (sh 0 (s.took m).1, s.dead, []) := by
  unfold Sd.take
  rw [if_neg h8, if_neg h7, writeOf_ok hf hn, hk, read_write m hm hf hn]
  simp
/-- What a side's making asks. -/
theorem made_none {me : Pr} {peer : ByteArray} {begins : Bool} {cookie : ByteArray} (h : madeErr me peer begins cookie = []) : nodeOk me.name = true ∧ (begins = true → nodeOk peer = true ∧ peer ≠ me.name) ∧ lacksB me.flags = false ∧ me.creation ≠ 0 ∧ cookieErr cookie = none := by
  unfold madeErr at h
  split at h
  · cases h
  rename_i h1
  split at h
  · cases h
  rename_i h2
  split at h
  · cases h
  rename_i h3
  split at h
  · cases h
  rename_i h4
  split at h
  · cases h
  rename_i h5
  split at h
  · cases h
  rename_i h6
  refine ⟨by simpa using h1, fun hb => ⟨?_, fun e => h5 ⟨hb, e⟩⟩, by simpa using h3, h4, h6⟩
  have := fun e => h2 ⟨hb, e⟩
  simpa using this

/-- Both sides at the end. -/
def metAll (a b : Pr) (c0 c1 : ByteArray) (n0 n1 : Nat) : Sd × Sd × List (List Int) :=
  metRounds 4 (madeOf 1 a b.name c0 n0) ((((madeOf 4 b ⟨#[]⟩ c1 n1).take (writeOf (nameMsg a))).2.1.answer stOk).2.1) ((((madeOf 4 b ⟨#[]⟩ c1 n1).take (writeOf (nameMsg a))).2.1.answer stOk).2.2)
theorem met_e1 (a b : Pr) (c1 : ByteArray) (n1 : Nat) (ha : a.Ok) (a1 : nodeOk a.name = true) : (madeOf 4 b ⟨#[]⟩ c1 n1).take (writeOf (nameMsg a)) = ([], ⟨5, a, false, b, ⟨#[]⟩, c1, n1⟩, []) := by
  rw [take_msg _ _ ⟨ha.flags, ha.creation, z32, fun z hz => by cases hz⟩ ⟨.inl rfl, .inr (.inr rfl), by simp [nameMsg, Msg.zero]; rfl, by simp [nameMsg, Msg.zero]⟩ (fun _ => a1) (by simp [Sd.kind, madeOf, nameMsg]) (by simp [madeOf]) (by simp [madeOf])]
  simp [Sd.took, nameMsg, madeOf, Msg.zero]
theorem met_e2 (a b : Pr) (c1 : ByteArray) (n1 : Nat) (a3 : lacksB a.flags = false) (a4 : a.creation ≠ 0) (a2 : b.name ≠ a.name) : (⟨5, a, false, b, ⟨#[]⟩, c1, n1⟩ : Sd).answer stOk = ([], ⟨6, a, false, b, ⟨#[]⟩, c1, n1⟩, [writeOf (statusMsg stOk), writeOf { Msg.zero with kind := 3, flags := b.flags, challenge := n1, creation := b.creation, name := b.name }]) := by
  have hst : (⟨5, a, false, b, ⟨#[]⟩, c1, n1⟩ : Sd).statusFor stOk = stOk := by
    unfold Sd.statusFor
    rw [if_neg (by simp [a3, a4]; exact fun h => a2 h.symm)]
  have hk : isSt stOk = true := by decide
  have hne : decide (stOk = stSim) = false := by decide
  unfold Sd.answer
  rw [hst]
  simp [hk, hne, Sd.challengeMsg]
theorem met_e3 (a : Pr) (bn c0 : ByteArray) (n0 : Nat) : (madeOf 1 a bn c0 n0).take (writeOf (statusMsg stOk)) = ([], ⟨2, .zero, false, a, bn, c0, n0⟩, []) := by
  rw [take_msg _ _ ⟨z64, z32, z32, fun z hz => by cases hz⟩ ⟨.inr (.inr ⟨rfl, rfl, rfl⟩), .inr (.inr rfl), by simp [statusMsg]; decide, by simp [statusMsg, Msg.zero]⟩ (fun h => by simp [statusMsg] at h) (by simp [Sd.kind, madeOf, statusMsg]) (by simp [madeOf]) (by simp [madeOf])]
  simp [Sd.took, statusMsg, madeOf]
  decide
theorem met_e4 (a b : Pr) (c0 : ByteArray) (n0 n1 : Nat) (hn1 : n1 < 4294967296) (hb : b.Ok) (b1 : nodeOk b.name = true) (b3 : lacksB b.flags = false) : (⟨2, .zero, false, a, b.name, c0, n0⟩ : Sd).take (writeOf { Msg.zero with kind := 3, flags := b.flags, challenge := n1, creation := b.creation, name := b.name }) = ([], ⟨3, b, false, a, b.name, c0, n0⟩, [writeOf { Msg.zero with kind := 4, challenge := n0, digest := digestOf c0 n1 }]) := by
  rw [take_msg _ _ ⟨hb.flags, hb.creation, ⟨by simp only []; omega, by simp only []; omega⟩, fun z hz => by cases hz⟩ ⟨.inr (.inl rfl), .inl rfl, by simp [Msg.zero]; rfl, by simp [Msg.zero]⟩ (fun _ => b1) (by simp [Sd.kind]) (by simp) (by simp)]
  simp [Sd.took, b3]
theorem fits_k4 (m : Int) (d : List Int) (hd : d.length = 16) : fits { Msg.zero with kind := 4, challenge := m, digest := d } := ⟨.inr (.inr ⟨rfl, rfl, rfl⟩), .inr (.inl rfl), by simp [Msg.zero]; rfl, by simp [hd]⟩
theorem fits_k5 (d : List Int) (hd : d.length = 16) : fits { Msg.zero with kind := 5, digest := d } := ⟨.inr (.inr ⟨rfl, rfl, rfl⟩), .inr (.inr rfl), by simp [Msg.zero]; rfl, by simp [hd]⟩
theorem met_er (a b : Pr) (c1 : ByteArray) (n1 m : Nat) (hm : m < 4294967296) (d : List Int) (hd16 : d.length = 16) (hr : ∀ z ∈ d, 0 ≤ z ∧ z < 256) : (⟨6, a, false, b, ⟨#[]⟩, c1, n1⟩ : Sd).take (writeOf { Msg.zero with kind := 4, challenge := m, digest := d }) = if d = digestOf c1 n1 then ([], ⟨7, a, false, b, ⟨#[]⟩, c1, n1⟩, [writeOf { Msg.zero with kind := 5, digest := digestOf c1 m }]) else (sh 0 163, ⟨8, .zero, false, b, ⟨#[]⟩, c1, n1⟩, []) := by
  rw [take_msg _ _ ⟨z64, z32, ⟨by simp only []; omega, by simp only []; omega⟩, hr⟩ (fits_k4 m d hd16) (fun h => by simp at h) (by simp [Sd.kind]) (by simp) (by simp)]
  by_cases hd : d = digestOf c1 n1
  · simp [Sd.took, hd]
  · simp [Sd.took, hd, Sd.dead]
theorem met_ea (a b : Pr) (c0 : ByteArray) (n0 : Nat) (d : List Int) (hd16 : d.length = 16) (hr : ∀ z ∈ d, 0 ≤ z ∧ z < 256) : (⟨3, b, false, a, b.name, c0, n0⟩ : Sd).take (writeOf { Msg.zero with kind := 5, digest := d }) = if d = digestOf c0 n0 then ([], ⟨7, b, false, a, b.name, c0, n0⟩, []) else (sh 0 163, ⟨8, .zero, false, a, b.name, c0, n0⟩, []) := by
  rw [take_msg _ _ ⟨z64, z32, z32, hr⟩ (fits_k5 d hd16) (fun h => by simp at h) (by simp [Sd.kind]) (by simp) (by simp)]
  by_cases hd : d = digestOf c0 n0
  · simp [Sd.took, hd]
  · simp [Sd.took, hd, Sd.dead]
theorem rounds_none : ∀ (n : Nat) (x y : Sd), metRounds n x y [] = (x, y, [])
  | 0, _, _ => rfl
  | n + 1, x, y => rounds_none n x y
theorem rounds_step (n : Nat) {x y x' y' : Sd} {l l' l'' : List (List Int)} (hx : takesA x [] l = (x', l')) (hy : takesA y [] l' = (y', l'')) : metRounds (n + 1) x y l = metRounds n x' y' l'' := by
  rw [metRounds, hx]
  simp only
  rw [hy]
theorem takes_one {s s' : Sd} {b : List Int} {e : List Lnk} {o : List (List Int)} (h : s.take b = (e, s', o)) : takesA s [] [b] = (s', o) := by
  simp only [takesA, h, List.nil_append]
theorem takes_two {s s' s'' : Sd} {b c : List Int} {e e' : List Lnk} {o : List (List Int)} (h : s.take b = (e, s', [])) (h' : s'.take c = (e', s'', o)) : takesA s [] [b, c] = (s'', o) := by
  simp only [takesA, h, h', List.nil_append]
theorem met_told (a b : Pr) (c0 c1 : ByteArray) (n0 n1 : Nat) (ha : a.Ok) (hb : b.Ok) (hn0 : n0 < 4294967296) (hn1 : n1 < 4294967296) (h0 : madeErr a b.name true c0 = []) (h1 : madeErr b ⟨#[]⟩ false c1 = []) :
    (digestOf c0 n1 = digestOf c1 n1 → (metAll a b c0 c1 n0 n1).2.1.state = 7 ∧ (metAll a b c0 c1 n0 n1).2.1.peer = a ∧ (digestOf c1 n0 = digestOf c0 n0 → (metAll a b c0 c1 n0 n1).1.state = 7 ∧ (metAll a b c0 c1 n0 n1).1.peer = b)) ∧
    (digestOf c0 n1 ≠ digestOf c1 n1 → (metAll a b c0 c1 n0 n1).2.1.state = 8 ∧ (metAll a b c0 c1 n0 n1).1.state = 3) := by
  obtain ⟨a1, a2, a3, a4, a5⟩ := made_none h0
  obtain ⟨b1, _, b3, b4, b5⟩ := made_none h1
  obtain ⟨_, a2⟩ := a2 rfl
  have e1 := met_e1 a b c1 n1 ha a1
  have e2 := met_e2 a b c1 n1 a3 a4 a2
  have e3 := met_e3 a b.name c0 n0
  have e4 := met_e4 a b c0 n0 n1 hn1 hb b1 b3
  have er0 := met_er a b c1 n1 n0 hn0 (digestOf c0 n1) (digest_length _ _) (digest_rng _ _)
  have ea0 := met_ea a b c0 n0 (digestOf c1 n0) (digest_length _ _) (digest_rng _ _)
  generalize digestOf c0 n1 = d01 at e4 er0 ⊢
  generalize digestOf c1 n1 = d11 at er0 ⊢
  generalize digestOf c1 n0 = d10 at er0 ea0 ⊢
  generalize digestOf c0 n0 = d00 at ea0 ⊢
  have hall : metAll a b c0 c1 n0 n1 = metRounds 4 (madeOf 1 a b.name c0 n0) ⟨6, a, false, b, ⟨#[]⟩, c1, n1⟩ [writeOf (statusMsg stOk), writeOf { Msg.zero with kind := 3, flags := b.flags, challenge := n1, creation := b.creation, name := b.name }] := by
    unfold metAll
    rw [e1]
    simp only
    rw [e2]
  rw [hall]
  clear hall e1 e2
  have r1 := takes_two e3 e4
  by_cases hd : d01 = d11
  · rw [if_pos hd] at er0
    have r2 := rounds_step 3 r1 (takes_one er0)
    rw [r2]
    clear r1 r2 e3 e4 er0
    by_cases hd2 : d10 = d00
    · rw [if_pos hd2] at ea0
      rw [rounds_step 2 (takes_one ea0) (rfl : takesA _ [] [] = (_, [])), rounds_none]
      exact ⟨fun _ => ⟨rfl, rfl, fun _ => ⟨rfl, rfl⟩⟩, fun h => absurd hd h⟩
    · rw [if_neg hd2] at ea0
      rw [rounds_step 2 (takes_one ea0) (rfl : takesA _ [] [] = (_, [])), rounds_none]
      exact ⟨fun _ => ⟨rfl, rfl, fun h => absurd h hd2⟩, fun h => absurd hd h⟩
  · rw [if_neg hd] at er0
    rw [rounds_step 3 r1 (takes_one er0), rounds_none]
    exact ⟨fun h => absurd h hd, fun _ => ⟨rfl, rfl⟩⟩
end Go.Proofs.YtmnibmgbicnamaaGreatDoor
