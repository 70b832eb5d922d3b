/-
  Layer 8 (shake), of lists alone: two that may meet; what brings a side up.
  Layer 1 (atom), of lists alone: a name of a node, parted at its first '@'.
  append of a text's bytes to a slice of bytes whose spare room is its own, for every program.
  Parts of slices of bytes; bytes.Clone.
  Layer 1 (atom): the program's Node; layer 8 (shake): the program's refusals, its names.
  Layer 1 (atom): the program's Node; layer 8 (shake): its names.
-/
import Derived.Test.YtmnibmgbicnamaaGreatDoorK2
import Derived.Lib.Bytealg
import Derived.Test.YtmnibmgbicnamaaGreatDoorK1
import Derived.Test.YtmnibmgbicnamaaGreatDoorK3
import Derived.Test.YtmnibmgbicnamaaGreatDoorShelf
import Derived.Deep.QuietTactic
import Derived.BigQuiet
namespace Go.Proofs.YtmnibmgbicnamaaGreatDoor
open Go.RowKit

theorem z32 : (0 : Int) ≤ 0 ∧ (0 : Int) < 4294967296 := by decide
theorem z64 : U64 0 := ⟨by decide, by decide⟩
/-- A node's numbers are such. -/
structure Pr.Ok (p : Pr) : Prop where
  flags : U64 p.flags
  creation : 0 ≤ p.creation ∧ p.creation < 4294967296
/-- A side's numbers are such. -/
structure Sd.Ok (s : Sd) : Prop where
  lo : 1 ≤ s.state
  hi : s.state ≤ 8
  peer : s.peer.Ok
  me : s.me.Ok
  num : s.challenge < 4294967296
  live : s.state ≠ 7 → s.state ≠ 8 → cookieErr s.cookie = none
theorem Pr.Ok.zero : Pr.zero.Ok := ⟨⟨by decide, by decide⟩, by decide, by decide⟩
theorem Sd.Ok.dead {s : Sd} (h : s.Ok) : s.dead.Ok := ⟨by simp [Sd.dead], by simp [Sd.dead], .zero, h.me, h.num, fun _ h8 => absurd rfl h8⟩
theorem Sd.Ok.took {s : Sd} (h : s.Ok) (h8 : s.state ≠ 8) (h7 : s.state ≠ 7) {m : Msg} (hm : m.Ok) : (s.took m).2.1.Ok := by
  have hl := h.live h7 h8
  have hp : Pr.Ok ⟨m.name, m.flags, m.creation⟩ := ⟨hm.flags, hm.creation⟩
  unfold Sd.took
  split
  · split
    · exact ⟨by simp, by simp, h.peer, h.me, h.num, fun _ _ => hl⟩
    · exact h
  · split
    · split
      · exact ⟨by simp, by simp, hp, h.me, h.num, fun _ _ => hl⟩
      · exact h
    · split
      · exact ⟨by simp, by simp, hp, h.me, h.num, fun _ _ => hl⟩
      · split
        · exact ⟨by simp, by simp, h.peer, h.me, h.num, fun h7 _ => absurd rfl h7⟩
        · exact h
theorem Msg.Ok.zero : Msg.zero.Ok := ⟨⟨by decide, by decide⟩, by decide, by decide, fun z hz => by cases hz⟩
theorem read_zero (k : Int) (b : List Int) : (readOf k b).1 = [] ∨ (readOf k b).2 = .zero := by
  unfold readOf
  repeat' split
  all_goals first
    | exact .inr rfl
    | exact .inl rfl
theorem read_ok (k : Int) (b : List Int) (hr : ∀ z ∈ b, 0 ≤ z ∧ z < 256) : (readOf k b).2.Ok := by
  rcases read_zero k b with h | h
  · exact (write_read k b hr h).2.2.2.1
  · rw [h]; exact .zero
theorem Sd.Ok.take {s : Sd} (h : s.Ok) {b : List Int} (hr : ∀ z ∈ b, 0 ≤ z ∧ z < 256) : (s.take b).2.1.Ok := by
  unfold Sd.take
  split
  · exact h
  · rename_i h8
    split
    · exact h
    · rename_i h7
      split
      · exact h.dead
      · split
        · exact h.took h8 (fun e => h7 (.inl e)) (read_ok _ _ hr)
        · exact h.dead
theorem Sd.Ok.answer {s : Sd} (h : s.Ok) (st : ByteArray) : (s.answer st).2.1.Ok := by
  unfold Sd.answer
  split
  · exact h
  · rename_i h8
    split
    · exact h
    · rename_i h5
      have h5 : s.state = 5 := by omega
      split
      · exact h
      · split
        · exact ⟨by simp, by simp, h.peer, h.me, h.num, fun _ _ => h.live (by omega) h8⟩
        · exact h.dead

/-- What is kept. -/
theorem took_keeps (s : Sd) (m : Msg) : (s.took m).2.1.cookie = s.cookie ∧ (s.took m).2.1.challenge = s.challenge := by
  unfold Sd.took
  repeat' split
  all_goals exact ⟨rfl, rfl⟩
theorem take_keeps (s : Sd) (b : List Int) : (s.take b).2.1.cookie = s.cookie ∧ (s.take b).2.1.challenge = s.challenge := by
  unfold Sd.take
  repeat' split
  · exact ⟨rfl, rfl⟩
  · exact ⟨rfl, rfl⟩
  · exact ⟨rfl, rfl⟩
  · exact took_keeps _ _
  · exact ⟨rfl, rfl⟩
theorem answer_keeps (s : Sd) (st : ByteArray) : (s.answer st).2.1.cookie = s.cookie ∧ (s.answer st).2.1.challenge = s.challenge := by
  unfold Sd.answer
  repeat' split
  all_goals exact ⟨rfl, rfl⟩
theorem took_few (s : Sd) (m : Msg) : (s.took m).2.2.length ≤ 1 := by
  unfold Sd.took
  repeat' split
  all_goals simp
theorem take_few (s : Sd) (b : List Int) : (s.take b).2.2.length ≤ 1 := by
  unfold Sd.take
  repeat' split
  · simp
  · simp
  · simp
  · simpa using took_few _ _
  · simp
theorem answer_few (s : Sd) (st : ByteArray) : (s.answer st).2.2.length ≤ 2 := by
  unfold Sd.answer
  repeat' split
  all_goals simp
theorem answer_up (s : Sd) (st : ByteArray) (h : (s.answer st).2.1.state = 7) : s.state = 7 := by
  unfold Sd.answer at h
  repeat' split at h
  all_goals first
    | exact h
    | (simp [Sd.dead] at h)
theorem took_up (s : Sd) (m : Msg) (h7 : s.state ≠ 7) (h : (s.took m).2.1.state = 7) : m.kind ≠ 1 ∧ m.kind ≠ 2 ∧ m.kind ≠ 3 ∧ m.digest = digestOf s.cookie s.challenge := by
  unfold Sd.took at h
  repeat' split at h
  all_goals first
    | exact absurd h h7
    | (simp at h; done)
    | exact ⟨by assumption, by assumption, by assumption, by assumption⟩
/-- What a read message's digest is. -/
theorem read_digest (k : Int) (b : List Int) (h : (readOf k b).1 = []) (hk : k = 4 ∨ k = 5) : 17 ≤ b.length ∧ (readOf k b).2.digest = b.drop (b.length - 16) := by
  have hk0 : ¬ (k < 1 ∨ 5 < k) := by omega
  unfold readOf at h ⊢
  rw [if_neg hk0] at h ⊢
  split at h
  · cases h
  rename_i h0
  rw [if_neg h0, if_neg (by omega)]
  rw [if_neg (by omega)] at h
  split at h
  · cases h
  rename_i h1
  rw [if_neg h1]
  split at h
  · cases h
  rename_i h2
  rw [if_neg h2]
  split at h
  · cases h
  rename_i h3
  rw [if_neg h3]
  rcases hk with rfl | rfl
  · have e : endOf 4 b = 21 := rfl
    rw [e] at h2 h3
    have hl : b.length = 21 := by omega
    rw [if_pos rfl, hl]
    exact ⟨by omega, rfl⟩
  · have e : endOf 5 b = 17 := rfl
    rw [e] at h2 h3
    have hl : b.length = 17 := by omega
    rw [if_neg (by omega), if_pos rfl, hl]
    exact ⟨by omega, rfl⟩
theorem take_up (s : Sd) (b : List Int) (hr : ∀ z ∈ b, 0 ≤ z ∧ z < 256) (hs : s.Ok) (h7 : s.state ≠ 7) (h : (s.take b).2.1.state = 7) : (s.state = 3 ∨ s.state = 6) ∧ 17 ≤ b.length ∧ b.drop (b.length - 16) = digestOf s.cookie s.challenge := by
  unfold Sd.take at h
  split at h
  · exact absurd h h7
  rename_i h8
  split at h
  · exact absurd h h7
  rename_i h5
  split at h
  · simp [Sd.dead] at h
  rename_i hrd
  split at h
  · have hrd : (readOf s.kind b).1 = [] := by simpa using hrd
    have hm := took_up s _ h7 h
    have hk := (write_read s.kind b hr hrd).2.2.2.2
    rw [hk] at hm
    have hlo := hs.lo
    have hhi := hs.hi
    have hst : (s.state = 3 ∨ s.state = 6) ∧ (s.kind = 4 ∨ s.kind = 5) := by
      obtain ⟨m1, m2, m3, _⟩ := hm
      unfold Sd.kind at m1 m2 m3 ⊢
      repeat' split
      all_goals simp_all
      all_goals omega
    have hd := read_digest s.kind b hrd hst.2
    exact ⟨hst.1, hd.1, by rw [← hd.2]; exact hm.2.2.2⟩
  · simp [Sd.dead] at h

/-- Messages taken one after the other, and all that is to be sent. -/
def takesA : Sd → List (List Int) → List (List Int) → Sd × List (List Int)
  | s, acc, [] => (s, acc)
  | s, acc, b :: r => takesA (s.take b).2.1 (acc ++ (s.take b).2.2) r
def metRounds : Nat → Sd → Sd → List (List Int) → Sd × Sd × List (List Int)
  | 0, x, y, l => (x, y, l)
  | n + 1, x, y, l => metRounds n (takesA x [] l).1 (takesA y [] (takesA x [] l).2).1 (takesA y [] (takesA x [] l).2).2
theorem takesA_few : ∀ (l : List (List Int)) (s : Sd) (acc : List (List Int)), (takesA s acc l).2.length ≤ acc.length + l.length
  | [], s, acc => by simp [takesA]
  | b :: r, s, acc => by
    have h := takesA_few r (s.take b).2.1 (acc ++ (s.take b).2.2)
    have := take_few s b
    simp only [takesA, List.length_append, List.length_cons] at h ⊢
    omega

theorem writeOf_ok {m : Msg} (hf : fits m) (hn : (m.kind = 1 ∨ m.kind = 3) → nodeOk m.name = true) : writeOf m = bytesOfMsg m := by
  unfold writeOf
  rw [if_neg (by simpa using hf), if_neg (fun h => by rw [hn h.1] at h; exact absurd h.2 (by decide))]
theorem take_msg (s : Sd) (m : Msg) (hm : m.Ok) (hf : fits m) (hn : (m.kind = 1 ∨ m.kind = 3) → nodeOk m.name = true) (hk : s.kind = m.kind) (h8 : s.state ≠ 8) (h7 : ¬ (s.state = 7 ∨ s.state = 5)) :
    s.take (writeOf m) = if (s.took m).1 = 0 then ([], (s.took m).2.1, (s.took m).2.2.map writeOf) else (sh 0 (s.took m).1, s.dead, []) := by
  unfold Sd.take
  rw [if_neg h8, if_neg h7, writeOf_ok hf hn, hk, read_write m hm hf hn]
  simp
/-- What a side's making asks. -/
theorem made_none {me : Pr} {peer : ByteArray} {begins : Bool} {cookie : ByteArray} (h : madeErr me peer begins cookie = []) : nodeOk me.name = true ∧ (begins = true → nodeOk peer = true ∧ peer ≠ me.name) ∧ lacksB me.flags = false ∧ me.creation ≠ 0 ∧ cookieErr cookie = none := by
  unfold madeErr at h
  split at h
  · cases h
  rename_i h1
  split at h
  · cases h
  rename_i h2
  split at h
  · cases h
  rename_i h3
  split at h
  · cases h
  rename_i h4
  split at h
  · cases h
  rename_i h5
  split at h
  · cases h
  rename_i h6
  refine ⟨by simpa using h1, fun hb => ⟨?_, fun e => h5 ⟨hb, e⟩⟩, by simpa using h3, h4, h6⟩
  have := fun e => h2 ⟨hb, e⟩
  simpa using this

/-- Both sides at the end. -/
def metAll (a b : Pr) (c0 c1 : ByteArray) (n0 n1 : Nat) : Sd × Sd × List (List Int) :=
  metRounds 4 (madeOf 1 a b.name c0 n0) ((((madeOf 4 b ⟨#[]⟩ c1 n1).take (writeOf (nameMsg a))).2.1.answer stOk).2.1) ((((madeOf 4 b ⟨#[]⟩ c1 n1).take (writeOf (nameMsg a))).2.1.answer stOk).2.2)
theorem met_e1 (a b : Pr) (c1 : ByteArray) (n1 : Nat) (ha : a.Ok) (a1 : nodeOk a.name = true) : (madeOf 4 b ⟨#[]⟩ c1 n1).take (writeOf (nameMsg a)) = ([], ⟨5, a, false, b, ⟨#[]⟩, c1, n1⟩, []) := by
  rw [take_msg _ _ ⟨ha.flags, ha.creation, z32, fun z hz => by cases hz⟩ ⟨.inl rfl, .inr (.inr rfl), by simp [nameMsg, Msg.zero]; rfl, by simp [nameMsg, Msg.zero]⟩ (fun _ => a1) (by simp [Sd.kind, madeOf, nameMsg]) (by simp [madeOf]) (by simp [madeOf])]
  simp [Sd.took, nameMsg, madeOf, Msg.zero]
theorem met_e2 (a b : Pr) (c1 : ByteArray) (n1 : Nat) (a3 : lacksB a.flags = false) (a4 : a.creation ≠ 0) (a2 : b.name ≠ a.name) : (⟨5, a, false, b, ⟨#[]⟩, c1, n1⟩ : Sd).answer stOk = ([], ⟨6, a, false, b, ⟨#[]⟩, c1, n1⟩, [writeOf (statusMsg stOk), writeOf { Msg.zero with kind := 3, flags := b.flags, challenge := n1, creation := b.creation, name := b.name }]) := by
  have hst : (⟨5, a, false, b, ⟨#[]⟩, c1, n1⟩ : Sd).statusFor stOk = stOk := by
    unfold Sd.statusFor
    rw [if_neg (by simp [a3, a4]; exact fun h => a2 h.symm)]
  have hk : isSt stOk = true := by decide
  have hne : decide (stOk = stSim) = false := by decide
  unfold Sd.answer
  rw [hst]
  simp [hk, hne, Sd.challengeMsg]
theorem met_e3 (a : Pr) (bn c0 : ByteArray) (n0 : Nat) : (madeOf 1 a bn c0 n0).take (writeOf (statusMsg stOk)) = ([], ⟨2, .zero, false, a, bn, c0, n0⟩, []) := by
  rw [take_msg _ _ ⟨z64, z32, z32, fun z hz => by cases hz⟩ ⟨.inr (.inr ⟨rfl, rfl, rfl⟩), .inr (.inr rfl), by simp [statusMsg]; decide, by simp [statusMsg, Msg.zero]⟩ (fun h => by simp [statusMsg] at h) (by simp [Sd.kind, madeOf, statusMsg]) (by simp [madeOf]) (by simp [madeOf])]
  simp [Sd.took, statusMsg, madeOf]
  decide
theorem met_e4 (a b : Pr) (c0 : ByteArray) (n0 n1 : Nat) (hn1 : n1 < 4294967296) (hb : b.Ok) (b1 : nodeOk b.name = true) (b3 : lacksB b.flags = false) : (⟨2, .zero, false, a, b.name, c0, n0⟩ : Sd).take (writeOf { Msg.zero with kind := 3, flags := b.flags, challenge := n1, creation := b.creation, name := b.name }) = ([], ⟨3, b, false, a, b.name, c0, n0⟩, [writeOf { Msg.zero with kind := 4, challenge := n0, digest := digestOf c0 n1 }]) := by
  rw [take_msg _ _ ⟨hb.flags, hb.creation, ⟨by simp only []; omega, by simp only []; omega⟩, fun z hz => by cases hz⟩ ⟨.inr (.inl rfl), .inl rfl, by simp [Msg.zero]; rfl, by simp [Msg.zero]⟩ (fun _ => b1) (by simp [Sd.kind]) (by simp) (by simp)]
  simp [Sd.took, b3]
theorem fits_k4 (m : Int) (d : List Int) (hd : d.length = 16) : fits { Msg.zero with kind := 4, challenge := m, digest := d } := ⟨.inr (.inr ⟨rfl, rfl, rfl⟩), .inr (.inl rfl), by simp [Msg.zero]; rfl, by simp [hd]⟩
theorem fits_k5 (d : List Int) (hd : d.length = 16) : fits { Msg.zero with kind := 5, digest := d } := ⟨.inr (.inr ⟨rfl, rfl, rfl⟩), .inr (.inr rfl), by simp [Msg.zero]; rfl, by simp [hd]⟩
theorem met_er (a b : Pr) (c1 : ByteArray) (n1 m : Nat) (hm : m < 4294967296) (d : List Int) (hd16 : d.length = 16) (hr : ∀ z ∈ d, 0 ≤ z ∧ z < 256) : (⟨6, a, false, b, ⟨#[]⟩, c1, n1⟩ : Sd).take (writeOf { Msg.zero with kind := 4, challenge := m, digest := d }) = if d = digestOf c1 n1 then ([], ⟨7, a, false, b, ⟨#[]⟩, c1, n1⟩, [writeOf { Msg.zero with kind := 5, digest := digestOf c1 m }]) else (sh 0 163, ⟨8, .zero, false, b, ⟨#[]⟩, c1, n1⟩, []) := by
  rw [take_msg _ _ ⟨z64, z32, ⟨by simp only []; omega, by simp only []; omega⟩, hr⟩ (fits_k4 m d hd16) (fun h => by simp at h) (by simp [Sd.kind]) (by simp) (by simp)]
  by_cases hd : d = digestOf c1 n1
  · simp [Sd.took, hd]
  · simp [Sd.took, hd, Sd.dead]
theorem met_ea (a b : Pr) (c0 : ByteArray) (n0 : Nat) (d : List Int) (hd16 : d.length = 16) (hr : ∀ z ∈ d, 0 ≤ z ∧ z < 256) : (⟨3, b, false, a, b.name, c0, n0⟩ : Sd).take (writeOf { Msg.zero with kind := 5, digest := d }) = if d = digestOf c0 n0 then ([], ⟨7, b, false, a, b.name, c0, n0⟩, []) else (sh 0 163, ⟨8, .zero, false, a, b.name, c0, n0⟩, []) := by
  rw [take_msg _ _ ⟨z64, z32, z32, hr⟩ (fits_k5 d hd16) (fun h => by simp at h) (by simp [Sd.kind]) (by simp) (by simp)]
  by_cases hd : d = digestOf c0 n0
  · simp [Sd.took, hd]
  · simp [Sd.took, hd, Sd.dead]
theorem rounds_none : ∀ (n : Nat) (x y : Sd), metRounds n x y [] = (x, y, [])
  | 0, _, _ => rfl
  | n + 1, x, y => rounds_none n x y
theorem rounds_step (n : Nat) {x y x' y' : Sd} {l l' l'' : List (List Int)} (hx : takesA x [] l = (x', l')) (hy : takesA y [] l' = (y', l'')) : metRounds (n + 1) x y l = metRounds n x' y' l'' := by
  rw [metRounds, hx]
  simp only
  rw [hy]
theorem takes_one {s s' : Sd} {b : List Int} {e : List Lnk} {o : List (List Int)} (h : s.take b = (e, s', o)) : takesA s [] [b] = (s', o) := by
  simp only [takesA, h, List.nil_append]
theorem takes_two {s s' s'' : Sd} {b c : List Int} {e e' : List Lnk} {o : List (List Int)} (h : s.take b = (e, s', [])) (h' : s'.take c = (e', s'', o)) : takesA s [] [b, c] = (s'', o) := by
  simp only [takesA, h, h', List.nil_append]
theorem met_told (a b : Pr) (c0 c1 : ByteArray) (n0 n1 : Nat) (ha : a.Ok) (hb : b.Ok) (hn0 : n0 < 4294967296) (hn1 : n1 < 4294967296) (h0 : madeErr a b.name true c0 = []) (h1 : madeErr b ⟨#[]⟩ false c1 = []) :
    (digestOf c0 n1 = digestOf c1 n1 → (metAll a b c0 c1 n0 n1).2.1.state = 7 ∧ (metAll a b c0 c1 n0 n1).2.1.peer = a ∧ (digestOf c1 n0 = digestOf c0 n0 → (metAll a b c0 c1 n0 n1).1.state = 7 ∧ (metAll a b c0 c1 n0 n1).1.peer = b)) ∧
    (digestOf c0 n1 ≠ digestOf c1 n1 → (metAll a b c0 c1 n0 n1).2.1.state = 8 ∧ (metAll a b c0 c1 n0 n1).1.state = 3) := by
  obtain ⟨a1, a2, a3, a4, a5⟩ := made_none h0
  obtain ⟨b1, _, b3, b4, b5⟩ := made_none h1
  obtain ⟨_, a2⟩ := a2 rfl
  have e1 := met_e1 a b c1 n1 ha a1
  have e2 := met_e2 a b c1 n1 a3 a4 a2
  have e3 := met_e3 a b.name c0 n0
  have e4 := met_e4 a b c0 n0 n1 hn1 hb b1 b3
  have er0 := met_er a b c1 n1 n0 hn0 (digestOf c0 n1) (digest_length _ _) (digest_rng _ _)
  have ea0 := met_ea a b c0 n0 (digestOf c1 n0) (digest_length _ _) (digest_rng _ _)
  generalize digestOf c0 n1 = d01 at e4 er0 ⊢
  generalize digestOf c1 n1 = d11 at er0 ⊢
  generalize digestOf c1 n0 = d10 at er0 ea0 ⊢
  generalize digestOf c0 n0 = d00 at ea0 ⊢
  have hall : metAll a b c0 c1 n0 n1 = metRounds 4 (madeOf 1 a b.name c0 n0) ⟨6, a, false, b, ⟨#[]⟩, c1, n1⟩ [writeOf (statusMsg stOk), writeOf { Msg.zero with kind := 3, flags := b.flags, challenge := n1, creation := b.creation, name := b.name }] := by
    unfold metAll
    rw [e1]
    simp only
    rw [e2]
  rw [hall]
  clear hall e1 e2
  have r1 := takes_two e3 e4
  by_cases hd : d01 = d11
  · rw [if_pos hd] at er0
    have r2 := rounds_step 3 r1 (takes_one er0)
    rw [r2]
    clear r1 r2 e3 e4 er0
    by_cases hd2 : d10 = d00
    · rw [if_pos hd2] at ea0
      rw [rounds_step 2 (takes_one ea0) (rfl : takesA _ [] [] = (_, [])), rounds_none]
      exact ⟨fun _ => ⟨rfl, rfl, fun _ => ⟨rfl, rfl⟩⟩, fun h => absurd hd h⟩
    · rw [if_neg hd2] at ea0
      rw [rounds_step 2 (takes_one ea0) (rfl : takesA _ [] [] = (_, [])), rounds_none]
      exact ⟨fun _ => ⟨rfl, rfl, fun h => absurd h hd2⟩, fun h => absurd hd h⟩
  · rw [if_neg hd] at er0
    rw [rounds_step 3 r1 (takes_one er0), rounds_none]
    exact ⟨fun h => absurd h hd, fun _ => ⟨rfl, rfl⟩⟩
end Go.Proofs.YtmnibmgbicnamaaGreatDoor
namespace Go.Proofs.YtmnibmgbicnamaaGreatDoor
open Go.RowKit

theorem indexByte_cases (c : UInt8) : ∀ l : List UInt8, (Lib.indexByte l c = -1 ∧ c ∉ l) ∨ ∃ l1 l2, Lib.indexByte l c = (l1.length : Int) ∧ l = l1 ++ c :: l2 ∧ c ∉ l1
  | [] => .inl ⟨rfl, by simp⟩
  | b :: l => by
    rw [Lib.indexByte]
    by_cases hb : b = c
    · subst hb
      exact .inr ⟨[], l, by simp, rfl, by simp⟩
    · rw [if_neg (by simpa using hb)]
      rcases indexByte_cases c l with ⟨h1, h2⟩ | ⟨l1, l2, h1, h2, h3⟩
      · rw [h1]
        exact .inl ⟨rfl, by simp only [List.mem_cons, not_or]; exact ⟨fun h => hb h.symm, h2⟩⟩
      · rw [h1, if_neg (by simp)]
        exact .inr ⟨b :: l1, l2, by simp, by rw [h2]; rfl, by simp only [List.mem_cons, not_or]; exact ⟨fun h => hb h.symm, h3⟩⟩

def smallB (c : Int) : Bool := decide (97 ≤ c ∧ c ≤ 122)
def alnumB (c : Int) : Bool := smallB c || decide (65 ≤ c ∧ c ≤ 90) || decide (48 ≤ c ∧ c ≤ 57)
/-- May a byte stand in a part of a name? -/
def partByte (d : Bool) (c : Int) : Bool := alnumB c || decide (c = 95) || decide (c = 45) || (d && decide (c = 46))
def partB (d : Bool) (s : ByteArray) : Bool := (nums s).all (partByte d) && decide (s.size ≠ 0)

theorem scan_byte (c : Int) (h : c ≠ 64) (a : Int) : (inWordB c || decide (c = 45) || (decide (c = 46) && decide (0 ≤ a))) = partByte (decide (0 ≤ a)) c := by
  rw [Bool.eq_iff_iff]
  simp only [inWordB, partByte, alnumB, smallB, Bool.or_eq_true, Bool.and_eq_true, decide_eq_true_eq]
  omega
theorem scan_noat : ∀ (l : List Int) (i : Nat) (a : Int) (g : Bool), (64 : Int) ∉ l → nodeScan l i a g = (a, g && l.all (partByte (decide (0 ≤ a))))
  | [], i, a, g, _ => by simp [nodeScan]
  | c :: r, i, a, g, h => by
    have hc : c ≠ 64 := fun e => h (by simp [e])
    rw [nodeScan, if_neg hc, scan_noat r _ _ _ (fun e => h (by simp [e])), scan_byte c hc a, List.all_cons, Bool.and_assoc]
theorem scan_false : ∀ (l : List Int) (i : Nat) (a : Int), (nodeScan l i a false).2 = false
  | [], _, _ => rfl
  | c :: r, i, a => by
    rw [nodeScan]
    split <;> (simp only [Bool.false_and]; exact scan_false _ _ _)
theorem scan_twice : ∀ (l : List Int) (i : Nat) (a : Int) (g : Bool), 0 ≤ a → (64 : Int) ∈ l → (nodeScan l i a g).2 = false
  | [], _, _, _, _, h => by cases h
  | c :: r, i, a, g, ha, h => by
    rw [nodeScan]
    split
    · rw [decide_eq_false (by omega), Bool.and_false]; exact scan_false _ _ _
    · rename_i hc
      exact scan_twice r _ _ _ ha (by simpa [Ne.symm hc] using h)
theorem scan_cut (l1 l2 : List Int) (g : Bool) : ∀ (i : Nat) (_ : (64 : Int) ∉ l1), nodeScan (l1 ++ 64 :: l2) i (-1) g = nodeScan l2 (i + l1.length + 1) ((i + l1.length : Nat) : Int) (g && l1.all (partByte false)) := by
  induction l1 generalizing g with
  | nil => intro i _; simp [nodeScan]
  | cons c r ih =>
    intro i h
    have hc : c ≠ 64 := fun e => h (by simp [e])
    rw [List.cons_append, nodeScan, if_neg hc, ih _ _ (fun e => h (by simp [e])), scan_byte c hc (-1)]
    have e1 : i + 1 + r.length = i + (c :: r).length := by simp; omega
    rw [e1]
    simp [List.all_cons, Bool.and_assoc]

theorem nums_of (s : ByteArray) (l : List UInt8) (h : s.data.toList = l) : nums s = l.map fun b => (b.toNat : Int) := by rw [nums, h]
theorem mem64 (l : List UInt8) : (64 : Int) ∈ l.map (fun b => (b.toNat : Int)) ↔ (64 : UInt8) ∈ l := by
  constructor
  · intro h
    obtain ⟨b, hb, e⟩ := List.mem_map.1 h
    have : b = 64 := by
      apply UInt8.toNat_inj.1
      have : b.toNat = 64 := by omega
      rw [this]; rfl
    exact this ▸ hb
  · intro h; exact List.mem_map.2 ⟨64, h, rfl⟩
/-- A name that has no '@' is none. -/
theorem node_miss (s : ByteArray) (h : (64 : UInt8) ∉ s.data.toList) : nodeOk s = false := by
  unfold nodeOk
  simp only
  rw [scan_noat _ _ _ _ (by rw [nums, mem64]; exact h)]
  simp
/-- A name that has one: both parts must be such. -/
theorem node_hit (s a b : ByteArray) (h : s.data.toList = a.data.toList ++ 64 :: b.data.toList) (ha : (64 : UInt8) ∉ a.data.toList) : nodeOk s = (decide (s.size ≤ 64) && partB false a && partB true b) := by
  have hn : nums s = nums a ++ 64 :: nums b := by simp only [nums, h]; simp
  have hz : s.size = a.size + 1 + b.size := by
    have := congrArg List.length hn
    simp only [nums_length, List.length_append, List.length_cons] at this
    omega
  have hna : (64 : Int) ∉ nums a := by rw [nums, mem64]; exact ha
  unfold nodeOk
  simp only
  rw [hn, scan_cut _ _ _ _ hna]
  by_cases hb : (64 : Int) ∈ nums b
  · rw [scan_twice _ _ _ _ (by omega) hb]
    have : partB true b = false := by
      unfold partB
      rw [Bool.and_eq_false_iff]
      left
      rw [List.all_eq_false]
      exact ⟨64, hb, by decide⟩
    rw [this]
    simp
  · rw [scan_noat _ _ _ _ hb]
    simp only [nums_length]
    rw [Bool.eq_iff_iff]
    simp only [partB, Bool.and_eq_true, decide_eq_true_eq]
    have e : decide ((0 : Int) ≤ ((0 + a.size : Nat) : Int)) = true := by simp
    rw [e]
    generalize (nums a).all (partByte false) = A
    generalize (nums b).all (partByte true) = C
    constructor
    · rintro ⟨⟨⟨⟨⟨h1, h2⟩, h3⟩, h4⟩, h5⟩, h6⟩
      exact ⟨⟨h2, h3, by omega⟩, h4, by omega⟩
    · rintro ⟨⟨h2, h3, h5⟩, h4, h6⟩
      exact ⟨⟨⟨⟨⟨by omega, h2⟩, h3⟩, h4⟩, by omega⟩, by omega⟩
theorem eq_bytes' (s t : ByteArray) : s = t ↔ s.toList = t.data.toList := by
  constructor
  · rintro rfl; exact ByteArray.toList_eq s
  · intro h
    rw [ByteArray.toList_eq] at h
    apply ByteArray.ext
    exact Array.toList_inj.1 h
theorem eq_stOk' (s : ByteArray) : s = stOk ↔ s.toList = [111, 107] := eq_bytes' s stOk
theorem eq_stSim' (s : ByteArray) : s = stSim ↔ s.toList = [111, 107, 95, 115, 105, 109, 117, 108, 116, 97, 110, 101, 111, 117, 115] := eq_bytes' s stSim
theorem eq_stNok' (s : ByteArray) : s = stNok ↔ s.toList = [110, 111, 107] := eq_bytes' s stNok
theorem eq_stNot' (s : ByteArray) : s = stNot ↔ s.toList = [110, 111, 116, 95, 97, 108, 108, 111, 119, 101, 100] := eq_bytes' s stNot
theorem eq_stAlive' (s : ByteArray) : s = stAlive ↔ s.toList = [97, 108, 105, 118, 101] := eq_bytes' s stAlive
theorem empty_list' {s : ByteArray} (h : s.size ≠ 0) : s.toList.isEmpty = false := by
  rw [← decide_eq_emptyBytes]
  simp
  intro h'
  subst h'
  exact h rfl
end Go.Proofs.YtmnibmgbicnamaaGreatDoor
namespace Go.Proofs.YtmnibmgbicnamaaGreatDoor
open Go.RowKit

theorem byteCells_nums (s : ByteArray) : byteCells s = cellsOfBytes (nums s) := by
  simp [byteCells, cellsOfBytes, nums]
/-- append(v, s...), a slice of bytes whose spare room is its own, and a text. -/
theorem run_append_text {P : Program} {t e tx : TypeId} (hB : ByteTypes P t e) (hS : P.underlying tx = some .string) (ty : TypeId) {w : World} {v : Value} {xs : List Int} (s : ByteArray) (hv : Own w v xs) (hfit : xs.length + s.size ≤ 70368744177664) :
    ∃ v' w', (Builtin.append_ #[t, tx] ty #[v, .string s]).run P w = .ok v' w' ∧ Own w' v' (xs ++ nums s) ∧ Turned (blk v) w w' ∧ ∀ k, blk v' k → blk v k ∨ k = w.heap.size := by
  obtain ⟨i, hi, hz, hsz, hby⟩ := hB.info
  have hys : (nums s).length = s.size := nums_length s
  have hsrc : Src P 1 tx (.string s) (nums s).length (cellsOfBytes (nums s)) w := by rw [hys, ← byteCells_nums]; exact Src.ofString w hS s
  rw [← hys] at hfit
  generalize nums s = ys at hsrc hfit ⊢
  clear hys
  obtain ⟨x, hxs⟩ : ∃ x, x = Value.string s := ⟨_, rfl⟩
  rw [← hxs] at hsrc ⊢
  clear hxs
  obtain ⟨a, cap, rfl, hold, hnone⟩ := hv.first (P := P)
  by_cases hroom : xs.length + ys.length ≤ cap
  · cases a with
    | none =>
      obtain ⟨h1, h2⟩ := hnone rfl
      have hx0 : xs = [] := List.eq_nil_of_length_eq_zero h1
      have hy0 : ys = [] := List.eq_nil_of_length_eq_zero (by omega)
      subst hx0 hy0 h2
      refine ⟨.slice none 0 0, w, ?_, .inl ⟨rfl, rfl⟩, Turned.refl _ _, fun k hk => hk.elim⟩
      have hl := hsrc.len w
      have hc := hsrc.cells
      simp [cellsOfBytes] at hl hc
      simp [Builtin.append_, run_underlying hB.slice, run_underlying hS, sizeOf, typeInfo, hi, hsz, hl, hc]
    | some a =>
      rcases hv with ⟨h, _⟩ | ⟨g, off, cap', h, h2, h3, hg, h4, h5⟩
      · cases h
      · cases h
        have hrun := run_append_room_src (P := P) w t tx ty e i hB.slice hi g off xs.length cap x ys.length (cellsOfBytes ys) (by rw [hsz]; exact hsrc) hroom (fun j hj => by rw [cellsOfBytes_length] at hj; rw [hsz, Nat.mul_one, Nat.add_assoc]; exact (h5 _ (by omega)).1) (fun j hj => by rw [cellsOfBytes_length] at hj; rw [hsz, Nat.mul_one, Nat.add_assoc]; exact (h5 _ (by omega)).2)
        rw [hsz, Nat.mul_one] at hrun
        have ht := Turned.setCells g (cellsOfBytes ys) (off + xs.length) w
        have hin := World.cell?_setCells_in g (cellsOfBytes ys) (off + xs.length) w (fun j hj => by rw [cellsOfBytes_length] at hj; rw [Nat.add_assoc]; exact (h5 _ (by omega)).1)
        have hout := World.cell?_setCells_out g (cellsOfBytes ys) (off + xs.length) w
        refine ⟨_, _, hrun, .inr ⟨g, off, cap, by simp, by simpa using hroom, h3, Nat.lt_of_lt_of_le hg ht.size, fun j hj => ?_, fun j hj => ⟨?_, ?_⟩⟩, ht.mono (fun k hk => .inl hk.symm), fun k hk => .inl hk⟩
        · by_cases hjx : j < xs.length
          · rw [hout ⟨g, off + j, none⟩ (fun _ _ => .inl (by simp; omega)), h4 j hjx, List.getElem_append_left hjx]
          · have hjy : j - xs.length < (cellsOfBytes ys).length := by rw [cellsOfBytes_length]; simp at hj; omega
            have := hin (j - xs.length) hjy
            rw [show off + xs.length + (j - xs.length) = off + j by omega] at this
            rw [this, List.getElem_append_right (by omega)]
            simp [cellsOfBytes]
        · by_cases hjo : j < xs.length ∨ xs.length + ys.length ≤ j
          · rw [hout ⟨g, off + j, none⟩ (fun _ _ => by rw [cellsOfBytes_length]; simp; omega)]; exact (h5 j hj).1
          · have hjy : j - xs.length < (cellsOfBytes ys).length := by rw [cellsOfBytes_length]; omega
            have := hin (j - xs.length) hjy
            rw [show off + xs.length + (j - xs.length) = off + j by omega] at this
            rw [this]; rfl
        · rw [World.frozen?_setCells]; exact (h5 j hj).2
  · have hnext := nextslicecap_le (need := xs.length + ys.length) (old := cap) (by omega)
    have hrun := run_append_grow_src (P := P) w t tx ty e i (.int .u8 0) hB.slice hi hz a xs.length cap (cellsOfBytes xs) (by rw [hsz]; exact hold) x ys.length (cellsOfBytes ys) (by rw [hsz]; exact hsrc) (by omega) (by omega) (by rw [hby]; omega)
    have hge := grownCap_ge w (xs.length + ys.length) cap e
    have hle := grownCap_le_maxLen w (xs.length + ys.length) cap e (by unfold maxLen; omega)
    generalize grownCap w (xs.length + ys.length) cap e = c at hrun hge hle
    refine ⟨_, _, hrun, .inr ⟨w.heap.size, 0, c, by simp, by simpa using hge, hle, by simp, fun j hj => ?_, fun j hj => ?_⟩, (Turned.drew _ _).trans (T := fun _ => False) (Turned.alloc _ _ _) (fun _ h => h.elim), fun k hk => .inr hk.symm⟩
    · have hj2 : j < xs.length + ys.length := by simpa using hj
      rw [World.cell?_alloc_at _ _ _ _ (by simp), Nat.zero_add, Array.getElem?_append_left (by simp [cellsOfBytes]; omega)]
      simp only [List.getElem?_toArray]
      rw [show cellsOfBytes xs ++ cellsOfBytes ys = cellsOfBytes (xs ++ ys) by simp [cellsOfBytes]]
      simp only [cellsOfBytes, List.getElem?_map, List.getElem?_eq_getElem hj, Option.map_some]
    · refine ⟨?_, by rw [show w.heap.size = w.drew.heap.size from rfl, World.frozen?_alloc_new]⟩
      rw [World.cell?_alloc_at _ _ _ _ (by simp), Nat.zero_add]
      simp [cellsOfBytes, size_zeroCells, Value.cells]
      omega

section
variable {P : Program} {t e tx : TypeId} {w : World} {v : Value} {xs : List Int} {tt : ByteArray}

theorem wp_append_text {o : Oper} {a : Act} {K : Act → World → Prop} {Q : Exit → Act → World → Prop} (s y : Operand) (ho : o.op = .call { callee := .builtin .append, args := #[s, y], argTypes := #[t, tx] })
    (hB : ByteTypes P t e) (hS : P.underlying tx = some .string) (hs : a.eval s = v) (hy : a.eval y = .string tt) (hv : Own w v xs) (hfit : xs.length + tt.size ≤ 70368744177664)
    (h : ∀ v' w', Own w' v' (xs ++ nums tt) → Turned (blk v) w w' → (∀ k, blk v' k → blk v k ∨ k = w.heap.size) → K (a.put o.dst v') w') : o.wp P a w K Q := by
  obtain ⟨v', w', hr, h1, h2, h3⟩ := run_append_text hB hS o.type tt hv hfit
  unfold Oper.wp execOp
  simp only [ho, resolve, invoke, builtin, Sem.run_bind, Sem.run_pure, Result.andThen_ok, List.map_toArray, List.map_cons, List.map_nil, hs, hy, hr]
  exact h v' w' h1 h2 h3

/-- For the walk, at a plain region's list. -/
theorem wpList_append_text {ops : Array Oper} {rest : List Oper} {o : Oper} {a : Act} {Q : Exit → Act → World → Prop} (hgd : o.guard = none) (s y : Operand) (ho : o.op = .call { callee := .builtin .append, args := #[s, y], argTypes := #[t, tx] })
    (hB : ByteTypes P t e) (hS : P.underlying tx = some .string) (hs : a.eval s = v) (hy : a.eval y = .string tt) (hv : Own w v xs) (hfit : xs.length + tt.size ≤ 70368744177664)
    (h : ∀ v' w', Own w' v' (xs ++ nums tt) → Turned (blk v) w w' → (∀ k, blk v' k → blk v k ∨ k = w.heap.size) → wpList P ops Q rest (a.put o.dst v') w') : wpList P ops Q (o :: rest) a w :=
  wpList_plain hgd fun _ hK => wp_append_text s y ho hB hS hs hy hv hfit fun v' w' h1 h2 h3 => hK _ _ (h v' w' h1 h2 h3)

/-- At a step of a region that draws its order. -/
theorem step_append_text {ops : Array Oper} {o : Oper} {a : Act} {K : Act → World → Prop} {Q : Exit → Act → World → Prop} {E : Prop} (hgd : o.guard = none) (s y : Operand) (ho : o.op = .call { callee := .builtin .append, args := #[s, y], argTypes := #[t, tx] })
    (hB : ByteTypes P t e) (hS : P.underlying tx = some .string) (hs : a.eval s = v) (hy : a.eval y = .string tt) (hv : Own w v xs) (hfit : xs.length + tt.size ≤ 70368744177664)
    (h : ∀ v' w', Own w' v' (xs ++ nums tt) → Turned (blk v) w w' → (∀ k, blk v' k → blk v k ∨ k = w.heap.size) → K (a.put o.dst v') w') :
    if Region.wanted o (yielded ops a.tmps) = true then Oper.wp P o a w K Q else E := by
  rw [if_pos (by simp [Region.wanted, hgd])]
  exact wp_append_text s y ho hB hS hs hy hv hfit h
end

end Go.Proofs.YtmnibmgbicnamaaGreatDoor
namespace Go.Proofs.YtmnibmgbicnamaaGreatDoor
open Go.RowKit

/-- The beginning of a slice. -/
theorem Sl.take {w : World} {a : Option Addr} {cap n : Nat} {zs : List Int} (h : Sl w (.slice a zs.length cap) zs) (hn : n ≤ zs.length) : Sl w (.slice a n cap) (zs.take n) := by
  have hl : (zs.take n).length = n := by simp; omega
  rcases h with ⟨h1, rfl⟩ | ⟨a', h1, rfl⟩ | ⟨g, off, cap', h1, h2, h3, h4⟩
  · cases h1
    have : n = 0 := by simpa using hn
    subst this
    exact .inl ⟨rfl, rfl⟩
  · cases h1
    have : n = 0 := by simpa using hn
    subst this
    exact .inr (.inl ⟨a', rfl, rfl⟩)
  · cases h1
    refine .inr (.inr ⟨g, off, cap, by rw [hl], by rw [hl]; omega, h3, fun j hj => ?_⟩)
    rw [hl] at hj
    rw [h4 j (by omega), List.getElem_take]
/-- The rest of a slice. -/
theorem Sl.drop {w : World} {a : Option Addr} {cap n : Nat} {zs : List Int} (h : Sl w (.slice a zs.length cap) zs) (hn : n ≤ zs.length) : Sl w (.slice (if cap = n then a else a.map (·.add n)) (zs.length - n) (cap - n)) (zs.drop n) := by
  rcases h with ⟨h1, rfl⟩ | ⟨a', h1, rfl⟩ | ⟨g, off, cap', h1, h2, h3, h4⟩
  · cases h1
    have : n = 0 := by simpa using hn
    subst this
    exact .inl ⟨by simp, rfl⟩
  · cases h1
    have : n = 0 := by simpa using hn
    subst this
    exact .inr (.inl ⟨a', by simp, rfl⟩)
  · cases h1
    by_cases hc : cap = n
    · rw [if_pos hc]
      refine .inr (.inr ⟨g, off, cap - n, by simp, by simp; omega, by omega, fun j hj => ?_⟩)
      simp at hj; omega
    · rw [if_neg hc]
      refine .inr (.inr ⟨g, off + n, cap - n, by simp [Addr.add_lit], by simp; omega, by omega, fun j hj => ?_⟩)
      rw [List.getElem_drop, ← h4 (n + j) (by simp at hj; omega), Nat.add_assoc]
/-- Of no bytes nothing can turn. -/
theorem Sl.turnedN {S : Nat → Prop} {w w' : World} {v : Value} {zs : List Int} (h : Sl w v zs) (ht : Turned S w w') (hs : zs ≠ [] → ∀ k, blk v k → ¬ S k) : Sl w' v zs := by
  cases zs with
  | nil =>
    rcases h with h | h | ⟨g, off, cap, h1, h2, h3, _⟩
    · exact .inl h
    · exact .inr (.inl h)
    · exact .inr (.inr ⟨g, off, cap, h1, h2, h3, fun j hj => absurd hj (Nat.not_lt_zero j)⟩)
  | cons z r => exact h.turned ht (hs (by simp))
/-- A slice that has a byte lies in a block that is there. -/
theorem Sl.lt {w : World} {v : Value} {zs : List Int} (h : Sl w v zs) (hne : zs ≠ []) : ∀ k, blk v k → k < w.heap.size := by
  rcases h with ⟨_, h⟩ | ⟨_, _, h⟩ | ⟨g, off, cap, rfl, _, _, h4⟩
  · exact absurd h hne
  · exact absurd h hne
  · intro k hk
    have hk : g = k := hk
    subst hk
    have h0 : 0 < zs.length := List.length_pos_iff.2 hne
    exact World.block_lt_of_cell? w _ (h4 0 h0)

/-- 'x[l:l+n]' of a slice of bytes. -/
theorem run_cut2 {P : Program} {t e : TypeId} (hB : ByteTypes P t e) {a : Option Addr} {len cap l n : Nat} (h : l + n ≤ cap) (W : World) :
    (Instr.slice t (.slice a len cap) (some (.int .i64 (l : Int))) (some (.int .i64 ((l : Int) + (n : Int)))) none).run P W = .ok (.slice (if cap = l then a else a.map (·.add l)) n (cap - l)) W := by
  obtain ⟨i, hi, hz, hsz, hby⟩ := hB.info
  have e1 : ((l : Int) + (n : Int)).toNat = l + n := by omega
  have e3 : l + n - l = n := by omega
  have b2 := run_sliceBound (P := P) (w := W) .i64 ((l : Int) + (n : Int)) cap .sliceAcap (by omega) (by omega)
  have b3 := run_sliceBound (P := P) (w := W) .i64 (l : Int) (l + n) .sliceB (by omega) (by omega)
  simp [Instr.slice, run_underlying hB.slice, Instr.sliceBounds, b2, b3, e1, e3, sizeOf, typeInfo, hi, hsz]
theorem blk_if {a : Option Addr} {n m cap len p : Nat} {c : Prop} [Decidable c] : ∀ k, blk (.slice (if c then a else a.map (·.add p)) n m) k → blk (.slice a len cap) k := by
  intro k hk
  by_cases h : c
  · rw [if_pos h] at hk
    cases a with
    | none => exact hk
    | some a => exact hk
  · rw [if_neg h] at hk
    cases a with
    | none => exact hk
    | some a =>
      by_cases h0 : p = 0
      · subst h0; simpa [blk, Addr.add] using hk
      · simpa [blk, Addr.add, h0] using hk
/-- 'x[l:]' of a slice of bytes. -/
theorem run_cutFrom {P : Program} {t e : TypeId} (hB : ByteTypes P t e) {a : Option Addr} {len cap l : Nat} (h : l ≤ len) (W : World) :
    (Instr.slice t (.slice a len cap) (some (.int .i64 (l : Int))) none none).run P W = .ok (.slice (if cap = l then a else a.map (·.add l)) (len - l) (cap - l)) W := by
  obtain ⟨i, hi, hz, hsz, hby⟩ := hB.info
  have b3 := run_sliceBound (P := P) (w := W) .i64 (l : Int) len .sliceB (by omega) (by omega)
  simp [Instr.slice, run_underlying hB.slice, Instr.sliceBounds, b3, sizeOf, typeInfo, hi, hsz]
set_option maxRecDepth 100000 in
/-- bytes.Clone. -/
theorem clone_any {w : World} {x : Value} {zs : List Int} (hx : Sl w x zs) (hl : zs.length ≤ 1099511627776) :
    Calls Tryz.prog 97 #[x] w fun e w' => ∃ V, e = .returned V ∧ Own w' V zs ∧ Turned (fun _ => False) w w' ∧ ∀ k, blk V k → w.heap.size ≤ k := by
  have q : ∀ (w : World) (a : Option Addr) (n c n' c' : Nat), (binOp .eql 25 (.slice a n c) (.slice none n' c')).run Tryz.prog w = .ok (.bool a.isNone) w := fun w a n c n' c' => Lib.run_eql_slice_nil w _ _ a n c n' c' Tryz.underlying25
  obtain ⟨a, cap, hf, hc, hm⟩ := hx.form
  subst hf
  cases a with
  | none =>
    have h0 : zs = [] := by
      rcases hx with ⟨_, h⟩ | ⟨_, h, _⟩ | ⟨_, _, _, h, _⟩
      · exact h
      · cases h
      · cases h
    subst h0
    have hcap : cap = 0 := by
      rcases hx with ⟨h, _⟩ | ⟨_, h, _⟩ | ⟨_, _, _, h, _⟩
      · cases h; rfl
      · cases h
      · cases h
    subst hcap
    go_enter Tryz.func97, Tryz.ntmps97
    go_wp2
    go_ret
    exact ⟨_, rfl, .inl ⟨rfl, rfl⟩, Turned.refl _ _, fun k hk => hk.elim⟩
  | some a =>
    have hx1 : Sl (w.alloc (.cells #[] 5)) (.slice (some a) zs.length cap) zs := hx.turned (alloc0m w _) (fun _ _ h => h)
    have ho0 : Own (w.alloc (.cells #[] 5)) (.slice (some ⟨w.heap.size, 0, none⟩) 0 0) [] := Own.empty w _ _ rfl
    clear hx
    go_enter Tryz.func97, Tryz.ntmps97
    go_wp2_with (at_builtin; refine wpList_append_bytes (by rfl) (.tmp 5) (.tmp 6) (by rfl) Tryz.bytes (by rfl) (by rfl) ho0 hx1 (by simp; omega) ?_; intro v1 w1 ho1 ht1 hb1)
    go_ret
    refine ⟨v1, rfl, by simpa using ho1, (alloc0m w _).trans ht1 (fun _ hk => .inr (Nat.le_of_eq hk)), fun k hk => (hb1 k hk).elim (fun h => Nat.le_of_eq h) (fun h => by simp at h; omega)⟩
end Go.Proofs.YtmnibmgbicnamaaGreatDoor
namespace Go.Proofs.YtmnibmgbicnamaaGreatDoor
open Go.RowKit

theorem Er.lt {w : World} (h : Er w) : 0 < w.heap.size := World.block_lt_of_cell? w _ h
theorem FaultC.ofNew (w : World) (x : Lnk) : FaultC w.heap.size (w.alloc (.cells #[.string x.layer, .int .i64 x.at_, .int .i64 x.code, .nilIface] 133)) (.iface 131 (.pointer (some ⟨w.heap.size, 0, none⟩))) [x] :=
  ⟨_, Nat.le_refl _, rfl, ⟨by simp, by simp, by simp, by simp⟩⟩
theorem at_refuse (a c : Int) (w : World) : Calls Tryz.prog 90 #[.int .i64 a, .int .i64 c] w fun e w' => ∃ v, e = .returned v ∧ FaultC w.heap.size w' v [⟨lyAtom, a, c⟩] ∧ Below w.heap.size w w' := by
  go_enter Tryz.func90, Tryz.ntmps90
  go_wp2
  go_ret
  exact ⟨_, rfl, FaultC.ofNew w ⟨lyAtom, a, c⟩, (Below.refl _ _).alloc (Nat.le_refl _) _⟩
theorem sh_refuse (a c : Int) (w : World) : Calls Tryz.prog 29 #[.int .i64 a, .int .i64 c] w fun e w' => ∃ v, e = .returned v ∧ FaultC w.heap.size w' v (sh a c) ∧ Below w.heap.size w w' := by
  go_enter Tryz.func29, Tryz.ntmps29
  go_wp2
  go_ret
  exact ⟨_, rfl, FaultC.ofNew w ⟨lyShake, a, c⟩, (Below.refl _ _).alloc (Nat.le_refl _) _⟩

set_option maxRecDepth 100000 in
theorem at_small (c : Int) (w : World) : Calls Tryz.prog 117 #[.int .u8 c] w fun e w' => e = .returned (.bool (smallB c)) ∧ w = w' := by
  go_enter Tryz.func117, Tryz.ntmps117
  go_wp2
  all_goals go_ret
  all_goals
    refine ⟨congrArg Ending.returned (congrArg Value.bool ?_), rfl⟩
    rw [Bool.eq_iff_iff]
    simp [smallB]
    try omega
set_option maxRecDepth 100000 in
theorem at_alnum (c : Int) (w : World) : Calls Tryz.prog 108 #[.int .u8 c] w fun e w' => e = .returned (.bool (alnumB c)) ∧ w = w' := by
  have hs := at_small c w
  cases h : smallB c
  all_goals
    rw [h] at hs
    go_enter Tryz.func108, Tryz.ntmps108
    go_wp2_with (go_at_call 117; refine hs.mono ?_; rintro e w' ⟨rfl, rfl⟩)
    all_goals go_ret
    all_goals
      refine ⟨congrArg Ending.returned (congrArg Value.bool ?_), rfl⟩
      rw [Bool.eq_iff_iff]
      simp [alnumB, h]
      try omega
theorem all_snoc (d : Bool) (s : ByteArray) (j : Nat) (h : j < s.size) : ((nums s).take (j + 1)).all (partByte d) = (((nums s).take j).all (partByte d) && partByte d (s[j].toNat : Int)) := by
  have h' : j < (nums s).length := by rw [nums_length]; exact h
  rw [List.take_succ_eq_append_getElem h', List.all_append, nums_get s j h h']
  simp
theorem all_bad (d : Bool) (s : ByteArray) (j : Nat) (h : j < s.size) (hb : partByte d (s[j].toNat : Int) = false) : partB d s = false := by
  have h' : j < (nums s).length := by rw [nums_length]; exact h
  unfold partB
  rw [Bool.and_eq_false_iff]
  left
  rw [List.all_eq_false]
  exact ⟨(nums s)[j], List.getElem_mem h', by rw [nums_get s j h h', hb]; decide⟩
set_option maxRecDepth 100000 in
set_option maxHeartbeats 1600000 in
theorem at_part (s : ByteArray) (hs : s.size ≤ 4611686018427387904) (d : Bool) (w : World) : Calls Tryz.prog 89 #[.string s, .bool d] w fun e w' => e = .returned (.bool (partB d s)) ∧ w = w' := by
  go_enter Tryz.func89, Tryz.ntmps89
  go_wp2_with fail
  go_loopw [9] (fun i wr => ∃ j : Nat, j ≤ s.size ∧ i = .int .i64 j ∧ ((nums s).take j).all (partByte d) = true ∧ w = wr) (fun i _ => s.size - (intOf i).toNat)
  case atStart => exact ⟨0, Nat.zero_le _, rfl, rfl, rfl⟩
  case round =>
    obtain ⟨j, hj, rfl, hall, rfl⟩ := hrel
    by_cases hlt : j < s.size
    · have hlti : (j : Int) < (s.size : Int) := by omega
      have HN : Hid (partByte d (s[j].toNat : Int) = true → ((nums s).take (j + 1)).all (partByte d) = true) := fun h => by rw [all_snoc d s j hlt, hall, h]; rfl
      have HB : Hid (partByte d (s[j].toNat : Int) = false → partB d s = false) := all_bad d s j hlt
      have hal := at_alnum (s[j].toNat : Int) w
      clear hall
      cases ha : alnumB (s[j].toNat : Int) with
      | true =>
        rw [ha] at hal
        have hn := HN.out (by simp [partByte, ha])
        have HH : Hid (((nums s).take (j + 1)).all (partByte d) = true) := hn
        clear hn HN HB ha
        go_wp2_with (go_at_call 108; refine hal.mono ?_; rintro e w' ⟨rfl, rfl⟩)
        go_roundw
        case rel => exact ⟨j + 1, by omega, by go_num, HH.out, trivial⟩
        case measure => simp [intOf]; omega
      | false =>
        rw [ha] at hal
        have HA : Hid (alnumB (s[j].toNat : Int) = false) := ha
        clear ha
        by_cases h95 : (s[j].toNat : Int) = 95
        · have HH : Hid (((nums s).take (j + 1)).all (partByte d) = true) := HN.out (by simp [partByte, h95])
          have HX : Hid ((s[j].toNat : Int) = 95) := h95
          clear HN HB HA h95
          go_wp2_with (go_at_call 108; refine hal.mono ?_; rintro e w' ⟨rfl, rfl⟩)
          all_goals first
            | (go_roundw
               case rel => exact ⟨j + 1, by omega, by go_num, HH.out, trivial⟩
               case measure => simp [intOf]; omega)
            | exact absurd HX.out (by assumption)
        · by_cases h45 : (s[j].toNat : Int) = 45
          · have HH : Hid (((nums s).take (j + 1)).all (partByte d) = true) := HN.out (by simp [partByte, h45])
            have HX : Hid ((s[j].toNat : Int) = 45) := h45
            clear HN HB HA h45
            go_wp2_with (go_at_call 108; refine hal.mono ?_; rintro e w' ⟨rfl, rfl⟩)
            all_goals first
              | (go_roundw
                 case rel => exact ⟨j + 1, by omega, by go_num, HH.out, trivial⟩
                 case measure => simp [intOf]; omega)
              | exact absurd HX.out (by assumption)
          · by_cases h46 : d = true ∧ (s[j].toNat : Int) = 46
            · obtain ⟨rfl, h46⟩ := h46
              have HH : Hid (((nums s).take (j + 1)).all (partByte true) = true) := HN.out (by simp [partByte, h46])
              have HX : Hid ((s[j].toNat : Int) = 46) := h46
              clear HN HB HA h46
              go_wp2_with (go_at_call 108; refine hal.mono ?_; rintro e w' ⟨rfl, rfl⟩)
              all_goals first
                | (go_roundw
                   case rel => exact ⟨j + 1, by omega, by go_num, HH.out, trivial⟩
                   case measure => simp [intOf]; omega)
                | exact absurd HX.out (by assumption)
                | (exfalso; rename_i hx; simp [HX.out] at hx)
            · have HH : Hid (partB d s = false) := HB.out (by simp only [partByte, HA.out, decide_eq_false h95, decide_eq_false h45, Bool.false_or]; cases d <;> simp_all)
              clear HN HB HA
              have q95 : ((s[j].toNat : Int) != 95) = true := by simp [h95]
              have q45 : ((s[j].toNat : Int) != 45) = true := by simp [h45]
              cases d with
              | false =>
                clear h46
                go_wp2_with (go_at_call 108; refine hal.mono ?_; rintro e w' ⟨rfl, rfl⟩)
                go_ret
                exact ⟨by rw [HH.out]; rfl, rfl⟩
              | true =>
                have h46 : ¬ (s[j].toNat : Int) = 46 := by simpa using h46
                have q46 : ((s[j].toNat : Int) == 46) = false := by simp [h46]
                go_wp2_with (go_at_call 108; refine hal.mono ?_; rintro e w' ⟨rfl, rfl⟩)
                go_ret
                exact ⟨by rw [HH.out]; rfl, rfl⟩
    · have hge : ¬ (j : Int) < (s.size : Int) := by omega
      obtain rfl : j = s.size := by omega
      rw [List.take_of_length_le (by rw [nums_length]; exact Nat.le_refl _)] at hall
      have hp : partB d s = decide (s.size ≠ 0) := by unfold partB; rw [hall, Bool.true_and]
      have HP : Hid (partB d s = decide (s.size ≠ 0)) := hp
      clear hp
      clear hall
      by_cases h0 : s.size = 0
      · have he := empty_size h0
        subst he
        go_wp2
        go_ret
        exact ⟨by rw [HP.out]; rfl, rfl⟩
      · have hne := empty_list' h0
        go_wp2
        go_ret
        refine ⟨?_, rfl⟩
        rw [HP.out, decide_eq_true h0]
        rfl
end Go.Proofs.YtmnibmgbicnamaaGreatDoor
namespace Go.Proofs.YtmnibmgbicnamaaGreatDoor
open Go.RowKit

set_option maxRecDepth 100000 in
set_option maxHeartbeats 1600000 in
/-- strings.Cut at '@'. -/
theorem cut_at (s : ByteArray) (hs : s.size ≤ 4611686018427387904) (w : World) : Calls Tryz.prog 107 #[.string s, .string ⟨#[64]⟩] w fun e w' =>
    ((64 : UInt8) ∉ s.data.toList ∧ e = .returned (.tuple #[.string s, .string ⟨#[]⟩, .bool false]) ∨ ∃ a b : ByteArray, s.data.toList = a.data.toList ++ 64 :: b.data.toList ∧ (64 : UInt8) ∉ a.data.toList ∧ e = .returned (.tuple #[.string a, .string b, .bool true])) ∧ ∃ n, w' = w.drewN n := by
  have hix := Tryz.stringslite_Index_one s 64 w
  rcases indexByte_cases 64 s.data.toList with ⟨h1, h2⟩ | ⟨l1, l2, h1, h2, h3⟩
  · rw [h1] at hix
    have HM : Hid ((64 : UInt8) ∉ s.data.toList) := h2
    clear h1 h2
    go_enter Tryz.func107, Tryz.ntmps107
    go_wp2_with fail
    refine hix.mono ?_
    rintro e w' ⟨rfl, rfl⟩
    go_wp2
    go_ret3
    exact ⟨.inl ⟨HM.out, rfl⟩, 0, rfl⟩
  · rw [h1] at hix
    have hz : s.size = l1.length + 1 + l2.length := by
      have := congrArg List.length h2
      simp at this
      have e : s.data.size = s.size := rfl
      omega
    obtain ⟨n, hn⟩ : ∃ n, n = l1.length := ⟨_, rfl⟩
    have HM : Hid (s.data.toList = l1 ++ 64 :: l2 ∧ (64 : UInt8) ∉ l1 ∧ n = l1.length) := ⟨h2, h3, hn⟩
    rw [← hn] at hix hz
    clear hn
    have c1 : (0 : Int) ≤ (n : Int) := by omega
    have c2 : (n : Int) ≤ (s.size : Int) := by omega
    have c3 : (0 : Int) ≤ (n : Int) + 1 := by omega
    have c4 : (n : Int) + 1 ≤ (s.size : Int) := by omega
    clear h1 h2 h3
    go_enter Tryz.func107, Tryz.ntmps107
    go_wp2_with fail
    refine hix.mono ?_
    rintro e w' ⟨rfl, rfl⟩
    go_wp2_with fail
    go_quiet (fail)
    go_wp2
    go_ret3
    obtain ⟨h2, h3, rfl⟩ := HM.out
    have e1 : (s.extract 0 l1.length).data.toList = l1 := by simp [h2]
    have e2 : (s.extract (l1.length + 1) (l1.length + 1 + l2.length)).data.toList = l2 := by simp [h2]
    exact ⟨.inr ⟨_, _, by rw [e1, e2]; exact h2, by rw [e1]; exact h3, rfl⟩, _, rfl⟩

theorem drewN_below (w : World) (n : Nat) : Below w.heap.size w (w.drewN n) := ⟨rfl, rfl, rfl, Nat.le_refl _, fun _ _ => rfl⟩
set_option maxRecDepth 100000 in
theorem cut_any (s : ByteArray) (hs : s.size ≤ 4611686018427387904) (w : World) : Calls Tryz.prog 88 #[.string s, .string ⟨#[64]⟩] w fun e w' =>
    ((64 : UInt8) ∉ s.data.toList ∧ e = .returned (.tuple #[.string s, .string ⟨#[]⟩, .bool false]) ∨ ∃ a b : ByteArray, s.data.toList = a.data.toList ++ 64 :: b.data.toList ∧ (64 : UInt8) ∉ a.data.toList ∧ e = .returned (.tuple #[.string a, .string b, .bool true])) ∧ ∃ n, w' = w.drewN n := by
  have hc := cut_at s hs w
  go_enter Tryz.func88, Tryz.ntmps88
  go_wp2_with fail
  refine hc.mono ?_
  rintro e w1 ⟨h, n, rfl⟩
  rcases h with ⟨h, rfl⟩ | ⟨a, b, h1, h2, rfl⟩
  · go_wp2
    go_ret3
    exact ⟨.inl ⟨h, rfl⟩, n, rfl⟩
  · have HH : Hid (s.data.toList = a.data.toList ++ 64 :: b.data.toList ∧ (64 : UInt8) ∉ a.data.toList) := ⟨h1, h2⟩
    clear h1 h2
    go_wp2
    go_ret3
    exact ⟨.inr ⟨a, b, HH.out.1, HH.out.2, rfl⟩, n, rfl⟩

set_option maxRecDepth 100000 in
set_option maxHeartbeats 1600000 in
/-- The program's Node. -/
theorem at_node (s : ByteArray) (hs : s.size ≤ 4611686018427387904) (w : World) : Calls Tryz.prog 66 #[.string s] w fun e w' => ∃ x y v, e = .returned (.tuple #[.string x, .string y, v]) ∧ FaultC w.heap.size w' v (if nodeOk s = true then [] else [⟨lyAtom, 0, 24⟩]) ∧ Below w.heap.size w w' := by
  have hc := cut_any s hs w
  obtain ⟨ls, hls⟩ : ∃ ls, ls = if nodeOk s = true then [] else [(⟨lyAtom, 0, 24⟩ : Lnk)] := ⟨_, rfl⟩
  rw [← hls]
  have HLS : Hid (ls = if nodeOk s = true then [] else [(⟨lyAtom, 0, 24⟩ : Lnk)]) := hls
  clear hls
  go_enter Tryz.func66, Tryz.ntmps66
  go_wp2_with fail
  refine hc.mono ?_
  rintro e w1 ⟨h, n, rfl⟩
  have hbn := drewN_below w n
  have HBN : Hid (Below w.heap.size w (w.drewN n)) := hbn
  clear hbn hc
  generalize w.drewN n = w1 at HBN ⊢
  have RET : Hid (∀ (v : Value) (w2 : World), nodeOk s = false → FaultC w1.heap.size w2 v [⟨lyAtom, 0, 24⟩] → Below w1.heap.size w1 w2 → FaultC w.heap.size w2 v ls ∧ Below w.heap.size w w2) := fun v w2 hn hf hb => by
    rw [HLS.out, if_neg (by rw [hn]; decide)]
    exact ⟨hf.mono HBN.out.size, HBN.out.trans (hb.mono HBN.out.size)⟩
  rcases h with ⟨h, rfl⟩ | ⟨a, b, h1, h2, rfl⟩
  · have hno := node_miss s h
    have HNO : Hid (nodeOk s = false) := hno
    clear hno h
    go_wp2_with fail
    refine (at_refuse _ _ _).mono ?_
    rintro e w2 ⟨v, rfl, hf, hb⟩
    have HF : Hid (FaultC w1.heap.size w2 v [⟨lyAtom, 0, 24⟩]) := hf
    obtain ⟨pb, _, rfl, _⟩ := hf
    go_wp2
    go_ret3
    exact ⟨_, _, _, rfl, RET.out _ _ HNO.out HF.out hb⟩
  · have hno := node_hit s a b h1 h2
    have hz : s.size = a.size + 1 + b.size := by
      have hn : nums s = nums a ++ 64 :: nums b := by simp only [nums, h1]; simp
      have := congrArg List.length hn
      simp only [nums_length, List.length_append, List.length_cons] at this
      omega
    have hpa := at_part a (by omega) false
    have hpb := at_part b (by omega) true
    clear h1 h2
    by_cases h64 : s.size ≤ 64
    · have h64i : ¬ (64 : Int) < (s.size : Int) := by omega
      rw [decide_eq_true h64, Bool.true_and] at hno
      cases ha : partB false a with
      | false =>
        rw [ha] at hno hpa
        have HNO : Hid (nodeOk s = false) := hno
        clear hno ha
        go_wp2_with fail
        refine (hpa _).mono ?_
        rintro e w1' ⟨rfl, rfl⟩
        go_wp2_with fail
        refine (at_refuse _ _ _).mono ?_
        rintro e w2 ⟨v, rfl, hf, hb⟩
        have HF : Hid (FaultC w1.heap.size w2 v [⟨lyAtom, 0, 24⟩]) := hf
        obtain ⟨pb, _, rfl, _⟩ := hf
        go_wp2
        go_ret3
        exact ⟨_, _, _, rfl, RET.out _ _ HNO.out HF.out hb⟩
      | true =>
        rw [ha, Bool.true_and] at hno
        rw [ha] at hpa
        clear ha
        cases hb : partB true b with
        | false =>
          rw [hb] at hno hpb
          have HNO : Hid (nodeOk s = false) := hno
          clear hno hb
          go_wp2_with fail
          refine (hpa _).mono ?_
          rintro e w1' ⟨rfl, rfl⟩
          go_wp2_with fail
          refine (hpb _).mono ?_
          rintro e w1' ⟨rfl, rfl⟩
          go_wp2_with fail
          refine (at_refuse _ _ _).mono ?_
          rintro e w2 ⟨v, rfl, hf, hb⟩
          have HF : Hid (FaultC w1.heap.size w2 v [⟨lyAtom, 0, 24⟩]) := hf
          obtain ⟨pb, _, rfl, _⟩ := hf
          go_wp2
          go_ret3
          exact ⟨_, _, _, rfl, RET.out _ _ HNO.out HF.out hb⟩
        | true =>
          rw [hb] at hno hpb
          have HNO : Hid (nodeOk s = true) := hno
          clear hno hb
          go_wp2_with fail
          refine (hpa _).mono ?_
          rintro e w1' ⟨rfl, rfl⟩
          go_wp2_with fail
          refine (hpb _).mono ?_
          rintro e w1' ⟨rfl, rfl⟩
          go_wp2
          go_ret3
          exact ⟨_, _, _, rfl, by rw [HLS.out, if_pos HNO.out]; rfl, HBN.out⟩
    · have h64i : (64 : Int) < (s.size : Int) := by omega
      rw [decide_eq_false h64, Bool.false_and, Bool.false_and] at hno
      have HNO : Hid (nodeOk s = false) := hno
      clear hno
      go_wp2_with fail
      refine (at_refuse _ _ _).mono ?_
      rintro e w2 ⟨v, rfl, hf, hb⟩
      have HF : Hid (FaultC w1.heap.size w2 v [⟨lyAtom, 0, 24⟩]) := hf
      obtain ⟨pb, _, rfl, _⟩ := hf
      go_wp2
      go_ret3
      exact ⟨_, _, _, rfl, RET.out _ _ HNO.out HF.out hb⟩

set_option maxRecDepth 100000 in
set_option maxHeartbeats 1600000 in
theorem sh_wrap_one (a : Int) (y : Lnk) {B : Nat} {w : World} {v : Value} (her : Er w) (hv : FaultC B w v [y]) : Calls Tryz.prog 67 #[.int .i64 a, v] w fun e w' => ∃ v', e = .returned v' ∧ FaultC B w' v' [⟨lyShake, a, y.code⟩, y] ∧ Below w.heap.size w w' := by
  obtain ⟨pb, hpB, rfl, hf⟩ := hv
  have hlt := hf.lt
  have HF : Hid (FCell w pb y.layer y.at_ y.code .nilIface) := hf
  clear hf
  go_enter Tryz.func67, Tryz.ntmps67
  go_wp2_with fail
  refine (as_fault ⟨pb, 0, none⟩ w.heap.size (.pointer none) _ ?_ (by simp) (by simp)).mono ?_
  · rw [World.cell?_alloc_lt _ _ ⟨0, 0, none⟩ her.lt]; exact her
  rintro e w1 ⟨rfl, ht, hb, hz⟩
  have hbw : Below w.heap.size w w1 := ((Below.refl _ _).alloc (Nat.le_refl _) _).trans hb
  simp at hz
  have hf1 := HF.out.below hbw hlt
  obtain ⟨k0, k1, k2, k3⟩ := hf1
  have HB : Hid (Below w.heap.size w w1) := hbw
  clear hbw hb
  go_wp2
  go_ret
  refine ⟨_, rfl, ⟨w1.heap.size, pb, by omega, hpB, rfl, ⟨by simp; rfl, by simp, by simp, by simp⟩, ?_⟩, HB.out.alloc (by omega) _⟩
  exact (HF.out.below HB.out hlt).below ((Below.refl w1.heap.size w1).alloc (Nat.le_refl _) _) (by omega)
set_option maxRecDepth 100000 in
theorem sh_wrap_nil (a : Int) (w : World) : Calls Tryz.prog 67 #[.int .i64 a, .nilIface] w fun e w' => e = .returned .nilIface ∧ Below w.heap.size w w' := by
  go_enter Tryz.func67, Tryz.ntmps67
  go_wp2_with fail
  refine (as_nil _ _).mono ?_
  rintro e w1 ⟨rfl, rfl⟩
  go_wp2
  go_ret
  exact ⟨rfl, (Below.refl _ _).alloc (Nat.le_refl _) _⟩
set_option maxRecDepth 100000 in
/-- The program's look at a name. -/
theorem sh_name (a : Int) (s : ByteArray) (hs : s.size ≤ 4611686018427387904) (w : World) (her : Er w) : Calls Tryz.prog 31 #[.int .i64 a, .string s] w fun e w' => ∃ v, e = .returned v ∧ FaultC w.heap.size w' v (if nodeOk s = true then [] else shName a) ∧ Below w.heap.size w w' := by
  have hn := at_node s hs w
  cases hok : nodeOk s with
  | true =>
    rw [hok] at hn
    go_enter Tryz.func31, Tryz.ntmps31
    go_wp2_with fail
    refine hn.mono ?_
    rintro e w1 ⟨x, y, v, rfl, hf, hb⟩
    have hf : v = .nilIface := hf
    subst hf
    have HB : Hid (Below w.heap.size w w1) := hb
    clear hb hn
    go_wp2_with fail
    refine (sh_wrap_nil _ _).mono ?_
    rintro e w2 ⟨rfl, hb2⟩
    go_wp2
    go_ret
    exact ⟨_, rfl, rfl, HB.out.trans (hb2.mono HB.out.size)⟩
  | false =>
    rw [hok] at hn
    go_enter Tryz.func31, Tryz.ntmps31
    go_wp2_with fail
    refine hn.mono ?_
    rintro e w1 ⟨x, y, v, rfl, hf, hb⟩
    have hf : FaultC w.heap.size w1 v [⟨lyAtom, 0, 24⟩] := hf
    have hw := sh_wrap_one a ⟨lyAtom, 0, 24⟩ (her.below hb) hf
    have HB : Hid (Below w.heap.size w w1) := hb
    obtain ⟨pb, _, rfl, _⟩ := hf
    clear hb hn
    go_wp2_with fail
    refine hw.mono ?_
    rintro e w2 ⟨v2, rfl, hf2, hb2⟩
    go_wp2
    go_ret
    exact ⟨_, rfl, hf2, HB.out.trans (hb2.mono HB.out.size)⟩
end Go.Proofs.YtmnibmgbicnamaaGreatDoor
