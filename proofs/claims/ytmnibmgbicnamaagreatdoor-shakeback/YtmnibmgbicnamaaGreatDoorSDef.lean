/-
  Layer 8 (shake), of lists of bytes alone: names of nodes, messages, what is written and read, what a side does.
-/
import Derived.Test.YtmnibmgbicnamaaGreatDoorMDef
import Derived.Laws.BytesArg
namespace Go.Proofs.YtmnibmgbicnamaaGreatDoor
open Go.RowKit

/-- One fault of a chain. -/
structure Lnk where
  layer : ByteArray
  at_ : Int
  code : Int
def lyShake : ByteArray := ⟨#[115, 104, 97, 107, 101]⟩
def lyAtom : ByteArray := ⟨#[97, 116, 111, 109]⟩
def lyMix : ByteArray := ⟨#[109, 105, 120]⟩
/-- A refusal of layer shake's own. -/
def sh (a c : Int) : List Lnk := [⟨lyShake, a, c⟩]
/-- A refusal of a name that is none. -/
def shName (a : Int) : List Lnk := [⟨lyShake, a, 24⟩, ⟨lyAtom, 0, 24⟩]
/-- A refusal of a cookie that is none. -/
def shCookie (x : Int × Int) : List Lnk := [⟨lyShake, 0, x.2⟩, ⟨lyMix, x.1, x.2⟩]

/-- May a byte stand in a name (but '@', '-' and '.')? -/
def inWordB (c : Int) : Bool := (decide (97 ≤ c) && decide (c ≤ 122)) || (decide (65 ≤ c) && decide (c ≤ 90)) || (decide (48 ≤ c) && decide (c ≤ 57)) || decide (c = 95) || decide (c = 64)
/-- A name's bytes gone through: where the last '@' stands, and whether all may be. -/
def nodeScan : List Int → Nat → Int → Bool → Int × Bool
  | [], _, a, g => (a, g)
  | c :: r, i, a, g => if c = 64 then nodeScan r (i + 1) i (g && decide (a < 0)) else nodeScan r (i + 1) a (g && (inWordB c || decide (c = 45) || (decide (c = 46) && decide (0 ≤ a))))
def nodeOk (s : ByteArray) : Bool :=
  let p := nodeScan (nums s) 0 (-1) (decide (3 ≤ s.size) && decide (s.size ≤ 64))
  p.2 && decide (1 ≤ p.1) && decide (p.1 ≠ (s.size : Int) - 1)

/-- The flags without which a node may not. -/
def flagsNeeded : Int := 4345626892
def lacksB (f : Int) : Bool := decide (bits .and .u64 f flagsNeeded ≠ flagsNeeded)

def stOk : ByteArray := ⟨#[111, 107]⟩
def stSim : ByteArray := ⟨#[111, 107, 95, 115, 105, 109, 117, 108, 116, 97, 110, 101, 111, 117, 115]⟩
def stNok : ByteArray := ⟨#[110, 111, 107]⟩
def stNot : ByteArray := ⟨#[110, 111, 116, 95, 97, 108, 108, 111, 119, 101, 100]⟩
def stAlive : ByteArray := ⟨#[97, 108, 105, 118, 101]⟩
def isSt (s : ByteArray) : Bool := decide (s = stOk) || decide (s = stSim) || decide (s = stNok) || decide (s = stNot) || decide (s = stAlive)

/-- A message. -/
structure Msg where
  kind : Int
  flags : Int
  creation : Int
  challenge : Int
  name : ByteArray
  status : ByteArray
  digest : List Int
def Msg.zero : Msg := ⟨0, 0, 0, 0, ⟨#[]⟩, ⟨#[]⟩, []⟩
/-- A message's numbers and bytes are such. -/
structure Msg.Ok (m : Msg) : Prop where
  flags : U64 m.flags
  creation : 0 ≤ m.creation ∧ m.creation < 4294967296
  challenge : 0 ≤ m.challenge ∧ m.challenge < 4294967296
  digest : ∀ z ∈ m.digest, 0 ≤ z ∧ z < 256

/-- May a message of its kind have what it has? -/
def fits (m : Msg) : Prop :=
  (m.kind = 1 ∨ m.kind = 3 ∨ (m.flags = 0 ∧ m.creation = 0 ∧ m.name.size = 0)) ∧ (m.kind = 3 ∨ m.kind = 4 ∨ m.challenge = 0) ∧
  (if m.kind = 2 then isSt m.status = true else m.status.size = 0) ∧ (if m.kind = 4 ∨ m.kind = 5 then m.digest.length = 16 else m.digest.length = 0 ∧ 1 ≤ m.kind ∧ m.kind ≤ 5)
instance (m : Msg) : Decidable (fits m) := by unfold fits; infer_instance
def be2 (n : Int) : List Int := [n / 256 % 256, n % 256]
def be4 (n : Int) : List Int := [n / 16777216 % 256, n / 65536 % 256, n / 256 % 256, n % 256]
/-- A message's bytes. -/
def bytesOfMsg (m : Msg) : List Int :=
  if m.kind = 2 then 115 :: nums m.status
  else if m.kind = 4 then 114 :: (be4 m.challenge ++ m.digest)
  else if m.kind = 5 then 97 :: m.digest
  else 78 :: (bytes8 m.flags ++ ((if m.kind = 3 then be4 m.challenge else []) ++ (be4 m.creation ++ (be2 m.name.size ++ nums m.name))))
def writeErr (m : Msg) : List Lnk := if ¬ fits m then sh 0 1 else if (m.kind = 1 ∨ m.kind = 3) ∧ nodeOk m.name = false then shName 0 else []
def writeOf (m : Msg) : List Int := if ¬ fits m then [] else if (m.kind = 1 ∨ m.kind = 3) ∧ nodeOk m.name = false then [] else bytesOfMsg m

def letterOf (k : Int) : Int := if k = 1 ∨ k = 3 then 78 else if k = 2 then 115 else if k = 4 then 114 else 97
def headLen (k : Int) : Nat := if k = 1 then 15 else if k = 3 then 19 else if k = 4 then 21 else 17
/-- The number in n bytes. -/
def numAt (b : List Int) (i n : Nat) : Int := ((b.drop i).take n).foldl (fun v z => v * 256 + z) 0
def endOf (k : Int) (b : List Int) : Nat := if k = 1 ∨ k = 3 then headLen k + (numAt b (headLen k - 2) 2).toNat else headLen k
/-- What Read tells: its refusal, and the message. -/
def readOf (k : Int) (b : List Int) : List Lnk × Msg :=
  if k < 1 ∨ 5 < k then (sh 0 1, .zero)
  else if b.length = 0 ∨ b.getD 0 0 ≠ letterOf k then (sh 0 160, .zero)
  else if k = 2 then (if isSt (strOfNums (b.drop 1)) = true then ([], { Msg.zero with kind := 2, status := strOfNums (b.drop 1) }) else (sh 1 160, .zero))
  else if b.length < headLen k then (sh b.length 160, .zero)
  else if b.length < endOf k b then (sh b.length 160, .zero)
  else if endOf k b < b.length then (sh (endOf k b) 160, .zero)
  else if k = 4 then ([], { Msg.zero with kind := 4, challenge := numAt b 1 4, digest := b.drop 5 })
  else if k = 5 then ([], { Msg.zero with kind := 5, digest := b.drop 1 })
  else if nodeOk (strOfNums (b.drop (headLen k))) = false then (shName (headLen k), .zero)
  else ([], { Msg.zero with kind := k, flags := numAt b 1 8, creation := numAt b (headLen k - 6) 4, challenge := if k = 3 then numAt b 9 4 else 0, name := strOfNums (b.drop (headLen k)) })

/-- A node as the handshake shows it. -/
structure Pr where
  name : ByteArray
  flags : Int
  creation : Int
def Pr.zero : Pr := ⟨⟨#[]⟩, 0, 0⟩
/-- A side. -/
structure Sd where
  state : Int
  peer : Pr
  simult : Bool
  me : Pr
  want : ByteArray
  cookie : ByteArray
  challenge : Nat
/-- Which refusal a side's making meets. -/
def madeErr (me : Pr) (peer : ByteArray) (begins : Bool) (cookie : ByteArray) : List Lnk :=
  if nodeOk me.name = false then shName 0 else if begins = true ∧ nodeOk peer = false then shName 0
  else if lacksB me.flags = true then sh 0 162 else if me.creation = 0 then sh 0 1 else if begins = true ∧ peer = me.name then sh 0 6
  else match cookieErr cookie with
    | some x => shCookie x
    | none => []
def madeOf (state : Int) (me : Pr) (peer cookie : ByteArray) (challenge : Nat) : Sd := ⟨state, .zero, false, me, peer, cookie, challenge⟩
def nameMsg (p : Pr) : Msg := { Msg.zero with kind := 1, flags := p.flags, creation := p.creation, name := p.name }
def Sd.kind (s : Sd) : Int := if s.state = 1 then 2 else if s.state = 2 then 3 else if s.state = 3 then 5 else if s.state = 4 then 1 else 4
def Sd.dead (s : Sd) : Sd := { s with state := 8, peer := .zero, simult := false }
/-- What a message does: a refusal's number (0: none), the side, the messages to be sent. -/
def Sd.took (s : Sd) (m : Msg) : Int × Sd × List Msg :=
  if m.kind = 2 then (if m.status = stOk ∨ m.status = stSim then (0, { s with state := 2, simult := decide (m.status = stSim) }, []) else (164, s, []))
  else if m.kind = 3 then (if m.name = s.want ∧ lacksB m.flags = false then (0, { s with state := 3, peer := ⟨m.name, m.flags, m.creation⟩ }, [{ Msg.zero with kind := 4, challenge := s.challenge, digest := digestOf s.cookie m.challenge.toNat }]) else (162, s, []))
  else if m.kind = 1 then (0, { s with state := 5, peer := ⟨m.name, m.flags, m.creation⟩ }, [])
  else if m.digest = digestOf s.cookie s.challenge then (0, { s with state := 7 }, if m.kind = 5 then [] else [{ Msg.zero with kind := 5, digest := digestOf s.cookie m.challenge.toNat }])
  else (163, s, [])
/-- Take: the refusal, the side, the bytes to be sent. -/
def Sd.take (s : Sd) (b : List Int) : List Lnk × Sd × List (List Int) :=
  if s.state = 8 then (sh 0 8, s, []) else if s.state = 7 ∨ s.state = 5 then (sh 0 161, s, [])
  else if (readOf s.kind b).1 ≠ [] then ((readOf s.kind b).1, s.dead, [])
  else if (s.took (readOf s.kind b).2).1 = 0 then ([], (s.took (readOf s.kind b).2).2.1, (s.took (readOf s.kind b).2).2.2.map writeOf)
  else (sh 0 (s.took (readOf s.kind b).2).1, s.dead, [])
def Sd.statusFor (s : Sd) (st : ByteArray) : ByteArray := if lacksB s.peer.flags = true ∨ s.peer.creation = 0 ∨ s.peer.name = s.me.name then stNot else st
def statusMsg (st : ByteArray) : Msg := { Msg.zero with kind := 2, status := st }
def Sd.challengeMsg (s : Sd) : Msg := { Msg.zero with kind := 3, flags := s.me.flags, challenge := s.challenge, creation := s.me.creation, name := s.me.name }
/-- Answer: likewise. -/
def Sd.answer (s : Sd) (st : ByteArray) : List Lnk × Sd × List (List Int) :=
  if s.state = 8 then (sh 0 8, s, []) else if s.state ≠ 5 then (sh 0 161, s, []) else if isSt st = false then (sh 0 1, s, [])
  else if s.statusFor st = stOk ∨ s.statusFor st = stSim then ([], { s with state := 6, simult := decide (s.statusFor st = stSim) }, [writeOf (statusMsg (s.statusFor st)), writeOf s.challengeMsg])
  else ([], s.dead, [writeOf (statusMsg (s.statusFor st))])
instance : DecidableEq Lnk := fun a b => by
  cases a; cases b
  simp only [Lnk.mk.injEq]
  infer_instance
end Go.Proofs.YtmnibmgbicnamaaGreatDoor
