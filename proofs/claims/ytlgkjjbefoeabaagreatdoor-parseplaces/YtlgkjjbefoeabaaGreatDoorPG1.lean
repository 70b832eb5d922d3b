/-
  Layer 11 (parse), of lists alone: the tree of any tokens, as the program's parser reads it, or the first token that may not stand there.
-/
import Derived.Test.YtlgkjjbefoeabaaGreatDoorPK
namespace Go.Proofs.YtlgkjjbefoeabaaGreatDoor

/-- A parser's place and nodes. -/
structure Ps where
  i : Nat
  N : List Sh
abbrev PM (α : Type) := Ps → Except Nat (α × Ps)
def PM.ret {α : Type} (a : α) : PM α := fun s => .ok (a, s)
def PM.bind {α β : Type} (m : PM α) (k : α → PM β) : PM β := fun s =>
  match m s with
  | .error e => .error e
  | .ok (a, s') => k a s'
def sgn (T : List Tk) (x : ByteArray) (i : Nat) : Bool := isTk 5 x (tokAt T i)
def wrd (T : List Tk) (x : ByteArray) (i : Nat) : Bool := isTk 4 x (tokAt T i)
def atm (T : List Tk) (x : ByteArray) (i : Nat) : Bool := isTk 1 x (tokAt T i)
def knd (T : List Tk) (k : Int) (i : Nat) : Bool := decide ((tokAt T i).kind = k)
def pTok (T : List Tk) : PM Tk := fun s => .ok (tokAt T s.i, s)
def pNeed (T : List Tk) (b : Nat → Bool) : PM Tk := fun s => if b s.i then .ok (tokAt T s.i, ⟨s.i + 1, s.N⟩) else .error s.i
def pSkip (k : Nat) : PM Unit := fun s => .ok ((), ⟨s.i + k, s.N⟩)
def pAdd (x : Sh) : PM Nat := fun s => .ok (s.N.length, ⟨s.i, s.N ++ [x]⟩)
def pIf {α : Type} (b : Nat → Bool) (m k : PM α) : PM α := fun s => if b s.i then m s else k s
/-- Phrases that call one another. -/
inductive Ph where
  | module | export | function | fclause | clause | cclause | conj | guard | body | operand
  | expr (least : Int)
/-- An operator's level, by its text. -/
def levS (x : ByteArray) : Int :=
  if x = ⟨#[61]⟩ ∨ x = ⟨#[33]⟩ then 1 else if x = ⟨#[61, 61]⟩ ∨ x = ⟨#[47, 61]⟩ ∨ x = ⟨#[61, 60]⟩ ∨ x = ⟨#[60]⟩ ∨ x = ⟨#[62, 61]⟩ ∨ x = ⟨#[62]⟩ ∨ x = ⟨#[61, 58, 61]⟩ ∨ x = ⟨#[61, 47, 61]⟩ then 4
  else if x = ⟨#[43, 43]⟩ ∨ x = ⟨#[45, 45]⟩ then 5 else if x = ⟨#[43]⟩ ∨ x = ⟨#[45]⟩ then 6 else if x = ⟨#[42]⟩ then 7 else 0
def levW (x : ByteArray) : Int :=
  if x = ⟨#[111, 114, 101, 108, 115, 101]⟩ then 2 else if x = ⟨#[97, 110, 100, 97, 108, 115, 111]⟩ then 3 else if x = ⟨#[111, 114]⟩ ∨ x = ⟨#[120, 111, 114]⟩ then 6 else if x = ⟨#[100, 105, 118]⟩ ∨ x = ⟨#[114, 101, 109]⟩ ∨ x = ⟨#[97, 110, 100]⟩ then 7 else 0
def lev (t : Tk) : Int := if t.kind = 5 then levS t.text else if t.kind = 4 then levW t.text else 0
def sidesR (a : Int) : Int := if a = 4 ∨ a = 6 ∨ a = 7 then a + 1 else a
def sidesB (a : Int) : Int := if a = 6 ∨ a = 7 then a else a - 1
/-- An operator's node. -/
def opSh (t : Tk) (kids : List Int) : Sh :=
  if t.text = ⟨#[61]⟩ then ⟨7, ⟨#[]⟩, ⟨#[]⟩, 0, kids, t.at_⟩ else if t.text = ⟨#[33]⟩ then ⟨11, ⟨#[]⟩, ⟨#[]⟩, 0, kids, t.at_⟩
  else if t.text = ⟨#[111, 114, 101, 108, 115, 101]⟩ then ⟨17, ⟨#[]⟩, ⟨#[]⟩, 0, kids, t.at_⟩ else if t.text = ⟨#[97, 110, 100, 97, 108, 115, 111]⟩ then ⟨16, ⟨#[]⟩, ⟨#[]⟩, 0, kids, t.at_⟩ else ⟨15, t.text, ⟨#[]⟩, 0, kids, t.at_⟩
section
variable (T : List Tk)
def rowL (x : ByteArray) (ph : PM Nat) : Nat → List Int → PM (List Int)
  | 0, acc => PM.ret acc
  | f + 1, acc => pIf (sgn T x) (PM.bind (pSkip 1) fun _ => PM.bind ph fun k => rowL x ph f (acc ++ [(k : Int)])) (PM.ret acc)
def row (x : ByteArray) (ph : PM Nat) : PM (List Int) := PM.bind ph fun k => rowL T x ph (T.length + 1) [(k : Int)]
def enclosed (l r : ByteArray) (ph : PM Nat) : PM (List Int) :=
  PM.bind (pNeed T (sgn T l)) fun _ => PM.bind (pIf (sgn T r) (PM.ret []) (row T ⟨#[44]⟩ ph)) fun kids => PM.bind (pNeed T (sgn T r)) fun _ => PM.ret kids
variable (rec : Ph → PM Nat)
def whole : PM Nat := rec (.expr 1)
def exprL (least : Int) : Nat → Int → Nat → PM Nat
  | 0, _, l => PM.ret l
  | f + 1, most, l => PM.bind (pTok T) fun t => if lev t < least ∨ lev t > most then PM.ret l else
      PM.bind (pSkip 1) fun _ => PM.bind (rec (.expr (sidesR (lev t)))) fun r => PM.bind (pAdd (opSh t [(l : Int), (r : Int)])) fun k => exprL least f (sidesB (lev t)) k
def rest (n : Sh) (pat : Nat) : PM Nat :=
  PM.bind (pIf (wrd T ⟨#[119, 104, 101, 110]⟩) (PM.bind (pSkip 1) fun _ => PM.bind (rec .guard) fun k => PM.ret [(pat : Int), (k : Int)]) (PM.ret [(pat : Int)])) fun kids =>
  PM.bind (pNeed T (sgn T ⟨#[45, 62]⟩)) fun _ => PM.bind (rec .body) fun b => pAdd { n with kids := kids ++ [(b : Int)] }
def arguments : PM (List Int) := enclosed T ⟨#[40]⟩ ⟨#[41]⟩ (whole rec)
def named (t : Tk) : PM Nat :=
  PM.bind (pSkip 1) fun _ => PM.bind (pIf (fun i => decide (t.text ≠ ⟨#[]⟩) && sgn T ⟨#[58]⟩ i) (PM.bind (pSkip 1) fun _ => PM.bind (pNeed T (knd T 1)) fun u => PM.ret (t.text, u.text)) (PM.ret (⟨#[]⟩, t.text))) fun mt =>
  PM.bind (pIf (fun i => decide (mt.1 ≠ ⟨#[]⟩) || sgn T ⟨#[40]⟩ i) (PM.bind (arguments T rec) fun ks => PM.ret (13, ks)) (PM.ret ((2 : Int), []))) fun kk =>
  pAdd ⟨kk.1, mt.2, mt.1, 0, kk.2, t.at_⟩
def tail : PM Nat :=
  pIf (sgn T ⟨#[124]⟩) (PM.bind (pSkip 1) fun _ => PM.bind (whole rec) fun k => PM.bind (pNeed T (sgn T ⟨#[93]⟩)) fun _ => PM.ret k)
    (PM.bind (pNeed T (sgn T ⟨#[93]⟩)) fun t => pAdd ⟨5, ⟨#[]⟩, ⟨#[]⟩, 0, [], t.at_⟩)
def list : PM Nat :=
  PM.bind (pNeed T (sgn T ⟨#[91]⟩)) fun t => pIf (sgn T ⟨#[93]⟩) (PM.bind (pSkip 1) fun _ => pAdd ⟨5, ⟨#[]⟩, ⟨#[]⟩, 0, [], t.at_⟩)
    (PM.bind (row T ⟨#[44]⟩ (whole rec)) fun ks => PM.bind (tail T rec) fun k => pAdd ⟨6, ⟨#[]⟩, ⟨#[]⟩, 0, ks ++ [(k : Int)], t.at_⟩)
def bracketed (t : Tk) : PM Nat :=
  if t.text = ⟨#[123]⟩ then PM.bind (enclosed T ⟨#[123]⟩ ⟨#[125]⟩ (whole rec)) fun ks => pAdd ⟨4, ⟨#[]⟩, ⟨#[]⟩, 0, ks, t.at_⟩
  else if t.text = ⟨#[91]⟩ then list T rec
  else PM.bind (pNeed T (sgn T ⟨#[40]⟩)) fun _ => PM.bind (whole rec) fun k => PM.bind (pNeed T (sgn T ⟨#[41]⟩)) fun _ => PM.ret k
def after : PM Nat :=
  PM.bind (pNeed T (wrd T ⟨#[97, 102, 116, 101, 114]⟩)) fun t => PM.bind (whole rec) fun k => PM.bind (pNeed T (sgn T ⟨#[45, 62]⟩)) fun _ => PM.bind (rec .body) fun b => pAdd ⟨24, ⟨#[]⟩, ⟨#[]⟩, 0, [(k : Int), (b : Int)], t.at_⟩
def choices : PM (List Int) :=
  PM.bind (pIf (wrd T ⟨#[97, 102, 116, 101, 114]⟩) (PM.ret []) (row T ⟨#[59]⟩ (rec .clause))) fun ks => pIf (wrd T ⟨#[97, 102, 116, 101, 114]⟩) (PM.bind (after T rec) fun k => PM.ret (ks ++ [(k : Int)])) (PM.ret ks)
def begins (t : Tk) : Bool := decide (t.kind = 4) && (decide (t.text = ⟨#[98, 101, 103, 105, 110]⟩) || decide (t.text = ⟨#[99, 97, 115, 101]⟩) || decide (t.text = ⟨#[114, 101, 99, 101, 105, 118, 101]⟩) || decide (t.text = ⟨#[116, 114, 121]⟩))
def blockKids (t : Tk) : PM (Int × List Int) :=
  if t.text = ⟨#[98, 101, 103, 105, 110]⟩ then PM.bind (rec .body) fun k => PM.ret (9, [(k : Int)])
  else if t.text = ⟨#[99, 97, 115, 101]⟩ then PM.bind (whole rec) fun k => PM.bind (pNeed T (wrd T ⟨#[111, 102]⟩)) fun _ => PM.bind (row T ⟨#[59]⟩ (rec .clause)) fun ks => PM.ret (8, (k : Int) :: ks)
  else if t.text = ⟨#[114, 101, 99, 101, 105, 118, 101]⟩ then PM.bind (choices T rec) fun ks => PM.ret (12, ks)
  else PM.bind (rec .body) fun k => PM.bind (pNeed T (wrd T ⟨#[99, 97, 116, 99, 104]⟩)) fun _ => PM.bind (row T ⟨#[59]⟩ (rec .cclause)) fun ks => PM.ret (10, (k : Int) :: ks)
def block (t : Tk) : PM Nat :=
  PM.bind (pNeed T (fun _ => begins t)) fun _ => PM.bind (blockKids T rec t) fun kk => PM.bind (pNeed T (wrd T ⟨#[101, 110, 100]⟩)) fun _ => pAdd ⟨kk.1, ⟨#[]⟩, ⟨#[]⟩, 0, kk.2, t.at_⟩
def single (t : Tk) : PM Nat :=
  if t.kind = 3 then PM.bind (pSkip 1) fun _ => pAdd ⟨1, ⟨#[]⟩, ⟨#[]⟩, t.num, [], t.at_⟩
  else if t.kind = 2 then PM.bind (pSkip 1) fun _ => pAdd ⟨3, t.text, ⟨#[]⟩, 0, [], t.at_⟩
  else if t.kind = 1 then named T rec t else if t.kind = 5 then bracketed T rec t else block T rec t
def isUn (t : Tk) : Bool := isTk 5 ⟨#[43]⟩ t || isTk 5 ⟨#[45]⟩ t || isTk 4 ⟨#[110, 111, 116]⟩ t
def atClass (i : Nat) : Bool :=
  ((decide ((tokAt T i).kind = 1) && (decide ((tokAt T i).text = ⟨#[116, 104, 114, 111, 119]⟩) || decide ((tokAt T i).text = ⟨#[101, 114, 114, 111, 114]⟩) || decide ((tokAt T i).text = ⟨#[101, 120, 105, 116]⟩))) || isTk 2 ⟨#[95]⟩ (tokAt T i)) && sgn T ⟨#[58]⟩ (i + 1)
def exports : PM (List Int) :=
  PM.bind (pNeed T (sgn T ⟨#[45]⟩)) fun _ => PM.bind (pNeed T (atm T ⟨#[101, 120, 112, 111, 114, 116]⟩)) fun _ => PM.bind (pNeed T (sgn T ⟨#[40]⟩)) fun _ => PM.bind (enclosed T ⟨#[91]⟩ ⟨#[93]⟩ (rec .export)) fun ks =>
  PM.bind (pNeed T (sgn T ⟨#[41]⟩)) fun _ => PM.bind (pNeed T (knd T 6)) fun _ => PM.ret ks
def atModule (i : Nat) : Bool := sgn T ⟨#[45]⟩ i && atm T ⟨#[109, 111, 100, 117, 108, 101]⟩ (i + 1)
def formsL : Nat → List Int → PM (List Int)
  | 0, acc => PM.ret acc
  | f + 1, acc => pIf (fun i => decide (i < T.length) && !atModule T i)
      (PM.bind (pIf (sgn T ⟨#[45]⟩) (exports T rec) (PM.bind (rec .function) fun k => PM.ret [(k : Int)])) fun ks => formsL f (acc ++ ks)) (PM.ret acc)
/-- How many arguments a function's first clause has. -/
def argsOf (N : List Sh) (c : Int) : Int := (((N[(((N[c.toNat]?).map Sh.kids).getD []).headD 0 |>.toNat]?).map Sh.kids).getD []).length
def nameOf (N : List Sh) (c : Int) : ByteArray := ((N[c.toNat]?).map Sh.text).getD ⟨#[]⟩
def phBody : Ph → PM Nat
  | .module => PM.bind (pNeed T (sgn T ⟨#[45]⟩)) fun t => PM.bind (pNeed T (atm T ⟨#[109, 111, 100, 117, 108, 101]⟩)) fun _ => PM.bind (pNeed T (sgn T ⟨#[40]⟩)) fun _ => PM.bind (pNeed T (knd T 1)) fun a =>
      PM.bind (pNeed T (sgn T ⟨#[41]⟩)) fun _ => PM.bind (pNeed T (knd T 6)) fun _ => PM.bind (formsL T rec (T.length + 1) []) fun ks => pAdd ⟨27, a.text, ⟨#[]⟩, 0, ks, t.at_⟩
  | .export => PM.bind (pNeed T (knd T 1)) fun a => PM.bind (pNeed T (sgn T ⟨#[47]⟩)) fun _ => PM.bind (pNeed T (knd T 3)) fun n => pAdd ⟨29, a.text, ⟨#[]⟩, n.num, [], a.at_⟩
  | .function => PM.bind (pTok T) fun t => PM.bind (row T ⟨#[59]⟩ (rec .fclause)) fun ks => fun s =>
      (PM.bind (pNeed T (knd T 6)) fun _ => pAdd ⟨26, nameOf s.N (ks.headD 0), ⟨#[]⟩, argsOf s.N (ks.headD 0), ks, t.at_⟩) s
  | .fclause => PM.bind (pNeed T (knd T 1)) fun a => PM.bind (pTok T) fun o => PM.bind (arguments T rec) fun ks => PM.bind (pAdd ⟨25, ⟨#[]⟩, ⟨#[]⟩, 0, ks, o.at_⟩) fun k => rest T rec ⟨20, a.text, ⟨#[]⟩, 0, [], a.at_⟩ k
  | .clause => PM.bind (pTok T) fun t => PM.bind (whole rec) fun k => rest T rec ⟨20, ⟨#[]⟩, ⟨#[]⟩, 0, [], t.at_⟩ k
  | .cclause => PM.bind (pTok T) fun t => PM.bind (pIf (atClass T) (PM.bind (pSkip 2) fun _ => PM.ret t.text) (PM.ret ⟨#[116, 104, 114, 111, 119]⟩)) fun c => PM.bind (whole rec) fun k => rest T rec ⟨20, c, ⟨#[]⟩, 0, [], t.at_⟩ k
  | .conj => PM.bind (pTok T) fun t => PM.bind (row T ⟨#[44]⟩ (whole rec)) fun ks => pAdd ⟨22, ⟨#[]⟩, ⟨#[]⟩, 0, ks, t.at_⟩
  | .guard => PM.bind (pTok T) fun t => PM.bind (row T ⟨#[59]⟩ (rec .conj)) fun ks => pAdd ⟨21, ⟨#[]⟩, ⟨#[]⟩, 0, ks, t.at_⟩
  | .body => PM.bind (pTok T) fun t => PM.bind (row T ⟨#[44]⟩ (whole rec)) fun ks => pAdd ⟨23, ⟨#[]⟩, ⟨#[]⟩, 0, ks, t.at_⟩
  | .operand => PM.bind (pTok T) fun t => if isUn t then PM.bind (pSkip 1) fun _ => PM.bind (rec .operand) fun k => pAdd ⟨14, t.text, ⟨#[]⟩, 0, [(k : Int)], t.at_⟩ else single T rec t
  | .expr least => PM.bind (rec .operand) fun l => exprL T rec least (T.length + 1) 7 l
end
/-- What a phrase comes to; so deep and no deeper. -/
def runP (T : List Tk) : Nat → Ph → PM Nat
  | 0, _ => fun s => .error s.i
  | f + 1, ph => phBody T (runP T f) ph
def modsL (T : List Tk) (rec : Ph → PM Nat) : Nat → List Int → PM (List Int)
  | 0, acc => PM.ret acc
  | f + 1, acc => pIf (fun i => decide (i < T.length)) (PM.bind (rec .module) fun k => modsL T rec f (acc ++ [(k : Int)])) (PM.ret acc)
/-- A program's tree. -/
def programP (T : List Tk) (rec : Ph → PM Nat) : PM Nat :=
  PM.bind (pTok T) fun t => PM.bind (rec .module) fun k => PM.bind (modsL T rec (T.length + 1) [(k : Int)]) fun ks => pAdd ⟨28, ⟨#[]⟩, ⟨#[]⟩, 0, ks, t.at_⟩
end Go.Proofs.YtlgkjjbefoeabaaGreatDoor
