/-
  Layer 11 (parse), of lists alone: the tree of any tokens, as the program's parser reads it, or the first token that may not stand there.
  Layer 11 (parse), of lists alone: the parser goes on, makes no more nodes than tokens allow, gives each node lower Kids, and looks at no place.
  Layer 11 (parse), of lists alone: every phrase of the parser goes on as the lists allow.
-/
import Derived.Test.YtlciaafincgdeaaGreatDoorZad
namespace Go.Proofs.YtlciaafincgdeaaGreatDoor
structure Ps where
 i:Nat
 N:List Sh
abbrev PM (α:Type):=Ps→Except Nat (α × Ps)
def PM.ret {α:Type} (a:α):PM α:=fun s=>.ok (a,s)
def PM.bind {α β:Type} (m:PM α) (k:α→PM β):PM β:=fun s=>
 match m s with
 | .error e=>.error e
 | .ok (a,s')=>k a s'
def sgn (T:List Tk) (x:ByteArray) (i:Nat):Bool:=isTk 5 x (tokAt T i)
def wrd (T:List Tk) (x:ByteArray) (i:Nat):Bool:=isTk 4 x (tokAt T i)
def atm (T:List Tk) (x:ByteArray) (i:Nat):Bool:=isTk 1 x (tokAt T i)
def knd (T:List Tk) (k:Int) (i:Nat):Bool:=decide ((tokAt T i).kind=k)
def pTok (T:List Tk):PM Tk:=fun s=>.ok (tokAt T s.i,s)
def pNeed (T:List Tk) (b:Nat→Bool):PM Tk:=fun s=>if b s.i then .ok (tokAt T s.i,⟨s.i+1,s.N⟩) else .error s.i
def pSkip (k:Nat):PM Unit:=fun s=>.ok ((),⟨s.i+k,s.N⟩)
def pAdd (x:Sh):PM Nat:=fun s=>.ok (s.N.length,⟨s.i,s.N++[x]⟩)
def pIf {α:Type} (b:Nat→Bool) (m k:PM α):PM α:=fun s=>if b s.i then m s else k s
inductive Ph where
 | module | export | function | fclause | clause | cclause | conj | guard | body | operand
 | expr (least:Int)
def levS (x:ByteArray):Int:=
 if x=⟨#[61]⟩∨x=⟨#[33]⟩ then 1 else if x=⟨#[61,61]⟩∨x=⟨#[47,61]⟩∨x=⟨#[61,60]⟩∨x=⟨#[60]⟩∨x=⟨#[62,61]⟩∨x=⟨#[62]⟩∨x=⟨#[61,58,61]⟩∨x=⟨#[61,47,61]⟩ then 4
 else if x=⟨#[43,43]⟩∨x=⟨#[45,45]⟩ then 5 else if x=⟨#[43]⟩∨x=⟨#[45]⟩ then 6 else if x=⟨#[42]⟩ then 7 else 0
def levW (x:ByteArray):Int:=
 if x=⟨#[111,114,101,108,115,101]⟩ then 2 else if x=⟨#[97,110,100,97,108,115,111]⟩ then 3 else if x=⟨#[111,114]⟩∨x=⟨#[120,111,114]⟩ then 6 else if x=⟨#[100,105,118]⟩∨x=⟨#[114,101,109]⟩∨x=⟨#[97,110,100]⟩ then 7 else 0
def lev (t:Tk):Int:=if t.kind=5 then levS t.text else if t.kind=4 then levW t.text else 0
def sidesR (a:Int):Int:=if a=4∨a=6∨a=7 then a+1 else a
def sidesB (a:Int):Int:=if a=6∨a=7 then a else a - 1
def opSh (t:Tk) (kids:List Int):Sh:=
 if t.text=⟨#[61]⟩ then ⟨7,⟨#[]⟩,⟨#[]⟩,0,kids,t.at_⟩ else if t.text=⟨#[33]⟩ then ⟨11,⟨#[]⟩,⟨#[]⟩,0,kids,t.at_⟩
 else if t.text=⟨#[111,114,101,108,115,101]⟩ then ⟨17,⟨#[]⟩,⟨#[]⟩,0,kids,t.at_⟩ else if t.text=⟨#[97,110,100,97,108,115,111]⟩ then ⟨16,⟨#[]⟩,⟨#[]⟩,0,kids,t.at_⟩ else ⟨15,t.text,⟨#[]⟩,0,kids,t.at_⟩
section
variable (T:List Tk)
def rowL (x:ByteArray) (ph:PM Nat):Nat→List Int→PM (List Int)
 | 0,acc=>PM.ret acc
 | f+1,acc=>pIf (sgn T x) (PM.bind (pSkip 1) fun _=>PM.bind ph fun k=>rowL x ph f (acc++[(k:Int)])) (PM.ret acc)
def row (x:ByteArray) (ph:PM Nat):PM (List Int):=PM.bind ph fun k=>rowL T x ph (T.length+1) [(k:Int)]
def enclosed (l r:ByteArray) (ph:PM Nat):PM (List Int):=
 PM.bind (pNeed T (sgn T l)) fun _=>PM.bind (pIf (sgn T r) (PM.ret []) (row T ⟨#[44]⟩ ph)) fun kids=>PM.bind (pNeed T (sgn T r)) fun _=>PM.ret kids
variable (rec:Ph→PM Nat)
def whole:PM Nat:=rec (.expr 1)
def exprL (least:Int):Nat→Int→Nat→PM Nat
 | 0,_,l=>PM.ret l
 | f+1,most,l=>PM.bind (pTok T) fun t=>if lev t < least∨lev t > most then PM.ret l else
   PM.bind (pSkip 1) fun _=>PM.bind (rec (.expr (sidesR (lev t)))) fun r=>PM.bind (pAdd (opSh t [(l:Int),(r:Int)])) fun k=>exprL least f (sidesB (lev t)) k
def rest (n:Sh) (pat:Nat):PM Nat:=
 PM.bind (pIf (wrd T ⟨#[119,104,101,110]⟩) (PM.bind (pSkip 1) fun _=>PM.bind (rec .guard) fun k=>PM.ret [(pat:Int),(k:Int)]) (PM.ret [(pat:Int)])) fun kids=>
 PM.bind (pNeed T (sgn T ⟨#[45,62]⟩)) fun _=>PM.bind (rec .body) fun b=>pAdd { n with kids:=kids++[(b:Int)] }
def arguments:PM (List Int):=enclosed T ⟨#[40]⟩ ⟨#[41]⟩ (whole rec)
def named (t:Tk):PM Nat:=
 PM.bind (pSkip 1) fun _=>PM.bind (pIf (fun i=>decide (t.text≠⟨#[]⟩) && sgn T ⟨#[58]⟩ i) (PM.bind (pSkip 1) fun _=>PM.bind (pNeed T (knd T 1)) fun u=>PM.ret (t.text,u.text)) (PM.ret (⟨#[]⟩,t.text))) fun mt=>
 PM.bind (pIf (fun i=>decide (mt.1≠⟨#[]⟩) || sgn T ⟨#[40]⟩ i) (PM.bind (arguments T rec) fun ks=>PM.ret (13,ks)) (PM.ret ((2:Int),[]))) fun kk=>
 pAdd ⟨kk.1,mt.2,mt.1,0,kk.2,t.at_⟩
def tail:PM Nat:=
 pIf (sgn T ⟨#[124]⟩) (PM.bind (pSkip 1) fun _=>PM.bind (whole rec) fun k=>PM.bind (pNeed T (sgn T ⟨#[93]⟩)) fun _=>PM.ret k)
  (PM.bind (pNeed T (sgn T ⟨#[93]⟩)) fun t=>pAdd ⟨5,⟨#[]⟩,⟨#[]⟩,0,[],t.at_⟩)
def list:PM Nat:=
 PM.bind (pNeed T (sgn T ⟨#[91]⟩)) fun t=>pIf (sgn T ⟨#[93]⟩) (PM.bind (pSkip 1) fun _=>pAdd ⟨5,⟨#[]⟩,⟨#[]⟩,0,[],t.at_⟩)
  (PM.bind (row T ⟨#[44]⟩ (whole rec)) fun ks=>PM.bind (tail T rec) fun k=>pAdd ⟨6,⟨#[]⟩,⟨#[]⟩,0,ks++[(k:Int)],t.at_⟩)
def bracketed (t:Tk):PM Nat:=
 if t.text=⟨#[123]⟩ then PM.bind (enclosed T ⟨#[123]⟩ ⟨#[125]⟩ (whole rec)) fun ks=>pAdd ⟨4,⟨#[]⟩,⟨#[]⟩,0,ks,t.at_⟩
 else if t.text=⟨#[91]⟩ then list T rec
 else PM.bind (pNeed T (sgn T ⟨#[40]⟩)) fun _=>PM.bind (whole rec) fun k=>PM.bind (pNeed T (sgn T ⟨#[41]⟩)) fun _=>PM.ret k
def after:PM Nat:=
 PM.bind (pNeed T (wrd T ⟨#[97,102,116,101,114]⟩)) fun t=>PM.bind (whole rec) fun k=>PM.bind (pNeed T (sgn T ⟨#[45,62]⟩)) fun _=>PM.bind (rec .body) fun b=>pAdd ⟨24,⟨#[]⟩,⟨#[]⟩,0,[(k:Int),(b:Int)],t.at_⟩
def choices:PM (List Int):=
 PM.bind (pIf (wrd T ⟨#[97,102,116,101,114]⟩) (PM.ret []) (row T ⟨#[59]⟩ (rec .clause))) fun ks=>pIf (wrd T ⟨#[97,102,116,101,114]⟩) (PM.bind (after T rec) fun k=>PM.ret (ks++[(k:Int)])) (PM.ret ks)
def begins (t:Tk):Bool:=decide (t.kind=4) && (decide (t.text=⟨#[98,101,103,105,110]⟩) || decide (t.text=⟨#[99,97,115,101]⟩) || decide (t.text=⟨#[114,101,99,101,105,118,101]⟩) || decide (t.text=⟨#[116,114,121]⟩))
def blockKids (t:Tk):PM (Int × List Int):=
 if t.text=⟨#[98,101,103,105,110]⟩ then PM.bind (rec .body) fun k=>PM.ret (9,[(k:Int)])
 else if t.text=⟨#[99,97,115,101]⟩ then PM.bind (whole rec) fun k=>PM.bind (pNeed T (wrd T ⟨#[111,102]⟩)) fun _=>PM.bind (row T ⟨#[59]⟩ (rec .clause)) fun ks=>PM.ret (8,(k:Int) :: ks)
 else if t.text=⟨#[114,101,99,101,105,118,101]⟩ then PM.bind (choices T rec) fun ks=>PM.ret (12,ks)
 else PM.bind (rec .body) fun k=>PM.bind (pNeed T (wrd T ⟨#[99,97,116,99,104]⟩)) fun _=>PM.bind (row T ⟨#[59]⟩ (rec .cclause)) fun ks=>PM.ret (10,(k:Int) :: ks)
def block (t:Tk):PM Nat:=
 PM.bind (pNeed T (fun _=>begins t)) fun _=>PM.bind (blockKids T rec t) fun kk=>PM.bind (pNeed T (wrd T ⟨#[101,110,100]⟩)) fun _=>pAdd ⟨kk.1,⟨#[]⟩,⟨#[]⟩,0,kk.2,t.at_⟩
def single (t:Tk):PM Nat:=
 if t.kind=3 then PM.bind (pSkip 1) fun _=>pAdd ⟨1,⟨#[]⟩,⟨#[]⟩,t.num,[],t.at_⟩
 else if t.kind=2 then PM.bind (pSkip 1) fun _=>pAdd ⟨3,t.text,⟨#[]⟩,0,[],t.at_⟩
 else if t.kind=1 then named T rec t else if t.kind=5 then bracketed T rec t else block T rec t
def isUn (t:Tk):Bool:=isTk 5 ⟨#[43]⟩ t || isTk 5 ⟨#[45]⟩ t || isTk 4 ⟨#[110,111,116]⟩ t
def atClass (i:Nat):Bool:=
 ((decide ((tokAt T i).kind=1) && (decide ((tokAt T i).text=⟨#[116,104,114,111,119]⟩) || decide ((tokAt T i).text=⟨#[101,114,114,111,114]⟩) || decide ((tokAt T i).text=⟨#[101,120,105,116]⟩))) || isTk 2 ⟨#[95]⟩ (tokAt T i)) && sgn T ⟨#[58]⟩ (i+1)
def exports:PM (List Int):=
 PM.bind (pNeed T (sgn T ⟨#[45]⟩)) fun _=>PM.bind (pNeed T (atm T ⟨#[101,120,112,111,114,116]⟩)) fun _=>PM.bind (pNeed T (sgn T ⟨#[40]⟩)) fun _=>PM.bind (enclosed T ⟨#[91]⟩ ⟨#[93]⟩ (rec .export)) fun ks=>
 PM.bind (pNeed T (sgn T ⟨#[41]⟩)) fun _=>PM.bind (pNeed T (knd T 6)) fun _=>PM.ret ks
def atModule (i:Nat):Bool:=sgn T ⟨#[45]⟩ i && atm T ⟨#[109,111,100,117,108,101]⟩ (i+1)
def formsL:Nat→List Int→PM (List Int)
 | 0,acc=>PM.ret acc
 | f+1,acc=>pIf (fun i=>decide (i < T.length) && !atModule T i)
   (PM.bind (pIf (sgn T ⟨#[45]⟩) (exports T rec) (PM.bind (rec .function) fun k=>PM.ret [(k:Int)])) fun ks=>formsL f (acc++ks)) (PM.ret acc)
def argsOf (N:List Sh) (c:Int):Int:=(((N[(((N[c.toNat]?).map Sh.kids).getD []).headD 0 |>.toNat]?).map Sh.kids).getD []).length
def nameOf (N:List Sh) (c:Int):ByteArray:=((N[c.toNat]?).map Sh.text).getD ⟨#[]⟩
def phBody:Ph→PM Nat
 | .module=>PM.bind (pNeed T (sgn T ⟨#[45]⟩)) fun t=>PM.bind (pNeed T (atm T ⟨#[109,111,100,117,108,101]⟩)) fun _=>PM.bind (pNeed T (sgn T ⟨#[40]⟩)) fun _=>PM.bind (pNeed T (knd T 1)) fun a=>
   PM.bind (pNeed T (sgn T ⟨#[41]⟩)) fun _=>PM.bind (pNeed T (knd T 6)) fun _=>PM.bind (formsL T rec (T.length+1) []) fun ks=>pAdd ⟨27,a.text,⟨#[]⟩,0,ks,t.at_⟩
 | .export=>PM.bind (pNeed T (knd T 1)) fun a=>PM.bind (pNeed T (sgn T ⟨#[47]⟩)) fun _=>PM.bind (pNeed T (knd T 3)) fun n=>pAdd ⟨29,a.text,⟨#[]⟩,n.num,[],a.at_⟩
 | .function=>PM.bind (pTok T) fun t=>PM.bind (row T ⟨#[59]⟩ (rec .fclause)) fun ks=>fun s=>
   (PM.bind (pNeed T (knd T 6)) fun _=>pAdd ⟨26,nameOf s.N (ks.headD 0),⟨#[]⟩,argsOf s.N (ks.headD 0),ks,t.at_⟩) s
 | .fclause=>PM.bind (pNeed T (knd T 1)) fun a=>PM.bind (pTok T) fun o=>PM.bind (arguments T rec) fun ks=>PM.bind (pAdd ⟨25,⟨#[]⟩,⟨#[]⟩,0,ks,o.at_⟩) fun k=>rest T rec ⟨20,a.text,⟨#[]⟩,0,[],a.at_⟩ k
 | .clause=>PM.bind (pTok T) fun t=>PM.bind (whole rec) fun k=>rest T rec ⟨20,⟨#[]⟩,⟨#[]⟩,0,[],t.at_⟩ k
 | .cclause=>PM.bind (pTok T) fun t=>PM.bind (pIf (atClass T) (PM.bind (pSkip 2) fun _=>PM.ret t.text) (PM.ret ⟨#[116,104,114,111,119]⟩)) fun c=>PM.bind (whole rec) fun k=>rest T rec ⟨20,c,⟨#[]⟩,0,[],t.at_⟩ k
 | .conj=>PM.bind (pTok T) fun t=>PM.bind (row T ⟨#[44]⟩ (whole rec)) fun ks=>pAdd ⟨22,⟨#[]⟩,⟨#[]⟩,0,ks,t.at_⟩
 | .guard=>PM.bind (pTok T) fun t=>PM.bind (row T ⟨#[59]⟩ (rec .conj)) fun ks=>pAdd ⟨21,⟨#[]⟩,⟨#[]⟩,0,ks,t.at_⟩
 | .body=>PM.bind (pTok T) fun t=>PM.bind (row T ⟨#[44]⟩ (whole rec)) fun ks=>pAdd ⟨23,⟨#[]⟩,⟨#[]⟩,0,ks,t.at_⟩
 | .operand=>PM.bind (pTok T) fun t=>if isUn t then PM.bind (pSkip 1) fun _=>PM.bind (rec .operand) fun k=>pAdd ⟨14,t.text,⟨#[]⟩,0,[(k:Int)],t.at_⟩ else single T rec t
 | .expr least=>PM.bind (rec .operand) fun l=>exprL T rec least (T.length+1) 7 l
end
def runP (T:List Tk):Nat→Ph→PM Nat
 | 0,_=>fun s=>.error s.i
 | f+1,ph=>phBody T (runP T f) ph
def modsL (T:List Tk) (rec:Ph→PM Nat):Nat→List Int→PM (List Int)
 | 0,acc=>PM.ret acc
 | f+1,acc=>pIf (fun i=>decide (i < T.length)) (PM.bind (rec .module) fun k=>modsL T rec f (acc++[(k:Int)])) (PM.ret acc)
def programP (T:List Tk) (rec:Ph→PM Nat):PM Nat:=
 PM.bind (pTok T) fun t=>PM.bind (rec .module) fun k=>PM.bind (modsL T rec (T.length+1) [(k:Int)]) fun ks=>pAdd ⟨28,⟨#[]⟩,⟨#[]⟩,0,ks,t.at_⟩
structure Alike (T T':List Tk):Prop where
 len:T.length=T'.length
 tok:∀ i,(tokAt T i).kind=(tokAt T' i).kind∧(tokAt T i).text=(tokAt T' i).text∧(tokAt T i).num=(tokAt T' i).num
def Sh.bare (x:Sh):Sh:={ x with at_:=0 }
structure S2 (T:List Tk) (s s':Ps):Prop where
 i:s.i=s'.i
 n:s.N.map Sh.bare=s'.N.map Sh.bare
 il:s.i≤T.length
 low:∀ j (h:j < s.N.length),∀ k∈s.N[j].kids,0≤k∧k < (j:Int)
theorem S2.len {T:List Tk} {s s':Ps} (h:S2 T s s'):s.N.length=s'.N.length:=by simpa using congrArg List.length h.n
def Ok2 {α:Type} (T:List Tk) (V:α→α→List Sh→Prop) (d:Int) (m m':PM α) (s s':Ps):Prop:=
 (∃ e,m s=.error e∧m' s'=.error e∧e≤T.length) ∨
 ∃ a a' t t',m s=.ok (a,t)∧m' s'=.ok (a',t')∧S2 T t t'∧V a a' t.N∧s.i≤t.i∧∃ M,t.N=s.N++M∧(M.length:Int)+d≤4*((t.i:Int) - s.i)
theorem Ok2.mono {α:Type} {T:List Tk} {V:α→α→List Sh→Prop} {d d':Int} {m m':PM α} {s s':Ps} (h:Ok2 T V d m m' s s') (hd:d'≤d):Ok2 T V d' m m' s s':=by
 rcases h with h | ⟨a,a',t,t',h1,h2,h3,h4,h5,M,h6,h7⟩
 ·exact .inl h
 ·exact .inr ⟨a,a',t,t',h1,h2,h3,h4,h5,M,h6,by omega⟩
theorem Ok2.bind {α β:Type} {T:List Tk} {V:α→α→List Sh→Prop} {U:β→β→List Sh→Prop} {d e:Int} {m m':PM α} {k k':α→PM β} {s s':Ps} (h:Ok2 T V d m m' s s')
  (hk:∀ a a' t t',S2 T t t'→V a a' t.N→s.i≤t.i→(∃ M,t.N=s.N++M)→Ok2 T U e (k a) (k' a') t t'):Ok2 T U (d+e) (PM.bind m k) (PM.bind m' k') s s':=by
 rcases h with ⟨x,h1,h2,h3⟩ | ⟨a,a',t,t',h1,h2,h3,h4,h5,M,h6,h7⟩
 ·exact .inl ⟨x,by simp [PM.bind,h1],by simp [PM.bind,h2],h3⟩
 ·rcases hk a a' t t' h3 h4 h5 ⟨M,h6⟩ with ⟨x,g1,g2,g3⟩ | ⟨b,b',u,u',g1,g2,g3,g4,g5,M2,g6,g7⟩
  ·exact .inl ⟨x,by simp [PM.bind,h1,g1],by simp [PM.bind,h2,g2],g3⟩
  ·exact .inr ⟨b,b',u,u',by simp [PM.bind,h1,g1],by simp [PM.bind,h2,g2],g3,g4,by omega,M++M2,by rw [g6,h6,List.append_assoc],by simp; omega⟩
section
variable {T T':List Tk} {s s':Ps} {α β:Type} {U:β→β→List Sh→Prop} {e:Int}
theorem Ok2.ret (hs:S2 T s s') {a a':β} (h:U a a' s.N):Ok2 T U 0 (PM.ret a) (PM.ret a') s s':=.inr ⟨a,a',s,s',rfl,rfl,hs,h,Nat.le_refl _,[],by simp,by simp⟩
theorem Ok2.tok {k k':Tk→PM β} (h:Ok2 T U e (k (tokAt T s.i)) (k' (tokAt T' s'.i)) s s'):Ok2 T U e (PM.bind (pTok T) k) (PM.bind (pTok T') k') s s':=h
theorem S2.next (hs:S2 T s s') {n:Nat} (h:s.i+n≤T.length):S2 T ⟨s.i+n,s.N⟩ ⟨s'.i+n,s'.N⟩:=⟨by simp [hs.i],hs.n,h,hs.low⟩
theorem Ok2.skip {n:Nat} {k k':Unit→PM β} (h:Ok2 T U e (k ()) (k' ()) ⟨s.i+n,s.N⟩ ⟨s'.i+n,s'.N⟩):Ok2 T U (e+4*n) (PM.bind (pSkip n) k) (PM.bind (pSkip n) k') s s':=by
 rcases h with ⟨x,g1,g2,g3⟩ | ⟨b,b',u,u',g1,g2,g3,g4,g5,M,g6,g7⟩
 ·exact .inl ⟨x,g1,g2,g3⟩
 ·exact .inr ⟨b,b',u,u',g1,g2,g3,g4,by simp at g5; omega,M,g6,by simp at g5 g7; omega⟩
theorem Ok2.need (hs:S2 T s s') {b b':Nat→Bool} (hb:b s.i=b' s'.i) (hl:b s.i=true→s.i < T.length) {k k':Tk→PM β} (h:s.i < T.length→b s.i=true→Ok2 T U e (k (tokAt T s.i)) (k' (tokAt T' s'.i)) ⟨s.i+1,s.N⟩ ⟨s'.i+1,s'.N⟩):Ok2 T U (e+4) (PM.bind (pNeed T b) k) (PM.bind (pNeed T' b') k') s s':=by
 cases hc:b s.i with
 | false=>
  rw [hc] at hb
  refine .inl ⟨s.i,?_,?_,hs.il⟩
  ·simp [PM.bind,pNeed,hc]
  ·simp [PM.bind,pNeed,← hb,hs.i]
 | true=>
  rw [hc] at hb
  rcases h (hl hc) hc with ⟨x,g1,g2,g3⟩ | ⟨c,c',u,u',g1,g2,g3,g4,g5,M,g6,g7⟩
  ·exact .inl ⟨x,by simpa [PM.bind,pNeed,hc] using g1,by simpa [PM.bind,pNeed,← hb] using g2,g3⟩
  ·exact .inr ⟨c,c',u,u',by simpa [PM.bind,pNeed,hc] using g1,by simpa [PM.bind,pNeed,← hb] using g2,g3,g4,by simp at g5; omega,M,g6,by simp at g5 g7; omega⟩
theorem Ok2.iff {b b':Nat→Bool} (hb:b s.i=b' s'.i) {m m' k k':PM β} (h1:b s.i=true→Ok2 T U e m m' s s') (h2:b s.i=false→Ok2 T U e k k' s s'):Ok2 T U e (pIf b m k) (pIf b' m' k') s s':=by
 cases hc:b s.i with
 | true=>rw [hc] at hb; have:=h1 hc; unfold Ok2 at this ⊢; simpa [pIf,hc,← hb] using this
 | false=>rw [hc] at hb; have:=h2 hc; unfold Ok2 at this ⊢; simpa [pIf,hc,← hb] using this
end
def VN (a a':Nat) (N:List Sh):Prop:=a=a'∧a < N.length
def VL (l l':List Int) (N:List Sh):Prop:=l=l'∧∀ k∈l,0≤k∧k < (N.length:Int)
theorem VN.up {a a':Nat} {N N':List Sh} (h:VN a a' N) (hp:∃ M,N'=N++M):VN a a' N':=by
 obtain ⟨M,rfl⟩:=hp
 exact ⟨h.1,by simp; have:=h.2; omega⟩
theorem VL.up {l l':List Int} {N N':List Sh} (h:VL l l' N) (hp:∃ M,N'=N++M):VL l l' N':=by
 obtain ⟨M,rfl⟩:=hp
 exact ⟨h.1,fun k hk=>by have:=h.2 k hk; simp; omega⟩
theorem VL.one {a a':Nat} {N:List Sh} (h:VN a a' N):VL [(a:Int)] [(a':Int)] N:=⟨by rw [h.1],fun k hk=>by simp at hk; have:=h.2; omega⟩
theorem VL.snoc {l l':List Int} {a a':Nat} {N:List Sh} (h:VL l l' N) (h2:VN a a' N):VL (l++[(a:Int)]) (l'++[(a':Int)]) N:=⟨by rw [h.1,h2.1],fun k hk=>by
 rcases List.mem_append.1 hk with hk | hk
 ·exact h.2 k hk
 ·simp at hk; have:=h2.2; omega⟩
theorem VL.join {l l' m m':List Int} {N:List Sh} (h:VL l l' N) (h2:VL m m' N):VL (l++m) (l'++m') N:=⟨by rw [h.1,h2.1],fun k hk=>(List.mem_append.1 hk).elim (h.2 k) (h2.2 k)⟩
theorem VL.cons {l l':List Int} {a a':Nat} {N:List Sh} (h2:VN a a' N) (h:VL l l' N):VL ((a:Int) :: l) ((a':Int) :: l') N:=⟨by rw [h.1,h2.1],fun k hk=>by
 rcases List.mem_cons.1 hk with hk | hk
 ·have:=h2.2; omega
 ·exact h.2 k hk⟩
theorem VL.nil (N:List Sh):VL [] [] N:=⟨rfl,fun k hk=>by cases hk⟩
section
variable {T T':List Tk} {s s':Ps}
theorem Ok2.add (hs:S2 T s s') {x x':Sh} (hx:x.bare=x'.bare) (hk:∀ k∈x.kids,0≤k∧k < (s.N.length:Int)):Ok2 T VN (-1) (pAdd x) (pAdd x') s s':=by
 refine .inr ⟨s.N.length,s'.N.length,⟨s.i,s.N++[x]⟩,⟨s'.i,s'.N++[x']⟩,rfl,rfl,⟨hs.i,by simp [hs.n,hx],hs.il,fun j hj k hkj=>?_⟩,⟨hs.len,by simp⟩,Nat.le_refl _,[x],rfl,by simp⟩
 by_cases h:j < s.N.length
 ·rw [List.getElem_append_left h] at hkj
  exact hs.low j h k hkj
 ·have e:j=s.N.length:=by simp at hj; omega
  subst e
  simp at hkj
  exact hk k hkj
theorem tok_lt {T:List Tk} {i:Nat} (h:(tokAt T i).kind≠0):i < T.length:=by
 by_cases hi:i < T.length
 ·exact hi
 ·exfalso; apply h; simp [tokAt,zeroTk,hi]
theorem isTk_lt {T:List Tk} {i:Nat} {k:Int} {x:ByteArray} (hk:k≠0) (h:isTk k x (tokAt T i)=true):i < T.length:=by
 refine tok_lt ?_
 simp [isTk] at h
 omega
theorem Alike.is (h:Alike T T') (hs:S2 T s s') (k:Int) (x:ByteArray) (n:Nat):isTk k x (tokAt T (s.i+n))=isTk k x (tokAt T' (s'.i+n)):=by
 have e:=h.tok (s.i+n)
 rw [← hs.i]
 simp [isTk,e.1,e.2.1]
theorem Alike.sgn (h:Alike T T') (hs:S2 T s s') (x:ByteArray):sgn T x s.i=sgn T' x s'.i:=h.is hs 5 x 0
theorem Alike.wrd (h:Alike T T') (hs:S2 T s s') (x:ByteArray):wrd T x s.i=wrd T' x s'.i:=h.is hs 4 x 0
theorem Alike.atm (h:Alike T T') (hs:S2 T s s') (x:ByteArray):atm T x s.i=atm T' x s'.i:=h.is hs 1 x 0
theorem Alike.knd (h:Alike T T') (hs:S2 T s s') (k:Int):knd T k s.i=knd T' k s'.i:=by
 have e:=h.tok s.i
 rw [← hs.i]
 simp [Go.Proofs.YtlciaafincgdeaaGreatDoor.knd,e.1]
theorem sgn_lt {T:List Tk} {x:ByteArray} {i:Nat} (h:sgn T x i=true):i < T.length:=isTk_lt (by decide) h
theorem wrd_lt {T:List Tk} {x:ByteArray} {i:Nat} (h:wrd T x i=true):i < T.length:=isTk_lt (by decide) h
theorem atm_lt {T:List Tk} {x:ByteArray} {i:Nat} (h:atm T x i=true):i < T.length:=isTk_lt (by decide) h
theorem knd_lt {T:List Tk} {k:Int} {i:Nat} (hk:k≠0) (h:knd T k i=true):i < T.length:=tok_lt (by simp [knd] at h; omega)
variable {β:Type} {U:β→β→List Sh→Prop} {e:Int}
theorem Ok2.sign (hA:Alike T T') (hs:S2 T s s') (x:ByteArray) {k k':Tk→PM β} (h:s.i < T.length→S2 T ⟨s.i+1,s.N⟩ ⟨s'.i+1,s'.N⟩→Ok2 T U e (k (tokAt T s.i)) (k' (tokAt T' s'.i)) ⟨s.i+1,s.N⟩ ⟨s'.i+1,s'.N⟩):Ok2 T U (e+4) (PM.bind (pNeed T (Go.Proofs.YtlciaafincgdeaaGreatDoor.sgn T x)) k) (PM.bind (pNeed T' (Go.Proofs.YtlciaafincgdeaaGreatDoor.sgn T' x)) k') s s':=
 Ok2.need hs (hA.sgn hs x) sgn_lt fun hl _=>h hl (hs.next hl)
theorem Ok2.word (hA:Alike T T') (hs:S2 T s s') (x:ByteArray) {k k':Tk→PM β} (h:s.i < T.length→S2 T ⟨s.i+1,s.N⟩ ⟨s'.i+1,s'.N⟩→Ok2 T U e (k (tokAt T s.i)) (k' (tokAt T' s'.i)) ⟨s.i+1,s.N⟩ ⟨s'.i+1,s'.N⟩):Ok2 T U (e+4) (PM.bind (pNeed T (Go.Proofs.YtlciaafincgdeaaGreatDoor.wrd T x)) k) (PM.bind (pNeed T' (Go.Proofs.YtlciaafincgdeaaGreatDoor.wrd T' x)) k') s s':=
 Ok2.need hs (hA.wrd hs x) wrd_lt fun hl _=>h hl (hs.next hl)
theorem Ok2.atom (hA:Alike T T') (hs:S2 T s s') (x:ByteArray) {k k':Tk→PM β} (h:s.i < T.length→S2 T ⟨s.i+1,s.N⟩ ⟨s'.i+1,s'.N⟩→Ok2 T U e (k (tokAt T s.i)) (k' (tokAt T' s'.i)) ⟨s.i+1,s.N⟩ ⟨s'.i+1,s'.N⟩):Ok2 T U (e+4) (PM.bind (pNeed T (Go.Proofs.YtlciaafincgdeaaGreatDoor.atm T x)) k) (PM.bind (pNeed T' (Go.Proofs.YtlciaafincgdeaaGreatDoor.atm T' x)) k') s s':=
 Ok2.need hs (hA.atm hs x) atm_lt fun hl _=>h hl (hs.next hl)
theorem Ok2.kind (hA:Alike T T') (hs:S2 T s s') {q:Int} (hq:q≠0) {k k':Tk→PM β} (h:s.i < T.length→S2 T ⟨s.i+1,s.N⟩ ⟨s'.i+1,s'.N⟩→Ok2 T U e (k (tokAt T s.i)) (k' (tokAt T' s'.i)) ⟨s.i+1,s.N⟩ ⟨s'.i+1,s'.N⟩):Ok2 T U (e+4) (PM.bind (pNeed T (Go.Proofs.YtlciaafincgdeaaGreatDoor.knd T q)) k) (PM.bind (pNeed T' (Go.Proofs.YtlciaafincgdeaaGreatDoor.knd T' q)) k') s s':=
 Ok2.need hs (hA.knd hs q) (knd_lt hq) fun hl _=>h hl (hs.next hl)
end
def dOf:Ph→Int
 | .expr _=>3
 | .operand=>3
 | .conj=>2
 | .body=>2
 | _=>1
def okPh:Ph→Prop
 | .expr l=>1≤l
 | _=>True
theorem dOf_pos (ph:Ph):1≤dOf ph:=by cases ph <;> simp [dOf]
theorem nameOf_bare (N:List Sh) (c:Int):nameOf N c=nameOf (N.map Sh.bare) c:=by
 unfold nameOf
 rw [List.getElem?_map]
 cases N[c.toNat]? <;> rfl
theorem argsOf_bare (N:List Sh) (c:Int):argsOf N c=argsOf (N.map Sh.bare) c:=by
 unfold argsOf
 rw [List.getElem?_map,List.getElem?_map]
 have h:∀ o:Option Sh,(o.map Sh.bare).map Sh.kids=o.map Sh.kids:=fun o=>by cases o <;> rfl
 rw [h,h]
section
variable {T T':List Tk} (hA:Alike T T') {rec rec':Ph→PM Nat}
include hA
theorem rowL_ok2 {x:ByteArray} {ph ph':PM Nat} {d:Int} (hd:0≤d) (hp:∀ s s',S2 T s s'→Ok2 T VN d ph ph' s s'):∀ (f:Nat) (acc acc':List Int) (s s':Ps),S2 T s s'→VL acc acc' s.N→Ok2 T VL 0 (rowL T x ph f acc) (rowL T' x ph' f acc') s s'
 | 0,_,_,_,_,hs,hv=>Ok2.ret hs hv
 | f+1,acc,acc',s,s',hs,hv=>by
  unfold rowL
  refine Ok2.iff (hA.sgn hs x) (fun hb=>?_) (fun _=>Ok2.ret hs hv)
  have hl:=sgn_lt hb
  refine (Ok2.skip (e:=d+0) (n:=1) ((hp _ _ (hs.next hl)).bind fun a a' t t' ht va _ hM=>rowL_ok2 hd hp f _ _ t t' ht ((hv.up hM).snoc va))).mono (by omega)
theorem row_ok2 {x:ByteArray} {ph ph':PM Nat} {d:Int} (hd:0≤d) (hp:∀ s s',S2 T s s'→Ok2 T VN d ph ph' s s') {s s':Ps} (hs:S2 T s s'):Ok2 T VL d (row T x ph) (row T' x ph') s s':=by
 unfold row
 rw [← hA.len]
 exact ((hp s s' hs).bind fun a a' t t' ht va _ _=>rowL_ok2 hA hd hp _ _ _ t t' ht (VL.one va)).mono (by omega)
theorem enclosed_ok2 {l r:ByteArray} {ph ph':PM Nat} {d:Int} (hd:0≤d) (hp:∀ s s',S2 T s s'→Ok2 T VN d ph ph' s s') {s s':Ps} (hs:S2 T s s'):Ok2 T VL 8 (enclosed T l r ph) (enclosed T' l r ph') s s':=by
 unfold enclosed
 refine (Ok2.sign (e:=0+(0+4)) hA hs l fun _ h1=>?_).mono (by omega)
 refine Ok2.bind (V:=VL) (d:=0) (Ok2.iff (hA.sgn h1 r) (fun _=>Ok2.ret h1 (VL.nil _)) (fun _=>(row_ok2 hA hd hp h1).mono (by omega))) fun a a' t t' ht va _ _=>?_
 exact Ok2.sign hA ht r fun _ h2=>Ok2.ret h2 va
variable (hR:∀ ph,okPh ph→∀ s s',S2 T s s'→Ok2 T VN (dOf ph) (rec ph) (rec' ph) s s')
include hR
omit hA in
theorem whole_ok2 {s s':Ps} (hs:S2 T s s'):Ok2 T VN 3 (whole rec) (whole rec') s s':=hR (.expr 1) (by simp [okPh]) s s' hs
theorem arguments_ok2 {s s':Ps} (hs:S2 T s s'):Ok2 T VL 8 (arguments T rec) (arguments T' rec') s s':=enclosed_ok2 hA (d:=3) (by omega) (fun _ _ h=>whole_ok2 hR h) hs
omit hR in
theorem lev_alike {s s':Ps} (hs:S2 T s s'):lev (tokAt T s.i)=lev (tokAt T' s'.i):=by
 have e:=hA.tok s.i
 rw [← hs.i]
 simp [lev,e.1,e.2.1]
omit hR in
theorem opSh_alike {s s':Ps} (hs:S2 T s s') (l:List Int):(opSh (tokAt T s.i) l).bare=(opSh (tokAt T' s'.i) l).bare:=by
 have e:=hA.tok s.i
 rw [← hs.i]
 unfold opSh
 rw [e.2.1]
 split
 ·rfl
 ·split
  ·rfl
  ·split
   ·rfl
   ·split <;> rfl
omit hA hR in
theorem opSh_kids (t:Tk) (l:List Int):(opSh t l).kids=l:=by
 unfold opSh
 split
 ·rfl
 ·split
  ·rfl
  ·split
   ·rfl
   ·split <;> rfl
omit hA hR in
theorem lev_lt {i:Nat} (h:lev (tokAt T i)≠0):i < T.length:=tok_lt fun h0=>h (by simp [lev,h0])
theorem exprL_ok2 {least:Int} (hl:1≤least):∀ (f:Nat) (most:Int) (l l':Nat) (s s':Ps),S2 T s s'→VN l l' s.N→Ok2 T VN 0 (exprL T rec least f most l) (exprL T' rec' least f most l') s s'
 | 0,_,_,_,_,_,hs,hv=>Ok2.ret hs hv
 | f+1,most,l,l',s,s',hs,hv=>by
  unfold exprL
  refine Ok2.tok ?_
  rw [← lev_alike hA hs]
  split
  ·exact Ok2.ret hs hv
  ·rename_i hc
   have hlt:s.i < T.length:=lev_lt (by omega)
   refine (Ok2.skip (e:=3+(-1+0)) (n:=1) ((hR (.expr (sidesR (lev (tokAt T s.i)))) (show 1≤sidesR (lev (tokAt T s.i)) by unfold sidesR; split <;> omega) _ _ (hs.next hlt)).bind fun a a' t t' ht va _ hM=>?_)).mono (by omega)
   refine (Ok2.add ht ?_ ?_).bind fun b b' u u' hu vb _ _=>exprL_ok2 hl f _ b b' u u' hu vb
   ·rw [va.1,(hv.up hM).1]
    exact opSh_alike hA hs _
   ·rw [opSh_kids]
    intro k hk
    have h1:=(hv.up hM).2
    have h2:=va.2
    simp at hk
    omega
theorem rest_ok2 {n n':Sh} (hn:n.bare=n'.bare) {p p':Nat} {s s':Ps} (hs:S2 T s s') (hv:VN p p' s.N):Ok2 T VN 5 (rest T rec n p) (rest T' rec' n' p') s s':=by
 unfold rest
 refine (Ok2.bind (V:=VL) (d:=0) (e:=2+-1+4) (Ok2.iff (hA.wrd hs _) (fun hb=>?_) (fun _=>Ok2.ret hs (VL.one hv))) fun a a' t t' ht va _ _=>?_).mono (by omega)
 ·have hl:=wrd_lt hb
  refine (Ok2.skip (e:=1+0) (n:=1) ((hR .guard trivial _ _ (hs.next hl)).bind fun b b' u u' hu vb _ hM=>Ok2.ret hu ?_)).mono (by omega)
  exact VL.cons (hv.up hM) (VL.one vb)
 ·refine Ok2.sign hA ht _ fun _ h1=>?_
  refine (hR .body trivial _ _ h1).bind fun b b' u u' hu vb _ hM=>Ok2.add hu ?_ ((va.up hM).snoc vb).2
  have hb:=((va.up hM).snoc vb).1
  simp only [Sh.bare,Sh.mk.injEq] at hn ⊢
  exact ⟨hn.1,hn.2.1,hn.2.2.1,hn.2.2.2.1,hb,trivial⟩
theorem named_ok2 {s s':Ps} (hs:S2 T s s') (hl:s.i < T.length):Ok2 T VN 3 (named T rec (tokAt T s.i)) (named T' rec' (tokAt T' s'.i)) s s':=by
 have e:=hA.tok s.i
 rw [hs.i] at e
 rw [← hs.i] at e
 unfold named
 have ht:(tokAt T s.i).text=(tokAt T' s'.i).text:=by rw [← hs.i]; exact e.2.1
 generalize tokAt T s.i=t at ht
 generalize tokAt T' s'.i=t' at ht
 have h1:=hs.next (n:=1) hl
 refine (Ok2.skip (e:=0+(0+-1)) (n:=1) ?_).mono (by omega)
 refine Ok2.bind (V:=fun a a' _=>a=a') (d:=0) (Ok2.iff (by rw [ht,hA.sgn h1]) (fun hb=>?_) (fun _=>Ok2.ret h1 (by rw [ht]))) fun a a' u u' hu va _ _=>?_
 ·have hl2:(⟨s.i+1,s.N⟩:Ps).i < T.length:=sgn_lt (x:=⟨#[58]⟩) (by simp at hb; exact hb.2)
  refine Ok2.mono (d:=0+4+4*(1:Nat)) (Ok2.skip (Ok2.kind hA (h1.next hl2) (by decide) fun _ h3=>?_)) (by omega)
  refine Ok2.ret h3 ?_
  have e2:=hA.tok (s.i+1+1)
  rw [ht]
  simp only [Prod.mk.injEq,true_and]
  rw [← hs.i]
  exact e2.2.1
 ·subst va
  refine Ok2.bind (V:=fun (a a':Int × List Int) N=>a.1=a'.1∧VL a.2 a'.2 N) (d:=0) (Ok2.iff (by rw [hA.sgn hu]) (fun _=>?_) (fun _=>Ok2.ret hu ⟨rfl,VL.nil _⟩)) fun b b' v v' hv vb _ _=>Ok2.add hv ?_ vb.2.2
  ·exact ((arguments_ok2 hA hR hu).bind fun b b' v v' hv vb _ _=>Ok2.ret hv (show (13:Int)=13∧VL b b' v.N from ⟨rfl,vb⟩)).mono (by omega)
  ·simp [Sh.bare,vb.1,vb.2.1]
theorem tail_ok2 {s s':Ps} (hs:S2 T s s'):Ok2 T VN 3 (tail T rec) (tail T' rec') s s':=by
 unfold tail
 refine Ok2.iff (hA.sgn hs _) (fun hb=>?_) (fun _=>?_)
 ·refine (Ok2.skip (e:=3+(0+4)) (n:=1) (Ok2.bind (whole_ok2 hR (hs.next (sgn_lt hb))) fun b b' u u' hu vb _ _=>?_)).mono (by omega)
  exact Ok2.sign hA hu _ fun _ h2=>Ok2.ret h2 vb
 ·refine Ok2.mono (d:=-1+4) ?_ (by omega)
  exact Ok2.sign hA hs _ fun _ h1=>Ok2.add h1 rfl (fun k hk=>by cases hk)
theorem list_ok2 {s s':Ps} (hs:S2 T s s'):Ok2 T VN 3 (list T rec) (list T' rec') s s':=by
 unfold list
 refine Ok2.mono (d:=3+4) (Ok2.sign hA hs _ fun _ h1=>Ok2.iff (hA.sgn h1 _) (fun hb=>?_) (fun _=>?_)) (by omega)
 ·refine Ok2.mono (d:=-1+4*(1:Nat)) ?_ (by omega)
  exact Ok2.skip (Ok2.add (h1.next (sgn_lt hb)) rfl (fun k hk=>by cases hk))
 ·refine Ok2.mono (d:=3+(3+-1)) (Ok2.bind (row_ok2 hA (d:=3) (by omega) (fun _ _ h=>whole_ok2 hR h) h1) fun b b' u u' hu vb _ _=>?_) (by omega)
  refine Ok2.bind (tail_ok2 hA hR hu) fun c c' v v' hv vc _ hM=>Ok2.add hv ?_ ((vb.up hM).snoc vc).2
  simp [Sh.bare,vb.1,vc.1]
theorem bracketed_ok2 {s s':Ps} (hs:S2 T s s'):Ok2 T VN 3 (bracketed T rec (tokAt T s.i)) (bracketed T' rec' (tokAt T' s'.i)) s s':=by
 have e:=hA.tok s.i
 have ht:(tokAt T s.i).text=(tokAt T' s'.i).text:=by rw [← hs.i]; exact e.2.1
 generalize tokAt T s.i=t at ht
 generalize tokAt T' s'.i=t' at ht
 unfold bracketed
 rw [ht]
 split
 ·exact ((enclosed_ok2 hA (d:=3) (by omega) (fun _ _ h=>whole_ok2 hR h) hs).bind fun b b' u u' hu vb _ _=>Ok2.add hu (by simp [Sh.bare,vb.1]) vb.2).mono (by omega)
 ·split
  ·exact list_ok2 hA hR hs
  ·refine Ok2.mono (d:=3+(0+4)+4) (Ok2.sign hA hs _ fun _ h1=>Ok2.bind (whole_ok2 hR h1) fun b b' u u' hu vb _ _=>?_) (by omega)
   exact Ok2.sign hA hu _ fun _ h2=>Ok2.ret h2 vb
theorem after_ok2 {s s':Ps} (hs:S2 T s s'):Ok2 T VN 3 (after T rec) (after T' rec') s s':=by
 unfold after
 refine (Ok2.word (e:=3+(2+-1+4)) hA hs _ fun _ h1=>(whole_ok2 hR h1).bind fun b b' u u' hu vb _ _=>Ok2.sign hA hu _ fun _ h2=>(hR .body trivial _ _ h2).bind fun c c' v v' hv vc _ hM=>?_).mono (by omega)
 have vb2:VN b b' v.N:=vb.up hM
 exact Ok2.add hv (by simp [Sh.bare,vb.1,vc.1]) (VL.cons vb2 (VL.one vc)).2
theorem choices_ok2 {s s':Ps} (hs:S2 T s s'):Ok2 T VL 0 (choices T rec) (choices T' rec') s s':=by
 unfold choices
 refine (Ok2.bind (V:=VL) (d:=0) (e:=0) (Ok2.iff (hA.wrd hs _) (fun _=>Ok2.ret hs (VL.nil _)) (fun _=>(row_ok2 hA (d:=1) (by omega) (fun s s' h=>hR .clause trivial s s' h) hs).mono (by omega))) fun a a' t t' ht va _ _=>?_).mono (by omega)
 exact Ok2.iff (hA.wrd ht _) (fun _=>((after_ok2 hA hR ht).bind fun b b' u u' hu vb _ hM=>Ok2.ret hu ((va.up hM).snoc vb)).mono (by omega)) (fun _=>Ok2.ret ht va)
theorem blockKids_ok2 {t t':Tk} (ht:t.text=t'.text) {s s':Ps} (hs:S2 T s s'):Ok2 T (fun (a a':Int × List Int) N=>a.1=a'.1∧VL a.2 a'.2 N) 0 (blockKids T rec t) (blockKids T' rec' t') s s':=by
 unfold blockKids
 rw [ht]
 split
 ·exact ((hR .body trivial _ _ hs).bind fun b b' u u' hu vb _ _=>Ok2.ret hu ⟨rfl,VL.one vb⟩).mono (by simp [dOf])
 ·split
  ·refine ((whole_ok2 hR hs).bind (e:=1+0+4) fun b b' u u' hu vb _ _=>Ok2.word hA hu _ fun _ h1=>(row_ok2 hA (d:=1) (by omega) (fun s s' h=>hR .clause trivial s s' h) h1).bind fun c c' v v' hv vc _ hM=>?_).mono (by omega)
   have vb2:VN b b' v.N:=vb.up hM
   exact Ok2.ret hv ⟨rfl,VL.cons vb2 vc⟩
  ·split
   ·exact ((choices_ok2 hA hR hs).bind fun b b' u u' hu vb _ _=>Ok2.ret hu ⟨rfl,vb⟩).mono (by omega)
   ·refine ((hR .body trivial _ _ hs).bind (e:=1+0+4) fun b b' u u' hu vb _ _=>Ok2.word hA hu _ fun _ h1=>(row_ok2 hA (d:=1) (by omega) (fun s s' h=>hR .cclause trivial s s' h) h1).bind fun c c' v v' hv vc _ hM=>?_).mono (by simp [dOf])
    have vb2:VN b b' v.N:=vb.up hM
    exact Ok2.ret hv ⟨rfl,VL.cons vb2 vc⟩
theorem block_ok2 {s s':Ps} (hs:S2 T s s'):Ok2 T VN 3 (block T rec (tokAt T s.i)) (block T' rec' (tokAt T' s'.i)) s s':=by
 have e:=hA.tok s.i
 have ht:(tokAt T s.i).text=(tokAt T' s'.i).text:=by rw [← hs.i]; exact e.2.1
 have hk:(tokAt T s.i).kind=(tokAt T' s'.i).kind:=by rw [← hs.i]; exact e.1
 have hb:begins (tokAt T s.i)=begins (tokAt T' s'.i):=by simp [begins,ht,hk]
 unfold block
 refine (Ok2.need (e:=0+(-1+4)) hs hb (fun h=>tok_lt (by simp [begins] at h; omega)) fun hl _=>?_).mono (by omega)
 refine (blockKids_ok2 hA hR ht (hs.next hl)).bind fun b b' u u' hu vb _ _=>Ok2.word hA hu _ fun _ h1=>Ok2.add h1 (by simp [Sh.bare,vb.1,vb.2.1]) vb.2.2
theorem single_ok2 {s s':Ps} (hs:S2 T s s'):Ok2 T VN 3 (single T rec (tokAt T s.i)) (single T' rec' (tokAt T' s'.i)) s s':=by
 have e:=hA.tok s.i
 have ht:(tokAt T s.i).text=(tokAt T' s'.i).text:=by rw [← hs.i]; exact e.2.1
 have hn:(tokAt T s.i).num=(tokAt T' s'.i).num:=by rw [← hs.i]; exact e.2.2
 have hk:(tokAt T s.i).kind=(tokAt T' s'.i).kind:=by rw [← hs.i]; exact e.1
 unfold single
 rw [← hk]
 split
 ·rename_i h3
  exact (Ok2.skip (e:=-1) (n:=1) (Ok2.add (hs.next (tok_lt (by omega))) (by simp [Sh.bare,hn]) (fun k hk=>by cases hk))).mono (by omega)
 ·split
  ·rename_i h2
   exact (Ok2.skip (e:=-1) (n:=1) (Ok2.add (hs.next (tok_lt (by omega))) (by simp [Sh.bare,ht]) (fun k hk=>by cases hk))).mono (by omega)
  ·split
   ·rename_i h1
    exact named_ok2 hA hR hs (tok_lt (by omega))
   ·split
    ·exact bracketed_ok2 hA hR hs
    ·exact block_ok2 hA hR hs
theorem exports_ok2 {s s':Ps} (hs:S2 T s s'):Ok2 T VL 0 (exports T rec) (exports T' rec') s s':=by
 unfold exports
 refine (Ok2.sign (e:=8+(0+4+4)+4+4) hA hs _ fun _ h1=>Ok2.atom hA h1 _ fun _ h2=>Ok2.sign hA h2 _ fun _ h3=>?_).mono (by omega)
 exact (enclosed_ok2 hA (d:=1) (by omega) (fun s s' h=>hR .export trivial s s' h) h3).bind fun b b' u u' hu vb _ _=>Ok2.sign hA hu _ fun _ h4=>Ok2.kind hA h4 (by decide) fun _ h5=>Ok2.ret h5 vb
omit hR in
theorem atModule_alike {s s':Ps} (hs:S2 T s s'):atModule T s.i=atModule T' s'.i:=by
 unfold atModule
 rw [hA.sgn hs]
 congr 1
 exact hA.is hs 1 _ 1
theorem formsL_ok2:∀ (f:Nat) (acc acc':List Int) (s s':Ps),S2 T s s'→VL acc acc' s.N→Ok2 T VL 0 (formsL T rec f acc) (formsL T' rec' f acc') s s'
 | 0,_,_,_,_,hs,hv=>Ok2.ret hs hv
 | f+1,acc,acc',s,s',hs,hv=>by
  unfold formsL
  refine Ok2.iff (by rw [hs.i,hA.len]; have:=atModule_alike hA hs; rw [hs.i] at this; rw [this]) (fun _=>?_) (fun _=>Ok2.ret hs hv)
  refine (Ok2.bind (V:=VL) (d:=0) (e:=0) (Ok2.iff (hA.sgn hs _) (fun _=>exports_ok2 hA hR hs) (fun _=>?_)) fun a a' t t' ht va _ hM=>formsL_ok2 f _ _ t t' ht ((hv.up hM).join va)).mono (by omega)
  exact ((hR .function trivial _ _ hs).bind fun b b' u u' hu vb _ _=>Ok2.ret hu (VL.one vb)).mono (by simp [dOf])
theorem phBody_ok2 (ph:Ph) (hp:okPh ph) {s s':Ps} (hs:S2 T s s'):Ok2 T VN (dOf ph) (phBody T rec ph) (phBody T' rec' ph) s s':=by
 have e:=hA.tok s.i
 have ht:(tokAt T s.i).text=(tokAt T' s'.i).text:=by rw [← hs.i]; exact e.2.1
 have hn:(tokAt T s.i).num=(tokAt T' s'.i).num:=by rw [← hs.i]; exact e.2.2
 have hk:(tokAt T s.i).kind=(tokAt T' s'.i).kind:=by rw [← hs.i]; exact e.1
 cases ph with
 | module=>
  unfold phBody
  refine Ok2.mono (d:=0+-1+4+4+4+4+4+4) (Ok2.sign hA hs _ fun _ h1=>Ok2.atom hA h1 _ fun _ h2=>Ok2.sign hA h2 _ fun _ h3=>Ok2.kind hA h3 (by decide) fun _ h4=>Ok2.sign hA h4 _ fun _ h5=>Ok2.kind hA h5 (by decide) fun _ h6=>?_) (by simp [dOf])
  rw [← hA.len]
  refine Ok2.bind (formsL_ok2 hA hR _ _ _ _ _ h6 (VL.nil _)) fun b b' u u' hu vb _ _=>Ok2.add hu ?_ vb.2
  have e2:=hA.tok (s.i+1+1+1)
  rw [show s'.i=s.i from hs.i.symm]
  simp [Sh.bare,vb.1,e2.2.1]
 | «export»=>
  unfold phBody
  refine Ok2.mono (d:=-1+4+4+4) (Ok2.kind hA hs (by decide) fun _ h1=>Ok2.sign hA h1 _ fun _ h2=>Ok2.kind hA h2 (by decide) fun _ h3=>?_) (by simp [dOf])
  refine Ok2.add h3 ?_ (fun k hk=>by cases hk)
  have e2:=hA.tok (s.i+1+1)
  rw [show s'.i=s.i from hs.i.symm]
  simp [Sh.bare,e.2.1,e2.2.2]
 | function=>
  unfold phBody
  refine Ok2.tok ?_
  refine Ok2.mono (d:=1+(-1+4)) (Ok2.bind (row_ok2 hA (d:=1) (by omega) (fun s s' h=>hR .fclause trivial s s' h) hs) fun b b' u u' hu vb _ _=>?_) (by simp [dOf])
  have h1:nameOf u.N (b.headD 0)=nameOf u'.N (b'.headD 0):=by rw [nameOf_bare,hu.n,← nameOf_bare,vb.1]
  have h2:argsOf u.N (b.headD 0)=argsOf u'.N (b'.headD 0):=by rw [argsOf_bare,hu.n,← argsOf_bare,vb.1]
  refine Ok2.kind hA hu (by decide) fun _ h3=>Ok2.add h3 ?_ vb.2
  simp only [Sh.bare,Sh.mk.injEq]
  exact ⟨trivial,h1,trivial,h2,vb.1,trivial⟩
 | fclause=>
  unfold phBody
  refine Ok2.mono (d:=8+(-1+5)+4) (Ok2.kind hA hs (by decide) fun _ h1=>Ok2.tok ?_) (by simp [dOf])
  refine Ok2.bind (arguments_ok2 hA hR h1) fun b b' u u' hu vb _ _=>Ok2.bind (Ok2.add hu (by simp [Sh.bare,vb.1]) vb.2) fun c c' v v' hv vc _ _=>?_
  exact rest_ok2 hA hR (by simp [Sh.bare,ht]) hv vc
 | clause=>
  unfold phBody
  refine Ok2.tok (Ok2.mono (d:=3+5) (Ok2.bind (whole_ok2 hR hs) fun c c' v v' hv vc _ _=>?_) (by simp [dOf]))
  exact rest_ok2 hA hR (by simp [Sh.bare]) hv vc
 | cclause=>
  unfold phBody
  refine Ok2.tok (Ok2.mono (d:=0+(3+5)) ?_ (by simp [dOf]))
  have hc:atClass T s.i=atClass T' s'.i:=by
   unfold atClass
   have h1:=hA.is hs 5 ⟨#[58]⟩ 1
   simp only [sgn,isTk,ht,hk] at h1 ⊢
   rw [h1]
  refine Ok2.bind (V:=fun a a' _=>a=a') (Ok2.iff hc (fun hb=>?_) (fun _=>Ok2.ret hs rfl)) fun b b' u u' hu vb _ _=>Ok2.bind (whole_ok2 hR hu) fun c c' v v' hv vc _ _=>rest_ok2 hA hR (by simp [Sh.bare,vb]) hv vc
  have hl:s.i+1 < T.length:=sgn_lt (x:=⟨#[58]⟩) (by unfold atClass at hb; simp at hb; exact hb.2)
  refine Ok2.mono (d:=0+4*(2:Nat)) (Ok2.skip ?_) (by omega)
  exact Ok2.ret (hs.next (by omega)) ht
 | conj=>
  unfold phBody
  refine Ok2.tok (Ok2.mono (d:=3+-1) (Ok2.bind (row_ok2 hA (d:=3) (by omega) (fun _ _ h=>whole_ok2 hR h) hs) fun b b' u u' hu vb _ _=>?_) (by simp [dOf]))
  exact Ok2.add hu (by simp [Sh.bare,vb.1]) vb.2
 | guard=>
  unfold phBody
  refine Ok2.tok (Ok2.mono (d:=2+-1) (Ok2.bind (row_ok2 hA (d:=2) (by omega) (fun s s' h=>hR .conj trivial s s' h) hs) fun b b' u u' hu vb _ _=>?_) (by simp [dOf]))
  exact Ok2.add hu (by simp [Sh.bare,vb.1]) vb.2
 | body=>
  unfold phBody
  refine Ok2.tok (Ok2.mono (d:=3+-1) (Ok2.bind (row_ok2 hA (d:=3) (by omega) (fun _ _ h=>whole_ok2 hR h) hs) fun b b' u u' hu vb _ _=>?_) (by simp [dOf]))
  exact Ok2.add hu (by simp [Sh.bare,vb.1]) vb.2
 | operand=>
  unfold phBody
  refine Ok2.tok ?_
  have hu:isUn (tokAt T s.i)=isUn (tokAt T' s'.i):=by simp [isUn,isTk,ht,hk]
  rw [← hu]
  split
  ·rename_i hun
   have hl:s.i < T.length:=tok_lt (by simp [isUn,isTk] at hun; omega)
   refine Ok2.mono (d:=3+-1+4*(1:Nat)) (Ok2.skip (Ok2.bind (hR .operand trivial _ _ (hs.next hl)) fun b b' u u' hu vb _ _=>?_)) (by simp [dOf])
   exact Ok2.add hu (by simp [Sh.bare,ht,vb.1]) (VL.one vb).2
  ·exact single_ok2 hA hR hs
 | expr l=>
  unfold phBody
  rw [← hA.len]
  exact (Ok2.bind (hR .operand trivial _ _ hs) fun b b' u u' hu vb _ _=>exprL_ok2 hA hR hp _ _ _ _ u u' hu vb).mono (by simp [dOf])
end
theorem runP_ok2 {T T':List Tk} (hA:Alike T T'):∀ (f:Nat) (ph:Ph),okPh ph→∀ (s s':Ps),S2 T s s'→Ok2 T VN (dOf ph) (runP T f ph) (runP T' f ph) s s'
 | 0,_,_,s,s',hs=>.inl ⟨s.i,rfl,by rw [hs.i]; rfl,hs.il⟩
 | f+1,ph,hp,s,s',hs=>phBody_ok2 hA (fun ph hp s s' hs=>runP_ok2 hA f ph hp s s' hs) ph hp hs
theorem modsL_ok2 {T T':List Tk} (hA:Alike T T') (q:Nat):∀ (f:Nat) (acc acc':List Int) (s s':Ps),S2 T s s'→VL acc acc' s.N→Ok2 T VL 0 (modsL T (runP T q) f acc) (modsL T' (runP T' q) f acc') s s'
 | 0,_,_,_,_,hs,hv=>Ok2.ret hs hv
 | f+1,acc,acc',s,s',hs,hv=>by
  unfold modsL
  refine Ok2.iff (by rw [hs.i,hA.len]) (fun _=>?_) (fun _=>Ok2.ret hs hv)
  exact (Ok2.bind (runP_ok2 hA q .module trivial _ _ hs) fun b b' u u' hu vb _ hM=>modsL_ok2 hA q f _ _ u u' hu ((hv.up hM).snoc vb)).mono (by simp [dOf])
theorem programP_ok2 {T T':List Tk} (hA:Alike T T') (q:Nat) {s s':Ps} (hs:S2 T s s'):Ok2 T VN 0 (programP T (runP T q)) (programP T' (runP T' q)) s s':=by
 unfold programP
 rw [← hA.len]
 refine Ok2.tok (Ok2.mono (d:=1+(0+-1)) (Ok2.bind (runP_ok2 hA q .module trivial _ _ hs) fun b b' u u' hu vb _ _=>Ok2.bind (modsL_ok2 hA q _ _ _ _ _ hu (VL.one vb)) fun c c' v v' hv vc _ _=>?_) (by omega))
 exact Ok2.add hv (by simp [Sh.bare,vc.1]) vc.2
end Go.Proofs.YtlciaafincgdeaaGreatDoor
