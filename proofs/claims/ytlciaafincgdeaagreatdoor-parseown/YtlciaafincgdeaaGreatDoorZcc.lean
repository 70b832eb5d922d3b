/-
  Layer 11 (parse), of lists alone: each node of a tree but its root is a Kid of a later one.
  Layer 11 (parse), of lists alone: no node has more Kids than tokens allow.
-/
import Derived.Test.YtlciaafincgdeaaGreatDoorZae
import Derived.Test.YtlciaafincgdeaaGreatDoorZaf
namespace Go.Proofs.YtlciaafincgdeaaGreatDoor
def Usd (b:Nat) (N:List Sh) (R:List Int):Prop:=∀ j,b≤j→j < N.length→(j:Int)∈R∨∃ i,j < i∧∃ h:i < N.length,(j:Int)∈N[i].kids
theorem Usd.mono {b:Nat} {N:List Sh} {R R':List Int} (h:Usd b N R) (hR:∀ k∈R,k∈R'):Usd b N R':=fun j h1 h2=>(h j h1 h2).elim (fun e=>.inl (hR _ e)) .inr
theorem Usd.add {b:Nat} {N:List Sh} {R R':List Int} (h:Usd b N R) (x:Sh) (hR:∀ k∈R,k∈R'∨k∈x.kids) (ha:(N.length:Int)∈R'):Usd b (N++[x]) R':=by
 intro j h1 h2
 by_cases hj:j < N.length
 ·rcases h j h1 hj with e | ⟨i,hi,hl,hm⟩
  ·rcases hR _ e with e | e
   ·exact .inl e
   ·exact .inr ⟨N.length,hj,by simp,by simpa using e⟩
  ·exact .inr ⟨i,hi,by simp; omega,by rw [List.getElem_append_left hl]; exact hm⟩
 ·have e:j=N.length:=by simp at h2; omega
  subst e
  exact .inl ha
def Us {α:Type} (m:PM α) (f:α→List Int):Prop:=∀ b R s a t,Usd b s.N R→m s=.ok (a,t)→Usd b t.N (R++f a)
theorem Us.ret {α:Type} (a:α) (f:α→List Int):Us (PM.ret a) f:=fun b R s a' t h e=>by
 simp only [PM.ret,Except.ok.injEq,Prod.mk.injEq] at e
 rw [← e.2]
 exact h.mono (fun k hk=>List.mem_append.2 (.inl hk))
theorem Us.bind {α β:Type} {m:PM α} {k:α→PM β} {f:α→List Int} {g:β→List Int} (h:Us m f) (hk:∀ a,∀ b R s c t,Usd b s.N (R++f a)→k a s=.ok (c,t)→Usd b t.N (R++g c)):Us (PM.bind m k) g:=fun b R s c t hu e=>by
 unfold PM.bind at e
 cases h1:m s with
 | error x=>simp [h1] at e
 | ok au=>
  obtain ⟨a,u⟩:=au
  rw [h1] at e
  exact hk a b R u c t (h b R s a u hu h1) e
theorem Us.none {α β:Type} {m:PM α} {k:α→PM β} {g:β→List Int} (h:∀ s a t,m s=.ok (a,t)→t.N=s.N) (hk:∀ a,Us (k a) g):Us (PM.bind m k) g:=fun b R s c t hu e=>by
 unfold PM.bind at e
 cases h1:m s with
 | error x=>simp [h1] at e
 | ok au=>
  obtain ⟨a,u⟩:=au
  rw [h1] at e
  exact hk a b R u c t (by rw [h s a u h1]; exact hu) e
theorem Us.noneK {α β:Type} {m:PM α} {k:α→PM β} {L:List Int} {g:β→List Int} (h:∀ s a t,m s=.ok (a,t)→t.N=s.N) (hk:∀ a,∀ b R s c t,Usd b s.N (R++L)→k a s=.ok (c,t)→Usd b t.N (R++g c)):∀ b R s c t,Usd b s.N (R++L)→PM.bind m k s=.ok (c,t)→Usd b t.N (R++g c):=fun b R s c t hu e=>by
 unfold PM.bind at e
 cases h1:m s with
 | error x=>simp [h1] at e
 | ok au=>
  obtain ⟨a,u⟩:=au
  rw [h1] at e
  exact hk a b R u c t (by rw [h s a u h1]; exact hu) e
theorem Us.bindK {α β:Type} {m:PM α} {k:α→PM β} {L:List Int} {f:α→List Int} {g:β→List Int} (h:Us m f) (hk:∀ a,∀ b R s c t,Usd b s.N (R++(L++f a))→k a s=.ok (c,t)→Usd b t.N (R++g c)):∀ b R s c t,Usd b s.N (R++L)→PM.bind m k s=.ok (c,t)→Usd b t.N (R++g c):=fun b R s c t hu e=>by
 unfold PM.bind at e
 cases h1:m s with
 | error x=>simp [h1] at e
 | ok au=>
  obtain ⟨a,u⟩:=au
  rw [h1] at e
  exact hk a b R u c t (by have:=h b (R++L) s a u hu h1; rwa [List.append_assoc] at this) e
theorem Us.bindQ {α β:Type} {m:PM α} {k:α→PM β} {L:List Int} {f:α→List Int} {g:β→List Int} (h:∀ b R s a t,Usd b s.N (R++L)→m s=.ok (a,t)→Usd b t.N (R++f a)) (hk:∀ a,∀ b R s c t,Usd b s.N (R++f a)→k a s=.ok (c,t)→Usd b t.N (R++g c)):∀ b R s c t,Usd b s.N (R++L)→PM.bind m k s=.ok (c,t)→Usd b t.N (R++g c):=fun b R s c t hu e=>by
 unfold PM.bind at e
 cases h1:m s with
 | error x=>simp [h1] at e
 | ok au=>
  obtain ⟨a,u⟩:=au
  rw [h1] at e
  exact hk a b R u c t (h b R s a u hu h1) e
theorem Us.addK {L:List Int} (x:Sh) (hL:∀ k∈L,k∈x.kids):∀ b R s c t,Usd b s.N (R++L)→pAdd x s=.ok (c,t)→Usd b t.N (R++[(c:Int)]):=fun b R s c t hu e=>by
 simp only [pAdd,Except.ok.injEq,Prod.mk.injEq] at e
 obtain ⟨rfl,rfl⟩:=e
 exact hu.add x (fun k hk=>(List.mem_append.1 hk).elim (fun e=>.inl (List.mem_append.2 (.inl e))) (fun e=>.inr (hL k e))) (List.mem_append.2 (.inr (by simp)))
theorem Us.retK {α:Type} {L:List Int} (a:α) (f:α→List Int) (hL:∀ k∈L,k∈f a):∀ b R s c t,Usd b s.N (R++L)→PM.ret a s=.ok (c,t)→Usd b t.N (R++f c):=fun b R s c t hu e=>by
 simp only [PM.ret,Except.ok.injEq,Prod.mk.injEq] at e
 obtain ⟨rfl,rfl⟩:=e
 exact hu.mono (fun k hk=>(List.mem_append.1 hk).elim (fun e=>List.mem_append.2 (.inl e)) (fun e=>List.mem_append.2 (.inr (hL k e))))
theorem Us.add (x:Sh):Us (pAdd x) (fun a=>[(a:Int)]):=fun b R s c t hu e=>Us.addK (L:=[]) x (fun k hk=>by cases hk) b R s c t (by simpa using hu) e
theorem Us.iff {α:Type} {b:Nat→Bool} {m k:PM α} {f:α→List Int} (h1:Us m f) (h2:Us k f):Us (pIf b m k) f:=fun b' R s a t hu e=>by
 unfold pIf at e
 split at e
 ·exact h1 b' R s a t hu e
 ·exact h2 b' R s a t hu e
theorem Us.iffK {α:Type} {b:Nat→Bool} {m k:PM α} {L:List Int} {f:α→List Int} (h1:∀ b R s c t,Usd b s.N (R++L)→m s=.ok (c,t)→Usd b t.N (R++f c)) (h2:∀ b R s c t,Usd b s.N (R++L)→k s=.ok (c,t)→Usd b t.N (R++f c)):∀ b' R s c t,Usd b' s.N (R++L)→pIf b m k s=.ok (c,t)→Usd b' t.N (R++f c):=fun b' R s a t hu e=>by
 unfold pIf at e
 split at e
 ·exact h1 b' R s a t hu e
 ·exact h2 b' R s a t hu e
theorem Us.ite {α:Type} {c:Prop} [Decidable c] {m k:PM α} {f:α→List Int} (h1:Us m f) (h2:Us k f):Us (if c then m else k) f:=by
 split
 ·exact h1
 ·exact h2
theorem n_tok (T:List Tk):∀ s a t,pTok T s=.ok (a,t)→t.N=s.N:=fun s a t e=>by
 simp only [pTok,Except.ok.injEq,Prod.mk.injEq] at e
 rw [← e.2]
theorem n_need (T:List Tk) (b:Nat→Bool):∀ s a t,pNeed T b s=.ok (a,t)→t.N=s.N:=fun s a t e=>by
 unfold pNeed at e
 split at e
 ·simp only [Except.ok.injEq,Prod.mk.injEq] at e
  rw [← e.2]
 ·cases e
theorem n_skip (k:Nat):∀ s a t,pSkip k s=.ok (a,t)→t.N=s.N:=fun s a t e=>by
 simp only [pSkip,Except.ok.injEq,Prod.mk.injEq] at e
 rw [← e.2]
section
variable {T:List Tk}
theorem u_rowL {x:ByteArray} {ph:PM Nat} (h:Us ph (fun a=>[(a:Int)])):∀ (f:Nat) (acc:List Int),∀ b R s c t,Usd b s.N (R++acc)→rowL T x ph f acc s=.ok (c,t)→Usd b t.N (R++c)
 | 0,acc=>Us.retK acc (fun l=>l) (fun k hk=>hk)
 | f+1,acc=>by
  unfold rowL
  exact Us.iffK (f:=fun l=>l) (Us.noneK (g:=fun l=>l) (n_skip 1) fun _=>Us.bindK (f:=fun a:Nat=>[(a:Int)]) (g:=fun l=>l) h fun (a:Nat)=>u_rowL h f (acc++[(a:Int)])) (Us.retK acc (fun l=>l) (fun k hk=>hk))
theorem u_row {x:ByteArray} {ph:PM Nat} (h:Us ph (fun a=>[(a:Int)])):Us (row T x ph) (fun l=>l):=Us.bind h fun a=>u_rowL h _ [(a:Int)]
theorem u_enclosed {l r:ByteArray} {ph:PM Nat} (h:Us ph (fun a=>[(a:Int)])):Us (enclosed T l r ph) (fun l=>l):=by
 unfold enclosed
 exact Us.none (n_need T _) fun _=>Us.bind (f:=fun l=>l) (Us.iff (Us.ret _ _) (u_row h)) fun ks=>Us.noneK (g:=fun l=>l) (n_need T _) fun _=>Us.retK ks (fun l=>l) (fun k hk=>hk)
variable {rec:Ph→PM Nat} (R:∀ ph,Us (rec ph) (fun a=>[(a:Int)]))
include R
theorem u_exprL (least:Int):∀ (f:Nat) (most:Int) (l:Nat),∀ b R s c t,Usd b s.N (R++[(l:Int)])→exprL T rec least f most l s=.ok (c,t)→Usd b t.N (R++[(c:Int)])
 | 0,_,l=>Us.retK l (fun a:Nat=>[(a:Int)]) (fun k hk=>hk)
 | f+1,most,l=>by
  unfold exprL
  refine Us.noneK (g:=fun a:Nat=>[(a:Int)]) (n_tok T) fun t=>?_
  split
  ·exact Us.retK l (fun a:Nat=>[(a:Int)]) (fun k hk=>hk)
  ·refine Us.noneK (g:=fun a:Nat=>[(a:Int)]) (n_skip 1) fun _=>Us.bindK (f:=fun a:Nat=>[(a:Int)]) (g:=fun a:Nat=>[(a:Int)]) (R _) fun r=>?_
   intro b R' s c u hu e
   unfold PM.bind at e
   simp only [pAdd] at e
   have h1:=Us.addK (L:=[(l:Int)]++[(r:Int)]) (opSh t [(l:Int),(r:Int)]) (fun k hk=>by rw [opSh_kids]; simpa using hk) b R' s s.N.length ⟨s.i,s.N++[opSh t [(l:Int),(r:Int)]]⟩ hu rfl
   exact u_exprL least f _ s.N.length b R' _ c u h1 e
theorem u_rest (n:Sh) (p:Nat):∀ b R s c t,Usd b s.N (R++[(p:Int)])→rest T rec n p s=.ok (c,t)→Usd b t.N (R++[(c:Int)]):=by
 unfold rest
 exact Us.bindQ (f:=fun l:List Int=>l) (g:=fun a:Nat=>[(a:Int)]) (Us.iffK (f:=fun l:List Int=>l) (Us.noneK (g:=fun l:List Int=>l) (n_skip 1) fun _=>Us.bindK (f:=fun a:Nat=>[(a:Int)]) (g:=fun l:List Int=>l) (R _) fun (k:Nat)=>Us.retK [(p:Int),(k:Int)] (fun l=>l) (fun x hx=>by simpa using hx)) (Us.retK [(p:Int)] (fun l=>l) (fun x hx=>hx)))
  fun ks=>Us.noneK (g:=fun a:Nat=>[(a:Int)]) (n_need T _) fun _=>Us.bindK (f:=fun a:Nat=>[(a:Int)]) (g:=fun a:Nat=>[(a:Int)]) (R _) fun (bb:Nat)=>Us.addK _ (fun k hk=>hk)
theorem u_named (t:Tk):Us (named T rec t) (fun a=>[(a:Int)]):=by
 unfold named
 refine Us.none (n_skip 1) fun _=>Us.none (fun s a u e=>?_) fun mt=>Us.bind (f:=fun kk:Int × List Int=>kk.2) (Us.iff (Us.bind (f:=fun l:List Int=>l) (u_enclosed (R _)) fun ks=>Us.retK ((13:Int),ks) (fun kk=>kk.2) (fun k hk=>hk)) (Us.ret _ _)) fun kk=>Us.addK _ (fun k hk=>hk)
 unfold pIf at e
 split at e
 ·unfold PM.bind at e
  simp only [pSkip] at e
  cases h1:pNeed T (knd T 1) ⟨s.i+1,s.N⟩ with
  | error x=>simp [h1] at e
  | ok au=>
   simp only [h1,PM.ret,Except.ok.injEq,Prod.mk.injEq] at e
   rw [← e.2,n_need T _ _ _ _ h1]
 ·simp only [PM.ret,Except.ok.injEq,Prod.mk.injEq] at e
  rw [← e.2]
theorem u_tail:Us (tail T rec) (fun a=>[(a:Int)]):=by
 unfold tail
 exact Us.iff (Us.none (n_skip 1) fun _=>Us.bind (f:=fun a:Nat=>[(a:Int)]) (R _) fun k=>Us.noneK (g:=fun a:Nat=>[(a:Int)]) (n_need T _) fun _=>Us.retK k (fun a:Nat=>[(a:Int)]) (fun x hx=>hx)) (Us.none (n_need T _) fun _=>Us.add _)
theorem u_list:Us (list T rec) (fun a=>[(a:Int)]):=by
 unfold list
 exact Us.none (n_need T _) fun _=>Us.iff (Us.none (n_skip 1) fun _=>Us.add _) (Us.bind (f:=fun l:List Int=>l) (u_row (R _)) fun ks=>Us.bindK (f:=fun a:Nat=>[(a:Int)]) (g:=fun a:Nat=>[(a:Int)]) (u_tail R) fun k=>Us.addK _ (fun x hx=>hx))
theorem u_bracketed (t:Tk):Us (bracketed T rec t) (fun a=>[(a:Int)]):=by
 unfold bracketed
 exact Us.ite (Us.bind (f:=fun l:List Int=>l) (u_enclosed (R _)) fun ks=>Us.addK _ (fun x hx=>hx)) (Us.ite (u_list R) (Us.none (n_need T _) fun _=>Us.bind (f:=fun a:Nat=>[(a:Int)]) (R _) fun k=>Us.noneK (g:=fun a:Nat=>[(a:Int)]) (n_need T _) fun _=>Us.retK k (fun a:Nat=>[(a:Int)]) (fun x hx=>hx)))
theorem u_after:Us (after T rec) (fun a=>[(a:Int)]):=by
 unfold after
 exact Us.none (n_need T _) fun _=>Us.bind (f:=fun a:Nat=>[(a:Int)]) (R _) fun k=>Us.noneK (g:=fun a:Nat=>[(a:Int)]) (n_need T _) fun _=>Us.bindK (f:=fun a:Nat=>[(a:Int)]) (g:=fun a:Nat=>[(a:Int)]) (R _) fun b=>Us.addK _ (fun x hx=>by simpa using hx)
theorem u_choices:Us (choices T rec) (fun l=>l):=by
 unfold choices
 exact Us.bind (f:=fun l:List Int=>l) (Us.iff (Us.ret _ _) (u_row (R _))) fun ks=>Us.iffK (f:=fun l:List Int=>l) (Us.bindK (f:=fun a:Nat=>[(a:Int)]) (g:=fun l:List Int=>l) (u_after R) fun k=>Us.retK (ks++[(k:Int)]) (fun l=>l) (fun x hx=>hx)) (Us.retK ks (fun l=>l) (fun x hx=>hx))
theorem u_blockKids (t:Tk):Us (blockKids T rec t) (fun kk=>kk.2):=by
 unfold blockKids
 refine Us.ite (Us.bind (f:=fun a:Nat=>[(a:Int)]) (R _) fun k=>Us.retK ((9:Int),[(k:Int)]) (fun kk=>kk.2) (fun x hx=>hx)) (Us.ite (Us.bind (f:=fun a:Nat=>[(a:Int)]) (R _) fun k=>Us.noneK (g:=fun kk:Int × List Int=>kk.2) (n_need T _) fun _=>Us.bindK (f:=fun l:List Int=>l) (g:=fun kk:Int × List Int=>kk.2) (u_row (R _)) fun ks=>Us.retK ((8:Int),(k:Int) :: ks) (fun kk=>kk.2) (fun x hx=>by simpa using hx)) (Us.ite (Us.bind (f:=fun l:List Int=>l) (u_choices R) fun ks=>Us.retK ((12:Int),ks) (fun kk=>kk.2) (fun x hx=>hx)) (Us.bind (f:=fun a:Nat=>[(a:Int)]) (R _) fun k=>Us.noneK (g:=fun kk:Int × List Int=>kk.2) (n_need T _) fun _=>Us.bindK (f:=fun l:List Int=>l) (g:=fun kk:Int × List Int=>kk.2) (u_row (R _)) fun ks=>Us.retK ((10:Int),(k:Int) :: ks) (fun kk=>kk.2) (fun x hx=>by simpa using hx))))
theorem u_block (t:Tk):Us (block T rec t) (fun a=>[(a:Int)]):=by
 unfold block
 exact Us.none (n_need T _) fun _=>Us.bind (f:=fun kk:Int × List Int=>kk.2) (u_blockKids R t) fun kk=>Us.noneK (g:=fun a:Nat=>[(a:Int)]) (n_need T _) fun _=>Us.addK _ (fun x hx=>hx)
theorem u_single (t:Tk):Us (single T rec t) (fun a=>[(a:Int)]):=by
 unfold single
 exact Us.ite (Us.none (n_skip 1) fun _=>Us.add _) (Us.ite (Us.none (n_skip 1) fun _=>Us.add _) (Us.ite (u_named R t) (Us.ite (u_bracketed R t) (u_block R t))))
theorem u_exports:Us (exports T rec) (fun l=>l):=by
 unfold exports
 exact Us.none (n_need T _) fun _=>Us.none (n_need T _) fun _=>Us.none (n_need T _) fun _=>Us.bind (f:=fun l:List Int=>l) (u_enclosed (R _)) fun ks=>Us.noneK (g:=fun l:List Int=>l) (n_need T _) fun _=>Us.noneK (g:=fun l:List Int=>l) (n_need T _) fun _=>Us.retK ks (fun l=>l) (fun x hx=>hx)
theorem u_formsL:∀ (f:Nat) (acc:List Int),∀ b R s c t,Usd b s.N (R++acc)→formsL T rec f acc s=.ok (c,t)→Usd b t.N (R++c)
 | 0,acc=>Us.retK acc (fun l=>l) (fun x hx=>hx)
 | f+1,acc=>by
  unfold formsL
  exact Us.iffK (f:=fun l:List Int=>l) (Us.bindK (f:=fun l:List Int=>l) (g:=fun l:List Int=>l) (Us.iff (u_exports R) (Us.bind (f:=fun a:Nat=>[(a:Int)]) (R _) fun k=>Us.retK [(k:Int)] (fun l=>l) (fun x hx=>hx))) fun ks=>u_formsL f (acc++ks)) (Us.retK acc (fun l=>l) (fun x hx=>hx))
theorem u_phBody (ph:Ph):Us (phBody T rec ph) (fun a=>[(a:Int)]):=by
 cases ph with
 | module=>
  unfold phBody
  exact Us.none (n_need T _) fun _=>Us.none (n_need T _) fun _=>Us.none (n_need T _) fun _=>Us.none (n_need T _) fun _=>Us.none (n_need T _) fun _=>Us.none (n_need T _) fun _=>Us.bind (f:=fun l:List Int=>l) (fun b R' s a t hu e=>u_formsL R (T.length+1) [] b R' s a t (by simpa using hu) e) fun ks=>Us.addK _ (fun x hx=>hx)
 | «export»=>
  unfold phBody
  exact Us.none (n_need T _) fun _=>Us.none (n_need T _) fun _=>Us.none (n_need T _) fun _=>Us.add _
 | function=>
  unfold phBody
  refine Us.none (n_tok T) fun _=>Us.bind (f:=fun l:List Int=>l) (u_row (R _)) fun ks=>?_
  intro b R' s c t hu e
  exact Us.noneK (L:=ks) (g:=fun a:Nat=>[(a:Int)]) (n_need T _) (fun _=>Us.addK ⟨26,nameOf s.N (ks.headD 0),⟨#[]⟩,argsOf s.N (ks.headD 0),ks,_⟩ (fun x hx=>hx)) b R' s c t hu e
 | fclause=>
  unfold phBody
  refine Us.none (n_need T _) fun _=>Us.none (n_tok T) fun o=>Us.bind (f:=fun l:List Int=>l) (u_enclosed (R _)) fun ks=>?_
  exact Us.bindQ (f:=fun a:Nat=>[(a:Int)]) (g:=fun a:Nat=>[(a:Int)]) (Us.addK ⟨25,⟨#[]⟩,⟨#[]⟩,0,ks,o.at_⟩ (fun x hx=>hx)) fun (k:Nat)=>u_rest R _ k
 | clause=>
  unfold phBody
  exact Us.none (n_tok T) fun _=>Us.bind (f:=fun a:Nat=>[(a:Int)]) (R _) fun k=>u_rest R _ k
 | cclause=>
  unfold phBody
  refine Us.none (n_tok T) fun t=>Us.none (fun s a u e=>?_) fun c=>Us.bind (f:=fun a:Nat=>[(a:Int)]) (R _) fun k=>u_rest R _ k
  unfold pIf at e
  split at e
  ·simp only [PM.bind,pSkip,PM.ret,Except.ok.injEq,Prod.mk.injEq] at e
   rw [← e.2]
  ·simp only [PM.ret,Except.ok.injEq,Prod.mk.injEq] at e
   rw [← e.2]
 | conj=>
  unfold phBody
  exact Us.none (n_tok T) fun _=>Us.bind (f:=fun l:List Int=>l) (u_row (R _)) fun ks=>Us.addK _ (fun x hx=>hx)
 | guard=>
  unfold phBody
  exact Us.none (n_tok T) fun _=>Us.bind (f:=fun l:List Int=>l) (u_row (R _)) fun ks=>Us.addK _ (fun x hx=>hx)
 | body=>
  unfold phBody
  exact Us.none (n_tok T) fun _=>Us.bind (f:=fun l:List Int=>l) (u_row (R _)) fun ks=>Us.addK _ (fun x hx=>hx)
 | operand=>
  unfold phBody
  exact Us.none (n_tok T) fun t=>Us.ite (Us.none (n_skip 1) fun _=>Us.bind (f:=fun a:Nat=>[(a:Int)]) (R _) fun k=>Us.addK _ (fun x hx=>hx)) (u_single R t)
 | expr least=>
  unfold phBody
  exact Us.bind (f:=fun a:Nat=>[(a:Int)]) (R _) fun l=>u_exprL R least _ _ l
end
theorem u_runP (T:List Tk):∀ f ph,Us (runP T f ph) (fun a=>[(a:Int)])
 | 0,_=>fun _ _ _ _ _ _ e=>by cases e
 | f+1,ph=>u_phBody (u_runP T f) ph
theorem u_modsL (T:List Tk) (q:Nat):∀ (f:Nat) (acc:List Int),∀ b R s c t,Usd b s.N (R++acc)→modsL T (runP T q) f acc s=.ok (c,t)→Usd b t.N (R++c)
 | 0,acc=>Us.retK acc (fun l=>l) (fun x hx=>hx)
 | f+1,acc=>by
  unfold modsL
  exact Us.iffK (f:=fun l:List Int=>l) (Us.bindK (f:=fun a:Nat=>[(a:Int)]) (g:=fun l:List Int=>l) (u_runP T q _) fun k=>u_modsL T q f (acc++[(k:Int)])) (Us.retK acc (fun l=>l) (fun x hx=>hx))
theorem u_programP (T:List Tk) (q:Nat):Us (programP T (runP T q)) (fun a=>[(a:Int)]):=by
 unfold programP
 exact Us.none (n_tok T) fun _=>Us.bind (f:=fun a:Nat=>[(a:Int)]) (u_runP T q _) fun (k:Nat)=>Us.bindQ (f:=fun l:List Int=>l) (g:=fun a:Nat=>[(a:Int)]) (u_modsL T q (T.length+1) [(k:Int)]) fun ks=>Us.addK _ (fun x hx=>hx)
def KB (T:List Tk):Nat:=T.length+5
def Kl (T:List Tk) (N:List Sh):Prop:=∀ n∈N,n.kids.length≤KB T
def PK {α:Type} (T:List Tk) (V:α→Prop) (m:PM α):Prop:=∀ s a t,Kl T s.N→m s=.ok (a,t)→Kl T t.N∧V a
section
variable {T:List Tk} {α β:Type} {V:α→Prop} {U:β→Prop}
theorem PK.bind {m:PM α} {k:α→PM β} (h:PK T V m) (hk:∀ a,V a→PK T U (k a)):PK T U (PM.bind m k):=fun s b u hs e=>by
 unfold PM.bind at e
 cases hm:m s with
 | error x=>rw [hm] at e; cases e
 | ok at_=>
  obtain ⟨a,t⟩:=at_
  rw [hm] at e
  obtain ⟨h1,h2⟩:=h s a t hs hm
  exact hk a h2 t b u h1 e
theorem PK.ret {a:α} (h:V a):PK T V (PM.ret a):=fun s b u hs e=>by
 simp only [PM.ret,Except.ok.injEq,Prod.mk.injEq] at e
 obtain ⟨rfl,rfl⟩:=e
 exact ⟨hs,h⟩
theorem PK.tok:PK T (fun _=>True) (pTok T):=fun s b u hs e=>by
 simp only [pTok,Except.ok.injEq,Prod.mk.injEq] at e
 obtain ⟨_,rfl⟩:=e
 exact ⟨hs,trivial⟩
theorem PK.skip {n:Nat}:PK T (fun _=>True) (pSkip n):=fun s b u hs e=>by
 simp only [pSkip,Except.ok.injEq,Prod.mk.injEq] at e
 obtain ⟨_,rfl⟩:=e
 exact ⟨hs,trivial⟩
theorem PK.need {b:Nat→Bool}:PK T (fun _=>True) (pNeed T b):=fun s c u hs e=>by
 unfold pNeed at e
 split at e
 ·simp only [Except.ok.injEq,Prod.mk.injEq] at e
  obtain ⟨_,rfl⟩:=e
  exact ⟨hs,trivial⟩
 ·cases e
theorem PK.iff {b:Nat→Bool} {m k:PM α} (h1:PK T V m) (h2:PK T V k):PK T V (pIf b m k):=fun s c u hs e=>by
 unfold pIf at e
 split at e
 ·exact h1 s c u hs e
 ·exact h2 s c u hs e
theorem PK.add {x:Sh} (h:x.kids.length≤KB T):PK T (fun _=>True) (pAdd x):=fun s b u hs e=>by
 simp only [pAdd,Except.ok.injEq,Prod.mk.injEq] at e
 obtain ⟨_,rfl⟩:=e
 refine ⟨fun n hn=>?_,trivial⟩
 simp only [List.mem_append,List.mem_cons,List.not_mem_nil,or_false] at hn
 rcases hn with hn | rfl
 ·exact hs n hn
 ·exact h
theorem KB_le {n:Nat} (h:n≤T.length+5):n≤KB T:=h
def LB (T:List Tk) (q:Nat) (l:List Int):Prop:=l.length≤T.length+q
theorem rowL_pk {x:ByteArray} {ph:PM Nat} (hp:PK T (fun _=>True) ph):∀ (f:Nat) (acc:List Int),PK T (fun l=>l.length≤acc.length+f) (rowL T x ph f acc)
 | 0,acc=>PK.ret (by omega)
 | f+1,acc=>by
  unfold rowL
  refine PK.iff (PK.skip.bind fun _ _=>hp.bind fun k _=>?_) (PK.ret (by omega))
  intro s l t hs e
  obtain ⟨h1,h2⟩:=rowL_pk hp f (acc++[(k:Int)]) s l t hs e
  exact ⟨h1,by simp at h2; omega⟩
theorem row_pk {x:ByteArray} {ph:PM Nat} (hp:PK T (fun _=>True) ph):PK T (LB T 2) (row T x ph):=by
 unfold row
 refine hp.bind fun k _=>?_
 intro s l t hs e
 obtain ⟨h1,h2⟩:=rowL_pk hp _ _ s l t hs e
 exact ⟨h1,by unfold LB; simp at h2; omega⟩
theorem enclosed_pk {l r:ByteArray} {ph:PM Nat} (hp:PK T (fun _=>True) ph):PK T (LB T 2) (enclosed T l r ph):=by
 unfold enclosed
 refine PK.need.bind fun _ _=>(PK.iff (V:=LB T 2) (PK.ret (by simp [LB])) (row_pk hp)).bind fun ks hk=>PK.need.bind fun _ _=>PK.ret hk
end
def noMod:Ph→Prop
 | .module=>False
 | _=>True
section
variable {T:List Tk} {rec:Ph→PM Nat} (hR:∀ ph,noMod ph→PK T (fun _=>True) (rec ph))
include hR
theorem whole_pk:PK T (fun _=>True) (whole rec):=hR (.expr 1) trivial
theorem arguments_pk:PK T (LB T 2) (arguments T rec):=enclosed_pk (whole_pk hR)
omit hR in
theorem opSh_len (t:Tk) (a b:Int):(opSh t [a,b]).kids.length=2:=by
 unfold opSh
 repeat' split
 all_goals rfl
theorem exprL_pk (least:Int):∀ (f:Nat) (m:Int) (l:Nat),PK T (fun _=>True) (exprL T rec least f m l)
 | 0,_,_=>PK.ret trivial
 | f+1,m,l=>by
  unfold exprL
  refine PK.tok.bind fun t _=>?_
  split
  ·exact PK.ret trivial
  ·exact PK.skip.bind fun _ _=>(hR (.expr _) trivial).bind fun r _=>(PK.add (KB_le (by rw [opSh_len]; omega))).bind fun k _=>exprL_pk least f _ k
theorem rest_pk (n:Sh) (p:Nat):PK T (fun _=>True) (rest T rec n p):=by
 unfold rest
 refine (PK.iff (V:=fun l:List Int=>l.length≤2) (PK.skip.bind fun _ _=>(hR (.guard) trivial).bind fun k _=>PK.ret (by simp)) (PK.ret (by simp))).bind fun ks hk=>PK.need.bind fun _ _=>(hR (.body) trivial).bind fun b _=>PK.add (KB_le ?_)
 simp
 omega
theorem named_pk (t:Tk):PK T (fun _=>True) (named T rec t):=by
 unfold named
 refine PK.skip.bind fun _ _=>(PK.iff (V:=fun _=>True) (PK.skip.bind fun _ _=>PK.need.bind fun _ _=>PK.ret trivial) (PK.ret trivial)).bind fun mt _=>?_
 refine (PK.iff (V:=fun kk:Int × List Int=>LB T 2 kk.2) ((arguments_pk hR).bind fun ks hk=>PK.ret hk) (PK.ret (by simp [LB]))).bind fun kk hk=>PK.add (KB_le ?_)
 unfold LB at hk
 simp
 omega
theorem tail_pk:PK T (fun _=>True) (tail T rec):=by
 unfold tail
 exact PK.iff (PK.skip.bind fun _ _=>(whole_pk hR).bind fun _ _=>PK.need.bind fun _ _=>PK.ret trivial) (PK.need.bind fun _ _=>PK.add (by simp))
theorem list_pk:PK T (fun _=>True) (list T rec):=by
 unfold list
 refine PK.need.bind fun _ _=>PK.iff (PK.skip.bind fun _ _=>PK.add (by simp)) ((row_pk (whole_pk hR)).bind fun ks hk=>(tail_pk hR).bind fun k _=>PK.add (KB_le ?_))
 unfold LB at hk
 simp
 omega
theorem bracketed_pk (t:Tk):PK T (fun _=>True) (bracketed T rec t):=by
 unfold bracketed
 split
 ·refine (enclosed_pk (whole_pk hR)).bind fun ks hk=>PK.add (KB_le ?_)
  unfold LB at hk
  simp
  omega
 ·split
  ·exact list_pk hR
  ·exact PK.need.bind fun _ _=>(whole_pk hR).bind fun _ _=>PK.need.bind fun _ _=>PK.ret trivial
theorem after_pk:PK T (fun _=>True) (after T rec):=by
 unfold after
 exact PK.need.bind fun _ _=>(whole_pk hR).bind fun _ _=>PK.need.bind fun _ _=>(hR (.body) trivial).bind fun _ _=>PK.add (KB_le (by simp))
theorem choices_pk:PK T (LB T 3) (choices T rec):=by
 unfold choices
 refine (PK.iff (V:=LB T 2) (PK.ret (by simp [LB])) (row_pk (hR (.clause) trivial))).bind fun ks hk=>PK.iff ((after_pk hR).bind fun k _=>PK.ret ?_) (PK.ret ?_)
 ·unfold LB at hk ⊢
  simp
  omega
 ·unfold LB at hk ⊢
  omega
theorem blockKids_pk (t:Tk):PK T (fun kk:Int × List Int=>LB T 3 kk.2) (blockKids T rec t):=by
 unfold blockKids
 split
 ·exact (hR (.body) trivial).bind fun _ _=>PK.ret (by simp [LB])
 ·split
  ·refine (whole_pk hR).bind fun _ _=>PK.need.bind fun _ _=>(row_pk (hR (.clause) trivial)).bind fun ks hk=>PK.ret ?_
   unfold LB at hk ⊢
   simp
   omega
  ·split
   ·exact (choices_pk hR).bind fun ks hk=>PK.ret hk
   ·refine (hR (.body) trivial).bind fun _ _=>PK.need.bind fun _ _=>(row_pk (hR (.cclause) trivial)).bind fun ks hk=>PK.ret ?_
    unfold LB at hk ⊢
    simp
    omega
theorem block_pk (t:Tk):PK T (fun _=>True) (block T rec t):=by
 unfold block
 refine PK.need.bind fun _ _=>(blockKids_pk hR t).bind fun kk hk=>PK.need.bind fun _ _=>PK.add (KB_le ?_)
 unfold LB at hk
 simp
 omega
theorem single_pk (t:Tk):PK T (fun _=>True) (single T rec t):=by
 unfold single
 repeat' split
 ·exact PK.skip.bind fun _ _=>PK.add (by simp)
 ·exact PK.skip.bind fun _ _=>PK.add (by simp)
 ·exact named_pk hR t
 ·exact bracketed_pk hR t
 ·exact block_pk hR t
theorem exports_pk:PK T (LB T 2) (exports T rec):=by
 unfold exports
 exact PK.need.bind fun _ _=>PK.need.bind fun _ _=>PK.need.bind fun _ _=>(enclosed_pk (hR (.export) trivial)).bind fun ks hk=>PK.need.bind fun _ _=>PK.need.bind fun _ _=>PK.ret hk
theorem formsL_pk:∀ (f:Nat) (acc:List Int),PK T (fun _=>True) (formsL T rec f acc)
 | 0,acc=>PK.ret trivial
 | f+1,acc=>by
  unfold formsL
  exact PK.iff ((PK.iff (V:=LB T 2) (exports_pk hR) ((hR (.function) trivial).bind fun _ _=>PK.ret (by simp [LB]))).bind fun ks _=>formsL_pk f (acc++ks)) (PK.ret trivial)
theorem phBody_pk (ph:Ph) (hp:noMod ph):PK T (fun _=>True) (phBody T rec ph):=by
 cases ph with
 | module=>exact hp.elim
 | «export»=>
  unfold phBody
  exact PK.need.bind fun _ _=>PK.need.bind fun _ _=>PK.need.bind fun _ _=>PK.add (by simp)
 | function=>
  unfold phBody
  refine PK.tok.bind fun _ _=>(row_pk (hR (.fclause) trivial)).bind fun ks hk=>?_
  intro s a t hs e
  refine (PK.need.bind fun _ _=>PK.add (KB_le ?_)) s a t hs e
  unfold LB at hk
  simp
  omega
 | fclause=>
  unfold phBody
  refine PK.need.bind fun _ _=>PK.tok.bind fun _ _=>(arguments_pk hR).bind fun ks hk=>(PK.add (KB_le ?_)).bind fun k _=>rest_pk hR _ _
  unfold LB at hk
  simp
  omega
 | clause=>
  unfold phBody
  exact PK.tok.bind fun _ _=>(whole_pk hR).bind fun _ _=>rest_pk hR _ _
 | cclause=>
  unfold phBody
  exact PK.tok.bind fun _ _=>(PK.iff (V:=fun _=>True) (PK.skip.bind fun _ _=>PK.ret trivial) (PK.ret trivial)).bind fun _ _=>(whole_pk hR).bind fun _ _=>rest_pk hR _ _
 | conj=>
  unfold phBody
  refine PK.tok.bind fun _ _=>(row_pk (whole_pk hR)).bind fun ks hk=>PK.add (KB_le ?_)
  unfold LB at hk
  simp
  omega
 | guard=>
  unfold phBody
  refine PK.tok.bind fun _ _=>(row_pk (hR (.conj) trivial)).bind fun ks hk=>PK.add (KB_le ?_)
  unfold LB at hk
  simp
  omega
 | body=>
  unfold phBody
  refine PK.tok.bind fun _ _=>(row_pk (whole_pk hR)).bind fun ks hk=>PK.add (KB_le ?_)
  unfold LB at hk
  simp
  omega
 | operand=>
  unfold phBody
  refine PK.tok.bind fun t _=>?_
  split
  ·exact PK.skip.bind fun _ _=>(hR (.operand) trivial).bind fun _ _=>PK.add (KB_le (by simp))
  ·exact single_pk hR t
 | expr l=>
  unfold phBody
  exact (hR (.operand) trivial).bind fun _ _=>exprL_pk hR l _ _ _
end
theorem runP_pk (T:List Tk):∀ (f:Nat) (ph:Ph),noMod ph→PK T (fun _=>True) (runP T f ph)
 | 0,_,_=>fun _ _ _ _ e=>by cases e
 | f+1,ph,hp=>phBody_pk (fun ph hp=>runP_pk T f ph hp) ph hp
section
variable {T:List Tk}
theorem Ok2.of {α:Type} {V:α→α→List Sh→Prop} {d:Int} {m:PM α} {s t:Ps} {a:α} (h:Ok2 T V d m m s s) (e:m s=.ok (a,t)):S2 T t t∧(d:Int)≤4*((t.i:Int) - s.i):=by
 rcases h with ⟨x,h1,_⟩ | ⟨a1,a2,t1,t2,h1,h2,h3,_,_,M,_,h7⟩
 ·rw [e] at h1; cases h1
 ·rw [e] at h1 h2
  obtain ⟨rfl,rfl⟩:a=a1∧t=t1:=by simpa using h1
  obtain ⟨rfl,rfl⟩:a=a2∧t=t2:=by simpa using h2
  exact ⟨h3,by omega⟩
theorem rowL_rel {x:ByteArray} {m:PM Nat} (hm:∀ s s',S2 T s s'→Ok2 T VN 1 m m s s'):∀ (f:Nat) (acc:List Int) (s:Ps) (l:List Int) (t:Ps),S2 T s s→rowL T x m f acc s=.ok (l,t)→S2 T t t∧l.length+s.i≤acc.length+t.i
 | 0,acc,s,l,t,hs,e=>by
  simp only [rowL,PM.ret,Except.ok.injEq,Prod.mk.injEq] at e
  obtain ⟨rfl,rfl⟩:=e
  exact ⟨hs,Nat.le_refl _⟩
 | f+1,acc,s,l,t,hs,e=>by
  cases hb:sgn T x s.i with
  | false=>
   simp only [rowL,pIf,hb,PM.ret,Bool.false_eq_true,if_false,Except.ok.injEq,Prod.mk.injEq] at e
   obtain ⟨rfl,rfl⟩:=e
   exact ⟨hs,Nat.le_refl _⟩
  | true=>
   have hn:=hs.next (n:=1) (sgn_lt hb)
   cases h1:m ⟨s.i+1,s.N⟩ with
   | error y=>simp [rowL,pIf,hb,PM.bind,pSkip,h1] at e
   | ok at_=>
    obtain ⟨a,t1⟩:=at_
    simp only [rowL,pIf,hb,if_true,PM.bind,pSkip,h1] at e
    obtain ⟨g1,g2⟩:=(hm _ _ hn).of h1
    obtain ⟨k1,k2⟩:=rowL_rel hm f _ t1 l t g1 e
    refine ⟨k1,?_⟩
    simp at k2 g2
    omega
theorem row_rel {x:ByteArray} {m:PM Nat} (hm:∀ s s',S2 T s s'→Ok2 T VN 1 m m s s') {s t:Ps} {l:List Int} (hs:S2 T s s) (e:row T x m s=.ok (l,t)):S2 T t t∧l.length+s.i≤t.i:=by
 cases h1:m s with
 | error y=>simp [row,PM.bind,h1] at e
 | ok at_=>
  obtain ⟨a,t1⟩:=at_
  simp only [row,PM.bind,h1] at e
  obtain ⟨g1,g2⟩:=(hm _ _ hs).of h1
  obtain ⟨k1,k2⟩:=rowL_rel hm _ _ t1 l t g1 e
  refine ⟨k1,?_⟩
  simp at k2
  omega
theorem enclosed_rel {l r:ByteArray} {m:PM Nat} (hm:∀ s s',S2 T s s'→Ok2 T VN 1 m m s s') {s t:Ps} {ks:List Int} (hs:S2 T s s) (e:enclosed T l r m s=.ok (ks,t)):S2 T t t∧ks.length+s.i≤t.i:=by
 cases h1:sgn T l s.i with
 | false=>simp [enclosed,PM.bind,pNeed,h1] at e
 | true=>
  have hn:=hs.next (n:=1) (sgn_lt h1)
  cases h2:sgn T r (s.i+1) with
  | true=>
   simp [enclosed,PM.bind,pNeed,h1,pIf,h2,PM.ret] at e
   obtain ⟨rfl,rfl⟩:=e
   exact ⟨hn.next (n:=1) (sgn_lt h2),by simp; omega⟩
  | false=>
   cases h3:row T ⟨#[44]⟩ m ⟨s.i+1,s.N⟩ with
   | error x=>simp [enclosed,PM.bind,pNeed,h1,pIf,h2,h3] at e
   | ok ku=>
    obtain ⟨k2,u⟩:=ku
    obtain ⟨g1,g2⟩:=row_rel hm hn h3
    cases h4:sgn T r u.i with
    | false=>simp [enclosed,PM.bind,pNeed,h1,pIf,h2,h3,h4] at e
    | true=>
     simp [enclosed,PM.bind,pNeed,h1,pIf,h2,h3,h4,PM.ret] at e
     obtain ⟨rfl,rfl⟩:=e
     refine ⟨g1.next (n:=1) (sgn_lt h4),?_⟩
     simp at g2 ⊢
     omega
variable {rec:Ph→PM Nat} (hR:∀ ph,okPh ph→∀ s s',S2 T s s'→Ok2 T VN (dOf ph) (rec ph) (rec ph) s s')
include hR
theorem exports_rel {s t:Ps} {ks:List Int} (hs:S2 T s s) (e:exports T rec s=.ok (ks,t)):S2 T t t∧ks.length+s.i≤t.i:=by
 cases a1:sgn T ⟨#[45]⟩ s.i with
 | false=>simp [exports,PM.bind,pNeed,a1] at e
 | true=>
  cases a2:atm T ⟨#[101,120,112,111,114,116]⟩ (s.i+1) with
  | false=>simp [exports,PM.bind,pNeed,a1,a2] at e
  | true=>
   cases a3:sgn T ⟨#[40]⟩ (s.i+1+1) with
   | false=>simp [exports,PM.bind,pNeed,a1,a2,a3] at e
   | true=>
    have hn:S2 T ⟨s.i+1+1+1,s.N⟩ ⟨s.i+1+1+1,s.N⟩:=((hs.next (n:=1) (sgn_lt a1)).next (n:=1) (atm_lt a2)).next (n:=1) (sgn_lt a3)
    cases a4:enclosed T ⟨#[91]⟩ ⟨#[93]⟩ (rec .export) ⟨s.i+1+1+1,s.N⟩ with
    | error x=>simp [exports,PM.bind,pNeed,a1,a2,a3,a4] at e
    | ok ku=>
     obtain ⟨k2,u⟩:=ku
     obtain ⟨l0,l1⟩:=enclosed_rel (fun s s' hs=>hR .export trivial s s' hs) hn a4
     cases a5:sgn T ⟨#[41]⟩ u.i with
     | false=>simp [exports,PM.bind,pNeed,a1,a2,a3,a4,a5] at e
     | true=>
      cases a6:knd T 6 (u.i+1) with
      | false=>simp [exports,PM.bind,pNeed,a1,a2,a3,a4,a5,a6] at e
      | true=>
       simp [exports,PM.bind,pNeed,a1,a2,a3,a4,a5,a6,PM.ret] at e
       obtain ⟨rfl,rfl⟩:=e
       refine ⟨(l0.next (n:=1) (sgn_lt a5)).next (n:=1) (knd_lt (by decide) a6),?_⟩
       simp at l1 ⊢
       omega
theorem formsL_rel:∀ (f:Nat) (acc:List Int) (s:Ps) (l:List Int) (t:Ps),S2 T s s→formsL T rec f acc s=.ok (l,t)→S2 T t t∧l.length+s.i≤acc.length+t.i
 | 0,acc,s,l,t,hs,e=>by
  simp only [formsL,PM.ret,Except.ok.injEq,Prod.mk.injEq] at e
  obtain ⟨rfl,rfl⟩:=e
  exact ⟨hs,Nat.le_refl _⟩
 | f+1,acc,s,l,t,hs,e=>by
  cases hc:(decide (s.i < T.length) && !atModule T s.i) with
  | false=>
   simp only [formsL,pIf,hc,PM.ret,Bool.false_eq_true,if_false,Except.ok.injEq,Prod.mk.injEq] at e
   obtain ⟨rfl,rfl⟩:=e
   exact ⟨hs,Nat.le_refl _⟩
  | true=>
   cases hd:sgn T ⟨#[45]⟩ s.i with
   | true=>
    cases h1:exports T rec s with
    | error y=>simp [formsL,pIf,hc,PM.bind,hd,h1] at e
    | ok ku=>
     obtain ⟨ks,u⟩:=ku
     simp only [formsL,pIf,hc,if_true,PM.bind,hd,h1] at e
     obtain ⟨g1,g2⟩:=exports_rel hR hs h1
     obtain ⟨k1,k2⟩:=formsL_rel f _ u l t g1 e
     refine ⟨k1,?_⟩
     simp at k2
     omega
   | false=>
    cases h1:rec .function s with
    | error y=>simp [formsL,pIf,hc,PM.bind,hd,h1] at e
    | ok au=>
     obtain ⟨a,u⟩:=au
     simp only [formsL,pIf,hc,if_true,PM.bind,hd,Bool.false_eq_true,if_false,h1,PM.ret] at e
     obtain ⟨g1,g2⟩:=(hR .function trivial s s hs).of h1
     obtain ⟨k1,k2⟩:=formsL_rel f _ u l t g1 e
     refine ⟨k1,?_⟩
     simp [dOf] at k2 g2
     omega
end
theorem module_kl {T:List Tk} (f:Nat) {s t:Ps} {a:Nat} (hs:S2 T s s) (hk:Kl T s.N) (e:runP T f .module s=.ok (a,t)):Kl T t.N:=by
 cases f with
 | zero=>cases e
 | succ f=>
  have hR:=fun ph hp s s' hs=>runP_ok2 (Alike.refl T) f ph hp s s' hs
  simp only [runP] at e
  cases a1:sgn T ⟨#[45]⟩ s.i with
  | false=>simp [phBody,PM.bind,pNeed,a1] at e
  | true=>
   cases a2:atm T ⟨#[109,111,100,117,108,101]⟩ (s.i+1) with
   | false=>simp [phBody,PM.bind,pNeed,a1,a2] at e
   | true=>
    cases a3:sgn T ⟨#[40]⟩ (s.i+1+1) with
    | false=>simp [phBody,PM.bind,pNeed,a1,a2,a3] at e
    | true=>
     cases a4:knd T 1 (s.i+1+1+1) with
     | false=>simp [phBody,PM.bind,pNeed,a1,a2,a3,a4] at e
     | true=>
      cases a5:sgn T ⟨#[41]⟩ (s.i+1+1+1+1) with
      | false=>simp [phBody,PM.bind,pNeed,a1,a2,a3,a4,a5] at e
      | true=>
       cases a6:knd T 6 (s.i+1+1+1+1+1) with
       | false=>simp [phBody,PM.bind,pNeed,a1,a2,a3,a4,a5,a6] at e
       | true=>
        have hn:S2 T ⟨s.i+1+1+1+1+1+1,s.N⟩ ⟨s.i+1+1+1+1+1+1,s.N⟩:=(((((hs.next (n:=1) (sgn_lt a1)).next (n:=1) (atm_lt a2)).next (n:=1) (sgn_lt a3)).next (n:=1) (knd_lt (by decide) a4)).next (n:=1) (sgn_lt a5)).next (n:=1) (knd_lt (by decide) a6)
        cases a7:formsL T (runP T f) (T.length+1) [] ⟨s.i+1+1+1+1+1+1,s.N⟩ with
        | error x=>simp [phBody,PM.bind,pNeed,a1,a2,a3,a4,a5,a6,a7] at e
        | ok ku=>
         obtain ⟨ks,u⟩:=ku
         obtain ⟨g1,g2⟩:=formsL_rel hR _ _ _ _ _ hn a7
         obtain ⟨k1,_⟩:=formsL_pk (fun ph hp=>runP_pk T f ph hp) _ _ _ _ _ (show Kl T (⟨s.i+1+1+1+1+1+1,s.N⟩:Ps).N from hk) a7
         simp [phBody,PM.bind,pNeed,a1,a2,a3,a4,a5,a6,a7,pAdd] at e
         obtain ⟨_,rfl⟩:=e
         have hil:=g1.il
         intro n hn2
         simp only [List.mem_append,List.mem_cons,List.not_mem_nil,or_false] at hn2
         rcases hn2 with hn2 | rfl
         ·exact k1 n hn2
         ·simp at g2
          exact KB_le (by show ks.length≤T.length+5; omega)
theorem modsL_kl {T:List Tk} (q:Nat):∀ (f:Nat) (acc:List Int) (s:Ps) (l:List Int) (t:Ps),S2 T s s→Kl T s.N→modsL T (runP T q) f acc s=.ok (l,t)→Kl T t.N∧l.length≤acc.length+f
 | 0,acc,s,l,t,_,hk,e=>by
  simp only [modsL,PM.ret,Except.ok.injEq,Prod.mk.injEq] at e
  obtain ⟨rfl,rfl⟩:=e
  exact ⟨hk,Nat.le_refl _⟩
 | f+1,acc,s,l,t,hs,hk,e=>by
  by_cases hc:s.i < T.length
  ·cases h1:runP T q .module s with
   | error y=>simp [modsL,pIf,hc,PM.bind,h1] at e
   | ok au=>
    obtain ⟨a,u⟩:=au
    have e2:modsL T (runP T q) f (acc++[(a:Int)]) u=.ok (l,t):=by simpa [modsL,pIf,hc,PM.bind,h1] using e
    obtain ⟨g1,_⟩:=(runP_ok2 (Alike.refl T) q .module trivial s s hs).of h1
    obtain ⟨k1,k2⟩:=modsL_kl q f _ u l t g1 (module_kl q hs hk h1) e2
    exact ⟨k1,by simp at k2; omega⟩
  ·have e2:PM.ret acc s=.ok (l,t):=by simpa [modsL,pIf,hc] using e
   simp only [PM.ret,Except.ok.injEq,Prod.mk.injEq] at e2
   obtain ⟨rfl,rfl⟩:=e2
   exact ⟨hk,by omega⟩
theorem programP_kl {T:List Tk} (q:Nat) {s t:Ps} {a:Nat} (hs:S2 T s s) (hk:Kl T s.N) (e:programP T (runP T q) s=.ok (a,t)):Kl T t.N:=by
 cases h1:runP T q .module s with
 | error y=>simp [programP,PM.bind,pTok,h1] at e
 | ok au=>
  obtain ⟨b,u⟩:=au
  obtain ⟨g1,_⟩:=(runP_ok2 (Alike.refl T) q .module trivial s s hs).of h1
  have g2:=module_kl q hs hk h1
  cases h2:modsL T (runP T q) (T.length+1) [(b:Int)] u with
  | error y=>simp [programP,PM.bind,pTok,h1,h2] at e
  | ok kv=>
   obtain ⟨ks,v⟩:=kv
   obtain ⟨g3,g4⟩:=modsL_kl q _ _ u ks v g1 g2 h2
   simp [programP,PM.bind,pTok,h1,h2,pAdd] at e
   obtain ⟨_,rfl⟩:=e
   intro n hn2
   simp only [List.mem_append,List.mem_cons,List.not_mem_nil,or_false] at hn2
   rcases hn2 with hn2 | rfl
   ·exact g3 n hn2
   ·simp at g4
    exact KB_le (by show ks.length≤T.length+5; omega)
end Go.Proofs.YtlciaafincgdeaaGreatDoor
