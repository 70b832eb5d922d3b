/-
  Layer 11 (parse), of lists alone: which trees are the same, by depth; the sets that the program keeps.
  Layer 11 (parse), of lists alone: sets of numbers, each with a way to its own number.
  Layer 11 (parse): nodes as an argument, whole; the program's looksSame.
  Layer 11 (parse): the two lists' nodes as one graph; the pairs that the program's Same keeps.
  Layer 11 (parse), of lists alone: the document's classes of nodes tell which trees are the same.
-/
import Derived.Test.YtlciaafincgdeaaGreatDoorZcb
namespace Go.Proofs.YtlciaafincgdeaaGreatDoor
open Go.RowKit
variable {D:Nat→Prop} {J:Nat→Nat→Prop} {N:List Nd} {c:Nat→Option Nat} {dep rep s:Nat→Nat} {n p q x x0 y y0:Nat} {st:List (Nat × Nat)} {v:Value} {w:World}
structure Gr (L:Type) where
 lab:Nat→L
 kid:Nat→List Nat
 low:Nat→Bool
inductive Tr (L:Type) where
 | stub
 | bad
 | mk (l:L) (kids:List (Tr L))
def Gr.cut {L:Type} (G:Gr L):Nat→Nat→Tr L
 | 0,_=>.stub
 | n+1,x=>if G.low x then .mk (G.lab x) ((G.kid x).map (G.cut n)) else .bad
def Gr.okn {L:Type} (G:Gr L):Nat→Nat→Prop
 | 0,_=>True
 | n+1,x=>G.low x=true∧∀ k∈G.kid x,G.okn n k
def Gr.Same {L:Type} (G:Gr L) (x y:Nat):Prop:=∀ n,G.cut n x=G.cut n y∧G.okn n x∧G.okn n y
theorem Gr.Same.low {L:Type} {G:Gr L} (h:G.Same x y):G.low x=true∧G.low y=true:=⟨(h 1).2.1.1,(h 1).2.2.1⟩
theorem Gr.Same.lab {L:Type} {G:Gr L} (h:G.Same x y):G.lab x=G.lab y∧(G.kid x).length=(G.kid y).length:=by
 have h1:=(h 1).1
 simp only [Gr.cut,h.low.1,h.low.2,if_true,Tr.mk.injEq] at h1
 exact ⟨h1.1,by simpa using congrArg List.length h1.2⟩
theorem Gr.Same.kid {L:Type} {G:Gr L} (h:G.Same x y) (j:Nat) (hx:j < (G.kid x).length) (hy:j < (G.kid y).length):G.Same (G.kid x)[j] (G.kid y)[j]:=by
 intro n
 have h1:=h (n+1)
 refine ⟨?_,h1.2.1.2 _ (List.getElem_mem hx),h1.2.2.2 _ (List.getElem_mem hy)⟩
 have h2:=h1.1
 simp only [Gr.cut,h.low.1,h.low.2,if_true,Tr.mk.injEq] at h2
 have h3:((G.kid x).map (G.cut n))[j]? = ((G.kid y).map (G.cut n))[j]?:=by rw [h2.2]
 simpa [hx,hy] using h3
structure SI {L:Type} (G:Gr L) (rep:Nat→Nat) (J:Nat→Nat→Prop) (st:List (Nat × Nat)) (x0 y0:Nat):Prop where
 gen:∀ f:Nat→Tr L,(∀ x y,J x y→f x=f y)→∀ x y,rep x=rep y→f x=f y
 endp:∀ x y,rep x=rep y→x≠y→∃ z,J x z∨J z x
 one:∀ x y,J x y→rep x=rep y∧x≠y∧G.low x=true∧G.low y=true∧G.lab x=G.lab y∧(G.kid x).length=(G.kid y).length
 kids:∀ x y,J x y→∀ j (hx:j < (G.kid x).length) (hy:j < (G.kid y).length),(G.kid x)[j]≠(G.kid y)[j]∧(((G.kid x)[j],(G.kid y)[j])∈st∨rep (G.kid x)[j]=rep (G.kid y)[j])
 ask:(x0,y0)∈st∨rep x0=rep y0
 all:G.Same x0 y0→∀ p q,(p,q)∈st→G.Same p q
theorem SI.begin {L:Type} (G:Gr L) (x0 y0:Nat):SI G id (fun _ _=>False) [(x0,y0)] x0 y0:=
 ⟨fun f _ x y h=>by rw [show x=y from h],fun x y h hn=>absurd h hn,fun _ _ h=>h.elim,fun _ _ h=>h.elim,.inl (by simp),fun h p q hp=>by simp at hp; rw [hp.1,hp.2]; exact h⟩
theorem SI.done {L:Type} {G:Gr L} (h:SI G rep J [] x0 y0) (hne:x0≠y0):G.Same x0 y0:=by
 have k:∀ x y,J x y→∀ j (hx:j < (G.kid x).length) (hy:j < (G.kid y).length),(G.kid x)[j]≠(G.kid y)[j]∧rep (G.kid x)[j]=rep (G.kid y)[j]:=fun x y hj j hx hy=>by
  obtain ⟨a,b⟩:=h.kids x y hj j hx hy
  exact ⟨a,by simpa using b⟩
 have h1:∀ n x y,rep x=rep y→G.cut n x=G.cut n y:=by
  intro n
  induction n with
  | zero=>intros; rfl
  | succ n ih=>
   refine h.gen _ fun x y hj=>?_
   obtain ⟨_,_,l1,l2,e1,e2⟩:=h.one x y hj
   simp only [Gr.cut,l1,l2,if_true,e1,Tr.mk.injEq,true_and]
   refine List.ext_getElem (by simpa using e2) fun j hx hy=>?_
   simp only [List.getElem_map]
   exact ih _ _ (k x y hj j (by simpa using hx) (by simpa using hy)).2
 have h2:∀ n x y,rep x=rep y→x≠y→G.okn n x:=by
  intro n
  induction n with
  | zero=>intros; trivial
  | succ n ih=>
   intro x y hr hn
   obtain ⟨z,hj | hj⟩:=h.endp x y hr hn
   ·obtain ⟨_,_,l1,l2,e1,e2⟩:=h.one _ _ hj
    refine ⟨l1,fun c hc=>?_⟩
    obtain ⟨j,hx,rfl⟩:=List.getElem_of_mem hc
    obtain ⟨a,b⟩:=k _ _ hj j hx (by omega)
    exact ih _ _ b a
   ·obtain ⟨_,_,l1,l2,e1,e2⟩:=h.one _ _ hj
    refine ⟨l2,fun c hc=>?_⟩
    obtain ⟨j,hx,rfl⟩:=List.getElem_of_mem hc
    obtain ⟨a,b⟩:=k _ _ hj j (by omega) hx
    exact ih _ _ b.symm (fun e=>a e.symm)
 have hr:rep x0=rep y0:=by simpa using h.ask
 exact fun n=>⟨h1 n _ _ hr,h2 n _ _ hr hne,h2 n _ _ hr.symm (fun e=>hne e.symm)⟩
theorem SI.pop {L:Type} {G:Gr L} (h:SI G rep J (st++[(p,q)]) x0 y0) (e:rep p=rep q):SI G rep J st x0 y0:=by
 have c:∀ {a b},(a,b)∈st++[(p,q)]→(a,b)∈st∨rep a=rep b:=fun {a b} hm=>by
  rcases List.mem_append.1 hm with hm | hm
  ·exact .inl hm
  ·simp at hm
   exact .inr (by rw [hm.1,hm.2,e])
 exact ⟨h.gen,h.endp,h.one,fun x y hj j hx hy=>⟨(h.kids x y hj j hx hy).1,(h.kids x y hj j hx hy).2.elim c .inr⟩,h.ask.elim c .inr,fun hs a b hm=>h.all hs a b (by simp [hm])⟩
def meld (rep:Nat→Nat) (i k:Nat) (x:Nat):Nat:=if rep x=i then k else rep x
theorem SI.join {L:Type} {G:Gr L} (h:SI G rep J (st++[(p,q)]) x0 y0) (e:rep p≠rep q)
  (l1:G.low p=true) (l2:G.low q=true) (e1:G.lab p=G.lab q) (e2:(G.kid p).length=(G.kid q).length) (hn:∀ j (hx:j < (G.kid p).length) (hy:j < (G.kid q).length),(G.kid p)[j]≠(G.kid q)[j]) :
  SI G (meld rep (rep p) (rep q)) (fun x y=>J x y∨(x=p∧y=q)) (st++(G.kid p).zip (G.kid q)) x0 y0:=by
 have up:∀ {a b},rep a=rep b→meld rep (rep p) (rep q) a=meld rep (rep p) (rep q) b:=fun {a b} hr=>by simp [meld,hr]
 have pq:meld rep (rep p) (rep q) p=meld rep (rep p) (rep q) q:=by simp [meld]
 have c:∀ {a b},(a,b)∈st++[(p,q)]→(a,b)∈st++(G.kid p).zip (G.kid q)∨meld rep (rep p) (rep q) a=meld rep (rep p) (rep q) b:=fun {a b} hm=>by
  rcases List.mem_append.1 hm with hm | hm
  ·exact .inl (by simp [hm])
  ·simp at hm
   exact .inr (by rw [hm.1,hm.2,pq])
 have back:∀ x y,meld rep (rep p) (rep q) x=meld rep (rep p) (rep q) y→rep x=rep y∨(rep x=rep p∧rep y=rep q)∨(rep x=rep q∧rep y=rep p):=fun x y hm=>by
  simp only [meld] at hm
  split at hm <;> split at hm <;> simp_all
 refine ⟨fun f hf x y hr=>?_,fun x y hr hx=>?_,fun x y hj=>?_,fun x y hj j hx hy=>?_,h.ask.elim c (fun r=>.inr (up r)),fun hs a b hm=>?_⟩
 ·have g:=h.gen f (fun a b hj=>hf a b (.inl hj))
  have fpq:=hf p q (.inr ⟨rfl,rfl⟩)
  rcases back x y hr with r | ⟨r1,r2⟩ | ⟨r1,r2⟩
  ·exact g _ _ r
  ·rw [g _ _ r1,g _ _ r2,fpq]
  ·rw [g _ _ r1,g _ _ r2,fpq]
 ·have sub:∀ {z},(∃ t,J z t∨J t z)→∃ t,(J z t∨(z=p∧t=q))∨(J t z∨(t=p∧z=q)):=fun {z} ⟨t,ht⟩=>⟨t,ht.elim (fun a=>.inl (.inl a)) (fun a=>.inr (.inl a))⟩
  rcases back x y hr with r | ⟨r1,r2⟩ | ⟨r1,r2⟩
  ·exact sub (h.endp x y r hx)
  ·by_cases hp:x=p
   ·exact ⟨q,.inl (.inr ⟨hp,rfl⟩)⟩
   ·exact sub (h.endp x p r1 hp)
  ·by_cases hq:x=q
   ·exact ⟨p,.inr (.inr ⟨rfl,hq⟩)⟩
   ·exact sub (h.endp x q r1 hq)
 ·rcases hj with hj | ⟨rfl,rfl⟩
  ·obtain ⟨a,b⟩:=h.one x y hj
   exact ⟨up a,b⟩
  ·exact ⟨pq,fun he=>e (by rw [he]),l1,l2,e1,e2⟩
 ·rcases hj with hj | ⟨rfl,rfl⟩
  ·obtain ⟨a,b⟩:=h.kids x y hj j hx hy
   exact ⟨a,b.elim c (fun r=>.inr (up r))⟩
  ·refine ⟨hn j hx hy,.inl (List.mem_append.2 (.inr ?_))⟩
   exact List.mem_iff_getElem.2 ⟨j,by simp; omega,by simp⟩
 ·rcases List.mem_append.1 hm with hm | hm
  ·exact h.all hs a b (by simp [hm])
  ·obtain ⟨j,hj,hje⟩:=List.getElem_of_mem hm
   simp only [List.getElem_zip,Prod.mk.injEq] at hje
   simp only [List.length_zip] at hj
   obtain ⟨r1,r2⟩:=hje
   subst r1 r2
   exact (h.all hs p q (by simp)).kid j (by omega) (by omega)
structure UF (n:Nat) (s:Nat→Nat) (rep dep:Nat→Nat):Prop where
 lt:∀ x,x < n→s x < n
 rlt:∀ x,x < n→rep x < n
 step:∀ x,x < n→rep (s x)=rep x
 root:∀ x,x < n→s x=x→rep x=x
 top:∀ x,x < n→s (rep x)=rep x
 far:∀ x,x < n→s x≠x→dep (s x) < dep x
def put (s:Nat→Nat) (i v:Nat) (x:Nat):Nat:=if x=i then v else s x
theorem put_same (s:Nat→Nat) (i v:Nat):put s i v i=v:=by simp [put]
theorem put_other (s:Nat→Nat) (i v:Nat) (h:x≠i):put s i v x=s x:=by simp [put,h]
theorem UF.begin (n:Nat):UF n id id (fun _=>0):=⟨fun _ h=>h,fun _ h=>h,fun _ _=>rfl,fun _ _ _=>rfl,fun _ _=>rfl,fun _ _ h=>absurd rfl h⟩
theorem UF.rr (h:UF n s rep dep) (hx:x < n):rep (rep x)=rep x:=h.root _ (h.rlt x hx) (h.top x hx)
theorem UF.link (h:UF n s rep dep) {i k:Nat} (hi:i < n) (hk:k < n) (ri:rep i=i) (rk:rep k=k) (hne:i≠k) :
  UF n (put s i k) (meld rep i k) (fun x=>if rep x=i then dep x+dep k+1 else dep x):=by
 have ti:s i=i:=by have:=h.top i hi; rwa [ri] at this
 have tk:s k=k:=by have:=h.top k hk; rwa [rk] at this
 have mk:meld rep i k k=k:=by simp [meld,rk];
 refine ⟨fun x hx=>?_,fun x hx=>?_,fun x hx=>?_,fun x hx hs=>?_,fun x hx=>?_,fun x hx hs=>?_⟩
 ·by_cases e:x=i
  ·subst e; rw [put_same]; exact hk
  ·rw [put_other _ _ _ e]; exact h.lt x hx
 ·simp only [meld]; split
  ·exact hk
  ·exact h.rlt x hx
 ·by_cases e:x=i
  ·subst e; rw [put_same,mk]; simp [meld,ri]
  ·rw [put_other _ _ _ e]; simp only [meld,h.step x hx]
 ·by_cases e:x=i
  ·subst e; rw [put_same] at hs; exact absurd hs.symm hne
  ·rw [put_other _ _ _ e] at hs
   have:=h.root x hx hs
   simp only [meld,this,e,if_false]
 ·simp only [meld]
  split
  ·rw [put_other _ _ _ (fun e=>hne e.symm),tk]
  ·rename_i e
   rw [put_other _ _ _ e]; exact h.top x hx
 ·by_cases e:x=i
  ·subst e
   rw [put_same]
   simp only [ri,rk,if_true,if_neg (Ne.symm hne)]
   omega
  ·rw [put_other _ _ _ e] at hs ⊢
   have d:=h.far x hx hs
   simp only [h.step x hx]
   split <;> omega
def sets (n:Nat) (rep:Nat→Nat):Nat:=((List.range n).filter (fun x=>rep x == x)).length
def NdArg (w:World) (v:Value) (N:List Nd):Prop:=(∃ a cap,v=.slice a 0 cap∧N=[])∨∃ b off cap,v=.slice (some ⟨b,off,none⟩) N.length cap∧∀ j (h:j < N.length),(∀ q,q < 6→w.cell? ⟨b,off+j*6+q,none⟩=N[j].cells[q]?)∧SlA w N[j].kv N[j].kids
theorem NdArg.form (h:NdArg w v N):∃ a cap,v=.slice a N.length cap:=by
 rcases h with ⟨a,cap,rfl,rfl⟩ | ⟨b,off,cap,rfl,_⟩
 ·exact ⟨a,cap,rfl⟩
 ·exact ⟨_,cap,rfl⟩
theorem NdArg.below {w':World} (h:NdArg w v N) (hb:Below w.heap.size w w'):NdArg w' v N:=by
 rcases h with h | ⟨b,off,cap,rfl,hc⟩
 ·exact .inl h
 ·refine .inr ⟨b,off,cap,rfl,fun j hj=>⟨fun q hq=>?_,(hc j hj).2.below hb⟩⟩
  have h0:=(hc j hj).1 q hq
  have hq6:q < N[j].cells.length:=hq
  rw [List.getElem?_eq_getElem hq6] at h0 ⊢
  exact (hb.cell (p:=⟨b,off+j*6+q,none⟩) (World.block_lt_of_cell? w _ h0)).trans h0
theorem NdArg.arg (h:NdArg w v N):NArg w v (kvs N):=by
 rcases h with ⟨a,cap,rfl,rfl⟩ | ⟨b,off,cap,rfl,hc⟩
 ·exact .inl ⟨a,cap,rfl,rfl⟩
 ·refine .inr ⟨b,off,cap,by rw [kvs_length],fun j hj=>?_⟩
  have hj':j < N.length:=by simpa [kvs] using hj
  simp only [kvs,List.getElem_map]
  exact ⟨(hc j hj').1 4 (by decide),(hc j hj').2⟩
theorem NdArg.at {a:Option Addr} {cap:Nat} (h:NdArg w (.slice a N.length cap) N) (j:Nat) (hj:j < N.length):∃ b off,a=some ⟨b,off,none⟩∧w.cell? ⟨b,off+j*6,none⟩=some (.int .i64 N[j].kind)∧w.cell? ⟨b,off+j*6+1,none⟩=some (.string N[j].text)∧w.cell? ⟨b,off+j*6+2,none⟩=some (.string N[j].mod)∧w.cell? ⟨b,off+j*6+3,none⟩=some (.int .i64 N[j].num)∧w.cell? ⟨b,off+j*6+4,none⟩=some N[j].kv∧w.cell? ⟨b,off+j*6+5,none⟩=some (.int .i64 N[j].at_)∧SlA w N[j].kv N[j].kids:=by
 rcases h with ⟨a',cap',_,rfl⟩ | ⟨b,off,cap',e,hc⟩
 ·simp at hj
 ·simp only [Value.slice.injEq,true_and] at e
  obtain ⟨c,s⟩:=hc j hj
  exact ⟨b,off,e.1,c 0 (by decide),c 1 (by decide),c 2 (by decide),c 3 (by decide),c 4 (by decide),c 5 (by decide),s⟩
def lookB (x y:Nd):Bool:=decide (x.kind=y.kind∧x.text.toList=y.text.toList∧x.mod.toList=y.mod.toList∧x.num=y.num∧x.kids.length=y.kids.length)
def Nd.lab (n:Nd):Int × List UInt8 × List UInt8 × Int:=(n.kind,n.text.toList,n.mod.toList,n.num)
def grOf (A B:List Nd):Gr (Option (Int × List UInt8 × List UInt8 × Int)) where
 lab x:=if x < A.length then A[x]?.map Nd.lab else B[x - A.length]?.map Nd.lab
 kid x:=if x < A.length then (kidsOf (kvs A) x).map Int.toNat else (kidsOf (kvs B) (x - A.length)).map (fun k=>A.length+k.toNat)
 low x:=if x < A.length then (kidsOf (kvs A) x).all (lowB x) else (kidsOf (kvs B) (x - A.length)).all (lowB ((x - A.length:Nat):Int))
theorem kidsOf_kvs (A:List Nd) (i:Nat) (h:i < A.length):kidsOf (kvs A) i=A[i].kids:=by simp [kidsOf,kvs,h]
theorem grOf_a (A B:List Nd) (i:Nat) (h:i < A.length):(grOf A B).lab i=some A[i].lab∧(grOf A B).kid i=A[i].kids.map Int.toNat∧(grOf A B).low i=A[i].kids.all (lowB i):=by
 simp [grOf,h,kidsOf_kvs A i h]
theorem grOf_b (A B:List Nd) (k:Nat) (h:k < B.length):(grOf A B).lab (A.length+k)=some B[k].lab∧(grOf A B).kid (A.length+k)=B[k].kids.map (fun z=>A.length+z.toNat)∧(grOf A B).low (A.length+k)=B[k].kids.all (lowB k):=by
 have h1:¬ A.length+k < A.length:=by omega
 have h2:A.length+k - A.length=k:=by omega
 simp [grOf,h1,h2,h,kidsOf_kvs B k h]
def pcs (P:List (Nat × Nat)):List Value:=P.flatMap fun p=>[.int .i64 p.1,.int .i64 p.2]
theorem pcs_length (P:List (Nat × Nat)):(pcs P).length=P.length*2:=by
 induction P with
 | nil=>rfl
 | cons p r ih=>simp [pcs] at *; omega
theorem pcs_snoc (P:List (Nat × Nat)) (p:Nat × Nat):pcs (P++[p])=pcs P++[.int .i64 p.1,.int .i64 p.2]:=by simp [pcs]
theorem OwnK.popped {P:List (Nat × Nat)} {p:Nat × Nat} (h:OwnK 2 w v (P.length+1) (pcs (P++[p]))):∃ g off cap,v=.slice (some ⟨g,off,none⟩) (P.length+1) cap∧P.length+1≤cap∧cap≤maxLen ∧
  w.cell? ⟨g,off+P.length*2,none⟩=some (.int .i64 p.1)∧w.cell? ⟨g,off+P.length*2+1,none⟩=some (.int .i64 p.2)∧OwnK 2 w (.slice (some ⟨g,off,none⟩) P.length cap) P.length (pcs P):=by
 obtain ⟨h0,⟨_,hn⟩ | ⟨g,off,cap,rfl,h2,h3,hg,h4,h5⟩⟩:=h
 ·omega
 ·have hl:=pcs_length P
  have e:(pcs (P++[p])).length=P.length*2+2:=by rw [pcs_snoc]; simp [hl]
  refine ⟨g,off,cap,rfl,h2,h3,?_,?_,hl,.inr ⟨g,off,cap,rfl,by omega,h3,hg,fun j hj=>?_,h5⟩⟩
  ·rw [h4 (P.length*2) (by omega)]
   simp [pcs_snoc,hl]
  ·have:=h4 (P.length*2+1) (by omega)
   rw [Nat.add_assoc,this]
   simp [pcs_snoc,hl]
  ·rw [h4 j (by omega)]
   simp [pcs_snoc,hj]
def cutF {L:Type} (F:List (L × List Nat)):Nat→Nat→Tr L
 | 0,_=>.stub
 | n+1,j=>match F[j]? with
  | some f=>.mk f.1 (f.2.map (cutF F n))
  | none=>.bad
def putC (c:Nat→Option Nat) (i:Nat) (v:Option Nat) (x:Nat):Option Nat:=if x=i then v else c x
structure CI {L:Type} (G:Gr L) (c:Nat→Option Nat) (F:List (L × List Nat)) (D:Nat→Prop):Prop where
 nd:F.Nodup
 fk:∀ j (h:j < F.length),∀ q∈F[j].2,q < j
 has:∀ x j,D x→c x=some j→∃ ks,F[j]? = some (G.lab x,ks)∧(G.kid x).map c=ks.map some∧G.low x=true∧∀ k∈G.kid x,D k
 no:∀ x,D x→c x=none→∃ n,¬ G.okn n x
theorem CI.begin {L:Type} (G:Gr L) (c:Nat→Option Nat):CI G c [] (fun _=>False):=⟨List.nodup_nil,fun j h=>by simp at h,fun _ _ h=>h.elim,fun _ h=>h.elim⟩
theorem CI.cut {L:Type} {G:Gr L} {F:List (L × List Nat)} (h:CI G c F D):∀ n x j,D x→c x=some j→G.cut n x=cutF F n j∧G.okn n x:=by
 intro n
 induction n with
 | zero=>intros; exact ⟨rfl,trivial⟩
 | succ n ih=>
  intro x j hx hc
  obtain ⟨ks,e1,e2,e3,e4⟩:=h.has x j hx hc
  have hlen:(G.kid x).length=ks.length:=by simpa using congrArg List.length e2
  have hk:∀ t (h1:t < (G.kid x).length) (h2:t < ks.length),c (G.kid x)[t]=some ks[t]:=fun t h1 h2=>by
   have h3:((G.kid x).map c)[t]? = (ks.map some)[t]?:=by rw [e2]
   simpa [h1,h2] using h3
  refine ⟨?_,e3,fun k hk'=>?_⟩
  ·simp only [Gr.cut,e3,if_true,cutF,e1,Tr.mk.injEq,true_and]
   refine List.ext_getElem (by simpa using hlen) fun t h1 h2=>?_
   have h1':t < (G.kid x).length:=by simpa using h1
   have h2':t < ks.length:=by simpa using h2
   simp only [List.getElem_map]
   exact (ih _ _ (e4 _ (List.getElem_mem h1')) (hk t h1' h2')).1
  ·obtain ⟨t,h1,rfl⟩:=List.getElem_of_mem hk'
   exact (ih _ _ (e4 _ (List.getElem_mem h1)) (hk t h1 (by omega))).2
theorem CI.inj {L:Type} {G:Gr L} {F:List (L × List Nat)} (h:CI G c F D):∀ m j i,j < m→(hj:j < F.length)→(hi:i < F.length)→(∀ n,cutF F n j=cutF F n i)→j=i:=by
 intro m
 induction m with
 | zero=>intro j i h0; omega
 | succ m ih=>
  intro j i hm hj hi hn
  have step:∀ n,F[j].1=F[i].1∧F[j].2.map (cutF F n)=F[i].2.map (cutF F n):=fun n=>by
   have:=hn (n+1)
   simpa [cutF,hj,hi] using this
  have hlen:F[j].2.length=F[i].2.length:=by simpa using congrArg List.length (step 0).2
  have e2:F[j].2=F[i].2:=by
   refine List.ext_getElem hlen fun t h1 h2=>?_
   have b1:=h.fk j hj _ (List.getElem_mem h1)
   have b2:=h.fk i hi _ (List.getElem_mem h2)
   refine ih _ _ (by omega) (by omega) (by omega) fun n=>?_
   have h3:(F[j].2.map (cutF F n))[t]? = (F[i].2.map (cutF F n))[t]?:=by rw [(step n).2]
   simpa [h1,h2] using h3
  have e:F[j]=F[i]:=Prod.ext (step 0).1 e2
  exact (List.getElem_inj h.nd).1 e
theorem CI.same {L:Type} {G:Gr L} {F:List (L × List Nat)} (h:CI G c F D) (hx:D x) (hy:D y):G.Same x y↔∃ j,c x=some j∧c y=some j:=by
 constructor
 ·intro hs
  cases e1:c x with
  | none=>
   obtain ⟨n,hn⟩:=h.no x hx e1
   exact absurd (hs n).2.1 hn
  | some j=>
   cases e2:c y with
   | none=>
    obtain ⟨n,hn⟩:=h.no y hy e2
    exact absurd (hs n).2.2 hn
   | some i=>
    obtain ⟨_,f1,_⟩:=h.has x j hx e1
    obtain ⟨_,f2,_⟩:=h.has y i hy e2
    obtain ⟨hj,_⟩:=List.getElem?_eq_some_iff.1 f1
    obtain ⟨hi,_⟩:=List.getElem?_eq_some_iff.1 f2
    have:=h.inj (j+1) j i (by omega) hj hi fun n=>by rw [← (h.cut n x j hx e1).1,← (h.cut n y i hy e2).1]; exact (hs n).1
    exact ⟨j,rfl,by rw [this]⟩
 ·rintro ⟨j,e1,e2⟩ n
  exact ⟨by rw [(h.cut n x j hx e1).1,(h.cut n y j hy e2).1],(h.cut n x j hx e1).2,(h.cut n y j hy e2).2⟩
theorem CI.bad {L:Type} {G:Gr L} {F:List (L × List Nat)} (h:CI G c F D) (hx:¬ D x) (hb:G.low x=false∨∃ k∈G.kid x,D k∧c k=none):CI G (putC c x none) F (fun y=>D y∨y=x):=by
 have o:∀ {y},D y→putC c x none y=c y:=fun {y} hy=>by
  have:y≠x:=fun e=>hx (e ▸ hy)
  simp [putC,this]
 refine ⟨h.nd,h.fk,fun y j hy hc=>?_,fun y hy hc=>?_⟩
 ·by_cases e:y=x
  ·subst e; simp [putC] at hc
  ·have hD:D y:=hy.resolve_right e
   rw [o hD] at hc
   obtain ⟨ks,e1,e2,e3,e4⟩:=h.has y j hD hc
   refine ⟨ks,e1,?_,e3,fun k hk=>.inl (e4 k hk)⟩
   rw [← e2]
   exact List.map_congr_left fun k hk=>o (e4 k hk)
 ·by_cases e:y=x
  ·subst e
   rcases hb with hb | ⟨k,hk,hD,hn⟩
   ·exact ⟨1,fun hh=>by simp [Gr.okn,hb] at hh⟩
   ·obtain ⟨n,hn⟩:=h.no k hD hn
    exact ⟨n+1,fun hh=>hn (hh.2 k hk)⟩
  ·have hD:D y:=hy.resolve_right e
   rw [o hD] at hc
   exact h.no y hD hc
theorem CI.old {L:Type} {G:Gr L} {F:List (L × List Nat)} (h:CI G c F D) {j:Nat} {ks:List Nat} (hx:¬ D x) (hl:G.low x=true) (hk:∀ k∈G.kid x,D k) (hc:(G.kid x).map c=ks.map some) (hf:F[j]? = some (G.lab x,ks)):CI G (putC c x (some j)) F (fun y=>D y∨y=x):=by
 have o:∀ {y},D y→putC c x (some j) y=c y:=fun {y} hy=>by
  have:y≠x:=fun e=>hx (e ▸ hy)
  simp [putC,this]
 refine ⟨h.nd,h.fk,fun y i hy hi=>?_,fun y hy hi=>?_⟩
 ·by_cases e:y=x
  ·subst e
   simp only [putC,if_true,Option.some.injEq] at hi
   subst hi
   exact ⟨ks,hf,by rw [← hc]; exact List.map_congr_left fun k hk'=>o (hk k hk'),hl,fun k hk'=>.inl (hk k hk')⟩
  ·have hD:D y:=hy.resolve_right e
   rw [o hD] at hi
   obtain ⟨ks',e1,e2,e3,e4⟩:=h.has y i hD hi
   exact ⟨ks',e1,by rw [← e2]; exact List.map_congr_left fun k hk=>o (e4 k hk),e3,fun k hk=>.inl (e4 k hk)⟩
 ·by_cases e:y=x
  ·subst e; simp [putC] at hi
  ·have hD:D y:=hy.resolve_right e
   rw [o hD] at hi
   exact h.no y hD hi
theorem CI.more {L:Type} {G:Gr L} {F:List (L × List Nat)} (h:CI G c F D) {f:L × List Nat} (hn:f ∉ F) (hq:∀ q∈f.2,q < F.length):CI G c (F++[f]) D:=by
 refine ⟨List.nodup_append.2 ⟨h.nd,by simp,fun a ha b hb=>by simp at hb; subst hb; exact fun e=>hn (e ▸ ha)⟩,fun j hj q hq'=>?_,fun y i hD hi=>?_,h.no⟩
 ·by_cases e:j < F.length
  ·rw [List.getElem_append_left e] at hq'
   exact h.fk j e q hq'
  ·have ej:j=F.length:=by simp at hj; omega
   subst ej
   simp at hq'
   exact hq q hq'
 ·obtain ⟨ks,e1,e2⟩:=h.has y i hD hi
  obtain ⟨hj,_⟩:=List.getElem?_eq_some_iff.1 e1
  exact ⟨ks,by rw [List.getElem?_append_left hj]; exact e1,e2⟩
end Go.Proofs.YtlciaafincgdeaaGreatDoor
