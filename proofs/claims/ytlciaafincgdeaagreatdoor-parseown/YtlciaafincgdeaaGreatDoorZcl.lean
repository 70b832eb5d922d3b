/-
  Layer 11 (parse), of lists alone: tokens that are alike, places aside, have trees that are the same.
  Layer 11 (parse): a row of tokens, token by token.
  Layer 11 (parse): two answers of one shape are the same.
-/
import Derived.Test.YtlciaafincgdeaaGreatDoorZcd
import Derived.Test.YtlciaafincgdeaaGreatDoorZcj
import Derived.Test.YtlciaafincgdeaaGreatDoorZcg
import Derived.Test.YtlciaafincgdeaaGreatDoorZcp
import Derived.Test.YtlciaafincgdeaaGreatDoorZcb
namespace Go.Proofs.YtlciaafincgdeaaGreatDoor
open Go.RowKit
variable {A B N:List Nd} {L:List Sh} {Nv V:Value} {T T':List Tk} {a j:Nat} {w wr:World}
set_option maxHeartbeats 3200000
set_option maxRecDepth 100000
structure Right (T:List Tk) (a:Nat) (L:List Sh):Prop where
 root:a < L.length
 low:∀ j (h:j < L.length),∀ k∈L[j].kids,0≤k∧k < (j:Int)
 len:L.length≤4*T.length
 kids:∀ n∈L,n.kids.length≤T.length+5
theorem parseOf_right (h:parseOf T=.ok (a,L)):Right T a L:=by
 unfold parseOf at h
 cases ht:treeOf T with
 | error e=>simp [ht] at h
 | ok at_=>
  obtain ⟨b,t⟩:=at_
  rw [ht] at h
  simp only at h
  cases hl:limE (kidsS t.N) t.N.length (belowS t.N.length (kidsS t.N) [(b:Int)]) with
  | some c=>simp [hl] at h
  | none=>
   simp [hl] at h
   obtain ⟨rfl,rfl⟩:=h
   obtain ⟨h1,h2,h3⟩:=treeOf_ok ht
   exact ⟨h1,h2.low,h3,treeOf_kids ht⟩
theorem same_of_bare {L':List Sh} (hA:A.map Nd.sh=L) (hB:B.map Nd.sh=L') (hb:L.map Sh.bare=L'.map Sh.bare) (low:∀ j (h:j < L.length),∀ k∈L[j].kids,0≤k∧k < (j:Int)) :
  ∀ n x,x < A.length→(grOf A B).cut n x=(grOf A B).cut n (A.length+x)∧(grOf A B).okn n x∧(grOf A B).okn n (A.length+x)
 | 0,_,_=>⟨rfl,trivial,trivial⟩
 | n+1,x,hx=>by
  have hl:A.length=L.length:=by rw [← hA]; simp
  have hl':B.length=L'.length:=by rw [← hB]; simp
  have hll:L.length=L'.length:=by simpa using congrArg List.length hb
  have hxB:x < B.length:=by omega
  have ea:A[x].sh=L[x]'(by omega):=by simp [← hA]
  have eb:B[x].sh=L'[x]'(by omega):=by simp [← hB]
  have eab:A[x].sh.bare=B[x].sh.bare:=by
   have h1:(L.map Sh.bare)[x]? = (L'.map Sh.bare)[x]?:=by rw [hb]
   rw [List.getElem?_map,List.getElem?_map,List.getElem?_eq_getElem (by omega),List.getElem?_eq_getElem (by omega)] at h1
   rw [ea,eb]
   exact Option.some.inj h1
  have hkid:A[x].kids=B[x].kids:=congrArg Sh.kids eab
  have hlab:A[x].lab=B[x].lab:=by
   have h1:A[x].kind=B[x].kind:=congrArg Sh.kind eab
   have h2:A[x].text=B[x].text:=congrArg Sh.text eab
   have h3:A[x].mod=B[x].mod:=congrArg Sh.mod eab
   have h4:A[x].num=B[x].num:=congrArg Sh.num eab
   simp [Nd.lab,h1,h2,h3,h4]
  have hlow:∀ k∈A[x].kids,0≤k∧k < (x:Int):=fun k hk=>low x (by omega) k (by rw [← ea]; exact hk)
  obtain ⟨a1,a2,a3⟩:=grOf_a A B x hx
  obtain ⟨b1,b2,b3⟩:=grOf_b A B x hxB
  have hall:A[x].kids.all (lowB x)=true:=by
   rw [List.all_eq_true]
   intro k hk
   have:=hlow k hk
   simp [lowB]
   omega
  have hallB:B[x].kids.all (lowB x)=true:=by rw [← hkid]; exact hall
  have ih:=fun k (hk:k∈A[x].kids)=>same_of_bare hA hB hb low n k.toNat (by have:=hlow k hk; omega)
  refine ⟨?_,⟨by rw [a3]; exact hall,?_⟩,⟨by rw [b3]; exact hallB,?_⟩⟩
  ·simp only [Gr.cut,a1,a2,a3,b1,b2,b3,hall,hallB,if_true,hlab,List.map_map]
   rw [← hkid]
   congr 1
   refine List.map_congr_left fun k hk=>?_
   exact (ih k hk).1
  ·intro q hq
   rw [a2] at hq
   obtain ⟨k,hk,rfl⟩:=List.mem_map.1 hq
   exact (ih k hk).2.1
  ·intro q hq
   rw [b2,← hkid] at hq
   obtain ⟨k,hk,rfl⟩:=List.mem_map.1 hq
   exact (ih k hk).2.2
def AlikeTo (T T':List Tk) (j:Nat):Prop:=T'.length=j∧∀ i,i < j→(tokAt T i).kind=(tokAt T' i).kind∧(tokAt T i).text=(tokAt T' i).text∧(tokAt T i).num=(tokAt T' i).num
theorem AlikeTo.snoc (h:AlikeTo T T' j) (z:Int):AlikeTo T (T'++[⟨(tokAt T j).kind,(tokAt T j).text,(tokAt T j).num,z⟩]) (j+1):=by
 obtain ⟨h1,h2⟩:=h
 refine ⟨by simp [h1],fun i hi=>?_⟩
 by_cases hij:i < j
 ·have e:tokAt (T'++[⟨(tokAt T j).kind,(tokAt T j).text,(tokAt T j).num,z⟩]) i=tokAt T' i:=by
   unfold tokAt
   rw [List.getElem?_append_left (by omega)]
  rw [e]
  exact h2 i hij
 ·obtain rfl:i=j:=by omega
  have e:∀ q:Tk,tokAt (T'++[q]) i=q:=by
   intro q
   unfold tokAt
   rw [List.getElem?_append_right (by omega)]
   simp [h1]
  rw [e]
  exact ⟨rfl,rfl,rfl⟩
theorem AlikeTo.all (h:AlikeTo T T' T.length):Alike T T':=by
 refine ⟨h.1.symm,fun i=>?_⟩
 by_cases hi:i < T.length
 ·exact h.2 i hi
 ·have e1:tokAt T i=zeroTk:=by simp [tokAt,List.getElem?_eq_none (Nat.le_of_not_lt hi)]
  have e2:tokAt T' i=zeroTk:=by simp [tokAt,List.getElem?_eq_none (show T'.length≤i by rw [h.1]; omega)]
  rw [e1,e2]
  exact ⟨rfl,rfl,rfl⟩
theorem SlK.tokAt {aT:Option Addr} {cT:Nat} (h:SlK 4 w (.slice aT T.length cT) T.length (toks T)) (j:Nat) (hj:j < T.length):∃ b off,aT=some ⟨b,off,none⟩∧w.cell? ⟨b,off+j*4,none⟩=some (.int .i64 (Go.Proofs.YtlciaafincgdeaaGreatDoor.tokAt T j).kind)∧w.cell? ⟨b,off+j*4+1,none⟩=some (.string (Go.Proofs.YtlciaafincgdeaaGreatDoor.tokAt T j).text)∧w.cell? ⟨b,off+j*4+2,none⟩=some (.int .i64 (Go.Proofs.YtlciaafincgdeaaGreatDoor.tokAt T j).num)∧w.cell? ⟨b,off+j*4+3,none⟩=some (.int .i64 (Go.Proofs.YtlciaafincgdeaaGreatDoor.tokAt T j).at_):=by
 obtain ⟨b,off,cap,e,_,_,hc⟩:=h.at j hj
 simp only [Value.slice.injEq] at e
 obtain ⟨t0,t1,t2,t3⟩:=toks_get T j hj
 have et:Go.Proofs.YtlciaafincgdeaaGreatDoor.tokAt T j=T[j]:=by simp [Go.Proofs.YtlciaafincgdeaaGreatDoor.tokAt,hj]
 have e0:=(hc 0 (by omega)).1
 have e1:=(hc 1 (by omega)).1
 have e2:=(hc 2 (by omega)).1
 have e3:=(hc 3 (by omega)).1
 rw [Nat.add_zero,Nat.add_zero,t0] at e0
 rw [t1] at e1
 rw [t2] at e2
 rw [t3] at e3
 rw [et]
 exact ⟨b,off,e.1,e0,e1,e2,e3⟩
structure MvI (T:List Tk) (w wr:World) (V:Value) (j:Nat) (T':List Tk):Prop where
 alike:AlikeTo T T' j
 own:OwnK 4 wr V T'.length (toks T')
 new:∀ k,blk V k→w.heap.size≤k
 bl:Below w.heap.size w wr
theorem MvI.more {w2 w3:World} {V2:Value} {z:Int} (h:MvI T w wr V j T') (hb:Below wr.heap.size wr w2) (ho:OwnK 4 w3 V2 (T'.length+1) (toks T'++(⟨(tokAt T j).kind,(tokAt T j).text,(tokAt T j).num,z⟩:Tk).cells)) (ht:Turned (blk V) w2 w3) (hv:∀ k,blk V2 k→blk V k∨k=w2.heap.size):MvI T w w3 V2 (j+1) (T'++[⟨(tokAt T j).kind,(tokAt T j).text,(tokAt T j).num,z⟩]):=by
 have b2:=h.bl.trans (hb.mono h.bl.size)
 exact ⟨h.alike.snoc z,by rw [toks_snoc,List.length_append]; exact ho,fun k hk=>(hv k hk).elim (h.new k) (fun e=>by have:=b2.size; omega),b2.trans (ht.below b2.size h.new)⟩
def MovedTold (T:List Tk) (w w':World) (V:Value):Prop:=∃ T',OwnK 4 w' V T'.length (toks T')∧Alike T T'∧(∀ k,blk V k→w.heap.size≤k)∧Below w.heap.size w w'
theorem MvI.told (h:MvI T w wr V j T') (e:j=T.length):MovedTold T w wr V:=
 ⟨T',h.own,AlikeTo.all (e ▸ h.alike),h.new,h.bl⟩
theorem NodesAt.ndArg (h:NodesAt w Nv N) (hs:∀ n∈N,n.kids.length≤4611686018427387903):NdArg w Nv N:=by
 by_cases hn:N.length=0
 ·obtain ⟨a,cap,e,_⟩:=h.own.sl.form
  subst e
  rw [hn]
  exact .inl ⟨a,cap,rfl,List.length_eq_zero_iff.1 hn⟩
 ·obtain ⟨b,off,cap,e,_⟩:=h.all 0 (by omega)
  refine .inr ⟨b,off,cap,e,fun j hj=>⟨?_,SlI.any (h.kid j hj) (hs _ (List.getElem_mem hj))⟩⟩
  obtain ⟨b',off',cap',e',hc⟩:=h.all j hj
  rw [e] at e'
  simp only [Value.slice.injEq,Option.some.injEq,Addr.mk.injEq,and_true,true_and] at e'
  obtain ⟨⟨rfl,rfl⟩,rfl⟩:=e'
  exact hc
theorem NodesAt.ndOk (h:NodesAt w Nv N) (hr:Right T a (N.map Nd.sh)) (hT:T.length≤65536):NdOk w Nv N:=by
 have hk:∀ n∈N,n.kids.length≤65541:=fun n hn=>by
  have h9:n.kids.length≤T.length+5:=hr.kids n.sh (List.mem_map_of_mem hn)
  omega
 have hl:=hr.len
 simp only [List.length_map] at hl
 exact ⟨h.ndArg (fun n hn=>by have:=hk n hn; omega),by omega,fun n hn=>by have:=hk n hn; omega⟩
theorem sameP_of (hr:Right T a (A.map Nd.sh)) (hb:(A.map Nd.sh).map Sh.bare=(B.map Nd.sh).map Sh.bare):SameP A B a a:=by
 have hlA:a < A.length:=by simpa using hr.root
 have hl:A.length=B.length:=by simpa using congrArg List.length hb
 rw [SameP.in hlA (by omega)]
 have hlow:∀ j (h:j < (A.map Nd.sh).length),∀ k∈(A.map Nd.sh)[j].kids,0≤k∧k < (j:Int):=hr.low
 exact fun n=>same_of_bare (A:=A) (B:=B) rfl rfl hb hlow n a hlA
end Go.Proofs.YtlciaafincgdeaaGreatDoor
