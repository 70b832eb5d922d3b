/-
  Layer 11 (parse): the document's Places, of two answers of one shape.
-/
import Derived.Test.YtlciaafincgdeaaGreatDoorZcn
namespace Go.Proofs.YtlciaafincgdeaaGreatDoor
open Go.RowKit
variable {P h s1 s2:List Int} {V1 V2:Value} {ks:List Nat} {n q:Nat} {w w5 wr:World}
set_option maxHeartbeats 3200000
set_option maxRecDepth 100000
theorem met_step (n j:Nat) (h:j < n):(List.replicate j (-1:Int)++List.replicate (n - j) 0).set j (-1)=List.replicate (j+1) (-1)++List.replicate (n - (j+1)) 0:=by
 rw [List.set_append_right _ _ (by simp),List.length_replicate,Nat.sub_self]
 obtain ⟨m,hm⟩:∃ m,n - j=m+1:=⟨n - j - 1,by omega⟩
 rw [hm,List.replicate_succ,List.set_cons_zero,show n - (j+1)=m by omega,List.replicate_succ',List.append_assoc]
 rfl
def lenV:Value→Nat
 | .slice _ n _=>n
 | _=>0
structure PlI (w wr:World) (n:Nat) (ks:List Nat) (q:Nat) (V1 V2:Value) (st h:List Int):Prop where
 a:OwnI wr V1 st
 b:OwnI wr V2 st
 dj:∀ k,blk V1 k→¬ blk V2 k∧k≠q∧w.heap.size≤k
 dj2:∀ k,blk V2 k→k≠q∧w.heap.size≤k
 ht:HtAt wr q h
 hl:h.length=n
 hm:∀ j (hj:j < h.length),h[j] = -1∨h[j]=(j:Int)
 st_:∀ x∈st,0≤x∧x < (n:Int)
 sz:st.length+leftM ks h≤1+n*1048576
 bl:Below w.heap.size w wr
structure PlG (w wr:World) (q:Nat) (V1 V2:Value) (s1 s2 h:List Int):Prop where
 a:OwnI wr V1 s1
 b:OwnI wr V2 s2
 dj:∀ k,blk V1 k→¬ blk V2 k
 d1:∀ k,blk V1 k→k≠q∧w.heap.size≤k
 d2:∀ k,blk V2 k→k≠q∧w.heap.size≤k
 ht:HtAt wr q h
 bl:Below w.heap.size w wr
theorem PlI.g (I:PlI w wr n ks q V1 V2 P h):PlG w wr q V1 V2 P P h:=⟨I.a,I.b,fun k hk=>(I.dj k hk).1,fun k hk=>(I.dj k hk).2,I.dj2,I.ht,I.bl⟩
theorem PlG.swap (G:PlG w wr q V1 V2 s1 s2 h):PlG w wr q V2 V1 s2 s1 h:=⟨G.b,G.a,fun k h2 h1=>G.dj k h1 h2,G.d2,G.d1,G.ht,G.bl⟩
theorem PlG.push {w4:World} {V4:Value} {z:Int} {o:Obj} (G:PlG w wr q V1 V2 s1 s2 h) (ho:OwnK 1 w4 V4 (s1.length+1) (ints s1++ints [z])) (T4:Turned (blk V1) (wr.alloc o) w4) (hv:∀ k,blk V4 k→blk V1 k∨k=(wr.alloc o).heap.size):PlG w w4 q V4 V2 (s1++[z]) s2 h:=by
 have B1:=Below.alloc0 wr o
 have hq:=G.ht.lt
 have hb:=OwnK.blk_lt G.b
 have hz:=G.bl.size
 have h1:∀ k,blk V4 k→k≠q∧w.heap.size≤k:=fun k hk=>(hv k hk).elim (G.d1 k) (fun e=>by rw [World.size_alloc] at e; exact ⟨by omega,by omega⟩)
 refine ⟨OwnI.snoc ho,OwnK.turned (G.b.below B1) T4 (fun k hk e=>G.dj k e hk),fun k hk e=>(hv k hk).elim (fun e1=>G.dj k e1 e) (fun e1=>by rw [World.size_alloc] at e1; have:=hb k e; omega),h1,G.d2,(G.ht.below B1).turned T4 (fun e=>(G.d1 q e).1 rfl),?_⟩
 exact (G.bl.trans (B1.mono hz)).trans (T4.below (by rw [World.size_alloc]; omega) (fun k e=>(G.d1 k e).2))
theorem PlG.to {w':World} {U1 U2:Value} {s s':List Int} (G:PlG w wr q V1 V2 s s h) (I:PlI w w' n ks q U1 U2 s' h) (hs:∀ x∈s,0≤x∧x < (n:Int)) (hz:s.length+leftM ks h≤1+n*1048576):PlI w wr n ks q V1 V2 s h:=
 ⟨G.a,G.b,fun k hk=>⟨G.dj k hk,G.d1 k hk⟩,G.d2,G.ht,I.hl,I.hm,hs,hz,G.bl⟩
theorem PlI.below (I:PlI w wr n ks q V1 V2 P h) (hb:Below wr.heap.size wr w5):PlI w w5 n ks q V1 V2 P h:=
 ⟨I.a.below hb,I.b.below hb,I.dj,I.dj2,I.ht.below hb,I.hl,I.hm,I.st_,I.sz,I.bl.trans (hb.mono I.bl.size)⟩
theorem PlI.meet (I:PlI w wr n ks q V1 V2 P h) (hq:w.heap.size≤q) (y:Nat) (hy:y < h.length) (hk:y < ks.length) (e:h[y] = -1):PlI w (wr.setCell ⟨q,y,none⟩ (.int .i64 (y:Int))) n ks q V1 V2 P (h.set y (y:Int)):=by
 have T:=Turned.set1 wr q y (.int .i64 (y:Int))
 have hl:=leftM_set ks h y (y:Int) hy hk e (by omega)
 refine ⟨OwnK.turned I.a T (fun k hk e=>(I.dj k hk).2.1 e),OwnK.turned I.b T (fun k hk e=>(I.dj2 k hk).1 e),I.dj,I.dj2,I.ht.set y hy _,by rw [List.length_set]; exact I.hl,fun j hj=>?_,I.st_,by have:=I.sz; omega,Turned.toBelow I.bl T hq⟩
 rw [List.length_set] at hj
 by_cases hjy:y=j
 ·subst hjy
  exact .inr (by simp)
 ·rw [List.getElem_set_ne hjy]
  exact I.hm j hj
theorem PlI.pop {g1 o1 c1 g2 o2 c2 m1 m2:Nat} {x:Int} (I:PlI w wr n ks q (.slice (some ⟨g1,o1,none⟩) m1 c1) (.slice (some ⟨g2,o2,none⟩) m2 c2) (P++[x]) h)
  (ho1:OwnI wr (.slice (some ⟨g1,o1,none⟩) P.length c1) P) (ho2:OwnI wr (.slice (some ⟨g2,o2,none⟩) P.length c2) P) (hb:Below wr.heap.size wr w5):PlI w w5 n ks q (.slice (some ⟨g1,o1,none⟩) P.length c1) (.slice (some ⟨g2,o2,none⟩) P.length c2) P h:=
 ⟨ho1.below hb,ho2.below hb,I.dj,I.dj2,I.ht.below hb,I.hl,I.hm,fun z hz=>I.st_ z (List.mem_append_left _ hz),by have:=I.sz; simp at this; omega,I.bl.trans (hb.mono I.bl.size)⟩
theorem rt_Places {va vb:Value} {A B:List Nd} (hA:NdArg w va A) (hB:NdArg w vb B) (hsh:A.map Nd.sh=B.map Nd.sh) (low:∀ j (h:j < A.length),∀ k∈A[j].kids,0≤k∧k < (j:Int)) (lA:A.length≤1048576) (kA:∀ x∈A,x.kids.length≤1048576) (i:Nat) (hi:i < A.length) :
  Calls Tryz.prog 30 #[va,.int .i64 (i:Int),vb,.int .i64 (i:Int)] w fun x w'=>x=.returned (.bool true)∧Below w.heap.size w w':=by
 obtain ⟨aA,cA,eA⟩:=hA.form
 obtain ⟨aB,cB,eB⟩:=hB.form
 subst eA eB
 have hAB:B.length=A.length:=by have:=congrArg List.length hsh; simpa using this.symm
 rw [hAB]
 rw [hAB] at hB
 have HA:=Hid.mk7 (And.intro hA (And.intro hB (And.intro hsh (And.intro low (And.intro lA (And.intro kA hAB))))))
 obtain ⟨n,hn⟩:∃ n:Nat,n=A.length:=⟨_,rfl⟩
 rw [← hn] at hi lA ⊢
 have HN:=Hid.mk7 hn
 obtain ⟨w1,hmk,hb1,hz1,hB1⟩:=make_one Tryz.intTypes (by simp [Value.cells]) ((w.alloc (.cells #[.int .i64 (i:Int)] 3)).alloc (.cells #[.int .i64 (i:Int)] 3)) n (by omega) (by omega)
 have o1:OwnI w1 (.slice (some ⟨w.heap.size,0,none⟩) 1 1) [(i:Int)]:=((OwnI.one w (i:Int) 3).below (Below.alloc0 _ _)).below hb1
 have o2:OwnI w1 (.slice (some ⟨w.heap.size+1,0,none⟩) 1 1) [(i:Int)]:=by
  have:=OwnI.one (w.alloc (.cells #[.int .i64 (i:Int)] 3)) (i:Int) 3
  simp only [World.size_alloc] at this
  exact this.below hb1
 have bw:Below w.heap.size w w1:=((Below.alloc0 w _).trans ((Below.alloc0 _ _).mono (by simp))).trans (hb1.mono (by simp; omega))
 have h0:=HtAt.new hB1 hz1
 simp only [World.size_alloc] at h0
 have HM:=Hid.mk7 (And.intro h0 (And.intro o1 (And.intro o2 bw)))
 clear hA hB hsh low kA hn hb1 hz1 hB1 o1 o2 bw h0 hAB
 go_enter Tryz.func30,Tryz.ntmps30
 go_wp2_with fail
 clear hmk
 go_loopw [12] (fun ix wr=>∃ j:Nat,j≤n∧ix=.int .i64 (j:Int)∧HtAt wr (w.heap.size+1+1) (List.replicate j (-1)++List.replicate (n - j) 0)∧OwnI wr (.slice (some ⟨w.heap.size,0,none⟩) 1 1) [(i:Int)]∧OwnI wr (.slice (some ⟨w.heap.size+1,0,none⟩) 1 1) [(i:Int)]∧Below w.heap.size w wr) (fun ix _=>n - (intOf ix).toNat)
 case atStart=>exact ⟨0,Nat.zero_le _,rfl,by simpa using HM.out.1,HM.out.2⟩
 case round=>
  clear HM
  obtain ⟨j,hj,rfl,hht,o1,o2,hb⟩:=hrel
  by_cases hlt:j < n
  ·have hji:(j:Int) < (n:Int):=by omega
   have hjl:j < (List.replicate j (-1:Int)++List.replicate (n - j) 0).length:=by simp; omega
   obtain ⟨cj,fj⟩:=hht.c j hjl
   have hgl:=hht.lt
   have T1:=Turned.set1 wr (w.heap.size+1+1) j (.int .i64 (-1))
   have hs:=hht.set j hjl (-1)
   rw [met_step n j hlt] at hs
   have H1:=Hid.mk7 (And.intro hs (And.intro (OwnK.turned o1 T1 (fun b (e:w.heap.size=b) (e2:b=_)=>by omega)) (And.intro (OwnK.turned o2 T1 (fun b (e:w.heap.size+1=b) (e2:b=_)=>by omega)) (Turned.toBelow hb T1 (by omega)))))
   clear hht o1 o2 hb T1 hs
   go_wp2
   go_roundw
   case rel=>exact ⟨j+1,by omega,by go_num,H1.out⟩
   case measure=>simp [intOf]; omega
  ·have hge:¬ (j:Int) < (n:Int):=by omega
   have ej:n=j:=by omega
   subst ej
   rw [Nat.sub_self,List.replicate_zero,List.append_nil] at hht
   have I0:PlI w wr n (A.map (fun x=>x.kids.length)) (w.heap.size+1+1) (.slice (some ⟨w.heap.size,0,none⟩) 1 1) (.slice (some ⟨w.heap.size+1,0,none⟩) 1 1) [(i:Int)] (List.replicate n (-1)):=by
    refine ⟨o1,o2,fun k (e:w.heap.size=k)=>⟨fun (e2:w.heap.size+1=k)=>by omega,by omega,by omega⟩,fun k (e:w.heap.size+1=k)=>⟨by omega,by omega⟩,hht,by simp,fun j hj=>.inl (by simp),fun x hx=>?_,?_,hb⟩
    ·rw [List.mem_singleton] at hx
     omega
    ·have h1:=leftM_le (A.map (fun x=>x.kids.length)) (List.replicate n (-1)) 1048576 (fun k hk=>by obtain ⟨x,hx,rfl⟩:=List.mem_map.mp hk; exact HA.out.2.2.2.2.2.1 x hx)
     rw [List.length_map,← HN.out] at h1
     simp only [List.length_cons,List.length_nil]
     omega
   have HM:=Hid.mk7 I0
   clear hht o1 o2 hb I0
   go_wp2_with fail
   go_loopw [9,10] (fun V1 V2 wr=>∃ st h,PlI w wr n (A.map (fun x=>x.kids.length)) (w.heap.size+1+1) V1 V2 st h) (fun V1 _ wr=>lenV V1+leftM (A.map (fun x=>x.kids.length)) (wmet wr (w.heap.size+1+1) n))
   case atStart=>exact ⟨_,_,HM.out⟩
   case round=>
    clear HM
    obtain ⟨st,h,I⟩:=hrel
    rcases List.eq_nil_or_concat st with rfl | ⟨P,x,rfl⟩
    ·obtain ⟨a1,c1,e1,_⟩:=(OwnK.sl I.a).form
     have e1:_=Value.slice a1 0 c1:=e1
     subst e1
     have HI:=Hid.mk7 I.bl
     clear I
     go_wp2
     go_ret
     exact ⟨rfl,HI.out⟩
    ·rw [List.concat_eq_append] at I
     obtain ⟨g1,o1,c1,rfl,hc1,hm1,d1,ho1⟩:=OwnI.popped I.a
     obtain ⟨g2,o2,c2,rfl,hc2,hm2,d2,ho2⟩:=OwnI.popped I.b
     obtain ⟨hx0,hx1⟩:=I.st_ x (by simp)
     obtain ⟨y,rfl⟩:∃ y:Nat,x=(y:Int):=⟨x.toNat,by omega⟩
     have hyn:y < n:=by omega
     obtain ⟨p,hp⟩:∃ p:Nat,p=P.length:=⟨_,rfl⟩
     rw [← hp] at hc1 hc2 d1 d2 ho1 ho2 ⊢
     have hwp:wrap64 (p:Int)=(p:Int):=by simp only [wrap64]; simp only [maxLen] at hm1; omega
     have hp1:(p:Int)≤(c1:Int):=by omega
     have hp2:(p:Int)≤(c2:Int):=by omega
     have hp0:(0:Int)≤(p:Int):=by omega
     have hpl:(p:Int) < (p:Int)+1:=by omega
     have HI:=Hid.mk7 (And.intro I (And.intro ho1 (And.intro ho2 hp)))
     clear I ho1 ho2 hp hc1 hc2 hm1 hm2
     go_wp2_with fail
     go_quiet (fail)
     have B1:=drewN_below wr nq
     generalize wr.drewN nq=w4 at B1 ⊢
     go_wp2_with fail
     go_quiet (fail)
     have B2:=drewN_below w4 nq
     generalize w4.drewN nq=w5 at B2 ⊢
     have I5:=HI.out.1.pop (HI.out.2.2.2 ▸ HI.out.2.1) (HI.out.2.2.2 ▸ HI.out.2.2.1) (B1.trans (B2.mono B1.size))
     rw [← HI.out.2.2.2] at I5
     have hyA:y < A.length:=by have:=HN.out; omega
     obtain ⟨bA,oA,eA,_,_,_,_,cA4,cA5,sA⟩:=HA.out.1.at y hyA
     have hB5:=HA.out.2.1
     rw [← HA.out.2.2.2.2.2.2] at hB5
     have hyB:y < B.length:=by have:=HA.out.2.2.2.2.2.2; have:=HN.out; omega
     obtain ⟨bB,oB,eB,_,_,_,_,cB4,cB5,sB⟩:=hB5.at y hyB
     subst eA eB
     have hs:(A[y]'hyA).sh=(B[y]'hyB).sh:=by have:=List.getElem_of_eq HA.out.2.2.1 (i:=y) (by simpa using hyA); simpa using this
     have hk:(B[y]'hyB).kids=(A[y]'hyA).kids:=(congrArg Sh.kids hs).symm
     have hat:(B[y]'hyB).at_=(A[y]'hyA).at_:=(congrArg Sh.at_ hs).symm
     obtain ⟨akA,ckA,ekA,hkl⟩:=sA.form
     obtain ⟨akB,ckB,ekB,_⟩:=sB.form
     have hlow:=HA.out.2.2.2.1 y hyA
     have hks:(A.map (fun x=>x.kids.length))[y]'(by simpa using hyA)=(A[y]'hyA).kids.length:=by simp
     rw [hk] at ekB sB
     rw [ekA] at cA4 sA
     rw [ekB] at cB4 sB
     rw [hat] at cB5
     generalize (A[y]'hyA).at_=at_ at cA5 cB5
     obtain ⟨kl,hklE⟩:∃ kl,(A[y]'hyA).kids=kl:=⟨_,rfl⟩
     rw [hklE] at cA4 sA cB4 sB hlow hkl hks
     obtain ⟨nl,hnl⟩:∃ nl:Nat,nl=kl.length:=⟨_,rfl⟩
     have HF:=Hid.mk7 (fun w' (hb:Below w.heap.size w w')=>(⟨(hb.cell (p:=⟨bA,oA+y*6+4,none⟩) (World.block_lt_of_cell? w _ cA4)).trans cA4,(hb.cell (p:=⟨bA,oA+y*6+5,none⟩) (World.block_lt_of_cell? w _ cA5)).trans cA5,(hb.cell (p:=⟨bB,oB+y*6+4,none⟩) (World.block_lt_of_cell? w _ cB4)).trans cB4,(hb.cell (p:=⟨bB,oB+y*6+5,none⟩) (World.block_lt_of_cell? w _ cB5)).trans cB5,sA.below hb,sB.below hb⟩:w'.cell? ⟨bA,oA+y*6+4,none⟩=some (.slice akA kl.length ckA)∧w'.cell? ⟨bA,oA+y*6+5,none⟩=some (.int .i64 at_)∧w'.cell? ⟨bB,oB+y*6+4,none⟩=some (.slice akB kl.length ckB)∧w'.cell? ⟨bB,oB+y*6+5,none⟩=some (.int .i64 at_)∧SlA w' (.slice akA kl.length ckA) kl∧SlA w' (.slice akB kl.length ckB) kl))
     have HK:=Hid.mk7 (And.intro hnl (And.intro hlow (And.intro hkl hks)))
     rw [← hnl] at HF
     have bA0:bA < w.heap.size:=World.block_lt_of_cell? w _ cA4
     have bB0:bB < w.heap.size:=World.block_lt_of_cell? w _ cB4
     clear hB5 sA sB ekA ekB hk hat hs hkl hnl B1 B2 d1 d2 hks hlow hklE cA4 cA5 cB4 cB5
     obtain ⟨cA4,cA5,cB4,cB5,_⟩:=HF.out w5 I5.bl
     have hy0:¬ (y:Int) < 0:=by omega
     have hyi:(y:Int) < (n:Int):=by omega
     have hyh:y < h.length:=by rw [I5.hl]; exact hyn
     obtain ⟨cm,fm⟩:=I5.ht.c y hyh
     have hml:=I5.ht.lt
     have lA5:=World.block_lt_of_cell? w5 _ cA4
     have lB5:=World.block_lt_of_cell? w5 _ cB4
     have hnA:¬ bA=w.heap.size+1+1:=by omega
     have hnB:¬ bB=w.heap.size+1+1:=by omega
     have HP:=Hid.mk7 I5
     clear I5
     go_wp2_with fail
     go_quiet (fail)
     rcases HP.out.hm y hyh with hmy | hmy
     ·rw [hmy] at cm
      have I6:=(HP.out.below (drewN_below w5 nq)).meet (by omega) y hyh (by simpa using hyA) hmy
      have HS:=Hid.mk7 (And.intro I6 (And.intro hyh hmy))
      go_wp2_with fail
      clear cA4 cA5 cB4 cB5 lA5 lB5 fm hml
      generalize (w5.drewN nq).setCell ⟨w.heap.size+1+1,y,none⟩ (.int .i64 (y:Int))=w6 at I6 HS ⊢
      obtain ⟨cA4,cA5,cB4,cB5,_⟩:=HF.out w6 I6.bl
      clear I6
      go_quiet (fail)
      have B7:=drewN_below w6 nq
      generalize w6.drewN nq=w7 at B7 ⊢
      have HS7:=Hid.mk7 (HS.out.1.below B7)
      clear cA4 cA5 cB4 cB5 B7
      go_wp2_with fail
      go_loopw [9,10,16] (fun V1 V2 jx wr2=>∃ j:Nat,j≤nl∧jx=.int .i64 (j:Int)∧PlI w wr2 n (A.map (fun x=>x.kids.length)) (w.heap.size+1+1) V1 V2 (P++kl.take j) (h.set y (y:Int))) (fun _ _ jx _=>nl - (intOf jx).toNat)
      case atStart=>exact ⟨0,Nat.zero_le _,rfl,by simpa using HS7.out⟩
      case round=>
       clear HS7 cm
       obtain ⟨j,hj,rfl,I⟩:=hrel
       obtain ⟨cA4,_,cB4,_,sA,sB⟩:=HF.out wr I.bl
       obtain ⟨a3,c3,e3,_⟩:=(OwnK.sl I.a).form
       obtain ⟨a4,c4,e4,_⟩:=(OwnK.sl I.b).form
       subst e3 e4
       obtain ⟨m,hm⟩:∃ m:Nat,m=(P++kl.take j).length:=⟨_,rfl⟩
       rw [← hm] at I ⊢
       have lA5:=World.block_lt_of_cell? wr _ cA4
       have lB5:=World.block_lt_of_cell? wr _ cB4
       by_cases hjl:j < nl
       ·have hjk:j < kl.length:=by have:=HK.out.1; omega
        have hji:(j:Int) < (nl:Int):=by omega
        have hjb:(j:Int)≤4611686018427387903:=by have:=HK.out.2.2.1; omega
        rw [HK.out.1] at sA sB
        obtain ⟨gA,fA,rfl,ca⟩:=sA.at j hjk
        obtain ⟨gB,fB,rfl,cb⟩:=sB.at j hjk
        have hlow:=HK.out.2.1 kl[j] (List.getElem_mem hjk)
        obtain ⟨z,hz⟩:∃ z:Nat,kl[j]=(z:Int):=⟨kl[j].toNat,by omega⟩
        rw [hz] at ca cb
        have hzy:¬ (y:Int)≤(z:Int):=by omega
        have lgA:=World.block_lt_of_cell? wr _ ca
        have lgB:=World.block_lt_of_cell? wr _ cb
        have hfit:(P++kl.take j).length+1≤1099512676353:=by
         have:=I.sz
         omega
        have HFit:=Hid.mk7 hfit
        have HI2:=Hid.mk7 (And.intro I (And.intro hm hz))
        clear I hm hlow sA sB hz hfit
        go_wp2_with (at_builtin; first
         | (refine wpList_append_k (by rfl) (.tmp 139) (.tmp 148) (by rfl) Tryz.intTypes (by rfl) (by rfl) (OwnK.turned HI2.out.1.a (Turned.alloc (fun _=>False) _ _) (fun _ _ e=>e)) (SlI.one _ _ _) (ints_one _) (by have h9:=HFit.out; first | omega | (simp at h9 ⊢; omega)) (by have h9:=HFit.out; first | omega | (simp at h9 ⊢; omega)) ?_; intro V8 w8 ho8 T8 hv8; have G8:=HI2.out.1.g.push ho8 T8 hv8; obtain ⟨_,_,cB4',_,_,sB⟩:=HF.out w8 G8.bl; rw [HK.out.1] at sB; obtain ⟨gB2,fB2,e9,cb'⟩:=sB.at j hjk; cases e9; rw [HI2.out.2.2] at cb'; have lB8:=World.block_lt_of_cell? w8 _ cB4'; have lb8:=World.block_lt_of_cell? w8 _ cb'; have HG:=Hid.mk7 G8; clear G8 ho8 T8 hv8 sB)
         | (refine wpList_append_k (by rfl) (.tmp 150) (.tmp 159) (by rfl) Tryz.intTypes (by rfl) (by rfl) (OwnK.turned HG.out.b (Turned.alloc (fun _=>False) _ _) (fun _ _ e=>e)) (SlI.one _ _ _) (ints_one _) (by have h9:=HFit.out; first | omega | (simp at h9 ⊢; omega)) (by have h9:=HFit.out; first | omega | (simp at h9 ⊢; omega)) ?_; intro V9 w9 ho9 T9 hv9; have G9:=HG.out.swap.push ho9 T9 hv9; have HG9:=Hid.mk7 G9; clear G9 ho9 T9 hv9))
        go_wp2
        go_roundw
        case rel=>
         refine ⟨_,_,_,_,⟨j+1,by omega,?_,?_⟩,rfl,rfl,rfl,rfl⟩
         ·go_num
         have e1:P++kl.take j++[(z:Int)]=P++kl.take (j+1):=by
          rw [List.append_assoc,← HI2.out.2.2,List.take_append_getElem]
         have G:=HG9.out.swap
         rw [e1] at G
         have h3:=leftM_set (A.map (fun x=>x.kids.length)) h y (y:Int) HS.out.2.1 (by simpa using hyA) HS.out.2.2 (by omega)
         rw [HK.out.2.2.2] at h3
         refine G.to HI2.out.1 (fun x hx=>?_) ?_
         ·rcases List.mem_append.mp hx with hx | hx
          ·exact HI2.out.1.st_ x (List.mem_append_left _ hx)
          ·have:=HK.out.2.1 x (List.mem_of_mem_take hx)
           omega
         ·have h4:=HI.out.1.sz
          have h6:=HK.out.1
          simp only [List.length_append,List.length_take,List.length_cons,List.length_nil] at h4 ⊢
          omega
        case measure=>simp [intOf]; omega
       ·have hge:¬ (j:Int) < (nl:Int):=by omega
        have HI2:=Hid.mk7 (And.intro I hm)
        clear I hm sA sB
        go_wp2
        go_roundw
        case rel=>exact ⟨_,_,HI2.out.1⟩
        case measure=>
         have h1:=HI.out.1.ht.wmet
         have h2:=HI2.out.1.ht.wmet
         rw [HI.out.1.hl] at h1
         rw [HI2.out.1.hl] at h2
         rw [h1,h2]
         have h3:=leftM_set (A.map (fun x=>x.kids.length)) h y (y:Int) HS.out.2.1 (by simpa using hyA) HS.out.2.2 (by omega)
         rw [HK.out.2.2.2] at h3
         have h4:=HI2.out.2
         have h5:=HI.out.2.2.2
         have h6:=HK.out.1
         simp only [List.length_append,List.length_take] at h4
         simp only [lenV]
         omega
     ·rw [hmy] at cm
      have HQ:=Hid.mk7 (And.intro HP.out (drewN_below w5 nq))
      go_wp2
      go_roundw
      case rel=>exact ⟨P,h,HQ.out.1.below HQ.out.2⟩
      case measure=>
       have h1:=HI.out.1.ht.wmet
       have h2:=(HQ.out.1.below HQ.out.2).ht.wmet
       rw [HI.out.1.hl] at h1
       rw [HQ.out.1.hl] at h2
       rw [h1,h2]
       simp [lenV]
end Go.Proofs.YtlciaafincgdeaaGreatDoor
