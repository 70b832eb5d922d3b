/-
  Layer 11 (parse): what is written into a node in the making: its kind, its module, its number, other Kids, more Kids.
  Layer 11 (parse): expressions with operators.
-/
import Derived.Test.YtlciaafincgdeaaGreatDoorZam
namespace Go.Proofs.YtlciaafincgdeaaGreatDoor
open Go.RowKit
set_option maxHeartbeats 6400000
set_option maxRecDepth 100000
theorem OwnI.join {w:World} {v:Value} {l m:List Int} (h:OwnK 1 w v (l.length+m.length) (ints l++ints m)):OwnI w v (l++m):=by
 unfold OwnI
 have e:ints (l++m)=ints l++ints m:=by simp [ints]
 rw [e,List.length_append]
 exact h
section
variable {w w':World} {g:Nat} {Tv Nv:Value} {N:List Nd} {q:Nat} {nk:Int} {nt nm:ByteArray} {nn:Int} {V:Value} {l:List Int} {na:Int} {T:List Tk} {i:Nat}
theorem Making.kindTo (h:Making w g Tv Nv N q nk nt nm nn V l na) (hp:PAt w g Tv T i Nv N) (z:Int):Making (w.setCell ⟨q,0,none⟩ (.int .i64 z)) g Tv Nv N q z nt nm nn V l na∧PAt (w.setCell ⟨q,0,none⟩ (.int .i64 z)) g Tv T i Nv N:=by
 have o:∀ (j:Nat) (v:Value),0≠j→w.cell? ⟨q,j,none⟩=some v→(w.setCell ⟨q,0,none⟩ (.int .i64 z)).cell? ⟨q,j,none⟩=some v:=fun j v hj e=>by
  rw [World.cell?_setCell_other _ _ _ _ (by simp; try omega)]; exact e
 have T1:=Turned.set1 w q 0 (.int .i64 z)
 exact ⟨⟨World.cell?_setCell_same _ _ _ h.n0,o 1 _ (by decide) h.n1,o 2 _ (by decide) h.n2,o 3 _ (by decide) h.n3,o 4 _ (by decide) h.n4,o 5 _ (by decide) h.n5,fun j=>by rw [World.frozen?_setCell]; exact h.fz j,OwnK.turned h.own T1 (fun k hk e=>h.qv ((show k=q from e) ▸ hk)),h.qv,⟨h.fq.g,h.fq.t,h.fq.n,h.fq.k⟩,fun k hk=>⟨(h.fv k hk).g,(h.fv k hk).t,(h.fv k hk).n,(h.fv k hk).k⟩⟩,hp.off h.fq T1⟩
theorem Making.modTo (h:Making w g Tv Nv N q nk nt nm nn V l na) (hp:PAt w g Tv T i Nv N) (z:ByteArray):Making (w.setCell ⟨q,2,none⟩ (.string z)) g Tv Nv N q nk nt z nn V l na∧PAt (w.setCell ⟨q,2,none⟩ (.string z)) g Tv T i Nv N:=by
 have o:∀ (j:Nat) (v:Value),2≠j→w.cell? ⟨q,j,none⟩=some v→(w.setCell ⟨q,2,none⟩ (.string z)).cell? ⟨q,j,none⟩=some v:=fun j v hj e=>by
  rw [World.cell?_setCell_other _ _ _ _ (by simp; try omega)]; exact e
 have T1:=Turned.set1 w q 2 (.string z)
 exact ⟨⟨o 0 _ (by decide) h.n0,o 1 _ (by decide) h.n1,World.cell?_setCell_same _ _ _ h.n2,o 3 _ (by decide) h.n3,o 4 _ (by decide) h.n4,o 5 _ (by decide) h.n5,fun j=>by rw [World.frozen?_setCell]; exact h.fz j,OwnK.turned h.own T1 (fun k hk e=>h.qv ((show k=q from e) ▸ hk)),h.qv,⟨h.fq.g,h.fq.t,h.fq.n,h.fq.k⟩,fun k hk=>⟨(h.fv k hk).g,(h.fv k hk).t,(h.fv k hk).n,(h.fv k hk).k⟩⟩,hp.off h.fq T1⟩
theorem Making.numTo (h:Making w g Tv Nv N q nk nt nm nn V l na) (hp:PAt w g Tv T i Nv N) (z:Int):Making (w.setCell ⟨q,3,none⟩ (.int .i64 z)) g Tv Nv N q nk nt nm z V l na∧PAt (w.setCell ⟨q,3,none⟩ (.int .i64 z)) g Tv T i Nv N:=by
 have o:∀ (j:Nat) (v:Value),3≠j→w.cell? ⟨q,j,none⟩=some v→(w.setCell ⟨q,3,none⟩ (.int .i64 z)).cell? ⟨q,j,none⟩=some v:=fun j v hj e=>by
  rw [World.cell?_setCell_other _ _ _ _ (by simp; try omega)]; exact e
 have T1:=Turned.set1 w q 3 (.int .i64 z)
 exact ⟨⟨o 0 _ (by decide) h.n0,o 1 _ (by decide) h.n1,o 2 _ (by decide) h.n2,World.cell?_setCell_same _ _ _ h.n3,o 4 _ (by decide) h.n4,o 5 _ (by decide) h.n5,fun j=>by rw [World.frozen?_setCell]; exact h.fz j,OwnK.turned h.own T1 (fun k hk e=>h.qv ((show k=q from e) ▸ hk)),h.qv,⟨h.fq.g,h.fq.t,h.fq.n,h.fq.k⟩,fun k hk=>⟨(h.fv k hk).g,(h.fv k hk).t,(h.fv k hk).n,(h.fv k hk).k⟩⟩,hp.off h.fq T1⟩
theorem Making.kidsTo {V2:Value} {l2:List Int} (h:Making w g Tv Nv N q nk nt nm nn V l na) (hp:PAt w g Tv T i Nv N) (ow:OwnI w V2 l2) (fv:∀ k,blk V2 k→Free w g Tv Nv N k) (hq:¬ blk V2 q):Making (w.setCell ⟨q,4,none⟩ V2) g Tv Nv N q nk nt nm nn V2 l2 na∧PAt (w.setCell ⟨q,4,none⟩ V2) g Tv T i Nv N:=by
 have o:∀ (j:Nat) (v:Value),4≠j→w.cell? ⟨q,j,none⟩=some v→(w.setCell ⟨q,4,none⟩ V2).cell? ⟨q,j,none⟩=some v:=fun j v hj e=>by
  rw [World.cell?_setCell_other _ _ _ _ (by simp; try omega)]; exact e
 have T1:=Turned.set1 w q 4 V2
 exact ⟨⟨o 0 _ (by decide) h.n0,o 1 _ (by decide) h.n1,o 2 _ (by decide) h.n2,o 3 _ (by decide) h.n3,World.cell?_setCell_same _ _ _ h.n4,o 5 _ (by decide) h.n5,fun j=>by rw [World.frozen?_setCell]; exact h.fz j,OwnK.turned ow T1 (fun k hk e=>hq ((show k=q from e) ▸ hk)),hq,⟨h.fq.g,h.fq.t,h.fq.n,h.fq.k⟩,fun k hk=>⟨(fv k hk).g,(fv k hk).t,(fv k hk).n,(fv k hk).k⟩⟩,hp.off h.fq T1⟩
theorem Making.moreL {w1 w2:World} {V':Value} {x:List Int} (h:Making w g Tv Nv N q nk nt nm nn V l na) (hp:PAt w g Tv T i Nv N) (hT:0 < T.length) (hb:Below w.heap.size w w1) (ho:OwnK 1 w2 V' (l.length+x.length) (ints l++ints x)) (Tt:Turned (blk V) w1 w2) (hv:∀ k,blk V' k→blk V k∨k=w1.heap.size) :
  Making (w2.setCell ⟨q,4,none⟩ V') g Tv Nv N q nk nt nm nn V' (l++x) na∧PAt (w2.setCell ⟨q,4,none⟩ V') g Tv T i Nv N∧Turned (fun k=>k=q∨blk V k) w (w2.setCell ⟨q,4,none⟩ V')∧∀ k,blk V' k→blk V k∨w.heap.size≤k:=by
 have hz:=hb.size
 have hql:=h.lt
 have c:∀ (j:Nat) (v:Value),w.cell? ⟨q,j,none⟩=some v→w2.cell? ⟨q,j,none⟩=some v:=fun j v e=>Tt.cell ((hb.cell (p:=⟨q,j,none⟩) hql).trans e) h.qv
 have o:∀ (j:Nat) (v:Value),4≠j→w2.cell? ⟨q,j,none⟩=some v→(w2.setCell ⟨q,4,none⟩ V').cell? ⟨q,j,none⟩=some v:=fun j v hj e=>by
  rw [World.cell?_setCell_other _ _ _ _ (by simp; try omega)]; exact e
 have fzz:∀ j,w2.frozen? ⟨q,j,none⟩=false:=fun j=>by
  rw [Tt.frozen (p:=⟨q,j,none⟩) (by simp; omega) h.qv,(Turned.ofBelow (S:=fun _=>False) hb).frozen (p:=⟨q,j,none⟩) hql (fun e=>e)]
  exact h.fz j
 have hqv':¬ blk V' q:=fun e=>(hv q e).elim h.qv (fun e=>by omega)
 have T4:=Turned.set1 w2 q 4 V'
 have TT:Turned (fun k=>k=q∨blk V k) w (w2.setCell ⟨q,4,none⟩ V'):=((Turned.ofBelow (S:=fun k=>k=q∨blk V k) hb).trans Tt (fun _ e=>.inl (.inr e))).trans T4 (fun _ e=>.inl (.inl e))
 refine ⟨⟨o 0 _ (by decide) (c 0 _ h.n0),o 1 _ (by decide) (c 1 _ h.n1),o 2 _ (by decide) (c 2 _ h.n2),o 3 _ (by decide) (c 3 _ h.n3),World.cell?_setCell_same _ _ _ (c 4 _ h.n4),o 5 _ (by decide) (c 5 _ h.n5),fun j=>by rw [World.frozen?_setCell]; exact fzz j,OwnK.turned (OwnI.join ho) T4 (fun k hk e=>hqv' ((show k=q from e) ▸ hk)),hqv',⟨h.fq.g,h.fq.t,h.fq.n,h.fq.k⟩,fun k hk=>?_⟩,hp.offS (w0:=w) (fun k e=>e.elim (fun e=>e ▸ h.fq) (h.fv k)) TT,TT,fun k hk=>(hv k hk).elim .inl (fun e=>.inr (by omega))⟩
 have f:Free w g Tv Nv N k:=(hv k hk).elim (h.fv k) (fun e=>hp.free hT k (by omega))
 exact ⟨f.g,f.t,f.n,f.k⟩
end
section
variable {T:List Tk} {w wr w2:World} {g:Nat} {Tv Nv Nv1:Value} {N M1:List Nd} {s t:Ps} {q:Nat} {nk:Int} {nt nm:ByteArray} {nn:Int} {V V2:Value} {l l2:List Int} {na:Int}
theorem MkI.kind (h:MkI T w wr g Tv Nv N s Nv1 M1 q nk nt nm nn V l na) (z:Int):MkI T w (wr.setCell ⟨q,0,none⟩ (.int .i64 z)) g Tv Nv N s Nv1 M1 q z nt nm nn V l na:=by
 obtain ⟨m,p⟩:=h.bx.kindTo h.rg.ps.at_ z
 exact ⟨h.rg.mine (k:=fun k=>k=q) (fun k e=>e ▸ h.qw) p (Turned.set1 wr q 0 _),m,h.vw,h.qw⟩
theorem MkI.text (h:MkI T w wr g Tv Nv N s Nv1 M1 q nk nt nm nn V l na) (t:ByteArray):MkI T w (wr.setCell ⟨q,1,none⟩ (.string t)) g Tv Nv N s Nv1 M1 q nk t nm nn V l na:=by
 obtain ⟨m,p⟩:=h.bx.text h.rg.ps.at_ t
 exact ⟨h.rg.mine (k:=fun k=>k=q) (fun k e=>e ▸ h.qw) p (Turned.set1 wr q 1 (.string t)),m,h.vw,h.qw⟩
theorem MkI.mod (h:MkI T w wr g Tv Nv N s Nv1 M1 q nk nt nm nn V l na) (z:ByteArray):MkI T w (wr.setCell ⟨q,2,none⟩ (.string z)) g Tv Nv N s Nv1 M1 q nk nt z nn V l na:=by
 obtain ⟨m,p⟩:=h.bx.modTo h.rg.ps.at_ z
 exact ⟨h.rg.mine (k:=fun k=>k=q) (fun k e=>e ▸ h.qw) p (Turned.set1 wr q 2 _),m,h.vw,h.qw⟩
theorem MkI.num (h:MkI T w wr g Tv Nv N s Nv1 M1 q nk nt nm nn V l na) (z:Int):MkI T w (wr.setCell ⟨q,3,none⟩ (.int .i64 z)) g Tv Nv N s Nv1 M1 q nk nt nm z V l na:=by
 obtain ⟨m,p⟩:=h.bx.numTo h.rg.ps.at_ z
 exact ⟨h.rg.mine (k:=fun k=>k=q) (fun k e=>e ▸ h.qw) p (Turned.set1 wr q 3 _),m,h.vw,h.qw⟩
theorem MkI.kids (h:MkI T w wr g Tv Nv N s Nv1 M1 q nk nt nm nn V l na) (k:Kd T w wr g Tv Nv1 (N++M1) V2 l2) (hq:¬ blk V2 q):MkI T w (wr.setCell ⟨q,4,none⟩ V2) g Tv Nv N s Nv1 M1 q nk nt nm nn V2 l2 na:=by
 obtain ⟨m,p⟩:=h.bx.kidsTo h.rg.ps.at_ k.own (fun b hb=>(k.fv b hb).2) hq
 exact ⟨h.rg.mine (k:=fun k=>k=q) (fun k e=>e ▸ h.qw) p (Turned.set1 wr q 4 _),m,fun b hb=>(k.fv b hb).1,h.qw⟩
theorem Kd.setQ (h:Kd T w wr g Tv Nv1 N V l) (hq:¬ blk V q) (j:Nat) (v:Value):Kd T w (wr.setCell ⟨q,j,none⟩ v) g Tv Nv1 N V l:=⟨OwnK.turned h.own (Turned.set1 wr q j v) (fun k hk e=>hq ((show k=q from e) ▸ hk)),fun k hk=>⟨(h.fv k hk).1,⟨(h.fv k hk).2.g,(h.fv k hk).2.t,(h.fv k hk).2.n,(h.fv k hk).2.k⟩⟩⟩
theorem MkI.stepL (h:MkI T w wr g Tv Nv N s Nv1 M1 q nk nt nm nn V l na) {w3:World} (hb:Below wr.heap.size wr w3) {x:Ending} (hr:RdL T w3 g Tv Nv1 (N++M1) (.ok (l2,t)) x w2):∃ V2,x=.returned V2∧(∃ a c,V2=.slice a l2.length c)∧(∃ Nv2 M2,MkI T w w2 g Tv Nv N t Nv2 M2 q nk nt nm nn V l na∧Kd T w w2 g Tv Nv2 (N++M2) V2 l2)∧¬ blk V2 q:=by
 obtain ⟨V2,rfl,Nv2,M3,o,p,S,ow,fv⟩:=hr
 have r2:=(h.rg.below hb).more o p S
 have m2:=(h.bx.stepN (Stp.ofB hb)).step S o
 rw [List.append_assoc] at m2
 obtain ⟨a2,c2,hV2,_⟩:=OwnK.sl ow |>.form
 have hq:=h.bx.lt
 have hz:=hb.size
 have hw:=h.rg.size
 refine ⟨V2,rfl,⟨a2,c2,hV2⟩,⟨Nv2,M1++M3,⟨r2,m2,h.vw,h.qw⟩,⟨ow,fun k hk=>⟨by have:=(fv k hk).1; omega,by have:=(fv k hk).2; rwa [List.append_assoc] at this⟩⟩⟩,fun e=>by have:=(fv q e).1; omega⟩
theorem MkI.moreL (h:MkI T w wr g Tv Nv N s Nv1 M1 q nk nt nm nn V l na) (hT:0 < T.length) {w3 w4:World} (hb:Below wr.heap.size wr w3) (ho:OwnK 1 w4 V2 (l.length+l2.length) (ints l++ints l2)) (Tt:Turned (blk V) w3 w4) (hv:∀ k,blk V2 k→blk V k∨k=w3.heap.size):MkI T w (w4.setCell ⟨q,4,none⟩ V2) g Tv Nv N s Nv1 M1 q nk nt nm nn V2 (l++l2) na:=by
 obtain ⟨m,p,T2,v⟩:=h.bx.moreL h.rg.ps.at_ hT hb ho Tt hv
 refine ⟨h.rg.mine (fun k e=>?_) p T2,m,fun k hk=>(v k hk).elim (h.vw k) (fun e=>Nat.le_trans h.rg.size e),h.qw⟩
 rcases e with e | e
 ·exact e ▸ h.qw
 ·exact h.vw k e
theorem MkI.one (h:MkI T w wr g Tv Nv N s Nv1 M1 q nk nt nm nn V l na) (hT:0 < T.length) (a z:Int):MkI T w (((wr.alloc (.cells #[.int .i64 a] 3)).setCell ⟨q,0,none⟩ (.int .i64 z)).setCell ⟨q,4,none⟩ (.slice (some ⟨wr.heap.size,0,none⟩) 1 1)) g Tv Nv N s Nv1 M1 q z nt nm nn (.slice (some ⟨wr.heap.size,0,none⟩) 1 1) [a] na:=by
 have hb:=Below.alloc0 wr (.cells #[.int .i64 a] 3)
 have hq:¬ blk (.slice (some ⟨wr.heap.size,0,none⟩) 1 1) q:=fun e=>by
  have e:wr.heap.size=q:=e
  have:=h.bx.lt
  omega
 exact ((h.to (h.rg.below hb) (Stp.ofB hb)).kind z).kids ((Kd.one h.rg hT a).setQ hq 0 _) hq
theorem MkI.oneA (h:MkI T w wr g Tv Nv N s Nv1 M1 q nk nt nm nn V l na) (hT:0 < T.length) (a z:Int):MkI T w (((wr.setCell ⟨q,0,none⟩ (.int .i64 z)).setCell ⟨q,4,none⟩ (.slice (some ⟨wr.heap.size,0,none⟩) 1 1)).alloc (.cells #[.int .i64 a] 3)) g Tv Nv N s Nv1 M1 q z nt nm nn (.slice (some ⟨wr.heap.size,0,none⟩) 1 1) [a] na:=by
 have e:=h.one hT a z
 rwa [World.setCell_alloc_past _ _ _ _ h.bx.lt,World.setCell_alloc_past _ _ _ _ (by rw [World.size_setCell]; exact h.bx.lt)] at e
theorem Kd.two (r:Rg T w wr g Tv Nv N s Nv1 M1) (hT:0 < T.length) (a b:Int):Kd T w (wr.alloc (.cells #[.int .i64 a,.int .i64 b] 3)) g Tv Nv1 (N++M1) (.slice (some ⟨wr.heap.size,0,none⟩) 2 2) [a,b]:=by
 refine ⟨⟨by simp [ints],.inr ⟨wr.heap.size,0,2,rfl,Nat.le_refl _,by decide,by simp,fun j hj=>?_,fun j hj=>?_⟩⟩,fun k hk=>?_⟩
 ·have hj1:j < 2:=hj
  match j,hj1 with
  | 0,_=>simp [ints]
  | 1,_=>simp [ints]
 ·have hj1:j < 2:=by omega
  match j,hj1 with
  | 0,_=>exact ⟨by simp,by rw [World.frozen?_alloc_new]⟩
  | 1,_=>exact ⟨by simp,by rw [World.frozen?_alloc_new]⟩
 ·have hk:wr.heap.size=k:=hk
  subst hk
  have f:=r.ps.at_.free hT wr.heap.size (Nat.le_refl _)
  exact ⟨r.size,⟨f.g,f.t,f.n,f.k⟩⟩
theorem MkI.twoA (h:MkI T w wr g Tv Nv N s Nv1 M1 q nk nt nm nn V l na) (hT:0 < T.length) (a b:Int):MkI T w ((wr.setCell ⟨q,4,none⟩ (.slice (some ⟨wr.heap.size,0,none⟩) 2 2)).alloc (.cells #[.int .i64 a,.int .i64 b] 3)) g Tv Nv N s Nv1 M1 q nk nt nm nn (.slice (some ⟨wr.heap.size,0,none⟩) 2 2) [a,b] na:=by
 have hb:=Below.alloc0 wr (.cells #[.int .i64 a,.int .i64 b] 3)
 have hq:¬ blk (.slice (some ⟨wr.heap.size,0,none⟩) 2 2) q:=fun e=>by
  have e:wr.heap.size=q:=e
  have:=h.bx.lt
  omega
 have e:=(h.to (h.rg.below hb) (Stp.ofB hb)).kids (Kd.two h.rg hT a b) hq
 rwa [World.setCell_alloc_past _ _ _ _ h.bx.lt] at e
end
structure ExpI (T:List Tk) (rec:Ph→PM Nat) (least:Int) (w wr:World) (g:Nat) (Tv Nv:Value) (N:List Nd) (i0:Nat) (res:Except Nat (Nat × Ps)) (L M:Value) (s1:Ps) (l:Nat) (m:Int) (f:Nat) (Nv1:Value) (M1:List Nd):Prop where
 lv:L=.int .i64 (l:Int)
 mv:M=.int .i64 m
 i:i0≤s1.i
 fuel:T.length - s1.i < f
 eq:exprL T rec least f m l s1=res
 rg:Rg T w wr g Tv Nv N s1 Nv1 M1
 lt:l < s1.N.length
 m7:m≤7
section
variable {T:List Tk} {rec:Ph→PM Nat} {least m:Int} {f l:Nat} {s t:Ps}
theorem exprL_stop (hf:0 < f) (h:lev (tokAt T s.i) < least∨lev (tokAt T s.i) > m):exprL T rec least f m l s=.ok (l,s):=by
 cases f with
 | zero=>omega
 | succ f=>simp only [exprL,PM.bind,pTok,if_pos h,PM.ret]
theorem exprL_bad (hf:0 < f) (h:¬ (lev (tokAt T s.i) < least∨lev (tokAt T s.i) > m)) {e:Nat} (he:rec (.expr (sidesR (lev (tokAt T s.i)))) ⟨s.i+1,s.N⟩=.error e):exprL T rec least f m l s=.error e:=by
 cases f with
 | zero=>omega
 | succ f=>simp only [exprL,PM.bind,pTok,if_neg h,pSkip,he]
theorem exprL_next (hf:0 < f) (h:¬ (lev (tokAt T s.i) < least∨lev (tokAt T s.i) > m)) {r:Nat} (he:rec (.expr (sidesR (lev (tokAt T s.i)))) ⟨s.i+1,s.N⟩=.ok (r,t)):exprL T rec least f m l s=exprL T rec least (f - 1) (sidesB (lev (tokAt T s.i))) t.N.length ⟨t.i,t.N++[opSh (tokAt T s.i) [(l:Int),(r:Int)]]⟩:=by
 cases f with
 | zero=>omega
 | succ f=>simp only [exprL,PM.bind,pTok,if_neg h,pSkip,he,pAdd,Nat.add_sub_cancel]
theorem exprL_fin {q:PM Nat} (hq:∀ s s',S2 T s s'→Ok2 T VN 3 q q s s') (hs:S2 T s s) (hc:Cnt T s) (hi:s.i < T.length) (hl:l < s.N.length) {r:Nat} (he:q ⟨s.i+1,s.N⟩=.ok (r,t)) (ok:Int) (ot:ByteArray) (ta:Int):S2 T ⟨t.i,t.N++[⟨ok,ot,⟨#[]⟩,0,[(l:Int),(r:Int)],ta⟩]⟩ ⟨t.i,t.N++[⟨ok,ot,⟨#[]⟩,0,[(l:Int),(r:Int)],ta⟩]⟩∧Cnt T ⟨t.i,t.N++[⟨ok,ot,⟨#[]⟩,0,[(l:Int),(r:Int)],ta⟩]⟩:=by
 have hpre:PM.bind (pSkip 1) (fun _=>PM.bind q fun (r:Nat)=>pAdd ⟨ok,ot,⟨#[]⟩,0,[(l:Int),(r:Int)],ta⟩) s=.ok (t.N.length,⟨t.i,t.N++[⟨ok,ot,⟨#[]⟩,0,[(l:Int),(r:Int)],ta⟩]⟩):=by simp [PM.bind,pSkip,he,pAdd]
 have hA:Ok2 T VN (3+-1) (PM.bind q fun (r:Nat)=>pAdd ⟨ok,ot,⟨#[]⟩,0,[(l:Int),(r:Int)],ta⟩) (PM.bind q fun (r:Nat)=>pAdd ⟨ok,ot,⟨#[]⟩,0,[(l:Int),(r:Int)],ta⟩) ⟨s.i+1,s.N⟩ ⟨s.i+1,s.N⟩:=(hq _ _ (hs.next hi)).bind fun a a' u u' hu va _ hM=>by
  refine Ok2.add hu (by rw [va.1]) (fun k hk=>?_)
  obtain ⟨M,hM⟩:=hM
  have h1:=va.2
  have h2:u.N.length=s.N.length+M.length:=by rw [hM]; simp
  simp at hk
  omega
 obtain ⟨h1,h2,_⟩:=(Ok2.skip (n:=1) (k:=fun _=>PM.bind q fun (r:Nat)=>pAdd ⟨ok,ot,⟨#[]⟩,0,[(l:Int),(r:Int)],ta⟩) (k':=fun _=>PM.bind q fun (r:Nat)=>pAdd ⟨ok,ot,⟨#[]⟩,0,[(l:Int),(r:Int)],ta⟩) hA).fin (by omega) hc hpre
 exact ⟨h1,h2⟩
theorem sidesR_pos {a:Int} (h:1≤a):1≤sidesR a:=by unfold sidesR; split <;> omega
theorem sidesB_le {a:Int} (h:a≤7):sidesB a≤7:=by unfold sidesB; split <;> omega
end
theorem rd_expr {T:List Tk} {rec:Ph→PM Nat} {s:Ps} (least:Int) (hl1:1≤least) (hT:0 < T.length) (E:Env T rec (s.i+1)) (ho:Runs T 168 [] (rec .operand) s.i) {w:World} {g:Nat} {Tv Nv:Value} {N:List Nd} (h:PS w g Tv T Nv N s) :
  Calls Tryz.prog 156 #[.pointer (some ⟨g,0,none⟩),.int .i64 least] w (Rd T w g Tv Nv N (phBody T rec (.expr least) s)):=by
 have hE:=ho s (Nat.le_refl _) w g Tv Nv N h
 have hE:Calls Tryz.prog 168 #[.pointer (some ⟨g,0,none⟩)] w (Rd T w g Tv Nv N (rec .operand s)):=hE
 have htl:=h.at_.tl
 cases hms:rec .operand s with
 | error e=>
  rw [hms] at hE
  rw [show phBody T rec (.expr least) s=.error e by simp [phBody,PM.bind,hms]]
  clear ho h
  go_enter Tryz.func156,Tryz.ntmps156
  go_wp2_with fail
  refine hE.mono ?_
  rintro x w1 ⟨rfl,T1⟩
  exact ⟨rfl,rfl,T1⟩
 | ok at_=>
  obtain ⟨a,t⟩:=at_
  rw [hms] at hE
  obtain ⟨ht1,ha,hit,hct⟩:=(E.fwd .operand trivial).ok h.ok h.cnt hms
  rw [show phBody T rec (.expr least) s=exprL T rec least (T.length+1) 7 a t by simp [phBody,PM.bind,hms]]
  have HF:=Hid.mk7 (And.intro E (And.intro hit ha))
  have HR:=Hid.mk7 (Rg.refl h)
  obtain ⟨res,hres⟩:∃ res,exprL T rec least (T.length+1) 7 a t=res:=⟨_,rfl⟩
  rw [hres]
  have HQ:=Hid.mk7 hres
  clear ho h hit hms hres ht1 ha hct E
  go_enter Tryz.func156,Tryz.ntmps156
  go_wp2_with fail
  refine hE.mono ?_
  rintro x w1 hx
  have hx':Rd T w g Tv Nv (N++[]) (.ok (a,t)) x w1:=by rw [List.append_nil]; exact hx
  obtain ⟨rfl,Nv1,M1,r1,_⟩:=HR.out.rd hx'
  have H1:=Hid.mk7 r1
  clear hE hx hx' r1
  go_wp2_with fail
  go_loopw [5,6] (fun L M wr=>∃ s1 l m f Nv1 M1,ExpI T rec least w wr g Tv Nv N (s.i+1) res L M s1 l m f Nv1 M1) (fun _ _ wr=>T.length - posOf wr g)
  case atStart=>
   exact ⟨t,a,7,T.length+1,Nv1,M1,⟨rfl,rfl,HF.out.2.1,by omega,HQ.out,H1.out,HF.out.2.2,by omega⟩⟩
  case round=>
   clear H1
   obtain ⟨s1,l,m,f,Nv2,M2,hI⟩:=hrel
   obtain ⟨hL,hM,hi,hfu,heq,hrg,hlt,hm7⟩:=hI
   subst hL hM
   have hf0:0 < f:=by omega
   have c2:=rg_peek hrg
   have hlv:=ps_lev (tokAt T s1.i)
   unfold Lv at hlv
   have hop:=fun W=>ps_operation (tokAt T s1.i) W
   unfold opVal at hop
   have hlr:=lev_range (tokAt T s1.i)
   have hsi:lev (tokAt T s1.i)≠0→s1.i < T.length:=lev_lt
   obtain ⟨tk,htk⟩:∃ tk,tokAt T s1.i=tk:=⟨_,rfl⟩
   have hst:=fun h=>exprL_stop (T:=T) (rec:=rec) (least:=least) (m:=m) (l:=l) (s:=s1) hf0 h
   have hbd:=fun h e=>exprL_bad (T:=T) (rec:=rec) (least:=least) (m:=m) (l:=l) (s:=s1) hf0 h (e:=e)
   have hnx:=fun h r t=>exprL_next (T:=T) (rec:=rec) (least:=least) (m:=m) (l:=l) (s:=s1) hf0 h (r:=r) (t:=t)
   rw [htk] at c2 hlv hop hlr hsi hst hbd hnx
   have hoe:=opSh_eq tk
   obtain ⟨ok,hok⟩:∃ ok,(opSh tk []).kind=ok:=⟨_,rfl⟩
   obtain ⟨ot,hot⟩:∃ ot,(opSh tk []).text=ot:=⟨_,rfl⟩
   rw [hok,hot] at hop hoe
   obtain ⟨lv,hlvE⟩:∃ lv,lev tk=lv:=⟨_,rfl⟩
   rw [hlvE] at hlv hlr hsi hst hbd hnx
   have hpos:=hrg.ps.at_.pos
   clear htk hok hot hlvE
   generalize hoF:opSh tk=oF at hnx hoe
   clear hoF
   obtain ⟨tk,tt,tn,ta⟩:=tk
   simp only [Tk.val] at c2 hlv hop
   have HI:=Hid.mk7 (And.intro hi (And.intro hfu (And.intro heq (And.intro hlt (And.intro hm7 (And.intro hpos hoe))))))
   have HX:=Hid.mk7 (And.intro hst (And.intro hbd hnx))
   clear hi hfu heq hlt hm7 hpos hst hbd hnx hoe
   go_wp2_with fail
   refine c2.mono ?_
   rintro x w2 ⟨rfl,r2,_⟩
   have f2:=r2.ps.at_.free hT w2.heap.size (Nat.le_refl _)
   have hne:w2.heap.size≠g:=f2.g
   have r3:=r2.below (Below.alloc0 w2 (.cells #[.int .i64 tk,.string tt,.int .i64 tn,.int .i64 ta] 40))
   have H3:=Hid.mk7 r3
   clear c2 r2 r3 f2 hrg
   go_wp2_with fail
   refine (hlv _).mono ?_
   rintro x w4 ⟨rfl,hb4⟩
   have H4:=Hid.mk7 (And.intro (H3.out.below hb4) hb4)
   clear hlv hb4
   by_cases hs1:lv < least
   ·have hre:res=.ok (l,s1):=by rw [← HI.out.2.2.1]; exact HX.out.1 (.inl hs1)
    subst hre
    clear hlr hop hsi
    go_wp2
    go_ret
    exact H4.out.1.of
   ·by_cases hs2:m < lv
    ·have hre:res=.ok (l,s1):=by rw [← HI.out.2.2.1]; exact HX.out.1 (.inr hs2)
     subst hre
     clear hlr hop hsi
     go_wp2
     go_ret
     exact H4.out.1.of
    ·have hi1:s1.i < T.length:=hsi (by omega)
     have hno:¬ (lv < least∨lv > m):=by omega
     have hbd:=HX.out.2.1 hno
     have hnx:=HX.out.2.2 hno
     have hsd:=fun W=>ps_sides lv (by omega) (by omega) W
     have hsR:=sidesR_pos (a:=lv) (by omega)
     have hsB:=sidesB_le (a:=lv) (by omega)
     generalize sidesR lv=sr at hbd hnx hsd hsR
     generalize sidesB lv=sb at hnx hsd hsB
     have HN:=Hid.mk7 (And.intro hbd (And.intro hnx (And.intro hsR (And.intro hsB hlr))))
     obtain ⟨o0,o1,o2,o3⟩:=keptTok (t:=⟨tk,tt,tn,ta⟩) H4.out.2
     have k1:=H4.out.1.ps.at_.c1.1
     have g1:=H4.out.1.ps.at_.c1.2
     have r5:=H4.out.1.skip 1 hi1
     rw [show ((s1.i+1:Nat):Int)=(s1.i:Int)+1 by omega] at r5
     have hl4:w2.heap.size < w4.heap.size:=World.block_lt_of_cell? w4 _ o0
     have H5:=Hid.mk7 r5
     clear hno hbd hnx hsR hsB hlr hsi r5 H3
     go_wp2_with fail
     refine (hop _).mono ?_
     rintro x w6 ⟨rfl,hb6⟩
     have mk7:=MkI.of_kd (H5.out.below hb6) (Kd.nil _ _ _ _ _ _ _) hT ok ot ⟨#[]⟩ 0 ta
     have HK:=Hid.mk7 mk7
     clear hop hb6 mk7 o0 o1 o2 o3 k1 g1
     go_wp2_with fail
     refine (hsd _).mono ?_
     rintro x w7 ⟨rfl,rfl⟩
     have c8:=HF.out.1.run (.expr sr) HN.out.2.2.1 ⟨s1.i+1,s1.N⟩ (by have:=HI.out.1; show s.i+1≤s1.i+1; omega) _ g Tv _ _ HK.out.rg.ps
     have hps:=HK.out.rg.ps
     clear hsd
     cases he:rec (.expr sr) ⟨s1.i+1,s1.N⟩ with
     | error e=>
      have hre:res=.error e:=by rw [← HI.out.2.2.1]; exact HN.out.1 e he
      subst hre
      simp only [he,fnOf,moreOf] at c8
      clear he hps
      go_wp2_with fail
      refine c8.mono ?_
      rintro x w8 ⟨rfl,T8⟩
      exact ⟨rfl,rfl,HK.out.rg.bad T8⟩
     | ok bt=>
      obtain ⟨r,t8⟩:=bt
      obtain ⟨q1,q2,q3,q4⟩:=(HF.out.1.fwd (.expr sr) HN.out.2.2.1).ok hps.ok hps.cnt he
      have q3:s1.i+1 < t8.i:=q3
      obtain ⟨p1,p2⟩:=exprL_fin (fun s s' hs=>HF.out.1.ok2 (.expr sr) HN.out.2.2.1 s s' hs) H4.out.1.ps.ok H4.out.1.ps.cnt hi1 HI.out.2.2.2.1 he ok ot ta
      have hre:exprL T rec least (f - 1) sb t8.N.length ⟨t8.i,t8.N++[oF [(l:Int),(r:Int)]]⟩=res:=by rw [← HI.out.2.2.1]; exact (HN.out.2.1 r t8 he).symm
      rw [HI.out.2.2.2.2.2.2] at hre
      simp only [he,fnOf,moreOf] at c8
      have HW:=Hid.mk7 (And.intro hre (And.intro q3 (And.intro q2 (And.intro p1 p2))))
      clear he hps hre q1 q2 q3 q4 p1 p2
      go_wp2_with fail
      refine c8.mono ?_
      intro x w8 hx
      obtain ⟨rfl,Nv8,M8,mk8⟩:=HK.out.rd (Below.refl _ _) hx
      have mk9:=mk8.twoA hT (l:Int) (r:Int)
      obtain ⟨n0,n1,n2,n3,n4,n5,fz,_,_,_,_⟩:=mk8.bx
      have f4:=fz 4
      have lq:=mk8.bx.lt
      have c9:=rg_add mk9.rg hT ⟨ok,ot,⟨#[]⟩,0,.slice (some ⟨w8.heap.size,0,none⟩) 2 2,[(l:Int),(r:Int)],ta⟩ mk9.kd HW.out.2.2.2.1 HW.out.2.2.2.2
      simp only [Nd.val] at c9
      clear c8 hx mk8 mk9 fz HK
      go_wp2_with fail
      refine c9.mono ?_
      rintro x w10 ⟨rfl,Nv10,r10,_⟩
      have H10:=Hid.mk7 r10
      clear c9 r10 n0 n1 n2 n3 n4 n5 f4 lq
      go_wp2
      go_roundw
      case rel=>
       exact ⟨⟨t8.i,t8.N++[⟨ok,ot,⟨#[]⟩,0,[(l:Int),(r:Int)],ta⟩]⟩,t8.N.length,sb,f - 1,Nv10,_,⟨rfl,rfl,by have h1:=HI.out.1; have h2:=HW.out.2.1; show s.i+1≤t8.i; omega,by have h1:=HI.out.2.1; have h2:=HW.out.2.1; show T.length - t8.i < f - 1; omega,HW.out.1,H10.out,by simp,HN.out.2.2.2.1⟩⟩
      case measure=>
       rw [H10.out.ps.at_.pos,HI.out.2.2.2.2.2.1]
       have h2:s1.i+1 < t8.i:=HW.out.2.1
       show T.length - t8.i < T.length - s1.i
       omega
end Go.Proofs.YtlciaafincgdeaaGreatDoor
