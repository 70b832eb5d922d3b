/-
  Layer 11 (parse): the document's parser: a node that is kept, and then has a field set.
  Layer 11 (parse): the document's parser: an atom, or a call.
-/
import Derived.Test.YtlciaafincgdeaaGreatDoorZas
namespace Go.Proofs.YtlciaafincgdeaaGreatDoor
open Go.RowKit
set_option maxHeartbeats 6400000
set_option maxRecDepth 100000
theorem nds_six (L:List Nd):(nds L).length=L.length*6:=by
 induction L with
 | nil=>rfl
 | cons a l ih=>
  simp only [nds,List.flatMap_cons,List.length_append,List.length_cons] at ih ⊢
  rw [ih]
  simp [Nd.cells]
  omega
theorem nds_last {L:List Nd} {n n':Nd} {j:Nat} {v:Value} (hj:j < 6) (hc:n'.cells=n.cells.set j v) (p:Nat):(nds (L++[n']))[p]? = if p=L.length*6+j then some v else (nds (L++[n]))[p]?:=by
 have h6:=nds_six L
 have hl:n.cells.length=6:=rfl
 rw [nds_snoc,nds_snoc,hc]
 by_cases hp:p < (nds L).length
 ·rw [List.getElem?_append_left hp,List.getElem?_append_left hp,if_neg (by omega)]
 ·rw [List.getElem?_append_right (by omega),List.getElem?_append_right (by omega),List.getElem?_set,hl]
  by_cases e:p=L.length*6+j
  ·rw [if_pos e,if_pos (by omega),if_pos hj]
  ·rw [if_neg e,if_neg (by omega)]
theorem PAt.setLast {w:World} {g:Nat} {Tv:Value} {T:List Tk} {i:Nat} {Nv:Value} {L:List Nd} {n n':Nd} (h:PAt w g Tv T i Nv (L++[n])) {j:Nat} {v:Value} (hj:j < 6) (hc:n'.cells=n.cells.set j v) (hk:n'.kv=n.kv) (hl:n'.kids=n.kids) {b off cap:Nat} (hNv:Nv=.slice (some ⟨b,off,none⟩) (L.length+1) cap) :
  PAt (w.setCell ⟨b,off+L.length*6+j,none⟩ v) g Tv T i Nv (L++[n'])∧Turned (blk Nv) w (w.setCell ⟨b,off+L.length*6+j,none⟩ v):=by
 have T0:Turned (blk Nv) w (w.setCell ⟨b,off+L.length*6+j,none⟩ v):=(Turned.set1 w b (off+L.length*6+j) v).mono (fun k e=>.inl (by rw [hNv]; exact (show k=b from e).symm))
 have hng:=h.ng
 have hbl:blk Nv b:=by rw [hNv]; exact rfl
 have cc:∀ p,(w.setCell ⟨b,off+L.length*6+j,none⟩ v).frozen? p=w.frozen? p:=fun p=>by rw [World.frozen?_setCell]
 have h6:=nds_six (L++[n])
 have h6':=nds_six (L++[n'])
 refine ⟨⟨T0.cell h.c0 hng,⟨T0.cell h.c1.1 hng,by rw [cc]; exact h.c1.2⟩,⟨T0.cell h.c2.1 hng,by rw [cc]; exact h.c2.2⟩,h.tok.turned T0 (fun k hk e=>(h.tg k hk).2 e),h.tg,?_,h.ng,?_,h.il,h.tl⟩,T0⟩
 ·have ho:=h.own
  unfold OwnK at ho ⊢
  refine ⟨by rw [h6'],?_⟩
  obtain ⟨_,⟨e,_⟩ | ⟨b2,off2,cap2,e,h1,h2,h3,h4,h5⟩⟩:=ho
  ·rw [hNv] at e; cases e
  ·have e2:=e
   rw [hNv] at e2
   simp only [Value.slice.injEq,Option.some.injEq,Addr.mk.injEq] at e2
   obtain ⟨⟨rfl,rfl,_⟩,_,rfl⟩:=e2
   have hlen:(L++[n']).length=(L++[n]).length:=by simp
   refine .inr ⟨b,off,cap,by rw [hlen]; exact e,by rw [hlen]; exact h1,h2,by rw [World.size_setCell]; exact h3,fun p hp=>?_,fun p hp=>?_⟩
   ·have hp2:p < (nds (L++[n])).length:=by rw [h6,← hlen,← h6']; exact hp
    have hv:=nds_last (L:=L) hj hc p
    rw [List.getElem?_eq_getElem hp] at hv
    by_cases ep:p=L.length*6+j
    ·rw [if_pos ep] at hv
     have hv:=Option.some.inj hv
     rw [hv]
     subst ep
     have:=h4 (L.length*6+j) hp2
     rw [← Nat.add_assoc] at this ⊢
     exact World.cell?_setCell_same _ _ _ this
    ·rw [if_neg ep,List.getElem?_eq_getElem hp2] at hv
     have hv:=Option.some.inj hv
     rw [hv,World.cell?_setCell_other _ _ _ _ (by simp; try omega)]
     exact h4 p hp2
   ·have h5p:=h5 p hp
    refine ⟨?_,by rw [cc]; exact h5p.2⟩
    by_cases ep:p=L.length*6+j
    ·subst ep
     obtain ⟨x,hx⟩:=Option.isSome_iff_exists.1 h5p.1
     rw [← Nat.add_assoc] at hx ⊢
     rw [World.cell?_setCell_same _ _ _ hx]
     rfl
    ·rw [World.cell?_setCell_other _ _ _ _ (by simp; try omega)]
     exact h5p.1
 ·intro p hp
  have hp2:p < (L++[n]).length:=by simpa using hp
  have e:((L++[n'])[p]).kv=((L++[n])[p]).kv∧((L++[n'])[p]).kids=((L++[n])[p]).kids:=by
   by_cases hpl:p < L.length
   ·rw [List.getElem_append_left hpl,List.getElem_append_left hpl]
    exact ⟨rfl,rfl⟩
   ·have ep:p=L.length:=by simp at hp; omega
    subst ep
    simp [hk,hl]
  rw [e.1,e.2]
  obtain ⟨k1,k2⟩:=h.kid p hp2
  exact ⟨OwnK.turned k1 T0 (fun k hk e=>(k2 k hk).2.1 e),fun k hk=>⟨(k2 k hk).1,(k2 k hk).2.1,by rw [World.size_setCell]; exact (k2 k hk).2.2⟩⟩
section
variable {T:List Tk} {w wr w2:World} {q:Nat} {Tv Nv:Value} {N:List Nd} {s:Ps} {B:Nat} {d:Int} {H:Nat→Prop} {V1 V2:Value} {l1 l2 zs:List Int} {u:Ps}
theorem Uf.keptN {Nv1 Nv2:Value} {M1:List Nd} (U:Uf T w wr q Tv Nv N s B d H V1 l1 V2 l2 zs (.ok u)) (hc:Cnt T s) (hd:1≤d) (rg:Rg T w wr q Tv Nv N u Nv1 M1) (f:∀ k,blk V1 k∨blk V2 k∨H k→Free wr q Tv Nv1 (N++M1) k) {n:Nd} (hkv:n.kv=V2) (hki:n.kids=l2)
  (p2:PAt w2 q Tv T u.i Nv2 (N++M1++[n])) (S:Stp q Nv1 Nv2 wr w2) (g2:Gd w2 q):Uf T w w2 q Tv Nv N s B (d - 1) H V1 l1 (.slice none 0 0) [] ((u.N.length:Int) :: zs) (.ok ⟨u.i,u.N++[n.sh]⟩)∧Kp H wr w2:=by
 obtain ⟨p,g,hz,_⟩:=U.x
 have hul:u.i≤T.length:=rg.ps.ok.il
 have hpg:Pg T s ⟨u.i,u.N++[n.sh]⟩ (d - 1):=p.ok2 (dm:=-1) (M:=[n.sh]) (Nat.le_refl _) rfl (by simp)
 have hs2:S2 T ⟨u.i,u.N++[n.sh]⟩ ⟨u.i,u.N++[n.sh]⟩:=by
  rcases Ok2.add (x:=n.sh) (x':=n.sh) rg.ps.ok rfl (fun k hk=>hz k (by simp [show k∈l2 from hki ▸ hk])) with ⟨e,h1,_⟩ | ⟨a1,a2,t1,t2,h1,h2,h3,_⟩
  ·cases h1
  ·simp only [pAdd,Except.ok.injEq,Prod.mk.injEq] at h1 h2
   rw [← h1.2,← h2.2] at h3
   exact h3
 have hfree:∀ k,blk V1 k∨H k→Free w2 q Tv Nv2 (N++(M1++[n])) k:=fun k hk=>by
  have fk:=f k (hk.elim .inl (fun e=>.inr (.inr e)))
  have hkl:k < wr.heap.size:=hk.elim (OwnK.blk_lt U.a.own k) (fun e=>(U.h k e).2.1)
  have h2:¬ blk V2 k:=hk.elim (U.dj k) (fun e=>(U.h k e).2.2.2)
  refine ⟨fk.g,fk.t,fun e=>(S.n k e).elim fk.n (fun e=>by omega),fun j hj e=>?_⟩
  by_cases hjn:j < (N++M1).length
  ·rw [show (N++(M1++[n]))[j]=(N++M1)[j] by
    simp only [← List.append_assoc]
    rw [List.getElem_append_left hjn]] at e
   exact fk.k j hjn e
  ·have ej:j=(N++M1).length:=by simp at hj hjn ⊢; omega
   subst ej
   simp only [← List.append_assoc] at e
   rw [List.getElem_append_right (Nat.le_refl _)] at e
   simp [hkv] at e
   exact h2 e
 refine ⟨⟨U.a.turned S.t (fun k hk e=>e.elim (f k (.inl hk)).g (f k (.inl hk)).n),Sx.nil _ _ _,fun _ _ e=>e,fun k hk=>⟨(U.h k hk).1,Nat.lt_of_lt_of_le (U.h k hk).2.1 S.t.size,(U.h k hk).2.2.1,fun e=>e⟩,U.ql,Nat.le_trans U.sz S.t.size,hpg,g2,fun z hm=>?_,Nv2,M1++[n],⟨⟨by simpa [List.append_assoc] using p2,by simp [← rg.ps.n],hs2,hpg.cnt (by omega) hul hc⟩,fun m hn k hk=>?_,rg.st.trans S⟩,fun k hk=>hfree k (hk.elim .inl (fun e=>e.elim (fun e=>e.elim) .inr))⟩,fun k hk=>S.t.block k (U.h k hk).2.1 (fun e=>e.elim (f k (.inr (.inr hk))).g (f k (.inr (.inr hk))).n)⟩
 ·simp only [List.append_nil,List.mem_append,List.mem_cons,List.length_append,List.length_cons,List.length_nil] at hm ⊢
  rcases hm with hm | rfl | hm
  ·have:=hz z (by simp [hm]); omega
  ·omega
  ·have:=hz z (by simp [hm]); omega
 ·rcases List.mem_append.1 hn with hn | hn
  ·exact rg.off m hn k hk
  ·rw [List.mem_singleton.1 hn,hkv] at hk
   exact U.b.new k hk
theorem Uf.nodeSet (U:Uf T w wr q Tv Nv N s B d H V1 l1 V2 l2 zs (.ok u)) (hT:0 < T.length) (hc:Cnt T s) (hd:1≤d) (kd at_:Int) (t:ByteArray) :
  Calls Tryz.prog 27 #[.pointer (some ⟨q,0,none⟩),.int .i64 kd,.int .i64 at_,.string t,V2] wr fun y w2=>y=.returned (.int .i64 (u.N.length:Nat))∧Kp H wr w2∧Gd w2 q∧(∃ b off cap,w2.cell? ⟨q,2,none⟩=some (.slice (some ⟨b,off,none⟩) (u.N.length+1) cap)∧q < w2.heap.size∧b < w2.heap.size∧¬ b=q∧(∀ k,H k→¬ k=b)∧(w2.cell? ⟨b,off+u.N.length*6+2,none⟩=some (.string ⟨#[]⟩)∧w2.frozen? ⟨b,off+u.N.length*6+2,none⟩=false)∧(w2.cell? ⟨b,off+u.N.length*6+3,none⟩=some (.int .i64 0)∧w2.frozen? ⟨b,off+u.N.length*6+3,none⟩=false) ∧
   (∀ m:ByteArray,Uf T w (w2.setCell ⟨b,off+u.N.length*6+2,none⟩ (.string m)) q Tv Nv N s B (d - 1) H V1 l1 (.slice none 0 0) [] ((u.N.length:Int) :: zs) (.ok ⟨u.i,u.N++[⟨kd,t,m,0,l2,at_⟩]⟩)) ∧
   (∀ k:Int,Uf T w (w2.setCell ⟨b,off+u.N.length*6+3,none⟩ (.int .i64 k)) q Tv Nv N s B (d - 1) H V1 l1 (.slice none 0 0) [] ((u.N.length:Int) :: zs) (.ok ⟨u.i,u.N++[⟨kd,t,⟨#[]⟩,k,l2,at_⟩]⟩))) ∧
   Uf T w w2 q Tv Nv N s B (d - 1) H V1 l1 (.slice none 0 0) [] ((u.N.length:Int) :: zs) (.ok ⟨u.i,u.N++[⟨kd,t,⟨#[]⟩,0,l2,at_⟩]⟩)∧Sx w w2 B V2 l2:=by
 obtain ⟨p,g,hz,Nv1,M1,rg,f⟩:=U.x
 have hl:=rg.ps.len
 have hcu2:=rg.ps.cnt
 unfold Cnt at hcu2
 have hb2:=OwnK.blk_lt U.b.own
 refine (rf_node rg.ps.at_ g hT kd at_ t V2 l2 ⟨U.b.own,fun k hk=>⟨(f k (.inr (.inl hk))).g,(f k (.inr (.inl hk))).n,hb2 k hk⟩⟩ (by omega)).mono ?_
 rintro y w2 ⟨rfl,Nv2,p2,S,g2⟩
 obtain ⟨Ua,Ka⟩:=U.keptN hc hd rg f (n:=⟨kd,t,⟨#[]⟩,0,V2,l2,at_⟩) rfl rfl p2 S g2
 obtain ⟨b,off,cap,hNv,d0,d1,d2,d3,d4,d5⟩:=p2.node (N++M1).length (by simp)
 have hll:(N++M1++[(⟨kd,t,⟨#[]⟩,0,V2,l2,at_⟩:Nd)]).length=u.N.length+1:=by simp at hl ⊢; omega
 have hNv2:Nv2=.slice (some ⟨b,off,none⟩) ((N++M1).length+1) cap:=by rw [hNv]; simp; omega
 have ho:=p2.own
 have hfz:∀ j,j < 6→w2.frozen? ⟨b,off+(N++M1).length*6+j,none⟩=false:=fun j hj=>by
  obtain ⟨_,⟨e,_⟩ | ⟨b2,off2,cap2,e,h1,h2,h3,h4,h5⟩⟩:=ho
  ·rw [hNv2] at e; cases e
  ·rw [hNv2] at e
   simp only [Value.slice.injEq,Option.some.injEq,Addr.mk.injEq] at e
   obtain ⟨⟨rfl,rfl,_⟩,_,rfl⟩:=e
   have:=(h5 ((N++M1).length*6+j) (by simp at h1 ⊢; omega)).2
   rw [← Nat.add_assoc] at this
   exact this
 have hbq:¬ b=q:=fun e=>p2.ng (by rw [hNv2]; exact e)
 have hgt:∀ w3,Turned (blk Nv2) w2 w3→Gd w3 q∧Stp q Nv1 Nv2 wr w3:=fun w3 t3=>⟨g2.turned t3 p2.ng,S.trans ⟨t3.mono (fun _ e=>.inl (.inr e)),fun k e=>.inl e⟩⟩
 have eM:(N++M1).length=u.N.length:=hl
 refine ⟨by rw [eM],Ka,g2,⟨b,off,cap,?_,p2.lt,World.block_lt_of_cell? w2 _ d0,hbq,?_,?_,?_,fun m=>?_,fun k=>?_⟩,Ua,U.b.turned S.t (fun k hk e=>e.elim (f k (.inr (.inl hk))).g (f k (.inr (.inl hk))).n)⟩
 ·rw [p2.c2.1,hNv2,eM]
 ·intro k hk e
  subst e
  rcases S.n k (by rw [hNv2]; exact rfl) with e | e
  ·exact (f k (.inr (.inr hk))).n e
  ·have:=(U.h k hk).2.1
   omega
 ·rw [← eM]
  exact ⟨by simpa using d2,hfz 2 (by decide)⟩
 ·rw [← eM]
  exact ⟨by simpa using d3,hfz 3 (by decide)⟩
 ·obtain ⟨p3,t3⟩:=p2.setLast (n':=⟨kd,t,m,0,V2,l2,at_⟩) (j:=2) (v:=.string m) (by decide) rfl rfl rfl hNv2
  obtain ⟨g3,S3⟩:=hgt _ t3
  rw [← eM]
  exact eM ▸ (U.keptN hc hd rg f (n:=⟨kd,t,m,0,V2,l2,at_⟩) rfl rfl p3 S3 g3).1
 ·obtain ⟨p3,t3⟩:=p2.setLast (n':=⟨kd,t,⟨#[]⟩,k,V2,l2,at_⟩) (j:=3) (v:=.int .i64 k) (by decide) rfl rfl rfl hNv2
  obtain ⟨g3,S3⟩:=hgt _ t3
  rw [← eM]
  exact eM ▸ (U.keptN hc hd rg f (n:=⟨kd,t,⟨#[]⟩,k,V2,l2,at_⟩) rfl rfl p3 S3 g3).1
def NodeX (T:List Tk) (w w2:World) (q:Nat) (Tv Nv:Value) (N:List Nd) (s:Ps) (B:Nat) (d:Int) (H:Nat→Prop) (V1:Value) (l1 l2 zs:List Int) (kd at_:Int) (t:ByteArray) (z:Int):Except Nat Ps→Prop
 | .error e=>Uf T w w2 q Tv Nv N s B (d - 1) H V1 l1 (.slice none 0 0) [] (z :: zs) (.error e)
 | .ok u=>z=(u.N.length:Int)∧Gd w2 q∧(∃ b off cap,w2.cell? ⟨q,2,none⟩=some (.slice (some ⟨b,off,none⟩) (u.N.length+1) cap)∧q < w2.heap.size∧b < w2.heap.size∧¬ b=q∧(∀ k,H k→¬ k=b)∧(w2.cell? ⟨b,off+u.N.length*6+2,none⟩=some (.string ⟨#[]⟩)∧w2.frozen? ⟨b,off+u.N.length*6+2,none⟩=false)∧(w2.cell? ⟨b,off+u.N.length*6+3,none⟩=some (.int .i64 0)∧w2.frozen? ⟨b,off+u.N.length*6+3,none⟩=false) ∧
   (∀ m:ByteArray,Uf T w (w2.setCell ⟨b,off+u.N.length*6+2,none⟩ (.string m)) q Tv Nv N s B (d - 1) H V1 l1 (.slice none 0 0) [] ((u.N.length:Int) :: zs) (.ok ⟨u.i,u.N++[⟨kd,t,m,0,l2,at_⟩]⟩)) ∧
   (∀ k:Int,Uf T w (w2.setCell ⟨b,off+u.N.length*6+3,none⟩ (.int .i64 k)) q Tv Nv N s B (d - 1) H V1 l1 (.slice none 0 0) [] ((u.N.length:Int) :: zs) (.ok ⟨u.i,u.N++[⟨kd,t,⟨#[]⟩,k,l2,at_⟩]⟩))) ∧
   Uf T w w2 q Tv Nv N s B (d - 1) H V1 l1 (.slice none 0 0) [] ((u.N.length:Int) :: zs) (.ok ⟨u.i,u.N++[⟨kd,t,⟨#[]⟩,0,l2,at_⟩]⟩)
theorem Uf.nodeX {r:Except Nat Ps} (U:Uf T w wr q Tv Nv N s B d H V1 l1 V2 l2 zs r) (hT:0 < T.length) (hc:Cnt T s) (hd:1≤d) (kd at_:Int) (t:ByteArray) :
  Calls Tryz.prog 27 #[.pointer (some ⟨q,0,none⟩),.int .i64 kd,.int .i64 at_,.string t,V2] wr fun y w2=>∃ z:Int,y=.returned (.int .i64 z)∧Kp H wr w2∧NodeX T w w2 q Tv Nv N s B d H V1 l1 l2 zs kd at_ t z r:=by
 cases r with
 | error e=>
  refine (bd_node U.x.1 kd at_ t V2).mono ?_
  rintro y w2 ⟨rfl,hb⟩
  exact ⟨0,rfl,U.kb hb,((U.below hb).drop2).bad _ _⟩
 | ok u=>
  refine (U.nodeSet hT hc hd kd at_ t).mono ?_
  rintro y w2 ⟨rfl,K,h⟩
  exact ⟨_,rfl,K,rfl,h.1,h.2.1,h.2.2.1⟩
theorem Uf.touch {r:Except Nat Ps} (U:Uf T w wr q Tv Nv N s B d H V1 l1 V2 l2 zs r) {k:Nat} (hk:H k) (t:Turned (fun x=>x=k) wr w2):Uf T w w2 q Tv Nv N s B d H V1 l1 V2 l2 zs r:=by
 obtain ⟨h1,h2,h3,h4⟩:=U.h k hk
 have hql:=U.ql
 refine ⟨U.a.turned t (fun x hx e=>h3 ((show x=k from e) ▸ hx)),U.b.turned t (fun x hx e=>h4 ((show x=k from e) ▸ hx)),U.dj,fun x hx=>⟨(U.h x hx).1,Nat.lt_of_lt_of_le (U.h x hx).2.1 t.size,(U.h x hx).2.2⟩,U.ql,Nat.le_trans U.sz t.size,?_⟩
 have hx:=U.x
 cases r with
 | error e=>exact ⟨⟨t.cell hx.1.bad (show ¬ q=k by omega),t.cell hx.1.err (show ¬ q=k by omega)⟩,hx.2.trans t (fun x e=>.inr (by have:x=k:=e; omega))⟩
 | ok u=>
  obtain ⟨p,g,z,Nv1,M1,rg,f⟩:=hx
  have fk:=f k (.inr (.inr hk))
  exact ⟨p,g.turned t (show ¬ q=k by omega),z,Nv1,M1,rg.mine (k:=fun x=>x=k) (fun x e=>(show x=k from e) ▸ h1) (rg.ps.at_.off fk t) t,fun x hx=>⟨(f x hx).g,(f x hx).t,(f x hx).n,(f x hx).k⟩⟩
theorem Uf.skip (U:Uf T w wr q Tv Nv N s B d H V1 l1 V2 l2 zs (.ok u)) (hn:u.i+1≤T.length):Uf T w (wr.setCell ⟨q,1,none⟩ (.int .i64 ((u.i:Int)+1))) q Tv Nv N s B (d+4) H V1 l1 V2 l2 zs (.ok ⟨u.i+1,u.N⟩)∧Kp H wr (wr.setCell ⟨q,1,none⟩ (.int .i64 ((u.i:Int)+1))):=by
 obtain ⟨p,g,z,Nv1,M1,rg,f⟩:=U.x
 obtain ⟨p2,t2⟩:=rg.ps.at_.next (u.i+1) hn rfl
 have:=U.next rg f 1 hn p2 (g.set 1 _ (by omega)) t2
 simpa using this
end
theorem named_plain {T:List Tk} {rec:Ph→PM Nat} {t:Tk} {s:Ps} (h:(decide (t.text≠⟨#[]⟩) && sgn T ⟨#[58]⟩ (s.i+1))=false):named T rec t s=Then (.ok ⟨s.i+1,s.N⟩) (pIf (sgn T ⟨#[40]⟩) (PM.bind (arguments T rec) fun ks=>pAdd ⟨13,t.text,⟨#[]⟩,0,ks,t.at_⟩) (pAdd ⟨2,t.text,⟨#[]⟩,0,[],t.at_⟩)):=by
 simp only [named,PM.bind,pSkip,pIf,h,Bool.false_eq_true,if_false,PM.ret,Then,ne_eq,not_true_eq_false,decide_false,Bool.false_or]
 cases sgn T ⟨#[40]⟩ (s.i+1) with
 | false=>rfl
 | true=>
  simp only [if_true]
  cases arguments T rec ⟨s.i+1,s.N⟩ <;> rfl
theorem named_mod {T:List Tk} {rec:Ph→PM Nat} {t:Tk} {s:Ps} (h0:¬ t.text=⟨#[]⟩) (h:sgn T ⟨#[58]⟩ (s.i+1)=true):named T rec t s=Then (.ok ⟨s.i+1+1,s.N⟩) (PM.bind (pNeed T (knd T 1)) fun u=>PM.bind (arguments T rec) fun ks=>pAdd ⟨13,u.text,t.text,0,ks,t.at_⟩):=by
 simp only [named,PM.bind,pSkip,pIf,h,h0,ne_eq,not_false_eq_true,decide_true,Bool.and_true,if_true,pNeed,PM.ret,Then]
 cases knd T 1 (s.i+1+1) with
 | false=>rfl
 | true=>
  simp only [if_true,h0,not_false_eq_true,decide_true,Bool.true_or]
  cases arguments T rec ⟨s.i+1+1+1,s.N⟩ <;> rfl
theorem args_none {T:List Tk} {rec:Ph→PM Nat} {K:List Int→PM Nat} {r:Except Nat Ps} (h:∀ u,r=.ok u→sgn T ⟨#[40]⟩ u.i=false):Then r (PM.bind (arguments T rec) K)=.error (errOf r):=by
 cases r with
 | error e=>rfl
 | ok u=>simp [Then,PM.bind,arguments,enclosed,pNeed,h u rfl,errOf]
section
variable {T:List Tk} {g i0:Nat}
theorem XR.atomP (X:XR T g i0) (hT:0 < T.length) (hTk:∀ i,TkOk (tokAt T i)) {f:Nat} (hf:g≤f) (s:Ps) (hs:i0≤s.i+1) (t:Tk) (hk:(tokAt T s.i).kind=1):PhF T 212 [t.val] (named T (runP T f) t) s:=by
 intro w q Tv Nv N h hg
 obtain ⟨res,hres⟩:∃ res,named T (runP T f) t s=res:=⟨_,rfl⟩
 rw [hres]
 show Calls Tryz.prog _ #[.pointer (some ⟨q,0,none⟩),t.val] w _
 have hlt:s.i < T.length:=tok_lt (by rw [hk]; decide)
 obtain ⟨tk,tt,tn,ta⟩:=t
 have U0:=Uf.start h hg (T.length+2)
 have HC:=Hid.mk7 h.cnt
 have HT:=Hid.mk7 (And.intro hT h.at_.tl)
 have HX:=Hid.mk7 (And.intro X (And.intro hTk (And.intro (hf) hs)))
 obtain ⟨U1,_⟩:=U0.skip hlt
 have U2:=(U1.hold hT (.cells #[.int .i64 tk,.string tt,.int .i64 tn,.int .i64 ta] 40)).hold hT (.cells #[.int .i64 tk,.string tt,.int .i64 tn,.int .i64 ta] 40)
 simp only [World.size_alloc,World.size_setCell] at U2
 have c1:=h.at_.c1.1
 have f1:=h.at_.c1.2
 have hql:=h.at_.lt
 have htl:=h.at_.tl
 have e1:(((w.setCell ⟨q,1,none⟩ (.int .i64 ((s.i:Int)+1))).alloc (.cells #[.int .i64 tk,.string tt,.int .i64 tn,.int .i64 ta] 40)).alloc (.cells #[.int .i64 tk,.string tt,.int .i64 tn,.int .i64 ta] 40)).cell? ⟨w.heap.size,1,none⟩=some (.string tt):=by
  rw [World.cell?_alloc_lt _ _ ⟨w.heap.size,1,none⟩ (by simp),World.cell?_alloc_at _ _ _ _ (by simp)]
  rfl
 have e3:(((w.setCell ⟨q,1,none⟩ (.int .i64 ((s.i:Int)+1))).alloc (.cells #[.int .i64 tk,.string tt,.int .i64 tn,.int .i64 ta] 40)).alloc (.cells #[.int .i64 tk,.string tt,.int .i64 tn,.int .i64 ta] 40)).cell? ⟨w.heap.size,3,none⟩=some (.int .i64 ta):=by
  rw [World.cell?_alloc_lt _ _ ⟨w.heap.size,3,none⟩ (by simp),World.cell?_alloc_at _ _ _ _ (by simp)]
  rfl
 have x1:(((w.setCell ⟨q,1,none⟩ (.int .i64 ((s.i:Int)+1))).alloc (.cells #[.int .i64 tk,.string tt,.int .i64 tn,.int .i64 ta] 40)).alloc (.cells #[.int .i64 tk,.string tt,.int .i64 tn,.int .i64 ta] 40)).cell? ⟨w.heap.size+1,1,none⟩=some (.string tt):=by
  rw [World.cell?_alloc_at _ _ _ _ (by simp)]
  rfl
 have HQ:=Hid.mk7 hres
 have HE:=Hid.mk7 (And.intro e1 (And.intro e3 x1))
 have HU:=Hid.mk7 U2
 clear h hg U0 X hTk hf hs hk hres hT U1 U2 e1 e3 x1
 simp only [Tk.val]
 by_cases hne:tt=⟨#[]⟩
 ·subst hne
  have hqp:Then (.ok ⟨s.i+1,s.N⟩) (pIf (sgn T ⟨#[40]⟩) (PM.bind (arguments T (runP T f)) fun ks=>pAdd ⟨13,⟨#[]⟩,⟨#[]⟩,0,ks,ta⟩) (pAdd ⟨2,⟨#[]⟩,⟨#[]⟩,0,[],ta⟩))=res:=(named_plain (by simp)).symm.trans HQ.out
  go_enter Tryz.func212,Tryz.ntmps212
  have c0:=Uf.sign (HU.out) 0 (by omega) ⟨#[40]⟩
  have HW:=Hid.mk7 (And.intro (HU.out) (And.intro hqp (show Kp (fun k=>(noH k∨k=w.heap.size)∨k=w.heap.size+1) (((w.setCell ⟨q,1,none⟩ (.int .i64 ((s.i:Int)+1))).alloc (.cells #[.int .i64 tk,.string ⟨#[]⟩,.int .i64 tn,.int .i64 ta] 40)).alloc (.cells #[.int .i64 tk,.string ⟨#[]⟩,.int .i64 tn,.int .i64 ta] 40)) (((w.setCell ⟨q,1,none⟩ (.int .i64 ((s.i:Int)+1))).alloc (.cells #[.int .i64 tk,.string ⟨#[]⟩,.int .i64 tn,.int .i64 ta] 40)).alloc (.cells #[.int .i64 tk,.string ⟨#[]⟩,.int .i64 tn,.int .i64 ta] 40)) from fun _ _=>rfl)))
  clear hqp
  go_wp2_with fail
  refine c0.mono ?_
  rintro y w0 ⟨hb,⟨rfl,u,hu,hk⟩ | ⟨rfl,hk⟩⟩
  ·cases hu
   simp only [Nat.add_zero] at hk
   rw [tkIs_sign (HX.out.2.1 _) (by simp [allSigns])] at hk
   have hqa:Then (.ok ⟨s.i+1,s.N⟩) (PM.bind (arguments T (runP T f)) fun ks=>pAdd ⟨13,⟨#[]⟩,⟨#[]⟩,0,ks,ta⟩)=res:=by
    rw [← HW.out.2.1]
    simp only [Then,pIf,sgn,hk,if_true]
   have UA:=HW.out.1.below hb
   have KA:=HW.out.2.2.trans (HW.out.1.kb hb)
   have e3:=(KA.cell (k:=w.heap.size) (j:=3) (.inl (.inr rfl))).trans HE.out.2.1
   have x1:=(KA.cell (k:=w.heap.size+1) (j:=1) (.inr rfl)).trans HE.out.2.2
   have hiA:∀ u,(.ok ⟨s.i+1,s.N⟩:Except Nat Ps)=.ok u→i0≤u.i+1:=fun u e=>by cases e; have:=HX.out.2.2.2; simp; omega
   clear c0 hb hk
   have cA:∀ W,Below w0.heap.size w0 W→Calls Tryz.prog 101 #[.pointer (some ⟨q,0,none⟩)] W fun y w7=>∃ V7 l7,y=.returned V7∧(∃ a c,V7=.slice a (List.length l7) c)∧w7.cell? ⟨w.heap.size,3,none⟩=some (.int .i64 ta)∧w7.cell? ⟨w.heap.size+1,1,none⟩=some (.string ⟨#[]⟩)∧Hid (Calls Tryz.prog 27 #[.pointer (some ⟨q,0,none⟩),.int .i64 13,.int .i64 ta,.string ⟨#[]⟩,V7] w7 fun y w8=>∃ z8:Int,y=.returned (.int .i64 z8)∧w8.cell? ⟨w.heap.size,3,none⟩=some (.int .i64 ta)∧w8.cell? ⟨w.heap.size+1,1,none⟩=some (.string ⟨#[]⟩)∧Hid (∃ r7,Then r7 (pAdd ⟨13,⟨#[]⟩,⟨#[]⟩,0,l7,ta⟩)=res∧NodeX T w w8 q Tv Nv N s (T.length+2) 1 (fun k=>(noH k∨k=w.heap.size)∨k=w.heap.size+1) (.slice none 0 0) [] l7 [] 13 ta ⟨#[]⟩ z8 r7)):=fun W hW=>by
    have UW:=UA.below hW
    have KW:=UA.kb hW
    have cc:Calls Tryz.prog 101 #[.pointer (some ⟨q,0,none⟩)] W _:=UW.phraseL (dm:=8) (fun u e=>HX.out.1.args HX.out.2.1 HX.out.2.2.1 u (hiA u e)) (fun _ _=>b_args) (fun u _ hs=>arguments_ok2 (Alike.refl T) (fun ph hp s s' hs=>runP_ok2 (Alike.refl T) f ph hp s s' hs) hs) (fun u l v e=>enclosedT_len (runP_mono T f (.expr 1)) e) (by omega) hqa
    refine cc.mono ?_
    rintro y w7 ⟨V7,l7,rfl,hV7,_,K7,r7,hq7,U7,_⟩
    have K7':=KW.trans K7
    have k3:=(K7'.cell (k:=w.heap.size) (j:=3) (.inl (.inr rfl))).trans e3
    have k1:=(K7'.cell (k:=w.heap.size+1) (j:=1) (.inr rfl)).trans x1
    refine ⟨V7,l7,rfl,hV7,k3,k1,?_⟩
    refine ((U7.weak (d':=1) (by decide)).nodeX HT.out.1 HC.out (by decide) 13 ta ⟨#[]⟩).mono ?_
    rintro y w8 ⟨z8,rfl,K8,X8⟩
    exact ⟨z8,rfl,(K8.cell (k:=w.heap.size) (j:=3) (.inl (.inr rfl))).trans k3,(K8.cell (k:=w.heap.size+1) (j:=1) (.inr rfl)).trans k1,r7,hq7,X8⟩
   have l3:=World.block_lt_of_cell? w0 _ e3
   have l1:=World.block_lt_of_cell? w0 _ x1
   clear UA KA hqa hiA
   go_wp2_with fail
   go_region_held3 (fun w'=>w'.cell? ⟨w.heap.size,3,none⟩=some (.int .i64 ta)∧w'.cell? ⟨w.heap.size+1,1,none⟩=some (.string ⟨#[]⟩))
    (go_keep)
    (first
     | (go_at_call 27; refine h7.out.mono ?_; rintro x w8 ⟨z8,rfl,s1,s2,h8⟩)
     | (go_at_call 101; refine (cA _ (Below.refl _ _).drew).mono ?_; rintro x w7 ⟨V7,l7,rfl,⟨a7,c7,hV7⟩,s1,s2,h7⟩; subst hV7))
   all_goals
    obtain ⟨r8,hq8,X8⟩:=h8.out
    clear h7 h8 cA
    cases r8 with
    | error e=>
     have hb8:=X8.x.1.bad
     have HF:=Hid.mk7 (Uf.done X8 (res:=res) hq8)
     clear X8 hq8
     go_wp2
     go_ret
     exact HF.out
    | ok u8=>
     obtain ⟨rfl,g8,⟨b8,o8,cp8,n2,nq,nb,nbq,nH,⟨m2,mf2⟩,_,nm,_⟩,_⟩:=X8
     have hb8:=g8.c3.1
     have nm1:=nm ⟨#[]⟩
     have hq9:Then (.ok ⟨u8.i,u8.N++[⟨13,⟨#[]⟩,⟨#[]⟩,0,l7,ta⟩]⟩) (PM.ret ((u8.N.length:Int)).toNat)=res:=by
      rw [← hq8]
      simp [Then,pAdd,PM.ret]
     have HF:=Hid.mk7 (Uf.done nm1 hq9)
     clear nm nm1 nH hq8 hq9 g8
     generalize u8.N.length=LN at n2 m2 mf2 HF ⊢
     have hLN:(LN:Int) < ((LN+1:Nat):Int):=by omega
     go_wp2
     go_ret
     exact HF.out
  ·have hk:sgn T ⟨#[40]⟩ (s.i+1)=false:=by
    have h1:=hk _ rfl
    simp only [Nat.add_zero] at h1
    rw [tkIs_sign (HX.out.2.1 _) (by simp [allSigns])] at h1
    exact h1
   have hqa:Then (.ok ⟨s.i+1,s.N⟩) (pAdd ⟨2,⟨#[]⟩,⟨#[]⟩,0,[],ta⟩)=res:=by
    rw [← HW.out.2.1]
    simp only [Then,pIf,hk,Bool.false_eq_true,if_false]
   have KA:=HW.out.2.2.trans (HW.out.1.kb hb)
   have e3:=(KA.cell (k:=w.heap.size) (j:=3) (.inl (.inr rfl))).trans HE.out.2.1
   have e1:=(KA.cell (k:=w.heap.size) (j:=1) (.inl (.inr rfl))).trans HE.out.1
   have l1:=World.block_lt_of_cell? w0 _ e1
   have H1:=Hid.mk7 (And.intro (HW.out.1.below hb) hqa)
   clear c0 hb hk hqa KA
   have hq20:Then (.ok ⟨s.i+1,s.N⟩) (PM.bind (pAdd ⟨2,⟨#[]⟩,⟨#[]⟩,0,[],ta⟩) PM.ret)=res:=by rw [PM.bind_ret]; exact H1.out.2
   have c20:=Uf.node (H1.out.1) HT.out.1 HC.out (by decide) 2 ta ⟨#[]⟩ hq20
   clear hq20
   go_wp2_with fail
   refine c20.mono ?_
   rintro y w20 ⟨z20,rfl,_,r20,hq20,U20,_⟩
   have H20:=Hid.mk7 (U20.done hq20)
   clear c20 hq20 U20
   go_wp2
   go_ret
   exact H20.out
 ·have hn0:tt.toList.isEmpty=false:=by
   rw [List.isEmpty_eq_false_iff]
   exact fun e=>bytes_ne hne (e.trans (by rw [ByteArray.toList_eq]))
  have c0:=HU.out.take ⟨#[58]⟩
  go_enter Tryz.func212,Tryz.ntmps212
  go_wp2_with fail
  refine c0.mono ?_
  rintro y w0 ⟨K0,⟨rfl,u,hu,hk,hl2,U1⟩ | ⟨rfl,hk,U1⟩⟩
  ·cases hu
   rw [tkIs_sign (HX.out.2.1 _) (by simp [allSigns])] at hk
   have hq1:=(named_mod (t:=⟨tk,tt,tn,ta⟩) hne hk).symm.trans HQ.out
   have c1':=U1.kind 1 (by decide) hq1
   have e1:=(K0.cell (k:=w.heap.size) (j:=1) (.inl (.inr rfl))).trans HE.out.1
   have l1:=World.block_lt_of_cell? w0 _ e1
   have HK:=Hid.mk7 K0
   clear c0 hk U1 hq1 K0 c1 f1
   go_wp2_with fail
   refine c1'.mono ?_
   rintro y w1 ⟨⟨fk,ft,fn,fa⟩,rfl,K1,r1,hq1,U1,hr1⟩
   have K1':=HK.out.trans K1
   have y:∀ j,w1.cell? ⟨w.heap.size+1,j,none⟩=(((w.setCell ⟨q,1,none⟩ (.int .i64 ((s.i:Int)+1))).alloc (.cells #[.int .i64 tk,.string tt,.int .i64 tn,.int .i64 ta] 40)).alloc (.cells #[.int .i64 tk,.string tt,.int .i64 tn,.int .i64 ta] 40)).cell? ⟨w.heap.size+1,j,none⟩:=fun j=>K1'.cell (k:=w.heap.size+1) (j:=j) (.inr rfl)
   have z0:w1.cell? ⟨w.heap.size+1,0,none⟩=some (.int .i64 tk):=(y 0).trans (by rw [World.cell?_alloc_at _ _ _ _ (by simp)]; rfl)
   have z1:w1.cell? ⟨w.heap.size+1,1,none⟩=some (.string tt):=(y 1).trans (by rw [World.cell?_alloc_at _ _ _ _ (by simp)]; rfl)
   have z2:w1.cell? ⟨w.heap.size+1,2,none⟩=some (.int .i64 tn):=(y 2).trans (by rw [World.cell?_alloc_at _ _ _ _ (by simp)]; rfl)
   have z3:w1.cell? ⟨w.heap.size+1,3,none⟩=some (.int .i64 ta):=(y 3).trans (by rw [World.cell?_alloc_at _ _ _ _ (by simp)]; rfl)
   have fz:∀ j,w1.frozen? ⟨w.heap.size+1,j,none⟩=false:=fun j=>by
    have hbk:=K1' (w.heap.size+1) (.inr rfl)
    have hf2:(((w.setCell ⟨q,1,none⟩ (.int .i64 ((s.i:Int)+1))).alloc (.cells #[.int .i64 tk,.string tt,.int .i64 tn,.int .i64 ta] 40)).alloc (.cells #[.int .i64 tk,.string tt,.int .i64 tn,.int .i64 ta] 40)).frozen? ⟨w.heap.size+1,j,none⟩=false:=World.frozen?_alloc_at _ _ _ _ (by simp)
    unfold World.frozen? at hf2 ⊢
    rw [hbk]
    exact hf2
   have z0f:=fz 0
   have z1f:=fz 1
   have z2f:=fz 2
   have z3f:=fz 3
   have lz:=World.block_lt_of_cell? w1 _ z0
   have U2:=U1.touch (k:=w.heap.size+1) (.inr rfl) (lay4_turned w1 (w.heap.size+1) ⟨fk,ft,fn,fa⟩)
   have x1:(lay4 w1 (w.heap.size+1) ⟨fk,ft,fn,fa⟩).cell? ⟨w.heap.size+1,1,none⟩=some (.string ft):=by
    have:=lay4_range w1 (w.heap.size+1) ⟨fk,ft,fn,fa⟩ z0 z1 z2 z3 1 (.string ft) rfl
    simpa using this
   have e3:(lay4 w1 (w.heap.size+1) ⟨fk,ft,fn,fa⟩).cell? ⟨w.heap.size,3,none⟩=some (.int .i64 ta):=(lay4_turned w1 (w.heap.size+1) ⟨fk,ft,fn,fa⟩).cell ((K1'.cell (k:=w.heap.size) (j:=3) (.inl (.inr rfl))).trans HE.out.2.1) (by simp)
   have c2:=U2.sign 0 (by omega) ⟨#[40]⟩
   have H2:=Hid.mk7 (And.intro U2 (And.intro hq1 (And.intro hr1 (And.intro x1 e3))))
   simp only [lay4] at c2
   clear c1' K1 hq1 U1 hr1 K1' y fz U2 x1 e3
   simp only [Tk.val]
   go_wp2_with fail
   refine c2.mono ?_
   rintro y w2 ⟨hb2,⟨rfl,u,hu,hk⟩ | ⟨rfl,hk⟩⟩
   ·subst hu
    have hk2:=hk
    simp only [Nat.add_zero] at hk
    have KB:=H2.out.1.kb hb2
    have UB:=H2.out.1.below hb2
    have c3:=UB.sign 0 (by omega) ⟨#[40]⟩
    have H3:=Hid.mk7 (And.intro UB (And.intro KB hk2))
    clear c2 hb2 hk UB KB hk2 z0 z1 z2 z3 z0f z1f z2f z3f lz
    go_wp2_with fail
    refine c3.mono ?_
    rintro y w3 ⟨hb3,⟨rfl,u3,hu3,hk3⟩ | ⟨rfl,hk3⟩⟩
    ·cases hu3
     have UA:=H3.out.1.below hb3
     have KA:=H3.out.2.1.trans (H3.out.1.kb hb3)
     have e3:=(KA.cell (k:=w.heap.size) (j:=3) (.inl (.inr rfl))).trans H2.out.2.2.2.2
     have x1:=(KA.cell (k:=w.heap.size+1) (j:=1) (.inr rfl)).trans H2.out.2.2.2.1
     have hqa:=H2.out.2.1
     have hiA:∀ v,(.ok u:Except Nat Ps)=.ok v→i0≤v.i+1:=fun v e=>by
      cases e
      obtain ⟨v2,e1,_,_,e2⟩:=H2.out.2.2.1 u rfl
      cases e1
      have:=HX.out.2.2.2
      rw [e2]
      simp
      omega
     clear c3 hb3 hk3
     have cA:∀ W,Below w3.heap.size w3 W→Calls Tryz.prog 101 #[.pointer (some ⟨q,0,none⟩)] W fun y w7=>∃ V7 l7,y=.returned V7∧(∃ a c,V7=.slice a (List.length l7) c)∧w7.cell? ⟨w.heap.size,3,none⟩=some (.int .i64 ta)∧w7.cell? ⟨w.heap.size+1,1,none⟩=some (.string ft)∧Hid (Calls Tryz.prog 27 #[.pointer (some ⟨q,0,none⟩),.int .i64 13,.int .i64 ta,.string ft,V7] w7 fun y w8=>∃ z8:Int,y=.returned (.int .i64 z8)∧w8.cell? ⟨w.heap.size,3,none⟩=some (.int .i64 ta)∧w8.cell? ⟨w.heap.size+1,1,none⟩=some (.string ft)∧Hid (∃ r7,Then r7 (pAdd ⟨13,ft,tt,0,l7,ta⟩)=res∧NodeX T w w8 q Tv Nv N s (T.length+2) 1 (fun k=>(noH k∨k=w.heap.size)∨k=w.heap.size+1) (.slice none 0 0) [] l7 [] 13 ta ft z8 r7)):=fun W hW=>by
      have UW:=UA.below hW
      have KW:=UA.kb hW
      have cc:Calls Tryz.prog 101 #[.pointer (some ⟨q,0,none⟩)] W _:=UW.phraseL (dm:=8) (fun u e=>HX.out.1.args HX.out.2.1 HX.out.2.2.1 u (hiA u e)) (fun _ _=>b_args) (fun u _ hs=>arguments_ok2 (Alike.refl T) (fun ph hp s s' hs=>runP_ok2 (Alike.refl T) f ph hp s s' hs) hs) (fun u l v e=>enclosedT_len (runP_mono T f (.expr 1)) e) (by omega) hqa
      refine cc.mono ?_
      rintro y w7 ⟨V7,l7,rfl,hV7,_,K7,r7,hq7,U7,_⟩
      have K7':=KW.trans K7
      have k3:=(K7'.cell (k:=w.heap.size) (j:=3) (.inl (.inr rfl))).trans e3
      have k1:=(K7'.cell (k:=w.heap.size+1) (j:=1) (.inr rfl)).trans x1
      refine ⟨V7,l7,rfl,hV7,k3,k1,?_⟩
      refine ((U7.weak (d':=1) (by decide)).nodeX HT.out.1 HC.out (by decide) 13 ta ft).mono ?_
      rintro y w8 ⟨z8,rfl,K8,X8⟩
      exact ⟨z8,rfl,(K8.cell (k:=w.heap.size) (j:=3) (.inl (.inr rfl))).trans k3,(K8.cell (k:=w.heap.size+1) (j:=1) (.inr rfl)).trans k1,r7,hq7,X8⟩
     have l3:=World.block_lt_of_cell? w3 _ e3
     have l1:=World.block_lt_of_cell? w3 _ x1
     clear UA KA hqa hiA
     go_wp2_with fail
     go_region_held3 (fun w'=>w'.cell? ⟨w.heap.size,3,none⟩=some (.int .i64 ta)∧w'.cell? ⟨w.heap.size+1,1,none⟩=some (.string ft))
      (go_keep)
      (first
       | (go_at_call 27; refine h7.out.mono ?_; rintro x w8 ⟨z8,rfl,s1,s2,h8⟩)
       | (go_at_call 101; refine (cA _ (Below.refl _ _).drew).mono ?_; rintro x w7 ⟨V7,l7,rfl,⟨a7,c7,hV7⟩,s1,s2,h7⟩; subst hV7))
     all_goals
      obtain ⟨r8,hq8,X8⟩:=h8.out
      clear h7 h8 cA
      cases r8 with
      | error e=>
       have hb8:=X8.x.1.bad
       have HF:=Hid.mk7 (Uf.done X8 (res:=res) hq8)
       clear X8 hq8
       go_wp2
       go_ret
       exact HF.out
      | ok u8=>
       obtain ⟨rfl,g8,⟨b8,o8,cp8,n2,nq,nb,nbq,nH,⟨m2,mf2⟩,_,nm,_⟩,_⟩:=X8
       have hb8:=g8.c3.1
       have nm1:=nm tt
       have hq9:Then (.ok ⟨u8.i,u8.N++[⟨13,ft,tt,0,l7,ta⟩]⟩) (PM.ret ((u8.N.length:Int)).toNat)=res:=by
        rw [← hq8]
        simp [Then,pAdd,PM.ret]
       have HF:=Hid.mk7 (Uf.done nm1 hq9)
       clear nm nm1 nH hq8 hq9 g8
       generalize u8.N.length=LN at n2 m2 mf2 HF ⊢
       have hLN:(LN:Int) < ((LN+1:Nat):Int):=by omega
       go_wp2
       go_ret
       exact HF.out
    ·exfalso
     have h1:=hk3 u rfl
     have h2:=H3.out.2.2
     rw [h1] at h2
     cases h2
   ·have hres2:res=.error (errOf r1):=by
     rw [← H2.out.2.1]
     exact args_none (fun u e=>by have h1:=hk u e; simp only [Nat.add_zero] at h1; rw [tkIs_sign (HX.out.2.1 _) (by simp [allSigns])] at h1; exact h1)
    have c3:=(H2.out.1.below hb2).syntax
    have H3:=Hid.mk7 hres2
    clear c2 hb2 hk hres2 z0 z1 z2 z3 z0f z1f z2f z3f lz
    go_wp2_with fail
    refine c3.mono ?_
    rintro y w3 ⟨rfl,_,e,he,U3⟩
    have HF:=Hid.mk7 (U3.done (res:=res) (by rw [H3.out,he]; rfl))
    clear c3 U3 he
    go_wp2
    go_ret
    exact HF.out
  ·have hk:sgn T ⟨#[58]⟩ (s.i+1)=false:=by
    have h1:=hk _ rfl
    rw [tkIs_sign (HX.out.2.1 _) (by simp [allSigns])] at h1
    exact h1
   have hqp:Then (.ok ⟨s.i+1,s.N⟩) (pIf (sgn T ⟨#[40]⟩) (PM.bind (arguments T (runP T f)) fun ks=>pAdd ⟨13,tt,⟨#[]⟩,0,ks,ta⟩) (pAdd ⟨2,tt,⟨#[]⟩,0,[],ta⟩))=res:=(named_plain (t:=⟨tk,tt,tn,ta⟩) (by simp [hk])).symm.trans HQ.out
   have c5:=Uf.sign (U1) 0 (by omega) ⟨#[40]⟩
   have HW:=Hid.mk7 (And.intro (U1) (And.intro hqp (K0)))
   clear c0 hqp U1 K0 hk
   go_wp2_with fail
   refine c5.mono ?_
   rintro y w5 ⟨hb,⟨rfl,u,hu,hk⟩ | ⟨rfl,hk⟩⟩
   ·cases hu
    simp only [Nat.add_zero] at hk
    rw [tkIs_sign (HX.out.2.1 _) (by simp [allSigns])] at hk
    have hqa:Then (.ok ⟨s.i+1,s.N⟩) (PM.bind (arguments T (runP T f)) fun ks=>pAdd ⟨13,tt,⟨#[]⟩,0,ks,ta⟩)=res:=by
     rw [← HW.out.2.1]
     simp only [Then,pIf,sgn,hk,if_true]
    have UA:=HW.out.1.below hb
    have KA:=HW.out.2.2.trans (HW.out.1.kb hb)
    have e3:=(KA.cell (k:=w.heap.size) (j:=3) (.inl (.inr rfl))).trans HE.out.2.1
    have x1:=(KA.cell (k:=w.heap.size+1) (j:=1) (.inr rfl)).trans HE.out.2.2
    have hiA:∀ u,(.ok ⟨s.i+1,s.N⟩:Except Nat Ps)=.ok u→i0≤u.i+1:=fun u e=>by cases e; have:=HX.out.2.2.2; simp; omega
    clear c5 hb hk
    have cA:∀ W,Below w5.heap.size w5 W→Calls Tryz.prog 101 #[.pointer (some ⟨q,0,none⟩)] W fun y w7=>∃ V7 l7,y=.returned V7∧(∃ a c,V7=.slice a (List.length l7) c)∧w7.cell? ⟨w.heap.size,3,none⟩=some (.int .i64 ta)∧w7.cell? ⟨w.heap.size+1,1,none⟩=some (.string tt)∧Hid (Calls Tryz.prog 27 #[.pointer (some ⟨q,0,none⟩),.int .i64 13,.int .i64 ta,.string tt,V7] w7 fun y w8=>∃ z8:Int,y=.returned (.int .i64 z8)∧w8.cell? ⟨w.heap.size,3,none⟩=some (.int .i64 ta)∧w8.cell? ⟨w.heap.size+1,1,none⟩=some (.string tt)∧Hid (∃ r7,Then r7 (pAdd ⟨13,tt,⟨#[]⟩,0,l7,ta⟩)=res∧NodeX T w w8 q Tv Nv N s (T.length+2) 1 (fun k=>(noH k∨k=w.heap.size)∨k=w.heap.size+1) (.slice none 0 0) [] l7 [] 13 ta tt z8 r7)):=fun W hW=>by
     have UW:=UA.below hW
     have KW:=UA.kb hW
     have cc:Calls Tryz.prog 101 #[.pointer (some ⟨q,0,none⟩)] W _:=UW.phraseL (dm:=8) (fun u e=>HX.out.1.args HX.out.2.1 HX.out.2.2.1 u (hiA u e)) (fun _ _=>b_args) (fun u _ hs=>arguments_ok2 (Alike.refl T) (fun ph hp s s' hs=>runP_ok2 (Alike.refl T) f ph hp s s' hs) hs) (fun u l v e=>enclosedT_len (runP_mono T f (.expr 1)) e) (by omega) hqa
     refine cc.mono ?_
     rintro y w7 ⟨V7,l7,rfl,hV7,_,K7,r7,hq7,U7,_⟩
     have K7':=KW.trans K7
     have k3:=(K7'.cell (k:=w.heap.size) (j:=3) (.inl (.inr rfl))).trans e3
     have k1:=(K7'.cell (k:=w.heap.size+1) (j:=1) (.inr rfl)).trans x1
     refine ⟨V7,l7,rfl,hV7,k3,k1,?_⟩
     refine ((U7.weak (d':=1) (by decide)).nodeX HT.out.1 HC.out (by decide) 13 ta tt).mono ?_
     rintro y w8 ⟨z8,rfl,K8,X8⟩
     exact ⟨z8,rfl,(K8.cell (k:=w.heap.size) (j:=3) (.inl (.inr rfl))).trans k3,(K8.cell (k:=w.heap.size+1) (j:=1) (.inr rfl)).trans k1,r7,hq7,X8⟩
    have l3:=World.block_lt_of_cell? w5 _ e3
    have l1:=World.block_lt_of_cell? w5 _ x1
    clear UA KA hqa hiA
    go_wp2_with fail
    go_region_held3 (fun w'=>w'.cell? ⟨w.heap.size,3,none⟩=some (.int .i64 ta)∧w'.cell? ⟨w.heap.size+1,1,none⟩=some (.string tt))
     (go_keep)
     (first
      | (go_at_call 27; refine h7.out.mono ?_; rintro x w8 ⟨z8,rfl,s1,s2,h8⟩)
      | (go_at_call 101; refine (cA _ (Below.refl _ _).drew).mono ?_; rintro x w7 ⟨V7,l7,rfl,⟨a7,c7,hV7⟩,s1,s2,h7⟩; subst hV7))
    all_goals
     obtain ⟨r8,hq8,X8⟩:=h8.out
     clear h7 h8 cA
     cases r8 with
     | error e=>
      have hb8:=X8.x.1.bad
      have HF:=Hid.mk7 (Uf.done X8 (res:=res) hq8)
      clear X8 hq8
      go_wp2
      go_ret
      exact HF.out
     | ok u8=>
      obtain ⟨rfl,g8,⟨b8,o8,cp8,n2,nq,nb,nbq,nH,⟨m2,mf2⟩,_,nm,_⟩,_⟩:=X8
      have hb8:=g8.c3.1
      have nm1:=nm ⟨#[]⟩
      have hq9:Then (.ok ⟨u8.i,u8.N++[⟨13,tt,⟨#[]⟩,0,l7,ta⟩]⟩) (PM.ret ((u8.N.length:Int)).toNat)=res:=by
       rw [← hq8]
       simp [Then,pAdd,PM.ret]
      have HF:=Hid.mk7 (Uf.done nm1 hq9)
      clear nm nm1 nH hq8 hq9 g8
      generalize u8.N.length=LN at n2 m2 mf2 HF ⊢
      have hLN:(LN:Int) < ((LN+1:Nat):Int):=by omega
      go_wp2
      go_ret
      exact HF.out
   ·have hk:sgn T ⟨#[40]⟩ (s.i+1)=false:=by
     have h1:=hk _ rfl
     simp only [Nat.add_zero] at h1
     rw [tkIs_sign (HX.out.2.1 _) (by simp [allSigns])] at h1
     exact h1
    have hqa:Then (.ok ⟨s.i+1,s.N⟩) (pAdd ⟨2,tt,⟨#[]⟩,0,[],ta⟩)=res:=by
     rw [← HW.out.2.1]
     simp only [Then,pIf,hk,Bool.false_eq_true,if_false]
    have KA:=HW.out.2.2.trans (HW.out.1.kb hb)
    have e3:=(KA.cell (k:=w.heap.size) (j:=3) (.inl (.inr rfl))).trans HE.out.2.1
    have e1:=(KA.cell (k:=w.heap.size) (j:=1) (.inl (.inr rfl))).trans HE.out.1
    have l1:=World.block_lt_of_cell? w5 _ e1
    have H1:=Hid.mk7 (And.intro (HW.out.1.below hb) hqa)
    clear c5 hb hk hqa KA
    have hq20:Then (.ok ⟨s.i+1,s.N⟩) (PM.bind (pAdd ⟨2,tt,⟨#[]⟩,0,[],ta⟩) PM.ret)=res:=by rw [PM.bind_ret]; exact H1.out.2
    have c20:=Uf.node (H1.out.1) HT.out.1 HC.out (by decide) 2 ta tt hq20
    clear hq20
    go_wp2_with fail
    refine c20.mono ?_
    rintro y w20 ⟨z20,rfl,_,r20,hq20,U20,_⟩
    have H20:=Hid.mk7 (U20.done hq20)
    clear c20 hq20 U20
    go_wp2
    go_ret
    exact H20.out
end
end Go.Proofs.YtlciaafincgdeaaGreatDoor
