/-
  Layer 11 (parse): functions.
  Layer 11 (parse): modules.
-/
import Derived.Test.YtlciaafincgdeaaGreatDoorZan
namespace Go.Proofs.YtlciaafincgdeaaGreatDoor
open Go.RowKit
set_option maxHeartbeats 6400000
set_option maxRecDepth 100000
theorem rowL_pre {T:List Tk} {x:ByteArray} {m:PM Nat} (hm:Fwd T m):∀ (f:Nat) (acc:List Int) (s:Ps) (l:List Int) (t:Ps),S2 T s s→rowL T x m f acc s=.ok (l,t)→(∃ l',l=acc++l')∧∃ M,t.N=s.N++M
 | 0,acc,s,l,t,_,e=>by
  simp only [rowL,PM.ret,Except.ok.injEq,Prod.mk.injEq] at e
  obtain ⟨rfl,rfl⟩:=e
  exact ⟨⟨[],by simp⟩,[],by simp⟩
 | f+1,acc,s,l,t,hs,e=>by
  cases hb:sgn T x s.i with
  | false=>
   rw [rowL_stop (by omega) hb] at e
   simp only [Except.ok.injEq,Prod.mk.injEq] at e
   obtain ⟨rfl,rfl⟩:=e
   exact ⟨⟨[],by simp⟩,[],by simp⟩
  | true=>
   rcases hm _ (hs.next (n:=1) (sgn_lt hb)) with ⟨e1,h1,_⟩ | ⟨a1,a2,t1,t2,h1,h2,h3,_,_,M,h6,_⟩
   ·rw [rowL_bad (by omega) hb h1] at e
    cases e
   ·rw [rowL_next (by omega) hb h1] at e
    have h12:t2=t1:=by rw [h1] at h2; simp at h2; exact h2.2.symm
    subst h12
    obtain ⟨⟨l',rfl⟩,M',hM'⟩:=rowL_pre hm f _ t2 l t h3 e
    exact ⟨⟨(a1:Int) :: l',by simp⟩,M++M',by rw [hM',h6,List.append_assoc]⟩
theorem row_head {T:List Tk} {x:ByteArray} {m:PM Nat} (hm:Fwd T m) {s t:Ps} {l:List Int} (hs:S2 T s s) (e:row T x m s=.ok (l,t)):∃ a t0 l' M,m s=.ok (a,t0)∧l=(a:Int) :: l'∧t.N=t0.N++M:=by
 rcases hm s hs with ⟨e1,h1,_⟩ | ⟨a1,a2,t1,t2,h1,h2,h3,_,_,_,_,_⟩
 ·simp [row,PM.bind,h1] at e
 ·have h12:t2=t1:=by rw [h1] at h2; simp at h2; exact h2.2.symm
  subst h12
  simp only [row,PM.bind,h1] at e
  obtain ⟨⟨l',rfl⟩,M,hM⟩:=rowL_pre hm _ _ t2 l t h3 e
  exact ⟨a1,t2,l',M,h1,rfl,hM⟩
def FcOk (T:List Tk) (m:PM Nat):Prop:=∀ s a t,S2 T s s→m s=.ok (a,t)→∃ k r,(t.N[a]?).map Sh.kids=some (k :: r)
theorem row_fc {T:List Tk} {x:ByteArray} {m:PM Nat} (hm:Fwd T m) (hf:FcOk T m) {s t:Ps} {l:List Int} (hs:S2 T s s) (ht:S2 T t t) (e:row T x m s=.ok (l,t)) :
  ∃ (a kk:Nat) (l' more:List Int) (cN aN:Sh),l=(a:Int) :: l'∧t.N[a]? = some cN∧cN.kids=(kk:Int) :: more∧t.N[kk]? = some aN∧nameOf t.N (l.headD 0)=cN.text∧argsOf t.N (l.headD 0)=(aN.kids.length:Int):=by
 obtain ⟨a,t0,l',M,h1,rfl,hM⟩:=row_head hm hs e
 obtain ⟨k,r,hk⟩:=hf s a t0 hs h1
 cases hc:t0.N[a]? with
 | none=>rw [hc] at hk; cases hk
 | some cN=>
  rw [hc] at hk
  have hck:cN.kids=k :: r:=by simpa using hk
  have hal:a < t0.N.length:=(List.getElem?_eq_some_iff.1 hc).1
  have hct:t.N[a]? = some cN:=by rw [hM,List.getElem?_append_left hal]; exact hc
  have hl:=(List.getElem?_eq_some_iff.1 hct).1
  have hlow:=ht.low a hl k (by rw [(List.getElem?_eq_some_iff.1 hct).2,hck]; simp)
  obtain ⟨kk,rfl⟩:∃ kk:Nat,k=(kk:Int):=⟨k.toNat,by omega⟩
  have hkl:kk < t.N.length:=by omega
  refine ⟨a,kk,l',r,cN,t.N[kk],rfl,hct,hck,List.getElem?_eq_getElem hkl,?_,?_⟩
  ·simp [nameOf,hct]
  ·simp [argsOf,hct,hck,List.getElem?_eq_getElem hkl]
theorem rd_function {T:List Tk} {rec:Ph→PM Nat} {s:Ps} (hT:0 < T.length) (hm:Fwd T (rec .fclause)) (hR:Runs T 121 [] (rec .fclause) s.i) (hok2:∀ s s',S2 T s s'→Ok2 T VN 1 (rec .fclause) (rec .fclause) s s') (hfc:FcOk T (rec .fclause)) (hfin:∀ a t,phBody T rec .function s=.ok (a,t)→S2 T t t∧Cnt T t) {w:World} {g:Nat} {Tv Nv:Value} {N:List Nd} (h:PS w g Tv T Nv N s) :
  Calls Tryz.prog 100 #[.pointer (some ⟨g,0,none⟩)] w (Rd T w g Tv Nv N (phBody T rec .function s)):=by
 obtain ⟨res,hres⟩:∃ res,phBody T rec .function s=res:=⟨_,rfl⟩
 rw [hres]
 have HQ:=Hid.mk7 hres
 have htl:=h.at_.tl
 have c1:=rg_peek (Rg.refl h)
 have hfa:=Tryz.tokPlace
 have hmf:=Tryz.makeFn
 have HP:=Hid.mk7 (And.intro hm (And.intro hR (And.intro hok2 (And.intro hfc hfin))))
 obtain ⟨tk,htk⟩:∃ tk,tokAt T s.i=tk:=⟨_,rfl⟩
 rw [htk] at c1
 have HT:=Hid.mk7 htk
 clear hres hm hR hok2 hfc hfin h htk
 obtain ⟨tk,tt,tn,ta⟩:=tk
 simp only [Tk.val] at c1
 go_enter Tryz.func100,Tryz.ntmps100
 go_wp2_with fail
 refine c1.mono ?_
 rintro x w1 ⟨rfl,r1,_⟩
 have c2:=rd_row_functionClause HP.out.1 HP.out.2.1 ⟨#[59]⟩ (s:=s) (Nat.le_refl _) r1.ps
 have hps:=r1.ps
 have HR1:=Hid.mk7 r1
 clear c1 r1
 cases hrow:row T ⟨#[59]⟩ (rec .fclause) s with
 | error e=>
  have hre:res=.error e:=by rw [← HQ.out]; simp [phBody,PM.bind,pTok,hrow]
  subst hre
  rw [hrow] at c2
  clear hrow hps
  go_wp2_with fail
  refine c2.mono ?_
  rintro x w2 ⟨rfl,T2⟩
  exact ⟨rfl,rfl,HR1.out.bad T2⟩
 | ok kt=>
  obtain ⟨ks,t⟩:=kt
  obtain ⟨ht2,_,_⟩:=(row_ok2 (Alike.refl T) (x:=⟨#[59]⟩) (d:=1) (by omega) HP.out.2.2.1 hps.ok).fin (by omega) hps.cnt hrow
  obtain ⟨R,A,ks',more,cN,aN,hks,hc1,hc2,hc3,hnm,hag⟩:=row_fc HP.out.1 HP.out.2.2.2.1 hps.ok ht2 hrow
  have hrs:res=PM.bind (pNeed T (knd T 6)) (fun _=>pAdd ⟨26,cN.text,⟨#[]⟩,(aN.kids.length:Int),ks,ta⟩) t:=by rw [← HQ.out]; unfold phBody; simp only [PM.bind,pTok,hrow,hnm,hag,HT.out]
  have hfn:∀ a u,res=.ok (a,u)→S2 T u u∧Cnt T u:=fun a u e=>HP.out.2.2.2.2 a u (HQ.out.trans e)
  rw [hrow] at c2
  subst hks
  have HW:=Hid.mk7 (And.intro hrs (And.intro hfn (And.intro hc1 (And.intro hc2 hc3))))
  clear hrow hps ht2 hnm hag hrs hfn hc1 hc2 hc3
  go_wp2_with fail
  refine c2.mono ?_
  intro x w2 hx
  obtain ⟨V2,rfl,Nv2,M2,r2,k2,_⟩:=HR1.out.rdL hx
  have hc1:=HW.out.2.2.1
  have hc2:=HW.out.2.2.2.1
  have hc3:=HW.out.2.2.2.2
  have p2:=r2.ps.at_
  have hn2:=r2.ps.n
  have hrL:R < (N++M2).length:=by have h9:=(List.getElem?_eq_some_iff.1 hc1).1; rw [← hn2,List.length_map] at h9; exact h9
  have haL:A < (N++M2).length:=by have h9:=(List.getElem?_eq_some_iff.1 hc3).1; rw [← hn2,List.length_map] at h9; exact h9
  have er:((N++M2)[R]'hrL).sh=cN:=by
   rw [← hn2,List.getElem?_map,List.getElem?_eq_getElem hrL] at hc1
   exact Option.some.inj hc1
  have ea:((N++M2)[A]'haL).sh=aN:=by
   rw [← hn2,List.getElem?_map,List.getElem?_eq_getElem haL] at hc3
   exact Option.some.inj hc3
  obtain ⟨b,off,cap,hNv,d0,d1,d2,d3,d4,d5⟩:=p2.node R hrL
  obtain ⟨b',off',cap',hNv',u0,u1,u2,u3,d4',u5⟩:=p2.node A haL
  obtain ⟨rfl,rfl,rfl⟩:b=b'∧off=off'∧cap=cap':=by rw [hNv] at hNv'; simp at hNv'; exact ⟨hNv'.1.1,hNv'.1.2,hNv'.2⟩
  clear hNv' u0 u1 u2 u3 u5
  have kc:=OwnK.sl (p2.kid R hrL).1
  have ka:=OwnK.sl (p2.kid A haL).1
  generalize hxr:(N++M2)[R]'hrL=xr at d0 d1 d2 d3 d4 d5 er kc
  generalize hxa:(N++M2)[A]'haL=xa at d4' ea ka
  obtain ⟨xk,xt,xm,xn,xv,xl,xp⟩:=xr
  obtain ⟨yk,yt,ym,yn,yv,yl,yp⟩:=xa
  subst er
  subst ea
  simp only [Nd.sh] at hc2
  simp only at d0 d1 d2 d3 d4 d5 d4' kc ka
  rw [hc2] at kc
  obtain ⟨bc,oc,cc,hxv,e0⟩:=SlI.head kc
  subst hxv
  obtain ⟨ay,cy,hyv⟩:=SlI.form ka
  subst hyv
  obtain ⟨bv,ov,cv,hV,v0⟩:=SlI.head (OwnK.sl k2.own)
  subst hV
  have hb:b < w2.heap.size:=World.block_lt_of_cell? w2 _ d0
  have hbc:bc < w2.heap.size:=World.block_lt_of_cell? w2 _ e0
  have hbv:bv < w2.heap.size:=World.block_lt_of_cell? w2 _ v0
  have g2:=p2.c2.1
  rw [hNv] at g2
  have hgl:=p2.lt
  have hri:(R:Int) < ((N++M2).length:Int):=by omega
  have hai:(A:Int) < ((N++M2).length:Int):=by omega
  have H2:=Hid.mk7 (And.intro r2 k2)
  clear c2 hx r2 k2 p2 hn2 kc ka hxr hxa hc1 hc2 hc3
  generalize hLN:(N++M2).length=LN at hri hai g2 hNv
  clear hLN hNv hrL haL
  go_wp2_with fail
  go_region
  all_goals
   go_wp2_with fail
   go_region
  all_goals
   go_wp2_with fail
  have T0:=((Turned.alloc (fun k=>k=g) (w2.alloc (.cells #[.int .i64 26,.string xt,.string ⟨#[]⟩,.int .i64 (yl.length:Int),.slice (some ⟨bv,ov,none⟩) (ks'.length+1) cv,.int .i64 ta] 47)) (.cells #[.int .i64 xk,.string xt,.string xm,.int .i64 xn,.slice (some ⟨bc,oc,none⟩) (more.length+1) cc,.int .i64 xp] 47)).trans (Turned.drew (fun _=>False) _) (fun _ e=>e.elim)).trans (Turned.drew (fun _=>False) _) (fun _ e=>e.elim)
  have B5:=(((Below.alloc0 w2 (.cells #[.int .i64 26,.string xt,.string ⟨#[]⟩,.int .i64 (yl.length:Int),.slice (some ⟨bv,ov,none⟩) (ks'.length+1) cv,.int .i64 ta] 47)).trans ((Below.alloc0 _ (.cells #[.int .i64 xk,.string xt,.string xm,.int .i64 xn,.slice (some ⟨bc,oc,none⟩) (more.length+1) cc,.int .i64 xp] 47)).mono (by simp))).drew).drew
  have HB:=Hid.mk7 (And.intro T0 B5)
  have r5:=H2.out.1.below B5
  clear T0 B5 d0 d1 d2 d3 d4 d5 d4' e0 v0 g2
  cases h6:knd T 6 t.i with
  | false=>
   have hre:res=.error t.i:=by rw [HW.out.1]; simp [PM.bind,pNeed,h6]
   subst hre
   have c6:=rg_kind_bad r5 h6
   clear h6 r5
   refine c6.mono ?_
   rintro x w6 ⟨rfl,T6⟩
   exact ⟨rfl,rfl,T6⟩
  | true=>
   have hre:res=.ok (t.N.length,⟨t.i+1,t.N++[⟨26,xt,⟨#[]⟩,(yl.length:Int),(R:Int) :: ks',ta⟩]⟩):=by rw [HW.out.1]; simp [PM.bind,pNeed,h6,pAdd,Nd.sh]
   have HF:=Hid.mk7 (HW.out.2.1 _ _ hre)
   subst hre
   have c6:=rg_kind r5 (by decide) h6
   unfold Tkn at c6
   generalize (tokAt T t.i).val=tv6 at c6
   clear h6 r5
   refine c6.mono ?_
   rintro x w6 ⟨rfl,r6,G6⟩
   obtain ⟨⟨n0,n1,n2,n3,n4,n5⟩,_⟩:=newNode _ _ _ _ _ _ (HB.out.1.trans G6 (fun _ e=>.inl e)) (show ¬ w2.heap.size=g by omega)
   have c7:=rg_add r6 hT ⟨26,xt,⟨#[]⟩,(yl.length:Int),.slice (some ⟨bv,ov,none⟩) (ks'.length+1) cv,(R:Int) :: ks',ta⟩ ((H2.out.2.below HB.out.2).ofG G6) HF.out.1 HF.out.2
   simp only [Nd.val] at c7
   clear c6 r6 G6
   go_wp2_with fail
   refine c7.mono ?_
   rintro x w7 ⟨rfl,Nv7,r7,_⟩
   have H7:=Hid.mk7 r7
   clear c7 r7 n0 n1 n2 n3 n4 n5
   go_wp2
   go_ret
   exact H7.out.of
theorem ps_atModule_t {w:World} {g:Nat} {Tv:Value} {T:List Tk} {i:Nat} {Nv:Value} {N:List Nd} (h:PAt w g Tv T i Nv N) (hs:isTk 5 ⟨#[45]⟩ (tokAt T i)=true):Calls Tryz.prog 97 #[.pointer (some ⟨g,0,none⟩)] w fun x w'=>x=.returned (.bool (isTk 1 ⟨#[109,111,100,117,108,101]⟩ (tokAt T (i+1))))∧Below w.heap.size w w':=by
 have hq:=ps_isSign h ⟨#[45]⟩
 rw [hs] at hq
 have ha:=fun W (hW:Below w.heap.size w W)=>ps_ahead (h.below hW) 1 (by omega)
 have hj:=fun W=>ps_is (tokAt T (i+1)) 1 ⟨#[109,111,100,117,108,101]⟩ W
 unfold isTk
 generalize (decide ((tokAt T (i+1)).kind=1) && decide ((tokAt T (i+1)).text=⟨#[109,111,100,117,108,101]⟩))=bb at hj ⊢
 generalize tokAt T (i+1)=u at ha hj
 obtain ⟨uk,ut,un,ua⟩:=u
 simp only [Tk.val] at ha hj
 clear h hs
 go_enter Tryz.func97,Tryz.ntmps97
 go_wp2_with fail
 refine hq.mono ?_
 rintro x w1 ⟨rfl,hb1⟩
 go_wp2_with fail
 refine (ha _ hb1).mono ?_
 rintro x w2 ⟨rfl,hb2⟩
 go_wp2_with fail
 refine (hj _).mono ?_
 rintro x w3 ⟨rfl,hb3⟩
 have HB:=Hid.mk7 (hb1.trans ((hb2.trans (hb3.mono hb2.size)).mono hb1.size))
 clear hb1 hb2 hb3 ha hj hq
 go_wp2
 go_ret
 exact ⟨rfl,HB.out⟩
theorem rg_atModule {T:List Tk} {w wr:World} {g:Nat} {Tv Nv Nv1:Value} {N M1:List Nd} {s:Ps} (r:Rg T w wr g Tv Nv N s Nv1 M1):Calls Tryz.prog 97 #[.pointer (some ⟨g,0,none⟩)] wr (fun e w2=>e=.returned (.bool (atModule T s.i))∧Rg T w w2 g Tv Nv N s Nv1 M1∧Below wr.heap.size wr w2):=by
 unfold atModule sgn atm
 cases hs:isTk 5 ⟨#[45]⟩ (tokAt T s.i) with
 | true=>exact (ps_atModule_t r.ps.at_ hs).mono fun _ _ h2=>⟨h2.1,r.below h2.2,h2.2⟩
 | false=>exact (ps_atModule r.ps.at_ hs).mono fun _ _ h2=>⟨h2.1,r.below h2.2,h2.2⟩
section
variable {T:List Tk} {rec:Ph→PM Nat} {s t:Ps}
theorem enclosed_len {l r:ByteArray} {m:PM Nat} (hm:Fwd T m) {ks:List Int} (hs:S2 T s s) (e:enclosed T l r m s=.ok (ks,t)):ks.length≤t.i:=by
 cases h1:sgn T l s.i with
 | false=>simp [enclosed,PM.bind,pNeed,h1] at e
 | true=>
  cases h2:sgn T r (s.i+1) with
  | true=>
   simp [enclosed,PM.bind,pNeed,h1,pIf,h2,PM.ret] at e
   rw [e.1]
   simp
  | false=>
   cases h3:row T ⟨#[44]⟩ m ⟨s.i+1,s.N⟩ with
   | error x=>simp [enclosed,PM.bind,pNeed,h1,pIf,h2,h3] at e
   | ok ku=>
    obtain ⟨k2,u⟩:=ku
    cases h4:sgn T r u.i with
    | false=>simp [enclosed,PM.bind,pNeed,h1,pIf,h2,h3,h4] at e
    | true=>
     simp [enclosed,PM.bind,pNeed,h1,pIf,h2,h3,h4,PM.ret] at e
     obtain ⟨rfl,rfl⟩:=e
     have:=row_len hm (hs.next (n:=1) (sgn_lt h1)) h3
     simp
     omega
theorem exports_fin {i0:Nat} (E:Env T rec i0) {ks:List Int} (hs:S2 T s s) (hc:Cnt T s) (e:exports T rec s=.ok (ks,t)):S2 T t t∧Cnt T t∧s.i < t.i∧ks.length≤t.i:=by
 obtain ⟨h1,h2,_⟩:=(exports_ok2 (Alike.refl T) E.ok2 hs).fin (by omega) hc e
 refine ⟨h1,h2,?_⟩
 cases a1:sgn T ⟨#[45]⟩ s.i with
 | false=>simp [exports,PM.bind,pNeed,a1] at e
 | true=>
  cases a2:atm T ⟨#[101,120,112,111,114,116]⟩ (s.i+1) with
  | false=>simp [exports,PM.bind,pNeed,a1,a2] at e
  | true=>
   cases a3:sgn T ⟨#[40]⟩ (s.i+1+1) with
   | false=>simp [exports,PM.bind,pNeed,a1,a2,a3] at e
   | true=>
    have hn:S2 T ⟨s.i+1+1+1,s.N⟩ ⟨s.i+1+1+1,s.N⟩:=((hs.next (n:=1) (sgn_lt a1)).next (n:=1) (atm_lt a2)).next (n:=1) (sgn_lt a3)
    cases a4:enclosed T ⟨#[91]⟩ ⟨#[93]⟩ (rec .export) ⟨s.i+1+1+1,s.N⟩ with
    | error x=>simp [exports,PM.bind,pNeed,a1,a2,a3,a4] at e
    | ok ku=>
     obtain ⟨k2,u⟩:=ku
     have l1:=enclosed_len (E.fwd .export trivial) hn a4
     have l2:s.i+1+1+1≤u.i:=by
      rcases enclosed_ok2 (Alike.refl T) (l:=⟨#[91]⟩) (r:=⟨#[93]⟩) (d:=1) (by omega) (fun s s' hs=>E.ok2 .export trivial s s' hs) hn with ⟨x,g1,_⟩ | ⟨b,b',v,v',g1,g2,g3,g4,g5,_⟩
      ·rw [a4] at g1; cases g1
      ·rw [a4] at g1
       obtain ⟨rfl,rfl⟩:k2=b∧u=v:=by simpa using g1
       exact g5
     cases a5:sgn T ⟨#[41]⟩ u.i with
     | false=>simp [exports,PM.bind,pNeed,a1,a2,a3,a4,a5] at e
     | true=>
      cases a6:knd T 6 (u.i+1) with
      | false=>simp [exports,PM.bind,pNeed,a1,a2,a3,a4,a5,a6] at e
      | true=>
       simp [exports,PM.bind,pNeed,a1,a2,a3,a4,a5,a6,PM.ret] at e
       obtain ⟨rfl,rfl⟩:=e
       simp
       omega
variable {f:Nat} {acc:List Int}
theorem formsL_stop (hf:0 < f) (h:(decide (s.i < T.length) && !atModule T s.i)=false):formsL T rec f acc s=.ok (acc,s):=by
 cases f with
 | zero=>omega
 | succ f=>simp only [formsL,pIf,h,PM.ret,Bool.false_eq_true,if_false]
theorem formsL_ebad (hf:0 < f) (h:(decide (s.i < T.length) && !atModule T s.i)=true) (hd:sgn T ⟨#[45]⟩ s.i=true) {e:Nat} (he:exports T rec s=.error e):formsL T rec f acc s=.error e:=by
 cases f with
 | zero=>omega
 | succ f=>simp only [formsL,pIf,h,if_true,PM.bind,hd,he]
theorem formsL_enext (hf:0 < f) (h:(decide (s.i < T.length) && !atModule T s.i)=true) (hd:sgn T ⟨#[45]⟩ s.i=true) {ks:List Int} (he:exports T rec s=.ok (ks,t)):formsL T rec f acc s=formsL T rec (f - 1) (acc++ks) t:=by
 cases f with
 | zero=>omega
 | succ f=>simp only [formsL,pIf,h,if_true,PM.bind,hd,he,Nat.add_sub_cancel]
theorem formsL_fbad (hf:0 < f) (h:(decide (s.i < T.length) && !atModule T s.i)=true) (hd:sgn T ⟨#[45]⟩ s.i=false) {e:Nat} (he:rec .function s=.error e):formsL T rec f acc s=.error e:=by
 cases f with
 | zero=>omega
 | succ f=>simp only [formsL,pIf,h,if_true,PM.bind,hd,Bool.false_eq_true,if_false,he]
theorem formsL_fnext (hf:0 < f) (h:(decide (s.i < T.length) && !atModule T s.i)=true) (hd:sgn T ⟨#[45]⟩ s.i=false) {a:Nat} (he:rec .function s=.ok (a,t)):formsL T rec f acc s=formsL T rec (f - 1) (acc++[(a:Int)]) t:=by
 cases f with
 | zero=>omega
 | succ f=>simp only [formsL,pIf,h,if_true,PM.bind,hd,Bool.false_eq_true,if_false,he,PM.ret,Nat.add_sub_cancel]
end
structure ModI (T:List Tk) (rec:Ph→PM Nat) (w wr:World) (g:Nat) (Tv Nv:Value) (N:List Nd) (i0:Nat) (res:Except Nat (Nat × Ps)) (q:Nat) (nt:ByteArray) (na:Int) (s1:Ps) (acc:List Int) (f:Nat) (Nv1:Value) (M1:List Nd) (V:Value):Prop where
 i:i0≤s1.i
 fuel:T.length - s1.i < f
 eq:PM.bind (formsL T rec f acc) (fun ks=>pAdd ⟨27,nt,⟨#[]⟩,0,ks,na⟩) s1=res
 mki:MkI T w wr g Tv Nv N s1 Nv1 M1 q 27 nt ⟨#[]⟩ 0 V acc na
 al:acc.length≤65536*s1.i
theorem Env.mono {T:List Tk} {rec:Ph→PM Nat} {i j:Nat} (E:Env T rec i) (h:i≤j):Env T rec j:=⟨E.ok2,fun ph hp=>(E.run ph hp).up h⟩
theorem rd_module {T:List Tk} {rec:Ph→PM Nat} {s:Ps} (E:Env T rec (s.i+1)) (hfin:∀ a t,phBody T rec .module s=.ok (a,t)→S2 T t t∧Cnt T t) {w:World} {g:Nat} {Tv Nv:Value} {N:List Nd} (h:PS w g Tv T Nv N s) :
  Calls Tryz.prog 77 #[.pointer (some ⟨g,0,none⟩)] w (Rd T w g Tv Nv N (phBody T rec .module s)):=by
 obtain ⟨res,hres⟩:∃ res,phBody T rec .module s=res:=⟨_,rfl⟩
 rw [hres]
 have HQ:=Hid.mk7 hres
 have htl:=h.at_.tl
 have hfa:=Tryz.tokPlace
 have hft:=Tryz.tokText
 have r0:=Rg.refl h
 obtain ⟨aT,cT,hTv,_⟩:=h.at_.tok.form
 have HTv:=Hid.mk7 hTv
 have HP:=Hid.mk7 (And.intro E (And.intro h hfin))
 clear hres hfin E h hTv
 cases h1:sgn T ⟨#[45]⟩ s.i with
 | false=>
  have hre:res=.error s.i:=by rw [← HQ.out]; simp [phBody,PM.bind,pNeed,h1]
  subst hre
  have c1:=rg_sign_bad r0 h1
  clear r0 h1
  go_enter Tryz.func77,Tryz.ntmps77
  go_wp2_with fail
  refine c1.mono ?_
  rintro x w1 ⟨rfl,T1⟩
  exact ⟨rfl,rfl,T1⟩
 | true=>
  have hT:0 < T.length:=by have:=sgn_lt h1; omega
  have c1:=rg_sign r0 h1
  unfold Tkn at c1
  have H1:=Hid.mk7 h1
  obtain ⟨tk,htk⟩:∃ tk,tokAt T s.i=tk:=⟨_,rfl⟩
  rw [htk] at c1
  have HT:=Hid.mk7 htk
  clear r0 h1 htk
  obtain ⟨tk,tt,tn,ta⟩:=tk
  simp only [Tk.val] at c1
  go_enter Tryz.func77,Tryz.ntmps77
  go_wp2_with fail
  refine c1.mono ?_
  rintro x w1 ⟨rfl,r1,_⟩
  have mk1:=MkI.of_kd r1 (Kd.nil _ _ _ _ _ _ _) hT 27 ⟨#[]⟩ ⟨#[]⟩ 0 ta
  have HK:=Hid.mk7 mk1
  clear c1 r1 mk1
  cases h2:atm T ⟨#[109,111,100,117,108,101]⟩ (s.i+1) with
  | false=>
   have hre:res=.error (s.i+1):=by rw [← HQ.out]; simp [phBody,PM.bind,pNeed,H1.out,h2]
   subst hre
   have c2:=rg_atom_bad HK.out.rg h2
   clear h2
   go_wp2_with fail
   refine c2.mono ?_
   rintro x w2 ⟨rfl,T2⟩
   exact ⟨rfl,rfl,T2⟩
  | true=>
   have c2:=rg_atom HK.out.rg h2
   unfold Tkn at c2
   have H2:=Hid.mk7 h2
   clear h2
   generalize (tokAt T _).val=tv at c2
   go_wp2_with fail
   refine c2.mono ?_
   rintro x w2 ⟨rfl,r2,G2⟩
   have mk2:=HK.out.to r2 (Stp.ofG G2)
   clear HK
   have HK:=Hid.mk7 mk2
   clear c2 r2 G2 mk2
   cases h3:sgn T ⟨#[40]⟩ (s.i+1+1) with
   | false=>
    have hre:res=.error (s.i+1+1):=by rw [← HQ.out]; simp [phBody,PM.bind,pNeed,H1.out,H2.out,h3]
    subst hre
    have c3:=rg_sign_bad HK.out.rg h3
    clear h3
    go_wp2_with fail
    refine c3.mono ?_
    rintro x w3 ⟨rfl,T3⟩
    exact ⟨rfl,rfl,T3⟩
   | true=>
    have c3:=rg_sign HK.out.rg h3
    unfold Tkn at c3
    have H3:=Hid.mk7 h3
    clear h3
    generalize (tokAt T _).val=tv at c3
    go_wp2_with fail
    refine c3.mono ?_
    rintro x w3 ⟨rfl,r3,G3⟩
    have mk3:=HK.out.to r3 (Stp.ofG G3)
    clear HK
    have HK:=Hid.mk7 mk3
    clear c3 r3 G3 mk3
    cases h4:knd T 1 (s.i+1+1+1) with
    | false=>
     have hre:res=.error (s.i+1+1+1):=by rw [← HQ.out]; simp [phBody,PM.bind,pNeed,H1.out,H2.out,H3.out,h4]
     subst hre
     have c4:=rg_kind_bad HK.out.rg h4
     clear h4
     go_wp2_with fail
     refine c4.mono ?_
     rintro x w4 ⟨rfl,T4⟩
     exact ⟨rfl,rfl,T4⟩
    | true=>
     have c4:=rg_kind HK.out.rg (by decide) h4
     unfold Tkn at c4
     have H4:=Hid.mk7 h4
     clear h4
     obtain ⟨nk,hnk⟩:∃ nk,tokAt T (s.i+1+1+1)=nk:=⟨_,rfl⟩
     rw [show tokAt T (⟨s.i+1+1+1,s.N⟩:Ps).i=nk from hnk] at c4
     have HN:=Hid.mk7 hnk
     clear hnk
     obtain ⟨nk,nt,nn,np⟩:=nk
     simp only [Tk.val] at c4
     go_wp2_with fail
     refine c4.mono ?_
     rintro x w4 ⟨rfl,r4,G4⟩
     have mk4:=HK.out.to r4 (Stp.ofG G4)
     have k1:=mk4.bx.n1
     have f1:=mk4.bx.fz 1
     clear HK
     have HK:=Hid.mk7 (mk4.text nt)
     clear c4 r4 G4 mk4
     cases h5:sgn T ⟨#[41]⟩ (s.i+1+1+1+1) with
     | false=>
      have hre:res=.error (s.i+1+1+1+1):=by rw [← HQ.out]; simp [phBody,PM.bind,pNeed,H1.out,H2.out,H3.out,H4.out,h5]
      subst hre
      have c5:=rg_sign_bad HK.out.rg h5
      clear h5
      go_wp2_with fail
      refine c5.mono ?_
      rintro x w5 ⟨rfl,T5⟩
      exact ⟨rfl,rfl,T5⟩
     | true=>
      have c5:=rg_sign HK.out.rg h5
      unfold Tkn at c5
      have H5:=Hid.mk7 h5
      clear h5
      generalize (tokAt T _).val=tv at c5
      go_wp2_with fail
      refine c5.mono ?_
      rintro x w5 ⟨rfl,r5,G5⟩
      have mk5:=HK.out.to r5 (Stp.ofG G5)
      clear HK
      have HK:=Hid.mk7 mk5
      clear c5 r5 G5 mk5
      cases h6:knd T 6 (s.i+1+1+1+1+1) with
      | false=>
       have hre:res=.error (s.i+1+1+1+1+1):=by rw [← HQ.out]; simp [phBody,PM.bind,pNeed,H1.out,H2.out,H3.out,H4.out,H5.out,h6]
       subst hre
       have c6:=rg_kind_bad HK.out.rg h6
       clear h6
       go_wp2_with fail
       refine c6.mono ?_
       rintro x w6 ⟨rfl,T6⟩
       exact ⟨rfl,rfl,T6⟩
      | true=>
       have c6:=rg_kind HK.out.rg (by decide) h6
       unfold Tkn at c6
       have H6:=Hid.mk7 h6
       clear h6
       generalize (tokAt T _).val=tv at c6
       go_wp2_with fail
       refine c6.mono ?_
       rintro x w6 ⟨rfl,r6,G6⟩
       have mk6:=HK.out.to r6 (Stp.ofG G6)
       clear HK
       have HK:=Hid.mk7 mk6
       clear c6 r6 G6 mk6
       have hre:PM.bind (formsL T rec (T.length+1) []) (fun ks=>pAdd ⟨27,nt,⟨#[]⟩,0,ks,ta⟩) ⟨s.i+1+1+1+1+1+1,s.N⟩=res:=by rw [← HQ.out]; simp [phBody,PM.bind,pNeed,H1.out,H2.out,H3.out,H4.out,H5.out,H6.out,HN.out,HT.out]
       have H0:=Hid.mk7 (And.intro hre HK.out)
       clear hre HK
       go_wp2_with fail
       go_loopw [] (fun wr=>∃ s1 acc f Nv1 M1 V,ModI T rec w wr g Tv Nv N (s.i+1) res w1.heap.size nt ta s1 acc f Nv1 M1 V) (fun wr=>T.length - posOf wr g)
       case atStart=>
        exact ⟨⟨s.i+1+1+1+1+1+1,s.N⟩,[],T.length+1,_,_,_,⟨by show s.i+1≤s.i+1+1+1+1+1+1; omega,by show T.length - (s.i+1+1+1+1+1+1) < T.length+1; omega,H0.out.1,H0.out.2,by simp⟩⟩
       case round=>
        clear H0
        obtain ⟨s1,acc,f,Nv2,M2,V,hi,hfu,heq,hmk,hal⟩:=hrel
        obtain ⟨aV,cV,hV,_⟩:=OwnK.sl hmk.bx.own |>.form
        subst hV
        have hf0:0 < f:=by omega
        have c0:=hmk.rg.ps.at_.c0
        rw [HTv.out] at c0
        have c1:=hmk.rg.ps.at_.c1.1
        have hgl:=hmk.rg.ps.at_.lt
        have hil:=hmk.rg.ps.ok.il
        have hpos:=hmk.rg.ps.at_.pos
        have HI:=Hid.mk7 (And.intro hi (And.intro hfu (And.intro heq (And.intro hal (And.intro hpos hil)))))
        have HK:=Hid.mk7 hmk
        clear hi hfu heq hal hmk hpos
        obtain ⟨nI,hnI⟩:∃ nI:Int,nI=(s1.i:Int):=⟨_,rfl⟩
        rw [← hnI] at c1
        have HNI:=Hid.mk7 hnI
        clear hnI
        by_cases hlt:s1.i < T.length
        ·have hltI:nI < (T.length:Int):=by rw [HNI.out]; omega
         have cm:=fun WW (hW:Below wr.heap.size wr WW)=>rg_atModule (HK.out.rg.below hW)
         clear hil
         cases hat:atModule T s1.i with
         | true=>
          simp only [hat] at cm
          have hcond:(decide (s1.i < T.length) && !atModule T s1.i)=false:=by simp [hat]
          clear hat
          go_wp2_with fail
          go_region_with (go_at_call 97; refine (cm _ (Below.refl _ _).drew).mono ?_; rintro x w8 ⟨rfl,r8,hb8⟩)
          all_goals
           have HM:=Hid.mk7 (HK.out.to r8 ((Stp.ofB (Below.refl _ _).drew).trans (Stp.ofB hb8)))
           clear r8 hb8 cm c0 c1 hltI
           have hfl:=HI.out.2.1
           have hre:res=.ok (s1.N.length,⟨s1.i,s1.N++[⟨27,nt,⟨#[]⟩,0,acc,ta⟩]⟩):=by rw [← HI.out.2.2.1]; simp [PM.bind,formsL_stop hf0 hcond,pAdd]
           have HF:=Hid.mk7 (HP.out.2.2 _ _ (HQ.out.trans hre))
           subst hre
           have c9:=rg_add HM.out.rg hT ⟨27,nt,⟨#[]⟩,0,.slice aV acc.length cV,acc,ta⟩ HM.out.kd HF.out.1 HF.out.2
           simp only [Nd.val] at c9
           obtain ⟨n0,n1,n2,n3,n4,n5,_,_,_,_,_⟩:=HM.out.bx
           clear hfl hcond
           go_wp2_with fail
           refine c9.mono ?_
           rintro x w9 ⟨rfl,Nv9,r9,_⟩
           have H9:=Hid.mk7 r9
           clear c9 r9 n0 n1 n2 n3 n4 n5
           go_wp2
           go_ret
           exact H9.out.of
         | false=>
          simp only [hat] at cm
          have hcond:(decide (s1.i < T.length) && !atModule T s1.i)=true:=by simp [hat,hlt]
          have HC:=Hid.mk7 hcond
          clear hat hcond
          go_wp2_with fail
          go_region_with (go_at_call 97; refine (cm _ (Below.refl _ _).drew).mono ?_; rintro x w8 ⟨rfl,r8,hb8⟩)
          all_goals
           have mk8:=HK.out.to r8 ((Stp.ofB (Below.refl _ _).drew).trans (Stp.ofB hb8))
           have cS:=rg_isSign r8 ⟨#[45]⟩
           have HL:=Hid.mk7 mk8
           clear r8 hb8 cm c0 c1 hltI mk8
           cases hd:sgn T ⟨#[45]⟩ s1.i with
           | true=>
            rw [hd] at cS
            have HD:=Hid.mk7 hd
            clear hd
            go_wp2_with fail
            refine cS.mono ?_
            rintro x w9 ⟨rfl,r9,hb9⟩
            have mk9:=HL.out.to r9 (Stp.ofB hb9)
            have hps:=mk9.rg.ps
            have hE:=fun WW (hW:Below w9.heap.size w9 WW)=>rd_exports (s:=s1) (HP.out.1.mono (by have:=HI.out.1; omega)) (mk9.rg.below hW).ps
            have n4:=mk9.bx.n4
            have HM9:=Hid.mk7 mk9
            clear cS r9 hb9 mk9 HL
            cases hex:exports T rec s1 with
            | error e=>
             have hre:res=.error e:=by rw [← HI.out.2.2.1]; simp [PM.bind,formsL_ebad hf0 HC.out HD.out hex]
             subst hre
             simp only [hex] at hE
             clear hex hps
             go_wp2_with fail
             go_region_law (rw [if_pos (by rfl)]; go_simp; go_at_call 99; refine (hE _ (Below.refl _ _).drew).mono ?_; rintro x w10 ⟨rfl,T10⟩; refine idle_of w10 ⟨rfl,rfl,(HM9.out.rg.below (Below.refl _ _).drew).bad T10⟩ ?_)
             all_goals trivial
            | ok kt=>
             obtain ⟨ks,t⟩:=kt
             obtain ⟨h5a,_,h5c,h5d⟩:=exports_fin HP.out.1 hps.ok hps.cnt hex
             have hti:=h5a.il
             have hre:PM.bind (formsL T rec (f - 1) (acc++ks)) (fun ks=>pAdd ⟨27,nt,⟨#[]⟩,0,ks,ta⟩) t=res:=by rw [← HI.out.2.2.1]; simp only [PM.bind,formsL_enext hf0 HC.out HD.out hex]
             have hacc:=HI.out.2.2.2.1
             have hal:(acc.length+ks.length)*8≤140737488355328:=by omega
             have hal2:acc.length+ks.length≤4611686018427387903:=by omega
             have HAL:=Hid.mk7 (And.intro hal (And.intro hal2 (And.intro hre (And.intro h5c (And.intro h5d hti)))))
             simp only [hex] at hE
             clear hex hps hre h5a h5c h5d hti hacc hal hal2
             go_wp2_with fail
             go_region_law (first
              | (rw [if_pos (by rfl)]; go_simp; go_at_call 99; refine (hE _ (Below.refl _ _).drew).mono ?_; intro x w10 hx; obtain ⟨V10,rfl,⟨a10,p10,hV10⟩,⟨Nv10,M10,mk10,kd10⟩,_⟩:=HM9.out.stepL (Below.refl _ _).drew hx; subst hV10; have k10:=mk10.bx.n4; have q10:=mk10.bx.lt; have HK10:=Hid.mk7 mk10; have HD10:=Hid.mk7 kd10; clear hx mk10 kd10; dsimp only)
              | (refine step_append_k (by rfl) (.tmp 38) (.tmp 40) (by rfl) Tryz.intTypes (by rfl) (by rfl) HK10.out.bx.own (OwnK.sl HD10.out.own) (ints_one _) HAL.out.1 HAL.out.2.1 ?_; intro V11 w11 ho11 T11 hv11; obtain ⟨aV11,cV11,hV11,_,_⟩:=ho11.sl.form; subst hV11; obtain ⟨c11,f11,l11⟩:=HK10.out.cell (Below.refl _ _) T11))
             all_goals
              have mk12:=HK10.out.moreL hT (Below.refl _ _) ho11 T11 hv11
              have HM:=Hid.mk7 mk12
              clear ho11 T11 hv11 c11 f11 l11 k10 q10 HK10 HD10 mk12
              generalize w11.setCell _ _=w12 at HM ⊢
              go_wp2
              go_roundw
              case rel=>
               exact ⟨t,acc++ks,f - 1,_,_,_,⟨by have h1:=HI.out.1; have h2:=HAL.out.2.2.2.1; omega,by have h1:=HI.out.2.1; have h2:=HAL.out.2.2.2.1; have h3:=HAL.out.2.2.2.2.2; omega,HAL.out.2.2.1,HM.out,by have h1:=HI.out.2.2.2.1; have h2:=HAL.out.2.2.2.1; have h3:=HAL.out.2.2.2.2; simp; omega⟩⟩
              case measure=>
               rw [HM.out.rg.ps.at_.pos,HI.out.2.2.2.2.1]
               have h2:=HAL.out.2.2.2.1
               have h3:=HAL.out.2.2.2.2.2
               omega
           | false=>
            rw [hd] at cS
            have HD:=Hid.mk7 hd
            clear hd
            go_wp2_with fail
            refine cS.mono ?_
            rintro x w9 ⟨rfl,r9,hb9⟩
            have mk9:=HL.out.to r9 (Stp.ofB hb9)
            have hps:=mk9.rg.ps
            have hE:=fun WW (hW:Below w9.heap.size w9 WW)=>HP.out.1.run .function trivial s1 (by have:=HI.out.1; omega) WW g Tv _ _ (mk9.rg.below hW).ps
            have n4:=mk9.bx.n4
            have HM9:=Hid.mk7 mk9
            clear cS r9 hb9 mk9 HL
            cases hex:rec .function s1 with
            | error e=>
             have hre:res=.error e:=by rw [← HI.out.2.2.1]; simp [PM.bind,formsL_fbad hf0 HC.out HD.out hex]
             subst hre
             simp only [hex,fnOf,moreOf] at hE
             clear hex hps
             go_wp2_with fail
             go_region_law (rw [if_pos (by rfl)]; go_simp; go_at_call 100; refine (hE _ (Below.refl _ _).drew).mono ?_; rintro x w10 ⟨rfl,T10⟩; refine idle_of w10 ⟨rfl,rfl,(HM9.out.rg.below (Below.refl _ _).drew).bad T10⟩ ?_)
             all_goals trivial
            | ok at_=>
             obtain ⟨a,t⟩:=at_
             obtain ⟨h5a,_,h5c,_⟩:=(HP.out.1.fwd .function trivial).ok hps.ok hps.cnt hex
             have hti:=h5a.il
             have hre:PM.bind (formsL T rec (f - 1) (acc++[(a:Int)])) (fun ks=>pAdd ⟨27,nt,⟨#[]⟩,0,ks,ta⟩) t=res:=by rw [← HI.out.2.2.1]; simp only [PM.bind,formsL_fnext hf0 HC.out HD.out hex]
             have hacc:=HI.out.2.2.2.1
             have hal:(acc.length+[(a:Int)].length)*8≤140737488355328:=by simp; omega
             have hal2:acc.length+[(a:Int)].length≤4611686018427387903:=by simp; omega
             have HAL:=Hid.mk7 (And.intro hal (And.intro hal2 (And.intro hre (And.intro h5c hti))))
             simp only [hex,fnOf,moreOf] at hE
             clear hex hps hre h5a h5c hti hacc hal hal2
             go_wp2_with fail
             go_region_law (first
              | (rw [if_pos (by rfl)]; go_simp; go_at_call 100; refine (hE _ (Below.refl _ _).drew).mono ?_; intro x w10 hx; obtain ⟨rfl,Nv10,M10,mk10⟩:=HM9.out.rd (Below.refl _ _).drew hx; have k10:=mk10.bx.n4; have q10:=mk10.bx.lt; have HK10:=Hid.mk7 mk10; clear hx mk10; dsimp only)
              | (refine step_append_k (by rfl) (.tmp 44) (.tmp 47) (by rfl) Tryz.intTypes (by rfl) (by rfl) (OwnK.turned HK10.out.bx.own (Turned.alloc (fun _=>False) _ _) (fun _ _ e=>e)) (SlI.one w10 _ _) (ints_one _) HAL.out.1 HAL.out.2.1 ?_; intro V11 w11 ho11 T11 hv11; obtain ⟨aV11,cV11,hV11,_,_⟩:=ho11.sl.form; subst hV11; obtain ⟨c11,f11,l11⟩:=HK10.out.cell (Below.alloc0 w10 _) T11))
             all_goals
              have mk12:=HK10.out.more hT (Below.alloc0 w10 _) ho11 T11 hv11
              have HM:=Hid.mk7 mk12
              clear ho11 T11 hv11 c11 f11 l11 k10 q10 HK10 mk12
              generalize w11.setCell _ _=w12 at HM ⊢
              go_wp2
              go_roundw
              case rel=>
               exact ⟨t,acc++[(a:Int)],f - 1,_,_,_,⟨by have h1:=HI.out.1; have h2:=HAL.out.2.2.2.1; omega,by have h1:=HI.out.2.1; have h2:=HAL.out.2.2.2.1; have h3:=HAL.out.2.2.2.2; omega,HAL.out.2.2.1,HM.out,by have h1:=HI.out.2.2.2.1; have h2:=HAL.out.2.2.2.1; simp; omega⟩⟩
              case measure=>
               rw [HM.out.rg.ps.at_.pos,HI.out.2.2.2.2.1]
               have h2:=HAL.out.2.2.2.1
               have h3:=HAL.out.2.2.2.2
               omega
        ·have hltI:decide (nI < (T.length:Int))=false:=by rw [HNI.out]; simp; omega
         have hcond:(decide (s1.i < T.length) && !atModule T s1.i)=false:=by simp [hlt]
         have hM:=Hid.mk7 (fun k=>HK.out.to (HK.out.rg.below (drewN_below wr k)) (Stp.ofB (drewN_below wr k)))
         have hre:res=.ok (s1.N.length,⟨s1.i,s1.N++[⟨27,nt,⟨#[]⟩,0,acc,ta⟩]⟩):=by rw [← HI.out.2.2.1]; simp [PM.bind,formsL_stop hf0 hcond,pAdd]
         have HF:=Hid.mk7 (HP.out.2.2 _ _ (HQ.out.trans hre))
         subst hre
         have c9:=fun k=>rg_add (hM.out k).rg hT ⟨27,nt,⟨#[]⟩,0,.slice aV acc.length cV,acc,ta⟩ (hM.out k).kd HF.out.1 HF.out.2
         simp only [Nd.val] at c9
         clear hlt hil hcond
         go_wp2_with fail
         go_quiet (fail)
         obtain ⟨n0,n1,n2,n3,n4,n5,_,_,_,_,_⟩:=HK.out.bx
         clear hltI c0 c1
         go_wp2_with fail
         refine (c9 _).mono ?_
         rintro x w9 ⟨rfl,Nv9,r9,_⟩
         have H9:=Hid.mk7 r9
         clear c9 r9 n0 n1 n2 n3 n4 n5
         go_wp2
         go_ret
         exact H9.out.of
end Go.Proofs.YtlciaafincgdeaaGreatDoor
