/-
  Layer 11 (parse): the document's parser: a function.
-/
import Derived.Test.YtlciaafincgdeaaGreatDoorZau
import Derived.Test.YtlciaafincgdeaaGreatDoorZaz
namespace Go.Proofs.YtlciaafincgdeaaGreatDoor
open Go.RowKit
set_option maxHeartbeats 6400000
set_option maxRecDepth 100000
theorem fc_text {T:List Tk} {f:Nat} {s:Ps} {a:Nat} {t:Ps} (e:runP T f .fclause s=.ok (a,t)):∃ n:Sh,t.N[a]? = some n∧n.text=(tokAt T s.i).text:=by
 cases f with
 | zero=>cases e
 | succ f=>
  simp only [runP] at e
  cases h1:knd T 1 s.i with
  | false=>simp [phBody,PM.bind,pNeed,h1] at e
  | true=>
   cases h2:arguments T (runP T f) ⟨s.i+1,s.N⟩ with
   | error x=>simp [phBody,PM.bind,pNeed,h1,pTok,h2] at e
   | ok ku=>
    obtain ⟨ks,u⟩:=ku
    simp only [phBody,PM.bind,pNeed,h1,if_true,pTok,h2,pAdd] at e
    generalize u.N.length=p at e
    generalize (⟨u.i,u.N++_⟩:Ps)=v at e
    unfold rest at e
    cases h3:pIf (wrd T ⟨#[119,104,101,110]⟩) (PM.bind (pSkip 1) fun _=>PM.bind (runP T f .guard) fun k=>PM.ret [(p:Int),(k:Int)]) (PM.ret [(p:Int)]) v with
    | error x=>simp [PM.bind,h3] at e
    | ok kv=>
     obtain ⟨kids,v2⟩:=kv
     cases h6:sgn T ⟨#[45,62]⟩ v2.i with
     | false=>simp [PM.bind,h3,pNeed,h6] at e
     | true=>
      cases h7:runP T f .body ⟨v2.i+1,v2.N⟩ with
      | error x=>simp [PM.bind,h3,pNeed,h6,h7] at e
      | ok bv=>
       obtain ⟨b,v4⟩:=bv
       simp only [PM.bind,h3,pNeed,h6,if_true,h7,pAdd,Except.ok.injEq,Prod.mk.injEq] at e
       obtain ⟨rfl,rfl⟩:=e
       exact ⟨⟨20,(tokAt T s.i).text,⟨#[]⟩,0,kids++[(b:Int)],(tokAt T s.i).at_⟩,by simp,rfl⟩
theorem row_fcT {T:List Tk} {f:Nat} {s t:Ps} {l:List Int} (hs:S2 T s s) (ht:S2 T t t) (e:row T ⟨#[59]⟩ (runP T f .fclause) s=.ok (l,t)) :
  ∃ (a kk:Nat) (l' more:List Int) (cN aN:Sh),l=(a:Int) :: l'∧t.N[a]? = some cN∧cN.kids=(kk:Int) :: more∧t.N[kk]? = some aN∧nameOf t.N (l.headD 0)=(tokAt T s.i).text∧argsOf t.N (l.headD 0)=(aN.kids.length:Int):=by
 obtain ⟨a,kk,l',more,cN,aN,h0,h1,h2,h3,h4,h5⟩:=row_fc (Fwd.of T f .fclause trivial) (fcOk f) hs ht e
 obtain ⟨a',t0,l'',M,e1,e2,hM⟩:=row_head (Fwd.of T f .fclause trivial) hs e
 obtain ⟨n,n1,n2⟩:=fc_text e1
 have ea:a=a':=by
  rw [h0] at e2
  simp at e2
  omega
 subst ea
 have hal:=(List.getElem?_eq_some_iff.1 n1).1
 have:t.N[a]? = some n:=by rw [hM,List.getElem?_append_left hal]; exact n1
 rw [h1] at this
 cases this
 exact ⟨a,kk,l',more,cN,aN,h0,h1,h2,h3,h4.trans n2,h5⟩
section
variable {T:List Tk} {g i0:Nat}
theorem XR.functionP (X:XR T g i0) (hT:0 < T.length) (hTk:∀ i,TkOk (tokAt T i)) {f:Nat} (hf:g+4≤f) (s:Ps) (hs:i0≤s.i+1):PhF T 63 [] (runP T f .function) s:=by
 intro w q Tv Nv N h hg
 obtain ⟨f,rfl⟩:∃ k,f=k+1:=⟨f - 1,by omega⟩
 obtain ⟨fin,hfin⟩:∃ fin,runP T (f+1) .function s=fin:=⟨_,rfl⟩
 rw [hfin]
 obtain ⟨res,hres⟩:∃ res,row T ⟨#[59]⟩ (runP T f .fclause) s=res:=⟨_,rfl⟩
 show Calls Tryz.prog _ #[.pointer (some ⟨q,0,none⟩)] w _
 have U0:=Uf.start h hg (T.length+2)
 have HC:=Hid.mk7 h.cnt
 have HT:=Hid.mk7 (And.intro hT h.at_.tl)
 have HX:=Hid.mk7 (And.intro X (And.intro hTk (And.intro (show g+3≤f by omega) hs)))
 have c0:=U0.token 0 (by omega)
 have HS:=Hid.mk7 h.ok
 have HQ:=Hid.mk7 (And.intro hfin (And.intro hres U0))
 clear h hg U0 X hTk hf hs hres hT hfin
 go_enter Tryz.func63,Tryz.ntmps63
 go_wp2_with fail
 refine c0.mono ?_
 rintro y w0 ⟨⟨tk,tt,tn,ta⟩,rfl,hb0,ht0,_⟩
 have htk:tokAt T s.i=⟨tk,tt,tn,ta⟩:=(ht0 s rfl).symm
 have U1:=(HQ.out.2.2.below hb0).hold HT.out.1 (.cells #[.int .i64 tk,.string tt,.int .i64 tn,.int .i64 ta] 40)
 have e3:(w0.alloc (.cells #[.int .i64 tk,.string tt,.int .i64 tn,.int .i64 ta] 40)).cell? ⟨w0.heap.size,3,none⟩=some (.int .i64 ta):=by simp
 have e1:(w0.alloc (.cells #[.int .i64 tk,.string tt,.int .i64 tn,.int .i64 ta] 40)).cell? ⟨w0.heap.size,1,none⟩=some (.string tt):=by simp
 have HE:=Hid.mk7 (And.intro e1 (And.intro e3 (And.intro htk U1)))
 clear c0 hb0 ht0 htk U1 e1 e3
 simp only [Tk.val]
 go_wp2_with fail
 go_loopw [4] (fun V wr=>RwU T ⟨#[59]⟩ (runP T f .fclause) (PM.ret) 0 w wr q Tv Nv N s (fun k=>noH k∨k=w0.heap.size) (w0.alloc (.cells #[.int .i64 tk,.string tt,.int .i64 tn,.int .i64 ta] 40)) res V) (fun _ wr=>leftOf T wr q)
 case atStart=>exact ⟨[],.ok s,T.length+1,HE.out.2.2.2,fun _ _=>rfl,by rw [← rowH_start,PM.bind_ret]; exact HQ.out.2.1,by simp,fun u e=>by cases e; simp; omega⟩
 case round=>
  obtain ⟨l,r,fu,U,K1,hq,hl,hr⟩:=hrel
  obtain ⟨aV,cV,hV,_⟩:=OwnK.sl U.a.own |>.form
  subst hV
  have HK:=Hid.mk7 K1
  have HV:=Hid.mk7 hl
  clear K1
  cases r with
  | error e=>
   have hb:=U.x.1.bad
   have H1:=Hid.mk7 (And.intro U hq)
   clear U hq hr hl
   have hqE:fin=.error e:=by
    rw [← HQ.out.1]
    have h1:row T ⟨#[59]⟩ (runP T f .fclause) s=.error e:=by rw [HQ.out.2.1]; exact (H1.out.2).symm
    simp [runP,phBody,PM.bind,pTok,h1]
   have c6:=Uf.kind (H1.out.1) 6 (by decide) (k:=fun _=>PM.ret 0) (res:=fin) (by rw [hqE]; rfl)
   have H5b:=Hid.mk7 (HK.out)
   go_wp2_with fail
   refine c6.mono ?_
   rintro y w6 ⟨⟨k6,t6,n6,a6⟩,rfl,K6,r6,hq6,U6,hr6⟩
   have e3:=((H5b.out.trans K6).cell (k:=w0.heap.size) (j:=3) (.inr rfl)).trans HE.out.2.1
   have e1:=((H5b.out.trans K6).cell (k:=w0.heap.size) (j:=1) (.inr rfl)).trans HE.out.1
   have l3:=World.block_lt_of_cell? w6 _ e3
   cases r6 with
   | ok v=>exact absurd (hr6 v rfl) (by rintro ⟨u,e,_⟩; cases e)
   | error e6=>
    have c7:=U6.to2.nodeX HT.out.1 HC.out (by decide) 26 ta tt
    have H6:=Hid.mk7 hq6
    clear c6 K6 hq6 U6 hr6 hqE
    simp only [Tk.val]
    go_wp2_with fail
    refine c7.mono ?_
    rintro y w7 ⟨z7,rfl,_,U7⟩
    have hb7:=(show Uf _ _ _ _ _ _ _ _ _ _ _ _ _ _ _ _ (.error e6) from U7).x.1.bad
    have HF:=Hid.mk7 (Uf.done (show Uf _ _ _ _ _ _ _ _ _ _ _ _ _ _ _ _ (.error e6) from U7) (res:=fin) H6.out)
    clear c7 U7
    go_wp2
    go_ret
    exact HF.out
  | ok u=>
   have hb:=U.x.2.1.c3.1
   have HL:=Hid.mk7 (And.intro U.left (And.intro U.il (And.intro (hr u rfl) hl)))
   have H1:=Hid.mk7 (And.intro U hq)
   clear U hq hr hl
   have hq1:Then (.ok u) (PM.bind (runP T f .fclause) fun k=>PM.bind (rowL T ⟨#[59]⟩ (runP T f .fclause) fu (l++[(k:Int)])) PM.ret)=res:=H1.out.2
   have c2:Calls Tryz.prog 85 #[.pointer (some ⟨q,0,none⟩)] wr _:=H1.out.1.phrase (dm:=1) (fun u2 e=>HX.out.1.fclause HT.out.1 HX.out.2.1 HX.out.2.2.1 u2 (by cases e; have:=HX.out.2.2.2; have:=HL.out.2.1.2; omega)) (fun _ e=>by cases e) (fun u2 _ hs=>o_run f .fclause trivial hs) hq1
   clear hq1
   go_wp2_with fail
   refine c2.mono ?_
   rintro y w3 ⟨z3,rfl,K3,r3,hq3,U3,hr3⟩
   have hq4:=U3.cast (k:=fun k=>PM.bind (rowL T ⟨#[59]⟩ (runP T f .fclause) fu (l++[k])) PM.ret) hq3
   have hi4:∀ v,r3=.ok v→u.i < v.i:=fun v e=>by
    obtain ⟨v2,e1,_,_,e2⟩:=hr3 v e
    cases e1
    exact e2 (by decide)
   have H3:=Hid.mk7 (And.intro U3 (And.intro hq4 (And.intro hi4 K3)))
   clear c2 hb hq3 U3 hr3 hq4 hi4 K3
   go_wp2_with (at_builtin; refine wpList_append_k (by rfl) (.tmp 13) (.tmp 16) (by rfl) Tryz.intTypes (by rfl) (by rfl) (OwnK.turned H3.out.1.a.own (Turned.alloc (fun _=>False) _ _) (fun _ _ e=>e)) (SlI.one _ _ _) (ints_one _) (by have:=H3.out.1.a.len; have:=HT.out.2; simp; omega) (by have:=H3.out.1.a.len; have:=HT.out.2; simp; omega) ?_; intro V4 w4 ho4 T4 hv4)
   obtain ⟨U4a,K4⟩:=H3.out.1.push HT.out.1 (Below.alloc0 w3 _) ho4 T4 hv4 (by have:=HL.out.2.2.2; simp; omega) (by simp)
   obtain ⟨aW,cW,hW,_⟩:=OwnK.sl ho4 |>.form
   have U4:=U4a.nums (zs':=[]) (fun z hz=>by cases hz)
   clear U4a
   rw [hW] at U4
   subst hW
   have c5:=U4.take ⟨#[59]⟩
   have HK4:=Hid.mk7 ((H3.out.2.2.2).trans K4)
   clear ho4 T4 hv4 U4 K4
   go_wp2_with fail
   refine c5.mono ?_
   rintro y w5 ⟨K5,⟨rfl,v,hv,hk,hlt,U5⟩ | ⟨rfl,hk,U5⟩⟩
   ·subst hv
    have hk:sgn T ⟨#[59]⟩ v.i=true:=by rw [tkIs_sign (HX.out.2.1 _) (by simp [allSigns])] at hk; exact hk
    have hq5:Then (.ok ⟨v.i+1,v.N⟩) (rowH T ⟨#[59]⟩ (runP T f .fclause) (fu - 1) (l++[z3]) (PM.ret))=res:=(rowH_next (by have:=HL.out.2.2.1.1; omega) hk).symm.trans H3.out.2.1
    have H5:=Hid.mk7 (And.intro (U5.weak (d':=0) (by decide)) (And.intro hq5 (And.intro hlt ((HK.out.trans HK4.out).trans K5))))
    clear c5 hk hlt U5 hq5 K5
    go_wp2
    go_roundw
    case rel=>
     refine ⟨l++[z3],.ok ⟨v.i+1,v.N⟩,fu - 1,H5.out.1,H5.out.2.2.2,H5.out.2.1,?_,fun u2 e=>?_⟩
     ·have h1:=H3.out.2.2.1 v rfl; have:=HL.out.2.2.1.2; have:=H5.out.2.2.1; simp; omega
     ·cases e
      have h1:=H3.out.2.2.1 v rfl
      have h2:=HL.out.2.2.1
      have:=H5.out.2.2.1
      simp
      omega
    case measure=>
     have h1:=H3.out.2.2.1 v rfl
     have h2:=H5.out.1.left
     have h3:=HL.out.1
     have h4:=H5.out.2.2.1
     simp only at h2 h3
     omega
   ·have hq5:=(rowH_stop (K:=PM.ret) (fun u2 e=>by have:=HL.out.2.2.1.1; omega) (fun u2 e=>by have:=hk u2 e; rw [tkIs_sign (HX.out.2.1 _) (by simp [allSigns])] at this; exact this)).symm.trans H3.out.2.1
    have H5:=Hid.mk7 (And.intro U5 (And.intro hq5 ((HK.out.trans HK4.out).trans K5)))
    clear c5 hk U5 hq5 K5
    have HU:=Hid.mk7 (And.intro (H5.out.1) (And.intro (H5.out.2.1) (H5.out.2.2)))
    clear H5
    cases r3 with
    | error e=>
     have hqE:fin=.error e:=by
      rw [← HQ.out.1]
      have h1:row T ⟨#[59]⟩ (runP T f .fclause) s=.error e:=by rw [HQ.out.2.1]; exact (HU.out.2.1).symm
      simp [runP,phBody,PM.bind,pTok,h1]
     have c6:=Uf.kind (HU.out.1) 6 (by decide) (k:=fun _=>PM.ret 0) (res:=fin) (by rw [hqE]; rfl)
     have H5b:=Hid.mk7 (HU.out.2.2)
     go_wp2_with fail
     refine c6.mono ?_
     rintro y w6 ⟨⟨k6,t6,n6,a6⟩,rfl,K6,r6,hq6,U6,hr6⟩
     have e3:=((H5b.out.trans K6).cell (k:=w0.heap.size) (j:=3) (.inr rfl)).trans HE.out.2.1
     have e1:=((H5b.out.trans K6).cell (k:=w0.heap.size) (j:=1) (.inr rfl)).trans HE.out.1
     have l3:=World.block_lt_of_cell? w6 _ e3
     cases r6 with
     | ok v=>exact absurd (hr6 v rfl) (by rintro ⟨u,e,_⟩; cases e)
     | error e6=>
      have c7:=U6.to2.nodeX HT.out.1 HC.out (by decide) 26 ta tt
      have H6:=Hid.mk7 hq6
      clear c6 K6 hq6 U6 hr6 hqE
      simp only [Tk.val]
      go_wp2_with fail
      refine c7.mono ?_
      rintro y w7 ⟨z7,rfl,_,U7⟩
      have hb7:=(show Uf _ _ _ _ _ _ _ _ _ _ _ _ _ _ _ _ (.error e6) from U7).x.1.bad
      have HF:=Hid.mk7 (Uf.done (show Uf _ _ _ _ _ _ _ _ _ _ _ _ _ _ _ _ (.error e6) from U7) (res:=fin) H6.out)
      clear c7 U7
      go_wp2
      go_ret
      exact HF.out
    | ok u9=>
     have hrow:row T ⟨#[59]⟩ (runP T f .fclause) s=.ok ((l++[z3]),u9):=by rw [HQ.out.2.1]; exact (HU.out.2.1).symm
     have H6a:=Hid.mk7 (And.intro HU.out.1 HU.out.2.2)
     obtain ⟨R,A,ks',more,cN,aN,hl0,hc1,hc2,hc3,hnm,hag⟩:=row_fcT HS.out (by obtain ⟨_,_,_,_,_,rg,_⟩:=Uf.x (H6a.out.1); exact rg.ps.ok) hrow
     have hqF:Then (.ok u9) (PM.bind (pNeed T (knd T 6)) fun _=>pAdd ⟨26,tt,⟨#[]⟩,(aN.kids.length:Int),(l++[z3]),ta⟩)=fin:=by
      rw [← HQ.out.1]
      have htt:(tokAt T s.i).text=tt:=by rw [HE.out.2.2.1]
      have hta:(tokAt T s.i).at_=ta:=by rw [HE.out.2.2.1]
      simp only [runP,phBody,PM.bind,pTok,hrow,hnm,hag,htt,hta,Then]
     have c6:=Uf.kind (H6a.out.1) 6 (by decide) hqF
     have H5b:=Hid.mk7 (And.intro (H6a.out.2) (And.intro hl0 (And.intro hc1 (And.intro hc2 hc3))))
     clear hrow hnm hag hqF hl0 hc1 hc2 hc3
     go_wp2_with fail
     refine c6.mono ?_
     rintro y w6 ⟨⟨k6,t6,n6,a6⟩,rfl,K6,r6,hq6,U6,hr6⟩
     have e3:=((H5b.out.1.trans K6).cell (k:=w0.heap.size) (j:=3) (.inr rfl)).trans HE.out.2.1
     have e1:=((H5b.out.1.trans K6).cell (k:=w0.heap.size) (j:=1) (.inr rfl)).trans HE.out.1
     have l3:=World.block_lt_of_cell? w6 _ e3
     cases r6 with
     | error e6=>
      have c7:=U6.to2.nodeX HT.out.1 HC.out (by decide) 26 ta tt
      have H6:=Hid.mk7 hq6
      clear c6 K6 hq6 U6 hr6
      simp only [Tk.val]
      go_wp2_with fail
      refine c7.mono ?_
      rintro y w7 ⟨z7,rfl,_,U7⟩
      have hb7:=(show Uf _ _ _ _ _ _ _ _ _ _ _ _ _ _ _ _ (.error e6) from U7).x.1.bad
      have HF:=Hid.mk7 (Uf.done (show Uf _ _ _ _ _ _ _ _ _ _ _ _ _ _ _ _ (.error e6) from U7) (res:=fin) H6.out)
      clear c7 U7
      go_wp2
      go_ret
      exact HF.out
     | ok v=>
      have hv:v=⟨u9.i+1,u9.N⟩:=by obtain ⟨u,e,_,_,e2⟩:=hr6 v rfl; cases e; exact e2
      subst hv
      have c7:=U6.to2.nodeSet HT.out.1 HC.out (by decide) 26 ta tt
      have H6:=Hid.mk7 hq6
      clear c6 K6 hq6 U6 hr6
      simp only [Tk.val]
      go_wp2_with fail
      refine c7.mono ?_
      rintro y w7 ⟨rfl,_,g7,⟨b8,o8,cp8,n2,nq,nb,nbq,nH,_,⟨m3,mf3⟩,_,nk⟩,U7,sx7⟩
      simp only at n2 m3 mf3 nk U7 ⊢
      obtain ⟨_,_,_,Nv7,M7,rg7,_⟩:=U7.x
      have p7:=rg7.ps.at_
      have hn7:=rg7.ps.n
      simp only at hn7
      have hc1:((N++M7).map Nd.sh)[R]? = some cN:=by rw [hn7,List.getElem?_append_left (List.getElem?_eq_some_iff.1 H5b.out.2.2.1).1]; exact H5b.out.2.2.1
      have hc3:((N++M7).map Nd.sh)[A]? = some aN:=by rw [hn7,List.getElem?_append_left (List.getElem?_eq_some_iff.1 H5b.out.2.2.2.2).1]; exact H5b.out.2.2.2.2
      have hrL:R < (N++M7).length:=by have h9:=(List.getElem?_eq_some_iff.1 hc1).1; rw [List.length_map] at h9; exact h9
      have haL:A < (N++M7).length:=by have h9:=(List.getElem?_eq_some_iff.1 hc3).1; rw [List.length_map] at h9; exact h9
      have er:((N++M7)[R]'hrL).sh=cN:=by
       rw [List.getElem?_map,List.getElem?_eq_getElem hrL] at hc1
       exact Option.some.inj hc1
      have ea:((N++M7)[A]'haL).sh=aN:=by
       rw [List.getElem?_map,List.getElem?_eq_getElem haL] at hc3
       exact Option.some.inj hc3
      have hlen7:(N++M7).length=u9.N.length+1:=by
       have:=congrArg List.length hn7
       simpa using this
      obtain ⟨b,off,cap,hNv,d0,d1,d2,d3,d4,d5⟩:=p7.node R hrL
      obtain ⟨b',off',cap',hNv',u0,u1,u2,u3,d4',u5⟩:=p7.node A haL
      have n2':=p7.c2.1
      rw [n2] at n2'
      have n2':=Option.some.inj n2'
      obtain ⟨rfl,rfl,rfl⟩:b8=b∧o8=off∧cp8=cap:=by rw [hNv] at n2'; simp at n2'; exact ⟨n2'.1.1,n2'.1.2,n2'.2.2⟩
      obtain ⟨rfl,rfl,rfl⟩:b8=b'∧o8=off'∧cp8=cap':=by rw [hNv'] at n2'; simp at n2'; exact ⟨n2'.1.1,n2'.1.2,n2'.2.2⟩
      have kc:=OwnK.sl (p7.kid R hrL).1
      have ka:=OwnK.sl (p7.kid A haL).1
      have hc2:=H5b.out.2.2.2.1
      have hl0:=H5b.out.2.1
      generalize hxr:(N++M7)[R]'hrL=xr at d4 er kc
      generalize hxa:(N++M7)[A]'haL=xa at d4' ea ka
      obtain ⟨xk,xt,xm,xn,xv,xl,xp⟩:=xr
      obtain ⟨yk,yt,ym,yn,yv,yl,yp⟩:=xa
      subst er
      subst ea
      simp only [Nd.sh] at hc2
      simp only at d4 d4' kc ka
      rw [hc2] at kc
      obtain ⟨bc,oc,cc,hxv,e0⟩:=SlI.head kc
      subst hxv
      obtain ⟨ay,cy,hyv⟩:=SlI.form ka
      subst hyv
      have sv:=OwnK.sl sx7.own
      have hlv:List.length ((l++[z3]))=ks'.length+1:=by rw [hl0]; simp
      rw [hl0] at sv
      obtain ⟨bv,ov,cv,hV,v0⟩:=SlI.head sv
      have hri:(R:Int) < ((u9.N.length+1:Nat):Int):=by omega
      have hai:(A:Int) < ((u9.N.length+1:Nat):Int):=by omega
      have hq9:Then (.ok ⟨u9.i+1,u9.N++[⟨26,tt,⟨#[]⟩,(yl.length:Int),(l++[z3]),ta⟩]⟩) (PM.ret ((u9.N.length:Int)).toNat)=fin:=by
       rw [← H6.out]
       simp [Then,pAdd,PM.ret,Nd.sh]
      have HF:=Hid.mk7 (Uf.done ((nk (yl.length:Int)).below (Below.refl _ _).drew) hq9)
      have hb7:=g7.c3.1
      have hbc:bc < w7.heap.size:=World.block_lt_of_cell? w7 _ e0
      have hbv:bv < w7.heap.size:=World.block_lt_of_cell? w7 _ v0
      have hVV:=hV
      rw [← hlv] at hVV
      clear c7 g7 nH nk U7 sx7 rg7 p7 hn7 hc1 hc3 hlen7 hNv hNv' n2' d0 d1 d2 d3 d5 u0 u1 u2 u3 u5 kc ka hc2 hxr hxa sv hq9 hrL haL
      obtain ⟨rfl,rfl⟩:aW=some ⟨bv,ov,none⟩∧cW=cv:=by simp at hVV; exact ⟨hVV.1,hVV.2⟩
      generalize u9.N.length=LN at n2 m3 mf3 HF hri hai ⊢
      have hLN:(LN:Int) < ((LN+1:Nat):Int):=by omega
      go_wp2_with fail
      go_region
      all_goals
       go_wp2
       go_ret
       exact HF.out
end
end Go.Proofs.YtlciaafincgdeaaGreatDoor
