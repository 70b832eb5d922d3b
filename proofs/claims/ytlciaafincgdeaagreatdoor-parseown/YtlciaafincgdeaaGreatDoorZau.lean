/-
  Layer 11 (parse): the document's parser: what stands alone.
  Layer 11 (parse): the document's parser: every expression, by induction on how many tokens are left.
-/
import Derived.Test.YtlciaafincgdeaaGreatDoorZat
namespace Go.Proofs.YtlciaafincgdeaaGreatDoor
open Go.RowKit
set_option maxHeartbeats 6400000
set_option maxRecDepth 100000
theorem Uf.last {T:List Tk} {w wr:World} {q:Nat} {Tv Nv:Value} {N:List Nd} {s:Ps} {B:Nat} {d:Int} {H:Nat→Prop} {V1 V2:Value} {l1 l2 zs:List Int} {u:Ps} (U:Uf T w wr q Tv Nv N s B d H V1 l1 V2 l2 zs (.ok u)) {F:FuncId} {more:List Value} {m:PM Nat} (hF:PhF T F more m u) {res:Except Nat (Nat × Ps)} (hq:m u=res) :
  Calls Tryz.prog F (Value.pointer (some ⟨q,0,none⟩) :: more).toArray wr fun x w2=>∃ z:Int,x=.returned (.int .i64 z)∧Hid (Rf T w q Tv Nv N res x w2):=by
 obtain ⟨p,g,hz,Nv1,M1,rg,f⟩:=U.x
 refine (hF wr q Tv Nv1 (N++M1) rg.ps g).mono ?_
 intro x w2 hx
 rw [hq] at hx
 cases res with
 | error e=>
  obtain ⟨⟨z,rfl⟩,b,t⟩:=hx
  exact ⟨z,rfl,⟨⟨z,rfl⟩,b,rg.bad t⟩⟩
 | ok av=>
  obtain ⟨a,v⟩:=av
  obtain ⟨rfl,Nv2,M2,r2,g2,_⟩:=rg.rf hx
  exact ⟨(a:Int),rfl,r2.ofF g2⟩
section
variable {T:List Tk} {rec:Ph→PM Nat} {t:Tk} {s:Ps}
theorem single_paren (ht:tokAt T s.i=t) (h:isTk 5 ⟨#[40]⟩ t=true):single T rec t s=Then (.ok ⟨s.i+1,s.N⟩) (PM.bind (rec (.expr 1)) fun k=>PM.bind (pNeed T (sgn T ⟨#[41]⟩)) fun _=>PM.ret k):=by
 have h2:sgn T ⟨#[40]⟩ s.i=true:=by rw [← ht] at h; exact h
 simp only [isTk,Bool.and_eq_true,decide_eq_true_eq] at h
 simp [single,h.1,bracketed,h.2,PM.bind,pNeed,h2,Then,whole]
theorem single_brace (ht:tokAt T s.i=t) (h:isTk 5 ⟨#[123]⟩ t=true):single T rec t s=Then (.ok ⟨s.i+1,s.N⟩) (pIf (sgn T ⟨#[125]⟩) (PM.bind (pSkip 1) fun _=>pAdd ⟨4,⟨#[]⟩,⟨#[]⟩,0,[],t.at_⟩) (PM.bind (row T ⟨#[44]⟩ (rec (.expr 1))) fun ks=>PM.bind (pNeed T (sgn T ⟨#[125]⟩)) fun _=>pAdd ⟨4,⟨#[]⟩,⟨#[]⟩,0,ks,t.at_⟩)):=by
 have h2:sgn T ⟨#[123]⟩ s.i=true:=by rw [← ht] at h; exact h
 simp only [isTk,Bool.and_eq_true,decide_eq_true_eq] at h
 have hs:single T rec t=PM.bind (enclosed T ⟨#[123]⟩ ⟨#[125]⟩ (whole rec)) fun ks=>pAdd ⟨4,⟨#[]⟩,⟨#[]⟩,0,ks,t.at_⟩:=by
  unfold single bracketed
  rw [h.1,h.2,if_neg (by decide),if_neg (by decide),if_neg (by decide),if_pos rfl,if_pos rfl]
 rw [hs]
 simp only [enclosed,PM.bind,pNeed,h2,Then,whole,pIf,if_true]
 cases h3:sgn T ⟨#[125]⟩ (s.i+1) with
 | true=>simp [PM.ret,h3,pSkip]
 | false=>
  simp only [Bool.false_eq_true,if_false]
  cases row T ⟨#[44]⟩ (rec (.expr 1)) ⟨s.i+1,s.N⟩ with
  | error e=>rfl
  | ok av=>
   simp only
   cases sgn T ⟨#[125]⟩ av.2.i <;> rfl
theorem single_brack (ht:tokAt T s.i=t) (h:isTk 5 ⟨#[91]⟩ t=true):single T rec t s=listB T rec t.at_ ⟨s.i+1,s.N⟩:=by
 have h2:sgn T ⟨#[91]⟩ s.i=true:=by rw [← ht] at h; exact h
 simp only [isTk,Bool.and_eq_true,decide_eq_true_eq] at h
 simp [single,h.1,bracketed,h.2,list,PM.bind,pNeed,h2,listB,ht]
theorem block_word (x:ByteArray) (h:isTk 4 x t=true) (hb:begins t=true):single T rec t s=PM.bind (blockKids T rec t) (fun kk=>PM.bind (pNeed T (wrd T ⟨#[101,110,100]⟩)) fun _=>pAdd ⟨kk.1,⟨#[]⟩,⟨#[]⟩,0,kk.2,t.at_⟩) ⟨s.i+1,s.N⟩:=by
 simp only [isTk,Bool.and_eq_true,decide_eq_true_eq] at h
 simp [single,h.1,block,PM.bind,pNeed,hb]
theorem single_begin (h:isTk 4 ⟨#[98,101,103,105,110]⟩ t=true):single T rec t s=Then (.ok ⟨s.i+1,s.N⟩) (PM.bind (rec .body) fun k=>PM.bind (pNeed T (wrd T ⟨#[101,110,100]⟩)) fun _=>pAdd ⟨9,⟨#[]⟩,⟨#[]⟩,0,[(k:Int)],t.at_⟩):=by
 have h':=h
 simp only [isTk,Bool.and_eq_true,decide_eq_true_eq] at h'
 rw [block_word _ h (by simp [begins,h'])]
 simp only [blockKids,h'.2,if_true,PM.bind,Then,PM.ret]
 cases rec .body ⟨s.i+1,s.N⟩ <;> rfl
theorem single_case (h:isTk 4 ⟨#[99,97,115,101]⟩ t=true):single T rec t s=Then (.ok ⟨s.i+1,s.N⟩) (PM.bind (rec (.expr 1)) fun k=>PM.bind (pNeed T (wrd T ⟨#[111,102]⟩)) fun _=>PM.bind (row T ⟨#[59]⟩ (rec .clause)) fun ks=>PM.bind (pNeed T (wrd T ⟨#[101,110,100]⟩)) fun _=>pAdd ⟨8,⟨#[]⟩,⟨#[]⟩,0,(k:Int) :: ks,t.at_⟩):=by
 have h':=h
 simp only [isTk,Bool.and_eq_true,decide_eq_true_eq] at h'
 rw [block_word _ h (by simp [begins,h'])]
 have hb:blockKids T rec t=PM.bind (whole rec) fun k=>PM.bind (pNeed T (wrd T ⟨#[111,102]⟩)) fun _=>PM.bind (row T ⟨#[59]⟩ (rec .clause)) fun ks=>PM.ret (8,(k:Int) :: ks):=by
  unfold blockKids
  rw [h'.2,if_neg (by decide),if_pos rfl]
 rw [hb]
 simp only [PM.bind,Then,PM.ret,whole,pNeed]
 cases rec (.expr 1) ⟨s.i+1,s.N⟩ with
 | error e=>rfl
 | ok av=>
  simp only
  cases wrd T ⟨#[111,102]⟩ av.2.i with
  | false=>rfl
  | true=>
   simp only [if_true]
   cases row T ⟨#[59]⟩ (rec .clause) ⟨av.2.i+1,av.2.N⟩ <;> rfl
theorem single_recv (h:isTk 4 ⟨#[114,101,99,101,105,118,101]⟩ t=true):single T rec t s=recvB T rec t.at_ ⟨s.i+1,s.N⟩:=by
 have h':=h
 simp only [isTk,Bool.and_eq_true,decide_eq_true_eq] at h'
 rw [block_word _ h (by simp [begins,h'])]
 have hb:blockKids T rec t=PM.bind (choices T rec) fun ks=>PM.ret (12,ks):=by
  unfold blockKids
  rw [h'.2,if_neg (by decide),if_neg (by decide),if_pos rfl]
 rw [hb]
 simp only [PM.bind,PM.ret,recvB,recvK]
 cases choices T rec ⟨s.i+1,s.N⟩ <;> rfl
theorem single_try (h:isTk 4 ⟨#[116,114,121]⟩ t=true):single T rec t s=tryB T rec t.at_ ⟨s.i+1,s.N⟩:=by
 have h':=h
 simp only [isTk,Bool.and_eq_true,decide_eq_true_eq] at h'
 rw [block_word _ h (by simp [begins,h'])]
 have hb:blockKids T rec t=PM.bind (rec .body) fun k=>PM.bind (pNeed T (wrd T ⟨#[99,97,116,99,104]⟩)) fun _=>PM.bind (row T ⟨#[59]⟩ (rec .cclause)) fun ks=>PM.ret (10,(k:Int) :: ks):=by
  unfold blockKids
  rw [h'.2,if_neg (by decide),if_neg (by decide),if_neg (by decide)]
 rw [hb]
 simp only [PM.bind,PM.ret,tryB,pNeed]
 cases rec .body ⟨s.i+1,s.N⟩ with
 | error e=>rfl
 | ok av=>
  simp only
  cases wrd T ⟨#[99,97,116,99,104]⟩ av.2.i with
  | false=>rfl
  | true=>
   simp only [if_true]
   cases row T ⟨#[59]⟩ (rec .cclause) ⟨av.2.i+1,av.2.N⟩ <;> rfl
theorem single_none (ht:tokAt T s.i=t) (h3:¬ t.kind=3) (h2:¬ t.kind=2) (h1:¬ t.kind=1) (a1:isTk 5 ⟨#[40]⟩ t=false) (a2:isTk 5 ⟨#[123]⟩ t=false) (a3:isTk 5 ⟨#[91]⟩ t=false) (b1:isTk 4 ⟨#[98,101,103,105,110]⟩ t=false) (b2:isTk 4 ⟨#[99,97,115,101]⟩ t=false) (b3:isTk 4 ⟨#[114,101,99,101,105,118,101]⟩ t=false) (b4:isTk 4 ⟨#[116,114,121]⟩ t=false):single T rec t s=.error s.i:=by
 have e1:sgn T ⟨#[40]⟩ s.i=false:=by rw [← ht] at a1; exact a1
 by_cases h5:t.kind=5
 ·simp only [isTk,h5,decide_true,Bool.true_and,decide_eq_false_iff_not] at a2 a3
  simp [single,h5,bracketed,a2,a3,PM.bind,pNeed,e1]
 ·have hb:begins t=false:=by
   simp only [isTk,Bool.and_eq_false_imp,decide_eq_true_eq,decide_eq_false_iff_not] at b1 b2 b3 b4
   by_cases h4:t.kind=4
   ·simp [begins,h4,b1 h4,b2 h4,b3 h4,b4 h4]
   ·simp [begins,h4]
  simp [single,h3,h2,h1,h5,block,PM.bind,pNeed,hb]
end
section
variable {T:List Tk} {g i0:Nat}
theorem XR.simpleP (X:XR T g i0) (hT:0 < T.length) (hTk:∀ i,TkOk (tokAt T i)) {f:Nat} (hf:g+3≤f) (s:Ps) (hs:i0≤s.i+1):PhF T 209 [] (single T (runP T f) (tokAt T s.i)) s:=by
 intro w q Tv Nv N h hg
 obtain ⟨res,hres⟩:∃ res,single T (runP T f) (tokAt T s.i) s=res:=⟨_,rfl⟩
 rw [hres]
 show Calls Tryz.prog _ #[.pointer (some ⟨q,0,none⟩)] w _
 have U0:=Uf.start h hg (T.length+2)
 have HC:=Hid.mk7 h.cnt
 have HT:=Hid.mk7 (And.intro hT h.at_.tl)
 have HX:=Hid.mk7 (And.intro X (And.intro hTk (And.intro (hf) hs)))
 have c0:=U0.token 0 (by omega)
 have HQ:=Hid.mk7 (And.intro hres U0)
 have htl:=h.at_.tl
 clear h hg U0 X hTk hf hs hres hT
 go_enter Tryz.func209,Tryz.ntmps209
 go_wp2_with fail
 refine c0.mono ?_
 rintro y w0 ⟨⟨tk,tt,tn,ta⟩,rfl,hb0,ht0,_⟩
 have htk:tokAt T s.i=⟨tk,tt,tn,ta⟩:=(ht0 s rfl).symm
 have hres:single T (runP T f) ⟨tk,tt,tn,ta⟩ s=res:=by rw [← htk]; exact HQ.out.1
 have U1:=HQ.out.2.below hb0
 have hql0:q < w0.heap.size:=by have:=U1.ql; have:=U1.sz; omega
 have HB:=Hid.mk7 (And.intro hres (And.intro htk U1))
 have hc1:=(U1.x.2.2.2.choose_spec.choose_spec.1).ps.at_.c1
 obtain ⟨hc1a,hc1f⟩:=hc1
 have hi32:(s.i:Int)+1≤65537:=by have:=(U1.x.2.2.2.choose_spec.choose_spec.1).ps.ok.il; omega
 clear c0 hb0 ht0 hres htk U1
 simp only [Tk.val]
 by_cases k3:tk=3
 ·subst k3
  have hlt:s.i < T.length:=tok_lt (by rw [HB.out.2.1]; simp)
  obtain ⟨U2,_⟩:=HB.out.2.2.skip hlt
  have U3:=U2.hold HT.out.1 (.cells #[.int .i64 3,.string tt,.int .i64 tn,.int .i64 ta] 40)
  have e2:((w0.setCell ⟨q,1,none⟩ (.int .i64 ((s.i:Int)+1))).alloc (.cells #[.int .i64 3,.string tt,.int .i64 tn,.int .i64 ta] 40)).cell? ⟨w0.heap.size,2,none⟩=some (.int .i64 tn):=by
   rw [World.cell?_alloc_at _ _ _ _ (by simp)]
   rfl
  have c3:=U3.nodeSet HT.out.1 HC.out (by decide) 1 ta ⟨#[]⟩
  have H3:=Hid.mk7 e2
  clear U2 U3 e2
  simp only [World.size_setCell] at c3
  go_wp2_with fail
  refine c3.mono ?_
  rintro y w3 ⟨rfl,K3,g3,⟨b8,o8,cp8,n2,nq,nb,nbq,nH,_,⟨m3,mf3⟩,_,nk⟩,_⟩
  have e2:=(K3.cell (k:=w0.heap.size) (j:=2) (.inr rfl)).trans H3.out
  have l2:=World.block_lt_of_cell? w3 _ e2
  have nw:=nH _ (.inr rfl)
  have hq9:Then (.ok ⟨s.i+1,s.N++[⟨1,⟨#[]⟩,⟨#[]⟩,tn,[],ta⟩]⟩) (PM.ret ((s.N.length:Int)).toNat)=res:=by
   rw [← HB.out.1]
   simp [Then,single,PM.bind,pSkip,pAdd,PM.ret]
  have HF:=Hid.mk7 (Uf.done ((nk tn).below (Below.refl _ _).drew) hq9)
  clear c3 K3 g3 nH nk hq9
  generalize s.N.length=LN at n2 m3 mf3 HF ⊢
  have hLN:(LN:Int) < ((LN+1:Nat):Int):=by omega
  go_wp2_with fail
  go_region
  all_goals
   go_wp2
   go_ret
   exact HF.out
 ·have k3b:(tk == 3)=false:=by simpa using k3
  by_cases k2:tk=2
  ·subst k2
   have hlt:s.i < T.length:=tok_lt (by rw [HB.out.2.1]; simp)
   obtain ⟨U2,_⟩:=HB.out.2.2.skip hlt
   have hq1:Then (.ok ⟨s.i+1,s.N⟩) (pAdd ⟨3,tt,⟨#[]⟩,0,[],ta⟩)=res:=by
    rw [← HB.out.1]
    simp [Then,single,PM.bind,pSkip]
   have H1:=Hid.mk7 (And.intro (U2.up (.cells #[.int .i64 2,.string tt,.int .i64 tn,.int .i64 ta] 40)) hq1)
   clear U2 hq1
   have hq9:Then (.ok ⟨s.i+1,s.N⟩) (PM.bind (pAdd ⟨3,tt,⟨#[]⟩,0,[],ta⟩) PM.ret)=res:=by rw [PM.bind_ret]; exact H1.out.2
   have c9:=Uf.node (H1.out.1) HT.out.1 HC.out (by decide) 3 ta tt hq9
   clear hq9
   go_wp2_with fail
   refine c9.mono ?_
   rintro y w9 ⟨z9,rfl,_,r9,hq9,U9,_⟩
   have H9:=Hid.mk7 (U9.done hq9)
   clear c9 hq9 U9
   go_wp2
   go_ret
   exact H9.out
  ·have k2b:(tk == 2)=false:=by simpa using k2
   by_cases k1:tk=1
   ·subst k1
    have hq1:named T (runP T f) ⟨1,tt,tn,ta⟩ s=res:=by
     rw [← HB.out.1]
     simp [single]
    have c1:Calls Tryz.prog 212 #[.pointer (some ⟨q,0,none⟩),.agg #[.int .i64 1,.string tt,.int .i64 tn,.int .i64 ta]] (w0.alloc (.cells #[.int .i64 1,.string tt,.int .i64 tn,.int .i64 ta] 40)) _:=(HB.out.2.2.up (.cells #[.int .i64 1,.string tt,.int .i64 tn,.int .i64 ta] 40)).last (HX.out.1.atomP HT.out.1 HX.out.2.1 (by have:=HX.out.2.2.1; omega) s HX.out.2.2.2 ⟨1,tt,tn,ta⟩ (by rw [HB.out.2.1])) hq1
    clear hq1
    go_wp2_with fail
    refine c1.mono ?_
    rintro y w1 ⟨z1,rfl,h1⟩
    clear c1
    go_wp2
    go_ret
    exact h1.out
   ·have k1b:(tk == 1)=false:=by simpa using k1
    have U2:=HB.out.2.2.hold HT.out.1 (.cells #[.int .i64 tk,.string tt,.int .i64 tn,.int .i64 ta] 40)
    have e3:(w0.alloc (.cells #[.int .i64 tk,.string tt,.int .i64 tn,.int .i64 ta] 40)).cell? ⟨w0.heap.size,3,none⟩=some (.int .i64 ta):=by simp
    have HE:=Hid.mk7 e3
    have c1:=U2.take ⟨#[40]⟩
    clear U2 e3
    go_wp2_with fail
    refine c1.mono ?_
    rintro y w1 ⟨K1,⟨rfl,u,hu,hk,hlt,UT⟩ | ⟨rfl,hk1,U1f⟩⟩
    ·cases hu
     rw [tkIs_sign (HX.out.2.1 _) (by simp [allSigns]),HB.out.2.1] at hk
     have KT:=Hid.mk7 (K1)
     clear K1
     have hq1:=(single_paren HB.out.2.1 hk).symm.trans HB.out.1
     have c20:Calls Tryz.prog 135 #[.pointer (some ⟨q,0,none⟩)] w1 _:=Uf.phrase (UT) (dm:=3) (fun u e=>HX.out.1 f (by have:=HX.out.2.2.1; omega) u (by cases e; have:=HX.out.2.2.2; simp; omega)) (fun _ _=>b_exp) (fun u _ hs=>o_run f (.expr 1) (by simp [okPh]) hs) hq1
     clear c1 hk hlt UT hq1
     go_wp2_with fail
     refine c20.mono ?_
     rintro y w20 ⟨z20,rfl,K20,r20,hq20,U20,hr20⟩
     have c21:=Uf.want (U20) ⟨#[41]⟩ (b:=sgn T ⟨#[41]⟩) (fun i=>(tkIs_sign (HX.out.2.1 _) (by simp [allSigns])).symm) hq20
     clear c20 hq20 U20 hr20 K20
     go_wp2_with fail
     refine c21.mono ?_
     rintro y w21 ⟨rfl,K21,r21,hq21,U21,hr21⟩
     have HF:=Hid.mk7 (U21.done hq21)
     clear c21 hq21 U21 hr21 K21
     go_wp2
     go_ret
     exact HF.out
    have f1:isTk 5 ⟨#[40]⟩ ⟨tk,tt,tn,ta⟩=false:=by
     have h1:=hk1 s rfl
     rw [tkIs_sign (HX.out.2.1 _) (by simp [allSigns]),HB.out.2.1] at h1
     exact h1
    have HK1:=Hid.mk7 (K1)
    have HG1:=Hid.mk7 f1
    have c2:=U1f.take ⟨#[123]⟩
    clear c1 hk1 U1f K1 f1
    go_wp2_with fail
    refine c2.mono ?_
    rintro y w2 ⟨K2,⟨rfl,u,hu,hk,hlt,UT⟩ | ⟨rfl,hk2,U2f⟩⟩
    ·cases hu
     rw [tkIs_sign (HX.out.2.1 _) (by simp [allSigns]),HB.out.2.1] at hk
     have KT:=Hid.mk7 (HK1.out.trans K2)
     clear K2
     have hq1:=(single_brace HB.out.2.1 hk).symm.trans HB.out.1
     have c20:=UT.take ⟨#[125]⟩
     have H20:=Hid.mk7 (And.intro hq1 KT.out)
     clear c2 hk hlt UT hq1
     go_wp2_with fail
     refine c20.mono ?_
     rintro y w20 ⟨K20,⟨rfl,u,hu,hk,hlt,U20⟩ | ⟨rfl,hk,U20⟩⟩
     ·cases hu
      rw [tkIs_sign (HX.out.2.1 _) (by simp [allSigns])] at hk
      have hq2:Then (.ok ⟨s.i+1+1,s.N⟩) (pAdd ⟨4,⟨#[]⟩,⟨#[]⟩,0,[],ta⟩)=res:=by
       rw [← H20.out.1]
       simp [Then,pIf,sgn,hk,PM.bind,pSkip]
      have e3:=((H20.out.2.trans K20).cell (k:=w0.heap.size) (j:=3) (.inr rfl)).trans HE.out
      have l3:=World.block_lt_of_cell? w20 _ e3
      have H21:=Hid.mk7 (And.intro U20 hq2)
      clear c20 hk hlt U20 hq2 K20
      have hq22:Then (.ok ⟨s.i+1+1,s.N⟩) (PM.bind (pAdd ⟨4,⟨#[]⟩,⟨#[]⟩,0,[],ta⟩) PM.ret)=res:=by rw [PM.bind_ret]; exact H21.out.2
      have c22:=Uf.node (H21.out.1) HT.out.1 HC.out (by decide) 4 ta ⟨#[]⟩ hq22
      clear hq22
      go_wp2_with fail
      refine c22.mono ?_
      rintro y w22 ⟨z22,rfl,_,r22,hq22,U22,_⟩
      have H22:=Hid.mk7 (U22.done hq22)
      clear c22 hq22 U22
      go_wp2
      go_ret
      exact H22.out
     ·have hk:sgn T ⟨#[125]⟩ (s.i+1)=false:=by
       have h1:=hk _ rfl
       rw [tkIs_sign (HX.out.2.1 _) (by simp [allSigns])] at h1
       exact h1
      have hq2:Then (.ok ⟨s.i+1,s.N⟩) (PM.bind (row T ⟨#[44]⟩ (runP T f (.expr 1))) fun ks=>PM.bind (pNeed T (sgn T ⟨#[125]⟩)) fun _=>pAdd ⟨4,⟨#[]⟩,⟨#[]⟩,0,ks,ta⟩)=res:=by
       rw [← H20.out.1]
       simp only [Then,pIf,hk,Bool.false_eq_true,if_false]
      have H21:=Hid.mk7 (H20.out.2.trans K20)
      have c22:Calls Tryz.prog 122 #[.pointer (some ⟨q,0,none⟩)] w20 _:=Uf.phraseL (U20) (dm:=3) (fun u e=>HX.out.1.exps HX.out.2.1 (by have:=HX.out.2.2.1; omega) u (by cases e; have:=HX.out.2.2.2; simp; omega)) (fun _ _=>b_exps) (fun u _ hs=>o_row _ f (.expr 1) (by simp [okPh]) hs) (fun u l v e=>rowT_len (runP_mono T f (.expr 1)) e) (by omega) hq2
      clear c20 hk U20 hq2 K20
      go_wp2_with fail
      refine c22.mono ?_
      rintro y w22 ⟨V22,l22,rfl,⟨a22,b22,hV22⟩,hln22,K22,r22,hq22,U22,hr22⟩
      subst hV22
      have c23:=Uf.want (U22) ⟨#[125]⟩ (b:=sgn T ⟨#[125]⟩) (fun i=>(tkIs_sign (HX.out.2.1 _) (by simp [allSigns])).symm) hq22
      have H22:=Hid.mk7 (H21.out.trans K22)
      clear c22 hq22 U22 hr22 K22 hln22
      go_wp2_with fail
      refine c23.mono ?_
      rintro y w23 ⟨rfl,K23,r23,hq23,U23,hr23⟩
      have e3:=((H22.out.trans K23).cell (k:=w0.heap.size) (j:=3) (.inr rfl)).trans HE.out
      have l3:=World.block_lt_of_cell? w23 _ e3
      have H23:=Hid.mk7 (And.intro U23 hq23)
      clear c23 hq23 U23 hr23 K23
      have hq24:Then (r23) (PM.bind (pAdd ⟨4,⟨#[]⟩,⟨#[]⟩,0,l22,ta⟩) PM.ret)=res:=by rw [PM.bind_ret]; exact H23.out.2
      have c24:=Uf.node (H23.out.1) HT.out.1 HC.out (by decide) 4 ta ⟨#[]⟩ hq24
      clear hq24
      go_wp2_with fail
      refine c24.mono ?_
      rintro y w24 ⟨z24,rfl,_,r24,hq24,U24,_⟩
      have H24:=Hid.mk7 (U24.done hq24)
      clear c24 hq24 U24
      go_wp2
      go_ret
      exact H24.out
    have f2:isTk 5 ⟨#[123]⟩ ⟨tk,tt,tn,ta⟩=false:=by
     have h1:=hk2 s rfl
     rw [tkIs_sign (HX.out.2.1 _) (by simp [allSigns]),HB.out.2.1] at h1
     exact h1
    have HK2:=Hid.mk7 (HK1.out.trans K2)
    have HG2:=Hid.mk7 f2
    have c3:=U2f.take ⟨#[91]⟩
    clear c2 hk2 U2f K2 f2
    go_wp2_with fail
    refine c3.mono ?_
    rintro y w3 ⟨K3,⟨rfl,u,hu,hk,hlt,UT⟩ | ⟨rfl,hk3,U3f⟩⟩
    ·cases hu
     rw [tkIs_sign (HX.out.2.1 _) (by simp [allSigns]),HB.out.2.1] at hk
     have KT:=Hid.mk7 (HK2.out.trans K3)
     clear K3
     have hq1:=(single_brack HB.out.2.1 hk).symm.trans HB.out.1
     have e3:=(KT.out.cell (k:=w0.heap.size) (j:=3) (.inr rfl)).trans HE.out
     have l3:=World.block_lt_of_cell? w3 _ e3
     have c20:Calls Tryz.prog 213 #[.pointer (some ⟨q,0,none⟩),.int .i64 ta] w3 _:=UT.last (HX.out.1.listP HT.out.1 HX.out.2.1 (by have:=HX.out.2.2.1; omega) ⟨s.i+1,s.N⟩ HX.out.2.2.2 ta) hq1
     clear c3 hk hlt UT hq1
     go_wp2_with fail
     refine c20.mono ?_
     rintro y w20 ⟨z20,rfl,h20⟩
     clear c20
     go_wp2
     go_ret
     exact h20.out
    have f3:isTk 5 ⟨#[91]⟩ ⟨tk,tt,tn,ta⟩=false:=by
     have h1:=hk3 s rfl
     rw [tkIs_sign (HX.out.2.1 _) (by simp [allSigns]),HB.out.2.1] at h1
     exact h1
    have HK3:=Hid.mk7 (HK2.out.trans K3)
    have HG3:=Hid.mk7 f3
    have c4:=U3f.take ⟨#[98,101,103,105,110]⟩
    clear c3 hk3 U3f K3 f3
    go_wp2_with fail
    refine c4.mono ?_
    rintro y w4 ⟨K4,⟨rfl,u,hu,hk,hlt,UT⟩ | ⟨rfl,hk4,U4f⟩⟩
    ·cases hu
     rw [tkIs_word (HX.out.2.1 _) (by simp [allWords]),HB.out.2.1] at hk
     have KT:=Hid.mk7 (HK3.out.trans K4)
     clear K4
     have hq1:=(single_begin hk).symm.trans HB.out.1
     have c20:Calls Tryz.prog 124 #[.pointer (some ⟨q,0,none⟩)] w4 _:=Uf.phrase (UT) (dm:=2) (fun u e=>HX.out.1.body HT.out.1 HX.out.2.1 (by have:=HX.out.2.2.1; omega) u (by cases e; have:=HX.out.2.2.2; simp; omega)) (fun _ _=>b_body) (fun u _ hs=>o_run f .body trivial hs) hq1
     clear c4 hk hlt UT hq1
     go_wp2_with fail
     refine c20.mono ?_
     rintro y w20 ⟨z20,rfl,K20,r20,hq20,U20,hr20⟩
     have hq20':=U20.cast (k:=fun k=>PM.bind (pNeed T (wrd T ⟨#[101,110,100]⟩)) fun _=>pAdd ⟨9,⟨#[]⟩,⟨#[]⟩,0,[k],ta⟩) hq20
     have c21:=Uf.want (U20) ⟨#[101,110,100]⟩ (b:=wrd T ⟨#[101,110,100]⟩) (fun i=>(tkIs_word (HX.out.2.1 _) (by simp [allWords])).symm) hq20'
     have H20:=Hid.mk7 (KT.out.trans K20)
     clear c20 hq20 hq20' U20 hr20 K20
     go_wp2_with fail
     refine c21.mono ?_
     rintro y w21 ⟨rfl,K21,r21,hq21,U21,hr21⟩
     have e3:=((H20.out.trans K21).cell (k:=w0.heap.size) (j:=3) (.inr rfl)).trans HE.out
     have l3:=World.block_lt_of_cell? w21 _ e3
     have U22:=U21.lit HT.out.1 (OwnI.one w21 z20 3) (by simp) (by simp)
     have H21:=Hid.mk7 (And.intro U22 hq21)
     clear c21 hq21 U21 U22 hr21 K21
     have hq22:Then (r21) (PM.bind (pAdd ⟨9,⟨#[]⟩,⟨#[]⟩,0,[z20],ta⟩) PM.ret)=res:=by rw [PM.bind_ret]; exact H21.out.2
     have c22:=Uf.node (H21.out.1) HT.out.1 HC.out (by decide) 9 ta ⟨#[]⟩ hq22
     clear hq22
     go_wp2_with fail
     refine c22.mono ?_
     rintro y w22 ⟨z22,rfl,_,r22,hq22,U22,_⟩
     have H22:=Hid.mk7 (U22.done hq22)
     clear c22 hq22 U22
     go_wp2
     go_ret
     exact H22.out
    have f4:isTk 4 ⟨#[98,101,103,105,110]⟩ ⟨tk,tt,tn,ta⟩=false:=by
     have h1:=hk4 s rfl
     rw [tkIs_word (HX.out.2.1 _) (by simp [allWords]),HB.out.2.1] at h1
     exact h1
    have HK4:=Hid.mk7 (HK3.out.trans K4)
    have HG4:=Hid.mk7 f4
    have c5:=U4f.take ⟨#[99,97,115,101]⟩
    clear c4 hk4 U4f K4 f4
    go_wp2_with fail
    refine c5.mono ?_
    rintro y w5 ⟨K5,⟨rfl,u,hu,hk,hlt,UT⟩ | ⟨rfl,hk5,U5f⟩⟩
    ·cases hu
     rw [tkIs_word (HX.out.2.1 _) (by simp [allWords]),HB.out.2.1] at hk
     have KT:=Hid.mk7 (HK4.out.trans K5)
     clear K5
     have hq1:=(single_case hk).symm.trans HB.out.1
     have c20:Calls Tryz.prog 135 #[.pointer (some ⟨q,0,none⟩)] w5 _:=Uf.phrase (UT) (dm:=3) (fun u e=>HX.out.1 f (by have:=HX.out.2.2.1; omega) u (by cases e; have:=HX.out.2.2.2; simp; omega)) (fun _ _=>b_exp) (fun u _ hs=>o_run f (.expr 1) (by simp [okPh]) hs) hq1
     clear c5 hk hlt UT hq1
     go_wp2_with fail
     refine c20.mono ?_
     rintro y w20 ⟨z20,rfl,K20,r20,hq20,U20,hr20⟩
     have hq20':=U20.cast (k:=fun k=>PM.bind (pNeed T (wrd T ⟨#[111,102]⟩)) fun _=>PM.bind (row T ⟨#[59]⟩ (runP T f .clause)) fun ks=>PM.bind (pNeed T (wrd T ⟨#[101,110,100]⟩)) fun _=>pAdd ⟨8,⟨#[]⟩,⟨#[]⟩,0,k :: ks,ta⟩) hq20
     have hi20:∀ u,r20=.ok u→i0≤u.i:=fun u e=>by
      obtain ⟨v,e1,_,e2,_⟩:=hr20 u e
      cases e1
      have:=HX.out.2.2.2
      simp at e2
      omega
     have U20a:=(U20.lit HT.out.1 (OwnI.one w20 z20 3) (by simp) (by simp)).to1
     have K20a:=U20.kb (Below.alloc0 w20 (.cells #[.int .i64 z20] 3))
     have c21:=Uf.want (U20a) ⟨#[111,102]⟩ (b:=wrd T ⟨#[111,102]⟩) (fun i=>(tkIs_word (HX.out.2.1 _) (by simp [allWords])).symm) hq20'
     have H20:=Hid.mk7 (And.intro ((KT.out.trans K20).trans K20a) hi20)
     clear c20 hq20 hq20' U20 U20a hr20 K20 K20a hi20
     go_wp2_with fail
     refine c21.mono ?_
     rintro y w21 ⟨rfl,K21,r21,hq21,U21,hr21⟩
     have c22:Calls Tryz.prog 214 #[.pointer (some ⟨q,0,none⟩)] w21 _:=U21.phraseL (dm:=1) (fun u e=>HX.out.1.clauses HT.out.1 HX.out.2.1 HX.out.2.2.1 u (by obtain ⟨v,e1,_,rfl⟩:=hr21 u e; have:=H20.out.2 v e1; simp; omega)) (fun _ _=>b_clauses) (fun u _ hs=>o_row _ f .clause trivial hs) (fun u l v e=>rowT_len (runP_mono T f .clause) e) (by omega) hq21
     have H21:=Hid.mk7 (H20.out.1.trans K21)
     clear c21 hq21 U21 hr21 K21
     go_wp2_with fail
     refine c22.mono ?_
     rintro y w22 ⟨V22,l22,rfl,⟨a22,b22,hV22⟩,hln22,K22,r22,hq22,U22,hr22⟩
     subst hV22
     have H22:=Hid.mk7 (And.intro U22 (And.intro hq22 (And.intro (H21.out.trans K22) hln22)))
     clear c22 hq22 U22 hr22 K22 hln22
     go_wp2_with (at_builtin; refine wpList_append_k (by rfl) (.tmp 114) (.tmp 116) (by rfl) Tryz.intTypes (by rfl) (by rfl) H22.out.1.a.own (OwnK.sl H22.out.1.b.own) (ints_one _) (by have:=H22.out.2.2.2; have:=HT.out.2; simp; omega) (by have:=H22.out.2.2.2; have:=HT.out.2; simp; omega) ?_; intro V23 w23 ho23 T23 hv23)
     obtain ⟨U23,K23⟩:=Uf.push H22.out.1 HT.out.1 (Below.refl _ _) ho23 T23 hv23 (by have:=H22.out.2.2.2; simp; omega) (fun z hz=>.inr hz)
     obtain ⟨aW23,cW23,hW23,_⟩:=OwnK.sl ho23 |>.form
     subst hW23
     have U24:=U23.drop2
     have hq24:Then r22 (PM.bind (pNeed T (wrd T ⟨#[101,110,100]⟩)) fun _=>pAdd ⟨8,⟨#[]⟩,⟨#[]⟩,0,[z20]++l22,ta⟩)=res:=H22.out.2.1
     have c25:=Uf.want (U24) ⟨#[101,110,100]⟩ (b:=wrd T ⟨#[101,110,100]⟩) (fun i=>(tkIs_word (HX.out.2.1 _) (by simp [allWords])).symm) hq24
     have H24:=Hid.mk7 (H22.out.2.2.1.trans K23)
     clear ho23 T23 hv23 U23 U24 hq24 K23
     go_wp2_with fail
     refine c25.mono ?_
     rintro y w25 ⟨rfl,K25,r25,hq25,U25,hr25⟩
     have e3:=((H24.out.trans K25).cell (k:=w0.heap.size) (j:=3) (.inr rfl)).trans HE.out
     have l3:=World.block_lt_of_cell? w25 _ e3
     have H25:=Hid.mk7 (And.intro U25 hq25)
     clear c25 hq25 U25 hr25 K25
     have hq26:Then (r25) (PM.bind (pAdd ⟨8,⟨#[]⟩,⟨#[]⟩,0,([z20]++l22),ta⟩) PM.ret)=res:=by rw [PM.bind_ret]; exact H25.out.2
     have c26:=Uf.node (H25.out.1.to2) HT.out.1 HC.out (by decide) 8 ta ⟨#[]⟩ hq26
     clear hq26
     go_wp2_with fail
     refine c26.mono ?_
     rintro y w26 ⟨z26,rfl,_,r26,hq26,U26,_⟩
     have H26:=Hid.mk7 (U26.done hq26)
     clear c26 hq26 U26
     go_wp2
     go_ret
     exact H26.out
    have f5:isTk 4 ⟨#[99,97,115,101]⟩ ⟨tk,tt,tn,ta⟩=false:=by
     have h1:=hk5 s rfl
     rw [tkIs_word (HX.out.2.1 _) (by simp [allWords]),HB.out.2.1] at h1
     exact h1
    have HK5:=Hid.mk7 (HK4.out.trans K5)
    have HG5:=Hid.mk7 f5
    have c6:=U5f.take ⟨#[114,101,99,101,105,118,101]⟩
    clear c5 hk5 U5f K5 f5
    go_wp2_with fail
    refine c6.mono ?_
    rintro y w6 ⟨K6,⟨rfl,u,hu,hk,hlt,UT⟩ | ⟨rfl,hk6,U6f⟩⟩
    ·cases hu
     rw [tkIs_word (HX.out.2.1 _) (by simp [allWords]),HB.out.2.1] at hk
     have KT:=Hid.mk7 (HK5.out.trans K6)
     clear K6
     have hq1:=(single_recv hk).symm.trans HB.out.1
     have e3:=(KT.out.cell (k:=w0.heap.size) (j:=3) (.inr rfl)).trans HE.out
     have l3:=World.block_lt_of_cell? w6 _ e3
     have c20:Calls Tryz.prog 215 #[.pointer (some ⟨q,0,none⟩),.int .i64 ta] w6 _:=UT.last (HX.out.1.recvP HT.out.1 HX.out.2.1 (by have:=HX.out.2.2.1; omega) ⟨s.i+1,s.N⟩ HX.out.2.2.2 ta) hq1
     clear c6 hk hlt UT hq1
     go_wp2_with fail
     refine c20.mono ?_
     rintro y w20 ⟨z20,rfl,h20⟩
     clear c20
     go_wp2
     go_ret
     exact h20.out
    have f6:isTk 4 ⟨#[114,101,99,101,105,118,101]⟩ ⟨tk,tt,tn,ta⟩=false:=by
     have h1:=hk6 s rfl
     rw [tkIs_word (HX.out.2.1 _) (by simp [allWords]),HB.out.2.1] at h1
     exact h1
    have HK6:=Hid.mk7 (HK5.out.trans K6)
    have HG6:=Hid.mk7 f6
    have c7:=U6f.take ⟨#[116,114,121]⟩
    clear c6 hk6 U6f K6 f6
    go_wp2_with fail
    refine c7.mono ?_
    rintro y w7 ⟨K7,⟨rfl,u,hu,hk,hlt,UT⟩ | ⟨rfl,hk7,U7f⟩⟩
    ·cases hu
     rw [tkIs_word (HX.out.2.1 _) (by simp [allWords]),HB.out.2.1] at hk
     have KT:=Hid.mk7 (HK6.out.trans K7)
     clear K7
     have hq1:=(single_try hk).symm.trans HB.out.1
     have e3:=(KT.out.cell (k:=w0.heap.size) (j:=3) (.inr rfl)).trans HE.out
     have l3:=World.block_lt_of_cell? w7 _ e3
     have c20:Calls Tryz.prog 216 #[.pointer (some ⟨q,0,none⟩),.int .i64 ta] w7 _:=UT.last (HX.out.1.tryP HT.out.1 HX.out.2.1 (by have:=HX.out.2.2.1; omega) ⟨s.i+1,s.N⟩ HX.out.2.2.2 ta) hq1
     clear c7 hk hlt UT hq1
     go_wp2_with fail
     refine c20.mono ?_
     rintro y w20 ⟨z20,rfl,h20⟩
     clear c20
     go_wp2
     go_ret
     exact h20.out
    have f7:isTk 4 ⟨#[116,114,121]⟩ ⟨tk,tt,tn,ta⟩=false:=by
     have h1:=hk7 s rfl
     rw [tkIs_word (HX.out.2.1 _) (by simp [allWords]),HB.out.2.1] at h1
     exact h1
    have HK7:=Hid.mk7 (HK6.out.trans K7)
    have HG7:=Hid.mk7 f7
    have c8:=U7f.syntax
    clear c7 hk7 U7f K7 f7
    go_wp2_with fail
    refine c8.mono ?_
    rintro y w8 ⟨rfl,_,e,he,U8⟩
    have hq8:res=.error e:=by
     rw [← he,← HB.out.1]
     exact single_none HB.out.2.1 k3 k2 k1 HG1.out HG2.out HG3.out HG4.out HG5.out HG6.out HG7.out
    have HF:=Hid.mk7 (U8.done (res:=res) (by rw [hq8]; rfl))
    clear c8 U8 he hq8
    go_wp2
    go_ret
    exact HF.out
end
structure AllR (T:List Tk) (g i0:Nat):Prop where
 u:∀ f,g≤f→∀ s,i0≤s.i→PhF T 202 [] (runP T f .operand) s
 e8:∀ f,g≤f→∀ s,i0≤s.i→PhF T 202 [] (runP T f (.expr 8)) s
 e7:∀ f,g≤f→∀ s,i0≤s.i→PhF T 194 [] (runP T f (.expr 7)) s
 e6:∀ f,g≤f→∀ s,i0≤s.i→PhF T 187 [] (runP T f (.expr 6)) s
 e5:∀ f,g≤f→∀ s,i0≤s.i→PhF T 180 [] (runP T f (.expr 5)) s
 e4:∀ f,g≤f→∀ s,i0≤s.i→PhF T 172 [] (runP T f (.expr 4)) s
 e3:∀ f,g≤f→∀ s,i0≤s.i→PhF T 158 [] (runP T f (.expr 3)) s
 e2:∀ f,g≤f→∀ s,i0≤s.i→PhF T 149 [] (runP T f (.expr 2)) s
 e1:∀ f,g≤f→∀ s,i0≤s.i→PhF T 135 [] (runP T f (.expr 1)) s
theorem AllR.x {T:List Tk} {g i0:Nat} (A:AllR T g i0):XR T g i0:=A.e1
theorem lvl_ok {T:List Tk} {f:Nat} (k:Int) (hk:1≤k) {s:Ps} (hs:S2 T s s):∀ a t,phBody T (runP T f) (.expr k) s=.ok (a,t)→s.i < t.i∧a < t.N.length:=fun a t e=>by
 have h:=phBody_ok2 (Alike.refl T) (rec:=runP T f) (rec':=runP T f) (fun ph hp s s' hs=>runP_ok2 (Alike.refl T) f ph hp s s' hs) (.expr k) hk hs
 rcases h with ⟨x,h1,_⟩ | ⟨a1,a2,t1,t2,h1,_,_,h4,h5,M,_,h7⟩
 ·rw [e] at h1; cases h1
 ·rw [e] at h1
  obtain ⟨rfl,rfl⟩:a=a1∧t=t1:=by simpa using h1
  simp only [dOf] at h7
  exact ⟨by omega,h4.2⟩
theorem levels {T:List Tk} (hT:0 < T.length) (hTk:∀ i,TkOk (tokAt T i)) {g:Nat} {s:Ps} (hs:S2 T s s) (hc:Cnt T s) (A:AllR T g (s.i+1)) {f:Nat} (hf:g+4≤f) :
  PhF T 202 [] (runP T f .operand) s∧PhF T 202 [] (phBody T (runP T f) (.expr 8)) s∧PhF T 194 [] (phBody T (runP T f) (.expr 7)) s∧PhF T 187 [] (phBody T (runP T f) (.expr 6)) s∧PhF T 180 [] (phBody T (runP T f) (.expr 5)) s∧PhF T 172 [] (phBody T (runP T f) (.expr 4)) s∧PhF T 158 [] (phBody T (runP T f) (.expr 3)) s∧PhF T 149 [] (phBody T (runP T f) (.expr 2)) s∧PhF T 135 [] (phBody T (runP T f) (.expr 1)) s:=by
 have hu:PhF T 202 [] (runP T f .operand) s:=by
  obtain ⟨f,rfl⟩:∃ k,f=k+1:=⟨f - 1,by omega⟩
  exact fun w q Tv Nv N h hg=>rf_unary (rec:=runP T f) (fun s2 h2=>A.u f (by omega) s2 h2) hTk (finOf .operand trivial hs hc) (fun w q Tv Nv N h hg=>A.x.simpleP hT hTk (by omega) s (Nat.le_refl _) w q Tv Nv N h hg) h hg
 have h8:PhF T 202 [] (phBody T (runP T f) (.expr 8)) s:=fun w q Tv Nv N h hg=>by
  rw [expr_eight]
  exact hu w q Tv Nv N h hg
 have h7:PhF T 194 [] (phBody T (runP T f) (.expr 7)) s:=fun w q Tv Nv N h hg=>by
  have e:=expr_level T f 7 (by decide) (by decide) s
  rw [e]
  exact rf_product (rec:=runP T f) (m:=phBody T (runP T f) (.expr 8)) (fun w q Tv Nv N h hg=>h8 w q Tv Nv N h hg) (fun s2 h2=>A.e8 f (by omega) s2 h2) (fun s s' hs=>runP_ok2 (Alike.refl T) f (.expr 8) (by simp [okPh]) s s' hs) (lvl_ok 8 (by decide) hs) hTk h hg
 have h6:PhF T 187 [] (phBody T (runP T f) (.expr 6)) s:=fun w q Tv Nv N h hg=>by
  have e:=expr_level T f 6 (by decide) (by decide) s
  rw [e]
  exact rf_sum (rec:=runP T f) (m:=phBody T (runP T f) (.expr 7)) (fun w q Tv Nv N h hg=>h7 w q Tv Nv N h hg) (fun s2 h2=>A.e7 f (by omega) s2 h2) (fun s s' hs=>runP_ok2 (Alike.refl T) f (.expr 7) (by simp [okPh]) s s' hs) (lvl_ok 7 (by decide) hs) hTk h hg
 have h5:PhF T 180 [] (phBody T (runP T f) (.expr 5)) s:=fun w q Tv Nv N h hg=>by
  have e:=expr_level T f 5 (by decide) (by decide) s
  rw [e]
  exact rf_appended (rec:=runP T f) (m:=phBody T (runP T f) (.expr 6)) (fun w q Tv Nv N h hg=>h6 w q Tv Nv N h hg) (fun s2 h2=>A.e5 f (by omega) s2 h2) (Fwd.of T f (.expr 5) (by simp [okPh])) (fun a t e=>(lvl_ok 6 (by decide) hs a t e).1) hTk (fun a u e2=>finOf (.expr 5) (by simp [okPh]) hs hc a u (e.trans e2)) h hg
 have h4:PhF T 172 [] (phBody T (runP T f) (.expr 4)) s:=fun w q Tv Nv N h hg=>by
  have e:=expr_level T f 4 (by decide) (by decide) s
  rw [e]
  exact rf_compared (rec:=runP T f) (m:=phBody T (runP T f) (.expr 5)) (fun w q Tv Nv N h hg=>h5 w q Tv Nv N h hg) (fun s2 h2=>A.e5 f (by omega) s2 h2) (Fwd.of T f (.expr 5) (by simp [okPh])) (fun a t e=>(lvl_ok 5 (by decide) hs a t e).1) hTk (fun a u e2=>finOf (.expr 4) (by simp [okPh]) hs hc a u (e.trans e2)) h hg
 have h3:PhF T 158 [] (phBody T (runP T f) (.expr 3)) s:=fun w q Tv Nv N h hg=>by
  have e:=expr_level T f 3 (by decide) (by decide) s
  rw [e]
  exact rf_and (rec:=runP T f) (m:=phBody T (runP T f) (.expr 4)) (fun w q Tv Nv N h hg=>h4 w q Tv Nv N h hg) (fun s2 h2=>A.e3 f (by omega) s2 h2) (Fwd.of T f (.expr 3) (by simp [okPh])) (fun a t e=>(lvl_ok 4 (by decide) hs a t e).1) hTk (fun a u e2=>finOf (.expr 3) (by simp [okPh]) hs hc a u (e.trans e2)) h hg
 have h2:PhF T 149 [] (phBody T (runP T f) (.expr 2)) s:=fun w q Tv Nv N h hg=>by
  have e:=expr_level T f 2 (by decide) (by decide) s
  rw [e]
  exact rf_or (rec:=runP T f) (m:=phBody T (runP T f) (.expr 3)) (fun w q Tv Nv N h hg=>h3 w q Tv Nv N h hg) (fun s2 h2=>A.e2 f (by omega) s2 h2) (Fwd.of T f (.expr 2) (by simp [okPh])) (fun a t e=>(lvl_ok 3 (by decide) hs a t e).1) hTk (fun a u e2=>finOf (.expr 2) (by simp [okPh]) hs hc a u (e.trans e2)) h hg
 have h1:PhF T 135 [] (phBody T (runP T f) (.expr 1)) s:=fun w q Tv Nv N h hg=>by
  have e:=expr_level T f 1 (by decide) (by decide) s
  rw [e]
  exact rf_exp (rec:=runP T f) (m:=phBody T (runP T f) (.expr 2)) (fun w q Tv Nv N h hg=>h2 w q Tv Nv N h hg) (fun s2 h2=>A.e1 f (by omega) s2 h2) (Fwd.of T f (.expr 1) (by simp [okPh])) (fun a t e=>(lvl_ok 2 (by decide) hs a t e).1) hTk (fun a u e2=>finOf (.expr 1) (by simp [okPh]) hs hc a u (e.trans e2)) h hg
 exact ⟨hu,h8,h7,h6,h5,h4,h3,h2,h1⟩
theorem all_levels {T:List Tk} (hT:0 < T.length) (hTk:∀ i,TkOk (tokAt T i)):∀ (n i0:Nat),T.length+1≤i0+n→AllR T (8*n) i0
 | 0,i0,hi=>by
  have no:∀ {F:FuncId} {m:PM Nat} {s:Ps},i0≤s.i→PhF T F [] m s:=fun hs w q Tv Nv N h hg=>by
   have:=h.ok.il
   omega
  exact ⟨fun _ _ _ hs=>no hs,fun _ _ _ hs=>no hs,fun _ _ _ hs=>no hs,fun _ _ _ hs=>no hs,fun _ _ _ hs=>no hs,fun _ _ _ hs=>no hs,fun _ _ _ hs=>no hs,fun _ _ _ hs=>no hs,fun _ _ _ hs=>no hs⟩
 | n+1,i0,hi=>by
  have A:=all_levels hT hTk n (i0+1) (by omega)
  have L:=fun {s:Ps} (hs:S2 T s s) (hc:Cnt T s) (e:s.i=i0) {f:Nat} (hf:8*n+4≤f)=>levels hT hTk hs hc (e ▸ A) (f:=f) hf
  refine ⟨fun f hf s hs=>?_,fun f hf s hs=>?_,fun f hf s hs=>?_,fun f hf s hs=>?_,fun f hf s hs=>?_,fun f hf s hs=>?_,fun f hf s hs=>?_,fun f hf s hs=>?_,fun f hf s hs=>?_⟩
  ·by_cases e:s.i=i0
   ·exact fun w q Tv Nv N h hg=>(L h.ok h.cnt e (f:=f) (by omega)).1 w q Tv Nv N h hg
   ·exact A.u f (by omega) s (by omega)
  ·by_cases e:s.i=i0
   ·obtain ⟨f,rfl⟩:∃ k,f=k+1:=⟨f - 1,by omega⟩
    exact fun w q Tv Nv N h hg=>(L h.ok h.cnt e (f:=f) (by omega)).2.1 w q Tv Nv N h hg
   ·exact A.e8 f (by omega) s (by omega)
  ·by_cases e:s.i=i0
   ·obtain ⟨f,rfl⟩:∃ k,f=k+1:=⟨f - 1,by omega⟩
    exact fun w q Tv Nv N h hg=>(L h.ok h.cnt e (f:=f) (by omega)).2.2.1 w q Tv Nv N h hg
   ·exact A.e7 f (by omega) s (by omega)
  ·by_cases e:s.i=i0
   ·obtain ⟨f,rfl⟩:∃ k,f=k+1:=⟨f - 1,by omega⟩
    exact fun w q Tv Nv N h hg=>(L h.ok h.cnt e (f:=f) (by omega)).2.2.2.1 w q Tv Nv N h hg
   ·exact A.e6 f (by omega) s (by omega)
  ·by_cases e:s.i=i0
   ·obtain ⟨f,rfl⟩:∃ k,f=k+1:=⟨f - 1,by omega⟩
    exact fun w q Tv Nv N h hg=>(L h.ok h.cnt e (f:=f) (by omega)).2.2.2.2.1 w q Tv Nv N h hg
   ·exact A.e5 f (by omega) s (by omega)
  ·by_cases e:s.i=i0
   ·obtain ⟨f,rfl⟩:∃ k,f=k+1:=⟨f - 1,by omega⟩
    exact fun w q Tv Nv N h hg=>(L h.ok h.cnt e (f:=f) (by omega)).2.2.2.2.2.1 w q Tv Nv N h hg
   ·exact A.e4 f (by omega) s (by omega)
  ·by_cases e:s.i=i0
   ·obtain ⟨f,rfl⟩:∃ k,f=k+1:=⟨f - 1,by omega⟩
    exact fun w q Tv Nv N h hg=>(L h.ok h.cnt e (f:=f) (by omega)).2.2.2.2.2.2.1 w q Tv Nv N h hg
   ·exact A.e3 f (by omega) s (by omega)
  ·by_cases e:s.i=i0
   ·obtain ⟨f,rfl⟩:∃ k,f=k+1:=⟨f - 1,by omega⟩
    exact fun w q Tv Nv N h hg=>(L h.ok h.cnt e (f:=f) (by omega)).2.2.2.2.2.2.2.1 w q Tv Nv N h hg
   ·exact A.e2 f (by omega) s (by omega)
  ·by_cases e:s.i=i0
   ·obtain ⟨f,rfl⟩:∃ k,f=k+1:=⟨f - 1,by omega⟩
    exact fun w q Tv Nv N h hg=>(L h.ok h.cnt e (f:=f) (by omega)).2.2.2.2.2.2.2.2 w q Tv Nv N h hg
   ·exact A.e1 f (by omega) s (by omega)
end Go.Proofs.YtlciaafincgdeaaGreatDoor
