/-
  Layer 11 (parse): the document's parser: a try, behind its word.
  Layer 11 (parse): the document's parser: a receive, behind its word.
-/
import Derived.Test.YtlciaafincgdeaaGreatDoorZar
namespace Go.Proofs.YtlciaafincgdeaaGreatDoor
open Go.RowKit
set_option maxHeartbeats 6400000
set_option maxRecDepth 100000
theorem rowL_preK {α:Type} {T:List Tk} {x:ByteArray} {ph:PM Nat} {K:List Int→PM α} (k:Int):∀ (f:Nat) (acc:List Int) (s:Ps),PM.bind (rowL T x ph f acc) (fun ks=>K (k :: ks)) s=PM.bind (rowL T x ph f (k :: acc)) K s
 | 0,acc,s=>rfl
 | f+1,acc,s=>by
  simp only [rowL,PM.bind,pIf]
  cases hc:sgn T x s.i with
  | false=>rfl
  | true=>
   simp only [if_true,pSkip]
   cases h1:ph ⟨s.i+1,s.N⟩ with
   | error e=>rfl
   | ok av=>exact rowL_preK k f (acc++[(av.1:Int)]) av.2
theorem rowH_pre {α:Type} {T:List Tk} {x:ByteArray} {ph:PM Nat} {K:List Int→PM α} (k:Int):PM.bind (row T x ph) (fun ks=>K (k :: ks))=rowH T x ph (T.length+1) [k] K:=by
 rw [rowH_start]
 funext s
 simp only [rowH,PM.bind]
 cases ph s with
 | error e=>rfl
 | ok av=>exact rowL_preK k (T.length+1) [(av.1:Int)] av.2
def tryB (T:List Tk) (rec:Ph→PM Nat) (at_:Int):PM Nat:=PM.bind (rec .body) fun k=>PM.bind (pNeed T (wrd T ⟨#[99,97,116,99,104]⟩)) fun _=>PM.bind (row T ⟨#[59]⟩ (rec .cclause)) fun ks=>PM.bind (pNeed T (wrd T ⟨#[101,110,100]⟩)) fun _=>pAdd ⟨10,⟨#[]⟩,⟨#[]⟩,0,(k:Int) :: ks,at_⟩
theorem class_ne {T:List Tk} {i:Nat} (h:atClass T i=true):(tokAt T i).text.toList.isEmpty=false:=by
 have hn:¬ (tokAt T i).text=⟨#[]⟩:=by
  simp only [atClass,Bool.and_eq_true,Bool.or_eq_true,decide_eq_true_eq,isTk] at h
  rcases h.1 with ⟨_,(h1 | h1) | h1⟩ | ⟨_,h1⟩ <;> rw [h1] <;> simp
 rw [List.isEmpty_eq_false_iff]
 exact fun e=>bytes_ne hn (e.trans (by rw [ByteArray.toList_eq]))
section
variable {T:List Tk} {g i0:Nat}
theorem XR.tryP (X:XR T g i0) (hT:0 < T.length) (hTk:∀ i,TkOk (tokAt T i)) {f:Nat} (hf:g+3≤f) (s:Ps) (hs:i0≤s.i) (at_:Int):PhF T 216 [.int .i64 at_] (tryB T (runP T f) at_) s:=by
 intro w q Tv Nv N h hg
 obtain ⟨f,rfl⟩:∃ k,f=k+1:=⟨f - 1,by omega⟩
 obtain ⟨res,hres⟩:∃ res,tryB T (runP T (f+1)) at_ s=res:=⟨_,rfl⟩
 rw [hres]
 show Calls Tryz.prog _ #[.pointer (some ⟨q,0,none⟩),.int .i64 at_] w _
 have U0:=Uf.start h hg (T.length+2)
 have HC:=Hid.mk7 h.cnt
 have HT:=Hid.mk7 (And.intro hT h.at_.tl)
 have HX:=Hid.mk7 (And.intro X (And.intro hTk (And.intro (show g+2≤f by omega) hs)))
 have hfa:=Tryz.tokPlace
 have c0:Calls Tryz.prog 124 #[.pointer (some ⟨q,0,none⟩)] w _:=Uf.phrase (U0) (dm:=2) (fun u e=>HX.out.1.body HT.out.1 HX.out.2.1 (by have:=HX.out.2.2.1; omega) u (by cases e; exact HX.out.2.2.2)) (fun _ _=>b_body) (fun u _ hs=>o_run (f+1) .body trivial hs) hres
 clear h hg U0 X hTk hf hs hres hT
 go_enter Tryz.func216,Tryz.ntmps216
 go_wp2_with fail
 refine c0.mono ?_
 rintro y w0 ⟨z0,rfl,K0,r0,hq0,U0,hr0⟩
 have hq1:=U0.cast (k:=fun k=>PM.bind (pNeed T (wrd T ⟨#[99,97,116,99,104]⟩)) fun _=>PM.bind (row T ⟨#[59]⟩ (runP T (f+1) .cclause)) fun ks=>PM.bind (pNeed T (wrd T ⟨#[101,110,100]⟩)) fun _=>pAdd ⟨10,⟨#[]⟩,⟨#[]⟩,0,k :: ks,at_⟩) hq0
 have U1:=(U0.lit HT.out.1 (OwnI.one w0 z0 3) (by simp) (by simp)).to1
 have c2:=Uf.want (U1) ⟨#[99,97,116,99,104]⟩ (b:=wrd T ⟨#[99,97,116,99,104]⟩) (fun i=>(tkIs_word (HX.out.2.1 _) (by simp [allWords])).symm) hq1
 have H0:=Hid.mk7 hr0
 clear c0 hq0 U0 hr0 hq1 U1 K0
 go_wp2_with fail
 refine c2.mono ?_
 rintro y w2 ⟨rfl,K2,r2,hq2,U2,hr2⟩
 have hi2:∀ u,r2=.ok u→s.i+1≤u.i:=fun u e=>by
  obtain ⟨v,e1,_,rfl⟩:=hr2 u e
  obtain ⟨v2,e2,_,e3,_⟩:=H0.out v e1
  cases e2
  simp
  omega
 have hq3:Then r2 (rowH T ⟨#[59]⟩ (runP T (f+1) .cclause) (T.length+1) [z0] (fun ks=>PM.bind (pNeed T (wrd T ⟨#[101,110,100]⟩)) fun _=>pAdd ⟨10,⟨#[]⟩,⟨#[]⟩,0,ks,at_⟩))=res:=by
  rw [← rowH_pre]
  exact hq2
 have H2:=Hid.mk7 (And.intro ((U2.weak (d':=0) (by decide)).nums (zs':=[]) (fun z hz=>by cases hz)) (And.intro hq3 hi2))
 clear c2 hq2 U2 hr2 hi2 hq3 K2
 go_wp2_with fail
 go_loopw [5] (fun V wr=>RwU T ⟨#[59]⟩ (runP T (f+1) .cclause) (fun ks=>PM.bind (pNeed T (wrd T ⟨#[101,110,100]⟩)) fun _=>pAdd ⟨10,⟨#[]⟩,⟨#[]⟩,0,ks,at_⟩) 0 w wr q Tv Nv N s noH w res V) (fun _ wr=>leftOf T wr q)
 case atStart=>exact ⟨[z0],r2,T.length+1,H2.out.1,fun _ e=>e.elim,H2.out.2.1,by simp,fun u e=>by have:=H2.out.2.2 u e; have:=HT.out.1; simp; omega⟩
 case round=>
  obtain ⟨l,r,fu,U,K1,hq,hl,hr⟩:=hrel
  obtain ⟨aV,cV,hV,_⟩:=OwnK.sl U.a.own |>.form
  subst hV
  have HK:=Hid.mk7 K1
  have HV:=Hid.mk7 hl
  clear K1
  cases r with
  | error e=>
   have hb:=U.x.1.bad
   have H1:=Hid.mk7 (And.intro U hq)
   clear U hq hr hl
   have c8:=Uf.want (H1.out.1) ⟨#[101,110,100]⟩ (b:=wrd T ⟨#[101,110,100]⟩) (k:=pAdd ⟨10,⟨#[]⟩,⟨#[]⟩,0,l,at_⟩) (fun i=>(tkIs_word (HX.out.2.1 _) (by simp [allWords])).symm) H1.out.2
   go_wp2_with fail
   refine c8.mono ?_
   rintro y w8 ⟨rfl,K8,r8,hq8,U8,hr8⟩
   have H8:=Hid.mk7 (And.intro U8 hq8)
   clear c8 hq8 U8 hr8 K8
   have hq9:Then (r8) (PM.bind (pAdd ⟨10,⟨#[]⟩,⟨#[]⟩,0,l,at_⟩) PM.ret)=res:=by rw [PM.bind_ret]; exact H8.out.2
   have c9:=Uf.node (H8.out.1.to2) HT.out.1 HC.out (by decide) 10 at_ ⟨#[]⟩ hq9
   clear hq9
   go_wp2_with fail
   refine c9.mono ?_
   rintro y w9 ⟨z9,rfl,_,r9,hq9,U9,_⟩
   have H9:=Hid.mk7 (U9.done hq9)
   clear c9 hq9 U9
   go_wp2
   go_ret
   exact H9.out
  | ok u=>
   have hb:=U.x.2.1.c3.1
   have HL:=Hid.mk7 (And.intro U.left (And.intro U.il (And.intro (hr u rfl) hl)))
   have H1:=Hid.mk7 (And.intro U hq)
   clear U hq hr hl
   have c1:=H1.out.1.token 0 (by omega)
   go_wp2_with fail
   refine c1.mono ?_
   rintro y w1 ⟨⟨tk1,tt1,tn1,ta1⟩,rfl,hb1,ht1,_⟩
   have hta1:(tokAt T u.i).at_=ta1:=by have:=ht1 u rfl; simp at this; rw [← this]
   have c2:=(H1.out.1.below hb1).class (HX.out.2.1 _)
   have HK1:=Hid.mk7 (H1.out.1.kb hb1)
   simp only [Tk.val]
   go_wp2_with fail
   refine c2.mono ?_
   rintro y w2 ⟨rfl,K2,U2⟩
   have HK2:=Hid.mk7 (HK1.out.trans K2)
   clear c2 K2
   cases hcl:atClass T u.i with
   | true=>
    rw [hcl] at U2
    have hne:=class_ne hcl
    simp only [if_true] at U2 ⊢
    obtain ⟨ct,hct⟩:∃ ct,(tokAt T u.i).text=ct:=⟨_,rfl⟩
    rw [hct] at hne ⊢
    have hq1:Then (.ok ⟨u.i+2,u.N⟩) (PM.bind (runP T f (.expr 1)) fun k=>PM.bind (rest T (runP T f) ⟨20,ct,⟨#[]⟩,0,[],ta1⟩ k) fun k=>PM.bind (rowL T ⟨#[59]⟩ (runP T (f+1) .cclause) fu (l++[(k:Int)])) (fun ks=>PM.bind (pNeed T (wrd T ⟨#[101,110,100]⟩)) fun _=>pAdd ⟨10,⟨#[]⟩,⟨#[]⟩,0,ks,at_⟩))=res:=by
     rw [← H1.out.2,← hta1,← hct]
     simp only [Then,rowH,runP,phBody,PM.bind,pTok,whole,pIf,hcl,if_true,pSkip,PM.ret]
     cases runP T f (.expr 1) ⟨u.i+2,u.N⟩ <;> rfl
    have c3:Calls Tryz.prog 135 #[.pointer (some ⟨q,0,none⟩)] w2 _:=Uf.phrase (U2) (dm:=3) (fun u e=>HX.out.1 f (by have:=HX.out.2.2.1; omega) u (by cases e; have:=HX.out.2.2.2; have:=HL.out.2.1.2; simp; omega)) (fun _ _=>b_exp) (fun u _ hs=>o_run f (.expr 1) (by simp [okPh]) hs) hq1
    clear c1 hb hb1 ht1 hq1 hta1 hct
    go_wp2_with fail
    refine c3.mono ?_
    rintro y w4 ⟨z2,rfl,K2,r2,hq2,U4,hr2⟩
    have hi2:∀ v,r2=.ok v→u.i < v.i:=fun v e=>by
     obtain ⟨v2,e1,_,_,e2⟩:=hr2 v e
     cases e1
     have:=e2 (by decide)
     simp at this
     omega
    have c4:Calls Tryz.prog 102 #[.pointer (some ⟨q,0,none⟩),.int .i64 ta1,.string ct,.int .i64 z2] w4 _:=U4.phrase (dm:=5) (fun u2 e=>HX.out.1.restZ HT.out.1 HX.out.2.1 HX.out.2.2.1 u2 (by have:=hi2 u2 e; have:=HX.out.2.2.2; have:=HL.out.2.1.2; omega) ta1 ct z2 (U4.pos (by simp) u2 e)) (fun _ _=>b_rest _ _ _) (fun u2 e hs=>o_rest f _ (U4.pos (by simp) u2 e).2 hs) hq2
    have HI:=Hid.mk7 (And.intro hi2 (HK2.out.trans K2))
    clear c3 hq2 U4 hr2 hi2 K2 U2
    go_wp2_with fail
    refine c4.mono ?_
    rintro y w3 ⟨z3,rfl,K3,r3,hq3,U3,hr3⟩
    have hq4:=U3.cast (k:=fun k=>PM.bind (rowL T ⟨#[59]⟩ (runP T (f+1) .cclause) fu (l++[k])) (fun ks=>PM.bind (pNeed T (wrd T ⟨#[101,110,100]⟩)) fun _=>pAdd ⟨10,⟨#[]⟩,⟨#[]⟩,0,ks,at_⟩)) hq3
    have hi4:∀ v,r3=.ok v→u.i < v.i:=fun v e=>by obtain ⟨v2,e1,_,e2,_⟩:=hr3 v e; have:=HI.out.1 v2 e1; omega
    have H3:=Hid.mk7 (And.intro U3 (And.intro hq4 (And.intro hi4 (HI.out.2.trans K3))))
    clear c4 hq3 U3 hr3 hq4 hi4 K3
    go_wp2_with (at_builtin; refine wpList_append_k (by rfl) (.tmp 25) (.tmp 32) (by rfl) Tryz.intTypes (by rfl) (by rfl) (OwnK.turned H3.out.1.a.own (Turned.alloc (fun _=>False) _ _) (fun _ _ e=>e)) (SlI.one _ _ _) (ints_one _) (by have:=H3.out.1.a.len; have:=HT.out.2; simp; omega) (by have:=H3.out.1.a.len; have:=HT.out.2; simp; omega) ?_; intro V4 w4 ho4 T4 hv4)
    obtain ⟨U4a,K4⟩:=H3.out.1.push HT.out.1 (Below.alloc0 w3 _) ho4 T4 hv4 (by have:=HL.out.2.2.2; simp; omega) (by simp)
    obtain ⟨aW,cW,hW,_⟩:=OwnK.sl ho4 |>.form
    have U4:=U4a.nums (zs':=[]) (fun z hz=>by cases hz)
    clear U4a
    rw [hW] at U4
    subst hW
    have c5:=U4.take ⟨#[59]⟩
    have HK4:=Hid.mk7 ((H3.out.2.2.2).trans K4)
    clear ho4 T4 hv4 U4 K4
    go_wp2_with fail
    refine c5.mono ?_
    rintro y w5 ⟨K5,⟨rfl,v,hv,hk,hlt,U5⟩ | ⟨rfl,hk,U5⟩⟩
    ·subst hv
     have hk:sgn T ⟨#[59]⟩ v.i=true:=by rw [tkIs_sign (HX.out.2.1 _) (by simp [allSigns])] at hk; exact hk
     have hq5:Then (.ok ⟨v.i+1,v.N⟩) (rowH T ⟨#[59]⟩ (runP T (f+1) .cclause) (fu - 1) (l++[z3]) (fun ks=>PM.bind (pNeed T (wrd T ⟨#[101,110,100]⟩)) fun _=>pAdd ⟨10,⟨#[]⟩,⟨#[]⟩,0,ks,at_⟩))=res:=(rowH_next (by have:=HL.out.2.2.1.1; omega) hk).symm.trans H3.out.2.1
     have H5:=Hid.mk7 (And.intro (U5.weak (d':=0) (by decide)) (And.intro hq5 (And.intro hlt ((HK.out.trans HK4.out).trans K5))))
     clear c5 hk hlt U5 hq5 K5
     go_wp2
     go_roundw
     case rel=>
      refine ⟨l++[z3],.ok ⟨v.i+1,v.N⟩,fu - 1,H5.out.1,H5.out.2.2.2,H5.out.2.1,?_,fun u2 e=>?_⟩
      ·have h1:=H3.out.2.2.1 v rfl; have:=HL.out.2.2.1.2; have:=H5.out.2.2.1; simp; omega
      ·cases e
       have h1:=H3.out.2.2.1 v rfl
       have h2:=HL.out.2.2.1
       have:=H5.out.2.2.1
       simp
       omega
     case measure=>
      have h1:=H3.out.2.2.1 v rfl
      have h2:=H5.out.1.left
      have h3:=HL.out.1
      have h4:=H5.out.2.2.1
      simp only at h2 h3
      omega
    ·have hq5:=(rowH_stop (K:=fun ks=>PM.bind (pNeed T (wrd T ⟨#[101,110,100]⟩)) fun _=>pAdd ⟨10,⟨#[]⟩,⟨#[]⟩,0,ks,at_⟩) (fun u2 e=>by have:=HL.out.2.2.1.1; omega) (fun u2 e=>by have:=hk u2 e; rw [tkIs_sign (HX.out.2.1 _) (by simp [allSigns])] at this; exact this)).symm.trans H3.out.2.1
     have H5:=Hid.mk7 (And.intro U5 (And.intro hq5 ((HK.out.trans HK4.out).trans K5)))
     clear c5 hk U5 hq5 K5
     have c8:=Uf.want (H5.out.1) ⟨#[101,110,100]⟩ (b:=wrd T ⟨#[101,110,100]⟩) (k:=pAdd ⟨10,⟨#[]⟩,⟨#[]⟩,0,(l++[z3]),at_⟩) (fun i=>(tkIs_word (HX.out.2.1 _) (by simp [allWords])).symm) H5.out.2.1
     go_wp2_with fail
     refine c8.mono ?_
     rintro y w8 ⟨rfl,K8,r8,hq8,U8,hr8⟩
     have H8:=Hid.mk7 (And.intro U8 hq8)
     clear c8 hq8 U8 hr8 K8
     have hq9:Then (r8) (PM.bind (pAdd ⟨10,⟨#[]⟩,⟨#[]⟩,0,(l++[z3]),at_⟩) PM.ret)=res:=by rw [PM.bind_ret]; exact H8.out.2
     have c9:=Uf.node (H8.out.1.to2) HT.out.1 HC.out (by decide) 10 at_ ⟨#[]⟩ hq9
     clear hq9
     go_wp2_with fail
     refine c9.mono ?_
     rintro y w9 ⟨z9,rfl,_,r9,hq9,U9,_⟩
     have H9:=Hid.mk7 (U9.done hq9)
     clear c9 hq9 U9
     go_wp2
     go_ret
     exact H9.out
   | false=>
    rw [hcl] at U2
    simp only [Bool.false_eq_true,if_false] at U2 ⊢
    have hq1:Then (.ok ⟨u.i,u.N⟩) (PM.bind (runP T f (.expr 1)) fun k=>PM.bind (rest T (runP T f) ⟨20,⟨#[116,104,114,111,119]⟩,⟨#[]⟩,0,[],ta1⟩ k) fun k=>PM.bind (rowL T ⟨#[59]⟩ (runP T (f+1) .cclause) fu (l++[(k:Int)])) (fun ks=>PM.bind (pNeed T (wrd T ⟨#[101,110,100]⟩)) fun _=>pAdd ⟨10,⟨#[]⟩,⟨#[]⟩,0,ks,at_⟩))=res:=by
     rw [← H1.out.2,← hta1]
     simp only [Then,rowH,runP,phBody,PM.bind,pTok,whole,pIf,hcl,Bool.false_eq_true,if_false,pSkip,PM.ret]
     cases runP T f (.expr 1) ⟨u.i,u.N⟩ <;> rfl
    have c3:Calls Tryz.prog 135 #[.pointer (some ⟨q,0,none⟩)] w2 _:=Uf.phrase (U2) (dm:=3) (fun u e=>HX.out.1 f (by have:=HX.out.2.2.1; omega) u (by cases e; have:=HX.out.2.2.2; have:=HL.out.2.1.2; simp; omega)) (fun _ _=>b_exp) (fun u _ hs=>o_run f (.expr 1) (by simp [okPh]) hs) hq1
    clear c1 hb hb1 ht1 hq1 hta1
    go_wp2_with fail
    refine c3.mono ?_
    rintro y w4 ⟨z2,rfl,K2,r2,hq2,U4,hr2⟩
    have hi2:∀ v,r2=.ok v→u.i < v.i:=fun v e=>by
     obtain ⟨v2,e1,_,_,e2⟩:=hr2 v e
     cases e1
     have:=e2 (by decide)
     simp at this
     omega
    have c4:Calls Tryz.prog 102 #[.pointer (some ⟨q,0,none⟩),.int .i64 ta1,.string ⟨#[116,104,114,111,119]⟩,.int .i64 z2] w4 _:=U4.phrase (dm:=5) (fun u2 e=>HX.out.1.restZ HT.out.1 HX.out.2.1 HX.out.2.2.1 u2 (by have:=hi2 u2 e; have:=HX.out.2.2.2; have:=HL.out.2.1.2; omega) ta1 ⟨#[116,104,114,111,119]⟩ z2 (U4.pos (by simp) u2 e)) (fun _ _=>b_rest _ _ _) (fun u2 e hs=>o_rest f _ (U4.pos (by simp) u2 e).2 hs) hq2
    have HI:=Hid.mk7 (And.intro hi2 (HK2.out.trans K2))
    clear c3 hq2 U4 hr2 hi2 K2 U2
    go_wp2_with fail
    refine c4.mono ?_
    rintro y w3 ⟨z3,rfl,K3,r3,hq3,U3,hr3⟩
    have hq4:=U3.cast (k:=fun k=>PM.bind (rowL T ⟨#[59]⟩ (runP T (f+1) .cclause) fu (l++[k])) (fun ks=>PM.bind (pNeed T (wrd T ⟨#[101,110,100]⟩)) fun _=>pAdd ⟨10,⟨#[]⟩,⟨#[]⟩,0,ks,at_⟩)) hq3
    have hi4:∀ v,r3=.ok v→u.i < v.i:=fun v e=>by obtain ⟨v2,e1,_,e2,_⟩:=hr3 v e; have:=HI.out.1 v2 e1; omega
    have H3:=Hid.mk7 (And.intro U3 (And.intro hq4 (And.intro hi4 (HI.out.2.trans K3))))
    clear c4 hq3 U3 hr3 hq4 hi4 K3
    go_wp2_with (at_builtin; refine wpList_append_k (by rfl) (.tmp 25) (.tmp 32) (by rfl) Tryz.intTypes (by rfl) (by rfl) (OwnK.turned H3.out.1.a.own (Turned.alloc (fun _=>False) _ _) (fun _ _ e=>e)) (SlI.one _ _ _) (ints_one _) (by have:=H3.out.1.a.len; have:=HT.out.2; simp; omega) (by have:=H3.out.1.a.len; have:=HT.out.2; simp; omega) ?_; intro V4 w4 ho4 T4 hv4)
    obtain ⟨U4a,K4⟩:=H3.out.1.push HT.out.1 (Below.alloc0 w3 _) ho4 T4 hv4 (by have:=HL.out.2.2.2; simp; omega) (by simp)
    obtain ⟨aW,cW,hW,_⟩:=OwnK.sl ho4 |>.form
    have U4:=U4a.nums (zs':=[]) (fun z hz=>by cases hz)
    clear U4a
    rw [hW] at U4
    subst hW
    have c5:=U4.take ⟨#[59]⟩
    have HK4:=Hid.mk7 ((H3.out.2.2.2).trans K4)
    clear ho4 T4 hv4 U4 K4
    go_wp2_with fail
    refine c5.mono ?_
    rintro y w5 ⟨K5,⟨rfl,v,hv,hk,hlt,U5⟩ | ⟨rfl,hk,U5⟩⟩
    ·subst hv
     have hk:sgn T ⟨#[59]⟩ v.i=true:=by rw [tkIs_sign (HX.out.2.1 _) (by simp [allSigns])] at hk; exact hk
     have hq5:Then (.ok ⟨v.i+1,v.N⟩) (rowH T ⟨#[59]⟩ (runP T (f+1) .cclause) (fu - 1) (l++[z3]) (fun ks=>PM.bind (pNeed T (wrd T ⟨#[101,110,100]⟩)) fun _=>pAdd ⟨10,⟨#[]⟩,⟨#[]⟩,0,ks,at_⟩))=res:=(rowH_next (by have:=HL.out.2.2.1.1; omega) hk).symm.trans H3.out.2.1
     have H5:=Hid.mk7 (And.intro (U5.weak (d':=0) (by decide)) (And.intro hq5 (And.intro hlt ((HK.out.trans HK4.out).trans K5))))
     clear c5 hk hlt U5 hq5 K5
     go_wp2
     go_roundw
     case rel=>
      refine ⟨l++[z3],.ok ⟨v.i+1,v.N⟩,fu - 1,H5.out.1,H5.out.2.2.2,H5.out.2.1,?_,fun u2 e=>?_⟩
      ·have h1:=H3.out.2.2.1 v rfl; have:=HL.out.2.2.1.2; have:=H5.out.2.2.1; simp; omega
      ·cases e
       have h1:=H3.out.2.2.1 v rfl
       have h2:=HL.out.2.2.1
       have:=H5.out.2.2.1
       simp
       omega
     case measure=>
      have h1:=H3.out.2.2.1 v rfl
      have h2:=H5.out.1.left
      have h3:=HL.out.1
      have h4:=H5.out.2.2.1
      simp only at h2 h3
      omega
    ·have hq5:=(rowH_stop (K:=fun ks=>PM.bind (pNeed T (wrd T ⟨#[101,110,100]⟩)) fun _=>pAdd ⟨10,⟨#[]⟩,⟨#[]⟩,0,ks,at_⟩) (fun u2 e=>by have:=HL.out.2.2.1.1; omega) (fun u2 e=>by have:=hk u2 e; rw [tkIs_sign (HX.out.2.1 _) (by simp [allSigns])] at this; exact this)).symm.trans H3.out.2.1
     have H5:=Hid.mk7 (And.intro U5 (And.intro hq5 ((HK.out.trans HK4.out).trans K5)))
     clear c5 hk U5 hq5 K5
     have c8:=Uf.want (H5.out.1) ⟨#[101,110,100]⟩ (b:=wrd T ⟨#[101,110,100]⟩) (k:=pAdd ⟨10,⟨#[]⟩,⟨#[]⟩,0,(l++[z3]),at_⟩) (fun i=>(tkIs_word (HX.out.2.1 _) (by simp [allWords])).symm) H5.out.2.1
     go_wp2_with fail
     refine c8.mono ?_
     rintro y w8 ⟨rfl,K8,r8,hq8,U8,hr8⟩
     have H8:=Hid.mk7 (And.intro U8 hq8)
     clear c8 hq8 U8 hr8 K8
     have hq9:Then (r8) (PM.bind (pAdd ⟨10,⟨#[]⟩,⟨#[]⟩,0,(l++[z3]),at_⟩) PM.ret)=res:=by rw [PM.bind_ret]; exact H8.out.2
     have c9:=Uf.node (H8.out.1.to2) HT.out.1 HC.out (by decide) 10 at_ ⟨#[]⟩ hq9
     clear hq9
     go_wp2_with fail
     refine c9.mono ?_
     rintro y w9 ⟨z9,rfl,_,r9,hq9,U9,_⟩
     have H9:=Hid.mk7 (U9.done hq9)
     clear c9 hq9 U9
     go_wp2
     go_ret
     exact H9.out
end
def recvK (T:List Tk) (at_:Int) (ks:List Int):PM Nat:=PM.bind (pNeed T (wrd T ⟨#[101,110,100]⟩)) fun _=>pAdd ⟨12,⟨#[]⟩,⟨#[]⟩,0,ks,at_⟩
def recvB (T:List Tk) (rec:Ph→PM Nat) (at_:Int):PM Nat:=PM.bind (choices T rec) (recvK T at_)
def recvA (T:List Tk) (rec:Ph→PM Nat) (at_:Int) (ks:List Int):PM Nat:=pIf (wrd T ⟨#[97,102,116,101,114]⟩) (PM.bind (after T rec) fun k=>recvK T at_ (ks++[(k:Int)])) (recvK T at_ ks)
theorem recv_after {T:List Tk} {rec:Ph→PM Nat} {at_:Int} {s:Ps} (h:wrd T ⟨#[97,102,116,101,114]⟩ s.i=true):recvB T rec at_ s=recvA T rec at_ [] s:=by
 simp only [recvB,choices,recvA,PM.bind,pIf,h,if_true,PM.ret]
 cases after T rec s <;> rfl
theorem recv_first {T:List Tk} {rec:Ph→PM Nat} {at_:Int} {s:Ps} (h:wrd T ⟨#[97,102,116,101,114]⟩ s.i=false):recvB T rec at_ s=PM.bind (row T ⟨#[59]⟩ (rec .clause)) (recvA T rec at_) s:=by
 simp only [recvB,choices,recvA,PM.bind,pIf,h,Bool.false_eq_true,if_false]
 cases row T ⟨#[59]⟩ (rec .clause) s with
 | error e=>rfl
 | ok av=>
  simp only
  cases wrd T ⟨#[97,102,116,101,114]⟩ av.2.i with
  | false=>rfl
  | true=>
   simp only [if_true,PM.ret]
   cases after T rec av.2 <;> rfl
theorem recvA_on {T:List Tk} {rec:Ph→PM Nat} {at_:Int} {ks:List Int} {u:Ps} {t:Tk} (h:wrd T ⟨#[97,102,116,101,114]⟩ u.i=true) (ht:t=tokAt T u.i):recvA T rec at_ ks u=Then (.ok ⟨u.i+1,u.N⟩) (PM.bind (rec (.expr 1)) fun k=>PM.bind (pNeed T (sgn T ⟨#[45,62]⟩)) fun _=>PM.bind (rec .body) fun b=>PM.bind (pAdd ⟨24,⟨#[]⟩,⟨#[]⟩,0,[(k:Int),(b:Int)],t.at_⟩) fun k=>recvK T at_ (ks++[(k:Int)])):=by
 subst ht
 simp only [recvA,after,PM.bind,pIf,h,if_true,Then,pNeed,whole]
 cases rec (.expr 1) ⟨u.i+1,u.N⟩ with
 | error e=>rfl
 | ok av=>
  simp only
  cases sgn T ⟨#[45,62]⟩ av.2.i with
  | false=>rfl
  | true=>
   simp only [if_true]
   cases rec .body ⟨av.2.i+1,av.2.N⟩ <;> rfl
section
variable {T:List Tk} {g i0:Nat}
theorem XR.recvP (X:XR T g i0) (hT:0 < T.length) (hTk:∀ i,TkOk (tokAt T i)) {f:Nat} (hf:g+3≤f) (s:Ps) (hs:i0≤s.i) (at_:Int):PhF T 215 [.int .i64 at_] (recvB T (runP T f) at_) s:=by
 intro w q Tv Nv N h hg
 obtain ⟨res,hres⟩:∃ res,recvB T (runP T f) at_ s=res:=⟨_,rfl⟩
 rw [hres]
 show Calls Tryz.prog _ #[.pointer (some ⟨q,0,none⟩),.int .i64 at_] w _
 have U0:=Uf.start h hg (T.length+2)
 have HC:=Hid.mk7 h.cnt
 have HT:=Hid.mk7 (And.intro hT h.at_.tl)
 have HX:=Hid.mk7 (And.intro X (And.intro hTk (And.intro (hf) hs)))
 have c0:=U0.sign 0 (by omega) ⟨#[97,102,116,101,114]⟩
 have HQ:=Hid.mk7 (And.intro hres U0)
 clear h hg U0 X hTk hf hs hres hT
 go_enter Tryz.func215,Tryz.ntmps215
 go_wp2_with fail
 refine c0.mono ?_
 rintro y w0 ⟨hb0,⟨rfl,u,hu,hk⟩ | ⟨rfl,hk⟩⟩
 ·cases hu
  simp only [Nat.add_zero] at hk
  rw [tkIs_word (HX.out.2.1 _) (by simp [allWords])] at hk
  have hqa:Then (.ok s) (recvA T (runP T f) at_ [])=res:=(recv_after hk).symm.trans HQ.out.1
  have HKK:=Hid.mk7 hk
  have c3:=Uf.token (HQ.out.2.below hb0) 0 (by omega)
  have HL:=Hid.mk7 (And.intro (HQ.out.2.below hb0) (And.intro (hqa) (And.intro (fun u (e:(.ok s:Except Nat Ps)=.ok u)=>by cases e; exact HX.out.2.2.2) (show (0:Nat)≤T.length+1 by omega))))
  clear c0 hb0 hk hqa
  go_wp2_with fail
  refine c3.mono ?_
  rintro y w3 ⟨⟨tk,tt,tn,ta⟩,rfl,hb3,ht3,_⟩
  have U3:=(HL.out.1.below hb3).hold HT.out.1 (.cells #[.int .i64 tk,.string tt,.int .i64 tn,.int .i64 ta] 40)
  have c4:=U3.take ⟨#[97,102,116,101,114]⟩
  have H3:=Hid.mk7 ht3
  have e3:(w3.alloc (.cells #[.int .i64 tk,.string tt,.int .i64 tn,.int .i64 ta] 40)).cell? ⟨w3.heap.size,3,none⟩=some (.int .i64 ta):=by simp
  have HE:=Hid.mk7 e3
  clear c3 hb3 ht3 U3 e3
  simp only [Tk.val]
  go_wp2_with fail
  refine c4.mono ?_
  rintro y w4 ⟨K4,⟨rfl,u,hu,hk,hlt,U4⟩ | ⟨rfl,hk,U4⟩⟩
  ·cases hu
   rw [tkIs_word (HX.out.2.1 _) (by simp [allWords])] at hk
   have hq4:=(recvA_on (t:=⟨tk,tt,tn,ta⟩) hk (by simpa using H3.out s rfl)).symm.trans HL.out.2.1
   have k4:=(K4.cell (k:=w3.heap.size) (j:=3) (.inr rfl)).trans HE.out
   have H4:=Hid.mk7 k4
   have c5:Calls Tryz.prog 135 #[.pointer (some ⟨q,0,none⟩)] w4 _:=Uf.phrase (U4) (dm:=3) (fun u e=>HX.out.1 f (by have:=HX.out.2.2.1; omega) u (by cases e; have:=HL.out.2.2.1 s rfl; simp; omega)) (fun _ _=>b_exp) (fun u _ hs=>o_run f (.expr 1) (by simp [okPh]) hs) hq4
   clear c4 hk hlt U4 hq4 K4 k4
   go_wp2_with fail
   refine c5.mono ?_
   rintro y w5 ⟨z5,rfl,K5,r5,hq5,U5,hr5⟩
   have hi5:∀ v,r5=.ok v→i0≤v.i:=fun v e=>by
    obtain ⟨v2,e1,_,e2,_⟩:=hr5 v e
    cases e1
    have:=HL.out.2.2.1 s rfl
    simp at e2
    omega
   have hq5':=U5.cast (k:=fun k=>PM.bind (pNeed T (sgn T ⟨#[45,62]⟩)) fun _=>PM.bind (runP T f .body) fun b=>PM.bind (pAdd ⟨24,⟨#[]⟩,⟨#[]⟩,0,[k,(b:Int)],ta⟩) fun k=>recvK T at_ (([]:List Int)++[(k:Int)])) hq5
   have c6:=Uf.want (U5) ⟨#[45,62]⟩ (b:=sgn T ⟨#[45,62]⟩) (fun i=>(tkIs_sign (HX.out.2.1 _) (by simp [allSigns])).symm) hq5'
   have H5:=Hid.mk7 (And.intro hi5 ((K5.cell (k:=w3.heap.size) (j:=3) (.inr rfl)).trans H4.out))
   clear c5 hq5 U5 hr5 hq5' hi5 K5
   go_wp2_with fail
   refine c6.mono ?_
   rintro y w6 ⟨rfl,K6,r6,hq6,U6,hr6⟩
   have k6:=(K6.cell (k:=w3.heap.size) (j:=3) (.inr rfl)).trans H5.out.2
   have l6:=World.block_lt_of_cell? w6 _ k6
   have hi6:∀ v,r6=.ok v→i0≤v.i:=fun v e=>by
    obtain ⟨v2,e1,_,rfl⟩:=hr6 v e
    have:=H5.out.1 v2 e1
    simp
    omega
   have cB:∀ W,Below w6.heap.size w6 W→Calls Tryz.prog 124 #[.pointer (some ⟨q,0,none⟩)] W fun y w7=>∃ z7:Int,y=.returned (.int .i64 z7)∧w7.cell? ⟨w3.heap.size,3,none⟩=some (.int .i64 ta)∧w3.heap.size < w7.heap.size∧Hid (Calls Tryz.prog 27 #[.pointer (some ⟨q,0,none⟩),.int .i64 24,.int .i64 ta,.string ⟨#[]⟩,.slice (some ⟨w7.heap.size,0,none⟩) 2 2] (w7.alloc (.cells #[.int .i64 z5,.int .i64 z7] 3)) fun y w8=>∃ z8:Int,y=.returned (.int .i64 z8)∧w8.cell? ⟨w3.heap.size,3,none⟩=some (.int .i64 ta)∧w3.heap.size < w8.heap.size∧Hid (∃ r8,Then r8 (recvK T at_ (([]:List Int)++[z8]))=res∧Uf T w w8 q Tv Nv N s (T.length+2) 0 (fun k=>noH k∨k=w3.heap.size) (.slice none 0 0) (([]:List Int)) (.slice none 0 0) [] [z8] r8)):=fun W hW=>by
    have UW:=U6.below hW
    have KW:=U6.kb hW
    have cc:Calls Tryz.prog 124 #[.pointer (some ⟨q,0,none⟩)] W _:=UW.phrase (dm:=2) (fun u e=>HX.out.1.body HT.out.1 HX.out.2.1 (by have:=HX.out.2.2.1; omega) u (hi6 u e)) (fun _ _=>b_body) (fun u _ hs=>o_run f .body trivial hs) hq6
    refine cc.mono ?_
    rintro y w7 ⟨z7,rfl,K7,r7,hq7,U7,_⟩
    have K7':=KW.trans K7
    have k7:=(K7'.cell (k:=w3.heap.size) (j:=3) (.inr rfl)).trans k6
    refine ⟨z7,rfl,k7,World.block_lt_of_cell? w7 _ k7,?_⟩
    have hq8:=U7.cast (k:=fun b=>PM.bind (pAdd ⟨24,⟨#[]⟩,⟨#[]⟩,0,[z5,b],ta⟩) fun k=>recvK T at_ (([]:List Int)++[(k:Int)])) hq7
    have U8:=U7.lit HT.out.1 (OwnI.two w7 z5 z7 3) (by simp) (by simp)
    have K8:=U7.kb (Below.alloc0 w7 (.cells #[.int .i64 z5,.int .i64 z7] 3))
    refine (U8.node HT.out.1 HC.out (by decide) 24 ta ⟨#[]⟩ hq8).mono ?_
    rintro y w9 ⟨z9,rfl,K9,r9,hq9,U9,_⟩
    have k9:=((K8.trans K9).cell (k:=w3.heap.size) (j:=3) (.inr rfl)).trans k7
    refine ⟨z9,rfl,k9,World.block_lt_of_cell? w9 _ k9,r9,?_,(U9.weak (d':=0) (by decide)).nums (zs':=[z9]) (by simp)⟩
    exact U9.cast (k:=fun k=>recvK T at_ (([]:List Int)++[k])) hq9
   clear c6 hq6 U6 hr6 K6
   go_wp2_with fail
   go_region_law (first
    | (rw [if_pos (by rfl)]; go_simp; go_at_call 27; refine h7.out.mono ?_; rintro y w8 ⟨z8,rfl,k8,l8,h8⟩; obtain ⟨r8,hq8,U8⟩:=h8.out; have H8:=Hid.mk7 (And.intro U8 hq8); clear h8 hq8 U8; dsimp only)
    | (rw [if_pos (by rfl)]; go_simp; go_at_call 124; refine (cB _ (Below.refl _ _).drew).mono ?_; rintro y w7 ⟨z7,rfl,k7,l7,h7⟩; dsimp only)
    | (refine step_append_k (by rfl) (.tmp 21) (.tmp 30) (by rfl) Tryz.intTypes (by rfl) (by rfl) (OwnK.turned H8.out.1.a.own (Turned.alloc (fun _=>False) _ _) (fun _ _ e=>e)) (SlI.one w8 _ _) (ints_one _) (by have:=H8.out.1.a.len; have:=HT.out.2; simp; try omega) (by have:=H8.out.1.a.len; have:=HT.out.2; simp; try omega) ?_; intro V9 w9 ho9 T9 hv9))
   all_goals
    obtain ⟨U9,_⟩:=Uf.push H8.out.1 HT.out.1 (Below.alloc0 w8 _) ho9 T9 hv9 (by have:=HL.out.2.2.2; simp; try omega) (by simp)
    obtain ⟨aW,cW,hW,_⟩:=OwnK.sl ho9 |>.form
    subst hW
    have c10:=Uf.want (U9) ⟨#[101,110,100]⟩ (b:=wrd T ⟨#[101,110,100]⟩) (fun i=>(tkIs_word (HX.out.2.1 _) (by simp [allWords])).symm) H8.out.2
    clear ho9 T9 hv9 U9 k7 l7 k8 l8 h7
    go_wp2_with fail
    refine c10.mono ?_
    rintro y w10 ⟨rfl,K10,r10,hq10,U10,hr10⟩
    have H10:=Hid.mk7 (And.intro U10 hq10)
    clear c10 hq10 U10 hr10 K10
    have hq11:Then (r10) (PM.bind (pAdd ⟨12,⟨#[]⟩,⟨#[]⟩,0,(([]:List Int)++[z8]),at_⟩) PM.ret)=res:=by rw [PM.bind_ret]; exact H10.out.2
    have c11:=Uf.node (H10.out.1.to2) HT.out.1 HC.out (by decide) 12 at_ ⟨#[]⟩ hq11
    clear hq11
    go_wp2_with fail
    refine c11.mono ?_
    rintro y w11 ⟨z11,rfl,_,r11,hq11,U11,_⟩
    have H11:=Hid.mk7 (U11.done hq11)
    clear c11 hq11 U11
    go_wp2
    go_ret
    exact H11.out
  ·exfalso
   have h1:=hk s rfl
   rw [tkIs_word (HX.out.2.1 _) (by simp [allWords])] at h1
   have h2:=HKK.out
   rw [h1] at h2
   cases h2
 ·have hk:wrd T ⟨#[97,102,116,101,114]⟩ s.i=false:=by
   have h1:=hk s rfl
   simp only [Nat.add_zero] at h1
   rw [tkIs_word (HX.out.2.1 _) (by simp [allWords])] at h1
   exact h1
  have hq1:Then (.ok s) (PM.bind (row T ⟨#[59]⟩ (runP T f .clause)) (recvA T (runP T f) at_))=res:=(recv_first hk).symm.trans HQ.out.1
  have U1:=HQ.out.2.below hb0
  have c2:Calls Tryz.prog 214 #[.pointer (some ⟨q,0,none⟩)] w0 _:=U1.phraseL (dm:=1) (fun u e=>HX.out.1.clauses HT.out.1 HX.out.2.1 HX.out.2.2.1 u (by cases e; exact HX.out.2.2.2)) (fun _ _=>b_clauses) (fun u _ hs=>o_row _ f .clause trivial hs) (fun u l v e=>rowT_len (runP_mono T f .clause) e) (by omega) hq1
  clear c0 hb0 hk hq1 U1
  go_wp2_with fail
  refine c2.mono ?_
  rintro y w2 ⟨V2,l2,rfl,⟨a2,b2,hV2⟩,hln2,K2,r2,hq2,U2,hr2⟩
  subst hV2
  have hi2:∀ u,r2=.ok u→i0≤u.i:=fun u e=>by
   obtain ⟨v,e1,_,e2,_⟩:=hr2 u e
   cases e1
   have:=HX.out.2.2.2
   omega
  have c3:=Uf.token (U2.to1) 0 (by omega)
  have HL:=Hid.mk7 (And.intro (U2.to1) (And.intro (hq2) (And.intro (hi2) (hln2))))
  clear c2 hq2 U2 hr2 hi2 hln2 K2
  go_wp2_with fail
  refine c3.mono ?_
  rintro y w3 ⟨⟨tk,tt,tn,ta⟩,rfl,hb3,ht3,_⟩
  have U3:=(HL.out.1.below hb3).hold HT.out.1 (.cells #[.int .i64 tk,.string tt,.int .i64 tn,.int .i64 ta] 40)
  have c4:=U3.take ⟨#[97,102,116,101,114]⟩
  have H3:=Hid.mk7 ht3
  have e3:(w3.alloc (.cells #[.int .i64 tk,.string tt,.int .i64 tn,.int .i64 ta] 40)).cell? ⟨w3.heap.size,3,none⟩=some (.int .i64 ta):=by simp
  have HE:=Hid.mk7 e3
  clear c3 hb3 ht3 U3 e3
  simp only [Tk.val]
  go_wp2_with fail
  refine c4.mono ?_
  rintro y w4 ⟨K4,⟨rfl,u,hu,hk,hlt,U4⟩ | ⟨rfl,hk,U4⟩⟩
  ·subst hu
   rw [tkIs_word (HX.out.2.1 _) (by simp [allWords])] at hk
   have hq4:=(recvA_on (t:=⟨tk,tt,tn,ta⟩) hk (by simpa using H3.out u rfl)).symm.trans HL.out.2.1
   have k4:=(K4.cell (k:=w3.heap.size) (j:=3) (.inr rfl)).trans HE.out
   have H4:=Hid.mk7 k4
   have c5:Calls Tryz.prog 135 #[.pointer (some ⟨q,0,none⟩)] w4 _:=Uf.phrase (U4) (dm:=3) (fun u e=>HX.out.1 f (by have:=HX.out.2.2.1; omega) u (by cases e; have:=HL.out.2.2.1 u rfl; simp; omega)) (fun _ _=>b_exp) (fun u _ hs=>o_run f (.expr 1) (by simp [okPh]) hs) hq4
   clear c4 hk hlt U4 hq4 K4 k4
   go_wp2_with fail
   refine c5.mono ?_
   rintro y w5 ⟨z5,rfl,K5,r5,hq5,U5,hr5⟩
   have hi5:∀ v,r5=.ok v→i0≤v.i:=fun v e=>by
    obtain ⟨v2,e1,_,e2,_⟩:=hr5 v e
    cases e1
    have:=HL.out.2.2.1 u rfl
    simp at e2
    omega
   have hq5':=U5.cast (k:=fun k=>PM.bind (pNeed T (sgn T ⟨#[45,62]⟩)) fun _=>PM.bind (runP T f .body) fun b=>PM.bind (pAdd ⟨24,⟨#[]⟩,⟨#[]⟩,0,[k,(b:Int)],ta⟩) fun k=>recvK T at_ (l2++[(k:Int)])) hq5
   have c6:=Uf.want (U5) ⟨#[45,62]⟩ (b:=sgn T ⟨#[45,62]⟩) (fun i=>(tkIs_sign (HX.out.2.1 _) (by simp [allSigns])).symm) hq5'
   have H5:=Hid.mk7 (And.intro hi5 ((K5.cell (k:=w3.heap.size) (j:=3) (.inr rfl)).trans H4.out))
   clear c5 hq5 U5 hr5 hq5' hi5 K5
   go_wp2_with fail
   refine c6.mono ?_
   rintro y w6 ⟨rfl,K6,r6,hq6,U6,hr6⟩
   have k6:=(K6.cell (k:=w3.heap.size) (j:=3) (.inr rfl)).trans H5.out.2
   have l6:=World.block_lt_of_cell? w6 _ k6
   have hi6:∀ v,r6=.ok v→i0≤v.i:=fun v e=>by
    obtain ⟨v2,e1,_,rfl⟩:=hr6 v e
    have:=H5.out.1 v2 e1
    simp
    omega
   have cB:∀ W,Below w6.heap.size w6 W→Calls Tryz.prog 124 #[.pointer (some ⟨q,0,none⟩)] W fun y w7=>∃ z7:Int,y=.returned (.int .i64 z7)∧w7.cell? ⟨w3.heap.size,3,none⟩=some (.int .i64 ta)∧w3.heap.size < w7.heap.size∧Hid (Calls Tryz.prog 27 #[.pointer (some ⟨q,0,none⟩),.int .i64 24,.int .i64 ta,.string ⟨#[]⟩,.slice (some ⟨w7.heap.size,0,none⟩) 2 2] (w7.alloc (.cells #[.int .i64 z5,.int .i64 z7] 3)) fun y w8=>∃ z8:Int,y=.returned (.int .i64 z8)∧w8.cell? ⟨w3.heap.size,3,none⟩=some (.int .i64 ta)∧w3.heap.size < w8.heap.size∧Hid (∃ r8,Then r8 (recvK T at_ (l2++[z8]))=res∧Uf T w w8 q Tv Nv N s (T.length+2) 0 (fun k=>noH k∨k=w3.heap.size) (.slice a2 l2.length b2) (l2) (.slice none 0 0) [] [z8] r8)):=fun W hW=>by
    have UW:=U6.below hW
    have KW:=U6.kb hW
    have cc:Calls Tryz.prog 124 #[.pointer (some ⟨q,0,none⟩)] W _:=UW.phrase (dm:=2) (fun u e=>HX.out.1.body HT.out.1 HX.out.2.1 (by have:=HX.out.2.2.1; omega) u (hi6 u e)) (fun _ _=>b_body) (fun u _ hs=>o_run f .body trivial hs) hq6
    refine cc.mono ?_
    rintro y w7 ⟨z7,rfl,K7,r7,hq7,U7,_⟩
    have K7':=KW.trans K7
    have k7:=(K7'.cell (k:=w3.heap.size) (j:=3) (.inr rfl)).trans k6
    refine ⟨z7,rfl,k7,World.block_lt_of_cell? w7 _ k7,?_⟩
    have hq8:=U7.cast (k:=fun b=>PM.bind (pAdd ⟨24,⟨#[]⟩,⟨#[]⟩,0,[z5,b],ta⟩) fun k=>recvK T at_ (l2++[(k:Int)])) hq7
    have U8:=U7.lit HT.out.1 (OwnI.two w7 z5 z7 3) (by simp) (by simp)
    have K8:=U7.kb (Below.alloc0 w7 (.cells #[.int .i64 z5,.int .i64 z7] 3))
    refine (U8.node HT.out.1 HC.out (by decide) 24 ta ⟨#[]⟩ hq8).mono ?_
    rintro y w9 ⟨z9,rfl,K9,r9,hq9,U9,_⟩
    have k9:=((K8.trans K9).cell (k:=w3.heap.size) (j:=3) (.inr rfl)).trans k7
    refine ⟨z9,rfl,k9,World.block_lt_of_cell? w9 _ k9,r9,?_,(U9.weak (d':=0) (by decide)).nums (zs':=[z9]) (by simp)⟩
    exact U9.cast (k:=fun k=>recvK T at_ (l2++[k])) hq9
   clear c6 hq6 U6 hr6 K6
   go_wp2_with fail
   go_region_law (first
    | (rw [if_pos (by rfl)]; go_simp; go_at_call 27; refine h7.out.mono ?_; rintro y w8 ⟨z8,rfl,k8,l8,h8⟩; obtain ⟨r8,hq8,U8⟩:=h8.out; have H8:=Hid.mk7 (And.intro U8 hq8); clear h8 hq8 U8; dsimp only)
    | (rw [if_pos (by rfl)]; go_simp; go_at_call 124; refine (cB _ (Below.refl _ _).drew).mono ?_; rintro y w7 ⟨z7,rfl,k7,l7,h7⟩; dsimp only)
    | (refine step_append_k (by rfl) (.tmp 21) (.tmp 30) (by rfl) Tryz.intTypes (by rfl) (by rfl) (OwnK.turned H8.out.1.a.own (Turned.alloc (fun _=>False) _ _) (fun _ _ e=>e)) (SlI.one w8 _ _) (ints_one _) (by have:=H8.out.1.a.len; have:=HT.out.2; simp; try omega) (by have:=H8.out.1.a.len; have:=HT.out.2; simp; try omega) ?_; intro V9 w9 ho9 T9 hv9))
   all_goals
    obtain ⟨U9,_⟩:=Uf.push H8.out.1 HT.out.1 (Below.alloc0 w8 _) ho9 T9 hv9 (by have:=HL.out.2.2.2; simp; try omega) (by simp)
    obtain ⟨aW,cW,hW,_⟩:=OwnK.sl ho9 |>.form
    subst hW
    have c10:=Uf.want (U9) ⟨#[101,110,100]⟩ (b:=wrd T ⟨#[101,110,100]⟩) (fun i=>(tkIs_word (HX.out.2.1 _) (by simp [allWords])).symm) H8.out.2
    clear ho9 T9 hv9 U9 k7 l7 k8 l8 h7
    go_wp2_with fail
    refine c10.mono ?_
    rintro y w10 ⟨rfl,K10,r10,hq10,U10,hr10⟩
    have H10:=Hid.mk7 (And.intro U10 hq10)
    clear c10 hq10 U10 hr10 K10
    have hq11:Then (r10) (PM.bind (pAdd ⟨12,⟨#[]⟩,⟨#[]⟩,0,(l2++[z8]),at_⟩) PM.ret)=res:=by rw [PM.bind_ret]; exact H10.out.2
    have c11:=Uf.node (H10.out.1.to2) HT.out.1 HC.out (by decide) 12 at_ ⟨#[]⟩ hq11
    clear hq11
    go_wp2_with fail
    refine c11.mono ?_
    rintro y w11 ⟨z11,rfl,_,r11,hq11,U11,_⟩
    have H11:=Hid.mk7 (U11.done hq11)
    clear c11 hq11 U11
    go_wp2
    go_ret
    exact H11.out
  ·have hq4:Then (r2) (recvK T at_ (l2))=res:=(Then.iff_false (fun u e=>by have:=hk u e; rw [tkIs_word (HX.out.2.1 _) (by simp [allWords])] at this; exact this)).symm.trans HL.out.2.1
   have c10:=Uf.want (U4) ⟨#[101,110,100]⟩ (b:=wrd T ⟨#[101,110,100]⟩) (fun i=>(tkIs_word (HX.out.2.1 _) (by simp [allWords])).symm) hq4
   clear c4 hk U4 hq4 K4
   go_wp2_with fail
   refine c10.mono ?_
   rintro y w10 ⟨rfl,K10,r10,hq10,U10,hr10⟩
   have H10:=Hid.mk7 (And.intro U10 hq10)
   clear c10 hq10 U10 hr10 K10
   have hq11:Then (r10) (PM.bind (pAdd ⟨12,⟨#[]⟩,⟨#[]⟩,0,l2,at_⟩) PM.ret)=res:=by rw [PM.bind_ret]; exact H10.out.2
   have c11:=Uf.node (H10.out.1.to2) HT.out.1 HC.out (by decide) 12 at_ ⟨#[]⟩ hq11
   clear hq11
   go_wp2_with fail
   refine c11.mono ?_
   rintro y w11 ⟨z11,rfl,_,r11,hq11,U11,_⟩
   have H11:=Hid.mk7 (U11.done hq11)
   clear c11 hq11 U11
   go_wp2
   go_ret
   exact H11.out
end
end Go.Proofs.YtlciaafincgdeaaGreatDoor
