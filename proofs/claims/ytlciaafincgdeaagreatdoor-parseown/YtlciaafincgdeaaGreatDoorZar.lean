/-
  Layer 11 (parse): the document's parser: clauses; a function's clause.
  Layer 11 (parse): the document's parser: a function's clause.
  Layer 11 (parse): the document's parser: a list, behind its bracket.
  Layer 11 (parse): the document's parser: the class of a catch.
-/
import Derived.Test.YtlciaafincgdeaaGreatDoorZaq
namespace Go.Proofs.YtlciaafincgdeaaGreatDoor
open Go.RowKit
set_option maxHeartbeats 6400000
set_option maxRecDepth 100000
section
variable {T:List Tk} {g i0:Nat}
theorem XR.clauses (X:XR T g i0) (hT:0 < T.length) (hTk:∀ i,TkOk (tokAt T i)) {f:Nat} (hf:g+3≤f) (s:Ps) (hs:i0≤s.i):PhL T 214 [] (row T ⟨#[59]⟩ (runP T f .clause)) s:=by
 intro w q Tv Nv N h hg
 obtain ⟨f,rfl⟩:∃ k,f=k+1:=⟨f - 1,by omega⟩
 obtain ⟨res,hres⟩:∃ res,row T ⟨#[59]⟩ (runP T (f+1) .clause) s=res:=⟨_,rfl⟩
 rw [hres]
 show Calls Tryz.prog _ #[.pointer (some ⟨q,0,none⟩)] w _
 have U0:=Uf.start h hg (T.length+2)
 have HC:=Hid.mk7 h.cnt
 have HT:=Hid.mk7 (And.intro hT h.at_.tl)
 have HX:=Hid.mk7 (And.intro X (And.intro hTk (And.intro (show g+2≤f by omega) hs)))
 have HQ:=Hid.mk7 (And.intro hres U0)
 have hfa:=Tryz.tokPlace
 clear h hg U0 X hTk hf hs hres hT
 go_enter Tryz.func214,Tryz.ntmps214
 go_wp2_with fail
 go_loopw [3] (fun V wr=>RwU T ⟨#[59]⟩ (runP T (f+1) .clause) (PM.ret) 0 w wr q Tv Nv N s noH w res V) (fun _ wr=>leftOf T wr q)
 case atStart=>exact ⟨[],.ok s,T.length+1,HQ.out.2,fun _ e=>e.elim,by rw [← rowH_start,← HQ.out.1,PM.bind_ret]; rfl,by simp,fun u e=>by cases e; simp; omega⟩
 case round=>
  obtain ⟨l,r,fu,U,K1,hq,hl,hr⟩:=hrel
  obtain ⟨aV,cV,hV,_⟩:=OwnK.sl U.a.own |>.form
  subst hV
  have HK:=Hid.mk7 K1
  have HV:=Hid.mk7 hl
  clear K1
  cases r with
  | error e=>
   have hb:=U.x.1.bad
   have H1:=Hid.mk7 (And.intro U hq)
   clear U hq hr hl
   have HE:=Hid.mk7 (Uf.doneL (H1.out.1) HV.out H1.out.2)
   go_wp2
   go_ret
   exact HE.out
  | ok u=>
   have hb:=U.x.2.1.c3.1
   have HL:=Hid.mk7 (And.intro U.left (And.intro U.il (And.intro (hr u rfl) hl)))
   have H1:=Hid.mk7 (And.intro U hq)
   clear U hq hr hl
   have c1:=H1.out.1.token 0 (by omega)
   go_wp2_with fail
   refine c1.mono ?_
   rintro y w1 ⟨⟨tk1,tt1,tn1,ta1⟩,rfl,hb1,ht1,_⟩
   have hta1:(tokAt T u.i).at_=ta1:=by have:=ht1 u rfl; simp at this; rw [← this]
   have U1:=H1.out.1.below hb1
   have K1:=H1.out.1.kb hb1
   have hq1:Then (.ok u) (PM.bind (runP T f (.expr 1)) fun k=>PM.bind (rest T (runP T f) ⟨20,⟨#[]⟩,⟨#[]⟩,0,[],ta1⟩ k) fun k=>PM.bind (rowL T ⟨#[59]⟩ (runP T (f+1) .clause) fu (l++[(k:Int)])) PM.ret)=res:=by
    rw [← H1.out.2,← hta1]
    simp only [Then,rowH,runP,phBody,PM.bind,pTok,whole]
    cases runP T f (.expr 1) u <;> rfl
   have c2:Calls Tryz.prog 135 #[.pointer (some ⟨q,0,none⟩)] w1 _:=U1.phrase (dm:=3) (fun u2 e=>HX.out.1 f (by have:=HX.out.2.2.1; omega) u2 (by cases e; have:=HX.out.2.2.2; have:=HL.out.2.1.2; omega)) (fun _ _=>b_exp) (fun u2 _ hs=>o_run f (.expr 1) (by simp [okPh]) hs) hq1
   have HK1:=Hid.mk7 K1
   clear c1 hb hb1 ht1 U1 hq1 hta1 K1
   simp only [Tk.val]
   go_wp2_with fail
   refine c2.mono ?_
   rintro y w2 ⟨z2,rfl,K2,r2,hq2,U2,hr2⟩
   have hi2:∀ v,r2=.ok v→u.i < v.i:=fun v e=>by
    obtain ⟨v2,e1,_,_,e2⟩:=hr2 v e
    cases e1
    exact e2 (by decide)
   have c3:Calls Tryz.prog 102 #[.pointer (some ⟨q,0,none⟩),.int .i64 ta1,.string ⟨#[]⟩,.int .i64 z2] w2 _:=U2.phrase (dm:=5) (fun u2 e=>HX.out.1.restZ HT.out.1 HX.out.2.1 HX.out.2.2.1 u2 (by have:=hi2 u2 e; have:=HX.out.2.2.2; have:=HL.out.2.1.2; omega) ta1 ⟨#[]⟩ z2 (U2.pos (by simp) u2 e)) (fun _ _=>b_rest _ _ _) (fun u2 e hs=>o_rest f _ (U2.pos (by simp) u2 e).2 hs) hq2
   have HI:=Hid.mk7 (And.intro hi2 (HK1.out.trans K2))
   clear c2 hq2 U2 hr2 hi2 K2
   go_wp2_with fail
   refine c3.mono ?_
   rintro y w3 ⟨z3,rfl,K3,r3,hq3,U3,hr3⟩
   have hq4:=U3.cast (k:=fun k=>PM.bind (rowL T ⟨#[59]⟩ (runP T (f+1) .clause) fu (l++[k])) PM.ret) hq3
   have hi4:∀ v,r3=.ok v→u.i < v.i:=fun v e=>by obtain ⟨v2,e1,_,e2,_⟩:=hr3 v e; have:=HI.out.1 v2 e1; omega
   have H3:=Hid.mk7 (And.intro U3 (And.intro hq4 (And.intro hi4 (HI.out.2.trans K3))))
   clear c3 hq3 U3 hr3 hq4 hi4 K3
   go_wp2_with (at_builtin; refine wpList_append_k (by rfl) (.tmp 13) (.tmp 19) (by rfl) Tryz.intTypes (by rfl) (by rfl) (OwnK.turned H3.out.1.a.own (Turned.alloc (fun _=>False) _ _) (fun _ _ e=>e)) (SlI.one _ _ _) (ints_one _) (by have:=H3.out.1.a.len; have:=HT.out.2; simp; omega) (by have:=H3.out.1.a.len; have:=HT.out.2; simp; omega) ?_; intro V4 w4 ho4 T4 hv4)
   obtain ⟨U4a,K4⟩:=H3.out.1.push HT.out.1 (Below.alloc0 w3 _) ho4 T4 hv4 (by have:=HL.out.2.2.2; simp; omega) (by simp)
   obtain ⟨aW,cW,hW,_⟩:=OwnK.sl ho4 |>.form
   have U4:=U4a.nums (zs':=[]) (fun z hz=>by cases hz)
   clear U4a
   rw [hW] at U4
   subst hW
   have c5:=U4.take ⟨#[59]⟩
   have HK4:=Hid.mk7 ((H3.out.2.2.2).trans K4)
   clear ho4 T4 hv4 U4 K4
   go_wp2_with fail
   refine c5.mono ?_
   rintro y w5 ⟨K5,⟨rfl,v,hv,hk,hlt,U5⟩ | ⟨rfl,hk,U5⟩⟩
   ·subst hv
    have hk:sgn T ⟨#[59]⟩ v.i=true:=by rw [tkIs_sign (HX.out.2.1 _) (by simp [allSigns])] at hk; exact hk
    have hq5:Then (.ok ⟨v.i+1,v.N⟩) (rowH T ⟨#[59]⟩ (runP T (f+1) .clause) (fu - 1) (l++[z3]) (PM.ret))=res:=(rowH_next (by have:=HL.out.2.2.1.1; omega) hk).symm.trans H3.out.2.1
    have H5:=Hid.mk7 (And.intro (U5.weak (d':=0) (by decide)) (And.intro hq5 (And.intro hlt ((HK.out.trans HK4.out).trans K5))))
    clear c5 hk hlt U5 hq5 K5
    go_wp2
    go_roundw
    case rel=>
     refine ⟨l++[z3],.ok ⟨v.i+1,v.N⟩,fu - 1,H5.out.1,H5.out.2.2.2,H5.out.2.1,?_,fun u2 e=>?_⟩
     ·have h1:=H3.out.2.2.1 v rfl; have:=HL.out.2.2.1.2; have:=H5.out.2.2.1; simp; omega
     ·cases e
      have h1:=H3.out.2.2.1 v rfl
      have h2:=HL.out.2.2.1
      have:=H5.out.2.2.1
      simp
      omega
    case measure=>
     have h1:=H3.out.2.2.1 v rfl
     have h2:=H5.out.1.left
     have h3:=HL.out.1
     have h4:=H5.out.2.2.1
     simp only at h2 h3
     omega
   ·have hq5:=(rowH_stop (K:=PM.ret) (fun u2 e=>by have:=HL.out.2.2.1.1; omega) (fun u2 e=>by have:=hk u2 e; rw [tkIs_sign (HX.out.2.1 _) (by simp [allSigns])] at this; exact this)).symm.trans H3.out.2.1
    have H5:=Hid.mk7 (And.intro U5 (And.intro hq5 ((HK.out.trans HK4.out).trans K5)))
    clear c5 hk U5 hq5 K5
    have HE:=Hid.mk7 (Uf.doneL (H5.out.1) (show (l++[z3]).length≤T.length+1 by have:=HL.out.2.2.1.2; have:=HL.out.2.1; simp; omega) H5.out.2.1)
    go_wp2
    go_ret
    exact HE.out
end
section
variable {T:List Tk} {g i0:Nat}
theorem XR.fclause (X:XR T g i0) (hT:0 < T.length) (hTk:∀ i,TkOk (tokAt T i)) {f:Nat} (hf:g+3≤f) (s:Ps) (hs:i0≤s.i+1):PhF T 85 [] (runP T f .fclause) s:=by
 intro w q Tv Nv N h hg
 obtain ⟨f,rfl⟩:∃ k,f=k+1:=⟨f - 1,by omega⟩
 obtain ⟨res,hres⟩:∃ res,runP T (f+1) .fclause s=res:=⟨_,rfl⟩
 rw [hres]
 show Calls Tryz.prog _ #[.pointer (some ⟨q,0,none⟩)] w _
 have U0:=Uf.start h hg (T.length+2)
 have hq0:Then (.ok s) (PM.bind (pNeed T (knd T 1)) fun a=>PM.bind (pTok T) fun o=>PM.bind (arguments T (runP T f)) fun ks=>PM.bind (pAdd ⟨25,⟨#[]⟩,⟨#[]⟩,0,ks,o.at_⟩) fun k=>rest T (runP T f) ⟨20,a.text,⟨#[]⟩,0,[],a.at_⟩ k)=res:=hres
 have c0:=U0.kind 1 (by decide) hq0
 have HC:=Hid.mk7 h.cnt
 have HT:=Hid.mk7 (And.intro hT h.at_.tl)
 have HX:=Hid.mk7 (And.intro X (And.intro hTk (And.intro (show g+2≤f by omega) hs)))
 clear h hg U0 X hTk hf hs hres hT hq0
 go_enter Tryz.func85,Tryz.ntmps85
 go_wp2_with fail
 refine c0.mono ?_
 rintro y w1 ⟨⟨ak,at_,an,aa⟩,rfl,_,r1,hq1,U1,hr1⟩
 have U1h:=U1.hold HT.out.1 (.cells #[.int .i64 ak,.string at_,.int .i64 an,.int .i64 aa] 40)
 have e13:(w1.alloc (.cells #[.int .i64 ak,.string at_,.int .i64 an,.int .i64 aa] 40)).cell? ⟨w1.heap.size,3,none⟩=some (.int .i64 aa):=by simp
 have e11:(w1.alloc (.cells #[.int .i64 ak,.string at_,.int .i64 an,.int .i64 aa] 40)).cell? ⟨w1.heap.size,1,none⟩=some (.string at_):=by simp
 have c2:=U1h.token 0 (by omega)
 have H1:=Hid.mk7 (And.intro U1h (And.intro hq1 (And.intro hr1 (And.intro e13 e11))))
 clear c0 hq1 U1 hr1 U1h e13 e11
 simp only [Tk.val]
 go_wp2_with fail
 refine c2.mono ?_
 rintro y w2 ⟨⟨ok,ot,on,oa⟩,rfl,hb2,ht2,_⟩
 have hq2:=Then.tok ht2 H1.out.2.1
 have K2:=H1.out.1.kb hb2
 have U2h:=(H1.out.1.below hb2).hold HT.out.1 (.cells #[.int .i64 ok,.string ot,.int .i64 on,.int .i64 oa] 40)
 have l2:w1.heap.size < w2.heap.size:=by have:=hb2.size; simp at this; omega
 have e13:(w2.alloc (.cells #[.int .i64 ok,.string ot,.int .i64 on,.int .i64 oa] 40)).cell? ⟨w1.heap.size,3,none⟩=some (.int .i64 aa):=by
  rw [World.cell?_alloc_lt _ _ ⟨w1.heap.size,3,none⟩ l2,K2.cell (.inr rfl)]
  exact H1.out.2.2.2.1
 have e11:(w2.alloc (.cells #[.int .i64 ok,.string ot,.int .i64 on,.int .i64 oa] 40)).cell? ⟨w1.heap.size,1,none⟩=some (.string at_):=by
  rw [World.cell?_alloc_lt _ _ ⟨w1.heap.size,1,none⟩ l2,K2.cell (.inr rfl)]
  exact H1.out.2.2.2.2
 have e23:(w2.alloc (.cells #[.int .i64 ok,.string ot,.int .i64 on,.int .i64 oa] 40)).cell? ⟨w2.heap.size,3,none⟩=some (.int .i64 oa):=by simp
 have hi1:∀ u,r1=.ok u→i0≤u.i:=fun u e=>by
  obtain ⟨v,e1,_,_,rfl⟩:=H1.out.2.2.1 u e
  cases e1
  exact HX.out.2.2.2
 have c3:Calls Tryz.prog 101 #[.pointer (some ⟨q,0,none⟩)] (w2.alloc (.cells #[.int .i64 ok,.string ot,.int .i64 on,.int .i64 oa] 40)) _:=U2h.phraseL (dm:=8) (fun u e=>HX.out.1.args HX.out.2.1 (by have:=HX.out.2.2.1; omega) u (by have:=hi1 u e; omega)) (fun _ _=>b_args) (fun u _ hs=>arguments_ok2 (Alike.refl T) (fun ph hp s s' hs=>runP_ok2 (Alike.refl T) f ph hp s s' hs) hs) (fun u l v e=>enclosedT_len (runP_mono T f (.expr 1)) e) (by omega) hq2
 have H2:=Hid.mk7 (And.intro hi1 (And.intro e13 (And.intro e11 e23)))
 clear c2 hb2 ht2 hq2 K2 U2h e13 e11 e23 hi1
 simp only [Tk.val]
 go_wp2_with fail
 refine c3.mono ?_
 rintro y w3 ⟨V3,l3,rfl,⟨a3,c3',hV3⟩,_,K3,r3,hq3,U3,hr3⟩
 have e13:=(K3.cell (k:=w1.heap.size) (j:=3) (.inl (.inr rfl))).trans H2.out.2.1
 have e11:=(K3.cell (k:=w1.heap.size) (j:=1) (.inl (.inr rfl))).trans H2.out.2.2.1
 have e23:=(K3.cell (k:=w2.heap.size) (j:=3) (.inr rfl)).trans H2.out.2.2.2
 have q13:=World.block_lt_of_cell? w3 _ e13
 have q23:=World.block_lt_of_cell? w3 _ e23
 have cN:∀ W,Below w3.heap.size w3 W→Calls Tryz.prog 27 #[.pointer (some ⟨q,0,none⟩),.int .i64 25,.int .i64 oa,.string ⟨#[]⟩,V3] W fun y w4=>∃ z4:Int,y=.returned (.int .i64 z4)∧w4.cell? ⟨w1.heap.size,3,none⟩=some (.int .i64 aa)∧w4.cell? ⟨w1.heap.size,1,none⟩=some (.string at_)∧w4.cell? ⟨w2.heap.size,3,none⟩=some (.int .i64 oa)∧Hid (∀ W2,Below w4.heap.size w4 W2→Calls Tryz.prog 102 #[.pointer (some ⟨q,0,none⟩),.int .i64 aa,.string at_,.int .i64 z4] W2 fun y w5=>∃ z5:Int,y=.returned (.int .i64 z5)∧w5.cell? ⟨w1.heap.size,3,none⟩=some (.int .i64 aa)∧w5.cell? ⟨w1.heap.size,1,none⟩=some (.string at_)∧w5.cell? ⟨w2.heap.size,3,none⟩=some (.int .i64 oa)∧Hid (Rf T w q Tv Nv N res (.returned (.int .i64 z5)) w5)):=fun W hW=>by
  have UW:=U3.below hW
  have KW:=U3.kb hW
  refine (UW.node HT.out.1 HC.out (by decide) 25 oa ⟨#[]⟩ hq3).mono ?_
  rintro y w4 ⟨z4,rfl,K4,r4,hq4,U4,hr4⟩
  have K4:=KW.trans K4
  refine ⟨z4,rfl,(K4.cell (k:=w1.heap.size) (j:=3) (.inl (.inr rfl))).trans e13,(K4.cell (k:=w1.heap.size) (j:=1) (.inl (.inr rfl))).trans e11,(K4.cell (k:=w2.heap.size) (j:=3) (.inr rfl)).trans e23,fun W2 hW2=>?_⟩
  have U5:=U4.below hW2
  have K5:=K4.trans (U4.kb hW2)
  have hq5:Then r4 (PM.bind (rest T (runP T f) ⟨20,at_,⟨#[]⟩,0,[],aa⟩ z4.toNat) PM.ret)=res:=by rw [PM.bind_ret]; exact hq4
  have c5:Calls Tryz.prog 102 #[.pointer (some ⟨q,0,none⟩),.int .i64 aa,.string at_,.int .i64 z4] W2 _:=U5.phrase (dm:=5) (fun u e=>HX.out.1.restZ HT.out.1 HX.out.2.1 HX.out.2.2.1 u (by
    obtain ⟨v,e1,e2⟩:=hr4 u e
    obtain ⟨v2,e3,_,e4,_⟩:=hr3 v e1
    have:=H2.out.1 v2 e3
    omega) aa at_ z4 (U5.pos (by simp) u e)) (fun _ _=>b_rest _ _ _) (fun u e hs=>o_rest f _ (U5.pos (by simp) u e).2 hs) hq5
  refine c5.mono ?_
  rintro y w6 ⟨z6,rfl,K6,r6,hq6,U6,_⟩
  have K6:=K5.trans K6
  exact ⟨z6,rfl,(K6.cell (k:=w1.heap.size) (j:=3) (.inl (.inr rfl))).trans e13,(K6.cell (k:=w1.heap.size) (j:=1) (.inl (.inr rfl))).trans e11,(K6.cell (k:=w2.heap.size) (j:=3) (.inr rfl)).trans e23,U6.done hq6⟩
 subst hV3
 clear c3 K3 hq3 U3 hr3
 go_wp2_with fail
 go_region_held3 (fun w'=>w'.cell? ⟨w1.heap.size,3,none⟩=some (.int .i64 aa)∧w'.cell? ⟨w1.heap.size,1,none⟩=some (.string at_)∧w'.cell? ⟨w2.heap.size,3,none⟩=some (.int .i64 oa))
  (go_keep)
  (first
   | (go_at_call 102; refine (h4.out _ (Below.refl _ _)).mono ?_; rintro x w5 ⟨z5,rfl,s1,s2,s3,h5⟩)
   | (go_at_call 27; refine (cN _ (Below.refl _ _).drew).mono ?_; rintro x w4 ⟨z4,rfl,s1,s2,s3,h4⟩))
 all_goals
  go_wp2
  go_ret
  exact h5.out
end
def listB (T:List Tk) (rec:Ph→PM Nat) (at_:Int):PM Nat:=pIf (sgn T ⟨#[93]⟩) (PM.bind (pSkip 1) fun _=>pAdd ⟨5,⟨#[]⟩,⟨#[]⟩,0,[],at_⟩)
  (PM.bind (row T ⟨#[44]⟩ (whole rec)) fun ks=>PM.bind (tail T rec) fun k=>pAdd ⟨6,⟨#[]⟩,⟨#[]⟩,0,ks++[(k:Int)],at_⟩)
theorem tail_bar {T:List Tk} {rec:Ph→PM Nat} {K:Nat→PM Nat} {u:Ps} (h:sgn T ⟨#[124]⟩ u.i=true):PM.bind (tail T rec) K u=Then (.ok ⟨u.i+1,u.N⟩) (PM.bind (whole rec) fun k=>PM.bind (pNeed T (sgn T ⟨#[93]⟩)) fun _=>K k):=by
 simp only [tail,PM.bind,pIf,h,if_true,pSkip,Then,pNeed,PM.ret]
 cases whole rec ⟨u.i+1,u.N⟩ with
 | error e=>rfl
 | ok av=>
  simp only
  cases sgn T ⟨#[93]⟩ av.2.i <;> rfl
theorem tail_end {T:List Tk} {rec:Ph→PM Nat} {K:Nat→PM Nat} {r:Except Nat Ps} (h:∀ u,r=.ok u→sgn T ⟨#[124]⟩ u.i=false):Then r (PM.bind (tail T rec) K)=Then r (PM.bind (pNeed T (sgn T ⟨#[93]⟩)) fun t=>PM.bind (pAdd ⟨5,⟨#[]⟩,⟨#[]⟩,0,[],t.at_⟩) K):=by
 cases r with
 | error e=>rfl
 | ok u=>
  simp only [tail,PM.bind,pIf,h u rfl,Then,pNeed,Bool.false_eq_true,if_false]
  cases sgn T ⟨#[93]⟩ u.i <;> rfl
section
variable {T:List Tk} {g i0:Nat}
theorem XR.listP (X:XR T g i0) (hT:0 < T.length) (hTk:∀ i,TkOk (tokAt T i)) {f:Nat} (hf:g≤f) (s:Ps) (hs:i0≤s.i) (at_:Int):PhF T 213 [.int .i64 at_] (listB T (runP T f) at_) s:=by
 intro w q Tv Nv N h hg
 obtain ⟨res,hres⟩:∃ res,listB T (runP T f) at_ s=res:=⟨_,rfl⟩
 rw [hres]
 show Calls Tryz.prog _ #[.pointer (some ⟨q,0,none⟩),.int .i64 at_] w _
 have U0:=Uf.start h hg (T.length+2)
 have HC:=Hid.mk7 h.cnt
 have HT:=Hid.mk7 (And.intro hT h.at_.tl)
 have HX:=Hid.mk7 (And.intro X (And.intro hTk (And.intro (hf) hs)))
 have c0:=U0.take ⟨#[93]⟩
 have HQ:=Hid.mk7 hres
 clear h hg U0 X hTk hf hs hres hT
 go_enter Tryz.func213,Tryz.ntmps213
 go_wp2_with fail
 refine c0.mono ?_
 rintro y w0 ⟨_,⟨rfl,u,hu,hk,hlt,U1⟩ | ⟨rfl,hk,U1⟩⟩
 ·cases hu
  rw [tkIs_sign (HX.out.2.1 _) (by simp [allSigns])] at hk
  have hq1:Then (.ok ⟨s.i+1,s.N⟩) (pAdd ⟨5,⟨#[]⟩,⟨#[]⟩,0,[],at_⟩)=res:=by
   rw [← HQ.out]
   simp [listB,pIf,sgn,hk,PM.bind,pSkip,Then]
  have H1:=Hid.mk7 (And.intro U1 hq1)
  clear c0 hk hlt U1 hq1
  have hq9:Then (.ok ⟨s.i+1,s.N⟩) (PM.bind (pAdd ⟨5,⟨#[]⟩,⟨#[]⟩,0,[],at_⟩) PM.ret)=res:=by rw [PM.bind_ret]; exact H1.out.2
  have c9:=Uf.node (H1.out.1) HT.out.1 HC.out (by decide) 5 at_ ⟨#[]⟩ hq9
  clear hq9
  go_wp2_with fail
  refine c9.mono ?_
  rintro y w9 ⟨z9,rfl,_,r9,hq9,U9,_⟩
  have H9:=Hid.mk7 (U9.done hq9)
  clear c9 hq9 U9
  go_wp2
  go_ret
  exact H9.out
 ·have hk:sgn T ⟨#[93]⟩ s.i=false:=by
   have h1:=hk s rfl
   rw [tkIs_sign (HX.out.2.1 _) (by simp [allSigns])] at h1
   exact h1
  have hq1:Then (.ok s) (PM.bind (row T ⟨#[44]⟩ (runP T f (.expr 1))) fun ks=>PM.bind (tail T (runP T f)) fun k=>pAdd ⟨6,⟨#[]⟩,⟨#[]⟩,0,ks++[(k:Int)],at_⟩)=res:=by
   rw [← HQ.out]
   simp only [listB,pIf,hk,Then,whole,Bool.false_eq_true,if_false]
  have c2:Calls Tryz.prog 122 #[.pointer (some ⟨q,0,none⟩)] w0 _:=Uf.phraseL (U1) (dm:=3) (fun u e=>HX.out.1.exps HX.out.2.1 (by have:=HX.out.2.2.1; omega) u (by cases e; exact HX.out.2.2.2)) (fun _ _=>b_exps) (fun u _ hs=>o_row _ f (.expr 1) (by simp [okPh]) hs) (fun u l v e=>rowT_len (runP_mono T f (.expr 1)) e) (by omega) hq1
  clear c0 hk U1 hq1
  go_wp2_with fail
  refine c2.mono ?_
  rintro y w2 ⟨V2,l2,rfl,⟨a2,b2,hV2⟩,hln2,K2,r2,hq2,U2,hr2⟩
  subst hV2
  have HLN:=Hid.mk7 (show l2.length≤T.length+1 from hln2)
  have U3:=U2.to1
  clear hln2
  have hi2:∀ u,r2=.ok u→i0≤u.i:=fun u e=>by
   obtain ⟨v,e1,_,e2,_⟩:=hr2 u e
   cases e1
   have:=HX.out.2.2.2
   omega
  have c3:=U3.take ⟨#[124]⟩
  have H2:=Hid.mk7 (And.intro hq2 hi2)
  clear c2 hq2 U2 U3 hr2 hi2
  go_wp2_with fail
  refine c3.mono ?_
  rintro y w3 ⟨_,⟨rfl,u,hu,hk,hlt,U4⟩ | ⟨rfl,hk,U4⟩⟩
  ·subst hu
   rw [tkIs_sign (HX.out.2.1 _) (by simp [allSigns])] at hk
   have hq4:=(tail_bar hk).symm.trans H2.out.1
   have c5:Calls Tryz.prog 135 #[.pointer (some ⟨q,0,none⟩)] w3 _:=Uf.phrase (U4) (dm:=3) (fun u e=>HX.out.1 f (by have:=HX.out.2.2.1; omega) u (by cases e; have:=H2.out.2 u rfl; simp; omega)) (fun _ _=>b_exp) (fun u _ hs=>o_run f (.expr 1) (by simp [okPh]) hs) hq4
   clear c3 hk hlt U4 hq4
   go_wp2_with fail
   refine c5.mono ?_
   rintro y w5 ⟨z5,rfl,K5,r5,hq5,U5,hr5⟩
   have hq6:=U5.cast (k:=fun k=>PM.bind (pNeed T (sgn T ⟨#[93]⟩)) fun _=>pAdd ⟨6,⟨#[]⟩,⟨#[]⟩,0,l2++[k],at_⟩) hq5
   have H5:=Hid.mk7 (And.intro U5 hq6)
   clear c5 hq5 U5 hr5 hq6 K5
   go_wp2_with (at_builtin; refine wpList_append_k (by rfl) (.tmp 16) (.tmp 19) (by rfl) Tryz.intTypes (by rfl) (by rfl) (OwnK.turned H5.out.1.a.own (Turned.alloc (fun _=>False) _ _) (fun _ _ e=>e)) (SlI.one _ _ _) (ints_one _) (by have:=H5.out.1.a.len; have:=HT.out.2; simp; omega) (by have:=H5.out.1.a.len; have:=HT.out.2; simp; omega) ?_; intro V6 w6 ho6 T6 hv6)
   obtain ⟨U6,K6⟩:=Uf.push (H5.out.1) HT.out.1 (Below.alloc0 w5 _) ho6 T6 hv6 (by have:=HLN.out; simp; omega) (by simp)
   obtain ⟨aW6,cW6,hW6,_⟩:=OwnK.sl ho6 |>.form
   subst hW6
   have c7:=Uf.want (U6) ⟨#[93]⟩ (b:=sgn T ⟨#[93]⟩) (fun i=>(tkIs_sign (HX.out.2.1 _) (by simp [allSigns])).symm) H5.out.2
   clear ho6 T6 hv6 U6 K6
   go_wp2_with fail
   refine c7.mono ?_
   rintro y w7 ⟨rfl,K7,r7,hq7,U7,hr7⟩
   have H7:=Hid.mk7 (And.intro U7 hq7)
   clear c7 hq7 U7 hr7 K7
   have hq9:Then (r7) (PM.bind (pAdd ⟨6,⟨#[]⟩,⟨#[]⟩,0,(l2++[z5]),at_⟩) PM.ret)=res:=by rw [PM.bind_ret]; exact H7.out.2
   have c9:=Uf.node (H7.out.1.to2) HT.out.1 HC.out (by decide) 6 at_ ⟨#[]⟩ hq9
   clear hq9
   go_wp2_with fail
   refine c9.mono ?_
   rintro y w9 ⟨z9,rfl,_,r9,hq9,U9,_⟩
   have H9:=Hid.mk7 (U9.done hq9)
   clear c9 hq9 U9
   go_wp2
   go_ret
   exact H9.out
  ·have hq4:=(tail_end (fun u e=>by have:=hk u e; rw [tkIs_sign (HX.out.2.1 _) (by simp [allSigns])] at this; exact this)).symm.trans H2.out.1
   have c5:=U4.token 0 (by omega)
   have hfa:=Tryz.tokPlace
   have H4:=Hid.mk7 (And.intro U4 hq4)
   clear c3 hk U4 hq4
   go_wp2_with fail
   refine c5.mono ?_
   rintro y w5 ⟨⟨tk,tt,tn,ta⟩,rfl,hb5,ht5,_⟩
   have hq5:=Then.needTok ht5 H4.out.2
   have U5:=H4.out.1.below hb5
   have c6:=Uf.want (U5) ⟨#[93]⟩ (b:=sgn T ⟨#[93]⟩) (fun i=>(tkIs_sign (HX.out.2.1 _) (by simp [allSigns])).symm) hq5
   clear c5 hb5 ht5 hq5 U5
   simp only [Tk.val]
   go_wp2_with fail
   refine c6.mono ?_
   rintro y w6 ⟨rfl,K6,r6,hq6,U6,hr6⟩
   have c7:=Uf.node (U6) HT.out.1 HC.out (by decide) 5 ta ⟨#[]⟩ hq6
   clear c6 hq6 U6 hr6 K6
   go_wp2_with fail
   refine c7.mono ?_
   rintro y w7 ⟨z7,rfl,K7,r7,hq7,U7,hr7⟩
   have hq8:=U7.cast (k:=fun k=>pAdd ⟨6,⟨#[]⟩,⟨#[]⟩,0,l2++[k],at_⟩) hq7
   have H7:=Hid.mk7 (And.intro U7 hq8)
   clear c7 hq7 U7 hr7 hq8 K7
   go_wp2_with (at_builtin; refine wpList_append_k (by rfl) (.tmp 32) (.tmp 36) (by rfl) Tryz.intTypes (by rfl) (by rfl) (OwnK.turned H7.out.1.a.own (Turned.alloc (fun _=>False) _ _) (fun _ _ e=>e)) (SlI.one _ _ _) (ints_one _) (by have:=H7.out.1.a.len; have:=HT.out.2; simp; omega) (by have:=H7.out.1.a.len; have:=HT.out.2; simp; omega) ?_; intro V8 w8 ho8 T8 hv8)
   obtain ⟨U8,K8⟩:=Uf.push (H7.out.1) HT.out.1 (Below.alloc0 w7 _) ho8 T8 hv8 (by have:=HLN.out; simp; omega) (by simp)
   obtain ⟨aW8,cW8,hW8,_⟩:=OwnK.sl ho8 |>.form
   subst hW8
   have H8:=Hid.mk7 U8
   clear ho8 T8 hv8 U8 K8
   have hq9:Then (r7) (PM.bind (pAdd ⟨6,⟨#[]⟩,⟨#[]⟩,0,(l2++[z7]),at_⟩) PM.ret)=res:=by rw [PM.bind_ret]; exact H7.out.2
   have c9:=Uf.node (H8.out.to2) HT.out.1 HC.out (by decide) 6 at_ ⟨#[]⟩ hq9
   clear hq9
   go_wp2_with fail
   refine c9.mono ?_
   rintro y w9 ⟨z9,rfl,_,r9,hq9,U9,_⟩
   have H9:=Hid.mk7 (U9.done hq9)
   clear c9 hq9 U9
   go_wp2
   go_ret
   exact H9.out
end
theorem atClass_true {T:List Tk} {i:Nat} (h:TkOk (tokAt T (i+1))) (hs:tkIs ⟨#[58]⟩ (tokAt T (i+1))=true):atClass T i=((decide ((tokAt T i).kind=1) && (decide ((tokAt T i).text=⟨#[116,104,114,111,119]⟩) || decide ((tokAt T i).text=⟨#[101,114,114,111,114]⟩) || decide ((tokAt T i).text=⟨#[101,120,105,116]⟩))) || isTk 2 ⟨#[95]⟩ (tokAt T i)):=by
 rw [tkIs_sign h (by simp [allSigns])] at hs
 simp [atClass,sgn,hs]
theorem atClass_false {T:List Tk} {i:Nat} (h:TkOk (tokAt T (i+1))) (hs:tkIs ⟨#[58]⟩ (tokAt T (i+1))=false):atClass T i=false:=by
 rw [tkIs_sign h (by simp [allSigns])] at hs
 simp [atClass,sgn,hs]
section
variable {w:World} {q:Nat} {Tv:Value} {T:List Tk} {i:Nat} {Nv:Value} {N:List Nd}
def ClassRead (w:World) (q:Nat) (Tv:Value) (T:List Tk) (i:Nat) (Nv:Value) (N:List Nd) (b:Bool) (w':World):Prop:=PAt w' q Tv T (if b then i+2 else i) Nv N∧Gd w' q∧Turned (fun k=>k=q) w w'
theorem rf_class (h:PAt w q Tv T i Nv N) (hg:Gd w q) (hTk:TkOk (tokAt T (i+1))):Calls Tryz.prog 217 #[.pointer (some ⟨q,0,none⟩)] w fun x w'=>x=.returned (.string (if atClass T i then (tokAt T i).text else ⟨#[]⟩))∧ClassRead w q Tv T i Nv N (atClass T i) w':=by
 have ht:=rf_token11 h hg 0 (by omega)
 rw [Nat.add_zero] at ht
 have hat:(tkIs ⟨#[58]⟩ (tokAt T (i+1))=true→atClass T i=((decide ((tokAt T i).kind=1) && (decide ((tokAt T i).text=⟨#[116,104,114,111,119]⟩) || decide ((tokAt T i).text=⟨#[101,114,114,111,114]⟩) || decide ((tokAt T i).text=⟨#[101,120,105,116]⟩))) || isTk 2 ⟨#[95]⟩ (tokAt T i)))∧(tkIs ⟨#[58]⟩ (tokAt T (i+1))=false→atClass T i=false):=⟨atClass_true hTk,atClass_false hTk⟩
 have hlt:=tkIs_lt (T:=T) (i:=i+1) (s:=⟨#[58]⟩)
 have HH:=Hid.mk7 (And.intro h hg)
 have hil:=h.tl
 have hql:=h.lt
 clear h hg hTk
 generalize atClass T i=bb at hat ⊢
 generalize tokAt T i=t at ht hat ⊢
 obtain ⟨tk,tt,tn,ta⟩:=t
 simp only [Tk.val] at ht hat ⊢
 unfold ClassRead
 go_enter Tryz.func217,Tryz.ntmps217
 go_wp2_with fail
 refine ht.mono ?_
 rintro x w1 ⟨rfl,hb1⟩
 have B1:=hb1.up1 (.cells #[.int .i64 tk,.string tt,.int .i64 tn,.int .i64 ta] 40)
 have hs:=rf_sign (HH.out.1.below B1) (HH.out.2.below B1) 1 (by omega) ⟨#[58]⟩
 have hl1:q < w1.heap.size:=by have:=hb1.size; omega
 have H1:=Hid.mk7 B1
 clear ht hb1 B1
 cases hc:tkIs ⟨#[58]⟩ (tokAt T (i+1)) with
 | false=>
  have hbb:=hat.2 hc
  subst hbb
  rw [hc] at hs
  clear hat hlt hc
  go_wp2_with fail
  refine hs.mono ?_
  rintro x w2 ⟨rfl,hb2⟩
  have H2:=Hid.mk7 (H1.out.trans (hb2.mono H1.out.size))
  clear hs hb2
  go_wp2
  go_ret
  exact ⟨rfl,HH.out.1.below H2.out,HH.out.2.below H2.out,Turned.ofBelow H2.out⟩
 | true=>
  have hbb:=hat.1 hc
  have hi:=hlt hc
  rw [hc] at hs
  clear hat hlt hc
  go_wp2_with fail
  refine hs.mono ?_
  rintro x w2 ⟨rfl,hb2⟩
  have hl2:w1.heap.size < w2.heap.size:=by have:=hb2.size; simp at this; omega
  have k0:w2.cell? ⟨w1.heap.size,0,none⟩=some (.int .i64 tk):=(hb2.cell (p:=⟨w1.heap.size,0,none⟩) (by simp)).trans (by simp)
  have k1:w2.cell? ⟨w1.heap.size,1,none⟩=some (.string tt):=(hb2.cell (p:=⟨w1.heap.size,1,none⟩) (by simp)).trans (by simp)
  have B2:=H1.out.trans (hb2.mono H1.out.size)
  have h2:=HH.out.1.below B2
  have g2:=HH.out.2.below B2
  have H2:=Hid.mk7 B2
  clear hs hb2 B2
  have yes:PAt (w2.setCell ⟨q,1,none⟩ (.int .i64 ((i+2:Nat):Int))) q Tv T (i+2) Nv N∧Gd (w2.setCell ⟨q,1,none⟩ (.int .i64 ((i+2:Nat):Int))) q∧Turned (fun k=>k=q) w (w2.setCell ⟨q,1,none⟩ (.int .i64 ((i+2:Nat):Int))):=by
   obtain ⟨p3,t3⟩:=h2.next (i+2) (by omega) rfl
   exact ⟨p3,g2.set 1 _ (by omega),(Turned.ofBelow (S:=fun k=>k=q) H2.out).trans t3 (fun _ e=>.inl e)⟩
  have no:PAt w2 q Tv T i Nv N∧Gd w2 q∧Turned (fun k=>k=q) w w2:=⟨h2,g2,Turned.ofBelow H2.out⟩
  have HY:=Hid.mk7 yes
  have HN:=Hid.mk7 no
  have hc1:=h2.c1.1
  have hf1:=h2.c1.2
  have hw2:wrap64 ((i:Int)+2)=((i+2:Nat):Int):=by unfold wrap64; omega
  have hne:¬ w1.heap.size=q:=by omega
  clear h2 g2 yes no
  have split:(tk=2∧tt=⟨#[95]⟩∧bb=true)∨(tk=1∧tt=⟨#[116,104,114,111,119]⟩∧bb=true)∨(tk=1∧tt=⟨#[101,114,114,111,114]⟩∧bb=true)∨(tk=1∧tt=⟨#[101,120,105,116]⟩∧bb=true)∨(tk=2∧¬ tt=⟨#[95]⟩∧bb=false)∨(tk=1∧¬ tt=⟨#[116,104,114,111,119]⟩∧¬ tt=⟨#[101,114,114,111,114]⟩∧¬ tt=⟨#[101,120,105,116]⟩∧bb=false)∨(¬ tk=2∧¬ tk=1∧bb=false):=by
   rw [hbb]
   simp only [isTk]
   by_cases h2:tk=2
   ·subst h2
    by_cases hu:tt=⟨#[95]⟩ <;> simp [hu]
   ·by_cases h1:tk=1
    ·subst h1
     by_cases a1:tt=⟨#[116,104,114,111,119]⟩ <;> by_cases a2:tt=⟨#[101,114,114,111,114]⟩ <;> by_cases a3:tt=⟨#[101,120,105,116]⟩ <;> simp [a1,a2,a3]
    ·simp [h1,h2]
  clear hbb
  rcases split with ⟨rfl,rfl,e⟩ | ⟨rfl,rfl,e⟩ | ⟨rfl,rfl,e⟩ | ⟨rfl,rfl,e⟩ | ⟨rfl,n1,e⟩ | ⟨rfl,n1,n2,n3,e⟩ | ⟨n1,n2,e⟩
  ·subst e
   go_wp2
   go_ret
   exact ⟨rfl,HY.out⟩
  ·subst e
   go_wp2
   go_ret
   exact ⟨rfl,HY.out⟩
  ·subst e
   go_wp2
   go_ret
   exact ⟨rfl,HY.out⟩
  ·subst e
   go_wp2
   go_ret
   exact ⟨rfl,HY.out⟩
  ·subst e
   have m1:=list_ne (l:=[95]) n1
   go_wp2
   go_ret
   exact ⟨rfl,HN.out⟩
  ·subst e
   have m1:=list_ne (l:=[116,104,114,111,119]) n1
   have m2:=list_ne (l:=[101,114,114,111,114]) n2
   have m3:=list_ne (l:=[101,120,105,116]) n3
   go_wp2
   go_ret
   exact ⟨rfl,HN.out⟩
  ·subst e
   have m1:(tk == 2)=false:=by simpa using n1
   have m2:(tk == 1)=false:=by simpa using n2
   go_wp2
   go_ret
   exact ⟨rfl,HN.out⟩
end
section
variable {T:List Tk} {w wr w2:World} {q:Nat} {Tv Nv:Value} {N:List Nd} {s:Ps} {B:Nat} {d:Int} {H:Nat→Prop} {V1 V2:Value} {l1 l2 zs:List Int} {u:Ps}
theorem Uf.class (U:Uf T w wr q Tv Nv N s B d H V1 l1 V2 l2 zs (.ok u)) (hTk:TkOk (tokAt T (u.i+1))) :
  Calls Tryz.prog 217 #[.pointer (some ⟨q,0,none⟩)] wr fun y w2=>y=.returned (.string (if atClass T u.i then (tokAt T u.i).text else ⟨#[]⟩))∧Kp H wr w2∧Uf T w w2 q Tv Nv N s B d H V1 l1 V2 l2 zs (.ok ⟨if atClass T u.i then u.i+2 else u.i,u.N⟩):=by
 obtain ⟨p,g,hz,Nv1,M1,rg,f⟩:=U.x
 refine (rf_class rg.ps.at_ g hTk).mono ?_
 rintro y w2 ⟨rfl,p2,g2,t2⟩
 cases hc:atClass T u.i with
 | true=>
  have hlt:u.i+2≤T.length:=by
   have h1:sgn T ⟨#[58]⟩ (u.i+1)=true:=by
    simp only [atClass,Bool.and_eq_true] at hc
    exact hc.2
   have:=sgn_lt h1
   omega
  rw [hc] at p2
  obtain ⟨U2,K2⟩:=U.next rg f 2 hlt p2 g2 t2
  exact ⟨rfl,K2,by simpa using U2.weak (by omega)⟩
 | false=>
  rw [hc] at p2
  obtain ⟨U2,K2⟩:=U.next rg f 0 (by have:=rg.ps.ok.il; omega) p2 g2 t2
  exact ⟨rfl,K2,by simpa using U2⟩
end
end Go.Proofs.YtlciaafincgdeaaGreatDoor
