/-
  Layer 11 (parse): the document's parser: exports.
-/
import Derived.Test.YtlciaafincgdeaaGreatDoorPNq
namespace Go.Proofs.YtlciaafincgdeaaGreatDoor
open Go.RowKit
set_option maxHeartbeats 1600000
set_option maxRecDepth 100000
def expK (T:List Tk) (ks:List Int):PM (List Int):=PM.bind (pNeed T (sgn T ⟨#[93]⟩)) fun _=>PM.bind (pNeed T (sgn T ⟨#[41]⟩)) fun _=>PM.bind (pNeed T (knd T 6)) fun _=>PM.ret ks
def expH (T:List Tk) (ph:PM Nat) (fu:Nat) (l:List Int):PM (List Int):=match l with
 | []=>pIf (sgn T ⟨#[93]⟩) (expK T []) (rowH T ⟨#[44]⟩ ph fu [] (expK T))
 | a :: m=>rowH T ⟨#[44]⟩ ph fu (a :: m) (expK T)
theorem expH_cons {T:List Tk} {ph:PM Nat} {fu:Nat} {l:List Int} (h:0 < l.length):expH T ph fu l=rowH T ⟨#[44]⟩ ph fu l (expK T):=by
 cases l with
 | nil=>simp at h
 | cons a m=>rfl
theorem exports_eq (T:List Tk) (rec:Ph→PM Nat):exports T rec=PM.bind (pNeed T (sgn T ⟨#[45]⟩)) fun _=>PM.bind (pNeed T (atm T ⟨#[101,120,112,111,114,116]⟩)) fun _=>PM.bind (pNeed T (sgn T ⟨#[40]⟩)) fun _=>PM.bind (pNeed T (sgn T ⟨#[91]⟩)) fun _=>expH T (rec .export) (T.length+1) []:=by
 have h1:PM.bind (pIf (sgn T ⟨#[93]⟩) (PM.ret []) (row T ⟨#[44]⟩ (rec .export))) (expK T)=expH T (rec .export) (T.length+1) []:=by
  funext s
  simp only [expH,← rowH_start,PM.bind,pIf]
  cases sgn T ⟨#[93]⟩ s.i <;> rfl
 unfold exports enclosed
 rw [← h1]
 unfold expK
 simp only [PM.bind_assoc]
 rfl
theorem need_none {T:List Tk} {b:Nat→Bool} {K:Tk→PM (List Int)} {r:Except Nat Ps} (h:∀ u,r=.ok u→b u.i=false):Then r (PM.bind (pNeed T b) K)=.error (errOf r):=by
 cases r with
 | error e=>rfl
 | ok u=>simp [Then,PM.bind,pNeed,h u rfl,errOf]
def ExI (T:List Tk) (ph:PM Nat) (w wr:World) (q:Nat) (Tv Nv:Value) (N:List Nd) (s:Ps) (res:Except Nat (List Int × Ps)) (V:Value):Prop:=
 ∃ (l:List Int) (r:Except Nat Ps) (fu:Nat),Uf T w wr q Tv Nv N s (T.length+2) 0 noH V l (.slice none 0 0) [] [] r∧Then r (expH T ph fu l)=res∧l.length≤T.length+1∧∀ u,r=.ok u→T.length - u.i < fu∧l.length+s.i≤u.i
section
variable {T:List Tk}
theorem x_exports (hT:0 < T.length) (hTk:∀ i,TkOk (tokAt T i)) {f:Nat} (hf:1≤f) (s:Ps):PhL T 62 [] (exports T (runP T f)) s:=by
 intro w q Tv Nv N h hg
 obtain ⟨f,rfl⟩:∃ k,f=k+1:=⟨f - 1,by omega⟩
 obtain ⟨res,hres⟩:∃ res,exports T (runP T (f+1)) s=res:=⟨_,rfl⟩
 rw [hres]
 rw [exports_eq] at hres
 show Calls Tryz.prog _ #[.pointer (some ⟨q,0,none⟩)] w _
 have U0:=Uf.start h hg (T.length+2)
 have HC:=Hid.mk7 h.cnt
 have HT:=Hid.mk7 (And.intro hT h.at_.tl)
 have HX:=Hid.mk7 (And.intro trivial (And.intro hTk trivial))
 have c0:=Uf.want (U0) ⟨#[45]⟩ (b:=sgn T ⟨#[45]⟩) (fun i=>(tkIs_sign (HX.out.2.1 _) (by simp [allSigns])).symm) hres
 clear h hg U0 hTk hres hT hf
 go_enter Tryz.func62,Tryz.ntmps62
 go_wp2_with fail
 refine c0.mono ?_
 rintro y w0 ⟨rfl,K0,r0,hq0,U0,hr0⟩
 have c1:=U0.word ⟨#[101,120,112,111,114,116]⟩
 have H0:=Hid.mk7 (And.intro U0 (And.intro hq0 hr0))
 clear c0 hq0 U0 hr0 K0
 go_wp2_with fail
 refine c1.mono ?_
 rintro y w1 ⟨hb1,⟨rfl,u,hu,hk⟩ | ⟨rfl,hk⟩⟩
 ·subst hu
  have hlt:u.i < T.length:=atm_lt hk
  have hq1:Then (.ok ⟨u.i+1,u.N⟩) (PM.bind (pNeed T (sgn T ⟨#[40]⟩)) fun _=>PM.bind (pNeed T (sgn T ⟨#[91]⟩)) fun _=>expH T (runP T (f+1) .export) (T.length+1) [])=res:=by
   rw [← H0.out.2.1]
   simp only [Then,PM.bind,pNeed,hk,if_true]
  have U1:=H0.out.1.below hb1
  obtain ⟨U2,_⟩:=U1.skip hlt
  obtain ⟨_,_,_,Nv1,M1,rg,_⟩:=U1.x
  have cc1:=rg.ps.at_.c1.1
  have cf1:=rg.ps.at_.c1.2
  have cql:=rg.ps.at_.lt
  have ctl:=rg.ps.at_.tl
  have hsi:s.i≤u.i:=U1.il.2
  have c2:=Uf.want (U2) ⟨#[40]⟩ (b:=sgn T ⟨#[40]⟩) (fun i=>(tkIs_sign (HX.out.2.1 _) (by simp [allSigns])).symm) hq1
  have HS:=Hid.mk7 hsi
  clear c1 hb1 hk hq1 U1 U2 rg hsi
  go_wp2_with fail
  refine c2.mono ?_
  rintro y w2 ⟨rfl,K2,r2,hq2,U2,hr2⟩
  have c3:=Uf.want (U2) ⟨#[91]⟩ (b:=sgn T ⟨#[91]⟩) (fun i=>(tkIs_sign (HX.out.2.1 _) (by simp [allSigns])).symm) hq2
  have H2:=Hid.mk7 hr2
  clear c2 hq2 U2 hr2 K2 cc1 cf1 cql ctl hlt
  go_wp2_with fail
  refine c3.mono ?_
  rintro y w3 ⟨rfl,K3,r3,hq3,U3,hr3⟩
  have hi3:∀ v,r3=.ok v→s.i≤v.i:=fun v e=>by
   obtain ⟨v2,e1,_,rfl⟩:=hr3 v e
   obtain ⟨v3,e2,_,rfl⟩:=H2.out v2 e1
   cases e2
   have:=HS.out
   simp
   omega
  have H3:=Hid.mk7 (And.intro (U3.weak (d':=0) (by decide)) (And.intro hq3 hi3))
  clear c3 hq3 U3 hr3 K3 hi3
  go_wp2_with fail
  go_loopw [3] (fun V wr=>ExI T (runP T (f+1) .export) w wr q Tv Nv N s res V) (fun _ wr=>leftOf T wr q)
  case atStart=>exact ⟨[],r3,T.length+1,H3.out.1,H3.out.2.1,by simp,fun v e=>by have:=H3.out.2.2 v e; have:=HT.out.1; simp; omega⟩
  case round=>
   obtain ⟨l,r,fu,U,hq,hl,hr⟩:=hrel
   obtain ⟨aV,cV,hV,_⟩:=OwnK.sl U.a.own |>.form
   subst hV
   cases r with
   | error e=>
    have hb:=U.x.1.bad
    have H1:=Hid.mk7 (And.intro U (And.intro hq hl))
    clear U hq hr hl
    have c10:=Uf.want (H1.out.1) ⟨#[93]⟩ (b:=sgn T ⟨#[93]⟩) (k:=PM.bind (pNeed T (sgn T ⟨#[41]⟩)) fun _=>PM.bind (pNeed T (knd T 6)) fun _=>PM.ret l) (fun i=>(tkIs_sign (HX.out.2.1 _) (by simp [allSigns])).symm) H1.out.2.1
    have HLN:=Hid.mk7 (H1.out.2.2)
    go_wp2_with fail
    refine c10.mono ?_
    rintro y w10 ⟨rfl,K10,r10,hq10,U10,hr10⟩
    have c11:=Uf.want (U10) ⟨#[41]⟩ (b:=sgn T ⟨#[41]⟩) (fun i=>(tkIs_sign (HX.out.2.1 _) (by simp [allSigns])).symm) hq10
    clear c10 hq10 U10 hr10 K10
    go_wp2_with fail
    refine c11.mono ?_
    rintro y w11 ⟨rfl,K11,r11,hq11,U11,hr11⟩
    have c12:=U11.kind 6 (by decide) hq11
    clear c11 hq11 U11 hr11 K11
    go_wp2_with fail
    refine c12.mono ?_
    rintro y w12 ⟨⟨k12,t12,n12,a12⟩,rfl,_,r12,hq12,U12,_⟩
    have HE:=Hid.mk7 (U12.doneL HLN.out hq12)
    clear c12 hq12 U12
    simp only [Tk.val]
    go_wp2
    go_ret
    exact HE.out
   | ok u=>
    have hb:=U.x.2.1.c3.1
    have HL:=Hid.mk7 (And.intro U.left (And.intro U.il (And.intro (hr u rfl) hl)))
    obtain ⟨nl,hnl⟩:∃ nl:Nat,nl=l.length:=⟨_,rfl⟩
    rw [← hnl] at U ⊢
    by_cases hl0:nl=0
    ·subst hl0
     have HLE:=Hid.mk7 (List.length_eq_zero_iff.1 hnl.symm)
     clear hnl
     have c0:=U.sign 0 (by omega) ⟨#[93]⟩
     have H1:=Hid.mk7 (And.intro U (And.intro hq hl))
     clear U hq hr hl
     go_wp2_with fail
     refine c0.mono ?_
     rintro y w0 ⟨hb0,⟨rfl,u2,hu,hk⟩ | ⟨rfl,hk⟩⟩
     ·cases hu
      simp only [Nat.add_zero] at hk
      rw [tkIs_sign (HX.out.2.1 _) (by simp [allSigns])] at hk
      have hq1:Then (.ok u) (expK T l)=res:=by
       rw [← H1.out.2.1,HLE.out]
       simp only [Then,expH,pIf,sgn,hk,if_true]
      have U2:=H1.out.1.below hb0
      have H2:=Hid.mk7 (And.intro U2 (And.intro hq1 H1.out.2.2))
      clear c0 hb0 hk U2 hq1 hb
      have c10:=Uf.want (H2.out.1) ⟨#[93]⟩ (b:=sgn T ⟨#[93]⟩) (k:=PM.bind (pNeed T (sgn T ⟨#[41]⟩)) fun _=>PM.bind (pNeed T (knd T 6)) fun _=>PM.ret l) (fun i=>(tkIs_sign (HX.out.2.1 _) (by simp [allSigns])).symm) H2.out.2.1
      have HLN:=Hid.mk7 (H2.out.2.2)
      go_wp2_with fail
      refine c10.mono ?_
      rintro y w10 ⟨rfl,K10,r10,hq10,U10,hr10⟩
      have c11:=Uf.want (U10) ⟨#[41]⟩ (b:=sgn T ⟨#[41]⟩) (fun i=>(tkIs_sign (HX.out.2.1 _) (by simp [allSigns])).symm) hq10
      clear c10 hq10 U10 hr10 K10
      go_wp2_with fail
      refine c11.mono ?_
      rintro y w11 ⟨rfl,K11,r11,hq11,U11,hr11⟩
      have c12:=U11.kind 6 (by decide) hq11
      clear c11 hq11 U11 hr11 K11
      go_wp2_with fail
      refine c12.mono ?_
      rintro y w12 ⟨⟨k12,t12,n12,a12⟩,rfl,_,r12,hq12,U12,_⟩
      have HE:=Hid.mk7 (U12.doneL HLN.out hq12)
      clear c12 hq12 U12
      simp only [Tk.val]
      go_wp2
      go_ret
      exact HE.out
     ·have hk:sgn T ⟨#[93]⟩ u.i=false:=by
       have h1:=hk u rfl
       simp only [Nat.add_zero] at h1
       rw [tkIs_sign (HX.out.2.1 _) (by simp [allSigns])] at h1
       exact h1
      have hqB:Then (.ok u) (rowH T ⟨#[44]⟩ (runP T (f+1) .export) fu l (expK T))=res:=by
       rw [← H1.out.2.1,HLE.out]
       simp only [Then,expH,pIf,hk,Bool.false_eq_true,if_false]
      have HB:=Hid.mk7 (And.intro (H1.out.1.below hb0) hqB)
      clear c0 hb0 hk hqB hb H1
      have hq1:Then (.ok u) (PM.bind (pNeed T (knd T 1)) fun a=>PM.bind (pNeed T (sgn T ⟨#[47]⟩)) fun _=>PM.bind (pNeed T (knd T 3)) fun n=>PM.bind (pAdd ⟨29,a.text,⟨#[]⟩,n.num,[],a.at_⟩) fun k=>PM.bind (rowL T ⟨#[44]⟩ (runP T (f+1) .export) fu (l++[(k:Int)])) (expK T))=res:=by
       rw [← HB.out.2]
       simp only [Then,rowH,runP,phBody,PM.bind,pNeed]
       cases knd T 1 u.i with
       | false=>rfl
       | true=>
        simp only [if_true]
        cases sgn T ⟨#[47]⟩ (u.i+1) with
        | false=>rfl
        | true=>
         simp only [if_true]
         cases knd T 3 (u.i+1+1) <;> rfl
      have c1:=HB.out.1.kind 1 (by decide) hq1
      clear hq1
      go_wp2_with fail
      refine c1.mono ?_
      rintro y w1 ⟨⟨ak,at_,an,aa⟩,rfl,_,r1,hq1,U1,hr1⟩
      have U1h:=U1.hold HT.out.1 (.cells #[.int .i64 ak,.string at_,.int .i64 an,.int .i64 aa] 40)
      have e3:(w1.alloc (.cells #[.int .i64 ak,.string at_,.int .i64 an,.int .i64 aa] 40)).cell? ⟨w1.heap.size,3,none⟩=some (.int .i64 aa):=by simp
      have e1:(w1.alloc (.cells #[.int .i64 ak,.string at_,.int .i64 an,.int .i64 aa] 40)).cell? ⟨w1.heap.size,1,none⟩=some (.string at_):=by simp
      have c2:=Uf.want (U1h) ⟨#[47]⟩ (b:=sgn T ⟨#[47]⟩) (fun i=>(tkIs_sign (HX.out.2.1 _) (by simp [allSigns])).symm) hq1
      have H1:=Hid.mk7 (And.intro hr1 (And.intro e3 e1))
      clear c1 hq1 U1 hr1 U1h e3 e1
      simp only [Tk.val]
      go_wp2_with fail
      refine c2.mono ?_
      rintro y w2 ⟨rfl,K2,r2,hq2,U2,hr2⟩
      have c3:=U2.kind 3 (by decide) hq2
      have e3:=(K2.cell (k:=w1.heap.size) (j:=3) (.inr rfl)).trans H1.out.2.1
      have e1:=(K2.cell (k:=w1.heap.size) (j:=1) (.inr rfl)).trans H1.out.2.2
      have H2:=Hid.mk7 (And.intro hr2 (And.intro e3 e1))
      clear c2 hq2 U2 hr2 K2 e3 e1
      go_wp2_with fail
      refine c3.mono ?_
      rintro y w3 ⟨⟨nk,nt,nn,na⟩,rfl,K3,r3',hq3',U3,hr3'⟩
      have hi8:∀ v,r3'=.ok v→u.i < v.i:=fun v e=>by
       obtain ⟨v2,e1,_,_,rfl⟩:=hr3' v e
       obtain ⟨v3,e2,_,rfl⟩:=H2.out.1 v2 e1
       obtain ⟨v4,e3,_,_,rfl⟩:=H1.out.1 v3 e2
       cases e3
       simp
       omega
      have U4:=U3.hold HT.out.1 (.cells #[.int .i64 nk,.string nt,.int .i64 nn,.int .i64 na] 40)
      have e3:(w3.alloc (.cells #[.int .i64 nk,.string nt,.int .i64 nn,.int .i64 na] 40)).cell? ⟨w1.heap.size,3,none⟩=some (.int .i64 aa):=by
       have h1:=(K3.cell (k:=w1.heap.size) (j:=3) (.inr rfl)).trans H2.out.2.1
       rw [World.cell?_alloc_lt _ _ ⟨w1.heap.size,3,none⟩ (World.block_lt_of_cell? w3 _ h1)]
       exact h1
      have e1:(w3.alloc (.cells #[.int .i64 nk,.string nt,.int .i64 nn,.int .i64 na] 40)).cell? ⟨w1.heap.size,1,none⟩=some (.string at_):=by
       have h1:=(K3.cell (k:=w1.heap.size) (j:=1) (.inr rfl)).trans H2.out.2.2
       rw [World.cell?_alloc_lt _ _ ⟨w1.heap.size,1,none⟩ (World.block_lt_of_cell? w3 _ h1)]
       exact h1
      have l3:w1.heap.size < w3.heap.size:=World.block_lt_of_cell? w3 _ ((K3.cell (k:=w1.heap.size) (j:=3) (.inr rfl)).trans H2.out.2.1)
      have e1x:w3.cell? ⟨w1.heap.size,1,none⟩=some (.string at_):=(K3.cell (k:=w1.heap.size) (j:=1) (.inr rfl)).trans H2.out.2.2
      have e3x:w3.cell? ⟨w1.heap.size,3,none⟩=some (.int .i64 aa):=(K3.cell (k:=w1.heap.size) (j:=3) (.inr rfl)).trans H2.out.2.1
      have en:(w3.alloc (.cells #[.int .i64 nk,.string nt,.int .i64 nn,.int .i64 na] 40)).cell? ⟨w3.heap.size,2,none⟩=some (.int .i64 nn):=by simp
      have HN:=Hid.mk7 (And.intro hi8 (And.intro en hq3'))
      cases r3' with
      | error e=>
       have c7:=(U4.weak (d':=1) (by decide)).nodeX HT.out.1 HC.out (by decide) 29 aa at_
       clear c3 K3 hq3' U3 hr3' hi8 U4 e3 e1 en
       simp only [Tk.val]
       go_wp2_with fail
       refine c7.mono ?_
       rintro y w7 ⟨z7,rfl,_,U7⟩
       have U7:Uf T w w7 q Tv Nv N s (T.length+2) (1 - 1) (fun k=>(noH k∨k=w1.heap.size)∨k=w3.heap.size) (.slice aV 0 cV) l (.slice none 0 0) [] (z7 :: []) (.error e):=U7
       have hb7:=U7.x.1.bad
       obtain ⟨r8,hr8⟩:∃ r8:Except Nat Ps,r8=.error e:=⟨_,rfl⟩
       have H8:=Hid.mk7 (show Uf T w w7 q Tv Nv N s (T.length+2) (1 - 1) (fun k=>(noH k∨k=w1.heap.size)∨k=w3.heap.size) (.slice aV 0 cV) l (.slice none 0 0) [] (z7 :: []) r8∧Then r8 (PM.bind (rowL T ⟨#[44]⟩ (runP T (f+1) .export) fu (l++[z7])) (expK T))=res∧∀ v,r8=.ok v→u.i < v.i from ⟨by rw [hr8]; exact U7,by rw [hr8]; exact HN.out.2.2,fun v e=>by rw [hr8] at e; cases e⟩)
       clear c7 U7 hr8
       go_wp2_with (at_builtin; refine wpList_append_k (by rfl) (.tmp 66) (.tmp 68) (by rfl) Tryz.intTypes (by rfl) (by rfl) (OwnK.turned H8.out.1.a.own (Turned.alloc (fun _=>False) _ _) (fun _ _ e=>e)) (SlI.one _ _ _) (ints_one _) (by have:=H8.out.1.a.len; have:=HT.out.2; simp; omega) (by have:=H8.out.1.a.len; have:=HT.out.2; simp; omega) ?_; intro V9 w9 ho9 T9 hv9)
       obtain ⟨U9a,_⟩:=H8.out.1.push HT.out.1 (Below.alloc0 _ _) ho9 T9 hv9 (by have:=HL.out.2.2.2; simp; omega) (by simp)
       obtain ⟨aW,cW,hW,_⟩:=OwnK.sl ho9 |>.form
       have U9:=(U9a.nums (zs':=[]) (fun z hz=>by cases hz)).free (H':=noH) (fun k e=>e.elim)
       clear U9a
       rw [hW] at U9
       subst hW
       have c9:=U9.take ⟨#[44]⟩
       clear ho9 T9 hv9 U9
       go_wp2_with fail
       refine c9.mono ?_
       rintro y w5 ⟨_,⟨rfl,v,hv,hk,hlt,U5⟩ | ⟨rfl,hk,U5⟩⟩
       ·subst hv
        have hk:sgn T ⟨#[44]⟩ v.i=true:=by rw [tkIs_sign (HX.out.2.1 _) (by simp [allSigns])] at hk; exact hk
        have hq5:Then (.ok ⟨v.i+1,v.N⟩) (expH T (runP T (f+1) .export) (fu - 1) (l++[z7]))=res:=by
         rw [expH_cons (by simp)]
         exact (rowH_next (by have:=HL.out.2.2.1.1; omega) hk).symm.trans H8.out.2.1
        have H5:=Hid.mk7 (And.intro (U5.weak (d':=0) (by decide)) (And.intro hq5 hlt))
        clear c9 hk hlt U5 hq5
        go_wp2
        go_roundw
        case rel=>
         refine ⟨l++[z7],.ok ⟨v.i+1,v.N⟩,fu - 1,H5.out.1,H5.out.2.1,?_,fun u2 e=>?_⟩
         ·have h1:=H8.out.2.2 v rfl; have:=HL.out.2.2.1.2; have:=H5.out.2.2; simp; omega
         ·cases e
          have h1:=H8.out.2.2 v rfl
          have h2:=HL.out.2.2.1
          have:=H5.out.2.2
          simp
          omega
        case measure=>
         have h1:=H8.out.2.2 v rfl
         have h2:=H5.out.1.left
         have h3:=HL.out.1
         have h4:=H5.out.2.2
         simp only at h2 h3
         omega
       ·have hq5:=(rowH_stop (K:=expK T) (fun u2 e=>by have:=HL.out.2.2.1.1; omega) (fun u2 e=>by have:=hk u2 e; rw [tkIs_sign (HX.out.2.1 _) (by simp [allSigns])] at this; exact this)).symm.trans H8.out.2.1
        have H5:=Hid.mk7 (And.intro U5 hq5)
        clear c9 hk U5 hq5
        have c10:=Uf.want (H5.out.1) ⟨#[93]⟩ (b:=sgn T ⟨#[93]⟩) (k:=PM.bind (pNeed T (sgn T ⟨#[41]⟩)) fun _=>PM.bind (pNeed T (knd T 6)) fun _=>PM.ret (l++[z7])) (fun i=>(tkIs_sign (HX.out.2.1 _) (by simp [allSigns])).symm) H5.out.2
        have HLN:=Hid.mk7 (show (l++[z7]).length≤T.length+1 by have:=HL.out.2.2.1.2; have:=HL.out.2.1; simp; omega)
        go_wp2_with fail
        refine c10.mono ?_
        rintro y w10 ⟨rfl,K10,r10,hq10,U10,hr10⟩
        have c11:=Uf.want (U10) ⟨#[41]⟩ (b:=sgn T ⟨#[41]⟩) (fun i=>(tkIs_sign (HX.out.2.1 _) (by simp [allSigns])).symm) hq10
        clear c10 hq10 U10 hr10 K10
        go_wp2_with fail
        refine c11.mono ?_
        rintro y w11 ⟨rfl,K11,r11,hq11,U11,hr11⟩
        have c12:=U11.kind 6 (by decide) hq11
        clear c11 hq11 U11 hr11 K11
        go_wp2_with fail
        refine c12.mono ?_
        rintro y w12 ⟨⟨k12,t12,n12,a12⟩,rfl,_,r12,hq12,U12,_⟩
        have HE:=Hid.mk7 (U12.doneL HLN.out hq12)
        clear c12 hq12 U12
        simp only [Tk.val]
        go_wp2
        go_ret
        exact HE.out
      | ok v=>
       have c7:=(U4.weak (d':=1) (by decide)).nodeSet HT.out.1 HC.out (by decide) 29 aa at_
       clear c3 K3 hq3' U3 hr3' hi8 U4 e3 e1 en
       simp only [Tk.val]
       go_wp2_with fail
       refine c7.mono ?_
       rintro y w7 ⟨rfl,K7,g7,⟨b8,o8,cp8,n2,nq,nb,nbq,nH,_,⟨m3,mf3⟩,_,nkk⟩,_⟩
       have en:=(K7.cell (k:=w3.heap.size) (j:=2) (.inr rfl)).trans HN.out.2.1
       have ln:=World.block_lt_of_cell? w7 _ en
       have hb7:=g7.c3.1
       obtain ⟨z7,hz7⟩:∃ z7:Int,z7=(v.N.length:Int):=⟨_,rfl⟩
       obtain ⟨r8,hr8⟩:∃ r8:Except Nat Ps,r8=.ok ⟨v.i,v.N++[⟨29,at_,⟨#[]⟩,nn,[],aa⟩]⟩:=⟨_,rfl⟩
       have hq8:Then r8 (PM.bind (rowL T ⟨#[44]⟩ (runP T (f+1) .export) fu (l++[z7])) (expK T))=res:=by
        rw [hr8,hz7,← HN.out.2.2]
        simp [Then,PM.bind,pAdd]
       have U8:=(nkk nn).below (Below.refl _ _).drew
       have H8:=Hid.mk7 (show Uf T w (w7.setCell ⟨b8,o8+v.N.length*6+3,none⟩ (.int .i64 nn)).drew q Tv Nv N s (T.length+2) (1 - 1) (fun k=>(noH k∨k=w1.heap.size)∨k=w3.heap.size) (.slice aV 0 cV) l (.slice none 0 0) [] (z7 :: []) r8∧Then r8 (PM.bind (rowL T ⟨#[44]⟩ (runP T (f+1) .export) fu (l++[z7])) (expK T))=res∧∀ v2,r8=.ok v2→u.i < v2.i from ⟨by rw [hr8,hz7]; exact U8,hq8,fun v2 e=>by rw [hr8] at e; cases e; exact HN.out.1 v rfl⟩)
       clear c7 K7 g7 nH nkk U8 hq8 hr8
       rw [← hz7]
       have hzl:z7 < ((v.N.length+1:Nat):Int):=by omega
       have hz0:0≤z7:=by omega
       have hzn:z7.toNat=v.N.length:=by omega
       generalize v.N.length=LN at n2 m3 mf3 H8 hz7 hzl hzn ⊢
       subst hz7
       have hLN:(LN:Int) < ((LN+1:Nat):Int):=by omega
       clear hzl hz0 hzn
       go_wp2_with fail
       go_region
       all_goals
        generalize (w7.setCell ⟨b8,o8+LN*6+3,none⟩ (.int .i64 nn)).drew=wS at H8 ⊢
        clear n2 m3 mf3 en hb7 nq nb nbq ln
        go_wp2_with (at_builtin; refine wpList_append_k (by rfl) (.tmp 66) (.tmp 68) (by rfl) Tryz.intTypes (by rfl) (by rfl) (OwnK.turned H8.out.1.a.own (Turned.alloc (fun _=>False) _ _) (fun _ _ e=>e)) (SlI.one _ _ _) (ints_one _) (by have:=H8.out.1.a.len; have:=HT.out.2; simp; omega) (by have:=H8.out.1.a.len; have:=HT.out.2; simp; omega) ?_; intro V9 w9 ho9 T9 hv9)
        obtain ⟨U9a,_⟩:=H8.out.1.push HT.out.1 (Below.alloc0 _ _) ho9 T9 hv9 (by have:=HL.out.2.2.2; simp; omega) (by simp)
        obtain ⟨aW,cW,hW,_⟩:=OwnK.sl ho9 |>.form
        have U9:=(U9a.nums (zs':=[]) (fun z hz=>by cases hz)).free (H':=noH) (fun k e=>e.elim)
        clear U9a
        rw [hW] at U9
        subst hW
        have c9:=U9.take ⟨#[44]⟩
        clear ho9 T9 hv9 U9
        go_wp2_with fail
        refine c9.mono ?_
        rintro y w5 ⟨_,⟨rfl,v,hv,hk,hlt,U5⟩ | ⟨rfl,hk,U5⟩⟩
        ·subst hv
         have hk:sgn T ⟨#[44]⟩ v.i=true:=by rw [tkIs_sign (HX.out.2.1 _) (by simp [allSigns])] at hk; exact hk
         have hq5:Then (.ok ⟨v.i+1,v.N⟩) (expH T (runP T (f+1) .export) (fu - 1) (l++[(LN:Int)]))=res:=by
          rw [expH_cons (by simp)]
          exact (rowH_next (by have:=HL.out.2.2.1.1; omega) hk).symm.trans H8.out.2.1
         have H5:=Hid.mk7 (And.intro (U5.weak (d':=0) (by decide)) (And.intro hq5 hlt))
         clear c9 hk hlt U5 hq5
         go_wp2
         go_roundw
         case rel=>
          refine ⟨l++[(LN:Int)],.ok ⟨v.i+1,v.N⟩,fu - 1,H5.out.1,H5.out.2.1,?_,fun u2 e=>?_⟩
          ·have h1:=H8.out.2.2 v rfl; have:=HL.out.2.2.1.2; have:=H5.out.2.2; simp; omega
          ·cases e
           have h1:=H8.out.2.2 v rfl
           have h2:=HL.out.2.2.1
           have:=H5.out.2.2
           simp
           omega
         case measure=>
          have h1:=H8.out.2.2 v rfl
          have h2:=H5.out.1.left
          have h3:=HL.out.1
          have h4:=H5.out.2.2
          simp only at h2 h3
          omega
        ·have hq5:=(rowH_stop (K:=expK T) (fun u2 e=>by have:=HL.out.2.2.1.1; omega) (fun u2 e=>by have:=hk u2 e; rw [tkIs_sign (HX.out.2.1 _) (by simp [allSigns])] at this; exact this)).symm.trans H8.out.2.1
         have H5:=Hid.mk7 (And.intro U5 hq5)
         clear c9 hk U5 hq5
         have c10:=Uf.want (H5.out.1) ⟨#[93]⟩ (b:=sgn T ⟨#[93]⟩) (k:=PM.bind (pNeed T (sgn T ⟨#[41]⟩)) fun _=>PM.bind (pNeed T (knd T 6)) fun _=>PM.ret (l++[(LN:Int)])) (fun i=>(tkIs_sign (HX.out.2.1 _) (by simp [allSigns])).symm) H5.out.2
         have HLN:=Hid.mk7 (show (l++[(LN:Int)]).length≤T.length+1 by have:=HL.out.2.2.1.2; have:=HL.out.2.1; simp; omega)
         go_wp2_with fail
         refine c10.mono ?_
         rintro y w10 ⟨rfl,K10,r10,hq10,U10,hr10⟩
         have c11:=Uf.want (U10) ⟨#[41]⟩ (b:=sgn T ⟨#[41]⟩) (fun i=>(tkIs_sign (HX.out.2.1 _) (by simp [allSigns])).symm) hq10
         clear c10 hq10 U10 hr10 K10
         go_wp2_with fail
         refine c11.mono ?_
         rintro y w11 ⟨rfl,K11,r11,hq11,U11,hr11⟩
         have c12:=U11.kind 6 (by decide) hq11
         clear c11 hq11 U11 hr11 K11
         go_wp2_with fail
         refine c12.mono ?_
         rintro y w12 ⟨⟨k12,t12,n12,a12⟩,rfl,_,r12,hq12,U12,_⟩
         have HE:=Hid.mk7 (U12.doneL HLN.out hq12)
         clear c12 hq12 U12
         simp only [Tk.val]
         go_wp2
         go_ret
         exact HE.out
    ·have hqB:Then (.ok u) (rowH T ⟨#[44]⟩ (runP T (f+1) .export) fu l (expK T))=res:=by
      rw [← expH_cons (by omega)]
      exact hq
     have hlp:0 < nl:=by omega
     have HB:=Hid.mk7 (And.intro U hqB)
     have hlq:(0:Int) < (nl:Int):=by omega
     clear U hq hr hl hqB hl0 hnl
     have hq1:Then (.ok u) (PM.bind (pNeed T (knd T 1)) fun a=>PM.bind (pNeed T (sgn T ⟨#[47]⟩)) fun _=>PM.bind (pNeed T (knd T 3)) fun n=>PM.bind (pAdd ⟨29,a.text,⟨#[]⟩,n.num,[],a.at_⟩) fun k=>PM.bind (rowL T ⟨#[44]⟩ (runP T (f+1) .export) fu (l++[(k:Int)])) (expK T))=res:=by
      rw [← HB.out.2]
      simp only [Then,rowH,runP,phBody,PM.bind,pNeed]
      cases knd T 1 u.i with
      | false=>rfl
      | true=>
       simp only [if_true]
       cases sgn T ⟨#[47]⟩ (u.i+1) with
       | false=>rfl
       | true=>
        simp only [if_true]
        cases knd T 3 (u.i+1+1) <;> rfl
     have c1:=HB.out.1.kind 1 (by decide) hq1
     clear hq1
     go_wp2_with fail
     refine c1.mono ?_
     rintro y w1 ⟨⟨ak,at_,an,aa⟩,rfl,_,r1,hq1,U1,hr1⟩
     have U1h:=U1.hold HT.out.1 (.cells #[.int .i64 ak,.string at_,.int .i64 an,.int .i64 aa] 40)
     have e3:(w1.alloc (.cells #[.int .i64 ak,.string at_,.int .i64 an,.int .i64 aa] 40)).cell? ⟨w1.heap.size,3,none⟩=some (.int .i64 aa):=by simp
     have e1:(w1.alloc (.cells #[.int .i64 ak,.string at_,.int .i64 an,.int .i64 aa] 40)).cell? ⟨w1.heap.size,1,none⟩=some (.string at_):=by simp
     have c2:=Uf.want (U1h) ⟨#[47]⟩ (b:=sgn T ⟨#[47]⟩) (fun i=>(tkIs_sign (HX.out.2.1 _) (by simp [allSigns])).symm) hq1
     have H1:=Hid.mk7 (And.intro hr1 (And.intro e3 e1))
     clear c1 hq1 U1 hr1 U1h e3 e1
     simp only [Tk.val]
     go_wp2_with fail
     refine c2.mono ?_
     rintro y w2 ⟨rfl,K2,r2,hq2,U2,hr2⟩
     have c3:=U2.kind 3 (by decide) hq2
     have e3:=(K2.cell (k:=w1.heap.size) (j:=3) (.inr rfl)).trans H1.out.2.1
     have e1:=(K2.cell (k:=w1.heap.size) (j:=1) (.inr rfl)).trans H1.out.2.2
     have H2:=Hid.mk7 (And.intro hr2 (And.intro e3 e1))
     clear c2 hq2 U2 hr2 K2 e3 e1
     go_wp2_with fail
     refine c3.mono ?_
     rintro y w3 ⟨⟨nk,nt,nn,na⟩,rfl,K3,r3',hq3',U3,hr3'⟩
     have hi8:∀ v,r3'=.ok v→u.i < v.i:=fun v e=>by
      obtain ⟨v2,e1,_,_,rfl⟩:=hr3' v e
      obtain ⟨v3,e2,_,rfl⟩:=H2.out.1 v2 e1
      obtain ⟨v4,e3,_,_,rfl⟩:=H1.out.1 v3 e2
      cases e3
      simp
      omega
     have U4:=U3.hold HT.out.1 (.cells #[.int .i64 nk,.string nt,.int .i64 nn,.int .i64 na] 40)
     have e3:(w3.alloc (.cells #[.int .i64 nk,.string nt,.int .i64 nn,.int .i64 na] 40)).cell? ⟨w1.heap.size,3,none⟩=some (.int .i64 aa):=by
      have h1:=(K3.cell (k:=w1.heap.size) (j:=3) (.inr rfl)).trans H2.out.2.1
      rw [World.cell?_alloc_lt _ _ ⟨w1.heap.size,3,none⟩ (World.block_lt_of_cell? w3 _ h1)]
      exact h1
     have e1:(w3.alloc (.cells #[.int .i64 nk,.string nt,.int .i64 nn,.int .i64 na] 40)).cell? ⟨w1.heap.size,1,none⟩=some (.string at_):=by
      have h1:=(K3.cell (k:=w1.heap.size) (j:=1) (.inr rfl)).trans H2.out.2.2
      rw [World.cell?_alloc_lt _ _ ⟨w1.heap.size,1,none⟩ (World.block_lt_of_cell? w3 _ h1)]
      exact h1
     have l3:w1.heap.size < w3.heap.size:=World.block_lt_of_cell? w3 _ ((K3.cell (k:=w1.heap.size) (j:=3) (.inr rfl)).trans H2.out.2.1)
     have e1x:w3.cell? ⟨w1.heap.size,1,none⟩=some (.string at_):=(K3.cell (k:=w1.heap.size) (j:=1) (.inr rfl)).trans H2.out.2.2
     have e3x:w3.cell? ⟨w1.heap.size,3,none⟩=some (.int .i64 aa):=(K3.cell (k:=w1.heap.size) (j:=3) (.inr rfl)).trans H2.out.2.1
     have en:(w3.alloc (.cells #[.int .i64 nk,.string nt,.int .i64 nn,.int .i64 na] 40)).cell? ⟨w3.heap.size,2,none⟩=some (.int .i64 nn):=by simp
     have HN:=Hid.mk7 (And.intro hi8 (And.intro en hq3'))
     cases r3' with
     | error e=>
      have c7:=(U4.weak (d':=1) (by decide)).nodeX HT.out.1 HC.out (by decide) 29 aa at_
      clear c3 K3 hq3' U3 hr3' hi8 U4 e3 e1 en
      simp only [Tk.val]
      go_wp2_with fail
      refine c7.mono ?_
      rintro y w7 ⟨z7,rfl,_,U7⟩
      have U7:Uf T w w7 q Tv Nv N s (T.length+2) (1 - 1) (fun k=>(noH k∨k=w1.heap.size)∨k=w3.heap.size) (.slice aV nl cV) l (.slice none 0 0) [] (z7 :: []) (.error e):=U7
      have hb7:=U7.x.1.bad
      obtain ⟨r8,hr8⟩:∃ r8:Except Nat Ps,r8=.error e:=⟨_,rfl⟩
      have H8:=Hid.mk7 (show Uf T w w7 q Tv Nv N s (T.length+2) (1 - 1) (fun k=>(noH k∨k=w1.heap.size)∨k=w3.heap.size) (.slice aV nl cV) l (.slice none 0 0) [] (z7 :: []) r8∧Then r8 (PM.bind (rowL T ⟨#[44]⟩ (runP T (f+1) .export) fu (l++[z7])) (expK T))=res∧∀ v,r8=.ok v→u.i < v.i from ⟨by rw [hr8]; exact U7,by rw [hr8]; exact HN.out.2.2,fun v e=>by rw [hr8] at e; cases e⟩)
      clear c7 U7 hr8
      go_wp2_with (at_builtin; refine wpList_append_k (by rfl) (.tmp 66) (.tmp 68) (by rfl) Tryz.intTypes (by rfl) (by rfl) (OwnK.turned H8.out.1.a.own (Turned.alloc (fun _=>False) _ _) (fun _ _ e=>e)) (SlI.one _ _ _) (ints_one _) (by have:=H8.out.1.a.len; have:=HT.out.2; simp; omega) (by have:=H8.out.1.a.len; have:=HT.out.2; simp; omega) ?_; intro V9 w9 ho9 T9 hv9)
      obtain ⟨U9a,_⟩:=H8.out.1.push HT.out.1 (Below.alloc0 _ _) ho9 T9 hv9 (by have:=HL.out.2.2.2; simp; omega) (by simp)
      obtain ⟨aW,cW,hW,_⟩:=OwnK.sl ho9 |>.form
      have U9:=(U9a.nums (zs':=[]) (fun z hz=>by cases hz)).free (H':=noH) (fun k e=>e.elim)
      clear U9a
      rw [hW] at U9
      subst hW
      have c9:=U9.take ⟨#[44]⟩
      clear ho9 T9 hv9 U9
      go_wp2_with fail
      refine c9.mono ?_
      rintro y w5 ⟨_,⟨rfl,v,hv,hk,hlt,U5⟩ | ⟨rfl,hk,U5⟩⟩
      ·subst hv
       have hk:sgn T ⟨#[44]⟩ v.i=true:=by rw [tkIs_sign (HX.out.2.1 _) (by simp [allSigns])] at hk; exact hk
       have hq5:Then (.ok ⟨v.i+1,v.N⟩) (expH T (runP T (f+1) .export) (fu - 1) (l++[z7]))=res:=by
        rw [expH_cons (by simp)]
        exact (rowH_next (by have:=HL.out.2.2.1.1; omega) hk).symm.trans H8.out.2.1
       have H5:=Hid.mk7 (And.intro (U5.weak (d':=0) (by decide)) (And.intro hq5 hlt))
       clear c9 hk hlt U5 hq5
       go_wp2
       go_roundw
       case rel=>
        refine ⟨l++[z7],.ok ⟨v.i+1,v.N⟩,fu - 1,H5.out.1,H5.out.2.1,?_,fun u2 e=>?_⟩
        ·have h1:=H8.out.2.2 v rfl; have:=HL.out.2.2.1.2; have:=H5.out.2.2; simp; omega
        ·cases e
         have h1:=H8.out.2.2 v rfl
         have h2:=HL.out.2.2.1
         have:=H5.out.2.2
         simp
         omega
       case measure=>
        have h1:=H8.out.2.2 v rfl
        have h2:=H5.out.1.left
        have h3:=HL.out.1
        have h4:=H5.out.2.2
        simp only at h2 h3
        omega
      ·have hq5:=(rowH_stop (K:=expK T) (fun u2 e=>by have:=HL.out.2.2.1.1; omega) (fun u2 e=>by have:=hk u2 e; rw [tkIs_sign (HX.out.2.1 _) (by simp [allSigns])] at this; exact this)).symm.trans H8.out.2.1
       have H5:=Hid.mk7 (And.intro U5 hq5)
       clear c9 hk U5 hq5
       have c10:=Uf.want (H5.out.1) ⟨#[93]⟩ (b:=sgn T ⟨#[93]⟩) (k:=PM.bind (pNeed T (sgn T ⟨#[41]⟩)) fun _=>PM.bind (pNeed T (knd T 6)) fun _=>PM.ret (l++[z7])) (fun i=>(tkIs_sign (HX.out.2.1 _) (by simp [allSigns])).symm) H5.out.2
       have HLN:=Hid.mk7 (show (l++[z7]).length≤T.length+1 by have:=HL.out.2.2.1.2; have:=HL.out.2.1; simp; omega)
       go_wp2_with fail
       refine c10.mono ?_
       rintro y w10 ⟨rfl,K10,r10,hq10,U10,hr10⟩
       have c11:=Uf.want (U10) ⟨#[41]⟩ (b:=sgn T ⟨#[41]⟩) (fun i=>(tkIs_sign (HX.out.2.1 _) (by simp [allSigns])).symm) hq10
       clear c10 hq10 U10 hr10 K10
       go_wp2_with fail
       refine c11.mono ?_
       rintro y w11 ⟨rfl,K11,r11,hq11,U11,hr11⟩
       have c12:=U11.kind 6 (by decide) hq11
       clear c11 hq11 U11 hr11 K11
       go_wp2_with fail
       refine c12.mono ?_
       rintro y w12 ⟨⟨k12,t12,n12,a12⟩,rfl,_,r12,hq12,U12,_⟩
       have HE:=Hid.mk7 (U12.doneL HLN.out hq12)
       clear c12 hq12 U12
       simp only [Tk.val]
       go_wp2
       go_ret
       exact HE.out
     | ok v=>
      have c7:=(U4.weak (d':=1) (by decide)).nodeSet HT.out.1 HC.out (by decide) 29 aa at_
      clear c3 K3 hq3' U3 hr3' hi8 U4 e3 e1 en
      simp only [Tk.val]
      go_wp2_with fail
      refine c7.mono ?_
      rintro y w7 ⟨rfl,K7,g7,⟨b8,o8,cp8,n2,nq,nb,nbq,nH,_,⟨m3,mf3⟩,_,nkk⟩,_⟩
      have en:=(K7.cell (k:=w3.heap.size) (j:=2) (.inr rfl)).trans HN.out.2.1
      have ln:=World.block_lt_of_cell? w7 _ en
      have hb7:=g7.c3.1
      obtain ⟨z7,hz7⟩:∃ z7:Int,z7=(v.N.length:Int):=⟨_,rfl⟩
      obtain ⟨r8,hr8⟩:∃ r8:Except Nat Ps,r8=.ok ⟨v.i,v.N++[⟨29,at_,⟨#[]⟩,nn,[],aa⟩]⟩:=⟨_,rfl⟩
      have hq8:Then r8 (PM.bind (rowL T ⟨#[44]⟩ (runP T (f+1) .export) fu (l++[z7])) (expK T))=res:=by
       rw [hr8,hz7,← HN.out.2.2]
       simp [Then,PM.bind,pAdd]
      have U8:=(nkk nn).below (Below.refl _ _).drew
      have H8:=Hid.mk7 (show Uf T w (w7.setCell ⟨b8,o8+v.N.length*6+3,none⟩ (.int .i64 nn)).drew q Tv Nv N s (T.length+2) (1 - 1) (fun k=>(noH k∨k=w1.heap.size)∨k=w3.heap.size) (.slice aV nl cV) l (.slice none 0 0) [] (z7 :: []) r8∧Then r8 (PM.bind (rowL T ⟨#[44]⟩ (runP T (f+1) .export) fu (l++[z7])) (expK T))=res∧∀ v2,r8=.ok v2→u.i < v2.i from ⟨by rw [hr8,hz7]; exact U8,hq8,fun v2 e=>by rw [hr8] at e; cases e; exact HN.out.1 v rfl⟩)
      clear c7 K7 g7 nH nkk U8 hq8 hr8
      rw [← hz7]
      have hzl:z7 < ((v.N.length+1:Nat):Int):=by omega
      have hz0:0≤z7:=by omega
      have hzn:z7.toNat=v.N.length:=by omega
      generalize v.N.length=LN at n2 m3 mf3 H8 hz7 hzl hzn ⊢
      subst hz7
      have hLN:(LN:Int) < ((LN+1:Nat):Int):=by omega
      clear hzl hz0 hzn
      go_wp2_with fail
      go_region
      all_goals
       generalize (w7.setCell ⟨b8,o8+LN*6+3,none⟩ (.int .i64 nn)).drew=wS at H8 ⊢
       clear n2 m3 mf3 en hb7 nq nb nbq ln
       go_wp2_with (at_builtin; refine wpList_append_k (by rfl) (.tmp 66) (.tmp 68) (by rfl) Tryz.intTypes (by rfl) (by rfl) (OwnK.turned H8.out.1.a.own (Turned.alloc (fun _=>False) _ _) (fun _ _ e=>e)) (SlI.one _ _ _) (ints_one _) (by have:=H8.out.1.a.len; have:=HT.out.2; simp; omega) (by have:=H8.out.1.a.len; have:=HT.out.2; simp; omega) ?_; intro V9 w9 ho9 T9 hv9)
       obtain ⟨U9a,_⟩:=H8.out.1.push HT.out.1 (Below.alloc0 _ _) ho9 T9 hv9 (by have:=HL.out.2.2.2; simp; omega) (by simp)
       obtain ⟨aW,cW,hW,_⟩:=OwnK.sl ho9 |>.form
       have U9:=(U9a.nums (zs':=[]) (fun z hz=>by cases hz)).free (H':=noH) (fun k e=>e.elim)
       clear U9a
       rw [hW] at U9
       subst hW
       have c9:=U9.take ⟨#[44]⟩
       clear ho9 T9 hv9 U9
       go_wp2_with fail
       refine c9.mono ?_
       rintro y w5 ⟨_,⟨rfl,v,hv,hk,hlt,U5⟩ | ⟨rfl,hk,U5⟩⟩
       ·subst hv
        have hk:sgn T ⟨#[44]⟩ v.i=true:=by rw [tkIs_sign (HX.out.2.1 _) (by simp [allSigns])] at hk; exact hk
        have hq5:Then (.ok ⟨v.i+1,v.N⟩) (expH T (runP T (f+1) .export) (fu - 1) (l++[(LN:Int)]))=res:=by
         rw [expH_cons (by simp)]
         exact (rowH_next (by have:=HL.out.2.2.1.1; omega) hk).symm.trans H8.out.2.1
        have H5:=Hid.mk7 (And.intro (U5.weak (d':=0) (by decide)) (And.intro hq5 hlt))
        clear c9 hk hlt U5 hq5
        go_wp2
        go_roundw
        case rel=>
         refine ⟨l++[(LN:Int)],.ok ⟨v.i+1,v.N⟩,fu - 1,H5.out.1,H5.out.2.1,?_,fun u2 e=>?_⟩
         ·have h1:=H8.out.2.2 v rfl; have:=HL.out.2.2.1.2; have:=H5.out.2.2; simp; omega
         ·cases e
          have h1:=H8.out.2.2 v rfl
          have h2:=HL.out.2.2.1
          have:=H5.out.2.2
          simp
          omega
        case measure=>
         have h1:=H8.out.2.2 v rfl
         have h2:=H5.out.1.left
         have h3:=HL.out.1
         have h4:=H5.out.2.2
         simp only at h2 h3
         omega
       ·have hq5:=(rowH_stop (K:=expK T) (fun u2 e=>by have:=HL.out.2.2.1.1; omega) (fun u2 e=>by have:=hk u2 e; rw [tkIs_sign (HX.out.2.1 _) (by simp [allSigns])] at this; exact this)).symm.trans H8.out.2.1
        have H5:=Hid.mk7 (And.intro U5 hq5)
        clear c9 hk U5 hq5
        have c10:=Uf.want (H5.out.1) ⟨#[93]⟩ (b:=sgn T ⟨#[93]⟩) (k:=PM.bind (pNeed T (sgn T ⟨#[41]⟩)) fun _=>PM.bind (pNeed T (knd T 6)) fun _=>PM.ret (l++[(LN:Int)])) (fun i=>(tkIs_sign (HX.out.2.1 _) (by simp [allSigns])).symm) H5.out.2
        have HLN:=Hid.mk7 (show (l++[(LN:Int)]).length≤T.length+1 by have:=HL.out.2.2.1.2; have:=HL.out.2.1; simp; omega)
        go_wp2_with fail
        refine c10.mono ?_
        rintro y w10 ⟨rfl,K10,r10,hq10,U10,hr10⟩
        have c11:=Uf.want (U10) ⟨#[41]⟩ (b:=sgn T ⟨#[41]⟩) (fun i=>(tkIs_sign (HX.out.2.1 _) (by simp [allSigns])).symm) hq10
        clear c10 hq10 U10 hr10 K10
        go_wp2_with fail
        refine c11.mono ?_
        rintro y w11 ⟨rfl,K11,r11,hq11,U11,hr11⟩
        have c12:=U11.kind 6 (by decide) hq11
        clear c11 hq11 U11 hr11 K11
        go_wp2_with fail
        refine c12.mono ?_
        rintro y w12 ⟨⟨k12,t12,n12,a12⟩,rfl,_,r12,hq12,U12,_⟩
        have HE:=Hid.mk7 (U12.doneL HLN.out hq12)
        clear c12 hq12 U12
        simp only [Tk.val]
        go_wp2
        go_ret
        exact HE.out
 ·have hq1:res=.error (errOf r0):=by
   rw [← H0.out.2.1]
   exact need_none hk
  have c2:=(H0.out.1.below hb1).syntax
  have H1:=Hid.mk7 hq1
  clear c1 hb1 hk hq1
  go_wp2_with fail
  refine c2.mono ?_
  rintro y w2 ⟨rfl,_,e,he,U2⟩
  have HF:=Hid.mk7 (U2.doneL (res:=res) (by simp) (by rw [H1.out,he]; rfl))
  clear c2 U2 he
  go_wp2
  go_ret
  exact HF.out
end
end Go.Proofs.YtlciaafincgdeaaGreatDoor
