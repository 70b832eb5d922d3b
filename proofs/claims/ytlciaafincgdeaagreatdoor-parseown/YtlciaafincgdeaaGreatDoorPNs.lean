/-
  Layer 11 (parse): the document's parser: a module.
-/
import Derived.Test.YtlciaafincgdeaaGreatDoorPNr
namespace Go.Proofs.YtlciaafincgdeaaGreatDoor
open Go.RowKit
set_option maxHeartbeats 3200000
set_option maxRecDepth 100000
def modK (a:ByteArray) (at_:Int) (ks:List Int):PM Nat:=pAdd ⟨27,a,⟨#[]⟩,0,ks,at_⟩
theorem forms_stop {T:List Tk} {rec:Ph→PM Nat} {fu:Nat} {l:List Int} {K:List Int→PM Nat} {u:Ps} (hf:0 < fu) (h:(decide (u.i < T.length) && !atModule T u.i)=false):PM.bind (formsL T rec fu l) K u=K l u:=by
 obtain ⟨fu,rfl⟩:∃ k,fu=k+1:=⟨fu - 1,by omega⟩
 simp [formsL,PM.bind,pIf,h,PM.ret]
theorem forms_exp {T:List Tk} {rec:Ph→PM Nat} {fu:Nat} {l:List Int} {K:List Int→PM Nat} {u:Ps} (hf:0 < fu) (h:(decide (u.i < T.length) && !atModule T u.i)=true) (hs:sgn T ⟨#[45]⟩ u.i=true):PM.bind (formsL T rec fu l) K u=PM.bind (exports T rec) (fun ks=>PM.bind (formsL T rec (fu - 1) (l++ks)) K) u:=by
 obtain ⟨fu,rfl⟩:∃ k,fu=k+1:=⟨fu - 1,by omega⟩
 simp only [formsL,PM.bind,pIf,h,hs,if_true,Nat.add_sub_cancel]
 cases exports T rec u <;> rfl
theorem forms_fun {T:List Tk} {rec:Ph→PM Nat} {fu:Nat} {l:List Int} {K:List Int→PM Nat} {u:Ps} (hf:0 < fu) (h:(decide (u.i < T.length) && !atModule T u.i)=true) (hs:sgn T ⟨#[45]⟩ u.i=false):PM.bind (formsL T rec fu l) K u=PM.bind (rec .function) (fun k=>PM.bind (formsL T rec (fu - 1) (l++[(k:Int)])) K) u:=by
 obtain ⟨fu,rfl⟩:∃ k,fu=k+1:=⟨fu - 1,by omega⟩
 simp only [formsL,PM.bind,pIf,h,hs,if_true,Bool.false_eq_true,if_false,Nat.add_sub_cancel,PM.ret]
 cases rec .function u <;> rfl
def MdI (T:List Tk) (rec:Ph→PM Nat) (K:List Int→PM Nat) (w wr:World) (q:Nat) (Tv Nv:Value) (N:List Nd) (s:Ps) (H:Nat→Prop) (w0:World) (res:Except Nat (Nat × Ps)) (V:Value):Prop:=
 ∃ (l:List Int) (r:Except Nat Ps) (fu:Nat),Uf T w wr q Tv Nv N s (2*T.length+4) 1 H V l (.slice none 0 0) [] [] r∧Kp H w0 wr∧Then r (PM.bind (formsL T rec fu l) K)=res∧l.length≤2*T.length+2∧∀ u,r=.ok u→T.length - u.i < fu∧l.length+s.i≤u.i∧s.i+1≤u.i
theorem needP_none {T:List Tk} {b:Nat→Bool} {K:Tk→PM Nat} {r:Except Nat Ps} (h:∀ u,r=.ok u→b u.i=false):Then r (PM.bind (pNeed T b) K)=.error (errOf r):=by
 cases r with
 | error e=>rfl
 | ok u=>simp [Then,PM.bind,pNeed,h u rfl,errOf]
theorem rowM_adv {T:List Tk} {x:ByteArray} {m:PM Nat} (hm:Mono m):∀ (f:Nat) (acc:List Int) (s:Ps) (l:List Int) (u:Ps),rowL T x m f acc s=.ok (l,u)→l.length+s.i≤acc.length+u.i
 | 0,acc,s,l,u,e=>by
  simp only [rowL,PM.ret,Except.ok.injEq,Prod.mk.injEq] at e
  rw [← e.1,← e.2]
  omega
 | f+1,acc,s,l,u,e=>by
  unfold rowL pIf at e
  cases hc:sgn T x s.i with
  | false=>
   simp [hc,PM.ret] at e
   rw [← e.1,← e.2]
   omega
  | true=>
   simp only [hc,if_true,PM.bind,pSkip] at e
   cases h1:m ⟨s.i+1,s.N⟩ with
   | error y=>simp [h1] at e
   | ok av=>
    obtain ⟨a,v⟩:=av
    rw [h1] at e
    have h2:=rowM_adv hm f _ v l u e
    have h3:=hm _ _ _ h1
    simp at h2 h3
    omega
theorem rowT_adv {T:List Tk} {x:ByteArray} {m:PM Nat} (hm:Mono m) {s:Ps} {l:List Int} {u:Ps} (e:row T x m s=.ok (l,u)):l.length+s.i≤1+u.i:=by
 unfold row PM.bind at e
 cases h1:m s with
 | error y=>simp [h1] at e
 | ok av=>
  obtain ⟨a,v⟩:=av
  rw [h1] at e
  have h2:=rowM_adv hm _ _ _ _ _ e
  have h3:=hm _ _ _ h1
  simp at h2
  omega
theorem need_step {T:List Tk} {α:Type} {b:Nat→Bool} {k:Tk→PM α} {s:Ps} {r:α × Ps} (e:PM.bind (pNeed T b) k s=.ok r):b s.i=true∧k (tokAt T s.i) ⟨s.i+1,s.N⟩=.ok r:=by
 unfold PM.bind pNeed at e
 cases h:b s.i with
 | false=>simp [h] at e
 | true=>simp [h] at e; exact ⟨rfl,e⟩
theorem exports_adv {T:List Tk} {rec:Ph→PM Nat} (hm:Mono (rec .export)) {s:Ps} {l:List Int} {u:Ps} (e:exports T rec s=.ok (l,u)):l.length+s.i+1≤u.i∧l.length≤T.length+1:=by
 unfold exports at e
 obtain ⟨_,e⟩:=need_step e
 obtain ⟨_,e⟩:=need_step e
 obtain ⟨_,e⟩:=need_step e
 unfold PM.bind at e
 cases h1:enclosed T ⟨#[91]⟩ ⟨#[93]⟩ (rec .export) ⟨s.i+1+1+1,s.N⟩ with
 | error y=>simp [h1] at e
 | ok av=>
  obtain ⟨ks,v⟩:=av
  rw [h1] at e
  have hl:=enclosedT_len hm h1
  obtain ⟨_,e⟩:=need_step (k:=fun _=>PM.bind (pNeed T (knd T 6)) fun _=>PM.ret ks) e
  obtain ⟨_,e⟩:=need_step (k:=fun _=>PM.ret ks) e
  simp only [PM.ret,Except.ok.injEq,Prod.mk.injEq] at e
  obtain ⟨rfl,rfl⟩:=e
  unfold enclosed at h1
  obtain ⟨_,h1⟩:=need_step h1
  unfold PM.bind at h1
  cases h2:pIf (sgn T ⟨#[93]⟩) (PM.ret []) (row T ⟨#[44]⟩ (rec .export)) ⟨s.i+1+1+1+1,s.N⟩ with
  | error y=>simp [h2] at h1
  | ok bv=>
   obtain ⟨ks2,v2⟩:=bv
   rw [h2] at h1
   obtain ⟨_,h1⟩:=need_step (k:=fun _=>PM.ret ks2) h1
   simp only [PM.ret,Except.ok.injEq,Prod.mk.injEq] at h1
   obtain ⟨rfl,rfl⟩:=h1
   have h3:ks2.length+(s.i+1+1+1+1)≤1+v2.i:=by
    unfold pIf at h2
    split at h2
    ·simp only [PM.ret,Except.ok.injEq,Prod.mk.injEq] at h2
     rw [← h2.1,← h2.2]
     simp
    ·exact rowT_adv hm h2
   simp
   exact ⟨by omega,hl⟩
section
variable {T:List Tk} {g i0:Nat}
theorem XR.moduleP (X:XR T g i0) (hT:0 < T.length) (hTk:∀ i,TkOk (tokAt T i)) {f:Nat} (hf:g+5≤f) (s:Ps) (hs:i0≤s.i+2):PhF T 26 [] (runP T f .module) s:=by
 intro w q Tv Nv N h hg
 obtain ⟨f,rfl⟩:∃ k,f=k+1:=⟨f - 1,by omega⟩
 obtain ⟨res,hres⟩:∃ res,runP T (f+1) .module s=res:=⟨_,rfl⟩
 rw [hres]
 show Calls Tryz.prog _ #[.pointer (some ⟨q,0,none⟩)] w _
 have U0:=Uf.start h hg (2*T.length+4)
 have HC:=Hid.mk7 h.cnt
 have HT:=Hid.mk7 (And.intro hT h.at_.tl)
 have HX:=Hid.mk7 (And.intro X (And.intro hTk (And.intro (show g+4≤f by omega) hs)))
 have c0:=U0.token 0 (by omega)
 obtain ⟨aT,cT,hTv,_⟩:=h.at_.tok.form
 have HQ:=Hid.mk7 (And.intro hres (And.intro U0 hTv))
 clear h hg U0 X hTk hf hs hres hT hTv
 go_enter Tryz.func26,Tryz.ntmps26
 go_wp2_with fail
 refine c0.mono ?_
 rintro y w0 ⟨⟨tk,tt,tn,ta⟩,rfl,hb0,ht0,_⟩
 have U1:=(HQ.out.2.1.below hb0).hold HT.out.1 (.cells #[.int .i64 tk,.string tt,.int .i64 tn,.int .i64 ta] 40)
 have e3:(w0.alloc (.cells #[.int .i64 tk,.string tt,.int .i64 tn,.int .i64 ta] 40)).cell? ⟨w0.heap.size,3,none⟩=some (.int .i64 ta):=by simp
 have hq0:Then (.ok s) (PM.bind (pNeed T (sgn T ⟨#[45]⟩)) fun _=>PM.bind (pNeed T (atm T ⟨#[109,111,100,117,108,101]⟩)) fun _=>PM.bind (pNeed T (sgn T ⟨#[40]⟩)) fun _=>PM.bind (pNeed T (knd T 1)) fun a=>PM.bind (pNeed T (sgn T ⟨#[41]⟩)) fun _=>PM.bind (pNeed T (knd T 6)) fun _=>PM.bind (formsL T (runP T f) (T.length+1) []) (modK a.text ta))=res:=Then.needTok (k:=fun t=>PM.bind (pNeed T (atm T ⟨#[109,111,100,117,108,101]⟩)) fun _=>PM.bind (pNeed T (sgn T ⟨#[40]⟩)) fun _=>PM.bind (pNeed T (knd T 1)) fun a=>PM.bind (pNeed T (sgn T ⟨#[41]⟩)) fun _=>PM.bind (pNeed T (knd T 6)) fun _=>PM.bind (formsL T (runP T f) (T.length+1) []) (modK a.text t.at_)) ht0 HQ.out.1
 have c1:=Uf.want (U1) ⟨#[45]⟩ (b:=sgn T ⟨#[45]⟩) (fun i=>(tkIs_sign (HX.out.2.1 _) (by simp [allSigns])).symm) hq0
 have HE:=Hid.mk7 e3
 clear c0 hb0 ht0 U1 e3 hq0
 simp only [Tk.val]
 go_wp2_with fail
 refine c1.mono ?_
 rintro y w1 ⟨rfl,K1,r1,hq1,U1,hr1⟩
 have c2:=U1.word ⟨#[109,111,100,117,108,101]⟩
 have H1:=Hid.mk7 (And.intro U1 (And.intro hq1 (And.intro hr1 K1)))
 clear c1 hq1 U1 hr1 K1
 go_wp2_with fail
 refine c2.mono ?_
 rintro y w2 ⟨hb2,⟨rfl,u,hu,hk⟩ | ⟨rfl,hk⟩⟩
 ·subst hu
  have hlt:u.i < T.length:=atm_lt hk
  have hq2:Then (.ok ⟨u.i+1,u.N⟩) (PM.bind (pNeed T (sgn T ⟨#[40]⟩)) fun _=>PM.bind (pNeed T (knd T 1)) fun a=>PM.bind (pNeed T (sgn T ⟨#[41]⟩)) fun _=>PM.bind (pNeed T (knd T 6)) fun _=>PM.bind (formsL T (runP T f) (T.length+1) []) (modK a.text ta))=res:=by
   rw [← H1.out.2.1]
   simp only [Then,PM.bind,pNeed,hk,if_true]
  have U2:=H1.out.1.below hb2
  obtain ⟨U3,K3⟩:=U2.skip hlt
  obtain ⟨_,_,_,Nv1,M1,rg,_⟩:=U2.x
  have cc1:=rg.ps.at_.c1.1
  have cf1:=rg.ps.at_.c1.2
  have cql:=rg.ps.at_.lt
  have ctl:=rg.ps.at_.tl
  have hsi:s.i≤u.i:=U2.il.2
  have c3:=Uf.want (U3) ⟨#[40]⟩ (b:=sgn T ⟨#[40]⟩) (fun i=>(tkIs_sign (HX.out.2.1 _) (by simp [allSigns])).symm) hq2
  have HS:=Hid.mk7 (And.intro hsi ((H1.out.2.2.2.trans (H1.out.1.kb hb2)).trans K3))
  clear c2 hb2 hk hq2 U2 U3 K3 rg hsi
  go_wp2_with fail
  refine c3.mono ?_
  rintro y w3 ⟨rfl,K3,r3,hq3,U3,hr3⟩
  have c4:=U3.kind 1 (by decide) hq3
  have H3:=Hid.mk7 (And.intro hr3 (HS.out.2.trans K3))
  clear c3 hq3 U3 hr3 K3 cc1 cf1 cql ctl hlt
  go_wp2_with fail
  refine c4.mono ?_
  rintro y w4 ⟨⟨ak,at_,an,aa⟩,rfl,K4,r4,hq4,U4,hr4⟩
  have U5:=U4.hold HT.out.1 (.cells #[.int .i64 ak,.string at_,.int .i64 an,.int .i64 aa] 40)
  have e3:(w4.alloc (.cells #[.int .i64 ak,.string at_,.int .i64 an,.int .i64 aa] 40)).cell? ⟨w0.heap.size,3,none⟩=some (.int .i64 ta):=by
   have h1:=((H3.out.2.trans K4).cell (k:=w0.heap.size) (j:=3) (.inr rfl)).trans HE.out
   rw [World.cell?_alloc_lt _ _ ⟨w0.heap.size,3,none⟩ (World.block_lt_of_cell? w4 _ h1)]
   exact h1
  have a1:(w4.alloc (.cells #[.int .i64 ak,.string at_,.int .i64 an,.int .i64 aa] 40)).cell? ⟨w4.heap.size,1,none⟩=some (.string at_):=by simp
  have c5:=Uf.want (U5) ⟨#[41]⟩ (b:=sgn T ⟨#[41]⟩) (fun i=>(tkIs_sign (HX.out.2.1 _) (by simp [allSigns])).symm) hq4
  have H4:=Hid.mk7 (And.intro hr4 (And.intro e3 a1))
  clear c4 hq4 U4 hr4 U5 e3 a1 K4
  simp only [Tk.val]
  go_wp2_with fail
  refine c5.mono ?_
  rintro y w5 ⟨rfl,K5,r5,hq5,U5,hr5⟩
  have c6:=U5.kind 6 (by decide) hq5
  have H5:=Hid.mk7 (And.intro hr5 K5)
  clear c5 hq5 U5 hr5 K5
  go_wp2_with fail
  refine c6.mono ?_
  rintro y w6 ⟨⟨k6,t6,n6,a6⟩,rfl,K6,r6,hq6,U6,hr6⟩
  have hi6:∀ v,r6=.ok v→s.i+1≤v.i:=fun v e=>by
   obtain ⟨v2,e1,_,_,rfl⟩:=hr6 v e
   obtain ⟨v3,e2,_,rfl⟩:=H5.out.1 v2 e1
   obtain ⟨v4,e3,_,_,rfl⟩:=H4.out.1 v3 e2
   obtain ⟨v5,e4,_,rfl⟩:=H3.out.1 v4 e3
   cases e4
   have:=HS.out.1
   simp
   omega
  have H6:=Hid.mk7 (And.intro (U6.weak (d':=1) (by decide)) (And.intro hq6 (And.intro hi6 (H5.out.2.trans K6))))
  clear c6 hq6 U6 hr6 K6 hi6
  simp only [Tk.val]
  go_wp2_with fail
  go_loopw [5] (fun V wr=>MdI T (runP T f) (modK at_ ta) w wr q Tv Nv N s (fun k=>(noH k∨k=w0.heap.size)∨k=w4.heap.size) (w4.alloc (.cells #[.int .i64 ak,.string at_,.int .i64 an,.int .i64 aa] 40)) res V) (fun _ wr=>leftOf T wr q)
  case atStart=>exact ⟨[],r6,T.length+1,H6.out.1,H6.out.2.2.2,H6.out.2.1,by simp,fun v e=>by have:=H6.out.2.2.1 v e; have:=HT.out.1; simp; omega⟩
  case round=>
   obtain ⟨l,r,fu,U,KL,hq,hl,hr⟩:=hrel
   obtain ⟨aV,cV,hV,_⟩:=OwnK.sl U.a.own |>.form
   subst hV
   have e3:=(KL.cell (k:=w0.heap.size) (j:=3) (.inl (.inr rfl))).trans H4.out.2.1
   have a1:=(KL.cell (k:=w4.heap.size) (j:=1) (.inr rfl)).trans H4.out.2.2
   have HKL:=Hid.mk7 (And.intro KL (And.intro e3 a1))
   clear KL e3 a1
   cases r with
   | error e=>
    have hb:=U.x.1.bad
    have H7:=Hid.mk7 (And.intro U hq)
    clear U hq hr hl
    go_wp2_with fail
    go_region
    all_goals
     have e3:=HKL.out.2.1
     have a1:=HKL.out.2.2
     have l3:=World.block_lt_of_cell? _ _ e3
     have l4:=World.block_lt_of_cell? _ _ a1
     have hq20:Then (.error e) (PM.bind (pAdd ⟨27,at_,⟨#[]⟩,0,l,ta⟩) PM.ret)=res:=by rw [PM.bind_ret]; exact H7.out.2
     have c20:=Uf.node (H7.out.1.to2.below (Below.refl _ _).drew) HT.out.1 HC.out (by decide) 27 ta at_ hq20
     clear hq20
     go_wp2_with fail
     refine c20.mono ?_
     rintro y w20 ⟨z20,rfl,_,r20,hq20,U20,_⟩
     have H20:=Hid.mk7 (U20.done hq20)
     clear c20 hq20 U20
     go_wp2
     go_ret
     exact H20.out
   | ok u=>
    have hb:=U.x.2.1.c3.1
    have HL:=Hid.mk7 (And.intro U.left (And.intro U.il (And.intro (hr u rfl) hl)))
    obtain ⟨_,_,_,Nv7,M7,rg7,_⟩:=U.x
    have c1:=rg7.ps.at_.c1.1
    have c00:=rg7.ps.at_.c0
    rw [HQ.out.2.2] at c00
    have cql:=rg7.ps.at_.lt
    have H7:=Hid.mk7 (And.intro U hq)
    clear U hq hr hl rg7
    by_cases hend:u.i < T.length
    ·have hlt:(u.i:Int) < (T.length:Int):=by omega
     cases hsg:sgn T ⟨#[45]⟩ u.i with
     | false=>
      have cS:∀ W,Below wr.heap.size wr W→Calls Tryz.prog 61 #[.pointer (some ⟨q,0,none⟩),.int .i64 0,.string ⟨#[45]⟩] W fun y w2=>y=.returned (.bool false)∧Below wr.heap.size wr w2:=fun W hW=>by
       refine ((H7.out.1.below hW).sign 0 (by omega) ⟨#[45]⟩).mono ?_
       rintro y w2 ⟨hb2,⟨rfl,u2,hu2,hk2⟩ | ⟨rfl,hk2⟩⟩
       ·cases hu2
        simp only [Nat.add_zero] at hk2
        rw [tkIs_sign (HX.out.2.1 _) (by simp [allSigns])] at hk2
        have h9:sgn T ⟨#[45]⟩ u.i=true:=hk2
        rw [hsg] at h9
        cases h9
       ·exact ⟨rfl,hW.trans (hb2.mono hW.size)⟩
      have H7c:=Hid.mk7 hend
      have hcond:(decide (u.i < T.length) && !atModule T u.i)=true:=by simp [hend,atModule,hsg]
      have hqf:=(forms_fun (by have:=HL.out.2.2.1.1; omega) hcond hsg).symm.trans H7.out.2
      have HF:=Hid.mk7 hqf
      go_wp2_with fail
      refine wp_region_held_drew (S:=fun w'=>w'.cell? ⟨q,3,none⟩=some (.bool false)∧w'.cell? ⟨q,1,none⟩=some (.int .i64 u.i)∧w'.cell? ⟨q,0,none⟩=some (.slice aT T.length cT)) (by kernel_rfl) ⟨hb,c1,c00⟩ (fun hHeld=>?_)
      refine wpAnyH_take (i:=0) (v:=.pointer (some ⟨q,0,none⟩)) rfl (by kernel_rfl) (by kernel_rfl) (by kernel_rfl) (fun _ _ _ h=>h) (Or.inl ⟨by rfl,?_⟩) (by assumption) ?_
      ·intro w hSw; obtain ⟨S0,S1,S2⟩:=hSw; go_simp
      go_simp
      refine wpAnyH_take (i:=1) (v:=.pointer (some ⟨q,0,none⟩)) rfl (by kernel_rfl) (by kernel_rfl) (by kernel_rfl) (fun _ _ _ h=>h) (Or.inl ⟨by rfl,?_⟩) (by assumption) ?_
      ·intro w hSw; obtain ⟨S0,S1,S2⟩:=hSw; go_simp
      go_simp
      refine wpAnyH_take (i:=2) (v:=.pointer (some ⟨q,3,none⟩)) rfl (by kernel_rfl) (by kernel_rfl) (by kernel_rfl) (fun _ _ _ h=>h) (Or.inl ⟨by rfl,?_⟩) (by assumption) ?_
      ·intro w hSw; obtain ⟨S0,S1,S2⟩:=hSw; go_simp
      go_simp
      refine wpAnyH_take (i:=3) (v:=.bool false) rfl (by kernel_rfl) (by kernel_rfl) (by kernel_rfl) (fun _ _ _ h=>h) (Or.inl ⟨by rfl,?_⟩) (by assumption) ?_
      ·intro w hSw; obtain ⟨S0,S1,S2⟩:=hSw; go_simp
      go_simp
      refine wpAnyH_take (i:=4) (v:=.bool true) rfl (by kernel_rfl) (by kernel_rfl) (by kernel_rfl) (fun _ _ _ h=>h) (Or.inl ⟨by rfl,?_⟩) (by assumption) ?_
      ·intro w hSw; obtain ⟨S0,S1,S2⟩:=hSw; go_simp
      go_simp
      refine wpAnyH_take (i:=5) (v:=.bool true) rfl (by kernel_rfl) (by kernel_rfl) (by kernel_rfl) (fun _ _ _ h=>h) (Or.inl ⟨by rfl,?_⟩) (by assumption) ?_
      ·intro w hSw; obtain ⟨S0,S1,S2⟩:=hSw; go_simp
      go_simp
      refine wpAnyH_take (i:=6) (v:=.pointer (some ⟨q,0,none⟩)) rfl (by kernel_rfl) (by kernel_rfl) (by kernel_rfl) (fun _ _ _ h=>h) (Or.inl ⟨by rfl,?_⟩) (by assumption) ?_
      ·intro w hSw; obtain ⟨S0,S1,S2⟩:=hSw; go_simp
      go_simp
      refine wpAnyH_take (i:=7) (v:=.pointer (some ⟨q,0,none⟩)) rfl (by kernel_rfl) (by kernel_rfl) (by kernel_rfl) (fun _ _ _ h=>h) (Or.inl ⟨by rfl,?_⟩) (by assumption) ?_
      ·intro w hSw; obtain ⟨S0,S1,S2⟩:=hSw; go_simp
      go_simp
      refine wpAnyH_take (i:=8) (v:=.pointer (some ⟨q,1,none⟩)) rfl (by kernel_rfl) (by kernel_rfl) (by kernel_rfl) (fun _ _ _ h=>h) (Or.inl ⟨by rfl,?_⟩) (by assumption) ?_
      ·intro w hSw; obtain ⟨S0,S1,S2⟩:=hSw; go_simp
      go_simp
      refine wpAnyH_take (i:=9) (v:=.int .i64 u.i) rfl (by kernel_rfl) (by kernel_rfl) (by kernel_rfl) (fun _ _ _ h=>h) (Or.inl ⟨by rfl,?_⟩) (by assumption) ?_
      ·intro w hSw; obtain ⟨S0,S1,S2⟩:=hSw; go_simp
      go_simp
      refine wpAnyH_take (i:=10) (v:=.pointer (some ⟨q,0,none⟩)) rfl (by kernel_rfl) (by kernel_rfl) (by kernel_rfl) (fun _ _ _ h=>h) (Or.inl ⟨by rfl,?_⟩) (by assumption) ?_
      ·intro w hSw; obtain ⟨S0,S1,S2⟩:=hSw; go_simp
      go_simp
      refine wpAnyH_take (i:=11) (v:=.pointer (some ⟨q,0,none⟩)) rfl (by kernel_rfl) (by kernel_rfl) (by kernel_rfl) (fun _ _ _ h=>h) (Or.inl ⟨by rfl,?_⟩) (by assumption) ?_
      ·intro w hSw; obtain ⟨S0,S1,S2⟩:=hSw; go_simp
      go_simp
      refine wpAnyH_take (i:=12) (v:=.pointer (some ⟨q,0,none⟩)) rfl (by kernel_rfl) (by kernel_rfl) (by kernel_rfl) (fun _ _ _ h=>h) (Or.inl ⟨by rfl,?_⟩) (by assumption) ?_
      ·intro w hSw; obtain ⟨S0,S1,S2⟩:=hSw; go_simp
      go_simp
      refine wpAnyH_take (i:=13) (v:=.slice aT T.length cT) rfl (by kernel_rfl) (by kernel_rfl) (by kernel_rfl) (fun _ _ _ h=>h) (Or.inl ⟨by rfl,?_⟩) (by assumption) ?_
      ·intro w hSw; obtain ⟨S0,S1,S2⟩:=hSw; go_simp
      go_simp
      refine wpAnyH_take (i:=14) (v:=.int .i64 T.length) rfl (by kernel_rfl) (by kernel_rfl) (by kernel_rfl) (fun _ _ _ h=>h) (Or.inl ⟨by rfl,?_⟩) (by assumption) ?_
      ·intro w hSw; obtain ⟨S0,S1,S2⟩:=hSw; go_simp
      go_simp
      refine wpAnyH_take (i:=15) (v:=.bool true) rfl (by kernel_rfl) (by kernel_rfl) (by kernel_rfl) (fun _ _ _ h=>h) (Or.inl ⟨by rfl,?_⟩) (by assumption) ?_
      ·intro w hSw; obtain ⟨S0,S1,S2⟩:=hSw; go_simp
      go_simp
      refine wpAnyH_take (i:=16) (v:=.bool true) rfl (by kernel_rfl) (by kernel_rfl) (by kernel_rfl) (fun _ _ _ h=>h) (Or.inl ⟨by rfl,?_⟩) (by assumption) ?_
      ·intro w hSw; obtain ⟨S0,S1,S2⟩:=hSw; go_simp
      go_simp
      refine wpAnyH_take (i:=17) (v:=.bool true) rfl (by kernel_rfl) (by kernel_rfl) (by kernel_rfl) (fun _ _ _ h=>h) (Or.inl ⟨by rfl,?_⟩) (by assumption) ?_
      ·intro w hSw; obtain ⟨S0,S1,S2⟩:=hSw; go_simp
      go_simp
      refine wpAnyH_take (i:=18) (v:=.pointer (some ⟨q,0,none⟩)) rfl (by kernel_rfl) (by kernel_rfl) (by kernel_rfl) (fun _ _ _ h=>h) (Or.inl ⟨by rfl,?_⟩) (by assumption) ?_
      ·intro w hSw; obtain ⟨S0,S1,S2⟩:=hSw; go_simp
      go_simp
      refine wpAnyH_ready (rs:=[19]) (by kernel_rfl) (by simp) ?_
      refine AllReadyH.cons rfl (fun K hK=>?_) AllReadyH.nil
      go_simp
      refine (cS _ (Below.refl _ _).drew).mono ?_
      rintro y w2 ⟨rfl,Bw2⟩
      refine hK.out _ _ ⟨(Bw2.cell (p:=⟨q,3,none⟩) cql).trans hb,(Bw2.cell (p:=⟨q,1,none⟩) cql).trans c1,(Bw2.cell (p:=⟨q,0,none⟩) cql).trans c00⟩ (fun hHeld=>?_)
      clear hK K
      refine wpAnyH_take (i:=20) (v:=.bool false) rfl (by kernel_rfl) (by kernel_rfl) (by kernel_rfl) (fun _ _ _ h=>h) (Or.inl ⟨by rfl,?_⟩) (by assumption) ?_
      ·intro w hSw; obtain ⟨S0,S1,S2⟩:=hSw; go_simp
      go_simp
      refine wpAnyH_take (i:=21) (v:=undef) rfl (by kernel_rfl) (by kernel_rfl) (by kernel_rfl) (fun _ _ _ h=>h) (Or.inr ⟨by kernel_rfl,rfl⟩) (by assumption) ?_
      go_simp
      refine wpAnyH_take (i:=22) (v:=undef) rfl (by kernel_rfl) (by kernel_rfl) (by kernel_rfl) (fun _ _ _ h=>h) (Or.inr ⟨by kernel_rfl,rfl⟩) (by assumption) ?_
      go_simp
      refine wpAnyH_take (i:=23) (v:=undef) rfl (by kernel_rfl) (by kernel_rfl) (by kernel_rfl) (fun _ _ _ h=>h) (Or.inr ⟨by kernel_rfl,rfl⟩) (by assumption) ?_
      go_simp
      refine wpAnyH_take (i:=24) (v:=undef) rfl (by kernel_rfl) (by kernel_rfl) (by kernel_rfl) (fun _ _ _ h=>h) (Or.inr ⟨by kernel_rfl,rfl⟩) (by assumption) ?_
      go_simp
      refine wpAnyH_take (i:=25) (v:=.bool false) rfl (by kernel_rfl) (by kernel_rfl) (by kernel_rfl) (fun _ _ _ h=>h) (Or.inl ⟨by rfl,?_⟩) (by assumption) ?_
      ·intro w hSw; obtain ⟨S0,S1,S2⟩:=hSw; go_simp
      go_simp
      refine wpAnyH_take (i:=26) (v:=.bool false) rfl (by kernel_rfl) (by kernel_rfl) (by kernel_rfl) (fun _ _ _ h=>h) (Or.inl ⟨by rfl,?_⟩) (by assumption) ?_
      ·intro w hSw; obtain ⟨S0,S1,S2⟩:=hSw; go_simp
      go_simp
      refine wpAnyH_take (i:=27) (v:=undef) rfl (by kernel_rfl) (by kernel_rfl) (by kernel_rfl) (fun _ _ _ h=>h) (Or.inr ⟨by kernel_rfl,rfl⟩) (by assumption) ?_
      go_simp
      refine wpAnyH_take (i:=28) (v:=undef) rfl (by kernel_rfl) (by kernel_rfl) (by kernel_rfl) (fun _ _ _ h=>h) (Or.inr ⟨by kernel_rfl,rfl⟩) (by assumption) ?_
      go_simp
      refine wpAnyH_take (i:=29) (v:=undef) rfl (by kernel_rfl) (by kernel_rfl) (by kernel_rfl) (fun _ _ _ h=>h) (Or.inr ⟨by kernel_rfl,rfl⟩) (by assumption) ?_
      go_simp
      refine wpAnyH_take (i:=30) (v:=undef) rfl (by kernel_rfl) (by kernel_rfl) (by kernel_rfl) (fun _ _ _ h=>h) (Or.inr ⟨by kernel_rfl,rfl⟩) (by assumption) ?_
      go_simp
      refine wpAnyH_take (i:=31) (v:=.bool false) rfl (by kernel_rfl) (by kernel_rfl) (by kernel_rfl) (fun _ _ _ h=>h) (Or.inl ⟨by rfl,?_⟩) (by assumption) ?_
      ·intro w hSw; obtain ⟨S0,S1,S2⟩:=hSw; go_simp
      go_simp
      refine wpAnyH_take (i:=32) (v:=.bool true) rfl (by kernel_rfl) (by kernel_rfl) (by kernel_rfl) (fun _ _ _ h=>h) (Or.inl ⟨by rfl,?_⟩) (by assumption) ?_
      ·intro w hSw; obtain ⟨S0,S1,S2⟩:=hSw; go_simp
      go_simp
      refine wpAnyH_take (i:=33) (v:=.bool true) rfl (by kernel_rfl) (by kernel_rfl) (by kernel_rfl) (fun _ _ _ h=>h) (Or.inl ⟨by rfl,?_⟩) (by assumption) ?_
      ·intro w hSw; obtain ⟨S0,S1,S2⟩:=hSw; go_simp
      go_simp
      refine wpAnyH_done (by kernel_rfl) ?_ _
      have UB:=H7.out.1.below Bw2
      have KB:=HKL.out.1.trans (H7.out.1.kb Bw2)
      have cS2:=cS _ Bw2
      clear cS hcond hqf hlt hend hsg hb c1 c00 cql
      go_wp2_with fail
      refine cS2.mono ?_
      rintro y w5 ⟨rfl,Bw5⟩
      have U5:=H7.out.1.below Bw5
      have K5:=HKL.out.1.trans (H7.out.1.kb Bw5)
      have c8:Calls Tryz.prog 63 #[.pointer (some ⟨q,0,none⟩)] w5 _:=U5.phrase (dm:=1) (fun u2 e=>HX.out.1.functionP HT.out.1 HX.out.2.1 HX.out.2.2.1 u2 (by cases e; have:=HX.out.2.2.2; have:=HL.out.2.2.1.2.2; omega)) (fun _ e=>by cases e) (fun u2 _ hs=>o_run f .function trivial hs) HF.out
      have HK5:=Hid.mk7 K5
      clear cS2 Bw2 Bw5 UB KB U5 K5
      go_wp2_with fail
      refine c8.mono ?_
      rintro y w8 ⟨z8,rfl,K8,r8,hq8,U8,hr8⟩
      have hq9:=U8.cast (k:=fun k=>PM.bind (formsL T (runP T f) (fu - 1) (l++[k])) (modK at_ ta)) hq8
      have hi8:∀ v,r8=.ok v→u.i+([z8]:List Int).length≤v.i:=fun v e=>by
       obtain ⟨v2,e1,_,_,e2⟩:=hr8 v e
       cases e1
       have:=e2 (by decide)
       simp
       omega
      have H8:=Hid.mk7 (And.intro U8 (And.intro hq9 (And.intro hi8 (HK5.out.trans K8))))
      clear c8 hq8 U8 hr8 hq9 hi8 K8
      go_wp2_with (at_builtin; refine wpList_append_k (by rfl) (.tmp 70) (.tmp 73) (by rfl) Tryz.intTypes (by rfl) (by rfl) (OwnK.turned H8.out.1.a.own (Turned.alloc (fun _=>False) _ _) (fun _ _ e=>e)) (SlI.one _ _ _) (ints_one _) (by have:=H8.out.1.a.len; have:=HT.out.2; simp; omega) (by have:=H8.out.1.a.len; have:=HT.out.2; simp; omega) ?_; intro V9 w9 ho9 T9 hv9)
      obtain ⟨U9a,K9⟩:=H8.out.1.push HT.out.1 (Below.alloc0 w8 _) ho9 T9 hv9 (by have:=HL.out.2.2.1.2.1; have:=HL.out.2.1; simp; omega) (by simp)
      obtain ⟨aW,cW,hW,_⟩:=OwnK.sl ho9 |>.form
      have U9:=(U9a.nums (zs':=[]) (fun z hz=>by cases hz)).weak (d':=1) (by decide)
      clear U9a
      rw [hW] at U9
      subst hW
      have H9:=Hid.mk7 (And.intro U9 (H8.out.2.2.2.trans K9))
      clear ho9 T9 hv9 U9 K9
      go_wp2
      go_roundw
      case rel=>
       refine ⟨l++[z8],r8,fu - 1,H9.out.1,H9.out.2,H8.out.2.1,?_,fun v e=>?_⟩
       ·have h2:=HL.out.2.2.1; have h3:=HL.out.2.1; simp; omega
       ·have h1:=H8.out.2.2.1 v e
        have h2:=HL.out.2.2.1
        have h3:=(Uf.il (u:=v) (e ▸ H9.out.1)).1
        simp at h1 ⊢
        omega
      case measure=>
       have h3:=HL.out.1
       obtain ⟨rr,hrr⟩:∃ rr,rr=r8:=⟨_,rfl⟩
       cases rr with
       | error e=>
        have h4:=(Uf.x (r:=.error e) (hrr ▸ H9.out.1)).1.bad
        simp only [leftOf,h4]
        have:=HL.out.2.1
        have:=H7c.out
        simp only [leftOf] at h3
        omega
       | ok v=>
        have h1:=H8.out.2.2.1 v hrr.symm
        try simp only [List.length_cons,List.length_nil] at h1
        have h2:=Uf.left (u:=v) (hrr ▸ H9.out.1)
        have h4:=(Uf.il (u:=v) (hrr ▸ H9.out.1)).1
        rw [h2,h3]
        have:=H7c.out
        omega
     | true=>
      have cS:∀ W,Below wr.heap.size wr W→Calls Tryz.prog 61 #[.pointer (some ⟨q,0,none⟩),.int .i64 0,.string ⟨#[45]⟩] W fun y w2=>y=.returned (.bool true)∧Below wr.heap.size wr w2:=fun W hW=>by
       refine ((H7.out.1.below hW).sign 0 (by omega) ⟨#[45]⟩).mono ?_
       rintro y w2 ⟨hb2,⟨rfl,u2,hu2,hk2⟩ | ⟨rfl,hk2⟩⟩
       ·exact ⟨rfl,hW.trans (hb2.mono hW.size)⟩
       ·exfalso
        have h1:=hk2 u rfl
        simp only [Nat.add_zero] at h1
        rw [tkIs_sign (HX.out.2.1 _) (by simp [allSigns])] at h1
        have h9:sgn T ⟨#[45]⟩ u.i=false:=h1
        rw [hsg] at h9
        cases h9
      obtain ⟨tk1,htk1⟩:∃ tk1,tokAt T (u.i+1)=tk1:=⟨_,rfl⟩
      obtain ⟨k1,t1,n1,p1⟩:=tk1
      have cTk:∀ W,Below wr.heap.size wr W→Calls Tryz.prog 25 #[.pointer (some ⟨q,0,none⟩),.int .i64 1] W fun y w2=>y=.returned (.agg #[.int .i64 k1,.string t1,.int .i64 n1,.int .i64 p1])∧Below wr.heap.size wr w2:=fun W hW=>by
       refine ((H7.out.1.below hW).token 1 (by omega)).mono ?_
       rintro y w2 ⟨t2,rfl,hb2,ht2,_⟩
       have e2:=ht2 u rfl
       rw [htk1] at e2
       subst e2
       exact ⟨rfl,hW.trans (hb2.mono hW.size)⟩
      have hfk:=Tryz.tokKind
      have hft:=Tryz.tokText
      have H7c:=Hid.mk7 hend
      have hatm:atModule T u.i=(decide (k1=1) && decide (t1=⟨#[109,111,100,117,108,101]⟩)):=by simp [atModule,hsg,atm,isTk,htk1]
      by_cases hk1:k1=1
      ·subst hk1
       by_cases ht1:t1=⟨#[109,111,100,117,108,101]⟩
       ·subst ht1
        have hcond:(decide (u.i < T.length) && !atModule T u.i)=false:=by rw [hatm]; simp
        have hqf:Then (.ok u) ((modK at_ ta) l)=res:=(forms_stop (by have:=HL.out.2.2.1.1; omega) hcond).symm.trans H7.out.2
        go_wp2_with fail
        refine wp_region_held_drew (S:=fun w'=>w'.cell? ⟨q,3,none⟩=some (.bool false)∧w'.cell? ⟨q,1,none⟩=some (.int .i64 u.i)∧w'.cell? ⟨q,0,none⟩=some (.slice aT T.length cT)) (by kernel_rfl) ⟨hb,c1,c00⟩ (fun hHeld=>?_)
        refine wpAnyH_take (i:=0) (v:=.pointer (some ⟨q,0,none⟩)) rfl (by kernel_rfl) (by kernel_rfl) (by kernel_rfl) (fun _ _ _ h=>h) (Or.inl ⟨by rfl,?_⟩) (by assumption) ?_
        ·intro w hSw; obtain ⟨S0,S1,S2⟩:=hSw; go_simp
        go_simp
        refine wpAnyH_take (i:=1) (v:=.pointer (some ⟨q,0,none⟩)) rfl (by kernel_rfl) (by kernel_rfl) (by kernel_rfl) (fun _ _ _ h=>h) (Or.inl ⟨by rfl,?_⟩) (by assumption) ?_
        ·intro w hSw; obtain ⟨S0,S1,S2⟩:=hSw; go_simp
        go_simp
        refine wpAnyH_take (i:=2) (v:=.pointer (some ⟨q,3,none⟩)) rfl (by kernel_rfl) (by kernel_rfl) (by kernel_rfl) (fun _ _ _ h=>h) (Or.inl ⟨by rfl,?_⟩) (by assumption) ?_
        ·intro w hSw; obtain ⟨S0,S1,S2⟩:=hSw; go_simp
        go_simp
        refine wpAnyH_take (i:=3) (v:=.bool false) rfl (by kernel_rfl) (by kernel_rfl) (by kernel_rfl) (fun _ _ _ h=>h) (Or.inl ⟨by rfl,?_⟩) (by assumption) ?_
        ·intro w hSw; obtain ⟨S0,S1,S2⟩:=hSw; go_simp
        go_simp
        refine wpAnyH_take (i:=4) (v:=.bool true) rfl (by kernel_rfl) (by kernel_rfl) (by kernel_rfl) (fun _ _ _ h=>h) (Or.inl ⟨by rfl,?_⟩) (by assumption) ?_
        ·intro w hSw; obtain ⟨S0,S1,S2⟩:=hSw; go_simp
        go_simp
        refine wpAnyH_take (i:=5) (v:=.bool true) rfl (by kernel_rfl) (by kernel_rfl) (by kernel_rfl) (fun _ _ _ h=>h) (Or.inl ⟨by rfl,?_⟩) (by assumption) ?_
        ·intro w hSw; obtain ⟨S0,S1,S2⟩:=hSw; go_simp
        go_simp
        refine wpAnyH_take (i:=6) (v:=.pointer (some ⟨q,0,none⟩)) rfl (by kernel_rfl) (by kernel_rfl) (by kernel_rfl) (fun _ _ _ h=>h) (Or.inl ⟨by rfl,?_⟩) (by assumption) ?_
        ·intro w hSw; obtain ⟨S0,S1,S2⟩:=hSw; go_simp
        go_simp
        refine wpAnyH_take (i:=7) (v:=.pointer (some ⟨q,0,none⟩)) rfl (by kernel_rfl) (by kernel_rfl) (by kernel_rfl) (fun _ _ _ h=>h) (Or.inl ⟨by rfl,?_⟩) (by assumption) ?_
        ·intro w hSw; obtain ⟨S0,S1,S2⟩:=hSw; go_simp
        go_simp
        refine wpAnyH_take (i:=8) (v:=.pointer (some ⟨q,1,none⟩)) rfl (by kernel_rfl) (by kernel_rfl) (by kernel_rfl) (fun _ _ _ h=>h) (Or.inl ⟨by rfl,?_⟩) (by assumption) ?_
        ·intro w hSw; obtain ⟨S0,S1,S2⟩:=hSw; go_simp
        go_simp
        refine wpAnyH_take (i:=9) (v:=.int .i64 u.i) rfl (by kernel_rfl) (by kernel_rfl) (by kernel_rfl) (fun _ _ _ h=>h) (Or.inl ⟨by rfl,?_⟩) (by assumption) ?_
        ·intro w hSw; obtain ⟨S0,S1,S2⟩:=hSw; go_simp
        go_simp
        refine wpAnyH_take (i:=10) (v:=.pointer (some ⟨q,0,none⟩)) rfl (by kernel_rfl) (by kernel_rfl) (by kernel_rfl) (fun _ _ _ h=>h) (Or.inl ⟨by rfl,?_⟩) (by assumption) ?_
        ·intro w hSw; obtain ⟨S0,S1,S2⟩:=hSw; go_simp
        go_simp
        refine wpAnyH_take (i:=11) (v:=.pointer (some ⟨q,0,none⟩)) rfl (by kernel_rfl) (by kernel_rfl) (by kernel_rfl) (fun _ _ _ h=>h) (Or.inl ⟨by rfl,?_⟩) (by assumption) ?_
        ·intro w hSw; obtain ⟨S0,S1,S2⟩:=hSw; go_simp
        go_simp
        refine wpAnyH_take (i:=12) (v:=.pointer (some ⟨q,0,none⟩)) rfl (by kernel_rfl) (by kernel_rfl) (by kernel_rfl) (fun _ _ _ h=>h) (Or.inl ⟨by rfl,?_⟩) (by assumption) ?_
        ·intro w hSw; obtain ⟨S0,S1,S2⟩:=hSw; go_simp
        go_simp
        refine wpAnyH_take (i:=13) (v:=.slice aT T.length cT) rfl (by kernel_rfl) (by kernel_rfl) (by kernel_rfl) (fun _ _ _ h=>h) (Or.inl ⟨by rfl,?_⟩) (by assumption) ?_
        ·intro w hSw; obtain ⟨S0,S1,S2⟩:=hSw; go_simp
        go_simp
        refine wpAnyH_take (i:=14) (v:=.int .i64 T.length) rfl (by kernel_rfl) (by kernel_rfl) (by kernel_rfl) (fun _ _ _ h=>h) (Or.inl ⟨by rfl,?_⟩) (by assumption) ?_
        ·intro w hSw; obtain ⟨S0,S1,S2⟩:=hSw; go_simp
        go_simp
        refine wpAnyH_take (i:=15) (v:=.bool true) rfl (by kernel_rfl) (by kernel_rfl) (by kernel_rfl) (fun _ _ _ h=>h) (Or.inl ⟨by rfl,?_⟩) (by assumption) ?_
        ·intro w hSw; obtain ⟨S0,S1,S2⟩:=hSw; go_simp
        go_simp
        refine wpAnyH_take (i:=16) (v:=.bool true) rfl (by kernel_rfl) (by kernel_rfl) (by kernel_rfl) (fun _ _ _ h=>h) (Or.inl ⟨by rfl,?_⟩) (by assumption) ?_
        ·intro w hSw; obtain ⟨S0,S1,S2⟩:=hSw; go_simp
        go_simp
        refine wpAnyH_take (i:=17) (v:=.bool true) rfl (by kernel_rfl) (by kernel_rfl) (by kernel_rfl) (fun _ _ _ h=>h) (Or.inl ⟨by rfl,?_⟩) (by assumption) ?_
        ·intro w hSw; obtain ⟨S0,S1,S2⟩:=hSw; go_simp
        go_simp
        refine wpAnyH_take (i:=18) (v:=.pointer (some ⟨q,0,none⟩)) rfl (by kernel_rfl) (by kernel_rfl) (by kernel_rfl) (fun _ _ _ h=>h) (Or.inl ⟨by rfl,?_⟩) (by assumption) ?_
        ·intro w hSw; obtain ⟨S0,S1,S2⟩:=hSw; go_simp
        go_simp
        refine wpAnyH_ready (rs:=[19]) (by kernel_rfl) (by simp) ?_
        refine AllReadyH.cons rfl (fun K hK=>?_) AllReadyH.nil
        go_simp
        refine (cS _ (Below.refl _ _).drew).mono ?_
        rintro y w2 ⟨rfl,Bw2⟩
        refine hK.out _ _ ⟨(Bw2.cell (p:=⟨q,3,none⟩) cql).trans hb,(Bw2.cell (p:=⟨q,1,none⟩) cql).trans c1,(Bw2.cell (p:=⟨q,0,none⟩) cql).trans c00⟩ (fun hHeld=>?_)
        clear hK K
        refine wpAnyH_take (i:=20) (v:=.bool true) rfl (by kernel_rfl) (by kernel_rfl) (by kernel_rfl) (fun _ _ _ h=>h) (Or.inl ⟨by rfl,?_⟩) (by assumption) ?_
        ·intro w hSw; obtain ⟨S0,S1,S2⟩:=hSw; go_simp
        go_simp
        refine wpAnyH_take (i:=21) (v:=.pointer (some ⟨q,0,none⟩)) rfl (by kernel_rfl) (by kernel_rfl) (by kernel_rfl) (fun _ _ _ h=>h) (Or.inl ⟨by rfl,?_⟩) (by assumption) ?_
        ·intro w hSw; obtain ⟨S0,S1,S2⟩:=hSw; go_simp
        go_simp
        refine wpAnyH_ready (rs:=[22]) (by kernel_rfl) (by simp) ?_
        refine AllReadyH.cons rfl (fun K hK=>?_) AllReadyH.nil
        go_simp
        refine (cTk _ Bw2).mono ?_
        rintro y w3 ⟨rfl,Bw3⟩
        refine hK.out _ _ ⟨(Bw3.cell (p:=⟨q,3,none⟩) cql).trans hb,(Bw3.cell (p:=⟨q,1,none⟩) cql).trans c1,(Bw3.cell (p:=⟨q,0,none⟩) cql).trans c00⟩ (fun hHeld=>?_)
        clear hK K
        refine wpAnyH_take (i:=23) (v:=.int .i64 1) rfl (by kernel_rfl) (by kernel_rfl) (by kernel_rfl) (fun _ _ _ h=>h) (Or.inl ⟨by rfl,?_⟩) (by assumption) ?_
        ·intro w hSw; obtain ⟨S0,S1,S2⟩:=hSw; go_simp
        go_simp
        refine wpAnyH_take (i:=24) (v:=.bool true) rfl (by kernel_rfl) (by kernel_rfl) (by kernel_rfl) (fun _ _ _ h=>h) (Or.inl ⟨by rfl,?_⟩) (by assumption) ?_
        ·intro w hSw; obtain ⟨S0,S1,S2⟩:=hSw; go_simp
        go_simp
        refine wpAnyH_take (i:=25) (v:=.bool true) rfl (by kernel_rfl) (by kernel_rfl) (by kernel_rfl) (fun _ _ _ h=>h) (Or.inl ⟨by rfl,?_⟩) (by assumption) ?_
        ·intro w hSw; obtain ⟨S0,S1,S2⟩:=hSw; go_simp
        go_simp
        refine wpAnyH_take (i:=26) (v:=.bool true) rfl (by kernel_rfl) (by kernel_rfl) (by kernel_rfl) (fun _ _ _ h=>h) (Or.inl ⟨by rfl,?_⟩) (by assumption) ?_
        ·intro w hSw; obtain ⟨S0,S1,S2⟩:=hSw; go_simp
        go_simp
        refine wpAnyH_take (i:=27) (v:=.pointer (some ⟨q,0,none⟩)) rfl (by kernel_rfl) (by kernel_rfl) (by kernel_rfl) (fun _ _ _ h=>h) (Or.inl ⟨by rfl,?_⟩) (by assumption) ?_
        ·intro w hSw; obtain ⟨S0,S1,S2⟩:=hSw; go_simp
        go_simp
        refine wpAnyH_ready (rs:=[28]) (by kernel_rfl) (by simp) ?_
        refine AllReadyH.cons rfl (fun K hK=>?_) AllReadyH.nil
        go_simp
        refine (cTk _ Bw3).mono ?_
        rintro y w5 ⟨rfl,Bw5⟩
        refine hK.out _ _ ⟨(Bw5.cell (p:=⟨q,3,none⟩) cql).trans hb,(Bw5.cell (p:=⟨q,1,none⟩) cql).trans c1,(Bw5.cell (p:=⟨q,0,none⟩) cql).trans c00⟩ (fun hHeld=>?_)
        clear hK K
        refine wpAnyH_take (i:=29) (v:=.string ⟨#[109,111,100,117,108,101]⟩) rfl (by kernel_rfl) (by kernel_rfl) (by kernel_rfl) (fun _ _ _ h=>h) (Or.inl ⟨by rfl,?_⟩) (by assumption) ?_
        ·intro w hSw; obtain ⟨S0,S1,S2⟩:=hSw; go_simp
        go_simp
        refine wpAnyH_take (i:=30) (v:=.bool true) rfl (by kernel_rfl) (by kernel_rfl) (by kernel_rfl) (fun _ _ _ h=>h) (Or.inl ⟨by rfl,?_⟩) (by assumption) ?_
        ·intro w hSw; obtain ⟨S0,S1,S2⟩:=hSw; go_simp
        go_simp
        refine wpAnyH_take (i:=31) (v:=.bool true) rfl (by kernel_rfl) (by kernel_rfl) (by kernel_rfl) (fun _ _ _ h=>h) (Or.inl ⟨by rfl,?_⟩) (by assumption) ?_
        ·intro w hSw; obtain ⟨S0,S1,S2⟩:=hSw; go_simp
        go_simp
        refine wpAnyH_take (i:=32) (v:=.bool false) rfl (by kernel_rfl) (by kernel_rfl) (by kernel_rfl) (fun _ _ _ h=>h) (Or.inl ⟨by rfl,?_⟩) (by assumption) ?_
        ·intro w hSw; obtain ⟨S0,S1,S2⟩:=hSw; go_simp
        go_simp
        refine wpAnyH_take (i:=33) (v:=.bool false) rfl (by kernel_rfl) (by kernel_rfl) (by kernel_rfl) (fun _ _ _ h=>h) (Or.inl ⟨by rfl,?_⟩) (by assumption) ?_
        ·intro w hSw; obtain ⟨S0,S1,S2⟩:=hSw; go_simp
        go_simp
        refine wpAnyH_done (by kernel_rfl) ?_ _
        have U5:=H7.out.1.below Bw5
        have e3:=((H7.out.1.kb Bw5).cell (k:=w0.heap.size) (j:=3) (.inl (.inr rfl))).trans HKL.out.2.1
        have a1:=((H7.out.1.kb Bw5).cell (k:=w4.heap.size) (j:=1) (.inr rfl)).trans HKL.out.2.2
        have l3:=World.block_lt_of_cell? _ _ e3
        have l4:=World.block_lt_of_cell? _ _ a1
        have H9:=Hid.mk7 (And.intro U5 hqf)
        clear cS cTk hcond hqf hlt hend hsg hb c1 c00 cql hatm Bw2 Bw3 Bw5 U5
        have hq20:Then (.ok u) (PM.bind (pAdd ⟨27,at_,⟨#[]⟩,0,l,ta⟩) PM.ret)=res:=by rw [PM.bind_ret]; exact H9.out.2
        have c20:=Uf.node (H9.out.1.to2) HT.out.1 HC.out (by decide) 27 ta at_ hq20
        clear hq20
        go_wp2_with fail
        refine c20.mono ?_
        rintro y w20 ⟨z20,rfl,_,r20,hq20,U20,_⟩
        have H20:=Hid.mk7 (U20.done hq20)
        clear c20 hq20 U20
        go_wp2
        go_ret
        exact H20.out
       ·have hcond:(decide (u.i < T.length) && !atModule T u.i)=true:=by rw [hatm]; simp [hend,ht1]
        have hne1:=list_ne (l:=[109,111,100,117,108,101]) ht1
        go_wp2_with fail
        refine wp_region_held_drew (S:=fun w'=>w'.cell? ⟨q,3,none⟩=some (.bool false)∧w'.cell? ⟨q,1,none⟩=some (.int .i64 u.i)∧w'.cell? ⟨q,0,none⟩=some (.slice aT T.length cT)) (by kernel_rfl) ⟨hb,c1,c00⟩ (fun hHeld=>?_)
        refine wpAnyH_take (i:=0) (v:=.pointer (some ⟨q,0,none⟩)) rfl (by kernel_rfl) (by kernel_rfl) (by kernel_rfl) (fun _ _ _ h=>h) (Or.inl ⟨by rfl,?_⟩) (by assumption) ?_
        ·intro w hSw; obtain ⟨S0,S1,S2⟩:=hSw; go_simp
        go_simp
        refine wpAnyH_take (i:=1) (v:=.pointer (some ⟨q,0,none⟩)) rfl (by kernel_rfl) (by kernel_rfl) (by kernel_rfl) (fun _ _ _ h=>h) (Or.inl ⟨by rfl,?_⟩) (by assumption) ?_
        ·intro w hSw; obtain ⟨S0,S1,S2⟩:=hSw; go_simp
        go_simp
        refine wpAnyH_take (i:=2) (v:=.pointer (some ⟨q,3,none⟩)) rfl (by kernel_rfl) (by kernel_rfl) (by kernel_rfl) (fun _ _ _ h=>h) (Or.inl ⟨by rfl,?_⟩) (by assumption) ?_
        ·intro w hSw; obtain ⟨S0,S1,S2⟩:=hSw; go_simp
        go_simp
        refine wpAnyH_take (i:=3) (v:=.bool false) rfl (by kernel_rfl) (by kernel_rfl) (by kernel_rfl) (fun _ _ _ h=>h) (Or.inl ⟨by rfl,?_⟩) (by assumption) ?_
        ·intro w hSw; obtain ⟨S0,S1,S2⟩:=hSw; go_simp
        go_simp
        refine wpAnyH_take (i:=4) (v:=.bool true) rfl (by kernel_rfl) (by kernel_rfl) (by kernel_rfl) (fun _ _ _ h=>h) (Or.inl ⟨by rfl,?_⟩) (by assumption) ?_
        ·intro w hSw; obtain ⟨S0,S1,S2⟩:=hSw; go_simp
        go_simp
        refine wpAnyH_take (i:=5) (v:=.bool true) rfl (by kernel_rfl) (by kernel_rfl) (by kernel_rfl) (fun _ _ _ h=>h) (Or.inl ⟨by rfl,?_⟩) (by assumption) ?_
        ·intro w hSw; obtain ⟨S0,S1,S2⟩:=hSw; go_simp
        go_simp
        refine wpAnyH_take (i:=6) (v:=.pointer (some ⟨q,0,none⟩)) rfl (by kernel_rfl) (by kernel_rfl) (by kernel_rfl) (fun _ _ _ h=>h) (Or.inl ⟨by rfl,?_⟩) (by assumption) ?_
        ·intro w hSw; obtain ⟨S0,S1,S2⟩:=hSw; go_simp
        go_simp
        refine wpAnyH_take (i:=7) (v:=.pointer (some ⟨q,0,none⟩)) rfl (by kernel_rfl) (by kernel_rfl) (by kernel_rfl) (fun _ _ _ h=>h) (Or.inl ⟨by rfl,?_⟩) (by assumption) ?_
        ·intro w hSw; obtain ⟨S0,S1,S2⟩:=hSw; go_simp
        go_simp
        refine wpAnyH_take (i:=8) (v:=.pointer (some ⟨q,1,none⟩)) rfl (by kernel_rfl) (by kernel_rfl) (by kernel_rfl) (fun _ _ _ h=>h) (Or.inl ⟨by rfl,?_⟩) (by assumption) ?_
        ·intro w hSw; obtain ⟨S0,S1,S2⟩:=hSw; go_simp
        go_simp
        refine wpAnyH_take (i:=9) (v:=.int .i64 u.i) rfl (by kernel_rfl) (by kernel_rfl) (by kernel_rfl) (fun _ _ _ h=>h) (Or.inl ⟨by rfl,?_⟩) (by assumption) ?_
        ·intro w hSw; obtain ⟨S0,S1,S2⟩:=hSw; go_simp
        go_simp
        refine wpAnyH_take (i:=10) (v:=.pointer (some ⟨q,0,none⟩)) rfl (by kernel_rfl) (by kernel_rfl) (by kernel_rfl) (fun _ _ _ h=>h) (Or.inl ⟨by rfl,?_⟩) (by assumption) ?_
        ·intro w hSw; obtain ⟨S0,S1,S2⟩:=hSw; go_simp
        go_simp
        refine wpAnyH_take (i:=11) (v:=.pointer (some ⟨q,0,none⟩)) rfl (by kernel_rfl) (by kernel_rfl) (by kernel_rfl) (fun _ _ _ h=>h) (Or.inl ⟨by rfl,?_⟩) (by assumption) ?_
        ·intro w hSw; obtain ⟨S0,S1,S2⟩:=hSw; go_simp
        go_simp
        refine wpAnyH_take (i:=12) (v:=.pointer (some ⟨q,0,none⟩)) rfl (by kernel_rfl) (by kernel_rfl) (by kernel_rfl) (fun _ _ _ h=>h) (Or.inl ⟨by rfl,?_⟩) (by assumption) ?_
        ·intro w hSw; obtain ⟨S0,S1,S2⟩:=hSw; go_simp
        go_simp
        refine wpAnyH_take (i:=13) (v:=.slice aT T.length cT) rfl (by kernel_rfl) (by kernel_rfl) (by kernel_rfl) (fun _ _ _ h=>h) (Or.inl ⟨by rfl,?_⟩) (by assumption) ?_
        ·intro w hSw; obtain ⟨S0,S1,S2⟩:=hSw; go_simp
        go_simp
        refine wpAnyH_take (i:=14) (v:=.int .i64 T.length) rfl (by kernel_rfl) (by kernel_rfl) (by kernel_rfl) (fun _ _ _ h=>h) (Or.inl ⟨by rfl,?_⟩) (by assumption) ?_
        ·intro w hSw; obtain ⟨S0,S1,S2⟩:=hSw; go_simp
        go_simp
        refine wpAnyH_take (i:=15) (v:=.bool true) rfl (by kernel_rfl) (by kernel_rfl) (by kernel_rfl) (fun _ _ _ h=>h) (Or.inl ⟨by rfl,?_⟩) (by assumption) ?_
        ·intro w hSw; obtain ⟨S0,S1,S2⟩:=hSw; go_simp
        go_simp
        refine wpAnyH_take (i:=16) (v:=.bool true) rfl (by kernel_rfl) (by kernel_rfl) (by kernel_rfl) (fun _ _ _ h=>h) (Or.inl ⟨by rfl,?_⟩) (by assumption) ?_
        ·intro w hSw; obtain ⟨S0,S1,S2⟩:=hSw; go_simp
        go_simp
        refine wpAnyH_take (i:=17) (v:=.bool true) rfl (by kernel_rfl) (by kernel_rfl) (by kernel_rfl) (fun _ _ _ h=>h) (Or.inl ⟨by rfl,?_⟩) (by assumption) ?_
        ·intro w hSw; obtain ⟨S0,S1,S2⟩:=hSw; go_simp
        go_simp
        refine wpAnyH_take (i:=18) (v:=.pointer (some ⟨q,0,none⟩)) rfl (by kernel_rfl) (by kernel_rfl) (by kernel_rfl) (fun _ _ _ h=>h) (Or.inl ⟨by rfl,?_⟩) (by assumption) ?_
        ·intro w hSw; obtain ⟨S0,S1,S2⟩:=hSw; go_simp
        go_simp
        refine wpAnyH_ready (rs:=[19]) (by kernel_rfl) (by simp) ?_
        refine AllReadyH.cons rfl (fun K hK=>?_) AllReadyH.nil
        go_simp
        refine (cS _ (Below.refl _ _).drew).mono ?_
        rintro y w2 ⟨rfl,Bw2⟩
        refine hK.out _ _ ⟨(Bw2.cell (p:=⟨q,3,none⟩) cql).trans hb,(Bw2.cell (p:=⟨q,1,none⟩) cql).trans c1,(Bw2.cell (p:=⟨q,0,none⟩) cql).trans c00⟩ (fun hHeld=>?_)
        clear hK K
        refine wpAnyH_take (i:=20) (v:=.bool true) rfl (by kernel_rfl) (by kernel_rfl) (by kernel_rfl) (fun _ _ _ h=>h) (Or.inl ⟨by rfl,?_⟩) (by assumption) ?_
        ·intro w hSw; obtain ⟨S0,S1,S2⟩:=hSw; go_simp
        go_simp
        refine wpAnyH_take (i:=21) (v:=.pointer (some ⟨q,0,none⟩)) rfl (by kernel_rfl) (by kernel_rfl) (by kernel_rfl) (fun _ _ _ h=>h) (Or.inl ⟨by rfl,?_⟩) (by assumption) ?_
        ·intro w hSw; obtain ⟨S0,S1,S2⟩:=hSw; go_simp
        go_simp
        refine wpAnyH_ready (rs:=[22]) (by kernel_rfl) (by simp) ?_
        refine AllReadyH.cons rfl (fun K hK=>?_) AllReadyH.nil
        go_simp
        refine (cTk _ Bw2).mono ?_
        rintro y w3 ⟨rfl,Bw3⟩
        refine hK.out _ _ ⟨(Bw3.cell (p:=⟨q,3,none⟩) cql).trans hb,(Bw3.cell (p:=⟨q,1,none⟩) cql).trans c1,(Bw3.cell (p:=⟨q,0,none⟩) cql).trans c00⟩ (fun hHeld=>?_)
        clear hK K
        refine wpAnyH_take (i:=23) (v:=.int .i64 1) rfl (by kernel_rfl) (by kernel_rfl) (by kernel_rfl) (fun _ _ _ h=>h) (Or.inl ⟨by rfl,?_⟩) (by assumption) ?_
        ·intro w hSw; obtain ⟨S0,S1,S2⟩:=hSw; go_simp
        go_simp
        refine wpAnyH_take (i:=24) (v:=.bool true) rfl (by kernel_rfl) (by kernel_rfl) (by kernel_rfl) (fun _ _ _ h=>h) (Or.inl ⟨by rfl,?_⟩) (by assumption) ?_
        ·intro w hSw; obtain ⟨S0,S1,S2⟩:=hSw; go_simp
        go_simp
        refine wpAnyH_take (i:=25) (v:=.bool true) rfl (by kernel_rfl) (by kernel_rfl) (by kernel_rfl) (fun _ _ _ h=>h) (Or.inl ⟨by rfl,?_⟩) (by assumption) ?_
        ·intro w hSw; obtain ⟨S0,S1,S2⟩:=hSw; go_simp
        go_simp
        refine wpAnyH_take (i:=26) (v:=.bool true) rfl (by kernel_rfl) (by kernel_rfl) (by kernel_rfl) (fun _ _ _ h=>h) (Or.inl ⟨by rfl,?_⟩) (by assumption) ?_
        ·intro w hSw; obtain ⟨S0,S1,S2⟩:=hSw; go_simp
        go_simp
        refine wpAnyH_take (i:=27) (v:=.pointer (some ⟨q,0,none⟩)) rfl (by kernel_rfl) (by kernel_rfl) (by kernel_rfl) (fun _ _ _ h=>h) (Or.inl ⟨by rfl,?_⟩) (by assumption) ?_
        ·intro w hSw; obtain ⟨S0,S1,S2⟩:=hSw; go_simp
        go_simp
        refine wpAnyH_ready (rs:=[28]) (by kernel_rfl) (by simp) ?_
        refine AllReadyH.cons rfl (fun K hK=>?_) AllReadyH.nil
        go_simp
        refine (cTk _ Bw3).mono ?_
        rintro y w5 ⟨rfl,Bw5⟩
        refine hK.out _ _ ⟨(Bw5.cell (p:=⟨q,3,none⟩) cql).trans hb,(Bw5.cell (p:=⟨q,1,none⟩) cql).trans c1,(Bw5.cell (p:=⟨q,0,none⟩) cql).trans c00⟩ (fun hHeld=>?_)
        clear hK K
        refine wpAnyH_take (i:=29) (v:=.string t1) rfl (by kernel_rfl) (by kernel_rfl) (by kernel_rfl) (fun _ _ _ h=>h) (Or.inl ⟨by rfl,?_⟩) (by assumption) ?_
        ·intro w hSw; obtain ⟨S0,S1,S2⟩:=hSw; go_simp
        go_simp
        refine wpAnyH_take (i:=30) (v:=.bool false) rfl (by kernel_rfl) (by kernel_rfl) (by kernel_rfl) (fun _ _ _ h=>h) (Or.inl ⟨by rfl,?_⟩) (by assumption) ?_
        ·intro w hSw; obtain ⟨S0,S1,S2⟩:=hSw; go_simp
        go_simp
        refine wpAnyH_take (i:=31) (v:=.bool false) rfl (by kernel_rfl) (by kernel_rfl) (by kernel_rfl) (fun _ _ _ h=>h) (Or.inl ⟨by rfl,?_⟩) (by assumption) ?_
        ·intro w hSw; obtain ⟨S0,S1,S2⟩:=hSw; go_simp
        go_simp
        refine wpAnyH_take (i:=32) (v:=.bool true) rfl (by kernel_rfl) (by kernel_rfl) (by kernel_rfl) (fun _ _ _ h=>h) (Or.inl ⟨by rfl,?_⟩) (by assumption) ?_
        ·intro w hSw; obtain ⟨S0,S1,S2⟩:=hSw; go_simp
        go_simp
        refine wpAnyH_take (i:=33) (v:=.bool true) rfl (by kernel_rfl) (by kernel_rfl) (by kernel_rfl) (fun _ _ _ h=>h) (Or.inl ⟨by rfl,?_⟩) (by assumption) ?_
        ·intro w hSw; obtain ⟨S0,S1,S2⟩:=hSw; go_simp
        go_simp
        refine wpAnyH_done (by kernel_rfl) ?_ _
        have hqf:=(forms_exp (by have:=HL.out.2.2.1.1; omega) hcond hsg).symm.trans H7.out.2
        have HF:=Hid.mk7 hqf
        have cS2:=cS _ Bw5
        clear cS cTk hcond hqf hlt hend hsg hb c1 c00 cql hatm
        go_wp2_with fail
        refine cS2.mono ?_
        rintro y w6 ⟨rfl,Bw6⟩
        have U5:=H7.out.1.below Bw6
        have K5:=HKL.out.1.trans (H7.out.1.kb Bw6)
        have c8:Calls Tryz.prog 62 #[.pointer (some ⟨q,0,none⟩)] w6 _:=U5.phraseL (dm:=0) (fun u2 e=>x_exports HT.out.1 HX.out.2.1 (by have:=HX.out.2.2.1; omega) u2) (fun _ e=>by cases e) (fun u2 _ hs=>exports_ok2 (Alike.refl T) (fun ph hp s s' hs=>runP_ok2 (Alike.refl T) f ph hp s s' hs) hs) (fun u2 l v e=>(exports_adv (runP_mono T f .export) e).2) (by omega) HF.out
        have HK5:=Hid.mk7 K5
        clear cS2 Bw6 U5 K5
        go_wp2_with fail
        refine c8.mono ?_
        rintro y w8 ⟨V8,l8,rfl,⟨a8,b8,hV8⟩,hln8,K8,r8,hq8,U8,hr8⟩
        subst hV8
        have hi8:∀ v,r8=.ok v→u.i+1+l8.length≤v.i:=fun v e=>by
         obtain ⟨v2,e1,e2,_⟩:=hr8 v e
         cases e1
         have:=(exports_adv (runP_mono T f .export) e2).1
         omega
        have H8:=Hid.mk7 (And.intro U8 (And.intro hq8 (And.intro hi8 (And.intro (HK5.out.trans K8) hln8))))
        clear c8 hq8 U8 hr8 hi8 K8 hln8
        go_wp2_with (at_builtin; refine wpList_append_k (by rfl) (.tmp 66) (.tmp 68) (by rfl) Tryz.intTypes (by rfl) (by rfl) H8.out.1.a.own (OwnK.sl H8.out.1.b.own) (ints_one _) (by have:=H8.out.2.2.2.2; have:=H8.out.1.a.len; have:=HT.out.2; omega) (by have:=H8.out.2.2.2.2; have:=H8.out.1.a.len; have:=HT.out.2; omega) ?_; intro V9 w9 ho9 T9 hv9)
        obtain ⟨U9a,K9⟩:=H8.out.1.push HT.out.1 (Below.refl _ _) ho9 T9 hv9 (by have:=H8.out.2.2.2.2; have:=HL.out.2.2.1.2.1; have:=HL.out.2.1; omega) (fun z hz=>.inr hz)
        obtain ⟨aW,cW,hW,_⟩:=OwnK.sl ho9 |>.form
        have U9:=U9a.drop2.weak (d':=1) (by decide)
        clear U9a
        rw [hW] at U9
        subst hW
        have H9:=Hid.mk7 (And.intro U9 (H8.out.2.2.2.1.trans K9))
        clear ho9 T9 hv9 U9 K9
        go_wp2
        go_roundw
        case rel=>
         refine ⟨l++l8,r8,fu - 1,H9.out.1,H9.out.2,H8.out.2.1,?_,fun v e=>?_⟩
         ·have h2:=HL.out.2.2.1; have h3:=HL.out.2.1; have:=H8.out.2.2.2.2; simp; omega
         ·have h1:=H8.out.2.2.1 v e
          have h2:=HL.out.2.2.1
          have h3:=(Uf.il (u:=v) (e ▸ H9.out.1)).1
          simp at h1 ⊢
          omega
        case measure=>
         have h3:=HL.out.1
         obtain ⟨rr,hrr⟩:∃ rr,rr=r8:=⟨_,rfl⟩
         cases rr with
         | error e=>
          have h4:=(Uf.x (r:=.error e) (hrr ▸ H9.out.1)).1.bad
          simp only [leftOf,h4]
          have:=HL.out.2.1
          have:=H7c.out
          simp only [leftOf] at h3
          omega
         | ok v=>
          have h1:=H8.out.2.2.1 v hrr.symm
          try simp only [List.length_cons,List.length_nil] at h1
          have h2:=Uf.left (u:=v) (hrr ▸ H9.out.1)
          have h4:=(Uf.il (u:=v) (hrr ▸ H9.out.1)).1
          rw [h2,h3]
          have:=H7c.out
          omega
      ·have hcond:(decide (u.i < T.length) && !atModule T u.i)=true:=by rw [hatm]; simp [hend,hk1]
       have hkb:(k1 == 1)=false:=by simpa using hk1
       go_wp2_with fail
       refine wp_region_held_drew (S:=fun w'=>w'.cell? ⟨q,3,none⟩=some (.bool false)∧w'.cell? ⟨q,1,none⟩=some (.int .i64 u.i)∧w'.cell? ⟨q,0,none⟩=some (.slice aT T.length cT)) (by kernel_rfl) ⟨hb,c1,c00⟩ (fun hHeld=>?_)
       refine wpAnyH_take (i:=0) (v:=.pointer (some ⟨q,0,none⟩)) rfl (by kernel_rfl) (by kernel_rfl) (by kernel_rfl) (fun _ _ _ h=>h) (Or.inl ⟨by rfl,?_⟩) (by assumption) ?_
       ·intro w hSw; obtain ⟨S0,S1,S2⟩:=hSw; go_simp
       go_simp
       refine wpAnyH_take (i:=1) (v:=.pointer (some ⟨q,0,none⟩)) rfl (by kernel_rfl) (by kernel_rfl) (by kernel_rfl) (fun _ _ _ h=>h) (Or.inl ⟨by rfl,?_⟩) (by assumption) ?_
       ·intro w hSw; obtain ⟨S0,S1,S2⟩:=hSw; go_simp
       go_simp
       refine wpAnyH_take (i:=2) (v:=.pointer (some ⟨q,3,none⟩)) rfl (by kernel_rfl) (by kernel_rfl) (by kernel_rfl) (fun _ _ _ h=>h) (Or.inl ⟨by rfl,?_⟩) (by assumption) ?_
       ·intro w hSw; obtain ⟨S0,S1,S2⟩:=hSw; go_simp
       go_simp
       refine wpAnyH_take (i:=3) (v:=.bool false) rfl (by kernel_rfl) (by kernel_rfl) (by kernel_rfl) (fun _ _ _ h=>h) (Or.inl ⟨by rfl,?_⟩) (by assumption) ?_
       ·intro w hSw; obtain ⟨S0,S1,S2⟩:=hSw; go_simp
       go_simp
       refine wpAnyH_take (i:=4) (v:=.bool true) rfl (by kernel_rfl) (by kernel_rfl) (by kernel_rfl) (fun _ _ _ h=>h) (Or.inl ⟨by rfl,?_⟩) (by assumption) ?_
       ·intro w hSw; obtain ⟨S0,S1,S2⟩:=hSw; go_simp
       go_simp
       refine wpAnyH_take (i:=5) (v:=.bool true) rfl (by kernel_rfl) (by kernel_rfl) (by kernel_rfl) (fun _ _ _ h=>h) (Or.inl ⟨by rfl,?_⟩) (by assumption) ?_
       ·intro w hSw; obtain ⟨S0,S1,S2⟩:=hSw; go_simp
       go_simp
       refine wpAnyH_take (i:=6) (v:=.pointer (some ⟨q,0,none⟩)) rfl (by kernel_rfl) (by kernel_rfl) (by kernel_rfl) (fun _ _ _ h=>h) (Or.inl ⟨by rfl,?_⟩) (by assumption) ?_
       ·intro w hSw; obtain ⟨S0,S1,S2⟩:=hSw; go_simp
       go_simp
       refine wpAnyH_take (i:=7) (v:=.pointer (some ⟨q,0,none⟩)) rfl (by kernel_rfl) (by kernel_rfl) (by kernel_rfl) (fun _ _ _ h=>h) (Or.inl ⟨by rfl,?_⟩) (by assumption) ?_
       ·intro w hSw; obtain ⟨S0,S1,S2⟩:=hSw; go_simp
       go_simp
       refine wpAnyH_take (i:=8) (v:=.pointer (some ⟨q,1,none⟩)) rfl (by kernel_rfl) (by kernel_rfl) (by kernel_rfl) (fun _ _ _ h=>h) (Or.inl ⟨by rfl,?_⟩) (by assumption) ?_
       ·intro w hSw; obtain ⟨S0,S1,S2⟩:=hSw; go_simp
       go_simp
       refine wpAnyH_take (i:=9) (v:=.int .i64 u.i) rfl (by kernel_rfl) (by kernel_rfl) (by kernel_rfl) (fun _ _ _ h=>h) (Or.inl ⟨by rfl,?_⟩) (by assumption) ?_
       ·intro w hSw; obtain ⟨S0,S1,S2⟩:=hSw; go_simp
       go_simp
       refine wpAnyH_take (i:=10) (v:=.pointer (some ⟨q,0,none⟩)) rfl (by kernel_rfl) (by kernel_rfl) (by kernel_rfl) (fun _ _ _ h=>h) (Or.inl ⟨by rfl,?_⟩) (by assumption) ?_
       ·intro w hSw; obtain ⟨S0,S1,S2⟩:=hSw; go_simp
       go_simp
       refine wpAnyH_take (i:=11) (v:=.pointer (some ⟨q,0,none⟩)) rfl (by kernel_rfl) (by kernel_rfl) (by kernel_rfl) (fun _ _ _ h=>h) (Or.inl ⟨by rfl,?_⟩) (by assumption) ?_
       ·intro w hSw; obtain ⟨S0,S1,S2⟩:=hSw; go_simp
       go_simp
       refine wpAnyH_take (i:=12) (v:=.pointer (some ⟨q,0,none⟩)) rfl (by kernel_rfl) (by kernel_rfl) (by kernel_rfl) (fun _ _ _ h=>h) (Or.inl ⟨by rfl,?_⟩) (by assumption) ?_
       ·intro w hSw; obtain ⟨S0,S1,S2⟩:=hSw; go_simp
       go_simp
       refine wpAnyH_take (i:=13) (v:=.slice aT T.length cT) rfl (by kernel_rfl) (by kernel_rfl) (by kernel_rfl) (fun _ _ _ h=>h) (Or.inl ⟨by rfl,?_⟩) (by assumption) ?_
       ·intro w hSw; obtain ⟨S0,S1,S2⟩:=hSw; go_simp
       go_simp
       refine wpAnyH_take (i:=14) (v:=.int .i64 T.length) rfl (by kernel_rfl) (by kernel_rfl) (by kernel_rfl) (fun _ _ _ h=>h) (Or.inl ⟨by rfl,?_⟩) (by assumption) ?_
       ·intro w hSw; obtain ⟨S0,S1,S2⟩:=hSw; go_simp
       go_simp
       refine wpAnyH_take (i:=15) (v:=.bool true) rfl (by kernel_rfl) (by kernel_rfl) (by kernel_rfl) (fun _ _ _ h=>h) (Or.inl ⟨by rfl,?_⟩) (by assumption) ?_
       ·intro w hSw; obtain ⟨S0,S1,S2⟩:=hSw; go_simp
       go_simp
       refine wpAnyH_take (i:=16) (v:=.bool true) rfl (by kernel_rfl) (by kernel_rfl) (by kernel_rfl) (fun _ _ _ h=>h) (Or.inl ⟨by rfl,?_⟩) (by assumption) ?_
       ·intro w hSw; obtain ⟨S0,S1,S2⟩:=hSw; go_simp
       go_simp
       refine wpAnyH_take (i:=17) (v:=.bool true) rfl (by kernel_rfl) (by kernel_rfl) (by kernel_rfl) (fun _ _ _ h=>h) (Or.inl ⟨by rfl,?_⟩) (by assumption) ?_
       ·intro w hSw; obtain ⟨S0,S1,S2⟩:=hSw; go_simp
       go_simp
       refine wpAnyH_take (i:=18) (v:=.pointer (some ⟨q,0,none⟩)) rfl (by kernel_rfl) (by kernel_rfl) (by kernel_rfl) (fun _ _ _ h=>h) (Or.inl ⟨by rfl,?_⟩) (by assumption) ?_
       ·intro w hSw; obtain ⟨S0,S1,S2⟩:=hSw; go_simp
       go_simp
       refine wpAnyH_ready (rs:=[19]) (by kernel_rfl) (by simp) ?_
       refine AllReadyH.cons rfl (fun K hK=>?_) AllReadyH.nil
       go_simp
       refine (cS _ (Below.refl _ _).drew).mono ?_
       rintro y w2 ⟨rfl,Bw2⟩
       refine hK.out _ _ ⟨(Bw2.cell (p:=⟨q,3,none⟩) cql).trans hb,(Bw2.cell (p:=⟨q,1,none⟩) cql).trans c1,(Bw2.cell (p:=⟨q,0,none⟩) cql).trans c00⟩ (fun hHeld=>?_)
       clear hK K
       refine wpAnyH_take (i:=20) (v:=.bool true) rfl (by kernel_rfl) (by kernel_rfl) (by kernel_rfl) (fun _ _ _ h=>h) (Or.inl ⟨by rfl,?_⟩) (by assumption) ?_
       ·intro w hSw; obtain ⟨S0,S1,S2⟩:=hSw; go_simp
       go_simp
       refine wpAnyH_take (i:=21) (v:=.pointer (some ⟨q,0,none⟩)) rfl (by kernel_rfl) (by kernel_rfl) (by kernel_rfl) (fun _ _ _ h=>h) (Or.inl ⟨by rfl,?_⟩) (by assumption) ?_
       ·intro w hSw; obtain ⟨S0,S1,S2⟩:=hSw; go_simp
       go_simp
       refine wpAnyH_ready (rs:=[22]) (by kernel_rfl) (by simp) ?_
       refine AllReadyH.cons rfl (fun K hK=>?_) AllReadyH.nil
       go_simp
       refine (cTk _ Bw2).mono ?_
       rintro y w3 ⟨rfl,Bw3⟩
       refine hK.out _ _ ⟨(Bw3.cell (p:=⟨q,3,none⟩) cql).trans hb,(Bw3.cell (p:=⟨q,1,none⟩) cql).trans c1,(Bw3.cell (p:=⟨q,0,none⟩) cql).trans c00⟩ (fun hHeld=>?_)
       clear hK K
       refine wpAnyH_take (i:=23) (v:=.int .i64 k1) rfl (by kernel_rfl) (by kernel_rfl) (by kernel_rfl) (fun _ _ _ h=>h) (Or.inl ⟨by rfl,?_⟩) (by assumption) ?_
       ·intro w hSw; obtain ⟨S0,S1,S2⟩:=hSw; go_simp
       go_simp
       refine wpAnyH_take (i:=24) (v:=.bool false) rfl (by kernel_rfl) (by kernel_rfl) (by kernel_rfl) (fun _ _ _ h=>h) (Or.inl ⟨by rfl,?_⟩) (by assumption) ?_
       ·intro w hSw; obtain ⟨S0,S1,S2⟩:=hSw; go_simp
       go_simp
       refine wpAnyH_take (i:=25) (v:=.bool false) rfl (by kernel_rfl) (by kernel_rfl) (by kernel_rfl) (fun _ _ _ h=>h) (Or.inl ⟨by rfl,?_⟩) (by assumption) ?_
       ·intro w hSw; obtain ⟨S0,S1,S2⟩:=hSw; go_simp
       go_simp
       refine wpAnyH_take (i:=26) (v:=.bool false) rfl (by kernel_rfl) (by kernel_rfl) (by kernel_rfl) (fun _ _ _ h=>h) (Or.inl ⟨by rfl,?_⟩) (by assumption) ?_
       ·intro w hSw; obtain ⟨S0,S1,S2⟩:=hSw; go_simp
       go_simp
       refine wpAnyH_take (i:=27) (v:=undef) rfl (by kernel_rfl) (by kernel_rfl) (by kernel_rfl) (fun _ _ _ h=>h) (Or.inr ⟨by kernel_rfl,rfl⟩) (by assumption) ?_
       go_simp
       refine wpAnyH_take (i:=28) (v:=undef) rfl (by kernel_rfl) (by kernel_rfl) (by kernel_rfl) (fun _ _ _ h=>h) (Or.inr ⟨by kernel_rfl,rfl⟩) (by assumption) ?_
       go_simp
       refine wpAnyH_take (i:=29) (v:=undef) rfl (by kernel_rfl) (by kernel_rfl) (by kernel_rfl) (fun _ _ _ h=>h) (Or.inr ⟨by kernel_rfl,rfl⟩) (by assumption) ?_
       go_simp
       refine wpAnyH_take (i:=30) (v:=undef) rfl (by kernel_rfl) (by kernel_rfl) (by kernel_rfl) (fun _ _ _ h=>h) (Or.inr ⟨by kernel_rfl,rfl⟩) (by assumption) ?_
       go_simp
       refine wpAnyH_take (i:=31) (v:=.bool false) rfl (by kernel_rfl) (by kernel_rfl) (by kernel_rfl) (fun _ _ _ h=>h) (Or.inl ⟨by rfl,?_⟩) (by assumption) ?_
       ·intro w hSw; obtain ⟨S0,S1,S2⟩:=hSw; go_simp
       go_simp
       refine wpAnyH_take (i:=32) (v:=.bool true) rfl (by kernel_rfl) (by kernel_rfl) (by kernel_rfl) (fun _ _ _ h=>h) (Or.inl ⟨by rfl,?_⟩) (by assumption) ?_
       ·intro w hSw; obtain ⟨S0,S1,S2⟩:=hSw; go_simp
       go_simp
       refine wpAnyH_take (i:=33) (v:=.bool true) rfl (by kernel_rfl) (by kernel_rfl) (by kernel_rfl) (fun _ _ _ h=>h) (Or.inl ⟨by rfl,?_⟩) (by assumption) ?_
       ·intro w hSw; obtain ⟨S0,S1,S2⟩:=hSw; go_simp
       go_simp
       refine wpAnyH_done (by kernel_rfl) ?_ _
       have hqf:=(forms_exp (by have:=HL.out.2.2.1.1; omega) hcond hsg).symm.trans H7.out.2
       have HF:=Hid.mk7 hqf
       have cS2:=cS _ Bw3
       clear cS cTk hcond hqf hlt hend hsg hb c1 c00 cql hatm
       go_wp2_with fail
       refine cS2.mono ?_
       rintro y w5 ⟨rfl,Bw5⟩
       have U5:=H7.out.1.below Bw5
       have K5:=HKL.out.1.trans (H7.out.1.kb Bw5)
       have c8:Calls Tryz.prog 62 #[.pointer (some ⟨q,0,none⟩)] w5 _:=U5.phraseL (dm:=0) (fun u2 e=>x_exports HT.out.1 HX.out.2.1 (by have:=HX.out.2.2.1; omega) u2) (fun _ e=>by cases e) (fun u2 _ hs=>exports_ok2 (Alike.refl T) (fun ph hp s s' hs=>runP_ok2 (Alike.refl T) f ph hp s s' hs) hs) (fun u2 l v e=>(exports_adv (runP_mono T f .export) e).2) (by omega) HF.out
       have HK5:=Hid.mk7 K5
       clear cS2 Bw5 U5 K5
       go_wp2_with fail
       refine c8.mono ?_
       rintro y w8 ⟨V8,l8,rfl,⟨a8,b8,hV8⟩,hln8,K8,r8,hq8,U8,hr8⟩
       subst hV8
       have hi8:∀ v,r8=.ok v→u.i+1+l8.length≤v.i:=fun v e=>by
        obtain ⟨v2,e1,e2,_⟩:=hr8 v e
        cases e1
        have:=(exports_adv (runP_mono T f .export) e2).1
        omega
       have H8:=Hid.mk7 (And.intro U8 (And.intro hq8 (And.intro hi8 (And.intro (HK5.out.trans K8) hln8))))
       clear c8 hq8 U8 hr8 hi8 K8 hln8
       go_wp2_with (at_builtin; refine wpList_append_k (by rfl) (.tmp 66) (.tmp 68) (by rfl) Tryz.intTypes (by rfl) (by rfl) H8.out.1.a.own (OwnK.sl H8.out.1.b.own) (ints_one _) (by have:=H8.out.2.2.2.2; have:=H8.out.1.a.len; have:=HT.out.2; omega) (by have:=H8.out.2.2.2.2; have:=H8.out.1.a.len; have:=HT.out.2; omega) ?_; intro V9 w9 ho9 T9 hv9)
       obtain ⟨U9a,K9⟩:=H8.out.1.push HT.out.1 (Below.refl _ _) ho9 T9 hv9 (by have:=H8.out.2.2.2.2; have:=HL.out.2.2.1.2.1; have:=HL.out.2.1; omega) (fun z hz=>.inr hz)
       obtain ⟨aW,cW,hW,_⟩:=OwnK.sl ho9 |>.form
       have U9:=U9a.drop2.weak (d':=1) (by decide)
       clear U9a
       rw [hW] at U9
       subst hW
       have H9:=Hid.mk7 (And.intro U9 (H8.out.2.2.2.1.trans K9))
       clear ho9 T9 hv9 U9 K9
       go_wp2
       go_roundw
       case rel=>
        refine ⟨l++l8,r8,fu - 1,H9.out.1,H9.out.2,H8.out.2.1,?_,fun v e=>?_⟩
        ·have h2:=HL.out.2.2.1; have h3:=HL.out.2.1; have:=H8.out.2.2.2.2; simp; omega
        ·have h1:=H8.out.2.2.1 v e
         have h2:=HL.out.2.2.1
         have h3:=(Uf.il (u:=v) (e ▸ H9.out.1)).1
         simp at h1 ⊢
         omega
       case measure=>
        have h3:=HL.out.1
        obtain ⟨rr,hrr⟩:∃ rr,rr=r8:=⟨_,rfl⟩
        cases rr with
        | error e=>
         have h4:=(Uf.x (r:=.error e) (hrr ▸ H9.out.1)).1.bad
         simp only [leftOf,h4]
         have:=HL.out.2.1
         have:=H7c.out
         simp only [leftOf] at h3
         omega
        | ok v=>
         have h1:=H8.out.2.2.1 v hrr.symm
         try simp only [List.length_cons,List.length_nil] at h1
         have h2:=Uf.left (u:=v) (hrr ▸ H9.out.1)
         have h4:=(Uf.il (u:=v) (hrr ▸ H9.out.1)).1
         rw [h2,h3]
         have:=H7c.out
         omega
    ·have hge:¬ (u.i:Int) < (T.length:Int):=by omega
     have hcond:(decide (u.i < T.length) && !atModule T u.i)=false:=by simp [hend]
     have hqf:Then (.ok u) ((modK at_ ta) l)=res:=(forms_stop (by have:=HL.out.2.2.1.1; omega) hcond).symm.trans H7.out.2
     go_wp2_with fail
     refine wp_region_held_drew (S:=fun w'=>w'.cell? ⟨q,3,none⟩=some (.bool false)∧w'.cell? ⟨q,1,none⟩=some (.int .i64 u.i)∧w'.cell? ⟨q,0,none⟩=some (.slice aT T.length cT)) (by kernel_rfl) ⟨hb,c1,c00⟩ (fun hHeld=>?_)
     refine wpAnyH_take (i:=0) (v:=.pointer (some ⟨q,0,none⟩)) rfl (by kernel_rfl) (by kernel_rfl) (by kernel_rfl) (fun _ _ _ h=>h) (Or.inl ⟨by rfl,?_⟩) (by assumption) ?_
     ·intro w hSw; obtain ⟨S0,S1,S2⟩:=hSw; go_simp
     go_simp
     refine wpAnyH_take (i:=1) (v:=.pointer (some ⟨q,0,none⟩)) rfl (by kernel_rfl) (by kernel_rfl) (by kernel_rfl) (fun _ _ _ h=>h) (Or.inl ⟨by rfl,?_⟩) (by assumption) ?_
     ·intro w hSw; obtain ⟨S0,S1,S2⟩:=hSw; go_simp
     go_simp
     refine wpAnyH_take (i:=2) (v:=.pointer (some ⟨q,3,none⟩)) rfl (by kernel_rfl) (by kernel_rfl) (by kernel_rfl) (fun _ _ _ h=>h) (Or.inl ⟨by rfl,?_⟩) (by assumption) ?_
     ·intro w hSw; obtain ⟨S0,S1,S2⟩:=hSw; go_simp
     go_simp
     refine wpAnyH_take (i:=3) (v:=.bool false) rfl (by kernel_rfl) (by kernel_rfl) (by kernel_rfl) (fun _ _ _ h=>h) (Or.inl ⟨by rfl,?_⟩) (by assumption) ?_
     ·intro w hSw; obtain ⟨S0,S1,S2⟩:=hSw; go_simp
     go_simp
     refine wpAnyH_take (i:=4) (v:=.bool true) rfl (by kernel_rfl) (by kernel_rfl) (by kernel_rfl) (fun _ _ _ h=>h) (Or.inl ⟨by rfl,?_⟩) (by assumption) ?_
     ·intro w hSw; obtain ⟨S0,S1,S2⟩:=hSw; go_simp
     go_simp
     refine wpAnyH_take (i:=5) (v:=.bool true) rfl (by kernel_rfl) (by kernel_rfl) (by kernel_rfl) (fun _ _ _ h=>h) (Or.inl ⟨by rfl,?_⟩) (by assumption) ?_
     ·intro w hSw; obtain ⟨S0,S1,S2⟩:=hSw; go_simp
     go_simp
     refine wpAnyH_take (i:=6) (v:=.pointer (some ⟨q,0,none⟩)) rfl (by kernel_rfl) (by kernel_rfl) (by kernel_rfl) (fun _ _ _ h=>h) (Or.inl ⟨by rfl,?_⟩) (by assumption) ?_
     ·intro w hSw; obtain ⟨S0,S1,S2⟩:=hSw; go_simp
     go_simp
     refine wpAnyH_take (i:=7) (v:=.pointer (some ⟨q,0,none⟩)) rfl (by kernel_rfl) (by kernel_rfl) (by kernel_rfl) (fun _ _ _ h=>h) (Or.inl ⟨by rfl,?_⟩) (by assumption) ?_
     ·intro w hSw; obtain ⟨S0,S1,S2⟩:=hSw; go_simp
     go_simp
     refine wpAnyH_take (i:=8) (v:=.pointer (some ⟨q,1,none⟩)) rfl (by kernel_rfl) (by kernel_rfl) (by kernel_rfl) (fun _ _ _ h=>h) (Or.inl ⟨by rfl,?_⟩) (by assumption) ?_
     ·intro w hSw; obtain ⟨S0,S1,S2⟩:=hSw; go_simp
     go_simp
     refine wpAnyH_take (i:=9) (v:=.int .i64 u.i) rfl (by kernel_rfl) (by kernel_rfl) (by kernel_rfl) (fun _ _ _ h=>h) (Or.inl ⟨by rfl,?_⟩) (by assumption) ?_
     ·intro w hSw; obtain ⟨S0,S1,S2⟩:=hSw; go_simp
     go_simp
     refine wpAnyH_take (i:=10) (v:=.pointer (some ⟨q,0,none⟩)) rfl (by kernel_rfl) (by kernel_rfl) (by kernel_rfl) (fun _ _ _ h=>h) (Or.inl ⟨by rfl,?_⟩) (by assumption) ?_
     ·intro w hSw; obtain ⟨S0,S1,S2⟩:=hSw; go_simp
     go_simp
     refine wpAnyH_take (i:=11) (v:=.pointer (some ⟨q,0,none⟩)) rfl (by kernel_rfl) (by kernel_rfl) (by kernel_rfl) (fun _ _ _ h=>h) (Or.inl ⟨by rfl,?_⟩) (by assumption) ?_
     ·intro w hSw; obtain ⟨S0,S1,S2⟩:=hSw; go_simp
     go_simp
     refine wpAnyH_take (i:=12) (v:=.pointer (some ⟨q,0,none⟩)) rfl (by kernel_rfl) (by kernel_rfl) (by kernel_rfl) (fun _ _ _ h=>h) (Or.inl ⟨by rfl,?_⟩) (by assumption) ?_
     ·intro w hSw; obtain ⟨S0,S1,S2⟩:=hSw; go_simp
     go_simp
     refine wpAnyH_take (i:=13) (v:=.slice aT T.length cT) rfl (by kernel_rfl) (by kernel_rfl) (by kernel_rfl) (fun _ _ _ h=>h) (Or.inl ⟨by rfl,?_⟩) (by assumption) ?_
     ·intro w hSw; obtain ⟨S0,S1,S2⟩:=hSw; go_simp
     go_simp
     refine wpAnyH_take (i:=14) (v:=.int .i64 T.length) rfl (by kernel_rfl) (by kernel_rfl) (by kernel_rfl) (fun _ _ _ h=>h) (Or.inl ⟨by rfl,?_⟩) (by assumption) ?_
     ·intro w hSw; obtain ⟨S0,S1,S2⟩:=hSw; go_simp
     go_simp
     refine wpAnyH_take (i:=15) (v:=.bool false) rfl (by kernel_rfl) (by kernel_rfl) (by kernel_rfl) (fun _ _ _ h=>h) (Or.inl ⟨by rfl,?_⟩) (by assumption) ?_
     ·intro w hSw; obtain ⟨S0,S1,S2⟩:=hSw; go_simp
     go_simp
     refine wpAnyH_take (i:=16) (v:=.bool false) rfl (by kernel_rfl) (by kernel_rfl) (by kernel_rfl) (fun _ _ _ h=>h) (Or.inl ⟨by rfl,?_⟩) (by assumption) ?_
     ·intro w hSw; obtain ⟨S0,S1,S2⟩:=hSw; go_simp
     go_simp
     refine wpAnyH_take (i:=17) (v:=.bool false) rfl (by kernel_rfl) (by kernel_rfl) (by kernel_rfl) (fun _ _ _ h=>h) (Or.inl ⟨by rfl,?_⟩) (by assumption) ?_
     ·intro w hSw; obtain ⟨S0,S1,S2⟩:=hSw; go_simp
     go_simp
     refine wpAnyH_take (i:=18) (v:=undef) rfl (by kernel_rfl) (by kernel_rfl) (by kernel_rfl) (fun _ _ _ h=>h) (Or.inr ⟨by kernel_rfl,rfl⟩) (by assumption) ?_
     go_simp
     refine wpAnyH_take (i:=19) (v:=undef) rfl (by kernel_rfl) (by kernel_rfl) (by kernel_rfl) (fun _ _ _ h=>h) (Or.inr ⟨by kernel_rfl,rfl⟩) (by assumption) ?_
     go_simp
     refine wpAnyH_take (i:=20) (v:=undef) rfl (by kernel_rfl) (by kernel_rfl) (by kernel_rfl) (fun _ _ _ h=>h) (Or.inr ⟨by kernel_rfl,rfl⟩) (by assumption) ?_
     go_simp
     refine wpAnyH_take (i:=21) (v:=undef) rfl (by kernel_rfl) (by kernel_rfl) (by kernel_rfl) (fun _ _ _ h=>h) (Or.inr ⟨by kernel_rfl,rfl⟩) (by assumption) ?_
     go_simp
     refine wpAnyH_take (i:=22) (v:=undef) rfl (by kernel_rfl) (by kernel_rfl) (by kernel_rfl) (fun _ _ _ h=>h) (Or.inr ⟨by kernel_rfl,rfl⟩) (by assumption) ?_
     go_simp
     refine wpAnyH_take (i:=23) (v:=undef) rfl (by kernel_rfl) (by kernel_rfl) (by kernel_rfl) (fun _ _ _ h=>h) (Or.inr ⟨by kernel_rfl,rfl⟩) (by assumption) ?_
     go_simp
     refine wpAnyH_take (i:=24) (v:=undef) rfl (by kernel_rfl) (by kernel_rfl) (by kernel_rfl) (fun _ _ _ h=>h) (Or.inr ⟨by kernel_rfl,rfl⟩) (by assumption) ?_
     go_simp
     refine wpAnyH_take (i:=25) (v:=undef) rfl (by kernel_rfl) (by kernel_rfl) (by kernel_rfl) (fun _ _ _ h=>h) (Or.inr ⟨by kernel_rfl,rfl⟩) (by assumption) ?_
     go_simp
     refine wpAnyH_take (i:=26) (v:=undef) rfl (by kernel_rfl) (by kernel_rfl) (by kernel_rfl) (fun _ _ _ h=>h) (Or.inr ⟨by kernel_rfl,rfl⟩) (by assumption) ?_
     go_simp
     refine wpAnyH_take (i:=27) (v:=undef) rfl (by kernel_rfl) (by kernel_rfl) (by kernel_rfl) (fun _ _ _ h=>h) (Or.inr ⟨by kernel_rfl,rfl⟩) (by assumption) ?_
     go_simp
     refine wpAnyH_take (i:=28) (v:=undef) rfl (by kernel_rfl) (by kernel_rfl) (by kernel_rfl) (fun _ _ _ h=>h) (Or.inr ⟨by kernel_rfl,rfl⟩) (by assumption) ?_
     go_simp
     refine wpAnyH_take (i:=29) (v:=undef) rfl (by kernel_rfl) (by kernel_rfl) (by kernel_rfl) (fun _ _ _ h=>h) (Or.inr ⟨by kernel_rfl,rfl⟩) (by assumption) ?_
     go_simp
     refine wpAnyH_take (i:=30) (v:=undef) rfl (by kernel_rfl) (by kernel_rfl) (by kernel_rfl) (fun _ _ _ h=>h) (Or.inr ⟨by kernel_rfl,rfl⟩) (by assumption) ?_
     go_simp
     refine wpAnyH_take (i:=31) (v:=undef) rfl (by kernel_rfl) (by kernel_rfl) (by kernel_rfl) (fun _ _ _ h=>h) (Or.inr ⟨by kernel_rfl,rfl⟩) (by assumption) ?_
     go_simp
     refine wpAnyH_take (i:=32) (v:=undef) rfl (by kernel_rfl) (by kernel_rfl) (by kernel_rfl) (fun _ _ _ h=>h) (Or.inr ⟨by kernel_rfl,rfl⟩) (by assumption) ?_
     go_simp
     refine wpAnyH_take (i:=33) (v:=.bool false) rfl (by kernel_rfl) (by kernel_rfl) (by kernel_rfl) (fun _ _ _ h=>h) (Or.inl ⟨by rfl,?_⟩) (by assumption) ?_
     ·intro w hSw; obtain ⟨S0,S1,S2⟩:=hSw; go_simp
     go_simp
     refine wpAnyH_done (by kernel_rfl) ?_ _
     have e3:=HKL.out.2.1
     have a1:=HKL.out.2.2
     have l3:=World.block_lt_of_cell? _ _ e3
     have l4:=World.block_lt_of_cell? _ _ a1
     have H9:=Hid.mk7 (And.intro H7.out.1 hqf)
     clear hcond hqf hge hend hb c1 c00 cql
     have hq20:Then (.ok u) (PM.bind (pAdd ⟨27,at_,⟨#[]⟩,0,l,ta⟩) PM.ret)=res:=by rw [PM.bind_ret]; exact H9.out.2
     have c20:=Uf.node (H9.out.1.to2.below (Below.refl _ _).drew) HT.out.1 HC.out (by decide) 27 ta at_ hq20
     clear hq20
     go_wp2_with fail
     refine c20.mono ?_
     rintro y w20 ⟨z20,rfl,_,r20,hq20,U20,_⟩
     have H20:=Hid.mk7 (U20.done hq20)
     clear c20 hq20 U20
     go_wp2
     go_ret
     exact H20.out
 ·have hq2:res=.error (errOf r1):=by
   rw [← H1.out.2.1]
   exact needP_none hk
  have c3:=(H1.out.1.below hb2).syntax
  have H2:=Hid.mk7 hq2
  clear c2 hb2 hk hq2
  go_wp2_with fail
  refine c3.mono ?_
  rintro y w3 ⟨rfl,_,e,he,U3⟩
  have HF:=Hid.mk7 (U3.done (res:=res) (by rw [H2.out,he]; rfl))
  clear c3 U3 he
  go_wp2
  go_ret
  exact HF.out
end
end Go.Proofs.YtlciaafincgdeaaGreatDoor
