/-
  Layer 11 (parse): the document's parser: expressions with commas between.
  Layer 11 (parse): the document's parser: a body.
  Layer 11 (parse): the document's parser: arguments.
  Layer 11 (parse): the document's parser, be it behind a fault or not: one state for both.
-/
import Derived.Test.YtlciaafincgdeaaGreatDoorZao
namespace Go.Proofs.YtlciaafincgdeaaGreatDoor
open Go.RowKit
set_option maxHeartbeats 6400000
set_option maxRecDepth 100000
def RwI (T:List Tk) (x:ByteArray) (m:PM Nat) (w wr:World) (q:Nat) (Tv Nv:Value) (N:List Nd) (i0:Nat) (res:Except Nat (List Int × Ps)) (V:Value):Prop:=
 (∃ (e:Nat) (l:List Int),res=.error e∧Bd wr q e∧Turned (fun k=>k=q∨blk Nv k) w wr∧OwnI wr V l∧l.length≤T.length+1∧∀ k,blk V k→w.heap.size≤k) ∨
 ∃ (s1:Ps) (acc:List Int) (f:Nat) (Nv1:Value) (M1:List Nd),RowI T x m w wr q Tv Nv N i0 res V s1 acc f Nv1 M1∧Gd wr q
theorem rf_exps {T:List Tk} {m:PM Nat} {s:Ps} (hm:Fwd T m) (hr:RunsF T 135 [] m s.i) (hTk:∀ i,TkOk (tokAt T i)) {w:World} {q:Nat} {Tv Nv:Value} {N:List Nd} (h:PS w q Tv T Nv N s) (hg:Gd w q) :
  Calls Tryz.prog 122 #[.pointer (some ⟨q,0,none⟩)] w (RfL T w q Tv Nv N (row T ⟨#[44]⟩ m s)):=by
 have hE:Calls Tryz.prog 135 #[.pointer (some ⟨q,0,none⟩)] w (Rf T w q Tv Nv N (m s)):=hr s (Nat.le_refl _) w q Tv Nv N h hg
 cases hms:m s with
 | error e=>
  rw [hms] at hE
  rw [show row T ⟨#[44]⟩ m s=.error e by simp [row,PM.bind,hms]]
  clear hr h hg
  go_enter Tryz.func122,Tryz.ntmps122
  go_wp2_with fail
  refine hE.mono ?_
  rintro x w1 ⟨⟨z,rfl⟩,b1,t1⟩
  have B1:=Below.alloc0 w1 (.cells #[.int .i64 z] 3)
  have hc:=bd_take (b1.below B1) ⟨#[44]⟩
  have H1:=Hid.mk7 (And.intro b1 (And.intro t1 B1))
  clear hE b1 t1 B1
  go_wp2_with fail
  refine wp_loop_rounds 1 ?_
  rw [rounds_succ]
  go_wp2_with fail
  refine hc.mono ?_
  rintro x w2 ⟨rfl,hb2⟩
  have H2:=Hid.mk7 hb2
  clear hc hb2
  go_wp2
  go_ret
  have B2:=H1.out.2.2.trans (H2.out.mono H1.out.2.2.size)
  exact ⟨⟨_,rfl,[z],(OwnI.one w1 z 3).below H2.out,by simp,fun k hk=>by have:w1.heap.size=k:=hk; have:=H1.out.2.1.size; omega⟩,H1.out.1.below B2,H1.out.2.1.trans (Turned.ofBelow (S:=fun _=>False) B2) (fun _ e=>e.elim)⟩
 | ok at_=>
  obtain ⟨a,t⟩:=at_
  rw [hms] at hE
  obtain ⟨ht1,ha,hit,hct⟩:=hm.ok h.ok h.cnt hms
  have hT:0 < T.length:=by have:=ht1.il; omega
  rw [show row T ⟨#[44]⟩ m s=rowL T ⟨#[44]⟩ m (T.length+1) [(a:Int)] t by simp [row,PM.bind,hms]]
  have htl:=h.at_.tl
  have HF:=Hid.mk7 (And.intro hm (And.intro hr (And.intro hTk (And.intro hit hT))))
  have HR:=Hid.mk7 (Rg.refl h)
  obtain ⟨res,hres⟩:∃ res,rowL T ⟨#[44]⟩ m (T.length+1) [(a:Int)] t=res:=⟨_,rfl⟩
  rw [hres]
  have HQ:=Hid.mk7 hres
  clear hm hr h hg hit hms hres ht1 ha hct hTk
  go_enter Tryz.func122,Tryz.ntmps122
  go_wp2_with fail
  refine hE.mono ?_
  intro x w1 hx
  obtain ⟨rfl,Nv1,M1,r1,g1,_,_⟩:=HR.out.rf (by simpa using hx)
  have hK:Kd T w (w1.alloc (.cells #[.int .i64 (a:Int)] 3)) q Tv Nv1 (N++M1) (.slice (some ⟨w1.heap.size,0,none⟩) 1 1) [(a:Int)]:=by
   refine ⟨OwnI.one w1 a 3,fun k hk=>?_⟩
   have hk:w1.heap.size=k:=hk
   subst hk
   have f:=r1.ps.at_.free HF.out.2.2.2.2 w1.heap.size (Nat.le_refl _)
   exact ⟨r1.size,⟨f.g,f.t,f.n,f.k⟩⟩
  have H1:=Hid.mk7 (And.intro (r1.below (Below.alloc0 w1 (.cells #[.int .i64 (a:Int)] 3))) (And.intro hK (g1.below (Below.alloc0 w1 (.cells #[.int .i64 (a:Int)] 3)))))
  clear hE hx r1 g1 hK
  go_wp2_with fail
  go_loopw [3] (fun V wr=>RwI T ⟨#[44]⟩ m w wr q Tv Nv N s.i res V) (fun _ wr=>leftOf T wr q)
  case atStart=>exact .inr ⟨t,[(a:Int)],T.length+1,Nv1,M1,⟨by have:=HF.out.2.2.2.1; omega,by omega,HQ.out,H1.out.1,H1.out.2.1,by have:=HF.out.2.2.2.1; simp; omega⟩,H1.out.2.2⟩
  case round=>
   clear H1
   rcases hrel with ⟨e,l,hre,b1,t1,o1,l1,n1⟩ | ⟨s1,acc,f,Nv2,M2,hI,g1⟩
   ·subst hre
    obtain ⟨aV,cV,hV,_⟩:=OwnK.sl o1 |>.form
    subst hV
    have hc:=bd_take b1 ⟨#[44]⟩
    have H1:=Hid.mk7 (And.intro b1 (And.intro t1 (And.intro o1 (And.intro l1 n1))))
    clear b1 t1 o1 l1 n1
    go_wp2_with fail
    refine hc.mono ?_
    rintro x w2 ⟨rfl,hb2⟩
    have H2:=Hid.mk7 hb2
    clear hc hb2
    go_wp2
    go_ret
    exact ⟨⟨_,rfl,l,H1.out.2.2.1.below H2.out,H1.out.2.2.2.1,H1.out.2.2.2.2⟩,H1.out.1.below H2.out,H1.out.2.1.trans (Turned.ofBelow (S:=fun _=>False) H2.out) (fun _ e=>e.elim)⟩
   ·obtain ⟨aV,cV,hV,_⟩:=OwnK.sl hI.kd.own |>.form
    subst hV
    have hs:=rf_take hI.rg.ps.at_ g1 ⟨#[44]⟩
    rw [tkIs_sign (HF.out.2.2.1 s1.i) (by simp [allSigns])] at hs
    have hf0:0 < f:=by have:=hI.fuel; omega
    have HL:=Hid.mk7 (show leftOf T wr q=T.length+1 - s1.i by simp [leftOf,g1.c3.1,hI.rg.ps.at_.pos])
    cases hsg:isTk 5 ⟨#[44]⟩ (tokAt T s1.i) with
    | false=>
     rw [hsg] at hs
     have hres:res=.ok (acc,s1):=by rw [← hI.eq]; exact rowL_stop hf0 hsg
     subst hres
     have HI:=Hid.mk7 hI
     clear hI hsg g1
     go_wp2_with fail
     refine hs.mono ?_
     rintro x w3 ⟨rfl,h3⟩
     have r3:=HI.out.rg.still h3.1 h3.2.2
     have k3:=HI.out.kd.step (M2:=[]) (Stp.ofG (Nv:=Nv2) h3.2.2) (fun n hn=>by cases hn)
     rw [List.append_nil] at k3
     have H3:=Hid.mk7 (And.intro r3 (And.intro k3 h3.2.1))
     clear hs h3 r3 k3
     go_wp2
     go_ret
     exact ⟨_,rfl,Nv2,M2,H3.out.1.off,H3.out.1.ps,H3.out.1.st,H3.out.2.2,H3.out.2.1.own,H3.out.2.1.fv⟩
    | true=>
     rw [hsg] at hs
     have hlt:s1.i < T.length:=isTk_lt (by decide) hsg
     have HI:=Hid.mk7 (And.intro hI hsg)
     clear hI hsg g1
     go_wp2_with fail
     refine hs.mono ?_
     rintro x w3 ⟨rfl,h3⟩
     have r4:=HI.out.1.rg.one hlt h3.1 h3.2.2
     have k4:=HI.out.1.kd.step (M2:=[]) (Stp.ofG (Nv:=Nv2) h3.2.2) (fun n hn=>by cases hn)
     rw [List.append_nil] at k4
     have hE4:Calls Tryz.prog 135 #[.pointer (some ⟨q,0,none⟩)] w3 (Rf T w3 q Tv Nv2 (N++M2) (m ⟨s1.i+1,s1.N⟩)):=HF.out.2.1 ⟨s1.i+1,s1.N⟩ (by have:=HI.out.1.i; simp; omega) _ q Tv Nv2 (N++M2) r4.ps h3.2.1
     have hr4:=r4.ps
     cases hm4:m ⟨s1.i+1,s1.N⟩ with
     | error e=>
      have hres:res=.error e:=by rw [← HI.out.1.eq]; exact rowL_bad hf0 HI.out.2 hm4
      subst hres
      rw [hm4] at hE4
      have H4:=Hid.mk7 (And.intro r4 k4)
      clear hs h3 r4 k4 hr4 hm4
      go_wp2_with fail
      refine hE4.mono ?_
      rintro x w5 ⟨⟨z,rfl⟩,b5,T5⟩
      have o5:OwnI w5 (.slice aV acc.length cV) acc:=OwnK.turned H4.out.2.own T5 (fun k hk e=>e.elim (H4.out.2.fv k hk).2.g (H4.out.2.fv k hk).2.n)
      have hal:(acc.length+[z].length)*8≤140737488355328:=by have:=HI.out.1.al; simp; omega
      have hal2:acc.length+[z].length≤4611686018427387903:=by have:=HI.out.1.al; simp; omega
      have H5:=Hid.mk7 (And.intro b5 (And.intro (H4.out.1.bad T5) (And.intro o5 (And.intro hal hal2))))
      clear hE4 b5 T5 o5 hal hal2
      go_wp2_with (at_builtin; refine wpList_append_k (by rfl) (.tmp 9) (.tmp 12) (by rfl) Tryz.intTypes (by rfl) (by rfl) (OwnK.turned H5.out.2.2.1 (Turned.alloc (fun _=>False) _ _) (fun _ _ e=>e)) (SlI.one _ _ _) (ints_one _) H5.out.2.2.2.1 H5.out.2.2.2.2 ?_; intro V6 w6 ho6 T6 hv6)
      have hnq:¬ blk (.slice aV acc.length cV) q:=fun e=>(H4.out.2.fv q e).2.g rfl
      have TT:=(Turned.alloc (blk (.slice aV acc.length cV)) w5 (.cells #[.int .i64 z] 3)).trans T6 (fun _ e=>.inl e)
      have b6:Bd w6 q e:=⟨TT.cell H5.out.1.bad hnq,TT.cell H5.out.1.err hnq⟩
      have H6:=Hid.mk7 (And.intro b6 (And.intro (H5.out.2.1.trans TT (fun k e=>.inr (H4.out.2.fv k e).1)) (And.intro (OwnI.snoc ho6) (fun k (hk:blk V6 k)=>(hv6 k hk).elim (fun e=>(H4.out.2.fv k e).1) (fun e=>by have:=H5.out.2.1.size; simp at e; omega)))))
      clear ho6 T6 hv6 hnq TT b6
      go_wp2
      go_roundw
      case rel=>exact .inl ⟨e,acc++[z],rfl,H6.out.1,H6.out.2.1,H6.out.2.2.1,by have:=HI.out.1.al; simp; omega,H6.out.2.2.2⟩
      case measure=>
       rw [HL.out]
       simp only [leftOf,H6.out.1.bad]
       omega
     | ok bt=>
      obtain ⟨a5,t5⟩:=bt
      obtain ⟨q1,q2,q3,q4⟩:=HF.out.1.ok hr4.ok hr4.cnt hm4
      have hres:rowL T ⟨#[44]⟩ m (f - 1) (acc++[(a5:Int)]) t5=res:=by rw [← HI.out.1.eq]; exact (rowL_next hf0 HI.out.2 hm4).symm
      rw [hm4] at hE4
      have H4:=Hid.mk7 (And.intro r4 (And.intro k4 (And.intro hres (And.intro q1 q3))))
      clear hs h3 r4 k4 hr4 hm4 hres q1 q2 q3 q4
      go_wp2_with fail
      refine hE4.mono ?_
      intro x w5 hx
      obtain ⟨rfl,Nv5,M5,r5,g5,S5,M6,e6,o6⟩:=H4.out.1.rf hx
      subst e6
      have k5:=H4.out.2.1.step S5 o6
      rw [List.append_assoc] at k5
      have hal:(acc.length+[(a5:Int)].length)*8≤140737488355328:=by have:=HI.out.1.al; simp; omega
      have hal2:acc.length+[(a5:Int)].length≤4611686018427387903:=by have:=HI.out.1.al; simp; omega
      have H5:=Hid.mk7 (And.intro r5 (And.intro k5 (And.intro hal (And.intro hal2 g5))))
      clear hE4 hx r5 k5 S5 o6 hal hal2 g5
      go_wp2_with (at_builtin; refine wpList_append_k (by rfl) (.tmp 9) (.tmp 12) (by rfl) Tryz.intTypes (by rfl) (by rfl) (OwnK.turned H5.out.2.1.own (Turned.alloc (fun _=>False) _ _) (fun _ _ e=>e)) (SlI.one _ _ _) (ints_one _) H5.out.2.2.1 H5.out.2.2.2.1 ?_; intro V6 w6 ho6 T6 hv6)
      obtain ⟨k6,p6,TT⟩:=H5.out.2.1.more H5.out.1.ps.at_ HF.out.2.2.2.2 H5.out.1.size (Below.alloc0 w5 _) ho6 T6 hv6
      have r6:=H5.out.1.mine (fun q hq=>(H5.out.2.1.fv q hq).1) p6 TT
      have g6:=H5.out.2.2.2.2.turned TT (fun e=>(H5.out.2.1.fv q e).2.g rfl)
      have H6:=Hid.mk7 (And.intro r6 (And.intro k6 g6))
      clear ho6 T6 hv6 k6 p6 TT r6 g6
      go_wp2
      go_roundw
      case rel=>
       refine .inr ⟨t5,acc++[(a5:Int)],f - 1,Nv5,M2++M6,⟨?_,?_,H4.out.2.2.1,H6.out.1,H6.out.2.1,?_⟩,H6.out.2.2⟩
       ·have h1:s1.i+1 < t5.i:=H4.out.2.2.2.2; have:=HI.out.1.i; omega
       ·have h1:s1.i+1 < t5.i:=H4.out.2.2.2.2; have:=HI.out.1.fuel; omega
       ·have h1:s1.i+1 < t5.i:=H4.out.2.2.2.2; have:=HI.out.1.al; simp; omega
      case measure=>
       rw [HL.out]
       simp only [leftOf,H6.out.2.2.c3.1,H6.out.1.ps.at_.pos]
       have h1:s1.i+1 < t5.i:=H4.out.2.2.2.2
       omega
theorem rf_body {T:List Tk} {rec:Ph→PM Nat} {s:Ps} (hX:∀ w q Tv Nv N,PS w q Tv T Nv N s→Gd w q→Calls Tryz.prog 122 #[.pointer (some ⟨q,0,none⟩)] w (RfL T w q Tv Nv N (row T ⟨#[44]⟩ (whole rec) s)))
  (hT:0 < T.length) (hfin:∀ a u,phBody T rec .body s=.ok (a,u)→S2 T u u∧Cnt T u) {w:World} {q:Nat} {Tv Nv:Value} {N:List Nd} (h:PS w q Tv T Nv N s) (hg:Gd w q) :
  Calls Tryz.prog 124 #[.pointer (some ⟨q,0,none⟩)] w (Rf T w q Tv Nv N (phBody T rec .body s)):=by
 obtain ⟨res,hres⟩:∃ res,phBody T rec .body s=res:=⟨_,rfl⟩
 rw [hres]
 rw [hres] at hfin
 have c1:=rf_token11 h.at_ hg 0 (by omega)
 simp only [Nat.add_zero] at c1
 obtain ⟨tk,htk⟩:∃ tk,tokAt T s.i=tk:=⟨_,rfl⟩
 rw [htk] at c1
 have HQ:=Hid.mk7 (And.intro hres htk)
 have HP:=Hid.mk7 (And.intro (Rg.refl h) (And.intro hg (And.intro hX (And.intro hT hfin))))
 have hfa:=Tryz.tokPlace
 clear hres htk h hg hX hT hfin
 obtain ⟨tk,tt,tn,ta⟩:=tk
 simp only [Tk.val] at c1
 go_enter Tryz.func124,Tryz.ntmps124
 go_wp2_with fail
 refine c1.mono ?_
 rintro x w1 ⟨rfl,hb1⟩
 have r1:=HP.out.1.below hb1
 have c2:=HP.out.2.2.1 w1 q Tv _ _ r1.ps (HP.out.2.1.below hb1)
 have H1:=Hid.mk7 r1
 clear c1 hb1 r1
 cases hr:row T ⟨#[44]⟩ (whole rec) s with
 | error e=>
  have hre:res=.error e:=by rw [← HQ.out.1]; simp [phBody,PM.bind,pTok,hr]
  subst hre
  rw [hr] at c2
  clear hr
  go_wp2_with fail
  refine c2.mono ?_
  rintro x w2 ⟨⟨V,rfl,l,_,_,_⟩,b2,t2⟩
  have hd:=fun at_=>bd_node b2 23 at_ ⟨#[]⟩ V
  have H2:=Hid.mk7 (And.intro b2 (H1.out.bad t2))
  clear c2 b2 t2
  go_wp2_with fail
  refine (hd _).mono ?_
  rintro x w3 ⟨rfl,hb3⟩
  have H3:=Hid.mk7 (And.intro (H2.out.1.below hb3) (H2.out.2.trans (Turned.ofBelow (S:=fun _=>False) hb3) (fun _ e=>e.elim)))
  clear hd hb3
  go_wp2
  go_ret
  exact ⟨⟨0,rfl⟩,H3.out⟩
 | ok lu=>
  obtain ⟨l,u⟩:=lu
  have hre:res=.ok (u.N.length,⟨u.i,u.N++[⟨23,⟨#[]⟩,⟨#[]⟩,0,l,ta⟩]⟩):=by rw [← HQ.out.1]; simp [phBody,PM.bind,pTok,hr,pAdd,HQ.out.2]
  have hfin:=HP.out.2.2.2.2 _ _ hre
  subst hre
  rw [hr] at c2
  clear hr
  go_wp2_with fail
  refine c2.mono ?_
  rintro x w2 ⟨V,rfl,Nv2,M2,o2,p2,S2',g2,ow2,fv2⟩
  have r2:=H1.out.more o2 p2 S2'
  obtain ⟨aV,cV,hV,_⟩:=OwnK.sl ow2 |>.form
  subst hV
  have hc:=r2.ps.cnt
  unfold Cnt at hc
  have hl:=r2.ps.len
  have hk:KidOk w2 q Nv2 (.slice aV l.length cV) l:=⟨ow2,fun k hk=>⟨(fv2 k hk).2.g,(fv2 k hk).2.n,OwnK.blk_lt ow2 k hk⟩⟩
  have hd:=(rf_node r2.ps.at_ g2 HP.out.2.2.2.1 23 ta ⟨#[]⟩ _ l hk (by omega)).mono fun x w3 hx=>r2.kept (n:=⟨23,⟨#[]⟩,⟨#[]⟩,0,.slice aV l.length cV,l,ta⟩) (fun k hk=>Nat.le_trans H1.out.size ((fv2 k hk).1)) hx hfin
  clear c2 o2 p2 S2' g2 ow2 fv2 r2 hc hl hk hfin
  go_wp2_with fail
  refine hd.mono ?_
  intro x w3 hx
  obtain ⟨rfl,hx⟩:=hx
  have H3:=Hid.mk7 hx
  clear hd hx
  go_wp2
  go_ret
  exact ⟨rfl,H3.out⟩
theorem rf_args {T:List Tk} {rec:Ph→PM Nat} {s:Ps} (hX:∀ (s2:Ps),s.i < s2.i→∀ w q Tv Nv N,PS w q Tv T Nv N s2→Gd w q→Calls Tryz.prog 122 #[.pointer (some ⟨q,0,none⟩)] w (RfL T w q Tv Nv N (row T ⟨#[44]⟩ (whole rec) s2)))
  (hln:∀ s2 l u,row T ⟨#[44]⟩ (whole rec) s2=.ok (l,u)→l.length≤T.length+1) (hTk:∀ i,TkOk (tokAt T i)) {w:World} {q:Nat} {Tv Nv:Value} {N:List Nd} (h:PS w q Tv T Nv N s) (hg:Gd w q) :
  Calls Tryz.prog 101 #[.pointer (some ⟨q,0,none⟩)] w (RfL T w q Tv Nv N (arguments T rec s)):=by
 obtain ⟨res,hres⟩:∃ res,arguments T rec s=res:=⟨_,rfl⟩
 rw [hres]
 have c1:=rf_want h.at_ hg ⟨#[40]⟩
 rw [tkIs_sign (hTk s.i) (by simp [allSigns])] at c1
 have HQ:=Hid.mk7 hres
 have HP:=Hid.mk7 (And.intro (Rg.refl h) (And.intro hX hTk))
 have HN:=Hid.mk7 hln
 clear hres h hg hX hTk hln
 go_enter Tryz.func101,Tryz.ntmps101
 cases h1:isTk 5 ⟨#[40]⟩ (tokAt T s.i) with
 | false=>
  have hre:res=.error s.i:=by rw [← HQ.out]; simp [arguments,enclosed,PM.bind,pNeed,sgn,h1]
  subst hre
  rw [h1] at c1
  clear h1
  go_wp2_with fail
  refine c1.mono ?_
  rintro x w1 ⟨rfl,b1,t1⟩
  have hc:=bd_take b1 ⟨#[41]⟩
  have H1:=Hid.mk7 (And.intro b1 t1)
  clear c1 b1 t1
  go_wp2_with fail
  refine hc.mono ?_
  rintro x w2 ⟨rfl,hb2⟩
  have hd:=bd_exps (H1.out.1.below hb2)
  have H2:=Hid.mk7 hb2
  clear hc hb2
  go_wp2_with fail
  refine hd.mono ?_
  rintro x w3 ⟨V,rfl,l,hl,ho,hv,hb3⟩
  have B3:=H2.out.trans (hb3.mono H2.out.size)
  have he:=bd_want (H1.out.1.below B3) ⟨#[41]⟩
  have H3:=Hid.mk7 (And.intro B3 (And.intro hl (And.intro ho fun k hk=>Nat.le_trans H2.out.size (hv k hk))))
  clear hd hb3 B3 hl ho hv
  go_wp2_with fail
  refine he.mono ?_
  rintro x w4 ⟨rfl,hb4⟩
  have H4:=Hid.mk7 hb4
  clear he hb4
  go_wp2
  go_ret
  have B4:=H3.out.1.trans (H4.out.mono H3.out.1.size)
  exact ⟨⟨V,rfl,l,H3.out.2.2.1.below H4.out,by have:=H3.out.2.1; omega,fun k hk=>Nat.le_trans H1.out.2.size (H3.out.2.2.2 k hk)⟩,H1.out.1.below B4,(H1.out.2.mono (fun _ e=>.inl (.inl e))).trans (Turned.ofBelow (S:=fun _=>False) B4) (fun _ e=>e.elim)⟩
 | true=>
  have hlt:s.i < T.length:=isTk_lt (by decide) h1
  rw [h1] at c1
  have HO:=Hid.mk7 (And.intro h1 hlt)
  clear h1 hlt
  go_wp2_with fail
  refine c1.mono ?_
  rintro x w1 ⟨rfl,p1,g1,t1⟩
  have r1:=HP.out.1.one HO.out.2 (by simpa using p1) t1
  have c2:=rf_take r1.ps.at_ g1 ⟨#[41]⟩
  rw [tkIs_sign (HP.out.2.2 _) (by simp [allSigns])] at c2
  have H1:=Hid.mk7 r1
  clear c1 p1 g1 t1 r1
  simp only at c2
  cases h2:isTk 5 ⟨#[41]⟩ (tokAt T (s.i+1)) with
  | true=>
   have hlt2:s.i+1 < T.length:=isTk_lt (by decide) h2
   have hre:res=.ok ([],⟨s.i+1+1,s.N⟩):=by rw [← HQ.out]; simp [arguments,enclosed,PM.bind,pNeed,sgn,HO.out.1,pIf,h2,PM.ret]
   subst hre
   rw [h2] at c2
   clear h2
   go_wp2_with fail
   refine c2.mono ?_
   rintro x w2 ⟨rfl,h3⟩
   have r2:=H1.out.one hlt2 h3.1 h3.2.2
   have H2:=Hid.mk7 (And.intro r2 h3.2.1)
   clear c2 h3 r2
   go_wp2
   go_ret
   exact ⟨_,rfl,_,_,H2.out.1.off,H2.out.1.ps,H2.out.1.st,H2.out.2,OwnK.nil 1 _,fun _ e=>e.elim⟩
  | false=>
   rw [h2] at c2
   have HB:=Hid.mk7 h2
   clear h2
   go_wp2_with fail
   refine c2.mono ?_
   rintro x w2 ⟨rfl,h3⟩
   have r2:=H1.out.still h3.1 h3.2.2
   have c3:=HP.out.2.1 ⟨s.i+1,s.N⟩ (by simp) w2 q Tv _ _ r2.ps h3.2.1
   have H2:=Hid.mk7 r2
   clear c2 h3 r2
   cases hr:row T ⟨#[44]⟩ (whole rec) ⟨s.i+1,s.N⟩ with
   | error e=>
    have hre:res=.error e:=by rw [← HQ.out]; simp [arguments,enclosed,PM.bind,pNeed,sgn,HO.out.1,pIf,HB.out,hr]
    subst hre
    rw [hr] at c3
    clear hr
    go_wp2_with fail
    refine c3.mono ?_
    rintro x w3 ⟨⟨V,rfl,l,ho,hl,hv⟩,b3,t3⟩
    obtain ⟨aV,cV,hV,_⟩:=OwnK.sl ho |>.form
    subst hV
    have c4:=bd_want b3 ⟨#[41]⟩
    have H3:=Hid.mk7 (And.intro b3 (And.intro (H2.out.bad t3) (And.intro ho (And.intro hl fun k hk=>Nat.le_trans H2.out.size (hv k hk)))))
    clear c3 b3 t3 ho hl hv
    go_wp2_with fail
    refine c4.mono ?_
    rintro x w4 ⟨rfl,hb4⟩
    have H4:=Hid.mk7 hb4
    clear c4 hb4
    go_wp2
    go_ret
    exact ⟨⟨_,rfl,l,H3.out.2.2.1.below H4.out,H3.out.2.2.2.1,H3.out.2.2.2.2⟩,H3.out.1.below H4.out,H3.out.2.1.trans (Turned.ofBelow (S:=fun _=>False) H4.out) (fun _ e=>e.elim)⟩
   | ok lu=>
    obtain ⟨l,u⟩:=lu
    rw [hr] at c3
    have HR:=Hid.mk7 hr
    clear hr
    go_wp2_with fail
    refine c3.mono ?_
    rintro x w3 ⟨V,rfl,Nv3,M3,o3,p3,S3,g3,ow3,fv3⟩
    have r3:=H2.out.more o3 p3 S3
    have kd:Kd T w w3 q Tv Nv3 (N++([]++M3)) V l:=⟨ow3,fun k hk=>⟨Nat.le_trans H2.out.size (fv3 k hk).1,by simpa using (fv3 k hk).2⟩⟩
    obtain ⟨aV,cV,hV,_⟩:=OwnK.sl ow3 |>.form
    subst hV
    have c4:=rf_want r3.ps.at_ g3 ⟨#[41]⟩
    rw [tkIs_sign (HP.out.2.2 _) (by simp [allSigns])] at c4
    have H3:=Hid.mk7 (And.intro r3 kd)
    clear c3 o3 p3 S3 g3 ow3 fv3 r3 kd
    cases h5:isTk 5 ⟨#[41]⟩ (tokAt T u.i) with
    | false=>
     have hre:res=.error u.i:=by rw [← HQ.out]; simp [arguments,enclosed,PM.bind,pNeed,sgn,HO.out.1,pIf,HB.out,HR.out,h5]
     subst hre
     rw [h5] at c4
     clear h5
     go_wp2_with fail
     refine c4.mono ?_
     rintro x w4 ⟨rfl,b4,t4⟩
     have o4:OwnI w4 (.slice aV l.length cV) l:=OwnK.turned H3.out.2.own t4 (fun k hk e=>(H3.out.2.fv k hk).2.g e)
     have H4:=Hid.mk7 (And.intro b4 (And.intro (H3.out.1.bad (t4.mono (fun _ e=>.inl (.inl e)))) o4))
     clear c4 b4 t4 o4
     go_wp2
     go_ret
     exact ⟨⟨_,rfl,l,H4.out.2.2,HN.out _ _ _ HR.out,fun k hk=>(H3.out.2.fv k hk).1⟩,H4.out.1,H4.out.2.1⟩
    | true=>
     have hlt5:u.i < T.length:=isTk_lt (by decide) h5
     have hre:res=.ok (l,⟨u.i+1,u.N⟩):=by rw [← HQ.out]; simp [arguments,enclosed,PM.bind,pNeed,sgn,HO.out.1,pIf,HB.out,HR.out,h5,PM.ret]
     subst hre
     rw [h5] at c4
     clear h5
     go_wp2_with fail
     refine c4.mono ?_
     rintro x w4 ⟨rfl,p4,g4,t4⟩
     have r4:=H3.out.1.one hlt5 p4 t4
     have k4:=H3.out.2.step (M2:=[]) (Stp.ofG (Nv:=Nv3) t4) (fun n hn=>by cases hn)
     rw [List.append_nil] at k4
     have H4:=Hid.mk7 (And.intro r4 (And.intro k4 g4))
     clear c4 p4 g4 t4 r4 k4
     go_wp2
     go_ret
     exact ⟨_,rfl,_,_,H4.out.1.off,H4.out.1.ps,H4.out.1.st,H4.out.2.2,H4.out.2.1.own,H4.out.2.1.fv⟩
structure Pg (T:List Tk) (s u:Ps) (d:Int):Prop where
 i:s.i≤u.i
 n:∃ M,u.N=s.N++M
 c:(u.N.length:Int) - s.N.length+d≤4*((u.i:Int) - s.i)
theorem Pg.refl (T:List Tk) (s:Ps):Pg T s s 0:=⟨Nat.le_refl _,⟨[],by simp⟩,by omega⟩
theorem Pg.ok2 {T:List Tk} {s u v:Ps} {d dm:Int} (h:Pg T s u d) {M:List Sh} (hi:u.i≤v.i) (hn:v.N=u.N++M) (hc:(M.length:Int)+dm≤4*((v.i:Int) - u.i)):Pg T s v (d+dm):=by
 obtain ⟨M0,h0⟩:=h.n
 refine ⟨Nat.le_trans h.i hi,⟨M0++M,by rw [hn,h0,List.append_assoc]⟩,?_⟩
 have:=h.c
 rw [hn]
 simp
 omega
theorem Pg.cnt {T:List Tk} {s u:Ps} {d:Int} (h:Pg T s u d) (hd:0≤d) (hu:u.i≤T.length) (hc:Cnt T s):Cnt T u:=by
 have:=h.c
 have:=h.i
 unfold Cnt at hc ⊢
 omega
def Then {α:Type} (r:Except Nat Ps) (k:PM α):Except Nat (α × Ps):=
 match r with
 | .error e=>.error e
 | .ok u=>k u
def errOf:Except Nat Ps→Nat
 | .error e=>e
 | .ok u=>u.i
theorem Then.iff_false {α:Type} {r:Except Nat Ps} {b:Nat→Bool} {m1 m2:PM α} (h:∀ u,r=.ok u→b u.i=false):Then r (pIf b m1 m2)=Then r m2:=by
 cases r with
 | error e=>rfl
 | ok u=>simp [Then,pIf,h u rfl]
theorem Then.tok {α:Type} {T:List Tk} {r:Except Nat Ps} {k:Tk→PM α} {res:Except Nat (α × Ps)} {t:Tk} (h:∀ u,r=.ok u→t=tokAt T (u.i+0)) (hq:Then r (PM.bind (pTok T) k)=res):Then r (k t)=res:=by
 cases r with
 | error e=>exact hq
 | ok u=>rw [h u rfl]; exact hq
theorem Then.needTok {α:Type} {T:List Tk} {r:Except Nat Ps} {b:Nat→Bool} {k:Tk→PM α} {res:Except Nat (α × Ps)} {t:Tk} (h:∀ u,r=.ok u→t=tokAt T (u.i+0)) (hq:Then r (PM.bind (pNeed T b) k)=res):Then r (PM.bind (pNeed T b) fun _=>k t)=res:=by
 cases r with
 | error e=>exact hq
 | ok u=>
  have:=h u rfl
  simp only [Nat.add_zero] at this
  subst this
  simp only [Then,PM.bind,pNeed] at hq ⊢
  cases hb:b u.i <;> simp [hb] at hq ⊢ <;> exact hq
theorem PM.bind_ret {α:Type} (m:PM α):PM.bind m PM.ret=m:=by
 funext s
 unfold PM.bind PM.ret
 cases m s <;> rfl
structure Sx (w wr:World) (B:Nat) (V:Value) (l:List Int):Prop where
 own:OwnI wr V l
 len:l.length≤B
 new:∀ k,blk V k→w.heap.size≤k
theorem Sx.nil (w wr:World) (B:Nat):Sx w wr B (.slice none 0 0) []:=⟨OwnK.nil 1 wr,Nat.zero_le _,fun _ e=>e.elim⟩
theorem Sx.turned {w wr w2:World} {B:Nat} {V:Value} {l:List Int} (h:Sx w wr B V l) {S:Nat→Prop} (ht:Turned S wr w2) (hs:∀ k,blk V k→¬ S k):Sx w w2 B V l:=⟨OwnK.turned h.own ht hs,h.len,h.new⟩
def Kp (H:Nat→Prop) (a b:World):Prop:=∀ k,H k→b.heap[k]? = a.heap[k]?
theorem Kp.cell {H:Nat→Prop} {a b:World} (h:Kp H a b) {k j:Nat} (hk:H k):b.cell? ⟨k,j,none⟩=a.cell? ⟨k,j,none⟩:=World.cell?_of_block (h k hk)
theorem Kp.trans {H:Nat→Prop} {a b c:World} (h:Kp H a b) (g:Kp H b c):Kp H a c:=fun k hk=>(g k hk).trans (h k hk)
theorem Kp.mono {H G:Nat→Prop} {a b:World} (h:Kp H a b) (g:∀ k,G k→H k):Kp G a b:=fun k hk=>h k (g k hk)
def noH (_:Nat):Prop:=False
structure Uf (T:List Tk) (w wr:World) (q:Nat) (Tv Nv:Value) (N:List Nd) (s:Ps) (B:Nat) (d:Int) (H:Nat→Prop) (V1:Value) (l1:List Int) (V2:Value) (l2:List Int) (zs:List Int) (r:Except Nat Ps):Prop where
 a:Sx w wr B V1 l1
 b:Sx w wr B V2 l2
 dj:∀ k,blk V1 k→¬ blk V2 k
 h:∀ k,H k→w.heap.size≤k∧k < wr.heap.size∧¬ blk V1 k∧¬ blk V2 k
 ql:q < w.heap.size
 sz:w.heap.size≤wr.heap.size
 x:match r with
  | .error e=>Bd wr q e∧Turned (fun k=>k=q∨blk Nv k) w wr
  | .ok u=>Pg T s u d∧Gd wr q∧(∀ z∈l1++l2++zs,0≤z∧z < (u.N.length:Int))∧∃ Nv1 M1,Rg T w wr q Tv Nv N u Nv1 M1∧∀ k,blk V1 k∨blk V2 k∨H k→Free wr q Tv Nv1 (N++M1) k
section
variable {T:List Tk} {w wr w2:World} {q:Nat} {Tv Nv:Value} {N:List Nd} {s:Ps} {B:Nat} {d:Int} {H:Nat→Prop} {V1 V2:Value} {l1 l2 zs:List Int} {r:Except Nat Ps}
theorem Uf.start (h:PS w q Tv T Nv N s) (g:Gd w q) (B:Nat):Uf T w w q Tv Nv N s B 0 noH (.slice none 0 0) [] (.slice none 0 0) [] [] (.ok s):=
 ⟨Sx.nil _ _ _,Sx.nil _ _ _,fun _ e=>e.elim,fun _ e=>e.elim,h.at_.lt,Nat.le_refl _,Pg.refl T s,g,fun z hz=>by simp at hz,Nv,[],Rg.refl h,fun k e=>e.elim (fun e=>e.elim) (fun e=>e.elim (fun e=>e.elim) (fun e=>e.elim))⟩
theorem Uf.kb (U:Uf T w wr q Tv Nv N s B d H V1 l1 V2 l2 zs r) (hb:Below wr.heap.size wr w2):Kp H wr w2:=fun k hk=>hb.block k (U.h k hk).2.1
theorem Uf.below (U:Uf T w wr q Tv Nv N s B d H V1 l1 V2 l2 zs r) (hb:Below wr.heap.size wr w2):Uf T w w2 q Tv Nv N s B d H V1 l1 V2 l2 zs r:=by
 have ht:=Turned.ofBelow (S:=fun _=>False) hb
 refine ⟨U.a.turned ht (fun _ _ e=>e),U.b.turned ht (fun _ _ e=>e),U.dj,fun k hk=>⟨(U.h k hk).1,Nat.lt_of_lt_of_le (U.h k hk).2.1 hb.size,(U.h k hk).2.2⟩,U.ql,Nat.le_trans U.sz hb.size,?_⟩
 have hx:=U.x
 cases r with
 | error e=>exact ⟨hx.1.below hb,hx.2.trans ht (fun _ e=>e.elim)⟩
 | ok u=>
  obtain ⟨p,g,z,Nv1,M1,rg,f⟩:=hx
  exact ⟨p,g.below hb,z,Nv1,M1,rg.below hb,fun k hk=>⟨(f k hk).g,(f k hk).t,(f k hk).n,(f k hk).k⟩⟩
theorem Uf.up (U:Uf T w wr q Tv Nv N s B d H V1 l1 V2 l2 zs r) (o:Obj):Uf T w (wr.alloc o) q Tv Nv N s B d H V1 l1 V2 l2 zs r:=U.below (Below.alloc0 wr o)
theorem Uf.fall {u:Ps} {Nv1:Value} {M1:List Nd} (U:Uf T w wr q Tv Nv N s B d H V1 l1 V2 l2 zs (.ok u)) (rg:Rg T w wr q Tv Nv N u Nv1 M1) (f:∀ k,blk V1 k∨blk V2 k∨H k→Free wr q Tv Nv1 (N++M1) k) {e:Nat} (b:Bd w2 q e) (t:Turned (fun k=>k=q∨blk Nv1 k) wr w2) (d':Int) (zs':List Int):Uf T w w2 q Tv Nv N s B d' H V1 l1 V2 l2 zs' (.error e)∧Kp H wr w2:=
 ⟨⟨U.a.turned t (fun k hk e=>e.elim (f k (.inl hk)).g (f k (.inl hk)).n),U.b.turned t (fun k hk e=>e.elim (f k (.inr (.inl hk))).g (f k (.inr (.inl hk))).n),U.dj,fun k hk=>⟨(U.h k hk).1,Nat.lt_of_lt_of_le (U.h k hk).2.1 t.size,(U.h k hk).2.2⟩,U.ql,Nat.le_trans U.sz t.size,b,rg.bad t⟩,fun k hk=>t.block k (U.h k hk).2.1 (fun e=>e.elim (f k (.inr (.inr hk))).g (f k (.inr (.inr hk))).n)⟩
theorem Uf.on {u v:Ps} {Nv1 Nv2:Value} {M1 M3:List Nd} (U:Uf T w wr q Tv Nv N s B d H V1 l1 V2 l2 zs (.ok u)) (rg:Rg T w wr q Tv Nv N u Nv1 M1) (f:∀ k,blk V1 k∨blk V2 k∨H k→Free wr q Tv Nv1 (N++M1) k)
  (p:PS w2 q Tv T Nv2 (N++M1++M3) v) (S:Stp q Nv1 Nv2 wr w2) (o:∀ n∈M3,∀ k,blk n.kv k→wr.heap.size≤k) (g:Gd w2 q) {d':Int} (hp:Pg T s v d') (hn:u.N.length≤v.N.length) {zs':List Int} (hz:∀ z∈zs',z∈zs∨(0≤z∧z < (v.N.length:Int))):Uf T w w2 q Tv Nv N s B d' H V1 l1 V2 l2 zs' (.ok v)∧Kp H wr w2:=by
 have hx:=U.x
 refine ⟨⟨U.a.turned S.t (fun k hk e=>e.elim (f k (.inl hk)).g (f k (.inl hk)).n),U.b.turned S.t (fun k hk e=>e.elim (f k (.inr (.inl hk))).g (f k (.inr (.inl hk))).n),U.dj,fun k hk=>⟨(U.h k hk).1,Nat.lt_of_lt_of_le (U.h k hk).2.1 S.t.size,(U.h k hk).2.2⟩,U.ql,Nat.le_trans U.sz S.t.size,hp,g,fun z hm=>?_,Nv2,M1++M3,rg.more o p S,fun k hk=>?_⟩,fun k hk=>S.t.block k (U.h k hk).2.1 (fun e=>e.elim (f k (.inr (.inr hk))).g (f k (.inr (.inr hk))).n)⟩
 ·rcases List.mem_append.1 hm with hm | hm
  ·have:=hx.2.2.1 z (List.mem_append.2 (.inl hm))
   omega
  ·rcases hz z hm with h1 | h1
   ·have:=hx.2.2.1 z (List.mem_append.2 (.inr h1))
    omega
   ·exact h1
 ·have hl:k < wr.heap.size:=by
   rcases hk with h1 | h1 | h1
   ·exact OwnK.blk_lt U.a.own k h1
   ·exact OwnK.blk_lt U.b.own k h1
   ·exact (U.h k h1).2.1
  have:=(f k hk).step hl S o
  rwa [List.append_assoc] at this
theorem Uf.weak (U:Uf T w wr q Tv Nv N s B d H V1 l1 V2 l2 zs r) {d':Int} (hd:d'≤d):Uf T w wr q Tv Nv N s B d' H V1 l1 V2 l2 zs r:=by
 refine ⟨U.a,U.b,U.dj,U.h,U.ql,U.sz,?_⟩
 have hx:=U.x
 cases r with
 | error e=>exact hx
 | ok u=>exact ⟨⟨hx.1.i,hx.1.n,by have:=hx.1.c; omega⟩,hx.2⟩
theorem Uf.nums (U:Uf T w wr q Tv Nv N s B d H V1 l1 V2 l2 zs r) {zs':List Int} (hz:∀ z∈zs',z∈zs∨z∈l1∨z∈l2):Uf T w wr q Tv Nv N s B d H V1 l1 V2 l2 zs' r:=by
 refine ⟨U.a,U.b,U.dj,U.h,U.ql,U.sz,?_⟩
 have hx:=U.x
 cases r with
 | error e=>exact hx
 | ok u=>exact ⟨hx.1,hx.2.1,fun z hm=>hx.2.2.1 z (by
   rcases List.mem_append.1 hm with hm | hm
   ·exact List.mem_append.2 (.inl hm)
   ·rcases hz z hm with h1 | h1 | h1 <;> simp [h1]),hx.2.2.2⟩
theorem Uf.num {u:Ps} (U:Uf T w wr q Tv Nv N s B d H V1 l1 V2 l2 zs (.ok u)) {z:Int} (hz:0≤z∧z < (u.N.length:Int)):Uf T w wr q Tv Nv N s B d H V1 l1 V2 l2 (z :: zs) (.ok u):=by
 refine ⟨U.a,U.b,U.dj,U.h,U.ql,U.sz,U.x.1,U.x.2.1,fun x hm=>?_,U.x.2.2.2⟩
 rcases List.mem_append.1 hm with hm | hm
 ·exact U.x.2.2.1 x (List.mem_append.2 (.inl hm))
 ·rcases List.mem_cons.1 hm with rfl | hm
  ·exact hz
  ·exact U.x.2.2.1 x (List.mem_append.2 (.inr hm))
theorem Uf.pos {z:Int} (U:Uf T w wr q Tv Nv N s B d H V1 l1 V2 l2 zs r) (hz:z∈zs) (u:Ps) (hu:r=.ok u):((z.toNat:Nat):Int)=z∧z.toNat < u.N.length:=by
 subst hu
 have:=U.x.2.2.1 z (by simp [hz])
 omega
theorem Uf.cast {α:Type} {z:Int} (U:Uf T w wr q Tv Nv N s B d H V1 l1 V2 l2 (z :: zs) r) {k:Int→PM α} {res:Except Nat (α × Ps)} (hq:Then r (k ((z.toNat:Nat):Int))=res):Then r (k z)=res:=by
 cases r with
 | error e=>exact hq
 | ok u=>rw [(U.pos (z:=z) (by simp) u rfl).1] at hq; exact hq
theorem Uf.drop2 (U:Uf T w wr q Tv Nv N s B d H V1 l1 V2 l2 zs r):Uf T w wr q Tv Nv N s B d H V1 l1 (.slice none 0 0) [] zs r:=by
 refine ⟨U.a,Sx.nil _ _ _,fun _ _ e=>e,fun k hk=>⟨(U.h k hk).1,(U.h k hk).2.1,(U.h k hk).2.2.1,fun e=>e⟩,U.ql,U.sz,?_⟩
 have hx:=U.x
 cases r with
 | error e=>exact hx
 | ok u=>
  obtain ⟨p,g,z,Nv1,M1,rg,f⟩:=hx
  exact ⟨p,g,fun x hm=>z x (by simp at hm ⊢; rcases hm with h | h <;> simp [h]),Nv1,M1,rg,fun k hk=>f k (hk.elim .inl (fun e=>e.elim (fun e=>e.elim) (fun e=>.inr (.inr e))))⟩
theorem Uf.to1 (U:Uf T w wr q Tv Nv N s B d H (.slice none 0 0) [] V2 l2 zs r):Uf T w wr q Tv Nv N s B d H V2 l2 (.slice none 0 0) [] zs r:=by
 refine ⟨U.b,Sx.nil _ _ _,fun _ _ e=>e,fun k hk=>⟨(U.h k hk).1,(U.h k hk).2.1,(U.h k hk).2.2.2,fun e=>e⟩,U.ql,U.sz,?_⟩
 have hx:=U.x
 cases r with
 | error e=>exact hx
 | ok u=>
  obtain ⟨p,g,z,Nv1,M1,rg,f⟩:=hx
  exact ⟨p,g,fun x hm=>z x (by simpa using hm),Nv1,M1,rg,fun k hk=>f k (hk.elim (fun e=>.inr (.inl e)) (fun e=>e.elim (fun e=>e.elim) (fun e=>.inr (.inr e))))⟩
theorem Uf.to2 (U:Uf T w wr q Tv Nv N s B d H V1 l1 (.slice none 0 0) [] zs r):Uf T w wr q Tv Nv N s B d H (.slice none 0 0) [] V1 l1 zs r:=by
 refine ⟨Sx.nil _ _ _,U.a,fun _ e=>e.elim,fun k hk=>⟨(U.h k hk).1,(U.h k hk).2.1,fun e=>e,(U.h k hk).2.2.1⟩,U.ql,U.sz,?_⟩
 have hx:=U.x
 cases r with
 | error e=>exact hx
 | ok u=>
  obtain ⟨p,g,z,Nv1,M1,rg,f⟩:=hx
  exact ⟨p,g,fun x hm=>z x (by simpa using hm),Nv1,M1,rg,fun k hk=>f k (hk.elim (fun e=>e.elim) (fun e=>e.elim .inl (fun e=>.inr (.inr e))))⟩
theorem Uf.hold (U:Uf T w wr q Tv Nv N s B d H V1 l1 V2 l2 zs r) (hT:0 < T.length) (o:Obj):Uf T w (wr.alloc o) q Tv Nv N s B d (fun k=>H k∨k=wr.heap.size) V1 l1 V2 l2 zs r:=by
 have U2:=U.up o
 have ha:=OwnK.blk_lt U.a.own
 have hb:=OwnK.blk_lt U.b.own
 refine ⟨U2.a,U2.b,U2.dj,fun k hk=>?_,U.ql,U2.sz,?_⟩
 ·rcases hk with hk | rfl
  ·exact U2.h k hk
  ·exact ⟨U.sz,by simp,fun e=>by have:=ha _ e; omega,fun e=>by have:=hb _ e; omega⟩
 ·have hx:=U2.x
  have hx1:=U.x
  cases r with
  | error e=>exact hx
  | ok u=>
   obtain ⟨p,g,z,Nv1,M1,rg,f⟩:=hx1
   refine ⟨p,hx.2.1,z,Nv1,M1,rg.below (Below.alloc0 wr o),fun k hk=>?_⟩
   rcases hk with h1 | h1 | h1 | rfl
   ·have e:=f k (.inl h1); exact ⟨e.g,e.t,e.n,e.k⟩
   ·have e:=f k (.inr (.inl h1)); exact ⟨e.g,e.t,e.n,e.k⟩
   ·have e:=f k (.inr (.inr h1)); exact ⟨e.g,e.t,e.n,e.k⟩
   ·have e:=rg.ps.at_.free hT wr.heap.size (Nat.le_refl _); exact ⟨e.g,e.t,e.n,e.k⟩
theorem Uf.free (U:Uf T w wr q Tv Nv N s B d H V1 l1 V2 l2 zs r) {H':Nat→Prop} (hH:∀ k,H' k→H k):Uf T w wr q Tv Nv N s B d H' V1 l1 V2 l2 zs r:=by
 refine ⟨U.a,U.b,U.dj,fun k hk=>U.h k (hH k hk),U.ql,U.sz,?_⟩
 have hx:=U.x
 cases r with
 | error e=>exact hx
 | ok u=>
  obtain ⟨p,g,z,Nv1,M1,rg,f⟩:=hx
  exact ⟨p,g,z,Nv1,M1,rg,fun k hk=>f k (hk.elim .inl (fun e=>e.elim (fun e=>.inr (.inl e)) (fun e=>.inr (.inr (hH k e)))))⟩
theorem Uf.lit (U:Uf T w wr q Tv Nv N s B d H V1 l1 (.slice none 0 0) [] zs r) (hT:0 < T.length) {o:Obj} {n c:Nat} {l:List Int} (ho:OwnI (wr.alloc o) (.slice (some ⟨wr.heap.size,0,none⟩) n c) l) (hl:l.length≤B) (hz:∀ z∈l,z∈zs):Uf T w (wr.alloc o) q Tv Nv N s B d H V1 l1 (.slice (some ⟨wr.heap.size,0,none⟩) n c) l zs r:=by
 have U2:=U.up o
 have ha:=OwnK.blk_lt U.a.own
 refine ⟨U2.a,⟨ho,hl,fun k (hk:wr.heap.size=k)=>by have:=U.sz; omega⟩,fun k hk (e:wr.heap.size=k)=>by have:=ha k hk; omega,fun k hk=>⟨(U.h k hk).1,(U2.h k hk).2.1,(U.h k hk).2.2.1,fun (e:wr.heap.size=k)=>by have:=(U.h k hk).2.1; omega⟩,U.ql,U2.sz,?_⟩
 have hx:=U2.x
 have hx1:=U.x
 cases r with
 | error e=>exact hx
 | ok u=>
  obtain ⟨p,g,z,Nv1,M1,rg,f⟩:=hx1
  refine ⟨p,hx.2.1,fun x hm=>z x ?_,Nv1,M1,rg.below (Below.alloc0 wr o),fun k hk=>?_⟩
  ·simp only [List.mem_append,List.not_mem_nil,or_false] at hm ⊢
   rcases hm with (hm | hm) | hm
   ·exact .inl hm
   ·exact .inr (hz x hm)
   ·exact .inr hm
  ·rcases hk with h1 | h1 | h1
   ·have e:=f k (.inl h1); exact ⟨e.g,e.t,e.n,e.k⟩
   ·have h1:wr.heap.size=k:=h1
    subst h1
    have e:=rg.ps.at_.free hT wr.heap.size (Nat.le_refl _); exact ⟨e.g,e.t,e.n,e.k⟩
   ·have e:=f k (.inr (.inr h1)); exact ⟨e.g,e.t,e.n,e.k⟩
theorem Uf.push (U:Uf T w wr q Tv Nv N s B d H V1 l1 V2 l2 zs r) (hT:0 < T.length) {w3 w4:World} (hb:Below wr.heap.size wr w3) {V:Value} {m:List Int} (ho:OwnK 1 w4 V (l1.length+m.length) (ints l1++ints m)) (T4:Turned (blk V1) w3 w4) (hv:∀ k,blk V k→blk V1 k∨k=w3.heap.size) (hl:l1.length+m.length≤B) (hz:∀ z∈m,z∈zs∨z∈l2):Uf T w w4 q Tv Nv N s B d H V (l1++m) V2 l2 zs r∧Kp H wr w4:=by
 have U3:=U.below hb
 have ha:=OwnK.blk_lt U.a.own
 have hb2:=OwnK.blk_lt U.b.own
 have hz3:=hb.size
 have hsz:=U.sz
 have h1q:¬ blk V1 q:=fun e=>by have:=U.a.new q e; have:=U.ql; omega
 refine ⟨⟨⟨OwnI.join ho,by simpa using hl,fun k hk=>(hv k hk).elim (U.a.new k) (fun e=>by omega)⟩,U3.b.turned T4 (fun k hk e=>U.dj k e hk),fun k hk e=>(hv k hk).elim (fun e1=>U.dj k e1 e) (fun e1=>by have:=hb2 k e; omega),fun k hk=>⟨(U.h k hk).1,Nat.lt_of_lt_of_le (U3.h k hk).2.1 T4.size,fun e=>(hv k e).elim (U.h k hk).2.2.1 (fun e=>by have:=(U.h k hk).2.1; omega),(U.h k hk).2.2.2⟩,U.ql,Nat.le_trans U3.sz T4.size,?_⟩,fun k hk=>(T4.block k (U3.h k hk).2.1 (U.h k hk).2.2.1).trans (U.kb hb k hk)⟩
 have hx:=U3.x
 have hx1:=U.x
 cases r with
 | error e=>exact ⟨⟨T4.cell hx.1.bad h1q,T4.cell hx.1.err h1q⟩,hx.2.trans T4 (fun k e=>.inr (U.a.new k e))⟩
 | ok u=>
  obtain ⟨p,g,z,Nv1,M1,rg,f⟩:=hx1
  have rg3:=rg.below hb
  have p4:PAt w4 q Tv T u.i Nv1 (N++M1):=rg3.ps.at_.offS (w0:=wr) (fun k e=>f k (.inl e)) T4
  refine ⟨p,hx.2.1.turned T4 h1q,fun x hm=>z x ?_,Nv1,M1,rg3.mine (fun k e=>U.a.new k e) p4 T4,fun k hk=>?_⟩
  ·simp only [List.mem_append] at hm ⊢
   rcases hm with ((hm | hm) | hm) | hm
   ·exact .inl (.inl hm)
   ·exact (hz x hm).elim .inr (fun e=>.inl (.inr e))
   ·exact .inl (.inr hm)
   ·exact .inr hm
  ·have e:Free wr q Tv Nv1 (N++M1) k:=by
    rcases hk with h1 | h1 | h1
    ·rcases hv k h1 with h2 | rfl
     ·exact f k (.inl h2)
     ·exact rg.ps.at_.free hT _ hz3
    ·exact f k (.inr (.inl h1))
    ·exact f k (.inr (.inr h1))
   exact ⟨e.g,e.t,e.n,e.k⟩
theorem Uf.done {z:Int} (U:Uf T w wr q Tv Nv N s B d H V1 l1 V2 l2 (z :: zs) r) {res:Except Nat (Nat × Ps)} (hq:Then r (PM.ret z.toNat)=res):Rf T w q Tv Nv N res (.returned (.int .i64 z)) wr:=by
 have hx:=U.x
 cases r with
 | error e=>
  subst hq
  exact ⟨⟨z,rfl⟩,hx⟩
 | ok u=>
  subst hq
  obtain ⟨p,g,hz,Nv1,M1,rg,f⟩:=hx
  have:=hz z (by simp)
  have e:((z.toNat:Nat):Int)=z:=by omega
  exact ⟨by rw [e],Nv1,M1,rg.off,rg.ps,rg.st,g⟩
theorem Uf.doneL (U:Uf T w wr q Tv Nv N s B d H V1 l1 V2 l2 zs r) (hl:l1.length≤T.length+1) {res:Except Nat (List Int × Ps)} (hq:Then r (PM.ret l1)=res):RfL T w q Tv Nv N res (.returned V1) wr:=by
 have hx:=U.x
 cases r with
 | error e=>
  subst hq
  exact ⟨⟨V1,rfl,l1,U.a.own,hl,U.a.new⟩,hx⟩
 | ok u=>
  subst hq
  obtain ⟨p,g,hz,Nv1,M1,rg,f⟩:=hx
  exact ⟨V1,rfl,Nv1,M1,rg.off,rg.ps,rg.st,g,U.a.own,fun k hk=>⟨U.a.new k hk,f k (.inl hk)⟩⟩
end
end Go.Proofs.YtlciaafincgdeaaGreatDoor
