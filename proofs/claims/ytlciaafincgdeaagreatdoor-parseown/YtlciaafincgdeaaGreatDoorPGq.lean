/-
  Layer 11 (parse): operands, given what stands for itself.
-/
import Derived.Test.YtlciaafincgdeaaGreatDoorZaw
namespace Go.Proofs.YtlciaafincgdeaaGreatDoor
open Go.RowKit
set_option maxHeartbeats 6400000
set_option maxRecDepth 100000
theorem rd_operand {T:List Tk} {rec:Ph→PM Nat} {s:Ps} (E:Env T rec (s.i+1)) (hfin:∀ a t,phBody T rec .operand s=.ok (a,t)→S2 T t t∧Cnt T t)
  (hS:∀ w g Tv Nv N,PS w g Tv T Nv N s→Calls Tryz.prog 177 #[.pointer (some ⟨g,0,none⟩),(tokAt T s.i).val] w (Rd T w g Tv Nv N (single T rec (tokAt T s.i) s))) {w:World} {g:Nat} {Tv Nv:Value} {N:List Nd} (h:PS w g Tv T Nv N s) :
  Calls Tryz.prog 168 #[.pointer (some ⟨g,0,none⟩)] w (Rd T w g Tv Nv N (phBody T rec .operand s)):=by
 obtain ⟨res,hres⟩:∃ res,phBody T rec .operand s=res:=⟨_,rfl⟩
 rw [hres]
 have hres2:(if isUn (tokAt T s.i) then PM.bind (pSkip 1) (fun _=>PM.bind (rec .operand) fun k=>pAdd ⟨14,(tokAt T s.i).text,⟨#[]⟩,0,[(k:Int)],(tokAt T s.i).at_⟩) else single T rec (tokAt T s.i)) s=res:=hres
 have HQ:=Hid.mk7 hres2
 have htl:=h.at_.tl
 have hps:=h
 have c1:=rg_peek (Rg.refl h)
 have hi:=fun k x W=>ps_is (tokAt T s.i) k x W
 have hun:isUn (tokAt T s.i)=true→s.i < T.length:=fun e=>tok_lt (by simp [isUn,isTk] at e; omega)
 have HP:=Hid.mk7 (And.intro E (And.intro (fun a t e=>hfin a t (hres.trans e)) hS))
 clear hres hres2 hfin hS E h
 generalize tokAt T s.i=t at c1 hi HQ HP hun
 obtain ⟨tk,tt,tn,ta⟩:=t
 simp only [Tk.val] at c1 hi HP
 simp only at HQ
 go_enter Tryz.func168,Tryz.ntmps168
 go_wp2_with fail
 refine c1.mono ?_
 rintro x w1 ⟨rfl,r1,_⟩
 have f1:=fun hT=>r1.ps.at_.free hT w1.heap.size (Nat.le_refl _)
 have r2:=r1.below (Below.alloc0 w1 (.cells #[.int .i64 tk,.string tt,.int .i64 tn,.int .i64 ta] 40))
 have HF1:=Hid.mk7 f1
 have HR:=Hid.mk7 r2
 clear c1 r1 f1 r2 hps
 go_wp2_with fail
 refine (hi 5 ⟨#[43]⟩ _).mono ?_
 rintro x w2 ⟨rfl,hb2⟩
 have HB2:=Hid.mk7 hb2
 clear hb2
 obtain ⟨k0,k1,k2,k3⟩:=keptTok (t:=⟨tk,tt,tn,ta⟩) HB2.out
 cases ea:(decide (tk=5) && decide (tt=⟨#[43]⟩)) with
 | true=>
  have hu:isUn ⟨tk,tt,tn,ta⟩=true:=by simp [isUn,isTk,ea]
  have hlt:=hun hu
  have hT:0 < T.length:=by omega
  have r3:=HR.out.below HB2.out
  have hgl:=HF1.out hT
  have hne:w1.heap.size≠g:=hgl.g
  have hnb:=hgl.n
  have c1:=r3.ps.at_.c1.1
  have f1:=r3.ps.at_.c1.2
  have r4:=r3.skip 1 hlt
  rw [show ((s.i+1:Nat):Int)=(s.i:Int)+1 by omega] at r4
  have hE:=fun W (hW:Below _ _ W)=>HP.out.1.run .operand trivial ⟨s.i+1,s.N⟩ (Nat.le_refl _) W g Tv _ _ (r4.below hW).ps
  have T4:Turned (fun k=>k=g∨blk Nv k) (w1.alloc (.cells #[.int .i64 tk,.string tt,.int .i64 tn,.int .i64 ta] 40)) (w2.setCell ⟨g,1,none⟩ (.int .i64 ((s.i:Int)+1))):=(Turned.ofBelow HB2.out).trans (Turned.set1 w2 g 1 _) (fun _ e=>.inl (.inl e))
  have hq:¬ (w1.heap.size=g∨blk Nv w1.heap.size):=fun e=>e.elim hne hnb
  have m1:=T4.cell (p:=⟨w1.heap.size,1,none⟩) (v:=.string tt) (by simp) hq
  have m3:=T4.cell (p:=⟨w1.heap.size,3,none⟩) (v:=.int .i64 ta) (by simp) hq
  have HR4:=Hid.mk7 (And.intro r4 T4)
  have HU:=Hid.mk7 hu
  clear r3 r4 T4 hgl hnb k0 k1 k2 k3 hu
  cases ho:rec .operand ⟨s.i+1,s.N⟩ with
  | error e=>
   have hre:res=.error e:=by rw [← HQ.out,if_pos HU.out]; simp [PM.bind,pSkip,ho]
   subst hre
   simp only [ho,fnOf,moreOf] at hE
   clear ho
   go_wp2_with fail
   generalize w2.setCell _ _=w8 at HR4 hE m1 m3 ⊢
   go_region_with (go_at_call 168; refine (hE _ (Below.refl _ _).drew).mono ?_; rintro x w9 ⟨rfl,T9⟩; refine idle_of w9 ⟨rfl,rfl,(HR4.out.1.below (Below.refl _ _).drew).bad T9⟩ ?_)
   all_goals trivial
  | ok kt=>
   obtain ⟨ko,t⟩:=kt
   have hre:res=.ok (t.N.length,⟨t.i,t.N++[⟨14,tt,⟨#[]⟩,0,[(ko:Int)],ta⟩]⟩):=by rw [← HQ.out,if_pos HU.out]; simp [PM.bind,pSkip,ho,pAdd]
   obtain ⟨q1,q2⟩:=HP.out.2.1 _ _ hre
   have HF:=Hid.mk7 (And.intro q1 q2)
   subst hre
   simp only [ho,fnOf,moreOf] at hE
   clear ho q1 q2
   go_wp2_with fail
   generalize w2.setCell _ _=w8 at HR4 hE m1 m3 ⊢
   go_region_with (first
    | (go_at_call 78; refine c9.mono ?_; rintro x w10 ⟨rfl,Nv10,r10,_⟩; have H10:=Hid.mk7 r10; clear r10)
    | (go_at_call 168; refine (hE _ (Below.refl _ _).drew).mono ?_; intro x w9 hx; obtain ⟨rfl,Nv9,M9,r9,S9,_⟩:=(HR4.out.1.below (Below.refl _ _).drew).rd hx; have T9:=(HR4.out.2.trans (Turned.drew _ _) (T:=fun k=>k=g∨blk Nv k) (fun _ e=>.inl e)).trans S9.t (fun _ e=>.inl e); have p1:=T9.cell (p:=⟨w1.heap.size,1,none⟩) (v:=.string tt) (by simp) hq; have p3:=T9.cell (p:=⟨w1.heap.size,3,none⟩) (v:=.int .i64 ta) (by simp) hq; have l9:w1.heap.size < w9.heap.size:=World.block_lt_of_cell? w9 _ p1; have c9:=rg_add (r9.below (Below.alloc0 w9 (.cells #[.int .i64 (ko:Int)] 3))) hT ⟨14,tt,⟨#[]⟩,0,.slice (some ⟨w9.heap.size,0,none⟩) 1 1,[(ko:Int)],ta⟩ (Kd.one r9 hT (ko:Int)) HF.out.1 HF.out.2; simp only [Nd.val] at c9; clear hx r9 S9 T9))
   all_goals
    go_wp2
    go_ret
    exact H10.out.of
 | false=>
  go_wp2_with fail
  refine (hi 5 ⟨#[45]⟩ _).mono ?_
  rintro x w3 ⟨rfl,hb3⟩
  have HB3:=Hid.mk7 (HB2.out.trans (hb3.mono HB2.out.size))
  clear hb3
  clear k0 k1 k2 k3
  obtain ⟨k0,k1,k2,k3⟩:=keptTok (t:=⟨tk,tt,tn,ta⟩) HB3.out
  cases eb:(decide (tk=5) && decide (tt=⟨#[45]⟩)) with
  | true=>
   have hu:isUn ⟨tk,tt,tn,ta⟩=true:=by simp [isUn,isTk,ea,eb]
   have hlt:=hun hu
   have hT:0 < T.length:=by omega
   have r3:=HR.out.below HB3.out
   have hgl:=HF1.out hT
   have hne:w1.heap.size≠g:=hgl.g
   have hnb:=hgl.n
   have c1:=r3.ps.at_.c1.1
   have f1:=r3.ps.at_.c1.2
   have r4:=r3.skip 1 hlt
   rw [show ((s.i+1:Nat):Int)=(s.i:Int)+1 by omega] at r4
   have hE:=fun W (hW:Below _ _ W)=>HP.out.1.run .operand trivial ⟨s.i+1,s.N⟩ (Nat.le_refl _) W g Tv _ _ (r4.below hW).ps
   have T4:Turned (fun k=>k=g∨blk Nv k) (w1.alloc (.cells #[.int .i64 tk,.string tt,.int .i64 tn,.int .i64 ta] 40)) (w3.setCell ⟨g,1,none⟩ (.int .i64 ((s.i:Int)+1))):=(Turned.ofBelow HB3.out).trans (Turned.set1 w3 g 1 _) (fun _ e=>.inl (.inl e))
   have hq:¬ (w1.heap.size=g∨blk Nv w1.heap.size):=fun e=>e.elim hne hnb
   have m1:=T4.cell (p:=⟨w1.heap.size,1,none⟩) (v:=.string tt) (by simp) hq
   have m3:=T4.cell (p:=⟨w1.heap.size,3,none⟩) (v:=.int .i64 ta) (by simp) hq
   have HR4:=Hid.mk7 (And.intro r4 T4)
   have HU:=Hid.mk7 hu
   clear r3 r4 T4 hgl hnb k0 k1 k2 k3 hu
   cases ho:rec .operand ⟨s.i+1,s.N⟩ with
   | error e=>
    have hre:res=.error e:=by rw [← HQ.out,if_pos HU.out]; simp [PM.bind,pSkip,ho]
    subst hre
    simp only [ho,fnOf,moreOf] at hE
    clear ho
    go_wp2_with fail
    generalize w3.setCell _ _=w8 at HR4 hE m1 m3 ⊢
    go_region_with (go_at_call 168; refine (hE _ (Below.refl _ _).drew).mono ?_; rintro x w9 ⟨rfl,T9⟩; refine idle_of w9 ⟨rfl,rfl,(HR4.out.1.below (Below.refl _ _).drew).bad T9⟩ ?_)
    all_goals trivial
   | ok kt=>
    obtain ⟨ko,t⟩:=kt
    have hre:res=.ok (t.N.length,⟨t.i,t.N++[⟨14,tt,⟨#[]⟩,0,[(ko:Int)],ta⟩]⟩):=by rw [← HQ.out,if_pos HU.out]; simp [PM.bind,pSkip,ho,pAdd]
    obtain ⟨q1,q2⟩:=HP.out.2.1 _ _ hre
    have HF:=Hid.mk7 (And.intro q1 q2)
    subst hre
    simp only [ho,fnOf,moreOf] at hE
    clear ho q1 q2
    go_wp2_with fail
    generalize w3.setCell _ _=w8 at HR4 hE m1 m3 ⊢
    go_region_with (first
     | (go_at_call 78; refine c9.mono ?_; rintro x w10 ⟨rfl,Nv10,r10,_⟩; have H10:=Hid.mk7 r10; clear r10)
     | (go_at_call 168; refine (hE _ (Below.refl _ _).drew).mono ?_; intro x w9 hx; obtain ⟨rfl,Nv9,M9,r9,S9,_⟩:=(HR4.out.1.below (Below.refl _ _).drew).rd hx; have T9:=(HR4.out.2.trans (Turned.drew _ _) (T:=fun k=>k=g∨blk Nv k) (fun _ e=>.inl e)).trans S9.t (fun _ e=>.inl e); have p1:=T9.cell (p:=⟨w1.heap.size,1,none⟩) (v:=.string tt) (by simp) hq; have p3:=T9.cell (p:=⟨w1.heap.size,3,none⟩) (v:=.int .i64 ta) (by simp) hq; have l9:w1.heap.size < w9.heap.size:=World.block_lt_of_cell? w9 _ p1; have c9:=rg_add (r9.below (Below.alloc0 w9 (.cells #[.int .i64 (ko:Int)] 3))) hT ⟨14,tt,⟨#[]⟩,0,.slice (some ⟨w9.heap.size,0,none⟩) 1 1,[(ko:Int)],ta⟩ (Kd.one r9 hT (ko:Int)) HF.out.1 HF.out.2; simp only [Nd.val] at c9; clear hx r9 S9 T9))
    all_goals
     go_wp2
     go_ret
     exact H10.out.of
  | false=>
   go_wp2_with fail
   refine (hi 4 ⟨#[110,111,116]⟩ _).mono ?_
   rintro x w4 ⟨rfl,hb4⟩
   have HB4:=Hid.mk7 (HB3.out.trans (hb4.mono HB3.out.size))
   clear hb4
   clear k0 k1 k2 k3
   obtain ⟨k0,k1,k2,k3⟩:=keptTok (t:=⟨tk,tt,tn,ta⟩) HB4.out
   cases ec:(decide (tk=4) && decide (tt=⟨#[110,111,116]⟩)) with
   | true=>
    have hu:isUn ⟨tk,tt,tn,ta⟩=true:=by simp [isUn,isTk,ea,eb,ec]
    have hlt:=hun hu
    have hT:0 < T.length:=by omega
    have r3:=HR.out.below HB4.out
    have hgl:=HF1.out hT
    have hne:w1.heap.size≠g:=hgl.g
    have hnb:=hgl.n
    have c1:=r3.ps.at_.c1.1
    have f1:=r3.ps.at_.c1.2
    have r4:=r3.skip 1 hlt
    rw [show ((s.i+1:Nat):Int)=(s.i:Int)+1 by omega] at r4
    have hE:=fun W (hW:Below _ _ W)=>HP.out.1.run .operand trivial ⟨s.i+1,s.N⟩ (Nat.le_refl _) W g Tv _ _ (r4.below hW).ps
    have T4:Turned (fun k=>k=g∨blk Nv k) (w1.alloc (.cells #[.int .i64 tk,.string tt,.int .i64 tn,.int .i64 ta] 40)) (w4.setCell ⟨g,1,none⟩ (.int .i64 ((s.i:Int)+1))):=(Turned.ofBelow HB4.out).trans (Turned.set1 w4 g 1 _) (fun _ e=>.inl (.inl e))
    have hq:¬ (w1.heap.size=g∨blk Nv w1.heap.size):=fun e=>e.elim hne hnb
    have m1:=T4.cell (p:=⟨w1.heap.size,1,none⟩) (v:=.string tt) (by simp) hq
    have m3:=T4.cell (p:=⟨w1.heap.size,3,none⟩) (v:=.int .i64 ta) (by simp) hq
    have HR4:=Hid.mk7 (And.intro r4 T4)
    have HU:=Hid.mk7 hu
    clear r3 r4 T4 hgl hnb k0 k1 k2 k3 hu
    cases ho:rec .operand ⟨s.i+1,s.N⟩ with
    | error e=>
     have hre:res=.error e:=by rw [← HQ.out,if_pos HU.out]; simp [PM.bind,pSkip,ho]
     subst hre
     simp only [ho,fnOf,moreOf] at hE
     clear ho
     go_wp2_with fail
     generalize w4.setCell _ _=w8 at HR4 hE m1 m3 ⊢
     go_region_with (go_at_call 168; refine (hE _ (Below.refl _ _).drew).mono ?_; rintro x w9 ⟨rfl,T9⟩; refine idle_of w9 ⟨rfl,rfl,(HR4.out.1.below (Below.refl _ _).drew).bad T9⟩ ?_)
     all_goals trivial
    | ok kt=>
     obtain ⟨ko,t⟩:=kt
     have hre:res=.ok (t.N.length,⟨t.i,t.N++[⟨14,tt,⟨#[]⟩,0,[(ko:Int)],ta⟩]⟩):=by rw [← HQ.out,if_pos HU.out]; simp [PM.bind,pSkip,ho,pAdd]
     obtain ⟨q1,q2⟩:=HP.out.2.1 _ _ hre
     have HF:=Hid.mk7 (And.intro q1 q2)
     subst hre
     simp only [ho,fnOf,moreOf] at hE
     clear ho q1 q2
     go_wp2_with fail
     generalize w4.setCell _ _=w8 at HR4 hE m1 m3 ⊢
     go_region_with (first
      | (go_at_call 78; refine c9.mono ?_; rintro x w10 ⟨rfl,Nv10,r10,_⟩; have H10:=Hid.mk7 r10; clear r10)
      | (go_at_call 168; refine (hE _ (Below.refl _ _).drew).mono ?_; intro x w9 hx; obtain ⟨rfl,Nv9,M9,r9,S9,_⟩:=(HR4.out.1.below (Below.refl _ _).drew).rd hx; have T9:=(HR4.out.2.trans (Turned.drew _ _) (T:=fun k=>k=g∨blk Nv k) (fun _ e=>.inl e)).trans S9.t (fun _ e=>.inl e); have p1:=T9.cell (p:=⟨w1.heap.size,1,none⟩) (v:=.string tt) (by simp) hq; have p3:=T9.cell (p:=⟨w1.heap.size,3,none⟩) (v:=.int .i64 ta) (by simp) hq; have l9:w1.heap.size < w9.heap.size:=World.block_lt_of_cell? w9 _ p1; have c9:=rg_add (r9.below (Below.alloc0 w9 (.cells #[.int .i64 (ko:Int)] 3))) hT ⟨14,tt,⟨#[]⟩,0,.slice (some ⟨w9.heap.size,0,none⟩) 1 1,[(ko:Int)],ta⟩ (Kd.one r9 hT (ko:Int)) HF.out.1 HF.out.2; simp only [Nd.val] at c9; clear hx r9 S9 T9))
     all_goals
      go_wp2
      go_ret
      exact H10.out.of
   | false=>
    have hu:isUn ⟨tk,tt,tn,ta⟩=false:=by simp [isUn,isTk,ea,eb,ec]
    have c5:=HP.out.2.2 w4 g Tv Nv _ (HR.out.below HB4.out).ps
    have hre:res=single T rec ⟨tk,tt,tn,ta⟩ s:=by rw [← HQ.out,hu]; rfl
    rw [← hre] at c5
    have HR5:=Hid.mk7 (HR.out.below HB4.out)
    clear hu hre
    cases res with
    | error e=>
     go_wp2_with fail
     refine c5.mono ?_
     rintro x w5 ⟨rfl,T5⟩
     exact ⟨rfl,rfl,HR5.out.bad T5⟩
    | ok bt=>
     obtain ⟨b,u⟩:=bt
     go_wp2_with fail
     refine c5.mono ?_
     intro x w5 hx
     obtain ⟨rfl,Nv5,M5,r5,_⟩:=HR5.out.rd hx
     have H5:=Hid.mk7 r5
     clear c5 hx r5 k0 k1 k2 k3
     go_wp2
     go_ret
     exact H5.out.of
end Go.Proofs.YtlciaafincgdeaaGreatDoor
