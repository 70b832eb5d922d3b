/-
  Layer 11 (parse): what stands in brackets.
  Layer 11 (parse): a clause of a function.
  Layer 11 (parse): exports.
  Layer 11 (parse): one export.
  Layer 11 (parse): the levels of all tokens, as the program tells them; an operator's node; what stands on both sides.
  Layer 11 (parse): the program's functions.
  Layer 11 (parse): the program's modules of one function.
-/
import Derived.Test.YtlciaafincgdeaaGreatDoorZal
import Derived.Test.YtlciaafincgdeaaGreatDoorZad
namespace Go.Proofs.YtlciaafincgdeaaGreatDoor
open Go.RowKit
variable {N:List Nd} {Nv Tv:Value} {T:List Tk} {g i:Nat} {l:List Int} {rec:Ph→PM Nat} {s:Ps} {w:World}
set_option maxHeartbeats 6400000
set_option maxRecDepth 100000
theorem Env.list {i0:Nat} (E:Env T rec i0) {t:Ps} (ht:S2 T t t) (hc:Cnt T t):∀ a u,list T rec t=.ok (a,u)→S2 T u u∧Cnt T u:=fun _ _ e=>⟨((list_ok2 (Alike.refl T) E.ok2 ht).fin (by omega) hc e).1,((list_ok2 (Alike.refl T) E.ok2 ht).fin (by omega) hc e).2.1⟩
theorem rd_bracketed (E:Env T rec (s.i+1)) (hfin:∀ a t,bracketed T rec (tokAt T s.i) s=.ok (a,t)→S2 T t t∧Cnt T t) (h:PS w g Tv T Nv N s) :
  Calls Tryz.prog 185 #[.pointer (some ⟨g,0,none⟩),(tokAt T s.i).val] w (Rd T w g Tv Nv N (bracketed T rec (tokAt T s.i) s)):=by
 obtain ⟨res,hres⟩:∃ res,bracketed T rec (tokAt T s.i) s=res:=⟨_,rfl⟩
 rw [hres]
 have HQ:=Hid.mk7 hres
 have htl:=h.at_.tl
 have hmf:=Tryz.makeFn
 have HP:=Hid.mk7 (And.intro E (And.intro hfin h))
 clear hres hfin E h
 generalize tokAt T s.i=t at HQ HP ⊢
 obtain ⟨tk,tt,tn,ta⟩:=t
 simp only [Tk.val]
 have r1:=(Rg.refl HP.out.2.2).below (Below.alloc0 w (.cells #[.int .i64 tk,.string tt,.int .i64 tn,.int .i64 ta] 40))
 have HR1:=Hid.mk7 r1
 clear r1
 by_cases h1:tt=⟨#[123]⟩
 ·subst h1
  have hE:=fun W (hW:Below _ _ W)=>rd_enclosed_whole (HP.out.1.fwd (.expr 1) (by simp [okPh])) HP.out.1.whole ⟨#[123]⟩ ⟨#[125]⟩ (s:=s) (Nat.le_refl _) (HR1.out.below hW).ps
  cases hen:enclosed T ⟨#[123]⟩ ⟨#[125]⟩ (rec (.expr 1)) s with
  | error e=>
   have hre:res=.error e:=by rw [← HQ.out]; simp [bracketed,whole,PM.bind,hen]
   subst hre
   simp only [hen] at hE
   clear hen
   go_enter Tryz.func185,Tryz.ntmps185
   go_wp2_with fail
   go_region_with (go_at_call 118; refine (hE _ (Below.refl _ _).drew).mono ?_; rintro x w5 ⟨rfl,T5⟩; refine idle_of w5 ⟨rfl,rfl,(HR1.out.below (Below.refl _ _).drew).bad T5⟩ ?_)
   all_goals trivial
  | ok kt=>
   obtain ⟨ks,t⟩:=kt
   have hT:0 < T.length:=by
    cases hsg:sgn T ⟨#[123]⟩ s.i with
    | false=>simp [enclosed,PM.bind,pNeed,hsg] at hen
    | true=>have:=sgn_lt hsg; omega
   have hre:bracketed T rec ⟨tk,⟨#[123]⟩,tn,ta⟩ s=.ok (t.N.length,⟨t.i,t.N++[⟨4,⟨#[]⟩,⟨#[]⟩,0,ks,ta⟩]⟩):=by simp [bracketed,whole,PM.bind,hen,pAdd]
   obtain ⟨q1,q2⟩:=HP.out.2.1 _ _ hre
   have hre2:res=.ok (t.N.length,⟨t.i,t.N++[⟨4,⟨#[]⟩,⟨#[]⟩,0,ks,ta⟩]⟩):=HQ.out.symm.trans hre
   subst hre2
   have HF:=Hid.mk7 (And.intro q1 q2)
   simp only [hen] at hE
   have hfr:∀ w5 (x:Ending),RdL T (w.alloc (.cells #[.int .i64 tk,.string ⟨#[123]⟩,.int .i64 tn,.int .i64 ta] 40)).drew g Tv Nv (N++[]) (.ok (ks,t)) x w5→∃ a c,x=.returned (.slice a ks.length c)∧(∃ Nv5 M5,Rg T w w5 g Tv Nv N t Nv5 M5∧Kd T w w5 g Tv Nv5 (N++M5) (.slice a ks.length c) ks)∧w5.cell? ⟨w.heap.size,3,none⟩=some (.int .i64 ta):=fun w5 x hx=>by
    obtain ⟨V5,e,Nv5,M5,r5,k5,S5,_⟩:=(HR1.out.below (Below.refl _ _).drew).rdL hx
    obtain ⟨a5,c5,hV,_⟩:=OwnK.sl k5.own |>.form
    subst hV
    have f:=HP.out.2.2.at_.free hT w.heap.size (Nat.le_refl _)
    refine ⟨a5,c5,e,⟨Nv5,M5,r5,k5⟩,?_⟩
    exact ((Turned.drew _ _).trans S5.t (fun _ e=>.inl e)).cell (S:=fun k=>k=g∨blk Nv k) (by simp) (fun e=>e.elim f.g f.n)
   clear hen hre q1 q2
   go_enter Tryz.func185,Tryz.ntmps185
   go_wp2_with fail
   go_region_with (first
    | (go_at_call 78; refine c6.mono ?_; rintro x w6 ⟨rfl,Nv6,r6,_⟩; have H6:=Hid.mk7 r6; clear r6)
    | (go_at_call 118; refine (hE _ (Below.refl _ _).drew).mono ?_; intro x w5 hx; obtain ⟨a5,q5,rfl,⟨Nv5,M5,r5,k5⟩,n3⟩:=hfr _ _ hx; have c6:=rg_add r5 hT ⟨4,⟨#[]⟩,⟨#[]⟩,0,.slice a5 ks.length q5,ks,ta⟩ k5 HF.out.1 HF.out.2; simp only [Nd.val] at c6; clear hx r5 k5))
   all_goals
    go_wp2
    go_ret
    exact H6.out.of
 ·by_cases h2:tt=⟨#[91]⟩
  ·subst h2
   have c2:=rd_list HP.out.1 (HP.out.1.list HP.out.2.2.ok HP.out.2.2.cnt) HR1.out.ps
   cases hl:list T rec s with
   | error e=>
    have hre:res=.error e:=by rw [← HQ.out]; simp [bracketed,hl]
    subst hre
    rw [hl] at c2
    clear hl h1
    go_enter Tryz.func185,Tryz.ntmps185
    go_wp2_with fail
    refine c2.mono ?_
    rintro x w2 ⟨rfl,T2⟩
    exact ⟨rfl,rfl,HR1.out.bad T2⟩
   | ok bt=>
    obtain ⟨b,u⟩:=bt
    have hre:res=.ok (b,u):=by rw [← HQ.out]; simp [bracketed,hl]
    subst hre
    rw [hl] at c2
    clear hl h1
    go_enter Tryz.func185,Tryz.ntmps185
    go_wp2_with fail
    refine c2.mono ?_
    intro x w2 hx
    obtain ⟨rfl,Nv2,M2,r2,_⟩:=HR1.out.rd hx
    have H2:=Hid.mk7 r2
    clear c2 hx r2
    go_wp2
    go_ret
    exact H2.out.of
  ·have hb1:(tt.toList == [123])=false:=by
    have h9:=bytes_ne h1
    simpa [ByteArray.toList_eq] using h9
   have hb2:(tt.toList == [91])=false:=by
    have h9:=bytes_ne h2
    simpa [ByteArray.toList_eq] using h9
   have HN:=Hid.mk7 (And.intro h1 h2)
   clear h1 h2
   cases h3:sgn T ⟨#[40]⟩ s.i with
   | false=>
    have hre:res=.error s.i:=by rw [← HQ.out]; simp [bracketed,HN.out.1,HN.out.2,PM.bind,pNeed,h3]
    subst hre
    have c3:=rg_sign_bad HR1.out h3
    clear h3
    go_enter Tryz.func185,Tryz.ntmps185
    go_wp2_with fail
    refine c3.mono ?_
    rintro x w3 ⟨rfl,T3⟩
    exact ⟨rfl,rfl,T3⟩
   | true=>
    have c3:=rg_sign HR1.out h3
    unfold Tkn at c3
    generalize (tokAt T s.i).val=tv3 at c3
    have H3:=Hid.mk7 h3
    clear h3
    go_enter Tryz.func185,Tryz.ntmps185
    go_wp2_with fail
    refine c3.mono ?_
    rintro x w3 ⟨rfl,r3,_⟩
    have c4:=HP.out.1.whole ⟨s.i+1,s.N⟩ (Nat.le_refl _) _ g Tv _ _ r3.ps
    have HR3:=Hid.mk7 r3
    clear c3 r3
    cases hw:whole rec ⟨s.i+1,s.N⟩ with
    | error e=>
     have hre:res=.error e:=by rw [← HQ.out]; simp [bracketed,HN.out.1,HN.out.2,PM.bind,pNeed,H3.out,hw]
     subst hre
     rw [hw] at c4
     clear hw
     go_wp2_with fail
     refine c4.mono ?_
     rintro x w4 ⟨rfl,T4⟩
     exact ⟨rfl,rfl,HR3.out.bad T4⟩
    | ok at_=>
     obtain ⟨a,t⟩:=at_
     rw [hw] at c4
     have HW:=Hid.mk7 hw
     clear hw
     go_wp2_with fail
     refine c4.mono ?_
     intro x w4 hx
     obtain ⟨rfl,Nv4,M4,r4,_⟩:=HR3.out.rd hx
     clear c4 hx
     cases h5:sgn T ⟨#[41]⟩ t.i with
     | false=>
      have hre:res=.error t.i:=by rw [← HQ.out]; simp [bracketed,HN.out.1,HN.out.2,PM.bind,pNeed,H3.out,HW.out,h5]
      subst hre
      have c5:=rg_sign_bad r4 h5
      clear r4 h5
      go_wp2_with fail
      refine c5.mono ?_
      rintro x w5 ⟨rfl,T5⟩
      exact ⟨rfl,rfl,T5⟩
     | true=>
      have hre:res=.ok (a,⟨t.i+1,t.N⟩):=by rw [← HQ.out]; simp [bracketed,HN.out.1,HN.out.2,PM.bind,pNeed,H3.out,HW.out,h5,PM.ret]
      subst hre
      have c5:=rg_sign r4 h5
      unfold Tkn at c5
      generalize (tokAt T t.i).val=tv5 at c5
      clear r4 h5
      go_wp2_with fail
      refine c5.mono ?_
      rintro x w5 ⟨rfl,r5,_⟩
      have H5:=Hid.mk7 r5
      clear c5 r5
      go_wp2
      go_ret
      exact H5.out.of
theorem rd_fclause (E:Env T rec (s.i+1)) (h:PS w g Tv T Nv N s) :
  Calls Tryz.prog 121 #[.pointer (some ⟨g,0,none⟩)] w (Rd T w g Tv Nv N (phBody T rec .fclause s)):=by
 obtain ⟨res,hres⟩:∃ res,phBody T rec .fclause s=res:=⟨_,rfl⟩
 rw [hres]
 have HQ:=Hid.mk7 hres
 have htl:=h.at_.tl
 have r0:=Rg.refl h
 have hfa:=Tryz.tokPlace
 have HP:=Hid.mk7 (And.intro E h)
 clear hres E h
 cases h1:knd T 1 s.i with
 | false=>
  have hre:res=.error s.i:=by rw [← HQ.out]; simp [phBody,PM.bind,pNeed,h1]
  subst hre
  have c1:=rg_kind_bad r0 h1
  clear r0 h1
  go_enter Tryz.func121,Tryz.ntmps121
  go_wp2_with fail
  refine c1.mono ?_
  rintro x w1 ⟨rfl,T1⟩
  exact ⟨rfl,rfl,T1⟩
 | true=>
  have hT:0 < T.length:=by have:=knd_lt (by decide) h1; omega
  have c1:=rg_kind r0 (by decide) h1
  unfold Tkn at c1
  have H1:=Hid.mk7 h1
  obtain ⟨tk,htk⟩:∃ tk,tokAt T s.i=tk:=⟨_,rfl⟩
  rw [htk] at c1
  obtain ⟨ok,hok⟩:∃ ok,tokAt T (s.i+1)=ok:=⟨_,rfl⟩
  have HT:=Hid.mk7 (And.intro htk hok)
  clear r0 h1 htk hok
  obtain ⟨tk,tt,tn,ta⟩:=tk
  obtain ⟨ok,ot,on_,oa⟩:=ok
  simp only [Tk.val] at c1
  go_enter Tryz.func121,Tryz.ntmps121
  go_wp2_with fail
  refine c1.mono ?_
  rintro x w1 ⟨rfl,r1,_⟩
  have r2:=r1.below (Below.alloc0 w1 (.cells #[.int .i64 tk,.string tt,.int .i64 tn,.int .i64 ta] 40))
  have f:=r1.ps.at_.free hT w1.heap.size (Nat.le_refl _)
  have c3:=rg_peek r2
  rw [show tokAt T (⟨s.i+1,s.N⟩:Ps).i=⟨ok,ot,on_,oa⟩ from HT.out.2] at c3
  simp only [Tk.val] at c3
  have HFr:=Hid.mk7 f
  clear c1 r1 r2 f
  go_wp2_with fail
  refine c3.mono ?_
  rintro x w3 ⟨rfl,r3,hb3⟩
  have c4:=rd_arguments (HP.out.1.fwd (.expr 1) (by simp [okPh])) HP.out.1.whole (s:=⟨s.i+1,s.N⟩) (Nat.le_succ _) r3.ps
  have hps:=r3.ps
  have HR3:=Hid.mk7 (And.intro r3 hb3)
  clear c3 r3 hb3
  cases ha:arguments T rec ⟨s.i+1,s.N⟩ with
  | error e=>
   have hre:res=.error e:=by rw [← HQ.out]; simp [phBody,PM.bind,pNeed,pTok,H1.out,ha]
   subst hre
   rw [ha] at c4
   clear ha hps
   go_wp2_with fail
   refine c4.mono ?_
   rintro x w4 ⟨rfl,T4⟩
   exact ⟨rfl,rfl,HR3.out.1.bad T4⟩
  | ok kt=>
   obtain ⟨ks,t⟩:=kt
   have hpre:PM.bind (arguments T rec) (fun ks=>pAdd ⟨25,⟨#[]⟩,⟨#[]⟩,0,ks,oa⟩) ⟨s.i+1,s.N⟩=.ok (t.N.length,⟨t.i,t.N++[⟨25,⟨#[]⟩,⟨#[]⟩,0,ks,oa⟩]⟩):=by simp [PM.bind,ha,pAdd]
   obtain ⟨q1,q2,q3⟩:=(Ok2.bind (arguments_ok2 (Alike.refl T) HP.out.1.ok2 hps.ok) (k:=fun ks=>pAdd ⟨25,⟨#[]⟩,⟨#[]⟩,0,ks,oa⟩) (k':=fun ks=>pAdd ⟨25,⟨#[]⟩,⟨#[]⟩,0,ks,oa⟩) fun b b' u u' hu vb _ _=>Ok2.add hu (by simp [Sh.bare,vb.1]) vb.2).fin (by omega) hps.cnt hpre
   have hrs:res=rest T rec ⟨20,tt,⟨#[]⟩,0,[],ta⟩ t.N.length ⟨t.i,t.N++[⟨25,⟨#[]⟩,⟨#[]⟩,0,ks,oa⟩]⟩:=by rw [← HQ.out]; simp [phBody,PM.bind,pNeed,pTok,H1.out,ha,pAdd,HT.out.1,HT.out.2]
   have hfin:=fun n=>HP.out.1.rest (n:=n) (p:=t.N.length) q1 (by simp) q2
   have HF:=Hid.mk7 (And.intro q1 (And.intro q2 (And.intro hrs (And.intro hfin q3))))
   rw [ha] at c4
   clear ha hps hpre q1 q2 q3 hrs hfin
   go_wp2_with fail
   refine c4.mono ?_
   intro x w4 hx
   obtain ⟨V4,rfl,Nv4,M4,r4,k4,S4,_⟩:=HR3.out.1.rdL hx
   obtain ⟨a4,q4,hV4,_⟩:=OwnK.sl k4.own |>.form
   subst hV4
   have c5:=rg_add r4 hT ⟨25,⟨#[]⟩,⟨#[]⟩,0,.slice a4 ks.length q4,ks,oa⟩ k4 HF.out.1 HF.out.2.1
   simp only [Nd.val] at c5
   have T4:Turned (fun k=>k=g∨blk Nv k) (w1.alloc (.cells #[.int .i64 tk,.string tt,.int .i64 tn,.int .i64 ta] 40)) w4:=(Turned.ofBelow HR3.out.2).trans S4.t (fun _ e=>.inl e)
   have HS4:=Hid.mk7 (And.intro T4 S4.n)
   have hz3:=HR3.out.2.size
   have Hz3:=Hid.mk7 hz3
   clear c4 hx r4 k4 S4 T4 hz3
   go_wp2_with fail
   refine c5.mono ?_
   rintro x w5 ⟨rfl,Nv5,r5,S5⟩
   have T5:Turned (fun k=>k=g∨blk Nv k) (w1.alloc (.cells #[.int .i64 tk,.string tt,.int .i64 tn,.int .i64 ta] 40)) w5:=HS4.out.1.trans S5.t (fun k e=>e.elim (fun e=>.inl (.inl e)) (fun e=>(HS4.out.2 k e).elim (fun e=>.inl (.inr e)) (fun e=>.inr (Nat.le_trans Hz3.out e))))
   have hq:¬ (w1.heap.size=g∨blk Nv w1.heap.size):=fun e=>e.elim HFr.out.g HFr.out.n
   have n1:=T5.cell (p:=⟨w1.heap.size,1,none⟩) (v:=.string tt) (by simp) hq
   have n3:=T5.cell (p:=⟨w1.heap.size,3,none⟩) (v:=.int .i64 ta) (by simp) hq
   have c6:Calls Tryz.prog 134 #[.pointer (some ⟨g,0,none⟩),.agg #[.int .i64 20,.string tt,.string ⟨#[]⟩,.int .i64 0,.slice none 0 0,.int .i64 ta],.int .i64 (t.N.length:Int)] w5 (Rd T w5 g Tv Nv5 (N++(M4++[⟨25,⟨#[]⟩,⟨#[]⟩,0,.slice a4 ks.length q4,ks,oa⟩])) res):=by
    rw [HF.out.2.2.1]
    have h9:s.i+1≤t.i:=HF.out.2.2.2.2
    exact rd_rest 20 tt ⟨#[]⟩ 0 ta t.N.length ((HP.out.1.run .guard trivial).up (by show s.i+1≤t.i+1; omega)) (HP.out.1.fwd .guard trivial) ((HP.out.1.run .body trivial).up (by show s.i+1≤t.i+1; omega)) hT (HF.out.2.2.2.1 _) r5.ps
   have H5:=Hid.mk7 r5
   clear c5 r5 S5 T5 hq
   cases res with
   | error e=>
    go_wp2_with fail
    refine c6.mono ?_
    rintro x w6 ⟨rfl,T6⟩
    exact ⟨rfl,rfl,H5.out.bad T6⟩
   | ok bt=>
    obtain ⟨b,u⟩:=bt
    go_wp2_with fail
    refine c6.mono ?_
    intro x w6 hx
    obtain ⟨rfl,Nv6,M6,r6,_⟩:=H5.out.rd hx
    have H6:=Hid.mk7 r6
    clear c6 hx r6 n1 n3
    go_wp2
    go_ret
    exact H6.out.of
theorem rd_exports (E:Env T rec (s.i+1)) (h:PS w g Tv T Nv N s) :
  Calls Tryz.prog 99 #[.pointer (some ⟨g,0,none⟩)] w (RdL T w g Tv Nv N (exports T rec s)):=by
 obtain ⟨res,hres⟩:∃ res,exports T rec s=res:=⟨_,rfl⟩
 rw [hres]
 have HQ:=Hid.mk7 hres
 have htl:=h.at_.tl
 have hmf:=Tryz.makeFn
 have r0:=Rg.refl h
 have HP:=Hid.mk7 (And.intro E h)
 clear hres E h
 go_enter Tryz.func99,Tryz.ntmps99
 cases h1:sgn T ⟨#[45]⟩ s.i with
 | false=>
  have hre:res=.error s.i:=by rw [← HQ.out]; simp [exports,PM.bind,pNeed,h1]
  subst hre
  have c1:=rg_sign_bad r0 h1
  clear h1
  go_wp2_with fail
  refine c1.mono ?_
  rintro x w1 ⟨rfl,T1⟩
  exact ⟨rfl,rfl,T1⟩
 | true=>
  have c1:=rg_sign r0 h1
  unfold Tkn at c1
  generalize (tokAt T _).val=tv1 at c1
  have H1:=Hid.mk7 h1
  clear h1
  go_wp2_with fail
  refine c1.mono ?_
  rintro x w1 ⟨rfl,r1,G1⟩
  clear c1
  cases h2:atm T ⟨#[101,120,112,111,114,116]⟩ (s.i+1) with
  | false=>
   have hre:res=.error (s.i+1):=by rw [← HQ.out]; simp [exports,PM.bind,pNeed,H1.out,h2]
   subst hre
   have c2:=rg_atom_bad r1 h2
   clear h2
   go_wp2_with fail
   refine c2.mono ?_
   rintro x w2 ⟨rfl,T2⟩
   exact ⟨rfl,rfl,T2⟩
  | true=>
   have c2:=rg_atom r1 h2
   unfold Tkn at c2
   generalize (tokAt T _).val=tv2 at c2
   have H2:=Hid.mk7 h2
   clear h2
   go_wp2_with fail
   refine c2.mono ?_
   rintro x w2 ⟨rfl,r2,G2⟩
   clear c2
   cases h3:sgn T ⟨#[40]⟩ (s.i+1+1) with
   | false=>
    have hre:res=.error (s.i+1+1):=by rw [← HQ.out]; simp [exports,PM.bind,pNeed,H1.out,H2.out,h3]
    subst hre
    have c3:=rg_sign_bad r2 h3
    clear h3
    go_wp2_with fail
    refine c3.mono ?_
    rintro x w3 ⟨rfl,T3⟩
    exact ⟨rfl,rfl,T3⟩
   | true=>
    have c3:=rg_sign r2 h3
    unfold Tkn at c3
    generalize (tokAt T _).val=tv3 at c3
    have H3:=Hid.mk7 h3
    clear h3
    go_wp2_with fail
    refine c3.mono ?_
    rintro x w3 ⟨rfl,r3,G3⟩
    clear c3
    have c4:=rd_enclosed_export (HP.out.1.fwd .export trivial) (HP.out.1.run .export trivial) ⟨#[91]⟩ ⟨#[93]⟩ (s:=⟨s.i+1+1+1,s.N⟩) (by show s.i+1≤s.i+1+1+1+1; omega) r3.ps
    have HR3:=Hid.mk7 r3
    clear r3 G1 G2 G3
    cases hen:enclosed T ⟨#[91]⟩ ⟨#[93]⟩ (rec .export) ⟨s.i+1+1+1,s.N⟩ with
    | error e=>
     have hre:res=.error e:=by rw [← HQ.out]; simp [exports,PM.bind,pNeed,H1.out,H2.out,H3.out,hen]
     subst hre
     rw [hen] at c4
     clear hen
     go_wp2_with fail
     refine c4.mono ?_
     rintro x w4 ⟨rfl,T4⟩
     exact ⟨rfl,rfl,HR3.out.bad T4⟩
    | ok kt=>
     obtain ⟨ks,t⟩:=kt
     rw [hen] at c4
     have HW:=Hid.mk7 hen
     clear hen
     go_wp2_with fail
     refine c4.mono ?_
     intro x w4 hx
     obtain ⟨V,rfl,Nv4,M4,r4,k4,_⟩:=HR3.out.rdL hx
     obtain ⟨aV,cV,hV,_⟩:=OwnK.sl k4.own |>.form
     subst hV
     have HK:=Hid.mk7 k4
     clear c4 hx k4
     cases h5:sgn T ⟨#[41]⟩ t.i with
     | false=>
      have hre:res=.error t.i:=by rw [← HQ.out]; simp [exports,PM.bind,pNeed,H1.out,H2.out,H3.out,HW.out,h5]
      subst hre
      have c5:=rg_sign_bad r4 h5
      clear h5
      go_wp2_with fail
      refine c5.mono ?_
      rintro x w5 ⟨rfl,T5⟩
      exact ⟨rfl,rfl,T5⟩
     | true=>
      have c5:=rg_sign r4 h5
      unfold Tkn at c5
      generalize (tokAt T _).val=tv5 at c5
      have H5:=Hid.mk7 h5
      clear h5
      go_wp2_with fail
      refine c5.mono ?_
      rintro x w5 ⟨rfl,r5,G5⟩
      clear c5
      cases h6:knd T 6 (t.i+1) with
      | false=>
       have hre:res=.error (t.i+1):=by rw [← HQ.out]; simp [exports,PM.bind,pNeed,H1.out,H2.out,H3.out,HW.out,H5.out,h6]
       subst hre
       have c6:=rg_kind_bad r5 h6
       clear h6
       go_wp2_with fail
       refine c6.mono ?_
       rintro x w6 ⟨rfl,T6⟩
       exact ⟨rfl,rfl,T6⟩
      | true=>
       have c6:=rg_kind r5 (by decide) h6
       unfold Tkn at c6
       generalize (tokAt T _).val=tv6 at c6
       have H6:=Hid.mk7 h6
       clear h6
       go_wp2_with fail
       refine c6.mono ?_
       rintro x w6 ⟨rfl,r6,G6⟩
       clear c6
       have H9:=Hid.mk7 (And.intro r6 ((HK.out.ofG G5).ofG G6))
       have hre:res=.ok (ks,⟨t.i+1+1,t.N⟩):=by rw [← HQ.out]; simp [exports,PM.bind,pNeed,H1.out,H2.out,H3.out,HW.out,H5.out,H6.out,PM.ret]
       subst hre
       clear r6 G6
       go_wp2
       go_ret
       exact Rg.ofL H9.out.1 H9.out.2
theorem rd_export (hfin:∀ a t,phBody T rec .export s=.ok (a,t)→S2 T t t∧Cnt T t) (h:PS w g Tv T Nv N s) :
  Calls Tryz.prog 119 #[.pointer (some ⟨g,0,none⟩)] w (Rd T w g Tv Nv N (phBody T rec .export s)):=by
 obtain ⟨res,hres⟩:∃ res,phBody T rec .export s=res:=⟨_,rfl⟩
 rw [hres]
 have HQ:=Hid.mk7 hres
 have htl:=h.at_.tl
 have r0:=Rg.refl h
 have hfi:=Tryz.tokInt
 have HP:=Hid.mk7 hfin
 clear hres hfin h
 cases h1:knd T 1 s.i with
 | false=>
  have hre:res=.error s.i:=by rw [← HQ.out]; simp [phBody,PM.bind,pNeed,h1]
  subst hre
  have c1:=rg_kind_bad r0 h1
  clear r0 h1
  go_enter Tryz.func119,Tryz.ntmps119
  go_wp2_with fail
  refine c1.mono ?_
  rintro x w1 ⟨rfl,T1⟩
  exact ⟨rfl,rfl,T1⟩
 | true=>
  have hT:0 < T.length:=by have:=knd_lt (by decide) h1; omega
  have c1:=rg_kind r0 (by decide) h1
  unfold Tkn at c1
  have H1:=Hid.mk7 h1
  obtain ⟨tk,htk⟩:∃ tk,tokAt T s.i=tk:=⟨_,rfl⟩
  rw [htk] at c1
  obtain ⟨ok,hok⟩:∃ ok,tokAt T (s.i+1+1)=ok:=⟨_,rfl⟩
  have HT:=Hid.mk7 (And.intro htk hok)
  clear r0 h1 htk hok
  obtain ⟨tk,tt,tn,ta⟩:=tk
  obtain ⟨ok,ot,on_,oa⟩:=ok
  simp only [Tk.val] at c1
  go_enter Tryz.func119,Tryz.ntmps119
  go_wp2_with fail
  refine c1.mono ?_
  rintro x w1 ⟨rfl,r1,_⟩
  have r2:=r1.below (Below.alloc0 w1 (.cells #[.int .i64 tk,.string tt,.int .i64 tn,.int .i64 ta] 40))
  have hgl:=r1.ps.at_.lt
  have HR2:=Hid.mk7 r2
  clear c1 r1 r2
  cases h2:sgn T ⟨#[47]⟩ (s.i+1) with
  | false=>
   have hre:res=.error (s.i+1):=by rw [← HQ.out]; simp [phBody,PM.bind,pNeed,H1.out,h2]
   subst hre
   have c2:=rg_sign_bad HR2.out h2
   clear h2
   go_wp2_with fail
   refine c2.mono ?_
   rintro x w2 ⟨rfl,T2⟩
   exact ⟨rfl,rfl,T2⟩
  | true=>
   have c2:=rg_sign HR2.out h2
   unfold Tkn at c2
   generalize (tokAt T _).val=tv2 at c2
   have H2:=Hid.mk7 h2
   clear h2
   go_wp2_with fail
   refine c2.mono ?_
   rintro x w3 ⟨rfl,r3,G3⟩
   have hq:w1.heap.size≠g:=by omega
   have n1:=G3.cell (p:=⟨w1.heap.size,1,none⟩) (v:=.string tt) (by simp) hq
   have n3:=G3.cell (p:=⟨w1.heap.size,3,none⟩) (v:=.int .i64 ta) (by simp) hq
   have HR3:=Hid.mk7 r3
   clear c2 r3 G3
   cases h3:knd T 3 (s.i+1+1) with
   | false=>
    have hre:res=.error (s.i+1+1):=by rw [← HQ.out]; simp [phBody,PM.bind,pNeed,H1.out,H2.out,h3]
    subst hre
    have c3:=rg_kind_bad (HR3.out.below (Below.refl _ _).drew) h3
    clear h3
    go_wp2_with fail
    go_region_with (go_at_call 96; refine c3.mono ?_; rintro x w4 ⟨rfl,T4⟩; refine idle_of w4 ⟨rfl,rfl,T4⟩ ?_)
    all_goals trivial
   | true=>
    have hre:phBody T rec .export s=.ok (s.N.length,⟨s.i+1+1+1,s.N++[⟨29,tt,⟨#[]⟩,on_,[],ta⟩]⟩):=by simp [phBody,PM.bind,pNeed,H1.out,H2.out,h3,pAdd,HT.out.1,HT.out.2]
    obtain ⟨q1,q2⟩:=HP.out _ _ hre
    have hre2:res=.ok (s.N.length,⟨s.i+1+1+1,s.N++[⟨29,tt,⟨#[]⟩,on_,[],ta⟩]⟩):=HQ.out.symm.trans hre
    subst hre2
    have HF:=Hid.mk7 (And.intro q1 q2)
    have c3:=rg_kind (HR3.out.below (Below.refl _ _).drew) (by decide) h3
    unfold Tkn at c3
    rw [show tokAt T (⟨s.i+1+1,s.N⟩:Ps).i=⟨ok,ot,on_,oa⟩ from HT.out.2] at c3
    simp only [Tk.val] at c3
    clear h3 hre q1 q2
    go_wp2_with fail
    go_region_with (first
     | (go_at_call 78; refine c5.mono ?_; rintro x w5 ⟨rfl,Nv5,r5,_⟩; have H5:=Hid.mk7 r5; clear r5)
     | (go_at_call 96; refine c3.mono ?_; rintro x w4 ⟨rfl,r4,G4⟩; have m1:=G4.cell (p:=⟨w1.heap.size,1,none⟩) (v:=.string tt) n1 hq; have m3:=G4.cell (p:=⟨w1.heap.size,3,none⟩) (v:=.int .i64 ta) n3 hq; have c5:=rg_add r4 hT ⟨29,tt,⟨#[]⟩,on_,.slice none 0 0,[],ta⟩ (Kd.nil _ _ _ _ _ _ _) HF.out.1 HF.out.2; simp only [Nd.val] at c5; clear r4 G4))
    all_goals
     go_wp2
     go_ret
     exact H5.out.of
theorem ps_levS_0 (w:World):Calls Tryz.prog 178 #[.string ⟨#[61]⟩] w fun e w'=>e=.returned (.int .i64 1)∧w=w':=by
 go_enter Tryz.func178,Tryz.ntmps178
 go_wp2
 all_goals go_ret
 all_goals exact ⟨rfl,rfl⟩
theorem ps_levS_1 (w:World):Calls Tryz.prog 178 #[.string ⟨#[33]⟩] w fun e w'=>e=.returned (.int .i64 1)∧w=w':=by
 go_enter Tryz.func178,Tryz.ntmps178
 go_wp2
 all_goals go_ret
 all_goals exact ⟨rfl,rfl⟩
theorem ps_levS_2 (w:World):Calls Tryz.prog 178 #[.string ⟨#[61,61]⟩] w fun e w'=>e=.returned (.int .i64 4)∧w=w':=by
 go_enter Tryz.func178,Tryz.ntmps178
 go_wp2
 all_goals go_ret
 all_goals exact ⟨rfl,rfl⟩
theorem ps_levS_3 (w:World):Calls Tryz.prog 178 #[.string ⟨#[47,61]⟩] w fun e w'=>e=.returned (.int .i64 4)∧w=w':=by
 go_enter Tryz.func178,Tryz.ntmps178
 go_wp2
 all_goals go_ret
 all_goals exact ⟨rfl,rfl⟩
theorem ps_levS_4 (w:World):Calls Tryz.prog 178 #[.string ⟨#[61,60]⟩] w fun e w'=>e=.returned (.int .i64 4)∧w=w':=by
 go_enter Tryz.func178,Tryz.ntmps178
 go_wp2
 all_goals go_ret
 all_goals exact ⟨rfl,rfl⟩
theorem ps_levS_5 (w:World):Calls Tryz.prog 178 #[.string ⟨#[60]⟩] w fun e w'=>e=.returned (.int .i64 4)∧w=w':=by
 go_enter Tryz.func178,Tryz.ntmps178
 go_wp2
 all_goals go_ret
 all_goals exact ⟨rfl,rfl⟩
theorem ps_levS_6 (w:World):Calls Tryz.prog 178 #[.string ⟨#[62,61]⟩] w fun e w'=>e=.returned (.int .i64 4)∧w=w':=by
 go_enter Tryz.func178,Tryz.ntmps178
 go_wp2
 all_goals go_ret
 all_goals exact ⟨rfl,rfl⟩
theorem ps_levS_7 (w:World):Calls Tryz.prog 178 #[.string ⟨#[62]⟩] w fun e w'=>e=.returned (.int .i64 4)∧w=w':=by
 go_enter Tryz.func178,Tryz.ntmps178
 go_wp2
 all_goals go_ret
 all_goals exact ⟨rfl,rfl⟩
theorem ps_levS_8 (w:World):Calls Tryz.prog 178 #[.string ⟨#[61,58,61]⟩] w fun e w'=>e=.returned (.int .i64 4)∧w=w':=by
 go_enter Tryz.func178,Tryz.ntmps178
 go_wp2
 all_goals go_ret
 all_goals exact ⟨rfl,rfl⟩
theorem ps_levS_9 (w:World):Calls Tryz.prog 178 #[.string ⟨#[61,47,61]⟩] w fun e w'=>e=.returned (.int .i64 4)∧w=w':=by
 go_enter Tryz.func178,Tryz.ntmps178
 go_wp2
 all_goals go_ret
 all_goals exact ⟨rfl,rfl⟩
theorem ps_levS_10 (w:World):Calls Tryz.prog 178 #[.string ⟨#[43,43]⟩] w fun e w'=>e=.returned (.int .i64 5)∧w=w':=by
 go_enter Tryz.func178,Tryz.ntmps178
 go_wp2
 all_goals go_ret
 all_goals exact ⟨rfl,rfl⟩
theorem ps_levS_11 (w:World):Calls Tryz.prog 178 #[.string ⟨#[45,45]⟩] w fun e w'=>e=.returned (.int .i64 5)∧w=w':=by
 go_enter Tryz.func178,Tryz.ntmps178
 go_wp2
 all_goals go_ret
 all_goals exact ⟨rfl,rfl⟩
theorem ps_levS_12 (w:World):Calls Tryz.prog 178 #[.string ⟨#[43]⟩] w fun e w'=>e=.returned (.int .i64 6)∧w=w':=by
 go_enter Tryz.func178,Tryz.ntmps178
 go_wp2
 all_goals go_ret
 all_goals exact ⟨rfl,rfl⟩
theorem ps_levS_13 (w:World):Calls Tryz.prog 178 #[.string ⟨#[45]⟩] w fun e w'=>e=.returned (.int .i64 6)∧w=w':=by
 go_enter Tryz.func178,Tryz.ntmps178
 go_wp2
 all_goals go_ret
 all_goals exact ⟨rfl,rfl⟩
theorem ps_levS_14 (w:World):Calls Tryz.prog 178 #[.string ⟨#[42]⟩] w fun e w'=>e=.returned (.int .i64 7)∧w=w':=by
 go_enter Tryz.func178,Tryz.ntmps178
 go_wp2
 all_goals go_ret
 all_goals exact ⟨rfl,rfl⟩
theorem ps_levS_no (x:ByteArray) (w:World) (h0:(x.toList == [61])=false) (h1:(x.toList == [33])=false) (h2:(x.toList == [61,61])=false) (h3:(x.toList == [47,61])=false) (h4:(x.toList == [61,60])=false) (h5:(x.toList == [60])=false) (h6:(x.toList == [62,61])=false) (h7:(x.toList == [62])=false) (h8:(x.toList == [61,58,61])=false) (h9:(x.toList == [61,47,61])=false) (h10:(x.toList == [43,43])=false) (h11:(x.toList == [45,45])=false) (h12:(x.toList == [43])=false) (h13:(x.toList == [45])=false) (h14:(x.toList == [42])=false):Calls Tryz.prog 178 #[.string x] w fun e w'=>e=.returned (.int .i64 0)∧w=w':=by
 go_enter Tryz.func178,Tryz.ntmps178
 go_wp2
 all_goals go_ret
 all_goals exact ⟨rfl,rfl⟩
theorem ps_levS (x:ByteArray) (w:World):Calls Tryz.prog 178 #[.string x] w fun e w'=>e=.returned (.int .i64 (levS x))∧w=w':=by
 by_cases h0:x=⟨#[61]⟩
 ·subst h0
  exact ps_levS_0 w
 by_cases h1:x=⟨#[33]⟩
 ·subst h1
  exact ps_levS_1 w
 by_cases h2:x=⟨#[61,61]⟩
 ·subst h2
  exact ps_levS_2 w
 by_cases h3:x=⟨#[47,61]⟩
 ·subst h3
  exact ps_levS_3 w
 by_cases h4:x=⟨#[61,60]⟩
 ·subst h4
  exact ps_levS_4 w
 by_cases h5:x=⟨#[60]⟩
 ·subst h5
  exact ps_levS_5 w
 by_cases h6:x=⟨#[62,61]⟩
 ·subst h6
  exact ps_levS_6 w
 by_cases h7:x=⟨#[62]⟩
 ·subst h7
  exact ps_levS_7 w
 by_cases h8:x=⟨#[61,58,61]⟩
 ·subst h8
  exact ps_levS_8 w
 by_cases h9:x=⟨#[61,47,61]⟩
 ·subst h9
  exact ps_levS_9 w
 by_cases h10:x=⟨#[43,43]⟩
 ·subst h10
  exact ps_levS_10 w
 by_cases h11:x=⟨#[45,45]⟩
 ·subst h11
  exact ps_levS_11 w
 by_cases h12:x=⟨#[43]⟩
 ·subst h12
  exact ps_levS_12 w
 by_cases h13:x=⟨#[45]⟩
 ·subst h13
  exact ps_levS_13 w
 by_cases h14:x=⟨#[42]⟩
 ·subst h14
  exact ps_levS_14 w
 have e:levS x=0:=by simp [levS,h0,h1,h2,h3,h4,h5,h6,h7,h8,h9,h10,h11,h12,h13,h14]
 rw [e]
 exact ps_levS_no x w (list_ne h0) (list_ne h1) (list_ne h2) (list_ne h3) (list_ne h4) (list_ne h5) (list_ne h6) (list_ne h7) (list_ne h8) (list_ne h9) (list_ne h10) (list_ne h11) (list_ne h12) (list_ne h13) (list_ne h14)
theorem ps_levW_0 (w:World):Calls Tryz.prog 179 #[.string ⟨#[111,114,101,108,115,101]⟩] w fun e w'=>e=.returned (.int .i64 2)∧w=w':=by
 go_enter Tryz.func179,Tryz.ntmps179
 go_wp2
 all_goals go_ret
 all_goals exact ⟨rfl,rfl⟩
theorem ps_levW_1 (w:World):Calls Tryz.prog 179 #[.string ⟨#[97,110,100,97,108,115,111]⟩] w fun e w'=>e=.returned (.int .i64 3)∧w=w':=by
 go_enter Tryz.func179,Tryz.ntmps179
 go_wp2
 all_goals go_ret
 all_goals exact ⟨rfl,rfl⟩
theorem ps_levW_2 (w:World):Calls Tryz.prog 179 #[.string ⟨#[111,114]⟩] w fun e w'=>e=.returned (.int .i64 6)∧w=w':=by
 go_enter Tryz.func179,Tryz.ntmps179
 go_wp2
 all_goals go_ret
 all_goals exact ⟨rfl,rfl⟩
theorem ps_levW_3 (w:World):Calls Tryz.prog 179 #[.string ⟨#[120,111,114]⟩] w fun e w'=>e=.returned (.int .i64 6)∧w=w':=by
 go_enter Tryz.func179,Tryz.ntmps179
 go_wp2
 all_goals go_ret
 all_goals exact ⟨rfl,rfl⟩
theorem ps_levW_4 (w:World):Calls Tryz.prog 179 #[.string ⟨#[100,105,118]⟩] w fun e w'=>e=.returned (.int .i64 7)∧w=w':=by
 go_enter Tryz.func179,Tryz.ntmps179
 go_wp2
 all_goals go_ret
 all_goals exact ⟨rfl,rfl⟩
theorem ps_levW_5 (w:World):Calls Tryz.prog 179 #[.string ⟨#[114,101,109]⟩] w fun e w'=>e=.returned (.int .i64 7)∧w=w':=by
 go_enter Tryz.func179,Tryz.ntmps179
 go_wp2
 all_goals go_ret
 all_goals exact ⟨rfl,rfl⟩
theorem ps_levW_6 (w:World):Calls Tryz.prog 179 #[.string ⟨#[97,110,100]⟩] w fun e w'=>e=.returned (.int .i64 7)∧w=w':=by
 go_enter Tryz.func179,Tryz.ntmps179
 go_wp2
 all_goals go_ret
 all_goals exact ⟨rfl,rfl⟩
theorem ps_levW_no (x:ByteArray) (w:World) (h0:(x.toList == [111,114,101,108,115,101])=false) (h1:(x.toList == [97,110,100,97,108,115,111])=false) (h2:(x.toList == [111,114])=false) (h3:(x.toList == [120,111,114])=false) (h4:(x.toList == [100,105,118])=false) (h5:(x.toList == [114,101,109])=false) (h6:(x.toList == [97,110,100])=false):Calls Tryz.prog 179 #[.string x] w fun e w'=>e=.returned (.int .i64 0)∧w=w':=by
 go_enter Tryz.func179,Tryz.ntmps179
 go_wp2
 all_goals go_ret
 all_goals exact ⟨rfl,rfl⟩
theorem ps_levW (x:ByteArray) (w:World):Calls Tryz.prog 179 #[.string x] w fun e w'=>e=.returned (.int .i64 (levW x))∧w=w':=by
 by_cases h0:x=⟨#[111,114,101,108,115,101]⟩
 ·subst h0
  exact ps_levW_0 w
 by_cases h1:x=⟨#[97,110,100,97,108,115,111]⟩
 ·subst h1
  exact ps_levW_1 w
 by_cases h2:x=⟨#[111,114]⟩
 ·subst h2
  exact ps_levW_2 w
 by_cases h3:x=⟨#[120,111,114]⟩
 ·subst h3
  exact ps_levW_3 w
 by_cases h4:x=⟨#[100,105,118]⟩
 ·subst h4
  exact ps_levW_4 w
 by_cases h5:x=⟨#[114,101,109]⟩
 ·subst h5
  exact ps_levW_5 w
 by_cases h6:x=⟨#[97,110,100]⟩
 ·subst h6
  exact ps_levW_6 w
 have e:levW x=0:=by simp [levW,h0,h1,h2,h3,h4,h5,h6]
 rw [e]
 exact ps_levW_no x w (list_ne h0) (list_ne h1) (list_ne h2) (list_ne h3) (list_ne h4) (list_ne h5) (list_ne h6)
theorem ps_lev (t:Tk):Lv t (lev t):=by
 obtain ⟨tk,tt,tn,ta⟩:=t
 by_cases h5:tk=5
 ·subst h5
  exact ps_lv_sign tt tn ta _ (ps_levS tt)
 ·by_cases h4:tk=4
  ·subst h4
   have e:lev ⟨4,tt,tn,ta⟩=levW tt:=by simp [lev]
   rw [e]
   intro w
   have h:=ps_levW tt
   generalize levW tt=l at h
   simp only [Tk.val]
   go_enter Tryz.func169,Tryz.ntmps169
   go_wp2_with (go_at_call 179; refine (h _).mono ?_; rintro e w1 ⟨rfl,rfl⟩)
   go_ret
   exact ⟨rfl,Below.alloc0 w _⟩
  ·have e:lev ⟨tk,tt,tn,ta⟩=0:=by simp [lev,h5,h4]
   rw [e]
   intro w
   have e5:(tk == 5)=false:=by simpa using h5
   have e4:(tk == 4)=false:=by simpa using h4
   clear e h5 h4
   simp only [Tk.val]
   go_enter Tryz.func169,Tryz.ntmps169
   go_wp2
   go_ret
   exact ⟨rfl,Below.alloc0 w _⟩
theorem lev_range (t:Tk):0≤lev t∧lev t≤7:=by
 unfold lev levS levW
 repeat' split
 all_goals omega
theorem ps_side_1 (w:World):Calls Tryz.prog 171 #[.int .i64 1] w fun e w'=>e=.returned (.tuple #[.int .i64 1,.int .i64 0])∧w=w':=by
 go_enter Tryz.func171,Tryz.ntmps171
 go_wp2
 go_ret2
 exact ⟨rfl,rfl⟩
theorem ps_side_2 (w:World):Calls Tryz.prog 171 #[.int .i64 2] w fun e w'=>e=.returned (.tuple #[.int .i64 2,.int .i64 1])∧w=w':=by
 go_enter Tryz.func171,Tryz.ntmps171
 go_wp2
 go_ret2
 exact ⟨rfl,rfl⟩
theorem ps_side_3 (w:World):Calls Tryz.prog 171 #[.int .i64 3] w fun e w'=>e=.returned (.tuple #[.int .i64 3,.int .i64 2])∧w=w':=by
 go_enter Tryz.func171,Tryz.ntmps171
 go_wp2
 go_ret2
 exact ⟨rfl,rfl⟩
theorem ps_side_4 (w:World):Calls Tryz.prog 171 #[.int .i64 4] w fun e w'=>e=.returned (.tuple #[.int .i64 5,.int .i64 3])∧w=w':=by
 go_enter Tryz.func171,Tryz.ntmps171
 go_wp2
 go_ret2
 exact ⟨rfl,rfl⟩
theorem ps_side_5 (w:World):Calls Tryz.prog 171 #[.int .i64 5] w fun e w'=>e=.returned (.tuple #[.int .i64 5,.int .i64 4])∧w=w':=by
 go_enter Tryz.func171,Tryz.ntmps171
 go_wp2
 go_ret2
 exact ⟨rfl,rfl⟩
theorem ps_side_6 (w:World):Calls Tryz.prog 171 #[.int .i64 6] w fun e w'=>e=.returned (.tuple #[.int .i64 7,.int .i64 6])∧w=w':=by
 go_enter Tryz.func171,Tryz.ntmps171
 go_wp2
 go_ret2
 exact ⟨rfl,rfl⟩
theorem ps_side_7 (w:World):Calls Tryz.prog 171 #[.int .i64 7] w fun e w'=>e=.returned (.tuple #[.int .i64 8,.int .i64 7])∧w=w':=by
 go_enter Tryz.func171,Tryz.ntmps171
 go_wp2
 go_ret2
 exact ⟨rfl,rfl⟩
theorem ps_sides (l:Int) (h1:1≤l) (h7:l≤7) (w:World):Calls Tryz.prog 171 #[.int .i64 l] w fun e w'=>e=.returned (.tuple #[.int .i64 (sidesR l),.int .i64 (sidesB l)])∧w=w':=by
 obtain rfl | rfl | rfl | rfl | rfl | rfl | rfl:l=1∨l=2∨l=3∨l=4∨l=5∨l=6∨l=7:=by omega
 ·exact ps_side_1 w
 ·exact ps_side_2 w
 ·exact ps_side_3 w
 ·exact ps_side_4 w
 ·exact ps_side_5 w
 ·exact ps_side_6 w
 ·exact ps_side_7 w
theorem ps_oper_0 (tk tn ta:Int) (w:World):Calls Tryz.prog 170 #[(⟨tk,⟨#[61]⟩,tn,ta⟩:Tk).val] w fun e w'=>e=.returned (.agg #[.int .i64 7,.string ⟨#[]⟩,.string ⟨#[]⟩,.int .i64 0,.slice none 0 0,.int .i64 ta])∧Below w.heap.size w w':=by
 simp only [Tk.val]
 go_enter Tryz.func170,Tryz.ntmps170
 go_wp2
 refine bodyPost_ret (v:=.agg #[.int .i64 7,.string ⟨#[]⟩,.string ⟨#[]⟩,.int .i64 0,.slice none 0 0,.int .i64 ta]) (by simp [results,Tryz.results170,go_sem]) rfl ⟨rfl,?_⟩
 exact ((Below.alloc0 w _).trans ((Below.alloc0 _ _).mono (by simp)))
theorem ps_oper_1 (tk tn ta:Int) (w:World):Calls Tryz.prog 170 #[(⟨tk,⟨#[33]⟩,tn,ta⟩:Tk).val] w fun e w'=>e=.returned (.agg #[.int .i64 11,.string ⟨#[]⟩,.string ⟨#[]⟩,.int .i64 0,.slice none 0 0,.int .i64 ta])∧Below w.heap.size w w':=by
 simp only [Tk.val]
 go_enter Tryz.func170,Tryz.ntmps170
 go_wp2
 refine bodyPost_ret (v:=.agg #[.int .i64 11,.string ⟨#[]⟩,.string ⟨#[]⟩,.int .i64 0,.slice none 0 0,.int .i64 ta]) (by simp [results,Tryz.results170,go_sem]) rfl ⟨rfl,?_⟩
 exact ((Below.alloc0 w _).trans ((Below.alloc0 _ _).mono (by simp)))
theorem ps_oper_2 (tk tn ta:Int) (w:World):Calls Tryz.prog 170 #[(⟨tk,⟨#[111,114,101,108,115,101]⟩,tn,ta⟩:Tk).val] w fun e w'=>e=.returned (.agg #[.int .i64 17,.string ⟨#[]⟩,.string ⟨#[]⟩,.int .i64 0,.slice none 0 0,.int .i64 ta])∧Below w.heap.size w w':=by
 simp only [Tk.val]
 go_enter Tryz.func170,Tryz.ntmps170
 go_wp2
 refine bodyPost_ret (v:=.agg #[.int .i64 17,.string ⟨#[]⟩,.string ⟨#[]⟩,.int .i64 0,.slice none 0 0,.int .i64 ta]) (by simp [results,Tryz.results170,go_sem]) rfl ⟨rfl,?_⟩
 exact ((Below.alloc0 w _).trans ((Below.alloc0 _ _).mono (by simp)))
theorem ps_oper_3 (tk tn ta:Int) (w:World):Calls Tryz.prog 170 #[(⟨tk,⟨#[97,110,100,97,108,115,111]⟩,tn,ta⟩:Tk).val] w fun e w'=>e=.returned (.agg #[.int .i64 16,.string ⟨#[]⟩,.string ⟨#[]⟩,.int .i64 0,.slice none 0 0,.int .i64 ta])∧Below w.heap.size w w':=by
 simp only [Tk.val]
 go_enter Tryz.func170,Tryz.ntmps170
 go_wp2
 refine bodyPost_ret (v:=.agg #[.int .i64 16,.string ⟨#[]⟩,.string ⟨#[]⟩,.int .i64 0,.slice none 0 0,.int .i64 ta]) (by simp [results,Tryz.results170,go_sem]) rfl ⟨rfl,?_⟩
 exact ((Below.alloc0 w _).trans ((Below.alloc0 _ _).mono (by simp)))
def opVal (t:Tk):Value:=.agg #[.int .i64 (opSh t []).kind,.string (opSh t []).text,.string ⟨#[]⟩,.int .i64 0,.slice none 0 0,.int .i64 t.at_]
theorem ps_operation (t:Tk) (w:World):Calls Tryz.prog 170 #[t.val] w fun e w'=>e=.returned (opVal t)∧Below w.heap.size w w':=by
 obtain ⟨tk,tt,tn,ta⟩:=t
 by_cases h0:tt=⟨#[61]⟩
 ·subst h0
  exact ps_oper_0 tk tn ta w
 ·by_cases h1:tt=⟨#[33]⟩
  ·subst h1
   exact ps_oper_1 tk tn ta w
  ·by_cases h2:tt=⟨#[111,114,101,108,115,101]⟩
   ·subst h2
    exact ps_oper_2 tk tn ta w
   ·by_cases h3:tt=⟨#[97,110,100,97,108,115,111]⟩
    ·subst h3
     exact ps_oper_3 tk tn ta w
    ·have h:=ps_oper ⟨tk,tt,tn,ta⟩ h0 h1 h2 h3 w
     have e:opVal ⟨tk,tt,tn,ta⟩=.agg #[.int .i64 15,.string tt,.string ⟨#[]⟩,.int .i64 0,.slice none 0 0,.int .i64 ta]:=by simp [opVal,opSh,h0,h1,h2,h3]
     rw [e]
     exact h
theorem opSh_eq (t:Tk) (l:List Int):opSh t l=⟨(opSh t []).kind,(opSh t []).text,⟨#[]⟩,0,l,t.at_⟩:=by
 unfold opSh
 repeat' split
 all_goals rfl
theorem nds_get:∀ (L:List Nd) (i:Nat) (h:i < L.length) (q:Nat),q < 6→(nds L)[i*6+q]? = L[i].cells[q]?
 | t :: r,0,_,q,hq=>by
  show (Nd.cells t++nds r)[0*6+q]? = _
  rw [Nat.zero_mul,Nat.zero_add,List.getElem?_append_left (by simpa [Nd.cells] using hq)]
  rfl
 | t :: r,i+1,h,q,hq=>by
  have ih:=nds_get r i (by simpa using h) q hq
  have e:(i+1)*6+q=(i*6+q)+6:=by omega
  rw [e]
  show (Nd.cells t++nds r)[i*6+q+6]? = _
  rw [List.getElem?_append_right (by simp [Nd.cells])]
  simp only [Nd.cells,List.length_cons,List.length_nil,Nat.zero_add,Nat.reduceAdd,Nat.add_sub_cancel]
  exact ih
theorem PAt.node (h:PAt w g Tv T i Nv N) (j:Nat) (hj:j < N.length):∃ b off cap,Nv=.slice (some ⟨b,off,none⟩) N.length cap∧w.cell? ⟨b,off+j*6,none⟩=some (.int .i64 N[j].kind)∧w.cell? ⟨b,off+j*6+1,none⟩=some (.string N[j].text)∧w.cell? ⟨b,off+j*6+2,none⟩=some (.string N[j].mod)∧w.cell? ⟨b,off+j*6+3,none⟩=some (.int .i64 N[j].num)∧w.cell? ⟨b,off+j*6+4,none⟩=some N[j].kv∧w.cell? ⟨b,off+j*6+5,none⟩=some (.int .i64 N[j].at_):=by
 obtain ⟨b,off,cap,e,_,_,hc⟩:=h.own.sl.at j hj
 have c:∀ q,q < 6→w.cell? ⟨b,off+j*6+q,none⟩=N[j].cells[q]?:=fun q hq=>(hc q hq).1.trans (nds_get N j hj q hq)
 exact ⟨b,off,cap,e,c 0 (by decide),c 1 (by decide),c 2 (by decide),c 3 (by decide),c 4 (by decide),c 5 (by decide)⟩
theorem SlI.head {v:Value} {x:Int} (h:SlI w v (x :: l)):∃ b off cap,v=.slice (some ⟨b,off,none⟩) (l.length+1) cap∧w.cell? ⟨b,off,none⟩=some (.int .i64 x):=by
 obtain ⟨_,⟨_,h0⟩ | ⟨b,off,cap,e,_,_,hc⟩⟩:=h
 ·simp at h0
 ·exact ⟨b,off,cap,e,hc 0 (by simp [ints])⟩
theorem drewN_below (w:World) (n:Nat):Below w.heap.size w (w.drewN n):=⟨rfl,rfl,rfl,Nat.le_refl _,fun _ _=>rfl⟩
theorem ps_atModule (h:PAt w g Tv T i Nv N) (hs:isTk 5 ⟨#[45]⟩ (tokAt T i)=false):Calls Tryz.prog 97 #[.pointer (some ⟨g,0,none⟩)] w fun x w'=>x=.returned (.bool false)∧Below w.heap.size w w':=by
 have hq:=ps_isSign h ⟨#[45]⟩
 rw [hs] at hq
 clear h hs
 go_enter Tryz.func97,Tryz.ntmps97
 go_wp2_with fail
 refine hq.mono ?_
 rintro x w1 ⟨rfl,hb1⟩
 have HB:=Hid.mk7 hb1
 clear hb1 hq
 go_wp2
 go_ret
 exact ⟨rfl,HB.out⟩
theorem Making.text {q:Nat} {nk:Int} {nt nm:ByteArray} {nn:Int} {V:Value} {na:Int} (h:Making w g Tv Nv N q nk nt nm nn V l na) (hp:PAt w g Tv T i Nv N) (t:ByteArray):Making (w.setCell ⟨q,1,none⟩ (.string t)) g Tv Nv N q nk t nm nn V l na∧PAt (w.setCell ⟨q,1,none⟩ (.string t)) g Tv T i Nv N:=by
 have o:∀ (j:Nat) (v:Value),1≠j→w.cell? ⟨q,j,none⟩=some v→(w.setCell ⟨q,1,none⟩ (.string t)).cell? ⟨q,j,none⟩=some v:=fun j v hj e=>by
  rw [World.cell?_setCell_other _ _ _ _ (by simp; try omega)]; exact e
 have T1:=Turned.set1 w q 1 (.string t)
 exact ⟨⟨o 0 _ (by decide) h.n0,World.cell?_setCell_same _ _ _ h.n1,o 2 _ (by decide) h.n2,o 3 _ (by decide) h.n3,o 4 _ (by decide) h.n4,o 5 _ (by decide) h.n5,fun j=>by rw [World.frozen?_setCell]; exact h.fz j,OwnK.turned h.own T1 (fun k hk e=>h.qv ((show k=q from e) ▸ hk)),h.qv,⟨h.fq.g,h.fq.t,h.fq.n,h.fq.k⟩,fun k hk=>⟨(h.fv k hk).g,(h.fv k hk).t,(h.fv k hk).n,(h.fv k hk).k⟩⟩,hp.off h.fq T1⟩
end Go.Proofs.YtlciaafincgdeaaGreatDoor
