/-
  Layer 11 (parse): what stands behind a list's last element; a clause.
  Layer 11 (parse): what the phrases that a phrase calls do; a clause.
  Layer 11 (parse): what stands behind 'after'.
  Layer 11 (parse): what a receive holds.
  Layer 11 (parse): lists.
-/
import Derived.Test.YtlciaafincgdeaaGreatDoorZak
namespace Go.Proofs.YtlciaafincgdeaaGreatDoor
open Go.RowKit
set_option maxHeartbeats 6400000
set_option maxRecDepth 100000
theorem rd_tail {T:List Tk} {rec:Ph→PM Nat} {s:Ps} (hr:Runs T 145 [] (whole rec) (s.i+1)) (hT:0 < T.length) (hfin:∀ a t,tail T rec s=.ok (a,t)→S2 T t t∧Cnt T t) {w:World} {g:Nat} {Tv Nv:Value} {N:List Nd} (h:PS w g Tv T Nv N s) :
  Calls Tryz.prog 199 #[.pointer (some ⟨g,0,none⟩)] w (Rd T w g Tv Nv N (tail T rec s)):=by
 obtain ⟨res,hres⟩:∃ res,tail T rec s=res:=⟨_,rfl⟩
 rw [hres]
 have HQ:=Hid.mk7 hres
 have htl:=h.at_.tl
 have r0:=Rg.refl h
 have c1:=rg_isSign r0 ⟨#[124]⟩
 have hfa:=Tryz.tokPlace
 have HP:=Hid.mk7 (And.intro hr hfin)
 clear hres hr hfin h r0
 cases h1:sgn T ⟨#[124]⟩ s.i with
 | false=>
  rw [h1] at c1
  have H1:=Hid.mk7 h1
  clear h1
  go_enter Tryz.func199,Tryz.ntmps199
  go_wp2_with fail
  refine c1.mono ?_
  rintro x w1 ⟨rfl,r1,_⟩
  clear c1
  cases h2:sgn T ⟨#[93]⟩ s.i with
  | false=>
   have hre:res=.error s.i:=by rw [← HQ.out]; simp [tail,PM.bind,pIf,pNeed,H1.out,h2]
   subst hre
   have c2:=rg_sign_bad r1 h2
   clear r1 h2
   go_wp2_with fail
   refine c2.mono ?_
   rintro x w2 ⟨rfl,T2⟩
   exact ⟨rfl,rfl,T2⟩
  | true=>
   have hre:tail T rec s=.ok (s.N.length,⟨s.i+1,s.N++[⟨5,⟨#[]⟩,⟨#[]⟩,0,[],(tokAt T s.i).at_⟩]⟩):=by simp [tail,PM.bind,pIf,pNeed,H1.out,h2,pAdd]
   obtain ⟨q1,q2⟩:=HP.out.2 _ _ hre
   have hre2:res=.ok (s.N.length,⟨s.i+1,s.N++[⟨5,⟨#[]⟩,⟨#[]⟩,0,[],(tokAt T s.i).at_⟩]⟩):=HQ.out.symm.trans hre
   subst hre2
   have HF:=Hid.mk7 (And.intro q1 q2)
   have c2:=rg_sign r1 h2
   unfold Tkn at c2
   clear r1 h2 hre q1 q2 HQ
   obtain ⟨tk,htk⟩:∃ tk,tokAt T s.i=tk:=⟨_,rfl⟩
   rw [htk] at c2 HF
   have HT:=Hid.mk7 htk
   clear htk
   obtain ⟨tk,tt,tn,ta⟩:=tk
   simp only [Tk.val] at c2
   simp only at HF
   go_wp2_with fail
   refine c2.mono ?_
   rintro x w2 ⟨rfl,r2,_⟩
   have c3:=rg_add r2 hT ⟨5,⟨#[]⟩,⟨#[]⟩,0,.slice none 0 0,[],ta⟩ (Kd.nil _ _ _ _ _ _ _) HF.out.1 HF.out.2
   simp only [Nd.val] at c3
   clear c2 r2
   go_wp2_with fail
   refine c3.mono ?_
   rintro x w3 ⟨rfl,Nv3,r3,_⟩
   have H3:=Hid.mk7 r3
   clear c3 r3
   go_wp2
   go_ret
   rw [HT.out]
   exact H3.out.of
 | true=>
  rw [h1] at c1
  have hlt:=sgn_lt h1
  have H1:=Hid.mk7 h1
  clear h1
  go_enter Tryz.func199,Tryz.ntmps199
  go_wp2_with fail
  refine c1.mono ?_
  rintro x w1 ⟨rfl,r1,_⟩
  clear c1
  have k1:=r1.ps.at_.c1.1
  have f1:=r1.ps.at_.c1.2
  have r2:=r1.skip 1 hlt
  rw [show ((s.i+1:Nat):Int)=(s.i:Int)+1 by omega] at r2
  have c3:=HP.out.1 ⟨s.i+1,s.N⟩ (Nat.le_refl _) _ g Tv _ _ r2.ps
  have H2:=Hid.mk7 r2
  clear r1 r2
  cases hw:whole rec ⟨s.i+1,s.N⟩ with
  | error e=>
   have hre:res=.error e:=by rw [← HQ.out]; simp [tail,PM.bind,pIf,pSkip,H1.out,hw]
   subst hre
   rw [hw] at c3
   clear hw
   go_wp2_with fail
   refine c3.mono ?_
   rintro x w3 ⟨rfl,T3⟩
   exact ⟨rfl,rfl,H2.out.bad T3⟩
  | ok at_=>
   obtain ⟨a,t⟩:=at_
   rw [hw] at c3
   have HW:=Hid.mk7 hw
   clear hw
   go_wp2_with fail
   refine c3.mono ?_
   intro x w3 hx
   obtain ⟨rfl,Nv3,M3,r3,_⟩:=H2.out.rd hx
   clear c3 hx k1 f1
   cases h4:sgn T ⟨#[93]⟩ t.i with
   | false=>
    have hre:res=.error t.i:=by rw [← HQ.out]; simp [tail,PM.bind,pIf,pSkip,pNeed,H1.out,HW.out,h4]
    subst hre
    have c4:=rg_sign_bad r3 h4
    clear r3 h4
    go_wp2_with fail
    refine c4.mono ?_
    rintro x w4 ⟨rfl,T4⟩
    exact ⟨rfl,rfl,T4⟩
   | true=>
    have hre:res=.ok (a,⟨t.i+1,t.N⟩):=by rw [← HQ.out]; simp [tail,PM.bind,pIf,pSkip,pNeed,H1.out,HW.out,h4,PM.ret]
    subst hre
    have c4:=rg_sign r3 h4
    unfold Tkn at c4
    generalize (tokAt T t.i).val=tv at c4
    clear r3 h4
    go_wp2_with fail
    refine c4.mono ?_
    rintro x w4 ⟨rfl,r4,_⟩
    have H4:=Hid.mk7 r4
    clear c4 r4
    go_wp2
    go_ret
    exact H4.out.of
def fnOf:Ph→FuncId
 | .module=>77
 | .export=>119
 | .function=>100
 | .fclause=>121
 | .clause=>191
 | .cclause=>193
 | .conj=>157
 | .guard=>147
 | .body=>148
 | .operand=>168
 | .expr _=>156
def moreOf:Ph→List Value
 | .expr l=>[.int .i64 l]
 | _=>[]
structure Env (T:List Tk) (rec:Ph→PM Nat) (i0:Nat):Prop where
 ok2:∀ ph,okPh ph→∀ s s',S2 T s s'→Ok2 T VN (dOf ph) (rec ph) (rec ph) s s'
 run:∀ ph,okPh ph→Runs T (fnOf ph) (moreOf ph) (rec ph) i0
theorem Env.fwd {T:List Tk} {rec:Ph→PM Nat} {i0:Nat} (E:Env T rec i0) (ph:Ph) (hp:okPh ph):Fwd T (rec ph):=fun s hs=>(E.ok2 ph hp s s hs).mono (dOf_pos ph)
theorem Env.whole {T:List Tk} {rec:Ph→PM Nat} {i0:Nat} (E:Env T rec i0):Runs T 145 [] (whole rec) i0:=rd_whole (E.run (.expr 1) (by simp [okPh]))
theorem Runs.up {T:List Tk} {F:FuncId} {more:List Value} {m:PM Nat} {i j:Nat} (h:Runs T F more m i) (hij:i≤j):Runs T F more m j:=fun s hs=>h s (Nat.le_trans hij hs)
theorem Env.rest {T:List Tk} {rec:Ph→PM Nat} {i0:Nat} (E:Env T rec i0) {n:Sh} {p:Nat} {t:Ps} (ht:S2 T t t) (hp:p < t.N.length) (hc:Cnt T t):∀ a u,rest T rec n p t=.ok (a,u)→S2 T u u∧Cnt T u:=fun a u e=>by
 obtain ⟨h1,h2,_⟩:=(rest_ok2 (Alike.refl T) E.ok2 (n:=n) (n':=n) rfl ht ⟨rfl,hp⟩).fin (by omega) hc e
 exact ⟨h1,h2⟩
theorem rd_clause {T:List Tk} {rec:Ph→PM Nat} {s:Ps} (E:Env T rec (s.i+1)) (hw:Runs T 145 [] (whole rec) s.i) {w:World} {g:Nat} {Tv Nv:Value} {N:List Nd} (h:PS w g Tv T Nv N s) :
  Calls Tryz.prog 191 #[.pointer (some ⟨g,0,none⟩)] w (Rd T w g Tv Nv N (phBody T rec .clause s)):=by
 obtain ⟨res,hres⟩:∃ res,phBody T rec .clause s=res:=⟨_,rfl⟩
 rw [hres]
 have HQ:=Hid.mk7 hres
 have r0:=Rg.refl h
 have c1:=rg_peek r0
 have hfa:=Tryz.tokPlace
 have HP:=Hid.mk7 (And.intro E (And.intro hw h))
 obtain ⟨tk,htk⟩:∃ tk,tokAt T s.i=tk:=⟨_,rfl⟩
 rw [htk] at c1
 have HT:=Hid.mk7 htk
 clear hres hw E h r0 htk
 obtain ⟨tk,tt,tn,ta⟩:=tk
 simp only [Tk.val] at c1
 go_enter Tryz.func191,Tryz.ntmps191
 go_wp2_with fail
 refine c1.mono ?_
 rintro x w1 ⟨rfl,r1,_⟩
 have r2:=r1.below (Below.alloc0 w1 (.cells #[.int .i64 20,.string ⟨#[]⟩,.string ⟨#[]⟩,.int .i64 0,.slice none 0 0,.int .i64 ta] 47))
 have hE:=fun W (hW:Below _ _ W)=>HP.out.2.1 s (Nat.le_refl _) W g Tv _ _ (r2.below hW).ps
 have hgl:=r2.ps.at_.lt
 have H2:=Hid.mk7 (And.intro r2 r1)
 clear c1 r1 r2
 cases hw:whole rec s with
 | error e=>
  have hre:res=.error e:=by rw [← HQ.out]; simp [phBody,PM.bind,pTok,hw]
  subst hre
  simp only [hw] at hE
  clear hw
  go_wp2_with fail
  go_region_with (go_at_call 145; refine (hE _ (Below.refl _ _).drew).mono ?_; rintro x w5 ⟨rfl,T5⟩; refine idle_of w5 ⟨rfl,rfl,(H2.out.1.below (Below.refl _ _).drew).bad T5⟩ ?_)
  all_goals trivial
 | ok at_=>
  obtain ⟨a,t⟩:=at_
  obtain ⟨q1,q2,q3,q4⟩:=(HP.out.1.fwd (.expr 1) (by simp [okPh])).ok HP.out.2.2.ok HP.out.2.2.cnt hw
  have hT:0 < T.length:=by have:=q1.il; omega
  have hfin:=fun n=>HP.out.1.rest (n:=n) q1 q2 q4
  have hrs:res=rest T rec ⟨20,⟨#[]⟩,⟨#[]⟩,0,[],ta⟩ a t:=by rw [← HQ.out]; simp [phBody,PM.bind,pTok,hw,HT.out]
  have hb1:∀ j,j < w.heap.size→True:=fun _ _=>trivial
  simp only [hw] at hE
  have HF:=Hid.mk7 (And.intro hfin (And.intro hrs (And.intro hT q3)))
  clear hw q1 q2 q3 q4 hfin hrs hT hb1
  have hfr:∀ w5 (x:Ending),Rd T (w1.alloc (.cells #[.int .i64 20,.string ⟨#[]⟩,.string ⟨#[]⟩,.int .i64 0,.slice none 0 0,.int .i64 ta] 47)).drew g Tv Nv (N++[]) (.ok (a,t)) x w5→x=.returned (.int .i64 (a:Nat))∧(∃ Nv5 M5,Rg T w w5 g Tv Nv N t Nv5 M5)∧(w5.cell? ⟨w1.heap.size,0,none⟩=some (.int .i64 20)∧w5.cell? ⟨w1.heap.size,1,none⟩=some (.string ⟨#[]⟩)∧w5.cell? ⟨w1.heap.size,2,none⟩=some (.string ⟨#[]⟩)∧w5.cell? ⟨w1.heap.size,3,none⟩=some (.int .i64 0)∧w5.cell? ⟨w1.heap.size,4,none⟩=some (.slice none 0 0)∧w5.cell? ⟨w1.heap.size,5,none⟩=some (.int .i64 ta)):=fun w5 x hx=>by
   obtain ⟨e,Nv5,M5,r5,S5,_⟩:=(H2.out.1.below (Below.refl _ _).drew).rd hx
   have f:=H2.out.2.ps.at_.free HF.out.2.2.1 w1.heap.size (Nat.le_refl _)
   obtain ⟨c,_⟩:=newNode (w:=w1) (.int .i64 20) (.string ⟨#[]⟩) (.string ⟨#[]⟩) (.int .i64 0) (.slice none 0 0) (.int .i64 ta) ((Turned.drew _ _).trans S5.t (fun _ e=>.inl e)) (fun e=>e.elim f.g f.n)
   exact ⟨e,⟨Nv5,M5,r5⟩,c⟩
  have hrest:∀ w5 Nv5 M5,Rg T w w5 g Tv Nv N t Nv5 M5→Calls Tryz.prog 134 #[.pointer (some ⟨g,0,none⟩),.agg #[.int .i64 20,.string ⟨#[]⟩,.string ⟨#[]⟩,.int .i64 0,.slice none 0 0,.int .i64 ta],.int .i64 (a:Int)] w5 (Rd T w5 g Tv Nv5 (N++M5) res):=fun w5 Nv5 M5 r5=>by
   rw [HF.out.2.1]
   exact rd_rest 20 ⟨#[]⟩ ⟨#[]⟩ 0 ta a ((HP.out.1.run .guard trivial).up (by have:=HF.out.2.2.2; omega)) (HP.out.1.fwd .guard trivial) ((HP.out.1.run .body trivial).up (by have:=HF.out.2.2.2; omega)) HF.out.2.2.1 (HF.out.1 _) r5.ps
  cases res with
  | error e=>
   go_wp2_with fail
   go_region_with (first
    | (go_at_call 134; refine (hrest _ _ _ r5).mono ?_; rintro x w6 ⟨rfl,T6⟩; refine idle_of w6 ⟨rfl,rfl,r5.bad T6⟩ ?_)
    | (go_at_call 145; refine (hE _ (Below.refl _ _).drew).mono ?_; intro x w5 hx; obtain ⟨rfl,⟨Nv5,M5,r5⟩,k0,k1,k2,k3,k4,k5⟩:=hfr _ _ hx; clear hx))
   all_goals trivial
  | ok bt=>
   obtain ⟨b,u⟩:=bt
   go_wp2_with fail
   go_region_with (first
    | (go_at_call 134; refine (hrest _ _ _ r5).mono ?_; intro x w6 hx; obtain ⟨rfl,Nv6,M6,r6,_⟩:=r5.rd hx; have H6:=Hid.mk7 r6; clear hx r6)
    | (go_at_call 145; refine (hE _ (Below.refl _ _).drew).mono ?_; intro x w5 hx; obtain ⟨rfl,⟨Nv5,M5,r5⟩,k0,k1,k2,k3,k4,k5⟩:=hfr _ _ hx; clear hx))
   all_goals
    go_wp2
    go_ret
    exact H6.out.of
section
variable {T:List Tk} {w wr:World} {g:Nat} {Tv Nv Nv1 V:Value} {N M1:List Nd} {s:Ps} {l:List Int}
theorem MkI.of_kd (r:Rg T w wr g Tv Nv N s Nv1 M1) (k:Kd T w wr g Tv Nv1 (N++M1) V l) (hT:0 < T.length) (nk:Int) (nt nm:ByteArray) (nn na:Int):MkI T w (wr.alloc (.cells #[.int .i64 nk,.string nt,.string nm,.int .i64 nn,V,.int .i64 na] 47)) g Tv Nv N s Nv1 M1 wr.heap.size nk nt nm nn V l na:=by
 obtain ⟨⟨n0,n1,n2,n3,n4,n5⟩,nf⟩:=newNode (w:=wr) (.int .i64 nk) (.string nt) (.string nm) (.int .i64 nn) V (.int .i64 na) (Turned.refl (fun _=>False) _) (fun e=>e)
 have f:=r.ps.at_.free hT wr.heap.size (Nat.le_refl _)
 have hb:=Below.alloc0 wr (.cells #[.int .i64 nk,.string nt,.string nm,.int .i64 nn,V,.int .i64 na] 47)
 have k2:=k.below hb
 exact ⟨r.below hb,⟨n0,n1,n2,n3,n4,n5,nf,k2.own,fun e=>by have:=OwnK.blk_lt k.own _ e; omega,⟨f.g,f.t,f.n,f.k⟩,fun q hq=>(k2.fv q hq).2⟩,fun q hq=>(k.fv q hq).1,r.size⟩
theorem Kd.one (r:Rg T w wr g Tv Nv N s Nv1 M1) (hT:0 < T.length) (a:Int):Kd T w (wr.alloc (.cells #[.int .i64 a] 3)) g Tv Nv1 (N++M1) (.slice (some ⟨wr.heap.size,0,none⟩) 1 1) [a]:=by
 refine ⟨⟨by simp [ints],.inr ⟨wr.heap.size,0,1,rfl,Nat.le_refl _,by decide,by simp,fun j hj=>?_,fun j hj=>?_⟩⟩,fun k hk=>?_⟩
 ·have hj1:j < 1:=hj
  match j,hj1 with
  | 0,_=>simp [ints]
 ·have hj1:j < 1:=by omega
  match j,hj1 with
  | 0,_=>exact ⟨by simp,by rw [World.frozen?_alloc_new]⟩
 ·have hk:wr.heap.size=k:=hk
  subst hk
  have f:=r.ps.at_.free hT wr.heap.size (Nat.le_refl _)
  exact ⟨r.size,⟨f.g,f.t,f.n,f.k⟩⟩
end
theorem rd_after {T:List Tk} {rec:Ph→PM Nat} {s:Ps} (E:Env T rec (s.i+1)) (hfin:∀ a t,after T rec s=.ok (a,t)→S2 T t t∧Cnt T t) {w:World} {g:Nat} {Tv Nv:Value} {N:List Nd} (h:PS w g Tv T Nv N s) :
  Calls Tryz.prog 200 #[.pointer (some ⟨g,0,none⟩)] w (Rd T w g Tv Nv N (after T rec s)):=by
 obtain ⟨res,hres⟩:∃ res,after T rec s=res:=⟨_,rfl⟩
 rw [hres]
 have HQ:=Hid.mk7 hres
 have htl:=h.at_.tl
 have r0:=Rg.refl h
 have hfa:=Tryz.tokPlace
 have HP:=Hid.mk7 (And.intro E (And.intro hfin h))
 clear hres hfin E h
 cases h1:wrd T ⟨#[97,102,116,101,114]⟩ s.i with
 | false=>
  have hre:res=.error s.i:=by rw [← HQ.out]; simp [after,PM.bind,pNeed,h1]
  subst hre
  have c1:=rg_word_bad r0 h1
  clear r0 h1
  go_enter Tryz.func200,Tryz.ntmps200
  go_wp2_with fail
  refine c1.mono ?_
  rintro x w1 ⟨rfl,T1⟩
  exact ⟨rfl,rfl,T1⟩
 | true=>
  have hT:0 < T.length:=by have:=wrd_lt h1; omega
  have c1:=rg_word r0 h1
  unfold Tkn at c1
  have H1:=Hid.mk7 h1
  obtain ⟨tk,htk⟩:∃ tk,tokAt T s.i=tk:=⟨_,rfl⟩
  rw [htk] at c1
  have HT:=Hid.mk7 htk
  clear r0 h1 htk
  obtain ⟨tk,tt,tn,ta⟩:=tk
  simp only [Tk.val] at c1
  go_enter Tryz.func200,Tryz.ntmps200
  go_wp2_with fail
  refine c1.mono ?_
  rintro x w1 ⟨rfl,r1,_⟩
  have c2:=HP.out.1.whole ⟨s.i+1,s.N⟩ (Nat.le_refl _) _ g Tv _ _ r1.ps
  have hps1:=r1.ps
  have HR1:=Hid.mk7 r1
  clear c1 r1
  cases hw:whole rec ⟨s.i+1,s.N⟩ with
  | error e=>
   have hre:res=.error e:=by rw [← HQ.out]; simp [after,PM.bind,pNeed,H1.out,hw]
   subst hre
   rw [hw] at c2
   clear hw hps1
   go_wp2_with fail
   refine c2.mono ?_
   rintro x w2 ⟨rfl,T2⟩
   exact ⟨rfl,rfl,HR1.out.bad T2⟩
  | ok at_=>
   obtain ⟨a,t⟩:=at_
   obtain ⟨_,_,hit,_⟩:=(HP.out.1.fwd (.expr 1) (by simp [okPh])).ok hps1.ok hps1.cnt hw
   have HW:=Hid.mk7 (And.intro hw hit)
   rw [hw] at c2
   clear hw hit hps1
   go_wp2_with fail
   refine c2.mono ?_
   intro x w2 hx
   obtain ⟨rfl,Nv2,M2,r2,_⟩:=HR1.out.rd hx
   have k2:=Kd.one r2 hT (a:Int)
   have mk3:=MkI.of_kd (r2.below (Below.alloc0 w2 (.cells #[.int .i64 (a:Int)] 3))) k2 hT 24 ⟨#[]⟩ ⟨#[]⟩ 0 ta
   simp only [World.size_alloc] at mk3
   have HK:=Hid.mk7 mk3
   clear c2 hx r2 k2 mk3
   cases h4:sgn T ⟨#[45,62]⟩ t.i with
   | false=>
    have hre:res=.error t.i:=by rw [← HQ.out]; simp [after,PM.bind,pNeed,H1.out,HW.out.1,h4]
    subst hre
    have c4:=rg_sign_bad HK.out.rg h4
    clear h4
    go_wp2_with fail
    refine c4.mono ?_
    rintro x w4 ⟨rfl,T4⟩
    exact ⟨rfl,rfl,T4⟩
   | true=>
    have c4:=rg_sign HK.out.rg h4
    unfold Tkn at c4
    generalize (tokAt T t.i).val=tv4 at c4
    have HS:=Hid.mk7 h4
    clear h4
    go_wp2_with fail
    refine c4.mono ?_
    rintro x w4 ⟨rfl,r4,T4⟩
    have mk4:=HK.out.to r4 (Stp.ofG T4)
    have hE4:=fun W (hW:Below w4.heap.size w4 W)=>HP.out.1.run .body trivial ⟨t.i+1,t.N⟩ (by have h9:s.i+1 < t.i:=HW.out.2; show s.i+1≤t.i+1; omega) W g Tv _ _ (r4.below hW).ps
    have n4:=mk4.bx.n4
    have H4:=Hid.mk7 mk4
    clear c4 r4 T4 mk4 HK
    cases hb2:rec .body ⟨t.i+1,t.N⟩ with
    | error e=>
     have hre:res=.error e:=by rw [← HQ.out]; simp [after,PM.bind,pNeed,H1.out,HW.out.1,HS.out,hb2]
     subst hre
     simp only [hb2,fnOf,moreOf] at hE4
     clear hb2
     go_wp2_with fail
     go_region_law (rw [if_pos (by rfl)]; go_simp; go_at_call 148; refine (hE4 _ (Below.refl _ _).drew).mono ?_; rintro x w5 ⟨rfl,T5⟩; refine idle_of w5 ⟨rfl,rfl,(H4.out.rg.below (Below.refl _ _).drew).bad T5⟩ ?_)
     all_goals trivial
    | ok bt=>
     obtain ⟨bk,t2⟩:=bt
     have hre:after T rec s=.ok (t2.N.length,⟨t2.i,t2.N++[⟨24,⟨#[]⟩,⟨#[]⟩,0,[(a:Int),(bk:Int)],ta⟩]⟩):=by simp [after,PM.bind,pNeed,H1.out,HW.out.1,HS.out,hb2,pAdd,HT.out]
     obtain ⟨q1,q2⟩:=HP.out.2.1 _ _ hre
     have hre2:res=.ok (t2.N.length,⟨t2.i,t2.N++[⟨24,⟨#[]⟩,⟨#[]⟩,0,[(a:Int),(bk:Int)],ta⟩]⟩):=HQ.out.symm.trans hre
     subst hre2
     have HF:=Hid.mk7 (And.intro q1 q2)
     simp only [hb2,fnOf,moreOf] at hE4
     clear hb2 hre q1 q2
     go_wp2_with fail
     go_region_law (first
      | (rw [if_pos (by rfl)]; go_simp; go_at_call 148; refine (hE4 _ (Below.refl _ _).drew).mono ?_; intro x w5 hx; obtain ⟨rfl,Nv5,M5,m5⟩:=H4.out.rd (Below.refl _ _).drew hx; have k5:=m5.bx.n4; have q5:=m5.bx.lt; have H5:=Hid.mk7 m5; clear hx m5; dsimp only)
      | (refine step_append_k (by rfl) (.tmp 14) (.tmp 17) (by rfl) Tryz.intTypes (by rfl) (by rfl) (OwnK.turned H5.out.bx.own (Turned.alloc (fun _=>False) _ _) (fun _ _ e=>e)) (SlI.one w5 _ _) (ints_one _) (by simp) (by simp) ?_; intro V6 w6 ho6 T6 hv6; obtain ⟨aV6,cV6,hV6,_,_⟩:=ho6.sl.form; subst hV6; obtain ⟨c6,f6,l6⟩:=H5.out.cell (Below.alloc0 w5 _) T6))
     all_goals
      have mk7:=H5.out.more (V2:=.slice aV6 2 cV6) hT (Below.alloc0 w5 _) ho6 T6 hv6
      have c7:=rg_add mk7.rg hT ⟨24,⟨#[]⟩,⟨#[]⟩,0,.slice aV6 2 cV6,[(a:Int)]++[(bk:Int)],ta⟩ mk7.kd HF.out.1 HF.out.2
      simp only [Nd.val] at c7
      obtain ⟨n0,n1,n2,n3,n4',n5,_,_,_,_,_⟩:=mk7.bx
      clear mk7 ho6 T6 hv6 c6 f6
      generalize w6.setCell _ _=w7 at c7 n0 n1 n2 n3 n4' n5 ⊢
      go_wp2_with fail
      refine c7.mono ?_
      rintro x w8 ⟨rfl,Nv8,r8,_⟩
      have H8:=Hid.mk7 r8
      clear r8 c7 n0 n1 n2 n3 n4' n5
      go_wp2
      go_ret
      exact H8.out.of
theorem Env.up {T:List Tk} {rec:Ph→PM Nat} {i j:Nat} (E:Env T rec i) (h:i≤j):Env T rec j:=⟨E.ok2,fun ph hp=>(E.run ph hp).up h⟩
theorem Env.after {T:List Tk} {rec:Ph→PM Nat} {i0:Nat} (E:Env T rec i0) {t:Ps} (ht:S2 T t t) (hc:Cnt T t):∀ a u,after T rec t=.ok (a,u)→S2 T u u∧Cnt T u∧t.i≤u.i:=fun _ _ e=>(after_ok2 (Alike.refl T) E.ok2 ht).fin (by omega) hc e
theorem rowL_len {T:List Tk} {x:ByteArray} {m:PM Nat} (hm:Fwd T m):∀ (f:Nat) (acc:List Int) (s:Ps),S2 T s s→acc.length≤s.i→∀ l t,rowL T x m f acc s=.ok (l,t)→l.length≤t.i
 | 0,acc,s,_,ha,l,t,e=>by
  simp [rowL,PM.ret] at e
  obtain ⟨rfl,rfl⟩:=e
  exact ha
 | f+1,acc,s,hs,ha,l,t,e=>by
  cases hb:sgn T x s.i with
  | false=>
   rw [rowL_stop (by omega) hb] at e
   simp at e
   obtain ⟨rfl,rfl⟩:=e
   exact ha
  | true=>
   have hs1:S2 T ⟨s.i+1,s.N⟩ ⟨s.i+1,s.N⟩:=hs.next (sgn_lt hb)
   rcases hm _ hs1 with ⟨e1,h1,_⟩ | ⟨a1,a2,t1,t2,h1,h2,h3,h4,h5,M,h6,h7⟩
   ·rw [rowL_bad (by omega) hb h1] at e
    cases e
   ·rw [rowL_next (by omega) hb h1] at e
    have e2:t2=t1:=by rw [h1] at h2; simp at h2; exact h2.2.symm
    subst e2
    have h5':s.i+1≤t2.i:=h5
    exact rowL_len hm f _ t2 h3 (by simp; omega) l t e
theorem row_len {T:List Tk} {x:ByteArray} {m:PM Nat} (hm:Fwd T m) {s t:Ps} {l:List Int} (hs:S2 T s s) (e:row T x m s=.ok (l,t)):l.length≤t.i:=by
 rcases hm s hs with ⟨e1,h1,_⟩ | ⟨a1,a2,t1,t2,h1,h2,h3,h4,h5,M,h6,h7⟩
 ·simp [row,PM.bind,h1] at e
 ·have e2:t2=t1:=by rw [h1] at h2; simp at h2; exact h2.2.symm
  subst e2
  simp only [row,PM.bind,h1] at e
  exact rowL_len hm _ _ t2 h3 (by simp; omega) l t e
theorem rd_choices {T:List Tk} {rec:Ph→PM Nat} {s:Ps} (E:Env T rec s.i) {w:World} {g:Nat} {Tv Nv:Value} {N:List Nd} (h:PS w g Tv T Nv N s) :
  Calls Tryz.prog 192 #[.pointer (some ⟨g,0,none⟩)] w (RdL T w g Tv Nv N (choices T rec s)):=by
 obtain ⟨res,hres⟩:∃ res,choices T rec s=res:=⟨_,rfl⟩
 rw [hres]
 have HQ:=Hid.mk7 hres
 have htl:=h.at_.tl
 have r0:=Rg.refl h
 have hmf:=Tryz.makeFn
 have c1:=rg_isWord r0 ⟨#[97,102,116,101,114]⟩
 have HP:=Hid.mk7 (And.intro E h)
 clear hres E h r0
 cases h1:wrd T ⟨#[97,102,116,101,114]⟩ s.i with
 | true=>
  rw [h1] at c1
  have HA2:=Hid.mk7 h1
  clear h1
  go_enter Tryz.func192,Tryz.ntmps192
  go_wp2_with fail
  refine c1.mono ?_
  rintro x w1 ⟨rfl,r1,_⟩
  have c2:=rg_isWord r1 ⟨#[97,102,116,101,114]⟩
  rw [HA2.out] at c2
  clear c1 r1
  go_wp2_with fail
  refine c2.mono ?_
  rintro x w2 ⟨rfl,r2,_⟩
  have HR:=Hid.mk7 r2
  have HK:=Hid.mk7 (Kd.nil T w w2 g Tv Nv (N++[]))
  have HL:Hid (([]:List Int).length≤1000000):=Hid.mk7 (Nat.zero_le _)
  clear c2 r2
  have cA:=rd_after (HP.out.1.up (by have:=(Nat.le_refl s.i); omega)) (fun a u e=>⟨(HP.out.1.after HR.out.ps.ok HR.out.ps.cnt a u e).1,(HP.out.1.after HR.out.ps.ok HR.out.ps.cnt a u e).2.1⟩) HR.out.ps
  cases hA:after T rec s with
  | error e=>
   have hre:res=.error e:=by rw [← HQ.out]; simp [choices,PM.bind,pIf,PM.ret,HA2.out,hA]
   subst hre
   rw [hA] at cA
   clear hA
   go_wp2_with fail
   refine cA.mono ?_
   rintro x w5 ⟨rfl,T5⟩
   exact ⟨rfl,rfl,HR.out.bad T5⟩
  | ok au=>
   obtain ⟨a,u⟩:=au
   have hre:res=.ok (([]:List Int)++[(a:Int)],u):=by rw [← HQ.out]; simp [choices,PM.bind,pIf,PM.ret,HA2.out,hA]
   subst hre
   have hT:0 < T.length:=by have:=wrd_lt HA2.out; omega
   rw [hA] at cA
   clear hA
   go_wp2_with fail
   refine cA.mono ?_
   intro x w5 hx
   obtain ⟨rfl,Nv5,M5,r5,S5,M6,e6,o6⟩:=HR.out.rd hx
   subst e6
   have k5:=HK.out.step S5 o6
   rw [List.append_assoc] at k5
   have hal:(([]:List Int).length+[(a:Int)].length)*8≤140737488355328:=by have h8:=HL.out; show (([]:List Int).length+1)*8≤140737488355328; omega
   have hal2:([]:List Int).length+[(a:Int)].length≤4611686018427387903:=by have h8:=HL.out; show ([]:List Int).length+1≤4611686018427387903; omega
   have H5:=Hid.mk7 (And.intro r5 (And.intro k5 (And.intro hal hal2)))
   clear cA hx r5 k5 S5 o6 hal hal2
   go_wp2_with (at_builtin; refine wpList_append_k (by rfl) (.tmp 13) (.tmp 16) (by rfl) Tryz.intTypes (by rfl) (by rfl) (OwnK.turned H5.out.2.1.own (Turned.alloc (fun _=>False) _ _) (fun _ _ e=>e)) (SlI.one _ _ _) (ints_one _) H5.out.2.2.1 H5.out.2.2.2 ?_; intro V6 w6 ho6 T6 hv6)
   obtain ⟨k6,p6,TT⟩:=H5.out.2.1.more H5.out.1.ps.at_ hT H5.out.1.size (Below.alloc0 w5 _) ho6 T6 hv6
   have r6:=H5.out.1.mine (fun q hq=>(H5.out.2.1.fv q hq).1) p6 TT
   have H6:=Hid.mk7 (And.intro r6 k6)
   clear ho6 T6 hv6 k6 p6 TT r6
   go_wp2
   go_ret
   exact Rg.ofL H6.out.1 H6.out.2
 | false=>
  rw [h1] at c1
  have H1:=Hid.mk7 h1
  clear h1
  go_enter Tryz.func192,Tryz.ntmps192
  go_wp2_with fail
  refine c1.mono ?_
  rintro x w1 ⟨rfl,r1,_⟩
  have c2:=rd_row_clause (HP.out.1.fwd .clause trivial) (HP.out.1.run .clause trivial) ⟨#[59]⟩ (Nat.le_refl _) r1.ps
  have HR1:=Hid.mk7 r1
  clear c1 r1
  cases hrow:row T ⟨#[59]⟩ (rec .clause) s with
  | error e=>
   have hre:res=.error e:=by rw [← HQ.out]; simp [choices,PM.bind,pIf,H1.out,hrow]
   subst hre
   rw [hrow] at c2
   clear hrow
   go_wp2_with fail
   refine c2.mono ?_
   rintro x w2 ⟨rfl,T2⟩
   exact ⟨rfl,rfl,HR1.out.bad T2⟩
  | ok kt=>
   obtain ⟨ks,t⟩:=kt
   obtain ⟨_,_,hit⟩:=(row_ok2 (Alike.refl T) (x:=⟨#[59]⟩) (d:=1) (by omega) (fun s s' hs=>HP.out.1.ok2 .clause trivial s s' hs) HP.out.2.ok).fin (by omega) HP.out.2.cnt hrow
   have HI:=Hid.mk7 hit
   have HW:=Hid.mk7 hrow
   rw [hrow] at c2
   clear hrow hit
   go_wp2_with fail
   refine c2.mono ?_
   intro x w2 hx
   obtain ⟨V,rfl,Nv2,M2,r2,k2,_⟩:=HR1.out.rdL hx
   obtain ⟨aV,cV,hV,_⟩:=OwnK.sl k2.own |>.form
   subst hV
   have c3:=rg_isWord r2 ⟨#[97,102,116,101,114]⟩
   have H2:=Hid.mk7 (And.intro r2 k2)
   clear c2 hx r2 k2
   cases h3:wrd T ⟨#[97,102,116,101,114]⟩ t.i with
   | false=>
    have hre:res=.ok (ks,t):=by rw [← HQ.out]; simp [choices,PM.bind,pIf,PM.ret,H1.out,HW.out,h3]
    subst hre
    rw [h3] at c3
    clear h3
    go_wp2_with fail
    refine c3.mono ?_
    rintro x w3 ⟨rfl,r3,hb3⟩
    have H3:=Hid.mk7 (And.intro r3 (H2.out.2.below hb3))
    clear c3 r3 hb3
    go_wp2
    go_ret
    exact Rg.ofL H3.out.1 H3.out.2
   | true=>
    have HA2:=Hid.mk7 h3
    rw [h3] at c3
    clear h3
    go_wp2_with fail
    refine c3.mono ?_
    rintro x w3 ⟨rfl,r3,hb3⟩
    have HR:=Hid.mk7 r3
    have HK:=Hid.mk7 (H2.out.2.below hb3)
    have HL:Hid (ks.length≤1000000):=by
     have h1:=row_len (HP.out.1.fwd .clause trivial) HP.out.2.ok HW.out
     have h2:=r3.ps.ok.il
     show ks.length≤1000000
     omega
    clear c3 r3 hb3
    have cA:=rd_after (HP.out.1.up (by have:=(show s.i≤t.i from HI.out); omega)) (fun a u e=>⟨(HP.out.1.after HR.out.ps.ok HR.out.ps.cnt a u e).1,(HP.out.1.after HR.out.ps.ok HR.out.ps.cnt a u e).2.1⟩) HR.out.ps
    cases hA:after T rec t with
    | error e=>
     have hre:res=.error e:=by rw [← HQ.out]; simp [choices,PM.bind,pIf,H1.out,HW.out,HA2.out,hA]
     subst hre
     rw [hA] at cA
     clear hA
     go_wp2_with fail
     refine cA.mono ?_
     rintro x w5 ⟨rfl,T5⟩
     exact ⟨rfl,rfl,HR.out.bad T5⟩
    | ok au=>
     obtain ⟨a,u⟩:=au
     have hre:res=.ok (ks++[(a:Int)],u):=by rw [← HQ.out]; simp [choices,PM.bind,pIf,PM.ret,H1.out,HW.out,HA2.out,hA]
     subst hre
     have hT:0 < T.length:=by have:=wrd_lt HA2.out; omega
     rw [hA] at cA
     clear hA
     go_wp2_with fail
     refine cA.mono ?_
     intro x w5 hx
     obtain ⟨rfl,Nv5,M5,r5,S5,M6,e6,o6⟩:=HR.out.rd hx
     subst e6
     have k5:=HK.out.step S5 o6
     rw [List.append_assoc] at k5
     have hal:(ks.length+[(a:Int)].length)*8≤140737488355328:=by have h8:=HL.out; show (ks.length+1)*8≤140737488355328; omega
     have hal2:ks.length+[(a:Int)].length≤4611686018427387903:=by have h8:=HL.out; show ks.length+1≤4611686018427387903; omega
     have H5:=Hid.mk7 (And.intro r5 (And.intro k5 (And.intro hal hal2)))
     clear cA hx r5 k5 S5 o6 hal hal2
     go_wp2_with (at_builtin; refine wpList_append_k (by rfl) (.tmp 13) (.tmp 16) (by rfl) Tryz.intTypes (by rfl) (by rfl) (OwnK.turned H5.out.2.1.own (Turned.alloc (fun _=>False) _ _) (fun _ _ e=>e)) (SlI.one _ _ _) (ints_one _) H5.out.2.2.1 H5.out.2.2.2 ?_; intro V6 w6 ho6 T6 hv6)
     obtain ⟨k6,p6,TT⟩:=H5.out.2.1.more H5.out.1.ps.at_ hT H5.out.1.size (Below.alloc0 w5 _) ho6 T6 hv6
     have r6:=H5.out.1.mine (fun q hq=>(H5.out.2.1.fv q hq).1) p6 TT
     have H6:=Hid.mk7 (And.intro r6 k6)
     clear ho6 T6 hv6 k6 p6 TT r6
     go_wp2
     go_ret
     exact Rg.ofL H6.out.1 H6.out.2
section
variable {T:List Tk} {w wr w2:World} {g:Nat} {Tv Nv Nv1:Value} {N M1:List Nd} {s t:Ps} {q:Nat} {nk:Int} {nt nm:ByteArray} {nn:Int} {V:Value} {l l2:List Int} {na:Int}
theorem MkI.rdL (h:MkI T w wr g Tv Nv N s Nv1 M1 q nk nt nm nn V l na) {x:Ending} (hr:RdL T wr g Tv Nv1 (N++M1) (.ok (l2,t)) x w2):∃ V2,x=.returned V2∧(∃ a c,V2=.slice a l2.length c)∧(∃ Nv2 M2,MkI T w (w2.setCell ⟨q,4,none⟩ V2) g Tv Nv N t Nv2 M2 q nk nt nm nn V2 l2 na)∧w2.cell? ⟨q,4,none⟩=some V∧w2.frozen? ⟨q,4,none⟩=false∧q < w2.heap.size:=by
 obtain ⟨V2,rfl,Nv2,M3,o,p,S,ow,fv⟩:=hr
 have r2:=h.rg.more o p S
 have m2:=h.bx.step S o
 rw [List.append_assoc] at m2
 obtain ⟨a2,c2,hV2,_⟩:=OwnK.sl ow |>.form
 have hq:=h.bx.lt
 have hqv:¬ blk V2 q:=fun e=>by have:=(fv q e).1; omega
 have T1:=Turned.set1 w2 q 4 V2
 have oc:∀ (j:Nat) (v:Value),4≠j→w2.cell? ⟨q,j,none⟩=some v→(w2.setCell ⟨q,4,none⟩ V2).cell? ⟨q,j,none⟩=some v:=fun j v hj e=>by
  rw [World.cell?_setCell_other _ _ _ _ (by simp; try omega)]; exact e
 have p2:=r2.ps.at_.offS (S:=fun k=>k=q) (w0:=w2) (fun k e=>e ▸ m2.fq) T1
 have fv2:∀ k,blk V2 k→Free w2 g Tv Nv2 (N++(M1++M3)) k:=fun k hk=>by have:=(fv k hk).2; rwa [List.append_assoc] at this
 refine ⟨V2,rfl,⟨a2,c2,hV2⟩,⟨Nv2,M1++M3,⟨r2.mine (k:=fun k=>k=q) (fun k e=>e ▸ h.qw) p2 T1,⟨oc 0 _ (by decide) m2.n0,oc 1 _ (by decide) m2.n1,oc 2 _ (by decide) m2.n2,oc 3 _ (by decide) m2.n3,World.cell?_setCell_same _ _ _ m2.n4,oc 5 _ (by decide) m2.n5,fun j=>by rw [World.frozen?_setCell]; exact m2.fz j,OwnK.turned ow T1 (fun k hk e=>hqv (e ▸ hk)),hqv,⟨m2.fq.g,m2.fq.t,m2.fq.n,m2.fq.k⟩,fun k hk=>⟨(fv2 k hk).g,(fv2 k hk).t,(fv2 k hk).n,(fv2 k hk).k⟩⟩,fun k hk=>Nat.le_trans h.rg.size (fv k hk).1,h.qw⟩⟩,m2.n4,m2.fz 4,m2.lt⟩
end
theorem Env.tail {T:List Tk} {rec:Ph→PM Nat} {i0:Nat} (E:Env T rec i0) {t:Ps} (ht:S2 T t t) (hc:Cnt T t):∀ a u,tail T rec t=.ok (a,u)→S2 T u u∧Cnt T u:=fun _ _ e=>⟨((tail_ok2 (Alike.refl T) E.ok2 ht).fin (by omega) hc e).1,((tail_ok2 (Alike.refl T) E.ok2 ht).fin (by omega) hc e).2.1⟩
theorem rd_list {T:List Tk} {rec:Ph→PM Nat} {s:Ps} (E:Env T rec (s.i+1)) (hfin:∀ a t,list T rec s=.ok (a,t)→S2 T t t∧Cnt T t) {w:World} {g:Nat} {Tv Nv:Value} {N:List Nd} (h:PS w g Tv T Nv N s) :
  Calls Tryz.prog 189 #[.pointer (some ⟨g,0,none⟩)] w (Rd T w g Tv Nv N (list T rec s)):=by
 obtain ⟨res,hres⟩:∃ res,list T rec s=res:=⟨_,rfl⟩
 rw [hres]
 have HQ:=Hid.mk7 hres
 have htl:=h.at_.tl
 have r0:=Rg.refl h
 have hfa:=Tryz.tokPlace
 have hmf:=Tryz.makeFn
 have HP:=Hid.mk7 (And.intro E (And.intro hfin h))
 clear hres hfin E h
 cases h1:sgn T ⟨#[91]⟩ s.i with
 | false=>
  have hre:res=.error s.i:=by rw [← HQ.out]; simp [list,PM.bind,pNeed,h1]
  subst hre
  have c1:=rg_sign_bad r0 h1
  clear r0 h1
  go_enter Tryz.func189,Tryz.ntmps189
  go_wp2_with fail
  refine c1.mono ?_
  rintro x w1 ⟨rfl,T1⟩
  exact ⟨rfl,rfl,T1⟩
 | true=>
  have hT:0 < T.length:=by have:=sgn_lt h1; omega
  have c1:=rg_sign r0 h1
  unfold Tkn at c1
  have H1:=Hid.mk7 h1
  obtain ⟨tk,htk⟩:∃ tk,tokAt T s.i=tk:=⟨_,rfl⟩
  rw [htk] at c1
  have HT:=Hid.mk7 htk
  clear r0 h1 htk
  obtain ⟨tk,tt,tn,ta⟩:=tk
  simp only [Tk.val] at c1
  go_enter Tryz.func189,Tryz.ntmps189
  go_wp2_with fail
  refine c1.mono ?_
  rintro x w1 ⟨rfl,r1,_⟩
  have mk2:=MkI.of_kd r1 (Kd.nil _ _ _ _ _ _ _) hT 6 ⟨#[]⟩ ⟨#[]⟩ 0 ta
  have c2:=rg_isSign mk2.rg ⟨#[93]⟩
  have H2:=Hid.mk7 mk2
  clear c1 r1 mk2
  cases h2:sgn T ⟨#[93]⟩ (s.i+1) with
  | true=>
   have hre:list T rec s=.ok (s.N.length,⟨s.i+1+1,s.N++[⟨5,⟨#[]⟩,⟨#[]⟩,0,[],ta⟩]⟩):=by simp [list,PM.bind,pIf,pNeed,H1.out,h2,pSkip,pAdd,HT.out]
   obtain ⟨q1,q2⟩:=HP.out.2.1 _ _ hre
   have hre2:res=.ok (s.N.length,⟨s.i+1+1,s.N++[⟨5,⟨#[]⟩,⟨#[]⟩,0,[],ta⟩]⟩):=HQ.out.symm.trans hre
   subst hre2
   have HF:=Hid.mk7 (And.intro q1 q2)
   rw [show sgn T ⟨#[93]⟩ (⟨s.i+1,s.N⟩:Ps).i=true from h2] at c2
   have hlt:s.i+1+1≤T.length:=sgn_lt h2
   clear hre q1 q2 h2
   go_wp2_with fail
   refine c2.mono ?_
   rintro x w3 ⟨rfl,r3,hb3⟩
   have mk3:=H2.out.to r3 (Stp.ofB hb3)
   have k1:=r3.ps.at_.c1.1
   have f1:=r3.ps.at_.c1.2
   have r4:=r3.skip 1 hlt
   have mk4:=mk3.to r4 (Stp.ofG (Turned.set1 w3 g 1 _))
   rw [show (((⟨s.i+1,s.N⟩:Ps).i+1:Nat):Int)=(s.i:Int)+1+1 by simp] at r4 mk4
   have n5:=mk4.bx.n5
   have c5:=rg_add r4 hT ⟨5,⟨#[]⟩,⟨#[]⟩,0,.slice none 0 0,[],ta⟩ (Kd.nil _ _ _ _ _ _ _) HF.out.1 HF.out.2
   simp only [Nd.val] at c5
   clear c2 r3 hb3 mk3 r4 mk4 H2
   go_wp2_with fail
   refine c5.mono ?_
   rintro x w5 ⟨rfl,Nv5,r5,_⟩
   have H5:=Hid.mk7 r5
   clear c5 r5 n5
   go_wp2
   go_ret
   exact H5.out.of
  | false=>
   rw [show sgn T ⟨#[93]⟩ (⟨s.i+1,s.N⟩:Ps).i=false from h2] at c2
   have HS:=Hid.mk7 h2
   clear h2
   go_wp2_with fail
   refine c2.mono ?_
   rintro x w3 ⟨rfl,r3,hb3⟩
   have mk3:=H2.out.to r3 (Stp.ofB hb3)
   have c4:=rd_row_whole (HP.out.1.fwd (.expr 1) (by simp [okPh])) HP.out.1.whole ⟨#[44]⟩ (s:=⟨s.i+1,s.N⟩) (Nat.le_refl _) r3.ps
   have hps:=r3.ps
   have HR3:=Hid.mk7 r3
   have H3:=Hid.mk7 mk3
   clear c2 r3 hb3 mk3 H2
   cases hrow:row T ⟨#[44]⟩ (rec (.expr 1)) ⟨s.i+1,s.N⟩ with
   | error e=>
    have hre:res=.error e:=by rw [← HQ.out]; simp [list,whole,PM.bind,pIf,pNeed,H1.out,HS.out,hrow]
    subst hre
    rw [hrow] at c4
    clear hrow hps
    go_wp2_with fail
    refine c4.mono ?_
    rintro x w4 ⟨rfl,T4⟩
    exact ⟨rfl,rfl,HR3.out.bad T4⟩
   | ok kt=>
    obtain ⟨ks,t⟩:=kt
    have hlen:=row_len (HP.out.1.fwd (.expr 1) (by simp [okPh])) hps.ok hrow
    obtain ⟨_,_,hit⟩:=(row_ok2 (Alike.refl T) (x:=⟨#[44]⟩) (d:=3) (by omega) (fun s s' hs=>HP.out.1.ok2 (.expr 1) (by simp [okPh]) s s' hs) hps.ok).fin (by omega) hps.cnt hrow
    have HW:=Hid.mk7 (And.intro hrow (And.intro hlen hit))
    rw [hrow] at c4
    clear hrow hps hlen hit
    go_wp2_with fail
    refine c4.mono ?_
    intro x w4 hx
    obtain ⟨V4,rfl,⟨a4,q4,hV4⟩,⟨Nv4,M4,mk4⟩,k4,f4,l4⟩:=H3.out.rdL hx
    subst hV4
    have hps4:=mk4.rg.ps
    have hE4:=fun W (hW:Below (w4.setCell ⟨w1.heap.size,4,none⟩ (.slice a4 ks.length q4)).heap.size (w4.setCell ⟨w1.heap.size,4,none⟩ (.slice a4 ks.length q4)) W)=>rd_tail (HP.out.1.whole.up (by have h9:s.i+1≤t.i:=HW.out.2.2; omega)) hT (HP.out.1.tail hps4.ok hps4.cnt) (hps4.below hW)
    have n4:=mk4.bx.n4
    have H4:=Hid.mk7 mk4
    have hlT:ks.length≤65536:=by have:=HW.out.2.1; have:=hps4.ok.il; omega
    have hal:(ks.length+1)*8≤140737488355328:=by omega
    have hal2:ks.length+1≤4611686018427387903:=by omega
    have HAL:=Hid.mk7 (And.intro hal hal2)
    clear c4 hx mk4 hps4 H3 hal hal2
    cases htl2:tail T rec t with
    | error e=>
     have hre:res=.error e:=by rw [← HQ.out]; simp [list,whole,PM.bind,pIf,pNeed,H1.out,HS.out,HW.out.1,htl2]
     subst hre
     simp only [htl2] at hE4
     clear htl2
     go_wp2_with fail
     generalize w4.setCell _ _=w5 at H4 hE4 n4 ⊢
     go_region_law (rw [if_pos (by rfl)]; go_simp; go_at_call 199; refine (hE4 _ (Below.refl _ _).drew).mono ?_; rintro x w6 ⟨rfl,T6⟩; refine idle_of w6 ⟨rfl,rfl,(H4.out.rg.below (Below.refl _ _).drew).bad T6⟩ ?_)
     all_goals trivial
    | ok bt=>
     obtain ⟨bk,t2⟩:=bt
     have hre:list T rec s=.ok (t2.N.length,⟨t2.i,t2.N++[⟨6,⟨#[]⟩,⟨#[]⟩,0,ks++[(bk:Int)],ta⟩]⟩):=by simp [list,whole,PM.bind,pIf,pNeed,H1.out,HS.out,HW.out.1,htl2,pAdd,HT.out]
     obtain ⟨q1,q2⟩:=HP.out.2.1 _ _ hre
     have hre2:res=.ok (t2.N.length,⟨t2.i,t2.N++[⟨6,⟨#[]⟩,⟨#[]⟩,0,ks++[(bk:Int)],ta⟩]⟩):=HQ.out.symm.trans hre
     subst hre2
     have HF:=Hid.mk7 (And.intro q1 q2)
     simp only [htl2] at hE4
     clear htl2 hre q1 q2
     go_wp2_with fail
     generalize w4.setCell _ _=w5 at H4 hE4 n4 ⊢
     go_region_law (first
      | (rw [if_pos (by rfl)]; go_simp; go_at_call 199; refine (hE4 _ (Below.refl _ _).drew).mono ?_; intro x w6 hx; obtain ⟨rfl,Nv6,M6,m6⟩:=H4.out.rd (Below.refl _ _).drew hx; have k6:=m6.bx.n4; have q6:=m6.bx.lt; have H6:=Hid.mk7 m6; clear hx m6; dsimp only)
      | (refine step_append_k (by rfl) (.tmp 28) (.tmp 31) (by rfl) Tryz.intTypes (by rfl) (by rfl) (OwnK.turned H6.out.bx.own (Turned.alloc (fun _=>False) _ _) (fun _ _ e=>e)) (SlI.one w6 _ _) (ints_one _) HAL.out.1 HAL.out.2 ?_; intro V7 w7 ho7 T7 hv7; obtain ⟨aV7,cV7,hV7,_,_⟩:=ho7.sl.form; subst hV7; obtain ⟨c7,f7,l7⟩:=H6.out.cell (Below.alloc0 w6 _) T7))
     all_goals
      have mk8:=H6.out.more hT (Below.alloc0 w6 _) ho7 T7 hv7
      have c8:=rg_add mk8.rg hT ⟨6,⟨#[]⟩,⟨#[]⟩,0,_,ks++[(bk:Int)],ta⟩ mk8.kd HF.out.1 HF.out.2
      simp only [Nd.val] at c8
      obtain ⟨n0,n1,n2,n3,n4',n5,_,_,_,_,_⟩:=mk8.bx
      clear mk8 ho7 T7 hv7 c7 f7
      generalize w7.setCell _ _=w8 at c8 n0 n1 n2 n3 n4' n5 ⊢
      go_wp2_with fail
      refine c8.mono ?_
      rintro x w9 ⟨rfl,Nv9,r9,_⟩
      have H9:=Hid.mk7 r9
      clear r9 c8 n0 n1 n2 n3 n4' n5
      go_wp2
      go_ret
      exact H9.out.of
end Go.Proofs.YtlciaafincgdeaaGreatDoor
