/-
  Layer 11 (parse): the program's parser at any tokens: every phrase, by induction on how deep it may go.
  Layer 11 (parse): programs.
-/
import Derived.Test.YtlciaafincgdeaaGreatDoorZav
import Derived.Test.YtlciaafincgdeaaGreatDoorPGq
import Derived.Test.YtlciaafincgdeaaGreatDoorZan
import Derived.Test.YtlciaafincgdeaaGreatDoorZay
namespace Go.Proofs.YtlciaafincgdeaaGreatDoor
open Go.RowKit
set_option maxHeartbeats 6400000
set_option maxRecDepth 100000
def rankOf:Ph→Nat
  | .operand=>1
  | .expr _=>2
  | .conj=>3
  | .body=>3
  | .clause=>3
  | .cclause=>3
  | .guard=>4
  | .fclause=>1
  | .function=>2
  | .module=>1
  | .export=>1
def RunsAt (T:List Tk) (F:FuncId) (more:List Value) (m:PM Nat) (s:Ps):Prop:=∀ w g Tv Nv N,PS w g Tv T Nv N s→Calls Tryz.prog F (Value.pointer (some ⟨g,0,none⟩) :: more).toArray w (Rd T w g Tv Nv N (m s))
theorem phBody_fin {T:List Tk} {f:Nat} (ph:Ph) (hp:okPh ph) {s:Ps} (hs:S2 T s s) (hc:Cnt T s):∀ a t,phBody T (runP T f) ph s=.ok (a,t)→S2 T t t∧Cnt T t:=fun a t e=>by
  have h:=phBody_ok2 (Alike.refl T) (rec:=runP T f) (rec':=runP T f) (fun ph hp s s' hs=>runP_ok2 (Alike.refl T) f ph hp s s' hs) ph hp hs
  have hd:=dOf_pos ph
  exact ⟨(h.fin (by omega) hc e).1,(h.fin (by omega) hc e).2.1⟩
theorem phBody_fwd {T:List Tk} (f:Nat) (ph:Ph) (hp:okPh ph):Fwd T (phBody T (runP T f) ph):=fun _ hs=>(phBody_ok2 (Alike.refl T) (rec:=runP T f) (rec':=runP T f) (fun ph hp s s' hs=>runP_ok2 (Alike.refl T) f ph hp s s' hs) ph hp hs).mono (dOf_pos ph)
theorem Env.single {T:List Tk} {rec:Ph→PM Nat} {i0:Nat} (E:Env T rec i0) {t:Ps} (ht:S2 T t t) (hc:Cnt T t):∀ a u,single T rec (tokAt T t.i) t=.ok (a,u)→S2 T u u∧Cnt T u:=fun _ _ e=>⟨((single_ok2 (Alike.refl T) E.ok2 ht).fin (by omega) hc e).1,((single_ok2 (Alike.refl T) E.ok2 ht).fin (by omega) hc e).2.1⟩
theorem fcOk {T:List Tk} (f:Nat):FcOk T (runP T f .fclause):=by
  intro s a t hs e
  cases f with
  | zero=>cases e
  | succ f=>
    have hR:=fun ph hp s s' hs=>runP_ok2 (Alike.refl T) f ph hp s s' hs
    simp only [runP] at e
    cases h1:knd T 1 s.i with
    | false=>simp [phBody,PM.bind,pNeed,h1] at e
    | true=>
      cases h2:arguments T (runP T f) ⟨s.i+1,s.N⟩ with
      | error x=>simp [phBody,PM.bind,pNeed,h1,pTok,h2] at e
      | ok ku=>
        obtain ⟨ks,u⟩:=ku
        simp only [phBody,PM.bind,pNeed,h1,if_true,pTok,h2,pAdd] at e
        generalize u.N.length=p at e
        generalize (⟨u.i,u.N++_⟩:Ps)=v at e
        unfold rest at e
        cases h3:pIf (wrd T ⟨#[119,104,101,110]⟩) (PM.bind (pSkip 1) fun _=>PM.bind (runP T f .guard) fun k=>PM.ret [(p:Int),(k:Int)]) (PM.ret [(p:Int)]) v with
        | error x=>simp [PM.bind,h3] at e
        | ok kv=>
          obtain ⟨kids,v2⟩:=kv
          have hk:∃ r,kids=(p:Int) :: r:=by
            cases h4:wrd T ⟨#[119,104,101,110]⟩ v.i with
            | false=>
              simp [pIf,h4,PM.ret] at h3
              exact ⟨[],h3.1.symm⟩
            | true=>
              cases h5:runP T f .guard ⟨v.i+1,v.N⟩ with
              | error x=>simp [pIf,h4,PM.bind,pSkip,h5] at h3
              | ok gv=>
                obtain ⟨k,v3⟩:=gv
                simp [pIf,h4,PM.bind,pSkip,h5,PM.ret] at h3
                exact ⟨[(k:Int)],h3.1.symm⟩
          obtain ⟨r,rfl⟩:=hk
          cases h6:sgn T ⟨#[45,62]⟩ v2.i with
          | false=>simp [PM.bind,h3,pNeed,h6] at e
          | true=>
            cases h7:runP T f .body ⟨v2.i+1,v2.N⟩ with
            | error x=>simp [PM.bind,h3,pNeed,h6,h7] at e
            | ok bv=>
              obtain ⟨b,v4⟩:=bv
              simp only [PM.bind,h3,pNeed,h6,if_true,h7,pAdd,Except.ok.injEq,Prod.mk.injEq] at e
              obtain ⟨rfl,rfl⟩:=e
              exact ⟨(p:Int),r++[(b:Int)],by simp⟩
theorem rd_all {T:List Tk} (hT:0 < T.length):∀ (f:Nat) (ph:Ph),okPh ph→∀ s:Ps,8*(T.length - s.i)+rankOf ph≤f→RunsAt T (fnOf ph) (moreOf ph) (runP T f ph) s
  | 0,ph,_,s,hf=>by
    exfalso
    cases ph <;> simp [rankOf] at hf
  | f+1,ph,hp,s,hf=>by
    intro w g Tv Nv N h
    have hil:=h.ok.il
    -- all phrases behind this token
    have E:Env T (runP T f) (s.i+1):=⟨fun ph hp s s' hs=>runP_ok2 (Alike.refl T) f ph hp s s' hs,fun ph2 hp2 s2 hs2 w2 g2 Tv2 Nv2 N2 h2=>by
      have:=h2.ok.il
      exact rd_all hT f ph2 hp2 s2 (by have:rankOf ph2≤4:=by cases ph2 <;> simp [rankOf]
                                       omega) w2 g2 Tv2 Nv2 N2 h2⟩
    -- phrases of a lower rank at this token
    have L:∀ ph2,okPh ph2→rankOf ph2 < rankOf ph→Runs T (fnOf ph2) (moreOf ph2) (runP T f ph2) s.i:=fun ph2 hp2 hr s2 hs2 w2 g2 Tv2 Nv2 N2 h2=>by
      have:=h2.ok.il
      exact rd_all hT f ph2 hp2 s2 (by omega) w2 g2 Tv2 Nv2 N2 h2
    have hfin:=phBody_fin (f:=f) ph hp h.ok h.cnt
    show Calls Tryz.prog _ _ w (Rd T w g Tv Nv N (phBody T (runP T f) ph s))
    cases ph with
    | module=>exact rd_module E hfin h
    | «export»=>exact rd_export hfin h
    | function=>exact rd_function hT (E.fwd .fclause trivial) (L .fclause trivial (by simp [rankOf])) (fun s s' hs=>runP_ok2 (Alike.refl T) f .fclause trivial s s' hs) (fcOk f) hfin h
    | fclause=>exact rd_fclause E h
    | clause=>exact rd_clause E (rd_whole (L (.expr 1) (by simp [okPh]) (by simp [rankOf]))) h
    | cclause=>exact rd_cclause hT E (rd_whole (L (.expr 1) (by simp [okPh]) (by simp [rankOf]))) h
    | conj=>exact rd_conjunction (E.fwd (.expr 1) (by simp [okPh])) (rd_whole (L (.expr 1) (by simp [okPh]) (by simp [rankOf]))) (phBody_fwd f .conj trivial) h
    | guard=>exact rd_guard (E.fwd .conj trivial) (L .conj trivial (by simp [rankOf])) (phBody_fwd f .guard trivial) h
    | body=>exact rd_body (E.fwd (.expr 1) (by simp [okPh])) (rd_whole (L (.expr 1) (by simp [okPh]) (by simp [rankOf]))) (phBody_fwd f .body trivial) h
    | operand=>exact rd_operand E hfin (fun w g Tv Nv N h=>rd_single E (E.single h.ok h.cnt) h) h
    | expr l=>exact rd_expr l hp hT E (L .operand trivial (by simp [rankOf])) h
section
variable {T:List Tk} {rec:Ph→PM Nat} {s t:Ps} {f:Nat} {acc:List Int}
theorem modsL_stop (hf:0 < f) (h:¬ s.i < T.length):modsL T rec f acc s=.ok (acc,s):=by
 cases f with
 | zero=>omega
 | succ f=>simp [modsL,pIf,h,PM.ret]
theorem modsL_bad (hf:0 < f) (h:s.i < T.length) {e:Nat} (he:rec .module s=.error e):modsL T rec f acc s=.error e:=by
 cases f with
 | zero=>omega
 | succ f=>simp [modsL,pIf,h,PM.bind,he]
theorem modsL_next (hf:0 < f) (h:s.i < T.length) {a:Nat} (he:rec .module s=.ok (a,t)):modsL T rec f acc s=modsL T rec (f - 1) (acc++[(a:Int)]) t:=by
 cases f with
 | zero=>omega
 | succ f=>simp [modsL,pIf,h,PM.bind,he]
end
structure ProI (T:List Tk) (rec:Ph→PM Nat) (w wr:World) (g:Nat) (Tv Nv:Value) (N:List Nd) (i0:Nat) (res:Except Nat (Nat × Ps)) (q:Nat) (na:Int) (s1:Ps) (acc:List Int) (f:Nat) (Nv1:Value) (M1:List Nd) (V:Value):Prop where
 i:i0≤s1.i
 fuel:T.length - s1.i < f
 eq:PM.bind (modsL T rec f acc) (fun ks=>pAdd ⟨28,⟨#[]⟩,⟨#[]⟩,0,ks,na⟩) s1=res
 mki:MkI T w wr g Tv Nv N s1 Nv1 M1 q 28 ⟨#[]⟩ ⟨#[]⟩ 0 V acc na
 al:acc.length≤s1.i
theorem rd_program {T:List Tk} {rec:Ph→PM Nat} {s:Ps} (hm:Fwd T (rec .module)) (hR:Runs T 77 [] (rec .module) s.i) (hfin:∀ a t,programP T rec s=.ok (a,t)→S2 T t t∧Cnt T t) {w:World} {g:Nat} {Tv Nv:Value} {N:List Nd} (h:PS w g Tv T Nv N s) :
  Calls Tryz.prog 49 #[.pointer (some ⟨g,0,none⟩)] w (Rd T w g Tv Nv N (programP T rec s)):=by
 obtain ⟨res,hres⟩:∃ res,programP T rec s=res:=⟨_,rfl⟩
 rw [hres]
 have HQ:=Hid.mk7 hres
 have htl:=h.at_.tl
 have hfa:=Tryz.tokPlace
 have c1:=rg_peek (Rg.refl h)
 obtain ⟨aT,cT,hTv,_⟩:=h.at_.tok.form
 have HTv:=Hid.mk7 hTv
 have HP:=Hid.mk7 (And.intro hm (And.intro hR hfin))
 obtain ⟨tk,htk⟩:∃ tk,tokAt T s.i=tk:=⟨_,rfl⟩
 rw [htk] at c1
 have HT:=Hid.mk7 htk
 clear hres hfin hm hR h hTv htk
 obtain ⟨tk,tt,tn,ta⟩:=tk
 simp only [Tk.val] at c1
 go_enter Tryz.func49,Tryz.ntmps49
 go_wp2_with fail
 refine c1.mono ?_
 rintro x w1 ⟨rfl,r1,_⟩
 have c2:=HP.out.2.1 s (Nat.le_refl _) w1 g Tv _ _ r1.ps
 have c2:Calls Tryz.prog 77 #[.pointer (some ⟨g,0,none⟩)] w1 (Rd T w1 g Tv Nv (N++[]) (rec .module s)):=c2
 have hps:=r1.ps
 have HR1:=Hid.mk7 r1
 clear c1 r1
 cases h2:rec .module s with
 | error e=>
  have hre:res=.error e:=by rw [← HQ.out]; simp [programP,PM.bind,pTok,h2]
  subst hre
  rw [h2] at c2
  clear h2 hps
  go_wp2_with fail
  refine c2.mono ?_
  rintro x w2 ⟨rfl,T2⟩
  exact ⟨rfl,rfl,HR1.out.bad T2⟩
 | ok at_=>
  obtain ⟨a,t⟩:=at_
  obtain ⟨g1,_,g3,_⟩:=HP.out.1.ok hps.ok hps.cnt h2
  have gi:=g1.il
  have hT:0 < T.length:=by omega
  have hre:PM.bind (modsL T rec (T.length+1) [(a:Int)]) (fun ks=>pAdd ⟨28,⟨#[]⟩,⟨#[]⟩,0,ks,ta⟩) t=res:=by rw [← HQ.out]; simp [programP,PM.bind,pTok,h2,HT.out]
  have HW:=Hid.mk7 (And.intro hre g3)
  rw [h2] at c2
  clear h2 hps hre g1 g3 gi
  go_wp2_with fail
  refine c2.mono ?_
  intro x w2 hx
  obtain ⟨rfl,Nv2,M2,r2,_⟩:=HR1.out.rd hx
  have mk3:=MkI.of_kd (r2.below (Below.alloc0 w2 (.cells #[.int .i64 (a:Int)] 3))) (Kd.one r2 hT (a:Int)) hT 28 ⟨#[]⟩ ⟨#[]⟩ 0 ta
  simp only [World.size_alloc] at mk3
  have H0:=Hid.mk7 mk3
  clear c2 hx r2 mk3
  go_wp2_with fail
  go_loopw [] (fun wr=>∃ s1 acc f Nv1 M1 V,ProI T rec w wr g Tv Nv N (s.i+1) res (w2.heap.size+1) ta s1 acc f Nv1 M1 V) (fun wr=>T.length - posOf wr g)
  case atStart=>
   exact ⟨t,[(a:Int)],T.length+1,_,_,_,⟨HW.out.2,by omega,HW.out.1,H0.out,by have:=HW.out.2; simp; omega⟩⟩
  case round=>
   clear H0
   obtain ⟨s1,acc,f,Nv3,M3,V,hi,hfu,heq,hmk,hal⟩:=hrel
   obtain ⟨aV,cV,hV,_⟩:=OwnK.sl hmk.bx.own |>.form
   subst hV
   have hf0:0 < f:=by omega
   have c0:=hmk.rg.ps.at_.c0
   rw [HTv.out] at c0
   have c1:=hmk.rg.ps.at_.c1.1
   have hgl:=hmk.rg.ps.at_.lt
   have hil:=hmk.rg.ps.ok.il
   have hpos:=hmk.rg.ps.at_.pos
   have HI:=Hid.mk7 (And.intro hi (And.intro hfu (And.intro heq (And.intro hal (And.intro hpos hil)))))
   have HK:=Hid.mk7 hmk
   clear hi hfu heq hal hmk hpos
   obtain ⟨nI,hnI⟩:∃ nI:Int,nI=(s1.i:Int):=⟨_,rfl⟩
   rw [← hnI] at c1
   have HNI:=Hid.mk7 hnI
   clear hnI
   by_cases hlt:s1.i < T.length
   ·have hltI:decide (nI < (T.length:Int))=true:=by rw [HNI.out]; simp; omega
    have hps:=HK.out.rg.ps
    have hE:=fun WW (hW:Below wr.heap.size wr WW)=>HP.out.2.1 s1 (by have:=HI.out.1; omega) WW g Tv _ _ (HK.out.rg.below hW).ps
    have hE:∀ WW (hW:Below wr.heap.size wr WW),Calls Tryz.prog 77 #[.pointer (some ⟨g,0,none⟩)] WW (Rd T WW g Tv Nv3 (N++M3) (rec .module s1)):=hE
    have n4:=HK.out.bx.n4
    clear hil
    cases hex:rec .module s1 with
    | error e=>
     have hre:res=.error e:=by rw [← HI.out.2.2.1]; simp [PM.bind,modsL_bad hf0 hlt hex]
     subst hre
     simp only [hex] at hE
     clear hex hps hlt
     go_wp2_with fail
     go_region
     go_wp2_with fail
     go_region_law (rw [if_pos (by rfl)]; go_simp; go_at_call 77; refine (hE _ (Below.refl _ _).drew.drew).mono ?_; rintro x w10 ⟨rfl,T10⟩; refine idle_of w10 ⟨rfl,rfl,(HK.out.rg.below (Below.refl _ _).drew.drew).bad T10⟩ ?_)
     all_goals trivial
    | ok at_=>
     obtain ⟨b,u⟩:=at_
     obtain ⟨h5a,_,h5c,_⟩:=HP.out.1.ok hps.ok hps.cnt hex
     have hti:=h5a.il
     have hre:PM.bind (modsL T rec (f - 1) (acc++[(b:Int)])) (fun ks=>pAdd ⟨28,⟨#[]⟩,⟨#[]⟩,0,ks,ta⟩) u=res:=by rw [← HI.out.2.2.1]; simp only [PM.bind,modsL_next hf0 hlt hex]
     have hacc:=HI.out.2.2.2.1
     have hal:(acc.length+[(b:Int)].length)*8≤140737488355328:=by simp; omega
     have hal2:acc.length+[(b:Int)].length≤4611686018427387903:=by simp; omega
     have HAL:=Hid.mk7 (And.intro hal (And.intro hal2 (And.intro hre (And.intro h5c hti))))
     simp only [hex] at hE
     clear hex hps hlt hre h5a h5c hti hacc hal hal2
     go_wp2_with fail
     go_region
     go_wp2_with fail
     go_region_law (first
      | (rw [if_pos (by rfl)]; go_simp; go_at_call 77; refine (hE _ (Below.refl _ _).drew.drew).mono ?_; intro x w10 hx; obtain ⟨rfl,Nv10,M10,mk10⟩:=HK.out.rd (Below.refl _ _).drew.drew hx; have k10:=mk10.bx.n4; have q10:=mk10.bx.lt; have HK10:=Hid.mk7 mk10; clear hx mk10; dsimp only)
      | (refine step_append_k (by rfl) (.tmp 22) (.tmp 25) (by rfl) Tryz.intTypes (by rfl) (by rfl) (OwnK.turned HK10.out.bx.own (Turned.alloc (fun _=>False) _ _) (fun _ _ e=>e)) (SlI.one w10 _ _) (ints_one _) HAL.out.1 HAL.out.2.1 ?_; intro V11 w11 ho11 T11 hv11; obtain ⟨aV11,cV11,hV11,_,_⟩:=ho11.sl.form; subst hV11; obtain ⟨c11,f11,l11⟩:=HK10.out.cell (Below.alloc0 w10 _) T11))
     all_goals
      have mk12:=HK10.out.more hT (Below.alloc0 w10 _) ho11 T11 hv11
      have HM:=Hid.mk7 mk12
      clear ho11 T11 hv11 c11 f11 l11 k10 q10 HK10 mk12
      generalize w11.setCell _ _=w12 at HM ⊢
      go_wp2
      go_roundw
      case rel=>
       exact ⟨u,acc++[(b:Int)],f - 1,_,_,_,⟨by have h1:=HI.out.1; have h2:=HAL.out.2.2.2.1; omega,by have h1:=HI.out.2.1; have h2:=HAL.out.2.2.2.1; have h3:=HAL.out.2.2.2.2; omega,HAL.out.2.2.1,HM.out,by have h1:=HI.out.2.2.2.1; have h2:=HAL.out.2.2.2.1; simp; omega⟩⟩
      case measure=>
       rw [HM.out.rg.ps.at_.pos,HI.out.2.2.2.2.1]
       have h2:=HAL.out.2.2.2.1
       have h3:=HAL.out.2.2.2.2
       omega
   ·have hltI:decide (nI < (T.length:Int))=false:=by rw [HNI.out]; simp; omega
    have hre:res=.ok (s1.N.length,⟨s1.i,s1.N++[⟨28,⟨#[]⟩,⟨#[]⟩,0,acc,ta⟩]⟩):=by rw [← HI.out.2.2.1]; simp [PM.bind,modsL_stop hf0 hlt,pAdd]
    have HF:=Hid.mk7 (HP.out.2.2 _ _ (HQ.out.trans hre))
    subst hre
    have mk5:=HK.out.to (HK.out.rg.below (Below.refl _ _).drew) (Stp.ofB (Below.refl _ _).drew)
    have c9:=rg_add mk5.rg hT ⟨28,⟨#[]⟩,⟨#[]⟩,0,.slice aV acc.length cV,acc,ta⟩ mk5.kd HF.out.1 HF.out.2
    simp only [Nd.val] at c9
    clear hlt hil mk5
    go_wp2_with fail
    go_region
    obtain ⟨n0,n1,n2,n3,n4,n5,_,_,_,_,_⟩:=HK.out.bx
    clear hltI c0 c1
    go_wp2_with fail
    refine c9.mono ?_
    rintro x w9 ⟨rfl,Nv9,r9,_⟩
    have H9:=Hid.mk7 r9
    clear c9 r9 n0 n1 n2 n3 n4 n5
    go_wp2
    go_ret
    exact H9.out.of
end Go.Proofs.YtlciaafincgdeaaGreatDoor
