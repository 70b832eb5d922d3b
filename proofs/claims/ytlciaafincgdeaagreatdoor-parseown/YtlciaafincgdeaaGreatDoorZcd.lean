/-
  Layer 11 (parse): the parser's run at any tokens, under a deferred recover: its tree, or the fault of the first token that may not stand there.
  Layer 11 (parse): the limits of trees, with what refuses them.
  Layer 11 (parse): the program's Parse at any tokens.
-/
import Derived.Test.YtlciaafincgdeaaGreatDoorZaz
import Derived.Test.YtlciaafincgdeaaGreatDoorZcb
import Derived.Test.YtlciaafincgdeaaGreatDoorZca
import Derived.Defers
import Derived.Recover
import Derived.Test.YtlciaafincgdeaaGreatDoorZcc
namespace Go.Proofs.YtlciaafincgdeaaGreatDoor
open Go.RowKit Go.Extern.Stop Go.Stop Go.Extern
open Go.RowKit
variable {B:Nat} {K:List (Value × List Int)} {N:List Nd} {S:Nat→Prop} {T:List Tk} {Tv lv tv v:Value} {a c:Int} {t:Ps} {tree:List Int} {w w':World}
set_option maxHeartbeats 6400000
set_option maxRecDepth 100000
def Er (w:World):Prop:=w.cell? ⟨0,0,none⟩=some (.iface 127 (.agg #[.pointer (some ⟨9,30,none⟩)]))
theorem Er.turned (h:Er w) (ht:Turned S w w') (hs:¬ S 0):Er w':=ht.cell h hs
theorem Er.below (h:Er w) (hb:Below w.heap.size w w'):Er w':=(hb.cell (p:=⟨0,0,none⟩) (World.block_lt_of_cell? w _ h)).trans h
theorem Er.lt (h:Er w):0 < w.heap.size:=World.block_lt_of_cell? w _ h
def FaultP (B:Nat) (w:World) (v:Value) (a c:Int):Prop:=∃ pb,B≤pb∧v=.iface 60 (.pointer (some ⟨pb,0,none⟩))∧w.cell? ⟨pb,0,none⟩=some (.string ⟨#[112,97,114,115,101]⟩)∧w.cell? ⟨pb,1,none⟩=some (.int .i64 a)∧w.cell? ⟨pb,2,none⟩=some (.int .i64 c)∧w.cell? ⟨pb,3,none⟩=some .nilIface
theorem FaultP.mono {B':Nat} (h:FaultP B w v a c) (hB:B'≤B):FaultP B' w v a c:=by
 obtain ⟨pb,h1,h2⟩:=h
 exact ⟨pb,Nat.le_trans hB h1,h2⟩
theorem FaultP.below (h:FaultP B w v a c) (hb:Below w.heap.size w w'):FaultP B w' v a c:=by
 obtain ⟨pb,h1,h2,h3,h4,h5,h6⟩:=h
 have hl:pb < w.heap.size:=World.block_lt_of_cell? w _ h3
 exact ⟨pb,h1,h2,(hb.cell (p:=⟨pb,0,none⟩) hl).trans h3,(hb.cell (p:=⟨pb,1,none⟩) hl).trans h4,(hb.cell (p:=⟨pb,2,none⟩) hl).trans h5,(hb.cell (p:=⟨pb,3,none⟩) hl).trans h6⟩
theorem ps_refuse (a c:Int) (w:World):Calls Tryz.prog 18 #[.int .i64 a,.int .i64 c] w fun e w'=>∃ v,e=.returned v∧FaultP w.heap.size w' v a c∧Below w.heap.size w w':=by
 go_enter Tryz.func18,Tryz.ntmps18
 go_wp2
 go_ret
 exact ⟨_,rfl,⟨_,Nat.le_refl _,rfl,by simp,by simp,by simp,by simp⟩,(Below.refl _ _).alloc (Nat.le_refl _) _⟩
theorem as_misplaced (e:Int) (tb:Nat) (old:Value) (w:World) (hg:Er w) (ht0:w.cell? ⟨tb,0,none⟩=some old) (hf0:w.frozen? ⟨tb,0,none⟩=false) :
  Calls Tryz.prog 22 #[.iface 120 (.int .i64 e),.iface 121 (.pointer (some ⟨tb,0,none⟩))] w fun ev w'=>ev=.returned (.bool true)∧w'.cell? ⟨tb,0,none⟩=some (.int .i64 e)∧Below tb w w'∧w.heap.size < w'.heap.size:=by
 have hlt:tb < w.heap.size:=World.block_lt_of_cell? w _ ht0
 refine (as_mis e ⟨tb,0,none⟩ old w hg ht0 hf0).mono ?_
 rintro ev w' ⟨rfl,rfl⟩
 refine ⟨rfl,?_,?_,?_⟩
 ·refine World.cell?_setCell_same _ _ _ (u:=old) ?_
  rw [World.cell?_alloc_lt _ _ ⟨tb,0,none⟩ (by simp; omega),World.cell?_alloc_lt _ _ ⟨tb,0,none⟩ (by simp; omega),World.cell?_alloc_lt _ _ ⟨tb,0,none⟩ (by simp; omega),World.cell?_alloc_lt _ _ ⟨tb,0,none⟩ hlt]; exact ht0
 ·refine Below.setCell (Below.alloc (Below.alloc (Below.alloc (Below.alloc (Below.refl _ _) ?_ _) ?_ _) ?_ _) ?_ _) ?_ _
  all_goals first | (simp; done) | omega | (simp; omega)
 ·simp [World.setCell]; omega
theorem Tryz.misError (v:Value) (xT:TypeId) (w:World):(Instr.typeAssert (.iface 120 v) xT 30 true).run Tryz.prog w=.ok (.tuple #[.iface 120 v,.bool true]) w:=run_typeAssert_hasB Tryz.underlying30 (by kernel_rfl) v xT w
theorem ps_told (n:Int) (w:World) (hg:Er w):Calls Tryz.prog 48 #[.iface 120 (.int .i64 n)] w fun e w'=>∃ v,e=.returned v∧FaultP w.heap.size w' v n 220∧Below w.heap.size w w':=by
 have hta:=Tryz.misError
 have hA:=as_misplaced n w.heap.size (.int .i64 0) (w.alloc (.cells #[.int .i64 0] 120)) (hg.below (Below.alloc0 w _)) (by simp) (by rw [World.frozen?_alloc_new])
 go_enter Tryz.func48,Tryz.ntmps48
 go_wp2_with fail
 refine hA.mono ?_
 rintro e w1 ⟨rfl,c1,hb1,hz1⟩
 have HB1:=Hid.mk7 ((Below.alloc0 w (.cells #[.int .i64 0] 120)).trans hb1)
 have hR:=ps_refuse n 220 w1
 clear hA hb1 hta
 go_wp2_with fail
 refine hR.mono ?_
 rintro e w2 ⟨v,rfl,hv,hb2⟩
 have H2:=Hid.mk7 (And.intro hv (HB1.out.trans (hb2.mono HB1.out.size)))
 obtain ⟨pb,_,hve,_⟩:=hv
 subst hve
 clear hR hb2 c1
 go_wp2
 go_ret
 exact ⟨_,rfl,H2.out.1.mono HB1.out.size,H2.out.2⟩
theorem ps_catch (a b c:Nat) (x y z:Value) (n:Int) (w:World) (hg:Er w) (ha:Cl w a x) (hb:Cl w b y) (hc:Cl w c z) (hab:a≠b) (hac:a≠c) (hbc:b≠c) (older:List PanicEntry) :
  CallsD Tryz.prog 47 #[.pointer (some ⟨a,0,none⟩),.pointer (some ⟨b,0,none⟩),.pointer (some ⟨c,0,none⟩)] (.panicking ({ v:=.iface 120 (.int .i64 n),recovered:=false } :: older)) w fun e u' w'=>e=.returned (.tuple #[])∧u'=.panicking ({ v:=.iface 120 (.int .i64 n),recovered:=true } :: older)∧∃ v w1,FaultP w.heap.size w1 v n 220∧Below w.heap.size w w1∧w'=((w1.setCell ⟨a,0,none⟩ (.slice none 0 0)).setCell ⟨b,0,none⟩ (.int .i64 0)).setCell ⟨c,0,none⟩ v:=by
 refine callsD_of_wpS Tryz.func47 rfl fun c₀ cs hu=>?_
 apply wpS_seq
 apply wpS_region
 simp [wpOpsS,go_sem,recoverD,hu,Tryz.ntmps47,Exit.thenS]
 apply wpS_seq
 apply wpS_region
 simp [wpOpsS,go_sem,Array.replicate,Exit.thenS]
 refine wpS_cond (t:=true) (by simp [Act.eval]) ?_
 simp only [if_true]
 refine wpS_of_wp ?_
 have hT:=ps_told n w hg
 have la:=World.block_lt_of_cell? w _ ha.1
 have lb:=World.block_lt_of_cell? w _ hb.1
 have lc:=World.block_lt_of_cell? w _ hc.1
 go_wp2_with fail
 refine hT.mono ?_
 rintro e w1 ⟨v,rfl,hv,hb1⟩
 have a1:=(Turned.ofBelow (S:=fun _=>False) hb1).cell ha.1 (fun e=>e)
 have b1:=(Turned.ofBelow (S:=fun _=>False) hb1).cell hb.1 (fun e=>e)
 have c1:=(Turned.ofBelow (S:=fun _=>False) hb1).cell hc.1 (fun e=>e)
 have af:=((Turned.ofBelow (S:=fun _=>False) hb1).frozen (p:=⟨a,0,none⟩) la (fun e=>e)).trans ha.2
 have bf:=((Turned.ofBelow (S:=fun _=>False) hb1).frozen (p:=⟨b,0,none⟩) lb (fun e=>e)).trans hb.2
 have cf:=((Turned.ofBelow (S:=fun _=>False) hb1).frozen (p:=⟨c,0,none⟩) lc (fun e=>e)).trans hc.2
 have HV:=Hid.mk7 (And.intro hv hb1)
 obtain ⟨pb,_,hve,_⟩:=hv
 subst hve
 clear hT hb1 ha hb hc hg
 go_wp2
 simp [bodyPostS,results,Tryz.results47]
 exact ⟨_,w1,HV.out.1,HV.out.2,rfl⟩
theorem FaultP.turned (h:FaultP B w v a c) (ht:Turned S w w') (hs:∀ k,B≤k→¬ S k):FaultP B w' v a c:=by
 obtain ⟨pb,h1,h2,h3,h4,h5,h6⟩:=h
 exact ⟨pb,h1,h2,ht.cell h3 (hs pb h1),ht.cell h4 (hs pb h1),ht.cell h5 (hs pb h1),ht.cell h6 (hs pb h1)⟩
theorem PAt.startA {aT:Option Addr} {cT:Nat} (hb:∀ k,blk (.slice aT T.length cT) k→k < w.heap.size) (hT2:T.length≤65536) (h:SlK 4 w (.slice aT T.length cT) T.length (toks T)):PAt (w.alloc (.cells #[.slice aT T.length cT,.int .i64 0,.slice none 0 0] 89)) w.heap.size (.slice aT T.length cT) T 0 (.slice none 0 0) []:=
 ⟨by simp,⟨by simp,by rw [World.frozen?_alloc_new]⟩,⟨by simp,by rw [World.frozen?_alloc_new]⟩,h.turned (Turned.alloc (fun _=>False) _ _) (fun _ _ e=>e),fun k hk=>⟨by have:=hb k hk; omega,fun e=>e⟩,OwnK.nil 6 _,fun e=>e,fun j hj=>absurd hj (Nat.not_lt_zero j),Nat.zero_le _,hT2⟩
def treeOf (T:List Tk):Except Nat (Nat × Ps):=programP T (runP T (8*T.length+1)) ⟨0,[]⟩
theorem rd_modules (T:List Tk) (f:Nat) (hf:8*T.length+1≤f):Runs T 77 [] (runP T f .module) 0:=by
 intro s _ w g Tv Nv N h
 by_cases hT:0 < T.length
 ·exact rd_all hT f .module trivial s (by simp [rankOf]; omega) w g Tv Nv N h
 ·obtain ⟨f',rfl⟩:∃ f',f=f'+1:=⟨f - 1,by omega⟩
  exact rd_module ⟨fun ph hp s s' hs=>runP_ok2 (Alike.refl T) f' ph hp s s' hs,fun ph hp s2 hs2 w2 g2 Tv2 Nv2 N2 h2=>by have:=h2.ok.il; omega⟩ (phBody_fin .module trivial h.ok h.cnt) h
theorem start_ok:S2 T ⟨0,[]⟩ ⟨0,[]⟩:=⟨rfl,rfl,Nat.zero_le _,fun j hj=>absurd hj (Nat.not_lt_zero j)⟩
theorem start_cnt (h:T.length≤65536):Cnt T ⟨0,[]⟩:=by
 unfold Cnt
 simp
 omega
def KidsOwn (w:World) (N:List Nd):Prop:=∀ j (h:j < N.length),OwnI w N[j].kv N[j].kids
theorem KidsOwn.below (h:KidsOwn w N) (hb:Below w.heap.size w w'):KidsOwn w' N:=fun j hj=>OwnK.turned (h j hj) (Turned.ofBelow (S:=fun _=>False) hb) (fun _ _ e=>e)
def GrowTold (w:World) (r:Except Nat (Nat × Ps)) (x:Ending) (w':World):Prop:=
 match r with
 | .error e=>∃ v,x=.returned (.tuple #[.slice none 0 0,.int .i64 0,v])∧FaultP w.heap.size w' v (e:Nat) 220∧Below w.heap.size w w'
 | .ok (a,t)=>∃ Nv N,x=.returned (.tuple #[Nv,.int .i64 (a:Nat),.nilIface])∧N.map Nd.sh=t.N∧NodesAt w' Nv N∧Below w.heap.size w w'∧(∀ k,blk Nv k→w.heap.size≤k)∧(∀ n∈N,∀ k,blk n.kv k→w.heap.size≤k)∧KidsOwn w' N
theorem rd_grow (T:List Tk) (hT2:T.length≤65536) (hg:Er w) (htok:SlK 4 w Tv T.length (toks T)) (hbT:∀ k,blk Tv k→k < w.heap.size) :
  Calls Tryz.prog 19 #[Tv] w (GrowTold w (treeOf T)):=by
 have hmf:=Tryz.makeFn
 obtain ⟨aT,cT,hTv,_⟩:=htok.form
 subst hTv
 have HT:=Hid.mk7 (And.intro htok hg)
 obtain ⟨res,hres⟩:∃ res,treeOf T=res:=⟨_,rfl⟩
 rw [hres]
 have HQ:=Hid.mk7 hres
 clear hres hg
 go_enter_defers Tryz.func19,Tryz.ntmps19
 go_wp2_with fail
 have B3:=((Below.alloc0 w (.cells #[.slice none 0 0] 28)).trans ((Below.alloc0 _ (.cells #[.int .i64 0] 3)).mono (by simp))).trans ((Below.alloc0 _ (.cells #[.nilIface] 30)).mono (by simp; omega))
 have tok3:=HT.out.1.turned (Turned.ofBelow (S:=fun _=>False) B3) (fun _ _ e=>e)
 have p4:=PAt.startA (fun k hk=>Nat.lt_of_lt_of_le (hbT k hk) B3.size) hT2 tok3
 simp only [World.size_alloc] at p4
 have hps:PS _ _ _ T _ [] ⟨0,[]⟩:=⟨p4,rfl,start_ok,start_cnt hT2⟩
 have hE4:=rd_program (rec:=runP T (8*T.length+1)) (s:=⟨0,[]⟩) (Fwd.of T _ .module trivial) (rd_modules T _ (Nat.le_refl _)) (fun a t e=>by
  have h9:=(programP_ok2 (Alike.refl T) (8*T.length+1) (start_ok (T:=T))).fin (by omega) (start_cnt hT2) e
  exact ⟨h9.1,h9.2.1⟩) hps
 rw [show programP T (runP T (8*T.length+1)) ⟨0,[]⟩=res from HQ.out] at hE4
 have l2:=(((Cl.new w (.slice none 0 0) 28).alloc (.cells #[.int .i64 0] 3)).alloc (.cells #[.nilIface] 30)).alloc (.cells #[.slice aT T.length cT,.int .i64 0,.slice none 0 0] 89)
 have l3:=((Cl.new (w.alloc (.cells #[.slice none 0 0] 28)) (.int .i64 0) 3).alloc (.cells #[.nilIface] 30)).alloc (.cells #[.slice aT T.length cT,.int .i64 0,.slice none 0 0] 89)
 have l4:=(Cl.new ((w.alloc (.cells #[.slice none 0 0] 28)).alloc (.cells #[.int .i64 0] 3)) .nilIface 30).alloc (.cells #[.slice aT T.length cT,.int .i64 0,.slice none 0 0] 89)
 simp only [World.size_alloc] at l3 l4
 have b4:=B3.trans ((Below.alloc0 _ (.cells #[.slice aT T.length cT,.int .i64 0,.slice none 0 0] 89)).mono B3.size)
 have hz4:w.heap.size+1+1+1+1≤(((((w.alloc (.cells #[.slice none 0 0] 28)).alloc (.cells #[.int .i64 0] 3)).alloc (.cells #[.nilIface] 30)).alloc (.cells #[.slice aT T.length cT,.int .i64 0,.slice none 0 0] 89))).heap.size:=by simp
 cases res with
 | error e=>
  refine hE4.mono ?_
  rintro x w5 ⟨rfl,T5⟩
  have m2:=l2.turned T5 (fun e=>e.elim (fun e=>by omega) (fun e=>e))
  have m3:=l3.turned T5 (fun e=>e.elim (fun e=>by omega) (fun e=>e))
  have m4:=l4.turned T5 (fun e=>e.elim (fun e=>by omega) (fun e=>e))
  have b5:=b4.trans (T5.below b4.size (fun k e=>e.elim (fun e=>by have e:k=w.heap.size+1+1+1:=e; omega) (fun e=>e.elim)))
  have her:=HT.out.2.below b5
  have hz5:=T5.size
  clear hE4 p4 hps tok3 l2 l3 l4
  refine leaves_cons (f:=47) (args:=#[.pointer (some ⟨w.heap.size,0,none⟩),.pointer (some ⟨w.heap.size+1,0,none⟩),.pointer (some ⟨w.heap.size+1+1,0,none⟩)]) (by simp) (by simp [go_sem]) ?_
  refine (ps_catch _ _ _ _ _ _ (e:Nat) w5 her m2 m3 m4 (by omega) (by omega) (by omega) []).mono ?_
  rintro x2 u' w'' ⟨rfl,rfl,v,w6,hv,hb6,rfl⟩
  have n2:=m2.turned (Turned.ofBelow (S:=fun _=>False) hb6) (fun e=>e)
  have n3:=m3.turned (Turned.ofBelow (S:=fun _=>False) hb6) (fun e=>e)
  have n4:=m4.turned (Turned.ofBelow (S:=fun _=>False) hb6) (fun e=>e)
  have Ta:=Turned.set1 w6 w.heap.size 0 (.slice none 0 0)
  have Tb:=Turned.set1 (w6.setCell ⟨w.heap.size,0,none⟩ (.slice none 0 0)) (w.heap.size+1) 0 (.int .i64 0)
  have Tc:=Turned.set1 ((w6.setCell ⟨w.heap.size,0,none⟩ (.slice none 0 0)).setCell ⟨w.heap.size+1,0,none⟩ (.int .i64 0)) (w.heap.size+1+1) 0 v
  have z2:=Tc.cell (Tb.cell (World.cell?_setCell_same w6 ⟨w.heap.size,0,none⟩ (.slice none 0 0) n2.1) (fun e=>by have e:w.heap.size=w.heap.size+1:=e; omega)) (fun e=>by have e:w.heap.size=w.heap.size+1+1:=e; omega)
  have z3:=Tc.cell (World.cell?_setCell_same _ ⟨w.heap.size+1,0,none⟩ (.int .i64 0) (Ta.cell n3.1 (fun e=>by have e:w.heap.size+1=w.heap.size:=e; omega))) (fun e=>by have e:w.heap.size+1=w.heap.size+1+1:=e; omega)
  have z4:=World.cell?_setCell_same _ ⟨w.heap.size+1+1,0,none⟩ v (Tb.cell (Ta.cell n4.1 (fun e=>by have e:w.heap.size+1+1=w.heap.size:=e; omega)) (fun e=>by have e:w.heap.size+1+1=w.heap.size+1:=e; omega))
  have TT:Turned (fun k=>k=w.heap.size∨k=w.heap.size+1∨k=w.heap.size+1+1) w6 _:=((Ta.mono (fun _ e=>.inl (.inl e))).trans Tb (fun _ e=>.inl (.inr (.inl e)))).trans Tc (fun _ e=>.inl (.inr (.inr e)))
  have hv7:=(hv.turned TT (fun k hk e=>by have e:k=w.heap.size∨k=w.heap.size+1∨k=w.heap.size+1+1:=e; omega)).mono (B':=w.heap.size) (by omega)
  have b6:=b5.trans (hb6.mono b5.size)
  have b7:=b6.trans (TT.below b6.size (fun k e=>by have e:k=w.heap.size∨k=w.heap.size+1∨k=w.heap.size+1+1:=e; omega))
  simp [Leaves,settle,results,Tryz.results19,go_sem,z2,z3,z4]
  exact ⟨v,rfl,hv7,b7⟩
 | ok at_=>
  obtain ⟨r,t⟩:=at_
  refine hE4.mono ?_
  rintro x w5 ⟨rfl,Nv5,M5,o5,ps5,S5⟩
  rw [List.nil_append] at ps5
  have p5:=ps5.at_
  obtain ⟨q2,f2⟩:=l2.turned S5.t (fun e=>e.elim (fun e=>by omega) (fun e=>e))
  obtain ⟨q3,f3⟩:=l3.turned S5.t (fun e=>e.elim (fun e=>by omega) (fun e=>e))
  obtain ⟨q4,f4⟩:=l4.turned S5.t (fun e=>e.elim (fun e=>by omega) (fun e=>e))
  have c2:=p5.c2.1
  obtain ⟨aN,cN,hNv,_⟩:=p5.own.sl.form
  subst hNv
  have H5:=Hid.mk7 (And.intro ps5.n (And.intro o5 (And.intro p5 S5)))
  clear hE4 p4 hps tok3 o5 p5 ps5 S5 l2 l3 l4
  go_wp2_with fail
  go_region
  go_wp2
  have Ta:=Turned.set1 w5 (w.heap.size+1) 0 (.int .i64 (r:Int))
  have Tb:=Turned.set1 (w5.setCell ⟨w.heap.size+1,0,none⟩ (.int .i64 (r:Int))) w.heap.size 0 (.slice aN M5.length cN)
  have Tc:=Turned.set1 ((w5.setCell ⟨w.heap.size+1,0,none⟩ (.int .i64 (r:Int))).setCell ⟨w.heap.size,0,none⟩ (.slice aN M5.length cN)) (w.heap.size+1) 0 (.int .i64 (r:Int))
  have Td:=Turned.set1 (((w5.setCell ⟨w.heap.size+1,0,none⟩ (.int .i64 (r:Int))).setCell ⟨w.heap.size,0,none⟩ (.slice aN M5.length cN)).setCell ⟨w.heap.size+1,0,none⟩ (.int .i64 (r:Int))) (w.heap.size+1+1) 0 .nilIface
  have y2:=World.cell?_setCell_same (w5.setCell ⟨w.heap.size+1,0,none⟩ (.int .i64 (r:Int))) ⟨w.heap.size,0,none⟩ (.slice aN M5.length cN) (Ta.cell q2 (fun e=>by have e:w.heap.size=w.heap.size+1:=e; omega))
  have z2:=Td.cell (Tc.cell y2 (fun e=>by have e:w.heap.size=w.heap.size+1:=e; omega)) (fun e=>by have e:w.heap.size=w.heap.size+1+1:=e; omega)
  have x3:=World.cell?_setCell_same w5 ⟨w.heap.size+1,0,none⟩ (.int .i64 (r:Int)) q3
  have y3:=World.cell?_setCell_same _ ⟨w.heap.size+1,0,none⟩ (.int .i64 (r:Int)) (Tb.cell x3 (fun e=>by have e:w.heap.size+1=w.heap.size:=e; omega))
  have z3:=Td.cell y3 (fun e=>by have e:w.heap.size+1=w.heap.size+1+1:=e; omega)
  have z4:=World.cell?_setCell_same _ ⟨w.heap.size+1+1,0,none⟩ .nilIface (Tc.cell (Tb.cell (Ta.cell q4 (fun e=>by have e:w.heap.size+1+1=w.heap.size+1:=e; omega)) (fun e=>by have e:w.heap.size+1+1=w.heap.size:=e; omega)) (fun e=>by have e:w.heap.size+1+1=w.heap.size+1:=e; omega))
  have TT:Turned (fun k=>k=w.heap.size∨k=w.heap.size+1∨k=w.heap.size+1+1) w5 _:=(((Ta.mono (fun _ e=>.inl (.inr (.inl e)))).trans Tb (fun _ e=>.inl (.inl e))).trans Tc (fun _ e=>.inl (.inr (.inl e)))).trans Td (fun _ e=>.inl (.inr (.inr e)))
  have HF:=Hid.mk7 TT
  clear Ta Tb Tc Td y2 x3 y3 TT q2 q3 q4 f2 f3 f4 c2
  generalize (((w5.setCell ⟨w.heap.size+1,0,none⟩ (.int .i64 (r:Int))).setCell ⟨w.heap.size,0,none⟩ (.slice aN M5.length cN)).setCell ⟨w.heap.size+1,0,none⟩ (.int .i64 (r:Int))).setCell ⟨w.heap.size+1+1,0,none⟩ .nilIface=w9 at HF z2 z3 z4 ⊢
  refine leaves_cons (f:=47) (args:=#[.pointer (some ⟨w.heap.size,0,none⟩),.pointer (some ⟨w.heap.size+1,0,none⟩),.pointer (some ⟨w.heap.size+1+1,0,none⟩)]) (by simp) (by simp [go_sem]) ?_
  refine (ps_idle _ _ _ _).mono ?_
  rintro e u' w'' ⟨rfl,rfl,rfl⟩
  simp [Leaves,settle,results,Tryz.results19,go_sem,z2,z3,z4]
  obtain ⟨e5,o5,p5,S5⟩:=H5.out
  have b5:=b4.trans (S5.t.below b4.size (fun k e=>e.elim (fun e=>by have e:k=w.heap.size+1+1+1:=e; omega) (fun e=>e.elim)))
  have b9:=b5.trans (HF.out.below b5.size (fun k e=>by have e:k=w.heap.size∨k=w.heap.size+1∨k=w.heap.size+1+1:=e; omega))
  have hn5:∀ k,blk (.slice aN M5.length cN) k→w.heap.size+1+1+1+1≤k:=fun k hk=>by
   have h9:=(S5.n k hk).elim (fun e=>e.elim) id
   exact Nat.le_trans hz4 h9
  have ho5:∀ n∈M5,∀ k,blk n.kv k→w.heap.size+1+1+1+1≤k:=fun n hn k hk=>Nat.le_trans hz4 (o5 n hn k hk)
  refine ⟨_,M5,rfl,e5,(p5.nodes.turned HF.out (fun k hk e=>?_) (fun j hj k hk e=>?_)).turned (Turned.drew (fun _=>False) _) (fun _ _ e=>e) (fun _ _ _ _ e=>e),b9.drew,fun k hk=>by have:=hn5 k hk; omega,fun n hn k hk=>by have:=ho5 n hn k hk; omega,fun j hj=>OwnK.turned (OwnK.turned (p5.kid j hj).1 HF.out (fun k hk e=>?_)) (Turned.drew (fun _=>False) _) (fun _ _ e=>e)⟩
  ·have e:k=w.heap.size∨k=w.heap.size+1∨k=w.heap.size+1+1:=e
   have:=hn5 k hk
   omega
  ·have e:k=w.heap.size∨k=w.heap.size+1∨k=w.heap.size+1+1:=e
   have:=ho5 _ (List.getElem_mem hj) k hk
   omega
  ·have e:k=w.heap.size∨k=w.heap.size+1∨k=w.heap.size+1+1:=e
   have:=ho5 _ (List.getElem_mem hj) k hk
   omega
def lastH (kids:Nat→List Int) (n:Nat) (tree:List Int):Int:=((heightsS kids tree (List.replicate n 0))[((tree[tree.length - 1]?).getD 0).toNat]?).getD 0
def limE (kids:Nat→List Int) (n:Nat) (tree:List Int):Option Int:=if 65536 < tree.length then some 5 else if 500 < lastH kids n tree then some 221 else none
def LimTold (w:World) (o:Option Int) (x:Ending) (w':World):Prop:=
 match o with
 | none=>x=.returned .nilIface∧Below w.heap.size w w'
 | some c=>∃ v,x=.returned v∧FaultP w.heap.size w' v 0 c∧Below w.heap.size w w'
theorem rd_limit_fits (hL:NArg w lv K) (hR:SlA w tv tree) (hK:K.length≤1099511627776) (hin:∀ i∈tree,0≤i∧i < (K.length:Int)) (hkid:∀ i < K.length,∀ k∈kidsOf K i,0≤k∧k < (K.length:Int)) (ht:tree.length≤65536) (t0:0 < tree.length) :
  Calls Tryz.prog 20 #[lv,tv] w (LimTold w (if 500 < lastH (kidsOf K) K.length tree then some 221 else none)):=by
 obtain ⟨ol,hol⟩:∃ ol,(if 500 < lastH (kidsOf K) K.length tree then some (221:Int) else none)=ol:=⟨_,rfl⟩
 rw [hol]
 have HO:=Hid.mk7 hol
 clear hol
 obtain ⟨aL,cL,hlv⟩:=hL.form
 subst hlv
 obtain ⟨aR,cR,hrv,hrl⟩:=hR.form
 subst hrv
 have HL:=Hid.mk7 hL
 have HR:=Hid.mk7 hR
 have HI:=Hid.mk7 hin
 have HK:=Hid.mk7 hkid
 obtain ⟨w1,hmk,hb1,hz1,hB1⟩:=make_one Tryz.intTypes (by simp [Value.cells]) w K.length (by omega) (by omega)
 have HM:=Hid.mk7 (And.intro hb1 (And.intro hz1 (HtAt.new hB1 hz1)))
 have h65:¬ (65536:Int) < (tree.length:Int):=by omega
 clear hL hR hb1 hz1 hB1 hin hkid
 go_enter Tryz.func20,Tryz.ntmps20
 go_wp2_with fail
 clear h65 hmk
 go_loopw [20] (fun ix wr=>∃ (j:Nat) (h:List Int),j≤tree.length∧ix=.int .i64 j∧h.length=K.length∧(∀ x∈h,0≤x∧x≤(j:Int))∧heightsS (kidsOf K) (tree.drop j) h=heightsS (kidsOf K) tree (List.replicate K.length 0)∧HtAt wr w.heap.size h∧Below w.heap.size w wr) (fun ix _=>tree.length - (intOf ix).toNat)
 case atStart=>exact ⟨0,_,Nat.zero_le _,rfl,by simp,fun x hx=>by rw [List.mem_replicate] at hx; omega,rfl,HM.out.2.2,HM.out.1⟩
 case round=>
  clear HM
  obtain ⟨j,h,hj,rfl,hlen,hbd,hrest,hht,hb⟩:=hrel
  by_cases hlt:j < tree.length
  ·have hji:(j:Int) < (tree.length:Int):=by omega
   obtain ⟨b,off,rfl,hc⟩:=(HR.out.below hb).at j hlt
   obtain ⟨hx0,hx1⟩:=HI.out tree[j] (List.getElem_mem hlt)
   obtain ⟨q,hq⟩:∃ q:Nat,tree[j]=(q:Int):=⟨tree[j].toNat,by omega⟩
   have hqK:q < K.length:=by omega
   have hqKi:(q:Int) < (K.length:Int):=by omega
   rw [hq] at hc
   obtain ⟨bL,oL,rfl,hck,hsk⟩:=(HL.out.below hb).at q hqK
   have hkd:=HK.out q hqK
   rw [kidsOf_at K q hqK] at hkd
   have hstep:=heightsS_drop (kidsOf K) tree j hlt h
   rw [hq,Int.toNat_natCast,kidsOf_at K q hqK] at hstep
   obtain ⟨ak,ck,hkv,hkl⟩:=hsk.form
   have HS:=Hid.mk7 hsk
   have HH:=Hid.mk7 (And.intro hht (And.intro hb (And.intro hbd (hrest.symm.trans hstep))))
   generalize hkk:K[q].1=kv at hck hkv HS
   generalize hkx:K[q].2=kl at hkd hkv HS HH hkl
   subst hkv
   clear hht hb hsk hstep hbd hrest hq
   go_wp2_with fail
   clear hck hc
   go_loopw [8,30] (fun x8 ix wr2=>∃ (i:Nat) (x:Int),i≤kl.length∧ix=.int .i64 i∧x8=.int .i64 x∧0≤x∧x≤(j:Int)∧highest h (kl.drop i) x=highest h kl 0∧wr2=wr) (fun _ ix _=>kl.length - (intOf ix).toNat)
   case atStart=>exact ⟨0,0,Nat.zero_le _,rfl,rfl,Int.le_refl _,by omega,rfl,rfl⟩
   case round=>
    obtain ⟨i,x,hi,rfl,rfl,hxa,hxb,hrx,rfl⟩:=hrel
    by_cases hil:i < kl.length
    ·have hili:(i:Int) < (kl.length:Int):=by omega
     obtain ⟨bk,ok,rfl,hc⟩:=HS.out.at i hil
     obtain ⟨hk0,hk1⟩:=hkd kl[i] (List.getElem_mem hil)
     obtain ⟨y,hy⟩:∃ y:Nat,kl[i]=(y:Int):=⟨kl[i].toNat,by omega⟩
     have hyK:y < h.length:=by omega
     have hyKi:(y:Int) < (K.length:Int):=by omega
     rw [hy] at hc
     obtain ⟨cy,fy⟩:=HH.out.1.c y hyK
     have hstep2:=highest_drop h kl i hil x
     rw [hy,Int.toNat_natCast] at hstep2
     have egd:(h[y]?).getD 0=h[y]:=by simp [hyK]
     rw [egd] at hstep2
     obtain ⟨hy0,hy1⟩:=HH.out.2.2.1 h[y] (List.getElem_mem hyK)
     have HX:=Hid.mk7 (hrx.symm.trans hstep2)
     generalize h[y]=z at cy hy0 hy1 HX
     clear hrx hstep2 egd hy hk0 hk1
     go_wp2
     go_roundw
     case rel=>exact ⟨i+1,max x z,by omega,by go_num,rfl,by omega,by omega,HX.out.symm,trivial⟩
     case measure=>simp [intOf]; omega
    ·have hge:¬ (i:Int) < (kl.length:Int):=by omega
     have he:x=highest h kl 0:=by rw [← hrx,List.drop_of_length_le (by omega)]; rfl
     obtain ⟨cq,fq⟩:=HH.out.1.c q (by omega)
     have hqh:q < h.length:=by omega
     have HE:=Hid.mk7 he
     have HN:=Hid.mk7 (And.intro (HH.out.1.set q hqh (x+1)) (Turned.toBelow HH.out.2.1 (Turned.set1 _ w.heap.size q (.int .i64 (x+1))) (Nat.le_refl _)))
     have hbd:=Hid.mk7 HH.out.2.2.1
     clear hrx he
     go_wp2
     go_roundw
     case rel=>
      refine ⟨j+1,h.set q (x+1),by omega,by go_num,by simpa using hlen,fun y hy=>?_,?_,HN.out.1,HN.out.2⟩
      ·rcases List.mem_or_eq_of_mem_set hy with hy | rfl
       ·have:=hbd.out y hy; omega
       ·omega
      ·rw [HE.out]; exact HH.out.2.2.2.symm
     case measure=>simp [intOf]; omega
  ·have hge:¬ (j:Int) < (tree.length:Int):=by omega
   have he:h=heightsS (kidsOf K) tree (List.replicate K.length 0):=by rw [← hrest,List.drop_of_length_le (by omega)]; rfl
   have hla:tree.length - 1 < tree.length:=by omega
   obtain ⟨b,off,rfl,hc⟩:=(HR.out.below hb).at (tree.length - 1) hla
   obtain ⟨hx0,hx1⟩:=HI.out tree[tree.length - 1] (List.getElem_mem hla)
   obtain ⟨q,hq⟩:∃ q:Nat,tree[tree.length - 1]=(q:Int):=⟨tree[tree.length - 1].toNat,by omega⟩
   have hqh:q < h.length:=by omega
   have hqi:(q:Int) < (K.length:Int):=by omega
   obtain ⟨cq,fq⟩:=hht.c q hqh
   have hlst:lastH (kidsOf K) K.length tree=h[q]:=by
    unfold lastH
    rw [← he,List.getElem?_eq_getElem hla,Option.getD_some,hq,Int.toNat_natCast]
    simp [hqh]
   have HL2:=Hid.mk7 hlst
   rw [hq] at hc
   have hlen1:(tree.length:Int) - 1=((tree.length - 1:Nat):Int):=by omega
   have hlt1:((tree.length - 1:Nat):Int) < (tree.length:Int):=by omega
   have HB:=Hid.mk7 hb
   generalize h[q]=z at cq HL2
   generalize tree.length - 1=tl at hc hlen1 hlt1
   clear hb hht hrest he hbd hq hlst hx0 hx1 hla
   by_cases h500:(500:Int) < z
   ·have hoe:ol=some 221:=by rw [← HO.out,HL2.out,if_pos h500]
    subst hoe
    have hR2:=ps_refuse 0 221 wr
    go_wp2_with fail
    refine hR2.mono ?_
    rintro e w2 ⟨v,rfl,hv,hb2⟩
    have H2:=Hid.mk7 (And.intro hv (HB.out.trans (hb2.mono HB.out.size)))
    obtain ⟨pb,_,hve,_⟩:=hv
    subst hve
    clear hR2 hb2 hc cq
    go_wp2
    go_ret
    exact ⟨_,rfl,H2.out.1.mono HB.out.size,H2.out.2⟩
   ·have hoe:ol=none:=by rw [← HO.out,HL2.out,if_neg h500]
    subst hoe
    go_wp2
    go_ret
    exact ⟨rfl,HB.out⟩
theorem rd_limit_many (hL:NArg w lv K) (hR:SlA w tv tree) (ht:65536 < tree.length) :
  Calls Tryz.prog 20 #[lv,tv] w (LimTold w (some 5)):=by
 obtain ⟨aL,cL,hlv⟩:=hL.form
 subst hlv
 obtain ⟨aR,cR,hrv,_⟩:=hR.form
 subst hrv
 have h65:(65536:Int) < (tree.length:Int):=by omega
 have hR2:=ps_refuse 0 5 w
 clear hL hR ht
 go_enter Tryz.func20,Tryz.ntmps20
 go_wp2_with fail
 refine hR2.mono ?_
 rintro e w2 ⟨v,rfl,hv,hb2⟩
 have H2:=Hid.mk7 (And.intro hv hb2)
 obtain ⟨pb,_,hve,_⟩:=hv
 subst hve
 clear hR2 hb2
 go_wp2
 go_ret
 exact ⟨_,rfl,H2.out.1,H2.out.2⟩
theorem rd_limit (hL:NArg w lv K) (hR:SlA w tv tree) (hK:K.length≤1099511627776) (hin:∀ i∈tree,0≤i∧i < (K.length:Int)) (hkid:∀ i < K.length,∀ k∈kidsOf K i,0≤k∧k < (K.length:Int)) (t0:0 < tree.length) :
  Calls Tryz.prog 20 #[lv,tv] w (LimTold w (limE (kidsOf K) K.length tree)):=by
 unfold limE
 by_cases h:65536 < tree.length
 ·rw [if_pos h]
  exact rd_limit_many hL hR h
 ·rw [if_neg h]
  exact rd_limit_fits hL hR hK hin hkid (by omega) t0
def kidsS (N:List Sh) (i:Nat):List Int:=((N[i]?).map (·.kids)).getD []
theorem kids_ofS {L:List Sh} (h:N.map Nd.sh=L):kidsOf (kvs N)=kidsS L:=by
 funext i
 unfold kidsOf kidsS kvs
 rw [← h]
 cases e:N[i]? with
 | none=>simp [e]
 | some n=>simp [e,Nd.sh]
theorem treeOf_kids {a:Nat} (h:treeOf T=.ok (a,t)):∀ n∈t.N,n.kids.length≤T.length+5:=programP_kl _ start_ok (fun n hn=>by cases hn) h
theorem treeOf_ok {a:Nat} (h:treeOf T=.ok (a,t)):a < t.N.length∧S2 T t t∧t.N.length≤4*T.length:=by
 rcases programP_ok2 (Alike.refl T) (8*T.length+1) (start_ok (T:=T)) with ⟨x,h1,_⟩ | ⟨a1,a2,t1,t2,h1,h2,h3,h4,_,M,h6,h7⟩
 ·unfold treeOf at h
  rw [h] at h1
  cases h1
 ·unfold treeOf at h
  rw [h] at h1 h2
  obtain ⟨rfl,rfl⟩:a=a1∧t=t1:=by simpa using h1
  obtain ⟨rfl,rfl⟩:a=a2∧t=t2:=by simpa using h2
  have:=h3.il
  refine ⟨h4.2,h3,?_⟩
  rw [h6]
  simp at h7 ⊢
  omega
def parseOf (T:List Tk):Except (Int × Int) (Nat × List Sh):=
 match treeOf T with
 | .error e=>.error ((e:Int),220)
 | .ok (a,t)=>match limE (kidsS t.N) t.N.length (belowS t.N.length (kidsS t.N) [(a:Int)]) with
  | some c=>.error (0,c)
  | none=>.ok (a,t.N)
def ParseTold (w:World) (r:Except (Int × Int) (Nat × List Sh)) (x:Ending) (w':World):Prop:=
 match r with
 | .error (a,c)=>∃ v,x=.returned (.tuple #[.slice none 0 0,.int .i64 0,v])∧FaultP w.heap.size w' v a c∧Below w.heap.size w w'
 | .ok (a,L)=>∃ Nv N,x=.returned (.tuple #[Nv,.int .i64 (a:Nat),.nilIface])∧N.map Nd.sh=L∧NodesAt w' Nv N∧Below w.heap.size w w'∧(∀ k,blk Nv k→w.heap.size≤k)∧(∀ n∈N,∀ k,blk n.kv k→w.heap.size≤k)∧KidsOwn w' N
theorem rd_Parse (T:List Tk) (hT2:T.length≤65536) (hg:Er w) (htok:SlK 4 w Tv T.length (toks T)) (hbT:∀ k,blk Tv k→k < w.heap.size) :
  Calls Tryz.prog 7 #[Tv] w (ParseTold w (parseOf T)):=by
 have hgr:=rd_grow T hT2 hg htok hbT
 obtain ⟨aT,cT,hTv,_⟩:=htok.form
 subst hTv
 have h65:¬ (65536:Int) < (T.length:Int):=by omega
 clear htok hbT hg
 unfold parseOf
 cases htr:treeOf T with
 | error e=>
  rw [htr] at hgr
  clear htr
  go_enter Tryz.func7,Tryz.ntmps7
  go_wp2_with fail
  refine hgr.mono ?_
  rintro x w1 ⟨v,rfl,hv,hb1⟩
  have H1:=Hid.mk7 (And.intro hv hb1)
  obtain ⟨pb,_,hve,_⟩:=hv
  subst hve
  clear hgr hb1
  go_wp2
  go_ret3
  exact ⟨_,rfl,H1.out⟩
 | ok at_=>
  obtain ⟨a,t⟩:=at_
  obtain ⟨ha,hs2,hnl⟩:=treeOf_ok htr
  have HKD:=Hid.mk7 (treeOf_kids htr)
  rw [htr] at hgr
  clear htr
  simp only
  obtain ⟨lim,hlim⟩:∃ lim,limE (kidsS t.N) t.N.length (belowS t.N.length (kidsS t.N) [(a:Int)])=lim:=⟨_,rfl⟩
  rw [hlim]
  have HL:=Hid.mk7 (And.intro hlim (And.intro ha (And.intro hs2 hnl)))
  clear hlim ha hs2 hnl
  go_enter Tryz.func7,Tryz.ntmps7
  go_wp2_with fail
  refine hgr.mono ?_
  rintro x w1 ⟨Nv,N,rfl,e1,h1,hb1,o1,k1,q1⟩
  have hNl:N.length=t.N.length:=by have:=congrArg List.length e1; simpa using this
  have hks:∀ n∈N,n.kids.length≤4611686018427387903:=fun n hn=>by
   have h9:n.kids.length≤T.length+5:=HKD.out n.sh (by rw [← e1]; exact List.mem_map_of_mem hn)
   omega
  have a1:=h1.arg (by have:=HL.out.2.1; omega) hks
  have B2:=Below.alloc0 w1 (.cells #[.int .i64 (a:Int)] 3)
  have hbl:=ps_Below (a1.below B2) (SlI.any (SlI.one w1 (a:Int) 3) (by simp)) (by rw [kvs_length,hNl]; have:=HL.out.2.2.2; omega)
  rw [kvs_length,kids_ofS e1,hNl] at hbl
  obtain ⟨aN,cN,hNv,_⟩:=h1.own.sl.form
  subst hNv
  rw [hNl] at o1 h1 a1 hbl ⊢
  have H1:=Hid.mk7 (And.intro e1 (And.intro h1 (And.intro hb1 (And.intro a1 (And.intro B2 (And.intro o1 (And.intro k1 (And.intro hNl q1))))))))
  clear hgr e1 h1 hb1 a1 B2 o1 k1 hks hNl q1
  go_wp2_with fail
  refine hbl.mono ?_
  rintro x w3 ⟨V,rfl,ho3,hb3,_⟩
  obtain ⟨e1,h1,hb1,a1,B2,o1,k1,hNl,q1⟩:=H1.out
  have B3:=B2.trans (hb3.mono B2.size)
  obtain ⟨_,bm,bb,_⟩:=belowS_one t.N.length (kidsS t.N) a HL.out.2.1
  have hli:=rd_limit (a1.below B3) (SlI.any (OwnK.sl ho3) (by have:=belowS_le t.N.length (kidsS t.N) [(a:Int)]; have:=HL.out.2.2.2; omega)) (by rw [kvs_length,hNl]; have:=HL.out.2.2.2; omega) (by rw [kvs_length,hNl]; intro i hi; have:=bb i hi; have:=HL.out.2.1; omega) (by
   rw [kvs_length,hNl,kids_ofS e1]
   intro i hi k hk
   unfold kidsS at hk
   rw [List.getElem?_eq_getElem hi] at hk
   have:=HL.out.2.2.1.low i hi k (by simpa using hk)
   omega) (List.length_pos_of_mem bm)
  rw [kvs_length,hNl,kids_ofS e1,HL.out.1] at hli
  obtain ⟨aV,cV,hV,_⟩:=OwnK.sl ho3 |>.form
  subst hV
  have H3:=Hid.mk7 B3
  clear hbl ho3 hb3 B3 e1 h1 hb1 a1 B2 o1 k1 hNl q1 bm bb
  cases lim with
  | some c=>
   go_wp2_with fail
   refine hli.mono ?_
   rintro x w4 ⟨v,rfl,hv,hb4⟩
   have H4:=Hid.mk7 (And.intro hv (H3.out.trans (hb4.mono H3.out.size)))
   obtain ⟨pb,_,hve,_⟩:=hv
   subst hve
   clear hli hb4
   go_wp2
   go_ret3
   obtain ⟨e1,h1,hb1,a1,B2,o1,k1,hNl,q1⟩:=H1.out
   exact ⟨_,rfl,H4.out.1.mono (Nat.le_trans hb1.size H3.out.size),hb1.trans (H4.out.2.mono hb1.size)⟩
  | none=>
   go_wp2_with fail
   refine hli.mono ?_
   rintro x w4 ⟨rfl,hb4⟩
   have H4:=Hid.mk7 (H3.out.trans (hb4.mono H3.out.size))
   clear hli hb4
   go_wp2
   go_ret3
   obtain ⟨e1,h1,hb1,a1,B2,o1,k1,hNl,q1⟩:=H1.out
   exact ⟨.slice aN t.N.length cN,N,rfl,e1,h1.below H4.out,hb1.trans (H4.out.mono hb1.size),o1,k1,q1.below H4.out⟩
end Go.Proofs.YtlciaafincgdeaaGreatDoor
