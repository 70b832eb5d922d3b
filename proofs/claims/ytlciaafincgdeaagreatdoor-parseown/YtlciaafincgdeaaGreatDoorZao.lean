/-
  Layer 11 (parse): the document's parser: products and sums.
  Layer 11 (parse): the document's parser: an operand, with what stands ahead of it.
-/
import Derived.Test.YtlciaafincgdeaaGreatDoorPJl
import Derived.Test.YtlciaafincgdeaaGreatDoorZan
namespace Go.Proofs.YtlciaafincgdeaaGreatDoor
open Go.RowKit
variable {N:List Nd} {Nv Tv:Value} {T:List Tk} {m:PM Nat} {q:Nat} {rec:Ph→PM Nat} {s t:Ps} {w:World}
set_option maxHeartbeats 6400000
set_option maxRecDepth 100000
theorem ops7_ne (x:ByteArray) (h:x∈([⟨#[42]⟩,⟨#[100,105,118]⟩,⟨#[114,101,109]⟩,⟨#[97,110,100]⟩]:List ByteArray)):x.toList.isEmpty=false:=by
 simp only [List.mem_cons,List.not_mem_nil,or_false] at h
 have h1:¬ x=⟨#[]⟩:=by
  intro e
  subst e
  simp at h
 rw [List.isEmpty_eq_false_iff]
 exact fun e=>bytes_ne h1 (e.trans (by rw [ByteArray.toList_eq]))
theorem ops7_sh (k:Int) (x:ByteArray) (n a:Int) (l:List Int) (h:x∈([⟨#[42]⟩,⟨#[100,105,118]⟩,⟨#[114,101,109]⟩,⟨#[97,110,100]⟩]:List ByteArray)):opSh ⟨k,x,n,a⟩ l=⟨15,x,⟨#[]⟩,0,l,a⟩:=by
 simp only [List.mem_cons,List.not_mem_nil,or_false] at h
 have h1:¬ x=⟨#[61]⟩:=by intro e; subst e; simp at h
 have h2:¬ x=⟨#[33]⟩:=by intro e; subst e; simp at h
 have h3:¬ x=⟨#[111,114,101,108,115,101]⟩:=by intro e; subst e; simp at h
 have h4:¬ x=⟨#[97,110,100,97,108,115,111]⟩:=by intro e; subst e; simp at h
 simp [opSh,h1,h2,h3,h4]
theorem ops6_ne (x:ByteArray) (h:x∈([⟨#[43]⟩,⟨#[45]⟩,⟨#[111,114]⟩,⟨#[120,111,114]⟩]:List ByteArray)):x.toList.isEmpty=false:=by
 simp only [List.mem_cons,List.not_mem_nil,or_false] at h
 have h1:¬ x=⟨#[]⟩:=by
  intro e
  subst e
  simp at h
 rw [List.isEmpty_eq_false_iff]
 exact fun e=>bytes_ne h1 (e.trans (by rw [ByteArray.toList_eq]))
theorem ops6_sh (k:Int) (x:ByteArray) (n a:Int) (l:List Int) (h:x∈([⟨#[43]⟩,⟨#[45]⟩,⟨#[111,114]⟩,⟨#[120,111,114]⟩]:List ByteArray)):opSh ⟨k,x,n,a⟩ l=⟨15,x,⟨#[]⟩,0,l,a⟩:=by
 simp only [List.mem_cons,List.not_mem_nil,or_false] at h
 have h1:¬ x=⟨#[61]⟩:=by intro e; subst e; simp at h
 have h2:¬ x=⟨#[33]⟩:=by intro e; subst e; simp at h
 have h3:¬ x=⟨#[111,114,101,108,115,101]⟩:=by intro e; subst e; simp at h
 have h4:¬ x=⟨#[97,110,100,97,108,115,111]⟩:=by intro e; subst e; simp at h
 simp [opSh,h1,h2,h3,h4]
theorem Ok2.le {α:Type} {V:α→α→List Sh→Prop} {d:Int} {m m':PM α} {s':Ps} {a:α} (h:Ok2 T V d m m' s s') (e:m s=.ok (a,t)):s.i≤t.i:=by
 rcases h with ⟨x,h1,_⟩ | ⟨a1,_,t1,_,h1,_,_,_,h5,_⟩
 ·rw [e] at h1; cases h1
 ·rw [e] at h1
  simp only [Except.ok.injEq,Prod.mk.injEq] at h1
  rw [h1.2]
  exact h5
def leftOf (T:List Tk) (w:World) (q:Nat):Nat:=match w.cell? ⟨q,3,none⟩ with
 | some (.bool true)=>0
 | _=>T.length+1 - posOf w q
def LpI (T:List Tk) (rec:Ph→PM Nat) (lev:Int) (w wr:World) (q:Nat) (Tv Nv:Value) (N:List Nd) (i0:Nat) (res:Except Nat (Nat × Ps)) (lv:Value):Prop:=
 (∃ (e:Nat) (z:Int),lv=.int .i64 z∧res=.error e∧Bd wr q e∧Turned (fun k=>k=q∨blk Nv k) w wr) ∨
 ∃ (a:Nat) (t:Ps) (f:Nat) (Nv1:Value) (M1:List Nd),lv=.int .i64 (a:Int)∧i0≤t.i∧T.length - t.i < f∧exprL T rec lev f lev a t=res∧Rg T w wr q Tv Nv N t Nv1 M1∧Gd wr q∧a < t.N.length
theorem rf_product (hC:∀ w q Tv Nv N,PS w q Tv T Nv N s→Gd w q→Calls Tryz.prog 202 #[.pointer (some ⟨q,0,none⟩)] w (Rf T w q Tv Nv N (m s)))
  (hR:RunsF T 202 [] (rec (.expr 8)) (s.i+1)) (hq:∀ s s',S2 T s s'→Ok2 T VN 3 (rec (.expr 8)) (rec (.expr 8)) s s') (hm:∀ a t,m s=.ok (a,t)→s.i < t.i∧a < t.N.length) (hTk:∀ i,TkOk (tokAt T i))
  (h:PS w q Tv T Nv N s) (hg:Gd w q) :
  Calls Tryz.prog 194 #[.pointer (some ⟨q,0,none⟩)] w (Rf T w q Tv Nv N (PM.bind m (exprL T rec 7 (T.length+1) 7) s)):=by
 obtain ⟨res,hres⟩:∃ res,PM.bind m (exprL T rec 7 (T.length+1) 7) s=res:=⟨_,rfl⟩
 rw [hres]
 have HQ:=Hid.mk7 hres
 have c1:=hC w q Tv Nv N h hg
 have r0:=Rg.refl h
 have HP:=Hid.mk7 (And.intro hR (And.intro hq (And.intro hTk (And.intro r0 hm))))
 clear hres hR hq hTk hC h hg r0 hm
 cases hw:m s with
 | error e=>
  have hre:res=.error e:=by rw [← HQ.out]; simp [PM.bind,hw]
  subst hre
  rw [hw] at c1
  clear hw
  go_enter Tryz.func194,Tryz.ntmps194
  go_wp2_with fail
  refine c1.mono ?_
  rintro x w1 ⟨⟨z,rfl⟩,b1,t1⟩
  have hbd:=b1.bad
  have H1:=Hid.mk7 (And.intro b1 t1)
  clear c1 b1 t1
  go_wp2_with fail
  refine wp_loop_rounds 1 ?_
  rw [rounds_succ]
  go_wp2
  go_ret
  exact ⟨⟨z,rfl⟩,H1.out⟩
 | ok at_=>
  obtain ⟨a0,t0⟩:=at_
  have hrs:exprL T rec 7 (T.length+1) 7 a0 t0=res:=by rw [← HQ.out]; simp [PM.bind,hw]
  have hmi:=HP.out.2.2.2.2 a0 t0 hw
  rw [hw] at c1
  have HS:=Hid.mk7 (And.intro hrs hmi)
  clear hw hrs hmi
  go_enter Tryz.func194,Tryz.ntmps194
  go_wp2_with fail
  refine c1.mono ?_
  intro x w1 hx
  obtain ⟨rfl,Nv0,M0,r1,g1,_,_⟩:=HP.out.2.2.2.1.rf (by simpa using hx)
  have H0:=Hid.mk7 (And.intro r1 g1)
  clear c1 hx r1 g1
  go_wp2_with fail
  go_loopw [3] (fun lv wr=>LpI T rec 7 w wr q Tv Nv N (s.i+1) res lv) (fun _ wr=>leftOf T wr q)
  case atStart=>exact .inr ⟨a0,t0,T.length+1,Nv0,M0,rfl,by have:=HS.out.2.1; omega,by omega,HS.out.1,H0.out.1,H0.out.2,HS.out.2.2⟩
  case round=>
   rcases hrel with ⟨e,z,rfl,hre,b1,t1⟩ | ⟨a,t,f,Nv1,M1,rfl,hi0,hfu,heq,r1,g1,hlt⟩
   ·subst hre
    have hbd:=b1.bad
    have H1:=Hid.mk7 (And.intro b1 t1)
    clear b1 t1
    go_wp2
    go_ret
    exact ⟨⟨z,rfl⟩,H1.out⟩
   ·have hbd:=g1.c3.1
    have hop:opIs ([⟨#[42]⟩,⟨#[100,105,118]⟩,⟨#[114,101,109]⟩,⟨#[97,110,100]⟩]:List ByteArray) (tokAt T t.i)=decide (lev (tokAt T t.i)=7):=opIs_lev (HP.out.2.2.1 t.i) (k:=7) (by simp [levs])
    have HL:=Hid.mk7 (show leftOf T wr q=T.length+1 - t.i by simp [leftOf,g1.c3.1,r1.ps.at_.pos])
    have HO:=Hid.mk7 (And.intro heq (And.intro hi0 hop))
    have HU:=Hid.mk7 (And.intro hfu hlt)
    clear hop heq hi0 hfu hlt
    have c2:=rf_token11 r1.ps.at_ g1 0 (by omega)
    simp only [Nat.add_zero] at c2
    obtain ⟨tk,htk⟩:∃ tk,tokAt T t.i=tk:=⟨_,rfl⟩
    rw [htk] at c2
    have H1:=Hid.mk7 (And.intro r1 (And.intro g1 htk))
    clear r1 g1 htk
    obtain ⟨tk,tt,tn,ta⟩:=tk
    simp only [Tk.val] at c2
    go_wp2_with fail
    refine c2.mono ?_
    rintro x w2 ⟨rfl,hb2⟩
    have B2:=(hb2.up1 (.cells #[.int .i64 tk,.string tt,.int .i64 tn,.int .i64 ta] 40)).up1 (.cells (List.map Value.string ([⟨#[42]⟩,⟨#[100,105,118]⟩,⟨#[114,101,109]⟩,⟨#[97,110,100]⟩]:List ByteArray)).toArray 9)
    have r2:=H1.out.1.below B2
    have g2:=H1.out.2.1.below B2
    have p2:=H1.out.1.ps.at_.below hb2
    have hql:=p2.lt
    have hst:=StrsAt.new (w2.alloc (.cells #[.int .i64 tk,.string tt,.int .i64 tn,.int .i64 ta] 40)) ([⟨#[42]⟩,⟨#[100,105,118]⟩,⟨#[114,101,109]⟩,⟨#[97,110,100]⟩]:List ByteArray) 9
    have c3:=rf_operator (cap:=([⟨#[42]⟩,⟨#[100,105,118]⟩,⟨#[114,101,109]⟩,⟨#[97,110,100]⟩]:List ByteArray).length) r2.ps.at_ g2 hst (by simp; omega) (by decide)
    rw [HO.out.2.2] at c3
    have hk3:((w2.alloc (.cells #[.int .i64 tk,.string tt,.int .i64 tn,.int .i64 ta] 40)).alloc (.cells (List.map Value.string ([⟨#[42]⟩,⟨#[100,105,118]⟩,⟨#[114,101,109]⟩,⟨#[97,110,100]⟩]:List ByteArray)).toArray 9)).cell? ⟨w2.heap.size,3,none⟩=some (.int .i64 ta):=by
     rw [World.cell?_alloc_lt _ _ ⟨w2.heap.size,3,none⟩ (by simp)]
     simp
    have H2:=Hid.mk7 (And.intro r2 (And.intro g2 (And.intro p2 hk3)))
    simp only [World.size_alloc] at c3
    clear c2 hb2 B2 r2 g2 p2 hk3 hst hql
    cases hd:decide (lev (tokAt T t.i)=7) with
    | false=>
     have h9:¬ lev (tokAt T t.i)=7:=by simpa using hd
     have hre:res=.ok (a,t):=by rw [← HO.out.1]; exact exprL_stop (by have:=HU.out.1; omega) (by omega)
     clear h9
     subst hre
     rw [hd] at c3
     simp only [Bool.false_eq_true,if_false] at c3
     clear hd
     go_wp2_with fail
     refine c3.mono ?_
     rintro x w3 ⟨rfl,h3⟩
     have H3:=Hid.mk7 (And.intro (H2.out.1.still h3.1 h3.2.2) h3.2.1)
     clear c3 h3
     go_wp2
     go_ret
     exact H3.out.1.ofF H3.out.2
    | true=>
     have hl3:lev (tokAt T t.i)=7:=by simpa using hd
     have hi:t.i < T.length:=by
      apply Classical.byContradiction
      intro h
      rw [lev_end (by omega)] at hl3
      omega
     have htt:tt∈([⟨#[42]⟩,⟨#[100,105,118]⟩,⟨#[114,101,109]⟩,⟨#[97,110,100]⟩]:List ByteArray):=by
      have h9:=HO.out.2.2
      rw [hd,H1.out.2.2] at h9
      simp only [opIs,Bool.and_eq_true,List.any_eq_true,decide_eq_true_eq] at h9
      obtain ⟨_,x,hx,e⟩:=h9
      rw [e]
      exact hx
     have htn:=ops7_ne tt htt
     have hrs:lev (tokAt T t.i)=7:=hl3
     have hsd:sidesR (lev (⟨tk,tt,tn,ta⟩:Tk))=8:=by rw [← H1.out.2.2,hl3]; rfl
     rw [hd] at c3
     simp only [if_true,H1.out.2.2] at c3
     have HX:=Hid.mk7 (And.intro hi (And.intro htt (And.intro hrs hsd)))
     clear hd hl3 hi htt hrs hsd
     go_wp2_with fail
     refine c3.mono ?_
     rintro x w3 ⟨rfl,h3⟩
     have r3:=H2.out.1.one HX.out.1 h3.1 h3.2.2
     have hne:w2.heap.size≠q:=by have:=H2.out.2.2.1.lt; omega
     have k3:=h3.2.2.cell H2.out.2.2.2 hne
     have hl:w2.heap.size < w3.heap.size:=World.block_lt_of_cell? w3 _ k3
     have hE:∀ W,Below w3.heap.size w3 W→Calls Tryz.prog 202 #[.pointer (some ⟨q,0,none⟩)] W (Rf T W q Tv Nv1 (N++M1) (rec (.expr 8) ⟨t.i+1,t.N⟩)):=fun W hW=>HP.out.1 ⟨t.i+1,t.N⟩ (by have:=HO.out.2.1; simp; omega) W q Tv _ _ (r3.below hW).ps (h3.2.1.below hW)
     have H3:=Hid.mk7 (And.intro r3 (And.intro h3.2.1 hne))
     clear c3 h3 r3
     cases hr:rec (.expr 8) ⟨t.i+1,t.N⟩ with
     | error e=>
      have hre:res=.error e:=by rw [← HO.out.1]; exact exprL_bad (by have:=HU.out.1; omega) (by have:=HX.out.2.2.1; omega) (by rw [H1.out.2.2,HX.out.2.2.2]; exact hr)
      subst hre
      simp only [hr] at hE
      clear hr
      have hfr:∀ w5 (x:Ending),Rf T w3.drew q Tv Nv1 (N++M1) (.error e) x w5→(∃ z:Int,x=.returned (.int .i64 z))∧w5.cell? ⟨w2.heap.size,3,none⟩=some (.int .i64 ta)∧Bd w5 q e∧Turned (fun k=>k=q∨blk Nv k) w w5:=fun w5 x hx=>by
       obtain ⟨hz,b5,T5⟩:=hx
       have f:=H2.out.2.2.1.free (by have:=HX.out.1; omega) w2.heap.size (Nat.le_refl _)
       exact ⟨hz,T5.cell k3 (fun e=>e.elim f.g f.n),b5,(H3.out.1.below (Below.refl _ _).drew).bad T5⟩
      go_wp2_with fail
      go_region_held3 (fun w'=>w'.cell? ⟨w2.heap.size,3,none⟩=some (.int .i64 ta))
       (go_keep)
       (first
        | (go_at_call 27; have B5:=Below.alloc0 w5 (.cells #[.int .i64 (a:Int),.int .i64 z] 3); refine (bd_node (b5.below B5) _ _ _ _).mono ?_; rintro x w6 ⟨rfl,hb6⟩; have B6:=B5.trans (hb6.mono B5.size); have s6:=(B6.cell (p:=⟨w2.heap.size,3,none⟩) (World.block_lt_of_cell? w5 _ k5)).trans k5; have H6:=Hid.mk7 (And.intro (b5.below B6) (t5.trans (Turned.ofBelow (S:=fun _=>False) B6) (fun _ e=>e.elim))); clear hb6 B5 B6)
        | (go_at_call 202; refine (hE _ (Below.refl _ _).drew).mono ?_; intro x w5 hx; obtain ⟨⟨z,rfl⟩,k5,b5,t5⟩:=hfr _ _ hx; clear hx))
      all_goals
       go_wp2
       go_roundw
       case rel=>exact .inl ⟨e,0,rfl,rfl,H6.out.1,H6.out.2⟩
       case measure=>
        rw [HL.out]
        simp only [leftOf,H6.out.1.bad]
        have:=HX.out.1
        omega
     | ok ru=>
      obtain ⟨r,u⟩:=ru
      have heq2:exprL T rec 7 (f - 1) 7 u.N.length ⟨u.i,u.N++[⟨15,tt,⟨#[]⟩,0,[(a:Int),(r:Int)],ta⟩]⟩=res:=by
       have h9:=exprL_next (T:=T) (rec:=rec) (least:=7) (m:=7) (f:=f) (l:=a) (s:=t) (t:=u) (r:=r) (by have:=HU.out.1; omega) (by have:=HX.out.2.2.1; omega) (by rw [H1.out.2.2,HX.out.2.2.2]; exact hr)
       rw [HX.out.2.2.1,H1.out.2.2,ops7_sh _ _ _ _ _ HX.out.2.1] at h9
       rw [← HO.out.1,h9]
       rfl
      have hfin:=exprL_fin HP.out.2.1 H1.out.1.ps.ok H1.out.1.ps.cnt HX.out.1 HU.out.2 hr 15 tt ta
      have hui:t.i+1≤u.i:=(HP.out.2.1 _ _ (H1.out.1.ps.ok.next HX.out.1)).le hr
      have HV:=Hid.mk7 (And.intro heq2 hui)
      clear heq2 hui
      simp only [hr] at hE
      clear hr
      have hT:0 < T.length:=by have:=HX.out.1; omega
      have HF:=Hid.mk7 (And.intro hfin hT)
      clear hfin hT
      have hfr:∀ w5 (x:Ending),Rf T w3.drew q Tv Nv1 (N++M1) (.ok (r,u)) x w5→x=.returned (.int .i64 (r:Nat))∧w5.cell? ⟨w2.heap.size,3,none⟩=some (.int .i64 ta)∧∃ Nv5 M5,Rg T w w5 q Tv Nv N u Nv5 M5∧Gd w5 q∧¬ blk Nv5 w2.heap.size:=fun w5 x hx=>by
       obtain ⟨e,Nv5,M5,r5,g5,S5,_⟩:=(H3.out.1.below (Below.refl _ _).drew).rf hx
       have f:=H2.out.2.2.1.free HF.out.2 w2.heap.size (Nat.le_refl _)
       exact ⟨e,S5.t.cell k3 (fun e=>e.elim f.g f.n),Nv5,M5,r5,g5,fun e=>(S5.n _ e).elim f.n (fun e=>by simp at e; omega)⟩
      have hnd:∀ w5 Nv5 M5,Rg T w w5 q Tv Nv N u Nv5 M5→Gd w5 q→¬ blk Nv5 w2.heap.size→w5.cell? ⟨w2.heap.size,3,none⟩=some (.int .i64 ta)→Calls Tryz.prog 27 #[.pointer (some ⟨q,0,none⟩),.int .i64 15,.int .i64 ta,.string tt,.slice (some ⟨w5.heap.size,0,none⟩) 2 2] (w5.alloc (.cells #[.int .i64 (a:Int),.int .i64 (r:Int)] 3)) fun x w6=>x=.returned (.int .i64 (u.N.length:Nat))∧w6.cell? ⟨w2.heap.size,3,none⟩=some (.int .i64 ta)∧Rf T w q Tv Nv N (.ok (u.N.length,⟨u.i,u.N++[⟨15,tt,⟨#[]⟩,0,[(a:Int),(r:Int)],ta⟩]⟩)) x w6:=fun w5 Nv5 M5 r5 g5 hn5 k5=>by
       have B5:=Below.alloc0 w5 (.cells #[.int .i64 (a:Int),.int .i64 (r:Int)] 3)
       have r6:=r5.below B5
       have hl:=r6.ps.len
       have hc:=r6.ps.cnt
       unfold Cnt at hc
       have hql:=r5.ps.at_.lt
       refine (rf_node r6.ps.at_ (g5.below B5) HF.out.2 15 ta tt _ [(a:Int),(r:Int)] ⟨OwnI.two w5 a r 3,fun k (hk:w5.heap.size=k)=>⟨by omega,fun e=>by have:=r5.ps.at_.own.blk_lt k e; omega,by simp; omega⟩⟩ (by omega)).mono ?_
       intro x w6 hk
       have hk2:=hk
       obtain ⟨e6,Nv6,_,S6,_⟩:=hk2
       refine ⟨by rw [e6,← hl],S6.t.cell ((B5.cell (p:=⟨w2.heap.size,3,none⟩) (World.block_lt_of_cell? w5 _ k5)).trans k5) (fun e=>e.elim H3.out.2.2 hn5),?_⟩
       exact r6.kept (n:=⟨15,tt,⟨#[]⟩,0,.slice (some ⟨w5.heap.size,0,none⟩) 2 2,[(a:Int),(r:Int)],ta⟩) (fun k (hk:w5.heap.size=k)=>by have:=r5.size; omega) hk HF.out.1
      go_wp2_with fail
      go_region_held3 (fun w'=>w'.cell? ⟨w2.heap.size,3,none⟩=some (.int .i64 ta))
       (go_keep)
       (first
        | (go_at_call 27; refine (hnd _ _ _ r5 g5 n5 k5).mono ?_; rintro x w6 ⟨rfl,s6,h6⟩; have H6:=Hid.mk7 h6; clear h6)
        | (go_at_call 202; refine (hE _ (Below.refl _ _).drew).mono ?_; intro x w5 hx; obtain ⟨rfl,k5,Nv5,M5,r5,g5,n5⟩:=hfr _ _ hx; clear hx))
      all_goals
       obtain ⟨_,Nv6,M6,o6,p6,S6,g6⟩:=H6.out
       have HW:=Hid.mk7 (And.intro (Rg.mk p6 o6 S6) g6)
       clear o6 p6 S6 g6
       go_wp2
       go_roundw
       case rel=>exact .inr ⟨u.N.length,_,f - 1,Nv6,M6,rfl,(by have:=HV.out.2; have:=HO.out.2.1; simp; omega),(by have:=HV.out.2; have:=HU.out.1; have:=HX.out.1; simp; omega),HV.out.1,HW.out.1,HW.out.2,by simp⟩
       case measure=>
        rw [HL.out]
        have h9:=HW.out.1.ps.at_.pos
        simp only at h9
        simp only [leftOf,HW.out.2.c3.1,h9]
        have:=HX.out.1
        have:=HV.out.2
        omega
theorem rf_sum (hC:∀ w q Tv Nv N,PS w q Tv T Nv N s→Gd w q→Calls Tryz.prog 194 #[.pointer (some ⟨q,0,none⟩)] w (Rf T w q Tv Nv N (m s)))
  (hR:RunsF T 194 [] (rec (.expr 7)) (s.i+1)) (hq:∀ s s',S2 T s s'→Ok2 T VN 3 (rec (.expr 7)) (rec (.expr 7)) s s') (hm:∀ a t,m s=.ok (a,t)→s.i < t.i∧a < t.N.length) (hTk:∀ i,TkOk (tokAt T i))
  (h:PS w q Tv T Nv N s) (hg:Gd w q) :
  Calls Tryz.prog 187 #[.pointer (some ⟨q,0,none⟩)] w (Rf T w q Tv Nv N (PM.bind m (exprL T rec 6 (T.length+1) 6) s)):=by
 obtain ⟨res,hres⟩:∃ res,PM.bind m (exprL T rec 6 (T.length+1) 6) s=res:=⟨_,rfl⟩
 rw [hres]
 have HQ:=Hid.mk7 hres
 have c1:=hC w q Tv Nv N h hg
 have r0:=Rg.refl h
 have HP:=Hid.mk7 (And.intro hR (And.intro hq (And.intro hTk (And.intro r0 hm))))
 clear hres hR hq hTk hC h hg r0 hm
 cases hw:m s with
 | error e=>
  have hre:res=.error e:=by rw [← HQ.out]; simp [PM.bind,hw]
  subst hre
  rw [hw] at c1
  clear hw
  go_enter Tryz.func187,Tryz.ntmps187
  go_wp2_with fail
  refine c1.mono ?_
  rintro x w1 ⟨⟨z,rfl⟩,b1,t1⟩
  have hbd:=b1.bad
  have H1:=Hid.mk7 (And.intro b1 t1)
  clear c1 b1 t1
  go_wp2_with fail
  refine wp_loop_rounds 1 ?_
  rw [rounds_succ]
  go_wp2
  go_ret
  exact ⟨⟨z,rfl⟩,H1.out⟩
 | ok at_=>
  obtain ⟨a0,t0⟩:=at_
  have hrs:exprL T rec 6 (T.length+1) 6 a0 t0=res:=by rw [← HQ.out]; simp [PM.bind,hw]
  have hmi:=HP.out.2.2.2.2 a0 t0 hw
  rw [hw] at c1
  have HS:=Hid.mk7 (And.intro hrs hmi)
  clear hw hrs hmi
  go_enter Tryz.func187,Tryz.ntmps187
  go_wp2_with fail
  refine c1.mono ?_
  intro x w1 hx
  obtain ⟨rfl,Nv0,M0,r1,g1,_,_⟩:=HP.out.2.2.2.1.rf (by simpa using hx)
  have H0:=Hid.mk7 (And.intro r1 g1)
  clear c1 hx r1 g1
  go_wp2_with fail
  go_loopw [3] (fun lv wr=>LpI T rec 6 w wr q Tv Nv N (s.i+1) res lv) (fun _ wr=>leftOf T wr q)
  case atStart=>exact .inr ⟨a0,t0,T.length+1,Nv0,M0,rfl,by have:=HS.out.2.1; omega,by omega,HS.out.1,H0.out.1,H0.out.2,HS.out.2.2⟩
  case round=>
   rcases hrel with ⟨e,z,rfl,hre,b1,t1⟩ | ⟨a,t,f,Nv1,M1,rfl,hi0,hfu,heq,r1,g1,hlt⟩
   ·subst hre
    have hbd:=b1.bad
    have H1:=Hid.mk7 (And.intro b1 t1)
    clear b1 t1
    go_wp2
    go_ret
    exact ⟨⟨z,rfl⟩,H1.out⟩
   ·have hbd:=g1.c3.1
    have hop:opIs ([⟨#[43]⟩,⟨#[45]⟩,⟨#[111,114]⟩,⟨#[120,111,114]⟩]:List ByteArray) (tokAt T t.i)=decide (lev (tokAt T t.i)=6):=opIs_lev (HP.out.2.2.1 t.i) (k:=6) (by simp [levs])
    have HL:=Hid.mk7 (show leftOf T wr q=T.length+1 - t.i by simp [leftOf,g1.c3.1,r1.ps.at_.pos])
    have HO:=Hid.mk7 (And.intro heq (And.intro hi0 hop))
    have HU:=Hid.mk7 (And.intro hfu hlt)
    clear hop heq hi0 hfu hlt
    have c2:=rf_token11 r1.ps.at_ g1 0 (by omega)
    simp only [Nat.add_zero] at c2
    obtain ⟨tk,htk⟩:∃ tk,tokAt T t.i=tk:=⟨_,rfl⟩
    rw [htk] at c2
    have H1:=Hid.mk7 (And.intro r1 (And.intro g1 htk))
    clear r1 g1 htk
    obtain ⟨tk,tt,tn,ta⟩:=tk
    simp only [Tk.val] at c2
    go_wp2_with fail
    refine c2.mono ?_
    rintro x w2 ⟨rfl,hb2⟩
    have B2:=(hb2.up1 (.cells #[.int .i64 tk,.string tt,.int .i64 tn,.int .i64 ta] 40)).up1 (.cells (List.map Value.string ([⟨#[43]⟩,⟨#[45]⟩,⟨#[111,114]⟩,⟨#[120,111,114]⟩]:List ByteArray)).toArray 9)
    have r2:=H1.out.1.below B2
    have g2:=H1.out.2.1.below B2
    have p2:=H1.out.1.ps.at_.below hb2
    have hql:=p2.lt
    have hst:=StrsAt.new (w2.alloc (.cells #[.int .i64 tk,.string tt,.int .i64 tn,.int .i64 ta] 40)) ([⟨#[43]⟩,⟨#[45]⟩,⟨#[111,114]⟩,⟨#[120,111,114]⟩]:List ByteArray) 9
    have c3:=rf_operator (cap:=([⟨#[43]⟩,⟨#[45]⟩,⟨#[111,114]⟩,⟨#[120,111,114]⟩]:List ByteArray).length) r2.ps.at_ g2 hst (by simp; omega) (by decide)
    rw [HO.out.2.2] at c3
    have hk3:((w2.alloc (.cells #[.int .i64 tk,.string tt,.int .i64 tn,.int .i64 ta] 40)).alloc (.cells (List.map Value.string ([⟨#[43]⟩,⟨#[45]⟩,⟨#[111,114]⟩,⟨#[120,111,114]⟩]:List ByteArray)).toArray 9)).cell? ⟨w2.heap.size,3,none⟩=some (.int .i64 ta):=by
     rw [World.cell?_alloc_lt _ _ ⟨w2.heap.size,3,none⟩ (by simp)]
     simp
    have H2:=Hid.mk7 (And.intro r2 (And.intro g2 (And.intro p2 hk3)))
    simp only [World.size_alloc] at c3
    clear c2 hb2 B2 r2 g2 p2 hk3 hst hql
    cases hd:decide (lev (tokAt T t.i)=6) with
    | false=>
     have h9:¬ lev (tokAt T t.i)=6:=by simpa using hd
     have hre:res=.ok (a,t):=by rw [← HO.out.1]; exact exprL_stop (by have:=HU.out.1; omega) (by omega)
     clear h9
     subst hre
     rw [hd] at c3
     simp only [Bool.false_eq_true,if_false] at c3
     clear hd
     go_wp2_with fail
     refine c3.mono ?_
     rintro x w3 ⟨rfl,h3⟩
     have H3:=Hid.mk7 (And.intro (H2.out.1.still h3.1 h3.2.2) h3.2.1)
     clear c3 h3
     go_wp2
     go_ret
     exact H3.out.1.ofF H3.out.2
    | true=>
     have hl3:lev (tokAt T t.i)=6:=by simpa using hd
     have hi:t.i < T.length:=by
      apply Classical.byContradiction
      intro h
      rw [lev_end (by omega)] at hl3
      omega
     have htt:tt∈([⟨#[43]⟩,⟨#[45]⟩,⟨#[111,114]⟩,⟨#[120,111,114]⟩]:List ByteArray):=by
      have h9:=HO.out.2.2
      rw [hd,H1.out.2.2] at h9
      simp only [opIs,Bool.and_eq_true,List.any_eq_true,decide_eq_true_eq] at h9
      obtain ⟨_,x,hx,e⟩:=h9
      rw [e]
      exact hx
     have htn:=ops6_ne tt htt
     have hrs:lev (tokAt T t.i)=6:=hl3
     have hsd:sidesR (lev (⟨tk,tt,tn,ta⟩:Tk))=7:=by rw [← H1.out.2.2,hl3]; rfl
     rw [hd] at c3
     simp only [if_true,H1.out.2.2] at c3
     have HX:=Hid.mk7 (And.intro hi (And.intro htt (And.intro hrs hsd)))
     clear hd hl3 hi htt hrs hsd
     go_wp2_with fail
     refine c3.mono ?_
     rintro x w3 ⟨rfl,h3⟩
     have r3:=H2.out.1.one HX.out.1 h3.1 h3.2.2
     have hne:w2.heap.size≠q:=by have:=H2.out.2.2.1.lt; omega
     have k3:=h3.2.2.cell H2.out.2.2.2 hne
     have hl:w2.heap.size < w3.heap.size:=World.block_lt_of_cell? w3 _ k3
     have hE:∀ W,Below w3.heap.size w3 W→Calls Tryz.prog 194 #[.pointer (some ⟨q,0,none⟩)] W (Rf T W q Tv Nv1 (N++M1) (rec (.expr 7) ⟨t.i+1,t.N⟩)):=fun W hW=>HP.out.1 ⟨t.i+1,t.N⟩ (by have:=HO.out.2.1; simp; omega) W q Tv _ _ (r3.below hW).ps (h3.2.1.below hW)
     have H3:=Hid.mk7 (And.intro r3 (And.intro h3.2.1 hne))
     clear c3 h3 r3
     cases hr:rec (.expr 7) ⟨t.i+1,t.N⟩ with
     | error e=>
      have hre:res=.error e:=by rw [← HO.out.1]; exact exprL_bad (by have:=HU.out.1; omega) (by have:=HX.out.2.2.1; omega) (by rw [H1.out.2.2,HX.out.2.2.2]; exact hr)
      subst hre
      simp only [hr] at hE
      clear hr
      have hfr:∀ w5 (x:Ending),Rf T w3.drew q Tv Nv1 (N++M1) (.error e) x w5→(∃ z:Int,x=.returned (.int .i64 z))∧w5.cell? ⟨w2.heap.size,3,none⟩=some (.int .i64 ta)∧Bd w5 q e∧Turned (fun k=>k=q∨blk Nv k) w w5:=fun w5 x hx=>by
       obtain ⟨hz,b5,T5⟩:=hx
       have f:=H2.out.2.2.1.free (by have:=HX.out.1; omega) w2.heap.size (Nat.le_refl _)
       exact ⟨hz,T5.cell k3 (fun e=>e.elim f.g f.n),b5,(H3.out.1.below (Below.refl _ _).drew).bad T5⟩
      go_wp2_with fail
      go_region_held3 (fun w'=>w'.cell? ⟨w2.heap.size,3,none⟩=some (.int .i64 ta))
       (go_keep)
       (first
        | (go_at_call 27; have B5:=Below.alloc0 w5 (.cells #[.int .i64 (a:Int),.int .i64 z] 3); refine (bd_node (b5.below B5) _ _ _ _).mono ?_; rintro x w6 ⟨rfl,hb6⟩; have B6:=B5.trans (hb6.mono B5.size); have s6:=(B6.cell (p:=⟨w2.heap.size,3,none⟩) (World.block_lt_of_cell? w5 _ k5)).trans k5; have H6:=Hid.mk7 (And.intro (b5.below B6) (t5.trans (Turned.ofBelow (S:=fun _=>False) B6) (fun _ e=>e.elim))); clear hb6 B5 B6)
        | (go_at_call 194; refine (hE _ (Below.refl _ _).drew).mono ?_; intro x w5 hx; obtain ⟨⟨z,rfl⟩,k5,b5,t5⟩:=hfr _ _ hx; clear hx))
      all_goals
       go_wp2
       go_roundw
       case rel=>exact .inl ⟨e,0,rfl,rfl,H6.out.1,H6.out.2⟩
       case measure=>
        rw [HL.out]
        simp only [leftOf,H6.out.1.bad]
        have:=HX.out.1
        omega
     | ok ru=>
      obtain ⟨r,u⟩:=ru
      have heq2:exprL T rec 6 (f - 1) 6 u.N.length ⟨u.i,u.N++[⟨15,tt,⟨#[]⟩,0,[(a:Int),(r:Int)],ta⟩]⟩=res:=by
       have h9:=exprL_next (T:=T) (rec:=rec) (least:=6) (m:=6) (f:=f) (l:=a) (s:=t) (t:=u) (r:=r) (by have:=HU.out.1; omega) (by have:=HX.out.2.2.1; omega) (by rw [H1.out.2.2,HX.out.2.2.2]; exact hr)
       rw [HX.out.2.2.1,H1.out.2.2,ops6_sh _ _ _ _ _ HX.out.2.1] at h9
       rw [← HO.out.1,h9]
       rfl
      have hfin:=exprL_fin HP.out.2.1 H1.out.1.ps.ok H1.out.1.ps.cnt HX.out.1 HU.out.2 hr 15 tt ta
      have hui:t.i+1≤u.i:=(HP.out.2.1 _ _ (H1.out.1.ps.ok.next HX.out.1)).le hr
      have HV:=Hid.mk7 (And.intro heq2 hui)
      clear heq2 hui
      simp only [hr] at hE
      clear hr
      have hT:0 < T.length:=by have:=HX.out.1; omega
      have HF:=Hid.mk7 (And.intro hfin hT)
      clear hfin hT
      have hfr:∀ w5 (x:Ending),Rf T w3.drew q Tv Nv1 (N++M1) (.ok (r,u)) x w5→x=.returned (.int .i64 (r:Nat))∧w5.cell? ⟨w2.heap.size,3,none⟩=some (.int .i64 ta)∧∃ Nv5 M5,Rg T w w5 q Tv Nv N u Nv5 M5∧Gd w5 q∧¬ blk Nv5 w2.heap.size:=fun w5 x hx=>by
       obtain ⟨e,Nv5,M5,r5,g5,S5,_⟩:=(H3.out.1.below (Below.refl _ _).drew).rf hx
       have f:=H2.out.2.2.1.free HF.out.2 w2.heap.size (Nat.le_refl _)
       exact ⟨e,S5.t.cell k3 (fun e=>e.elim f.g f.n),Nv5,M5,r5,g5,fun e=>(S5.n _ e).elim f.n (fun e=>by simp at e; omega)⟩
      have hnd:∀ w5 Nv5 M5,Rg T w w5 q Tv Nv N u Nv5 M5→Gd w5 q→¬ blk Nv5 w2.heap.size→w5.cell? ⟨w2.heap.size,3,none⟩=some (.int .i64 ta)→Calls Tryz.prog 27 #[.pointer (some ⟨q,0,none⟩),.int .i64 15,.int .i64 ta,.string tt,.slice (some ⟨w5.heap.size,0,none⟩) 2 2] (w5.alloc (.cells #[.int .i64 (a:Int),.int .i64 (r:Int)] 3)) fun x w6=>x=.returned (.int .i64 (u.N.length:Nat))∧w6.cell? ⟨w2.heap.size,3,none⟩=some (.int .i64 ta)∧Rf T w q Tv Nv N (.ok (u.N.length,⟨u.i,u.N++[⟨15,tt,⟨#[]⟩,0,[(a:Int),(r:Int)],ta⟩]⟩)) x w6:=fun w5 Nv5 M5 r5 g5 hn5 k5=>by
       have B5:=Below.alloc0 w5 (.cells #[.int .i64 (a:Int),.int .i64 (r:Int)] 3)
       have r6:=r5.below B5
       have hl:=r6.ps.len
       have hc:=r6.ps.cnt
       unfold Cnt at hc
       have hql:=r5.ps.at_.lt
       refine (rf_node r6.ps.at_ (g5.below B5) HF.out.2 15 ta tt _ [(a:Int),(r:Int)] ⟨OwnI.two w5 a r 3,fun k (hk:w5.heap.size=k)=>⟨by omega,fun e=>by have:=r5.ps.at_.own.blk_lt k e; omega,by simp; omega⟩⟩ (by omega)).mono ?_
       intro x w6 hk
       have hk2:=hk
       obtain ⟨e6,Nv6,_,S6,_⟩:=hk2
       refine ⟨by rw [e6,← hl],S6.t.cell ((B5.cell (p:=⟨w2.heap.size,3,none⟩) (World.block_lt_of_cell? w5 _ k5)).trans k5) (fun e=>e.elim H3.out.2.2 hn5),?_⟩
       exact r6.kept (n:=⟨15,tt,⟨#[]⟩,0,.slice (some ⟨w5.heap.size,0,none⟩) 2 2,[(a:Int),(r:Int)],ta⟩) (fun k (hk:w5.heap.size=k)=>by have:=r5.size; omega) hk HF.out.1
      go_wp2_with fail
      go_region_held3 (fun w'=>w'.cell? ⟨w2.heap.size,3,none⟩=some (.int .i64 ta))
       (go_keep)
       (first
        | (go_at_call 27; refine (hnd _ _ _ r5 g5 n5 k5).mono ?_; rintro x w6 ⟨rfl,s6,h6⟩; have H6:=Hid.mk7 h6; clear h6)
        | (go_at_call 194; refine (hE _ (Below.refl _ _).drew).mono ?_; intro x w5 hx; obtain ⟨rfl,k5,Nv5,M5,r5,g5,n5⟩:=hfr _ _ hx; clear hx))
      all_goals
       obtain ⟨_,Nv6,M6,o6,p6,S6,g6⟩:=H6.out
       have HW:=Hid.mk7 (And.intro (Rg.mk p6 o6 S6) g6)
       clear o6 p6 S6 g6
       go_wp2
       go_roundw
       case rel=>exact .inr ⟨u.N.length,_,f - 1,Nv6,M6,rfl,(by have:=HV.out.2; have:=HO.out.2.1; simp; omega),(by have:=HV.out.2; have:=HU.out.1; have:=HX.out.1; simp; omega),HV.out.1,HW.out.1,HW.out.2,by simp⟩
       case measure=>
        rw [HL.out]
        have h9:=HW.out.1.ps.at_.pos
        simp only at h9
        simp only [leftOf,HW.out.2.c3.1,h9]
        have:=HX.out.1
        have:=HV.out.2
        omega
theorem opsU_ne (x:ByteArray) (h:x∈([⟨#[43]⟩,⟨#[45]⟩,⟨#[110,111,116]⟩]:List ByteArray)):x.toList.isEmpty=false:=by
 simp only [List.mem_cons,List.not_mem_nil,or_false] at h
 have h1:¬ x=⟨#[]⟩:=by
  intro e
  subst e
  simp at h
 rw [List.isEmpty_eq_false_iff]
 exact fun e=>bytes_ne h1 (e.trans (by rw [ByteArray.toList_eq]))
theorem opIs_un {t:Tk} (h:TkOk t):opIs ([⟨#[43]⟩,⟨#[45]⟩,⟨#[110,111,116]⟩]:List ByteArray) t=isUn t:=by
 rw [opIs_cons,opIs_cons,opIs_cons,opIs_nil,tkIs_sign h (by simp [allSigns]),tkIs_sign h (by simp [allSigns]),tkIs_word h (by simp [allWords])]
 simp [isUn,Bool.or_assoc]
theorem rf_unary (hR:RunsF T 202 [] (rec .operand) (t.i+1)) (hTk:∀ i,TkOk (tokAt T i)) (hfin:∀ a u,phBody T rec .operand t=.ok (a,u)→S2 T u u∧Cnt T u)
  (hS:∀ w q Tv Nv N,PS w q Tv T Nv N t→Gd w q→Calls Tryz.prog 209 #[.pointer (some ⟨q,0,none⟩)] w (Rf T w q Tv Nv N (single T rec (tokAt T t.i) t)))
  (h:PS w q Tv T Nv N t) (hg:Gd w q) :
  Calls Tryz.prog 202 #[.pointer (some ⟨q,0,none⟩)] w (Rf T w q Tv Nv N (phBody T rec .operand t)):=by
 obtain ⟨res,hres⟩:∃ res,phBody T rec .operand t=res:=⟨_,rfl⟩
 rw [hres]
 rw [hres] at hfin
 have hop:=opIs_un (hTk t.i)
 have HO:=Hid.mk7 (And.intro hres (And.intro trivial hop))
 have r1:=Rg.refl h
 have g1:=hg
 have HP:=Hid.mk7 (And.intro hR (And.intro trivial (And.intro hTk (And.intro hfin hS))))
 clear hres hR hTk h hg hfin hop hS
 obtain ⟨Nv1,hNv⟩:∃ v,Nv=v:=⟨_,rfl⟩
 obtain ⟨M1,hM1⟩:∃ l:List Nd,[]=l:=⟨_,rfl⟩
 have r1:Rg T w w q Tv Nv N t Nv1 M1:=by rw [← hNv,← hM1]; exact r1
 clear hNv hM1
 go_enter Tryz.func202,Tryz.ntmps202
 have c2:=rf_token11 r1.ps.at_ g1 0 (by omega)
 simp only [Nat.add_zero] at c2
 obtain ⟨tk,htk⟩:∃ tk,tokAt T t.i=tk:=⟨_,rfl⟩
 rw [htk] at c2
 have H1:=Hid.mk7 (And.intro r1 (And.intro g1 htk))
 clear r1 g1 htk
 obtain ⟨tk,tt,tn,ta⟩:=tk
 simp only [Tk.val] at c2
 go_wp2_with fail
 refine c2.mono ?_
 rintro x w2 ⟨rfl,hb2⟩
 have B2:=(hb2.up1 (.cells #[.int .i64 tk,.string tt,.int .i64 tn,.int .i64 ta] 40)).up1 (.cells (List.map Value.string ([⟨#[43]⟩,⟨#[45]⟩,⟨#[110,111,116]⟩]:List ByteArray)).toArray 9)
 have r2:=H1.out.1.below B2
 have g2:=H1.out.2.1.below B2
 have p2:=H1.out.1.ps.at_.below hb2
 have hql:=p2.lt
 have hst:=StrsAt.new (w2.alloc (.cells #[.int .i64 tk,.string tt,.int .i64 tn,.int .i64 ta] 40)) ([⟨#[43]⟩,⟨#[45]⟩,⟨#[110,111,116]⟩]:List ByteArray) 9
 have c3:=rf_operator (cap:=([⟨#[43]⟩,⟨#[45]⟩,⟨#[110,111,116]⟩]:List ByteArray).length) r2.ps.at_ g2 hst (by simp; omega) (by decide)
 rw [HO.out.2.2] at c3
 have hk3:((w2.alloc (.cells #[.int .i64 tk,.string tt,.int .i64 tn,.int .i64 ta] 40)).alloc (.cells (List.map Value.string ([⟨#[43]⟩,⟨#[45]⟩,⟨#[110,111,116]⟩]:List ByteArray)).toArray 9)).cell? ⟨w2.heap.size,3,none⟩=some (.int .i64 ta):=by
  rw [World.cell?_alloc_lt _ _ ⟨w2.heap.size,3,none⟩ (by simp)]
  simp
 have H2:=Hid.mk7 (And.intro r2 (And.intro g2 (And.intro p2 hk3)))
 simp only [World.size_alloc] at c3
 clear c2 hb2 B2 r2 g2 p2 hk3 hst hql
 cases hd:isUn (tokAt T t.i) with
 | false=>
  have hre:single T rec (tokAt T t.i) t=res:=by rw [← HO.out.1]; simp [phBody,PM.bind,pTok,hd]
  rw [hd] at c3
  simp only [Bool.false_eq_true,if_false] at c3
  clear hd
  go_wp2_with fail
  refine c3.mono ?_
  rintro x w3 ⟨rfl,h3⟩
  have r3:=H2.out.1.still h3.1 h3.2.2
  have c4:=HP.out.2.2.2.2 w3 q Tv _ _ r3.ps h3.2.1
  rw [hre] at c4
  have H3:=Hid.mk7 r3
  clear c3 h3 r3 hre
  go_wp2_with fail
  refine c4.mono ?_
  intro x w4 hx
  cases res with
  | error e=>
   obtain ⟨⟨z,rfl⟩,b4,t4⟩:=hx
   have H4:=Hid.mk7 (And.intro b4 (H3.out.bad t4))
   clear c4 b4 t4
   go_wp2
   go_ret
   exact ⟨⟨z,rfl⟩,H4.out⟩
  | ok ku=>
   obtain ⟨k4,u4⟩:=ku
   obtain ⟨rfl,Nv4,M4,r4,g4,_,_⟩:=H3.out.rf hx
   have H4:=Hid.mk7 (And.intro r4 g4)
   clear c4 hx r4 g4
   go_wp2
   go_ret
   exact H4.out.1.ofF H4.out.2
 | true=>
  have hl3:isUn (tokAt T t.i)=true:=hd
  have hi:t.i < T.length:=by
   apply Classical.byContradiction
   intro h
   have ez:tokAt T t.i=zeroTk:=by simp [tokAt,List.getElem?_eq_none (Nat.le_of_not_lt h)]
   rw [ez] at hl3
   simp [isUn,isTk,zeroTk] at hl3
  have htt:tt∈([⟨#[43]⟩,⟨#[45]⟩,⟨#[110,111,116]⟩]:List ByteArray):=by
   have h9:=HO.out.2.2
   rw [hd,H1.out.2.2] at h9
   simp only [opIs,Bool.and_eq_true,List.any_eq_true,decide_eq_true_eq] at h9
   obtain ⟨_,x,hx,e⟩:=h9
   rw [e]
   exact hx
  have htn:=opsU_ne tt htt
  have hrs:=hl3
  have hsd:True:=trivial
  rw [hd] at c3
  simp only [if_true,H1.out.2.2] at c3
  have HX:=Hid.mk7 (And.intro hi (And.intro htt (And.intro hrs hsd)))
  clear hd hl3 hi htt hrs hsd
  go_wp2_with fail
  refine c3.mono ?_
  rintro x w3 ⟨rfl,h3⟩
  have r3:=H2.out.1.one HX.out.1 h3.1 h3.2.2
  have hne:w2.heap.size≠q:=by have:=H2.out.2.2.1.lt; omega
  have k3:=h3.2.2.cell H2.out.2.2.2 hne
  have hl:w2.heap.size < w3.heap.size:=World.block_lt_of_cell? w3 _ k3
  have hE:∀ W,Below w3.heap.size w3 W→Calls Tryz.prog 202 #[.pointer (some ⟨q,0,none⟩)] W (Rf T W q Tv Nv1 (N++M1) (rec .operand ⟨t.i+1,t.N⟩)):=fun W hW=>HP.out.1 ⟨t.i+1,t.N⟩ (Nat.le_refl _) W q Tv _ _ (r3.below hW).ps (h3.2.1.below hW)
  have H3:=Hid.mk7 (And.intro r3 (And.intro h3.2.1 hne))
  clear c3 h3 r3
  cases hr:rec .operand ⟨t.i+1,t.N⟩ with
  | error e=>
   have hre:res=.error e:=by rw [← HO.out.1]; simp [phBody,PM.bind,pTok,HX.out.2.2.1,pSkip,hr]
   subst hre
   simp only [hr] at hE
   clear hr
   have hfr:∀ w5 (x:Ending),Rf T w3.drew q Tv Nv1 (N++M1) (.error e) x w5→(∃ z:Int,x=.returned (.int .i64 z))∧w5.cell? ⟨w2.heap.size,3,none⟩=some (.int .i64 ta)∧Bd w5 q e∧Turned (fun k=>k=q∨blk Nv k) w w5:=fun w5 x hx=>by
    obtain ⟨hz,b5,T5⟩:=hx
    have f:=H2.out.2.2.1.free (by have:=HX.out.1; omega) w2.heap.size (Nat.le_refl _)
    exact ⟨hz,T5.cell k3 (fun e=>e.elim f.g f.n),b5,(H3.out.1.below (Below.refl _ _).drew).bad T5⟩
   go_wp2_with fail
   go_region_held3 (fun w'=>w'.cell? ⟨w2.heap.size,3,none⟩=some (.int .i64 ta))
    (go_keep)
    (first
     | (go_at_call 27; have B5:=Below.alloc0 w5 (.cells #[.int .i64 z] 3); refine (bd_node (b5.below B5) _ _ _ _).mono ?_; rintro x w6 ⟨rfl,hb6⟩; have B6:=B5.trans (hb6.mono B5.size); have s6:=(B6.cell (p:=⟨w2.heap.size,3,none⟩) (World.block_lt_of_cell? w5 _ k5)).trans k5; have H6:=Hid.mk7 (And.intro (b5.below B6) (t5.trans (Turned.ofBelow (S:=fun _=>False) B6) (fun _ e=>e.elim))); clear hb6 B5 B6)
     | (go_at_call 202; refine (hE _ (Below.refl _ _).drew).mono ?_; intro x w5 hx; obtain ⟨⟨z,rfl⟩,k5,b5,t5⟩:=hfr _ _ hx; clear hx))
   all_goals
    go_wp2
    go_ret
    exact ⟨⟨0,rfl⟩,H6.out.1,H6.out.2⟩
  | ok ru=>
   obtain ⟨r,u⟩:=ru
   have hre:res=.ok (u.N.length,⟨u.i,u.N++[⟨14,tt,⟨#[]⟩,0,[(r:Int)],ta⟩]⟩):=by
    have h8:=HX.out.2.2.1
    rw [← HO.out.1]
    simp only [phBody,PM.bind,pTok,h8,if_true,pSkip,hr,pAdd]
    rw [H1.out.2.2]
   have hfin:=HP.out.2.2.2.1 _ _ hre
   subst hre
   simp only [hr] at hE
   clear hr
   have hT:0 < T.length:=by have:=HX.out.1; omega
   have HF:=Hid.mk7 (And.intro hfin hT)
   clear hfin hT
   have hfr:∀ w5 (x:Ending),Rf T w3.drew q Tv Nv1 (N++M1) (.ok (r,u)) x w5→x=.returned (.int .i64 (r:Nat))∧w5.cell? ⟨w2.heap.size,3,none⟩=some (.int .i64 ta)∧∃ Nv5 M5,Rg T w w5 q Tv Nv N u Nv5 M5∧Gd w5 q∧¬ blk Nv5 w2.heap.size:=fun w5 x hx=>by
    obtain ⟨e,Nv5,M5,r5,g5,S5,_⟩:=(H3.out.1.below (Below.refl _ _).drew).rf hx
    have f:=H2.out.2.2.1.free HF.out.2 w2.heap.size (Nat.le_refl _)
    exact ⟨e,S5.t.cell k3 (fun e=>e.elim f.g f.n),Nv5,M5,r5,g5,fun e=>(S5.n _ e).elim f.n (fun e=>by simp at e; omega)⟩
   have hnd:∀ w5 Nv5 M5,Rg T w w5 q Tv Nv N u Nv5 M5→Gd w5 q→¬ blk Nv5 w2.heap.size→w5.cell? ⟨w2.heap.size,3,none⟩=some (.int .i64 ta)→Calls Tryz.prog 27 #[.pointer (some ⟨q,0,none⟩),.int .i64 14,.int .i64 ta,.string tt,.slice (some ⟨w5.heap.size,0,none⟩) 1 1] (w5.alloc (.cells #[.int .i64 (r:Int)] 3)) fun x w6=>x=.returned (.int .i64 (u.N.length:Nat))∧w6.cell? ⟨w2.heap.size,3,none⟩=some (.int .i64 ta)∧Rf T w q Tv Nv N (.ok (u.N.length,⟨u.i,u.N++[⟨14,tt,⟨#[]⟩,0,[(r:Int)],ta⟩]⟩)) x w6:=fun w5 Nv5 M5 r5 g5 hn5 k5=>by
    have B5:=Below.alloc0 w5 (.cells #[.int .i64 (r:Int)] 3)
    have r6:=r5.below B5
    have hl:=r6.ps.len
    have hc:=r6.ps.cnt
    unfold Cnt at hc
    have hql:=r5.ps.at_.lt
    refine (rf_node r6.ps.at_ (g5.below B5) HF.out.2 14 ta tt _ [(r:Int)] ⟨OwnI.one w5 r 3,fun k (hk:w5.heap.size=k)=>⟨by omega,fun e=>by have:=r5.ps.at_.own.blk_lt k e; omega,by simp; omega⟩⟩ (by omega)).mono ?_
    intro x w6 hk
    have hk2:=hk
    obtain ⟨e6,Nv6,_,S6,_⟩:=hk2
    refine ⟨by rw [e6,← hl],S6.t.cell ((B5.cell (p:=⟨w2.heap.size,3,none⟩) (World.block_lt_of_cell? w5 _ k5)).trans k5) (fun e=>e.elim H3.out.2.2 hn5),?_⟩
    exact r6.kept (n:=⟨14,tt,⟨#[]⟩,0,.slice (some ⟨w5.heap.size,0,none⟩) 1 1,[(r:Int)],ta⟩) (fun k (hk:w5.heap.size=k)=>by have:=r5.size; omega) hk HF.out.1
   go_wp2_with fail
   go_region_held3 (fun w'=>w'.cell? ⟨w2.heap.size,3,none⟩=some (.int .i64 ta))
    (go_keep)
    (first
     | (go_at_call 27; refine (hnd _ _ _ r5 g5 n5 k5).mono ?_; rintro x w6 ⟨rfl,s6,h6⟩; have H6:=Hid.mk7 h6; clear h6)
     | (go_at_call 202; refine (hE _ (Below.refl _ _).drew).mono ?_; intro x w5 hx; obtain ⟨rfl,k5,Nv5,M5,r5,g5,n5⟩:=hfr _ _ hx; clear hx))
   all_goals
    go_wp2
    go_ret
    exact H6.out
end Go.Proofs.YtlciaafincgdeaaGreatDoor
