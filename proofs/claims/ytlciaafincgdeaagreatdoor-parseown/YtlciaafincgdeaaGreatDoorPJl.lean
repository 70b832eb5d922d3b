/-
  Layer 11 (parse): the document's parser: ++ and --, comparisons.
-/
import Derived.Test.YtlciaafincgdeaaGreatDoorZah
namespace Go.Proofs.YtlciaafincgdeaaGreatDoor
open Go.RowKit
variable {N:List Nd} {Nv Tv:Value} {T:List Tk} {m:PM Nat} {q:Nat} {rec:Ph→PM Nat} {s:Ps} {w:World}
set_option maxHeartbeats 6400000
set_option maxRecDepth 100000
theorem ops5_ne (x:ByteArray) (h:x∈([⟨#[43,43]⟩,⟨#[45,45]⟩]:List ByteArray)):x.toList.isEmpty=false:=by
 simp only [List.mem_cons,List.not_mem_nil,or_false] at h
 have h1:¬ x=⟨#[]⟩:=by
  intro e
  subst e
  simp at h
 rw [List.isEmpty_eq_false_iff]
 exact fun e=>bytes_ne h1 (e.trans (by rw [ByteArray.toList_eq]))
theorem ops5_sh (k:Int) (x:ByteArray) (n a:Int) (l:List Int) (h:x∈([⟨#[43,43]⟩,⟨#[45,45]⟩]:List ByteArray)):opSh ⟨k,x,n,a⟩ l=⟨15,x,⟨#[]⟩,0,l,a⟩:=by
 simp only [List.mem_cons,List.not_mem_nil,or_false] at h
 have h1:¬ x=⟨#[61]⟩:=by intro e; subst e; simp at h
 have h2:¬ x=⟨#[33]⟩:=by intro e; subst e; simp at h
 have h3:¬ x=⟨#[111,114,101,108,115,101]⟩:=by intro e; subst e; simp at h
 have h4:¬ x=⟨#[97,110,100,97,108,115,111]⟩:=by intro e; subst e; simp at h
 simp [opSh,h1,h2,h3,h4]
theorem ops4_ne (x:ByteArray) (h:x∈([⟨#[61,61]⟩,⟨#[47,61]⟩,⟨#[61,60]⟩,⟨#[60]⟩,⟨#[62,61]⟩,⟨#[62]⟩,⟨#[61,58,61]⟩,⟨#[61,47,61]⟩]:List ByteArray)):x.toList.isEmpty=false:=by
 simp only [List.mem_cons,List.not_mem_nil,or_false] at h
 have h1:¬ x=⟨#[]⟩:=by
  intro e
  subst e
  simp at h
 rw [List.isEmpty_eq_false_iff]
 exact fun e=>bytes_ne h1 (e.trans (by rw [ByteArray.toList_eq]))
theorem ops4_sh (k:Int) (x:ByteArray) (n a:Int) (l:List Int) (h:x∈([⟨#[61,61]⟩,⟨#[47,61]⟩,⟨#[61,60]⟩,⟨#[60]⟩,⟨#[62,61]⟩,⟨#[62]⟩,⟨#[61,58,61]⟩,⟨#[61,47,61]⟩]:List ByteArray)):opSh ⟨k,x,n,a⟩ l=⟨15,x,⟨#[]⟩,0,l,a⟩:=by
 simp only [List.mem_cons,List.not_mem_nil,or_false] at h
 have h1:¬ x=⟨#[61]⟩:=by intro e; subst e; simp at h
 have h2:¬ x=⟨#[33]⟩:=by intro e; subst e; simp at h
 have h3:¬ x=⟨#[111,114,101,108,115,101]⟩:=by intro e; subst e; simp at h
 have h4:¬ x=⟨#[97,110,100,97,108,115,111]⟩:=by intro e; subst e; simp at h
 simp [opSh,h1,h2,h3,h4]
theorem rf_appended (hC:∀ w q Tv Nv N,PS w q Tv T Nv N s→Gd w q→Calls Tryz.prog 187 #[.pointer (some ⟨q,0,none⟩)] w (Rf T w q Tv Nv N (m s)))
  (hR:RunsF T 180 [] (rec (.expr 5)) (s.i+1)) (hfR:Fwd T (rec (.expr 5))) (hm:∀ a t,m s=.ok (a,t)→s.i < t.i) (hTk:∀ i,TkOk (tokAt T i))
  (hfin:∀ a u,PM.bind m (exprL T rec 5 (T.length+1) 5) s=.ok (a,u)→S2 T u u∧Cnt T u)
  (h:PS w q Tv T Nv N s) (hg:Gd w q) :
  Calls Tryz.prog 180 #[.pointer (some ⟨q,0,none⟩)] w (Rf T w q Tv Nv N (PM.bind m (exprL T rec 5 (T.length+1) 5) s)):=by
 obtain ⟨res,hres⟩:∃ res,PM.bind m (exprL T rec 5 (T.length+1) 5) s=res:=⟨_,rfl⟩
 rw [hres]
 rw [hres] at hfin
 have HQ:=Hid.mk7 hres
 have c1:=hC w q Tv Nv N h hg
 have r0:=Rg.refl h
 have HP:=Hid.mk7 (And.intro hR (And.intro hfR (And.intro hTk (And.intro hfin (And.intro r0 hm)))))
 clear hres hR hfR hTk hC h hg hfin r0 hm
 cases hw:m s with
 | error e=>
  have hre:res=.error e:=by rw [← HQ.out]; simp [PM.bind,hw]
  subst hre
  rw [hw] at c1
  clear hw
  go_enter Tryz.func180,Tryz.ntmps180
  go_wp2_with fail
  refine c1.mono ?_
  rintro x w1 ⟨⟨z,rfl⟩,b1,t1⟩
  have c2:=bd_token b1 0
  simp only [zeroTk,Tk.val] at c2
  have H1:=Hid.mk7 (And.intro b1 t1)
  clear c1 b1 t1
  go_wp2_with fail
  refine c2.mono ?_
  rintro x w2 ⟨rfl,hb2⟩
  have H2:=Hid.mk7 hb2
  clear c2 hb2
  go_wp2_with fail
  refine (bd_operator_new H1.out.1 H2.out ([⟨#[43,43]⟩,⟨#[45,45]⟩]:List ByteArray) rfl rfl rfl (by decide)).mono ?_
  rintro x w3 ⟨rfl,hb3⟩
  have H3:=Hid.mk7 hb3
  clear hb3
  go_wp2
  go_ret
  exact ⟨⟨z,rfl⟩,H1.out.1.below H3.out,H1.out.2.trans (Turned.ofBelow (S:=fun _=>False) H3.out) (fun _ e=>e.elim)⟩
 | ok at_=>
  obtain ⟨a,t⟩:=at_
  have hrs:res=if lev (tokAt T t.i)=5 then exprK rec (tokAt T t.i) a PM.ret t else .ok (a,t):=by rw [← HQ.out,← exprL_once 5 (by omega) (by omega)]; simp [PM.bind,hw]
  have hmi:=HP.out.2.2.2.2.2 a t hw
  rw [hw] at c1
  have hop:=opIs_lev (HP.out.2.2.1 t.i) (k:=5) (by simp [levs])
  have hop2:opIs ([⟨#[43,43]⟩,⟨#[45,45]⟩]:List ByteArray) (tokAt T t.i)=decide (lev (tokAt T t.i)=5):=hop
  have HO:=Hid.mk7 (And.intro hrs (And.intro hmi hop2))
  clear hw hrs hmi hop hop2
  go_enter Tryz.func180,Tryz.ntmps180
  go_wp2_with fail
  refine c1.mono ?_
  intro x w1 hx
  obtain ⟨rfl,Nv1,M1,r1,g1,_,_⟩:=HP.out.2.2.2.2.1.rf (by simpa using hx)
  have c2:=rf_token11 r1.ps.at_ g1 0 (by omega)
  simp only [Nat.add_zero] at c2
  obtain ⟨tk,htk⟩:∃ tk,tokAt T t.i=tk:=⟨_,rfl⟩
  rw [htk] at c2
  have H1:=Hid.mk7 (And.intro r1 (And.intro g1 htk))
  clear c1 hx r1 g1 htk
  obtain ⟨tk,tt,tn,ta⟩:=tk
  simp only [Tk.val] at c2
  go_wp2_with fail
  refine c2.mono ?_
  rintro x w2 ⟨rfl,hb2⟩
  have B2:=(hb2.up1 (.cells #[.int .i64 tk,.string tt,.int .i64 tn,.int .i64 ta] 40)).up1 (.cells (List.map Value.string ([⟨#[43,43]⟩,⟨#[45,45]⟩]:List ByteArray)).toArray 9)
  have r2:=H1.out.1.below B2
  have g2:=H1.out.2.1.below B2
  have p2:=H1.out.1.ps.at_.below hb2
  have hql:=p2.lt
  have hst:=StrsAt.new (w2.alloc (.cells #[.int .i64 tk,.string tt,.int .i64 tn,.int .i64 ta] 40)) ([⟨#[43,43]⟩,⟨#[45,45]⟩]:List ByteArray) 9
  have c3:=rf_operator (cap:=([⟨#[43,43]⟩,⟨#[45,45]⟩]:List ByteArray).length) r2.ps.at_ g2 hst (by simp; omega) (by decide)
  rw [HO.out.2.2] at c3
  have hk3:((w2.alloc (.cells #[.int .i64 tk,.string tt,.int .i64 tn,.int .i64 ta] 40)).alloc (.cells (List.map Value.string ([⟨#[43,43]⟩,⟨#[45,45]⟩]:List ByteArray)).toArray 9)).cell? ⟨w2.heap.size,3,none⟩=some (.int .i64 ta):=by
   rw [World.cell?_alloc_lt _ _ ⟨w2.heap.size,3,none⟩ (by simp)]
   simp
  have H2:=Hid.mk7 (And.intro r2 (And.intro g2 (And.intro p2 hk3)))
  simp only [World.size_alloc] at c3
  clear c2 hb2 B2 r2 g2 p2 hk3 hst hql
  cases hd:decide (lev (tokAt T t.i)=5) with
  | false=>
   have hre:res=.ok (a,t):=by rw [HO.out.1,if_neg (by simpa using hd)]
   subst hre
   rw [hd] at c3
   simp only [Bool.false_eq_true,if_false] at c3
   clear hd
   go_wp2_with fail
   refine c3.mono ?_
   rintro x w3 ⟨rfl,h3⟩
   have H3:=Hid.mk7 (And.intro (H2.out.1.still h3.1 h3.2.2) h3.2.1)
   clear c3 h3
   go_wp2
   go_ret
   exact H3.out.1.ofF H3.out.2
  | true=>
   have hl3:lev (tokAt T t.i)=5:=by simpa using hd
   have hi:t.i < T.length:=by
    apply Classical.byContradiction
    intro h
    rw [lev_end (by omega)] at hl3
    omega
   have htt:tt∈([⟨#[43,43]⟩,⟨#[45,45]⟩]:List ByteArray):=by
    have h9:=HO.out.2.2
    rw [hd,H1.out.2.2] at h9
    simp only [opIs,Bool.and_eq_true,List.any_eq_true,decide_eq_true_eq] at h9
    obtain ⟨_,x,hx,e⟩:=h9
    rw [e]
    exact hx
   have htn:=ops5_ne tt htt
   have hrs:res=exprK rec ⟨tk,tt,tn,ta⟩ a PM.ret t:=by rw [HO.out.1,if_pos hl3,H1.out.2.2]
   have hsd:sidesR (lev (⟨tk,tt,tn,ta⟩:Tk))=5:=by rw [← H1.out.2.2,hl3]; rfl
   rw [hd] at c3
   simp only [if_true,H1.out.2.2] at c3
   have HX:=Hid.mk7 (And.intro hi (And.intro htt (And.intro hrs hsd)))
   clear hd hl3 hi htt hrs hsd
   go_wp2_with fail
   refine c3.mono ?_
   rintro x w3 ⟨rfl,h3⟩
   have r3:=H2.out.1.one HX.out.1 h3.1 h3.2.2
   have hne:w2.heap.size≠q:=by have:=H2.out.2.2.1.lt; omega
   have k3:=h3.2.2.cell H2.out.2.2.2 hne
   have hl:w2.heap.size < w3.heap.size:=World.block_lt_of_cell? w3 _ k3
   have hE:∀ W,Below w3.heap.size w3 W→Calls Tryz.prog 180 #[.pointer (some ⟨q,0,none⟩)] W (Rf T W q Tv Nv1 (N++M1) (rec (.expr 5) ⟨t.i+1,t.N⟩)):=fun W hW=>HP.out.1 ⟨t.i+1,t.N⟩ (by have:=HO.out.2.1; simp; omega) W q Tv _ _ (r3.below hW).ps (h3.2.1.below hW)
   have H3:=Hid.mk7 (And.intro r3 (And.intro h3.2.1 hne))
   clear c3 h3 r3
   cases hr:rec (.expr 5) ⟨t.i+1,t.N⟩ with
   | error e=>
    have hre:res=.error e:=by rw [HX.out.2.2.1]; simp [exprK,PM.bind,pSkip,HX.out.2.2.2,hr]
    subst hre
    simp only [hr] at hE
    clear hr
    have hfr:∀ w5 (x:Ending),Rf T w3.drew q Tv Nv1 (N++M1) (.error e) x w5→(∃ z:Int,x=.returned (.int .i64 z))∧w5.cell? ⟨w2.heap.size,3,none⟩=some (.int .i64 ta)∧Bd w5 q e∧Turned (fun k=>k=q∨blk Nv k) w w5:=fun w5 x hx=>by
     obtain ⟨hz,b5,T5⟩:=hx
     have f:=H2.out.2.2.1.free (by have:=HX.out.1; omega) w2.heap.size (Nat.le_refl _)
     exact ⟨hz,T5.cell k3 (fun e=>e.elim f.g f.n),b5,(H3.out.1.below (Below.refl _ _).drew).bad T5⟩
    go_wp2_with fail
    go_region_held3 (fun w'=>w'.cell? ⟨w2.heap.size,3,none⟩=some (.int .i64 ta))
     (go_keep)
     (first
      | (go_at_call 27; have B5:=Below.alloc0 w5 (.cells #[.int .i64 (a:Int),.int .i64 z] 3); refine (bd_node (b5.below B5) _ _ _ _).mono ?_; rintro x w6 ⟨rfl,hb6⟩; have B6:=B5.trans (hb6.mono B5.size); have s6:=(B6.cell (p:=⟨w2.heap.size,3,none⟩) (World.block_lt_of_cell? w5 _ k5)).trans k5; have H6:=Hid.mk7 (And.intro (b5.below B6) (t5.trans (Turned.ofBelow (S:=fun _=>False) B6) (fun _ e=>e.elim))); clear hb6 B5 B6)
      | (go_at_call 180; refine (hE _ (Below.refl _ _).drew).mono ?_; intro x w5 hx; obtain ⟨⟨z,rfl⟩,k5,b5,t5⟩:=hfr _ _ hx; clear hx))
    all_goals
     go_wp2
     go_ret
     exact ⟨⟨0,rfl⟩,H6.out.1,H6.out.2⟩
   | ok ru=>
    obtain ⟨r,u⟩:=ru
    have hre:res=.ok (u.N.length,⟨u.i,u.N++[⟨15,tt,⟨#[]⟩,0,[(a:Int),(r:Int)],ta⟩]⟩):=by
     rw [HX.out.2.2.1]
     simp only [exprK,PM.bind,pSkip,HX.out.2.2.2,hr]
     simp only [pAdd,PM.ret]
     rw [ops5_sh _ _ _ _ _ HX.out.2.1]
    have hfin:=HP.out.2.2.2.1 _ _ hre
    subst hre
    simp only [hr] at hE
    clear hr
    have hT:0 < T.length:=by have:=HX.out.1; omega
    have HF:=Hid.mk7 (And.intro hfin hT)
    clear hfin hT
    have hfr:∀ w5 (x:Ending),Rf T w3.drew q Tv Nv1 (N++M1) (.ok (r,u)) x w5→x=.returned (.int .i64 (r:Nat))∧w5.cell? ⟨w2.heap.size,3,none⟩=some (.int .i64 ta)∧∃ Nv5 M5,Rg T w w5 q Tv Nv N u Nv5 M5∧Gd w5 q∧¬ blk Nv5 w2.heap.size:=fun w5 x hx=>by
     obtain ⟨e,Nv5,M5,r5,g5,S5,_⟩:=(H3.out.1.below (Below.refl _ _).drew).rf hx
     have f:=H2.out.2.2.1.free HF.out.2 w2.heap.size (Nat.le_refl _)
     exact ⟨e,S5.t.cell k3 (fun e=>e.elim f.g f.n),Nv5,M5,r5,g5,fun e=>(S5.n _ e).elim f.n (fun e=>by simp at e; omega)⟩
    have hnd:∀ w5 Nv5 M5,Rg T w w5 q Tv Nv N u Nv5 M5→Gd w5 q→¬ blk Nv5 w2.heap.size→w5.cell? ⟨w2.heap.size,3,none⟩=some (.int .i64 ta)→Calls Tryz.prog 27 #[.pointer (some ⟨q,0,none⟩),.int .i64 15,.int .i64 ta,.string tt,.slice (some ⟨w5.heap.size,0,none⟩) 2 2] (w5.alloc (.cells #[.int .i64 (a:Int),.int .i64 (r:Int)] 3)) fun x w6=>x=.returned (.int .i64 (u.N.length:Nat))∧w6.cell? ⟨w2.heap.size,3,none⟩=some (.int .i64 ta)∧Rf T w q Tv Nv N (.ok (u.N.length,⟨u.i,u.N++[⟨15,tt,⟨#[]⟩,0,[(a:Int),(r:Int)],ta⟩]⟩)) x w6:=fun w5 Nv5 M5 r5 g5 hn5 k5=>by
     have B5:=Below.alloc0 w5 (.cells #[.int .i64 (a:Int),.int .i64 (r:Int)] 3)
     have r6:=r5.below B5
     have hl:=r6.ps.len
     have hc:=r6.ps.cnt
     unfold Cnt at hc
     have hql:=r5.ps.at_.lt
     refine (rf_node r6.ps.at_ (g5.below B5) HF.out.2 15 ta tt _ [(a:Int),(r:Int)] ⟨OwnI.two w5 a r 3,fun k (hk:w5.heap.size=k)=>⟨by omega,fun e=>by have:=r5.ps.at_.own.blk_lt k e; omega,by simp; omega⟩⟩ (by omega)).mono ?_
     intro x w6 hk
     have hk2:=hk
     obtain ⟨e6,Nv6,_,S6,_⟩:=hk2
     refine ⟨by rw [e6,← hl],S6.t.cell ((B5.cell (p:=⟨w2.heap.size,3,none⟩) (World.block_lt_of_cell? w5 _ k5)).trans k5) (fun e=>e.elim H3.out.2.2 hn5),?_⟩
     exact r6.kept (n:=⟨15,tt,⟨#[]⟩,0,.slice (some ⟨w5.heap.size,0,none⟩) 2 2,[(a:Int),(r:Int)],ta⟩) (fun k (hk:w5.heap.size=k)=>by have:=r5.size; omega) hk HF.out.1
    go_wp2_with fail
    go_region_held3 (fun w'=>w'.cell? ⟨w2.heap.size,3,none⟩=some (.int .i64 ta))
     (go_keep)
     (first
      | (go_at_call 27; refine (hnd _ _ _ r5 g5 n5 k5).mono ?_; rintro x w6 ⟨rfl,s6,h6⟩; have H6:=Hid.mk7 h6; clear h6)
      | (go_at_call 180; refine (hE _ (Below.refl _ _).drew).mono ?_; intro x w5 hx; obtain ⟨rfl,k5,Nv5,M5,r5,g5,n5⟩:=hfr _ _ hx; clear hx))
    all_goals
     go_wp2
     go_ret
     exact H6.out
theorem rf_compared (hC:∀ w q Tv Nv N,PS w q Tv T Nv N s→Gd w q→Calls Tryz.prog 180 #[.pointer (some ⟨q,0,none⟩)] w (Rf T w q Tv Nv N (m s)))
  (hR:RunsF T 180 [] (rec (.expr 5)) (s.i+1)) (hfR:Fwd T (rec (.expr 5))) (hm:∀ a t,m s=.ok (a,t)→s.i < t.i) (hTk:∀ i,TkOk (tokAt T i))
  (hfin:∀ a u,PM.bind m (exprL T rec 4 (T.length+1) 4) s=.ok (a,u)→S2 T u u∧Cnt T u)
  (h:PS w q Tv T Nv N s) (hg:Gd w q) :
  Calls Tryz.prog 172 #[.pointer (some ⟨q,0,none⟩)] w (Rf T w q Tv Nv N (PM.bind m (exprL T rec 4 (T.length+1) 4) s)):=by
 obtain ⟨res,hres⟩:∃ res,PM.bind m (exprL T rec 4 (T.length+1) 4) s=res:=⟨_,rfl⟩
 rw [hres]
 rw [hres] at hfin
 have HQ:=Hid.mk7 hres
 have c1:=hC w q Tv Nv N h hg
 have r0:=Rg.refl h
 have HP:=Hid.mk7 (And.intro hR (And.intro hfR (And.intro hTk (And.intro hfin (And.intro r0 hm)))))
 clear hres hR hfR hTk hC h hg hfin r0 hm
 cases hw:m s with
 | error e=>
  have hre:res=.error e:=by rw [← HQ.out]; simp [PM.bind,hw]
  subst hre
  rw [hw] at c1
  clear hw
  go_enter Tryz.func172,Tryz.ntmps172
  go_wp2_with fail
  refine c1.mono ?_
  rintro x w1 ⟨⟨z,rfl⟩,b1,t1⟩
  have c2:=bd_token b1 0
  simp only [zeroTk,Tk.val] at c2
  have H1:=Hid.mk7 (And.intro b1 t1)
  clear c1 b1 t1
  go_wp2_with fail
  refine c2.mono ?_
  rintro x w2 ⟨rfl,hb2⟩
  have H2:=Hid.mk7 hb2
  clear c2 hb2
  go_wp2_with fail
  refine (bd_operator_new H1.out.1 H2.out ([⟨#[61,61]⟩,⟨#[47,61]⟩,⟨#[61,60]⟩,⟨#[60]⟩,⟨#[62,61]⟩,⟨#[62]⟩,⟨#[61,58,61]⟩,⟨#[61,47,61]⟩]:List ByteArray) rfl rfl rfl (by decide)).mono ?_
  rintro x w3 ⟨rfl,hb3⟩
  have H3:=Hid.mk7 hb3
  clear hb3
  go_wp2
  go_ret
  exact ⟨⟨z,rfl⟩,H1.out.1.below H3.out,H1.out.2.trans (Turned.ofBelow (S:=fun _=>False) H3.out) (fun _ e=>e.elim)⟩
 | ok at_=>
  obtain ⟨a,t⟩:=at_
  have hrs:res=if lev (tokAt T t.i)=4 then exprK rec (tokAt T t.i) a PM.ret t else .ok (a,t):=by rw [← HQ.out,← exprL_once 4 (by omega) (by omega)]; simp [PM.bind,hw]
  have hmi:=HP.out.2.2.2.2.2 a t hw
  rw [hw] at c1
  have hop:=opIs_lev (HP.out.2.2.1 t.i) (k:=4) (by simp [levs])
  have hop2:opIs ([⟨#[61,61]⟩,⟨#[47,61]⟩,⟨#[61,60]⟩,⟨#[60]⟩,⟨#[62,61]⟩,⟨#[62]⟩,⟨#[61,58,61]⟩,⟨#[61,47,61]⟩]:List ByteArray) (tokAt T t.i)=decide (lev (tokAt T t.i)=4):=hop
  have HO:=Hid.mk7 (And.intro hrs (And.intro hmi hop2))
  clear hw hrs hmi hop hop2
  go_enter Tryz.func172,Tryz.ntmps172
  go_wp2_with fail
  refine c1.mono ?_
  intro x w1 hx
  obtain ⟨rfl,Nv1,M1,r1,g1,_,_⟩:=HP.out.2.2.2.2.1.rf (by simpa using hx)
  have c2:=rf_token11 r1.ps.at_ g1 0 (by omega)
  simp only [Nat.add_zero] at c2
  obtain ⟨tk,htk⟩:∃ tk,tokAt T t.i=tk:=⟨_,rfl⟩
  rw [htk] at c2
  have H1:=Hid.mk7 (And.intro r1 (And.intro g1 htk))
  clear c1 hx r1 g1 htk
  obtain ⟨tk,tt,tn,ta⟩:=tk
  simp only [Tk.val] at c2
  go_wp2_with fail
  refine c2.mono ?_
  rintro x w2 ⟨rfl,hb2⟩
  have B2:=(hb2.up1 (.cells #[.int .i64 tk,.string tt,.int .i64 tn,.int .i64 ta] 40)).up1 (.cells (List.map Value.string ([⟨#[61,61]⟩,⟨#[47,61]⟩,⟨#[61,60]⟩,⟨#[60]⟩,⟨#[62,61]⟩,⟨#[62]⟩,⟨#[61,58,61]⟩,⟨#[61,47,61]⟩]:List ByteArray)).toArray 9)
  have r2:=H1.out.1.below B2
  have g2:=H1.out.2.1.below B2
  have p2:=H1.out.1.ps.at_.below hb2
  have hql:=p2.lt
  have hst:=StrsAt.new (w2.alloc (.cells #[.int .i64 tk,.string tt,.int .i64 tn,.int .i64 ta] 40)) ([⟨#[61,61]⟩,⟨#[47,61]⟩,⟨#[61,60]⟩,⟨#[60]⟩,⟨#[62,61]⟩,⟨#[62]⟩,⟨#[61,58,61]⟩,⟨#[61,47,61]⟩]:List ByteArray) 9
  have c3:=rf_operator (cap:=([⟨#[61,61]⟩,⟨#[47,61]⟩,⟨#[61,60]⟩,⟨#[60]⟩,⟨#[62,61]⟩,⟨#[62]⟩,⟨#[61,58,61]⟩,⟨#[61,47,61]⟩]:List ByteArray).length) r2.ps.at_ g2 hst (by simp; omega) (by decide)
  rw [HO.out.2.2] at c3
  have hk3:((w2.alloc (.cells #[.int .i64 tk,.string tt,.int .i64 tn,.int .i64 ta] 40)).alloc (.cells (List.map Value.string ([⟨#[61,61]⟩,⟨#[47,61]⟩,⟨#[61,60]⟩,⟨#[60]⟩,⟨#[62,61]⟩,⟨#[62]⟩,⟨#[61,58,61]⟩,⟨#[61,47,61]⟩]:List ByteArray)).toArray 9)).cell? ⟨w2.heap.size,3,none⟩=some (.int .i64 ta):=by
   rw [World.cell?_alloc_lt _ _ ⟨w2.heap.size,3,none⟩ (by simp)]
   simp
  have H2:=Hid.mk7 (And.intro r2 (And.intro g2 (And.intro p2 hk3)))
  simp only [World.size_alloc] at c3
  clear c2 hb2 B2 r2 g2 p2 hk3 hst hql
  cases hd:decide (lev (tokAt T t.i)=4) with
  | false=>
   have hre:res=.ok (a,t):=by rw [HO.out.1,if_neg (by simpa using hd)]
   subst hre
   rw [hd] at c3
   simp only [Bool.false_eq_true,if_false] at c3
   clear hd
   go_wp2_with fail
   refine c3.mono ?_
   rintro x w3 ⟨rfl,h3⟩
   have H3:=Hid.mk7 (And.intro (H2.out.1.still h3.1 h3.2.2) h3.2.1)
   clear c3 h3
   go_wp2
   go_ret
   exact H3.out.1.ofF H3.out.2
  | true=>
   have hl3:lev (tokAt T t.i)=4:=by simpa using hd
   have hi:t.i < T.length:=by
    apply Classical.byContradiction
    intro h
    rw [lev_end (by omega)] at hl3
    omega
   have htt:tt∈([⟨#[61,61]⟩,⟨#[47,61]⟩,⟨#[61,60]⟩,⟨#[60]⟩,⟨#[62,61]⟩,⟨#[62]⟩,⟨#[61,58,61]⟩,⟨#[61,47,61]⟩]:List ByteArray):=by
    have h9:=HO.out.2.2
    rw [hd,H1.out.2.2] at h9
    simp only [opIs,Bool.and_eq_true,List.any_eq_true,decide_eq_true_eq] at h9
    obtain ⟨_,x,hx,e⟩:=h9
    rw [e]
    exact hx
   have htn:=ops4_ne tt htt
   have hrs:res=exprK rec ⟨tk,tt,tn,ta⟩ a PM.ret t:=by rw [HO.out.1,if_pos hl3,H1.out.2.2]
   have hsd:sidesR (lev (⟨tk,tt,tn,ta⟩:Tk))=5:=by rw [← H1.out.2.2,hl3]; rfl
   rw [hd] at c3
   simp only [if_true,H1.out.2.2] at c3
   have HX:=Hid.mk7 (And.intro hi (And.intro htt (And.intro hrs hsd)))
   clear hd hl3 hi htt hrs hsd
   go_wp2_with fail
   refine c3.mono ?_
   rintro x w3 ⟨rfl,h3⟩
   have r3:=H2.out.1.one HX.out.1 h3.1 h3.2.2
   have hne:w2.heap.size≠q:=by have:=H2.out.2.2.1.lt; omega
   have k3:=h3.2.2.cell H2.out.2.2.2 hne
   have hl:w2.heap.size < w3.heap.size:=World.block_lt_of_cell? w3 _ k3
   have hE:∀ W,Below w3.heap.size w3 W→Calls Tryz.prog 180 #[.pointer (some ⟨q,0,none⟩)] W (Rf T W q Tv Nv1 (N++M1) (rec (.expr 5) ⟨t.i+1,t.N⟩)):=fun W hW=>HP.out.1 ⟨t.i+1,t.N⟩ (by have:=HO.out.2.1; simp; omega) W q Tv _ _ (r3.below hW).ps (h3.2.1.below hW)
   have H3:=Hid.mk7 (And.intro r3 (And.intro h3.2.1 hne))
   clear c3 h3 r3
   cases hr:rec (.expr 5) ⟨t.i+1,t.N⟩ with
   | error e=>
    have hre:res=.error e:=by rw [HX.out.2.2.1]; simp [exprK,PM.bind,pSkip,HX.out.2.2.2,hr]
    subst hre
    simp only [hr] at hE
    clear hr
    have hfr:∀ w5 (x:Ending),Rf T w3.drew q Tv Nv1 (N++M1) (.error e) x w5→(∃ z:Int,x=.returned (.int .i64 z))∧w5.cell? ⟨w2.heap.size,3,none⟩=some (.int .i64 ta)∧Bd w5 q e∧Turned (fun k=>k=q∨blk Nv k) w w5:=fun w5 x hx=>by
     obtain ⟨hz,b5,T5⟩:=hx
     have f:=H2.out.2.2.1.free (by have:=HX.out.1; omega) w2.heap.size (Nat.le_refl _)
     exact ⟨hz,T5.cell k3 (fun e=>e.elim f.g f.n),b5,(H3.out.1.below (Below.refl _ _).drew).bad T5⟩
    go_wp2_with fail
    go_region_held3 (fun w'=>w'.cell? ⟨w2.heap.size,3,none⟩=some (.int .i64 ta))
     (go_keep)
     (first
      | (go_at_call 27; have B5:=Below.alloc0 w5 (.cells #[.int .i64 (a:Int),.int .i64 z] 3); refine (bd_node (b5.below B5) _ _ _ _).mono ?_; rintro x w6 ⟨rfl,hb6⟩; have B6:=B5.trans (hb6.mono B5.size); have s6:=(B6.cell (p:=⟨w2.heap.size,3,none⟩) (World.block_lt_of_cell? w5 _ k5)).trans k5; have H6:=Hid.mk7 (And.intro (b5.below B6) (t5.trans (Turned.ofBelow (S:=fun _=>False) B6) (fun _ e=>e.elim))); clear hb6 B5 B6)
      | (go_at_call 180; refine (hE _ (Below.refl _ _).drew).mono ?_; intro x w5 hx; obtain ⟨⟨z,rfl⟩,k5,b5,t5⟩:=hfr _ _ hx; clear hx))
    all_goals
     go_wp2
     go_ret
     exact ⟨⟨0,rfl⟩,H6.out.1,H6.out.2⟩
   | ok ru=>
    obtain ⟨r,u⟩:=ru
    have hre:res=.ok (u.N.length,⟨u.i,u.N++[⟨15,tt,⟨#[]⟩,0,[(a:Int),(r:Int)],ta⟩]⟩):=by
     rw [HX.out.2.2.1]
     simp only [exprK,PM.bind,pSkip,HX.out.2.2.2,hr]
     simp only [pAdd,PM.ret]
     rw [ops4_sh _ _ _ _ _ HX.out.2.1]
    have hfin:=HP.out.2.2.2.1 _ _ hre
    subst hre
    simp only [hr] at hE
    clear hr
    have hT:0 < T.length:=by have:=HX.out.1; omega
    have HF:=Hid.mk7 (And.intro hfin hT)
    clear hfin hT
    have hfr:∀ w5 (x:Ending),Rf T w3.drew q Tv Nv1 (N++M1) (.ok (r,u)) x w5→x=.returned (.int .i64 (r:Nat))∧w5.cell? ⟨w2.heap.size,3,none⟩=some (.int .i64 ta)∧∃ Nv5 M5,Rg T w w5 q Tv Nv N u Nv5 M5∧Gd w5 q∧¬ blk Nv5 w2.heap.size:=fun w5 x hx=>by
     obtain ⟨e,Nv5,M5,r5,g5,S5,_⟩:=(H3.out.1.below (Below.refl _ _).drew).rf hx
     have f:=H2.out.2.2.1.free HF.out.2 w2.heap.size (Nat.le_refl _)
     exact ⟨e,S5.t.cell k3 (fun e=>e.elim f.g f.n),Nv5,M5,r5,g5,fun e=>(S5.n _ e).elim f.n (fun e=>by simp at e; omega)⟩
    have hnd:∀ w5 Nv5 M5,Rg T w w5 q Tv Nv N u Nv5 M5→Gd w5 q→¬ blk Nv5 w2.heap.size→w5.cell? ⟨w2.heap.size,3,none⟩=some (.int .i64 ta)→Calls Tryz.prog 27 #[.pointer (some ⟨q,0,none⟩),.int .i64 15,.int .i64 ta,.string tt,.slice (some ⟨w5.heap.size,0,none⟩) 2 2] (w5.alloc (.cells #[.int .i64 (a:Int),.int .i64 (r:Int)] 3)) fun x w6=>x=.returned (.int .i64 (u.N.length:Nat))∧w6.cell? ⟨w2.heap.size,3,none⟩=some (.int .i64 ta)∧Rf T w q Tv Nv N (.ok (u.N.length,⟨u.i,u.N++[⟨15,tt,⟨#[]⟩,0,[(a:Int),(r:Int)],ta⟩]⟩)) x w6:=fun w5 Nv5 M5 r5 g5 hn5 k5=>by
     have B5:=Below.alloc0 w5 (.cells #[.int .i64 (a:Int),.int .i64 (r:Int)] 3)
     have r6:=r5.below B5
     have hl:=r6.ps.len
     have hc:=r6.ps.cnt
     unfold Cnt at hc
     have hql:=r5.ps.at_.lt
     refine (rf_node r6.ps.at_ (g5.below B5) HF.out.2 15 ta tt _ [(a:Int),(r:Int)] ⟨OwnI.two w5 a r 3,fun k (hk:w5.heap.size=k)=>⟨by omega,fun e=>by have:=r5.ps.at_.own.blk_lt k e; omega,by simp; omega⟩⟩ (by omega)).mono ?_
     intro x w6 hk
     have hk2:=hk
     obtain ⟨e6,Nv6,_,S6,_⟩:=hk2
     refine ⟨by rw [e6,← hl],S6.t.cell ((B5.cell (p:=⟨w2.heap.size,3,none⟩) (World.block_lt_of_cell? w5 _ k5)).trans k5) (fun e=>e.elim H3.out.2.2 hn5),?_⟩
     exact r6.kept (n:=⟨15,tt,⟨#[]⟩,0,.slice (some ⟨w5.heap.size,0,none⟩) 2 2,[(a:Int),(r:Int)],ta⟩) (fun k (hk:w5.heap.size=k)=>by have:=r5.size; omega) hk HF.out.1
    go_wp2_with fail
    go_region_held3 (fun w'=>w'.cell? ⟨w2.heap.size,3,none⟩=some (.int .i64 ta))
     (go_keep)
     (first
      | (go_at_call 27; refine (hnd _ _ _ r5 g5 n5 k5).mono ?_; rintro x w6 ⟨rfl,s6,h6⟩; have H6:=Hid.mk7 h6; clear h6)
      | (go_at_call 180; refine (hE _ (Below.refl _ _).drew).mono ?_; intro x w5 hx; obtain ⟨rfl,k5,Nv5,M5,r5,g5,n5⟩:=hfr _ _ hx; clear hx))
    all_goals
     go_wp2
     go_ret
     exact H6.out
end Go.Proofs.YtlciaafincgdeaaGreatDoor
