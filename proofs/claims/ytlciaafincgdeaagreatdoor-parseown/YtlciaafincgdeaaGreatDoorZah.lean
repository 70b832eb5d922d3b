/-
  Layer 11 (parse), of lists alone: the document's operators, level by level, are the program's.
  Layer 11 (parse): the document's parser: operators that bind to the right.
  Layer 11 (parse): the document's parser: a whole expression.
-/
import Derived.Test.YtlciaafincgdeaaGreatDoorZag
namespace Go.Proofs.YtlciaafincgdeaaGreatDoor
open Go.RowKit
set_option maxHeartbeats 6400000
set_option maxRecDepth 100000
def allSigns:List ByteArray:=[⟨#[61]⟩,⟨#[33]⟩,⟨#[61,61]⟩,⟨#[47,61]⟩,⟨#[61,60]⟩,⟨#[60]⟩,⟨#[62,61]⟩,⟨#[62]⟩,⟨#[61,58,61]⟩,⟨#[61,47,61]⟩,⟨#[43,43]⟩,⟨#[45,45]⟩,⟨#[43]⟩,⟨#[45]⟩,⟨#[42]⟩,⟨#[40]⟩,⟨#[41]⟩,⟨#[123]⟩,⟨#[125]⟩,⟨#[91]⟩,⟨#[93]⟩,⟨#[124]⟩,⟨#[44]⟩,⟨#[59]⟩,⟨#[58]⟩,⟨#[47]⟩,⟨#[45,62]⟩]
def allWords:List ByteArray:=[⟨#[111,114,101,108,115,101]⟩,⟨#[97,110,100,97,108,115,111]⟩,⟨#[111,114]⟩,⟨#[120,111,114]⟩,⟨#[100,105,118]⟩,⟨#[114,101,109]⟩,⟨#[97,110,100]⟩,⟨#[110,111,116]⟩,⟨#[98,101,103,105,110]⟩,⟨#[99,97,115,101]⟩,⟨#[114,101,99,101,105,118,101]⟩,⟨#[116,114,121]⟩,⟨#[111,102]⟩,⟨#[101,110,100]⟩,⟨#[119,104,101,110]⟩,⟨#[97,102,116,101,114]⟩,⟨#[99,97,116,99,104]⟩]
def TkOk (t:Tk):Prop:=(t.kind=5→t.text ∉ allWords)∧(t.kind=4→t.text ∉ allSigns)
theorem tkIs_sign {t:Tk} (h:TkOk t) {x:ByteArray} (hx:x∈allSigns):tkIs x t=isTk 5 x t:=by
 unfold tkIs isTk
 by_cases h4:t.kind=4
 ·have:¬ t.text=x:=fun e=>h.2 h4 (e ▸ hx)
  simp [this]
 ·simp [h4]
theorem tkIs_word {t:Tk} (h:TkOk t) {x:ByteArray} (hx:x∈allWords):tkIs x t=isTk 4 x t:=by
 unfold tkIs isTk
 by_cases h5:t.kind=5
 ·have:¬ t.text=x:=fun e=>h.1 h5 (e ▸ hx)
  simp [this]
 ·simp [h5]
theorem opIs_nil (t:Tk):opIs [] t=false:=by simp [opIs]
theorem opIs_cons (x:ByteArray) (L:List ByteArray) (t:Tk):opIs (x :: L) t=(tkIs x t || opIs L t):=by
 simp only [opIs,tkIs,List.any_cons]
 cases (decide (t.kind=5) || decide (t.kind=4)) <;> simp
def L7:List ByteArray:=[⟨#[42]⟩,⟨#[100,105,118]⟩,⟨#[114,101,109]⟩,⟨#[97,110,100]⟩]
def L6:List ByteArray:=[⟨#[43]⟩,⟨#[45]⟩,⟨#[111,114]⟩,⟨#[120,111,114]⟩]
def L5:List ByteArray:=[⟨#[43,43]⟩,⟨#[45,45]⟩]
def L4:List ByteArray:=[⟨#[61,61]⟩,⟨#[47,61]⟩,⟨#[61,60]⟩,⟨#[60]⟩,⟨#[62,61]⟩,⟨#[62]⟩,⟨#[61,58,61]⟩,⟨#[61,47,61]⟩]
def levOps:Int→List ByteArray
 | 7=>L7
 | 6=>L6
 | 5=>L5
 | 4=>L4
 | 3=>[⟨#[97,110,100,97,108,115,111]⟩]
 | 2=>[⟨#[111,114,101,108,115,101]⟩]
 | 1=>[⟨#[61]⟩,⟨#[33]⟩]
 | _=>[]
def levs:List Int:=[1,2,3,4,5,6,7]
theorem lev_sign:∀ x∈allSigns,∀ k∈levs,((levOps k).any fun y=>decide (x=y))=decide (levS x=k):=by decide +kernel
theorem lev_word:∀ x∈allWords,∀ k∈levs,((levOps k).any fun y=>decide (x=y))=decide (levW x=k):=by decide +kernel
theorem lev_allB:∀ k∈levs,∀ y∈levOps k,((allSigns++allWords).any fun z=>decide (y=z))=true:=by decide +kernel
theorem lev_all (k:Int) (hk:k∈levs) (y:ByteArray) (hy:y∈levOps k):y∈allSigns++allWords:=by
 obtain ⟨z,hz,e⟩:=List.any_eq_true.1 (lev_allB k hk y hy)
 simp only [decide_eq_true_eq] at e
 exact e ▸ hz
theorem levS_none {x:ByteArray} (h:x ∉ allSigns):levS x=0:=by
 simp only [allSigns,List.mem_cons,List.not_mem_nil,or_false,not_or] at h
 simp [levS,h]
theorem levW_none {x:ByteArray} (h:x ∉ allWords):levW x=0:=by
 simp only [allWords,List.mem_cons,List.not_mem_nil,or_false,not_or] at h
 simp [levW,h]
theorem levs_pos {k:Int} (h:k∈levs):1≤k∧k≤7:=by
 simp only [levs,List.mem_cons,List.not_mem_nil,or_false] at h
 omega
theorem opIs_lev {t:Tk} (h:TkOk t) {k:Int} (hk:k∈levs):opIs (levOps k) t=decide (lev t=k):=by
 have hp:=levs_pos hk
 have none:t.text ∉ allSigns→t.text ∉ allWords→((levOps k).any fun y=>decide (t.text=y))=false:=fun h1 h2=>by
  rw [List.any_eq_false]
  intro y hy e
  simp only [decide_eq_true_eq] at e
  rcases List.mem_append.1 (lev_all k hk y hy) with h3 | h3
  ·exact h1 (e ▸ h3)
  ·exact h2 (e ▸ h3)
 unfold opIs
 by_cases h5:t.kind=5
 ·have el:lev t=levS t.text:=by simp [lev,h5]
  rw [el]
  simp only [h5,decide_true,Bool.true_or,Bool.true_and]
  by_cases hs:t.text∈allSigns
  ·exact lev_sign _ hs k hk
  ·rw [levS_none hs,none hs (h.1 h5)]
   have:¬ (0:Int)=k:=by omega
   simp [this]
 ·by_cases h4:t.kind=4
  ·have el:lev t=levW t.text:=by simp [lev,h4]
   rw [el]
   simp only [h4,decide_true,Bool.or_true,Bool.true_and]
   by_cases hs:t.text∈allWords
   ·exact lev_word _ hs k hk
   ·rw [levW_none hs,none (h.2 h4) hs]
    have:¬ (0:Int)=k:=by omega
    simp [this]
  ·have el:lev t=0:=by simp [lev,h5,h4]
   rw [el]
   have:¬ (0:Int)=k:=by omega
   simp [h5,h4,this]
theorem exprL_once {T:List Tk} {rec:Ph→PM Nat} (k:Int) (h1:1≤k) (h5:k≤5) (l:Nat) (t:Ps):exprL T rec k (T.length+1) k l t=if lev (tokAt T t.i)=k then exprK rec (tokAt T t.i) l PM.ret t else .ok (l,t):=by
 rw [exprL_succ]
 by_cases he:lev (tokAt T t.i)=k
 ·rw [if_neg (by omega),if_pos he]
  have hT:0 < T.length:=by
   apply Classical.byContradiction
   intro h
   rw [lev_end (by omega)] at he
   omega
  have hk:(fun a=>exprL T rec k T.length (sidesB (lev (tokAt T t.i))) a)=PM.ret:=by
   funext a u
   obtain ⟨n,hn⟩:∃ n,T.length=n+1:=⟨T.length - 1,by omega⟩
   rw [hn,exprL_succ,if_pos]
   ·rfl
   ·rw [he]
    have:sidesB k=k - 1:=by unfold sidesB; rw [if_neg (by omega)]
    omega
  rw [hk]
 ·rw [if_pos (by omega),if_neg he]
section
variable {T:List Tk} {w wr w2:World} {q:Nat} {Tv Nv Nv1 Nv2:Value} {N M1 M2:List Nd} {s t:Ps}
theorem Rg.still (h:Rg T w wr q Tv Nv N s Nv1 M1) (p:PAt w2 q Tv T s.i Nv1 (N++M1)) (T2:Turned (fun k=>k=q) wr w2):Rg T w w2 q Tv Nv N s Nv1 M1:=⟨⟨p,h.ps.n,h.ps.ok,h.ps.cnt⟩,h.off,h.st.trans (Stp.ofG T2)⟩
theorem Rg.kept (h:Rg T w wr q Tv Nv N s Nv1 M1) {n:Nd} (hn:∀ k,blk n.kv k→w.heap.size≤k) {x:Ending} (hk:Kept wr q Tv T s.i Nv1 (N++M1) n x w2) (hf:S2 T ⟨s.i,s.N++[n.sh]⟩ ⟨s.i,s.N++[n.sh]⟩∧Cnt T ⟨s.i,s.N++[n.sh]⟩):Rf T w q Tv Nv N (.ok (s.N.length,⟨s.i,s.N++[n.sh]⟩)) x w2:=by
 obtain ⟨rfl,Nv2,p2,S2',g2⟩:=hk
 have hl:=h.ps.len
 refine ⟨by rw [hl],Nv2,M1++[n],fun m hm k hk=>?_,⟨by simpa [List.append_assoc] using p2,by simp [← h.ps.n],hf.1,hf.2⟩,h.st.trans S2',g2⟩
 rcases List.mem_append.1 hm with hm | hm
 ·exact h.off m hm k hk
 ·rw [List.mem_singleton.1 hm] at hk
  exact hn k hk
end
theorem rf_and {T:List Tk} {rec:Ph→PM Nat} {m:PM Nat} {s:Ps} (hC:∀ w q Tv Nv N,PS w q Tv T Nv N s→Gd w q→Calls Tryz.prog 172 #[.pointer (some ⟨q,0,none⟩)] w (Rf T w q Tv Nv N (m s)))
  (hR:RunsF T 158 [] (rec (.expr 3)) (s.i+1)) (hfR:Fwd T (rec (.expr 3))) (hm:∀ a t,m s=.ok (a,t)→s.i < t.i) (hTk:∀ i,TkOk (tokAt T i))
  (hfin:∀ a u,PM.bind m (exprL T rec 3 (T.length+1) 3) s=.ok (a,u)→S2 T u u∧Cnt T u)
  {w:World} {q:Nat} {Tv Nv:Value} {N:List Nd} (h:PS w q Tv T Nv N s) (hg:Gd w q) :
  Calls Tryz.prog 158 #[.pointer (some ⟨q,0,none⟩)] w (Rf T w q Tv Nv N (PM.bind m (exprL T rec 3 (T.length+1) 3) s)):=by
 obtain ⟨res,hres⟩:∃ res,PM.bind m (exprL T rec 3 (T.length+1) 3) s=res:=⟨_,rfl⟩
 rw [hres]
 rw [hres] at hfin
 have HQ:=Hid.mk7 hres
 have c1:=hC w q Tv Nv N h hg
 have r0:=Rg.refl h
 have HP:=Hid.mk7 (And.intro hR (And.intro hfR (And.intro hTk (And.intro hfin (And.intro r0 hm)))))
 clear hres hR hfR hTk hC h hg hfin r0 hm
 cases hw:m s with
 | error e=>
  have hre:res=.error e:=by rw [← HQ.out]; simp [PM.bind,hw]
  subst hre
  rw [hw] at c1
  clear hw
  go_enter Tryz.func158,Tryz.ntmps158
  go_wp2_with fail
  refine c1.mono ?_
  rintro x w1 ⟨⟨z,rfl⟩,b1,t1⟩
  have c2:=bd_token b1 0
  simp only [zeroTk,Tk.val] at c2
  have H1:=Hid.mk7 (And.intro b1 t1)
  clear c1 b1 t1
  go_wp2_with fail
  refine c2.mono ?_
  rintro x w2 ⟨rfl,hb2⟩
  have B2:=hb2.up1 (.cells #[.int .i64 0,.string ⟨#[]⟩,.int .i64 0,.int .i64 0] 40)
  have c3:=bd_take (H1.out.1.below B2) ⟨#[97,110,100,97,108,115,111]⟩
  have H2:=Hid.mk7 B2
  clear c2 hb2 B2
  go_wp2_with fail
  refine c3.mono ?_
  rintro x w3 ⟨rfl,hb3⟩
  have H3:=Hid.mk7 (H2.out.trans (hb3.mono H2.out.size))
  clear c3 hb3
  go_wp2
  go_ret
  exact ⟨⟨z,rfl⟩,H1.out.1.below H3.out,H1.out.2.trans (Turned.ofBelow (S:=fun _=>False) H3.out) (fun _ e=>e.elim)⟩
 | ok at_=>
  obtain ⟨a,t⟩:=at_
  have hrs:res=if lev (tokAt T t.i)=3 then exprK rec (tokAt T t.i) a PM.ret t else .ok (a,t):=by rw [← HQ.out,← exprL_once 3 (by omega) (by omega)]; simp [PM.bind,hw]
  have hmi:=HP.out.2.2.2.2.2 a t hw
  rw [hw] at c1
  have hop:=opIs_lev (HP.out.2.2.1 t.i) (k:=3) (by simp [levs])
  have hop2:tkIs ⟨#[97,110,100,97,108,115,111]⟩ (tokAt T t.i)=decide (lev (tokAt T t.i)=3):=by rw [← hop]; simp [levOps,opIs_cons,opIs_nil]
  have HO:=Hid.mk7 (And.intro hrs (And.intro hmi hop2))
  clear hw hrs hmi hop hop2
  go_enter Tryz.func158,Tryz.ntmps158
  go_wp2_with fail
  refine c1.mono ?_
  intro x w1 hx
  obtain ⟨rfl,Nv1,M1,r1,g1,_,_⟩:=HP.out.2.2.2.2.1.rf (by simpa using hx)
  have c2:=rf_token11 r1.ps.at_ g1 0 (by omega)
  simp only [Nat.add_zero] at c2
  obtain ⟨tk,htk⟩:∃ tk,tokAt T t.i=tk:=⟨_,rfl⟩
  rw [htk] at c2
  have H1:=Hid.mk7 (And.intro r1 (And.intro g1 htk))
  clear c1 hx r1 g1 htk
  obtain ⟨tk,tt,tn,ta⟩:=tk
  simp only [Tk.val] at c2
  go_wp2_with fail
  refine c2.mono ?_
  rintro x w2 ⟨rfl,hb2⟩
  have B2:=hb2.up1 (.cells #[.int .i64 tk,.string tt,.int .i64 tn,.int .i64 ta] 40)
  have r2:=H1.out.1.below B2
  have g2:=H1.out.2.1.below B2
  have c3:=rf_take r2.ps.at_ g2 ⟨#[97,110,100,97,108,115,111]⟩
  rw [HO.out.2.2] at c3
  have p2:=H1.out.1.ps.at_.below hb2
  have hk3:(w2.alloc (.cells #[.int .i64 tk,.string tt,.int .i64 tn,.int .i64 ta] 40)).cell? ⟨w2.heap.size,3,none⟩=some (.int .i64 ta):=by simp
  have H2:=Hid.mk7 (And.intro r2 (And.intro g2 (And.intro p2 hk3)))
  clear c2 hb2 B2 r2 g2 p2 hk3
  cases hd:decide (lev (tokAt T t.i)=3) with
  | false=>
   have hre:res=.ok (a,t):=by rw [HO.out.1,if_neg (by simpa using hd)]
   subst hre
   rw [hd] at c3
   clear hd
   go_wp2_with fail
   refine c3.mono ?_
   rintro x w3 ⟨rfl,h3⟩
   have H3:=Hid.mk7 (And.intro (H2.out.1.still h3.1 h3.2.2) h3.2.1)
   clear c3 h3
   go_wp2
   go_ret
   exact H3.out.1.ofF H3.out.2
  | true=>
   have hl3:lev (tokAt T t.i)=3:=by simpa using hd
   have hi:t.i < T.length:=by
    apply Classical.byContradiction
    intro h
    rw [lev_end (by omega)] at hl3
    omega
   have htt:tt=⟨#[97,110,100,97,108,115,111]⟩:=by
    have h9:=HO.out.2.2
    rw [hd,H1.out.2.2] at h9
    simp only [tkIs,Bool.and_eq_true,decide_eq_true_eq] at h9
    exact h9.2
   have hrs:res=exprK rec ⟨tk,tt,tn,ta⟩ a PM.ret t:=by rw [HO.out.1,if_pos hl3,H1.out.2.2]
   have hsd:sidesR (lev (⟨tk,tt,tn,ta⟩:Tk))=3:=by rw [← H1.out.2.2,hl3]; rfl
   rw [hd] at c3
   have HX:=Hid.mk7 (And.intro hi (And.intro htt (And.intro hrs hsd)))
   clear hd hl3 hi htt hrs hsd
   go_wp2_with fail
   refine c3.mono ?_
   rintro x w3 ⟨rfl,h3⟩
   have r3:=H2.out.1.one HX.out.1 h3.1 h3.2.2
   have hne:w2.heap.size≠q:=by have:=H2.out.2.2.1.lt; omega
   have k3:=h3.2.2.cell H2.out.2.2.2 hne
   have hl:w2.heap.size < w3.heap.size:=World.block_lt_of_cell? w3 _ k3
   have hE:∀ W,Below w3.heap.size w3 W→Calls Tryz.prog 158 #[.pointer (some ⟨q,0,none⟩)] W (Rf T W q Tv Nv1 (N++M1) (rec (.expr 3) ⟨t.i+1,t.N⟩)):=fun W hW=>HP.out.1 ⟨t.i+1,t.N⟩ (by have:=HO.out.2.1; simp; omega) W q Tv _ _ (r3.below hW).ps (h3.2.1.below hW)
   have H3:=Hid.mk7 (And.intro r3 (And.intro h3.2.1 hne))
   clear c3 h3 r3
   cases hr:rec (.expr 3) ⟨t.i+1,t.N⟩ with
   | error e=>
    have hre:res=.error e:=by rw [HX.out.2.2.1]; simp [exprK,PM.bind,pSkip,HX.out.2.2.2,hr]
    subst hre
    simp only [hr] at hE
    clear hr
    have hfr:∀ w5 (x:Ending),Rf T w3.drew q Tv Nv1 (N++M1) (.error e) x w5→(∃ z:Int,x=.returned (.int .i64 z))∧w5.cell? ⟨w2.heap.size,3,none⟩=some (.int .i64 ta)∧Bd w5 q e∧Turned (fun k=>k=q∨blk Nv k) w w5:=fun w5 x hx=>by
     obtain ⟨hz,b5,T5⟩:=hx
     have f:=H2.out.2.2.1.free (by have:=HX.out.1; omega) w2.heap.size (Nat.le_refl _)
     exact ⟨hz,T5.cell k3 (fun e=>e.elim f.g f.n),b5,(H3.out.1.below (Below.refl _ _).drew).bad T5⟩
    go_wp2_with fail
    go_region_held3 (fun w'=>w'.cell? ⟨w2.heap.size,3,none⟩=some (.int .i64 ta))
     (go_keep)
     (first
      | (go_at_call 27; have B5:=Below.alloc0 w5 (.cells #[.int .i64 (a:Int),.int .i64 z] 3); refine (bd_node (b5.below B5) _ _ _ _).mono ?_; rintro x w6 ⟨rfl,hb6⟩; have B6:=B5.trans (hb6.mono B5.size); have s6:=(B6.cell (p:=⟨w2.heap.size,3,none⟩) (World.block_lt_of_cell? w5 _ k5)).trans k5; have H6:=Hid.mk7 (And.intro (b5.below B6) (t5.trans (Turned.ofBelow (S:=fun _=>False) B6) (fun _ e=>e.elim))); clear hb6 B5 B6)
      | (go_at_call 158; refine (hE _ (Below.refl _ _).drew).mono ?_; intro x w5 hx; obtain ⟨⟨z,rfl⟩,k5,b5,t5⟩:=hfr _ _ hx; clear hx))
    all_goals
     go_wp2
     go_ret
     exact ⟨⟨0,rfl⟩,H6.out.1,H6.out.2⟩
   | ok ru=>
    obtain ⟨r,u⟩:=ru
    have hre:res=.ok (u.N.length,⟨u.i,u.N++[⟨16,⟨#[]⟩,⟨#[]⟩,0,[(a:Int),(r:Int)],ta⟩]⟩):=by
     rw [HX.out.2.2.1]
     simp only [exprK,PM.bind,pSkip,HX.out.2.2.2,hr]
     simp [pAdd,PM.ret,opSh,HX.out.2.1]
    have hfin:=HP.out.2.2.2.1 _ _ hre
    subst hre
    simp only [hr] at hE
    clear hr
    have hT:0 < T.length:=by have:=HX.out.1; omega
    have HF:=Hid.mk7 (And.intro hfin hT)
    clear hfin hT
    have hfr:∀ w5 (x:Ending),Rf T w3.drew q Tv Nv1 (N++M1) (.ok (r,u)) x w5→x=.returned (.int .i64 (r:Nat))∧w5.cell? ⟨w2.heap.size,3,none⟩=some (.int .i64 ta)∧∃ Nv5 M5,Rg T w w5 q Tv Nv N u Nv5 M5∧Gd w5 q∧¬ blk Nv5 w2.heap.size:=fun w5 x hx=>by
     obtain ⟨e,Nv5,M5,r5,g5,S5,_⟩:=(H3.out.1.below (Below.refl _ _).drew).rf hx
     have f:=H2.out.2.2.1.free HF.out.2 w2.heap.size (Nat.le_refl _)
     exact ⟨e,S5.t.cell k3 (fun e=>e.elim f.g f.n),Nv5,M5,r5,g5,fun e=>(S5.n _ e).elim f.n (fun e=>by simp at e; omega)⟩
    have hnd:∀ w5 Nv5 M5,Rg T w w5 q Tv Nv N u Nv5 M5→Gd w5 q→¬ blk Nv5 w2.heap.size→w5.cell? ⟨w2.heap.size,3,none⟩=some (.int .i64 ta)→Calls Tryz.prog 27 #[.pointer (some ⟨q,0,none⟩),.int .i64 16,.int .i64 ta,.string ⟨#[]⟩,.slice (some ⟨w5.heap.size,0,none⟩) 2 2] (w5.alloc (.cells #[.int .i64 (a:Int),.int .i64 (r:Int)] 3)) fun x w6=>x=.returned (.int .i64 (u.N.length:Nat))∧w6.cell? ⟨w2.heap.size,3,none⟩=some (.int .i64 ta)∧Rf T w q Tv Nv N (.ok (u.N.length,⟨u.i,u.N++[⟨16,⟨#[]⟩,⟨#[]⟩,0,[(a:Int),(r:Int)],ta⟩]⟩)) x w6:=fun w5 Nv5 M5 r5 g5 hn5 k5=>by
     have B5:=Below.alloc0 w5 (.cells #[.int .i64 (a:Int),.int .i64 (r:Int)] 3)
     have r6:=r5.below B5
     have hl:=r6.ps.len
     have hc:=r6.ps.cnt
     unfold Cnt at hc
     have hql:=r5.ps.at_.lt
     refine (rf_node r6.ps.at_ (g5.below B5) HF.out.2 16 ta ⟨#[]⟩ _ [(a:Int),(r:Int)] ⟨OwnI.two w5 a r 3,fun k (hk:w5.heap.size=k)=>⟨by omega,fun e=>by have:=r5.ps.at_.own.blk_lt k e; omega,by simp; omega⟩⟩ (by omega)).mono ?_
     intro x w6 hk
     have hk2:=hk
     obtain ⟨e6,Nv6,_,S6,_⟩:=hk2
     refine ⟨by rw [e6,← hl],S6.t.cell ((B5.cell (p:=⟨w2.heap.size,3,none⟩) (World.block_lt_of_cell? w5 _ k5)).trans k5) (fun e=>e.elim H3.out.2.2 hn5),?_⟩
     exact r6.kept (n:=⟨16,⟨#[]⟩,⟨#[]⟩,0,.slice (some ⟨w5.heap.size,0,none⟩) 2 2,[(a:Int),(r:Int)],ta⟩) (fun k (hk:w5.heap.size=k)=>by have:=r5.size; omega) hk HF.out.1
    go_wp2_with fail
    go_region_held3 (fun w'=>w'.cell? ⟨w2.heap.size,3,none⟩=some (.int .i64 ta))
     (go_keep)
     (first
      | (go_at_call 27; refine (hnd _ _ _ r5 g5 n5 k5).mono ?_; rintro x w6 ⟨rfl,s6,h6⟩; have H6:=Hid.mk7 h6; clear h6)
      | (go_at_call 158; refine (hE _ (Below.refl _ _).drew).mono ?_; intro x w5 hx; obtain ⟨rfl,k5,Nv5,M5,r5,g5,n5⟩:=hfr _ _ hx; clear hx))
    all_goals
     go_wp2
     go_ret
     exact H6.out
theorem rf_or {T:List Tk} {rec:Ph→PM Nat} {m:PM Nat} {s:Ps} (hC:∀ w q Tv Nv N,PS w q Tv T Nv N s→Gd w q→Calls Tryz.prog 158 #[.pointer (some ⟨q,0,none⟩)] w (Rf T w q Tv Nv N (m s)))
  (hR:RunsF T 149 [] (rec (.expr 2)) (s.i+1)) (hfR:Fwd T (rec (.expr 2))) (hm:∀ a t,m s=.ok (a,t)→s.i < t.i) (hTk:∀ i,TkOk (tokAt T i))
  (hfin:∀ a u,PM.bind m (exprL T rec 2 (T.length+1) 2) s=.ok (a,u)→S2 T u u∧Cnt T u)
  {w:World} {q:Nat} {Tv Nv:Value} {N:List Nd} (h:PS w q Tv T Nv N s) (hg:Gd w q) :
  Calls Tryz.prog 149 #[.pointer (some ⟨q,0,none⟩)] w (Rf T w q Tv Nv N (PM.bind m (exprL T rec 2 (T.length+1) 2) s)):=by
 obtain ⟨res,hres⟩:∃ res,PM.bind m (exprL T rec 2 (T.length+1) 2) s=res:=⟨_,rfl⟩
 rw [hres]
 rw [hres] at hfin
 have HQ:=Hid.mk7 hres
 have c1:=hC w q Tv Nv N h hg
 have r0:=Rg.refl h
 have HP:=Hid.mk7 (And.intro hR (And.intro hfR (And.intro hTk (And.intro hfin (And.intro r0 hm)))))
 clear hres hR hfR hTk hC h hg hfin r0 hm
 cases hw:m s with
 | error e=>
  have hre:res=.error e:=by rw [← HQ.out]; simp [PM.bind,hw]
  subst hre
  rw [hw] at c1
  clear hw
  go_enter Tryz.func149,Tryz.ntmps149
  go_wp2_with fail
  refine c1.mono ?_
  rintro x w1 ⟨⟨z,rfl⟩,b1,t1⟩
  have c2:=bd_token b1 0
  simp only [zeroTk,Tk.val] at c2
  have H1:=Hid.mk7 (And.intro b1 t1)
  clear c1 b1 t1
  go_wp2_with fail
  refine c2.mono ?_
  rintro x w2 ⟨rfl,hb2⟩
  have B2:=hb2.up1 (.cells #[.int .i64 0,.string ⟨#[]⟩,.int .i64 0,.int .i64 0] 40)
  have c3:=bd_take (H1.out.1.below B2) ⟨#[111,114,101,108,115,101]⟩
  have H2:=Hid.mk7 B2
  clear c2 hb2 B2
  go_wp2_with fail
  refine c3.mono ?_
  rintro x w3 ⟨rfl,hb3⟩
  have H3:=Hid.mk7 (H2.out.trans (hb3.mono H2.out.size))
  clear c3 hb3
  go_wp2
  go_ret
  exact ⟨⟨z,rfl⟩,H1.out.1.below H3.out,H1.out.2.trans (Turned.ofBelow (S:=fun _=>False) H3.out) (fun _ e=>e.elim)⟩
 | ok at_=>
  obtain ⟨a,t⟩:=at_
  have hrs:res=if lev (tokAt T t.i)=2 then exprK rec (tokAt T t.i) a PM.ret t else .ok (a,t):=by rw [← HQ.out,← exprL_once 2 (by omega) (by omega)]; simp [PM.bind,hw]
  have hmi:=HP.out.2.2.2.2.2 a t hw
  rw [hw] at c1
  have hop:=opIs_lev (HP.out.2.2.1 t.i) (k:=2) (by simp [levs])
  have hop2:tkIs ⟨#[111,114,101,108,115,101]⟩ (tokAt T t.i)=decide (lev (tokAt T t.i)=2):=by rw [← hop]; simp [levOps,opIs_cons,opIs_nil]
  have HO:=Hid.mk7 (And.intro hrs (And.intro hmi hop2))
  clear hw hrs hmi hop hop2
  go_enter Tryz.func149,Tryz.ntmps149
  go_wp2_with fail
  refine c1.mono ?_
  intro x w1 hx
  obtain ⟨rfl,Nv1,M1,r1,g1,_,_⟩:=HP.out.2.2.2.2.1.rf (by simpa using hx)
  have c2:=rf_token11 r1.ps.at_ g1 0 (by omega)
  simp only [Nat.add_zero] at c2
  obtain ⟨tk,htk⟩:∃ tk,tokAt T t.i=tk:=⟨_,rfl⟩
  rw [htk] at c2
  have H1:=Hid.mk7 (And.intro r1 (And.intro g1 htk))
  clear c1 hx r1 g1 htk
  obtain ⟨tk,tt,tn,ta⟩:=tk
  simp only [Tk.val] at c2
  go_wp2_with fail
  refine c2.mono ?_
  rintro x w2 ⟨rfl,hb2⟩
  have B2:=hb2.up1 (.cells #[.int .i64 tk,.string tt,.int .i64 tn,.int .i64 ta] 40)
  have r2:=H1.out.1.below B2
  have g2:=H1.out.2.1.below B2
  have c3:=rf_take r2.ps.at_ g2 ⟨#[111,114,101,108,115,101]⟩
  rw [HO.out.2.2] at c3
  have p2:=H1.out.1.ps.at_.below hb2
  have hk3:(w2.alloc (.cells #[.int .i64 tk,.string tt,.int .i64 tn,.int .i64 ta] 40)).cell? ⟨w2.heap.size,3,none⟩=some (.int .i64 ta):=by simp
  have H2:=Hid.mk7 (And.intro r2 (And.intro g2 (And.intro p2 hk3)))
  clear c2 hb2 B2 r2 g2 p2 hk3
  cases hd:decide (lev (tokAt T t.i)=2) with
  | false=>
   have hre:res=.ok (a,t):=by rw [HO.out.1,if_neg (by simpa using hd)]
   subst hre
   rw [hd] at c3
   clear hd
   go_wp2_with fail
   refine c3.mono ?_
   rintro x w3 ⟨rfl,h3⟩
   have H3:=Hid.mk7 (And.intro (H2.out.1.still h3.1 h3.2.2) h3.2.1)
   clear c3 h3
   go_wp2
   go_ret
   exact H3.out.1.ofF H3.out.2
  | true=>
   have hl3:lev (tokAt T t.i)=2:=by simpa using hd
   have hi:t.i < T.length:=by
    apply Classical.byContradiction
    intro h
    rw [lev_end (by omega)] at hl3
    omega
   have htt:tt=⟨#[111,114,101,108,115,101]⟩:=by
    have h9:=HO.out.2.2
    rw [hd,H1.out.2.2] at h9
    simp only [tkIs,Bool.and_eq_true,decide_eq_true_eq] at h9
    exact h9.2
   have hrs:res=exprK rec ⟨tk,tt,tn,ta⟩ a PM.ret t:=by rw [HO.out.1,if_pos hl3,H1.out.2.2]
   have hsd:sidesR (lev (⟨tk,tt,tn,ta⟩:Tk))=2:=by rw [← H1.out.2.2,hl3]; rfl
   rw [hd] at c3
   have HX:=Hid.mk7 (And.intro hi (And.intro htt (And.intro hrs hsd)))
   clear hd hl3 hi htt hrs hsd
   go_wp2_with fail
   refine c3.mono ?_
   rintro x w3 ⟨rfl,h3⟩
   have r3:=H2.out.1.one HX.out.1 h3.1 h3.2.2
   have hne:w2.heap.size≠q:=by have:=H2.out.2.2.1.lt; omega
   have k3:=h3.2.2.cell H2.out.2.2.2 hne
   have hl:w2.heap.size < w3.heap.size:=World.block_lt_of_cell? w3 _ k3
   have hE:∀ W,Below w3.heap.size w3 W→Calls Tryz.prog 149 #[.pointer (some ⟨q,0,none⟩)] W (Rf T W q Tv Nv1 (N++M1) (rec (.expr 2) ⟨t.i+1,t.N⟩)):=fun W hW=>HP.out.1 ⟨t.i+1,t.N⟩ (by have:=HO.out.2.1; simp; omega) W q Tv _ _ (r3.below hW).ps (h3.2.1.below hW)
   have H3:=Hid.mk7 (And.intro r3 (And.intro h3.2.1 hne))
   clear c3 h3 r3
   cases hr:rec (.expr 2) ⟨t.i+1,t.N⟩ with
   | error e=>
    have hre:res=.error e:=by rw [HX.out.2.2.1]; simp [exprK,PM.bind,pSkip,HX.out.2.2.2,hr]
    subst hre
    simp only [hr] at hE
    clear hr
    have hfr:∀ w5 (x:Ending),Rf T w3.drew q Tv Nv1 (N++M1) (.error e) x w5→(∃ z:Int,x=.returned (.int .i64 z))∧w5.cell? ⟨w2.heap.size,3,none⟩=some (.int .i64 ta)∧Bd w5 q e∧Turned (fun k=>k=q∨blk Nv k) w w5:=fun w5 x hx=>by
     obtain ⟨hz,b5,T5⟩:=hx
     have f:=H2.out.2.2.1.free (by have:=HX.out.1; omega) w2.heap.size (Nat.le_refl _)
     exact ⟨hz,T5.cell k3 (fun e=>e.elim f.g f.n),b5,(H3.out.1.below (Below.refl _ _).drew).bad T5⟩
    go_wp2_with fail
    go_region_held3 (fun w'=>w'.cell? ⟨w2.heap.size,3,none⟩=some (.int .i64 ta))
     (go_keep)
     (first
      | (go_at_call 27; have B5:=Below.alloc0 w5 (.cells #[.int .i64 (a:Int),.int .i64 z] 3); refine (bd_node (b5.below B5) _ _ _ _).mono ?_; rintro x w6 ⟨rfl,hb6⟩; have B6:=B5.trans (hb6.mono B5.size); have s6:=(B6.cell (p:=⟨w2.heap.size,3,none⟩) (World.block_lt_of_cell? w5 _ k5)).trans k5; have H6:=Hid.mk7 (And.intro (b5.below B6) (t5.trans (Turned.ofBelow (S:=fun _=>False) B6) (fun _ e=>e.elim))); clear hb6 B5 B6)
      | (go_at_call 149; refine (hE _ (Below.refl _ _).drew).mono ?_; intro x w5 hx; obtain ⟨⟨z,rfl⟩,k5,b5,t5⟩:=hfr _ _ hx; clear hx))
    all_goals
     go_wp2
     go_ret
     exact ⟨⟨0,rfl⟩,H6.out.1,H6.out.2⟩
   | ok ru=>
    obtain ⟨r,u⟩:=ru
    have hre:res=.ok (u.N.length,⟨u.i,u.N++[⟨17,⟨#[]⟩,⟨#[]⟩,0,[(a:Int),(r:Int)],ta⟩]⟩):=by
     rw [HX.out.2.2.1]
     simp only [exprK,PM.bind,pSkip,HX.out.2.2.2,hr]
     simp [pAdd,PM.ret,opSh,HX.out.2.1]
    have hfin:=HP.out.2.2.2.1 _ _ hre
    subst hre
    simp only [hr] at hE
    clear hr
    have hT:0 < T.length:=by have:=HX.out.1; omega
    have HF:=Hid.mk7 (And.intro hfin hT)
    clear hfin hT
    have hfr:∀ w5 (x:Ending),Rf T w3.drew q Tv Nv1 (N++M1) (.ok (r,u)) x w5→x=.returned (.int .i64 (r:Nat))∧w5.cell? ⟨w2.heap.size,3,none⟩=some (.int .i64 ta)∧∃ Nv5 M5,Rg T w w5 q Tv Nv N u Nv5 M5∧Gd w5 q∧¬ blk Nv5 w2.heap.size:=fun w5 x hx=>by
     obtain ⟨e,Nv5,M5,r5,g5,S5,_⟩:=(H3.out.1.below (Below.refl _ _).drew).rf hx
     have f:=H2.out.2.2.1.free HF.out.2 w2.heap.size (Nat.le_refl _)
     exact ⟨e,S5.t.cell k3 (fun e=>e.elim f.g f.n),Nv5,M5,r5,g5,fun e=>(S5.n _ e).elim f.n (fun e=>by simp at e; omega)⟩
    have hnd:∀ w5 Nv5 M5,Rg T w w5 q Tv Nv N u Nv5 M5→Gd w5 q→¬ blk Nv5 w2.heap.size→w5.cell? ⟨w2.heap.size,3,none⟩=some (.int .i64 ta)→Calls Tryz.prog 27 #[.pointer (some ⟨q,0,none⟩),.int .i64 17,.int .i64 ta,.string ⟨#[]⟩,.slice (some ⟨w5.heap.size,0,none⟩) 2 2] (w5.alloc (.cells #[.int .i64 (a:Int),.int .i64 (r:Int)] 3)) fun x w6=>x=.returned (.int .i64 (u.N.length:Nat))∧w6.cell? ⟨w2.heap.size,3,none⟩=some (.int .i64 ta)∧Rf T w q Tv Nv N (.ok (u.N.length,⟨u.i,u.N++[⟨17,⟨#[]⟩,⟨#[]⟩,0,[(a:Int),(r:Int)],ta⟩]⟩)) x w6:=fun w5 Nv5 M5 r5 g5 hn5 k5=>by
     have B5:=Below.alloc0 w5 (.cells #[.int .i64 (a:Int),.int .i64 (r:Int)] 3)
     have r6:=r5.below B5
     have hl:=r6.ps.len
     have hc:=r6.ps.cnt
     unfold Cnt at hc
     have hql:=r5.ps.at_.lt
     refine (rf_node r6.ps.at_ (g5.below B5) HF.out.2 17 ta ⟨#[]⟩ _ [(a:Int),(r:Int)] ⟨OwnI.two w5 a r 3,fun k (hk:w5.heap.size=k)=>⟨by omega,fun e=>by have:=r5.ps.at_.own.blk_lt k e; omega,by simp; omega⟩⟩ (by omega)).mono ?_
     intro x w6 hk
     have hk2:=hk
     obtain ⟨e6,Nv6,_,S6,_⟩:=hk2
     refine ⟨by rw [e6,← hl],S6.t.cell ((B5.cell (p:=⟨w2.heap.size,3,none⟩) (World.block_lt_of_cell? w5 _ k5)).trans k5) (fun e=>e.elim H3.out.2.2 hn5),?_⟩
     exact r6.kept (n:=⟨17,⟨#[]⟩,⟨#[]⟩,0,.slice (some ⟨w5.heap.size,0,none⟩) 2 2,[(a:Int),(r:Int)],ta⟩) (fun k (hk:w5.heap.size=k)=>by have:=r5.size; omega) hk HF.out.1
    go_wp2_with fail
    go_region_held3 (fun w'=>w'.cell? ⟨w2.heap.size,3,none⟩=some (.int .i64 ta))
     (go_keep)
     (first
      | (go_at_call 27; refine (hnd _ _ _ r5 g5 n5 k5).mono ?_; rintro x w6 ⟨rfl,s6,h6⟩; have H6:=Hid.mk7 h6; clear h6)
      | (go_at_call 149; refine (hE _ (Below.refl _ _).drew).mono ?_; intro x w5 hx; obtain ⟨rfl,k5,Nv5,M5,r5,g5,n5⟩:=hfr _ _ hx; clear hx))
    all_goals
     go_wp2
     go_ret
     exact H6.out
theorem rf_exp {T:List Tk} {rec:Ph→PM Nat} {m:PM Nat} {s:Ps} (hC:∀ w q Tv Nv N,PS w q Tv T Nv N s→Gd w q→Calls Tryz.prog 149 #[.pointer (some ⟨q,0,none⟩)] w (Rf T w q Tv Nv N (m s)))
  (hR:RunsF T 135 [] (rec (.expr 1)) (s.i+1)) (hfR:Fwd T (rec (.expr 1))) (hm:∀ a t,m s=.ok (a,t)→s.i < t.i) (hTk:∀ i,TkOk (tokAt T i))
  (hfin:∀ a u,PM.bind m (exprL T rec 1 (T.length+1) 1) s=.ok (a,u)→S2 T u u∧Cnt T u)
  {w:World} {q:Nat} {Tv Nv:Value} {N:List Nd} (h:PS w q Tv T Nv N s) (hg:Gd w q) :
  Calls Tryz.prog 135 #[.pointer (some ⟨q,0,none⟩)] w (Rf T w q Tv Nv N (PM.bind m (exprL T rec 1 (T.length+1) 1) s)):=by
 obtain ⟨res,hres⟩:∃ res,PM.bind m (exprL T rec 1 (T.length+1) 1) s=res:=⟨_,rfl⟩
 rw [hres]
 rw [hres] at hfin
 have HQ:=Hid.mk7 hres
 have c1:=hC w q Tv Nv N h hg
 have r0:=Rg.refl h
 have HP:=Hid.mk7 (And.intro hR (And.intro hfR (And.intro hTk (And.intro hfin (And.intro r0 hm)))))
 clear hres hR hfR hTk hC h hg hfin r0 hm
 cases hw:m s with
 | error e=>
  have hre:res=.error e:=by rw [← HQ.out]; simp [PM.bind,hw]
  subst hre
  rw [hw] at c1
  clear hw
  go_enter Tryz.func135,Tryz.ntmps135
  go_wp2_with fail
  refine c1.mono ?_
  rintro x w1 ⟨⟨z,rfl⟩,b1,t1⟩
  have c2:=bd_token b1 0
  simp only [zeroTk,Tk.val] at c2
  have H1:=Hid.mk7 (And.intro b1 t1)
  clear c1 b1 t1
  go_wp2_with fail
  refine c2.mono ?_
  rintro x w2 ⟨rfl,hb2⟩
  have B2:=hb2.up1 (.cells #[.int .i64 0,.string ⟨#[]⟩,.int .i64 0,.int .i64 0] 40)
  have c3:=bd_take (H1.out.1.below B2) ⟨#[61]⟩
  have H2:=Hid.mk7 B2
  clear c2 hb2 B2
  go_wp2_with fail
  refine c3.mono ?_
  rintro x w3 ⟨rfl,hb3⟩
  have H3:=Hid.mk7 (H2.out.trans (hb3.mono H2.out.size))
  have c4:=bd_take (H1.out.1.below H3.out) ⟨#[33]⟩
  clear c3 hb3
  go_wp2_with fail
  refine c4.mono ?_
  rintro x w4 ⟨rfl,hb4⟩
  have H4:=Hid.mk7 (H3.out.trans (hb4.mono H3.out.size))
  clear c4 hb4
  go_wp2
  go_ret
  exact ⟨⟨z,rfl⟩,H1.out.1.below H4.out,H1.out.2.trans (Turned.ofBelow (S:=fun _=>False) H4.out) (fun _ e=>e.elim)⟩
 | ok at_=>
  obtain ⟨a,t⟩:=at_
  have hrs:res=if lev (tokAt T t.i)=1 then exprK rec (tokAt T t.i) a PM.ret t else .ok (a,t):=by rw [← HQ.out,← exprL_once 1 (by omega) (by omega)]; simp [PM.bind,hw]
  have hmi:=HP.out.2.2.2.2.2 a t hw
  rw [hw] at c1
  have hop:=opIs_lev (HP.out.2.2.1 t.i) (k:=1) (by simp [levs])
  have hop2:(tkIs ⟨#[61]⟩ (tokAt T t.i) || tkIs ⟨#[33]⟩ (tokAt T t.i))=decide (lev (tokAt T t.i)=1):=by rw [← hop]; simp [levOps,opIs_cons,opIs_nil]
  have HO:=Hid.mk7 (And.intro hrs (And.intro hmi hop2))
  clear hw hrs hmi hop hop2
  go_enter Tryz.func135,Tryz.ntmps135
  go_wp2_with fail
  refine c1.mono ?_
  intro x w1 hx
  obtain ⟨rfl,Nv1,M1,r1,g1,_,_⟩:=HP.out.2.2.2.2.1.rf (by simpa using hx)
  have c2:=rf_token11 r1.ps.at_ g1 0 (by omega)
  simp only [Nat.add_zero] at c2
  obtain ⟨tk,htk⟩:∃ tk,tokAt T t.i=tk:=⟨_,rfl⟩
  rw [htk] at c2
  have H1:=Hid.mk7 (And.intro r1 (And.intro g1 htk))
  clear c1 hx r1 g1 htk
  obtain ⟨tk,tt,tn,ta⟩:=tk
  simp only [Tk.val] at c2
  go_wp2_with fail
  refine c2.mono ?_
  rintro x w2 ⟨rfl,hb2⟩
  have B2:=hb2.up1 (.cells #[.int .i64 tk,.string tt,.int .i64 tn,.int .i64 ta] 40)
  have r2:=H1.out.1.below B2
  have g2:=H1.out.2.1.below B2
  have c3:=rf_take r2.ps.at_ g2 ⟨#[61]⟩
  have p2:=H1.out.1.ps.at_.below hb2
  have hk3:(w2.alloc (.cells #[.int .i64 tk,.string tt,.int .i64 tn,.int .i64 ta] 40)).cell? ⟨w2.heap.size,3,none⟩=some (.int .i64 ta):=by simp
  have H2:=Hid.mk7 (And.intro r2 (And.intro g2 (And.intro p2 hk3)))
  clear c2 hb2 B2 r2 g2 p2 hk3
  cases hd:tkIs ⟨#[61]⟩ (tokAt T t.i) with
  | true=>
   have hl3:lev (tokAt T t.i)=1:=by have h9:=HO.out.2.2; rw [hd,Bool.true_or] at h9; simpa using h9.symm
   have hi:t.i < T.length:=by
    apply Classical.byContradiction
    intro h
    rw [lev_end (by omega)] at hl3
    omega
   have htt:tt=⟨#[61]⟩:=by
    have h9:=hd
    rw [H1.out.2.2] at h9
    simp only [tkIs,Bool.and_eq_true,decide_eq_true_eq] at h9
    exact h9.2
   have hrs:res=exprK rec ⟨tk,tt,tn,ta⟩ a PM.ret t:=by rw [HO.out.1,if_pos hl3,H1.out.2.2]
   have hsd:sidesR (lev (⟨tk,tt,tn,ta⟩:Tk))=1:=by rw [← H1.out.2.2,hl3]; rfl
   rw [hd] at c3
   have HX:=Hid.mk7 (And.intro hi (And.intro htt (And.intro hrs hsd)))
   clear hd hl3 hi htt hrs hsd
   go_wp2_with fail
   refine c3.mono ?_
   rintro x w3 ⟨rfl,h3⟩
   have r3:=H2.out.1.one HX.out.1 h3.1 h3.2.2
   have hne:w2.heap.size≠q:=by have:=H2.out.2.2.1.lt; omega
   have k3:=h3.2.2.cell H2.out.2.2.2 hne
   have hl:w2.heap.size < w3.heap.size:=World.block_lt_of_cell? w3 _ k3
   have hE:∀ W,Below w3.heap.size w3 W→Calls Tryz.prog 135 #[.pointer (some ⟨q,0,none⟩)] W (Rf T W q Tv Nv1 (N++M1) (rec (.expr 1) ⟨t.i+1,t.N⟩)):=fun W hW=>HP.out.1 ⟨t.i+1,t.N⟩ (by have:=HO.out.2.1; simp; omega) W q Tv _ _ (r3.below hW).ps (h3.2.1.below hW)
   have H3:=Hid.mk7 (And.intro r3 (And.intro h3.2.1 hne))
   clear c3 h3 r3
   cases hr:rec (.expr 1) ⟨t.i+1,t.N⟩ with
   | error e=>
    have hre:res=.error e:=by rw [HX.out.2.2.1]; simp [exprK,PM.bind,pSkip,HX.out.2.2.2,hr]
    subst hre
    simp only [hr] at hE
    clear hr
    have hfr:∀ w5 (x:Ending),Rf T w3.drew q Tv Nv1 (N++M1) (.error e) x w5→(∃ z:Int,x=.returned (.int .i64 z))∧w5.cell? ⟨w2.heap.size,3,none⟩=some (.int .i64 ta)∧Bd w5 q e∧Turned (fun k=>k=q∨blk Nv k) w w5:=fun w5 x hx=>by
     obtain ⟨hz,b5,T5⟩:=hx
     have f:=H2.out.2.2.1.free (by have:=HX.out.1; omega) w2.heap.size (Nat.le_refl _)
     exact ⟨hz,T5.cell k3 (fun e=>e.elim f.g f.n),b5,(H3.out.1.below (Below.refl _ _).drew).bad T5⟩
    go_wp2_with fail
    go_region_held3 (fun w'=>w'.cell? ⟨w2.heap.size,3,none⟩=some (.int .i64 ta))
     (go_keep)
     (first
      | (go_at_call 27; have B5:=Below.alloc0 w5 (.cells #[.int .i64 (a:Int),.int .i64 z] 3); refine (bd_node (b5.below B5) _ _ _ _).mono ?_; rintro x w6 ⟨rfl,hb6⟩; have B6:=B5.trans (hb6.mono B5.size); have s6:=(B6.cell (p:=⟨w2.heap.size,3,none⟩) (World.block_lt_of_cell? w5 _ k5)).trans k5; have H6:=Hid.mk7 (And.intro (b5.below B6) (t5.trans (Turned.ofBelow (S:=fun _=>False) B6) (fun _ e=>e.elim))); clear hb6 B5 B6)
      | (go_at_call 135; refine (hE _ (Below.refl _ _).drew).mono ?_; intro x w5 hx; obtain ⟨⟨z,rfl⟩,k5,b5,t5⟩:=hfr _ _ hx; clear hx))
    all_goals
     go_wp2
     go_ret
     exact ⟨⟨0,rfl⟩,H6.out.1,H6.out.2⟩
   | ok ru=>
    obtain ⟨r,u⟩:=ru
    have hre:res=.ok (u.N.length,⟨u.i,u.N++[⟨7,⟨#[]⟩,⟨#[]⟩,0,[(a:Int),(r:Int)],ta⟩]⟩):=by
     rw [HX.out.2.2.1]
     simp only [exprK,PM.bind,pSkip,HX.out.2.2.2,hr]
     simp [pAdd,PM.ret,opSh,HX.out.2.1]
    have hfin:=HP.out.2.2.2.1 _ _ hre
    subst hre
    simp only [hr] at hE
    clear hr
    have hT:0 < T.length:=by have:=HX.out.1; omega
    have HF:=Hid.mk7 (And.intro hfin hT)
    clear hfin hT
    have hfr:∀ w5 (x:Ending),Rf T w3.drew q Tv Nv1 (N++M1) (.ok (r,u)) x w5→x=.returned (.int .i64 (r:Nat))∧w5.cell? ⟨w2.heap.size,3,none⟩=some (.int .i64 ta)∧∃ Nv5 M5,Rg T w w5 q Tv Nv N u Nv5 M5∧Gd w5 q∧¬ blk Nv5 w2.heap.size:=fun w5 x hx=>by
     obtain ⟨e,Nv5,M5,r5,g5,S5,_⟩:=(H3.out.1.below (Below.refl _ _).drew).rf hx
     have f:=H2.out.2.2.1.free HF.out.2 w2.heap.size (Nat.le_refl _)
     exact ⟨e,S5.t.cell k3 (fun e=>e.elim f.g f.n),Nv5,M5,r5,g5,fun e=>(S5.n _ e).elim f.n (fun e=>by simp at e; omega)⟩
    have hnd:∀ w5 Nv5 M5,Rg T w w5 q Tv Nv N u Nv5 M5→Gd w5 q→¬ blk Nv5 w2.heap.size→w5.cell? ⟨w2.heap.size,3,none⟩=some (.int .i64 ta)→Calls Tryz.prog 27 #[.pointer (some ⟨q,0,none⟩),.int .i64 7,.int .i64 ta,.string ⟨#[]⟩,.slice (some ⟨w5.heap.size,0,none⟩) 2 2] (w5.alloc (.cells #[.int .i64 (a:Int),.int .i64 (r:Int)] 3)) fun x w6=>x=.returned (.int .i64 (u.N.length:Nat))∧w6.cell? ⟨w2.heap.size,3,none⟩=some (.int .i64 ta)∧Rf T w q Tv Nv N (.ok (u.N.length,⟨u.i,u.N++[⟨7,⟨#[]⟩,⟨#[]⟩,0,[(a:Int),(r:Int)],ta⟩]⟩)) x w6:=fun w5 Nv5 M5 r5 g5 hn5 k5=>by
     have B5:=Below.alloc0 w5 (.cells #[.int .i64 (a:Int),.int .i64 (r:Int)] 3)
     have r6:=r5.below B5
     have hl:=r6.ps.len
     have hc:=r6.ps.cnt
     unfold Cnt at hc
     have hql:=r5.ps.at_.lt
     refine (rf_node r6.ps.at_ (g5.below B5) HF.out.2 7 ta ⟨#[]⟩ _ [(a:Int),(r:Int)] ⟨OwnI.two w5 a r 3,fun k (hk:w5.heap.size=k)=>⟨by omega,fun e=>by have:=r5.ps.at_.own.blk_lt k e; omega,by simp; omega⟩⟩ (by omega)).mono ?_
     intro x w6 hk
     have hk2:=hk
     obtain ⟨e6,Nv6,_,S6,_⟩:=hk2
     refine ⟨by rw [e6,← hl],S6.t.cell ((B5.cell (p:=⟨w2.heap.size,3,none⟩) (World.block_lt_of_cell? w5 _ k5)).trans k5) (fun e=>e.elim H3.out.2.2 hn5),?_⟩
     exact r6.kept (n:=⟨7,⟨#[]⟩,⟨#[]⟩,0,.slice (some ⟨w5.heap.size,0,none⟩) 2 2,[(a:Int),(r:Int)],ta⟩) (fun k (hk:w5.heap.size=k)=>by have:=r5.size; omega) hk HF.out.1
    go_wp2_with fail
    go_region_held3 (fun w'=>w'.cell? ⟨w2.heap.size,3,none⟩=some (.int .i64 ta))
     (go_keep)
     (first
      | (go_at_call 27; refine (hnd _ _ _ r5 g5 n5 k5).mono ?_; rintro x w6 ⟨rfl,s6,h6⟩; have H6:=Hid.mk7 h6; clear h6)
      | (go_at_call 135; refine (hE _ (Below.refl _ _).drew).mono ?_; intro x w5 hx; obtain ⟨rfl,k5,Nv5,M5,r5,g5,n5⟩:=hfr _ _ hx; clear hx))
    all_goals
     go_wp2
     go_ret
     exact H6.out
  | false=>
   rw [hd] at c3
   have HD:=Hid.mk7 hd
   clear hd
   go_wp2_with fail
   refine c3.mono ?_
   rintro x w3 ⟨rfl,h3⟩
   have r3:=H2.out.1.still h3.1 h3.2.2
   have hne3:w2.heap.size≠q:=by have:=H2.out.2.2.1.lt; omega
   have c4:=rf_take r3.ps.at_ h3.2.1 ⟨#[33]⟩
   have H2b:=Hid.mk7 (And.intro r3 (And.intro h3.2.1 (And.intro H2.out.2.2.1 (h3.2.2.cell H2.out.2.2.2 hne3))))
   clear c3 h3 r3 hne3
   cases hd:tkIs ⟨#[33]⟩ (tokAt T t.i) with
   | true=>
    have hl3:lev (tokAt T t.i)=1:=by have h9:=HO.out.2.2; rw [hd,Bool.or_true] at h9; simpa using h9.symm
    have hi:t.i < T.length:=by
     apply Classical.byContradiction
     intro h
     rw [lev_end (by omega)] at hl3
     omega
    have htt:tt=⟨#[33]⟩:=by
     have h9:=hd
     rw [H1.out.2.2] at h9
     simp only [tkIs,Bool.and_eq_true,decide_eq_true_eq] at h9
     exact h9.2
    have hrs:res=exprK rec ⟨tk,tt,tn,ta⟩ a PM.ret t:=by rw [HO.out.1,if_pos hl3,H1.out.2.2]
    have hsd:sidesR (lev (⟨tk,tt,tn,ta⟩:Tk))=1:=by rw [← H1.out.2.2,hl3]; rfl
    rw [hd] at c4
    have HX:=Hid.mk7 (And.intro hi (And.intro htt (And.intro hrs hsd)))
    clear hd hl3 hi htt hrs hsd
    go_wp2_with fail
    refine c4.mono ?_
    rintro x w4 ⟨rfl,h4⟩
    have r4:=H2b.out.1.one HX.out.1 h4.1 h4.2.2
    have hne:w2.heap.size≠q:=by have:=H2b.out.2.2.1.lt; omega
    have k4:=h4.2.2.cell H2b.out.2.2.2 hne
    have hl:w2.heap.size < w4.heap.size:=World.block_lt_of_cell? w4 _ k4
    have hE:∀ W,Below w4.heap.size w4 W→Calls Tryz.prog 135 #[.pointer (some ⟨q,0,none⟩)] W (Rf T W q Tv Nv1 (N++M1) (rec (.expr 1) ⟨t.i+1,t.N⟩)):=fun W hW=>HP.out.1 ⟨t.i+1,t.N⟩ (by have:=HO.out.2.1; simp; omega) W q Tv _ _ (r4.below hW).ps (h4.2.1.below hW)
    have H3b:=Hid.mk7 (And.intro r4 (And.intro h4.2.1 hne))
    clear c4 h4 r4
    cases hr:rec (.expr 1) ⟨t.i+1,t.N⟩ with
    | error e=>
     have hre:res=.error e:=by rw [HX.out.2.2.1]; simp [exprK,PM.bind,pSkip,HX.out.2.2.2,hr]
     subst hre
     simp only [hr] at hE
     clear hr
     have hfr:∀ w5 (x:Ending),Rf T w4.drew q Tv Nv1 (N++M1) (.error e) x w5→(∃ z:Int,x=.returned (.int .i64 z))∧w5.cell? ⟨w2.heap.size,3,none⟩=some (.int .i64 ta)∧Bd w5 q e∧Turned (fun k=>k=q∨blk Nv k) w w5:=fun w5 x hx=>by
      obtain ⟨hz,b5,T5⟩:=hx
      have f:=H2b.out.2.2.1.free (by have:=HX.out.1; omega) w2.heap.size (Nat.le_refl _)
      exact ⟨hz,T5.cell k4 (fun e=>e.elim f.g f.n),b5,(H3b.out.1.below (Below.refl _ _).drew).bad T5⟩
     go_wp2_with fail
     go_region_held3 (fun w'=>w'.cell? ⟨w2.heap.size,3,none⟩=some (.int .i64 ta))
      (go_keep)
      (first
       | (go_at_call 27; have B5:=Below.alloc0 w5 (.cells #[.int .i64 (a:Int),.int .i64 z] 3); refine (bd_node (b5.below B5) _ _ _ _).mono ?_; rintro x w6 ⟨rfl,hb6⟩; have B6:=B5.trans (hb6.mono B5.size); have s6:=(B6.cell (p:=⟨w2.heap.size,3,none⟩) (World.block_lt_of_cell? w5 _ k5)).trans k5; have H6:=Hid.mk7 (And.intro (b5.below B6) (t5.trans (Turned.ofBelow (S:=fun _=>False) B6) (fun _ e=>e.elim))); clear hb6 B5 B6)
       | (go_at_call 135; refine (hE _ (Below.refl _ _).drew).mono ?_; intro x w5 hx; obtain ⟨⟨z,rfl⟩,k5,b5,t5⟩:=hfr _ _ hx; clear hx))
     all_goals
      go_wp2
      go_ret
      exact ⟨⟨0,rfl⟩,H6.out.1,H6.out.2⟩
    | ok ru=>
     obtain ⟨r,u⟩:=ru
     have hre:res=.ok (u.N.length,⟨u.i,u.N++[⟨11,⟨#[]⟩,⟨#[]⟩,0,[(a:Int),(r:Int)],ta⟩]⟩):=by
      rw [HX.out.2.2.1]
      simp only [exprK,PM.bind,pSkip,HX.out.2.2.2,hr]
      simp [pAdd,PM.ret,opSh,HX.out.2.1]
     have hfin:=HP.out.2.2.2.1 _ _ hre
     subst hre
     simp only [hr] at hE
     clear hr
     have hT:0 < T.length:=by have:=HX.out.1; omega
     have HF:=Hid.mk7 (And.intro hfin hT)
     clear hfin hT
     have hfr:∀ w5 (x:Ending),Rf T w4.drew q Tv Nv1 (N++M1) (.ok (r,u)) x w5→x=.returned (.int .i64 (r:Nat))∧w5.cell? ⟨w2.heap.size,3,none⟩=some (.int .i64 ta)∧∃ Nv5 M5,Rg T w w5 q Tv Nv N u Nv5 M5∧Gd w5 q∧¬ blk Nv5 w2.heap.size:=fun w5 x hx=>by
      obtain ⟨e,Nv5,M5,r5,g5,S5,_⟩:=(H3b.out.1.below (Below.refl _ _).drew).rf hx
      have f:=H2b.out.2.2.1.free HF.out.2 w2.heap.size (Nat.le_refl _)
      exact ⟨e,S5.t.cell k4 (fun e=>e.elim f.g f.n),Nv5,M5,r5,g5,fun e=>(S5.n _ e).elim f.n (fun e=>by simp at e; omega)⟩
     have hnd:∀ w5 Nv5 M5,Rg T w w5 q Tv Nv N u Nv5 M5→Gd w5 q→¬ blk Nv5 w2.heap.size→w5.cell? ⟨w2.heap.size,3,none⟩=some (.int .i64 ta)→Calls Tryz.prog 27 #[.pointer (some ⟨q,0,none⟩),.int .i64 11,.int .i64 ta,.string ⟨#[]⟩,.slice (some ⟨w5.heap.size,0,none⟩) 2 2] (w5.alloc (.cells #[.int .i64 (a:Int),.int .i64 (r:Int)] 3)) fun x w6=>x=.returned (.int .i64 (u.N.length:Nat))∧w6.cell? ⟨w2.heap.size,3,none⟩=some (.int .i64 ta)∧Rf T w q Tv Nv N (.ok (u.N.length,⟨u.i,u.N++[⟨11,⟨#[]⟩,⟨#[]⟩,0,[(a:Int),(r:Int)],ta⟩]⟩)) x w6:=fun w5 Nv5 M5 r5 g5 hn5 k5=>by
      have B5:=Below.alloc0 w5 (.cells #[.int .i64 (a:Int),.int .i64 (r:Int)] 3)
      have r6:=r5.below B5
      have hl:=r6.ps.len
      have hc:=r6.ps.cnt
      unfold Cnt at hc
      have hql:=r5.ps.at_.lt
      refine (rf_node r6.ps.at_ (g5.below B5) HF.out.2 11 ta ⟨#[]⟩ _ [(a:Int),(r:Int)] ⟨OwnI.two w5 a r 3,fun k (hk:w5.heap.size=k)=>⟨by omega,fun e=>by have:=r5.ps.at_.own.blk_lt k e; omega,by simp; omega⟩⟩ (by omega)).mono ?_
      intro x w6 hk
      have hk2:=hk
      obtain ⟨e6,Nv6,_,S6,_⟩:=hk2
      refine ⟨by rw [e6,← hl],S6.t.cell ((B5.cell (p:=⟨w2.heap.size,3,none⟩) (World.block_lt_of_cell? w5 _ k5)).trans k5) (fun e=>e.elim H3b.out.2.2 hn5),?_⟩
      exact r6.kept (n:=⟨11,⟨#[]⟩,⟨#[]⟩,0,.slice (some ⟨w5.heap.size,0,none⟩) 2 2,[(a:Int),(r:Int)],ta⟩) (fun k (hk:w5.heap.size=k)=>by have:=r5.size; omega) hk HF.out.1
     go_wp2_with fail
     go_region_held3 (fun w'=>w'.cell? ⟨w2.heap.size,3,none⟩=some (.int .i64 ta))
      (go_keep)
      (first
       | (go_at_call 27; refine (hnd _ _ _ r5 g5 n5 k5).mono ?_; rintro x w6 ⟨rfl,s6,h6⟩; have H6:=Hid.mk7 h6; clear h6)
       | (go_at_call 135; refine (hE _ (Below.refl _ _).drew).mono ?_; intro x w5 hx; obtain ⟨rfl,k5,Nv5,M5,r5,g5,n5⟩:=hfr _ _ hx; clear hx))
     all_goals
      go_wp2
      go_ret
      exact H6.out
   | false=>
    have hre:res=.ok (a,t):=by
     rw [HO.out.1,if_neg]
     have h9:=HO.out.2.2
     rw [HD.out,hd] at h9
     simpa using h9.symm
    subst hre
    rw [hd] at c4
    clear hd
    go_wp2_with fail
    refine c4.mono ?_
    rintro x w4 ⟨rfl,h4⟩
    have H4:=Hid.mk7 (And.intro (H2b.out.1.still h4.1 h4.2.2) h4.2.1)
    clear c4 h4
    go_wp2
    go_ret
    exact H4.out.1.ofF H4.out.2
end Go.Proofs.YtlciaafincgdeaaGreatDoor
