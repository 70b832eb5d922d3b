/-
  Layer 11 (parse): the document's Parse, of any tokens but none.
  Layer 11 (parse): the document's Parse, of no tokens; and of any.
-/
import Derived.Test.YtlciaafincgdeaaGreatDoorPNs
import Derived.Test.YtlciaafincgdeaaGreatDoorZck
namespace Go.Proofs.YtlciaafincgdeaaGreatDoor
open Go.RowKit
variable {K:List Int→PM Nat} {T:List Tk} {Tv:Value} {fu q:Nat} {l:List Int} {rec:Ph→PM Nat} {u:Ps} {w:World}
set_option maxHeartbeats 3200000
set_option maxRecDepth 100000
theorem mods_next (hf:0 < fu) (h:u.i < T.length):PM.bind (modsL T rec fu l) K u=PM.bind (rec .module) (fun k=>PM.bind (modsL T rec (fu - 1) (l++[(k:Int)])) K) u:=by
 obtain ⟨fu,rfl⟩:∃ k,fu=k+1:=⟨fu - 1,by omega⟩
 simp only [modsL,PM.bind,pIf,h,decide_true,if_true,Nat.add_sub_cancel]
 cases rec .module u <;> rfl
theorem mods_stop (hf:0 < fu) (h:¬ u.i < T.length):PM.bind (modsL T rec fu l) K u=K l u:=by
 obtain ⟨fu,rfl⟩:∃ k,fu=k+1:=⟨fu - 1,by omega⟩
 simp [modsL,PM.bind,pIf,h,PM.ret]
def RpTold (w:World) (r:Except (Int × Int) (Nat × List Sh)) (x:Ending) (w':World):Prop:=
 match r with
 | .error (a,c)=>∃ V,x=.returned (.tuple #[.slice none 0 0,.int .i64 0,V])∧LnkAt w.heap.size w' V a c∧Below w.heap.size w w'
 | .ok (a,L)=>∃ Nv N,x=.returned (.tuple #[Nv,.int .i64 (a:Nat),.slice none 0 0])∧N.map Nd.sh=L∧NodesAt w' Nv N∧Below w.heap.size w w'∧(∀ k,blk Nv k→w.heap.size≤k)∧∀ n∈N,∀ k,blk n.kv k→w.heap.size≤k
def PrI (T:List Tk) (rec:Ph→PM Nat) (K:List Int→PM Nat) (w wr:World) (q:Nat) (Tv Nv:Value) (N:List Nd) (s:Ps) (res:Except Nat (Nat × Ps)) (V iv:Value):Prop:=
 (iv=.int .i64 0∧V=.slice none 0 0∧Uf T w wr q Tv Nv N s (T.length+2) 0 noH (.slice none 0 0) [] (.slice none 0 0) [] [] (.ok s)∧Then (.ok s) (PM.bind (rec .module) fun k=>PM.bind (modsL T rec (T.length+1) [(k:Int)]) K)=res) ∨
 ∃ (l:List Int) (r:Except Nat Ps) (fu j:Nat),iv=.int .i64 (j:Int)∧0 < j∧j=l.length∧Uf T w wr q Tv Nv N s (T.length+2) 1 noH V l (.slice none 0 0) [] [] r∧Then r (PM.bind (modsL T rec fu l) K)=res∧l.length≤T.length+1∧∀ u,r=.ok u→T.length - u.i < fu∧l.length≤u.i
def leftP (T:List Tk) (w:World) (q:Nat) (iv:Value):Nat:=(if intOf iv=0 then 1 else 0)+leftOf T w q
theorem leftP_lt {w':World} {j:Nat} (h:leftOf T w q < leftOf T w' q):leftP T w q (.int .i64 ((j:Int)+1)) < leftP T w' q (.int .i64 (j:Int)):=by
 have h1:leftP T w q (.int .i64 ((j:Int)+1))=leftOf T w q:=by
  unfold leftP
  rw [if_neg (show ¬ intOf (.int .i64 ((j:Int)+1))=0 by simp only [intOf]; omega),Nat.zero_add]
 rw [h1]
 unfold leftP
 exact Nat.lt_of_lt_of_le h (Nat.le_add_left _ _)
theorem rf_Parse (T:List Tk) (hT:0 < T.length) (hT2:T.length≤65536) (hTk:∀ i,TkOk (tokAt T i)) (htok:SlK 4 w Tv T.length (toks T)) (hbT:∀ k,blk Tv k→k < w.heap.size) :
  Calls Tryz.prog 12 #[Tv] w (RpTold w (parseOf T)):=by
 have X:=(all_levels hT hTk (T.length - 1) 2 (by omega)).x
 have HMod:=Hid.mk7 (fun s=>X.moduleP hT hTk (f:=8*T.length+1) (by omega) s (by omega))
 obtain ⟨aT,cT,hTv,_⟩:=htok.form
 subst hTv
 obtain ⟨res,hres⟩:∃ res,treeOf T=res:=⟨_,rfl⟩
 have HQ:=Hid.mk7 hres
 obtain ⟨po,hpo⟩:∃ po,parseOf T=po:=⟨_,rfl⟩
 rw [hpo]
 have HPO:=Hid.mk7 hpo
 clear hpo
 have h65:¬ (65536:Int) < (T.length:Int):=by omega
 have hA:PAt (w.alloc (.cells #[.slice aT T.length cT,.int .i64 0,.slice none 0 0,.bool false,.int .i64 0] 69)) w.heap.size (.slice aT T.length cT) T 0 (.slice none 0 0) []:=
  ⟨by simp,⟨by simp,by rw [World.frozen?_alloc_new]⟩,⟨by simp,by rw [World.frozen?_alloc_new]⟩,htok.turned (Turned.alloc (fun _=>False) _ _) (fun _ _ e=>e),fun k hk=>⟨by have:=hbT k hk; omega,fun e=>e⟩,OwnK.nil 6 _,fun e=>e,fun j hj=>absurd hj (Nat.not_lt_zero j),Nat.zero_le _,hT2⟩
 have hps:PS _ _ _ T _ [] ⟨0,[]⟩:=⟨hA,rfl,start_ok,start_cnt hT2⟩
 have hg:Gd (w.alloc (.cells #[.slice aT T.length cT,.int .i64 0,.slice none 0 0,.bool false,.int .i64 0] 69)) w.heap.size:=⟨⟨by simp,by rw [World.frozen?_alloc_new]⟩,⟨by simp,by rw [World.frozen?_alloc_new]⟩⟩
 have U0:=Uf.start hps hg (T.length+2)
 have c0:=U0.token 0 (by omega)
 have HC:=Hid.mk7 hps.cnt
 have HT:=Hid.mk7 (And.intro hT hT2)
 have HX:=Hid.mk7 (And.intro trivial (And.intro hTk trivial))
 have HU:=Hid.mk7 U0
 have hfa:=Tryz.tokPlace
 clear X htok hbT hres hA hps hg U0 hTk hT hT2
 go_enter Tryz.func12,Tryz.ntmps12
 go_wp2_with fail
 refine c0.mono ?_
 rintro y w0 ⟨⟨tk,tt,tn,ta⟩,rfl,hb0,ht0,_⟩
 have hta:(tokAt T 0).at_=ta:=by have:=ht0 ⟨0,[]⟩ rfl; simp at this; rw [← this]
 have H0:=Hid.mk7 (And.intro (HU.out.below hb0) hta)
 clear c0 hb0 ht0 hta h65
 simp only [Tk.val]
 go_wp2_with fail
 go_loopw [7,8] (fun V iv wr=>PrI T (runP T (8*T.length+1)) (fun ks=>pAdd ⟨28,⟨#[]⟩,⟨#[]⟩,0,ks,ta⟩) (w.alloc (.cells #[.slice aT T.length cT,.int .i64 0,.slice none 0 0,.bool false,.int .i64 0] 69)) wr w.heap.size (.slice aT T.length cT) (.slice none 0 0) [] ⟨0,[]⟩ res V iv) (fun _ iv wr=>leftP T wr w.heap.size iv)
 case atStart=>
  refine .inl ⟨rfl,rfl,H0.out.1,?_⟩
  rw [← HQ.out,← H0.out.2]
  simp [treeOf,programP,PM.bind,pTok,Then]
 case round=>
  rcases hrel with ⟨rfl,rfl,U,hq⟩ | ⟨l,r,fu,j,rfl,hj,hjl,U,hq,hl,hr⟩
  ·have hb:=U.x.2.1.c3.1
   have c2:Calls Tryz.prog 26 #[.pointer (some ⟨w.heap.size,0,none⟩)] wr _:=U.phrase (dm:=1) (fun u2 e=>HMod.out u2) (fun _ e=>by cases e) (fun u2 _ hs=>o_run _ .module trivial hs) hq
   have hleft:=U.left
   have HL:=Hid.mk7 hleft
   clear U hq hleft
   go_wp2_with fail
   refine c2.mono ?_
   rintro y w3 ⟨z3,rfl,_,r3,hq3,U3,hr3⟩
   have hq4:=U3.cast (k:=fun k=>PM.bind (modsL T (runP T (8*T.length+1)) (T.length+1) [k]) (fun ks=>pAdd ⟨28,⟨#[]⟩,⟨#[]⟩,0,ks,ta⟩)) hq3
   have hi4:∀ v,r3=.ok v→1≤v.i:=fun v e=>by
    obtain ⟨v2,e1,_,_,e2⟩:=hr3 v e
    cases e1
    exact e2 (by decide)
   have H3:=Hid.mk7 (And.intro U3 (And.intro hq4 hi4))
   clear c2 hb hq3 U3 hr3 hq4 hi4
   go_wp2_with (at_builtin; refine wpList_append_k (by rfl) (.tmp 41) (.tmp 44) (by rfl) Tryz.intTypes (by rfl) (by rfl) (OwnK.turned H3.out.1.a.own (Turned.alloc (fun _=>False) _ _) (fun _ _ e=>e)) (SlI.one _ _ _) (ints_one _) (by simp) (by simp) ?_; intro V4 w4 ho4 T4 hv4)
   obtain ⟨U4a,_⟩:=H3.out.1.push HT.out.1 (Below.alloc0 w3 _) ho4 T4 hv4 (by simp) (by simp)
   obtain ⟨aW,cW,hW,_⟩:=OwnK.sl ho4 |>.form
   have U4:=(U4a.nums (zs':=[]) (fun z hz=>by cases hz)).weak (d':=1) (by decide)
   clear U4a
   rw [hW] at U4
   subst hW
   have H4:=Hid.mk7 U4
   clear ho4 T4 hv4 U4
   go_wp2
   go_roundw
   case rel=>
    refine .inr ⟨[z3],r3,T.length+1,1,by go_num,by omega,by simp,H4.out,H3.out.2.1,by simp,fun u e=>?_⟩
    have:=H3.out.2.2 u e
    have:=HT.out.1
    simp
    omega
   case measure=>
    have h3:=HL.out
    simp only [leftP,intOf]
    rw [h3]
    obtain ⟨rr,hrr⟩:∃ rr,rr=r3:=⟨_,rfl⟩
    cases rr with
    | error e=>
     have h4:=(Uf.x (r:=.error e) (hrr ▸ H4.out)).1.bad
     have h7:leftOf T w4 w.heap.size=0:=by simp [leftOf,h4]
     rw [h7]
     simp
     omega
    | ok v=>
     have h2:=Uf.left (u:=v) (hrr ▸ H4.out)
     rw [h2]
     simp
     omega
  ·obtain ⟨aV,cV,hV,_⟩:=OwnK.sl U.a.own |>.form
   subst hV
   obtain ⟨nl,hnl⟩:∃ nl:Nat,nl=l.length:=⟨_,rfl⟩
   rw [← hnl] at U ⊢
   have HNL:=Hid.mk7 (And.intro hnl hjl)
   clear hnl hjl
   have hj0:((j:Int) == 0)=false:=by simp; omega
   cases r with
   | error e=>
    have hb:=U.x.1.bad
    have he:=U.x.1.err
    have H7:=Hid.mk7 (And.intro U hq)
    clear U hq hr hl
    have hq8:Then (.error e) (PM.bind (pAdd ⟨28,⟨#[]⟩,⟨#[]⟩,0,l,ta⟩) PM.ret)=res:=H7.out.2
    have c8:=Uf.node H7.out.1.to2 HT.out.1 HC.out (by decide) 28 ta ⟨#[]⟩ hq8
    clear hq8
    go_wp2_with fail
    refine c8.mono ?_
    rintro y w8 ⟨z8,rfl,_,r8,hq8,U8,hr8⟩
    cases r8 with
    | ok v=>exact absurd (hr8 v rfl) (by rintro ⟨u,e,_⟩; cases e)
    | error e8=>
     have hb8:=U8.x.1.bad
     have he8:=U8.x.1.err
     have hpo:po=.error ((e8:Int),220):=by
      rw [← HPO.out]
      unfold parseOf
      rw [show treeOf T=.error e8 from HQ.out.trans hq8.symm]
     subst hpo
     have hB8:Below w.heap.size w w8:=(Below.alloc0 w _).trans (U8.x.2.below (by simp) (fun k e=>e.elim (fun e=>by have e:k=w.heap.size:=e; omega) (fun e=>e.elim)))
     have hno:=r_no (e8:Int) 220 w8
     have H8:=Hid.mk7 hB8
     have hql:=U8.x.1.lt
     clear c8 hq8 U8 hr8 hB8
     go_wp2_with fail
     refine hno.mono ?_
     rintro y w9 ⟨v9,rfl,hv9,hb9⟩
     have H9:=Hid.mk7 (And.intro (hv9.mono H8.out.size) (H8.out.trans (hb9.mono H8.out.size)))
     obtain ⟨g9,_,hve,_⟩:=hv9
     subst hve
     clear hno hb9
     go_wp2
     go_ret3
     exact ⟨_,rfl,H9.out⟩
   | ok u=>
    have hb:=U.x.2.1.c3.1
    have HL:=Hid.mk7 (And.intro U.left (And.intro U.il (And.intro (hr u rfl) hl)))
    obtain ⟨_,_,_,Nv7,M7,rg7,_⟩:=U.x
    have c1:=rg7.ps.at_.c1.1
    have cql:=rg7.ps.at_.lt
    have H7:=Hid.mk7 (And.intro U hq)
    clear U hq hr hl rg7
    by_cases hend:u.i < T.length
    ·have hlt:(u.i:Int) < (T.length:Int):=by omega
     have hqf:=(mods_next (by have:=HL.out.2.2.1.1; omega) hend).symm.trans H7.out.2
     have H7c:=Hid.mk7 hend
     have c2:Calls Tryz.prog 26 #[.pointer (some ⟨w.heap.size,0,none⟩)] wr _:=H7.out.1.phrase (dm:=1) (fun u2 e=>HMod.out u2) (fun _ e=>by cases e) (fun u2 _ hs=>o_run _ .module trivial hs) hqf
     have hjb:(j:Int)≤65538:=by have:=HNL.out; have:=HL.out.2.2.2; have:=HT.out.2; omega
     clear hqf hend
     go_wp2_with fail
     refine c2.mono ?_
     rintro y w3 ⟨z3,rfl,_,r3,hq3,U3,hr3⟩
     have hq4:=U3.cast (k:=fun k=>PM.bind (modsL T (runP T (8*T.length+1)) (fu - 1) (l++[k])) (fun ks=>pAdd ⟨28,⟨#[]⟩,⟨#[]⟩,0,ks,ta⟩)) hq3
     have hi4:∀ v,r3=.ok v→u.i+1≤v.i:=fun v e=>by
      obtain ⟨v2,e1,_,_,e2⟩:=hr3 v e
      cases e1
      exact e2 (by decide)
     have H3:=Hid.mk7 (And.intro U3 (And.intro hq4 hi4))
     clear c2 hb hq3 U3 hr3 hq4 hi4 c1 cql hlt
     go_wp2_with (at_builtin; refine wpList_append_k (by rfl) (.tmp 41) (.tmp 44) (by rfl) Tryz.intTypes (by rfl) (by rfl) (OwnK.turned H3.out.1.a.own (Turned.alloc (fun _=>False) _ _) (fun _ _ e=>e)) (SlI.one _ _ _) (ints_one _) (by have:=H3.out.1.a.len; have:=HT.out.2; simp; omega) (by have:=H3.out.1.a.len; have:=HT.out.2; simp; omega) ?_; intro V4 w4 ho4 T4 hv4)
     obtain ⟨U4a,_⟩:=H3.out.1.push HT.out.1 (Below.alloc0 w3 _) ho4 T4 hv4 (by have:=HL.out.2.2.2; simp; omega) (by simp)
     obtain ⟨aW,cW,hW,_⟩:=OwnK.sl ho4 |>.form
     have U4:=(U4a.nums (zs':=[]) (fun z hz=>by cases hz)).weak (d':=1) (by decide)
     clear U4a
     rw [hW] at U4
     subst hW
     have H4:=Hid.mk7 U4
     clear ho4 T4 hv4 U4
     go_wp2
     go_roundw
     case rel=>
      refine .inr ⟨l++[z3],r3,fu - 1,j+1,by go_num,by omega,by have:=HNL.out; simp; omega,H4.out,H3.out.2.1,?_,fun v e=>?_⟩
      ·have h2:=HL.out.2.2.1; have h3:=H7c.out; simp; omega
      ·have h1:=H3.out.2.2 v e
       have h2:=HL.out.2.2.1
       have h3:=(Uf.il (u:=v) (e ▸ H4.out)).1
       simp
       omega
     case measure=>
      have h3:=HL.out.1
      refine leftP_lt ?_
      rw [h3]
      obtain ⟨rr,hrr⟩:∃ rr,rr=r3:=⟨_,rfl⟩
      cases rr with
      | error e=>
       have h4:=(Uf.x (r:=.error e) (hrr ▸ H4.out)).1.bad
       have h5:=HL.out.2.1
       have h7:leftOf T w4 w.heap.size=0:=by simp [leftOf,h4]
       have h8:=H7c.out
       rw [h7]
       omega
      | ok v=>
       have h1:=H3.out.2.2 v hrr.symm
       have h2:=Uf.left (u:=v) (hrr ▸ H4.out)
       have h5:=(Uf.il (u:=v) (hrr ▸ H4.out)).1
       have h8:=H7c.out
       rw [h2]
       omega
    ·have hge:¬ (u.i:Int) < (T.length:Int):=by omega
     have hqf:Then (.ok u) (pAdd ⟨28,⟨#[]⟩,⟨#[]⟩,0,l,ta⟩)=res:=(mods_stop (by have:=HL.out.2.2.1.1; omega) hend).symm.trans H7.out.2
     have hq8:Then (.ok u) (PM.bind (pAdd ⟨28,⟨#[]⟩,⟨#[]⟩,0,l,ta⟩) PM.ret)=res:=by rw [PM.bind_ret]; exact hqf
     have c8:=Uf.node H7.out.1.to2 HT.out.1 HC.out (by decide) 28 ta ⟨#[]⟩ hq8
     clear hqf hq8 hend
     go_wp2_with fail
     refine c8.mono ?_
     rintro y w8 ⟨z8,rfl,_,r8,hq8,U8,hr8⟩
     cases r8 with
     | error e8=>
      have hb8:=U8.x.1.bad
      have he8:=U8.x.1.err
      have hpo:po=.error ((e8:Int),220):=by
       rw [← HPO.out]
       unfold parseOf
       rw [show treeOf T=.error e8 from HQ.out.trans hq8.symm]
      subst hpo
      have hB8:Below w.heap.size w w8:=(Below.alloc0 w _).trans (U8.x.2.below (by simp) (fun k e=>e.elim (fun e=>by have e:k=w.heap.size:=e; omega) (fun e=>e.elim)))
      have hno:=r_no (e8:Int) 220 w8
      have H8:=Hid.mk7 hB8
      have hql:=U8.x.1.lt
      clear c8 hq8 U8 hr8 hB8
      go_wp2_with fail
      refine hno.mono ?_
      rintro y w9 ⟨v9,rfl,hv9,hb9⟩
      have H9:=Hid.mk7 (And.intro (hv9.mono H8.out.size) (H8.out.trans (hb9.mono H8.out.size)))
      obtain ⟨g9,_,hve,_⟩:=hv9
      subst hve
      clear hno hb9
      go_wp2
      go_ret3
      exact ⟨_,rfl,H9.out⟩
     | ok v=>
      have htr:treeOf T=.ok (z8.toNat,v):=HQ.out.trans hq8.symm
      obtain ⟨hz8,hz9⟩:=U8.pos (z:=z8) (by simp) v rfl
      obtain ⟨hu1,hu2⟩:=treeOf_used htr
      obtain ⟨_,g8,_,Nv8,M8,rg8,_⟩:=U8.x
      have hb8:=g8.c3.1
      have p8:=rg8.ps.at_
      have hn8:([]++M8).map Nd.sh=v.N:=rg8.ps.n
      have hc2:=p8.c2.1
      have hql:=p8.lt
      have nd8:=p8.nodes
      have hNl:([]++M8:List Nd).length=v.N.length:=by have:=congrArg List.length hn8; simpa using this
      have hks:∀ n∈([]++M8:List Nd),n.kids.length≤4611686018427387903:=fun n hn=>by
       have h9:n.kids.length≤T.length+5:=treeOf_kids htr n.sh (by rw [← hn8]; exact List.mem_map_of_mem hn)
       have:=HT.out.2
       omega
      have a8:=nd8.arg (by rw [hNl]; omega) hks
      have hbn:=rb_Bounds (root:=z8.toNat) a8 (by rw [kvs_length,hNl]; exact hu1) (by
       rw [kvs_length,hNl,kids_ofS hn8]
       intro i hi k hk
       unfold kidsS at hk
       rw [List.getElem?_eq_getElem hi] at hk
       exact rg8.ps.ok.low i hi k (by simpa using hk))
      rw [kvs_length,hNl,kids_ofS hn8,← treeOf_below htr,hz8] at hbn
      have hB8:Below w.heap.size w w8:=(Below.alloc0 w _).trans (rg8.st.t.below (by simp) (fun k e=>e.elim (fun e=>by have e:k=w.heap.size:=e; omega) (fun e=>e.elim)))
      have hnew:∀ k,blk Nv8 k→w.heap.size≤k:=fun k hk=>(rg8.st.n k hk).elim (fun e=>e.elim) (fun e=>by simp at e; omega)
      have hoff:∀ n∈([]++M8:List Nd),∀ k,blk n.kv k→w.heap.size≤k:=fun n hn k hk=>by have:=rg8.off n (by simpa using hn) k hk; simp at this; omega
      obtain ⟨lim,hlim⟩:∃ lim,limE (kidsS v.N) v.N.length (belowS v.N.length (kidsS v.N) [z8])=lim:=⟨_,rfl⟩
      rw [hlim] at hbn
      have HLM:=Hid.mk7 (And.intro htr (And.intro hz8 hlim))
      obtain ⟨aN,cN,hNv,_⟩:=p8.own.sl.form
      subst hNv
      have H8:=Hid.mk7 (And.intro hn8 (And.intro nd8 (And.intro hB8 (And.intro hnew (And.intro hoff hz8)))))
      clear c8 hq8 U8 hr8 htr hz9 hu1 hu2 g8 rg8 p8 hn8 nd8 hks a8 hB8 hnew hoff hlim hNl
      cases lim with
      | some c=>
       have hpo:po=.error (0,c):=by
        rw [← HPO.out]
        unfold parseOf
        rw [HLM.out.1]
        simp only [HLM.out.2.1,HLM.out.2.2]
       subst hpo
       go_wp2_with fail
       refine hbn.mono ?_
       rintro y w9 ⟨v9,rfl,hv9,hb9⟩
       have H9:=Hid.mk7 (And.intro (hv9.mono H8.out.2.2.1.size) (H8.out.2.2.1.trans (hb9.mono H8.out.2.2.1.size)))
       obtain ⟨g9,_,hve,_⟩:=hv9
       subst hve
       clear hbn hb9
       go_wp2
       go_ret3
       exact ⟨_,rfl,H9.out⟩
      | none=>
       have hpo:po=.ok (z8.toNat,v.N):=by
        rw [← HPO.out]
        unfold parseOf
        rw [HLM.out.1]
        simp only [HLM.out.2.1,HLM.out.2.2]
       subst hpo
       go_wp2_with fail
       refine hbn.mono ?_
       rintro y w9 ⟨rfl,hb9⟩
       have hc9:=(hb9.cell (p:=⟨w.heap.size,2,none⟩) hql).trans hc2
       have hql9:=World.block_lt_of_cell? w9 _ hc9
       have H9:=Hid.mk7 hb9
       clear hbn hb9
       go_wp2
       go_ret3
       refine ⟨_,_,?_,H8.out.1,H8.out.2.1.below H9.out,H8.out.2.2.1.trans (H9.out.mono H8.out.2.2.1.size),H8.out.2.2.2.1,H8.out.2.2.2.2.1⟩
       have hz:=H8.out.2.2.2.2.2
       show Ending.returned (.tuple #[_,.int .i64 z8,_])=_
       rw [hz]
       rfl
theorem module_nil {Nv:Value} {N:List Nd} (h:PAt w q Tv [] 0 Nv N) (hg:Gd w q) :
  Calls Tryz.prog 26 #[.pointer (some ⟨q,0,none⟩)] w fun x w'=>x=.returned (.int .i64 0)∧Bd w' q 0∧Turned (fun k=>k=q) w w':=by
 have c0:=rf_token11 h hg 0 (by omega)
 have H:=Hid.mk7 (And.intro h hg)
 clear h hg
 go_enter Tryz.func26,Tryz.ntmps26
 go_wp2_with fail
 refine c0.mono ?_
 rintro y w0 ⟨hy,hb0⟩
 obtain ⟨⟨tk,tt,tn,ta⟩,ht⟩:∃ t,t=tokAt [] (0+0):=⟨_,rfl⟩
 rw [← ht] at hy
 subst hy
 clear ht
 have hb1:Below w.heap.size w (w0.alloc (.cells #[.int .i64 tk,.string tt,.int .i64 tn,.int .i64 ta] 40)):=hb0.trans ((Below.alloc0 w0 _).mono hb0.size)
 have c1:=rf_want (H.out.1.below hb1) (H.out.2.turned (Turned.ofBelow (S:=fun _=>False) hb1) (fun e=>e)) ⟨#[45]⟩
 rw [show tkIs ⟨#[45]⟩ (tokAt [] 0)=false by decide] at c1
 have HB:=Hid.mk7 hb1
 clear c0 hb0 hb1
 simp only [Tk.val]
 go_wp2_with fail
 refine c1.mono ?_
 rintro y w1 ⟨rfl,hd1,T1⟩
 have c2:=bd_word hd1 ⟨#[109,111,100,117,108,101]⟩
 have H1:=Hid.mk7 (And.intro hd1 T1)
 clear c1 hd1 T1
 go_wp2_with fail
 refine c2.mono ?_
 rintro y w2 ⟨rfl,hb2⟩
 have c3:=bd_syntax (H1.out.1.below hb2)
 have H2:=Hid.mk7 hb2
 clear c2 hb2
 go_wp2_with fail
 refine c3.mono ?_
 rintro y w3 ⟨rfl,hb3⟩
 have H3:=Hid.mk7 hb3
 clear c3 hb3
 go_wp2
 go_ret
 exact ⟨rfl,(H1.out.1.below H2.out).below H3.out,(((Turned.ofBelow (S:=fun k=>k=q) HB.out).trans H1.out.2 (fun _ e=>.inl e)).trans (Turned.ofBelow (S:=fun _=>False) H2.out) (fun _ e=>e.elim)).trans (Turned.ofBelow (S:=fun _=>False) H3.out) (fun _ e=>e.elim)⟩
def PnI (w wr:World) (aT:Option Addr) (cT:Nat) (V iv:Value):Prop:=
 (iv=.int .i64 0∧V=.slice none 0 0∧PAt wr w.heap.size (.slice aT 0 cT) [] 0 (.slice none 0 0) []∧Gd wr w.heap.size∧Below w.heap.size w wr) ∨
 ∃ aV cV,iv=.int .i64 1∧V=.slice aV 1 cV∧Bd wr w.heap.size 0∧Below w.heap.size w wr
theorem parse_nil_of:parseOf []=.error (0,220):=by rfl
theorem rf_Parse_nil (htok:SlK 4 w Tv ([]:List Tk).length (toks [])) (hbT:∀ k,blk Tv k→k < w.heap.size) :
  Calls Tryz.prog 12 #[Tv] w (RpTold w (parseOf [])):=by
 obtain ⟨aT,cT,hTv,_⟩:=htok.form
 have hTv:Tv=.slice aT 0 cT:=hTv
 subst hTv
 rw [parse_nil_of]
 have hA:PAt (w.alloc (.cells #[.slice aT 0 cT,.int .i64 0,.slice none 0 0,.bool false,.int .i64 0] 69)) w.heap.size (.slice aT 0 cT) [] 0 (.slice none 0 0) []:=
  ⟨by simp,⟨by simp,by rw [World.frozen?_alloc_new]⟩,⟨by simp,by rw [World.frozen?_alloc_new]⟩,htok.turned (Turned.alloc (fun _=>False) _ _) (fun _ _ e=>e),fun k hk=>⟨by have:=hbT k hk; omega,fun e=>e⟩,OwnK.nil 6 _,fun e=>e,fun j hj=>absurd hj (Nat.not_lt_zero j),Nat.zero_le _,by simp⟩
 have hg:Gd (w.alloc (.cells #[.slice aT 0 cT,.int .i64 0,.slice none 0 0,.bool false,.int .i64 0] 69)) w.heap.size:=⟨⟨by simp,by rw [World.frozen?_alloc_new]⟩,⟨by simp,by rw [World.frozen?_alloc_new]⟩⟩
 have c0:=rf_token11 hA hg 0 (by omega)
 have HA:=Hid.mk7 (And.intro hA hg)
 have hfa:=Tryz.tokPlace
 clear htok hbT hA hg
 go_enter Tryz.func12,Tryz.ntmps12
 go_wp2_with fail
 refine c0.mono ?_
 rintro y w0 ⟨hy,hb0⟩
 obtain ⟨⟨tk,tt,tn,ta⟩,ht⟩:∃ t,t=tokAt [] (0+0):=⟨_,rfl⟩
 rw [← ht] at hy
 subst hy
 clear ht
 have H0:=Hid.mk7 (And.intro (HA.out.1.below hb0) (And.intro (HA.out.2.turned (Turned.ofBelow (S:=fun _=>False) hb0) (fun e=>e)) ((Below.alloc0 w _).trans (hb0.mono (by simp)))))
 clear c0 hb0
 simp only [Tk.val]
 go_wp2_with fail
 go_loopw [7,8] (fun V iv wr=>PnI w wr aT cT V iv) (fun _ iv _=>if intOf iv=0 then 1 else 0)
 case atStart=>exact .inl ⟨rfl,rfl,H0.out⟩
 case round=>
  rcases hrel with ⟨rfl,rfl,hp,hg,hb⟩ | ⟨aV,cV,rfl,rfl,hd,hb⟩
  ·have hbad:=hg.c3.1
   have c2:=module_nil hp hg
   have HB:=Hid.mk7 hb
   clear hp hg hb
   go_wp2_with fail
   refine c2.mono ?_
   rintro y w3 ⟨rfl,hd3,T3⟩
   have H3:=Hid.mk7 (And.intro hd3 T3)
   clear c2 hbad hd3 T3
   go_wp2_with (at_builtin; refine wpList_append_k (by rfl) (.tmp 41) (.tmp 44) (by rfl) Tryz.intTypes (by rfl) (by rfl) (OwnK.nil 1 _) (SlI.one _ _ _) (ints_one _) (by simp) (by simp) ?_; intro V4 w4 ho4 T4 hv4)
   obtain ⟨aW,cW,hW,_⟩:=OwnK.sl ho4 |>.form
   have hW:V4=.slice aW 1 cW:=hW
   subst hW
   have hd4:Bd w4 w.heap.size 0:=⟨T4.cell (H3.out.1.below (Below.alloc0 w3 _)).bad (fun e=>e),T4.cell (H3.out.1.below (Below.alloc0 w3 _)).err (fun e=>e)⟩
   have hB4:Below w.heap.size w w4:=HB.out.trans ((H3.out.2.trans ((Turned.alloc (fun _=>False) _ _).trans T4 (fun _ e=>e.elim)) (fun _ e=>e.elim)).below HB.out.size (fun k e=>by have e:k=w.heap.size:=e; omega))
   have H4:=Hid.mk7 (And.intro hd4 hB4)
   clear ho4 T4 hv4 hd4 hB4
   go_wp2
   go_roundw
   case rel=>exact .inr ⟨_,_,by go_num,rfl,H4.out⟩
   case measure=>simp [intOf]
  ·have hbad:=hd.bad
   have herr:=hd.err
   have c8:=bd_node hd 28 ta ⟨#[]⟩ (.slice aV 1 cV)
   have H7:=Hid.mk7 (And.intro hd hb)
   clear hd hb
   go_wp2_with fail
   refine c8.mono ?_
   rintro y w8 ⟨rfl,hb8⟩
   have hd8:=H7.out.1.below hb8
   have hbad8:=hd8.bad
   have herr8:=hd8.err
   have hql:=hd8.lt
   have hno:=r_no (0:Int) 220 w8
   have H8:=Hid.mk7 (H7.out.2.trans (hb8.mono H7.out.2.size))
   clear c8 hb8 hd8
   go_wp2_with fail
   refine hno.mono ?_
   rintro y w9 ⟨v9,rfl,hv9,hb9⟩
   have H9:=Hid.mk7 (And.intro (hv9.mono H8.out.size) (H8.out.trans (hb9.mono H8.out.size)))
   obtain ⟨g9,_,hve,_⟩:=hv9
   subst hve
   clear hno hb9
   go_wp2
   go_ret3
   exact ⟨_,rfl,H9.out⟩
theorem rf_Parse_any (T:List Tk) (hT2:T.length≤65536) (hTk:∀ i,TkOk (tokAt T i)) (htok:SlK 4 w Tv T.length (toks T)) (hbT:∀ k,blk Tv k→k < w.heap.size) :
  Calls Tryz.prog 12 #[Tv] w (RpTold w (parseOf T)):=by
 cases T with
 | nil=>exact rf_Parse_nil htok hbT
 | cons t T=>exact rf_Parse _ (by simp) hT2 hTk htok hbT
end Go.Proofs.YtlciaafincgdeaaGreatDoor
