/-
  The document's layer 11: classify.
  The document's layer 11: classes and Same.
  Layer 11 (parse): the program's Same and the document's, at whatever numbers; the statement's walk.
-/
import Derived.Test.YtlciaafincgdeaaGreatDoorZci
import Derived.Test.YtlciaafincgdeaaGreatDoorZcb
namespace Go.Proofs.YtlciaafincgdeaaGreatDoor
open Go.RowKit
variable {A B N:List Nd} {D0:Nat→Prop} {aA aB:Option Addr} {c0:Nat→Option Nat} {cA cB off:Nat} {w:World}
set_option maxHeartbeats 12800000
set_option maxRecDepth 100000
theorem below_da (w:World) (n:Nat) (o:Obj):Below w.heap.size w ((w.drewN n).drew.alloc o):=((drewN_below w n).drew).trans ((Below.alloc0 _ o).mono (Nat.le_refl _))
def ClassifyTold (G:Gr Lb) (off:Nat) (D0:Nat→Prop) (c0:Nat→Option Nat) (bl:List Int) (B M root:Nat) (w0 w:World) (Fv0:Value) (x:Ending) (w':World):Prop:=
 ∃ g bv Fv c h F,x=.returned (.tuple #[.slice (some ⟨g,0,none⟩) (root+1) (root+1),Fv])∧CM w0 w w' Fv0 g root bv bl Fv h F∧CS G off D0 c0 bl B M bl.length c h F
theorem ref_classify {G:Gr Lb} {w0:World} {aL:Option Addr} {cL:Nat} {root:Nat} {Fv0:Value} {F0:List Nd} (hL:NdArg w0 (.slice aL N.length cL) N) (hb0:Below w0.heap.size w0 w) (hF:FmAt w Fv0 F0) (hF0:∀ k,blk Fv0 k→w0.heap.size≤k∧k < w.heap.size)
  (hN:N.length≤1048576) (hM:∀ x∈N,x.kids.length≤1048576) (hFl:F0.length≤1048576) (hD:∀ x,D0 x→x < off)
  (hB:Blw G off N root (belowS N.length (kidsOf (kvs N)) [(root:Int)])) (hC:CS G off D0 c0 (belowS N.length (kidsOf (kvs N)) [(root:Int)]) F0.length 0 0 c0 (List.replicate (root+1) 0) F0) :
  Calls Tryz.prog 56 #[.slice aL N.length cL,.int .i64 (root:Int),Fv0] w (ClassifyTold G off D0 c0 (belowS N.length (kidsOf (kvs N)) [(root:Int)]) F0.length 0 root w0 w Fv0):=by
 have hrt:=hB.rt
 obtain ⟨aF,cF,hFv,_⟩:=hF.nodes.own.sl.form
 obtain ⟨R,hR⟩:∃ R,R=root+1:=⟨_,rfl⟩
 obtain ⟨w1,hmk,hb1,hz1,hB1⟩:=make_one Tryz.intTypes (by simp [Value.cells]) w R (by omega) (by omega)
 have hs1:HtAt w1 w.heap.size (List.replicate R 0):=HtAt.new hB1 hz1
 have hLw:=hL.below hb0
 have hbl:=ref_Below (((hLw.below hb1).below (Below.alloc0 w1 (.cells #[.int .i64 (root:Int)] 3))).arg) (SlI.any (SlI.one w1 (root:Int) 3) (by simp)) (by rw [kvs_length]; omega)
 rw [kvs_length] at hbl
 have hcast:wrap64 ((root:Int)+1)=(R:Int):=by simp only [wrap64]; omega
 have hble:=belowS_le N.length (kidsOf (kvs N)) [(root:Int)]
 generalize belowS N.length (kidsOf (kvs N)) [(root:Int)]=bl at hbl hB hC hble ⊢
 subst hFv
 have H0:=Hid.mk7 (And.intro hL (And.intro hb0 (And.intro hF (And.intro hF0 (And.intro hN (And.intro hM (And.intro hFl hD)))))))
 have HB:=Hid.mk7 hB
 have HC:=Hid.mk7 hC
 have H1:=Hid.mk7 (And.intro hs1 (And.intro hb1 hR))
 clear hL hb0 hF hF0 hN hM hFl hD hB hC hs1 hb1 hz1 hB1 hLw hR hrt
 go_enter Tryz.func56,Tryz.ntmps56
 go_wp2_with fail
 refine hbl.mono ?_
 rintro x w2 ⟨bv,rfl,hO2,hb2,hn2⟩
 clear hbl hmk hcast
 obtain ⟨aB,cB,hbv,_⟩:=OwnK.sl hO2 |>.form
 subst hbv
 have hm2:CM w0 w w2 (.slice aF F0.length cF) w.heap.size root (.slice aB bl.length cB) bl (.slice aF F0.length cF) (List.replicate R 0) F0:=by
  obtain ⟨hL,hb0,hF,hF0,hN,hM,hFl,hD⟩:=H0.out
  obtain ⟨hs1,hb1,hR⟩:=H1.out
  have hbA:=Below.alloc0 w1 (.cells #[.int .i64 (root:Int)] 3)
  have hbB:Below w1.heap.size w1 w2:=hbA.trans (hb2.mono hbA.size)
  have hbW:Below w.heap.size w w2:=hb1.trans (hbB.mono hb1.size)
  have hz1:=hs1.lt
  have hz2:=hbA.size
  refine ⟨hs1.below hbB,by simp [hR],hF.below hbW,fun e=>?_,fun j hj k hk e=>?_,SlI.any (OwnK.sl hO2) (by omega),fun k hk=>⟨?_,fun e=>?_,OwnK.blk_lt hO2 k hk⟩,Turned.ofBelow hbW,fun k e=>.inl e,Nat.le_refl _,hb0.trans (hbW.mono hb0.size),hb0.size,fun k e=>(hF0 k e).1⟩
  ·have:=(hF0 _ e).2; omega
  ·have:=hF.klt j hj k hk; omega
  ·have:=hn2 k hk; omega
  ·have:=hn2 k hk; have:=(hF0 _ e).2; omega
 have HM2:=Hid.mk7 hm2
 clear hm2 hO2 hb2 hn2
 go_wp2_with fail
 go_loopw [2,10] (fun Fv ix wr=>∃ (i:Nat) (c:Nat→Option Nat) (h:List Int) (F:List Nd),i≤bl.length∧ix=.int .i64 i∧CM w0 w wr (.slice aF F0.length cF) w.heap.size root (.slice aB bl.length cB) bl Fv h F∧CS G off D0 c0 bl F0.length 0 i c h F) (fun _ ix _=>bl.length - (intOf ix).toNat)
 case atStart=>exact ⟨0,c0,_,F0,Nat.zero_le _,rfl,HM2.out,by have:=HC.out; rwa [← H1.out.2.2] at this⟩
 case round=>
  rename World=>wb
  obtain ⟨i,c,h,F,hi,rfl,hm,hc⟩:=hrel
  obtain ⟨aG,cG,hG,_⟩:=hm.fm.nodes.own.sl.form
  subst hG
  by_cases hlt:i < bl.length
  ·have hbnd:=HB.out.le _ (List.getElem_mem hlt)
   obtain ⟨z,hz⟩:∃ z:Nat,bl[i]=(z:Int):=⟨bl[i].toNat,by omega⟩
   have hzr:z≤root:=by omega
   have hzN:z < N.length:=by have:=HB.out.rt; omega
   have hNl:(N.length:Int)≤1048576:=by have:=H0.out.2.2.2.2.1; omega
   obtain ⟨gB,oB,hgB,cB1⟩:=hm.bs.at i hlt
   subst hgB
   rw [hz] at cB1
   obtain ⟨gL,oL,hgL,n0,n1,n2,n3,n4,n5,sK⟩:=(H0.out.1.below hm.bel).at z hzN
   subst hgL
   obtain ⟨aK,cK,hkv,_⟩:=sK.form
   rw [hkv] at n4
   have hKl:(N[z].kids.length:Int)≤1048576:=by have:=H0.out.2.2.2.2.2.1 N[z] (List.getElem_mem _); omega
   have hFl:(F.length:Int)≤2097152:=by have:=hc.len; have:=H0.out.2.2.2.2.2.2.1; omega
   have hii:(i:Int) < (bl.length:Int):=by omega
   have hzi:(z:Int) < (N.length:Int):=by omega
   have HK:=Hid.mk7 (And.intro hkv sK)
   have HM:=Hid.mk7 hm
   have HC1:=Hid.mk7 hc
   have HZ:=Hid.mk7 (And.intro hz hzr)
   clear hkv sK hm hc hz hzr hbnd
   go_wp2_with fail
   go_loopw [13,14] (fun bd ix wr2=>∃ (k:Nat) (V:Value) (ks:List Int),bd=.bool false∧ix=.int .i64 k∧Good N z off hzN c ks k∧FK wb wr2 N[z] V ks) (fun _ ix _=>N[z].kids.length - (intOf ix).toNat)
   case atStart=>
    refine ⟨0,.slice none 0 0,[],rfl,rfl,Good.start,?_⟩
    have:=FK.new wb N[z] 47
    rw [HK.out.1] at this
    exact this
   case round=>
    clear n0 n1 n2 n3 n4 n5
    obtain ⟨k,V,ks,rfl,rfl,hg,hf⟩:=hrel
    have hm1:=HM.out.below hf.bx.bel
    have hRi:(R:Int)≤1048576:=by have:=H1.out.2.2; have:=HB.out.rt; omega
    have hzR:(z:Int) < (R:Int):=by have:=H1.out.2.2; have:=HZ.out.2; omega
    have hzh:z < h.length:=by have:=hm1.hl; have:=HZ.out.2; omega
    obtain ⟨cz,fz⟩:=hm1.ht.c z hzh
    obtain ⟨gB2,oB2,hgB2,cB2⟩:=hm1.bs.at i hlt
    cases hgB2
    rw [HZ.out.1] at cB2
    have z4:=hf.bx.box 4 (by decide)
    simp only [Nd.cells,List.getElem?_cons_zero,List.getElem?_cons_succ] at z4
    rw [HK.out.1] at z4
    have HH:=Hid.mk7 hzh
    obtain ⟨aV,cV,hV,_⟩:=OwnK.sl hf.own |>.form
    subst hV
    by_cases hk:k < N[z].kids.length
    ·have hki:(k:Int) < (N[z].kids.length:Int):=by omega
     have sK:=HK.out.2.below hf.bx.bel
     rw [HK.out.1] at sK
     obtain ⟨gK,oK,hgK,cK1⟩:=sK.at k hk
     subst hgK
     have HF1:=Hid.mk7 (And.intro hg hf)
     clear sK hg hf hm1
     generalize h[z]=hz0 at cz
     by_cases h0:N[z].kids[k] < 0
     ·have HBad:Hid (∃ x∈N[z].kids,lowB z x=false∨(lowB z x=true∧c (off+x.toNat)=none)):=⟨_,List.getElem_mem hk,.inl (by simp [lowB]; omega)⟩
      generalize N[z].kids[k]=kd at cK1 h0
      go_wp2_with fail
      go_quiet (fail)
      go_wp2
      go_roundw
      case rel=>exact ⟨i+1,putC c (off+z) none,h.set z (-1),F,by omega,by go_num,((HM.out.below HF1.out.2.bx.bel).below (drewN_below _ _)).put HH.out (-1),HC1.out.bad HB.out H0.out.2.2.2.2.2.2.2 hlt HZ.out.1 hzN HH.out HBad.out⟩
      case measure=>simp [intOf]; omega
     ·have h0':(0:Int)≤N[z].kids[k]:=by omega
      by_cases h1:(z:Int)≤N[z].kids[k]
      ·have HBad:Hid (∃ x∈N[z].kids,lowB z x=false∨(lowB z x=true∧c (off+x.toNat)=none)):=⟨_,List.getElem_mem hk,.inl (by simp [lowB]; omega)⟩
       generalize N[z].kids[k]=kd at cK1 h0 h0' h1
       have d0:decide (kd < 0)=false:=by simpa using h0
       have d1:decide ((z:Int)≤kd)=true:=by simpa using h1
       go_wp2_with fail
       go_quiet (fail)
       go_wp2
       go_roundw
       case rel=>exact ⟨i+1,putC c (off+z) none,h.set z (-1),F,by omega,by go_num,((HM.out.below HF1.out.2.bx.bel).below (drewN_below _ _)).put HH.out (-1),HC1.out.bad HB.out H0.out.2.2.2.2.2.2.2 hlt HZ.out.1 hzN HH.out HBad.out⟩
       case measure=>simp [intOf]; omega
      ·obtain ⟨q,hq⟩:∃ q:Nat,N[z].kids[k]=(q:Int):=⟨N[z].kids[k].toNat,by omega⟩
       have hlow:lowB z N[z].kids[k]=true:=by simp [lowB]; omega
       obtain ⟨_,hhq⟩:=HC1.out.kid HB.out hlt HZ.out.1 hzN (List.getElem_mem hk) hlow
       rw [hq,Int.toNat_natCast] at hhq
       obtain ⟨hqh,ehq⟩:=List.getElem?_eq_some_iff.1 hhq
       obtain ⟨cq,fq⟩:=(HM.out.below HF1.out.2.bx.bel).ht.c q hqh
       rw [ehq] at cq
       rw [hq] at cK1
       have hqz:(q:Int) < (z:Int):=by omega
       have hqz2:¬ (z:Int)≤(q:Int):=by omega
       have hq0:¬ (q:Int) < 0:=by omega
       have hq00:(0:Int)≤(q:Int):=by omega
       have hqR:(q:Int) < (R:Int):=by omega
       have d0:decide ((q:Int) < 0)=false:=by simp
       have d1:decide (z≤q)=false:=by simp; omega
       have HQ:=Hid.mk7 (And.intro hq hlow)
       clear h0 h0' h1 hhq ehq hqh hlow
       cases hcq:c (off+q) with
       | none=>
        rw [hcq] at cq
        simp only [cval] at cq
        have HBad:Hid (∃ x∈N[z].kids,lowB z x=false∨(lowB z x=true∧c (off+x.toNat)=none)):=⟨_,List.getElem_mem hk,.inr ⟨HQ.out.2,by rw [HQ.out.1]; simpa using hcq⟩⟩
        clear hq hcq
        go_wp2_with fail
        go_quiet (fail)
        go_wp2
        go_roundw
        case rel=>exact ⟨i+1,putC c (off+z) none,h.set z (-1),F,by omega,by go_num,((HM.out.below HF1.out.2.bx.bel).below (drewN_below _ _)).put HH.out (-1),HC1.out.bad HB.out H0.out.2.2.2.2.2.2.2 hlt HZ.out.1 hzN HH.out HBad.out⟩
        case measure=>simp [intOf]; omega
       | some j=>
        rw [hcq] at cq
        simp only [cval] at cq
        have d2:decide ((j:Int) < 0)=false:=by simp
        have HJ:=Hid.mk7 hcq
        have f4:=HF1.out.2.f4
        have f4z:=HF1.out.2.fz
        have hlt1:=HF1.out.2.lt
        have hksl:ks.length≤1048576:=by have:=HF1.out.1.len; have:=HF1.out.1.le; omega
        have HKS:=Hid.mk7 (And.intro hksl (And.intro (show (ks.length+[(j:Int)].length)*8≤140737488355328 by simp; omega) (show ks.length+[(j:Int)].length≤4611686018427387903 by simp; omega)))
        clear hq hcq hksl
        go_wp2_with fail
        go_quiet (fail)
        go_wp2_with fail
        have HOwn:=Hid.mk7 (fun w' (hb:Below wr.heap.size wr w')=>(HF1.out.2.below hb).own)
        have HCell:Hid (∀ w' w4,Below wr.heap.size wr w'→Turned (blk (.slice aV ks.length cV)) w' w4→w4.cell? ⟨wb.heap.size+1,4,none⟩=some (.slice aV ks.length cV)∧w4.frozen? ⟨wb.heap.size+1,4,none⟩=false∧w4.cell? ⟨wb.heap.size,4,none⟩=some (.slice (some ⟨gK,oK,none⟩) N[z].kids.length cK)∧w4.cell? ⟨gK,oK+k,none⟩=some (.int .i64 (q:Int))∧w4.cell? ⟨w.heap.size,q,none⟩=some (.int .i64 (j:Int))∧wb.heap.size+1 < w4.heap.size):=by
         intro w' w4 hb T
         have hnw:=HF1.out.2.nw
         have hgl:=HM.out.ht.lt
         have hKl:gK < wb.heap.size:=by
          have:=HK.out.2.blk (by omega) gK (by rw [HK.out.1]; exact rfl)
          exact this
         have hn1:¬ blk (.slice aV ks.length cV) (wb.heap.size+1):=fun e=>by have:=hnw _ e; omega
         have hn2:¬ blk (.slice aV ks.length cV) wb.heap.size:=fun e=>by have:=hnw _ e; omega
         have hn3:¬ blk (.slice aV ks.length cV) gK:=fun e=>by have:=hnw _ e; omega
         have hn4:¬ blk (.slice aV ks.length cV) w.heap.size:=fun e=>by have:=hnw _ e; omega
         have cc:∀ {p:Addr} {v:Value},wr.cell? p=some v→¬ blk (.slice aV ks.length cV) p.block→w4.cell? p=some v:=fun {p v} e hn=>T.cell ((hb.cell (World.block_lt_of_cell? wr _ e)).trans e) hn
         refine ⟨cc HF1.out.2.f4 hn1,?_,cc z4 hn2,cc cK1 hn3,cc cq hn4,?_⟩
         ·rw [T.frozen (p:=⟨wb.heap.size+1,4,none⟩) (by have:=hb.size; have:=HF1.out.2.lt; simp; omega) hn1,hb.frozen (p:=⟨wb.heap.size+1,4,none⟩) HF1.out.2.lt]
          exact HF1.out.2.fz
         ·have:=hb.size; have:=T.size; have:=HF1.out.2.lt; omega
        have f4a:∀ (n:Nat) (o:Obj),((wr.drewN n).alloc o).cell? ⟨wb.heap.size+1,4,none⟩=some (.slice aV ks.length cV):=fun n o=>(HF1.out.2.below ((drewN_below wr n).trans ((Below.alloc0 _ o).mono (Nat.le_refl _)))).f4
        go_region_law (refine step_append_k (by rfl) (.tmp 81) (.tmp 90) (by rfl) Tryz.intTypes (by rfl) (by rfl) (HOwn.out _ (below_da _ _ _)) (SlI.one _ _ _) (ints_one _) HKS.out.2.1 HKS.out.2.2 ?_; intro V4 w4 ho4 T4 hv4; have hc4:=HCell.out _ _ (below_da _ _ _) T4; have hc4a:=hc4.1; have hc4b:=hc4.2.1; have hc4c:=hc4.2.2.2.2.2; obtain ⟨a4,cap4,hV4,_,_⟩:=ho4.sl.form; subst hV4)
        all_goals
         have HFK:=Hid.mk7 (HF1.out.2.next (below_da _ _ _) ho4 T4 hv4)
         clear ho4 T4 hv4 hc4 hc4a hc4b hc4c f4 f4z f4a
         generalize w4.setCell _ _=w5 at HFK ⊢
         go_wp2
         go_roundw
         case rel=>exact ⟨k+1,_,ks++[(j:Int)],rfl,by go_num,HF1.out.1.next hk HQ.out.2 (by rw [HQ.out.1]; simpa using HJ.out),HFK.out⟩
         case measure=>simp [intOf]; omega
    ·have hge:¬ (k:Int) < (N[z].kids.length:Int):=by omega
     have hkl:k=N[z].kids.length:=by have:=hg.le; omega
     subst hkl
     have hksl:ks.length≤1048576:=by have:=hg.len; omega
     have hgz:=HM.out.ht.lt
     have hFm:=hm1.fm
     have hVn:∀ q,blk (.slice aV ks.length cV) q→¬ blk (.slice aG F.length cG) q∧q < wr.heap.size:=fun q hq=>⟨fun e=>by have:=HM.out.fm.nodes.own.blk_lt q e; have:=hf.nw q hq; omega,OwnK.blk_lt hf.own q hq⟩
     have hcl:∀ w',Below wr.heap.size wr w'→Calls Tryz.prog 83 #[.slice aG F.length cG,.agg #[.int .i64 N[z].kind,.string N[z].text,.string N[z].mod,.int .i64 N[z].num,.slice aV ks.length cV,.int .i64 0]] w' (ClassTold w' (.slice aG F.length cG) F ⟨N[z].kind,N[z].text,N[z].mod,N[z].num,.slice aV ks.length cV,ks,0⟩):=fun w' hb=>
      ref_class (f:=⟨N[z].kind,N[z].text,N[z].mod,N[z].num,.slice aV ks.length cV,ks,0⟩) (hFm.below hb) (OwnK.sl (hf.below hb).own) (fun q hq=>⟨(hVn q hq).1,Nat.lt_of_lt_of_le (hVn q hq).2 hb.size⟩) (by omega) (show ks.length≤16777216 by omega)
     have f0:=hf.f0
     have f1:=hf.f1
     have f2:=hf.f2
     have f3:=hf.f3
     have f4:=hf.f4
     have f5:=hf.f5
     have HF1:=Hid.mk7 (And.intro hg (And.intro hf hVn))
     have HM1:=Hid.mk7 hm1
     clear hg hf hm1 hFm hVn
     generalize h[z]=hz0 at cz
     by_cases hex:∀ j (hj:j < F.length),formB F[j] ⟨N[z].kind,N[z].text,N[z].mod,N[z].num,.slice aV ks.length cV,ks,0⟩=false
     ·have hcl2:∀ w',Below wr.heap.size wr w'→Calls Tryz.prog 83 #[.slice aG F.length cG,.agg #[.int .i64 N[z].kind,.string N[z].text,.string N[z].mod,.int .i64 N[z].num,.slice aV ks.length cV,.int .i64 0]] w' (fun x w6=>∃ aG' cG',x=.returned (.tuple #[.int .i64 (F.length:Nat),.slice aG' (F.length+1) cG'])∧CM w0 w w6 (.slice aF F0.length cF) w.heap.size root (.slice (some ⟨gB,oB,none⟩) bl.length cB) bl (.slice aG' (F.length+1) cG') h (F++[⟨N[z].kind,N[z].text,N[z].mod,N[z].num,.slice aV ks.length cV,ks,0⟩])):=fun w' hb=>(hcl w' hb).mono fun x w6 ht=>by
       rcases ht with ⟨j,hj,he,_⟩ | ⟨_,Fv',rfl,hF',T',hv'⟩
       ·rw [hex j hj] at he; cases he
       ·obtain ⟨aG',cG',hG',_⟩:=hF'.nodes.own.sl.form
        have hG'':Fv'=.slice aG' (F.length+1) cG':=by simpa using hG'
        subst hG''
        exact ⟨aG',cG',rfl,(HM1.out.below hb).grown hF' T' hv' (fun q hq e=>by have:=HF1.out.2.1.nw q hq; omega)⟩
      have HX:=Hid.mk7 hex
      clear hcl hex
      go_wp2_with fail
      go_region_with (go_at_call 83; refine (hcl2 _ (Below.drew (Below.refl _ _))).mono ?_; rintro x w6 ⟨aG6,cG6,rfl,m6⟩; obtain ⟨gB6,oB6,e6,cB6⟩:=m6.bs.at i hlt; cases e6; rw [HZ.out.1] at cB6; obtain ⟨cz6,fz6⟩:=m6.ht.c z HH.out; have M6:=Hid.mk7 m6; clear m6)
      all_goals
       go_wp2
       go_roundw
       case rel=>exact ⟨i+1,putC c (off+z) (some F.length),h.set z (F.length:Int),_,by omega,by go_num,M6.out.put HH.out (F.length:Int),HC1.out.more HB.out H0.out.2.2.2.2.2.2.2 hlt HZ.out.1 hzN HH.out HF1.out.1 rfl rfl HX.out⟩
       case measure=>simp [intOf]; omega
     ·have hcl2:∀ w',Below wr.heap.size wr w'→Calls Tryz.prog 83 #[.slice aG F.length cG,.agg #[.int .i64 N[z].kind,.string N[z].text,.string N[z].mod,.int .i64 N[z].num,.slice aV ks.length cV,.int .i64 0]] w' (fun x w6=>∃ j:Nat,x=.returned (.tuple #[.int .i64 (j:Nat),.slice aG F.length cG])∧Hid (∃ hj:j < F.length,formB F[j] ⟨N[z].kind,N[z].text,N[z].mod,N[z].num,.slice aV ks.length cV,ks,0⟩=true)∧CM w0 w w6 (.slice aF F0.length cF) w.heap.size root (.slice (some ⟨gB,oB,none⟩) bl.length cB) bl (.slice aG F.length cG) h F):=fun w' hb=>(hcl w' hb).mono fun x w6 ht=>by
       rcases ht with ⟨j,hj,he,rfl,hb6⟩ | ⟨hno,_⟩
       ·exact ⟨j,rfl,⟨hj,he⟩,(HM1.out.below hb).below hb6⟩
       ·exact absurd hno hex
      clear hcl hex
      go_wp2_with fail
      go_region_with (go_at_call 83; refine (hcl2 _ (Below.drew (Below.refl _ _))).mono ?_; rintro x w6 ⟨j,rfl,HX,m6⟩; obtain ⟨gB6,oB6,e6,cB6⟩:=m6.bs.at i hlt; cases e6; rw [HZ.out.1] at cB6; obtain ⟨cz6,fz6⟩:=m6.ht.c z HH.out; have M6:=Hid.mk7 m6; clear m6)
      all_goals
       go_wp2
       go_roundw
       case rel=>exact ⟨i+1,putC c (off+z) (some j),h.set z (j:Int),F,by omega,by go_num,M6.out.put HH.out (j:Int),HC1.out.old (f:=⟨N[z].kind,N[z].text,N[z].mod,N[z].num,.slice aV ks.length cV,ks,0⟩) HB.out H0.out.2.2.2.2.2.2.2 hlt HZ.out.1 hzN HH.out HF1.out.1 rfl rfl HX.out.1 HX.out.2⟩
       case measure=>simp [intOf]; omega
  ·have hge:¬ (i:Int) < (bl.length:Int):=by omega
   have hil:i=bl.length:=by omega
   subst hil
   have HE:=Hid.mk7 (And.intro hm hc)
   clear hm hc
   go_wp2
   go_ret2
   exact ⟨w.heap.size,.slice aB bl.length cB,.slice aG F.length cG,c,h,F,by rw [H1.out.2.2]; rfl,HE.out.1,HE.out.2⟩
theorem blw_a (A B:List Nd) (i:Nat) (hi:i < A.length):Blw (grOf A B) 0 A i (belowS A.length (kidsOf (kvs A)) [(i:Int)]):=by
 obtain ⟨h1,h2,h3,h4⟩:=belowS_one A.length (kidsOf (kvs A)) i hi
 refine ⟨fun z hz=>by rw [Nat.zero_add]; exact (grOf_a A B z hz).1,fun z hz=>by rw [Nat.zero_add,(grOf_a A B z hz).2.1]; simp,fun z hz=>by rw [Nat.zero_add]; exact (grOf_a A B z hz).2.2,h1,h2,h3,fun z hz hm k hk hl=>?_,hi⟩
 have hl':0≤k∧k < (z:Int):=by simpa [lowB] using hl
 exact h4 z hm k (by rw [Int.toNat_natCast,kidsOf_kvs A z hz]; exact hk) hl'.1 hl'.2
theorem blw_b (A B:List Nd) (k:Nat) (hk:k < B.length):Blw (grOf A B) A.length B k (belowS B.length (kidsOf (kvs B)) [(k:Int)]):=by
 obtain ⟨h1,h2,h3,h4⟩:=belowS_one B.length (kidsOf (kvs B)) k hk
 refine ⟨fun z hz=>(grOf_b A B z hz).1,fun z hz=>(grOf_b A B z hz).2.1,fun z hz=>(grOf_b A B z hz).2.2,h1,h2,h3,fun z hz hm k hk hl=>?_,hk⟩
 have hl':0≤k∧k < (z:Int):=by simpa [lowB] using hl
 exact h4 z hm k (by rw [Int.toNat_natCast,kidsOf_kvs B z hz]; exact hk) hl'.1 hl'.2
theorem dn_zero (D0:Nat→Prop) (off:Nat) (bl:List Int):Dn D0 off bl 0=D0:=by
 funext x
 exact propext ⟨fun h=>h.elim id (fun ⟨_,_,h,_⟩=>absurd h (Nat.not_lt_zero _)),.inl⟩
theorem cs_a (A B:List Nd) (bl:List Int) (n:Nat):CS (grOf A B) 0 (fun _=>False) (fun _=>none) bl ([]:List Nd).length 0 0 (fun _=>none) (List.replicate n 0) []:=
 ⟨by rw [dn_zero]; exact CI.begin _ _,fun _ h=>by (cases h),fun _ _ h=>absurd h (Nat.not_lt_zero _),by simp,fun _ _=>rfl⟩
theorem cs_b {bl bl2:List Int} {b M n:Nat} {c:Nat→Option Nat} {h:List Int} {F:List Nd} (hC:CS (grOf A B) off D0 c0 bl b M bl.length c h F):CS (grOf A B) A.length (Dn D0 off bl bl.length) c bl2 F.length 0 0 c (List.replicate n 0) F:=
 ⟨by rw [dn_zero]; exact hC.ci,hC.nn,fun _ _ h=>absurd h (Nat.not_lt_zero _),by omega,fun _ _=>rfl⟩
theorem cval_same (x y:Option Nat):(cval x=cval y∧0≤cval x)↔∃ j,x=some j∧y=some j:=by
 cases x with
 | none=>simp [cval]
 | some j=>
  cases y with
  | none=>simp [cval]
  | some i=>simp [cval]; omega
def ClassesTold (A B:List Nd) (i k:Nat) (w:World) (x:Ending) (w':World):Prop:=
 ∃ a b:Int,x=.returned (.tuple #[.int .i64 a,.int .i64 b])∧((a=b∧0≤a)↔(grOf A B).Same i (A.length+k))∧Below w.heap.size w w'
theorem ref_classes (hA:NdArg w (.slice aA A.length cA) A) (hB:NdArg w (.slice aB B.length cB) B) (i k:Nat) (lA:A.length≤1048576) (lB:B.length≤1048576) (kA:∀ x∈A,x.kids.length≤1048576) (kB:∀ x∈B,x.kids.length≤1048576) (hi:i < A.length) (hk:k < B.length) :
  Calls Tryz.prog 23 #[.slice aA A.length cA,.slice aB B.length cB,.int .i64 (i:Int),.int .i64 (k:Int)] w (ClassesTold A B i k w):=by
 have h1:=ref_classify hA (Below.refl _ _) (Fv0:=.slice none 0 0) (F0:=[]) ⟨⟨OwnK.nil 6 _,fun j h=>by simp at h,fun j h=>by simp at h⟩,fun j h=>by simp at h⟩ (fun _ h=>h.elim) lA kA (by simp) (fun _ h=>h.elim) (blw_a A B i hi) (cs_a A B _ _)
 have H0:=Hid.mk7 (And.intro hA (And.intro hB (And.intro lA (And.intro lB (And.intro kA (And.intro kB (And.intro hi hk)))))))
 clear hA hB lA lB kA kB hi hk
 go_enter Tryz.func23,Tryz.ntmps23
 go_wp2_with fail
 refine h1.mono ?_
 rintro x w1 ⟨g1,bv1,Fv1,c1,hh1,F1,rfl,m1,s1⟩
 obtain ⟨hA,hB,lA,lB,kA,kB,hi,hk⟩:=H0.out
 have hl1:=belowS_le A.length (kidsOf (kvs A)) [(i:Int)]
 have hF1:F1.length≤1048576:=by have:=s1.len; simp at this; omega
 have hb1:=blw_a A B i hi
 obtain ⟨r1,e1⟩:=s1.rooted hb1
 have hdn:∀ x,Dn (fun _=>False) 0 (belowS A.length (kidsOf (kvs A)) [(i:Int)]) (belowS A.length (kidsOf (kvs A)) [(i:Int)]).length x→x < A.length:=by
  rintro x (h | ⟨t,ht,_,rfl⟩)
  ·exact h.elim
  ·have:=hb1.le _ (List.getElem_mem ht); omega
 have h2:=ref_classify hB m1.bel m1.fm (fun q hq=>⟨m1.f0 q hq,m1.fm.nodes.own.blk_lt q hq⟩) lB kB hF1 hdn (blw_b A B k hk) (cs_b (b:=0) (M:=0) (h:=hh1) (by simpa using s1))
 obtain ⟨aF1,cF1,hFv1,_⟩:=m1.fm.nodes.own.sl.form
 subst hFv1
 have HM1:=Hid.mk7 (And.intro m1 (And.intro s1 (And.intro r1 e1)))
 clear m1 s1 r1 e1 h1 hA hB lA lB kA kB hi hk hl1 hF1 hb1 hdn
 go_wp2_with fail
 refine h2.mono ?_
 rintro x w2 ⟨g2,bv2,Fv2,c2,hh2,F2,rfl,m2,s2⟩
 obtain ⟨r2,e2⟩:=s2.rooted (blw_b A B k H0.out.2.2.2.2.2.2.2)
 obtain ⟨q1,q2⟩:=List.getElem?_eq_some_iff.1 HM1.out.2.2.2
 obtain ⟨p1,p2⟩:=List.getElem?_eq_some_iff.1 e2
 have ca:=((HM1.out.1.ht.turned m2.T HM1.out.1.fg).c i q1).1
 have cb:=(m2.ht.c k p1).1
 rw [q2] at ca
 rw [p2] at cb
 have hsame:=CI.same s2.ci (x:=i) (y:=A.length+k) (.inl (by have:=HM1.out.2.2.1; simpa using this)) r2
 have hkeep:=s2.keep i H0.out.2.2.2.2.2.2.1
 rw [Nat.zero_add] at ca
 have hfin:(cval (c1 i)=cval (c2 (A.length+k))∧0≤cval (c1 i))↔(grOf A B).Same i (A.length+k):=by
  rw [hsame,hkeep]
  exact cval_same _ _
 have HF:=Hid.mk7 (And.intro hfin m2.bel)
 have hi1:(i:Int) < ((i+1:Nat):Int):=by omega
 have hk1:(k:Int) < ((k+1:Nat):Int):=by omega
 generalize hra:cval (c1 i)=ra at ca HF
 generalize hrb:cval (c2 (A.length+k))=rb at cb HF
 obtain ⟨aF2,cF2,hFv2,_⟩:=m2.fm.nodes.own.sl.form
 subst hFv2
 clear h2 m2 s2 r2 e2 q1 q2 p1 p2 hsame hkeep hfin hra hrb HM1
 generalize i+1=I1 at hi1 ⊢
 generalize k+1=K1 at hk1 ⊢
 go_wp2_with fail
 go_quiet (fail)
 go_wp2
 go_ret2
 exact ⟨ra,rb,rfl,HF.out.1,HF.out.2.trans ((drewN_below _ _).mono HF.out.2.size)⟩
theorem ref_Same_in (hA:NdArg w (.slice aA A.length cA) A) (hB:NdArg w (.slice aB B.length cB) B) (i k:Nat) (lA:A.length≤1048576) (lB:B.length≤1048576) (kA:∀ x∈A,x.kids.length≤1048576) (kB:∀ x∈B,x.kids.length≤1048576) (hi:i < A.length) (hk:k < B.length) :
  Calls Tryz.prog 11 #[.slice aA A.length cA,.int .i64 (i:Int),.slice aB B.length cB,.int .i64 (k:Int)] w fun x w'=>∃ b,x=.returned (.bool b)∧(b=true↔(grOf A B).Same i (A.length+k))∧Below w.heap.size w w':=by
 have h1:=ref_classes hA hB i k lA lB kA kB hi hk
 have e1:¬ (i:Int) < 0:=by omega
 have e2:¬ (A.length:Int)≤(i:Int):=by omega
 have e3:¬ (k:Int) < 0:=by omega
 have e4:¬ (B.length:Int)≤(k:Int):=by omega
 clear hA hB lA lB kA kB hi hk
 go_enter Tryz.func11,Tryz.ntmps11
 go_wp2_with fail
 refine h1.mono ?_
 rintro x w1 ⟨a,b,rfl,hs,hb⟩
 have H1:=Hid.mk7 (And.intro hs hb)
 clear hs hb h1
 by_cases hab:a=b
 ·subst hab
  by_cases h0:0≤a
  ·go_wp2
   go_ret
   exact ⟨true,rfl,⟨fun _=>H1.out.1.1 ⟨trivial,h0⟩,fun _=>rfl⟩,H1.out.2⟩
  ·go_wp2
   go_ret
   exact ⟨false,by simp [h0],⟨fun h=>by (cases h),fun h=>by have:=(H1.out.1.2 h).2; omega⟩,H1.out.2⟩
 ·go_wp2
  go_ret
  exact ⟨false,by simp,⟨fun h=>by (cases h),fun h=>absurd (H1.out.1.2 h).1 hab⟩,H1.out.2⟩
def SameP (A B:List Nd) (i k:Int):Prop:=∃ i' k':Nat,i=(i':Int)∧k=(k':Int)∧i' < A.length∧k' < B.length∧(grOf A B).Same i' (A.length+k')
theorem SameP.in {i k:Nat} (hi:i < A.length) (hk:k < B.length):SameP A B i k↔(grOf A B).Same i (A.length+k):=by
 constructor
 ·rintro ⟨i',k',e1,e2,_,_,h⟩
  obtain rfl:i=i':=by omega
  obtain rfl:k=k':=by omega
  exact h
 ·exact fun h=>⟨i,k,rfl,rfl,hi,hk,h⟩
theorem SameP.out {i k:Int} (h:lowB A.length i=false∨lowB B.length k=false):¬ SameP A B i k:=by
 rintro ⟨i',k',rfl,rfl,h1,h2,_⟩
 rcases h with h | h
 ·simp [lowB] at h; omega
 ·simp [lowB] at h; omega
def SameTold (A B:List Nd) (i k:Int) (w:World) (x:Ending) (w':World):Prop:=∃ b,x=.returned (.bool b)∧(b=true↔SameP A B i k)∧Below w.heap.size w w'
structure NdOk (w:World) (v:Value) (N:List Nd):Prop where
 arg:NdArg w v N
 len:N.length≤1048576
 kid:∀ x∈N,x.kids.length≤1048576
theorem NdOk.below {w':World} {v:Value} (h:NdOk w v N) (hb:Below w.heap.size w w'):NdOk w' v N:=⟨h.arg.below hb,h.len,h.kid⟩
theorem ref_Same {va vb:Value} (hA:NdOk w va A) (hB:NdOk w vb B) (i k:Int):Calls Tryz.prog 11 #[va,.int .i64 i,vb,.int .i64 k] w (SameTold A B i k w):=by
 obtain ⟨aA,cA,rfl⟩:=hA.arg.form
 obtain ⟨aB,cB,rfl⟩:=hB.arg.form
 by_cases hin:(0≤i∧i < (A.length:Int))∧0≤k∧k < (B.length:Int)
 ·obtain ⟨e1,e2⟩:=hin
  obtain ⟨i',rfl⟩:∃ q:Nat,i=(q:Int):=⟨i.toNat,by omega⟩
  obtain ⟨k',rfl⟩:∃ q:Nat,k=(q:Int):=⟨k.toNat,by omega⟩
  refine (ref_Same_in hA.arg hB.arg i' k' hA.len hB.len hA.kid hB.kid (by omega) (by omega)).mono ?_
  rintro x w' ⟨b,rfl,hs,hb⟩
  exact ⟨b,rfl,by rw [hs,SameP.in (by omega) (by omega)],hb⟩
 ·have HO:Hid (¬ SameP A B i k):=SameP.out (by simp [lowB]; omega)
  have hc:i < 0∨(¬ i < 0∧(A.length:Int)≤i)∨(¬ i < 0∧¬ (A.length:Int)≤i∧k < 0)∨(¬ i < 0∧¬ (A.length:Int)≤i∧¬ k < 0∧(B.length:Int)≤k):=by omega
  clear hin hA hB
  rcases hc with h1 | ⟨h1,h2⟩ | ⟨h1,h2,h3⟩ | ⟨h1,h2,h3,h4⟩
  all_goals
   go_enter Tryz.func11,Tryz.ntmps11
   go_wp2
   go_ret
   exact ⟨false,rfl,⟨fun h=>by (cases h),fun h=>absurd h HO.out⟩,Below.refl _ _⟩
end Go.Proofs.YtlciaafincgdeaaGreatDoor
