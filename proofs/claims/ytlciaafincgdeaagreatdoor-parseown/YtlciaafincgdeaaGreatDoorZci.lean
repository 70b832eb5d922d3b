/-
  The document's layer 11: class: which of the forms a node has.
  The document's layer 11: classify, of lists alone: which classes the nodes so far have.
  The document's layer 11: classify, what lies in memory.
-/
import Derived.Test.YtlciaafincgdeaaGreatDoorZch
import Derived.Test.YtlciaafincgdeaaGreatDoorZcb
import Derived.Test.YtlciaafincgdeaaGreatDoorZce
namespace Go.Proofs.YtlciaafincgdeaaGreatDoor
open Go.RowKit
set_option maxHeartbeats 6400000
set_option maxRecDepth 100000
def formB (x f:Nd):Bool:=lookB x f && decide (x.kids=f.kids)
theorem NodesAt.all {w:World} {Nv:Value} {N:List Nd} (h:NodesAt w Nv N) (j:Nat) (hj:j < N.length):∃ b off cap,Nv=.slice (some ⟨b,off,none⟩) N.length cap∧∀ q,q < 6→w.cell? ⟨b,off+j*6+q,none⟩=N[j].cells[q]?:=by
 obtain ⟨b,off,cap,e,_,_,hc⟩:=h.own.sl.at j hj
 exact ⟨b,off,cap,e,fun q hq=>(hc q hq).1.trans (nds_get N j hj q hq)⟩
structure Bx (w wr:World) (f:Nd):Prop where
 bel:Below w.heap.size w wr
 box:∀ q,q < 6→wr.cell? ⟨w.heap.size,q,none⟩=f.cells[q]?
theorem Bx.lt {w wr:World} {f:Nd} (h:Bx w wr f):w.heap.size < wr.heap.size:=World.block_lt_of_cell? wr _ (h.box 0 (by decide))
theorem Bx.below {w wr w':World} {f:Nd} (h:Bx w wr f) (hb:Below wr.heap.size wr w'):Bx w w' f:=by
 refine ⟨h.bel.trans (hb.mono h.bel.size),fun q hq=>?_⟩
 have hq6:q < f.cells.length:=hq
 have h0:=h.box q hq
 rw [List.getElem?_eq_getElem hq6] at h0 ⊢
 exact (hb.cell (p:=⟨w.heap.size,q,none⟩) h.lt).trans h0
theorem Bx.new (w:World) (f:Nd) (t:TypeId):Bx w (w.alloc (.cells #[.int .i64 f.kind,.string f.text,.string f.mod,.int .i64 f.num,f.kv,.int .i64 f.at_] t)) f:=by
 refine ⟨Below.alloc0 w _,fun q hq=>?_⟩
 match q,hq with
 | 0,_=>simp [Nd.cells]
 | 1,_=>simp [Nd.cells]
 | 2,_=>simp [Nd.cells]
 | 3,_=>simp [Nd.cells]
 | 4,_=>simp [Nd.cells]
 | 5,_=>simp [Nd.cells]
theorem take_step {l m:List Int} {k:Nat} (h1:k < l.length) (h2:k < m.length) (h:l.take k=m.take k) (e:l[k]=m[k]):l.take (k+1)=m.take (k+1):=by
 rw [List.take_succ_eq_append_getElem h1,List.take_succ_eq_append_getElem h2,h,e]
structure FmAt (w:World) (Fv:Value) (F:List Nd):Prop where
 nodes:NodesAt w Fv F
 klt:∀ j (h:j < F.length) k,blk F[j].kv k→k < w.heap.size
theorem FmAt.turned {S:Nat→Prop} {w w':World} {Fv:Value} {F:List Nd} (h:FmAt w Fv F) (T:Turned S w w') (hn:∀ k,blk Fv k→¬ S k) (hk:∀ j (h:j < F.length) k,blk F[j].kv k→¬ S k):FmAt w' Fv F:=
 ⟨h.nodes.turned T hn hk,fun j hj k hb=>Nat.lt_of_lt_of_le (h.klt j hj k hb) T.size⟩
theorem FmAt.below {w w':World} {Fv:Value} {F:List Nd} (h:FmAt w Fv F) (hb:Below w.heap.size w w'):FmAt w' Fv F:=h.turned (Turned.ofBelow (S:=fun _=>False) hb) (fun _ _ e=>e) (fun _ _ _ _ e=>e)
theorem FmAt.snoc {w w2 w4:World} {Fv V4:Value} {F:List Nd} {f:Nd} (h:FmAt w Fv F) (hk:SlI w f.kv f.kids) (hk1:∀ k,blk f.kv k→¬ blk Fv k∧k < w.heap.size) (hb:Below w.heap.size w w2) (ho:OwnK 6 w4 V4 (F.length+1) (nds F++f.cells)) (T:Turned (blk Fv) w2 w4) (hv:∀ q,blk V4 q→blk Fv q∨q=w2.heap.size) :
  FmAt w4 V4 (F++[f])∧Turned (blk Fv) w w4∧∀ k,blk V4 k→blk Fv k∨w.heap.size≤k:=by
 have hz:=hb.size
 have T2:Turned (blk Fv) w w4:=(Turned.ofBelow (S:=blk Fv) hb).trans T (fun _ e=>.inl e)
 have hz2:=T2.size
 have hnd:∀ j (hj:j < (F++[f]).length),SlI w (F++[f])[j].kv (F++[f])[j].kids∧∀ k,blk (F++[f])[j].kv k→¬ blk Fv k∧k < w.heap.size:=fun j hj=>by
  by_cases hjn:j < F.length
  ·rw [List.getElem_append_left hjn]
   exact ⟨h.nodes.kid j hjn,fun k hk=>⟨h.nodes.off j hjn k hk,h.klt j hjn k hk⟩⟩
  ·have e:j=F.length:=by simp at hj; omega
   subst e
   simp only [List.getElem_append_right (Nat.le_refl _),Nat.sub_self,List.getElem_cons_zero]
   exact ⟨hk,hk1⟩
 refine ⟨⟨⟨?_,fun j hj=>SlK.turned (hnd j hj).1 T2 (fun k hk=>((hnd j hj).2 k hk).1),fun j hj k hk e=>(hv k e).elim ((hnd j hj).2 k hk).1 (fun e=>by have:=((hnd j hj).2 k hk).2; omega)⟩,fun j hj k hk=>Nat.lt_of_lt_of_le ((hnd j hj).2 k hk).2 hz2⟩,T2,fun k e=>(hv k e).elim .inl (fun e=>.inr (by omega))⟩
 rw [nds_snoc]
 simpa using ho
def ClassTold (w:World) (Fv:Value) (F:List Nd) (f:Nd) (x:Ending) (w':World):Prop:=
 (∃ j,∃ h:j < F.length,formB F[j] f=true∧x=.returned (.tuple #[.int .i64 (j:Nat),Fv])∧Below w.heap.size w w') ∨
 ((∀ j (h:j < F.length),formB F[j] f=false)∧∃ Fv',x=.returned (.tuple #[.int .i64 (F.length:Nat),Fv'])∧FmAt w' Fv' (F++[f])∧Turned (blk Fv) w w'∧∀ k,blk Fv' k→blk Fv k∨w.heap.size≤k)
theorem ref_class {w:World} {Fv:Value} {F:List Nd} {f:Nd} (hF:FmAt w Fv F) (hk:SlI w f.kv f.kids) (hk1:∀ k,blk f.kv k→¬ blk Fv k∧k < w.heap.size) (hl:F.length≤16777216) (hfk:f.kids.length≤16777216) :
  Calls Tryz.prog 83 #[Fv,f.val] w (ClassTold w Fv F f):=by
 obtain ⟨aK,cK,hkv⟩:=SlI.form hk
 obtain ⟨aF,cF,hFv,_⟩:=hF.nodes.own.sl.form
 have HF:=Hid.mk7 (And.intro hF (And.intro hk hk1))
 have HL:=Hid.mk7 (And.intro hl hfk)
 clear hF hk hk1 hl hfk
 subst hFv
 obtain ⟨nk,nt,nm,nn,kv,kids,na⟩:=f
 simp only at hkv
 subst hkv
 simp only [Nd.val]
 go_enter Tryz.func83,Tryz.ntmps83
 go_wp2_with fail
 go_loopw [6] (fun ix wr=>∃ j:Nat,j≤F.length∧ix=.int .i64 j∧(∀ t (h:t < F.length),t < j→formB F[t] ⟨nk,nt,nm,nn,.slice aK kids.length cK,kids,na⟩=false)∧Bx w wr ⟨nk,nt,nm,nn,.slice aK kids.length cK,kids,na⟩) (fun ix _=>F.length - (intOf ix).toNat)
 case atStart=>exact ⟨0,Nat.zero_le _,rfl,fun t _ h=>absurd h (Nat.not_lt_zero t),Bx.new w ⟨nk,nt,nm,nn,.slice aK kids.length cK,kids,na⟩ _⟩
 case round=>
  obtain ⟨j,hj,rfl,hno,hB⟩:=hrel
  by_cases hlt:j < F.length
  ·have hji:(j:Int) < (F.length:Int):=by omega
   have hFl:(F.length:Int)≤16777216:=by have:=HL.out.1; omega
   obtain ⟨bF,oF,cF',eF,hc⟩:=(HF.out.1.nodes.below hB.bel).all j hlt
   simp only [Value.slice.injEq,true_and] at eF
   obtain ⟨rfl,rfl⟩:=eF
   obtain ⟨aX,cX,hkx⟩:=SlI.form (HF.out.1.nodes.kid j hlt)
   have x0:=hc 0 (by decide)
   have x1:=hc 1 (by decide)
   have x2:=hc 2 (by decide)
   have x3:=hc 3 (by decide)
   have x4:=hc 4 (by decide)
   have x5:=hc 5 (by decide)
   have y0:=hB.box 0 (by decide)
   have y1:=hB.box 1 (by decide)
   have y2:=hB.box 2 (by decide)
   have y3:=hB.box 3 (by decide)
   have y4:=hB.box 4 (by decide)
   have y5:=hB.box 5 (by decide)
   simp only [Nd.cells,List.getElem?_cons_zero,List.getElem?_cons_succ,Nat.add_zero] at x0 x1 x2 x3 x4 x5 y0 y1 y2 y3 y4 y5
   rw [hkx] at x4
   have hwlt:=hB.lt
   have HN:=Hid.mk7 (And.intro hno hB)
   clear hno hB hc
   have hcase:(lookB F[j] ⟨nk,nt,nm,nn,.slice aK kids.length cK,kids,na⟩=true∧F[j].kind=nk∧F[j].text.toList=nt.toList∧F[j].mod.toList=nm.toList∧F[j].num=nn∧(F[j].kids.length:Int)=(kids.length:Int))∨(lookB F[j] ⟨nk,nt,nm,nn,.slice aK kids.length cK,kids,na⟩=false∧(¬ F[j].kind=nk∨(F[j].kind=nk∧¬ F[j].text.toList=nt.toList)∨(F[j].kind=nk∧F[j].text.toList=nt.toList∧¬ F[j].mod.toList=nm.toList)∨(F[j].kind=nk∧F[j].text.toList=nt.toList∧F[j].mod.toList=nm.toList∧¬ F[j].num=nn)∨(F[j].kind=nk∧F[j].text.toList=nt.toList∧F[j].mod.toList=nm.toList∧F[j].num=nn∧¬ (F[j].kids.length:Int)=(kids.length:Int)))):=by
    unfold lookB
    by_cases e1:F[j].kind=nk <;> by_cases e2:F[j].text.toList=nt.toList <;> by_cases e3:F[j].mod.toList=nm.toList <;> by_cases e4:F[j].num=nn <;> by_cases e5:(F[j].kids.length:Int)=(kids.length:Int) <;> simp [e1,e2,e3,e4,e5] <;> omega
   have HM:=Hid.mk7 (And.intro hkx (HF.out.1.nodes.kid j hlt))
   clear hkx
   rcases hcase with ⟨hlk,e1,e2,e3,e4,e5⟩ | ⟨hlk,hcs⟩
   ·have HK:=Hid.mk7 hlk
    clear hlk
    have hlen:F[j].kids.length=kids.length:=by omega
    rw [hlen] at x4
    have hkl:(kids.length:Int)≤16777216:=by have:=HL.out.2; omega
    have HE:=Hid.mk7 hlen
    clear hlen e5
    go_wp2_with fail
    go_loopw [8,9] (fun sv ix wr2=>∃ (k:Nat) (b:Bool),k≤kids.length∧ix=.int .i64 k∧sv=.bool b∧(b=true→F[j].kids.take k=kids.take k)∧(b=false→¬ F[j].kids=kids)∧Bx wr wr2 ⟨nk,F[j].text,F[j].mod,nn,.slice aX kids.length cX,F[j].kids,F[j].at_⟩) (fun _ ix _=>kids.length - (intOf ix).toNat)
    case atStart=>exact ⟨0,true,Nat.zero_le _,rfl,rfl,fun _=>by (simp),fun h=>by (cases h),Bx.new wr ⟨nk,F[j].text,F[j].mod,nn,.slice aX kids.length cX,F[j].kids,F[j].at_⟩ _⟩
    case round=>
     clear x0 x1 x2 x3 x4 x5 y0 y1 y2 y3 y4 y5 e1 e2 e3 e4
     obtain ⟨k,b,hk,rfl,rfl,ht,hf,hB2⟩:=hrel
     have hBf:=HN.out.2.below hB2.bel
     have z4:=hB2.box 4 (by decide)
     have y4:=hBf.box 4 (by decide)
     simp only [Nd.cells,List.getElem?_cons_zero,List.getElem?_cons_succ] at z4 y4
     cases b with
     | false=>
      have H2:=Hid.mk7 (And.intro (hf rfl) hBf)
      clear ht hf hBf hB2
      go_wp2
      go_roundw
      case rel=>
       refine ⟨j+1,by omega,by go_num,fun t ht htj=>?_,H2.out.2⟩
       by_cases e:t=j
       ·subst e; unfold formB; rw [HK.out]; simpa using H2.out.1
       ·exact HN.out.1 t ht (by omega)
      case measure=>simp [intOf]; omega
     | true=>
      by_cases hkk:k < kids.length
      ·have hkki:(k:Int) < (kids.length:Int):=by omega
       have hkx:k < F[j].kids.length:=by rw [HE.out]; exact hkk
       have hkx1:=HM.out.1
       have sX:=SlI.any (HM.out.2) (by have:=HE.out; omega)
       rw [hkx1] at sX
       obtain ⟨gX,oX,hgX,cX1⟩:=((sX.below HN.out.2.bel).below hB2.bel).at k hkx
       have sK:=SlI.any (HF.out.2.1) (by omega)
       obtain ⟨gK,oK,hgK,cK1⟩:=(sK.below hBf.bel).at k hkk
       subst hgX hgK
       have H2:=Hid.mk7 (And.intro hBf (And.intro hB2 (ht rfl)))
       clear ht hf hBf hB2 sX sK hkx1
       by_cases he:F[j].kids[k]=kids[k]
       ·have H3:=Hid.mk7 (And.intro hkx he)
        rw [he] at cX1
        clear he
        go_wp2_with fail
        go_quiet (fail)
        go_wp2
        go_roundw
        case rel=>exact ⟨k+1,true,by omega,by go_num,by simp,fun _=>take_step H3.out.1 hkk H2.out.2.2 H3.out.2,fun h=>by (cases h),H2.out.2.1.below (drewN_below _ _)⟩
        case measure=>simp [intOf]; omega
       ·have H3:=Hid.mk7 (And.intro hkx he)
        generalize F[j].kids[k]=xk at cX1 he
        generalize kids[k]=yk at cK1 he
        go_wp2_with fail
        go_quiet (fail)
        go_wp2
        go_roundw
        case rel=>exact ⟨k+1,false,by omega,by go_num,by (simpa using he),fun h=>by (cases h),fun _ h=>H3.out.2 (by simp [h]),H2.out.2.1.below (drewN_below _ _)⟩
        case measure=>simp [intOf]; omega
      ·have hge:¬ (k:Int) < (kids.length:Int):=by omega
       have H2:=Hid.mk7 (And.intro hBf (ht rfl))
       clear ht hf hBf hB2
       go_wp2
       go_ret2
       refine .inl ⟨j,hlt,?_,rfl,H2.out.1.bel⟩
       unfold formB
       rw [HK.out]
       have h3:=H2.out.2
       rw [List.take_of_length_le (by have:=HE.out; omega),List.take_of_length_le (by omega)] at h3
       simpa using h3
   ·have HK:=Hid.mk7 hlk
    clear hlk
    rcases hcs with h1 | ⟨h1,h2⟩ | ⟨h1,h2,h3⟩ | ⟨h1,h2,h3,h4⟩ | ⟨h1,h2,h3,h4,h5⟩
    all_goals
     go_wp2_with fail
     refine wp_loop_rounds 1 ?_
     rw [rounds_succ]
     go_wp2
     go_roundw
     case rel=>
      refine ⟨j+1,by omega,by go_num,fun t ht htj=>?_,HN.out.2.below ?_⟩
      ·by_cases e:t=j
       ·subst e; unfold formB; rw [HK.out]; rfl
       ·exact HN.out.1 t ht (by omega)
      ·exact Below.alloc0 _ _
     case measure=>simp [intOf]; omega
  ·have hge:¬ (j:Int) < (F.length:Int):=by omega
   have hFl:(F.length:Int)≤16777216:=by have:=HL.out.1; omega
   have y0:=hB.box 0 (by decide)
   have y1:=hB.box 1 (by decide)
   have y2:=hB.box 2 (by decide)
   have y3:=hB.box 3 (by decide)
   have y4:=hB.box 4 (by decide)
   have y5:=hB.box 5 (by decide)
   simp only [Nd.cells,List.getElem?_cons_zero,List.getElem?_cons_succ] at y0 y1 y2 y3 y4 y5
   have HO:=Hid.mk7 (fun o=>(HF.out.1.nodes.below hB.bel).own.turned (Turned.alloc (fun _=>False) wr o) (fun _ _ e=>e))
   have HX:=Hid.mk7 (SlK.nd wr ⟨nk,nt,nm,nn,.slice aK kids.length cK,kids,na⟩)
   have hone:∀ u∈(⟨nk,nt,nm,nn,.slice aK kids.length cK,kids,na⟩:Nd).cells,u.oneCell'=true:=Nd.cells_one _ rfl
   have hfit:(F.length+1)*80≤140737488355328:=by omega
   have HN:=Hid.mk7 (And.intro hno hB)
   clear hno hB
   go_wp2_with (at_builtin; refine wpList_append_k (by rfl) (.tmp 81) (.tmp 83) (by rfl) Tryz.nodeTypes (by rfl) (by rfl) (HO.out _) HX.out hone hfit (by omega) ?_; intro V4 w4 ho4 T4 hv4)
   have hs:=HF.out.1.snoc (f:=⟨nk,nt,nm,nn,.slice aK kids.length cK,kids,na⟩) HF.out.2.1 HF.out.2.2 (HN.out.2.bel.trans ((Below.alloc0 wr _).mono HN.out.2.bel.size)) ho4 T4 hv4
   have HS:=Hid.mk7 hs
   clear ho4 T4 hv4 hs
   go_wp2
   go_ret2
   exact .inr ⟨fun t ht=>HN.out.1 t ht (by omega),V4,rfl,HS.out.1,HS.out.2.1,HS.out.2.2⟩
abbrev Lb:=Option (Int × List UInt8 × List UInt8 × Int)
def FA (F:List Nd):List (Lb × List Nat):=F.map fun f=>(some f.lab,f.kids.map Int.toNat)
def cval:Option Nat→Int
 | none=>-1
 | some j=>j
theorem formB_iff (x f:Nd):formB x f=true↔x.lab=f.lab∧x.kids=f.kids:=by
 simp only [formB,lookB,Nd.lab,Bool.and_eq_true,decide_eq_true_eq,Prod.mk.injEq]
 constructor
 ·rintro ⟨⟨h1,h2,h3,h4,_⟩,h6⟩; exact ⟨⟨h1,h2,h3,h4⟩,h6⟩
 ·rintro ⟨⟨h1,h2,h3,h4⟩,h6⟩; exact ⟨⟨h1,h2,h3,h4,by rw [h6]⟩,h6⟩
theorem toNat_inj:∀ {a b:List Int},(∀ z∈a,0≤z)→(∀ z∈b,0≤z)→a.map Int.toNat=b.map Int.toNat→a=b
 | [],[],_,_,_=>rfl
 | [],_ :: _,_,_,h=>by simp at h
 | _ :: _,[],_,_,h=>by simp at h
 | x :: a,y :: b,h1,h2,h=>by
  simp only [List.map_cons,List.cons.injEq] at h
  have e1:=h1 x (by simp)
  have e2:=h2 y (by simp)
  rw [toNat_inj (fun z hz=>h1 z (by simp [hz])) (fun z hz=>h2 z (by simp [hz])) h.2,show x=y by omega]
structure Blw (G:Gr Lb) (off:Nat) (N:List Nd) (root:Nat) (bl:List Int):Prop where
 lab:∀ z (h:z < N.length),G.lab (off+z)=some N[z].lab
 kid:∀ z (h:z < N.length),G.kid (off+z)=N[z].kids.map fun k=>off+k.toNat
 low:∀ z (h:z < N.length),G.low (off+z)=N[z].kids.all (lowB z)
 rise:bl.Pairwise (· < ·)
 has:(root:Int)∈bl
 le:∀ z∈bl,0≤z∧z≤(root:Int)
 shut:∀ z (h:z < N.length),(z:Int)∈bl→∀ k∈N[z].kids,lowB z k=true→k∈bl
 rt:root < N.length
theorem Blw.before {G:Gr Lb} {off:Nat} {N:List Nd} {root:Nat} {bl:List Int} (h:Blw G off N root bl) {i:Nat} (hi:i < bl.length) {k:Int} (hk:k∈bl) (hlt:k < bl[i]):∃ t,∃ ht:t < bl.length,t < i∧bl[t]=k:=by
 obtain ⟨t,ht,e⟩:=List.getElem_of_mem hk
 refine ⟨t,ht,?_,e⟩
 rcases Nat.lt_trichotomy t i with h1 | h1 | h1
 ·exact h1
 ·subst h1; omega
 ·have:=(List.pairwise_iff_getElem.1 h.rise) i t hi ht h1
  omega
def Dn (D0:Nat→Prop) (off:Nat) (bl:List Int) (i:Nat) (x:Nat):Prop:=D0 x∨∃ t,∃ ht:t < bl.length,t < i∧x=off+bl[t].toNat
structure CS (G:Gr Lb) (off:Nat) (D0:Nat→Prop) (c0:Nat→Option Nat) (bl:List Int) (B M:Nat) (i:Nat) (c:Nat→Option Nat) (h:List Int) (F:List Nd):Prop where
 ci:CI G c (FA F) (Dn D0 off bl i)
 nn:∀ f∈F,∀ z∈f.kids,0≤z
 hv:∀ t (ht:t < bl.length),t < i→h[bl[t].toNat]? = some (cval (c (off+bl[t].toNat)))
 len:F.length≤B+i
 keep:∀ x,x < off→c x=c0 x
theorem Dn.fresh {G:Gr Lb} {off:Nat} {N:List Nd} {root:Nat} {bl:List Int} {D0:Nat→Prop} (hB:Blw G off N root bl) (hD:∀ x,D0 x→x < off) {i z:Nat} (hi:i < bl.length) (hz:bl[i]=(z:Int)):¬ Dn D0 off bl i (off+z):=by
 rintro (h | ⟨t,ht,hti,e⟩)
 ·have:=hD _ h; omega
 ·have:=(List.pairwise_iff_getElem.1 hB.rise) t i ht hi hti
  have:=(hB.le _ (List.getElem_mem ht)).1
  omega
theorem Dn.succ {D0:Nat→Prop} {off:Nat} {bl:List Int} {i z:Nat} (hi:i < bl.length) (hz:bl[i]=(z:Int)):Dn D0 off bl (i+1)=fun x=>Dn D0 off bl i x∨x=off+z:=by
 funext x
 refine propext ⟨?_,?_⟩
 ·rintro (h | ⟨t,ht,hti,e⟩)
  ·exact .inl (.inl h)
  ·by_cases h1:t=i
   ·subst h1; exact .inr (by rw [e,hz]; simp)
   ·exact .inl (.inr ⟨t,ht,by omega,e⟩)
 ·rintro ((h | ⟨t,ht,hti,e⟩) | h)
  ·exact .inl h
  ·exact .inr ⟨t,ht,by omega,e⟩
  ·exact .inr ⟨i,hi,by omega,by rw [h,hz]; simp⟩
theorem CS.kid {G:Gr Lb} {off:Nat} {N:List Nd} {root:Nat} {bl:List Int} {D0:Nat→Prop} {c0 c:Nat→Option Nat} {B M i z:Nat} {h:List Int} {F:List Nd} (hC:CS G off D0 c0 bl B M i c h F) (hB:Blw G off N root bl) (hi:i < bl.length) (hz:bl[i]=(z:Int)) (hzN:z < N.length) {k:Int} (hk:k∈N[z].kids) (hlow:lowB z k=true) :
  Dn D0 off bl i (off+k.toNat)∧h[k.toNat]? = some (cval (c (off+k.toNat))):=by
 have h1:=hB.shut z hzN (by rw [← hz]; exact List.getElem_mem hi) k hk hlow
 have h2:0≤k∧k < (z:Int):=by simpa [lowB] using hlow
 obtain ⟨t,ht,hti,e⟩:=hB.before hi h1 (by rw [hz]; exact h2.2)
 refine ⟨.inr ⟨t,ht,hti,by rw [e]⟩,?_⟩
 have:=hC.hv t ht hti
 rwa [e] at this
theorem CS.hvNext {off:Nat} {bl:List Int} {i z:Nat} {c:Nat→Option Nat} {h:List Int} {v:Option Nat} (hv:∀ t (ht:t < bl.length),t < i→h[bl[t].toNat]? = some (cval (c (off+bl[t].toNat)))) (hr:bl.Pairwise (· < ·)) (hn:∀ z∈bl,0≤z) (hi:i < bl.length) (hz:bl[i]=(z:Int)) (hzh:z < h.length) :
  ∀ t (ht:t < bl.length),t < i+1→(h.set z (cval v))[bl[t].toNat]? = some (cval (putC c (off+z) v (off+bl[t].toNat))):=by
 intro t ht hti
 by_cases e:t=i
 ·subst e
  rw [hz]
  simp [putC,hzh]
 ·have h1:=(List.pairwise_iff_getElem.1 hr) t i ht hi (by omega)
  have h2:=hn _ (List.getElem_mem ht)
  rw [List.getElem?_set_ne (by omega),hv t ht (by omega)]
  have:¬ bl[t].toNat=z:=by omega
  simp [putC,this]
section
variable {G:Gr Lb} {off:Nat} {N:List Nd} {root:Nat} {bl:List Int} {D0:Nat→Prop} {c0 c:Nat→Option Nat} {B M i z:Nat} {h:List Int} {F:List Nd}
theorem CS.bad (hC:CS G off D0 c0 bl B M i c h F) (hB:Blw G off N root bl) (hD:∀ x,D0 x→x < off) (hi:i < bl.length) (hz:bl[i]=(z:Int)) (hzN:z < N.length) (hzh:z < h.length)
  (hb:∃ k∈N[z].kids,lowB z k=false∨(lowB z k=true∧c (off+k.toNat)=none)):CS G off D0 c0 bl B M (i+1) (putC c (off+z) none) (h.set z (-1)) F:=by
 refine ⟨?_,hC.nn,CS.hvNext (v:=none) hC.hv hB.rise (fun z hz=>(hB.le z hz).1) hi hz hzh,by have:=hC.len; omega,fun x hx=>?_⟩
 ·rw [Dn.succ hi hz]
  refine hC.ci.bad (Dn.fresh hB hD hi hz) ?_
  obtain ⟨k,hk,h1 | ⟨h1,h2⟩⟩:=hb
  ·left
   rw [hB.low z hzN]
   exact Bool.eq_false_iff.2 fun h3=>by rw [List.all_eq_true.1 h3 k hk] at h1; cases h1
  ·right
   exact ⟨off+k.toNat,by rw [hB.kid z hzN]; exact List.mem_map.2 ⟨k,hk,rfl⟩,(hC.kid hB hi hz hzN hk h1).1,h2⟩
 ·have:¬ x=off+z:=by omega
  simp [putC,this,hC.keep x hx]
structure Good (N:List Nd) (z off:Nat) (hz:z < N.length) (c:Nat→Option Nat) (ks:List Int) (k:Nat):Prop where
 len:ks.length=k
 le:k≤N[z].kids.length
 low:∀ t (h:t < N[z].kids.length),t < k→lowB z N[z].kids[t]=true
 cls:∀ t (h:t < N[z].kids.length) (h2:t < ks.length),c (off+N[z].kids[t].toNat)=some ks[t].toNat
 nn:∀ x∈ks,0≤x
theorem Good.start {hz:z < N.length}:Good N z off hz c [] 0:=⟨rfl,Nat.zero_le _,fun _ _ h=>by omega,fun _ _ h=>by simp at h,fun _ h=>by cases h⟩
theorem Good.next {hz:z < N.length} {ks:List Int} {k:Nat} (hg:Good N z off hz c ks k) (hk:k < N[z].kids.length) (hl:lowB z N[z].kids[k]=true) {q:Nat} (hc:c (off+N[z].kids[k].toNat)=some q):Good N z off hz c (ks++[(q:Int)]) (k+1):=by
 have hl0:=hg.len
 refine ⟨by simp [hl0],hk,fun t h1 h2=>?_,fun t h1 h2=>?_,fun x hx=>?_⟩
 ·by_cases e:t=k
  ·subst e; exact hl
  ·exact hg.low t h1 (by omega)
 ·by_cases e:t < ks.length
  ·rw [List.getElem_append_left e]; exact hg.cls t h1 e
  ·have e2:t=ks.length:=by simp at h2; omega
   subst e2
   simp only [List.getElem_append_right (Nat.le_refl _),Nat.sub_self,List.getElem_cons_zero,Int.toNat_natCast]
   simp only [hl0]
   exact hc
 ·rcases List.mem_append.1 hx with hx | hx
  ·exact hg.nn x hx
  ·simp at hx; omega
theorem Good.done {hz:z < N.length} {ks:List Int} (hg:Good N z off hz c ks N[z].kids.length) (hB:Blw G off N root bl):G.low (off+z)=true∧(G.kid (off+z)).map c=(ks.map Int.toNat).map some:=by
 refine ⟨(hB.low z hz).trans (List.all_eq_true.2 fun k hk=>?_),?_⟩
 ·obtain ⟨t,ht,rfl⟩:=List.getElem_of_mem hk
  exact hg.low t ht ht
 ·rw [hB.kid z hz]
  refine List.ext_getElem (by simp [hg.len]) fun t h1 h2=>?_
  simp only [List.getElem_map]
  exact hg.cls t (by simpa using h1) (by simpa using h2)
theorem FA_get {F:List Nd} {j:Nat} (hj:j < F.length):(FA F)[j]? = some (some F[j].lab,F[j].kids.map Int.toNat):=by simp [FA,hj]
theorem CS.old (hC:CS G off D0 c0 bl B M i c h F) (hB:Blw G off N root bl) (hD:∀ x,D0 x→x < off) (hi:i < bl.length) (hz:bl[i]=(z:Int)) (hzN:z < N.length) (hzh:z < h.length) {ks:List Int} (hg:Good N z off hzN c ks N[z].kids.length)
  {f:Nd} (hfl:f.lab=N[z].lab) (hfk:f.kids=ks) {j:Nat} (hj:j < F.length) (he:formB F[j] f=true):CS G off D0 c0 bl B M (i+1) (putC c (off+z) (some j)) (h.set z (j:Int)) F:=by
 obtain ⟨g1,g2⟩:=hg.done hB
 obtain ⟨e1,e2⟩:=(formB_iff _ _).1 he
 refine ⟨?_,hC.nn,CS.hvNext (v:=some j) hC.hv hB.rise (fun z hz=>(hB.le z hz).1) hi hz hzh,by have:=hC.len; omega,fun x hx=>?_⟩
 ·rw [Dn.succ hi hz]
  refine hC.ci.old (Dn.fresh hB hD hi hz) g1 (fun k hk=>?_) g2 (by rw [FA_get hj,hB.lab z hzN,e1,hfl,e2,hfk])
  rw [hB.kid z hzN] at hk
  obtain ⟨q,hq,rfl⟩:=List.mem_map.1 hk
  have hlow:lowB z q=true:=by
   rw [hB.low z hzN] at g1
   exact List.all_eq_true.1 g1 q hq
  exact (hC.kid hB hi hz hzN hq hlow).1
 ·have:¬ x=off+z:=by omega
  simp [putC,this,hC.keep x hx]
theorem CS.more (hC:CS G off D0 c0 bl B M i c h F) (hB:Blw G off N root bl) (hD:∀ x,D0 x→x < off) (hi:i < bl.length) (hz:bl[i]=(z:Int)) (hzN:z < N.length) (hzh:z < h.length) {ks:List Int} (hg:Good N z off hzN c ks N[z].kids.length)
  {f:Nd} (hfl:f.lab=N[z].lab) (hfk:f.kids=ks) (he:∀ j (hj:j < F.length),formB F[j] f=false):CS G off D0 c0 bl B M (i+1) (putC c (off+z) (some F.length)) (h.set z (F.length:Int)) (F++[f]):=by
 obtain ⟨g1,g2⟩:=hg.done hB
 have hlow:∀ q∈N[z].kids,lowB z q=true:=fun q hq=>by
  rw [hB.low z hzN] at g1
  exact List.all_eq_true.1 g1 q hq
 have hFA:FA (F++[f])=FA F++[(some f.lab,f.kids.map Int.toNat)]:=by simp [FA]
 have hnew:CI G c (FA (F++[f])) (Dn D0 off bl i):=by
  rw [hFA]
  refine hC.ci.more (fun hm=>?_) (fun q hq=>?_)
  ·obtain ⟨x,hx,e⟩:=List.mem_map.1 hm
   obtain ⟨j,hj,rfl⟩:=List.getElem_of_mem hx
   have h1:=he j hj
   simp only [Prod.mk.injEq,Option.some.injEq] at e
   have h2:=(formB_iff F[j] f).2 ⟨e.1,toNat_inj (hC.nn _ hx) (by rw [hfk]; exact hg.nn) e.2⟩
   rw [h1] at h2
   cases h2
  ·simp only [hfk] at hq
   obtain ⟨x,hx,rfl⟩:=List.mem_map.1 hq
   obtain ⟨t,ht,rfl⟩:=List.getElem_of_mem hx
   have ht2:t < N[z].kids.length:=by have:=hg.len; omega
   have hc:=hg.cls t ht2 ht
   have hd:=(hC.kid hB hi hz hzN (List.getElem_mem ht2) (hlow _ (List.getElem_mem ht2))).1
   obtain ⟨_,h3,_⟩:=hC.ci.has _ _ hd hc
   exact (List.getElem?_eq_some_iff.1 h3).1
 refine ⟨?_,fun f' hf z hz=>?_,CS.hvNext (v:=some F.length) hC.hv hB.rise (fun z hz=>(hB.le z hz).1) hi hz hzh,by have:=hC.len; simp; omega,fun x hx=>?_⟩
 ·rw [Dn.succ hi hz]
  refine hnew.old (Dn.fresh hB hD hi hz) g1 (fun k hk=>?_) g2 (by rw [FA_get (by simp),hB.lab z hzN]; simp [hfl,hfk])
  rw [hB.kid z hzN] at hk
  obtain ⟨q,hq,rfl⟩:=List.mem_map.1 hk
  exact (hC.kid hB hi hz hzN hq (hlow q hq)).1
 ·rcases List.mem_append.1 hf with hf | hf
  ·exact hC.nn f' hf z hz
  ·simp at hf
   subst hf
   exact hg.nn z (by rw [← hfk]; exact hz)
 ·have:¬ x=off+z:=by omega
  simp [putC,this,hC.keep x hx]
theorem CS.rooted (hC:CS G off D0 c0 bl B M bl.length c h F) (hB:Blw G off N root bl):Dn D0 off bl bl.length (off+root)∧h[root]? = some (cval (c (off+root))):=by
 obtain ⟨t,ht,e⟩:=List.getElem_of_mem hB.has
 have:=hC.hv t ht ht
 rw [e] at this
 exact ⟨.inr ⟨t,ht,ht,by rw [e]; simp⟩,by simpa using this⟩
end
theorem HtAt.turned {S:Nat→Prop} {w w':World} {g:Nat} {h:List Int} (hh:HtAt w g h) (T:Turned S w w') (hs:¬ S g):HtAt w' g h:=
 ⟨Nat.lt_of_lt_of_le hh.lt T.size,fun j hj=>⟨T.cell (hh.c j hj).1 hs,by rw [T.frozen (p:=⟨g,j,none⟩) hh.lt hs]; exact (hh.c j hj).2⟩⟩
theorem HtAt.below {w w':World} {g:Nat} {h:List Int} (hh:HtAt w g h) (hb:Below w.heap.size w w'):HtAt w' g h:=hh.turned (Turned.ofBelow (S:=fun _=>False) hb) (fun e=>e)
structure CM (w0 w wr:World) (Fv0:Value) (g root:Nat) (bv:Value) (bl:List Int) (Fv:Value) (h:List Int) (F:List Nd):Prop where
 ht:HtAt wr g h
 hl:h.length=root+1
 fm:FmAt wr Fv F
 fg:¬ blk Fv g
 kg:∀ j (hj:j < F.length) k,blk F[j].kv k→k≠g
 bs:SlA wr bv bl
 bg:∀ k,blk bv k→k≠g∧¬ blk Fv k∧k < wr.heap.size
 T:Turned (blk Fv0) w wr
 nF:∀ k,blk Fv k→blk Fv0 k∨w.heap.size≤k
 gw:w.heap.size≤g
 bel:Below w0.heap.size w0 wr
 g0:w0.heap.size≤g
 f0:∀ k,blk Fv k→w0.heap.size≤k
section
variable {w0 w wr w5:World} {Fv0:Value} {g root:Nat} {bv:Value} {bl:List Int} {Fv:Value} {h:List Int} {F:List Nd}
theorem CM.put (m:CM w0 w wr Fv0 g root bv bl Fv h F) {z:Nat} (hz:z < h.length) (v:Int):CM w0 w (wr.setCell ⟨g,z,none⟩ (.int .i64 v)) Fv0 g root bv bl Fv (h.set z v) F:=by
 have T1:=Turned.set1 wr g z (.int .i64 v)
 exact ⟨m.ht.set z hz v,by simpa using m.hl,m.fm.turned T1 (fun k hk e=>m.fg (e ▸ hk)) (fun j hj k hk e=>m.kg j hj k hk e),m.fg,m.kg,m.bs.turned T1 (fun _ k hk e=>(m.bg k hk).1 e),fun k hk=>⟨(m.bg k hk).1,(m.bg k hk).2.1,Nat.lt_of_lt_of_le (m.bg k hk).2.2 T1.size⟩,m.T.trans T1 (fun k e=>.inr (e ▸ m.gw)),m.nF,m.gw,m.bel.trans (T1.below m.bel.size (fun k e=>e ▸ m.g0)),m.g0,m.f0⟩
theorem CM.below (m:CM w0 w wr Fv0 g root bv bl Fv h F) (hb:Below wr.heap.size wr w5):CM w0 w w5 Fv0 g root bv bl Fv h F:=by
 have hz:=hb.size
 exact ⟨m.ht.below hb,m.hl,m.fm.below hb,m.fg,m.kg,m.bs.below hb,fun k hk=>⟨(m.bg k hk).1,(m.bg k hk).2.1,by have:=(m.bg k hk).2.2; omega⟩,m.T.trans (Turned.ofBelow (S:=fun _=>False) hb) (fun _ e=>e.elim),m.nF,m.gw,m.bel.trans (hb.mono m.bel.size),m.g0,m.f0⟩
theorem CM.grown (m:CM w0 w wr Fv0 g root bv bl Fv h F) {Fv':Value} {f:Nd} (hF:FmAt w5 Fv' (F++[f])) (T1:Turned (blk Fv) wr w5) (hv:∀ k,blk Fv' k→blk Fv k∨wr.heap.size≤k) (hk:∀ k,blk f.kv k→k≠g):CM w0 w w5 Fv0 g root bv bl Fv' h (F++[f]):=by
 have hz:=T1.size
 have hg:=m.ht.lt
 have hz0:=m.T.size
 have hz1:=m.bel.size
 refine ⟨m.ht.turned T1 m.fg,m.hl,hF,fun e=>(hv g e).elim m.fg (fun e=>by omega),fun j hj k hk'=>?_,m.bs.turned T1 (fun _ k hk=>(m.bg k hk).2.1),fun k hk=>⟨(m.bg k hk).1,fun e=>(hv k e).elim (m.bg k hk).2.1 (fun e=>by have:=(m.bg k hk).2.2; omega),by have:=(m.bg k hk).2.2; omega⟩,m.T.trans T1 (fun k e=>m.nF k e),fun k e=>(hv k e).elim (m.nF k) (fun e=>.inr (by omega)),m.gw,m.bel.trans (T1.below m.bel.size m.f0),m.g0,fun k e=>(hv k e).elim (m.f0 k) (fun e=>by omega)⟩
 by_cases hjn:j < F.length
 ·rw [List.getElem_append_left hjn] at hk'
  exact m.kg j hjn k hk'
 ·have e:j=F.length:=by simp at hj; omega
  subst e
  simp only [List.getElem_append_right (Nat.le_refl _),Nat.sub_self,List.getElem_cons_zero] at hk'
  exact hk k hk'
end
structure FK (wb wr:World) (n:Nd) (V:Value) (ks:List Int):Prop where
 bx:Bx wb wr n
 f0:wr.cell? ⟨wb.heap.size+1,0,none⟩=some (.int .i64 n.kind)
 f1:wr.cell? ⟨wb.heap.size+1,1,none⟩=some (.string n.text)
 f2:wr.cell? ⟨wb.heap.size+1,2,none⟩=some (.string n.mod)
 f3:wr.cell? ⟨wb.heap.size+1,3,none⟩=some (.int .i64 n.num)
 f4:wr.cell? ⟨wb.heap.size+1,4,none⟩=some V
 f5:wr.cell? ⟨wb.heap.size+1,5,none⟩=some (.int .i64 0)
 fz:wr.frozen? ⟨wb.heap.size+1,4,none⟩=false
 own:OwnI wr V ks
 nw:∀ k,blk V k→wb.heap.size+1 < k
theorem FK.new (wb:World) (n:Nd) (t:TypeId):FK wb ((wb.alloc (.cells #[.int .i64 n.kind,.string n.text,.string n.mod,.int .i64 n.num,n.kv,.int .i64 n.at_] t)).alloc (.cells #[.int .i64 n.kind,.string n.text,.string n.mod,.int .i64 n.num,.slice none 0 0,.int .i64 0] t)) n (.slice none 0 0) []:=by
 have hs:(wb.alloc (.cells #[.int .i64 n.kind,.string n.text,.string n.mod,.int .i64 n.num,n.kv,.int .i64 n.at_] t)).heap.size=wb.heap.size+1:=by simp
 refine ⟨(Bx.new wb n t).below (Below.alloc0 _ _),?_,?_,?_,?_,?_,?_,?_,OwnK.nil 1 _,fun _ e=>e.elim⟩
 ·rw [← hs,World.cell?_alloc_at _ _ _ _ rfl]; simp
 ·rw [← hs,World.cell?_alloc_at _ _ _ _ rfl]; simp
 ·rw [← hs,World.cell?_alloc_at _ _ _ _ rfl]; simp
 ·rw [← hs,World.cell?_alloc_at _ _ _ _ rfl]; simp
 ·rw [← hs,World.cell?_alloc_at _ _ _ _ rfl]; simp
 ·rw [← hs,World.cell?_alloc_at _ _ _ _ rfl]; simp
 ·rw [← hs,World.frozen?_alloc_new]
theorem FK.lt {wb wr:World} {n:Nd} {V:Value} {ks:List Int} (h:FK wb wr n V ks):wb.heap.size+1 < wr.heap.size:=World.block_lt_of_cell? wr _ h.f0
theorem FK.below {wb wr w':World} {n:Nd} {V:Value} {ks:List Int} (h:FK wb wr n V ks) (hb:Below wr.heap.size wr w'):FK wb w' n V ks:=by
 have c:∀ (j:Nat) (v:Value),wr.cell? ⟨wb.heap.size+1,j,none⟩=some v→w'.cell? ⟨wb.heap.size+1,j,none⟩=some v:=fun j v e=>(hb.cell (p:=⟨wb.heap.size+1,j,none⟩) h.lt).trans e
 exact ⟨h.bx.below hb,c 0 _ h.f0,c 1 _ h.f1,c 2 _ h.f2,c 3 _ h.f3,c 4 _ h.f4,c 5 _ h.f5,(hb.frozen (p:=⟨wb.heap.size+1,4,none⟩) h.lt).trans h.fz,OwnK.turned h.own (Turned.ofBelow (S:=fun _=>False) hb) (fun _ _ e=>e),h.nw⟩
theorem FK.next {wb wr w3 w4:World} {n:Nd} {V V4:Value} {ks:List Int} {q:Int} (h:FK wb wr n V ks) (hb:Below wr.heap.size wr w3) (ho:OwnK 1 w4 V4 (ks.length+1) (ints ks++ints [q])) (T:Turned (blk V) w3 w4) (hv:∀ k,blk V4 k→blk V k∨k=w3.heap.size):FK wb (w4.setCell ⟨wb.heap.size+1,4,none⟩ V4) n V4 (ks++[q]):=by
 have h3:=h.below hb
 have hz:=hb.size
 have hlt:=h.lt
 have hnq:¬ blk V (wb.heap.size+1):=fun e=>by have:=h.nw _ e; omega
 have hnp:¬ blk V wb.heap.size:=fun e=>by have:=h.nw _ e; omega
 have hv4:∀ k,blk V4 k→wb.heap.size+1 < k:=fun k hk=>(hv k hk).elim (h.nw k) (fun e=>by omega)
 have c:∀ (j:Nat) (v:Value),w3.cell? ⟨wb.heap.size+1,j,none⟩=some v→w4.cell? ⟨wb.heap.size+1,j,none⟩=some v:=fun j v e=>T.cell e hnq
 have o:∀ (j:Nat) (v:Value),4≠j→w3.cell? ⟨wb.heap.size+1,j,none⟩=some v→(w4.setCell ⟨wb.heap.size+1,4,none⟩ V4).cell? ⟨wb.heap.size+1,j,none⟩=some v:=fun j v hj e=>by
  rw [World.cell?_setCell_other _ _ _ _ (by simp; try omega)]; exact c j v e
 have T4:=Turned.set1 w4 (wb.heap.size+1) 4 V4
 have TT:Turned (fun k=>k=wb.heap.size+1∨blk V k) w3 (w4.setCell ⟨wb.heap.size+1,4,none⟩ V4):=(T.mono (fun _ e=>.inl (.inr e))).trans T4 (fun _ e=>.inl (.inl e))
 refine ⟨⟨?_,fun j hj=>?_⟩,o 0 _ (by decide) h3.f0,o 1 _ (by decide) h3.f1,o 2 _ (by decide) h3.f2,o 3 _ (by decide) h3.f3,World.cell?_setCell_same _ _ _ (c 4 _ h3.f4),o 5 _ (by decide) h3.f5,?_,OwnK.turned (OwnI.snoc ho) T4 (fun k hk e=>by have:=hv4 k hk; have e:k=wb.heap.size+1:=e; omega),hv4⟩
 ·refine h3.bx.bel.trans (TT.below h3.bx.bel.size (fun k e=>?_))
  rcases e with e | e
  ·omega
  ·have:=h.nw k e; omega
 ·have hj6:j < n.cells.length:=hj
  have e:=h3.bx.box j hj
  rw [List.getElem?_eq_getElem hj6] at e ⊢
  refine TT.cell e (fun e=>?_)
  rcases e with e | e
  ·simp at e
  ·exact hnp e
 ·rw [World.frozen?_setCell,T.frozen (p:=⟨wb.heap.size+1,4,none⟩) (by simp; omega) hnq]
  exact h3.fz
end Go.Proofs.YtlciaafincgdeaaGreatDoor
