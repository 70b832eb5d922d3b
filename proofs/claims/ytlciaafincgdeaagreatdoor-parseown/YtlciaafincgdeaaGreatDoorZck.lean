/-
  Layer 11 (parse), of lists alone: all nodes that a program's tokens have are below its root.
  Layer 11 (parse): the document's refusals; its bounds.
-/
import Derived.Test.YtlciaafincgdeaaGreatDoorZcc
import Derived.Test.YtlciaafincgdeaaGreatDoorZcd
namespace Go.Proofs.YtlciaafincgdeaaGreatDoor
open Go.RowKit
variable {B a root:Nat} {K:List (Value × List Int)} {T:List Tk} {c:Int} {lv v:Value} {t:Ps} {w:World}
set_option maxHeartbeats 3200000
set_option maxRecDepth 100000
theorem sorted_ext:∀ (l m:List Int),l.Pairwise (· < ·)→m.Pairwise (· < ·)→(∀ z,z∈l↔z∈m)→l=m
 | [],[],_,_,_=>rfl
 | [],b :: m,_,_,h=>by have:=(h b).2 (by simp); cases this
 | a :: l,[],_,_,h=>by have:=(h a).1 (by simp); cases this
 | a :: l,b :: m,hl,hm,h=>by
  obtain ⟨la,ll⟩:=List.pairwise_cons.1 hl
  obtain ⟨mb,mm⟩:=List.pairwise_cons.1 hm
  have e:a=b:=by
   rcases List.mem_cons.1 ((h a).1 (by simp)) with e | e
   ·exact e
   ·rcases List.mem_cons.1 ((h b).2 (by simp)) with e2 | e2
    ·exact e2.symm
    ·have:=mb a e
     have:=la b e2
     omega
  subst e
  rw [sorted_ext l m ll mm fun z=>?_]
  constructor
  ·intro hz
   rcases List.mem_cons.1 ((h z).1 (by simp [hz])) with e | e
   ·have:=la z hz; omega
   ·exact e
  ·intro hz
   rcases List.mem_cons.1 ((h z).2 (by simp [hz])) with e | e
   ·have:=mb z hz; omega
   ·exact e
def uptoN (n:Nat):List Int:=(List.range n).map Int.ofNat
theorem uptoN_length (n:Nat):(uptoN n).length=n:=by simp [uptoN]
theorem mem_uptoN (n:Nat) (z:Int):z∈uptoN n↔0≤z∧z < (n:Int):=by
 simp only [uptoN,List.mem_map,List.mem_range]
 constructor
 ·rintro ⟨k,h1,rfl⟩
  simp
  omega
 ·intro h
  exact ⟨z.toNat,by omega,by simp; omega⟩
theorem uptoN_sorted (n:Nat):(uptoN n).Pairwise (· < ·):=by
 unfold uptoN
 rw [List.pairwise_map]
 exact List.pairwise_lt_range.imp (fun h=>by simp; omega)
theorem below_all {n:Nat} {kids:Nat→List Int} (ha:a+1=n) (hU:∀ j,j < n→j=a∨∃ i,j < i∧i < n∧(j:Int)∈kids i):belowS n kids [(a:Int)]=uptoN n:=by
 obtain ⟨b1,b2,b3,b4⟩:=belowS_one n kids a (by omega)
 have all:∀ m j,n - j≤m→j < n→(j:Int)∈belowS n kids [(a:Int)]:=by
  intro m
  induction m with
  | zero=>intro j h1 h2; omega
  | succ m ih=>
   intro j h1 h2
   rcases hU j h2 with rfl | ⟨i,h3,h4,h5⟩
   ·exact b2
   ·exact b4 (i:Int) (ih i (by omega) h4) (j:Int) (by simpa using h5) (by omega) (by omega)
 refine sorted_ext _ _ b1 (uptoN_sorted n) fun z=>?_
 rw [mem_uptoN]
 constructor
 ·intro hz
  have:=b3 z hz
  omega
 ·intro hz
  have:=all n z.toNat (by omega) (by omega)
  have e:((z.toNat:Nat):Int)=z:=by omega
  rwa [e] at this
theorem treeOf_used (h:treeOf T=.ok (a,t)):a+1=t.N.length∧∀ j,j < t.N.length→j=a∨∃ i,j < i∧i < t.N.length∧(j:Int)∈kidsS t.N i:=by
 have hu:=u_programP T (8*T.length+1) 0 [] ⟨0,[]⟩ a t (fun j _ h2=>by simp at h2) h
 refine ⟨?_,fun j hj=>?_⟩
 ·unfold treeOf programP at h
  simp only [PM.bind,pTok] at h
  split at h
  ·cases h
  ·split at h
   ·cases h
   ·simp only [pAdd,Except.ok.injEq,Prod.mk.injEq] at h
    rw [← h.1,← h.2]
    simp
 ·rcases hu j (Nat.zero_le _) hj with e | ⟨i,h1,h2,h3⟩
  ·left
   simp at e
   omega
  ·exact .inr ⟨i,h1,h2,by simpa [kidsS,List.getElem?_eq_getElem h2] using h3⟩
theorem treeOf_below (h:treeOf T=.ok (a,t)):belowS t.N.length (kidsS t.N) [(a:Int)]=uptoN t.N.length:=below_all (treeOf_used h).1 (treeOf_used h).2
def LnkAt (B:Nat) (w:World) (v:Value) (a c:Int):Prop:=∃ g,B≤g∧v=.slice (some ⟨g,0,none⟩) 1 1∧w.cell? ⟨g,0,none⟩=some (.string ⟨#[112,97,114,115,101]⟩)∧w.cell? ⟨g,1,none⟩=some (.int .i64 a)∧w.cell? ⟨g,2,none⟩=some (.int .i64 c)
theorem LnkAt.mono {B':Nat} {a:Int} (h:LnkAt B w v a c) (hB:B'≤B):LnkAt B' w v a c:=by
 obtain ⟨g,h1,h2⟩:=h
 exact ⟨g,Nat.le_trans hB h1,h2⟩
theorem LnkAt.below {w':World} {a:Int} (h:LnkAt B w v a c) (hb:Below w.heap.size w w'):LnkAt B w' v a c:=by
 obtain ⟨g,h1,h2,h3,h4,h5⟩:=h
 have hl:=World.block_lt_of_cell? w _ h3
 exact ⟨g,h1,h2,(hb.cell (p:=⟨g,0,none⟩) hl).trans h3,(hb.cell (p:=⟨g,1,none⟩) hl).trans h4,(hb.cell (p:=⟨g,2,none⟩) hl).trans h5⟩
theorem r_one (ly:ByteArray) (a c:Int) (w:World):Calls Tryz.prog 32 #[.string ly,.int .i64 a,.int .i64 c] w fun e w'=>e=.returned (.slice (some ⟨w.heap.size,0,none⟩) 1 1)∧w'=w.alloc (.cells #[.string ly,.int .i64 a,.int .i64 c] 59):=by
 go_enter Tryz.func32,Tryz.ntmps32
 go_wp2
 go_ret
 exact ⟨rfl,rfl⟩
theorem r_no (a c:Int) (w:World):Calls Tryz.prog 24 #[.int .i64 a,.int .i64 c] w fun e w'=>∃ v,e=.returned v∧LnkAt w.heap.size w' v a c∧Below w.heap.size w w':=by
 have h1:=r_one ⟨#[112,97,114,115,101]⟩ a c w
 go_enter Tryz.func24,Tryz.ntmps24
 go_wp2_with fail
 refine h1.mono ?_
 rintro e w1 ⟨rfl,rfl⟩
 clear h1
 go_wp2
 go_ret
 exact ⟨_,rfl,⟨w.heap.size,Nat.le_refl _,rfl,by simp,by simp,by simp⟩,Below.alloc0 w _⟩
def BndTold (w:World) (o:Option Int) (x:Ending) (w':World):Prop:=
 match o with
 | none=>x=.returned (.slice none 0 0)∧Below w.heap.size w w'
 | some c=>∃ v,x=.returned v∧LnkAt w.heap.size w' v 0 c∧Below w.heap.size w w'
theorem rb_fits (hL:NArg w lv K) (hr:root+1=K.length) (hkid:∀ i < K.length,∀ k∈kidsOf K i,0≤k∧k < (i:Int)) (ht:K.length≤65536) :
  Calls Tryz.prog 28 #[lv,.int .i64 root] w (BndTold w (if 500 < lastH (kidsOf K) K.length (uptoN K.length) then some 221 else none)):=by
 obtain ⟨ol,hol⟩:∃ ol,(if 500 < lastH (kidsOf K) K.length (uptoN K.length) then some (221:Int) else none)=ol:=⟨_,rfl⟩
 rw [hol]
 have HO:=Hid.mk7 hol
 clear hol
 obtain ⟨aL,cL,hlv⟩:=hL.form
 subst hlv
 have HL:=Hid.mk7 hL
 have HK:=Hid.mk7 hkid
 have HR:=Hid.mk7 hr
 obtain ⟨w1,hmk,hb1,hz1,hB1⟩:=make_one Tryz.intTypes (by simp [Value.cells]) w K.length (by omega) (by omega)
 have HM:=Hid.mk7 (And.intro hb1 (And.intro hz1 (HtAt.new hB1 hz1)))
 have h65:¬ (65536:Int) < (K.length:Int):=by omega
 clear hL hb1 hz1 hB1 hkid hr
 go_enter Tryz.func28,Tryz.ntmps28
 go_wp2_with fail
 clear h65 hmk
 go_loopw [6] (fun ix wr=>∃ (j:Nat) (h:List Int),j≤K.length∧ix=.int .i64 j∧h.length=K.length∧(∀ x∈h,0≤x∧x≤(j:Int))∧heightsS (kidsOf K) ((uptoN K.length).drop j) h=heightsS (kidsOf K) (uptoN K.length) (List.replicate K.length 0)∧HtAt wr w.heap.size h∧Below w.heap.size w wr) (fun ix _=>K.length - (intOf ix).toNat)
 case atStart=>exact ⟨0,_,Nat.zero_le _,rfl,by simp,fun x hx=>by rw [List.mem_replicate] at hx; omega,rfl,HM.out.2.2,HM.out.1⟩
 case round=>
  clear HM
  obtain ⟨j,h,hj,rfl,hlen,hbd,hrest,hht,hb⟩:=hrel
  by_cases hlt:j < K.length
  ·have hji:(j:Int)≤(root:Int):=by have:=HR.out; omega
   have hjK:(j:Int) < (K.length:Int):=by omega
   obtain ⟨bL,oL,rfl,hck,hsk⟩:=(HL.out.below hb).at j hlt
   have hkd:=HK.out j hlt
   rw [kidsOf_at K j hlt] at hkd
   have hu:(uptoN K.length)[j]'(by rw [uptoN_length]; exact hlt)=(j:Int):=by simp [uptoN]
   have hstep:=heightsS_drop (kidsOf K) (uptoN K.length) j (by rw [uptoN_length]; exact hlt) h
   rw [hu,Int.toNat_natCast,kidsOf_at K j hlt] at hstep
   obtain ⟨ak,ck,hkv,hkl⟩:=hsk.form
   obtain ⟨kl,hkx⟩:∃ kl,K[j].2=kl:=⟨_,rfl⟩
   rw [hkx] at hkd hkv hkl hstep
   rw [hkv] at hck
   have HE:=Hid.mk7 (And.intro hkv hkx)
   obtain ⟨cj,fj⟩:=hht.c j (by omega)
   have hjh:j < h.length:=by omega
   have hgl:=hht.lt
   have hbl:=World.block_lt_of_cell? wr _ hck
   have H1:=Hid.mk7 (And.intro (hht.set j hjh (0+1)) (Turned.toBelow hb (Turned.set1 _ w.heap.size j (.int .i64 (0+1))) (Nat.le_refl _)))
   have HH:=Hid.mk7 (And.intro hbd (hrest.symm.trans hstep))
   have HD:=Hid.mk7 hkd
   have hnb:bL < w.heap.size:=by
    obtain ⟨b2,o2,e2,h2,_⟩:=HL.out.at j hlt
    simp only [Option.some.injEq,Addr.mk.injEq] at e2
    obtain ⟨rfl,rfl,_⟩:=e2
    exact World.block_lt_of_cell? w _ h2
   have hnb2:¬ bL=w.heap.size:=by omega
   clear hht hb hsk hstep hbd hrest hkd hkx hkv
   go_wp2_with fail
   go_loopw [7] (fun ix wr2=>∃ (i:Nat) (x:Int),i≤kl.length∧ix=.int .i64 i∧0≤x∧x≤(j:Int)∧highest h (kl.drop i) x=highest h kl 0∧HtAt wr2 w.heap.size (h.set j (x+1))∧Below w.heap.size w wr2) (fun ix _=>kl.length - (intOf ix).toNat)
   case atStart=>exact ⟨0,0,Nat.zero_le _,rfl,Int.le_refl _,by omega,rfl,H1.out.1,H1.out.2⟩
   case round=>
    clear H1 hck cj fj hgl hbl
    obtain ⟨i,x,hi,rfl,hxa,hxb,hrx,hht2,hb2⟩:=hrel
    obtain ⟨bL2,oL2,e2,hck,hsk2⟩:=(HL.out.below hb2).at j hlt
    simp only [Option.some.injEq,Addr.mk.injEq] at e2
    obtain ⟨rfl,rfl,_⟩:=e2
    rw [HE.out.1] at hck hsk2
    rw [HE.out.2] at hsk2
    have hgl:=hht2.lt
    have hjs:j < (h.set j (x+1)).length:=by simp; omega
    by_cases hil:i < kl.length
    ·have hili:(i:Int) < (kl.length:Int):=by omega
     obtain ⟨bk,ok,rfl,hc⟩:=hsk2.at i hil
     obtain ⟨hk0,hk1⟩:=HD.out kl[i] (List.getElem_mem hil)
     obtain ⟨y,hy⟩:∃ y:Nat,kl[i]=(y:Int):=⟨kl[i].toNat,by omega⟩
     have hyj:y < j:=by omega
     have hyK:y < h.length:=by omega
     have hyKi:(y:Int) < (K.length:Int):=by omega
     rw [hy] at hc
     obtain ⟨cy,fy⟩:=hht2.c y (by simp; omega)
     rw [List.getElem_set_ne (by omega)] at cy
     obtain ⟨cj,fj⟩:=hht2.c j hjs
     rw [List.getElem_set_self] at cj
     have hstep2:=highest_drop h kl i hil x
     rw [hy,Int.toNat_natCast] at hstep2
     have egd:(h[y]?).getD 0=h[y]:=by simp [hyK]
     rw [egd] at hstep2
     obtain ⟨hy0,hy1⟩:=HH.out.1 h[y] (List.getElem_mem hyK)
     have HX:=Hid.mk7 (hrx.symm.trans hstep2)
     generalize h[y]=z at cy hy0 hy1 HX
     have hcl:=World.block_lt_of_cell? _ _ hc
     have hkl2:=World.block_lt_of_cell? _ _ hck
     by_cases hz:x+1≤z
     ·have hmx:max x z=z:=by omega
      have HN:=Hid.mk7 (And.intro (hht2.set j hjs (z+1)) (Turned.toBelow hb2 (Turned.set1 _ w.heap.size j (.int .i64 (z+1))) (Nat.le_refl _)))
      have HMX:=Hid.mk7 hmx
      clear hrx hstep2 egd hy hk0 hk1 hht2 hb2 hmx hsk2
      go_wp2_with fail
      go_region
      all_goals
       go_wp2
       go_roundw
       case rel=>
        refine ⟨i+1,z,by omega,by go_num,by omega,by omega,?_,?_,HN.out.2.drew⟩
        ·have:=HX.out
         rw [HMX.out] at this
         exact this.symm
        ·have:=HN.out.1
         rw [List.set_set] at this
         exact ⟨this.lt,this.c⟩
       case measure=>simp [intOf]; omega
     ·have hmx:max x z=x:=by omega
      have HN:=Hid.mk7 (And.intro hht2 hb2)
      have HMX:=Hid.mk7 hmx
      have hz2:¬ x+1≤z:=hz
      clear hrx hstep2 egd hy hk0 hk1 hht2 hb2 hmx hsk2
      go_wp2_with fail
      go_region
      all_goals
       go_wp2
       go_roundw
       case rel=>
        refine ⟨i+1,x,by omega,by go_num,by omega,by omega,?_,?_,?_⟩
        ·have:=HX.out
         rw [HMX.out] at this
         exact this.symm
        ·exact ⟨HN.out.1.lt,HN.out.1.c⟩
        ·exact HN.out.2.drew
       case measure=>simp [intOf]; omega
    ·have hge:¬ (i:Int) < (kl.length:Int):=by omega
     have he:x=highest h kl 0:=by rw [← hrx,List.drop_of_length_le (by omega)]; rfl
     have HN:=Hid.mk7 (And.intro he (And.intro hht2 hb2))
     have hkl2:=World.block_lt_of_cell? _ _ hck
     clear hrx he hht2 hb2 hsk2
     go_wp2
     go_roundw
     case rel=>
      refine ⟨j+1,h.set j (x+1),by omega,by go_num,by simpa using hlen,fun y hy=>?_,?_,HN.out.2.1,HN.out.2.2⟩
      ·rcases List.mem_or_eq_of_mem_set hy with hy | rfl
       ·have:=HH.out.1 y hy; omega
       ·omega
      ·rw [HN.out.1]
       exact HH.out.2.symm
     case measure=>simp [intOf]; omega
  ·have hge:¬ (j:Int)≤(root:Int):=by have:=HR.out; omega
   have he:h=heightsS (kidsOf K) (uptoN K.length) (List.replicate K.length 0):=by rw [← hrest,List.drop_of_length_le (by rw [uptoN_length]; omega)]; rfl
   have hrK:root < h.length:=by have:=HR.out; omega
   obtain ⟨cq,fq⟩:=hht.c root hrK
   have hri:(root:Int) < (K.length:Int):=by have:=HR.out; omega
   have hlst:lastH (kidsOf K) K.length (uptoN K.length)=h[root]:=by
    have h0:(uptoN K.length)[K.length - 1]? = some ((root:Nat):Int):=by
     have:=HR.out
     rw [List.getElem?_eq_getElem (by rw [uptoN_length]; omega)]
     simp [uptoN]
     omega
    unfold lastH
    rw [← he,uptoN_length,h0,Option.getD_some,Int.toNat_natCast]
    simp [hrK]
   have HL2:=Hid.mk7 hlst
   have HB:=Hid.mk7 hb
   have hgl:=hht.lt
   generalize h[root]=z at cq HL2
   clear hb hht hrest he hbd hlst
   by_cases h500:(500:Int) < z
   ·have hoe:ol=some 221:=by rw [← HO.out,HL2.out,if_pos h500]
    subst hoe
    have hR2:=r_no 0 221 wr
    go_wp2_with fail
    refine hR2.mono ?_
    rintro e w2 ⟨v,rfl,hv,hb2⟩
    have H2:=Hid.mk7 (And.intro hv (HB.out.trans (hb2.mono HB.out.size)))
    obtain ⟨pb,_,hve,_⟩:=hv
    subst hve
    clear hR2 hb2 cq
    go_wp2
    go_ret
    exact ⟨_,rfl,H2.out.1.mono HB.out.size,H2.out.2⟩
   ·have hoe:ol=none:=by rw [← HO.out,HL2.out,if_neg h500]
    subst hoe
    go_wp2
    go_ret
    exact ⟨rfl,HB.out⟩
theorem rb_many (hL:NArg w lv K) (ht:65536 < K.length) :
  Calls Tryz.prog 28 #[lv,.int .i64 root] w (BndTold w (some 5)):=by
 obtain ⟨aL,cL,hlv⟩:=hL.form
 subst hlv
 have h65:(65536:Int) < (K.length:Int):=by omega
 have hR2:=r_no 0 5 w
 clear hL ht
 go_enter Tryz.func28,Tryz.ntmps28
 go_wp2_with fail
 refine hR2.mono ?_
 rintro e w2 ⟨v,rfl,hv,hb2⟩
 have H2:=Hid.mk7 (And.intro hv hb2)
 obtain ⟨pb,_,hve,_⟩:=hv
 subst hve
 clear hR2 hb2 h65
 go_wp2
 go_ret
 exact ⟨_,rfl,H2.out.1,H2.out.2⟩
theorem rb_Bounds (hL:NArg w lv K) (hr:root+1=K.length) (hkid:∀ i < K.length,∀ k∈kidsOf K i,0≤k∧k < (i:Int)) :
  Calls Tryz.prog 28 #[lv,.int .i64 root] w (BndTold w (limE (kidsOf K) K.length (uptoN K.length))):=by
 unfold limE
 rw [uptoN_length]
 by_cases h:65536 < K.length
 ·rw [if_pos h]
  exact rb_many hL h
 ·rw [if_neg h]
  exact rb_fits hL hr hkid (by omega)
end Go.Proofs.YtlciaafincgdeaaGreatDoor
