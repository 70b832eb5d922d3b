/-
  The document's layer 11: Below.
  Layers 1 and 10, the document's: questions on bytes; how far runs go; refusals.
  Layer 1, the document's: refusals; code points; escapes.
  Layers 1 and 10, the document's: values of digits.
  Layers 1 and 10, the document's: escapes; reserved words.
-/
import Derived.Test.YtlciaafincgdeaaGreatDoorZcb
import Derived.Test.YtlciaafincgdeaaGreatDoorZac
import Derived.Test.YtlciaafincgdeaaGreatDoorZam
namespace Go.Proofs.YtlciaafincgdeaaGreatDoor
open Go.RowKit
variable {v:Value} {w:World}
set_option maxHeartbeats 6400000
set_option maxRecDepth 100000
theorem ref_Below {lv rv:Value} {K:List (Value × List Int)} {roots:List Int} (hL:NArg w lv K) (hR:SlA w rv roots) (hK:K.length≤2199023255552) :
  Calls Tryz.prog 65 #[lv,rv] w fun x w'=>∃ V,x=.returned V∧OwnI w' V (belowS K.length (kidsOf K) roots)∧Below w.heap.size w w'∧∀ k,blk V k→w.heap.size≤k:=by
 obtain ⟨aL,cL,hlv⟩:=hL.form
 subst hlv
 obtain ⟨aR,cR,hrv,hrl⟩:=hR.form
 subst hrv
 have HL:=Hid.mk7 hL
 have HR:=Hid.mk7 hR
 obtain ⟨w1,hmk,hb1,hz1,hB1⟩:=make_one Tryz.boolTypes (by simp [Value.cells]) w K.length (by omega) (by omega)
 have HM:=Hid.mk7 (And.intro hb1 (And.intro hz1 (MetAt.new hB1 hz1)))
 clear hL hR hb1 hz1 hB1
 go_enter Tryz.func65,Tryz.ntmps65
 go_wp2_with fail
 go_loopw [6] (fun ix wr=>∃ (j:Nat) (mr:List Bool),j≤roots.length∧ix=.int .i64 j∧mr.length=K.length∧markL (lowB K.length) (roots.drop j) mr=markL (lowB K.length) roots (List.replicate K.length false)∧MetAt wr w.heap.size mr∧Below w.heap.size w wr) (fun ix _=>roots.length - (intOf ix).toNat)
 case atStart=>exact ⟨0,_,Nat.zero_le _,rfl,by simp,rfl,HM.out.2.2,HM.out.1⟩
 case round=>
  obtain ⟨j,mr,hj,rfl,hlen,hrest,hmr,hb⟩:=hrel
  by_cases hlt:j < roots.length
  ·have hji:(j:Int) < (roots.length:Int):=by omega
   obtain ⟨b,off,rfl,hc⟩:=(HR.out.below hb).at j hlt
   have hstep:=markL_drop (lowB K.length) roots j hlt mr
   cases hbb:lowB K.length roots[j] with
   | true=>
    simp only [hbb] at hstep
    have hx:0≤roots[j]∧roots[j] < (K.length:Int):=by simpa [lowB] using hbb
    obtain ⟨q,hq⟩:∃ q:Nat,roots[j]=(q:Int):=⟨roots[j].toNat,by omega⟩
    have hqi:q < mr.length:=by omega
    have hqi':(q:Int) < (K.length:Int):=by omega
    have hq0:(0:Int)≤(q:Int):=by omega
    obtain ⟨cq,fq⟩:=hmr.c q hqi
    rw [hq] at hc
    have HN:=Hid.mk7 (And.intro (show markL (lowB K.length) (roots.drop (j+1)) (mr.set q true)=markL (lowB K.length) roots (List.replicate K.length false) by rw [← hrest,hstep,hq]; simp) (And.intro (hmr.set q hqi) (Turned.toBelow hb (Turned.set1 _ w.heap.size q (.bool true)) (Nat.le_refl _))))
    clear hrest hmr hb hstep hbb hx
    go_wp2
    go_roundw
    case rel=>exact ⟨j+1,mr.set q true,by omega,by go_num,by simpa using hlen,HN.out.1,HN.out.2.1,HN.out.2.2⟩
    case measure=>simp [intOf]; omega
   | false=>
    simp only [hbb] at hstep
    have hx:¬ (0≤roots[j]∧roots[j] < (K.length:Int)):=by simpa [lowB] using hbb
    have HN:=Hid.mk7 (And.intro (show markL (lowB K.length) (roots.drop (j+1)) mr=markL (lowB K.length) roots (List.replicate K.length false) by rw [← hrest,hstep]; simp) (And.intro hmr hb))
    generalize roots[j]=rj at hc hx
    clear hrest hmr hb hstep hbb
    by_cases h0:(0:Int)≤rj
    ·have h1:¬ rj < (K.length:Int):=fun h=>hx ⟨h0,h⟩
     clear hx
     go_wp2
     go_roundw
     case rel=>exact ⟨j+1,mr,by omega,by go_num,hlen,HN.out.1,HN.out.2.1,HN.out.2.2⟩
     case measure=>simp [intOf]; omega
    ·clear hx
     go_wp2
     go_roundw
     case rel=>exact ⟨j+1,mr,by omega,by go_num,hlen,HN.out.1,HN.out.2.1,HN.out.2.2⟩
     case measure=>simp [intOf]; omega
  ·have hge:¬ (j:Int) < (roots.length:Int):=by omega
   have he:mr=markL (lowB K.length) roots (List.replicate K.length false):=by rw [← hrest,List.drop_of_length_le (by omega)]; rfl
   have HD:Hid (belowS K.length (kidsOf K) roots=marked 0 (downS (kidsOf K) K.length mr)):=by rw [he]; exact rfl
   have H1:=Hid.mk7 (And.intro hmr hb)
   clear hrest he hmr hb HM hmk
   go_wp2_with fail
   clear hge hlt hj
   go_loopw [7] (fun ix wr=>∃ (j:Nat) (mr:List Bool),j≤K.length∧ix=.int .i64 ((j:Int) - 1)∧mr.length=K.length∧marked 0 (downS (kidsOf K) j mr)=belowS K.length (kidsOf K) roots∧MetAt wr w.heap.size mr∧Below w.heap.size w wr) (fun ix _=>(intOf ix+1).toNat)
   case atStart=>exact ⟨K.length,mr,Nat.le_refl _,rfl,hlen,HD.out.symm,H1.out.1,H1.out.2⟩
   case round=>
    clear HD H1 hlen
    obtain ⟨j2,m2,hj2,rfl,hlen2,hrest2,hm2,hb2⟩:=hrel
    cases j2 with
    | succ i=>
     have ei:((i+1:Nat):Int) - 1=(i:Int):=by omega
     rw [ei]
     have hin:i < K.length:=by omega
     have hini:(i:Int) < (K.length:Int):=by omega
     have him:i < m2.length:=by omega
     have hpos:(0:Int)≤(i:Int):=by omega
     obtain ⟨cm,fm⟩:=hm2.c i him
     rw [downS] at hrest2
     have egd:(m2[i]?).getD false=m2[i]:=by simp [him]
     rw [egd] at hrest2
     cases hmi:m2[i] with
     | false=>
      rw [hmi] at cm hrest2
      have HN:=Hid.mk7 (And.intro (show marked 0 (downS (kidsOf K) i m2)=_ from by simpa using hrest2) (And.intro hm2 hb2))
      clear hrest2 hm2 hb2 egd hmi
      go_wp2_with fail
      refine wp_loop_rounds 1 ?_
      rw [rounds_succ]
      go_wp2
      go_roundw
      case rel=>exact ⟨i,m2,by omega,by go_num,hlen2,HN.out.1,HN.out.2.1,HN.out.2.2⟩
      case measure=>simp [intOf]
     | true=>
      rw [hmi] at cm hrest2
      have hm2i:m2[i]? = some true:=by rw [List.getElem?_eq_getElem him,hmi]
      obtain ⟨b,off,rfl,hck,hsk⟩:=(HL.out).at i hin
      obtain ⟨ak,ck,hkv,hkl⟩:=hsk.form
      rw [kidsOf_at K i hin] at hrest2
      have HN:=Hid.mk7 (And.intro (show marked 0 (downS (kidsOf K) i (markL (lowB i) K[i].2 m2))=_ from by simpa using hrest2) (And.intro hm2 hb2))
      have HS:=Hid.mk7 hsk
      generalize hkd:K[i].1=kv at hck hkv HS
      generalize hkx:K[i].2=kl at hkv HS HN hkl
      subst hkv
      have HC:=Hid.mk7 hck
      clear hrest2 hm2 hb2 egd hmi hsk hck cm fm
      go_wp2_with fail
      go_loopw [8] (fun ix wr2=>∃ (k:Nat) (mr:List Bool),k≤kl.length∧ix=.int .i64 k∧mr.length=K.length∧mr[i]? = some true∧markL (lowB i) (kl.drop k) mr=markL (lowB i) kl m2∧MetAt wr2 w.heap.size mr∧Below w.heap.size w wr2) (fun ix _=>kl.length - (intOf ix).toNat)
      case atStart=>exact ⟨0,m2,Nat.zero_le _,rfl,hlen2,hm2i,rfl,HN.out.2.1,HN.out.2.2⟩
      case round=>
       obtain ⟨k,mr,hk,rfl,hlen3,hmi3,hrest3,hm3,hb3⟩:=hrel
       have him3:i < mr.length:=by omega
       obtain ⟨cm,fm⟩:=hm3.c i him3
       have emi:mr[i]=true:=by rw [List.getElem?_eq_getElem him3] at hmi3; exact Option.some.inj hmi3
       rw [emi] at cm
       have hck:=(hb3.cell (p:=⟨b,off+i*6+4,none⟩) (World.block_lt_of_cell? w _ HC.out)).trans HC.out
       by_cases hkl2:k < kl.length
       ·have hkli:(k:Int) < (kl.length:Int):=by omega
        obtain ⟨bk,ok,rfl,hcv⟩:=(HS.out.below hb3).at k hkl2
        have hstep:=markL_drop (lowB i) kl k hkl2 mr
        cases hbb:lowB i kl[k] with
        | true=>
         simp only [hbb] at hstep
         have hx:0≤kl[k]∧kl[k] < (i:Int):=by simpa [lowB] using hbb
         obtain ⟨q,hq⟩:∃ q:Nat,kl[k]=(q:Int):=⟨kl[k].toNat,by omega⟩
         have hqi:q < mr.length:=by omega
         have hqi':(q:Int) < (K.length:Int):=by omega
         have hqlt:(q:Int) < (i:Int):=by omega
         have hq0:(0:Int)≤(q:Int):=by omega
         obtain ⟨cq,fq⟩:=hm3.c q hqi
         rw [hq] at hcv
         have HN3:=Hid.mk7 (And.intro (show markL (lowB i) (kl.drop (k+1)) (mr.set q true)=markL (lowB i) kl m2 by rw [← hrest3,hstep,hq]; simp) (And.intro (hm3.set q hqi) (And.intro (Turned.toBelow hb3 (Turned.set1 _ w.heap.size q (.bool true)) (Nat.le_refl _)) (show (mr.set q true)[i]? = some true by rw [List.getElem?_set_ne (by omega)]; exact hmi3))))
         clear hrest3 hm3 hb3 hstep hbb hx emi hmi3
         go_wp2
         go_roundw
         case rel=>exact ⟨k+1,mr.set q true,by omega,by go_num,by simpa using hlen3,HN3.out.2.2.2,HN3.out.1,HN3.out.2.1,HN3.out.2.2.1⟩
         case measure=>simp [intOf]; omega
        | false=>
         simp only [hbb] at hstep
         have hx:¬ (0≤kl[k]∧kl[k] < (i:Int)):=by simpa [lowB] using hbb
         have HN3:=Hid.mk7 (And.intro (show markL (lowB i) (kl.drop (k+1)) mr=markL (lowB i) kl m2 by rw [← hrest3,hstep]; simp) (And.intro hm3 (And.intro hb3 hmi3)))
         generalize kl[k]=kd at hcv hx
         clear hrest3 hm3 hb3 hstep hbb emi hmi3
         by_cases h0:(0:Int)≤kd
         ·have h1:¬ kd < (i:Int):=fun h=>hx ⟨h0,h⟩
          clear hx
          go_wp2
          go_roundw
          case rel=>exact ⟨k+1,mr,by omega,by go_num,hlen3,HN3.out.2.2.2,HN3.out.1,HN3.out.2.1,HN3.out.2.2.1⟩
          case measure=>simp [intOf]; omega
         ·clear hx
          go_wp2
          go_roundw
          case rel=>exact ⟨k+1,mr,by omega,by go_num,hlen3,HN3.out.2.2.2,HN3.out.1,HN3.out.2.1,HN3.out.2.2.1⟩
          case measure=>simp [intOf]; omega
       ·have hge:¬ (k:Int) < (kl.length:Int):=by omega
        have he:mr=markL (lowB i) kl m2:=by rw [← hrest3,List.drop_of_length_le (by omega)]; rfl
        have H3:=Hid.mk7 (And.intro hm3 (And.intro hb3 he))
        clear hrest3 hm3 hb3 he emi hmi3
        go_wp2
        go_roundw
        case rel=>exact ⟨i,mr,by omega,by go_num,hlen3,by rw [H3.out.2.2]; exact HN.out.1,H3.out.1,H3.out.2.1⟩
        case measure=>simp [intOf]
    | zero=>
     have hneg:¬ (0:Int)≤(((0:Nat):Int) - 1):=by omega
     have HD2:=Hid.mk7 hrest2
     have H2:=Hid.mk7 (And.intro hm2 hb2)
     clear hrest2 hm2 hb2
     go_wp2_with fail
     clear hneg
     go_loopw [9,10] (fun V ix wr=>∃ (j:Nat) (acc:List Int),j≤K.length∧ix=.int .i64 j∧acc.length≤j∧acc++marked j (m2.drop j)=belowS K.length (kidsOf K) roots∧OwnI wr V acc∧(∀ k,blk V k→w.heap.size < k)∧MetAt wr w.heap.size m2∧Below w.heap.size w wr) (fun _ ix _=>K.length - (intOf ix).toNat)
     case atStart=>exact ⟨0,[],Nat.zero_le _,rfl,Nat.le_refl _,HD2.out,OwnK.nil 1 _,fun _ e=>e.elim,H2.out.1,H2.out.2⟩
     case round=>
      clear HD2 H2
      obtain ⟨j3,acc,hj3,rfl,hal,hrest3,ho3,hof3,hm3,hb3⟩:=hrel
      obtain ⟨aV,cV,hV,_⟩:=OwnK.sl ho3 |>.form
      subst hV
      by_cases hlt:j3 < K.length
      ·have hji:(j3:Int) < (K.length:Int):=by omega
       have him:j3 < m2.length:=by omega
       obtain ⟨cm,fm⟩:=hm3.c j3 him
       rw [marked_drop m2 j3 him] at hrest3
       cases hmi:m2[j3] with
       | false=>
        rw [hmi] at cm hrest3
        have HN:=Hid.mk7 (And.intro (show acc++marked (j3+1) (m2.drop (j3+1))=_ from by simpa using hrest3) (And.intro ho3 (And.intro hof3 (And.intro hm3 hb3))))
        clear hrest3 ho3 hof3 hm3 hb3 hmi
        go_wp2
        go_roundw
        case rel=>exact ⟨j3+1,acc,by omega,by go_num,by omega,HN.out.1,HN.out.2.1,HN.out.2.2.1,HN.out.2.2.2.1,HN.out.2.2.2.2⟩
        case measure=>simp [intOf]; omega
       | true=>
        rw [hmi] at cm hrest3
        have hfit:(acc.length+[(j3:Int)].length)*8≤140737488355328:=by simp; omega
        have hfit2:acc.length+[(j3:Int)].length≤4611686018427387903:=by simp; omega
        have HN:=Hid.mk7 (And.intro (show (acc++[(j3:Int)])++marked (j3+1) (m2.drop (j3+1))=_ from by simpa using hrest3) (And.intro ho3 (And.intro hof3 (And.intro hm3 hb3))))
        clear hrest3 ho3 hof3 hm3 hb3 hmi
        go_wp2_with (at_builtin; refine wpList_append_k (by rfl) (.tmp 104) (.tmp 106) (by rfl) Tryz.intTypes (by rfl) (by rfl) (OwnK.turned HN.out.2.1 (Turned.alloc (fun _=>False) _ _) (fun _ _ e=>e)) (SlI.one _ _ _) (ints_one _) hfit hfit2 ?_; intro V4 w4 ho4 T4 hv4)
        obtain ⟨e3,ho3,hof3,hm3,hb3⟩:=HN.out
        have hz3:=hb3.size
        have hmlt:=hm3.lt
        have B4:=hb3.trans ((Below.alloc0 _ (.cells #[.int .i64 (j3:Int)] 3)).mono hz3)
        have H4:=Hid.mk7 (And.intro (OwnI.snoc ho4) (And.intro (show ∀ k,blk V4 k→w.heap.size < k from fun k hk=>(hv4 k hk).elim (hof3 k) (fun e=>by simp at e; omega)) (And.intro ((hm3.turned (Turned.alloc (fun _=>False) _ (.cells #[.int .i64 (j3:Int)] 3)) (fun e=>e)).turned T4 (fun e=>by have:=hof3 _ e; omega)) (B4.trans (T4.below B4.size (fun k hk=>Nat.le_of_lt (hof3 k hk)))))))
        clear ho4 T4 hv4 e3 ho3 hof3 hm3 hb3 B4
        go_wp2
        go_roundw
        case rel=>exact ⟨j3+1,acc++[(j3:Int)],by omega,by go_num,by simp; omega,HN.out.1,H4.out.1,H4.out.2.1,H4.out.2.2.1,H4.out.2.2.2⟩
        case measure=>simp [intOf]; omega
      ·have hge:¬ (j3:Int) < (K.length:Int):=by omega
       have he:acc=belowS K.length (kidsOf K) roots:=by rw [← hrest3,List.drop_of_length_le (by omega)]; simp [marked]
       have HE:=Hid.mk7 he
       have HN:=Hid.mk7 (And.intro ho3 (And.intro hb3 hof3))
       clear hrest3 ho3 hof3 hm3 hb3 he
       go_wp2
       go_ret
       exact ⟨_,rfl,by rw [← HE.out]; exact HN.out.1,HN.out.2.1,fun k hk=>Nat.le_of_lt (HN.out.2.2 k hk)⟩
theorem str_at (s:ByteArray) (j:Nat) (h:j < s.size) (W:World):(Instr.index 9 (.string s) (.int .i64 (j:Int))).run Tryz.prog W=.ok (.int .u8 (s[j].toNat:Int)) W:=by
 rw [run_index_string W _ _ _ _ Tryz.underlying9,dif_pos ⟨by omega,by omega⟩]
 simp
def upB (c:Int):Bool:=capB c || decide (c=95)
theorem rf_small (c:Int) (w:World):Calls Tryz.prog 35 #[.int .u8 c] w fun e w'=>e=.returned (.bool (smallB c))∧w=w':=by
 go_enter Tryz.func35,Tryz.ntmps35
 go_wp2
 all_goals go_ret
 all_goals
  refine ⟨congrArg Ending.returned (congrArg Value.bool ?_),rfl⟩
  rw [Bool.eq_iff_iff]
  simp [smallB]
  try omega
theorem rf_inWord (c:Int) (w:World):Calls Tryz.prog 66 #[.int .u8 c] w fun e w'=>e=.returned (.bool (wordB c))∧w=w':=by
 have hs:=rf_small c w
 cases h:smallB c
 all_goals
  rw [h] at hs
  go_enter Tryz.func66,Tryz.ntmps66
  go_wp2_with (go_at_call 35; refine hs.mono ?_; rintro e w' ⟨rfl,rfl⟩)
  all_goals go_ret
  all_goals
   refine ⟨congrArg Ending.returned (congrArg Value.bool ?_),rfl⟩
   rw [Bool.eq_iff_iff]
   simp [wordB,alnumB,capB,digB,h]
   try omega
theorem rf_upper (c:Int) (w:World):Calls Tryz.prog 39 #[.int .u8 c] w fun e w'=>e=.returned (.bool (upB c))∧w=w':=by
 go_enter Tryz.func39,Tryz.ntmps39
 go_wp2
 all_goals go_ret
 all_goals
  refine ⟨congrArg Ending.returned (congrArg Value.bool ?_),rfl⟩
  rw [Bool.eq_iff_iff]
  simp [upB,capB]
  try omega
theorem rf_digit (c:Int) (w:World):Calls Tryz.prog 40 #[.int .u8 c] w fun e w'=>e=.returned (.bool (digB c))∧w=w':=by
 go_enter Tryz.func40,Tryz.ntmps40
 go_wp2
 all_goals go_ret
 all_goals
  refine ⟨congrArg Ending.returned (congrArg Value.bool ?_),rfl⟩
  rw [Bool.eq_iff_iff]
  simp [digB]
  try omega
theorem rf_blank (c:Int) (w:World):Calls Tryz.prog 33 #[.int .u8 c] w fun e w'=>e=.returned (.bool (blankB c))∧w=w':=by
 go_enter Tryz.func33,Tryz.ntmps33
 go_wp2
 all_goals go_ret
 all_goals
  refine ⟨congrArg Ending.returned (congrArg Value.bool ?_),rfl⟩
  rw [Bool.eq_iff_iff]
  simp [blankB]
  try omega
theorem rf_value (c:Int) (w:World):Calls Tryz.prog 70 #[.int .u8 c] w fun e w'=>(∃ z:Int,e=.returned (.int .i64 z))∧w=w':=by
 have hs:=rf_digit c w
 cases h:digB c
 all_goals
  rw [h] at hs
  go_enter Tryz.func70,Tryz.ntmps70
  go_wp2_with (go_at_call 40; refine hs.mono ?_; rintro e w' ⟨rfl,rfl⟩)
  all_goals go_ret
  all_goals exact ⟨⟨_,rfl⟩,rfl⟩
theorem rf_word (s:ByteArray) (hs:s.size≤65536) (i:Nat) (hi:i≤s.size) (w:World):Calls Tryz.prog 34 #[.string s,.int .i64 (i:Int)] w fun e w'=>(∃ j:Nat,e=.returned (.int .i64 (j:Int))∧i≤j∧j≤s.size∧∀ h:i < s.size,wordB (s[i].toNat:Int)=true→i < j)∧w=w':=by
 go_enter Tryz.func34,Tryz.ntmps34
 go_wp2_with fail
 go_loopw [1] (fun ii wr=>∃ j:Nat,ii=.int .i64 (j:Int)∧i≤j∧j≤s.size∧w=wr) (fun ii _=>s.size - (intOf ii).toNat)
 case atStart=>exact ⟨i,rfl,Nat.le_refl _,hi,rfl⟩
 case round=>
  obtain ⟨j,rfl,h1,h2,rfl⟩:=hrel
  by_cases hlt:j < s.size
  ·have hlti:(j:Int) < (s.size:Int):=by omega
   have hix:=str_at s j hlt
   have hq:=fun W=>rf_inWord (s[j].toNat:Int) W
   cases hw:wordB (s[j].toNat:Int) with
   | true=>
    rw [hw] at hq
    generalize (s[j].toNat:Int)=c at hix hq hw
    go_wp2_with fail
    refine (hq _).mono ?_
    rintro e w' ⟨rfl,rfl⟩
    go_wp2
    go_roundw
    case rel=>exact ⟨j+1,by go_num,by omega,by omega,trivial⟩
    case measure=>simp [intOf]; omega
   | false=>
    rw [hw] at hq
    have HW:=Hid.mk7 hw
    clear hw
    have hne:∀ h:i < s.size,wordB (s[i].toNat:Int)=true→i < j:=fun h e=>by
     rcases Nat.eq_or_lt_of_le h1 with rfl | h3
     ·rw [HW.out] at e; cases e
     ·exact h3
    have HN:=Hid.mk7 hne
    clear hne HW
    generalize (s[j].toNat:Int)=c at hix hq
    go_wp2_with fail
    refine (hq _).mono ?_
    rintro e w' ⟨rfl,rfl⟩
    go_wp2
    go_ret
    exact ⟨⟨j,rfl,h1,h2,HN.out⟩,rfl⟩
  ·have hge:¬ (j:Int) < (s.size:Int):=by omega
   go_wp2
   go_ret
   exact ⟨⟨j,rfl,h1,h2,fun h _=>by omega⟩,rfl⟩
theorem rf_skip (s:ByteArray) (hs:s.size≤65536) (i:Nat) (hi:i≤s.size) (w:World):Calls Tryz.prog 15 #[.string s,.int .i64 (i:Int)] w fun e w'=>(∃ j:Nat,e=.returned (.int .i64 (j:Int))∧i≤j∧j≤s.size)∧w=w':=by
 go_enter Tryz.func15,Tryz.ntmps15
 go_wp2_with fail
 go_loopw [1] (fun ii wr=>∃ j:Nat,ii=.int .i64 (j:Int)∧i≤j∧j≤s.size∧w=wr) (fun ii _=>s.size - (intOf ii).toNat)
 case atStart=>exact ⟨i,rfl,Nat.le_refl _,hi,rfl⟩
 case round=>
  obtain ⟨j,rfl,h1,h2,rfl⟩:=hrel
  by_cases hlt:j < s.size
  ·have hlti:(j:Int) < (s.size:Int):=by omega
   have hix:=str_at s j hlt
   have hq:=fun W=>rf_blank (s[j].toNat:Int) W
   obtain ⟨c,hcE⟩:∃ c:Int,(s[j].toNat:Int)=c:=⟨_,rfl⟩
   rw [hcE] at hix hq
   have HC:=Hid.mk7 hcE
   clear hcE
   by_cases hp:c=37
   ·subst hp
    have e37:blankB 37=false:=by decide
    rw [e37] at hq
    go_wp2_with fail
    refine (hq _).mono ?_
    rintro e w' ⟨rfl,rfl⟩
    go_wp2_with fail
    clear hix hq
    go_loopw [1] (fun ii wr=>∃ k:Nat,ii=.int .i64 (k:Int)∧j≤k∧k≤s.size∧w=wr) (fun ii _=>s.size - (intOf ii).toNat)
    case atStart=>exact ⟨j,rfl,Nat.le_refl _,h2,rfl⟩
    case round=>
     obtain ⟨k,rfl,h3,h4,rfl⟩:=hrel
     by_cases hlk:k < s.size
     ·have hlki:(k:Int) < (s.size:Int):=by omega
      have hiy:=str_at s k hlk
      by_cases h10:(s[k].toNat:Int)=10
      ·have hjk:j < k:=by
        rcases Nat.eq_or_lt_of_le h3 with rfl | h5
        ·have h6:=HC.out
         rw [h10] at h6
         cases h6
        ·exact h5
       rw [h10] at hiy
       clear h10
       go_wp2
       go_roundw
       case rel=>exact ⟨k,rfl,by omega,h4,trivial⟩
       case measure=>simp [intOf]; omega
      ·generalize (s[k].toNat:Int)=d at hiy h10
       have h10b:(d == 10)=false:=by simpa using h10
       go_wp2
       go_roundw
       case rel=>exact ⟨k+1,by go_num,by omega,by omega,trivial⟩
       case measure=>simp [intOf]; omega
     ·have hgek:¬ (k:Int) < (s.size:Int):=by omega
      go_wp2
      go_roundw
      case rel=>exact ⟨k,rfl,by omega,h4,trivial⟩
      case measure=>simp [intOf]; omega
   ·have hpb:(c == 37)=false:=by simpa using hp
    cases hb:blankB c with
    | true=>
     rw [hb] at hq
     go_wp2_with fail
     refine (hq _).mono ?_
     rintro e w' ⟨rfl,rfl⟩
     go_wp2
     go_roundw
     case rel=>exact ⟨j+1,by go_num,by omega,by omega,trivial⟩
     case measure=>simp [intOf]; omega
    | false=>
     rw [hb] at hq
     go_wp2_with fail
     refine (hq _).mono ?_
     rintro e w' ⟨rfl,rfl⟩
     go_wp2
     go_ret
     exact ⟨⟨j,rfl,h1,h2⟩,rfl⟩
  ·have hge:¬ (j:Int) < (s.size:Int):=by omega
   go_wp2
   go_ret
   exact ⟨⟨j,rfl,h1,h2⟩,rfl⟩
def Lk1 (w:World) (v:Value):Prop:=∃ lb ly a c,v=.slice (some ⟨lb,0,none⟩) 1 1∧w.cell? ⟨lb,0,none⟩=some (.string ly)∧w.cell? ⟨lb,1,none⟩=some (.int .i64 a)∧w.cell? ⟨lb,2,none⟩=some (.int .i64 c)
def LkE (v:Value):Prop:=∃ a n cap,v=.slice (some a) (n+1) cap
theorem Lk1.e (h:Lk1 w v):LkE v:=by
  obtain ⟨lb,_,_,_,rfl,_⟩:=h
  exact ⟨_,0,_,rfl⟩
theorem Lk1.below {w':World} (h:Lk1 w v) (hb:Below w.heap.size w w'):Lk1 w' v:=by
  obtain ⟨lb,ly,a,c,rfl,h1,h2,h3⟩:=h
  have hl:lb < w.heap.size:=World.block_lt_of_cell? w _ h1
  exact ⟨lb,ly,a,c,rfl,(hb.cell (p:=⟨lb,0,none⟩) hl).trans h1,(hb.cell (p:=⟨lb,1,none⟩) hl).trans h2,(hb.cell (p:=⟨lb,2,none⟩) hl).trans h3⟩
theorem rf_one (ly:ByteArray) (a c:Int) (w:World):Calls Tryz.prog 32 #[.string ly,.int .i64 a,.int .i64 c] w fun e w'=>e=.returned (.slice (some ⟨w.heap.size,0,none⟩) 1 1)∧w'=w.alloc (.cells #[.string ly,.int .i64 a,.int .i64 c] 59):=by
  go_enter Tryz.func32,Tryz.ntmps32
  go_wp2
  go_ret
  exact ⟨rfl,rfl⟩
theorem Lk1.new (w:World) (ly:ByteArray) (a c:Int):Lk1 (w.alloc (.cells #[.string ly,.int .i64 a,.int .i64 c] 59)) (.slice (some ⟨w.heap.size,0,none⟩) 1 1):=⟨_,ly,a,c,rfl,by simp,by simp,by simp⟩
theorem rf_no10 (a c:Int) (w:World):Calls Tryz.prog 14 #[.int .i64 a,.int .i64 c] w fun e w'=>∃ v,e=.returned v∧Lk1 w' v∧Below w.heap.size w w':=by
  have h:=rf_one ⟨#[108,101,120]⟩ a c w
  go_enter Tryz.func14,Tryz.ntmps14
  go_wp2_with fail
  refine h.mono ?_
  rintro e w1 ⟨rfl,rfl⟩
  go_wp2
  go_ret
  exact ⟨_,rfl,Lk1.new w _ a c,(Below.refl _ _).alloc (Nat.le_refl _) _⟩
theorem rf_no01 (a c:Int) (w:World):Calls Tryz.prog 67 #[.int .i64 a,.int .i64 c] w fun e w'=>∃ v,e=.returned v∧Lk1 w' v∧Below w.heap.size w w':=by
  have h:=rf_one ⟨#[97,116,111,109]⟩ a c w
  go_enter Tryz.func67,Tryz.ntmps67
  go_wp2_with fail
  refine h.mono ?_
  rintro e w1 ⟨rfl,rfl⟩
  go_wp2
  go_ret
  exact ⟨_,rfl,Lk1.new w _ a c,(Below.refl _ _).alloc (Nat.le_refl _) _⟩
theorem Tryz.linkTypes:ElTypes Tryz.prog 24 59 3 32 (.agg #[.string ⟨#[]⟩,.int .i64 0,.int .i64 0]):=by
  refine ⟨Tryz.underlying24,?_,by simp [Value.cells]⟩
  have h:(Tryz.prog.info? 59).map (fun i=>(i.zero,i.size,i.bytes))=some (some (.agg #[.string ⟨#[]⟩,.int .i64 0,.int .i64 0]),3,32):=by kernel_rfl
  obtain ⟨i,hi,h0,h1,h2⟩:=info_parts h
  exact ⟨i,hi,h0,h1,h2⟩
theorem SlK.link {lb:Nat} {ly:ByteArray} {a c:Int} (h1:w.cell? ⟨lb,0,none⟩=some (.string ly)) (h2:w.cell? ⟨lb,1,none⟩=some (.int .i64 a)) (h3:w.cell? ⟨lb,2,none⟩=some (.int .i64 c)):SlK 3 w (.slice (some ⟨lb,0,none⟩) 1 1) 1 [.string ly,.int .i64 a,.int .i64 c]:=by
  refine ⟨rfl,.inr ⟨lb,0,1,rfl,Nat.le_refl _,by decide,fun j hj=>?_⟩⟩
  have hj1:j < 3:=hj
  match j,hj1 with
  | 0,_=>simpa using h1
  | 1,_=>simpa using h2
  | 2,_=>simpa using h3
theorem rf_over (ly:ByteArray) (a c:Int) {l:Value} (w:World) (hl:Lk1 w l):Calls Tryz.prog 38 #[.string ly,.int .i64 a,.int .i64 c,l] w fun e w'=>∃ v,e=.returned v∧LkE v∧Below w.heap.size w w':=by
  obtain ⟨lb,ly2,a2,c2,rfl,h1,h2,h3⟩:=hl
  have hlb:lb < w.heap.size:=World.block_lt_of_cell? w _ h1
  have HB:=Hid.mk7 (fun o=>Below.alloc0 w o)
  have HL:=Hid.mk7 (SlK.link h1 h2 h3)
  have HX:=Hid.mk7 (fun o=>SlK.link (w:=w.alloc (.cells #[.string ly,.int .i64 a,.int .i64 c] o)) (lb:=w.heap.size) (ly:=ly) (a:=a) (c:=c) (by simp) (by simp) (by simp))
  have one3:∀ (x:ByteArray) (p q:Int),∀ u∈[Value.string x,.int .i64 p,.int .i64 q],u.oneCell'=true:=fun x p q u hu=>by
    simp only [List.mem_cons,List.not_mem_nil,or_false] at hu
    rcases hu with rfl | rfl | rfl <;> rfl
  have HO:=Hid.mk7 one3
  clear h1 h2 h3 one3
  go_enter Tryz.func38,Tryz.ntmps38
  go_wp2_with (at_builtin; first
    | (refine wpList_append_k (by rfl) (.tmp 10) (.tmp 15) (by rfl) Tryz.linkTypes (by rfl) (by rfl) (OwnK.nil 3 _) (HX.out _) (HO.out _ _ _) (by decide) (by decide) ?_; intro V1 w1 ho1 ht1 hv1; have HV1:=Hid.mk7 (And.intro ho1 (And.intro ht1 hv1)); obtain ⟨aV1,cV1,hV1,_,_⟩:=ho1.sl.form; subst hV1; clear ho1 ht1 hv1)
    | (refine wpList_append_k (by rfl) (.tmp 17) (.tmp 18) (by rfl) Tryz.linkTypes (by rfl) (by rfl) HV1.out.1 ((HL.out.turned (Turned.alloc (fun _=>False) _ _) (fun _ _ e=>e)).turned HV1.out.2.1 (fun k hk e=>e.elim)) (HO.out _ _ _) (by decide) (by decide) ?_; intro V2 w2 ho2 ht2 hv2; have HV2:=Hid.mk7 (And.intro ho2 (And.intro ht2 hv2)); obtain ⟨aV2,cV2,hV2,_,_⟩:=ho2.sl.form; subst hV2; clear ho2 ht2 hv2))
  go_ret
  obtain ⟨ho1,ht1,hv1⟩:=HV1.out
  obtain ⟨ho2,ht2,_⟩:=HV2.out
  have hb1:=(HB.out (.cells #[.string ly,.int .i64 a,.int .i64 c] 59)).trans (ht1.below (B:=w.heap.size) (by simp) (fun k e=>e.elim))
  have hb2:=hb1.trans (ht2.below (B:=w.heap.size) hb1.size (fun k e=>(hv1 k e).elim (fun e=>e.elim) (fun e=>by simp at e; omega)))
  obtain ⟨b,off,cap,hV,_⟩:=ho2.sl.at 0 (by decide)
  refine ⟨_,rfl,?_,hb2⟩
  simp only [Value.slice.injEq] at hV
  rw [hV.1]
  exact ⟨_,1,_,rfl⟩
theorem rf_point (s:ByteArray) (hs:s.size≤65536) (i:Nat) (hi:i < s.size) (w:World):Calls Tryz.prog 88 #[.string s,.int .i64 (i:Int)] w fun e w'=>(∃ n:Nat,e=.returned (.int .i64 (n:Int))∧n≤4)∧w=w':=by
  have hix:=str_at s i hi
  have hc0:0≤(s[i].toNat:Int)∧(s[i].toNat:Int) < 256:=by have:=s[i].toNat_lt; omega
  generalize (s[i].toNat:Int)=c at hix hc0
  by_cases h1:c < 128
  · go_enter Tryz.func88,Tryz.ntmps88
    go_wp2
    go_ret
    exact ⟨⟨1,rfl,by decide⟩,rfl⟩
  · by_cases h2:194≤c∧c≤223
    · obtain ⟨h2a,h2b⟩:=h2
      by_cases hfit:(s.size:Int) < (i:Int)+2
      · go_enter Tryz.func88,Tryz.ntmps88
        go_wp2
        go_ret
        exact ⟨⟨0,rfl,by decide⟩,rfl⟩
      · go_enter Tryz.func88,Tryz.ntmps88
        go_wp2_with fail
        go_loopw [7,8] (fun vv kk wr=>∃ (z:Int) (k:Nat),vv=.int .i64 z∧kk=.int .i64 (k:Int)∧1≤k∧k≤2∧w=wr) (fun _ kk _=>2 - (intOf kk).toNat)
        case atStart=>exact ⟨_,1,rfl,rfl,by omega,by omega,rfl⟩
        case round=>
          obtain ⟨z,k,rfl,rfl,hk1,hk2,rfl⟩:=hrel
          by_cases hk:k < 2
          · have hki:(k:Int) < 2:=by omega
            have hiy:=str_at s (i+k) (by omega)
            rw [show ((i+k:Nat):Int)=(i:Int)+(k:Int) by omega] at hiy
            generalize ((s[i+k]'(by omega)).toNat:Int)=d at hiy
            go_wp2
            all_goals first
              | (go_ret; exact ⟨⟨0,rfl,by decide⟩,rfl⟩)
              | (go_roundw
                 case rel=>exact ⟨_,k+1,rfl,by go_num,by omega,by omega,trivial⟩
                 case measure=>simp [intOf]; omega)
          · have hki:¬ (k:Int) < 2:=by omega
            go_wp2
            all_goals go_ret
            all_goals first | exact ⟨⟨0,rfl,by decide⟩,rfl⟩ | exact ⟨⟨2,rfl,by decide⟩,rfl⟩
    · by_cases h3:224≤c∧c≤239
      · obtain ⟨h3a,h3b⟩:=h3
        have h2c:¬ c≤223:=by omega
        have h2d:194≤c:=by omega
        clear h2
        by_cases hfit:(s.size:Int) < (i:Int)+3
        · go_enter Tryz.func88,Tryz.ntmps88
          go_wp2
          go_ret
          exact ⟨⟨0,rfl,by decide⟩,rfl⟩
        · go_enter Tryz.func88,Tryz.ntmps88
          go_wp2_with fail
          go_loopw [7,8] (fun vv kk wr=>∃ (z:Int) (k:Nat),vv=.int .i64 z∧kk=.int .i64 (k:Int)∧1≤k∧k≤3∧w=wr) (fun _ kk _=>3 - (intOf kk).toNat)
          case atStart=>exact ⟨_,1,rfl,rfl,by omega,by omega,rfl⟩
          case round=>
            obtain ⟨z,k,rfl,rfl,hk1,hk2,rfl⟩:=hrel
            by_cases hk:k < 3
            · have hki:(k:Int) < 3:=by omega
              have hiy:=str_at s (i+k) (by omega)
              rw [show ((i+k:Nat):Int)=(i:Int)+(k:Int) by omega] at hiy
              generalize ((s[i+k]'(by omega)).toNat:Int)=d at hiy
              go_wp2
              all_goals first
                | (go_ret; exact ⟨⟨0,rfl,by decide⟩,rfl⟩)
                | (go_roundw
                   case rel=>exact ⟨_,k+1,rfl,by go_num,by omega,by omega,trivial⟩
                   case measure=>simp [intOf]; omega)
            · have hki:¬ (k:Int) < 3:=by omega
              go_wp2
              all_goals go_ret
              all_goals first | exact ⟨⟨0,rfl,by decide⟩,rfl⟩ | exact ⟨⟨3,rfl,by decide⟩,rfl⟩
      · by_cases h4:240≤c∧c≤244
        · obtain ⟨h4a,h4b⟩:=h4
          have h2c:¬ c≤223:=by omega
          have h2d:194≤c:=by omega
          have h3c:¬ c≤239:=by omega
          have h3d:224≤c:=by omega
          clear h2 h3
          by_cases hfit:(s.size:Int) < (i:Int)+4
          · go_enter Tryz.func88,Tryz.ntmps88
            go_wp2
            go_ret
            exact ⟨⟨0,rfl,by decide⟩,rfl⟩
          · go_enter Tryz.func88,Tryz.ntmps88
            go_wp2_with fail
            go_loopw [7,8] (fun vv kk wr=>∃ (z:Int) (k:Nat),vv=.int .i64 z∧kk=.int .i64 (k:Int)∧1≤k∧k≤4∧w=wr) (fun _ kk _=>4 - (intOf kk).toNat)
            case atStart=>exact ⟨_,1,rfl,rfl,by omega,by omega,rfl⟩
            case round=>
              obtain ⟨z,k,rfl,rfl,hk1,hk2,rfl⟩:=hrel
              by_cases hk:k < 4
              · have hki:(k:Int) < 4:=by omega
                have hiy:=str_at s (i+k) (by omega)
                rw [show ((i+k:Nat):Int)=(i:Int)+(k:Int) by omega] at hiy
                generalize ((s[i+k]'(by omega)).toNat:Int)=d at hiy
                go_wp2
                all_goals first
                  | (go_ret; exact ⟨⟨0,rfl,by decide⟩,rfl⟩)
                  | (go_roundw
                     case rel=>exact ⟨_,k+1,rfl,by go_num,by omega,by omega,trivial⟩
                     case measure=>simp [intOf]; omega)
              · have hki:¬ (k:Int) < 4:=by omega
                go_wp2
                all_goals go_ret
                all_goals first | exact ⟨⟨0,rfl,by decide⟩,rfl⟩ | exact ⟨⟨4,rfl,by decide⟩,rfl⟩
        · go_enter Tryz.func88,Tryz.ntmps88
          go_wp2
          all_goals first | (exfalso; omega) | (go_ret; exact ⟨⟨0,rfl,by decide⟩,rfl⟩)
theorem rf_UTF (s:ByteArray) (hs:s.size≤65536) (w:World):Calls Tryz.prog 72 #[.string s] w fun e w'=>(∃ z:Int,e=.returned (.int .i64 z))∧w=w':=by
  go_enter Tryz.func72,Tryz.ntmps72
  go_wp2_with fail
  go_loopw [3] (fun ii wr=>∃ j:Nat,ii=.int .i64 (j:Int)∧j≤s.size+4∧w=wr) (fun ii _=>s.size - (intOf ii).toNat)
  case atStart=>exact ⟨0,rfl,by omega,rfl⟩
  case round=>
    obtain ⟨j,rfl,h1,rfl⟩:=hrel
    by_cases hlt:j < s.size
    · have hlti:(j:Int) < (s.size:Int):=by omega
      have hp:=fun W=>rf_point s hs j hlt W
      go_wp2_with fail
      refine (hp _).mono ?_
      rintro e w' ⟨⟨n,rfl,hn⟩,rfl⟩
      by_cases h0:n=0
      · subst h0
        go_wp2
        go_ret
        exact ⟨⟨_,rfl⟩,rfl⟩
      · have h0b:((n:Int) == 0)=false:=by simp; omega
        clear hp
        go_wp2
        go_roundw
        case rel=>exact ⟨j+n,by go_num,by omega,trivial⟩
        case measure=>simp [intOf]; omega
    · have hge:¬ (j:Int) < (s.size:Int):=by omega
      go_wp2
      go_ret
      exact ⟨⟨_,rfl⟩,rfl⟩
def hexZ (c:Int):Int:=if 48≤c∧c≤57 then c - 48 else if 97≤c∧c≤102 then c - 97+10 else if 65≤c∧c≤70 then c - 65+10 else -1
def valZ (c:Int):Int:=if 48≤c∧c≤57 then c - 48 else if 97≤c∧c≤122 then c - 97+10 else if 65≤c∧c≤90 then c - 65+10 else 99
theorem rf_hexZ (c:Int) (h0:0≤c) (h1:c < 256) (w:World):Calls Tryz.prog 103 #[.int .u8 c] w fun e w'=>e=.returned (.int .i64 (hexZ c))∧w=w':=by
 obtain ⟨z,hz⟩:∃ z,hexZ c=z:=⟨_,rfl⟩
 rw [hz]
 have HZ:=Hid.mk7 hz
 clear hz
 go_enter Tryz.func103,Tryz.ntmps103
 go_wp2
 all_goals go_ret
 all_goals
  refine ⟨congrArg Ending.returned (congrArg (Value.int .i64) ?_),rfl⟩
  rw [← HZ.out]
  unfold hexZ
  repeat' split
 all_goals first | omega | (simp at *; omega)
theorem rf_valZ (c:Int) (h0:0≤c) (h1:c < 256) (w:World):Calls Tryz.prog 70 #[.int .u8 c] w fun e w'=>e=.returned (.int .i64 (valZ c))∧w=w':=by
 obtain ⟨z,hz⟩:∃ z,valZ c=z:=⟨_,rfl⟩
 rw [hz]
 have HZ:=Hid.mk7 hz
 clear hz
 have hs:=rf_digit c w
 cases h:digB c
 all_goals
  rw [h] at hs
  have hd:=h
  unfold digB at hd
  have HD:=Hid.mk7 hd
  clear h hd
  go_enter Tryz.func70,Tryz.ntmps70
  go_wp2_with (go_at_call 40; refine hs.mono ?_; rintro e w' ⟨rfl,rfl⟩)
  all_goals go_ret
  all_goals
   refine ⟨congrArg Ending.returned (congrArg (Value.int .i64) ?_),rfl⟩
   have hd:=HD.out
   simp at hd
   rw [← HZ.out]
   unfold valZ
   repeat' split
 all_goals first | omega | (simp at *; omega)
theorem str_cut (s:ByteArray) (a b:Nat) (h:a≤b) (hb:b≤s.size) (W:World):(Instr.slice 9 (.string s) (some (.int .i64 (a:Int))) (some (.int .i64 (b:Int))) none).run Tryz.prog W=.ok (.string (s.extract a b)) W:=by
 rw [run_slice_string W 9 s .i64 .i64 (a:Int) (b:Int) Tryz.underlying9 (by omega) (by omega) (by omega)]
 simp
theorem str_byte (s:ByteArray) (j:Nat) (h:j < s.size):0≤(s[j].toNat:Int)∧(s[j].toNat:Int) < 256:=by
 have:=s[j].toNat_lt
 omega
theorem rf_escape (s:ByteArray) (hs:s.size≤65536) (i:Nat) (hi0:i≤s.size) (w:World):Calls Tryz.prog 87 #[.string s,.int .i64 (i:Int)] w fun e w'=>(∃ (b:Int) (n:Nat),e=.returned (.tuple #[.int .u8 b,.int .i64 (n:Int)])∧n≤3)∧Below w.heap.size w w':=by
 by_cases hi:i < s.size
 ·have hii:¬ (s.size:Int)≤(i:Int):=by omega
  have hix:=str_at s i hi
  generalize (s[i].toNat:Int)=c at hix
  by_cases h39:c=39
  ·subst h39
   go_enter Tryz.func87,Tryz.ntmps87
   go_wp2
   all_goals go_ret2
   all_goals exact ⟨⟨_,1,rfl,by decide⟩,Below.refl _ _⟩
  ·have e39:(c == 39)=false:=by simpa using h39
   by_cases h92:c=92
   ·subst h92
    go_enter Tryz.func87,Tryz.ntmps87
    go_wp2
    all_goals go_ret2
    all_goals exact ⟨⟨_,1,rfl,by decide⟩,Below.refl _ _⟩
   ·have e92:(c == 92)=false:=by simpa using h92
    by_cases h110:c=110
    ·subst h110
     go_enter Tryz.func87,Tryz.ntmps87
     go_wp2
     all_goals go_ret2
     all_goals exact ⟨⟨_,1,rfl,by decide⟩,Below.refl _ _⟩
    ·have e110:(c == 110)=false:=by simpa using h110
     by_cases h116:c=116
     ·subst h116
      go_enter Tryz.func87,Tryz.ntmps87
      go_wp2
      all_goals go_ret2
      all_goals exact ⟨⟨_,1,rfl,by decide⟩,Below.refl _ _⟩
     ·have e116:(c == 116)=false:=by simpa using h116
      by_cases h114:c=114
      ·subst h114
       go_enter Tryz.func87,Tryz.ntmps87
       go_wp2
       all_goals go_ret2
       all_goals exact ⟨⟨_,1,rfl,by decide⟩,Below.refl _ _⟩
      ·have e114:(c == 114)=false:=by simpa using h114
       by_cases h120:c=120
       ·subst h120
        by_cases h2:i+2 < s.size
        ·have h2i:(i:Int)+2 < (s.size:Int):=by omega
         have hx1:=str_at s (i+1) (by omega)
         have hx2:=str_at s (i+2) h2
         obtain ⟨b1,b2⟩:=str_byte s (i+1) (by omega)
         obtain ⟨b3,b4⟩:=str_byte s (i+2) h2
         rw [show ((i+1:Nat):Int)=(i:Int)+1 by omega] at hx1
         rw [show ((i+2:Nat):Int)=(i:Int)+2 by omega] at hx2
         have hq1:=fun W=>rf_hexZ _ b1 b2 W
         have hq2:=fun W=>rf_hexZ _ b3 b4 W
         generalize ((s[i+1]'(by omega)).toNat:Int)=d1 at hx1 hq1 b1 b2
         generalize ((s[i+2]'h2).toNat:Int)=d2 at hx2 hq2 b3 b4
         generalize hexZ d1=z1 at hq1
         generalize hexZ d2=z2 at hq2
         clear b1 b2 b3 b4
         by_cases hz1:0≤z1
         ·by_cases hz2:0≤z2
          ·go_enter Tryz.func87,Tryz.ntmps87; go_wp2_with fail
           refine (hq1 _).mono ?_
           rintro e w' ⟨rfl,rfl⟩
           go_wp2_with fail
           refine (hq2 _).mono ?_
           rintro e w' ⟨rfl,rfl⟩
           go_wp2_with fail
           go_quiet (first | (go_at_call_of 103 d1; exact Calls.quiet_of_same ((hq1 _).mono fun _ _ h=>⟨h.1,h.2.symm⟩)) | (go_at_call_of 103 d2; exact Calls.quiet_of_same ((hq2 _).mono fun _ _ h=>⟨h.1,h.2.symm⟩)))
           go_wp2
           go_ret2
           exact ⟨⟨_,3,rfl,by decide⟩,drewN_below w _⟩
          ·have hz2b:¬ 0≤z2:=hz2
           go_enter Tryz.func87,Tryz.ntmps87; go_wp2_with fail
           refine (hq1 _).mono ?_
           rintro e w' ⟨rfl,rfl⟩
           go_wp2_with fail
           refine (hq2 _).mono ?_
           rintro e w' ⟨rfl,rfl⟩
           go_wp2
           go_ret2
           exact ⟨⟨_,0,rfl,by decide⟩,Below.refl _ _⟩
         ·go_enter Tryz.func87,Tryz.ntmps87; go_wp2_with fail
          refine (hq1 _).mono ?_
          rintro e w' ⟨rfl,rfl⟩
          go_wp2
          go_ret2
          exact ⟨⟨_,0,rfl,by decide⟩,Below.refl _ _⟩
        ·have h2i:¬ (i:Int)+2 < (s.size:Int):=by omega
         go_enter Tryz.func87,Tryz.ntmps87; go_wp2
         go_ret2
         exact ⟨⟨_,0,rfl,by decide⟩,Below.refl _ _⟩
       ·have e120:(c == 120)=false:=by simpa using h120
        go_enter Tryz.func87,Tryz.ntmps87; go_wp2
        all_goals go_ret2
        all_goals exact ⟨⟨_,0,rfl,by decide⟩,Below.refl _ _⟩
 ·have hii:(s.size:Int)≤(i:Int):=by omega
  go_enter Tryz.func87,Tryz.ntmps87
  go_wp2
  go_ret2
  exact ⟨⟨_,0,rfl,by decide⟩,Below.refl _ _⟩
def BoolTold (e:Ending):Prop:=∃ b:Bool,e=.returned (.bool b)
def RSV:Array Value:=#[.string ⟨#[97,102,116,101,114]⟩,.string ⟨#[97,110,100]⟩,.string ⟨#[97,110,100,97,108,115,111]⟩,.string ⟨#[98,101,103,105,110]⟩,.string ⟨#[99,97,115,101]⟩,.string ⟨#[99,97,116,99,104]⟩,.string ⟨#[100,105,118]⟩,.string ⟨#[101,110,100]⟩,.string ⟨#[102,117,110]⟩,.string ⟨#[105,102]⟩,.string ⟨#[110,111,116]⟩,.string ⟨#[111,102]⟩,.string ⟨#[111,114]⟩,.string ⟨#[111,114,101,108,115,101]⟩,.string ⟨#[114,101,99,101,105,118,101]⟩,.string ⟨#[114,101,109]⟩,.string ⟨#[116,114,121]⟩,.string ⟨#[119,104,101,110]⟩,.string ⟨#[120,111,114]⟩]
theorem RSV_get:∀ j,j < 19→∃ x:ByteArray,RSV[j]? = some (.string x)
 | 0,_=>⟨_,rfl⟩
 | 1,_=>⟨_,rfl⟩
 | 2,_=>⟨_,rfl⟩
 | 3,_=>⟨_,rfl⟩
 | 4,_=>⟨_,rfl⟩
 | 5,_=>⟨_,rfl⟩
 | 6,_=>⟨_,rfl⟩
 | 7,_=>⟨_,rfl⟩
 | 8,_=>⟨_,rfl⟩
 | 9,_=>⟨_,rfl⟩
 | 10,_=>⟨_,rfl⟩
 | 11,_=>⟨_,rfl⟩
 | 12,_=>⟨_,rfl⟩
 | 13,_=>⟨_,rfl⟩
 | 14,_=>⟨_,rfl⟩
 | 15,_=>⟨_,rfl⟩
 | 16,_=>⟨_,rfl⟩
 | 17,_=>⟨_,rfl⟩
 | 18,_=>⟨_,rfl⟩
 | j+19,h=>by omega
theorem rf_reserved (s:ByteArray) (w:World):Calls Tryz.prog 36 #[.string s] w fun e w'=>BoolTold e∧Below w.heap.size w w':=by
 have hw:∀ j (v:Value),RSV[j]? = some v→(w.alloc (.cells #[.string ⟨#[97,102,116,101,114]⟩,.string ⟨#[97,110,100]⟩,.string ⟨#[97,110,100,97,108,115,111]⟩,.string ⟨#[98,101,103,105,110]⟩,.string ⟨#[99,97,115,101]⟩,.string ⟨#[99,97,116,99,104]⟩,.string ⟨#[100,105,118]⟩,.string ⟨#[101,110,100]⟩,.string ⟨#[102,117,110]⟩,.string ⟨#[105,102]⟩,.string ⟨#[110,111,116]⟩,.string ⟨#[111,102]⟩,.string ⟨#[111,114]⟩,.string ⟨#[111,114,101,108,115,101]⟩,.string ⟨#[114,101,99,101,105,118,101]⟩,.string ⟨#[114,101,109]⟩,.string ⟨#[116,114,121]⟩,.string ⟨#[119,104,101,110]⟩,.string ⟨#[120,111,114]⟩] 9)).cell? ⟨w.heap.size,j,none⟩=some v:=fun j v hv=>by
  rw [World.cell?_alloc_at _ _ _ _ rfl]
  exact hv
 have HW:=Hid.mk7 hw
 have HB:=Hid.mk7 (Below.alloc0 w (.cells #[.string ⟨#[97,102,116,101,114]⟩,.string ⟨#[97,110,100]⟩,.string ⟨#[97,110,100,97,108,115,111]⟩,.string ⟨#[98,101,103,105,110]⟩,.string ⟨#[99,97,115,101]⟩,.string ⟨#[99,97,116,99,104]⟩,.string ⟨#[100,105,118]⟩,.string ⟨#[101,110,100]⟩,.string ⟨#[102,117,110]⟩,.string ⟨#[105,102]⟩,.string ⟨#[110,111,116]⟩,.string ⟨#[111,102]⟩,.string ⟨#[111,114]⟩,.string ⟨#[111,114,101,108,115,101]⟩,.string ⟨#[114,101,99,101,105,118,101]⟩,.string ⟨#[114,101,109]⟩,.string ⟨#[116,114,121]⟩,.string ⟨#[119,104,101,110]⟩,.string ⟨#[120,111,114]⟩] 9))
 clear hw
 go_enter Tryz.func36,Tryz.ntmps36
 go_wp2_with fail
 generalize w.alloc _=w1 at HW HB ⊢
 go_loopw [4] (fun ii wr=>∃ j:Nat,ii=.int .i64 (j:Int)∧j≤19∧w1=wr) (fun ii _=>19 - (intOf ii).toNat)
 case atStart=>exact ⟨0,rfl,by omega,rfl⟩
 case round=>
  obtain ⟨j,rfl,h1,rfl⟩:=hrel
  by_cases hlt:j < 19
  ·have hlti:(j:Int) < 19:=by omega
   obtain ⟨x,hx⟩:=RSV_get j hlt
   have hc:=HW.out j _ hx
   clear hx
   by_cases he:x=s
   ·subst he
    go_wp2
    go_ret
    exact ⟨⟨_,rfl⟩,HB.out⟩
   ·have heb:(x.toList == s.toList)=false:=by simpa using bytes_ne he
    go_wp2
    go_roundw
    case rel=>exact ⟨j+1,by go_num,by omega,trivial⟩
    case measure=>simp [intOf]; omega
  ·have hge:¬ (j:Int) < 19:=by omega
   go_wp2
   go_ret
   exact ⟨⟨_,rfl⟩,HB.out⟩
end Go.Proofs.YtlciaafincgdeaaGreatDoor
