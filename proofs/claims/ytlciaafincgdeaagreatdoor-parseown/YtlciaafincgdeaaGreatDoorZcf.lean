/-
  Layer 1, the document's: the atom that begins at a place of a text.
  Layer 10, the document's: numbers in a text.
  Layer 10, the document's: characters in a text.
-/
import Derived.Test.YtlciaafincgdeaaGreatDoorZce
namespace Go.Proofs.YtlciaafincgdeaaGreatDoor
open Go.RowKit
variable {w:World} {zs:List Int}
set_option maxHeartbeats 3200000
set_option maxRecDepth 100000
theorem Tryz.byteTypes:ByteTypes Tryz.prog 143 5:=by
 refine ⟨Tryz.underlying143,?_⟩
 have h:(Tryz.prog.info? 5).map (fun i=>(i.zero,i.size,i.bytes))=some (some (.int .u8 0),1,1):=by kernel_rfl
 obtain ⟨i,hi,h0,h1,h2⟩:=info_parts h
 exact ⟨i,hi,h0,h1,h2⟩
theorem Sl.byte1 (w:World) (t:TypeId) (x:Int):Sl (w.alloc (.cells #[.int .u8 x] t)) (.slice (some ⟨w.heap.size,0,none⟩) 1 1) [x]:=by
 refine .inr (.inr ⟨w.heap.size,0,1,rfl,Nat.le_refl _,by decide,fun j hj=>?_⟩)
 have hj1:j < 1:=hj
 match j,hj1 with
 | 0,_=>simp
theorem Sl.text {v:Value} (h:Sl w v zs):(convert 143 9 v).run Tryz.prog w=.ok (.string (strOfNums zs)) w:=by
 rcases h with ⟨rfl,rfl⟩ | ⟨a,rfl,rfl⟩ | ⟨g,off,cap,rfl,_,_,h4⟩
 ·exact run_convert_bytes_nil w _ _ Tryz.underlying143 Tryz.underlying5 0 0 _ Tryz.underlying9
 ·rw [run_convert_bytes_string w _ _ _ _ _ _ Tryz.underlying143 Tryz.underlying5 Tryz.underlying9]
  have hl:(loadCells a 0).run Tryz.prog w=.ok #[] w:=by simpa using run_loadCells_list (P:=Tryz.prog) w a [] (fun j v hj=>by simp at hj)
  simp [Conv.bytesToString,strOfNums,hl]
  rfl
 ·exact run_convert_bytes_arg w _ _ Tryz.underlying143 Tryz.underlying5 g off zs.length cap zs rfl (fun i hi=>by rw [h4 i hi]; simp [List.getD,List.getElem?_eq_getElem hi]) _ Tryz.underlying9
def AtomTold (s:ByteArray) (from_:Nat) (w:World) (e:Ending) (w':World):Prop:=
 (∃ v,e=.returned (.tuple #[.string ⟨#[]⟩,.int .i64 0,v])∧Lk1 w' v∧Below w.heap.size w w')∨∃ (x:ByteArray) (j:Nat),e=.returned (.tuple #[.string x,.int .i64 (j:Int),.slice none 0 0])∧from_ < j∧j≤s.size∧Below w.heap.size w w'
structure QuI (s:ByteArray) (f:Nat) (w wr:World) (bv:Value) (j:Nat) (zs:List Int):Prop where
 lo:f < j
 hi:j≤s.size+4
 own:Own wr bv zs
 len:zs.length≤j
 bl:Below w.heap.size w wr
 new:∀ k,blk bv k→w.heap.size≤k
theorem QuI.more {s:ByteArray} {f:Nat} {wr w2:World} {bv V2:Value} {j i:Nat} {c:Int} {o:Obj} (h:QuI s f w wr bv j zs) (hi:j < i) (hi2:i≤s.size+4) (ho:Own w2 V2 (zs++[c])) (ht:Turned (blk bv) (wr.alloc o) w2) (hv:∀ k,blk V2 k→blk bv k∨k=(wr.alloc o).heap.size):QuI s f w w2 V2 i (zs++[c]):=by
 have hz:=h.bl.size
 have b1:=h.bl.trans ((Below.alloc0 wr o).mono hz)
 refine ⟨by have:=h.lo; omega,hi2,ho,by have:=h.len; simp; omega,b1.trans (ht.below b1.size h.new),fun k hk=>(hv k hk).elim (h.new k) (fun e=>by simp at e; omega)⟩
theorem rf_quoted (s:ByteArray) (hs:s.size≤65536) (f:Nat) (hf:f < s.size) (w:World):Calls Tryz.prog 68 #[.string s,.int .i64 (f:Int)] w (AtomTold s f w):=by
 go_enter Tryz.func68,Tryz.ntmps68
 go_wp2_with fail
 go_loopw [7,8] (fun bv ii wr=>∃ (j:Nat) (zs:List Int),ii=.int .i64 (j:Int)∧QuI s f w wr bv j zs) (fun _ ii _=>s.size - (intOf ii).toNat)
 case atStart=>exact ⟨f+1,[],by go_num,⟨by omega,by omega,.inl ⟨rfl,rfl⟩,by simp,Below.refl _ _,fun _ e=>e.elim⟩⟩
 case round=>
  obtain ⟨j,zs,rfl,hQ⟩:=hrel
  obtain ⟨aV,cV,hV,_,_⟩:=hQ.own.sl.form
  subst hV
  have HQ:=Hid.mk7 hQ
  have hj4:=hQ.hi
  have hzl:=hQ.len
  clear hQ
  by_cases hlt:j < s.size
  ·have hlti:(j:Int) < (s.size:Int):=by omega
   have hix:=str_at s j hlt
   generalize (s[j].toNat:Int)=c at hix
   by_cases h39:c=39
   ·subst h39
    have hge:¬ (s.size:Int)≤(j:Int):=by omega
    by_cases h255:(255:Int) < (zs.length:Int)
    ·have hR:=rf_no01 ((f:Int)) 4 wr
     go_wp2_with fail
     refine hR.mono ?_
     rintro e w2 ⟨v,rfl,hv,hb2⟩
     have HV:=Hid.mk7 (And.intro hv (HQ.out.bl.trans (hb2.mono HQ.out.bl.size)))
     obtain ⟨lb,ly,la,lc,hve,_⟩:=hv
     subst hve
     clear hR hb2
     go_wp2
     go_ret3
     exact .inl ⟨_,rfl,HV.out⟩
    ·have hcv:(convert 143 9 (.slice aV zs.length cV)).run Tryz.prog wr=.ok (.string (strOfNums zs)) wr:=Sl.text HQ.out.own.sl
     have hU:=rf_UTF (strOfNums zs) (by rw [strOfNums_size]; omega) wr
     generalize strOfNums zs=x at hcv hU
     go_wp2_with fail
     refine hU.mono ?_
     rintro e w' ⟨⟨z,rfl⟩,rfl⟩
     by_cases hz:0≤z
     ·have hR:=rf_no01 ((f:Int)) 23 wr
      go_wp2_with fail
      refine hR.mono ?_
      rintro e w2 ⟨v,rfl,hv,hb2⟩
      have HV:=Hid.mk7 (And.intro hv (HQ.out.bl.trans (hb2.mono HQ.out.bl.size)))
      obtain ⟨lb,ly,la,lc,hve,_⟩:=hv
      subst hve
      clear hR hb2
      go_wp2
      go_ret3
      exact .inl ⟨_,rfl,HV.out⟩
     ·go_wp2
      go_ret3
      exact .inr ⟨x,j+1,by go_num,by have:=HQ.out.lo; omega,by omega,HQ.out.bl⟩
   ·have e39:(c == 39)=false:=by simpa using h39
    by_cases h32:c < 32
    ·have hR:=rf_no01 ((f:Int)) 21 wr
     go_wp2_with fail
     refine hR.mono ?_
     rintro e w2 ⟨v,rfl,hv,hb2⟩
     have HV:=Hid.mk7 (And.intro hv (HQ.out.bl.trans (hb2.mono HQ.out.bl.size)))
     obtain ⟨lb,ly,la,lc,hve,_⟩:=hv
     subst hve
     clear hR hb2
     go_wp2
     go_ret3
     exact .inl ⟨_,rfl,HV.out⟩
    ·by_cases h127:c=127
     ·subst h127
      have hR:=rf_no01 ((f:Int)) 21 wr
      go_wp2_with fail
      refine hR.mono ?_
      rintro e w2 ⟨v,rfl,hv,hb2⟩
      have HV:=Hid.mk7 (And.intro hv (HQ.out.bl.trans (hb2.mono HQ.out.bl.size)))
      obtain ⟨lb,ly,la,lc,hve,_⟩:=hv
      subst hve
      clear hR hb2
      go_wp2
      go_ret3
      exact .inl ⟨_,rfl,HV.out⟩
     ·have e127:(c == 127)=false:=by simpa using h127
      by_cases h92:c=92
      ·subst h92
       by_cases hend:j+1=s.size
       ·have hendI:(j:Int)+1=(s.size:Int):=by omega
        have hR:=rf_no01 ((f:Int)) 21 wr
        go_wp2_with fail
        refine hR.mono ?_
        rintro e w2 ⟨v,rfl,hv,hb2⟩
        have HV:=Hid.mk7 (And.intro hv (HQ.out.bl.trans (hb2.mono HQ.out.bl.size)))
        obtain ⟨lb,ly,la,lc,hve,_⟩:=hv
        subst hve
        clear hR hb2
        go_wp2
        go_ret3
        exact .inl ⟨_,rfl,HV.out⟩
       ·have hendI:((j:Int)+1 == (s.size:Int))=false:=by simp; omega
        have hE:=rf_escape s hs (j+1) (by omega) wr
        rw [show ((j+1:Nat):Int)=(j:Int)+1 by omega] at hE
        go_wp2_with fail
        refine hE.mono ?_
        rintro e w3 ⟨⟨d,n,rfl,hn⟩,hb3⟩
        have HB3:=Hid.mk7 (HQ.out.bl.trans (hb3.mono HQ.out.bl.size))
        have HO3:=Hid.mk7 (HQ.out.own.turned (Turned.ofBelow (S:=fun _=>False) hb3) (fun _ _ e=>e))
        clear hE hb3 hix
        by_cases hn0:n=0
        ·subst hn0
         have hR:=rf_no01 ((j:Int)) 22 w3
         go_wp2_with fail
         refine hR.mono ?_
         rintro e w2 ⟨v,rfl,hv,hb2⟩
         have HV:=Hid.mk7 (And.intro hv (HB3.out.trans (hb2.mono HB3.out.size)))
         obtain ⟨lb,ly,la,lc,hve,_⟩:=hv
         subst hve
         clear hR hb2
         go_wp2
         go_ret3
         exact .inl ⟨_,rfl,HV.out⟩
        ·have en0:((n:Int) == 0)=false:=by simp; omega
         have HQ3:Hid (QuI s f w w3 (.slice aV zs.length cV) j zs):=⟨HQ.out.lo,HQ.out.hi,HO3.out,HQ.out.len,HB3.out,HQ.out.new⟩
         have hfit:zs.length+[d].length≤70368744177664:=by simp; omega
         have HFit:=Hid.mk7 hfit
         clear hfit
         go_wp2_with (at_builtin; refine wpList_append_bytes (by rfl) (.tmp 65) (.tmp 67) (by rfl) Tryz.byteTypes (by rfl) (by rfl) (HQ3.out.own.turned (Turned.alloc (fun _=>False) _ _) (fun _ _ e=>e)) (Sl.byte1 _ _ _) HFit.out ?_; intro V4 w4 ho4 ht4 hv4; have HQ4:=Hid.mk7 (HQ3.out.more (i:=j+1+n) (by omega) (by omega) ho4 ht4 hv4); clear ho4 ht4 hv4)
         go_roundw
         case rel=>exact ⟨j+1+n,_,by go_num,HQ4.out⟩
         case measure=>simp [intOf]; omega
      ·have e92:(c == 92)=false:=by simpa using h92
       have hfit:zs.length+[c].length≤70368744177664:=by simp; omega
       have HFit:=Hid.mk7 hfit
       clear hfit
       go_wp2_with (at_builtin; refine wpList_append_bytes (by rfl) (.tmp 39) (.tmp 43) (by rfl) Tryz.byteTypes (by rfl) (by rfl) (HQ.out.own.turned (Turned.alloc (fun _=>False) _ _) (fun _ _ e=>e)) (Sl.byte1 _ _ _) HFit.out ?_; intro V4 w4 ho4 ht4 hv4; have HQ4:=Hid.mk7 (HQ.out.more (i:=j+1) (by omega) (by omega) ho4 ht4 hv4); clear ho4 ht4 hv4)
       go_roundw
       case rel=>exact ⟨j+1,_,by go_num,HQ4.out⟩
       case measure=>simp [intOf]; omega
  ·have hge:¬ (j:Int) < (s.size:Int):=by omega
   have hge2:(s.size:Int)≤(j:Int):=by omega
   have hR:=rf_no01 ((f:Int)) 21 wr
   go_wp2_with fail
   refine hR.mono ?_
   rintro e w2 ⟨v,rfl,hv,hb2⟩
   have HV:=Hid.mk7 (And.intro hv (HQ.out.bl.trans (hb2.mono HQ.out.bl.size)))
   obtain ⟨lb,ly,la,lc,hve,_⟩:=hv
   subst hve
   clear hR hb2
   go_wp2
   go_ret3
   exact .inl ⟨_,rfl,HV.out⟩
theorem rf_atomScan (s:ByteArray) (hs:s.size≤65536) (f:Nat) (hf:f < s.size) (w:World):Calls Tryz.prog 37 #[.string s,.int .i64 (f:Int)] w (AtomTold s f w):=by
 have hix:=str_at s f hf
 have hfi:¬ (s.size:Int) < (f:Int):=by omega
 have hfe:((f:Int) == (s.size:Int))=false:=by simp; omega
 have hf0:¬ (f:Int) < 0:=by omega
 have hsm:=fun W=>rf_small (s[f].toNat:Int) W
 obtain ⟨c,hcE⟩:∃ c:Int,(s[f].toNat:Int)=c:=⟨_,rfl⟩
 rw [hcE] at hix hsm
 have HC:=Hid.mk7 hcE
 clear hcE
 by_cases h39:c=39
 ·subst h39
  have e39:smallB 39=false:=by decide
  rw [e39] at hsm
  have hq:=rf_quoted s hs f hf w
  go_enter Tryz.func37,Tryz.ntmps37
  go_wp2_with fail
  refine (hsm _).mono ?_
  rintro e w' ⟨rfl,rfl⟩
  go_wp2_with fail
  refine hq.mono ?_
  rintro e w1 (⟨v,rfl,hv,hb⟩ | ⟨x,j,rfl,h1,h2,hb⟩)
  ·have HV:=Hid.mk7 (And.intro hv hb)
   obtain ⟨lb,ly,la,lc,hve,_⟩:=hv
   subst hve
   clear hq hb
   go_wp2
   go_ret3
   exact .inl ⟨_,rfl,HV.out⟩
  ·clear hq
   have HB:=Hid.mk7 hb
   clear hb
   go_wp2
   go_ret3
   exact .inr ⟨x,j,rfl,h1,h2,HB.out⟩
 ·have e39:(c == 39)=false:=by simpa using h39
  cases hsb:smallB c with
  | false=>
   rw [hsb] at hsm
   clear hsb
   go_enter Tryz.func37,Tryz.ntmps37
   go_wp2_with fail
   refine (hsm _).mono ?_
   rintro e w' ⟨rfl,rfl⟩
   have hR:=rf_no01 ((f:Int)) 20 w
   go_wp2_with fail
   refine hR.mono ?_
   rintro e w2 ⟨v,rfl,hv,hb2⟩
   have HV:=Hid.mk7 (And.intro hv hb2)
   obtain ⟨lb,ly,la,lc,hve,_⟩:=hv
   subst hve
   clear hR hb2
   go_wp2
   go_ret3
   exact .inl ⟨_,rfl,HV.out⟩
  | true=>
   rw [hsb] at hsm
   have hwd:wordB (s[f].toNat:Int)=true:=by rw [HC.out]; simp [wordB,alnumB,hsb]
   have HW:=Hid.mk7 hwd
   clear hsb hwd
   go_enter Tryz.func37,Tryz.ntmps37
   go_wp2_with fail
   refine (hsm _).mono ?_
   rintro e w' ⟨rfl,rfl⟩
   go_wp2_with fail
   clear hix hsm
   go_loopw [7] (fun ii wr=>∃ j:Nat,ii=.int .i64 (j:Int)∧f≤j∧j≤s.size∧w=wr) (fun ii _=>s.size - (intOf ii).toNat)
   case atStart=>exact ⟨f,rfl,Nat.le_refl _,by omega,rfl⟩
   case round=>
    obtain ⟨j,rfl,h1,h2,rfl⟩:=hrel
    by_cases hgo:∃ h:j < s.size,wordB (s[j].toNat:Int)=true
    ·obtain ⟨hlt,hw⟩:=hgo
     have hlti:(j:Int) < (s.size:Int):=by omega
     have hix:=str_at s j hlt
     have hq:=fun W=>rf_inWord (s[j].toNat:Int) W
     rw [hw] at hq
     generalize (s[j].toNat:Int)=d at hix hq hw
     go_wp2_with fail
     refine (hq _).mono ?_
     rintro e w' ⟨rfl,rfl⟩
     go_wp2
     go_roundw
     case rel=>exact ⟨j+1,by go_num,by omega,by omega,trivial⟩
     case measure=>simp [intOf]; omega
    ·have hfj:f < j:=by
      rcases Nat.eq_or_lt_of_le h1 with rfl | h3
      ·exact (hgo ⟨hf,HW.out⟩).elim
      ·exact h3
     have hsub:(j:Int) - (f:Int)=((j - f:Nat):Int):=by omega
     have hcut:=str_cut s f j h1 h2
     by_cases h255:(255:Int) < (j:Int) - (f:Int)
     ·by_cases hlt:j < s.size
      ·have hlti:(j:Int) < (s.size:Int):=by omega
       have hix:=str_at s j hlt
       have hq:=fun W=>rf_inWord (s[j].toNat:Int) W
       have hwf:wordB (s[j].toNat:Int)=false:=by
        cases h9:wordB (s[j].toNat:Int) with
        | false=>rfl
        | true=>exact (hgo ⟨hlt,h9⟩).elim
       rw [hwf] at hq
       generalize (s[j].toNat:Int)=d at hix hq
       clear hgo hwf hsub
       go_wp2_with fail
       refine (hq _).mono ?_
       rintro e w' ⟨rfl,rfl⟩
       have hR:=rf_no01 ((f:Int)) 4 w
       go_wp2_with fail
       refine hR.mono ?_
       rintro e w2 ⟨v,rfl,hv,hb2⟩
       have HV:=Hid.mk7 (And.intro hv hb2)
       obtain ⟨lb,ly,la,lc,hve,_⟩:=hv
       subst hve
       clear hR hb2
       go_wp2
       go_ret3
       exact .inl ⟨_,rfl,HV.out⟩
      ·have hge:¬ (j:Int) < (s.size:Int):=by omega
       clear hgo hsub
       have hR:=rf_no01 ((f:Int)) 4 w
       go_wp2_with fail
       refine hR.mono ?_
       rintro e w2 ⟨v,rfl,hv,hb2⟩
       have HV:=Hid.mk7 (And.intro hv hb2)
       obtain ⟨lb,ly,la,lc,hve,_⟩:=hv
       subst hve
       clear hR hb2
       go_wp2
       go_ret3
       exact .inl ⟨_,rfl,HV.out⟩
     ·have hRs:=fun W=>rf_reserved (s.extract f j) W
      generalize s.extract f j=x at hcut hRs
      by_cases hlt:j < s.size
      ·have hlti:(j:Int) < (s.size:Int):=by omega
       have hix:=str_at s j hlt
       have hq:=fun W=>rf_inWord (s[j].toNat:Int) W
       have hwf:wordB (s[j].toNat:Int)=false:=by
        cases h9:wordB (s[j].toNat:Int) with
        | false=>rfl
        | true=>exact (hgo ⟨hlt,h9⟩).elim
       rw [hwf] at hq
       generalize (s[j].toNat:Int)=d at hix hq
       clear hgo hwf hsub
       go_wp2_with fail
       refine (hq _).mono ?_
       rintro e w' ⟨rfl,rfl⟩
       go_wp2_with fail
       refine (hRs _).mono ?_
       rintro e w3 ⟨⟨b,rfl⟩,hb3⟩
       have HB3:=Hid.mk7 hb3
       clear hRs hb3
       cases b with
       | true=>
        have hR:=rf_no01 ((f:Int)) 20 w3
        go_wp2_with fail
        refine hR.mono ?_
        rintro e w2 ⟨v,rfl,hv,hb2⟩
        have HV:=Hid.mk7 (And.intro hv (HB3.out.trans (hb2.mono HB3.out.size)))
        obtain ⟨lb,ly,la,lc,hve,_⟩:=hv
        subst hve
        clear hR hb2
        go_wp2
        go_ret3
        exact .inl ⟨_,rfl,HV.out⟩
       | false=>
        go_wp2
        go_ret3
        exact .inr ⟨x,j,rfl,hfj,h2,HB3.out⟩
      ·have hge:¬ (j:Int) < (s.size:Int):=by omega
       clear hgo hsub
       go_wp2_with fail
       refine (hRs _).mono ?_
       rintro e w3 ⟨⟨b,rfl⟩,hb3⟩
       have HB3:=Hid.mk7 hb3
       clear hRs hb3
       cases b with
       | true=>
        have hR:=rf_no01 ((f:Int)) 20 w3
        go_wp2_with fail
        refine hR.mono ?_
        rintro e w2 ⟨v,rfl,hv,hb2⟩
        have HV:=Hid.mk7 (And.intro hv (HB3.out.trans (hb2.mono HB3.out.size)))
        obtain ⟨lb,ly,la,lc,hve,_⟩:=hv
        subst hve
        clear hR hb2
        go_wp2
        go_ret3
        exact .inl ⟨_,rfl,HV.out⟩
       | false=>
        go_wp2
        go_ret3
        exact .inr ⟨x,j,rfl,hfj,h2,HB3.out⟩
def smB (x:ByteArray):Bool:=match x.data[0]? with
  | some c=>smallB (c.toNat:Int)
  | none=>false
theorem smB_cut (s:ByteArray) (a j:Nat) (ha:a < s.size) (haj:a < j) (hj:j≤s.size):smB (s.extract a j)=smallB (s[a].toNat:Int):=by
  have hd:s.data.size=s.size:=rfl
  have h:(s.extract a j).data[0]? = some s[a]:=by
    rw [ByteArray.data_extract,Array.getElem?_extract_of_lt (by omega)]
    rfl
  simp only [smB,h]
def TkW (t:Tk):Prop:=(t.kind=5→smB t.text=false)∧(t.kind=4→smB t.text=true)
theorem TkW.of {t:Tk} (h:t.kind≠5∧t.kind≠4):TkW t:=⟨fun e=>absurd e h.1,fun e=>absurd e h.2⟩
def TokT (s:ByteArray) (a:Nat) (w:World) (e:Ending) (w':World):Prop:=
  (∃ v,e=.returned (.tuple #[zeroTk.val,.int .i64 0,v])∧LkE v∧Below w.heap.size w w')∨∃ (t:Tk) (j:Nat),e=.returned (.tuple #[t.val,.int .i64 (j:Int),.slice none 0 0])∧a < j∧j≤s.size∧Below w.heap.size w w'∧TkW t
def NumTold (e:Ending):Prop:=∃ (z:Int) (b:Bool),e=.returned (.tuple #[.int .i64 z,.bool b])
theorem rf_number (s:ByteArray) (hs:s.size≤65536) (base:Int) (h2:2≤base) (h36:base≤36) (w:World):Calls Tryz.prog 69 #[.string s,.int .i64 base] w fun e w'=>NumTold e∧w=w':=by
  have hb0:¬ base=0:=by omega
  go_enter Tryz.func69,Tryz.ntmps69
  go_wp2_with fail
  go_loopw [6,7] (fun nn ii wr=>∃ (z:Int) (j:Nat),nn=.int .i64 z∧ii=.int .i64 (j:Int)∧j≤s.size∧w=wr) (fun _ ii _=>s.size - (intOf ii).toNat)
  case atStart=>exact ⟨0,0,rfl,rfl,by omega,rfl⟩
  case round=>
    obtain ⟨z,j,rfl,rfl,h1,rfl⟩:=hrel
    by_cases hlt:j < s.size
    · have hlti:(j:Int) < (s.size:Int):=by omega
      have hix:=str_at s j hlt
      have hq:=fun W=>rf_value (s[j].toNat:Int) W
      generalize (s[j].toNat:Int)=c at hix hq
      go_wp2_with fail
      refine (hq _).mono ?_
      rintro e w' ⟨⟨v,rfl⟩,rfl⟩
      clear hq hix
      go_wp2
      all_goals first
        | (go_ret2; exact ⟨⟨_,_,rfl⟩,rfl⟩)
        | (go_roundw
           case rel=>exact ⟨_,j+1,rfl,by go_num,by omega,trivial⟩
           case measure=>simp [intOf]; omega)
    · have hge:¬ (j:Int) < (s.size:Int):=by omega
      go_wp2
      go_ret2
      exact ⟨⟨_,_,rfl⟩,rfl⟩
theorem rf_figure (s:ByteArray) (hs:s.size≤65536) (a:Nat) (ha:a < s.size) (hd:digB (s[a].toNat:Int)=true) (w:World):Calls Tryz.prog 41 #[.string s,.int .i64 (a:Int)] w (TokT s a w):=by
  have HD:=Hid.mk7 hd
  clear hd
  go_enter Tryz.func41,Tryz.ntmps41
  go_wp2_with fail
  go_loopw [7] (fun ii wr=>∃ j:Nat,ii=.int .i64 (j:Int)∧a≤j∧j≤s.size∧w.alloc (.cells #[.int .i64 0,.string ⟨#[]⟩,.int .i64 0,.int .i64 0] 40)=wr) (fun ii _=>s.size - (intOf ii).toNat)
  case atStart=>exact ⟨a,rfl,Nat.le_refl _,by omega,rfl⟩
  case round=>
    obtain ⟨j,rfl,h1,h2,rfl⟩:=hrel
    by_cases hgo:∃ h:j < s.size,digB (s[j].toNat:Int)=true
    · obtain ⟨hlt,hw⟩:=hgo
      have hlti:(j:Int) < (s.size:Int):=by omega
      have hix:=str_at s j hlt
      have hq:=fun W=>rf_digit (s[j].toNat:Int) W
      rw [hw] at hq
      generalize (s[j].toNat:Int)=d at hix hq hw
      go_wp2_with fail
      refine (hq _).mono ?_
      rintro e w' ⟨rfl,rfl⟩
      go_wp2
      go_roundw
      case rel=>exact ⟨j+1,by go_num,by omega,by omega,trivial⟩
      case measure=>simp [intOf]; omega
    · have hfj:a < j:=by
        rcases Nat.eq_or_lt_of_le h1 with rfl | h3
        · exact (hgo ⟨ha,HD.out⟩).elim
        · exact h3
      have hcut:=str_cut s a j h1 h2
      have hN:=fun W=>rf_number (s.extract a j) (by rw [ByteArray.size_extract]; omega) 10 (by omega) (by omega) W
      generalize s.extract a j=x at hcut hN
      by_cases hlt:j < s.size
      · have hlti:(j:Int) < (s.size:Int):=by omega
        have hix:=str_at s j hlt
        have hq:=fun W=>rf_digit (s[j].toNat:Int) W
        have hwf:digB (s[j].toNat:Int)=false:=by
          cases h9:digB (s[j].toNat:Int) with
          | false=>rfl
          | true=>exact (hgo ⟨hlt,h9⟩).elim
        rw [hwf] at hq
        generalize (s[j].toNat:Int)=d at hix hq
        clear hgo hwf
        go_wp2_with fail
        refine (hq _).mono ?_
        rintro e w' ⟨rfl,rfl⟩
        go_wp2_with fail
        refine (hN _).mono ?_
        rintro e w' ⟨⟨z,b,rfl⟩,rfl⟩
        clear hq hN hcut
        by_cases h35:d=35
        · subst h35
          go_wp2_with fail
          go_loopw [10] (fun ii wr=>∃ k:Nat,ii=.int .i64 (k:Int)∧j < k∧k≤s.size∧w.alloc (.cells #[.int .i64 0,.string ⟨#[]⟩,.int .i64 0,.int .i64 0] 40)=wr) (fun ii _=>s.size - (intOf ii).toNat)
          case atStart=>exact ⟨j+1,by go_num,by omega,by omega,rfl⟩
          case round=>
            obtain ⟨k,rfl,h3,h4,rfl⟩:=hrel
            by_cases hlk:k < s.size
            · have hlki:(k:Int) < (s.size:Int):=by omega
              have hiy:=str_at s k hlk
              have hv:=fun W=>rf_value (s[k].toNat:Int) W
              generalize (s[k].toNat:Int)=d2 at hiy hv
              go_wp2_with fail
              refine (hv _).mono ?_
              rintro e w' ⟨⟨v,rfl⟩,rfl⟩
              clear hv hiy
              by_cases h99:v < 99
              · go_wp2
                go_roundw
                case rel=>exact ⟨k+1,by go_num,by omega,by omega,trivial⟩
                case measure=>simp [intOf]; omega
              · cases b with
                | false=>
                  have hR:=fun W=>rf_no10 (a:Int) 201 W
                  go_wp2_with fail
                  refine (hR _).mono ?_
                  rintro e w2 ⟨v,rfl,hv,hb2⟩
                  have HV:=Hid.mk7 (And.intro hv.e ((Below.alloc0 w _).trans (hb2.mono (by simp))))
                  obtain ⟨⟨c0,f0⟩,⟨c1,f1⟩,⟨c2,f2⟩,⟨c3,f3⟩⟩:=newTok hb2
                  obtain ⟨lb,ly,la,lc,hve,_⟩:=hv
                  subst hve
                  clear hR hb2
                  go_wp2
                  refine bodyPost_ret (v:=.tuple #[zeroTk.val,.int .i64 0,.slice (some ⟨lb,0,none⟩) 1 1]) (by simp [results,Tryz.results41,go_sem,Tk.val,zeroTk,c0,c1,c2,c3]) rfl ?_
                  exact .inl ⟨_,rfl,HV.out.1,Below.tok4 HV.out.2 zeroTk⟩
                | true=>
                  by_cases hz2:z < 2
                  · have hR:=fun W=>rf_no10 (a:Int) 201 W
                    go_wp2_with fail
                    refine (hR _).mono ?_
                    rintro e w2 ⟨v,rfl,hv,hb2⟩
                    have HV:=Hid.mk7 (And.intro hv.e ((Below.alloc0 w _).trans (hb2.mono (by simp))))
                    obtain ⟨⟨c0,f0⟩,⟨c1,f1⟩,⟨c2,f2⟩,⟨c3,f3⟩⟩:=newTok hb2
                    obtain ⟨lb,ly,la,lc,hve,_⟩:=hv
                    subst hve
                    clear hR hb2
                    go_wp2
                    refine bodyPost_ret (v:=.tuple #[zeroTk.val,.int .i64 0,.slice (some ⟨lb,0,none⟩) 1 1]) (by simp [results,Tryz.results41,go_sem,Tk.val,zeroTk,c0,c1,c2,c3]) rfl ?_
                    exact .inl ⟨_,rfl,HV.out.1,Below.tok4 HV.out.2 zeroTk⟩
                  · by_cases hz36:(36:Int) < z
                    · have hR:=fun W=>rf_no10 (a:Int) 201 W
                      go_wp2_with fail
                      refine (hR _).mono ?_
                      rintro e w2 ⟨v,rfl,hv,hb2⟩
                      have HV:=Hid.mk7 (And.intro hv.e ((Below.alloc0 w _).trans (hb2.mono (by simp))))
                      obtain ⟨⟨c0,f0⟩,⟨c1,f1⟩,⟨c2,f2⟩,⟨c3,f3⟩⟩:=newTok hb2
                      obtain ⟨lb,ly,la,lc,hve,_⟩:=hv
                      subst hve
                      clear hR hb2
                      go_wp2
                      refine bodyPost_ret (v:=.tuple #[zeroTk.val,.int .i64 0,.slice (some ⟨lb,0,none⟩) 1 1]) (by simp [results,Tryz.results41,go_sem,Tk.val,zeroTk,c0,c1,c2,c3]) rfl ?_
                      exact .inl ⟨_,rfl,HV.out.1,Below.tok4 HV.out.2 zeroTk⟩
                    · have hcut:=str_cut s (j+1) k (by omega) h4
                      rw [show ((j+1:Nat):Int)=(j:Int)+1 by omega] at hcut
                      have hN:=fun W=>rf_number (s.extract (j+1) k) (by rw [ByteArray.size_extract]; omega) z (by omega) (by omega) W
                      generalize s.extract (j+1) k=x2 at hcut hN
                      go_wp2_with fail
                      refine (hN _).mono ?_
                      rintro e w' ⟨⟨z2,b2,rfl⟩,rfl⟩
                      clear hN hcut
                      cases b2 with
                      | false=>
                        have hR:=fun W=>rf_no10 (a:Int) 201 W
                        go_wp2_with fail
                        refine (hR _).mono ?_
                        rintro e w2 ⟨v,rfl,hv,hb2⟩
                        have HV:=Hid.mk7 (And.intro hv.e ((Below.alloc0 w _).trans (hb2.mono (by simp))))
                        obtain ⟨⟨c0,f0⟩,⟨c1,f1⟩,⟨c2,f2⟩,⟨c3,f3⟩⟩:=newTok hb2
                        obtain ⟨lb,ly,la,lc,hve,_⟩:=hv
                        subst hve
                        clear hR hb2
                        go_wp2
                        refine bodyPost_ret (v:=.tuple #[zeroTk.val,.int .i64 0,.slice (some ⟨lb,0,none⟩) 1 1]) (by simp [results,Tryz.results41,go_sem,Tk.val,zeroTk,c0,c1,c2,c3]) rfl ?_
                        exact .inl ⟨_,rfl,HV.out.1,Below.tok4 HV.out.2 zeroTk⟩
                      | true=>
                        go_wp2
                        refine bodyPost_ret (v:=.tuple #[(⟨3,⟨#[]⟩,z2,(a:Int)⟩:Tk).val,.int .i64 (k:Nat),.slice none 0 0]) (by simp [results,Tryz.results41,go_sem,Tk.val]) rfl ?_
                        exact .inr ⟨_,_,rfl,by omega,by omega,Below.alloc0 w _,TkW.of ⟨by simp,by simp⟩⟩
            · have hgek:¬ (k:Int) < (s.size:Int):=by omega
              cases b with
              | false=>
                have hR:=fun W=>rf_no10 (a:Int) 201 W
                go_wp2_with fail
                refine (hR _).mono ?_
                rintro e w2 ⟨v,rfl,hv,hb2⟩
                have HV:=Hid.mk7 (And.intro hv.e ((Below.alloc0 w _).trans (hb2.mono (by simp))))
                obtain ⟨⟨c0,f0⟩,⟨c1,f1⟩,⟨c2,f2⟩,⟨c3,f3⟩⟩:=newTok hb2
                obtain ⟨lb,ly,la,lc,hve,_⟩:=hv
                subst hve
                clear hR hb2
                go_wp2
                refine bodyPost_ret (v:=.tuple #[zeroTk.val,.int .i64 0,.slice (some ⟨lb,0,none⟩) 1 1]) (by simp [results,Tryz.results41,go_sem,Tk.val,zeroTk,c0,c1,c2,c3]) rfl ?_
                exact .inl ⟨_,rfl,HV.out.1,Below.tok4 HV.out.2 zeroTk⟩
              | true=>
                by_cases hz2:z < 2
                · have hR:=fun W=>rf_no10 (a:Int) 201 W
                  go_wp2_with fail
                  refine (hR _).mono ?_
                  rintro e w2 ⟨v,rfl,hv,hb2⟩
                  have HV:=Hid.mk7 (And.intro hv.e ((Below.alloc0 w _).trans (hb2.mono (by simp))))
                  obtain ⟨⟨c0,f0⟩,⟨c1,f1⟩,⟨c2,f2⟩,⟨c3,f3⟩⟩:=newTok hb2
                  obtain ⟨lb,ly,la,lc,hve,_⟩:=hv
                  subst hve
                  clear hR hb2
                  go_wp2
                  refine bodyPost_ret (v:=.tuple #[zeroTk.val,.int .i64 0,.slice (some ⟨lb,0,none⟩) 1 1]) (by simp [results,Tryz.results41,go_sem,Tk.val,zeroTk,c0,c1,c2,c3]) rfl ?_
                  exact .inl ⟨_,rfl,HV.out.1,Below.tok4 HV.out.2 zeroTk⟩
                · by_cases hz36:(36:Int) < z
                  · have hR:=fun W=>rf_no10 (a:Int) 201 W
                    go_wp2_with fail
                    refine (hR _).mono ?_
                    rintro e w2 ⟨v,rfl,hv,hb2⟩
                    have HV:=Hid.mk7 (And.intro hv.e ((Below.alloc0 w _).trans (hb2.mono (by simp))))
                    obtain ⟨⟨c0,f0⟩,⟨c1,f1⟩,⟨c2,f2⟩,⟨c3,f3⟩⟩:=newTok hb2
                    obtain ⟨lb,ly,la,lc,hve,_⟩:=hv
                    subst hve
                    clear hR hb2
                    go_wp2
                    refine bodyPost_ret (v:=.tuple #[zeroTk.val,.int .i64 0,.slice (some ⟨lb,0,none⟩) 1 1]) (by simp [results,Tryz.results41,go_sem,Tk.val,zeroTk,c0,c1,c2,c3]) rfl ?_
                    exact .inl ⟨_,rfl,HV.out.1,Below.tok4 HV.out.2 zeroTk⟩
                  · have hcut:=str_cut s (j+1) k (by omega) h4
                    rw [show ((j+1:Nat):Int)=(j:Int)+1 by omega] at hcut
                    have hN:=fun W=>rf_number (s.extract (j+1) k) (by rw [ByteArray.size_extract]; omega) z (by omega) (by omega) W
                    generalize s.extract (j+1) k=x2 at hcut hN
                    go_wp2_with fail
                    refine (hN _).mono ?_
                    rintro e w' ⟨⟨z2,b2,rfl⟩,rfl⟩
                    clear hN hcut
                    cases b2 with
                    | false=>
                      have hR:=fun W=>rf_no10 (a:Int) 201 W
                      go_wp2_with fail
                      refine (hR _).mono ?_
                      rintro e w2 ⟨v,rfl,hv,hb2⟩
                      have HV:=Hid.mk7 (And.intro hv.e ((Below.alloc0 w _).trans (hb2.mono (by simp))))
                      obtain ⟨⟨c0,f0⟩,⟨c1,f1⟩,⟨c2,f2⟩,⟨c3,f3⟩⟩:=newTok hb2
                      obtain ⟨lb,ly,la,lc,hve,_⟩:=hv
                      subst hve
                      clear hR hb2
                      go_wp2
                      refine bodyPost_ret (v:=.tuple #[zeroTk.val,.int .i64 0,.slice (some ⟨lb,0,none⟩) 1 1]) (by simp [results,Tryz.results41,go_sem,Tk.val,zeroTk,c0,c1,c2,c3]) rfl ?_
                      exact .inl ⟨_,rfl,HV.out.1,Below.tok4 HV.out.2 zeroTk⟩
                    | true=>
                      go_wp2
                      refine bodyPost_ret (v:=.tuple #[(⟨3,⟨#[]⟩,z2,(a:Int)⟩:Tk).val,.int .i64 (k:Nat),.slice none 0 0]) (by simp [results,Tryz.results41,go_sem,Tk.val]) rfl ?_
                      exact .inr ⟨_,_,rfl,by omega,by omega,Below.alloc0 w _,TkW.of ⟨by simp,by simp⟩⟩
        · have e35:(d == 35)=false:=by simpa using h35
          cases b with
          | false=>
            have hR:=fun W=>rf_no10 (a:Int) 201 W
            go_wp2_with fail
            refine (hR _).mono ?_
            rintro e w2 ⟨v,rfl,hv,hb2⟩
            have HV:=Hid.mk7 (And.intro hv.e ((Below.alloc0 w _).trans (hb2.mono (by simp))))
            obtain ⟨⟨c0,f0⟩,⟨c1,f1⟩,⟨c2,f2⟩,⟨c3,f3⟩⟩:=newTok hb2
            obtain ⟨lb,ly,la,lc,hve,_⟩:=hv
            subst hve
            clear hR hb2
            go_wp2
            refine bodyPost_ret (v:=.tuple #[zeroTk.val,.int .i64 0,.slice (some ⟨lb,0,none⟩) 1 1]) (by simp [results,Tryz.results41,go_sem,Tk.val,zeroTk,c0,c1,c2,c3]) rfl ?_
            exact .inl ⟨_,rfl,HV.out.1,Below.tok4 HV.out.2 zeroTk⟩
          | true=>
            go_wp2
            refine bodyPost_ret (v:=.tuple #[(⟨3,⟨#[]⟩,z,(a:Int)⟩:Tk).val,.int .i64 (j:Nat),.slice none 0 0]) (by simp [results,Tryz.results41,go_sem,Tk.val]) rfl ?_
            exact .inr ⟨_,_,rfl,hfj,by omega,Below.alloc0 w _,TkW.of ⟨by simp,by simp⟩⟩
      · have hge:¬ (j:Int) < (s.size:Int):=by omega
        clear hgo
        go_wp2_with fail
        refine (hN _).mono ?_
        rintro e w' ⟨⟨z,b,rfl⟩,rfl⟩
        clear hN hcut
        cases b with
        | false=>
          have hR:=fun W=>rf_no10 (a:Int) 201 W
          go_wp2_with fail
          refine (hR _).mono ?_
          rintro e w2 ⟨v,rfl,hv,hb2⟩
          have HV:=Hid.mk7 (And.intro hv.e ((Below.alloc0 w _).trans (hb2.mono (by simp))))
          obtain ⟨⟨c0,f0⟩,⟨c1,f1⟩,⟨c2,f2⟩,⟨c3,f3⟩⟩:=newTok hb2
          obtain ⟨lb,ly,la,lc,hve,_⟩:=hv
          subst hve
          clear hR hb2
          go_wp2
          refine bodyPost_ret (v:=.tuple #[zeroTk.val,.int .i64 0,.slice (some ⟨lb,0,none⟩) 1 1]) (by simp [results,Tryz.results41,go_sem,Tk.val,zeroTk,c0,c1,c2,c3]) rfl ?_
          exact .inl ⟨_,rfl,HV.out.1,Below.tok4 HV.out.2 zeroTk⟩
        | true=>
          go_wp2
          refine bodyPost_ret (v:=.tuple #[(⟨3,⟨#[]⟩,z,(a:Int)⟩:Tk).val,.int .i64 (j:Nat),.slice none 0 0]) (by simp [results,Tryz.results41,go_sem,Tk.val]) rfl ?_
          exact .inr ⟨_,_,rfl,hfj,by omega,Below.alloc0 w _,TkW.of ⟨by simp,by simp⟩⟩
def EscTold (s:ByteArray) (e:Ending):Prop:=∃ (z:Int) (n:Nat),e=.returned (.tuple #[.int .i64 z,.int .i64 (n:Int)])∧n≤3∧n≤s.size
theorem rf_escape10 (s:ByteArray) (hs:s.size≤65536) (w:World):Calls Tryz.prog 71 #[.string s] w fun e w'=>EscTold s e∧Below w.heap.size w w':=by
 by_cases he:s=⟨#[]⟩
 ·subst he
  go_enter Tryz.func71,Tryz.ntmps71
  go_wp2
  go_ret2
  exact ⟨⟨_,0,rfl,by decide,by decide⟩,Below.refl _ _⟩
 ·have hne:(s.toList == [])=false:=list_ne he
  have h0:0 < s.size:=by
   rcases Nat.eq_zero_or_pos s.size with h | h
   ·exact (he (ByteArray.ext (Array.eq_empty_of_size_eq_zero h))).elim
   ·exact h
  have hix:=str_at s 0 h0
  have hix:∀ W:World,(Instr.index 9 (.string s) (.int .i64 0)).run Tryz.prog W=.ok (.int .u8 ((s[0]'h0).toNat:Int)) W:=hix
  generalize ((s[0]'h0).toNat:Int)=c at hix
  clear he
  by_cases h110:c=110
  ·subst h110
   go_enter Tryz.func71,Tryz.ntmps71
   go_wp2
   all_goals go_ret2
   all_goals exact ⟨⟨_,1,rfl,by decide,h0⟩,Below.refl _ _⟩
  ·have e110:(c == 110)=false:=by simpa using h110
   by_cases h116:c=116
   ·subst h116
    go_enter Tryz.func71,Tryz.ntmps71
    go_wp2
    all_goals go_ret2
    all_goals exact ⟨⟨_,1,rfl,by decide,h0⟩,Below.refl _ _⟩
   ·have e116:(c == 116)=false:=by simpa using h116
    by_cases h114:c=114
    ·subst h114
     go_enter Tryz.func71,Tryz.ntmps71
     go_wp2
     all_goals go_ret2
     all_goals exact ⟨⟨_,1,rfl,by decide,h0⟩,Below.refl _ _⟩
    ·have e114:(c == 114)=false:=by simpa using h114
     by_cases h115:c=115
     ·subst h115
      go_enter Tryz.func71,Tryz.ntmps71
      go_wp2
      all_goals go_ret2
      all_goals exact ⟨⟨_,1,rfl,by decide,h0⟩,Below.refl _ _⟩
     ·have e115:(c == 115)=false:=by simpa using h115
      by_cases h92:c=92
      ·subst h92
       go_enter Tryz.func71,Tryz.ntmps71
       go_wp2
       all_goals go_ret2
       all_goals exact ⟨⟨_,1,rfl,by decide,h0⟩,Below.refl _ _⟩
      ·have e92:(c == 92)=false:=by simpa using h92
       by_cases h39:c=39
       ·subst h39
        go_enter Tryz.func71,Tryz.ntmps71
        go_wp2
        all_goals go_ret2
        all_goals exact ⟨⟨_,1,rfl,by decide,h0⟩,Below.refl _ _⟩
       ·have e39:(c == 39)=false:=by simpa using h39
        by_cases h34:c=34
        ·subst h34
         go_enter Tryz.func71,Tryz.ntmps71
         go_wp2
         all_goals go_ret2
         all_goals exact ⟨⟨_,1,rfl,by decide,h0⟩,Below.refl _ _⟩
        ·have e34:(c == 34)=false:=by simpa using h34
         by_cases h120:c=120
         ·subst h120
          by_cases h2:2 < s.size
          ·have h2i:(2:Int) < (s.size:Int):=by omega
           have hx1:=str_at s 1 (by omega)
           have hx2:=str_at s 2 h2
           obtain ⟨b1,b2⟩:=str_byte s 1 (by omega)
           obtain ⟨b3,b4⟩:=str_byte s 2 h2
           have hx1:∀ W:World,(Instr.index 9 (.string s) (.int .i64 1)).run Tryz.prog W=.ok (.int .u8 ((s[1]'(by omega)).toNat:Int)) W:=hx1
           have hx2:∀ W:World,(Instr.index 9 (.string s) (.int .i64 2)).run Tryz.prog W=.ok (.int .u8 ((s[2]'h2).toNat:Int)) W:=hx2
           have hq1:=fun W=>rf_valZ _ b1 b2 W
           have hq2:=fun W=>rf_valZ _ b3 b4 W
           generalize ((s[1]'(by omega)).toNat:Int)=d1 at hx1 hq1 b1 b2
           generalize ((s[2]'h2).toNat:Int)=d2 at hx2 hq2 b3 b4
           generalize valZ d1=z1 at hq1
           generalize valZ d2=z2 at hq2
           clear b1 b2 b3 b4
           by_cases hz1:z1 < 16
           ·by_cases hz2:z2 < 16
            ·go_enter Tryz.func71,Tryz.ntmps71; go_wp2_with fail
             refine (hq1 _).mono ?_
             rintro e w' ⟨rfl,rfl⟩
             go_wp2_with fail
             refine (hq2 _).mono ?_
             rintro e w' ⟨rfl,rfl⟩
             go_wp2_with fail
             go_quiet (first | (go_at_call_of 70 d1; exact Calls.quiet_of_same ((hq1 _).mono fun _ _ h=>⟨h.1,h.2.symm⟩)) | (go_at_call_of 70 d2; exact Calls.quiet_of_same ((hq2 _).mono fun _ _ h=>⟨h.1,h.2.symm⟩)))
             go_wp2
             go_ret2
             exact ⟨⟨_,3,rfl,by decide,by omega⟩,drewN_below w _⟩
            ·go_enter Tryz.func71,Tryz.ntmps71; go_wp2_with fail
             refine (hq1 _).mono ?_
             rintro e w' ⟨rfl,rfl⟩
             go_wp2_with fail
             refine (hq2 _).mono ?_
             rintro e w' ⟨rfl,rfl⟩
             go_wp2
             go_ret2
             exact ⟨⟨_,0,rfl,by decide,by omega⟩,Below.refl _ _⟩
           ·go_enter Tryz.func71,Tryz.ntmps71; go_wp2_with fail
            refine (hq1 _).mono ?_
            rintro e w' ⟨rfl,rfl⟩
            go_wp2
            go_ret2
            exact ⟨⟨_,0,rfl,by decide,by omega⟩,Below.refl _ _⟩
          ·have h2i:¬ (2:Int) < (s.size:Int):=by omega
           go_enter Tryz.func71,Tryz.ntmps71; go_wp2
           go_ret2
           exact ⟨⟨_,0,rfl,by decide,by omega⟩,Below.refl _ _⟩
         ·have e120:(c == 120)=false:=by simpa using h120
          go_enter Tryz.func71,Tryz.ntmps71; go_wp2
          all_goals go_ret2
          all_goals exact ⟨⟨_,0,rfl,by decide,by omega⟩,Below.refl _ _⟩
def IntTold (e:Ending):Prop:=∃ z:Int,e=.returned (.int .i64 z)
theorem rf_point10 (s:ByteArray) (hs:s.size≤4) (h0:0 < s.size) (w:World):Calls Tryz.prog 73 #[.string s] w fun e w'=>IntTold e∧w=w':=by
 have hix:=str_at s 0 h0
 have hix:∀ W:World,(Instr.index 9 (.string s) (.int .i64 0)).run Tryz.prog W=.ok (.int .u8 ((s[0]'h0).toNat:Int)) W:=hix
 generalize ((s[0]'h0).toNat:Int)=c at hix
 by_cases n2:(s.size:Int)=2
 ·have m2:((s.size:Int) == 2)=true:=by simpa using n2
  go_enter Tryz.func73,Tryz.ntmps73
  go_wp2_with fail
  go_loopw [3,4] (fun vv ii wr=>∃ (z:Int) (j:Nat),vv=.int .i64 z∧ii=.int .i64 (j:Int)∧1≤j∧j≤s.size∧w=wr) (fun _ ii _=>s.size - (intOf ii).toNat)
  case atStart=>exact ⟨_,1,rfl,rfl,by omega,by omega,rfl⟩
  case round=>
   obtain ⟨z,j,rfl,rfl,h1,h2,rfl⟩:=hrel
   by_cases hlt:j < s.size
   ·have hlti:(j:Int) < (s.size:Int):=by omega
    have hiy:=str_at s j hlt
    generalize (s[j].toNat:Int)=d at hiy
    go_wp2
    go_roundw
    case rel=>exact ⟨_,j+1,rfl,by go_num,by omega,by omega,trivial⟩
    case measure=>simp [intOf]; omega
   ·have hge:¬ (j:Int) < (s.size:Int):=by omega
    go_wp2
    go_ret
    exact ⟨⟨_,rfl⟩,rfl⟩
 ·have m2:((s.size:Int) == 2)=false:=by simpa using n2
  by_cases n3:(s.size:Int)=3
  ·have m3:((s.size:Int) == 3)=true:=by simpa using n3
   go_enter Tryz.func73,Tryz.ntmps73
   go_wp2_with fail
   go_loopw [3,4] (fun vv ii wr=>∃ (z:Int) (j:Nat),vv=.int .i64 z∧ii=.int .i64 (j:Int)∧1≤j∧j≤s.size∧w=wr) (fun _ ii _=>s.size - (intOf ii).toNat)
   case atStart=>exact ⟨_,1,rfl,rfl,by omega,by omega,rfl⟩
   case round=>
    obtain ⟨z,j,rfl,rfl,h1,h2,rfl⟩:=hrel
    by_cases hlt:j < s.size
    ·have hlti:(j:Int) < (s.size:Int):=by omega
     have hiy:=str_at s j hlt
     generalize (s[j].toNat:Int)=d at hiy
     go_wp2
     go_roundw
     case rel=>exact ⟨_,j+1,rfl,by go_num,by omega,by omega,trivial⟩
     case measure=>simp [intOf]; omega
    ·have hge:¬ (j:Int) < (s.size:Int):=by omega
     go_wp2
     go_ret
     exact ⟨⟨_,rfl⟩,rfl⟩
  ·have m3:((s.size:Int) == 3)=false:=by simpa using n3
   by_cases n4:(s.size:Int)=4
   ·have m4:((s.size:Int) == 4)=true:=by simpa using n4
    go_enter Tryz.func73,Tryz.ntmps73
    go_wp2_with fail
    go_loopw [3,4] (fun vv ii wr=>∃ (z:Int) (j:Nat),vv=.int .i64 z∧ii=.int .i64 (j:Int)∧1≤j∧j≤s.size∧w=wr) (fun _ ii _=>s.size - (intOf ii).toNat)
    case atStart=>exact ⟨_,1,rfl,rfl,by omega,by omega,rfl⟩
    case round=>
     obtain ⟨z,j,rfl,rfl,h1,h2,rfl⟩:=hrel
     by_cases hlt:j < s.size
     ·have hlti:(j:Int) < (s.size:Int):=by omega
      have hiy:=str_at s j hlt
      generalize (s[j].toNat:Int)=d at hiy
      go_wp2
      go_roundw
      case rel=>exact ⟨_,j+1,rfl,by go_num,by omega,by omega,trivial⟩
      case measure=>simp [intOf]; omega
     ·have hge:¬ (j:Int) < (s.size:Int):=by omega
      go_wp2
      go_ret
      exact ⟨⟨_,rfl⟩,rfl⟩
   ·have m4:((s.size:Int) == 4)=false:=by simpa using n4
    go_enter Tryz.func73,Tryz.ntmps73
    go_wp2_with fail
    go_loopw [3,4] (fun vv ii wr=>∃ (z:Int) (j:Nat),vv=.int .i64 z∧ii=.int .i64 (j:Int)∧1≤j∧j≤s.size∧w=wr) (fun _ ii _=>s.size - (intOf ii).toNat)
    case atStart=>exact ⟨_,1,rfl,rfl,by omega,by omega,rfl⟩
    case round=>
     obtain ⟨z,j,rfl,rfl,h1,h2,rfl⟩:=hrel
     by_cases hlt:j < s.size
     ·have hlti:(j:Int) < (s.size:Int):=by omega
      have hiy:=str_at s j hlt
      generalize (s[j].toNat:Int)=d at hiy
      go_wp2
      go_roundw
      case rel=>exact ⟨_,j+1,rfl,by go_num,by omega,by omega,trivial⟩
      case measure=>simp [intOf]; omega
     ·have hge:¬ (j:Int) < (s.size:Int):=by omega
      go_wp2
      go_ret
      exact ⟨⟨_,rfl⟩,rfl⟩
end Go.Proofs.YtlciaafincgdeaaGreatDoor
