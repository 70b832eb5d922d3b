/-
  Layer 10, the document's: the character at a place.
  Layer 10, the document's: the token at a place.
  Layer 10, the document's: the tokens of any text, or a refusal; that it ends.
-/
import Derived.Test.YtlciaafincgdeaaGreatDoorZcf
import Derived.WalkSpells
namespace Go.Proofs.YtlciaafincgdeaaGreatDoor
open Go.RowKit
variable {T:List Tk} {V:Value} {j:Nat} {s:ByteArray} {w w2 wr:World}
set_option maxHeartbeats 6400000
set_option maxRecDepth 100000
theorem str_from (s:ByteArray) (a:Nat) (h:a≤s.size) (W:World):(Instr.slice 9 (.string s) (some (.int .i64 (a:Int))) none none).run Tryz.prog W=.ok (.string (s.extract a s.size)) W:=by
 rw [run_slice_string_l W 9 s Tryz.underlying9 .i64 (a:Int) (by omega) (by omega)]
 simp
theorem rf_char (s:ByteArray) (hs:s.size≤65536) (a:Nat) (ha:a < s.size) (w:World):Calls Tryz.prog 42 #[.string s,.int .i64 (a:Int)] w (TokT s a w):=by
 by_cases h1:a+1 < s.size
 ·have h1i:¬ (s.size:Int)≤(a:Int)+1:=by omega
  have hix:=str_at s (a+1) h1
  rw [show ((a+1:Nat):Int)=(a:Int)+1 by omega] at hix
  generalize ((s[a+1]'h1).toNat:Int)=c at hix
  by_cases h32:c < 32
  ·go_enter Tryz.func42,Tryz.ntmps42
   have hR:=fun W=>rf_no10 (a:Int) 202 W
   go_wp2_with fail
   refine (hR _).mono ?_
   rintro e w2 ⟨v,rfl,hv,hb2⟩
   have B2:Below (w.alloc (.cells #[.int .i64 0,.string ⟨#[]⟩,.int .i64 0,.int .i64 0] 40)).heap.size (w.alloc (.cells #[.int .i64 0,.string ⟨#[]⟩,.int .i64 0,.int .i64 0] 40)) w2:=(Below.alloc0 _ (.cells #[.int .i64 3,.string ⟨#[]⟩,.int .i64 0,.int .i64 (a:Int)] 40)).trans (hb2.mono (by simp))
   have HV:=Hid.mk7 (And.intro hv.e ((Below.alloc0 w (.cells #[.int .i64 0,.string ⟨#[]⟩,.int .i64 0,.int .i64 0] 40)).trans (B2.mono (by simp))))
   obtain ⟨⟨c0,f0⟩,⟨c1,f1⟩,⟨c2,f2⟩,⟨c3,f3⟩⟩:=newTok B2
   obtain ⟨lb,ly,la,lc,hve,_⟩:=hv
   subst hve
   clear hR hb2 B2
   go_wp2
   refine bodyPost_ret (v:=.tuple #[zeroTk.val,.int .i64 0,.slice (some ⟨lb,0,none⟩) 1 1]) (by simp [results,Tryz.results42,go_sem,Tk.val,zeroTk,c0,c1,c2,c3]) rfl ?_
   exact .inl ⟨_,rfl,HV.out.1,Below.tok4 HV.out.2 zeroTk⟩
  ·by_cases h127:c=127
   ·subst h127
    go_enter Tryz.func42,Tryz.ntmps42
    have hR:=fun W=>rf_no10 (a:Int) 202 W
    go_wp2_with fail
    refine (hR _).mono ?_
    rintro e w2 ⟨v,rfl,hv,hb2⟩
    have B2:Below (w.alloc (.cells #[.int .i64 0,.string ⟨#[]⟩,.int .i64 0,.int .i64 0] 40)).heap.size (w.alloc (.cells #[.int .i64 0,.string ⟨#[]⟩,.int .i64 0,.int .i64 0] 40)) w2:=(Below.alloc0 _ (.cells #[.int .i64 3,.string ⟨#[]⟩,.int .i64 0,.int .i64 (a:Int)] 40)).trans (hb2.mono (by simp))
    have HV:=Hid.mk7 (And.intro hv.e ((Below.alloc0 w (.cells #[.int .i64 0,.string ⟨#[]⟩,.int .i64 0,.int .i64 0] 40)).trans (B2.mono (by simp))))
    obtain ⟨⟨c0,f0⟩,⟨c1,f1⟩,⟨c2,f2⟩,⟨c3,f3⟩⟩:=newTok B2
    obtain ⟨lb,ly,la,lc,hve,_⟩:=hv
    subst hve
    clear hR hb2 B2
    go_wp2
    refine bodyPost_ret (v:=.tuple #[zeroTk.val,.int .i64 0,.slice (some ⟨lb,0,none⟩) 1 1]) (by simp [results,Tryz.results42,go_sem,Tk.val,zeroTk,c0,c1,c2,c3]) rfl ?_
    exact .inl ⟨_,rfl,HV.out.1,Below.tok4 HV.out.2 zeroTk⟩
   ·have e127:(c == 127)=false:=by simpa using h127
    by_cases h92:c=92
    ·subst h92
     have hcut:=str_from s (a+2) (by omega)
     rw [show ((a+2:Nat):Int)=(a:Int)+2 by omega] at hcut
     have hE:=fun W=>rf_escape10 (s.extract (a+2) s.size) (by rw [ByteArray.size_extract]; omega) W
     have hxs:(s.extract (a+2) s.size).size=s.size - (a+2):=by rw [ByteArray.size_extract]; omega
     have HXS:=Hid.mk7 hxs
     clear hxs
     generalize s.extract (a+2) s.size=x at hcut hE HXS
     go_enter Tryz.func42,Tryz.ntmps42
     go_wp2_with fail
     refine (hE _).mono ?_
     rintro e w3 ⟨⟨z,n,rfl,hn3,hnx⟩,hb3⟩
     have hnx2:a+2+n≤s.size:=by rw [HXS.out] at hnx; omega
     have B3:Below (w.alloc (.cells #[.int .i64 0,.string ⟨#[]⟩,.int .i64 0,.int .i64 0] 40)).heap.size (w.alloc (.cells #[.int .i64 0,.string ⟨#[]⟩,.int .i64 0,.int .i64 0] 40)) w3:=(Below.alloc0 _ (.cells #[.int .i64 3,.string ⟨#[]⟩,.int .i64 0,.int .i64 (a:Int)] 40)).trans (hb3.mono (by simp))
     obtain ⟨⟨t0,z0⟩,⟨t1,z1⟩,⟨t2,z2⟩,⟨t3,z3⟩⟩:=newTok B3
     obtain ⟨p0,p1,p2,p3⟩:=keptTok (w:=w.alloc (.cells #[.int .i64 0,.string ⟨#[]⟩,.int .i64 0,.int .i64 0] 40)) (t:=⟨3,⟨#[]⟩,0,(a:Int)⟩) hb3
     have g2:w3.frozen? ⟨(w.alloc (.cells #[.int .i64 0,.string ⟨#[]⟩,.int .i64 0,.int .i64 0] 40)).heap.size,2,none⟩=false:=(hb3.frozen (p:=⟨(w.alloc (.cells #[.int .i64 0,.string ⟨#[]⟩,.int .i64 0,.int .i64 0] 40)).heap.size,2,none⟩) (by simp)).trans (by rw [World.frozen?_alloc_new])
     simp only [World.size_alloc] at p0 p1 p2 p3 g2
     have HB3:=Hid.mk7 B3
     clear hE hb3 B3 hcut hnx
     by_cases hn0:n=0
     ·subst hn0
      have hR:=fun W=>rf_no10 (a:Int) 202 W
      go_wp2_with fail
      refine (hR _).mono ?_
      rintro e w2 ⟨v,rfl,hv,hb2⟩
      have B2:Below (w.alloc (.cells #[.int .i64 0,.string ⟨#[]⟩,.int .i64 0,.int .i64 0] 40)).heap.size (w.alloc (.cells #[.int .i64 0,.string ⟨#[]⟩,.int .i64 0,.int .i64 0] 40)) w2:=HB3.out.trans (hb2.mono HB3.out.size)
      have HV:=Hid.mk7 (And.intro hv.e ((Below.alloc0 w (.cells #[.int .i64 0,.string ⟨#[]⟩,.int .i64 0,.int .i64 0] 40)).trans (B2.mono (by simp))))
      obtain ⟨⟨c0,f0⟩,⟨c1,f1⟩,⟨c2,f2⟩,⟨c3,f3⟩⟩:=newTok B2
      obtain ⟨lb,ly,la,lc,hve,_⟩:=hv
      subst hve
      clear hR hb2 B2 p0 p1 p2 p3 g2 t0 t1 t2 t3 z0 z1 z2 z3
      go_wp2
      refine bodyPost_ret (v:=.tuple #[zeroTk.val,.int .i64 0,.slice (some ⟨lb,0,none⟩) 1 1]) (by simp [results,Tryz.results42,go_sem,Tk.val,zeroTk,c0,c1,c2,c3]) rfl ?_
      exact .inl ⟨_,rfl,HV.out.1,Below.tok4 HV.out.2 zeroTk⟩
     ·have en0:((n:Int) == 0)=false:=by simp; omega
      go_wp2
      refine bodyPost_ret (v:=.tuple #[(⟨3,⟨#[]⟩,z,(a:Int)⟩:Tk).val,.int .i64 ((a+2+n:Nat):Int),.slice none 0 0]) (by simp [results,Tryz.results42,go_sem,Tk.val,t0,t1,t2,t3]) rfl ?_
      exact .inr ⟨_,_,rfl,by omega,hnx2,Below.tok4 (Below.setCell ((Below.alloc0 w (.cells #[.int .i64 0,.string ⟨#[]⟩,.int .i64 0,.int .i64 0] 40)).trans (HB3.out.mono (by simp))) (by simp) _) ⟨3,⟨#[]⟩,z,(a:Int)⟩,TkW.of ⟨by simp,by simp⟩⟩
    ·have e92:(c == 92)=false:=by simpa using h92
     go_enter Tryz.func42,Tryz.ntmps42
     go_wp2_with fail
     clear hix
     go_loopw [10] (fun ii wr=>∃ n:Nat,ii=.int .i64 (n:Int)∧1≤n∧n≤5∧(w.alloc (.cells #[.int .i64 0,.string ⟨#[]⟩,.int .i64 0,.int .i64 0] 40)).alloc (.cells #[.int .i64 3,.string ⟨#[]⟩,.int .i64 0,.int .i64 (a:Int)] 40)=wr) (fun ii _=>5 - (intOf ii).toNat)
     case atStart=>exact ⟨1,rfl,by omega,by omega,rfl⟩
     case round=>
      obtain ⟨n,rfl,hn1,hn5,rfl⟩:=hrel
      by_cases h4:n≤4
      ·have h4i:(n:Int)≤4:=by omega
       by_cases hfit:a+1+n≤s.size
       ·have hfiti:(a:Int)+1+(n:Int)≤(s.size:Int):=by omega
        have hcut:=str_cut s (a+1) (a+1+n) (by omega) hfit
        rw [show ((a+1:Nat):Int)=(a:Int)+1 by omega,show ((a+1+n:Nat):Int)=(a:Int)+1+(n:Int) by omega] at hcut
        have hxs:(s.extract (a+1) (a+1+n)).size=n:=by rw [ByteArray.size_extract]; omega
        have hU:=fun W=>rf_UTF (s.extract (a+1) (a+1+n)) (by omega) W
        have hP:=fun W=>rf_point10 (s.extract (a+1) (a+1+n)) (by omega) (by omega) W
        generalize s.extract (a+1) (a+1+n)=x at hcut hU hP
        clear hxs
        go_wp2_with fail
        refine (hU _).mono ?_
        rintro e w' ⟨⟨z,rfl⟩,rfl⟩
        by_cases hz:z < 0
        ·go_wp2_with fail
         refine (hP _).mono ?_
         rintro e w' ⟨⟨y,rfl⟩,rfl⟩
         clear hU hP hcut
         go_wp2
         refine bodyPost_ret (v:=.tuple #[(⟨3,⟨#[]⟩,y,(a:Int)⟩:Tk).val,.int .i64 ((a+1+n:Nat):Int),.slice none 0 0]) (by simp [results,Tryz.results42,go_sem,Tk.val]) rfl ?_
         exact .inr ⟨_,_,rfl,by omega,hfit,(Below.alloc0 w _).trans ((Below.alloc0 _ _).mono (by simp)),TkW.of ⟨by simp,by simp⟩⟩
        ·clear hU hP hcut
         go_wp2
         go_roundw
         case rel=>exact ⟨n+1,by go_num,by omega,by omega,trivial⟩
         case measure=>simp [intOf]; omega
       ·have hfiti:¬ (a:Int)+1+(n:Int)≤(s.size:Int):=by omega
        have hR:=fun W=>rf_no10 (a:Int) 202 W
        go_wp2_with fail
        refine (hR _).mono ?_
        rintro e w2 ⟨v,rfl,hv,hb2⟩
        have B2:Below (w.alloc (.cells #[.int .i64 0,.string ⟨#[]⟩,.int .i64 0,.int .i64 0] 40)).heap.size (w.alloc (.cells #[.int .i64 0,.string ⟨#[]⟩,.int .i64 0,.int .i64 0] 40)) w2:=(Below.alloc0 _ (.cells #[.int .i64 3,.string ⟨#[]⟩,.int .i64 0,.int .i64 (a:Int)] 40)).trans (hb2.mono (by simp))
        have HV:=Hid.mk7 (And.intro hv.e ((Below.alloc0 w (.cells #[.int .i64 0,.string ⟨#[]⟩,.int .i64 0,.int .i64 0] 40)).trans (B2.mono (by simp))))
        obtain ⟨⟨c0,f0⟩,⟨c1,f1⟩,⟨c2,f2⟩,⟨c3,f3⟩⟩:=newTok B2
        obtain ⟨lb,ly,la,lc,hve,_⟩:=hv
        subst hve
        clear hR hb2 B2
        go_wp2
        refine bodyPost_ret (v:=.tuple #[zeroTk.val,.int .i64 0,.slice (some ⟨lb,0,none⟩) 1 1]) (by simp [results,Tryz.results42,go_sem,Tk.val,zeroTk,c0,c1,c2,c3]) rfl ?_
        exact .inl ⟨_,rfl,HV.out.1,Below.tok4 HV.out.2 zeroTk⟩
      ·have h4i:¬ (n:Int)≤4:=by omega
       have hR:=fun W=>rf_no10 (a:Int) 202 W
       go_wp2_with fail
       refine (hR _).mono ?_
       rintro e w2 ⟨v,rfl,hv,hb2⟩
       have B2:Below (w.alloc (.cells #[.int .i64 0,.string ⟨#[]⟩,.int .i64 0,.int .i64 0] 40)).heap.size (w.alloc (.cells #[.int .i64 0,.string ⟨#[]⟩,.int .i64 0,.int .i64 0] 40)) w2:=(Below.alloc0 _ (.cells #[.int .i64 3,.string ⟨#[]⟩,.int .i64 0,.int .i64 (a:Int)] 40)).trans (hb2.mono (by simp))
       have HV:=Hid.mk7 (And.intro hv.e ((Below.alloc0 w (.cells #[.int .i64 0,.string ⟨#[]⟩,.int .i64 0,.int .i64 0] 40)).trans (B2.mono (by simp))))
       obtain ⟨⟨c0,f0⟩,⟨c1,f1⟩,⟨c2,f2⟩,⟨c3,f3⟩⟩:=newTok B2
       obtain ⟨lb,ly,la,lc,hve,_⟩:=hv
       subst hve
       clear hR hb2 B2
       go_wp2
       refine bodyPost_ret (v:=.tuple #[zeroTk.val,.int .i64 0,.slice (some ⟨lb,0,none⟩) 1 1]) (by simp [results,Tryz.results42,go_sem,Tk.val,zeroTk,c0,c1,c2,c3]) rfl ?_
       exact .inl ⟨_,rfl,HV.out.1,Below.tok4 HV.out.2 zeroTk⟩
 ·have h1i:(s.size:Int)≤(a:Int)+1:=by omega
  go_enter Tryz.func42,Tryz.ntmps42
  have hR:=fun W=>rf_no10 (a:Int) 202 W
  go_wp2_with fail
  refine (hR _).mono ?_
  rintro e w2 ⟨v,rfl,hv,hb2⟩
  have B2:Below (w.alloc (.cells #[.int .i64 0,.string ⟨#[]⟩,.int .i64 0,.int .i64 0] 40)).heap.size (w.alloc (.cells #[.int .i64 0,.string ⟨#[]⟩,.int .i64 0,.int .i64 0] 40)) w2:=(Below.alloc0 _ (.cells #[.int .i64 3,.string ⟨#[]⟩,.int .i64 0,.int .i64 (a:Int)] 40)).trans (hb2.mono (by simp))
  have HV:=Hid.mk7 (And.intro hv.e ((Below.alloc0 w (.cells #[.int .i64 0,.string ⟨#[]⟩,.int .i64 0,.int .i64 0] 40)).trans (B2.mono (by simp))))
  obtain ⟨⟨c0,f0⟩,⟨c1,f1⟩,⟨c2,f2⟩,⟨c3,f3⟩⟩:=newTok B2
  obtain ⟨lb,ly,la,lc,hve,_⟩:=hv
  subst hve
  clear hR hb2 B2
  go_wp2
  refine bodyPost_ret (v:=.tuple #[zeroTk.val,.int .i64 0,.slice (some ⟨lb,0,none⟩) 1 1]) (by simp [results,Tryz.results42,go_sem,Tk.val,zeroTk,c0,c1,c2,c3]) rfl ?_
  exact .inl ⟨_,rfl,HV.out.1,Below.tok4 HV.out.2 zeroTk⟩
theorem Tryz.neqLk (a:Option Addr) (l c:Nat) (W:World):(binOp .neq 24 (.slice a l c) (.slice none 0 0)).run Tryz.prog W=.ok (.bool (!a.isNone)) W:=run_neq_slice_nil_any W _ _ a l c 0 0 Tryz.underlying24
def SGV:Array Value:=#[.string ⟨#[61,58,61]⟩,.string ⟨#[61,47,61]⟩,.string ⟨#[45,62]⟩,.string ⟨#[61,61]⟩,.string ⟨#[47,61]⟩,.string ⟨#[61,60]⟩,.string ⟨#[62,61]⟩,.string ⟨#[43,43]⟩,.string ⟨#[45,45]⟩,.string ⟨#[40]⟩,.string ⟨#[41]⟩,.string ⟨#[91]⟩,.string ⟨#[93]⟩,.string ⟨#[123]⟩,.string ⟨#[125]⟩,.string ⟨#[44]⟩,.string ⟨#[59]⟩,.string ⟨#[58]⟩,.string ⟨#[124]⟩,.string ⟨#[33]⟩,.string ⟨#[61]⟩,.string ⟨#[43]⟩,.string ⟨#[45]⟩,.string ⟨#[42]⟩,.string ⟨#[47]⟩,.string ⟨#[60]⟩,.string ⟨#[62]⟩]
theorem SGV_get:∀ j,j < 27→∃ x:ByteArray,SGV[j]? = some (.string x)∧1≤x.size∧x.size≤3
 | 0,_=>⟨_,rfl,by decide,by decide⟩
 | 1,_=>⟨_,rfl,by decide,by decide⟩
 | 2,_=>⟨_,rfl,by decide,by decide⟩
 | 3,_=>⟨_,rfl,by decide,by decide⟩
 | 4,_=>⟨_,rfl,by decide,by decide⟩
 | 5,_=>⟨_,rfl,by decide,by decide⟩
 | 6,_=>⟨_,rfl,by decide,by decide⟩
 | 7,_=>⟨_,rfl,by decide,by decide⟩
 | 8,_=>⟨_,rfl,by decide,by decide⟩
 | 9,_=>⟨_,rfl,by decide,by decide⟩
 | 10,_=>⟨_,rfl,by decide,by decide⟩
 | 11,_=>⟨_,rfl,by decide,by decide⟩
 | 12,_=>⟨_,rfl,by decide,by decide⟩
 | 13,_=>⟨_,rfl,by decide,by decide⟩
 | 14,_=>⟨_,rfl,by decide,by decide⟩
 | 15,_=>⟨_,rfl,by decide,by decide⟩
 | 16,_=>⟨_,rfl,by decide,by decide⟩
 | 17,_=>⟨_,rfl,by decide,by decide⟩
 | 18,_=>⟨_,rfl,by decide,by decide⟩
 | 19,_=>⟨_,rfl,by decide,by decide⟩
 | 20,_=>⟨_,rfl,by decide,by decide⟩
 | 21,_=>⟨_,rfl,by decide,by decide⟩
 | 22,_=>⟨_,rfl,by decide,by decide⟩
 | 23,_=>⟨_,rfl,by decide,by decide⟩
 | 24,_=>⟨_,rfl,by decide,by decide⟩
 | 25,_=>⟨_,rfl,by decide,by decide⟩
 | 26,_=>⟨_,rfl,by decide,by decide⟩
 | j+27,h=>by omega
theorem rf_signs (w:World):Calls Tryz.prog 43 #[] w fun e w'=>e=.returned (.slice (some ⟨w.heap.size,0,none⟩) 27 27)∧Below w.heap.size w w'∧∀ j,j < 27→∃ x:ByteArray,w'.cell? ⟨w.heap.size,j,none⟩=some (.string x)∧1≤x.size∧x.size≤3:=by
 have hw:∀ j,j < 27→∃ x:ByteArray,(w.alloc (.cells #[.string ⟨#[61,58,61]⟩,.string ⟨#[61,47,61]⟩,.string ⟨#[45,62]⟩,.string ⟨#[61,61]⟩,.string ⟨#[47,61]⟩,.string ⟨#[61,60]⟩,.string ⟨#[62,61]⟩,.string ⟨#[43,43]⟩,.string ⟨#[45,45]⟩,.string ⟨#[40]⟩,.string ⟨#[41]⟩,.string ⟨#[91]⟩,.string ⟨#[93]⟩,.string ⟨#[123]⟩,.string ⟨#[125]⟩,.string ⟨#[44]⟩,.string ⟨#[59]⟩,.string ⟨#[58]⟩,.string ⟨#[124]⟩,.string ⟨#[33]⟩,.string ⟨#[61]⟩,.string ⟨#[43]⟩,.string ⟨#[45]⟩,.string ⟨#[42]⟩,.string ⟨#[47]⟩,.string ⟨#[60]⟩,.string ⟨#[62]⟩] 9)).cell? ⟨w.heap.size,j,none⟩=some (.string x)∧1≤x.size∧x.size≤3:=fun j hj=>by
  obtain ⟨x,hx,h1,h2⟩:=SGV_get j hj
  refine ⟨x,?_,h1,h2⟩
  rw [World.cell?_alloc_at _ _ _ _ rfl]
  exact hx
 have HW:=Hid.mk7 hw
 clear hw
 go_enter Tryz.func43,Tryz.ntmps43
 go_wp2
 go_ret
 exact ⟨rfl,Below.alloc0 w _,HW.out⟩
theorem rf_token_small (s:ByteArray) (hs:s.size≤65536) (a:Nat) (ha:a < s.size) (h:smallB (s[a].toNat:Int)=true) (w:World):Calls Tryz.prog 16 #[.string s,.int .i64 (a:Int)] w (TokT s a w):=by
 have hix:=str_at s a ha
 have hwd:=fun W=>rf_word s hs a (by omega) W
 have hsm:=fun W=>rf_small (s[a].toNat:Int) W
 have hup:=fun W=>rf_upper (s[a].toNat:Int) W
 have hdg:=fun W=>rf_digit (s[a].toNat:Int) W
 rw [h] at hsm
 have hw:wordB (s[a].toNat:Int)=true:=by simp [wordB,alnumB,h]
 have HW:=Hid.mk7 hw
 have HH:=Hid.mk7 h
 clear h hw hup hdg
 generalize hcE:(s[a].toNat:Int)=c at hix hsm
 clear hcE
 go_enter Tryz.func16,Tryz.ntmps16
 go_wp2_with fail
 refine (hwd _).mono ?_
 rintro e w' ⟨⟨j,rfl,hj1,hj2,hj3⟩,rfl⟩
 have HJ:=Hid.mk7 hj3
 clear hj3 hwd
 have haj:a < j:=HJ.out ha HW.out
 have hcut:=str_cut s a j hj1 hj2
 have hRs:=fun W=>rf_reserved (s.extract a j) W
 have hsx:=(smB_cut s a j ha haj hj2).trans HH.out
 generalize s.extract a j=x at hcut hRs hsx
 have HX:=Hid.mk7 hsx
 clear hsx
 go_wp2_with fail
 refine (hsm _).mono ?_
 rintro e w' ⟨rfl,rfl⟩
 go_wp2_with fail
 refine (hRs _).mono ?_
 rintro e w3 ⟨⟨b,rfl⟩,hb3⟩
 have HB3:=Hid.mk7 hb3
 clear hRs hb3
 cases b with
 | true=>
  obtain ⟨⟨t0,z0⟩,⟨t1,z1⟩,⟨t2,z2⟩,⟨t3,z3⟩⟩:=newTok HB3.out
  go_wp2
  refine bodyPost_ret (v:=.tuple #[(⟨4,x,0,(a:Int)⟩:Tk).val,.int .i64 ((j:Nat):Int),.slice none 0 0]) (by simp [results,Tryz.results16,go_sem,Tk.val,t0,t1,t2,t3]) rfl ?_
  exact .inr ⟨_,_,rfl,haj,hj2,Below.tok4 ((Below.alloc0 w _).trans (HB3.out.mono (by simp))) ⟨4,x,0,(a:Int)⟩,⟨fun e=>by simp at e,fun _=>HX.out⟩⟩
 | false=>
  go_wp2_with fail
  refine (hsm _).mono ?_
  rintro e w' ⟨rfl,rfl⟩
  clear hcut hix hsm
  have hA:=fun W=>rf_atomScan s hs a ha W
  have hnq:=Tryz.neqLk
  go_wp2_with fail
  refine (hA _).mono ?_
  rintro e w4 (⟨v,rfl,hv,hb⟩ | ⟨x,k,rfl,hk1,hk2,hb⟩)
  ·have HB4:=Hid.mk7 (HB3.out.trans (hb.mono HB3.out.size))
   have hO:=rf_over ⟨#[108,101,120]⟩ (a:Int)
   obtain ⟨lb,ly,la,lc,hve,l0,l1,l2⟩:=hv
   subst hve
   have hO:=hO lc w4 ⟨lb,ly,la,lc,rfl,l0,l1,l2⟩
   clear hA hb HB3
   go_wp2_with fail
   refine hO.mono ?_
   rintro e w5 ⟨v,rfl,hv,hb5⟩
   have HB3:=Hid.mk7 (HB4.out.trans (hb5.mono HB4.out.size))
   have HE:=Hid.mk7 hv
   obtain ⟨av,nv,cv,hve⟩:=hv
   subst hve
   clear hO hb5 l0 l1 l2 HB4
   obtain ⟨⟨t0,z0⟩,⟨t1,z1⟩,⟨t2,z2⟩,⟨t3,z3⟩⟩:=newTok HB3.out
   go_wp2
   refine bodyPost_ret (v:=.tuple #[zeroTk.val,.int .i64 0,.slice (some av) (nv+1) cv]) (by simp [results,Tryz.results16,go_sem,Tk.val,zeroTk,t0,t1,t2,t3]) rfl ?_
   exact .inl ⟨_,rfl,HE.out,Below.tok4 ((Below.alloc0 w _).trans (HB3.out.mono (by simp))) zeroTk⟩
  ·have HB4:=Hid.mk7 (HB3.out.trans (hb.mono HB3.out.size))
   clear hA hb HB3
   have HB3:=HB4
   obtain ⟨⟨t0,z0⟩,⟨t1,z1⟩,⟨t2,z2⟩,⟨t3,z3⟩⟩:=newTok HB3.out
   go_wp2
   refine bodyPost_ret (v:=.tuple #[(⟨1,x,0,(a:Int)⟩:Tk).val,.int .i64 ((k:Nat):Int),.slice none 0 0]) (by simp [results,Tryz.results16,go_sem,Tk.val,t0,t1,t2,t3]) rfl ?_
   exact .inr ⟨_,_,rfl,hk1,hk2,Below.tok4 ((Below.alloc0 w _).trans (HB3.out.mono (by simp))) ⟨1,x,0,(a:Int)⟩,TkW.of ⟨by simp,by simp⟩⟩
theorem rf_token_quote (s:ByteArray) (hs:s.size≤65536) (a:Nat) (ha:a < s.size) (h:(s[a].toNat:Int)=39) (w:World):Calls Tryz.prog 16 #[.string s,.int .i64 (a:Int)] w (TokT s a w):=by
 have hix:=str_at s a ha
 have hwd:=fun W=>rf_word s hs a (by omega) W
 have hsm:=fun W=>rf_small (s[a].toNat:Int) W
 have hup:=fun W=>rf_upper (s[a].toNat:Int) W
 have hdg:=fun W=>rf_digit (s[a].toNat:Int) W
 have e39:smallB 39=false:=by decide
 rw [h] at hix hsm
 rw [e39] at hsm
 clear hup hdg
 go_enter Tryz.func16,Tryz.ntmps16
 go_wp2_with fail
 refine (hwd _).mono ?_
 rintro e w' ⟨⟨j,rfl,hj1,hj2,hj3⟩,rfl⟩
 have HJ:=Hid.mk7 hj3
 clear hj3 hwd
 go_wp2_with fail
 refine (hsm _).mono ?_
 rintro e w' ⟨rfl,rfl⟩
 go_wp2_with fail
 refine (hsm _).mono ?_
 rintro e w' ⟨rfl,rfl⟩
 clear hix hsm
 have HB3:Hid (Below (w.alloc (.cells #[.int .i64 0,.string ⟨#[]⟩,.int .i64 0,.int .i64 0] 40)).heap.size (w.alloc (.cells #[.int .i64 0,.string ⟨#[]⟩,.int .i64 0,.int .i64 0] 40)) (w.alloc (.cells #[.int .i64 0,.string ⟨#[]⟩,.int .i64 0,.int .i64 0] 40))):=Below.refl _ _
 have hA:=fun W=>rf_atomScan s hs a ha W
 have hnq:=Tryz.neqLk
 go_wp2_with fail
 refine (hA _).mono ?_
 rintro e w4 (⟨v,rfl,hv,hb⟩ | ⟨x,k,rfl,hk1,hk2,hb⟩)
 ·have HB4:=Hid.mk7 (HB3.out.trans (hb.mono HB3.out.size))
  have hO:=rf_over ⟨#[108,101,120]⟩ (a:Int)
  obtain ⟨lb,ly,la,lc,hve,l0,l1,l2⟩:=hv
  subst hve
  have hO:=hO lc w4 ⟨lb,ly,la,lc,rfl,l0,l1,l2⟩
  clear hA hb HB3
  go_wp2_with fail
  refine hO.mono ?_
  rintro e w5 ⟨v,rfl,hv,hb5⟩
  have HB3:=Hid.mk7 (HB4.out.trans (hb5.mono HB4.out.size))
  have HE:=Hid.mk7 hv
  obtain ⟨av,nv,cv,hve⟩:=hv
  subst hve
  clear hO hb5 l0 l1 l2 HB4
  obtain ⟨⟨t0,z0⟩,⟨t1,z1⟩,⟨t2,z2⟩,⟨t3,z3⟩⟩:=newTok HB3.out
  go_wp2
  refine bodyPost_ret (v:=.tuple #[zeroTk.val,.int .i64 0,.slice (some av) (nv+1) cv]) (by simp [results,Tryz.results16,go_sem,Tk.val,zeroTk,t0,t1,t2,t3]) rfl ?_
  exact .inl ⟨_,rfl,HE.out,Below.tok4 ((Below.alloc0 w _).trans (HB3.out.mono (by simp))) zeroTk⟩
 ·have HB4:=Hid.mk7 (HB3.out.trans (hb.mono HB3.out.size))
  clear hA hb HB3
  have HB3:=HB4
  obtain ⟨⟨t0,z0⟩,⟨t1,z1⟩,⟨t2,z2⟩,⟨t3,z3⟩⟩:=newTok HB3.out
  go_wp2
  refine bodyPost_ret (v:=.tuple #[(⟨1,x,0,(a:Int)⟩:Tk).val,.int .i64 ((k:Nat):Int),.slice none 0 0]) (by simp [results,Tryz.results16,go_sem,Tk.val,t0,t1,t2,t3]) rfl ?_
  exact .inr ⟨_,_,rfl,hk1,hk2,Below.tok4 ((Below.alloc0 w _).trans (HB3.out.mono (by simp))) ⟨1,x,0,(a:Int)⟩,TkW.of ⟨by simp,by simp⟩⟩
theorem rf_token_upper (s:ByteArray) (hs:s.size≤65536) (a:Nat) (ha:a < s.size) (hn:smallB (s[a].toNat:Int)=false) (h39:¬ (s[a].toNat:Int)=39) (h:upB (s[a].toNat:Int)=true) (w:World):Calls Tryz.prog 16 #[.string s,.int .i64 (a:Int)] w (TokT s a w):=by
 have hix:=str_at s a ha
 have hwd:=fun W=>rf_word s hs a (by omega) W
 have hsm:=fun W=>rf_small (s[a].toNat:Int) W
 have hup:=fun W=>rf_upper (s[a].toNat:Int) W
 have hdg:=fun W=>rf_digit (s[a].toNat:Int) W
 rw [hn] at hsm
 rw [h] at hup
 have hw:wordB (s[a].toNat:Int)=true:=by
  simp [upB] at h
  rcases h with h | h
  ·simp [wordB,alnumB,h]
  ·simp [wordB,h]
 have HW:=Hid.mk7 hw
 clear h hw hdg hn
 generalize hcE:(s[a].toNat:Int)=c at hix hsm hup h39
 clear hcE
 have e39:(c == 39)=false:=by simpa using h39
 go_enter Tryz.func16,Tryz.ntmps16
 go_wp2_with fail
 refine (hwd _).mono ?_
 rintro e w' ⟨⟨j,rfl,hj1,hj2,hj3⟩,rfl⟩
 have HJ:=Hid.mk7 hj3
 clear hj3 hwd
 have haj:a < j:=HJ.out ha HW.out
 have hcut:=str_cut s a j hj1 hj2
 generalize s.extract a j=x at hcut
 go_wp2_with fail
 refine (hsm _).mono ?_
 rintro e w' ⟨rfl,rfl⟩
 go_wp2_with fail
 refine (hsm _).mono ?_
 rintro e w' ⟨rfl,rfl⟩
 go_wp2_with fail
 refine (hup _).mono ?_
 rintro e w' ⟨rfl,rfl⟩
 by_cases h255:(255:Int) < (j:Int) - (a:Int)
 ·have hR:=fun W=>rf_no10 (a:Int) 4 W
  go_wp2_with fail
  refine (hR _).mono ?_
  rintro e w2 ⟨v,rfl,hv,hb2⟩
  have HV:=Hid.mk7 (And.intro hv.e ((Below.alloc0 w _).trans (hb2.mono (by simp))))
  obtain ⟨⟨c0,f0⟩,⟨c1,f1⟩,⟨c2,f2⟩,⟨c3,f3⟩⟩:=newTok hb2
  obtain ⟨lb,ly,la,lc,hve,_⟩:=hv
  subst hve
  clear hR hb2
  go_wp2
  refine bodyPost_ret (v:=.tuple #[zeroTk.val,.int .i64 0,.slice (some ⟨lb,0,none⟩) 1 1]) (by simp [results,Tryz.results16,go_sem,Tk.val,zeroTk,c0,c1,c2,c3]) rfl ?_
  exact .inl ⟨_,rfl,HV.out.1,Below.tok4 HV.out.2 zeroTk⟩
 ·go_wp2
  refine bodyPost_ret (v:=.tuple #[(⟨2,x,0,(a:Int)⟩:Tk).val,.int .i64 ((j:Nat):Int),.slice none 0 0]) (by simp [results,Tryz.results16,go_sem,Tk.val]) rfl ?_
  exact .inr ⟨_,_,rfl,haj,hj2,Below.alloc0 w _,TkW.of ⟨by simp,by simp⟩⟩
theorem rf_token_digit (s:ByteArray) (hs:s.size≤65536) (a:Nat) (ha:a < s.size) (hn:smallB (s[a].toNat:Int)=false) (h39:¬ (s[a].toNat:Int)=39) (hu:upB (s[a].toNat:Int)=false) (h:digB (s[a].toNat:Int)=true) (w:World):Calls Tryz.prog 16 #[.string s,.int .i64 (a:Int)] w (TokT s a w):=by
 have hix:=str_at s a ha
 have hwd:=fun W=>rf_word s hs a (by omega) W
 have hsm:=fun W=>rf_small (s[a].toNat:Int) W
 have hup:=fun W=>rf_upper (s[a].toNat:Int) W
 have hdg:=fun W=>rf_digit (s[a].toNat:Int) W
 rw [hn] at hsm
 rw [hu] at hup
 rw [h] at hdg
 have HH:=Hid.mk7 h
 clear h hn hu
 generalize hcE:(s[a].toNat:Int)=c at hix hsm hup hdg h39
 clear hcE
 have e39:(c == 39)=false:=by simpa using h39
 go_enter Tryz.func16,Tryz.ntmps16
 go_wp2_with fail
 refine (hwd _).mono ?_
 rintro e w' ⟨⟨j,rfl,hj1,hj2,hj3⟩,rfl⟩
 have HJ:=Hid.mk7 hj3
 clear hj3 hwd
 go_wp2_with fail
 refine (hsm _).mono ?_
 rintro e w' ⟨rfl,rfl⟩
 go_wp2_with fail
 refine (hsm _).mono ?_
 rintro e w' ⟨rfl,rfl⟩
 go_wp2_with fail
 refine (hup _).mono ?_
 rintro e w' ⟨rfl,rfl⟩
 go_wp2_with fail
 refine (hdg _).mono ?_
 rintro e w' ⟨rfl,rfl⟩
 clear hix hsm hup hdg
 have hF:=fun W=>rf_figure s hs a ha HH.out W
 go_wp2_with fail
 refine (hF _).mono ?_
 rintro e w4 (⟨v,rfl,hv,hb⟩ | ⟨t,k,rfl,hk1,hk2,hb,htw⟩)
 ·have HE:=Hid.mk7 hv
  have HB3:=Hid.mk7 hb
  obtain ⟨av,nv,cv,hve⟩:=hv
  subst hve
  simp only [Tk.val,zeroTk]
  clear hF hb
  obtain ⟨⟨t0,z0⟩,⟨t1,z1⟩,⟨t2,z2⟩,⟨t3,z3⟩⟩:=newTok HB3.out
  go_wp2
  refine bodyPost_ret (v:=.tuple #[zeroTk.val,.int .i64 0,.slice (some av) (nv+1) cv]) (by simp [results,Tryz.results16,go_sem,Tk.val,zeroTk,t0,t1,t2,t3]) rfl ?_
  exact .inl ⟨_,rfl,HE.out,Below.tok4 ((Below.alloc0 w _).trans (HB3.out.mono (by simp))) zeroTk⟩
 ·have HB3:=Hid.mk7 hb
  obtain ⟨tk,tt,tn,ta⟩:=t
  have HTW:=Hid.mk7 htw
  clear htw
  simp only [Tk.val]
  clear hF hb
  obtain ⟨⟨t0,z0⟩,⟨t1,z1⟩,⟨t2,z2⟩,⟨t3,z3⟩⟩:=newTok HB3.out
  go_wp2
  refine bodyPost_ret (v:=.tuple #[(⟨tk,tt,tn,ta⟩:Tk).val,.int .i64 ((k:Nat):Int),.slice none 0 0]) (by simp [results,Tryz.results16,go_sem,Tk.val,t0,t1,t2,t3]) rfl ?_
  exact .inr ⟨_,_,rfl,hk1,hk2,Below.tok4 ((Below.alloc0 w _).trans (HB3.out.mono (by simp))) ⟨tk,tt,tn,ta⟩,HTW.out⟩
theorem rf_token_char (s:ByteArray) (hs:s.size≤65536) (a:Nat) (ha:a < s.size) (h:(s[a].toNat:Int)=36) (w:World):Calls Tryz.prog 16 #[.string s,.int .i64 (a:Int)] w (TokT s a w):=by
 have hix:=str_at s a ha
 have hwd:=fun W=>rf_word s hs a (by omega) W
 have hsm:=fun W=>rf_small (s[a].toNat:Int) W
 have hup:=fun W=>rf_upper (s[a].toNat:Int) W
 have hdg:=fun W=>rf_digit (s[a].toNat:Int) W
 have e1:smallB 36=false:=by decide
 have e2:upB 36=false:=by decide
 have e3:digB 36=false:=by decide
 rw [h] at hix hsm hup hdg
 rw [e1] at hsm
 rw [e2] at hup
 rw [e3] at hdg
 go_enter Tryz.func16,Tryz.ntmps16
 go_wp2_with fail
 refine (hwd _).mono ?_
 rintro e w' ⟨⟨j,rfl,hj1,hj2,hj3⟩,rfl⟩
 have HJ:=Hid.mk7 hj3
 clear hj3 hwd
 go_wp2_with fail
 refine (hsm _).mono ?_
 rintro e w' ⟨rfl,rfl⟩
 go_wp2_with fail
 refine (hsm _).mono ?_
 rintro e w' ⟨rfl,rfl⟩
 go_wp2_with fail
 refine (hup _).mono ?_
 rintro e w' ⟨rfl,rfl⟩
 go_wp2_with fail
 refine (hdg _).mono ?_
 rintro e w' ⟨rfl,rfl⟩
 clear hix hsm hup hdg
 have hF:=fun W=>rf_char s hs a ha W
 go_wp2_with fail
 refine (hF _).mono ?_
 rintro e w4 (⟨v,rfl,hv,hb⟩ | ⟨t,k,rfl,hk1,hk2,hb,htw⟩)
 ·have HE:=Hid.mk7 hv
  have HB3:=Hid.mk7 hb
  obtain ⟨av,nv,cv,hve⟩:=hv
  subst hve
  simp only [Tk.val,zeroTk]
  clear hF hb
  obtain ⟨⟨t0,z0⟩,⟨t1,z1⟩,⟨t2,z2⟩,⟨t3,z3⟩⟩:=newTok HB3.out
  go_wp2
  refine bodyPost_ret (v:=.tuple #[zeroTk.val,.int .i64 0,.slice (some av) (nv+1) cv]) (by simp [results,Tryz.results16,go_sem,Tk.val,zeroTk,t0,t1,t2,t3]) rfl ?_
  exact .inl ⟨_,rfl,HE.out,Below.tok4 ((Below.alloc0 w _).trans (HB3.out.mono (by simp))) zeroTk⟩
 ·have HB3:=Hid.mk7 hb
  obtain ⟨tk,tt,tn,ta⟩:=t
  have HTW:=Hid.mk7 htw
  clear htw
  simp only [Tk.val]
  clear hF hb
  obtain ⟨⟨t0,z0⟩,⟨t1,z1⟩,⟨t2,z2⟩,⟨t3,z3⟩⟩:=newTok HB3.out
  go_wp2
  refine bodyPost_ret (v:=.tuple #[(⟨tk,tt,tn,ta⟩:Tk).val,.int .i64 ((k:Nat):Int),.slice none 0 0]) (by simp [results,Tryz.results16,go_sem,Tk.val,t0,t1,t2,t3]) rfl ?_
  exact .inr ⟨_,_,rfl,hk1,hk2,Below.tok4 ((Below.alloc0 w _).trans (HB3.out.mono (by simp))) ⟨tk,tt,tn,ta⟩,HTW.out⟩
theorem rf_token_dot (s:ByteArray) (hs:s.size≤65536) (a:Nat) (ha:a < s.size) (h:(s[a].toNat:Int)=46) (w:World):Calls Tryz.prog 16 #[.string s,.int .i64 (a:Int)] w (TokT s a w):=by
 have hix:=str_at s a ha
 have hwd:=fun W=>rf_word s hs a (by omega) W
 have hsm:=fun W=>rf_small (s[a].toNat:Int) W
 have hup:=fun W=>rf_upper (s[a].toNat:Int) W
 have hdg:=fun W=>rf_digit (s[a].toNat:Int) W
 have e1:smallB 46=false:=by decide
 have e2:upB 46=false:=by decide
 have e3:digB 46=false:=by decide
 rw [h] at hix hsm hup hdg
 rw [e1] at hsm
 rw [e2] at hup
 rw [e3] at hdg
 go_enter Tryz.func16,Tryz.ntmps16
 go_wp2_with fail
 refine (hwd _).mono ?_
 rintro e w' ⟨⟨j,rfl,hj1,hj2,hj3⟩,rfl⟩
 have HJ:=Hid.mk7 hj3
 clear hj3 hwd
 go_wp2_with fail
 refine (hsm _).mono ?_
 rintro e w' ⟨rfl,rfl⟩
 go_wp2_with fail
 refine (hsm _).mono ?_
 rintro e w' ⟨rfl,rfl⟩
 go_wp2_with fail
 refine (hup _).mono ?_
 rintro e w' ⟨rfl,rfl⟩
 go_wp2_with fail
 refine (hdg _).mono ?_
 rintro e w' ⟨rfl,rfl⟩
 clear hsm hup hdg
 by_cases h1:a+1 < s.size
 ·have h1i:(a:Int)+1 < (s.size:Int):=by omega
  have hiy:=str_at s (a+1) h1
  rw [show ((a+1:Nat):Int)=(a:Int)+1 by omega] at hiy
  have hbl:=fun W=>rf_blank ((s[a+1]'h1).toNat:Int) W
  generalize ((s[a+1]'h1).toNat:Int)=d at hiy hbl
  cases hb:blankB d with
  | true=>
   rw [hb] at hbl
   go_wp2_with fail
   refine (hbl _).mono ?_
   rintro e w' ⟨rfl,rfl⟩
   go_wp2
   refine bodyPost_ret (v:=.tuple #[(⟨6,⟨#[]⟩,0,(a:Int)⟩:Tk).val,.int .i64 ((a+1:Nat):Int),.slice none 0 0]) (by simp [results,Tryz.results16,go_sem,Tk.val]) rfl ?_
   exact .inr ⟨_,_,rfl,by omega,by omega,Below.alloc0 w _,TkW.of ⟨by simp,by simp⟩⟩
  | false=>
   rw [hb] at hbl
   by_cases h37:d=37
   ·subst h37
    go_wp2_with fail
    refine (hbl _).mono ?_
    rintro e w' ⟨rfl,rfl⟩
    go_wp2
    refine bodyPost_ret (v:=.tuple #[(⟨6,⟨#[]⟩,0,(a:Int)⟩:Tk).val,.int .i64 ((a+1:Nat):Int),.slice none 0 0]) (by simp [results,Tryz.results16,go_sem,Tk.val]) rfl ?_
    exact .inr ⟨_,_,rfl,by omega,by omega,Below.alloc0 w _,TkW.of ⟨by simp,by simp⟩⟩
   ·have e37:(d == 37)=false:=by simpa using h37
    go_wp2_with fail
    refine (hbl _).mono ?_
    rintro e w' ⟨rfl,rfl⟩
    have hR:=fun W=>rf_no10 (a:Int) 200 W
    go_wp2_with fail
    refine (hR _).mono ?_
    rintro e w2 ⟨v,rfl,hv,hb2⟩
    have HV:=Hid.mk7 (And.intro hv.e ((Below.alloc0 w _).trans (hb2.mono (by simp))))
    obtain ⟨⟨c0,f0⟩,⟨c1,f1⟩,⟨c2,f2⟩,⟨c3,f3⟩⟩:=newTok hb2
    obtain ⟨lb,ly,la,lc,hve,_⟩:=hv
    subst hve
    clear hR hb2
    go_wp2
    refine bodyPost_ret (v:=.tuple #[zeroTk.val,.int .i64 0,.slice (some ⟨lb,0,none⟩) 1 1]) (by simp [results,Tryz.results16,go_sem,Tk.val,zeroTk,c0,c1,c2,c3]) rfl ?_
    exact .inl ⟨_,rfl,HV.out.1,Below.tok4 HV.out.2 zeroTk⟩
 ·have h1i:¬ (a:Int)+1 < (s.size:Int):=by omega
  go_wp2
  refine bodyPost_ret (v:=.tuple #[(⟨6,⟨#[]⟩,0,(a:Int)⟩:Tk).val,.int .i64 ((a+1:Nat):Int),.slice none 0 0]) (by simp [results,Tryz.results16,go_sem,Tk.val]) rfl ?_
  exact .inr ⟨_,_,rfl,by omega,by omega,Below.alloc0 w _,TkW.of ⟨by simp,by simp⟩⟩
theorem rf_token_sign (s:ByteArray) (hs:s.size≤65536) (a:Nat) (ha:a < s.size) (hn:smallB (s[a].toNat:Int)=false) (h39:¬ (s[a].toNat:Int)=39) (hu:upB (s[a].toNat:Int)=false) (hdf:digB (s[a].toNat:Int)=false) (h36:¬ (s[a].toNat:Int)=36) (h46:¬ (s[a].toNat:Int)=46) (w:World):Calls Tryz.prog 16 #[.string s,.int .i64 (a:Int)] w (TokT s a w):=by
 have hix:=str_at s a ha
 have hwd:=fun W=>rf_word s hs a (by omega) W
 have hsm:=fun W=>rf_small (s[a].toNat:Int) W
 have hup:=fun W=>rf_upper (s[a].toNat:Int) W
 have hdg:=fun W=>rf_digit (s[a].toNat:Int) W
 rw [hn] at hsm
 rw [hu] at hup
 rw [hdf] at hdg
 have HNS:=Hid.mk7 hn
 clear hn hu hdf
 generalize hcE:(s[a].toNat:Int)=c at hix hsm hup hdg h39 h36 h46
 clear hcE
 have e39:(c == 39)=false:=by simpa using h39
 have e36:(c == 36)=false:=by simpa using h36
 have e46:(c == 46)=false:=by simpa using h46
 clear h39 h36 h46
 go_enter Tryz.func16,Tryz.ntmps16
 go_wp2_with fail
 refine (hwd _).mono ?_
 rintro e w' ⟨⟨j,rfl,hj1,hj2,hj3⟩,rfl⟩
 have HJ:=Hid.mk7 hj3
 clear hj3 hwd
 go_wp2_with fail
 refine (hsm _).mono ?_
 rintro e w' ⟨rfl,rfl⟩
 go_wp2_with fail
 refine (hsm _).mono ?_
 rintro e w' ⟨rfl,rfl⟩
 go_wp2_with fail
 refine (hup _).mono ?_
 rintro e w' ⟨rfl,rfl⟩
 go_wp2_with fail
 refine (hdg _).mono ?_
 rintro e w' ⟨rfl,rfl⟩
 clear hup hdg
 have hG:=rf_signs
 go_wp2_with fail
 refine (hG _).mono ?_
 rintro e w4 ⟨rfl,HS⟩
 go_wp2_with fail
 obtain ⟨hb4,hcells⟩:=HS
 have HB3:=Hid.mk7 hb4
 have HCs:=Hid.mk7 hcells
 have l4:(w.alloc (.cells #[.int .i64 0,.string ⟨#[]⟩,.int .i64 0,.int .i64 0] 40)).heap.size < w4.heap.size:=by
  obtain ⟨x,hx,_⟩:=hcells 0 (by omega)
  exact World.block_lt_of_cell? w4 _ hx
 simp only [World.size_alloc] at l4
 clear hb4 hcells hG hix hsm
 go_loopw [13] (fun ii wr=>∃ k:Nat,ii=.int .i64 (k:Int)∧k≤27∧Below w4.heap.size w4 wr) (fun ii _=>27 - (intOf ii).toNat)
 case atStart=>exact ⟨0,rfl,by omega,Below.refl _ _⟩
 case round=>
  obtain ⟨k,rfl,hk27,hbr⟩:=hrel
  have HBr:=Hid.mk7 hbr
  clear hbr
  by_cases hk:k < 27
  ·have hki:(k:Int) < 27:=by omega
   obtain ⟨x,hx,hx1,hx3⟩:=HCs.out k hk
   have hcx:=(HBr.out.cell (p:=⟨(w.alloc (.cells #[.int .i64 0,.string ⟨#[]⟩,.int .i64 0,.int .i64 0] 40)).heap.size,k,none⟩) (by simp; omega)).trans hx
   simp only [World.size_alloc] at hcx
   clear hx
   have lr:w.heap.size+1 < wr.heap.size:=World.block_lt_of_cell? wr _ hcx
   by_cases hfit:a+x.size≤s.size
   ·have hg:(x.size:Int)≤(s.size:Int) - (a:Int):=by omega
    have hcut:=str_cut s a (a+x.size) (by omega) hfit
    rw [show ((a+x.size:Nat):Int)=(a:Int)+(x.size:Int) by omega] at hcut
    have hsy:=(smB_cut s a (a+x.size) ha (by omega) hfit).trans HNS.out
    generalize s.extract a (a+x.size)=y at hcut hsy
    have HY:=Hid.mk7 hsy
    clear hsy
    by_cases hy:y=x
    ·subst hy
     have HB5:=Hid.mk7 (HB3.out.trans (HBr.out.mono HB3.out.size))
     obtain ⟨⟨t0,z0⟩,⟨t1,z1⟩,⟨t2,z2⟩,⟨t3,z3⟩⟩:=newTok HB5.out
     go_wp2_with fail
     go_quiet (fail)
     go_wp2_with fail
     go_region
     all_goals
      go_wp2
      refine bodyPost_ret (v:=.tuple #[(⟨5,y,0,(a:Int)⟩:Tk).val,.int .i64 ((a+y.size:Nat):Int),.slice none 0 0]) (by simp [results,Tryz.results16,go_sem,Tk.val,t0,t1,t2,t3]) rfl ?_
      exact .inr ⟨_,_,rfl,by omega,hfit,Below.tok4 (((Below.alloc0 w _).trans (HB5.out.mono (by simp))).trans ((drewN_below wr _).mono (Nat.le_trans (by simp) HB5.out.size))) ⟨5,y,0,(a:Int)⟩,⟨fun _=>HY.out,fun e=>by simp at e⟩⟩
    ·have hyb:(y.toList == x.toList)=false:=by simpa using bytes_ne hy
     have hg2:decide (y.toList=x.toList)=false:=by simpa using bytes_ne hy
     go_wp2_with fail
     go_quiet (fail)
     go_wp2
     go_roundw
     case rel=>exact ⟨k+1,by go_num,by omega,HBr.out.trans ((drewN_below wr _).mono HBr.out.size)⟩
     case measure=>simp [intOf]; omega
   ·have hg:decide ((x.size:Int)≤(s.size:Int) - (a:Int))=false:=by simp; omega
    go_wp2_with fail
    go_quiet (fail)
    go_wp2
    go_roundw
    case rel=>exact ⟨k+1,by go_num,by omega,HBr.out.trans ((drewN_below wr _).mono HBr.out.size)⟩
    case measure=>simp [intOf]; omega
  ·have hki:¬ (k:Int) < 27:=by omega
   have hR:=fun W=>rf_no10 (a:Int) 200 W
   go_wp2_with fail
   refine (hR _).mono ?_
   rintro e w6 ⟨v,rfl,hv,hb6⟩
   have HB7:=Hid.mk7 ((HB3.out.trans (HBr.out.mono HB3.out.size)).trans (hb6.mono (Nat.le_trans HB3.out.size HBr.out.size)))
   have HE:=Hid.mk7 hv.e
   obtain ⟨lb,ly,la,lc,hve,_⟩:=hv
   subst hve
   clear hR hb6
   obtain ⟨⟨t0,z0⟩,⟨t1,z1⟩,⟨t2,z2⟩,⟨t3,z3⟩⟩:=newTok HB7.out
   go_wp2
   refine bodyPost_ret (v:=.tuple #[zeroTk.val,.int .i64 0,.slice (some ⟨lb,0,none⟩) 1 1]) (by simp [results,Tryz.results16,go_sem,Tk.val,zeroTk,t0,t1,t2,t3]) rfl ?_
   exact .inl ⟨_,rfl,HE.out,Below.tok4 ((Below.alloc0 w _).trans (HB7.out.mono (by simp))) zeroTk⟩
theorem rf_token (s:ByteArray) (hs:s.size≤65536) (a:Nat) (ha:a < s.size) (w:World):Calls Tryz.prog 16 #[.string s,.int .i64 (a:Int)] w (TokT s a w):=by
 cases hn:smallB (s[a].toNat:Int) with
 | true=>exact rf_token_small s hs a ha hn w
 | false=>
  by_cases h39:(s[a].toNat:Int)=39
  ·exact rf_token_quote s hs a ha h39 w
  ·cases hu:upB (s[a].toNat:Int) with
   | true=>exact rf_token_upper s hs a ha hn h39 hu w
   | false=>
    cases hd:digB (s[a].toNat:Int) with
    | true=>exact rf_token_digit s hs a ha hn h39 hu hd w
    | false=>
     by_cases h36:(s[a].toNat:Int)=36
     ·exact rf_token_char s hs a ha h36 w
     ·by_cases h46:(s[a].toNat:Int)=46
      ·exact rf_token_dot s hs a ha h46 w
      ·exact rf_token_sign s hs a ha hn h39 hu hd h36 h46 w
def ScanTold (w:World) (e:Ending) (w':World):Prop:=
 (∃ v,e=.returned (.tuple #[.slice none 0 0,v])∧LkE v∧Below w.heap.size w w')∨∃ V T,e=.returned (.tuple #[V,.slice none 0 0])∧OwnK 4 w' V T.length (toks T)∧T.length≤65536∧(∀ k,blk V k→w.heap.size≤k)∧Below w.heap.size w w'∧∀ t∈T,TkW t
structure ScI (s:ByteArray) (w wr:World) (V:Value) (j:Nat) (T:List Tk):Prop where
 hi:j≤s.size
 own:OwnK 4 wr V T.length (toks T)
 len:T.length≤65536
 new:∀ k,blk V k→w.heap.size≤k
 bl:Below w.heap.size w wr
 tw:∀ t∈T,TkW t
theorem ScI.below (h:ScI s w wr V j T) (hb:Below wr.heap.size wr w2):ScI s w w2 V j T:=⟨h.hi,h.own.turned (Turned.ofBelow (S:=fun _=>False) hb) (fun _ _ e=>e),h.len,h.new,h.bl.trans (hb.mono h.bl.size),h.tw⟩
theorem ScI.more {w3:World} {V2:Value} {i:Nat} {t:Tk} (htw:TkW t) (h:ScI s w wr V j T) (hi:i≤s.size) (hl:T.length < 65536) (hb:Below wr.heap.size wr w2) (ho:OwnK 4 w3 V2 (T.length+1) (toks T++t.cells)) (ht:Turned (blk V) w2 w3) (hv:∀ k,blk V2 k→blk V k∨k=w2.heap.size):ScI s w w3 V2 i (T++[t]):=by
 have b2:=h.bl.trans (hb.mono h.bl.size)
 refine ⟨hi,by rw [toks_snoc,List.length_append]; exact ho,by simp; omega,fun k hk=>(hv k hk).elim (h.new k) (fun e=>by have:=b2.size; omega),b2.trans (ht.below b2.size h.new),fun x hx=>(List.mem_append.mp hx).elim (h.tw x) (fun e=>by cases List.mem_singleton.mp e; exact htw)⟩
theorem rf_Scan (s:ByteArray) (w:World):Calls Tryz.prog 5 #[.string s] w (ScanTold w):=by
 have hnq:=Tryz.neqLk
 by_cases hs:s.size≤65536
 ·have hsi:¬ (65536:Int) < (s.size:Int):=by omega
  have hk:=rf_skip s hs 0 (by omega) w
  have hk:Calls Tryz.prog 15 #[.string s,.int .i64 0] w fun e w'=>(∃ j:Nat,e=.returned (.int .i64 (j:Int))∧0≤j∧j≤s.size)∧w=w':=hk
  go_enter Tryz.func5,Tryz.ntmps5
  go_wp2_with fail
  refine hk.mono ?_
  rintro e w' ⟨⟨j0,rfl,_,hj0⟩,rfl⟩
  clear hk
  go_wp2_with fail
  go_loopw [4,5] (fun lv ii wr=>∃ (j:Nat) (T:List Tk),ii=.int .i64 (j:Int)∧ScI s w wr lv j T) (fun _ ii _=>s.size - (intOf ii).toNat)
  case atStart=>exact ⟨j0,[],rfl,⟨hj0,OwnK.nil 4 _,by simp,fun _ e=>e.elim,Below.refl _ _,fun _ e=>by cases e⟩⟩
  case round=>
   obtain ⟨j,T,rfl,hI⟩:=hrel
   obtain ⟨aV,cV,hV,_⟩:=hI.own.sl.form
   subst hV
   have HI:=Hid.mk7 hI
   have hTl:=hI.len
   have hjs:=hI.hi
   clear hI
   by_cases hlt:j < s.size
   ·have hlti:(j:Int) < (s.size:Int):=by omega
    by_cases hmany:65536≤T.length
    ·have hmi:(65536:Int)≤(T.length:Int):=by omega
     have hR:=rf_no10 (j:Int) 5 wr
     go_wp2_with fail
     refine hR.mono ?_
     rintro e w2 ⟨v,rfl,hv,hb2⟩
     have HV:=Hid.mk7 (And.intro hv.e (HI.out.bl.trans (hb2.mono HI.out.bl.size)))
     obtain ⟨lb,ly,la,lc,hve,_⟩:=hv
     subst hve
     clear hR hb2
     go_wp2
     go_ret2
     exact .inl ⟨_,rfl,HV.out⟩
    ·have hmi:¬ (65536:Int)≤(T.length:Int):=by omega
     have hT:=rf_token s hs j hlt wr
     go_wp2_with fail
     refine hT.mono ?_
     rintro e w4 (⟨v,rfl,hv,hb⟩ | ⟨t,k,rfl,hk1,hk2,hb,htw⟩)
     ·have HV:=Hid.mk7 (And.intro hv (HI.out.bl.trans (hb.mono HI.out.bl.size)))
      obtain ⟨av,nv,cv,hve⟩:=hv
      subst hve
      simp only [Tk.val,zeroTk]
      clear hT hb
      go_wp2
      go_ret2
      exact .inl ⟨_,rfl,HV.out.1,HV.out.2.trans ((Below.alloc0 w4 _).mono HV.out.2.size)⟩
     ·obtain ⟨tk,tt,tn,ta⟩:=t
      have HTW:=Hid.mk7 htw
      clear htw
      simp only [Tk.val]
      have HB:=Hid.mk7 (fun o1 o2=>hb.trans (((Below.alloc0 w4 o1).trans ((Below.alloc0 (w4.alloc o1) o2).mono (by simp))).mono hb.size))
      have HX:=Hid.mk7 (fun o1=>SlK.tok (w4.alloc o1) ⟨tk,tt,tn,ta⟩)
      simp only [World.size_alloc] at HX
      have hfit:(T.length+1)*40≤140737488355328:=by omega
      have hfit2:T.length+1≤4611686018427387903:=by omega
      have HF:=Hid.mk7 (And.intro hfit hfit2)
      clear hT hb hfit hfit2
      go_wp2_with (at_builtin; refine wpList_append_k (by rfl) (.tmp 34) (.tmp 36) (by rfl) Tryz.tokTypes (by rfl) (by rfl) (HI.out.own.turned (Turned.ofBelow (S:=fun _=>False) (HB.out _ _)) (fun _ _ h=>h)) (HX.out _) (Tk.cells_one _) HF.out.1 HF.out.2 ?_; intro V5 w5 ho5 ht5 hv5; have HN:=Hid.mk7 (fun i hi=>ScI.more HTW.out HI.out (i:=i) hi (by omega) (HB.out _ _) ho5 ht5 hv5); obtain ⟨aV5,cV5,hV5,_⟩:=ho5.sl.form; subst hV5; clear ho5 ht5 hv5)
      have hK:=rf_skip s hs k hk2 w5
      refine hK.mono ?_
      rintro e w' ⟨⟨i,rfl,hi1,hi2⟩,rfl⟩
      clear hK
      go_wp2
      go_roundw
      case rel=>exact ⟨i,_,rfl,HN.out i hi2⟩
      case measure=>simp [intOf]; omega
   ·have hge:¬ (j:Int) < (s.size:Int):=by omega
    go_wp2
    go_ret2
    exact .inr ⟨_,T,rfl,HI.out.own,HI.out.len,HI.out.new,HI.out.bl,HI.out.tw⟩
 ·have hsi:(65536:Int) < (s.size:Int):=by omega
  have hR:=rf_no10 0 4 w
  go_enter Tryz.func5,Tryz.ntmps5
  go_wp2_with fail
  refine hR.mono ?_
  rintro e w2 ⟨v,rfl,hv,hb2⟩
  have HV:=Hid.mk7 (And.intro hv.e hb2)
  obtain ⟨lb,ly,la,lc,hve,_⟩:=hv
  subst hve
  clear hR hb2
  go_wp2
  go_ret2
  exact .inl ⟨_,rfl,HV.out⟩
end Go.Proofs.YtlciaafincgdeaaGreatDoor
