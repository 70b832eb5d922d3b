/-
  Layer 11 (parse): a row of phrases, whatever the phrases.
-/
import Derived.Test.YtlciaafincgdeaaGreatDoorZag
namespace Go.Proofs.YtlciaafincgdeaaGreatDoor
open Go.RowKit
variable {N:List Nd} {Nv Tv:Value} {T:List Tk} {acc:List Int} {f g i0:Nat} {m:PM Nat} {s:Ps} {w:World} {x:ByteArray}
set_option maxHeartbeats 3200000
set_option maxRecDepth 100000
structure RowI (T:List Tk) (x:ByteArray) (m:PM Nat) (w wr:World) (g:Nat) (Tv Nv:Value) (N:List Nd) (i0:Nat) (res:Except Nat (List Int × Ps)) (V:Value) (s1:Ps) (acc:List Int) (f:Nat) (Nv1:Value) (M1:List Nd):Prop where
 i:i0≤s1.i
 fuel:T.length - s1.i < f
 eq:rowL T x m f acc s1=res
 rg:Rg T w wr g Tv Nv N s1 Nv1 M1
 kd:Kd T w wr g Tv Nv1 (N++M1) V acc
 al:acc.length≤s1.i
theorem rowL_stop (hf:0 < f) (h:sgn T x s.i=false):rowL T x m f acc s=.ok (acc,s):=by
 cases f with
 | zero=>omega
 | succ f=>simp [rowL,pIf,h,PM.ret]
theorem rowL_bad (hf:0 < f) (h:sgn T x s.i=true) {e:Nat} (he:m ⟨s.i+1,s.N⟩=.error e):rowL T x m f acc s=.error e:=by
 cases f with
 | zero=>omega
 | succ f=>simp [rowL,pIf,h,PM.bind,pSkip,he]
theorem rowL_next {t:Ps} (hf:0 < f) (h:sgn T x s.i=true) {a:Nat} (he:m ⟨s.i+1,s.N⟩=.ok (a,t)):rowL T x m f acc s=rowL T x m (f - 1) (acc++[(a:Int)]) t:=by
 cases f with
 | zero=>omega
 | succ f=>simp [rowL,pIf,h,PM.bind,pSkip,he]
theorem rd_row_whole (hm:Fwd T m) (hr:Runs T 145 [] m i0) (b:ByteArray) (hi:i0≤s.i) (h:PS w g Tv T Nv N s) :
  Calls Tryz.prog 120 #[.pointer (some ⟨g,0,none⟩),.string b,.func (.func 145) #[.pointer (some ⟨g,0,none⟩)] #[]] w (RdL T w g Tv Nv N (row T b m s)):=by
 have hE:=hr s hi w g Tv Nv N h
 cases hms:m s with
 | error e=>
  rw [hms] at hE
  rw [show row T b m s=.error e by simp [row,PM.bind,hms]]
  clear hr h
  go_enter Tryz.func120,Tryz.ntmps120
  go_wp2_with fail
  refine hE.mono ?_
  rintro x w1 ⟨rfl,T1⟩
  exact ⟨rfl,rfl,T1⟩
 | ok at_=>
  obtain ⟨a,t⟩:=at_
  rw [hms] at hE
  obtain ⟨ht1,ha,hit,hct⟩:=hm.ok h.ok h.cnt hms
  have hT:0 < T.length:=by have:=ht1.il; omega
  rw [show row T b m s=rowL T b m (T.length+1) [(a:Int)] t by simp [row,PM.bind,hms]]
  have htl:=h.at_.tl
  have HF:=Hid.mk7 (And.intro hm (And.intro hr (And.intro hi (And.intro hit hT))))
  have HR:=Hid.mk7 (Rg.refl h)
  obtain ⟨res,hres⟩:∃ res,rowL T b m (T.length+1) [(a:Int)] t=res:=⟨_,rfl⟩
  rw [hres]
  have HQ:=Hid.mk7 hres
  clear hm hr h hi hit hms hres ht1 ha hct
  go_enter Tryz.func120,Tryz.ntmps120
  go_wp2_with fail
  refine hE.mono ?_
  rintro x w1 hx
  have hx':Rd T w g Tv Nv (N++[]) (.ok (a,t)) x w1:=by rw [List.append_nil]; exact hx
  obtain ⟨rfl,Nv1,M1,r1,S1,M3,e3,o3⟩:=HR.out.rd hx'
  have hK:Kd T w (w1.alloc (.cells #[.int .i64 (a:Int)] 3)) g Tv Nv1 (N++M1) (.slice (some ⟨w1.heap.size,0,none⟩) 1 1) [(a:Int)]:=by
   refine ⟨⟨by simp [ints],.inr ⟨w1.heap.size,0,1,rfl,Nat.le_refl _,by decide,by simp,fun j hj=>?_,fun j hj=>?_⟩⟩,fun k hk=>?_⟩
   ·have hj1:j < 1:=hj
    match j,hj1 with
    | 0,_=>simp [ints]
   ·have hj1:j < 1:=by omega
    match j,hj1 with
    | 0,_=>exact ⟨by simp,by rw [World.frozen?_alloc_new]⟩
   ·have hk:w1.heap.size=k:=hk
    subst hk
    have f:=r1.ps.at_.free HF.out.2.2.2.2 w1.heap.size (Nat.le_refl _)
    exact ⟨r1.size,⟨f.g,f.t,f.n,f.k⟩⟩
  have H1:=Hid.mk7 (And.intro (r1.below (Below.alloc0 w1 (.cells #[.int .i64 (a:Int)] 3))) hK)
  clear hE hx hx' r1 S1 e3 o3 hK
  go_wp2_with fail
  go_loopw [7] (fun V wr=>∃ s1 acc f Nv1 M1,RowI T b m w wr g Tv Nv N i0 res V s1 acc f Nv1 M1) (fun _ wr=>T.length - posOf wr g)
  case atStart=>
   refine ⟨t,[(a:Int)],T.length+1,Nv1,M1,⟨by have:=HF.out; omega,by omega,HQ.out,H1.out.1,H1.out.2,by have:=HF.out; simp; omega⟩⟩
  case round=>
   clear H1
   obtain ⟨s1,acc,f,Nv2,M2,hI⟩:=hrel
   obtain ⟨aV,cV,hV,_⟩:=OwnK.sl hI.kd.own |>.form
   subst hV
   have hs:=ps_isSign hI.rg.ps.at_ b
   have hf0:0 < f:=by have:=hI.fuel; omega
   cases hsg:isTk 5 b (tokAt T s1.i) with
   | false=>
    rw [hsg] at hs
    have hres:res=.ok (acc,s1):=by rw [← hI.eq]; exact rowL_stop hf0 hsg
    subst hres
    have HI:=Hid.mk7 hI
    clear hI hsg
    go_wp2_with fail
    refine hs.mono ?_
    rintro x w3 ⟨rfl,hb3⟩
    have r3:=HI.out.rg.below hb3
    have k3:=HI.out.kd.below hb3
    have H3:=Hid.mk7 (And.intro r3 k3)
    clear hs hb3 r3 k3
    go_wp2
    go_ret
    exact ⟨_,rfl,Nv2,M2,H3.out.1.off,H3.out.1.ps,H3.out.1.st,H3.out.2.own,H3.out.2.fv⟩
   | true=>
    rw [hsg] at hs
    have hlt:s1.i < T.length:=isTk_lt (by decide) hsg
    have hpos:=hI.rg.ps.at_.pos
    have HI:=Hid.mk7 (And.intro hI (And.intro hsg hpos))
    clear hI hsg hpos
    go_wp2_with fail
    refine hs.mono ?_
    rintro x w3 ⟨rfl,hb3⟩
    have r3:=HI.out.1.rg.below hb3
    have k3:=HI.out.1.kd.below hb3
    have c1:=r3.ps.at_.c1.1
    have f1:=r3.ps.at_.c1.2
    have r4:=r3.skip 1 hlt
    have k4:=k3.set 1 (.int .i64 ((s1.i+1:Nat):Int))
    have hE4:=HF.out.2.1 ⟨s1.i+1,s1.N⟩ (by have:=HI.out.1.i; simp; omega) _ g Tv Nv2 (N++M2) r4.ps
    have hc4:((s1.i+1:Nat):Int)=(s1.i:Int)+1:=by omega
    rw [hc4] at hE4 r4 k4
    have hr4:=r4.ps
    cases hm4:m ⟨s1.i+1,s1.N⟩ with
    | error e=>
     have hres:res=.error e:=by rw [← HI.out.1.eq]; exact rowL_bad hf0 HI.out.2.1 hm4
     subst hres
     rw [hm4] at hE4
     have H4:=Hid.mk7 r4
     clear hs hb3 r3 k3 r4 k4 hr4 hm4
     go_wp2_with fail
     refine hE4.mono ?_
     rintro x w5 ⟨rfl,T5⟩
     exact ⟨rfl,rfl,H4.out.bad T5⟩
    | ok bt=>
     obtain ⟨a5,t5⟩:=bt
     obtain ⟨q1,q2,q3,q4⟩:=HF.out.1.ok hr4.ok hr4.cnt hm4
     have hres:rowL T b m (f - 1) (acc++[(a5:Int)]) t5=res:=by rw [← HI.out.1.eq]; exact (rowL_next hf0 HI.out.2.1 hm4).symm
     rw [hm4] at hE4
     have H4:=Hid.mk7 (And.intro r4 (And.intro k4 (And.intro hres (And.intro q1 q3))))
     clear hs hb3 r3 k3 r4 k4 hr4 hm4 hres q1 q2 q3 q4
     go_wp2_with fail
     refine hE4.mono ?_
     rintro x w5 hx
     obtain ⟨rfl,Nv5,M5,r5,S5,M6,e6,o6⟩:=H4.out.1.rd hx
     subst e6
     have k5:=H4.out.2.1.step S5 o6
     rw [List.append_assoc] at k5
     have hal:(acc.length+[(a5:Int)].length)*8≤140737488355328:=by have:=HI.out.1.al; simp; omega
     have hal2:acc.length+[(a5:Int)].length≤4611686018427387903:=by simp; omega
     have H5:=Hid.mk7 (And.intro r5 (And.intro k5 (And.intro hal hal2)))
     clear hE4 hx r5 k5 S5 o6 hal hal2 c1 f1
     go_wp2_with (at_builtin; refine wpList_append_k (by rfl) (.tmp 21) (.tmp 24) (by rfl) Tryz.intTypes (by rfl) (by rfl) (OwnK.turned H5.out.2.1.own (Turned.alloc (fun _=>False) _ _) (fun _ _ e=>e)) (SlI.one _ _ _) (ints_one _) H5.out.2.2.1 H5.out.2.2.2 ?_; intro V6 w6 ho6 T6 hv6)
     obtain ⟨k6,p6,TT⟩:=H5.out.2.1.more H5.out.1.ps.at_ HF.out.2.2.2.2 H5.out.1.size (Below.alloc0 w5 _) ho6 T6 hv6
     have r6:=H5.out.1.mine (fun q hq=>(H5.out.2.1.fv q hq).1) p6 TT
     have H6:=Hid.mk7 (And.intro r6 k6)
     have hp6:=p6.pos
     have HP:=Hid.mk7 hp6
     clear ho6 T6 hv6 k6 p6 TT r6 hp6
     go_wp2
     go_roundw
     case rel=>
      refine ⟨t5,acc++[(a5:Int)],f - 1,Nv5,M2++M6,⟨?_,?_,H4.out.2.2.1,H6.out.1,H6.out.2,?_⟩⟩
      ·have h1:s1.i+1 < t5.i:=H4.out.2.2.2.2; have:=HI.out.1.i; omega
      ·have h1:s1.i+1 < t5.i:=H4.out.2.2.2.2; have:=HI.out.1.fuel; omega
      ·have h1:s1.i+1 < t5.i:=H4.out.2.2.2.2; have:=HI.out.1.al; simp; omega
     case measure=>
      rw [HP.out,HI.out.2.2]
      have h1:s1.i+1 < t5.i:=H4.out.2.2.2.2
      have h2:=H4.out.2.2.2.1.il
      omega
theorem rd_row_clause (hm:Fwd T m) (hr:Runs T 191 [] m i0) (b:ByteArray) (hi:i0≤s.i) (h:PS w g Tv T Nv N s) :
  Calls Tryz.prog 120 #[.pointer (some ⟨g,0,none⟩),.string b,.func (.func 191) #[.pointer (some ⟨g,0,none⟩)] #[]] w (RdL T w g Tv Nv N (row T b m s)):=by
 have hE:=hr s hi w g Tv Nv N h
 cases hms:m s with
 | error e=>
  rw [hms] at hE
  rw [show row T b m s=.error e by simp [row,PM.bind,hms]]
  clear hr h
  go_enter Tryz.func120,Tryz.ntmps120
  go_wp2_with fail
  refine hE.mono ?_
  rintro x w1 ⟨rfl,T1⟩
  exact ⟨rfl,rfl,T1⟩
 | ok at_=>
  obtain ⟨a,t⟩:=at_
  rw [hms] at hE
  obtain ⟨ht1,ha,hit,hct⟩:=hm.ok h.ok h.cnt hms
  have hT:0 < T.length:=by have:=ht1.il; omega
  rw [show row T b m s=rowL T b m (T.length+1) [(a:Int)] t by simp [row,PM.bind,hms]]
  have htl:=h.at_.tl
  have HF:=Hid.mk7 (And.intro hm (And.intro hr (And.intro hi (And.intro hit hT))))
  have HR:=Hid.mk7 (Rg.refl h)
  obtain ⟨res,hres⟩:∃ res,rowL T b m (T.length+1) [(a:Int)] t=res:=⟨_,rfl⟩
  rw [hres]
  have HQ:=Hid.mk7 hres
  clear hm hr h hi hit hms hres ht1 ha hct
  go_enter Tryz.func120,Tryz.ntmps120
  go_wp2_with fail
  refine hE.mono ?_
  rintro x w1 hx
  have hx':Rd T w g Tv Nv (N++[]) (.ok (a,t)) x w1:=by rw [List.append_nil]; exact hx
  obtain ⟨rfl,Nv1,M1,r1,S1,M3,e3,o3⟩:=HR.out.rd hx'
  have hK:Kd T w (w1.alloc (.cells #[.int .i64 (a:Int)] 3)) g Tv Nv1 (N++M1) (.slice (some ⟨w1.heap.size,0,none⟩) 1 1) [(a:Int)]:=by
   refine ⟨⟨by simp [ints],.inr ⟨w1.heap.size,0,1,rfl,Nat.le_refl _,by decide,by simp,fun j hj=>?_,fun j hj=>?_⟩⟩,fun k hk=>?_⟩
   ·have hj1:j < 1:=hj
    match j,hj1 with
    | 0,_=>simp [ints]
   ·have hj1:j < 1:=by omega
    match j,hj1 with
    | 0,_=>exact ⟨by simp,by rw [World.frozen?_alloc_new]⟩
   ·have hk:w1.heap.size=k:=hk
    subst hk
    have f:=r1.ps.at_.free HF.out.2.2.2.2 w1.heap.size (Nat.le_refl _)
    exact ⟨r1.size,⟨f.g,f.t,f.n,f.k⟩⟩
  have H1:=Hid.mk7 (And.intro (r1.below (Below.alloc0 w1 (.cells #[.int .i64 (a:Int)] 3))) hK)
  clear hE hx hx' r1 S1 e3 o3 hK
  go_wp2_with fail
  go_loopw [7] (fun V wr=>∃ s1 acc f Nv1 M1,RowI T b m w wr g Tv Nv N i0 res V s1 acc f Nv1 M1) (fun _ wr=>T.length - posOf wr g)
  case atStart=>
   refine ⟨t,[(a:Int)],T.length+1,Nv1,M1,⟨by have:=HF.out; omega,by omega,HQ.out,H1.out.1,H1.out.2,by have:=HF.out; simp; omega⟩⟩
  case round=>
   clear H1
   obtain ⟨s1,acc,f,Nv2,M2,hI⟩:=hrel
   obtain ⟨aV,cV,hV,_⟩:=OwnK.sl hI.kd.own |>.form
   subst hV
   have hs:=ps_isSign hI.rg.ps.at_ b
   have hf0:0 < f:=by have:=hI.fuel; omega
   cases hsg:isTk 5 b (tokAt T s1.i) with
   | false=>
    rw [hsg] at hs
    have hres:res=.ok (acc,s1):=by rw [← hI.eq]; exact rowL_stop hf0 hsg
    subst hres
    have HI:=Hid.mk7 hI
    clear hI hsg
    go_wp2_with fail
    refine hs.mono ?_
    rintro x w3 ⟨rfl,hb3⟩
    have r3:=HI.out.rg.below hb3
    have k3:=HI.out.kd.below hb3
    have H3:=Hid.mk7 (And.intro r3 k3)
    clear hs hb3 r3 k3
    go_wp2
    go_ret
    exact ⟨_,rfl,Nv2,M2,H3.out.1.off,H3.out.1.ps,H3.out.1.st,H3.out.2.own,H3.out.2.fv⟩
   | true=>
    rw [hsg] at hs
    have hlt:s1.i < T.length:=isTk_lt (by decide) hsg
    have hpos:=hI.rg.ps.at_.pos
    have HI:=Hid.mk7 (And.intro hI (And.intro hsg hpos))
    clear hI hsg hpos
    go_wp2_with fail
    refine hs.mono ?_
    rintro x w3 ⟨rfl,hb3⟩
    have r3:=HI.out.1.rg.below hb3
    have k3:=HI.out.1.kd.below hb3
    have c1:=r3.ps.at_.c1.1
    have f1:=r3.ps.at_.c1.2
    have r4:=r3.skip 1 hlt
    have k4:=k3.set 1 (.int .i64 ((s1.i+1:Nat):Int))
    have hE4:=HF.out.2.1 ⟨s1.i+1,s1.N⟩ (by have:=HI.out.1.i; simp; omega) _ g Tv Nv2 (N++M2) r4.ps
    have hc4:((s1.i+1:Nat):Int)=(s1.i:Int)+1:=by omega
    rw [hc4] at hE4 r4 k4
    have hr4:=r4.ps
    cases hm4:m ⟨s1.i+1,s1.N⟩ with
    | error e=>
     have hres:res=.error e:=by rw [← HI.out.1.eq]; exact rowL_bad hf0 HI.out.2.1 hm4
     subst hres
     rw [hm4] at hE4
     have H4:=Hid.mk7 r4
     clear hs hb3 r3 k3 r4 k4 hr4 hm4
     go_wp2_with fail
     refine hE4.mono ?_
     rintro x w5 ⟨rfl,T5⟩
     exact ⟨rfl,rfl,H4.out.bad T5⟩
    | ok bt=>
     obtain ⟨a5,t5⟩:=bt
     obtain ⟨q1,q2,q3,q4⟩:=HF.out.1.ok hr4.ok hr4.cnt hm4
     have hres:rowL T b m (f - 1) (acc++[(a5:Int)]) t5=res:=by rw [← HI.out.1.eq]; exact (rowL_next hf0 HI.out.2.1 hm4).symm
     rw [hm4] at hE4
     have H4:=Hid.mk7 (And.intro r4 (And.intro k4 (And.intro hres (And.intro q1 q3))))
     clear hs hb3 r3 k3 r4 k4 hr4 hm4 hres q1 q2 q3 q4
     go_wp2_with fail
     refine hE4.mono ?_
     rintro x w5 hx
     obtain ⟨rfl,Nv5,M5,r5,S5,M6,e6,o6⟩:=H4.out.1.rd hx
     subst e6
     have k5:=H4.out.2.1.step S5 o6
     rw [List.append_assoc] at k5
     have hal:(acc.length+[(a5:Int)].length)*8≤140737488355328:=by have:=HI.out.1.al; simp; omega
     have hal2:acc.length+[(a5:Int)].length≤4611686018427387903:=by simp; omega
     have H5:=Hid.mk7 (And.intro r5 (And.intro k5 (And.intro hal hal2)))
     clear hE4 hx r5 k5 S5 o6 hal hal2 c1 f1
     go_wp2_with (at_builtin; refine wpList_append_k (by rfl) (.tmp 21) (.tmp 24) (by rfl) Tryz.intTypes (by rfl) (by rfl) (OwnK.turned H5.out.2.1.own (Turned.alloc (fun _=>False) _ _) (fun _ _ e=>e)) (SlI.one _ _ _) (ints_one _) H5.out.2.2.1 H5.out.2.2.2 ?_; intro V6 w6 ho6 T6 hv6)
     obtain ⟨k6,p6,TT⟩:=H5.out.2.1.more H5.out.1.ps.at_ HF.out.2.2.2.2 H5.out.1.size (Below.alloc0 w5 _) ho6 T6 hv6
     have r6:=H5.out.1.mine (fun q hq=>(H5.out.2.1.fv q hq).1) p6 TT
     have H6:=Hid.mk7 (And.intro r6 k6)
     have hp6:=p6.pos
     have HP:=Hid.mk7 hp6
     clear ho6 T6 hv6 k6 p6 TT r6 hp6
     go_wp2
     go_roundw
     case rel=>
      refine ⟨t5,acc++[(a5:Int)],f - 1,Nv5,M2++M6,⟨?_,?_,H4.out.2.2.1,H6.out.1,H6.out.2,?_⟩⟩
      ·have h1:s1.i+1 < t5.i:=H4.out.2.2.2.2; have:=HI.out.1.i; omega
      ·have h1:s1.i+1 < t5.i:=H4.out.2.2.2.2; have:=HI.out.1.fuel; omega
      ·have h1:s1.i+1 < t5.i:=H4.out.2.2.2.2; have:=HI.out.1.al; simp; omega
     case measure=>
      rw [HP.out,HI.out.2.2]
      have h1:s1.i+1 < t5.i:=H4.out.2.2.2.2
      have h2:=H4.out.2.2.2.1.il
      omega
theorem rd_row_catchClause (hm:Fwd T m) (hr:Runs T 193 [] m i0) (b:ByteArray) (hi:i0≤s.i) (h:PS w g Tv T Nv N s) :
  Calls Tryz.prog 120 #[.pointer (some ⟨g,0,none⟩),.string b,.func (.func 193) #[.pointer (some ⟨g,0,none⟩)] #[]] w (RdL T w g Tv Nv N (row T b m s)):=by
 have hE:=hr s hi w g Tv Nv N h
 cases hms:m s with
 | error e=>
  rw [hms] at hE
  rw [show row T b m s=.error e by simp [row,PM.bind,hms]]
  clear hr h
  go_enter Tryz.func120,Tryz.ntmps120
  go_wp2_with fail
  refine hE.mono ?_
  rintro x w1 ⟨rfl,T1⟩
  exact ⟨rfl,rfl,T1⟩
 | ok at_=>
  obtain ⟨a,t⟩:=at_
  rw [hms] at hE
  obtain ⟨ht1,ha,hit,hct⟩:=hm.ok h.ok h.cnt hms
  have hT:0 < T.length:=by have:=ht1.il; omega
  rw [show row T b m s=rowL T b m (T.length+1) [(a:Int)] t by simp [row,PM.bind,hms]]
  have htl:=h.at_.tl
  have HF:=Hid.mk7 (And.intro hm (And.intro hr (And.intro hi (And.intro hit hT))))
  have HR:=Hid.mk7 (Rg.refl h)
  obtain ⟨res,hres⟩:∃ res,rowL T b m (T.length+1) [(a:Int)] t=res:=⟨_,rfl⟩
  rw [hres]
  have HQ:=Hid.mk7 hres
  clear hm hr h hi hit hms hres ht1 ha hct
  go_enter Tryz.func120,Tryz.ntmps120
  go_wp2_with fail
  refine hE.mono ?_
  rintro x w1 hx
  have hx':Rd T w g Tv Nv (N++[]) (.ok (a,t)) x w1:=by rw [List.append_nil]; exact hx
  obtain ⟨rfl,Nv1,M1,r1,S1,M3,e3,o3⟩:=HR.out.rd hx'
  have hK:Kd T w (w1.alloc (.cells #[.int .i64 (a:Int)] 3)) g Tv Nv1 (N++M1) (.slice (some ⟨w1.heap.size,0,none⟩) 1 1) [(a:Int)]:=by
   refine ⟨⟨by simp [ints],.inr ⟨w1.heap.size,0,1,rfl,Nat.le_refl _,by decide,by simp,fun j hj=>?_,fun j hj=>?_⟩⟩,fun k hk=>?_⟩
   ·have hj1:j < 1:=hj
    match j,hj1 with
    | 0,_=>simp [ints]
   ·have hj1:j < 1:=by omega
    match j,hj1 with
    | 0,_=>exact ⟨by simp,by rw [World.frozen?_alloc_new]⟩
   ·have hk:w1.heap.size=k:=hk
    subst hk
    have f:=r1.ps.at_.free HF.out.2.2.2.2 w1.heap.size (Nat.le_refl _)
    exact ⟨r1.size,⟨f.g,f.t,f.n,f.k⟩⟩
  have H1:=Hid.mk7 (And.intro (r1.below (Below.alloc0 w1 (.cells #[.int .i64 (a:Int)] 3))) hK)
  clear hE hx hx' r1 S1 e3 o3 hK
  go_wp2_with fail
  go_loopw [7] (fun V wr=>∃ s1 acc f Nv1 M1,RowI T b m w wr g Tv Nv N i0 res V s1 acc f Nv1 M1) (fun _ wr=>T.length - posOf wr g)
  case atStart=>
   refine ⟨t,[(a:Int)],T.length+1,Nv1,M1,⟨by have:=HF.out; omega,by omega,HQ.out,H1.out.1,H1.out.2,by have:=HF.out; simp; omega⟩⟩
  case round=>
   clear H1
   obtain ⟨s1,acc,f,Nv2,M2,hI⟩:=hrel
   obtain ⟨aV,cV,hV,_⟩:=OwnK.sl hI.kd.own |>.form
   subst hV
   have hs:=ps_isSign hI.rg.ps.at_ b
   have hf0:0 < f:=by have:=hI.fuel; omega
   cases hsg:isTk 5 b (tokAt T s1.i) with
   | false=>
    rw [hsg] at hs
    have hres:res=.ok (acc,s1):=by rw [← hI.eq]; exact rowL_stop hf0 hsg
    subst hres
    have HI:=Hid.mk7 hI
    clear hI hsg
    go_wp2_with fail
    refine hs.mono ?_
    rintro x w3 ⟨rfl,hb3⟩
    have r3:=HI.out.rg.below hb3
    have k3:=HI.out.kd.below hb3
    have H3:=Hid.mk7 (And.intro r3 k3)
    clear hs hb3 r3 k3
    go_wp2
    go_ret
    exact ⟨_,rfl,Nv2,M2,H3.out.1.off,H3.out.1.ps,H3.out.1.st,H3.out.2.own,H3.out.2.fv⟩
   | true=>
    rw [hsg] at hs
    have hlt:s1.i < T.length:=isTk_lt (by decide) hsg
    have hpos:=hI.rg.ps.at_.pos
    have HI:=Hid.mk7 (And.intro hI (And.intro hsg hpos))
    clear hI hsg hpos
    go_wp2_with fail
    refine hs.mono ?_
    rintro x w3 ⟨rfl,hb3⟩
    have r3:=HI.out.1.rg.below hb3
    have k3:=HI.out.1.kd.below hb3
    have c1:=r3.ps.at_.c1.1
    have f1:=r3.ps.at_.c1.2
    have r4:=r3.skip 1 hlt
    have k4:=k3.set 1 (.int .i64 ((s1.i+1:Nat):Int))
    have hE4:=HF.out.2.1 ⟨s1.i+1,s1.N⟩ (by have:=HI.out.1.i; simp; omega) _ g Tv Nv2 (N++M2) r4.ps
    have hc4:((s1.i+1:Nat):Int)=(s1.i:Int)+1:=by omega
    rw [hc4] at hE4 r4 k4
    have hr4:=r4.ps
    cases hm4:m ⟨s1.i+1,s1.N⟩ with
    | error e=>
     have hres:res=.error e:=by rw [← HI.out.1.eq]; exact rowL_bad hf0 HI.out.2.1 hm4
     subst hres
     rw [hm4] at hE4
     have H4:=Hid.mk7 r4
     clear hs hb3 r3 k3 r4 k4 hr4 hm4
     go_wp2_with fail
     refine hE4.mono ?_
     rintro x w5 ⟨rfl,T5⟩
     exact ⟨rfl,rfl,H4.out.bad T5⟩
    | ok bt=>
     obtain ⟨a5,t5⟩:=bt
     obtain ⟨q1,q2,q3,q4⟩:=HF.out.1.ok hr4.ok hr4.cnt hm4
     have hres:rowL T b m (f - 1) (acc++[(a5:Int)]) t5=res:=by rw [← HI.out.1.eq]; exact (rowL_next hf0 HI.out.2.1 hm4).symm
     rw [hm4] at hE4
     have H4:=Hid.mk7 (And.intro r4 (And.intro k4 (And.intro hres (And.intro q1 q3))))
     clear hs hb3 r3 k3 r4 k4 hr4 hm4 hres q1 q2 q3 q4
     go_wp2_with fail
     refine hE4.mono ?_
     rintro x w5 hx
     obtain ⟨rfl,Nv5,M5,r5,S5,M6,e6,o6⟩:=H4.out.1.rd hx
     subst e6
     have k5:=H4.out.2.1.step S5 o6
     rw [List.append_assoc] at k5
     have hal:(acc.length+[(a5:Int)].length)*8≤140737488355328:=by have:=HI.out.1.al; simp; omega
     have hal2:acc.length+[(a5:Int)].length≤4611686018427387903:=by simp; omega
     have H5:=Hid.mk7 (And.intro r5 (And.intro k5 (And.intro hal hal2)))
     clear hE4 hx r5 k5 S5 o6 hal hal2 c1 f1
     go_wp2_with (at_builtin; refine wpList_append_k (by rfl) (.tmp 21) (.tmp 24) (by rfl) Tryz.intTypes (by rfl) (by rfl) (OwnK.turned H5.out.2.1.own (Turned.alloc (fun _=>False) _ _) (fun _ _ e=>e)) (SlI.one _ _ _) (ints_one _) H5.out.2.2.1 H5.out.2.2.2 ?_; intro V6 w6 ho6 T6 hv6)
     obtain ⟨k6,p6,TT⟩:=H5.out.2.1.more H5.out.1.ps.at_ HF.out.2.2.2.2 H5.out.1.size (Below.alloc0 w5 _) ho6 T6 hv6
     have r6:=H5.out.1.mine (fun q hq=>(H5.out.2.1.fv q hq).1) p6 TT
     have H6:=Hid.mk7 (And.intro r6 k6)
     have hp6:=p6.pos
     have HP:=Hid.mk7 hp6
     clear ho6 T6 hv6 k6 p6 TT r6 hp6
     go_wp2
     go_roundw
     case rel=>
      refine ⟨t5,acc++[(a5:Int)],f - 1,Nv5,M2++M6,⟨?_,?_,H4.out.2.2.1,H6.out.1,H6.out.2,?_⟩⟩
      ·have h1:s1.i+1 < t5.i:=H4.out.2.2.2.2; have:=HI.out.1.i; omega
      ·have h1:s1.i+1 < t5.i:=H4.out.2.2.2.2; have:=HI.out.1.fuel; omega
      ·have h1:s1.i+1 < t5.i:=H4.out.2.2.2.2; have:=HI.out.1.al; simp; omega
     case measure=>
      rw [HP.out,HI.out.2.2]
      have h1:s1.i+1 < t5.i:=H4.out.2.2.2.2
      have h2:=H4.out.2.2.2.1.il
      omega
theorem rd_row_functionClause (hm:Fwd T m) (hr:Runs T 121 [] m i0) (b:ByteArray) (hi:i0≤s.i) (h:PS w g Tv T Nv N s) :
  Calls Tryz.prog 120 #[.pointer (some ⟨g,0,none⟩),.string b,.func (.func 121) #[.pointer (some ⟨g,0,none⟩)] #[]] w (RdL T w g Tv Nv N (row T b m s)):=by
 have hE:=hr s hi w g Tv Nv N h
 cases hms:m s with
 | error e=>
  rw [hms] at hE
  rw [show row T b m s=.error e by simp [row,PM.bind,hms]]
  clear hr h
  go_enter Tryz.func120,Tryz.ntmps120
  go_wp2_with fail
  refine hE.mono ?_
  rintro x w1 ⟨rfl,T1⟩
  exact ⟨rfl,rfl,T1⟩
 | ok at_=>
  obtain ⟨a,t⟩:=at_
  rw [hms] at hE
  obtain ⟨ht1,ha,hit,hct⟩:=hm.ok h.ok h.cnt hms
  have hT:0 < T.length:=by have:=ht1.il; omega
  rw [show row T b m s=rowL T b m (T.length+1) [(a:Int)] t by simp [row,PM.bind,hms]]
  have htl:=h.at_.tl
  have HF:=Hid.mk7 (And.intro hm (And.intro hr (And.intro hi (And.intro hit hT))))
  have HR:=Hid.mk7 (Rg.refl h)
  obtain ⟨res,hres⟩:∃ res,rowL T b m (T.length+1) [(a:Int)] t=res:=⟨_,rfl⟩
  rw [hres]
  have HQ:=Hid.mk7 hres
  clear hm hr h hi hit hms hres ht1 ha hct
  go_enter Tryz.func120,Tryz.ntmps120
  go_wp2_with fail
  refine hE.mono ?_
  rintro x w1 hx
  have hx':Rd T w g Tv Nv (N++[]) (.ok (a,t)) x w1:=by rw [List.append_nil]; exact hx
  obtain ⟨rfl,Nv1,M1,r1,S1,M3,e3,o3⟩:=HR.out.rd hx'
  have hK:Kd T w (w1.alloc (.cells #[.int .i64 (a:Int)] 3)) g Tv Nv1 (N++M1) (.slice (some ⟨w1.heap.size,0,none⟩) 1 1) [(a:Int)]:=by
   refine ⟨⟨by simp [ints],.inr ⟨w1.heap.size,0,1,rfl,Nat.le_refl _,by decide,by simp,fun j hj=>?_,fun j hj=>?_⟩⟩,fun k hk=>?_⟩
   ·have hj1:j < 1:=hj
    match j,hj1 with
    | 0,_=>simp [ints]
   ·have hj1:j < 1:=by omega
    match j,hj1 with
    | 0,_=>exact ⟨by simp,by rw [World.frozen?_alloc_new]⟩
   ·have hk:w1.heap.size=k:=hk
    subst hk
    have f:=r1.ps.at_.free HF.out.2.2.2.2 w1.heap.size (Nat.le_refl _)
    exact ⟨r1.size,⟨f.g,f.t,f.n,f.k⟩⟩
  have H1:=Hid.mk7 (And.intro (r1.below (Below.alloc0 w1 (.cells #[.int .i64 (a:Int)] 3))) hK)
  clear hE hx hx' r1 S1 e3 o3 hK
  go_wp2_with fail
  go_loopw [7] (fun V wr=>∃ s1 acc f Nv1 M1,RowI T b m w wr g Tv Nv N i0 res V s1 acc f Nv1 M1) (fun _ wr=>T.length - posOf wr g)
  case atStart=>
   refine ⟨t,[(a:Int)],T.length+1,Nv1,M1,⟨by have:=HF.out; omega,by omega,HQ.out,H1.out.1,H1.out.2,by have:=HF.out; simp; omega⟩⟩
  case round=>
   clear H1
   obtain ⟨s1,acc,f,Nv2,M2,hI⟩:=hrel
   obtain ⟨aV,cV,hV,_⟩:=OwnK.sl hI.kd.own |>.form
   subst hV
   have hs:=ps_isSign hI.rg.ps.at_ b
   have hf0:0 < f:=by have:=hI.fuel; omega
   cases hsg:isTk 5 b (tokAt T s1.i) with
   | false=>
    rw [hsg] at hs
    have hres:res=.ok (acc,s1):=by rw [← hI.eq]; exact rowL_stop hf0 hsg
    subst hres
    have HI:=Hid.mk7 hI
    clear hI hsg
    go_wp2_with fail
    refine hs.mono ?_
    rintro x w3 ⟨rfl,hb3⟩
    have r3:=HI.out.rg.below hb3
    have k3:=HI.out.kd.below hb3
    have H3:=Hid.mk7 (And.intro r3 k3)
    clear hs hb3 r3 k3
    go_wp2
    go_ret
    exact ⟨_,rfl,Nv2,M2,H3.out.1.off,H3.out.1.ps,H3.out.1.st,H3.out.2.own,H3.out.2.fv⟩
   | true=>
    rw [hsg] at hs
    have hlt:s1.i < T.length:=isTk_lt (by decide) hsg
    have hpos:=hI.rg.ps.at_.pos
    have HI:=Hid.mk7 (And.intro hI (And.intro hsg hpos))
    clear hI hsg hpos
    go_wp2_with fail
    refine hs.mono ?_
    rintro x w3 ⟨rfl,hb3⟩
    have r3:=HI.out.1.rg.below hb3
    have k3:=HI.out.1.kd.below hb3
    have c1:=r3.ps.at_.c1.1
    have f1:=r3.ps.at_.c1.2
    have r4:=r3.skip 1 hlt
    have k4:=k3.set 1 (.int .i64 ((s1.i+1:Nat):Int))
    have hE4:=HF.out.2.1 ⟨s1.i+1,s1.N⟩ (by have:=HI.out.1.i; simp; omega) _ g Tv Nv2 (N++M2) r4.ps
    have hc4:((s1.i+1:Nat):Int)=(s1.i:Int)+1:=by omega
    rw [hc4] at hE4 r4 k4
    have hr4:=r4.ps
    cases hm4:m ⟨s1.i+1,s1.N⟩ with
    | error e=>
     have hres:res=.error e:=by rw [← HI.out.1.eq]; exact rowL_bad hf0 HI.out.2.1 hm4
     subst hres
     rw [hm4] at hE4
     have H4:=Hid.mk7 r4
     clear hs hb3 r3 k3 r4 k4 hr4 hm4
     go_wp2_with fail
     refine hE4.mono ?_
     rintro x w5 ⟨rfl,T5⟩
     exact ⟨rfl,rfl,H4.out.bad T5⟩
    | ok bt=>
     obtain ⟨a5,t5⟩:=bt
     obtain ⟨q1,q2,q3,q4⟩:=HF.out.1.ok hr4.ok hr4.cnt hm4
     have hres:rowL T b m (f - 1) (acc++[(a5:Int)]) t5=res:=by rw [← HI.out.1.eq]; exact (rowL_next hf0 HI.out.2.1 hm4).symm
     rw [hm4] at hE4
     have H4:=Hid.mk7 (And.intro r4 (And.intro k4 (And.intro hres (And.intro q1 q3))))
     clear hs hb3 r3 k3 r4 k4 hr4 hm4 hres q1 q2 q3 q4
     go_wp2_with fail
     refine hE4.mono ?_
     rintro x w5 hx
     obtain ⟨rfl,Nv5,M5,r5,S5,M6,e6,o6⟩:=H4.out.1.rd hx
     subst e6
     have k5:=H4.out.2.1.step S5 o6
     rw [List.append_assoc] at k5
     have hal:(acc.length+[(a5:Int)].length)*8≤140737488355328:=by have:=HI.out.1.al; simp; omega
     have hal2:acc.length+[(a5:Int)].length≤4611686018427387903:=by simp; omega
     have H5:=Hid.mk7 (And.intro r5 (And.intro k5 (And.intro hal hal2)))
     clear hE4 hx r5 k5 S5 o6 hal hal2 c1 f1
     go_wp2_with (at_builtin; refine wpList_append_k (by rfl) (.tmp 21) (.tmp 24) (by rfl) Tryz.intTypes (by rfl) (by rfl) (OwnK.turned H5.out.2.1.own (Turned.alloc (fun _=>False) _ _) (fun _ _ e=>e)) (SlI.one _ _ _) (ints_one _) H5.out.2.2.1 H5.out.2.2.2 ?_; intro V6 w6 ho6 T6 hv6)
     obtain ⟨k6,p6,TT⟩:=H5.out.2.1.more H5.out.1.ps.at_ HF.out.2.2.2.2 H5.out.1.size (Below.alloc0 w5 _) ho6 T6 hv6
     have r6:=H5.out.1.mine (fun q hq=>(H5.out.2.1.fv q hq).1) p6 TT
     have H6:=Hid.mk7 (And.intro r6 k6)
     have hp6:=p6.pos
     have HP:=Hid.mk7 hp6
     clear ho6 T6 hv6 k6 p6 TT r6 hp6
     go_wp2
     go_roundw
     case rel=>
      refine ⟨t5,acc++[(a5:Int)],f - 1,Nv5,M2++M6,⟨?_,?_,H4.out.2.2.1,H6.out.1,H6.out.2,?_⟩⟩
      ·have h1:s1.i+1 < t5.i:=H4.out.2.2.2.2; have:=HI.out.1.i; omega
      ·have h1:s1.i+1 < t5.i:=H4.out.2.2.2.2; have:=HI.out.1.fuel; omega
      ·have h1:s1.i+1 < t5.i:=H4.out.2.2.2.2; have:=HI.out.1.al; simp; omega
     case measure=>
      rw [HP.out,HI.out.2.2]
      have h1:s1.i+1 < t5.i:=H4.out.2.2.2.2
      have h2:=H4.out.2.2.2.1.il
      omega
theorem rd_row_conjunction (hm:Fwd T m) (hr:Runs T 157 [] m i0) (b:ByteArray) (hi:i0≤s.i) (h:PS w g Tv T Nv N s) :
  Calls Tryz.prog 120 #[.pointer (some ⟨g,0,none⟩),.string b,.func (.func 157) #[.pointer (some ⟨g,0,none⟩)] #[]] w (RdL T w g Tv Nv N (row T b m s)):=by
 have hE:=hr s hi w g Tv Nv N h
 cases hms:m s with
 | error e=>
  rw [hms] at hE
  rw [show row T b m s=.error e by simp [row,PM.bind,hms]]
  clear hr h
  go_enter Tryz.func120,Tryz.ntmps120
  go_wp2_with fail
  refine hE.mono ?_
  rintro x w1 ⟨rfl,T1⟩
  exact ⟨rfl,rfl,T1⟩
 | ok at_=>
  obtain ⟨a,t⟩:=at_
  rw [hms] at hE
  obtain ⟨ht1,ha,hit,hct⟩:=hm.ok h.ok h.cnt hms
  have hT:0 < T.length:=by have:=ht1.il; omega
  rw [show row T b m s=rowL T b m (T.length+1) [(a:Int)] t by simp [row,PM.bind,hms]]
  have htl:=h.at_.tl
  have HF:=Hid.mk7 (And.intro hm (And.intro hr (And.intro hi (And.intro hit hT))))
  have HR:=Hid.mk7 (Rg.refl h)
  obtain ⟨res,hres⟩:∃ res,rowL T b m (T.length+1) [(a:Int)] t=res:=⟨_,rfl⟩
  rw [hres]
  have HQ:=Hid.mk7 hres
  clear hm hr h hi hit hms hres ht1 ha hct
  go_enter Tryz.func120,Tryz.ntmps120
  go_wp2_with fail
  refine hE.mono ?_
  rintro x w1 hx
  have hx':Rd T w g Tv Nv (N++[]) (.ok (a,t)) x w1:=by rw [List.append_nil]; exact hx
  obtain ⟨rfl,Nv1,M1,r1,S1,M3,e3,o3⟩:=HR.out.rd hx'
  have hK:Kd T w (w1.alloc (.cells #[.int .i64 (a:Int)] 3)) g Tv Nv1 (N++M1) (.slice (some ⟨w1.heap.size,0,none⟩) 1 1) [(a:Int)]:=by
   refine ⟨⟨by simp [ints],.inr ⟨w1.heap.size,0,1,rfl,Nat.le_refl _,by decide,by simp,fun j hj=>?_,fun j hj=>?_⟩⟩,fun k hk=>?_⟩
   ·have hj1:j < 1:=hj
    match j,hj1 with
    | 0,_=>simp [ints]
   ·have hj1:j < 1:=by omega
    match j,hj1 with
    | 0,_=>exact ⟨by simp,by rw [World.frozen?_alloc_new]⟩
   ·have hk:w1.heap.size=k:=hk
    subst hk
    have f:=r1.ps.at_.free HF.out.2.2.2.2 w1.heap.size (Nat.le_refl _)
    exact ⟨r1.size,⟨f.g,f.t,f.n,f.k⟩⟩
  have H1:=Hid.mk7 (And.intro (r1.below (Below.alloc0 w1 (.cells #[.int .i64 (a:Int)] 3))) hK)
  clear hE hx hx' r1 S1 e3 o3 hK
  go_wp2_with fail
  go_loopw [7] (fun V wr=>∃ s1 acc f Nv1 M1,RowI T b m w wr g Tv Nv N i0 res V s1 acc f Nv1 M1) (fun _ wr=>T.length - posOf wr g)
  case atStart=>
   refine ⟨t,[(a:Int)],T.length+1,Nv1,M1,⟨by have:=HF.out; omega,by omega,HQ.out,H1.out.1,H1.out.2,by have:=HF.out; simp; omega⟩⟩
  case round=>
   clear H1
   obtain ⟨s1,acc,f,Nv2,M2,hI⟩:=hrel
   obtain ⟨aV,cV,hV,_⟩:=OwnK.sl hI.kd.own |>.form
   subst hV
   have hs:=ps_isSign hI.rg.ps.at_ b
   have hf0:0 < f:=by have:=hI.fuel; omega
   cases hsg:isTk 5 b (tokAt T s1.i) with
   | false=>
    rw [hsg] at hs
    have hres:res=.ok (acc,s1):=by rw [← hI.eq]; exact rowL_stop hf0 hsg
    subst hres
    have HI:=Hid.mk7 hI
    clear hI hsg
    go_wp2_with fail
    refine hs.mono ?_
    rintro x w3 ⟨rfl,hb3⟩
    have r3:=HI.out.rg.below hb3
    have k3:=HI.out.kd.below hb3
    have H3:=Hid.mk7 (And.intro r3 k3)
    clear hs hb3 r3 k3
    go_wp2
    go_ret
    exact ⟨_,rfl,Nv2,M2,H3.out.1.off,H3.out.1.ps,H3.out.1.st,H3.out.2.own,H3.out.2.fv⟩
   | true=>
    rw [hsg] at hs
    have hlt:s1.i < T.length:=isTk_lt (by decide) hsg
    have hpos:=hI.rg.ps.at_.pos
    have HI:=Hid.mk7 (And.intro hI (And.intro hsg hpos))
    clear hI hsg hpos
    go_wp2_with fail
    refine hs.mono ?_
    rintro x w3 ⟨rfl,hb3⟩
    have r3:=HI.out.1.rg.below hb3
    have k3:=HI.out.1.kd.below hb3
    have c1:=r3.ps.at_.c1.1
    have f1:=r3.ps.at_.c1.2
    have r4:=r3.skip 1 hlt
    have k4:=k3.set 1 (.int .i64 ((s1.i+1:Nat):Int))
    have hE4:=HF.out.2.1 ⟨s1.i+1,s1.N⟩ (by have:=HI.out.1.i; simp; omega) _ g Tv Nv2 (N++M2) r4.ps
    have hc4:((s1.i+1:Nat):Int)=(s1.i:Int)+1:=by omega
    rw [hc4] at hE4 r4 k4
    have hr4:=r4.ps
    cases hm4:m ⟨s1.i+1,s1.N⟩ with
    | error e=>
     have hres:res=.error e:=by rw [← HI.out.1.eq]; exact rowL_bad hf0 HI.out.2.1 hm4
     subst hres
     rw [hm4] at hE4
     have H4:=Hid.mk7 r4
     clear hs hb3 r3 k3 r4 k4 hr4 hm4
     go_wp2_with fail
     refine hE4.mono ?_
     rintro x w5 ⟨rfl,T5⟩
     exact ⟨rfl,rfl,H4.out.bad T5⟩
    | ok bt=>
     obtain ⟨a5,t5⟩:=bt
     obtain ⟨q1,q2,q3,q4⟩:=HF.out.1.ok hr4.ok hr4.cnt hm4
     have hres:rowL T b m (f - 1) (acc++[(a5:Int)]) t5=res:=by rw [← HI.out.1.eq]; exact (rowL_next hf0 HI.out.2.1 hm4).symm
     rw [hm4] at hE4
     have H4:=Hid.mk7 (And.intro r4 (And.intro k4 (And.intro hres (And.intro q1 q3))))
     clear hs hb3 r3 k3 r4 k4 hr4 hm4 hres q1 q2 q3 q4
     go_wp2_with fail
     refine hE4.mono ?_
     rintro x w5 hx
     obtain ⟨rfl,Nv5,M5,r5,S5,M6,e6,o6⟩:=H4.out.1.rd hx
     subst e6
     have k5:=H4.out.2.1.step S5 o6
     rw [List.append_assoc] at k5
     have hal:(acc.length+[(a5:Int)].length)*8≤140737488355328:=by have:=HI.out.1.al; simp; omega
     have hal2:acc.length+[(a5:Int)].length≤4611686018427387903:=by simp; omega
     have H5:=Hid.mk7 (And.intro r5 (And.intro k5 (And.intro hal hal2)))
     clear hE4 hx r5 k5 S5 o6 hal hal2 c1 f1
     go_wp2_with (at_builtin; refine wpList_append_k (by rfl) (.tmp 21) (.tmp 24) (by rfl) Tryz.intTypes (by rfl) (by rfl) (OwnK.turned H5.out.2.1.own (Turned.alloc (fun _=>False) _ _) (fun _ _ e=>e)) (SlI.one _ _ _) (ints_one _) H5.out.2.2.1 H5.out.2.2.2 ?_; intro V6 w6 ho6 T6 hv6)
     obtain ⟨k6,p6,TT⟩:=H5.out.2.1.more H5.out.1.ps.at_ HF.out.2.2.2.2 H5.out.1.size (Below.alloc0 w5 _) ho6 T6 hv6
     have r6:=H5.out.1.mine (fun q hq=>(H5.out.2.1.fv q hq).1) p6 TT
     have H6:=Hid.mk7 (And.intro r6 k6)
     have hp6:=p6.pos
     have HP:=Hid.mk7 hp6
     clear ho6 T6 hv6 k6 p6 TT r6 hp6
     go_wp2
     go_roundw
     case rel=>
      refine ⟨t5,acc++[(a5:Int)],f - 1,Nv5,M2++M6,⟨?_,?_,H4.out.2.2.1,H6.out.1,H6.out.2,?_⟩⟩
      ·have h1:s1.i+1 < t5.i:=H4.out.2.2.2.2; have:=HI.out.1.i; omega
      ·have h1:s1.i+1 < t5.i:=H4.out.2.2.2.2; have:=HI.out.1.fuel; omega
      ·have h1:s1.i+1 < t5.i:=H4.out.2.2.2.2; have:=HI.out.1.al; simp; omega
     case measure=>
      rw [HP.out,HI.out.2.2]
      have h1:s1.i+1 < t5.i:=H4.out.2.2.2.2
      have h2:=H4.out.2.2.2.1.il
      omega
theorem rd_row_export (hm:Fwd T m) (hr:Runs T 119 [] m i0) (b:ByteArray) (hi:i0≤s.i) (h:PS w g Tv T Nv N s) :
  Calls Tryz.prog 120 #[.pointer (some ⟨g,0,none⟩),.string b,.func (.func 119) #[.pointer (some ⟨g,0,none⟩)] #[]] w (RdL T w g Tv Nv N (row T b m s)):=by
 have hE:=hr s hi w g Tv Nv N h
 cases hms:m s with
 | error e=>
  rw [hms] at hE
  rw [show row T b m s=.error e by simp [row,PM.bind,hms]]
  clear hr h
  go_enter Tryz.func120,Tryz.ntmps120
  go_wp2_with fail
  refine hE.mono ?_
  rintro x w1 ⟨rfl,T1⟩
  exact ⟨rfl,rfl,T1⟩
 | ok at_=>
  obtain ⟨a,t⟩:=at_
  rw [hms] at hE
  obtain ⟨ht1,ha,hit,hct⟩:=hm.ok h.ok h.cnt hms
  have hT:0 < T.length:=by have:=ht1.il; omega
  rw [show row T b m s=rowL T b m (T.length+1) [(a:Int)] t by simp [row,PM.bind,hms]]
  have htl:=h.at_.tl
  have HF:=Hid.mk7 (And.intro hm (And.intro hr (And.intro hi (And.intro hit hT))))
  have HR:=Hid.mk7 (Rg.refl h)
  obtain ⟨res,hres⟩:∃ res,rowL T b m (T.length+1) [(a:Int)] t=res:=⟨_,rfl⟩
  rw [hres]
  have HQ:=Hid.mk7 hres
  clear hm hr h hi hit hms hres ht1 ha hct
  go_enter Tryz.func120,Tryz.ntmps120
  go_wp2_with fail
  refine hE.mono ?_
  rintro x w1 hx
  have hx':Rd T w g Tv Nv (N++[]) (.ok (a,t)) x w1:=by rw [List.append_nil]; exact hx
  obtain ⟨rfl,Nv1,M1,r1,S1,M3,e3,o3⟩:=HR.out.rd hx'
  have hK:Kd T w (w1.alloc (.cells #[.int .i64 (a:Int)] 3)) g Tv Nv1 (N++M1) (.slice (some ⟨w1.heap.size,0,none⟩) 1 1) [(a:Int)]:=by
   refine ⟨⟨by simp [ints],.inr ⟨w1.heap.size,0,1,rfl,Nat.le_refl _,by decide,by simp,fun j hj=>?_,fun j hj=>?_⟩⟩,fun k hk=>?_⟩
   ·have hj1:j < 1:=hj
    match j,hj1 with
    | 0,_=>simp [ints]
   ·have hj1:j < 1:=by omega
    match j,hj1 with
    | 0,_=>exact ⟨by simp,by rw [World.frozen?_alloc_new]⟩
   ·have hk:w1.heap.size=k:=hk
    subst hk
    have f:=r1.ps.at_.free HF.out.2.2.2.2 w1.heap.size (Nat.le_refl _)
    exact ⟨r1.size,⟨f.g,f.t,f.n,f.k⟩⟩
  have H1:=Hid.mk7 (And.intro (r1.below (Below.alloc0 w1 (.cells #[.int .i64 (a:Int)] 3))) hK)
  clear hE hx hx' r1 S1 e3 o3 hK
  go_wp2_with fail
  go_loopw [7] (fun V wr=>∃ s1 acc f Nv1 M1,RowI T b m w wr g Tv Nv N i0 res V s1 acc f Nv1 M1) (fun _ wr=>T.length - posOf wr g)
  case atStart=>
   refine ⟨t,[(a:Int)],T.length+1,Nv1,M1,⟨by have:=HF.out; omega,by omega,HQ.out,H1.out.1,H1.out.2,by have:=HF.out; simp; omega⟩⟩
  case round=>
   clear H1
   obtain ⟨s1,acc,f,Nv2,M2,hI⟩:=hrel
   obtain ⟨aV,cV,hV,_⟩:=OwnK.sl hI.kd.own |>.form
   subst hV
   have hs:=ps_isSign hI.rg.ps.at_ b
   have hf0:0 < f:=by have:=hI.fuel; omega
   cases hsg:isTk 5 b (tokAt T s1.i) with
   | false=>
    rw [hsg] at hs
    have hres:res=.ok (acc,s1):=by rw [← hI.eq]; exact rowL_stop hf0 hsg
    subst hres
    have HI:=Hid.mk7 hI
    clear hI hsg
    go_wp2_with fail
    refine hs.mono ?_
    rintro x w3 ⟨rfl,hb3⟩
    have r3:=HI.out.rg.below hb3
    have k3:=HI.out.kd.below hb3
    have H3:=Hid.mk7 (And.intro r3 k3)
    clear hs hb3 r3 k3
    go_wp2
    go_ret
    exact ⟨_,rfl,Nv2,M2,H3.out.1.off,H3.out.1.ps,H3.out.1.st,H3.out.2.own,H3.out.2.fv⟩
   | true=>
    rw [hsg] at hs
    have hlt:s1.i < T.length:=isTk_lt (by decide) hsg
    have hpos:=hI.rg.ps.at_.pos
    have HI:=Hid.mk7 (And.intro hI (And.intro hsg hpos))
    clear hI hsg hpos
    go_wp2_with fail
    refine hs.mono ?_
    rintro x w3 ⟨rfl,hb3⟩
    have r3:=HI.out.1.rg.below hb3
    have k3:=HI.out.1.kd.below hb3
    have c1:=r3.ps.at_.c1.1
    have f1:=r3.ps.at_.c1.2
    have r4:=r3.skip 1 hlt
    have k4:=k3.set 1 (.int .i64 ((s1.i+1:Nat):Int))
    have hE4:=HF.out.2.1 ⟨s1.i+1,s1.N⟩ (by have:=HI.out.1.i; simp; omega) _ g Tv Nv2 (N++M2) r4.ps
    have hc4:((s1.i+1:Nat):Int)=(s1.i:Int)+1:=by omega
    rw [hc4] at hE4 r4 k4
    have hr4:=r4.ps
    cases hm4:m ⟨s1.i+1,s1.N⟩ with
    | error e=>
     have hres:res=.error e:=by rw [← HI.out.1.eq]; exact rowL_bad hf0 HI.out.2.1 hm4
     subst hres
     rw [hm4] at hE4
     have H4:=Hid.mk7 r4
     clear hs hb3 r3 k3 r4 k4 hr4 hm4
     go_wp2_with fail
     refine hE4.mono ?_
     rintro x w5 ⟨rfl,T5⟩
     exact ⟨rfl,rfl,H4.out.bad T5⟩
    | ok bt=>
     obtain ⟨a5,t5⟩:=bt
     obtain ⟨q1,q2,q3,q4⟩:=HF.out.1.ok hr4.ok hr4.cnt hm4
     have hres:rowL T b m (f - 1) (acc++[(a5:Int)]) t5=res:=by rw [← HI.out.1.eq]; exact (rowL_next hf0 HI.out.2.1 hm4).symm
     rw [hm4] at hE4
     have H4:=Hid.mk7 (And.intro r4 (And.intro k4 (And.intro hres (And.intro q1 q3))))
     clear hs hb3 r3 k3 r4 k4 hr4 hm4 hres q1 q2 q3 q4
     go_wp2_with fail
     refine hE4.mono ?_
     rintro x w5 hx
     obtain ⟨rfl,Nv5,M5,r5,S5,M6,e6,o6⟩:=H4.out.1.rd hx
     subst e6
     have k5:=H4.out.2.1.step S5 o6
     rw [List.append_assoc] at k5
     have hal:(acc.length+[(a5:Int)].length)*8≤140737488355328:=by have:=HI.out.1.al; simp; omega
     have hal2:acc.length+[(a5:Int)].length≤4611686018427387903:=by simp; omega
     have H5:=Hid.mk7 (And.intro r5 (And.intro k5 (And.intro hal hal2)))
     clear hE4 hx r5 k5 S5 o6 hal hal2 c1 f1
     go_wp2_with (at_builtin; refine wpList_append_k (by rfl) (.tmp 21) (.tmp 24) (by rfl) Tryz.intTypes (by rfl) (by rfl) (OwnK.turned H5.out.2.1.own (Turned.alloc (fun _=>False) _ _) (fun _ _ e=>e)) (SlI.one _ _ _) (ints_one _) H5.out.2.2.1 H5.out.2.2.2 ?_; intro V6 w6 ho6 T6 hv6)
     obtain ⟨k6,p6,TT⟩:=H5.out.2.1.more H5.out.1.ps.at_ HF.out.2.2.2.2 H5.out.1.size (Below.alloc0 w5 _) ho6 T6 hv6
     have r6:=H5.out.1.mine (fun q hq=>(H5.out.2.1.fv q hq).1) p6 TT
     have H6:=Hid.mk7 (And.intro r6 k6)
     have hp6:=p6.pos
     have HP:=Hid.mk7 hp6
     clear ho6 T6 hv6 k6 p6 TT r6 hp6
     go_wp2
     go_roundw
     case rel=>
      refine ⟨t5,acc++[(a5:Int)],f - 1,Nv5,M2++M6,⟨?_,?_,H4.out.2.2.1,H6.out.1,H6.out.2,?_⟩⟩
      ·have h1:s1.i+1 < t5.i:=H4.out.2.2.2.2; have:=HI.out.1.i; omega
      ·have h1:s1.i+1 < t5.i:=H4.out.2.2.2.2; have:=HI.out.1.fuel; omega
      ·have h1:s1.i+1 < t5.i:=H4.out.2.2.2.2; have:=HI.out.1.al; simp; omega
     case measure=>
      rw [HP.out,HI.out.2.2]
      have h1:s1.i+1 < t5.i:=H4.out.2.2.2.2
      have h2:=H4.out.2.2.2.1.il
      omega
end Go.Proofs.YtlciaafincgdeaaGreatDoor
