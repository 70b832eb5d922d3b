/-
  Layer 11 (parse): classes; a clause of a catch.
  Layer 11 (parse): atoms and calls.
-/
import Derived.Test.YtlciaafincgdeaaGreatDoorZan
namespace Go.Proofs.YtlciaafincgdeaaGreatDoor
open Go.RowKit
set_option maxHeartbeats 6400000
set_option maxRecDepth 100000
def isCl (x:ByteArray):Bool:=decide (x=⟨#[116,104,114,111,119]⟩) || decide (x=⟨#[101,114,114,111,114]⟩) || decide (x=⟨#[101,120,105,116]⟩)
theorem ps_isClass_0 (w:World):Calls Tryz.prog 208 #[.string ⟨#[116,104,114,111,119]⟩] w fun e w'=>e=.returned (.bool true)∧w'=w:=by
 go_enter Tryz.func208,Tryz.ntmps208
 go_wp2
 all_goals go_ret
 all_goals exact ⟨rfl,rfl⟩
theorem ps_isClass_1 (w:World):Calls Tryz.prog 208 #[.string ⟨#[101,114,114,111,114]⟩] w fun e w'=>e=.returned (.bool true)∧w'=w:=by
 go_enter Tryz.func208,Tryz.ntmps208
 go_wp2
 all_goals go_ret
 all_goals exact ⟨rfl,rfl⟩
theorem ps_isClass_2 (w:World):Calls Tryz.prog 208 #[.string ⟨#[101,120,105,116]⟩] w fun e w'=>e=.returned (.bool true)∧w'=w:=by
 go_enter Tryz.func208,Tryz.ntmps208
 go_wp2
 all_goals go_ret
 all_goals exact ⟨rfl,rfl⟩
theorem ps_isClass_no (x:ByteArray) (w:World) (h0:(x.toList == [116,104,114,111,119])=false) (h1:(x.toList == [101,114,114,111,114])=false) (h2:(x.toList == [101,120,105,116])=false):Calls Tryz.prog 208 #[.string x] w fun e w'=>e=.returned (.bool false)∧w'=w:=by
 go_enter Tryz.func208,Tryz.ntmps208
 go_wp2
 all_goals go_ret
 all_goals exact ⟨rfl,rfl⟩
theorem ps_isClass (x:ByteArray) (w:World):Calls Tryz.prog 208 #[.string x] w fun e w'=>e=.returned (.bool (isCl x))∧w'=w:=by
 by_cases h0:x=⟨#[116,104,114,111,119]⟩
 ·subst h0
  exact ps_isClass_0 w
 ·by_cases h1:x=⟨#[101,114,114,111,114]⟩
  ·subst h1
   exact ps_isClass_1 w
  ·by_cases h2:x=⟨#[101,120,105,116]⟩
   ·subst h2
    exact ps_isClass_2 w
   ·have e:isCl x=false:=by simp [isCl,h0,h1,h2]
    rw [e]
    exact ps_isClass_no x w (list_ne h0) (list_ne h1) (list_ne h2)
theorem atClass_eq (T:List Tk) (i:Nat):atClass T i=(((decide ((tokAt T i).kind=1) && isCl (tokAt T i).text) || isTk 2 ⟨#[95]⟩ (tokAt T i)) && isTk 5 ⟨#[58]⟩ (tokAt T (i+1))):=rfl
theorem ps_atClass_a {w:World} {g:Nat} {Tv:Value} {T:List Tk} {i:Nat} {Nv:Value} {N:List Nd} (h:PAt w g Tv T i Nv N) (hk:(tokAt T i).kind=1) (hcl:isCl (tokAt T i).text=true):Calls Tryz.prog 201 #[.pointer (some ⟨g,0,none⟩)] w fun x w'=>x=.returned (.bool (isTk 5 ⟨#[58]⟩ (tokAt T (i+1))))∧Below w.heap.size w w':=by
 have hp:=ps_peek h
 have ha:=fun W (hW:Below w.heap.size w W)=>ps_ahead (h.below hW) 1 (by omega)
 have hi:=fun W=>ps_is (tokAt T i) 2 ⟨#[95]⟩ W
 have hj:=fun W=>ps_is (tokAt T (i+1)) 5 ⟨#[58]⟩ W
 have hc:=fun W=>ps_isClass (tokAt T i).text W
 have hfk:=Tryz.tokKind
 have hft:=Tryz.tokText
 simp only [hcl] at hi hc
 unfold isTk
 generalize (decide ((tokAt T (i+1)).kind=5) && decide ((tokAt T (i+1)).text=⟨#[58]⟩))=bb at hj ⊢
 generalize tokAt T i=t at hp hi hc hk ⊢
 generalize tokAt T (i+1)=u at ha hj ⊢
 obtain ⟨tk,tt,tn,ta⟩:=t
 obtain ⟨uk,ut,un,ua⟩:=u
 simp only [Tk.val] at hp ha hi hj hc hk
 subst hk
 clear h
 go_enter Tryz.func201,Tryz.ntmps201
 go_wp2_with fail
 refine hp.mono ?_
 rintro x w1 ⟨rfl,hb1⟩
 have HB1:=Hid.mk7 (hb1.trans ((Below.alloc0 w1 (.cells #[.int .i64 1,.string tt,.int .i64 tn,.int .i64 ta] 40)).mono hb1.size))
 clear hb1 hp
 go_wp2_with fail
 refine (hc _).mono ?_
 rintro x w2 ⟨rfl,rfl⟩
 go_wp2_with fail
 refine (ha _ HB1.out).mono ?_
 rintro x w4 ⟨rfl,hb4⟩
 go_wp2_with fail
 refine (hj _).mono ?_
 rintro x w5 ⟨rfl,hb5⟩
 have HB:=Hid.mk7 (HB1.out.trans ((hb4.trans (hb5.mono hb4.size)).mono HB1.out.size))
 clear hb4 hb5 ha hj
 go_wp2
 go_ret
 exact ⟨rfl,HB.out⟩
theorem ps_atClass_b {w:World} {g:Nat} {Tv:Value} {T:List Tk} {i:Nat} {Nv:Value} {N:List Nd} (h:PAt w g Tv T i Nv N) (hk:(tokAt T i).kind=1) (hcl:isCl (tokAt T i).text=false):Calls Tryz.prog 201 #[.pointer (some ⟨g,0,none⟩)] w fun x w'=>x=.returned (.bool false)∧Below w.heap.size w w':=by
 have hp:=ps_peek h
 have ha:=fun W (hW:Below w.heap.size w W)=>ps_ahead (h.below hW) 1 (by omega)
 have hi:=fun W=>ps_is (tokAt T i) 2 ⟨#[95]⟩ W
 have hj:=fun W=>ps_is (tokAt T (i+1)) 5 ⟨#[58]⟩ W
 have hc:=fun W=>ps_isClass (tokAt T i).text W
 have hfk:=Tryz.tokKind
 have hft:=Tryz.tokText
 simp only [hcl] at hi hc
 generalize (decide ((tokAt T (i+1)).kind=5) && decide ((tokAt T (i+1)).text=⟨#[58]⟩))=bb at hj ⊢
 generalize tokAt T i=t at hp hi hc hk ⊢
 generalize tokAt T (i+1)=u at ha hj ⊢
 obtain ⟨tk,tt,tn,ta⟩:=t
 obtain ⟨uk,ut,un,ua⟩:=u
 simp only [Tk.val] at hp ha hi hj hc hk
 subst hk
 clear h
 go_enter Tryz.func201,Tryz.ntmps201
 go_wp2_with fail
 refine hp.mono ?_
 rintro x w1 ⟨rfl,hb1⟩
 have HB1:=Hid.mk7 (hb1.trans ((Below.alloc0 w1 (.cells #[.int .i64 1,.string tt,.int .i64 tn,.int .i64 ta] 40)).mono hb1.size))
 clear hb1 hp
 go_wp2_with fail
 refine (hc _).mono ?_
 rintro x w2 ⟨rfl,rfl⟩
 go_wp2_with fail
 refine (hi _).mono ?_
 rintro x w3 ⟨rfl,hb3⟩
 have HB3:=Hid.mk7 (HB1.out.trans (hb3.mono HB1.out.size))
 clear hb3
 go_wp2
 go_ret
 exact ⟨rfl,HB3.out⟩
theorem ps_atClass_c {w:World} {g:Nat} {Tv:Value} {T:List Tk} {i:Nat} {Nv:Value} {N:List Nd} (h:PAt w g Tv T i Nv N) (hk:¬ (tokAt T i).kind=1) (hu:(decide ((tokAt T i).kind=2) && decide ((tokAt T i).text=⟨#[95]⟩))=true):Calls Tryz.prog 201 #[.pointer (some ⟨g,0,none⟩)] w fun x w'=>x=.returned (.bool (isTk 5 ⟨#[58]⟩ (tokAt T (i+1))))∧Below w.heap.size w w':=by
 have hp:=ps_peek h
 have ha:=fun W (hW:Below w.heap.size w W)=>ps_ahead (h.below hW) 1 (by omega)
 have hi:=fun W=>ps_is (tokAt T i) 2 ⟨#[95]⟩ W
 have hj:=fun W=>ps_is (tokAt T (i+1)) 5 ⟨#[58]⟩ W
 have hc:=fun W=>ps_isClass (tokAt T i).text W
 have hfk:=Tryz.tokKind
 have hft:=Tryz.tokText
 simp only [hu] at hi hc
 unfold isTk
 generalize (decide ((tokAt T (i+1)).kind=5) && decide ((tokAt T (i+1)).text=⟨#[58]⟩))=bb at hj ⊢
 generalize tokAt T i=t at hp hi hc hk ⊢
 generalize tokAt T (i+1)=u at ha hj ⊢
 obtain ⟨tk,tt,tn,ta⟩:=t
 obtain ⟨uk,ut,un,ua⟩:=u
 simp only [Tk.val] at hp ha hi hj hc hk
 have hkb:(tk == 1)=false:=by simpa using hk
 clear h
 go_enter Tryz.func201,Tryz.ntmps201
 go_wp2_with fail
 refine hp.mono ?_
 rintro x w1 ⟨rfl,hb1⟩
 have HB1:=Hid.mk7 (hb1.trans ((Below.alloc0 w1 (.cells #[.int .i64 tk,.string tt,.int .i64 tn,.int .i64 ta] 40)).mono hb1.size))
 clear hb1 hp
 go_wp2_with fail
 refine (hi _).mono ?_
 rintro x w3 ⟨rfl,hb3⟩
 have HB3:=Hid.mk7 (HB1.out.trans (hb3.mono HB1.out.size))
 clear hb3
 go_wp2_with fail
 refine (ha _ HB3.out).mono ?_
 rintro x w4 ⟨rfl,hb4⟩
 go_wp2_with fail
 refine (hj _).mono ?_
 rintro x w5 ⟨rfl,hb5⟩
 have HB:=Hid.mk7 (HB3.out.trans ((hb4.trans (hb5.mono hb4.size)).mono HB3.out.size))
 clear hb4 hb5 ha hj
 go_wp2
 go_ret
 exact ⟨rfl,HB.out⟩
theorem ps_atClass_d {w:World} {g:Nat} {Tv:Value} {T:List Tk} {i:Nat} {Nv:Value} {N:List Nd} (h:PAt w g Tv T i Nv N) (hk:¬ (tokAt T i).kind=1) (hu:(decide ((tokAt T i).kind=2) && decide ((tokAt T i).text=⟨#[95]⟩))=false):Calls Tryz.prog 201 #[.pointer (some ⟨g,0,none⟩)] w fun x w'=>x=.returned (.bool false)∧Below w.heap.size w w':=by
 have hp:=ps_peek h
 have ha:=fun W (hW:Below w.heap.size w W)=>ps_ahead (h.below hW) 1 (by omega)
 have hi:=fun W=>ps_is (tokAt T i) 2 ⟨#[95]⟩ W
 have hj:=fun W=>ps_is (tokAt T (i+1)) 5 ⟨#[58]⟩ W
 have hc:=fun W=>ps_isClass (tokAt T i).text W
 have hfk:=Tryz.tokKind
 have hft:=Tryz.tokText
 simp only [hu] at hi hc
 generalize (decide ((tokAt T (i+1)).kind=5) && decide ((tokAt T (i+1)).text=⟨#[58]⟩))=bb at hj ⊢
 generalize tokAt T i=t at hp hi hc hk ⊢
 generalize tokAt T (i+1)=u at ha hj ⊢
 obtain ⟨tk,tt,tn,ta⟩:=t
 obtain ⟨uk,ut,un,ua⟩:=u
 simp only [Tk.val] at hp ha hi hj hc hk
 have hkb:(tk == 1)=false:=by simpa using hk
 clear h
 go_enter Tryz.func201,Tryz.ntmps201
 go_wp2_with fail
 refine hp.mono ?_
 rintro x w1 ⟨rfl,hb1⟩
 have HB1:=Hid.mk7 (hb1.trans ((Below.alloc0 w1 (.cells #[.int .i64 tk,.string tt,.int .i64 tn,.int .i64 ta] 40)).mono hb1.size))
 clear hb1 hp
 go_wp2_with fail
 refine (hi _).mono ?_
 rintro x w3 ⟨rfl,hb3⟩
 have HB3:=Hid.mk7 (HB1.out.trans (hb3.mono HB1.out.size))
 clear hb3
 go_wp2
 go_ret
 exact ⟨rfl,HB3.out⟩
theorem ps_atClass {w:World} {g:Nat} {Tv:Value} {T:List Tk} {i:Nat} {Nv:Value} {N:List Nd} (h:PAt w g Tv T i Nv N):Calls Tryz.prog 201 #[.pointer (some ⟨g,0,none⟩)] w fun x w'=>x=.returned (.bool (atClass T i))∧Below w.heap.size w w':=by
 rw [atClass_eq]
 by_cases hk:(tokAt T i).kind=1
 ·cases hcl:isCl (tokAt T i).text with
  | true=>simpa [hk,isTk] using ps_atClass_a h hk hcl
  | false=>simpa [hk,isTk] using ps_atClass_b h hk hcl
 ·cases hu:(decide ((tokAt T i).kind=2) && decide ((tokAt T i).text=⟨#[95]⟩)) with
  | true=>simpa [hk,isTk,hu] using ps_atClass_c h hk hu
  | false=>simpa [hk,isTk,hu] using ps_atClass_d h hk hu
theorem atClass_lt {T:List Tk} {i:Nat} (h:atClass T i=true):i+2≤T.length:=by
 rw [atClass_eq,Bool.and_eq_true] at h
 exact isTk_lt (by decide) h.2
section
variable {T:List Tk} {w wr:World} {g:Nat} {Tv Nv Nv1:Value} {N M1:List Nd} {s:Ps} {q:Nat} {nk:Int} {nt nm:ByteArray} {nn:Int} {V:Value} {l:List Int} {na:Int}
theorem rg_atClass (r:Rg T w wr g Tv Nv N s Nv1 M1):Calls Tryz.prog 201 #[.pointer (some ⟨g,0,none⟩)] wr (fun e w2=>e=.returned (.bool (atClass T s.i))∧Rg T w w2 g Tv Nv N s Nv1 M1∧Below wr.heap.size wr w2):=(ps_atClass r.ps.at_).mono fun _ _ h2=>⟨h2.1,r.below h2.2,h2.2⟩
end
theorem rd_cclause {T:List Tk} {rec:Ph→PM Nat} {s:Ps} (hT:0 < T.length) (E:Env T rec (s.i+1)) (hw:Runs T 145 [] (whole rec) s.i) {w:World} {g:Nat} {Tv Nv:Value} {N:List Nd} (h:PS w g Tv T Nv N s) :
  Calls Tryz.prog 193 #[.pointer (some ⟨g,0,none⟩)] w (Rd T w g Tv Nv N (phBody T rec .cclause s)):=by
 obtain ⟨res,hres⟩:∃ res,phBody T rec .cclause s=res:=⟨_,rfl⟩
 rw [hres]
 have HQ:=Hid.mk7 hres
 have htl:=h.at_.tl
 have c1:=rg_peek (Rg.refl h)
 have hfa:=Tryz.tokPlace
 have hft:=Tryz.tokText
 have HP:=Hid.mk7 (And.intro E (And.intro hw h))
 obtain ⟨tk,htk⟩:∃ tk,tokAt T s.i=tk:=⟨_,rfl⟩
 rw [htk] at c1
 have HT:=Hid.mk7 htk
 clear hres hw E h htk
 obtain ⟨tk,tt,tn,ta⟩:=tk
 simp only [Tk.val] at c1
 go_enter Tryz.func193,Tryz.ntmps193
 go_wp2_with fail
 refine c1.mono ?_
 rintro x w1 ⟨rfl,r1,_⟩
 have mk2:=MkI.of_kd r1 (Kd.nil _ _ _ _ _ _ _) hT 20 ⟨#[116,104,114,111,119]⟩ ⟨#[]⟩ 0 ta
 have c2:=rg_atClass mk2.rg
 have H2:=Hid.mk7 mk2
 clear c1 r1 mk2
 cases hc:atClass T s.i with
 | false=>
  rw [hc] at c2
  go_wp2_with fail
  refine c2.mono ?_
  rintro x w3 ⟨rfl,r3,hb3⟩
  have HK:=Hid.mk7 (H2.out.to r3 (Stp.ofB hb3))
  have HC:=Hid.mk7 hc
  clear c2 r3 hb3 H2 hc
  have hE:=fun WW (hW:Below w3.heap.size w3 WW)=>HP.out.2.1 s (by show s.i≤(s:Ps).i; simp) WW g Tv _ _ (HK.out.rg.below hW).ps
  have hgl:=HK.out.rg.ps.at_.lt
  obtain ⟨n0,n1,n2,n3,n4,n5,_,_,_,_,_⟩:=HK.out.bx
  have hps:=HK.out.rg.ps
  cases hw:whole rec s with
  | error e=>
   have hre:res=.error e:=by rw [← HQ.out]; simp [phBody,PM.bind,pTok,pIf,PM.ret,HC.out,hw]
   subst hre
   simp only [hw] at hE
   clear hw hps
   go_wp2_with fail
   skip
   go_region_with (go_at_call 145; refine (hE _ (Below.refl _ _).drew).mono ?_; rintro x w5 ⟨rfl,T5⟩; refine idle_of w5 ⟨rfl,rfl,(HK.out.rg.below (Below.refl _ _).drew).bad T5⟩ ?_)
   all_goals trivial
  | ok at_=>
   obtain ⟨a,t⟩:=at_
   obtain ⟨q1,q2,q3,q4⟩:=(HP.out.1.fwd (.expr 1) (by simp [okPh])).ok hps.ok hps.cnt hw
   have q3':s.i < t.i:=Nat.lt_of_le_of_lt (by simp) q3
   have hrs:res=rest T rec ⟨20,⟨#[116,104,114,111,119]⟩,⟨#[]⟩,0,[],ta⟩ a t:=by rw [← HQ.out]; simp [phBody,PM.bind,pTok,pIf,PM.ret,HC.out,hw,HT.out]
   have HF:=Hid.mk7 (And.intro (fun n=>HP.out.1.rest (n:=n) q1 q2 q4) (And.intro hrs q3'))
   simp only [hw] at hE
   clear hw hps q1 q2 q3 q3' q4 hrs
   have hrest:∀ w5 Nv5 M5,Rg T w w5 g Tv Nv N t Nv5 M5→Calls Tryz.prog 134 #[.pointer (some ⟨g,0,none⟩),.agg #[.int .i64 20,.string ⟨#[116,104,114,111,119]⟩,.string ⟨#[]⟩,.int .i64 0,.slice none 0 0,.int .i64 ta],.int .i64 (a:Int)] w5 (Rd T w5 g Tv Nv5 (N++M5) res):=fun w5 Nv5 M5 r5=>by
    rw [HF.out.2.1]
    exact rd_rest 20 ⟨#[116,104,114,111,119]⟩ ⟨#[]⟩ 0 ta a ((HP.out.1.run .guard trivial).up (by have:=HF.out.2.2; omega)) (HP.out.1.fwd .guard trivial) ((HP.out.1.run .body trivial).up (by have:=HF.out.2.2; omega)) hT (HF.out.1 _) r5.ps
   cases res with
   | error e=>
    go_wp2_with fail
    skip
    go_region_with (first
     | (go_at_call 134; refine (hrest _ _ _ m5.rg).mono ?_; rintro x w6 ⟨rfl,T6⟩; refine idle_of w6 ⟨rfl,rfl,m5.rg.bad T6⟩ ?_)
     | (go_at_call 145; refine (hE _ (Below.refl _ _).drew).mono ?_; intro x w5 hx; obtain ⟨rfl,Nv5,M5,m5⟩:=HK.out.rd (Below.refl _ _).drew hx; clear hx; obtain ⟨p0,p1,p2,p3,p4,p5,_,_,_,_,_⟩:=m5.bx))
    all_goals trivial
   | ok bt=>
    obtain ⟨bb,u⟩:=bt
    go_wp2_with fail
    skip
    go_region_with (first
     | (go_at_call 134; refine (hrest _ _ _ m5.rg).mono ?_; intro x w6 hx; obtain ⟨rfl,Nv6,M6,r6,_⟩:=m5.rg.rd hx; have H6:=Hid.mk7 r6; clear hx r6)
     | (go_at_call 145; refine (hE _ (Below.refl _ _).drew).mono ?_; intro x w5 hx; obtain ⟨rfl,Nv5,M5,m5⟩:=HK.out.rd (Below.refl _ _).drew hx; clear hx; obtain ⟨p0,p1,p2,p3,p4,p5,_,_,_,_,_⟩:=m5.bx))
    all_goals
     go_wp2
     go_ret
     exact H6.out.of
 | true=>
  rw [hc] at c2
  have hlt:=atClass_lt hc
  go_wp2_with fail
  refine c2.mono ?_
  rintro x w3 ⟨rfl,r3,hb3⟩
  have mk3:=H2.out.to r3 (Stp.ofB hb3)
  have c3:=rg_peek r3
  rw [HT.out] at c3
  simp only [Tk.val] at c3
  have H3:=Hid.mk7 mk3
  have HC:=Hid.mk7 hc
  clear c2 r3 hb3 H2 mk3 hc
  go_wp2_with fail
  refine c3.mono ?_
  rintro x w4 ⟨rfl,r4,hb4⟩
  have mk4:=H3.out.to r4 (Stp.ofB hb4)
  have m1:=mk4.bx.n1
  have f1:=mk4.bx.fz 1
  have mk5:=mk4.text tt
  have k1:=mk5.rg.ps.at_.c1.1
  have g1:=mk5.rg.ps.at_.c1.2
  have r6:=mk5.rg.skip 2 hlt
  have mk6:=mk5.to r6 (Stp.ofG (Turned.set1 _ g 1 _))
  rw [show ((s.i+2:Nat):Int)=(s.i:Int)+2 by omega] at mk6
  have HK:=Hid.mk7 mk6
  clear c3 r4 hb4 mk4 mk5 r6 mk6 H3
  go_wp2_with fail
  generalize hW:(w4.setCell _ _).setCell _ _=w7 at HK ⊢
  clear hW m1 f1 k1 g1
  have hE:=fun WW (hW:Below w7.heap.size w7 WW)=>HP.out.2.1 ⟨s.i+2,s.N⟩ (by show s.i≤(⟨s.i+2,s.N⟩:Ps).i; simp) WW g Tv _ _ (HK.out.rg.below hW).ps
  have hgl:=HK.out.rg.ps.at_.lt
  obtain ⟨n0,n1,n2,n3,n4,n5,_,_,_,_,_⟩:=HK.out.bx
  have hps:=HK.out.rg.ps
  cases hw:whole rec ⟨s.i+2,s.N⟩ with
  | error e=>
   have hre:res=.error e:=by rw [← HQ.out]; simp [phBody,PM.bind,pTok,pIf,PM.ret,pSkip,HC.out,hw]
   subst hre
   simp only [hw] at hE
   clear hw hps
   go_wp2_with fail
   skip
   go_region_with (go_at_call 145; refine (hE _ (Below.refl _ _).drew).mono ?_; rintro x w5 ⟨rfl,T5⟩; refine idle_of w5 ⟨rfl,rfl,(HK.out.rg.below (Below.refl _ _).drew).bad T5⟩ ?_)
   all_goals trivial
  | ok at_=>
   obtain ⟨a,t⟩:=at_
   obtain ⟨q1,q2,q3,q4⟩:=(HP.out.1.fwd (.expr 1) (by simp [okPh])).ok hps.ok hps.cnt hw
   have q3':s.i < t.i:=Nat.lt_of_le_of_lt (by simp) q3
   have hrs:res=rest T rec ⟨20,tt,⟨#[]⟩,0,[],ta⟩ a t:=by rw [← HQ.out]; simp [phBody,PM.bind,pTok,pIf,PM.ret,pSkip,HC.out,hw,HT.out]
   have HF:=Hid.mk7 (And.intro (fun n=>HP.out.1.rest (n:=n) q1 q2 q4) (And.intro hrs q3'))
   simp only [hw] at hE
   clear hw hps q1 q2 q3 q3' q4 hrs
   have hrest:∀ w5 Nv5 M5,Rg T w w5 g Tv Nv N t Nv5 M5→Calls Tryz.prog 134 #[.pointer (some ⟨g,0,none⟩),.agg #[.int .i64 20,.string tt,.string ⟨#[]⟩,.int .i64 0,.slice none 0 0,.int .i64 ta],.int .i64 (a:Int)] w5 (Rd T w5 g Tv Nv5 (N++M5) res):=fun w5 Nv5 M5 r5=>by
    rw [HF.out.2.1]
    exact rd_rest 20 tt ⟨#[]⟩ 0 ta a ((HP.out.1.run .guard trivial).up (by have:=HF.out.2.2; omega)) (HP.out.1.fwd .guard trivial) ((HP.out.1.run .body trivial).up (by have:=HF.out.2.2; omega)) hT (HF.out.1 _) r5.ps
   cases res with
   | error e=>
    go_wp2_with fail
    skip
    go_region_with (first
     | (go_at_call 134; refine (hrest _ _ _ m5.rg).mono ?_; rintro x w6 ⟨rfl,T6⟩; refine idle_of w6 ⟨rfl,rfl,m5.rg.bad T6⟩ ?_)
     | (go_at_call 145; refine (hE _ (Below.refl _ _).drew).mono ?_; intro x w5 hx; obtain ⟨rfl,Nv5,M5,m5⟩:=HK.out.rd (Below.refl _ _).drew hx; clear hx; obtain ⟨p0,p1,p2,p3,p4,p5,_,_,_,_,_⟩:=m5.bx))
    all_goals trivial
   | ok bt=>
    obtain ⟨bb,u⟩:=bt
    go_wp2_with fail
    skip
    go_region_with (first
     | (go_at_call 134; refine (hrest _ _ _ m5.rg).mono ?_; intro x w6 hx; obtain ⟨rfl,Nv6,M6,r6,_⟩:=m5.rg.rd hx; have H6:=Hid.mk7 r6; clear hx r6)
     | (go_at_call 145; refine (hE _ (Below.refl _ _).drew).mono ?_; intro x w5 hx; obtain ⟨rfl,Nv5,M5,m5⟩:=HK.out.rd (Below.refl _ _).drew hx; clear hx; obtain ⟨p0,p1,p2,p3,p4,p5,_,_,_,_,_⟩:=m5.bx))
    all_goals
     go_wp2
     go_ret
     exact H6.out.of
theorem tokIn (w:World) (tk:Int) (tt:ByteArray) (tn ta:Int):(w.alloc (.cells #[.int .i64 tk,.string tt,.int .i64 tn,.int .i64 ta] 40)).cell? ⟨w.heap.size,1,none⟩=some (.string tt):=by simp
theorem rd_named {T:List Tk} {rec:Ph→PM Nat} {s:Ps} (hlt:s.i < T.length) (E:Env T rec (s.i+1)) (hfin:∀ a t,named T rec (tokAt T s.i) s=.ok (a,t)→S2 T t t∧Cnt T t) {w:World} {g:Nat} {Tv Nv:Value} {N:List Nd} (h:PS w g Tv T Nv N s) :
  Calls Tryz.prog 184 #[.pointer (some ⟨g,0,none⟩),(tokAt T s.i).val] w (Rd T w g Tv Nv N (named T rec (tokAt T s.i) s)):=by
 obtain ⟨res,hres⟩:∃ res,named T rec (tokAt T s.i) s=res:=⟨_,rfl⟩
 rw [hres]
 have HQ:=Hid.mk7 hres
 have htl:=h.at_.tl
 have hft:=Tryz.tokText
 have hT:0 < T.length:=by omega
 have HP:=Hid.mk7 (And.intro E (And.intro hfin h))
 have c1:=h.at_.c1.1
 have f1:=h.at_.c1.2
 have hgl:=h.at_.lt
 have r1:=(Rg.refl h).skip 1 hlt
 rw [show ((s.i+1:Nat):Int)=(s.i:Int)+1 by omega] at r1
 clear hres hfin E h
 generalize tokAt T s.i=t at HQ HP ⊢
 obtain ⟨tk,tt,tn,ta⟩:=t
 simp only [Tk.val]
 have mk3:=MkI.of_kd (r1.below (Below.alloc0 _ (.cells #[.int .i64 tk,.string tt,.int .i64 tn,.int .i64 ta] 40))) (Kd.nil _ _ _ _ _ _ _) hT 2 tt ⟨#[]⟩ 0 ta
 simp only [World.size_alloc,World.size_setCell] at mk3
 have HK:=Hid.mk7 mk3
 clear r1 mk3
 by_cases he:tt=⟨#[]⟩
 ·subst he
  have c5:=rg_isSign HK.out.rg ⟨#[40]⟩
  cases h2:sgn T ⟨#[40]⟩ (s.i+1) with
  | false=>
   have hre:named T rec ⟨tk,⟨#[]⟩,tn,ta⟩ s=.ok (s.N.length,⟨s.i+1,s.N++[⟨2,⟨#[]⟩,⟨#[]⟩,0,[],ta⟩]⟩):=by simp [named,PM.bind,pIf,pSkip,PM.ret,pAdd,h2]
   obtain ⟨q1,q2⟩:=HP.out.2.1 _ _ hre
   have hre2:res=.ok (s.N.length,⟨s.i+1,s.N++[⟨2,⟨#[]⟩,⟨#[]⟩,0,[],ta⟩]⟩):=HQ.out.symm.trans hre
   subst hre2
   have HF:=Hid.mk7 (And.intro q1 q2)
   clear hre q1 q2
   rw [show sgn T ⟨#[40]⟩ (⟨s.i+1,s.N⟩:Ps).i=false from h2] at c5
   clear h2
   go_enter Tryz.func184,Tryz.ntmps184
   go_wp2_with fail
   refine c5.mono ?_
   rintro x w5 ⟨rfl,r5,hb5⟩
   have mk5:=HK.out.to r5 (Stp.ofB hb5)
   have HL:=Hid.mk7 mk5
   obtain ⟨n0,n1,n2',n3,n4,n5,_,_,_,_,_⟩:=mk5.bx
   clear c5 r5 hb5 mk5 HK
   have c9:=rg_add HL.out.rg hT ⟨2,⟨#[]⟩,⟨#[]⟩,0,.slice none 0 0,[],ta⟩ HL.out.kd HF.out.1 HF.out.2
   simp only [Nd.val] at c9
   go_wp2_with fail
   refine c9.mono ?_
   rintro x w9 ⟨rfl,Nv9,r9,_⟩
   have H9:=Hid.mk7 r9
   clear c9 r9
   go_wp2
   go_ret
   exact H9.out.of
  | true=>
   rw [show sgn T ⟨#[40]⟩ (⟨s.i+1,s.N⟩:Ps).i=true from h2] at c5
   have HS:=Hid.mk7 h2
   clear h2
   go_enter Tryz.func184,Tryz.ntmps184
   go_wp2_with fail
   refine c5.mono ?_
   rintro x w5 ⟨rfl,r5,hb5⟩
   have HL:=Hid.mk7 (HK.out.to r5 (Stp.ofB hb5))
   clear c5 r5 hb5 HK
   have c6:=rd_arguments (HP.out.1.fwd (.expr 1) (by simp [okPh])) HP.out.1.whole (s:=⟨s.i+1,s.N⟩) (by show s.i+1≤_; simp) HL.out.rg.ps
   cases ha:arguments T rec ⟨s.i+1,s.N⟩ with
   | error e=>
    have hre:res=.error e:=by rw [← HQ.out]; simp [named,PM.bind,pIf,pSkip,PM.ret,HS.out,ha]
    subst hre
    rw [ha] at c6
    clear ha
    go_wp2_with fail
    refine c6.mono ?_
    rintro x w6 ⟨rfl,T6⟩
    exact ⟨rfl,rfl,HL.out.rg.bad T6⟩
   | ok kt=>
    obtain ⟨ks,t⟩:=kt
    have hre:named T rec ⟨tk,⟨#[]⟩,tn,ta⟩ s=.ok (t.N.length,⟨t.i,t.N++[⟨13,⟨#[]⟩,⟨#[]⟩,0,ks,ta⟩]⟩):=by simp [named,PM.bind,pIf,pSkip,PM.ret,pAdd,HS.out,ha]
    obtain ⟨q1,q2⟩:=HP.out.2.1 _ _ hre
    have hre2:res=.ok (t.N.length,⟨t.i,t.N++[⟨13,⟨#[]⟩,⟨#[]⟩,0,ks,ta⟩]⟩):=HQ.out.symm.trans hre
    subst hre2
    have HF:=Hid.mk7 (And.intro q1 q2)
    clear hre q1 q2
    rw [ha] at c6
    clear ha
    go_wp2_with fail
    refine c6.mono ?_
    intro x w6 hx
    obtain ⟨V6,rfl,⟨a6,p6,hV6⟩,⟨Nv6,M6,mk6,kd6⟩,nq⟩:=HL.out.stepL (Below.refl _ _) hx
    subst hV6
    have HM:=Hid.mk7 ((mk6.kind 13).kids (kd6.setQ nq 0 _) nq)
    obtain ⟨n0,n1,n2,n3,n4,n5,fz,_,_,_,_⟩:=mk6.bx
    have f0:=fz 0
    have f4:=fz 4
    have lq:=mk6.bx.lt
    clear c6 hx mk6 kd6 nq HL fz
    have c9:=rg_add HM.out.rg hT ⟨13,⟨#[]⟩,⟨#[]⟩,0,.slice a6 ks.length p6,ks,ta⟩ HM.out.kd HF.out.1 HF.out.2
    simp only [Nd.val] at c9
    go_wp2_with fail
    refine c9.mono ?_
    rintro x w9 ⟨rfl,Nv9,r9,_⟩
    have H9:=Hid.mk7 r9
    clear c9 r9
    go_wp2
    go_ret
    exact H9.out.of
 ·have hb0:(tt.toList == [])=false:=list_ne he
  have HE:=Hid.mk7 he
  have cS:=rg_isSign HK.out.rg ⟨#[58]⟩
  clear he
  cases h1:sgn T ⟨#[58]⟩ (s.i+1) with
  | false=>
   rw [show sgn T ⟨#[58]⟩ (⟨s.i+1,s.N⟩:Ps).i=false from h1] at cS
   have H1:=Hid.mk7 h1
   clear h1
   go_enter Tryz.func184,Tryz.ntmps184
   go_wp2_with fail
   refine cS.mono ?_
   rintro x w4 ⟨rfl,r4,hb4⟩
   have mk4:=HK.out.to r4 (Stp.ofB hb4)
   have n2:=mk4.bx.n2
   have H4:=Hid.mk7 mk4
   clear cS r4 hb4 mk4 HK
   have HK:=H4
   clear H4
   have c5:=rg_isSign HK.out.rg ⟨#[40]⟩
   cases h2:sgn T ⟨#[40]⟩ (s.i+1) with
   | false=>
    have hre:named T rec ⟨tk,tt,tn,ta⟩ s=.ok (s.N.length,⟨s.i+1,s.N++[⟨2,tt,⟨#[]⟩,0,[],ta⟩]⟩):=by simp [named,PM.bind,pIf,pSkip,PM.ret,pAdd,HE.out,H1.out,h2]
    obtain ⟨q1,q2⟩:=HP.out.2.1 _ _ hre
    have hre2:res=.ok (s.N.length,⟨s.i+1,s.N++[⟨2,tt,⟨#[]⟩,0,[],ta⟩]⟩):=HQ.out.symm.trans hre
    subst hre2
    have HF:=Hid.mk7 (And.intro q1 q2)
    clear hre q1 q2
    rw [show sgn T ⟨#[40]⟩ (⟨s.i+1,s.N⟩:Ps).i=false from h2] at c5
    clear h2
    go_wp2_with fail
    refine c5.mono ?_
    rintro x w5 ⟨rfl,r5,hb5⟩
    have mk5:=HK.out.to r5 (Stp.ofB hb5)
    have HL:=Hid.mk7 mk5
    obtain ⟨n0,n1,n2',n3,n4,n5,_,_,_,_,_⟩:=mk5.bx
    clear c5 r5 hb5 mk5 HK n2
    have c9:=rg_add HL.out.rg hT ⟨2,tt,⟨#[]⟩,0,.slice none 0 0,[],ta⟩ HL.out.kd HF.out.1 HF.out.2
    simp only [Nd.val] at c9
    go_wp2_with fail
    refine c9.mono ?_
    rintro x w9 ⟨rfl,Nv9,r9,_⟩
    have H9:=Hid.mk7 r9
    clear c9 r9
    go_wp2
    go_ret
    exact H9.out.of
   | true=>
    rw [show sgn T ⟨#[40]⟩ (⟨s.i+1,s.N⟩:Ps).i=true from h2] at c5
    have HS:=Hid.mk7 h2
    clear h2
    go_wp2_with fail
    refine c5.mono ?_
    rintro x w5 ⟨rfl,r5,hb5⟩
    have HL:=Hid.mk7 (HK.out.to r5 (Stp.ofB hb5))
    clear c5 r5 hb5 HK n2
    have c6:=rd_arguments (HP.out.1.fwd (.expr 1) (by simp [okPh])) HP.out.1.whole (s:=⟨s.i+1,s.N⟩) (by show s.i+1≤_; simp) HL.out.rg.ps
    cases ha:arguments T rec ⟨s.i+1,s.N⟩ with
    | error e=>
     have hre:res=.error e:=by rw [← HQ.out]; simp [named,PM.bind,pIf,pSkip,PM.ret,HE.out,H1.out,HS.out,ha]
     subst hre
     rw [ha] at c6
     clear ha
     go_wp2_with fail
     refine c6.mono ?_
     rintro x w6 ⟨rfl,T6⟩
     exact ⟨rfl,rfl,HL.out.rg.bad T6⟩
    | ok kt=>
     obtain ⟨ks,t⟩:=kt
     have hre:named T rec ⟨tk,tt,tn,ta⟩ s=.ok (t.N.length,⟨t.i,t.N++[⟨13,tt,⟨#[]⟩,0,ks,ta⟩]⟩):=by simp [named,PM.bind,pIf,pSkip,PM.ret,pAdd,HE.out,H1.out,HS.out,ha]
     obtain ⟨q1,q2⟩:=HP.out.2.1 _ _ hre
     have hre2:res=.ok (t.N.length,⟨t.i,t.N++[⟨13,tt,⟨#[]⟩,0,ks,ta⟩]⟩):=HQ.out.symm.trans hre
     subst hre2
     have HF:=Hid.mk7 (And.intro q1 q2)
     clear hre q1 q2
     rw [ha] at c6
     clear ha
     go_wp2_with fail
     refine c6.mono ?_
     intro x w6 hx
     obtain ⟨V6,rfl,⟨a6,p6,hV6⟩,⟨Nv6,M6,mk6,kd6⟩,nq⟩:=HL.out.stepL (Below.refl _ _) hx
     subst hV6
     have HM:=Hid.mk7 ((mk6.kind 13).kids (kd6.setQ nq 0 _) nq)
     obtain ⟨n0,n1,n2,n3,n4,n5,fz,_,_,_,_⟩:=mk6.bx
     have f0:=fz 0
     have f4:=fz 4
     have lq:=mk6.bx.lt
     clear c6 hx mk6 kd6 nq HL fz
     have c9:=rg_add HM.out.rg hT ⟨13,tt,⟨#[]⟩,0,.slice a6 ks.length p6,ks,ta⟩ HM.out.kd HF.out.1 HF.out.2
     simp only [Nd.val] at c9
     go_wp2_with fail
     refine c9.mono ?_
     rintro x w9 ⟨rfl,Nv9,r9,_⟩
     have H9:=Hid.mk7 r9
     clear c9 r9
     go_wp2
     go_ret
     exact H9.out.of
  | true=>
   rw [show sgn T ⟨#[58]⟩ (⟨s.i+1,s.N⟩:Ps).i=true from h1] at cS
   have hlt2:s.i+1+1≤T.length:=sgn_lt h1
   have H1:=Hid.mk7 h1
   clear h1
   go_enter Tryz.func184,Tryz.ntmps184
   go_wp2_with fail
   refine cS.mono ?_
   rintro x w4 ⟨rfl,r4,hb4⟩
   have mk4:=HK.out.to r4 (Stp.ofB hb4)
   have k1:=r4.ps.at_.c1.1
   have g1:=r4.ps.at_.c1.2
   have r5:=r4.skip 1 hlt2
   have mk5:=mk4.to r5 (Stp.ofG (Turned.set1 w4 g 1 _))
   rw [show (((⟨s.i+1,s.N⟩:Ps).i+1:Nat):Int)=(s.i:Int)+1+1 by simp] at r5 mk5
   have hne:w.heap.size≠g:=by omega
   have t1:w4.cell? ⟨w.heap.size,1,none⟩=some (.string tt):=(hb4.cell (p:=⟨w.heap.size,1,none⟩) (by simp; omega)).trans ((Below.alloc0 _ _).cell (p:=⟨w.heap.size,1,none⟩) (by simp) |>.trans (by have e:=tokIn (w.setCell ⟨g,1,none⟩ (.int .i64 ((s.i:Int)+1))) tk tt tn ta; rwa [World.size_setCell] at e))
   have u1:(w4.setCell ⟨g,1,none⟩ (.int .i64 ((s.i:Int)+1+1))).cell? ⟨w.heap.size,1,none⟩=some (.string tt):=(Turned.set1 w4 g 1 _).cell t1 hne
   have HR:=Hid.mk7 r5
   have H5:=Hid.mk7 mk5
   clear cS r4 hb4 mk4 r5 mk5 HK t1
   cases h2:knd T 1 (s.i+1+1) with
   | false=>
    have hre:res=.error (s.i+1+1):=by rw [← HQ.out]; simp [named,PM.bind,pIf,pSkip,pNeed,HE.out,H1.out,h2]
    subst hre
    have c6:=rg_kind_bad (HR.out.below (Below.refl _ _).drew) h2
    clear h2
    go_wp2_with fail
    generalize w4.setCell _ _=w5 at c6 u1 ⊢
    go_region_with (go_at_call 96; refine c6.mono ?_; rintro x w6 ⟨rfl,T6⟩; refine idle_of w6 ⟨rfl,rfl,T6⟩ ?_)
    all_goals trivial
   | true=>
    have c6:=rg_kind (HR.out.below (Below.refl _ _).drew) (by decide) h2
    unfold Tkn at c6
    have H2:=Hid.mk7 h2
    obtain ⟨ut,hut⟩:∃ ut,tokAt T (s.i+1+1)=ut:=⟨_,rfl⟩
    rw [show tokAt T (⟨s.i+1+1,s.N⟩:Ps).i=ut from hut] at c6
    have HU:=Hid.mk7 hut
    clear h2 hut
    obtain ⟨uk,ut,un,ua⟩:=ut
    simp only [Tk.val] at c6
    go_wp2_with fail
    generalize w4.setCell _ _=w5 at c6 u1 HR H5 ⊢
    go_region_with (go_at_call 96; refine c6.mono ?_; rintro x w6 ⟨rfl,r6,G6⟩; have mk6:=H5.out.to r6 (Stp.ofG (((Turned.drew _ _).trans G6 (fun _ e=>.inl e)))); have v1:=G6.cell (p:=⟨w.heap.size,1,none⟩) (v:=.string tt) u1 hne; have m2:=mk6.bx.n2; have z2:=mk6.bx.fz 2; have m1:=mk6.bx.n1; have z1:=mk6.bx.fz 1; have lq:=mk6.bx.lt; have HM:=Hid.mk7 ((mk6.mod tt).text ut); clear r6 G6 mk6)
    all_goals
     generalize hW:(w6.setCell _ _).setCell _ _=w7 at HM ⊢
     clear hW v1 m2 z2 m1 z1 lq u1
     have n2:=HM.out.bx.n2
     have HL:=HM
     have c6:=rd_arguments (HP.out.1.fwd (.expr 1) (by simp [okPh])) HP.out.1.whole (s:=⟨s.i+1+1+1,s.N⟩) (by show s.i+1≤_; simp) HL.out.rg.ps
     cases ha:arguments T rec ⟨s.i+1+1+1,s.N⟩ with
     | error e=>
      have hre:res=.error e:=by rw [← HQ.out]; simp [named,PM.bind,pIf,pSkip,pNeed,PM.ret,HE.out,H1.out,H2.out,HU.out,ha]
      subst hre
      rw [ha] at c6
      clear ha
      go_wp2_with fail
      refine c6.mono ?_
      rintro x w6 ⟨rfl,T6⟩
      exact ⟨rfl,rfl,HL.out.rg.bad T6⟩
     | ok kt=>
      obtain ⟨ks,t⟩:=kt
      have hre:named T rec ⟨tk,tt,tn,ta⟩ s=.ok (t.N.length,⟨t.i,t.N++[⟨13,ut,tt,0,ks,ta⟩]⟩):=by simp [named,PM.bind,pIf,pSkip,pNeed,PM.ret,pAdd,HE.out,H1.out,H2.out,HU.out,ha]
      obtain ⟨q1,q2⟩:=HP.out.2.1 _ _ hre
      have hre2:res=.ok (t.N.length,⟨t.i,t.N++[⟨13,ut,tt,0,ks,ta⟩]⟩):=HQ.out.symm.trans hre
      subst hre2
      have HF:=Hid.mk7 (And.intro q1 q2)
      clear hre q1 q2
      rw [ha] at c6
      clear ha
      go_wp2_with fail
      refine c6.mono ?_
      intro x w6 hx
      obtain ⟨V6,rfl,⟨a6,p6,hV6⟩,⟨Nv6,M6,mk6,kd6⟩,nq⟩:=HL.out.stepL (Below.refl _ _) hx
      subst hV6
      have HM:=Hid.mk7 ((mk6.kind 13).kids (kd6.setQ nq 0 _) nq)
      obtain ⟨n0,n1,n2,n3,n4,n5,fz,_,_,_,_⟩:=mk6.bx
      have f0:=fz 0
      have f4:=fz 4
      have lq:=mk6.bx.lt
      clear c6 hx mk6 kd6 nq HL fz
      have c9:=rg_add HM.out.rg hT ⟨13,ut,tt,0,.slice a6 ks.length p6,ks,ta⟩ HM.out.kd HF.out.1 HF.out.2
      simp only [Nd.val] at c9
      go_wp2_with fail
      refine c9.mono ?_
      rintro x w9 ⟨rfl,Nv9,r9,_⟩
      have H9:=Hid.mk7 r9
      clear c9 r9
      go_wp2
      go_ret
      exact H9.out.of
end Go.Proofs.YtlciaafincgdeaaGreatDoor
