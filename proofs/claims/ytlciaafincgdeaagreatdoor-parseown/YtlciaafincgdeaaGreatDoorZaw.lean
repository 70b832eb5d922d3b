/-
  Layer 11 (parse): expressions from a word to its end.
  Layer 11 (parse): expressions that no operator parts.
-/
import Derived.Test.YtlciaafincgdeaaGreatDoorZan
import Derived.Test.YtlciaafincgdeaaGreatDoorZav
namespace Go.Proofs.YtlciaafincgdeaaGreatDoor
open Go.RowKit
set_option maxHeartbeats 6400000
set_option maxRecDepth 100000
section
variable {T:List Tk} {w wr:World} {g:Nat} {Tv Nv Nv1:Value} {N M1:List Nd} {s:Ps}
theorem rg_need (r:Rg T w wr g Tv Nv N s Nv1 M1) (h:s.i < T.length):Calls Tryz.prog 116 #[.pointer (some ⟨g,0,none⟩),.bool true] wr (Tkn T w wr g Tv Nv N s Nv1 M1):=(ps_need r.ps.at_ h).mono fun _ _ h2=>r.took h h2
theorem rg_need_bad (r:Rg T w wr g Tv Nv N s Nv1 M1):Calls Tryz.prog 116 #[.pointer (some ⟨g,0,none⟩),.bool false] wr (fun e w2=>e=badAt s.i∧Turned (fun k=>k=g∨blk Nv k) w w2):=(ps_need_bad r.ps.at_).mono fun _ _ h2=>r.stop h2
end
theorem rd_block_kind {T:List Tk} {rec:Ph→PM Nat} {s:Ps} (tk:Int) (tt:ByteArray) (tn ta:Int) (hk:¬ tk=4) (E:Env T rec (s.i+1)) (hfin:∀ a t,block T rec ⟨tk,tt,tn,ta⟩ s=.ok (a,t)→S2 T t t∧Cnt T t) {w:World} {g:Nat} {Tv Nv:Value} {N:List Nd} (h:PS w g Tv T Nv N s) :
  Calls Tryz.prog 186 #[.pointer (some ⟨g,0,none⟩),(⟨tk,tt,tn,ta⟩:Tk).val] w (Rd T w g Tv Nv N (block T rec ⟨tk,tt,tn,ta⟩ s)):=by
 obtain ⟨res,hres⟩:∃ res,block T rec ⟨tk,tt,tn,ta⟩ s=res:=⟨_,rfl⟩
 rw [hres]
 have HQ:=Hid.mk7 hres
 have htl:=h.at_.tl
 have hgl:=h.at_.lt
 have hmf:=Tryz.makeFn
 have HP:=Hid.mk7 (And.intro E (And.intro hfin h))
 have r1:=(Rg.refl h).below (Below.alloc0 w (.cells #[.int .i64 tk,.string tt,.int .i64 tn,.int .i64 ta] 40))
 clear hres hfin E h
 simp only [Tk.val]
 have hk4:(tk == 4)=false:=by simpa using hk
 have hre:res=.error s.i:=by rw [← HQ.out]; simp [block,PM.bind,pNeed,begins,hk]
 subst hre
 have c1:=rg_need_bad r1
 clear r1
 go_enter Tryz.func186,Tryz.ntmps186
 go_wp2_with fail
 refine c1.mono ?_
 rintro x w1 ⟨rfl,T1⟩
 exact ⟨rfl,rfl,T1⟩
theorem rd_block_text {T:List Tk} {rec:Ph→PM Nat} {s:Ps} (tt:ByteArray) (tn ta:Int) (h0:¬ tt=⟨#[98,101,103,105,110]⟩) (h1:¬ tt=⟨#[99,97,115,101]⟩) (h2:¬ tt=⟨#[114,101,99,101,105,118,101]⟩) (h3:¬ tt=⟨#[116,114,121]⟩) (E:Env T rec (s.i+1)) (hfin:∀ a t,block T rec ⟨4,tt,tn,ta⟩ s=.ok (a,t)→S2 T t t∧Cnt T t) {w:World} {g:Nat} {Tv Nv:Value} {N:List Nd} (h:PS w g Tv T Nv N s) :
  Calls Tryz.prog 186 #[.pointer (some ⟨g,0,none⟩),(⟨4,tt,tn,ta⟩:Tk).val] w (Rd T w g Tv Nv N (block T rec ⟨4,tt,tn,ta⟩ s)):=by
 obtain ⟨res,hres⟩:∃ res,block T rec ⟨4,tt,tn,ta⟩ s=res:=⟨_,rfl⟩
 rw [hres]
 have HQ:=Hid.mk7 hres
 have htl:=h.at_.tl
 have hgl:=h.at_.lt
 have hmf:=Tryz.makeFn
 have HP:=Hid.mk7 (And.intro E (And.intro hfin h))
 have r1:=(Rg.refl h).below (Below.alloc0 w (.cells #[.int .i64 4,.string tt,.int .i64 tn,.int .i64 ta] 40))
 clear hres hfin E h
 simp only [Tk.val]
 have e0:=list_ne (l:=[98,101,103,105,110]) h0
 have e1:=list_ne (l:=[99,97,115,101]) h1
 have e2:=list_ne (l:=[114,101,99,101,105,118,101]) h2
 have e3:=list_ne (l:=[116,114,121]) h3
 have hre:res=.error s.i:=by rw [← HQ.out]; simp [block,PM.bind,pNeed,begins,h0,h1,h2,h3]
 subst hre
 have c1:=rg_need_bad r1
 clear r1 h0 h1 h2 h3
 go_enter Tryz.func186,Tryz.ntmps186
 go_wp2_with fail
 refine c1.mono ?_
 rintro x w1 ⟨rfl,T1⟩
 exact ⟨rfl,rfl,T1⟩
theorem rd_block_begin {T:List Tk} {rec:Ph→PM Nat} {s:Ps} (tn ta:Int) (hlt:s.i < T.length) (E:Env T rec (s.i+1)) (hfin:∀ a t,block T rec ⟨4,⟨#[98,101,103,105,110]⟩,tn,ta⟩ s=.ok (a,t)→S2 T t t∧Cnt T t) {w:World} {g:Nat} {Tv Nv:Value} {N:List Nd} (h:PS w g Tv T Nv N s) :
  Calls Tryz.prog 186 #[.pointer (some ⟨g,0,none⟩),(⟨4,⟨#[98,101,103,105,110]⟩,tn,ta⟩:Tk).val] w (Rd T w g Tv Nv N (block T rec ⟨4,⟨#[98,101,103,105,110]⟩,tn,ta⟩ s)):=by
 obtain ⟨res,hres⟩:∃ res,block T rec ⟨4,⟨#[98,101,103,105,110]⟩,tn,ta⟩ s=res:=⟨_,rfl⟩
 rw [hres]
 have HQ:=Hid.mk7 hres
 have htl:=h.at_.tl
 have hgl:=h.at_.lt
 have hmf:=Tryz.makeFn
 have HP:=Hid.mk7 (And.intro E (And.intro hfin h))
 have r1:=(Rg.refl h).below (Below.alloc0 w (.cells #[.int .i64 4,.string ⟨#[98,101,103,105,110]⟩,.int .i64 tn,.int .i64 ta] 40))
 clear hres hfin E h
 simp only [Tk.val]
 have hT:0 < T.length:=by omega
 go_enter Tryz.func186,Tryz.ntmps186
 have c1:=rg_need r1 hlt
 unfold Tkn at c1
 generalize (tokAt T s.i).val=tv1 at c1
 clear r1
 go_wp2_with fail
 refine c1.mono ?_
 rintro x w2 ⟨rfl,r2,G2⟩
 have hne:w.heap.size≠g:=by omega
 have t1:=G2.cell (p:=⟨w.heap.size,1,none⟩) (v:=.string ⟨#[98,101,103,105,110]⟩) (by simp) hne
 have t3:=G2.cell (p:=⟨w.heap.size,3,none⟩) (v:=.int .i64 ta) (by simp) hne
 have l2:w.heap.size < w2.heap.size:=World.block_lt_of_cell? w2 _ t1
 have HK:=Hid.mk7 (MkI.of_kd r2 (Kd.nil _ _ _ _ _ _ _) hT 0 ⟨#[]⟩ ⟨#[]⟩ 0 ta)
 clear c1 r2 G2
 have c4:=HP.out.1.run .body trivial ⟨s.i+1,s.N⟩ (Nat.le_refl _) _ g Tv _ _ HK.out.rg.ps
 have hps:=HK.out.rg.ps
 cases h4:rec .body ⟨s.i+1,s.N⟩ with
 | error e=>
  have hre:res=.error e:=by rw [← HQ.out]; simp [block,blockKids,begins,PM.bind,pNeed,h4]
  subst hre
  simp only [h4,fnOf,moreOf] at c4
  clear h4 hps
  go_wp2_with fail
  refine c4.mono ?_
  rintro x w4 ⟨rfl,T4⟩
  exact ⟨rfl,rfl,HK.out.rg.bad T4⟩
 | ok at_=>
  obtain ⟨a,t⟩:=at_
  obtain ⟨_,_,hit,_⟩:=(HP.out.1.fwd .body (by simp [okPh])).ok hps.ok hps.cnt h4
  have hit:s.i+1 < t.i:=hit
  simp only [h4,fnOf,moreOf] at c4
  have H4:=Hid.mk7 (And.intro h4 hit)
  clear h4 hps hit
  go_wp2_with fail
  refine c4.mono ?_
  intro x w4 hx
  obtain ⟨rfl,Nv4,M4,mk4⟩:=HK.out.rd (Below.refl _ _) hx
  have n0:=mk4.bx.n0
  have n4:=mk4.bx.n4
  have z0:=mk4.bx.fz 0
  have z4:=mk4.bx.fz 4
  have lq:=mk4.bx.lt
  have HM:=Hid.mk7 (mk4.oneA hT (a:Int) 9)
  clear c4 hx mk4 HK t1 t3
  go_wp2_with fail
  generalize hW:(World.alloc (World.setCell (World.setCell w4 _ _) _ _) _)=w5 at HM ⊢
  clear hW n0 n4 z0 z4 lq
  cases h8:wrd T ⟨#[101,110,100]⟩ t.i with
  | false=>
   have hre:res=.error t.i:=by rw [← HQ.out]; simp [block,blockKids,begins,PM.bind,pNeed,PM.ret,H4.out.1,h8]
   subst hre
   have c8:=rg_word_bad HM.out.rg h8
   clear h8
   go_wp2_with fail
   refine c8.mono ?_
   rintro x w8 ⟨rfl,T8⟩
   exact ⟨rfl,rfl,T8⟩
  | true=>
   have hre:block T rec ⟨4,⟨#[98,101,103,105,110]⟩,tn,ta⟩ s=.ok (t.N.length,⟨t.i+1,t.N++[⟨9,⟨#[]⟩,⟨#[]⟩,0,[(a:Int)],ta⟩]⟩):=by simp [block,blockKids,begins,PM.bind,pNeed,PM.ret,pAdd,H4.out.1,h8]
   obtain ⟨q1,q2⟩:=HP.out.2.1 _ _ hre
   have hre2:res=.ok (t.N.length,⟨t.i+1,t.N++[⟨9,⟨#[]⟩,⟨#[]⟩,0,[(a:Int)],ta⟩]⟩):=HQ.out.symm.trans hre
   subst hre2
   have HF:=Hid.mk7 (And.intro q1 q2)
   have c8:=rg_word HM.out.rg h8
   unfold Tkn at c8
   generalize (tokAt T t.i).val=tv8 at c8
   clear h8 hre q1 q2
   go_wp2_with fail
   refine c8.mono ?_
   rintro x w8 ⟨rfl,r8,G8⟩
   have mk8:=HM.out.to r8 (Stp.ofG G8)
   have c9:=rg_add mk8.rg hT ⟨9,⟨#[]⟩,⟨#[]⟩,0,.slice (some ⟨w4.heap.size,0,none⟩) 1 1,[(a:Int)],ta⟩ mk8.kd HF.out.1 HF.out.2
   simp only [Nd.val] at c9
   obtain ⟨n0,n1,n2,n3,n4,n5,_,_,_,_,_⟩:=mk8.bx
   clear c8 r8 G8 mk8 HM
   go_wp2_with fail
   refine c9.mono ?_
   rintro x w9 ⟨rfl,Nv9,r9,_⟩
   have H9:=Hid.mk7 r9
   clear c9 r9
   go_wp2
   go_ret
   exact H9.out.of
theorem rd_block_case {T:List Tk} {rec:Ph→PM Nat} {s:Ps} (tn ta:Int) (hlt:s.i < T.length) (E:Env T rec (s.i+1)) (hfin:∀ a t,block T rec ⟨4,⟨#[99,97,115,101]⟩,tn,ta⟩ s=.ok (a,t)→S2 T t t∧Cnt T t) {w:World} {g:Nat} {Tv Nv:Value} {N:List Nd} (h:PS w g Tv T Nv N s) :
  Calls Tryz.prog 186 #[.pointer (some ⟨g,0,none⟩),(⟨4,⟨#[99,97,115,101]⟩,tn,ta⟩:Tk).val] w (Rd T w g Tv Nv N (block T rec ⟨4,⟨#[99,97,115,101]⟩,tn,ta⟩ s)):=by
 obtain ⟨res,hres⟩:∃ res,block T rec ⟨4,⟨#[99,97,115,101]⟩,tn,ta⟩ s=res:=⟨_,rfl⟩
 rw [hres]
 have HQ:=Hid.mk7 hres
 have htl:=h.at_.tl
 have hgl:=h.at_.lt
 have hmf:=Tryz.makeFn
 have HP:=Hid.mk7 (And.intro E (And.intro hfin h))
 have r1:=(Rg.refl h).below (Below.alloc0 w (.cells #[.int .i64 4,.string ⟨#[99,97,115,101]⟩,.int .i64 tn,.int .i64 ta] 40))
 clear hres hfin E h
 simp only [Tk.val]
 have hT:0 < T.length:=by omega
 go_enter Tryz.func186,Tryz.ntmps186
 have c1:=rg_need r1 hlt
 unfold Tkn at c1
 generalize (tokAt T s.i).val=tv1 at c1
 clear r1
 go_wp2_with fail
 refine c1.mono ?_
 rintro x w2 ⟨rfl,r2,G2⟩
 have hne:w.heap.size≠g:=by omega
 have t1:=G2.cell (p:=⟨w.heap.size,1,none⟩) (v:=.string ⟨#[99,97,115,101]⟩) (by simp) hne
 have t3:=G2.cell (p:=⟨w.heap.size,3,none⟩) (v:=.int .i64 ta) (by simp) hne
 have l2:w.heap.size < w2.heap.size:=World.block_lt_of_cell? w2 _ t1
 have HK:=Hid.mk7 (MkI.of_kd r2 (Kd.nil _ _ _ _ _ _ _) hT 0 ⟨#[]⟩ ⟨#[]⟩ 0 ta)
 clear c1 r2 G2
 have c4:=HP.out.1.whole ⟨s.i+1,s.N⟩ (Nat.le_refl _) _ g Tv _ _ HK.out.rg.ps
 have hps:=HK.out.rg.ps
 cases h4:whole rec ⟨s.i+1,s.N⟩ with
 | error e=>
  have hre:res=.error e:=by rw [← HQ.out]; simp [block,blockKids,begins,PM.bind,pNeed,whole,show rec (.expr 1) ⟨s.i+1,s.N⟩=.error e from h4]
  subst hre
  simp only [h4] at c4
  clear h4 hps
  go_wp2_with fail
  refine c4.mono ?_
  rintro x w4 ⟨rfl,T4⟩
  exact ⟨rfl,rfl,HK.out.rg.bad T4⟩
 | ok at_=>
  obtain ⟨a,t⟩:=at_
  obtain ⟨_,_,hit,_⟩:=(HP.out.1.fwd (.expr 1) (by simp [okPh])).ok hps.ok hps.cnt h4
  have hit:s.i+1 < t.i:=hit
  simp only [h4] at c4
  have H4:=Hid.mk7 (And.intro h4 hit)
  clear h4 hps hit
  go_wp2_with fail
  refine c4.mono ?_
  intro x w4 hx
  obtain ⟨rfl,Nv4,M4,mk4⟩:=HK.out.rd (Below.refl _ _) hx
  have n0:=mk4.bx.n0
  have n4:=mk4.bx.n4
  have z0:=mk4.bx.fz 0
  have z4:=mk4.bx.fz 4
  have lq:=mk4.bx.lt
  have HM:=Hid.mk7 (mk4.oneA hT (a:Int) 8)
  clear c4 hx mk4 HK t1 t3
  go_wp2_with fail
  generalize hW:(World.alloc (World.setCell (World.setCell w4 _ _) _ _) _)=w5 at HM ⊢
  clear hW n0 n4 z0 z4 lq
  cases h6:wrd T ⟨#[111,102]⟩ t.i with
  | false=>
   have hre:res=.error t.i:=by rw [← HQ.out]; simp [block,blockKids,begins,PM.bind,pNeed,whole,show rec (.expr 1) ⟨s.i+1,s.N⟩=.ok (a,t) from H4.out.1,h6]
   subst hre
   have c6:=rg_word_bad HM.out.rg h6
   clear h6
   go_wp2_with fail
   refine c6.mono ?_
   rintro x w6 ⟨rfl,T6⟩
   exact ⟨rfl,rfl,T6⟩
  | true=>
   have c6:=rg_word HM.out.rg h6
   unfold Tkn at c6
   generalize (tokAt T t.i).val=tv6 at c6
   have H6:=Hid.mk7 h6
   clear h6
   go_wp2_with fail
   refine c6.mono ?_
   rintro x w6 ⟨rfl,r6,G6⟩
   have mk6:=HM.out.to r6 (Stp.ofG G6)
   have hps:=mk6.rg.ps
   have hE:=fun WW (hW:Below w6.heap.size w6 WW)=>rd_row_clause (HP.out.1.fwd .clause trivial) (HP.out.1.run .clause trivial) ⟨#[59]⟩ (s:=⟨t.i+1,t.N⟩) (by have:=H4.out.2; show s.i+1≤t.i+1; omega) (mk6.rg.below hW).ps
   have n4:=mk6.bx.n4
   have HK6:=Hid.mk7 mk6
   clear c6 r6 G6 mk6 HM
   cases h7:row T ⟨#[59]⟩ (rec .clause) ⟨t.i+1,t.N⟩ with
   | error e=>
    have hre:res=.error e:=by rw [← HQ.out]; simp [block,blockKids,begins,PM.bind,pNeed,whole,show rec (.expr 1) ⟨s.i+1,s.N⟩=.ok (a,t) from H4.out.1,H6.out,h7]
    subst hre
    simp only [h7] at hE
    clear h7 hps
    go_wp2_with fail
    go_region_law (rw [if_pos (by rfl)]; go_simp; go_at_call 120; refine (hE _ (Below.refl _ _).drew).mono ?_; rintro x w7 ⟨rfl,T7⟩; refine idle_of w7 ⟨rfl,rfl,(HK6.out.rg.below (Below.refl _ _).drew).bad T7⟩ ?_)
    all_goals trivial
   | ok kt=>
    obtain ⟨ks,u⟩:=kt
    have hlen:=row_len (HP.out.1.fwd .clause trivial) hps.ok h7
    obtain ⟨h5a,_,_⟩:=(row_ok2 (Alike.refl T) (x:=⟨#[59]⟩) (d:=1) (by omega) (fun s s' hs=>HP.out.1.ok2 .clause trivial s s' hs) hps.ok).fin (by omega) hps.cnt h7
    have hu:=h5a.il
    have hal:([(a:Int)].length+ks.length)*8≤140737488355328:=by simp; omega
    have hal2:[(a:Int)].length+ks.length≤4611686018427387903:=by simp; omega
    have HAL:=Hid.mk7 (And.intro hal hal2)
    have H7:=Hid.mk7 h7
    simp only [h7] at hE
    clear h7 hps hlen h5a hu hal hal2
    go_wp2_with fail
    go_region_law (first
     | (rw [if_pos (by rfl)]; go_simp; go_at_call 120; refine (hE _ (Below.refl _ _).drew).mono ?_; intro x w7 hx; obtain ⟨V7,rfl,⟨a7,p7,hV7⟩,⟨Nv7,M7,mk7,kd7⟩,_⟩:=HK6.out.stepL (Below.refl _ _).drew hx; subst hV7; have k7:=mk7.bx.n4; have q7:=mk7.bx.lt; have HK7:=Hid.mk7 mk7; have HD7:=Hid.mk7 kd7; clear hx mk7 kd7; dsimp only)
     | (refine step_append_k (by rfl) (.tmp 55) (.tmp 59) (by rfl) Tryz.intTypes (by rfl) (by rfl) HK7.out.bx.own (OwnK.sl HD7.out.own) (ints_one _) HAL.out.1 HAL.out.2 ?_; intro V8 w8 ho8 T8 hv8; obtain ⟨aV8,cV8,hV8,_,_⟩:=ho8.sl.form; subst hV8; obtain ⟨c8,f8,l8⟩:=HK7.out.cell (Below.refl _ _) T8))
    all_goals
     have HM:=Hid.mk7 (HK7.out.moreL hT (Below.refl _ _) ho8 T8 hv8)
     clear ho8 T8 hv8 c8 f8 l8 k7 q7 HK7 HD7
     generalize w8.setCell _ _=w9 at HM ⊢
     cases h8:wrd T ⟨#[101,110,100]⟩ u.i with
     | false=>
      have hre:res=.error u.i:=by rw [← HQ.out]; simp [block,blockKids,begins,PM.bind,pNeed,PM.ret,whole,show rec (.expr 1) ⟨s.i+1,s.N⟩=.ok (a,t) from H4.out.1,H6.out,H7.out,h8]
      subst hre
      have c8:=rg_word_bad HM.out.rg h8
      clear h8
      go_wp2_with fail
      refine c8.mono ?_
      rintro x w8 ⟨rfl,T8⟩
      exact ⟨rfl,rfl,T8⟩
     | true=>
      have hre:block T rec ⟨4,⟨#[99,97,115,101]⟩,tn,ta⟩ s=.ok (u.N.length,⟨u.i+1,u.N++[⟨8,⟨#[]⟩,⟨#[]⟩,0,((a:Int) :: ks),ta⟩]⟩):=by simp [block,blockKids,begins,PM.bind,pNeed,PM.ret,pAdd,whole,show rec (.expr 1) ⟨s.i+1,s.N⟩=.ok (a,t) from H4.out.1,H6.out,H7.out,h8]
      obtain ⟨q1,q2⟩:=HP.out.2.1 _ _ hre
      have hre2:res=.ok (u.N.length,⟨u.i+1,u.N++[⟨8,⟨#[]⟩,⟨#[]⟩,0,((a:Int) :: ks),ta⟩]⟩):=HQ.out.symm.trans hre
      subst hre2
      have HF:=Hid.mk7 (And.intro q1 q2)
      have c8:=rg_word HM.out.rg h8
      unfold Tkn at c8
      generalize (tokAt T u.i).val=tv8 at c8
      clear h8 hre q1 q2
      go_wp2_with fail
      refine c8.mono ?_
      rintro x w8 ⟨rfl,r8,G8⟩
      have mk8:=HM.out.to r8 (Stp.ofG G8)
      have c9:=rg_add mk8.rg hT ⟨8,⟨#[]⟩,⟨#[]⟩,0,.slice aV8 ([(a:Int)].length+ks.length) cV8,((a:Int) :: ks),ta⟩ mk8.kd HF.out.1 HF.out.2
      simp only [Nd.val] at c9
      obtain ⟨n0,n1,n2,n3,n4,n5,_,_,_,_,_⟩:=mk8.bx
      clear c8 r8 G8 mk8 HM
      go_wp2_with fail
      refine c9.mono ?_
      rintro x w9 ⟨rfl,Nv9,r9,_⟩
      have H9:=Hid.mk7 r9
      clear c9 r9
      go_wp2
      go_ret
      exact H9.out.of
theorem rd_block_try {T:List Tk} {rec:Ph→PM Nat} {s:Ps} (tn ta:Int) (hlt:s.i < T.length) (E:Env T rec (s.i+1)) (hfin:∀ a t,block T rec ⟨4,⟨#[116,114,121]⟩,tn,ta⟩ s=.ok (a,t)→S2 T t t∧Cnt T t) {w:World} {g:Nat} {Tv Nv:Value} {N:List Nd} (h:PS w g Tv T Nv N s) :
  Calls Tryz.prog 186 #[.pointer (some ⟨g,0,none⟩),(⟨4,⟨#[116,114,121]⟩,tn,ta⟩:Tk).val] w (Rd T w g Tv Nv N (block T rec ⟨4,⟨#[116,114,121]⟩,tn,ta⟩ s)):=by
 obtain ⟨res,hres⟩:∃ res,block T rec ⟨4,⟨#[116,114,121]⟩,tn,ta⟩ s=res:=⟨_,rfl⟩
 rw [hres]
 have HQ:=Hid.mk7 hres
 have htl:=h.at_.tl
 have hgl:=h.at_.lt
 have hmf:=Tryz.makeFn
 have HP:=Hid.mk7 (And.intro E (And.intro hfin h))
 have r1:=(Rg.refl h).below (Below.alloc0 w (.cells #[.int .i64 4,.string ⟨#[116,114,121]⟩,.int .i64 tn,.int .i64 ta] 40))
 clear hres hfin E h
 simp only [Tk.val]
 have hT:0 < T.length:=by omega
 go_enter Tryz.func186,Tryz.ntmps186
 have c1:=rg_need r1 hlt
 unfold Tkn at c1
 generalize (tokAt T s.i).val=tv1 at c1
 clear r1
 go_wp2_with fail
 refine c1.mono ?_
 rintro x w2 ⟨rfl,r2,G2⟩
 have hne:w.heap.size≠g:=by omega
 have t1:=G2.cell (p:=⟨w.heap.size,1,none⟩) (v:=.string ⟨#[116,114,121]⟩) (by simp) hne
 have t3:=G2.cell (p:=⟨w.heap.size,3,none⟩) (v:=.int .i64 ta) (by simp) hne
 have l2:w.heap.size < w2.heap.size:=World.block_lt_of_cell? w2 _ t1
 have HK:=Hid.mk7 (MkI.of_kd r2 (Kd.nil _ _ _ _ _ _ _) hT 0 ⟨#[]⟩ ⟨#[]⟩ 0 ta)
 clear c1 r2 G2
 have c4:=HP.out.1.run .body trivial ⟨s.i+1,s.N⟩ (Nat.le_refl _) _ g Tv _ _ HK.out.rg.ps
 have hps:=HK.out.rg.ps
 cases h4:rec .body ⟨s.i+1,s.N⟩ with
 | error e=>
  have hre:res=.error e:=by rw [← HQ.out]; simp [block,blockKids,begins,PM.bind,pNeed,h4]
  subst hre
  simp only [h4,fnOf,moreOf] at c4
  clear h4 hps
  go_wp2_with fail
  refine c4.mono ?_
  rintro x w4 ⟨rfl,T4⟩
  exact ⟨rfl,rfl,HK.out.rg.bad T4⟩
 | ok at_=>
  obtain ⟨a,t⟩:=at_
  obtain ⟨_,_,hit,_⟩:=(HP.out.1.fwd .body (by simp [okPh])).ok hps.ok hps.cnt h4
  have hit:s.i+1 < t.i:=hit
  simp only [h4,fnOf,moreOf] at c4
  have H4:=Hid.mk7 (And.intro h4 hit)
  clear h4 hps hit
  go_wp2_with fail
  refine c4.mono ?_
  intro x w4 hx
  obtain ⟨rfl,Nv4,M4,mk4⟩:=HK.out.rd (Below.refl _ _) hx
  have n0:=mk4.bx.n0
  have n4:=mk4.bx.n4
  have z0:=mk4.bx.fz 0
  have z4:=mk4.bx.fz 4
  have lq:=mk4.bx.lt
  have HM:=Hid.mk7 (mk4.oneA hT (a:Int) 10)
  clear c4 hx mk4 HK t1 t3
  go_wp2_with fail
  generalize hW:(World.alloc (World.setCell (World.setCell w4 _ _) _ _) _)=w5 at HM ⊢
  clear hW n0 n4 z0 z4 lq
  cases h6:wrd T ⟨#[99,97,116,99,104]⟩ t.i with
  | false=>
   have hre:res=.error t.i:=by rw [← HQ.out]; simp [block,blockKids,begins,PM.bind,pNeed,H4.out.1,h6]
   subst hre
   have c6:=rg_word_bad HM.out.rg h6
   clear h6
   go_wp2_with fail
   refine c6.mono ?_
   rintro x w6 ⟨rfl,T6⟩
   exact ⟨rfl,rfl,T6⟩
  | true=>
   have c6:=rg_word HM.out.rg h6
   unfold Tkn at c6
   generalize (tokAt T t.i).val=tv6 at c6
   have H6:=Hid.mk7 h6
   clear h6
   go_wp2_with fail
   refine c6.mono ?_
   rintro x w6 ⟨rfl,r6,G6⟩
   have mk6:=HM.out.to r6 (Stp.ofG G6)
   have hps:=mk6.rg.ps
   have hE:=fun WW (hW:Below w6.heap.size w6 WW)=>rd_row_catchClause (HP.out.1.fwd .cclause trivial) (HP.out.1.run .cclause trivial) ⟨#[59]⟩ (s:=⟨t.i+1,t.N⟩) (by have:=H4.out.2; show s.i+1≤t.i+1; omega) (mk6.rg.below hW).ps
   have n4:=mk6.bx.n4
   have HK6:=Hid.mk7 mk6
   clear c6 r6 G6 mk6 HM
   cases h7:row T ⟨#[59]⟩ (rec .cclause) ⟨t.i+1,t.N⟩ with
   | error e=>
    have hre:res=.error e:=by rw [← HQ.out]; simp [block,blockKids,begins,PM.bind,pNeed,H4.out.1,H6.out,h7]
    subst hre
    simp only [h7] at hE
    clear h7 hps
    go_wp2_with fail
    go_region_law (rw [if_pos (by rfl)]; go_simp; go_at_call 120; refine (hE _ (Below.refl _ _).drew).mono ?_; rintro x w7 ⟨rfl,T7⟩; refine idle_of w7 ⟨rfl,rfl,(HK6.out.rg.below (Below.refl _ _).drew).bad T7⟩ ?_)
    all_goals trivial
   | ok kt=>
    obtain ⟨ks,u⟩:=kt
    have hlen:=row_len (HP.out.1.fwd .cclause trivial) hps.ok h7
    obtain ⟨h5a,_,_⟩:=(row_ok2 (Alike.refl T) (x:=⟨#[59]⟩) (d:=1) (by omega) (fun s s' hs=>HP.out.1.ok2 .cclause trivial s s' hs) hps.ok).fin (by omega) hps.cnt h7
    have hu:=h5a.il
    have hal:([(a:Int)].length+ks.length)*8≤140737488355328:=by simp; omega
    have hal2:[(a:Int)].length+ks.length≤4611686018427387903:=by simp; omega
    have HAL:=Hid.mk7 (And.intro hal hal2)
    have H7:=Hid.mk7 h7
    simp only [h7] at hE
    clear h7 hps hlen h5a hu hal hal2
    go_wp2_with fail
    go_region_law (first
     | (rw [if_pos (by rfl)]; go_simp; go_at_call 120; refine (hE _ (Below.refl _ _).drew).mono ?_; intro x w7 hx; obtain ⟨V7,rfl,⟨a7,p7,hV7⟩,⟨Nv7,M7,mk7,kd7⟩,_⟩:=HK6.out.stepL (Below.refl _ _).drew hx; subst hV7; have k7:=mk7.bx.n4; have q7:=mk7.bx.lt; have HK7:=Hid.mk7 mk7; have HD7:=Hid.mk7 kd7; clear hx mk7 kd7; dsimp only)
     | (refine step_append_k (by rfl) (.tmp 78) (.tmp 82) (by rfl) Tryz.intTypes (by rfl) (by rfl) HK7.out.bx.own (OwnK.sl HD7.out.own) (ints_one _) HAL.out.1 HAL.out.2 ?_; intro V8 w8 ho8 T8 hv8; obtain ⟨aV8,cV8,hV8,_,_⟩:=ho8.sl.form; subst hV8; obtain ⟨c8,f8,l8⟩:=HK7.out.cell (Below.refl _ _) T8))
    all_goals
     have HM:=Hid.mk7 (HK7.out.moreL hT (Below.refl _ _) ho8 T8 hv8)
     clear ho8 T8 hv8 c8 f8 l8 k7 q7 HK7 HD7
     generalize w8.setCell _ _=w9 at HM ⊢
     cases h8:wrd T ⟨#[101,110,100]⟩ u.i with
     | false=>
      have hre:res=.error u.i:=by rw [← HQ.out]; simp [block,blockKids,begins,PM.bind,pNeed,PM.ret,H4.out.1,H6.out,H7.out,h8]
      subst hre
      have c8:=rg_word_bad HM.out.rg h8
      clear h8
      go_wp2_with fail
      refine c8.mono ?_
      rintro x w8 ⟨rfl,T8⟩
      exact ⟨rfl,rfl,T8⟩
     | true=>
      have hre:block T rec ⟨4,⟨#[116,114,121]⟩,tn,ta⟩ s=.ok (u.N.length,⟨u.i+1,u.N++[⟨10,⟨#[]⟩,⟨#[]⟩,0,((a:Int) :: ks),ta⟩]⟩):=by simp [block,blockKids,begins,PM.bind,pNeed,PM.ret,pAdd,H4.out.1,H6.out,H7.out,h8]
      obtain ⟨q1,q2⟩:=HP.out.2.1 _ _ hre
      have hre2:res=.ok (u.N.length,⟨u.i+1,u.N++[⟨10,⟨#[]⟩,⟨#[]⟩,0,((a:Int) :: ks),ta⟩]⟩):=HQ.out.symm.trans hre
      subst hre2
      have HF:=Hid.mk7 (And.intro q1 q2)
      have c8:=rg_word HM.out.rg h8
      unfold Tkn at c8
      generalize (tokAt T u.i).val=tv8 at c8
      clear h8 hre q1 q2
      go_wp2_with fail
      refine c8.mono ?_
      rintro x w8 ⟨rfl,r8,G8⟩
      have mk8:=HM.out.to r8 (Stp.ofG G8)
      have c9:=rg_add mk8.rg hT ⟨10,⟨#[]⟩,⟨#[]⟩,0,.slice aV8 ([(a:Int)].length+ks.length) cV8,((a:Int) :: ks),ta⟩ mk8.kd HF.out.1 HF.out.2
      simp only [Nd.val] at c9
      obtain ⟨n0,n1,n2,n3,n4,n5,_,_,_,_,_⟩:=mk8.bx
      clear c8 r8 G8 mk8 HM
      go_wp2_with fail
      refine c9.mono ?_
      rintro x w9 ⟨rfl,Nv9,r9,_⟩
      have H9:=Hid.mk7 r9
      clear c9 r9
      go_wp2
      go_ret
      exact H9.out.of
theorem rd_block_receive {T:List Tk} {rec:Ph→PM Nat} {s:Ps} (tn ta:Int) (hlt:s.i < T.length) (E:Env T rec (s.i+1)) (hfin:∀ a t,block T rec ⟨4,⟨#[114,101,99,101,105,118,101]⟩,tn,ta⟩ s=.ok (a,t)→S2 T t t∧Cnt T t) {w:World} {g:Nat} {Tv Nv:Value} {N:List Nd} (h:PS w g Tv T Nv N s) :
  Calls Tryz.prog 186 #[.pointer (some ⟨g,0,none⟩),(⟨4,⟨#[114,101,99,101,105,118,101]⟩,tn,ta⟩:Tk).val] w (Rd T w g Tv Nv N (block T rec ⟨4,⟨#[114,101,99,101,105,118,101]⟩,tn,ta⟩ s)):=by
 obtain ⟨res,hres⟩:∃ res,block T rec ⟨4,⟨#[114,101,99,101,105,118,101]⟩,tn,ta⟩ s=res:=⟨_,rfl⟩
 rw [hres]
 have HQ:=Hid.mk7 hres
 have htl:=h.at_.tl
 have hgl:=h.at_.lt
 have hmf:=Tryz.makeFn
 have HP:=Hid.mk7 (And.intro E (And.intro hfin h))
 have r1:=(Rg.refl h).below (Below.alloc0 w (.cells #[.int .i64 4,.string ⟨#[114,101,99,101,105,118,101]⟩,.int .i64 tn,.int .i64 ta] 40))
 clear hres hfin E h
 simp only [Tk.val]
 have hT:0 < T.length:=by omega
 go_enter Tryz.func186,Tryz.ntmps186
 have c1:=rg_need r1 hlt
 unfold Tkn at c1
 generalize (tokAt T s.i).val=tv1 at c1
 clear r1
 go_wp2_with fail
 refine c1.mono ?_
 rintro x w2 ⟨rfl,r2,G2⟩
 have hne:w.heap.size≠g:=by omega
 have t1:=G2.cell (p:=⟨w.heap.size,1,none⟩) (v:=.string ⟨#[114,101,99,101,105,118,101]⟩) (by simp) hne
 have t3:=G2.cell (p:=⟨w.heap.size,3,none⟩) (v:=.int .i64 ta) (by simp) hne
 have l2:w.heap.size < w2.heap.size:=World.block_lt_of_cell? w2 _ t1
 have HK:=Hid.mk7 (MkI.of_kd r2 (Kd.nil _ _ _ _ _ _ _) hT 0 ⟨#[]⟩ ⟨#[]⟩ 0 ta)
 clear c1 r2 G2
 have c4:=rd_choices (s:=⟨s.i+1,s.N⟩) HP.out.1 HK.out.rg.ps
 cases h4:choices T rec ⟨s.i+1,s.N⟩ with
 | error e=>
  have hre:res=.error e:=by rw [← HQ.out]; simp [block,blockKids,begins,PM.bind,pNeed,h4]
  subst hre
  rw [h4] at c4
  clear h4
  go_wp2_with fail
  refine c4.mono ?_
  rintro x w4 ⟨rfl,T4⟩
  exact ⟨rfl,rfl,HK.out.rg.bad T4⟩
 | ok kt=>
  obtain ⟨ks,t⟩:=kt
  rw [h4] at c4
  have H4:=Hid.mk7 h4
  clear h4
  go_wp2_with fail
  refine c4.mono ?_
  intro x w4 hx
  obtain ⟨V4,rfl,⟨a4,p4,hV4⟩,⟨Nv4,M4,mk4,kd4⟩,nq⟩:=HK.out.stepL (Below.refl _ _) hx
  subst hV4
  have n0:=mk4.bx.n0
  have n4:=mk4.bx.n4
  have z0:=mk4.bx.fz 0
  have z4:=mk4.bx.fz 4
  have lq:=mk4.bx.lt
  have HM:=Hid.mk7 ((mk4.kind 12).kids (kd4.setQ nq 0 _) nq)
  clear c4 hx mk4 kd4 nq HK t1 t3
  go_wp2_with fail
  generalize hW:(World.setCell (World.setCell w4 _ _) _ _)=w5 at HM ⊢
  clear hW n0 n4 z0 z4 lq
  cases h8:wrd T ⟨#[101,110,100]⟩ t.i with
  | false=>
   have hre:res=.error t.i:=by rw [← HQ.out]; simp [block,blockKids,begins,PM.bind,pNeed,PM.ret,H4.out,h8]
   subst hre
   have c8:=rg_word_bad HM.out.rg h8
   clear h8
   go_wp2_with fail
   refine c8.mono ?_
   rintro x w8 ⟨rfl,T8⟩
   exact ⟨rfl,rfl,T8⟩
  | true=>
   have hre:block T rec ⟨4,⟨#[114,101,99,101,105,118,101]⟩,tn,ta⟩ s=.ok (t.N.length,⟨t.i+1,t.N++[⟨12,⟨#[]⟩,⟨#[]⟩,0,ks,ta⟩]⟩):=by simp [block,blockKids,begins,PM.bind,pNeed,PM.ret,pAdd,H4.out,h8]
   obtain ⟨q1,q2⟩:=HP.out.2.1 _ _ hre
   have hre2:res=.ok (t.N.length,⟨t.i+1,t.N++[⟨12,⟨#[]⟩,⟨#[]⟩,0,ks,ta⟩]⟩):=HQ.out.symm.trans hre
   subst hre2
   have HF:=Hid.mk7 (And.intro q1 q2)
   have c8:=rg_word HM.out.rg h8
   unfold Tkn at c8
   generalize (tokAt T t.i).val=tv8 at c8
   clear h8 hre q1 q2
   go_wp2_with fail
   refine c8.mono ?_
   rintro x w8 ⟨rfl,r8,G8⟩
   have mk8:=HM.out.to r8 (Stp.ofG G8)
   have c9:=rg_add mk8.rg hT ⟨12,⟨#[]⟩,⟨#[]⟩,0,.slice a4 ks.length p4,ks,ta⟩ mk8.kd HF.out.1 HF.out.2
   simp only [Nd.val] at c9
   obtain ⟨n0,n1,n2,n3,n4,n5,_,_,_,_,_⟩:=mk8.bx
   clear c8 r8 G8 mk8 HM
   go_wp2_with fail
   refine c9.mono ?_
   rintro x w9 ⟨rfl,Nv9,r9,_⟩
   have H9:=Hid.mk7 r9
   clear c9 r9
   go_wp2
   go_ret
   exact H9.out.of
theorem rd_block {T:List Tk} {rec:Ph→PM Nat} {s:Ps} (E:Env T rec (s.i+1)) (hfin:∀ a t,block T rec (tokAt T s.i) s=.ok (a,t)→S2 T t t∧Cnt T t) {w:World} {g:Nat} {Tv Nv:Value} {N:List Nd} (h:PS w g Tv T Nv N s) :
  Calls Tryz.prog 186 #[.pointer (some ⟨g,0,none⟩),(tokAt T s.i).val] w (Rd T w g Tv Nv N (block T rec (tokAt T s.i) s)):=by
 have hlt:(tokAt T s.i).kind≠0→s.i < T.length:=tok_lt
 generalize tokAt T s.i=t at hfin hlt ⊢
 obtain ⟨tk,tt,tn,ta⟩:=t
 by_cases hk:tk=4
 ·subst hk
  have hl:=hlt (by simp)
  clear hlt
  by_cases h0:tt=⟨#[98,101,103,105,110]⟩
  ·subst h0
   exact rd_block_begin tn ta hl E hfin h
  ·by_cases h1:tt=⟨#[99,97,115,101]⟩
   ·subst h1
    exact rd_block_case tn ta hl E hfin h
   ·by_cases h2:tt=⟨#[114,101,99,101,105,118,101]⟩
    ·subst h2
     exact rd_block_receive tn ta hl E hfin h
    ·by_cases h3:tt=⟨#[116,114,121]⟩
     ·subst h3
      exact rd_block_try tn ta hl E hfin h
     ·exact rd_block_text tt tn ta h0 h1 h2 h3 E hfin h
 ·exact rd_block_kind tk tt tn ta hk E hfin h
theorem Env.named {T:List Tk} {rec:Ph→PM Nat} {i0:Nat} (E:Env T rec i0) {t:Ps} (ht:S2 T t t) (hl:t.i < T.length) (hc:Cnt T t):∀ a u,named T rec (tokAt T t.i) t=.ok (a,u)→S2 T u u∧Cnt T u:=fun _ _ e=>⟨((named_ok2 (Alike.refl T) E.ok2 ht hl).fin (by omega) hc e).1,((named_ok2 (Alike.refl T) E.ok2 ht hl).fin (by omega) hc e).2.1⟩
theorem Env.bracketed {T:List Tk} {rec:Ph→PM Nat} {i0:Nat} (E:Env T rec i0) {t:Ps} (ht:S2 T t t) (hc:Cnt T t):∀ a u,bracketed T rec (tokAt T t.i) t=.ok (a,u)→S2 T u u∧Cnt T u:=fun _ _ e=>⟨((bracketed_ok2 (Alike.refl T) E.ok2 ht).fin (by omega) hc e).1,((bracketed_ok2 (Alike.refl T) E.ok2 ht).fin (by omega) hc e).2.1⟩
theorem Env.block {T:List Tk} {rec:Ph→PM Nat} {i0:Nat} (E:Env T rec i0) {t:Ps} (ht:S2 T t t) (hc:Cnt T t):∀ a u,block T rec (tokAt T t.i) t=.ok (a,u)→S2 T u u∧Cnt T u:=fun _ _ e=>⟨((block_ok2 (Alike.refl T) E.ok2 ht).fin (by omega) hc e).1,((block_ok2 (Alike.refl T) E.ok2 ht).fin (by omega) hc e).2.1⟩
theorem rd_single {T:List Tk} {rec:Ph→PM Nat} {s:Ps} (E:Env T rec (s.i+1)) (hfin:∀ a t,single T rec (tokAt T s.i) s=.ok (a,t)→S2 T t t∧Cnt T t) {w:World} {g:Nat} {Tv Nv:Value} {N:List Nd} (h:PS w g Tv T Nv N s) :
  Calls Tryz.prog 177 #[.pointer (some ⟨g,0,none⟩),(tokAt T s.i).val] w (Rd T w g Tv Nv N (single T rec (tokAt T s.i) s)):=by
 obtain ⟨res,hres⟩:∃ res,single T rec (tokAt T s.i) s=res:=⟨_,rfl⟩
 rw [hres]
 have htl:=h.at_.tl
 have hgl:=h.at_.lt
 have k1:=h.at_.c1.1
 have f1:=h.at_.c1.2
 have hlt:(tokAt T s.i).kind≠0→s.i < T.length:=tok_lt
 have hN:=fun (hl:s.i < T.length) o=>rd_named hl E (E.named h.ok hl h.cnt) (((Rg.refl h).below (Below.alloc0 w o)).ps)
 have hB:=fun o=>rd_bracketed E (E.bracketed h.ok h.cnt) (((Rg.refl h).below (Below.alloc0 w o)).ps)
 have hK:=fun o=>rd_block E (E.block h.ok h.cnt) (((Rg.refl h).below (Below.alloc0 w o)).ps)
 have HR:=Hid.mk7 (fun o=>(Rg.refl h).below (Below.alloc0 w o))
 have HS:=Hid.mk7 (fun (hl:s.i < T.length) o=>((Rg.refl h).skip 1 hl).below (Below.alloc0 _ o))
 rw [show ((s.i+1:Nat):Int)=(s.i:Int)+1 by omega] at HS
 clear h E
 generalize tokAt T s.i=t at hres hfin hlt hN hB hK ⊢
 obtain ⟨tk,tt,tn,ta⟩:=t
 have HQ:=Hid.mk7 hres
 have HP:=Hid.mk7 hfin
 clear hres hfin
 simp only [Tk.val] at hN hB hK ⊢
 by_cases h3:tk=3
 ·subst h3
  have hl:=hlt (by simp)
  have hT:0 < T.length:=by omega
  have hre:single T rec ⟨3,tt,tn,ta⟩ s=.ok (s.N.length,⟨s.i+1,s.N++[⟨1,⟨#[]⟩,⟨#[]⟩,tn,[],ta⟩]⟩):=by simp [single,PM.bind,pSkip,pAdd]
  obtain ⟨q1,q2⟩:=HP.out _ _ hre
  have hre2:res=.ok (s.N.length,⟨s.i+1,s.N++[⟨1,⟨#[]⟩,⟨#[]⟩,tn,[],ta⟩]⟩):=HQ.out.symm.trans hre
  subst hre2
  have HF:=Hid.mk7 (And.intro q1 q2)
  have c9:=fun o=>rg_add (HS.out hl o) hT ⟨1,⟨#[]⟩,⟨#[]⟩,tn,.slice none 0 0,[],ta⟩ (Kd.nil _ _ _ _ _ _ _) HF.out.1 HF.out.2
  simp only [Nd.val] at c9
  clear hre q1 q2 hN hB hK HR HS hlt
  go_enter Tryz.func177,Tryz.ntmps177
  go_wp2_with fail
  refine (c9 _).mono ?_
  rintro x w9 ⟨rfl,Nv9,r9,_⟩
  have H9:=Hid.mk7 r9
  clear c9 r9 k1 f1
  go_wp2
  go_ret
  exact H9.out.of
 ·by_cases h2:tk=2
  ·subst h2
   have hl:=hlt (by simp)
   have hT:0 < T.length:=by omega
   have hre:single T rec ⟨2,tt,tn,ta⟩ s=.ok (s.N.length,⟨s.i+1,s.N++[⟨3,tt,⟨#[]⟩,0,[],ta⟩]⟩):=by simp [single,PM.bind,pSkip,pAdd]
   obtain ⟨q1,q2⟩:=HP.out _ _ hre
   have hre2:res=.ok (s.N.length,⟨s.i+1,s.N++[⟨3,tt,⟨#[]⟩,0,[],ta⟩]⟩):=HQ.out.symm.trans hre
   subst hre2
   have HF:=Hid.mk7 (And.intro q1 q2)
   have c9:=fun o=>rg_add (HS.out hl o) hT ⟨3,tt,⟨#[]⟩,0,.slice none 0 0,[],ta⟩ (Kd.nil _ _ _ _ _ _ _) HF.out.1 HF.out.2
   simp only [Nd.val] at c9
   clear hre q1 q2 hN hB hK HR HS hlt
   go_enter Tryz.func177,Tryz.ntmps177
   go_wp2_with fail
   refine (c9 _).mono ?_
   rintro x w9 ⟨rfl,Nv9,r9,_⟩
   have H9:=Hid.mk7 r9
   clear c9 r9 k1 f1
   go_wp2
   go_ret
   exact H9.out.of
  ·by_cases h1:tk=1
   ·subst h1
    have hl:=hlt (by simp)
    have hre:res=named T rec ⟨1,tt,tn,ta⟩ s:=by rw [← HQ.out]; simp [single]
    have c5:=hN hl
    rw [← hre] at c5
    clear hre hN hB hK k1 f1 hlt
    cases res with
    | error e=>
     go_enter Tryz.func177,Tryz.ntmps177
     go_wp2_with fail
     refine (c5 _).mono ?_
     rintro x w5 ⟨rfl,T5⟩
     exact ⟨rfl,rfl,(HR.out _).bad T5⟩
    | ok bt=>
     obtain ⟨b,u⟩:=bt
     go_enter Tryz.func177,Tryz.ntmps177
     go_wp2_with fail
     refine (c5 _).mono ?_
     intro x w5 hx
     obtain ⟨rfl,Nv5,M5,r5,_⟩:=(HR.out _).rd hx
     have H5:=Hid.mk7 r5
     clear c5 hx r5
     go_wp2
     go_ret
     exact H5.out.of
   ·by_cases h5:tk=5
    ·subst h5
     have hre:res=bracketed T rec ⟨5,tt,tn,ta⟩ s:=by rw [← HQ.out]; simp [single]
     have c5:=hB
     rw [← hre] at c5
     clear hre hN hB hK k1 f1 hlt
     cases res with
     | error e=>
      go_enter Tryz.func177,Tryz.ntmps177
      go_wp2_with fail
      refine (c5 _).mono ?_
      rintro x w5 ⟨rfl,T5⟩
      exact ⟨rfl,rfl,(HR.out _).bad T5⟩
     | ok bt=>
      obtain ⟨b,u⟩:=bt
      go_enter Tryz.func177,Tryz.ntmps177
      go_wp2_with fail
      refine (c5 _).mono ?_
      intro x w5 hx
      obtain ⟨rfl,Nv5,M5,r5,_⟩:=(HR.out _).rd hx
      have H5:=Hid.mk7 r5
      clear c5 hx r5
      go_wp2
      go_ret
      exact H5.out.of
    ·have e3:(tk == 3)=false:=by simpa using h3
     have e2:(tk == 2)=false:=by simpa using h2
     have e1:(tk == 1)=false:=by simpa using h1
     have e5:(tk == 5)=false:=by simpa using h5
     have hre:res=block T rec ⟨tk,tt,tn,ta⟩ s:=by rw [← HQ.out]; simp [single,h3,h2,h1,h5]
     have c5:=hK
     rw [← hre] at c5
     clear hre hN hB hK k1 f1 hlt
     clear h3 h2 h1 h5
     cases res with
     | error e=>
      go_enter Tryz.func177,Tryz.ntmps177
      go_wp2_with fail
      refine (c5 _).mono ?_
      rintro x w5 ⟨rfl,T5⟩
      exact ⟨rfl,rfl,(HR.out _).bad T5⟩
     | ok bt=>
      obtain ⟨b,u⟩:=bt
      go_enter Tryz.func177,Tryz.ntmps177
      go_wp2_with fail
      refine (c5 _).mono ?_
      intro x w5 hx
      obtain ⟨rfl,Nv5,M5,r5,_⟩:=(HR.out _).rd hx
      have H5:=Hid.mk7 r5
      clear c5 hx r5
      go_wp2
      go_ret
      exact H5.out.of
end Go.Proofs.YtlciaafincgdeaaGreatDoor
