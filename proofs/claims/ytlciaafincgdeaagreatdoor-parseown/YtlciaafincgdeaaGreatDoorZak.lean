/-
  Layer 11 (parse): the tokens that the program's parser takes, one by one; what stands in brackets.
  Layer 11 (parse): phrases in brackets.
  Layer 11 (parse): the program's parser keeps a node; nodes over a row of phrases; arguments.
  Layer 11 (parse): what stands behind a clause's pattern.
-/
import Derived.Test.YtlciaafincgdeaaGreatDoorZag
import Derived.Test.YtlciaafincgdeaaGreatDoorPG6
namespace Go.Proofs.YtlciaafincgdeaaGreatDoor
open Go.RowKit
set_option maxHeartbeats 6400000
set_option maxRecDepth 100000
section
variable {T:List Tk} {w wr:World} {g:Nat} {Tv Nv Nv1:Value} {N M1:List Nd} {s:Ps}
def Tkn (T:List Tk) (w wr:World) (g:Nat) (Tv Nv:Value) (N:List Nd) (s:Ps) (Nv1:Value) (M1:List Nd) (e:Ending) (w2:World):Prop:=e=.returned (tokAt T s.i).val∧Rg T w w2 g Tv Nv N ⟨s.i+1,s.N⟩ Nv1 M1∧Turned (fun k=>k=g) wr w2
theorem Rg.took (r:Rg T w wr g Tv Nv N s Nv1 M1) (hi:s.i < T.length) {e:Ending} {w2:World} (h:Took wr g Tv T s.i Nv1 (N++M1) e w2):Tkn T w wr g Tv Nv N s Nv1 M1 e w2:=by
 obtain ⟨rfl,p,T2⟩:=h
 refine ⟨rfl,⟨⟨p,r.ps.n,r.ps.ok.next hi,?_⟩,r.off,r.st.trans (Stp.ofG T2)⟩,T2⟩
 have:=r.ps.cnt
 unfold Cnt at this ⊢
 simp only
 omega
theorem Rg.stop (r:Rg T w wr g Tv Nv N s Nv1 M1) {e:Ending} {w2:World} (h:e=badAt s.i∧Below wr.heap.size wr w2):e=badAt s.i∧Turned (fun k=>k=g∨blk Nv k) w w2:=⟨h.1,r.bad (Turned.ofBelow h.2)⟩
theorem rg_sign (r:Rg T w wr g Tv Nv N s Nv1 M1) {x:ByteArray} (h:sgn T x s.i=true):Calls Tryz.prog 94 #[.pointer (some ⟨g,0,none⟩),.string x] wr (Tkn T w wr g Tv Nv N s Nv1 M1):=(ps_sign r.ps.at_ (sgn_lt h) x h).mono fun _ _ h2=>r.took (sgn_lt h) h2
theorem rg_sign_bad (r:Rg T w wr g Tv Nv N s Nv1 M1) {x:ByteArray} (h:sgn T x s.i=false):Calls Tryz.prog 94 #[.pointer (some ⟨g,0,none⟩),.string x] wr (fun e w2=>e=badAt s.i∧Turned (fun k=>k=g∨blk Nv k) w w2):=(ps_sign_bad r.ps.at_ x h).mono fun _ _ h2=>r.stop h2
theorem rg_word (r:Rg T w wr g Tv Nv N s Nv1 M1) {x:ByteArray} (h:wrd T x s.i=true):Calls Tryz.prog 190 #[.pointer (some ⟨g,0,none⟩),.string x] wr (Tkn T w wr g Tv Nv N s Nv1 M1):=(ps_word r.ps.at_ (wrd_lt h) x h).mono fun _ _ h2=>r.took (wrd_lt h) h2
theorem rg_word_bad (r:Rg T w wr g Tv Nv N s Nv1 M1) {x:ByteArray} (h:wrd T x s.i=false):Calls Tryz.prog 190 #[.pointer (some ⟨g,0,none⟩),.string x] wr (fun e w2=>e=badAt s.i∧Turned (fun k=>k=g∨blk Nv k) w w2):=(ps_word_bad r.ps.at_ x h).mono fun _ _ h2=>r.stop h2
theorem rg_atom (r:Rg T w wr g Tv Nv N s Nv1 M1) {x:ByteArray} (h:atm T x s.i=true):Calls Tryz.prog 95 #[.pointer (some ⟨g,0,none⟩),.string x] wr (Tkn T w wr g Tv Nv N s Nv1 M1):=(ps_atom r.ps.at_ (atm_lt h) x h).mono fun _ _ h2=>r.took (atm_lt h) h2
theorem rg_atom_bad (r:Rg T w wr g Tv Nv N s Nv1 M1) {x:ByteArray} (h:atm T x s.i=false):Calls Tryz.prog 95 #[.pointer (some ⟨g,0,none⟩),.string x] wr (fun e w2=>e=badAt s.i∧Turned (fun k=>k=g∨blk Nv k) w w2):=(ps_atom_bad r.ps.at_ x h).mono fun _ _ h2=>r.stop h2
theorem rg_kind (r:Rg T w wr g Tv Nv N s Nv1 M1) {k:Int} (hk:k≠0) (h:knd T k s.i=true):Calls Tryz.prog 96 #[.pointer (some ⟨g,0,none⟩),.int .i64 k] wr (Tkn T w wr g Tv Nv N s Nv1 M1):=(ps_kind r.ps.at_ (knd_lt hk h) k (by simpa [knd] using h)).mono fun _ _ h2=>r.took (knd_lt hk h) h2
theorem rg_kind_bad (r:Rg T w wr g Tv Nv N s Nv1 M1) {k:Int} (h:knd T k s.i=false):Calls Tryz.prog 96 #[.pointer (some ⟨g,0,none⟩),.int .i64 k] wr (fun e w2=>e=badAt s.i∧Turned (fun k=>k=g∨blk Nv k) w w2):=(ps_kind_bad r.ps.at_ k (by simpa [knd] using h)).mono fun _ _ h2=>r.stop h2
theorem rg_isSign (r:Rg T w wr g Tv Nv N s Nv1 M1) (x:ByteArray):Calls Tryz.prog 98 #[.pointer (some ⟨g,0,none⟩),.string x] wr (fun e w2=>e=.returned (.bool (sgn T x s.i))∧Rg T w w2 g Tv Nv N s Nv1 M1∧Below wr.heap.size wr w2):=(ps_isSign r.ps.at_ x).mono fun _ _ h2=>⟨h2.1,r.below h2.2,h2.2⟩
theorem rg_isWord (r:Rg T w wr g Tv Nv N s Nv1 M1) (x:ByteArray):Calls Tryz.prog 146 #[.pointer (some ⟨g,0,none⟩),.string x] wr (fun e w2=>e=.returned (.bool (wrd T x s.i))∧Rg T w w2 g Tv Nv N s Nv1 M1∧Below wr.heap.size wr w2):=(ps_isWord r.ps.at_ x).mono fun _ _ h2=>⟨h2.1,r.below h2.2,h2.2⟩
theorem rg_peek (r:Rg T w wr g Tv Nv N s Nv1 M1):Calls Tryz.prog 76 #[.pointer (some ⟨g,0,none⟩)] wr (fun e w2=>e=.returned (tokAt T s.i).val∧Rg T w w2 g Tv Nv N s Nv1 M1∧Below wr.heap.size wr w2):=(ps_peek r.ps.at_).mono fun _ _ h2=>⟨h2.1,r.below h2.2,h2.2⟩
end
theorem rd_whole {T:List Tk} {m:PM Nat} {i0:Nat} (hr:Runs T 156 [.int .i64 1] m i0):Runs T 145 [] m i0:=by
 intro s hi w g Tv Nv N h
 have hE:=hr s hi w g Tv Nv N h
 show Calls Tryz.prog 145 #[.pointer (some ⟨g,0,none⟩)] w _
 clear hr
 cases hms:m s with
 | error e=>
  rw [hms] at hE
  go_enter Tryz.func145,Tryz.ntmps145
  go_wp2_with fail
  refine hE.mono ?_
  rintro x w1 ⟨rfl,T1⟩
  exact ⟨rfl,rfl,T1⟩
 | ok at_=>
  obtain ⟨a,t⟩:=at_
  rw [hms] at hE
  go_enter Tryz.func145,Tryz.ntmps145
  go_wp2_with fail
  refine hE.mono ?_
  rintro x w1 ⟨rfl,h1⟩
  have H1:=Hid.mk7 h1
  clear h1 hE
  go_wp2
  go_ret
  exact ⟨rfl,H1.out⟩
section
variable {T:List Tk} {w wr w2:World} {g:Nat} {Tv Nv Nv1 V:Value} {N M1:List Nd} {s t:Ps} {l:List Int}
theorem Rg.rdL (h:Rg T w wr g Tv Nv N s Nv1 M1) {x:Ending} (hr:RdL T wr g Tv Nv1 (N++M1) (.ok (l,t)) x w2):∃ V,x=.returned V∧∃ Nv2 M2,Rg T w w2 g Tv Nv N t Nv2 M2∧Kd T w w2 g Tv Nv2 (N++M2) V l∧Stp g Nv1 Nv2 wr w2∧∃ M3,M2=M1++M3∧∀ n∈M3,∀ k,blk n.kv k→wr.heap.size≤k:=by
 obtain ⟨V,rfl,Nv2,M3,o,p,S,ow,fv⟩:=hr
 exact ⟨V,rfl,Nv2,M1++M3,h.more o p S,⟨ow,fun k hk=>⟨Nat.le_trans h.size (fv k hk).1,by have:=(fv k hk).2; rwa [List.append_assoc] at this⟩⟩,S,M3,rfl,o⟩
theorem Kd.ofG (h:Kd T w wr g Tv Nv1 N V l) (T2:Turned (fun k=>k=g) wr w2):Kd T w w2 g Tv Nv1 N V l:=⟨OwnK.turned h.own T2 (fun k hk e=>(h.fv k hk).2.g e),fun k hk=>⟨(h.fv k hk).1,⟨(h.fv k hk).2.g,(h.fv k hk).2.t,(h.fv k hk).2.n,(h.fv k hk).2.k⟩⟩⟩
theorem Kd.nil (T:List Tk) (w wr:World) (g:Nat) (Tv Nv1:Value) (N:List Nd):Kd T w wr g Tv Nv1 N (.slice none 0 0) []:=⟨OwnK.nil 1 _,fun _ e=>e.elim⟩
theorem Rg.ofL (h:Rg T w wr g Tv Nv N t Nv1 M1) (k:Kd T w wr g Tv Nv1 (N++M1) V l):RdL T w g Tv Nv N (.ok (l,t)) (.returned V) wr:=⟨V,rfl,Nv1,M1,h.off,h.ps,h.st,k.own,k.fv⟩
end
theorem rd_enclosed_whole {T:List Tk} {m:PM Nat} {i0:Nat} (hm:Fwd T m) (hr:Runs T 145 [] m i0) (l r:ByteArray) {s:Ps} (hi:i0≤s.i+1) {w:World} {g:Nat} {Tv Nv:Value} {N:List Nd} (h:PS w g Tv T Nv N s) :
  Calls Tryz.prog 118 #[.pointer (some ⟨g,0,none⟩),.string l,.string r,.func (.func 145) #[.pointer (some ⟨g,0,none⟩)] #[]] w (RdL T w g Tv Nv N (enclosed T l r m s)):=by
 have r0:=Rg.refl h
 cases h1:sgn T l s.i with
 | false=>
  have c1:=rg_sign_bad r0 h1
  rw [show enclosed T l r m s=.error s.i by simp [enclosed,PM.bind,pNeed,h1]]
  clear hm hr h r0 h1
  go_enter Tryz.func118,Tryz.ntmps118
  go_wp2_with fail
  refine c1.mono ?_
  rintro x w1 ⟨rfl,T1⟩
  exact ⟨rfl,rfl,T1⟩
 | true=>
  have c1:=rg_sign r0 h1
  cases h2:sgn T r (s.i+1) with
  | true=>
   rw [show enclosed T l r m s=.ok ([],⟨s.i+2,s.N⟩) by simp [enclosed,PM.bind,pNeed,h1,pIf,h2,PM.ret]]
   have H2:=Hid.mk7 h2
   clear hm hr h r0 h1 h2
   unfold Tkn at c1
   generalize (tokAt T s.i).val=tv at c1
   go_enter Tryz.func118,Tryz.ntmps118
   go_wp2_with fail
   refine c1.mono ?_
   rintro x w1 ⟨rfl,r1,_⟩
   have c2:=rg_isSign r1 r
   simp only [H2.out] at c2
   clear c1 r1
   go_wp2_with fail
   refine c2.mono ?_
   rintro x w2 ⟨rfl,r2,_⟩
   have c3:=rg_sign r2 (x:=r) H2.out
   unfold Tkn at c3
   generalize (tokAt T _).val=tv2 at c3
   clear c2 r2
   go_wp2_with fail
   refine c3.mono ?_
   rintro x w3 ⟨rfl,r3,_⟩
   have H3:=Hid.mk7 r3
   clear c3 r3
   go_wp2
   go_ret
   exact Rg.ofL H3.out (Kd.nil _ _ _ _ _ _ _)
  | false=>
   have H2:=Hid.mk7 h2
   have H1:=Hid.mk7 h1
   have HF:=Hid.mk7 (And.intro hm (And.intro hr hi))
   cases hrow:row T ⟨#[44]⟩ m ⟨s.i+1,s.N⟩ with
   | error e=>
    rw [show enclosed T l r m s=.error e by simp [enclosed,PM.bind,pNeed,h1,pIf,h2,hrow]]
    have HW:=Hid.mk7 hrow
    clear hm hr h r0 h1 h2 hrow
    unfold Tkn at c1
    generalize (tokAt T s.i).val=tv at c1
    go_enter Tryz.func118,Tryz.ntmps118
    go_wp2_with fail
    refine c1.mono ?_
    rintro x w1 ⟨rfl,r1,_⟩
    have c2:=rg_isSign r1 r
    simp only [H2.out] at c2
    clear c1 r1
    go_wp2_with fail
    refine c2.mono ?_
    rintro x w2 ⟨rfl,r2,_⟩
    have c3:=rd_row_whole HF.out.1 HF.out.2.1 ⟨#[44]⟩ (s:=⟨s.i+1,s.N⟩) HF.out.2.2 r2.ps
    rw [HW.out] at c3
    have HR:=Hid.mk7 r2
    clear c2 r2
    go_wp2_with fail
    refine c3.mono ?_
    rintro x w3 ⟨rfl,T3⟩
    exact ⟨rfl,rfl,HR.out.bad T3⟩
   | ok kt=>
    obtain ⟨ks,t⟩:=kt
    have HW:=Hid.mk7 hrow
    cases h3:sgn T r t.i with
    | false=>
     rw [show enclosed T l r m s=.error t.i by simp [enclosed,PM.bind,pNeed,h1,pIf,h2,hrow,h3]]
     have H3:=Hid.mk7 h3
     clear hm hr h r0 h1 h2 hrow h3
     unfold Tkn at c1
     generalize (tokAt T s.i).val=tv at c1
     go_enter Tryz.func118,Tryz.ntmps118
     go_wp2_with fail
     refine c1.mono ?_
     rintro x w1 ⟨rfl,r1,_⟩
     have c2:=rg_isSign r1 r
     simp only [H2.out] at c2
     clear c1 r1
     go_wp2_with fail
     refine c2.mono ?_
     rintro x w2 ⟨rfl,r2,_⟩
     have c3:=rd_row_whole HF.out.1 HF.out.2.1 ⟨#[44]⟩ (s:=⟨s.i+1,s.N⟩) HF.out.2.2 r2.ps
     rw [HW.out] at c3
     have HR:=Hid.mk7 r2
     clear c2 r2
     go_wp2_with fail
     refine c3.mono ?_
     intro x w3 hx
     obtain ⟨V,rfl,Nv3,M3,r3,_⟩:=HR.out.rdL hx
     have c4:=rg_sign_bad r3 H3.out
     clear c3 hx r3
     go_wp2_with fail
     refine c4.mono ?_
     rintro x w4 ⟨rfl,T4⟩
     exact ⟨rfl,rfl,T4⟩
    | true=>
     rw [show enclosed T l r m s=.ok (ks,⟨t.i+1,t.N⟩) by simp [enclosed,PM.bind,pNeed,h1,pIf,h2,hrow,h3,PM.ret]]
     have H3:=Hid.mk7 h3
     clear hm hr h r0 h1 h2 hrow h3
     unfold Tkn at c1
     generalize (tokAt T s.i).val=tv at c1
     go_enter Tryz.func118,Tryz.ntmps118
     go_wp2_with fail
     refine c1.mono ?_
     rintro x w1 ⟨rfl,r1,_⟩
     have c2:=rg_isSign r1 r
     simp only [H2.out] at c2
     clear c1 r1
     go_wp2_with fail
     refine c2.mono ?_
     rintro x w2 ⟨rfl,r2,_⟩
     have c3:=rd_row_whole HF.out.1 HF.out.2.1 ⟨#[44]⟩ (s:=⟨s.i+1,s.N⟩) HF.out.2.2 r2.ps
     rw [HW.out] at c3
     have HR:=Hid.mk7 r2
     clear c2 r2
     go_wp2_with fail
     refine c3.mono ?_
     intro x w3 hx
     obtain ⟨V,rfl,Nv3,M3,r3,k3,_⟩:=HR.out.rdL hx
     have c4:=rg_sign r3 H3.out
     unfold Tkn at c4
     generalize (tokAt T _).val=tv2 at c4
     have HK:=Hid.mk7 k3
     clear c3 hx r3 k3
     go_wp2_with fail
     refine c4.mono ?_
     rintro x w4 ⟨rfl,r4,T4⟩
     have H4:=Hid.mk7 (And.intro r4 (HK.out.ofG T4))
     clear c4 r4 T4
     go_wp2
     go_ret
     exact Rg.ofL H4.out.1 H4.out.2
theorem rd_enclosed_export {T:List Tk} {m:PM Nat} {i0:Nat} (hm:Fwd T m) (hr:Runs T 119 [] m i0) (l r:ByteArray) {s:Ps} (hi:i0≤s.i+1) {w:World} {g:Nat} {Tv Nv:Value} {N:List Nd} (h:PS w g Tv T Nv N s) :
  Calls Tryz.prog 118 #[.pointer (some ⟨g,0,none⟩),.string l,.string r,.func (.func 119) #[.pointer (some ⟨g,0,none⟩)] #[]] w (RdL T w g Tv Nv N (enclosed T l r m s)):=by
 have r0:=Rg.refl h
 cases h1:sgn T l s.i with
 | false=>
  have c1:=rg_sign_bad r0 h1
  rw [show enclosed T l r m s=.error s.i by simp [enclosed,PM.bind,pNeed,h1]]
  clear hm hr h r0 h1
  go_enter Tryz.func118,Tryz.ntmps118
  go_wp2_with fail
  refine c1.mono ?_
  rintro x w1 ⟨rfl,T1⟩
  exact ⟨rfl,rfl,T1⟩
 | true=>
  have c1:=rg_sign r0 h1
  cases h2:sgn T r (s.i+1) with
  | true=>
   rw [show enclosed T l r m s=.ok ([],⟨s.i+2,s.N⟩) by simp [enclosed,PM.bind,pNeed,h1,pIf,h2,PM.ret]]
   have H2:=Hid.mk7 h2
   clear hm hr h r0 h1 h2
   unfold Tkn at c1
   generalize (tokAt T s.i).val=tv at c1
   go_enter Tryz.func118,Tryz.ntmps118
   go_wp2_with fail
   refine c1.mono ?_
   rintro x w1 ⟨rfl,r1,_⟩
   have c2:=rg_isSign r1 r
   simp only [H2.out] at c2
   clear c1 r1
   go_wp2_with fail
   refine c2.mono ?_
   rintro x w2 ⟨rfl,r2,_⟩
   have c3:=rg_sign r2 (x:=r) H2.out
   unfold Tkn at c3
   generalize (tokAt T _).val=tv2 at c3
   clear c2 r2
   go_wp2_with fail
   refine c3.mono ?_
   rintro x w3 ⟨rfl,r3,_⟩
   have H3:=Hid.mk7 r3
   clear c3 r3
   go_wp2
   go_ret
   exact Rg.ofL H3.out (Kd.nil _ _ _ _ _ _ _)
  | false=>
   have H2:=Hid.mk7 h2
   have H1:=Hid.mk7 h1
   have HF:=Hid.mk7 (And.intro hm (And.intro hr hi))
   cases hrow:row T ⟨#[44]⟩ m ⟨s.i+1,s.N⟩ with
   | error e=>
    rw [show enclosed T l r m s=.error e by simp [enclosed,PM.bind,pNeed,h1,pIf,h2,hrow]]
    have HW:=Hid.mk7 hrow
    clear hm hr h r0 h1 h2 hrow
    unfold Tkn at c1
    generalize (tokAt T s.i).val=tv at c1
    go_enter Tryz.func118,Tryz.ntmps118
    go_wp2_with fail
    refine c1.mono ?_
    rintro x w1 ⟨rfl,r1,_⟩
    have c2:=rg_isSign r1 r
    simp only [H2.out] at c2
    clear c1 r1
    go_wp2_with fail
    refine c2.mono ?_
    rintro x w2 ⟨rfl,r2,_⟩
    have c3:=rd_row_export HF.out.1 HF.out.2.1 ⟨#[44]⟩ (s:=⟨s.i+1,s.N⟩) HF.out.2.2 r2.ps
    rw [HW.out] at c3
    have HR:=Hid.mk7 r2
    clear c2 r2
    go_wp2_with fail
    refine c3.mono ?_
    rintro x w3 ⟨rfl,T3⟩
    exact ⟨rfl,rfl,HR.out.bad T3⟩
   | ok kt=>
    obtain ⟨ks,t⟩:=kt
    have HW:=Hid.mk7 hrow
    cases h3:sgn T r t.i with
    | false=>
     rw [show enclosed T l r m s=.error t.i by simp [enclosed,PM.bind,pNeed,h1,pIf,h2,hrow,h3]]
     have H3:=Hid.mk7 h3
     clear hm hr h r0 h1 h2 hrow h3
     unfold Tkn at c1
     generalize (tokAt T s.i).val=tv at c1
     go_enter Tryz.func118,Tryz.ntmps118
     go_wp2_with fail
     refine c1.mono ?_
     rintro x w1 ⟨rfl,r1,_⟩
     have c2:=rg_isSign r1 r
     simp only [H2.out] at c2
     clear c1 r1
     go_wp2_with fail
     refine c2.mono ?_
     rintro x w2 ⟨rfl,r2,_⟩
     have c3:=rd_row_export HF.out.1 HF.out.2.1 ⟨#[44]⟩ (s:=⟨s.i+1,s.N⟩) HF.out.2.2 r2.ps
     rw [HW.out] at c3
     have HR:=Hid.mk7 r2
     clear c2 r2
     go_wp2_with fail
     refine c3.mono ?_
     intro x w3 hx
     obtain ⟨V,rfl,Nv3,M3,r3,_⟩:=HR.out.rdL hx
     have c4:=rg_sign_bad r3 H3.out
     clear c3 hx r3
     go_wp2_with fail
     refine c4.mono ?_
     rintro x w4 ⟨rfl,T4⟩
     exact ⟨rfl,rfl,T4⟩
    | true=>
     rw [show enclosed T l r m s=.ok (ks,⟨t.i+1,t.N⟩) by simp [enclosed,PM.bind,pNeed,h1,pIf,h2,hrow,h3,PM.ret]]
     have H3:=Hid.mk7 h3
     clear hm hr h r0 h1 h2 hrow h3
     unfold Tkn at c1
     generalize (tokAt T s.i).val=tv at c1
     go_enter Tryz.func118,Tryz.ntmps118
     go_wp2_with fail
     refine c1.mono ?_
     rintro x w1 ⟨rfl,r1,_⟩
     have c2:=rg_isSign r1 r
     simp only [H2.out] at c2
     clear c1 r1
     go_wp2_with fail
     refine c2.mono ?_
     rintro x w2 ⟨rfl,r2,_⟩
     have c3:=rd_row_export HF.out.1 HF.out.2.1 ⟨#[44]⟩ (s:=⟨s.i+1,s.N⟩) HF.out.2.2 r2.ps
     rw [HW.out] at c3
     have HR:=Hid.mk7 r2
     clear c2 r2
     go_wp2_with fail
     refine c3.mono ?_
     intro x w3 hx
     obtain ⟨V,rfl,Nv3,M3,r3,k3,_⟩:=HR.out.rdL hx
     have c4:=rg_sign r3 H3.out
     unfold Tkn at c4
     generalize (tokAt T _).val=tv2 at c4
     have HK:=Hid.mk7 k3
     clear c3 hx r3 k3
     go_wp2_with fail
     refine c4.mono ?_
     rintro x w4 ⟨rfl,r4,T4⟩
     have H4:=Hid.mk7 (And.intro r4 (HK.out.ofG T4))
     clear c4 r4 T4
     go_wp2
     go_ret
     exact Rg.ofL H4.out.1 H4.out.2
theorem rg_add {T:List Tk} {w wr:World} {g:Nat} {Tv Nv Nv1:Value} {N M1:List Nd} {s:Ps} (r:Rg T w wr g Tv Nv N s Nv1 M1) (hT:0 < T.length) (n:Nd) (hk:Kd T w wr g Tv Nv1 (N++M1) n.kv n.kids) (hs:S2 T ⟨s.i,s.N++[n.sh]⟩ ⟨s.i,s.N++[n.sh]⟩) (hc:Cnt T ⟨s.i,s.N++[n.sh]⟩) :
  Calls Tryz.prog 78 #[.pointer (some ⟨g,0,none⟩),n.val] wr (fun e w2=>e=.returned (.int .i64 (s.N.length:Nat))∧∃ Nv2,Rg T w w2 g Tv Nv N ⟨s.i,s.N++[n.sh]⟩ Nv2 (M1++[n])∧Stp g Nv1 Nv2 wr w2):=by
 have hl:=r.ps.len
 have hcn:=r.ps.cnt
 unfold Cnt at hcn
 refine (ps_add r.ps.at_ hT n ⟨hk.own,fun k h=>⟨(hk.fv k h).2.g,(hk.fv k h).2.n,OwnK.blk_lt hk.own k h⟩⟩ (by omega)).mono ?_
 rintro x w2 ⟨rfl,Nv2,p,S⟩
 refine ⟨by rw [hl],Nv2,⟨⟨by simpa [List.append_assoc] using p,?_,hs,hc⟩,fun m hm k hk'=>?_,r.st.trans S⟩,S⟩
 ·have:=r.ps.n
  rw [← List.append_assoc,List.map_append,this]
  simp
 ·rcases List.mem_append.1 hm with hm | hm
  ·exact r.off m hm k hk'
  ·simp at hm
   subst hm
   exact (hk.fv k hk').1
theorem rd_arguments {T:List Tk} {rec:Ph→PM Nat} {s:Ps} {i0:Nat} (hm:Fwd T (whole rec)) (hr:Runs T 145 [] (whole rec) i0) (hi:i0≤s.i+1) {w:World} {g:Nat} {Tv Nv:Value} {N:List Nd} (h:PS w g Tv T Nv N s) :
  Calls Tryz.prog 133 #[.pointer (some ⟨g,0,none⟩)] w (RdL T w g Tv Nv N (arguments T rec s)):=by
 have hE:=rd_enclosed_whole hm hr ⟨#[40]⟩ ⟨#[41]⟩ hi h
 have hmf:=Tryz.makeFn
 clear hm hr h
 unfold arguments
 cases hres:enclosed T ⟨#[40]⟩ ⟨#[41]⟩ (whole rec) s with
 | error e=>
  rw [hres] at hE
  go_enter Tryz.func133,Tryz.ntmps133
  go_wp2_with fail
  refine hE.mono ?_
  rintro x w1 ⟨rfl,T1⟩
  exact ⟨rfl,rfl,T1⟩
 | ok lt=>
  obtain ⟨l,t⟩:=lt
  rw [hres] at hE
  go_enter Tryz.func133,Tryz.ntmps133
  go_wp2_with fail
  refine hE.mono ?_
  rintro x w1 ⟨V,rfl,h1⟩
  have H1:=Hid.mk7 h1
  clear h1 hE
  go_wp2
  go_ret
  exact ⟨V,rfl,H1.out⟩
theorem rd_body {T:List Tk} {rec:Ph→PM Nat} {s:Ps} (hm:Fwd T (whole rec)) (hr:Runs T 145 [] (whole rec) s.i) (hF:Fwd T (phBody T rec .body)) {w:World} {g:Nat} {Tv Nv:Value} {N:List Nd} (h:PS w g Tv T Nv N s) :
  Calls Tryz.prog 148 #[.pointer (some ⟨g,0,none⟩)] w (Rd T w g Tv Nv N (phBody T rec .body s)):=by
 have r0:=Rg.refl h
 have c1:=rg_peek r0
 have hfa:=Tryz.tokPlace
 have hmf:=Tryz.makeFn
 cases hrow:row T ⟨#[44]⟩ (whole rec) s with
 | error e=>
  rw [show phBody T rec .body s=.error e by simp [phBody,PM.bind,pTok,hrow]]
  have HW:=Hid.mk7 (And.intro hrow (And.intro hm hr))
  clear hm hr hF h r0 hrow
  generalize tokAt T s.i=tk at c1
  obtain ⟨tk,tt,tn,ta⟩:=tk
  simp only [Tk.val] at c1
  go_enter Tryz.func148,Tryz.ntmps148
  go_wp2_with fail
  refine c1.mono ?_
  rintro x w1 ⟨rfl,r1,_⟩
  have c2:=rd_row_whole HW.out.2.1 HW.out.2.2 ⟨#[44]⟩ (Nat.le_refl _) r1.ps
  rw [HW.out.1] at c2
  have HR:=Hid.mk7 r1
  clear c1 r1
  go_wp2_with fail
  refine c2.mono ?_
  rintro x w2 ⟨rfl,T2⟩
  exact ⟨rfl,rfl,HR.out.bad T2⟩
 | ok kt=>
  obtain ⟨ks,t⟩:=kt
  have hms:phBody T rec .body s=.ok (t.N.length,⟨t.i,t.N++[⟨23,⟨#[]⟩,⟨#[]⟩,0,ks,(tokAt T s.i).at_⟩]⟩):=by simp [phBody,PM.bind,pTok,hrow,pAdd]
  rw [hms]
  obtain ⟨q1,q2,q3,q4⟩:=hF.ok h.ok h.cnt hms
  have hT:0 < T.length:=by have:=q1.il; simp at this q3; omega
  have HW:=Hid.mk7 (And.intro hrow (And.intro hm (And.intro hr (And.intro q1 (And.intro q4 hT)))))
  clear hm hr hF h r0 hrow hms q1 q2 q3 q4 hT
  generalize tokAt T s.i=tk at c1 HW ⊢
  obtain ⟨tk,tt,tn,ta⟩:=tk
  simp only [Tk.val] at c1
  simp only at HW ⊢
  go_enter Tryz.func148,Tryz.ntmps148
  go_wp2_with fail
  refine c1.mono ?_
  rintro x w1 ⟨rfl,r1,_⟩
  have c2:=rd_row_whole HW.out.2.1 HW.out.2.2.1 ⟨#[44]⟩ (Nat.le_refl _) r1.ps
  rw [HW.out.1] at c2
  have HR:=Hid.mk7 r1
  clear c1 r1
  go_wp2_with fail
  refine c2.mono ?_
  intro x w2 hx
  obtain ⟨V,rfl,Nv2,M2,r2,k2,_⟩:=HR.out.rdL hx
  have c3:=rg_add r2 HW.out.2.2.2.2.2 ⟨23,⟨#[]⟩,⟨#[]⟩,0,V,ks,ta⟩ k2 HW.out.2.2.2.1 HW.out.2.2.2.2.1
  simp only [Nd.val] at c3
  obtain ⟨aV,cV,hV,_⟩:=OwnK.sl k2.own |>.form
  subst hV
  clear c2 hx r2 k2
  go_wp2_with fail
  refine c3.mono ?_
  rintro x w3 ⟨rfl,Nv3,r3,_⟩
  have H3:=Hid.mk7 r3
  clear c3 r3
  go_wp2
  go_ret
  exact H3.out.of
theorem rd_conjunction {T:List Tk} {rec:Ph→PM Nat} {s:Ps} (hm:Fwd T (whole rec)) (hr:Runs T 145 [] (whole rec) s.i) (hF:Fwd T (phBody T rec .conj)) {w:World} {g:Nat} {Tv Nv:Value} {N:List Nd} (h:PS w g Tv T Nv N s) :
  Calls Tryz.prog 157 #[.pointer (some ⟨g,0,none⟩)] w (Rd T w g Tv Nv N (phBody T rec .conj s)):=by
 have r0:=Rg.refl h
 have c1:=rg_peek r0
 have hfa:=Tryz.tokPlace
 have hmf:=Tryz.makeFn
 cases hrow:row T ⟨#[44]⟩ (whole rec) s with
 | error e=>
  rw [show phBody T rec .conj s=.error e by simp [phBody,PM.bind,pTok,hrow]]
  have HW:=Hid.mk7 (And.intro hrow (And.intro hm hr))
  clear hm hr hF h r0 hrow
  generalize tokAt T s.i=tk at c1
  obtain ⟨tk,tt,tn,ta⟩:=tk
  simp only [Tk.val] at c1
  go_enter Tryz.func157,Tryz.ntmps157
  go_wp2_with fail
  refine c1.mono ?_
  rintro x w1 ⟨rfl,r1,_⟩
  have c2:=rd_row_whole HW.out.2.1 HW.out.2.2 ⟨#[44]⟩ (Nat.le_refl _) r1.ps
  rw [HW.out.1] at c2
  have HR:=Hid.mk7 r1
  clear c1 r1
  go_wp2_with fail
  refine c2.mono ?_
  rintro x w2 ⟨rfl,T2⟩
  exact ⟨rfl,rfl,HR.out.bad T2⟩
 | ok kt=>
  obtain ⟨ks,t⟩:=kt
  have hms:phBody T rec .conj s=.ok (t.N.length,⟨t.i,t.N++[⟨22,⟨#[]⟩,⟨#[]⟩,0,ks,(tokAt T s.i).at_⟩]⟩):=by simp [phBody,PM.bind,pTok,hrow,pAdd]
  rw [hms]
  obtain ⟨q1,q2,q3,q4⟩:=hF.ok h.ok h.cnt hms
  have hT:0 < T.length:=by have:=q1.il; simp at this q3; omega
  have HW:=Hid.mk7 (And.intro hrow (And.intro hm (And.intro hr (And.intro q1 (And.intro q4 hT)))))
  clear hm hr hF h r0 hrow hms q1 q2 q3 q4 hT
  generalize tokAt T s.i=tk at c1 HW ⊢
  obtain ⟨tk,tt,tn,ta⟩:=tk
  simp only [Tk.val] at c1
  simp only at HW ⊢
  go_enter Tryz.func157,Tryz.ntmps157
  go_wp2_with fail
  refine c1.mono ?_
  rintro x w1 ⟨rfl,r1,_⟩
  have c2:=rd_row_whole HW.out.2.1 HW.out.2.2.1 ⟨#[44]⟩ (Nat.le_refl _) r1.ps
  rw [HW.out.1] at c2
  have HR:=Hid.mk7 r1
  clear c1 r1
  go_wp2_with fail
  refine c2.mono ?_
  intro x w2 hx
  obtain ⟨V,rfl,Nv2,M2,r2,k2,_⟩:=HR.out.rdL hx
  have c3:=rg_add r2 HW.out.2.2.2.2.2 ⟨22,⟨#[]⟩,⟨#[]⟩,0,V,ks,ta⟩ k2 HW.out.2.2.2.1 HW.out.2.2.2.2.1
  simp only [Nd.val] at c3
  obtain ⟨aV,cV,hV,_⟩:=OwnK.sl k2.own |>.form
  subst hV
  clear c2 hx r2 k2
  go_wp2_with fail
  refine c3.mono ?_
  rintro x w3 ⟨rfl,Nv3,r3,_⟩
  have H3:=Hid.mk7 r3
  clear c3 r3
  go_wp2
  go_ret
  exact H3.out.of
theorem rd_guard {T:List Tk} {rec:Ph→PM Nat} {s:Ps} (hm:Fwd T (rec .conj)) (hr:Runs T 157 [] (rec .conj) s.i) (hF:Fwd T (phBody T rec .guard)) {w:World} {g:Nat} {Tv Nv:Value} {N:List Nd} (h:PS w g Tv T Nv N s) :
  Calls Tryz.prog 147 #[.pointer (some ⟨g,0,none⟩)] w (Rd T w g Tv Nv N (phBody T rec .guard s)):=by
 have r0:=Rg.refl h
 have c1:=rg_peek r0
 have hfa:=Tryz.tokPlace
 have hmf:=Tryz.makeFn
 cases hrow:row T ⟨#[59]⟩ (rec .conj) s with
 | error e=>
  rw [show phBody T rec .guard s=.error e by simp [phBody,PM.bind,pTok,hrow]]
  have HW:=Hid.mk7 (And.intro hrow (And.intro hm hr))
  clear hm hr hF h r0 hrow
  generalize tokAt T s.i=tk at c1
  obtain ⟨tk,tt,tn,ta⟩:=tk
  simp only [Tk.val] at c1
  go_enter Tryz.func147,Tryz.ntmps147
  go_wp2_with fail
  refine c1.mono ?_
  rintro x w1 ⟨rfl,r1,_⟩
  have c2:=rd_row_conjunction HW.out.2.1 HW.out.2.2 ⟨#[59]⟩ (Nat.le_refl _) r1.ps
  rw [HW.out.1] at c2
  have HR:=Hid.mk7 r1
  clear c1 r1
  go_wp2_with fail
  refine c2.mono ?_
  rintro x w2 ⟨rfl,T2⟩
  exact ⟨rfl,rfl,HR.out.bad T2⟩
 | ok kt=>
  obtain ⟨ks,t⟩:=kt
  have hms:phBody T rec .guard s=.ok (t.N.length,⟨t.i,t.N++[⟨21,⟨#[]⟩,⟨#[]⟩,0,ks,(tokAt T s.i).at_⟩]⟩):=by simp [phBody,PM.bind,pTok,hrow,pAdd]
  rw [hms]
  obtain ⟨q1,q2,q3,q4⟩:=hF.ok h.ok h.cnt hms
  have hT:0 < T.length:=by have:=q1.il; simp at this q3; omega
  have HW:=Hid.mk7 (And.intro hrow (And.intro hm (And.intro hr (And.intro q1 (And.intro q4 hT)))))
  clear hm hr hF h r0 hrow hms q1 q2 q3 q4 hT
  generalize tokAt T s.i=tk at c1 HW ⊢
  obtain ⟨tk,tt,tn,ta⟩:=tk
  simp only [Tk.val] at c1
  simp only at HW ⊢
  go_enter Tryz.func147,Tryz.ntmps147
  go_wp2_with fail
  refine c1.mono ?_
  rintro x w1 ⟨rfl,r1,_⟩
  have c2:=rd_row_conjunction HW.out.2.1 HW.out.2.2.1 ⟨#[59]⟩ (Nat.le_refl _) r1.ps
  rw [HW.out.1] at c2
  have HR:=Hid.mk7 r1
  clear c1 r1
  go_wp2_with fail
  refine c2.mono ?_
  intro x w2 hx
  obtain ⟨V,rfl,Nv2,M2,r2,k2,_⟩:=HR.out.rdL hx
  have c3:=rg_add r2 HW.out.2.2.2.2.2 ⟨21,⟨#[]⟩,⟨#[]⟩,0,V,ks,ta⟩ k2 HW.out.2.2.2.1 HW.out.2.2.2.2.1
  simp only [Nd.val] at c3
  obtain ⟨aV,cV,hV,_⟩:=OwnK.sl k2.own |>.form
  subst hV
  clear c2 hx r2 k2
  go_wp2_with fail
  refine c3.mono ?_
  rintro x w3 ⟨rfl,Nv3,r3,_⟩
  have H3:=Hid.mk7 r3
  clear c3 r3
  go_wp2
  go_ret
  exact H3.out.of
theorem Ok2.fin {T:List Tk} {α:Type} {V:α→α→List Sh→Prop} {d:Int} {m:PM α} {s t:Ps} {a:α} (h:Ok2 T V d m m s s) (hd:0≤d) (hc:Cnt T s) (e:m s=.ok (a,t)):S2 T t t∧Cnt T t∧s.i≤t.i:=by
 rcases h with ⟨x,h1,_⟩ | ⟨a1,a2,t1,t2,h1,h2,h3,h4,h5,M,h6,h7⟩
 ·rw [e] at h1; cases h1
 ·rw [e] at h1 h2
  obtain ⟨rfl,rfl⟩:a=a1∧t=t1:=by simpa using h1
  obtain ⟨rfl,rfl⟩:a=a2∧t=t2:=by simpa using h2
  refine ⟨h3,?_,h5⟩
  unfold Cnt at hc ⊢
  have:=h3.il
  rw [h6]
  simp
  omega
structure MkI (T:List Tk) (w wr:World) (g:Nat) (Tv Nv:Value) (N:List Nd) (s:Ps) (Nv1:Value) (M1:List Nd) (q:Nat) (nk:Int) (nt nm:ByteArray) (nn:Int) (V:Value) (l:List Int) (na:Int):Prop where
 rg:Rg T w wr g Tv Nv N s Nv1 M1
 bx:Making wr g Tv Nv1 (N++M1) q nk nt nm nn V l na
 vw:∀ k,blk V k→w.heap.size≤k
 qw:w.heap.size≤q
section
variable {T:List Tk} {w wr w2:World} {g:Nat} {Tv Nv Nv1 Nv2:Value} {N M1 M3:List Nd} {s t:Ps} {q:Nat} {nk:Int} {nt nm:ByteArray} {nn:Int} {V V2:Value} {l:List Int} {na:Int}
theorem MkI.to (h:MkI T w wr g Tv Nv N s Nv1 M1 q nk nt nm nn V l na) (r:Rg T w w2 g Tv Nv N t Nv1 M1) (S:Stp g Nv1 Nv1 wr w2):MkI T w w2 g Tv Nv N t Nv1 M1 q nk nt nm nn V l na:=⟨r,h.bx.stepN S,h.vw,h.qw⟩
theorem MkI.rd (h:MkI T w wr g Tv Nv N s Nv1 M1 q nk nt nm nn V l na) {a:Nat} {x:Ending} {w3:World} (hb:Below wr.heap.size wr w3) (hr:Rd T w3 g Tv Nv1 (N++M1) (.ok (a,t)) x w2):x=.returned (.int .i64 (a:Nat))∧∃ Nv2 M2,MkI T w w2 g Tv Nv N t Nv2 M2 q nk nt nm nn V l na:=by
 obtain ⟨e,Nv2,M2,r,S,M3,rfl,o⟩:=(h.rg.below hb).rd hr
 have m3:=(h.bx.stepN (Stp.ofB hb)).step S o
 rw [List.append_assoc] at m3
 exact ⟨e,Nv2,M1++M3,r,m3,h.vw,h.qw⟩
theorem MkI.more (h:MkI T w wr g Tv Nv N s Nv1 M1 q nk nt nm nn V l na) (hT:0 < T.length) {w3 w4:World} {x:Int} (hb:Below wr.heap.size wr w3) (ho:OwnK 1 w4 V2 (l.length+1) (ints l++ints [x])) (Tt:Turned (blk V) w3 w4) (hv:∀ k,blk V2 k→blk V k∨k=w3.heap.size):MkI T w (w4.setCell ⟨q,4,none⟩ V2) g Tv Nv N s Nv1 M1 q nk nt nm nn V2 (l++[x]) na:=by
 obtain ⟨m,p,T2,v⟩:=h.bx.more h.rg.ps.at_ hT hb ho Tt hv
 refine ⟨h.rg.mine (fun k e=>?_) p T2,m,fun k hk=>(v k hk).elim (h.vw k) (fun e=>Nat.le_trans h.rg.size e),h.qw⟩
 rcases e with e | e
 ·exact e ▸ h.qw
 ·exact h.vw k e
theorem MkI.kd (h:MkI T w wr g Tv Nv N s Nv1 M1 q nk nt nm nn V l na):Kd T w wr g Tv Nv1 (N++M1) V l:=⟨h.bx.own,fun k hk=>⟨h.vw k hk,h.bx.fv k hk⟩⟩
theorem MkI.cell (h:MkI T w wr g Tv Nv N s Nv1 M1 q nk nt nm nn V l na) {w3 w4:World} (hb:Below wr.heap.size wr w3) (T4:Turned (blk V) w3 w4):w4.cell? ⟨q,4,none⟩=some V∧w4.frozen? ⟨q,4,none⟩=false∧q < w4.heap.size:=by
 have c:=T4.cell ((hb.cell (p:=⟨q,4,none⟩) h.bx.lt).trans h.bx.n4) h.bx.qv
 exact ⟨c,((T4.frozen (p:=⟨q,4,none⟩) (Nat.lt_of_lt_of_le h.bx.lt hb.size) h.bx.qv).trans (hb.frozen (p:=⟨q,4,none⟩) h.bx.lt)).trans (h.bx.fz 4),World.block_lt_of_cell? w4 _ c⟩
theorem MkI.of_new (h:PS w g Tv T Nv N s) (hT:0 < T.length) (nk:Int) (nt nm:ByteArray) (nn na:Int):MkI T w (w.alloc (.cells #[.int .i64 nk,.string nt,.string nm,.int .i64 nn,.slice none 0 0,.int .i64 na] 47)) g Tv Nv N s Nv [] w.heap.size nk nt nm nn (.slice none 0 0) [] na:=
 ⟨(Rg.refl h).below (Below.alloc0 _ _),by rw [List.append_nil]; exact Making.new h.at_ hT nk nt nm nn na,fun _ e=>e.elim,Nat.le_refl _⟩
end
theorem idle_of {G:Prop} (w:World) (t:G) (_:wpAny Tryz.prog .any #[] (fun _ _ _=>True) 0 #[] ⟨#[],[]⟩ w):G:=t
theorem rd_rest {T:List Tk} {rec:Ph→PM Nat} {s:Ps} (nk:Int) (nt nm:ByteArray) (nn na:Int) (pat:Nat) (hg:Runs T 147 [] (rec .guard) (s.i+1)) (hgF:Fwd T (rec .guard)) (hb:Runs T 148 [] (rec .body) (s.i+1)) (hT:0 < T.length)
  (hfin:∀ a t,rest T rec ⟨nk,nt,nm,nn,[],na⟩ pat s=.ok (a,t)→S2 T t t∧Cnt T t) {w:World} {g:Nat} {Tv Nv:Value} {N:List Nd} (h:PS w g Tv T Nv N s) :
  Calls Tryz.prog 134 #[.pointer (some ⟨g,0,none⟩),.agg #[.int .i64 nk,.string nt,.string nm,.int .i64 nn,.slice none 0 0,.int .i64 na],.int .i64 (pat:Int)] w (Rd T w g Tv Nv N (rest T rec ⟨nk,nt,nm,nn,[],na⟩ pat s)):=by
 obtain ⟨res,hres⟩:∃ res,rest T rec ⟨nk,nt,nm,nn,[],na⟩ pat s=res:=⟨_,rfl⟩
 rw [hres]
 have HQ:=Hid.mk7 hres
 have htl:=h.at_.tl
 have hgl:=h.at_.lt
 have HP:=Hid.mk7 (And.intro hg (And.intro hb (And.intro hfin (And.intro hgF h.ok))))
 have HX:=Hid.mk7 (fun o1=>SlI.one (w.alloc o1) (pat:Int) 3)
 simp only [World.size_alloc] at HX
 have hf1:(0+[(pat:Int)].length)*8≤140737488355328:=by simp
 have hf2:0+[(pat:Int)].length≤4611686018427387903:=by simp
 have HM1:=Hid.mk7 (MkI.of_new h hT nk nt nm nn na)
 clear hres hg hgF hb hfin h
 go_enter Tryz.func134,Tryz.ntmps134
 go_wp2_with (at_builtin; refine wpList_append_k (by rfl) (.tmp 8) (.tmp 10) (by rfl) Tryz.intTypes (by rfl) (by rfl) (OwnK.nil 1 _) (HX.out _) (ints_one _) hf1 hf2 ?_; intro V1 w1 ho1 ht1 hv1; obtain ⟨aV1,cV1,hV1,_,_⟩:=ho1.sl.form; subst hV1; obtain ⟨⟨n0,n1,n2,n3,n4,n5⟩,nf⟩:=newNode2 ht1; have f4:=nf 4)
 have mk2:=HM1.out.more (l:=[]) (V2:=.slice aV1 1 cV1) hT (Below.alloc0 _ _) ho1 ht1 hv1
 have c2:=rg_isWord mk2.rg ⟨#[119,104,101,110]⟩
 have H2:=Hid.mk7 mk2
 clear mk2 ho1 ht1 hv1 n0 n1 n2 n3 n4 n5 nf f4 HM1 HX hf1 hf2
 cases hw:wrd T ⟨#[119,104,101,110]⟩ s.i with
 | false=>
  rw [hw] at c2
  refine c2.mono ?_
  rintro x w3 ⟨rfl,r3,hb3⟩
  have HK:=Hid.mk7 (H2.out.to r3 (Stp.ofB hb3))
  clear c2 r3 hb3 H2
  cases h2:sgn T ⟨#[45,62]⟩ s.i with
  | false=>
   have hre:res=.error s.i:=by rw [← HQ.out]; simp [rest,PM.bind,pIf,pNeed,PM.ret,hw,h2]
   subst hre
   have c4:=rg_sign_bad HK.out.rg h2
   go_wp2_with fail
   refine c4.mono ?_
   rintro x w4 ⟨rfl,T4⟩
   exact ⟨rfl,rfl,T4⟩
  | true=>
   have c4:=rg_sign HK.out.rg h2
   unfold Tkn at c4
   generalize (tokAt T s.i).val=tv4 at c4
   go_wp2_with fail
   refine c4.mono ?_
   rintro x w4 ⟨rfl,r4,T4⟩
   have mk4:=HK.out.to r4 (Stp.ofG T4)
   have hE4:=fun W (hW:Below w4.heap.size w4 W)=>HP.out.2.1 ⟨s.i+1,s.N⟩ (by have:=Nat.le_refl s.i; show s.i+1≤s.i+1; omega) W g Tv _ _ (r4.below hW).ps
   have n4:=mk4.bx.n4
   have H4:=Hid.mk7 mk4
   have HS:=Hid.mk7 h2
   clear c4 r4 T4 mk4 HK h2
   cases hb2:rec .body ⟨s.i+1,s.N⟩ with
   | error e=>
    have hre:res=.error e:=by rw [← HQ.out]; simp [rest,PM.bind,pIf,pNeed,PM.ret,hw,HS.out,hb2]
    subst hre
    simp only [hb2] at hE4
    clear hb2
    go_wp2_with fail
    go_region_law (rw [if_pos (by rfl)]; go_simp; go_at_call 148; refine (hE4 _ (Below.refl _ _).drew).mono ?_; rintro x w5 ⟨rfl,T5⟩; refine idle_of w5 ⟨rfl,rfl,(H4.out.rg.below (Below.refl _ _).drew).bad T5⟩ ?_)
    all_goals trivial
   | ok bt=>
    obtain ⟨bk,t2⟩:=bt
    have hre:rest T rec ⟨nk,nt,nm,nn,[],na⟩ pat s=.ok (t2.N.length,⟨t2.i,t2.N++[⟨nk,nt,nm,nn,[(pat:Int)]++[(bk:Int)],na⟩]⟩):=by simp [rest,PM.bind,pIf,pNeed,PM.ret,hw,HS.out,hb2,pAdd]
    obtain ⟨q1,q2⟩:=HP.out.2.2.1 _ _ hre
    have hre2:res=.ok (t2.N.length,⟨t2.i,t2.N++[⟨nk,nt,nm,nn,[(pat:Int)]++[(bk:Int)],na⟩]⟩):=HQ.out.symm.trans hre
    subst hre2
    have HF:=Hid.mk7 (And.intro q1 q2)
    simp only [hb2] at hE4
    clear hb2 hre q1 q2
    go_wp2_with fail
    go_region_law (first
     | (rw [if_pos (by rfl)]; go_simp; go_at_call 148; refine (hE4 _ (Below.refl _ _).drew).mono ?_; intro x w5 hx; obtain ⟨rfl,Nv5,M5,m5⟩:=H4.out.rd (Below.refl _ _).drew hx; have k5:=m5.bx.n4; have q5:=m5.bx.lt; have H5:=Hid.mk7 m5; clear hx m5; dsimp only)
     | (refine step_append_k (by rfl) (.tmp 32) (.tmp 35) (by rfl) Tryz.intTypes (by rfl) (by rfl) (OwnK.turned H5.out.bx.own (Turned.alloc (fun _=>False) _ _) (fun _ _ e=>e)) (SlI.one w5 _ _) (ints_one _) (by simp) (by simp) ?_; intro V6 w6 ho6 T6 hv6; obtain ⟨aV6,cV6,hV6,_,_⟩:=ho6.sl.form; subst hV6; obtain ⟨c6,f6,l6⟩:=H5.out.cell (Below.alloc0 w5 _) T6))
    all_goals
     have mk7:=H5.out.more (V2:=.slice aV6 2 cV6) hT (Below.alloc0 w5 _) ho6 T6 hv6
     have c7:=rg_add mk7.rg hT ⟨nk,nt,nm,nn,.slice aV6 2 cV6,[(pat:Int)]++[(bk:Int)],na⟩ mk7.kd HF.out.1 HF.out.2
     simp only [Nd.val] at c7
     obtain ⟨n0,n1,n2,n3,n4',n5,_,_,_,_,_⟩:=mk7.bx
     clear mk7 ho6 T6 hv6 c6 f6
     generalize w6.setCell _ _=w7 at c7 n0 n1 n2 n3 n4' n5 ⊢
     go_wp2_with fail
     refine c7.mono ?_
     rintro x w8 ⟨rfl,Nv8,r8,_⟩
     have H8:=Hid.mk7 r8
     clear r8 c7 n0 n1 n2 n3 n4' n5
     go_wp2
     go_ret
     exact H8.out.of
 | true=>
  rw [hw] at c2
  have hlt:=wrd_lt hw
  refine c2.mono ?_
  rintro x w3 ⟨rfl,r3,hb3⟩
  have mk3:=H2.out.to r3 (Stp.ofB hb3)
  have c1:=r3.ps.at_.c1.1
  have f1:=r3.ps.at_.c1.2
  have r4:=r3.skip 1 hlt
  have mk4:=mk3.to r4 (Stp.ofG (Turned.set1 w3 g 1 _))
  rw [show ((s.i+1:Nat):Int)=(s.i:Int)+1 by omega] at r4 mk4
  have hE4:=fun W (hW:Below _ _ W)=>HP.out.1 ⟨s.i+1,s.N⟩ (Nat.le_refl _) W g Tv _ _ (r4.below hW).ps
  have n4:=mk4.bx.n4
  have hr4:=r4.ps
  have HK4:=Hid.mk7 mk4
  clear c2 r3 hb3 H2 mk3 mk4 r4
  cases hg2:rec .guard ⟨s.i+1,s.N⟩ with
  | error e=>
   have hre:res=.error e:=by rw [← HQ.out]; simp [rest,PM.bind,pIf,pSkip,hw,hg2]
   subst hre
   simp only [hg2] at hE4
   clear hg2 hr4
   go_wp2_with fail
   generalize w3.setCell _ _=w4 at HK4 hE4 n4 ⊢
   go_region_law (rw [if_pos (by rfl)]; go_simp; go_at_call 147; refine (hE4 _ (Below.refl _ _).drew).mono ?_; rintro x w5 ⟨rfl,T5⟩; refine idle_of w5 ⟨rfl,rfl,(HK4.out.rg.below (Below.refl _ _).drew).bad T5⟩ ?_)
   all_goals trivial
  | ok gt=>
   obtain ⟨gk,t1⟩:=gt
   obtain ⟨_,_,hit,_⟩:=HP.out.2.2.2.1.ok hr4.ok hr4.cnt hg2
   have hg3:=hg2
   simp only [hg2] at hE4
   have HG:=Hid.mk7 (And.intro hg3 hit)
   clear hg2 hg3 hr4 hit
   go_wp2_with fail
   generalize w3.setCell _ _=w4 at HK4 hE4 n4 ⊢
   go_region_law (first
    | (rw [if_pos (by rfl)]; go_simp; go_at_call 147; refine (hE4 _ (Below.refl _ _).drew).mono ?_; intro x w5 hx; obtain ⟨rfl,Nv5,M5,m5⟩:=HK4.out.rd (Below.refl _ _).drew hx; have k5:=m5.bx.n4; have q5:=m5.bx.lt; have H5:=Hid.mk7 m5; clear hx m5; dsimp only)
    | (refine step_append_k (by rfl) (.tmp 23) (.tmp 26) (by rfl) Tryz.intTypes (by rfl) (by rfl) (OwnK.turned H5.out.bx.own (Turned.alloc (fun _=>False) _ _) (fun _ _ e=>e)) (SlI.one w5 _ _) (ints_one _) (by simp) (by simp) ?_; intro V6 w6 ho6 T6 hv6; obtain ⟨aV6,cV6,hV6,_,_⟩:=ho6.sl.form; subst hV6; obtain ⟨c6,f6,l6⟩:=H5.out.cell (Below.alloc0 w5 _) T6))
   all_goals
    have HK:=Hid.mk7 (H5.out.more (V2:=.slice aV6 2 cV6) hT (Below.alloc0 w5 _) ho6 T6 hv6)
    clear ho6 T6 hv6 c6 f6 l6 k5 q5 H5
    generalize w6.setCell _ _=w7 at HK ⊢
    cases h2:sgn T ⟨#[45,62]⟩ t1.i with
    | false=>
     have hre:res=.error t1.i:=by rw [← HQ.out]; simp [rest,PM.bind,pIf,pNeed,PM.ret,hw,pSkip,HG.out.1,h2]
     subst hre
     have c4:=rg_sign_bad HK.out.rg h2
     go_wp2_with fail
     refine c4.mono ?_
     rintro x w4 ⟨rfl,T4⟩
     exact ⟨rfl,rfl,T4⟩
    | true=>
     have c4:=rg_sign HK.out.rg h2
     unfold Tkn at c4
     generalize (tokAt T t1.i).val=tv4 at c4
     go_wp2_with fail
     refine c4.mono ?_
     rintro x w4 ⟨rfl,r4,T4⟩
     have mk4:=HK.out.to r4 (Stp.ofG T4)
     have hE4:=fun W (hW:Below w4.heap.size w4 W)=>HP.out.2.1 ⟨t1.i+1,t1.N⟩ (by have:=(show s.i+1 < t1.i from HG.out.2); show s.i+1≤t1.i+1; omega) W g Tv _ _ (r4.below hW).ps
     have n4:=mk4.bx.n4
     have H4:=Hid.mk7 mk4
     have HS:=Hid.mk7 h2
     clear c4 r4 T4 mk4 HK h2
     cases hb2:rec .body ⟨t1.i+1,t1.N⟩ with
     | error e=>
      have hre:res=.error e:=by rw [← HQ.out]; simp [rest,PM.bind,pIf,pNeed,PM.ret,hw,pSkip,HG.out.1,HS.out,hb2]
      subst hre
      simp only [hb2] at hE4
      clear hb2
      go_wp2_with fail
      go_region_law (rw [if_pos (by rfl)]; go_simp; go_at_call 148; refine (hE4 _ (Below.refl _ _).drew).mono ?_; rintro x w5 ⟨rfl,T5⟩; refine idle_of w5 ⟨rfl,rfl,(H4.out.rg.below (Below.refl _ _).drew).bad T5⟩ ?_)
      all_goals trivial
     | ok bt=>
      obtain ⟨bk,t2⟩:=bt
      have hre:rest T rec ⟨nk,nt,nm,nn,[],na⟩ pat s=.ok (t2.N.length,⟨t2.i,t2.N++[⟨nk,nt,nm,nn,[(pat:Int),(gk:Int)]++[(bk:Int)],na⟩]⟩):=by simp [rest,PM.bind,pIf,pNeed,PM.ret,hw,pSkip,HG.out.1,HS.out,hb2,pAdd]
      obtain ⟨q1,q2⟩:=HP.out.2.2.1 _ _ hre
      have hre2:res=.ok (t2.N.length,⟨t2.i,t2.N++[⟨nk,nt,nm,nn,[(pat:Int),(gk:Int)]++[(bk:Int)],na⟩]⟩):=HQ.out.symm.trans hre
      subst hre2
      have HF:=Hid.mk7 (And.intro q1 q2)
      simp only [hb2] at hE4
      clear hb2 hre q1 q2
      go_wp2_with fail
      go_region_law (first
       | (rw [if_pos (by rfl)]; go_simp; go_at_call 148; refine (hE4 _ (Below.refl _ _).drew).mono ?_; intro x w5 hx; obtain ⟨rfl,Nv5,M5,m5⟩:=H4.out.rd (Below.refl _ _).drew hx; have k5:=m5.bx.n4; have q5:=m5.bx.lt; have H5:=Hid.mk7 m5; clear hx m5; dsimp only)
       | (refine step_append_k (by rfl) (.tmp 32) (.tmp 35) (by rfl) Tryz.intTypes (by rfl) (by rfl) (OwnK.turned H5.out.bx.own (Turned.alloc (fun _=>False) _ _) (fun _ _ e=>e)) (SlI.one w5 _ _) (ints_one _) (by simp) (by simp) ?_; intro V6 w6 ho6 T6 hv6; obtain ⟨aV6,cV6,hV6,_,_⟩:=ho6.sl.form; subst hV6; obtain ⟨c6,f6,l6⟩:=H5.out.cell (Below.alloc0 w5 _) T6))
      all_goals
       have mk7:=H5.out.more (V2:=.slice aV6 3 cV6) hT (Below.alloc0 w5 _) ho6 T6 hv6
       have c7:=rg_add mk7.rg hT ⟨nk,nt,nm,nn,.slice aV6 3 cV6,[(pat:Int),(gk:Int)]++[(bk:Int)],na⟩ mk7.kd HF.out.1 HF.out.2
       simp only [Nd.val] at c7
       obtain ⟨n0,n1,n2,n3,n4',n5,_,_,_,_,_⟩:=mk7.bx
       clear mk7 ho6 T6 hv6 c6 f6
       generalize w6.setCell _ _=w7 at c7 n0 n1 n2 n3 n4' n5 ⊢
       go_wp2_with fail
       refine c7.mono ?_
       rintro x w8 ⟨rfl,Nv8,r8,_⟩
       have H8:=Hid.mk7 r8
       clear r8 c7 n0 n1 n2 n3 n4' n5
       go_wp2
       go_ret
       exact H8.out.of
end Go.Proofs.YtlciaafincgdeaaGreatDoor
