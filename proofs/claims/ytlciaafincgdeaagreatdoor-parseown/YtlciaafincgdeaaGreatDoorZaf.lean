/-
  Layer 11 (parse): what the program's parser does at any tokens: the words of its contracts; a token that may not stand there.
  Layer 11 (parse): the document's parser behind its first fault: nothing goes on.
  Layer 11 (parse): the document's parser behind its first fault: its phrases.
  Layer 11 (parse): the document's parser behind its first fault: rows of phrases, clauses.
-/
import Derived.Test.YtlciaafincgdeaaGreatDoorZad
import Derived.Test.YtlciaafincgdeaaGreatDoorZae
import Derived.WalkLawsBesides
namespace Go.Proofs.YtlciaafincgdeaaGreatDoor
open Go.RowKit
set_option maxHeartbeats 1600000
set_option maxRecDepth 100000
@[reducible] def badAt (n:Nat):Ending:=.panicked [{ v:=.iface 120 (.int .i64 n),recovered:=false }]
theorem Alike.refl (T:List Tk):Alike T T:=⟨rfl,fun _=>⟨rfl,rfl,rfl⟩⟩
def Cnt (T:List Tk) (s:Ps):Prop:=s.N.length+4*(T.length - s.i)≤1000000
structure PS (w:World) (g:Nat) (Tv:Value) (T:List Tk) (Nv:Value) (N:List Nd) (s:Ps):Prop where
 at_:PAt w g Tv T s.i Nv N
 n:N.map Nd.sh=s.N
 ok:S2 T s s
 cnt:Cnt T s
theorem PS.below {w w':World} {g:Nat} {Tv:Value} {T:List Tk} {Nv:Value} {N:List Nd} {s:Ps} (h:PS w g Tv T Nv N s) (hb:Below w.heap.size w w'):PS w' g Tv T Nv N s:=⟨h.at_.below hb,h.n,h.ok,h.cnt⟩
theorem PS.len {w:World} {g:Nat} {Tv:Value} {T:List Tk} {Nv:Value} {N:List Nd} {s:Ps} (h:PS w g Tv T Nv N s):N.length=s.N.length:=by rw [← h.n]; simp
def Rd (T:List Tk) (w:World) (g:Nat) (Tv Nv:Value) (N:List Nd) (r:Except Nat (Nat × Ps)) (x:Ending) (w':World):Prop:=
 match r with
 | .error e=>x=badAt e∧Turned (fun k=>k=g∨blk Nv k) w w'
 | .ok (a,t)=>x=.returned (.int .i64 (a:Nat))∧∃ Nv' M',(∀ n∈M',∀ k,blk n.kv k→w.heap.size≤k)∧PS w' g Tv T Nv' (N++M') t∧Stp g Nv Nv' w w'
def RdL (T:List Tk) (w:World) (g:Nat) (Tv Nv:Value) (N:List Nd) (r:Except Nat (List Int × Ps)) (x:Ending) (w':World):Prop:=
 match r with
 | .error e=>x=badAt e∧Turned (fun k=>k=g∨blk Nv k) w w'
 | .ok (l,t)=>∃ V,x=.returned V∧∃ Nv' M',(∀ n∈M',∀ k,blk n.kv k→w.heap.size≤k)∧PS w' g Tv T Nv' (N++M') t∧Stp g Nv Nv' w w'∧OwnI w' V l∧∀ k,blk V k→w.heap.size≤k∧Free w' g Tv Nv' (N++M') k
def Fwd (T:List Tk) (m:PM Nat):Prop:=∀ s,S2 T s s→Ok2 T VN 1 m m s s
theorem Fwd.of (T:List Tk) (f:Nat) (ph:Ph) (hp:okPh ph):Fwd T (runP T f ph):=fun s hs=>(runP_ok2 (Alike.refl T) f ph hp s s hs).mono (dOf_pos ph)
theorem Fwd.ok {T:List Tk} {m:PM Nat} (h:Fwd T m) {s t:Ps} (hs:S2 T s s) (hc:Cnt T s) {a:Nat} (e:m s=.ok (a,t)):S2 T t t∧a < t.N.length∧s.i < t.i∧Cnt T t:=by
 rcases h s hs with ⟨x,h1,_⟩ | ⟨a1,a2,t1,t2,h1,h2,h3,h4,h5,M,h6,h7⟩
 ·rw [e] at h1; cases h1
 ·rw [e] at h1 h2
  obtain ⟨rfl,rfl⟩:a=a1∧t=t1:=by simpa using h1
  obtain ⟨rfl,rfl⟩:a=a2∧t=t2:=by simpa using h2
  refine ⟨h3,h4.2,by omega,?_⟩
  unfold Cnt at hc ⊢
  have:=h3.il
  rw [h6]
  simp
  omega
def Runs (T:List Tk) (F:FuncId) (more:List Value) (m:PM Nat) (i0:Nat):Prop:=∀ s,i0≤s.i→∀ w g Tv Nv N,PS w g Tv T Nv N s→Calls Tryz.prog F (Value.pointer (some ⟨g,0,none⟩) :: more).toArray w (Rd T w g Tv Nv N (m s))
section
variable {w:World} {g:Nat} {Tv:Value} {T:List Tk} {i:Nat} {Nv:Value} {N:List Nd}
theorem ps_need_bad (h:PAt w g Tv T i Nv N):Calls Tryz.prog 116 #[.pointer (some ⟨g,0,none⟩),.bool false] w fun x w'=>x=badAt i∧Below w.heap.size w w':=by
 have hc1:=h.c1.1
 have hgl:=h.lt
 clear h
 go_enter Tryz.func116,Tryz.ntmps116
 go_wp2
 exact ⟨rfl,rfl,Below.alloc0 w _⟩
theorem ps_kind_bad (h:PAt w g Tv T i Nv N) (k:Int) (hk:¬ (tokAt T i).kind=k):Calls Tryz.prog 96 #[.pointer (some ⟨g,0,none⟩),.int .i64 k] w fun x w'=>x=badAt i∧Below w.heap.size w w':=by
 have hgl:=h.lt
 have hp:=fun o=>ps_peek (h.below (Below.alloc0 w o))
 have hn:=fun o (w1:World) (hb:Below (w.alloc o).heap.size (w.alloc o) w1)=>ps_need_bad ((h.below (Below.alloc0 w o)).below hb)
 have hfk:=Tryz.tokKind
 generalize tokAt T i=t at hp hn hk
 obtain ⟨tk,tt,tn,ta⟩:=t
 simp only [Tk.val] at hp hn hk ⊢
 have hbe:(tk == k)=false:=by simpa using hk
 clear h
 go_enter Tryz.func96,Tryz.ntmps96
 go_wp2_with fail
 refine (hp _).mono ?_
 rintro x w1 ⟨rfl,hb1⟩
 go_wp2_with fail
 refine (hn _ _ hb1).mono ?_
 rintro x w2 ⟨rfl,hb2⟩
 exact ⟨rfl,rfl,(Below.alloc0 w _).trans ((hb1.trans (hb2.mono hb1.size)).mono (by simp))⟩
theorem ps_sign_bad (h:PAt w g Tv T i Nv N) (s:ByteArray) (hk:isTk 5 s (tokAt T i)=false):Calls Tryz.prog 94 #[.pointer (some ⟨g,0,none⟩),.string s] w fun x w'=>x=badAt i∧Below w.heap.size w w':=by
 have hgl:=h.lt
 have hp:=fun o=>ps_isSign (h.below (Below.alloc0 w o)) s
 have hn:=fun o (w1:World) (hb:Below (w.alloc o).heap.size (w.alloc o) w1)=>ps_need_bad ((h.below (Below.alloc0 w o)).below hb)
 simp only [hk] at hp
 clear h hk
 go_enter Tryz.func94,Tryz.ntmps94
 go_wp2_with fail
 refine (hp _).mono ?_
 rintro x w1 ⟨rfl,hb1⟩
 go_wp2_with fail
 refine (hn _ _ hb1).mono ?_
 rintro x w2 ⟨rfl,hb2⟩
 exact ⟨rfl,rfl,(Below.alloc0 w _).trans ((hb1.trans (hb2.mono hb1.size)).mono (by simp))⟩
theorem ps_word_bad (h:PAt w g Tv T i Nv N) (s:ByteArray) (hk:isTk 4 s (tokAt T i)=false):Calls Tryz.prog 190 #[.pointer (some ⟨g,0,none⟩),.string s] w fun x w'=>x=badAt i∧Below w.heap.size w w':=by
 have hgl:=h.lt
 have hp:=fun o=>ps_isWord (h.below (Below.alloc0 w o)) s
 have hn:=fun o (w1:World) (hb:Below (w.alloc o).heap.size (w.alloc o) w1)=>ps_need_bad ((h.below (Below.alloc0 w o)).below hb)
 simp only [hk] at hp
 clear h hk
 go_enter Tryz.func190,Tryz.ntmps190
 go_wp2_with fail
 refine (hp _).mono ?_
 rintro x w1 ⟨rfl,hb1⟩
 go_wp2_with fail
 refine (hn _ _ hb1).mono ?_
 rintro x w2 ⟨rfl,hb2⟩
 exact ⟨rfl,rfl,(Below.alloc0 w _).trans ((hb1.trans (hb2.mono hb1.size)).mono (by simp))⟩
theorem ps_word (h:PAt w g Tv T i Nv N) (hi:i < T.length) (s:ByteArray) (hk:isTk 4 s (tokAt T i)=true):Calls Tryz.prog 190 #[.pointer (some ⟨g,0,none⟩),.string s] w (Took w g Tv T i Nv N):=by
 have H:=Hid.mk7 h
 have hgl:=h.lt
 have hp:=fun o=>ps_isWord (h.below (Below.alloc0 w o)) s
 have hn:=fun o (w1:World) (hb:Below (w.alloc o).heap.size (w.alloc o) w1)=>ps_need ((h.below (Below.alloc0 w o)).below hb) hi
 simp only [hk] at hp
 clear hk
 unfold Took at hn ⊢
 generalize tokAt T i=t at hn ⊢
 obtain ⟨tk,tt,tn,ta⟩:=t
 simp only [Tk.val] at hn ⊢
 clear h
 go_enter Tryz.func190,Tryz.ntmps190
 go_wp2_with fail
 refine (hp _).mono ?_
 rintro x w1 ⟨rfl,hb1⟩
 go_wp2_with fail
 refine (hn _ _ hb1).mono ?_
 rintro x w2 ⟨rfl,h2,T2⟩
 have T3:=(Turned.ofBelow (S:=fun k=>k=g) hb1).trans T2 (fun _ e=>.inl e)
 obtain ⟨⟨c0,f0⟩,⟨c1,f1⟩,⟨c2,f2⟩,⟨c3,f3⟩⟩:=newTokT hgl T3
 have HN:=Hid.mk7 (H.out.tookOn (by omega) h2 T3 ⟨tk,tt,tn,ta⟩)
 clear hp hn hb1 h2 T2 T3
 go_wp2
 have hr:=lay4_range _ w.heap.size ⟨tk,tt,tn,ta⟩ c0 c1 c2 c3
 exact bodyPost_ret (v:=(⟨tk,tt,tn,ta⟩:Tk).val) (results_tok Tryz.results190 rfl hr) rfl ⟨rfl,HN.out⟩
theorem ps_atom_bad (h:PAt w g Tv T i Nv N) (s:ByteArray) (hk:isTk 1 s (tokAt T i)=false):Calls Tryz.prog 95 #[.pointer (some ⟨g,0,none⟩),.string s] w fun x w'=>x=badAt i∧Below w.heap.size w w':=by
 have hgl:=h.lt
 have hp:=fun o=>ps_peek (h.below (Below.alloc0 w o))
 have hq:∀ o (w0:World),Below (w.alloc o).heap.size (w.alloc o) w0→Calls Tryz.prog 117 #[(tokAt T i).val,.int .i64 1,.string s] w0 fun x w'=>x=.returned (.bool false)∧Below (w.alloc o).heap.size (w.alloc o) w':=fun o w0 hb=>(ps_is (tokAt T i) 1 s w0).mono (fun x w' hx=>⟨by rw [hx.1]; exact congrArg Ending.returned (congrArg Value.bool hk),hb.trans (hx.2.mono hb.size)⟩)
 have hn:=fun o (w1:World) (hb:Below (w.alloc o).heap.size (w.alloc o) w1)=>ps_need_bad ((h.below (Below.alloc0 w o)).below hb)
 clear hk
 generalize tokAt T i=t at hp hq hn ⊢
 obtain ⟨tk,tt,tn,ta⟩:=t
 simp only [Tk.val] at hp hq hn ⊢
 clear h
 go_enter Tryz.func95,Tryz.ntmps95
 go_wp2_with fail
 refine (hp _).mono ?_
 rintro x w0 ⟨rfl,hb0⟩
 go_wp2_with fail
 refine (hq _ _ hb0).mono ?_
 rintro x w1 ⟨rfl,hb1⟩
 clear hb0
 go_wp2_with fail
 refine (hn _ _ hb1).mono ?_
 rintro x w2 ⟨rfl,hb2⟩
 exact ⟨rfl,rfl,(Below.alloc0 w _).trans ((hb1.trans (hb2.mono hb1.size)).mono (by simp))⟩
end
structure Bd (w:World) (q:Nat) (e:Nat):Prop where
 bad:w.cell? ⟨q,3,none⟩=some (.bool true)
 err:w.cell? ⟨q,4,none⟩=some (.int .i64 e)
theorem Bd.lt {w:World} {q e:Nat} (h:Bd w q e):q < w.heap.size:=World.block_lt_of_cell? w _ h.bad
theorem Bd.below {w w':World} {q e:Nat} (h:Bd w q e) (hb:Below w.heap.size w w'):Bd w' q e:=⟨(hb.cell (p:=⟨q,3,none⟩) h.lt).trans h.bad,(hb.cell (p:=⟨q,4,none⟩) h.lt).trans h.err⟩
section
variable {w:World} {q e:Nat}
theorem bd_syntax (h:Bd w q e):Calls Tryz.prog 59 #[.pointer (some ⟨q,0,none⟩)] w fun x w'=>x=.returned (.int .i64 0)∧Below w.heap.size w w':=by
 have hb:=h.bad
 clear h
 go_enter Tryz.func59,Tryz.ntmps59
 go_wp2
 go_ret
 exact ⟨rfl,Below.refl _ _⟩
theorem bd_token (h:Bd w q e) (n:Int):Calls Tryz.prog 25 #[.pointer (some ⟨q,0,none⟩),.int .i64 n] w fun x w'=>x=.returned zeroTk.val∧Below w.heap.size w w':=by
 have hb:=h.bad
 have hl:=h.lt
 clear h
 go_enter Tryz.func25,Tryz.ntmps25
 go_wp2_with fail
 go_region
 go_wp2
 refine bodyPost_ret (v:=zeroTk.val) (by simp [results,Tryz.results25,go_sem,zeroTk,Tk.val]) rfl ⟨rfl,?_⟩
 exact (Below.alloc0 w _).drew
theorem bd_sign (h:Bd w q e) (n:Int) (s:ByteArray):Calls Tryz.prog 61 #[.pointer (some ⟨q,0,none⟩),.int .i64 n,.string s] w fun x w'=>x=.returned (.bool false)∧Below w.heap.size w w':=by
 have c0:=fun w1 (hb:Below w.heap.size w w1)=>(bd_token (h.below hb) n).mono fun x w2 (hx:x=.returned zeroTk.val∧Below w1.heap.size w1 w2)=>(show x=.returned zeroTk.val∧Below w.heap.size w w2 from ⟨hx.1,hb.trans (hx.2.mono hb.size)⟩)
 simp only [zeroTk,Tk.val] at c0
 have B:=Below.refl w.heap.size w
 clear h
 go_enter Tryz.func61,Tryz.ntmps61
 go_wp2_with fail
 refine (c0 _ (B)).mono ?_
 rintro x w1 ⟨rfl,hb1⟩
 clear c0
 have H1:=Hid.mk7 hb1
 clear hb1
 go_wp2
 go_ret
 exact ⟨rfl,H1.out.trans ((Below.alloc0 w1 _).mono H1.out.size)⟩
theorem bd_take (h:Bd w q e) (s:ByteArray):Calls Tryz.prog 84 #[.pointer (some ⟨q,0,none⟩),.string s] w fun x w'=>x=.returned (.bool false)∧Below w.heap.size w w':=by
 have c0:=fun w1 (hb:Below w.heap.size w w1)=>(bd_sign (h.below hb) 0 s).mono fun x w2 (hx:x=.returned (.bool false)∧Below w1.heap.size w1 w2)=>(show x=.returned (.bool false)∧Below w.heap.size w w2 from ⟨hx.1,hb.trans (hx.2.mono hb.size)⟩)
 have B:=Below.refl w.heap.size w
 clear h
 go_enter Tryz.func84,Tryz.ntmps84
 go_wp2_with fail
 refine (c0 _ (B)).mono ?_
 rintro x w1 ⟨rfl,hb1⟩
 clear c0
 have H1:=Hid.mk7 hb1
 clear hb1
 go_wp2
 go_ret
 exact ⟨rfl,H1.out⟩
theorem bd_word (h:Bd w q e) (s:ByteArray):Calls Tryz.prog 58 #[.pointer (some ⟨q,0,none⟩),.string s] w fun x w'=>x=.returned (.bool false)∧Below w.heap.size w w':=by
 have c0:=fun w1 (hb:Below w.heap.size w w1)=>(bd_token (h.below hb) 0).mono fun x w2 (hx:x=.returned zeroTk.val∧Below w1.heap.size w1 w2)=>(show x=.returned zeroTk.val∧Below w.heap.size w w2 from ⟨hx.1,hb.trans (hx.2.mono hb.size)⟩)
 simp only [zeroTk,Tk.val] at c0
 have B:=Below.refl w.heap.size w
 clear h
 go_enter Tryz.func58,Tryz.ntmps58
 go_wp2_with fail
 refine (c0 _ (B)).mono ?_
 rintro x w1 ⟨rfl,hb1⟩
 clear c0
 have H1:=Hid.mk7 hb1
 clear hb1
 go_wp2
 go_ret
 exact ⟨rfl,H1.out.trans ((Below.alloc0 w1 _).mono H1.out.size)⟩
theorem bd_want (h:Bd w q e) (s:ByteArray):Calls Tryz.prog 57 #[.pointer (some ⟨q,0,none⟩),.string s] w fun x w'=>x=.returned (.tuple #[])∧Below w.heap.size w w':=by
 have c0:=fun w1 (hb:Below w.heap.size w w1)=>(bd_take (h.below hb) s).mono fun x w2 (hx:x=.returned (.bool false)∧Below w1.heap.size w1 w2)=>(show x=.returned (.bool false)∧Below w.heap.size w w2 from ⟨hx.1,hb.trans (hx.2.mono hb.size)⟩)
 have c1:=fun w1 (hb:Below w.heap.size w w1)=>(bd_syntax (h.below hb)).mono fun x w2 (hx:x=.returned (.int .i64 0)∧Below w1.heap.size w1 w2)=>(show x=.returned (.int .i64 0)∧Below w.heap.size w w2 from ⟨hx.1,hb.trans (hx.2.mono hb.size)⟩)
 have B:=Below.refl w.heap.size w
 clear h
 go_enter Tryz.func57,Tryz.ntmps57
 go_wp2_with fail
 refine (c0 _ (B)).mono ?_
 rintro x w1 ⟨rfl,hb1⟩
 clear c0
 have H1:=Hid.mk7 hb1
 clear hb1
 go_wp2_with fail
 refine (c1 _ (H1.out)).mono ?_
 rintro x w2 ⟨rfl,hb2⟩
 clear c1
 have H2:=Hid.mk7 hb2
 clear hb2
 go_wp2
 go_end0
 exact ⟨rfl,H2.out⟩
theorem bd_node (h:Bd w q e) (k at_:Int) (t:ByteArray) (v:Value):Calls Tryz.prog 27 #[.pointer (some ⟨q,0,none⟩),.int .i64 k,.int .i64 at_,.string t,v] w fun x w'=>x=.returned (.int .i64 0)∧Below w.heap.size w w':=by
 have hb:=h.bad
 clear h
 go_enter Tryz.func27,Tryz.ntmps27
 go_wp2
 go_ret
 exact ⟨rfl,Below.refl _ _⟩
theorem bd_kind (h:Bd w q e) (k:Int) (hk:¬ k=0):Calls Tryz.prog 60 #[.pointer (some ⟨q,0,none⟩),.int .i64 k] w fun x w'=>x=.returned zeroTk.val∧Below w.heap.size w w':=by
 have c0:=fun w1 (hb:Below w.heap.size w w1)=>(bd_token (h.below hb) 0).mono fun x w2 hx=>(show x=.returned zeroTk.val∧Below w1.heap.size w1 w2 from hx)
 have c1:=fun w1 (hb:Below w.heap.size w w1)=>bd_syntax (h.below hb)
 simp only [zeroTk,Tk.val] at c0
 have hbe:(0 == k)=false:=by simpa using fun e=>hk e.symm
 have hbn:¬ (0=k):=fun e=>hk e.symm
 have hl:=h.lt
 have hfk:=Tryz.tokKind
 clear h hk
 go_enter Tryz.func60,Tryz.ntmps60
 go_wp2_with fail
 refine (c0 _ (Below.alloc0 w _)).mono ?_
 rintro x w1 ⟨rfl,hb1⟩
 have H1:=Hid.mk7 hb1
 have hc:=c1 _ (((Below.alloc0 w _).trans (hb1.mono (by simp))).trans ((Below.alloc0 w1 (.cells #[.int .i64 0,.string ⟨#[]⟩,.int .i64 0,.int .i64 0] 40)).mono (Nat.le_trans (by simp) hb1.size)))
 clear c0 c1 hb1
 go_wp2_with fail
 refine hc.mono ?_
 rintro x w2 ⟨rfl,hb2⟩
 have hbt:=H1.out.trans (((Below.alloc0 w1 _).trans (hb2.mono (by simp))).mono H1.out.size)
 obtain ⟨⟨k0,f0⟩,⟨k1,f1⟩,⟨k2,f2⟩,⟨k3,f3⟩⟩:=newTok hbt
 have HB:=Hid.mk7 ((Below.alloc0 w _).trans (hbt.mono (by simp)))
 clear hbt hb2 hc
 go_wp2
 refine bodyPost_ret (v:=.agg #[.int .i64 0,.string ⟨#[]⟩,.int .i64 0,.int .i64 0]) ?_ rfl ⟨rfl,?_⟩
 ·simp [results,Tryz.results60,go_sem,k0,k1,k2,k3]
 ·exact Below.tok4 HB.out zeroTk
end
theorem _root_.Go.RowKit.Below.up1 {w w1:World} (h:Below w.heap.size w w1) (o:Obj):Below w.heap.size w (w1.alloc o):=h.trans ((Below.alloc0 w1 o).mono h.size)
def StrsAt (w:World) (b:Nat) (L:List ByteArray):Prop:=∀ j (h:j < L.length),w.cell? ⟨b,j,none⟩=some (.string L[j])
theorem StrsAt.below {w w':World} {b:Nat} {L:List ByteArray} (h:StrsAt w b L) (hb:Below w.heap.size w w'):StrsAt w' b L:=fun j hj=>(hb.cell (p:=⟨b,j,none⟩) (World.block_lt_of_cell? w _ (h j hj))).trans (h j hj)
section
variable {w:World} {q e:Nat}
theorem bd_operator (h:Bd w q e) {b cap:Nat} {L:List ByteArray} (hL:StrsAt w b L) (hn:L.length≤100):Calls Tryz.prog 181 #[.pointer (some ⟨q,0,none⟩),.slice (some ⟨b,0,none⟩) L.length cap] w fun x w'=>x=.returned (.string ⟨#[]⟩)∧Below w.heap.size w w':=by
 have HH:=Hid.mk7 (And.intro h hL)
 clear h hL
 go_enter Tryz.func181,Tryz.ntmps181
 go_wp2_with fail
 go_loopw [5] (fun ii wr=>∃ j:Nat,ii=.int .i64 (j:Int)∧j≤L.length∧Below w.heap.size w wr) (fun ii _=>L.length - (intOf ii).toNat)
 case atStart=>exact ⟨0,rfl,by omega,Below.refl _ _⟩
 case round=>
  obtain ⟨j,rfl,hj,hb⟩:=hrel
  by_cases hlt:j < L.length
  ·have hlti:(j:Int) < (L.length:Int):=by omega
   have k0:=HH.out.2.below hb j hlt
   have hl:=World.block_lt_of_cell? wr _ k0
   have hc:=bd_take (HH.out.1.below hb) L[j]
   have HB:=Hid.mk7 hb
   generalize L[j]=t at k0 hc
   clear hb
   go_wp2_with fail
   refine hc.mono ?_
   rintro x w1 ⟨rfl,hb1⟩
   have HB1:=Hid.mk7 (HB.out.trans (hb1.mono HB.out.size))
   clear hc hb1 k0
   go_wp2
   go_roundw
   case rel=>exact ⟨j+1,by go_num,by omega,HB1.out⟩
   case measure=>simp [intOf]; omega
  ·have hge:¬ (j:Int) < (L.length:Int):=by omega
   have HB:=Hid.mk7 hb
   clear hb
   go_wp2
   go_ret
   exact ⟨rfl,HB.out⟩
theorem StrsAt.new (w:World) (L:List ByteArray) (t:TypeId):StrsAt (w.alloc (.cells (L.map Value.string).toArray t)) w.heap.size L:=fun j hj=>by
 rw [World.cell?_alloc_at _ _ _ _ (by simp)]
 simp [hj]
theorem bd_operator_new (h:Bd w q e) {w1:World} (hb:Below w.heap.size w w1) {o:Obj} (L:List ByteArray) {t:TypeId} {n b:Nat} {cs:Array Value} (hn:n=L.length) (hbb:b=w1.heap.size+1) (hcs:cs=(L.map Value.string).toArray) (h1:L.length≤100):Calls Tryz.prog 181 #[.pointer (some ⟨q,0,none⟩),.slice (some ⟨b,0,none⟩) n n] ((w1.alloc o).alloc (.cells cs t)) fun x w'=>x=.returned (.string ⟨#[]⟩)∧Below w.heap.size w w':=by
 subst hn hbb hcs
 have B:=(hb.up1 o).up1 (.cells (L.map Value.string).toArray t)
 have hs:=StrsAt.new (w1.alloc o) L t
 rw [World.size_alloc] at hs
 exact (bd_operator (h.below B) hs h1).mono fun x w2 hx=>⟨hx.1,B.trans (hx.2.mono B.size)⟩
theorem bd_simple (h:Bd w q e):Calls Tryz.prog 209 #[.pointer (some ⟨q,0,none⟩)] w fun x w'=>x=.returned (.int .i64 0)∧Below w.heap.size w w':=by
 have hbad:=fun w1 (hb:Below w.heap.size w w1)=>(h.below hb).bad
 have hl:=h.lt
 have c0:=fun w1 (hb:Below w.heap.size w w1)=>(bd_token (h.below hb) 0).mono fun x w2 hx=>(show x=.returned zeroTk.val∧Below w.heap.size w w2 from ⟨hx.1,hb.trans (hx.2.mono hb.size)⟩)
 simp only [zeroTk,Tk.val] at c0
 have c1:=fun w1 (hb:Below w.heap.size w w1)=>(bd_take (h.below hb) ⟨#[40]⟩).mono fun x w2 hx=>(show x=.returned (.bool false)∧Below w.heap.size w w2 from ⟨hx.1,hb.trans (hx.2.mono hb.size)⟩)
 have c2:=fun w1 (hb:Below w.heap.size w w1)=>(bd_take (h.below hb) ⟨#[123]⟩).mono fun x w2 hx=>(show x=.returned (.bool false)∧Below w.heap.size w w2 from ⟨hx.1,hb.trans (hx.2.mono hb.size)⟩)
 have c3:=fun w1 (hb:Below w.heap.size w w1)=>(bd_take (h.below hb) ⟨#[91]⟩).mono fun x w2 hx=>(show x=.returned (.bool false)∧Below w.heap.size w w2 from ⟨hx.1,hb.trans (hx.2.mono hb.size)⟩)
 have c4:=fun w1 (hb:Below w.heap.size w w1)=>(bd_take (h.below hb) ⟨#[98,101,103,105,110]⟩).mono fun x w2 hx=>(show x=.returned (.bool false)∧Below w.heap.size w w2 from ⟨hx.1,hb.trans (hx.2.mono hb.size)⟩)
 have c5:=fun w1 (hb:Below w.heap.size w w1)=>(bd_take (h.below hb) ⟨#[99,97,115,101]⟩).mono fun x w2 hx=>(show x=.returned (.bool false)∧Below w.heap.size w w2 from ⟨hx.1,hb.trans (hx.2.mono hb.size)⟩)
 have c6:=fun w1 (hb:Below w.heap.size w w1)=>(bd_take (h.below hb) ⟨#[114,101,99,101,105,118,101]⟩).mono fun x w2 hx=>(show x=.returned (.bool false)∧Below w.heap.size w w2 from ⟨hx.1,hb.trans (hx.2.mono hb.size)⟩)
 have c7:=fun w1 (hb:Below w.heap.size w w1)=>(bd_take (h.below hb) ⟨#[116,114,121]⟩).mono fun x w2 hx=>(show x=.returned (.bool false)∧Below w.heap.size w w2 from ⟨hx.1,hb.trans (hx.2.mono hb.size)⟩)
 have c8:=fun w1 (hb:Below w.heap.size w w1)=>(bd_syntax (h.below hb)).mono fun x w2 hx=>(show x=.returned (.int .i64 0)∧Below w.heap.size w w2 from ⟨hx.1,hb.trans (hx.2.mono hb.size)⟩)
 have H0:=Hid.mk7 (Below.refl w.heap.size w)
 have HH:=Hid.mk7 h
 clear h
 go_enter Tryz.func209,Tryz.ntmps209
 go_wp2_with fail
 refine (c0 _ ?hB).mono ?_
 case hB=>first | exact H0.out | exact H0.out.up1 _ | exact (H0.out.up1 _).up1 _
 rintro x w1 ⟨rfl,hb1⟩
 clear c0
 have H1:=Hid.mk7 hb1
 clear hb1
 go_wp2_with fail
 refine (c1 _ ?hB).mono ?_
 case hB=>first | exact H1.out | exact H1.out.up1 _ | exact (H1.out.up1 _).up1 _
 rintro x w2 ⟨rfl,hb2⟩
 clear c1
 have H2:=Hid.mk7 hb2
 clear hb2
 go_wp2_with fail
 refine (c2 _ ?hB).mono ?_
 case hB=>first | exact H2.out | exact H2.out.up1 _ | exact (H2.out.up1 _).up1 _
 rintro x w3 ⟨rfl,hb3⟩
 clear c2
 have H3:=Hid.mk7 hb3
 clear hb3
 go_wp2_with fail
 refine (c3 _ ?hB).mono ?_
 case hB=>first | exact H3.out | exact H3.out.up1 _ | exact (H3.out.up1 _).up1 _
 rintro x w4 ⟨rfl,hb4⟩
 clear c3
 have H4:=Hid.mk7 hb4
 clear hb4
 go_wp2_with fail
 refine (c4 _ ?hB).mono ?_
 case hB=>first | exact H4.out | exact H4.out.up1 _ | exact (H4.out.up1 _).up1 _
 rintro x w5 ⟨rfl,hb5⟩
 clear c4
 have H5:=Hid.mk7 hb5
 clear hb5
 go_wp2_with fail
 refine (c5 _ ?hB).mono ?_
 case hB=>first | exact H5.out | exact H5.out.up1 _ | exact (H5.out.up1 _).up1 _
 rintro x w6 ⟨rfl,hb6⟩
 clear c5
 have H6:=Hid.mk7 hb6
 clear hb6
 go_wp2_with fail
 refine (c6 _ ?hB).mono ?_
 case hB=>first | exact H6.out | exact H6.out.up1 _ | exact (H6.out.up1 _).up1 _
 rintro x w7 ⟨rfl,hb7⟩
 clear c6
 have H7:=Hid.mk7 hb7
 clear hb7
 go_wp2_with fail
 refine (c7 _ ?hB).mono ?_
 case hB=>first | exact H7.out | exact H7.out.up1 _ | exact (H7.out.up1 _).up1 _
 rintro x w8 ⟨rfl,hb8⟩
 clear c7
 have H8:=Hid.mk7 hb8
 clear hb8
 go_wp2_with fail
 refine (c8 _ ?hB).mono ?_
 case hB=>first | exact H8.out | exact H8.out.up1 _ | exact (H8.out.up1 _).up1 _
 rintro x w9 ⟨rfl,hb9⟩
 clear c8
 have H9:=Hid.mk7 hb9
 clear hb9
 go_wp2
 go_ret
 first | exact ⟨rfl,H9.out⟩ | exact ⟨rfl,H9.out.up1 _⟩ | exact ⟨rfl,(H9.out.up1 _).up1 _⟩
theorem bd_unary (h:Bd w q e):Calls Tryz.prog 202 #[.pointer (some ⟨q,0,none⟩)] w fun x w'=>x=.returned (.int .i64 0)∧Below w.heap.size w w':=by
 have hbad:=fun w1 (hb:Below w.heap.size w w1)=>(h.below hb).bad
 have hl:=h.lt
 have c0:=fun w1 (hb:Below w.heap.size w w1)=>(bd_token (h.below hb) 0).mono fun x w2 hx=>(show x=.returned zeroTk.val∧Below w.heap.size w w2 from ⟨hx.1,hb.trans (hx.2.mono hb.size)⟩)
 simp only [zeroTk,Tk.val] at c0
 have c2:=fun w1 (hb:Below w.heap.size w w1)=>(bd_simple (h.below hb)).mono fun x w2 hx=>(show x=.returned (.int .i64 0)∧Below w.heap.size w w2 from ⟨hx.1,hb.trans (hx.2.mono hb.size)⟩)
 have H0:=Hid.mk7 (Below.refl w.heap.size w)
 have HH:=Hid.mk7 h
 clear h
 go_enter Tryz.func202,Tryz.ntmps202
 go_wp2_with fail
 refine (c0 _ ?hB).mono ?_
 case hB=>first | exact H0.out | exact H0.out.up1 _ | exact (H0.out.up1 _).up1 _
 rintro x w1 ⟨rfl,hb1⟩
 clear c0
 have H1:=Hid.mk7 hb1
 clear hb1
 go_wp2_with fail
 refine (bd_operator_new HH.out H1.out [⟨#[43]⟩,⟨#[45]⟩,⟨#[110,111,116]⟩] rfl rfl rfl (by decide)).mono ?_
 rintro x w2 ⟨rfl,hb2⟩
 have H2:=Hid.mk7 hb2
 clear hb2
 go_wp2_with fail
 refine (c2 _ ?hB).mono ?_
 case hB=>first | exact H2.out | exact H2.out.up1 _ | exact (H2.out.up1 _).up1 _
 rintro x w3 ⟨rfl,hb3⟩
 clear c2
 have H3:=Hid.mk7 hb3
 clear hb3
 go_wp2
 go_ret
 first | exact ⟨rfl,H3.out⟩ | exact ⟨rfl,H3.out.up1 _⟩ | exact ⟨rfl,(H3.out.up1 _).up1 _⟩
theorem bd_product (h:Bd w q e):Calls Tryz.prog 194 #[.pointer (some ⟨q,0,none⟩)] w fun x w'=>x=.returned (.int .i64 0)∧Below w.heap.size w w':=by
 have hbad:=fun w1 (hb:Below w.heap.size w w1)=>(h.below hb).bad
 have hl:=h.lt
 have c0:=fun w1 (hb:Below w.heap.size w w1)=>(bd_unary (h.below hb)).mono fun x w2 hx=>(show x=.returned (.int .i64 0)∧Below w.heap.size w w2 from ⟨hx.1,hb.trans (hx.2.mono hb.size)⟩)
 have H0:=Hid.mk7 (Below.refl w.heap.size w)
 have HH:=Hid.mk7 h
 clear h
 go_enter Tryz.func194,Tryz.ntmps194
 go_wp2_with fail
 refine (c0 _ ?hB).mono ?_
 case hB=>first | exact H0.out | exact H0.out.up1 _ | exact (H0.out.up1 _).up1 _
 rintro x w1 ⟨rfl,hb1⟩
 clear c0
 have H1:=Hid.mk7 hb1
 clear hb1
 have hbd:=hbad _ H1.out
 go_wp2_with fail
 refine wp_loop_rounds 1 ?_
 rw [rounds_succ]
 have H2:=H1
 go_wp2
 go_ret
 first | exact ⟨rfl,H2.out⟩ | exact ⟨rfl,H2.out.up1 _⟩ | exact ⟨rfl,(H2.out.up1 _).up1 _⟩
theorem bd_sum (h:Bd w q e):Calls Tryz.prog 187 #[.pointer (some ⟨q,0,none⟩)] w fun x w'=>x=.returned (.int .i64 0)∧Below w.heap.size w w':=by
 have hbad:=fun w1 (hb:Below w.heap.size w w1)=>(h.below hb).bad
 have hl:=h.lt
 have c0:=fun w1 (hb:Below w.heap.size w w1)=>(bd_product (h.below hb)).mono fun x w2 hx=>(show x=.returned (.int .i64 0)∧Below w.heap.size w w2 from ⟨hx.1,hb.trans (hx.2.mono hb.size)⟩)
 have H0:=Hid.mk7 (Below.refl w.heap.size w)
 have HH:=Hid.mk7 h
 clear h
 go_enter Tryz.func187,Tryz.ntmps187
 go_wp2_with fail
 refine (c0 _ ?hB).mono ?_
 case hB=>first | exact H0.out | exact H0.out.up1 _ | exact (H0.out.up1 _).up1 _
 rintro x w1 ⟨rfl,hb1⟩
 clear c0
 have H1:=Hid.mk7 hb1
 clear hb1
 have hbd:=hbad _ H1.out
 go_wp2_with fail
 refine wp_loop_rounds 1 ?_
 rw [rounds_succ]
 have H2:=H1
 go_wp2
 go_ret
 first | exact ⟨rfl,H2.out⟩ | exact ⟨rfl,H2.out.up1 _⟩ | exact ⟨rfl,(H2.out.up1 _).up1 _⟩
theorem bd_appended (h:Bd w q e):Calls Tryz.prog 180 #[.pointer (some ⟨q,0,none⟩)] w fun x w'=>x=.returned (.int .i64 0)∧Below w.heap.size w w':=by
 have hbad:=fun w1 (hb:Below w.heap.size w w1)=>(h.below hb).bad
 have hl:=h.lt
 have c0:=fun w1 (hb:Below w.heap.size w w1)=>(bd_sum (h.below hb)).mono fun x w2 hx=>(show x=.returned (.int .i64 0)∧Below w.heap.size w w2 from ⟨hx.1,hb.trans (hx.2.mono hb.size)⟩)
 have c1:=fun w1 (hb:Below w.heap.size w w1)=>(bd_token (h.below hb) 0).mono fun x w2 hx=>(show x=.returned zeroTk.val∧Below w.heap.size w w2 from ⟨hx.1,hb.trans (hx.2.mono hb.size)⟩)
 simp only [zeroTk,Tk.val] at c1
 have H0:=Hid.mk7 (Below.refl w.heap.size w)
 have HH:=Hid.mk7 h
 clear h
 go_enter Tryz.func180,Tryz.ntmps180
 go_wp2_with fail
 refine (c0 _ ?hB).mono ?_
 case hB=>first | exact H0.out | exact H0.out.up1 _ | exact (H0.out.up1 _).up1 _
 rintro x w1 ⟨rfl,hb1⟩
 clear c0
 have H1:=Hid.mk7 hb1
 clear hb1
 go_wp2_with fail
 refine (c1 _ ?hB).mono ?_
 case hB=>first | exact H1.out | exact H1.out.up1 _ | exact (H1.out.up1 _).up1 _
 rintro x w2 ⟨rfl,hb2⟩
 clear c1
 have H2:=Hid.mk7 hb2
 clear hb2
 go_wp2_with fail
 refine (bd_operator_new HH.out H2.out [⟨#[43,43]⟩,⟨#[45,45]⟩] rfl rfl rfl (by decide)).mono ?_
 rintro x w3 ⟨rfl,hb3⟩
 have H3:=Hid.mk7 hb3
 clear hb3
 go_wp2
 go_ret
 first | exact ⟨rfl,H3.out⟩ | exact ⟨rfl,H3.out.up1 _⟩ | exact ⟨rfl,(H3.out.up1 _).up1 _⟩
theorem bd_compared (h:Bd w q e):Calls Tryz.prog 172 #[.pointer (some ⟨q,0,none⟩)] w fun x w'=>x=.returned (.int .i64 0)∧Below w.heap.size w w':=by
 have hbad:=fun w1 (hb:Below w.heap.size w w1)=>(h.below hb).bad
 have hl:=h.lt
 have c0:=fun w1 (hb:Below w.heap.size w w1)=>(bd_appended (h.below hb)).mono fun x w2 hx=>(show x=.returned (.int .i64 0)∧Below w.heap.size w w2 from ⟨hx.1,hb.trans (hx.2.mono hb.size)⟩)
 have c1:=fun w1 (hb:Below w.heap.size w w1)=>(bd_token (h.below hb) 0).mono fun x w2 hx=>(show x=.returned zeroTk.val∧Below w.heap.size w w2 from ⟨hx.1,hb.trans (hx.2.mono hb.size)⟩)
 simp only [zeroTk,Tk.val] at c1
 have H0:=Hid.mk7 (Below.refl w.heap.size w)
 have HH:=Hid.mk7 h
 clear h
 go_enter Tryz.func172,Tryz.ntmps172
 go_wp2_with fail
 refine (c0 _ ?hB).mono ?_
 case hB=>first | exact H0.out | exact H0.out.up1 _ | exact (H0.out.up1 _).up1 _
 rintro x w1 ⟨rfl,hb1⟩
 clear c0
 have H1:=Hid.mk7 hb1
 clear hb1
 go_wp2_with fail
 refine (c1 _ ?hB).mono ?_
 case hB=>first | exact H1.out | exact H1.out.up1 _ | exact (H1.out.up1 _).up1 _
 rintro x w2 ⟨rfl,hb2⟩
 clear c1
 have H2:=Hid.mk7 hb2
 clear hb2
 go_wp2_with fail
 refine (bd_operator_new HH.out H2.out [⟨#[61,61]⟩,⟨#[47,61]⟩,⟨#[61,60]⟩,⟨#[60]⟩,⟨#[62,61]⟩,⟨#[62]⟩,⟨#[61,58,61]⟩,⟨#[61,47,61]⟩] rfl rfl rfl (by decide)).mono ?_
 rintro x w3 ⟨rfl,hb3⟩
 have H3:=Hid.mk7 hb3
 clear hb3
 go_wp2
 go_ret
 first | exact ⟨rfl,H3.out⟩ | exact ⟨rfl,H3.out.up1 _⟩ | exact ⟨rfl,(H3.out.up1 _).up1 _⟩
theorem bd_and (h:Bd w q e):Calls Tryz.prog 158 #[.pointer (some ⟨q,0,none⟩)] w fun x w'=>x=.returned (.int .i64 0)∧Below w.heap.size w w':=by
 have hbad:=fun w1 (hb:Below w.heap.size w w1)=>(h.below hb).bad
 have hl:=h.lt
 have c0:=fun w1 (hb:Below w.heap.size w w1)=>(bd_compared (h.below hb)).mono fun x w2 hx=>(show x=.returned (.int .i64 0)∧Below w.heap.size w w2 from ⟨hx.1,hb.trans (hx.2.mono hb.size)⟩)
 have c1:=fun w1 (hb:Below w.heap.size w w1)=>(bd_token (h.below hb) 0).mono fun x w2 hx=>(show x=.returned zeroTk.val∧Below w.heap.size w w2 from ⟨hx.1,hb.trans (hx.2.mono hb.size)⟩)
 simp only [zeroTk,Tk.val] at c1
 have c2:=fun w1 (hb:Below w.heap.size w w1)=>(bd_take (h.below hb) ⟨#[97,110,100,97,108,115,111]⟩).mono fun x w2 hx=>(show x=.returned (.bool false)∧Below w.heap.size w w2 from ⟨hx.1,hb.trans (hx.2.mono hb.size)⟩)
 have H0:=Hid.mk7 (Below.refl w.heap.size w)
 have HH:=Hid.mk7 h
 clear h
 go_enter Tryz.func158,Tryz.ntmps158
 go_wp2_with fail
 refine (c0 _ ?hB).mono ?_
 case hB=>first | exact H0.out | exact H0.out.up1 _ | exact (H0.out.up1 _).up1 _
 rintro x w1 ⟨rfl,hb1⟩
 clear c0
 have H1:=Hid.mk7 hb1
 clear hb1
 go_wp2_with fail
 refine (c1 _ ?hB).mono ?_
 case hB=>first | exact H1.out | exact H1.out.up1 _ | exact (H1.out.up1 _).up1 _
 rintro x w2 ⟨rfl,hb2⟩
 clear c1
 have H2:=Hid.mk7 hb2
 clear hb2
 go_wp2_with fail
 refine (c2 _ ?hB).mono ?_
 case hB=>first | exact H2.out | exact H2.out.up1 _ | exact (H2.out.up1 _).up1 _
 rintro x w3 ⟨rfl,hb3⟩
 clear c2
 have H3:=Hid.mk7 hb3
 clear hb3
 go_wp2
 go_ret
 first | exact ⟨rfl,H3.out⟩ | exact ⟨rfl,H3.out.up1 _⟩ | exact ⟨rfl,(H3.out.up1 _).up1 _⟩
theorem bd_or (h:Bd w q e):Calls Tryz.prog 149 #[.pointer (some ⟨q,0,none⟩)] w fun x w'=>x=.returned (.int .i64 0)∧Below w.heap.size w w':=by
 have hbad:=fun w1 (hb:Below w.heap.size w w1)=>(h.below hb).bad
 have hl:=h.lt
 have c0:=fun w1 (hb:Below w.heap.size w w1)=>(bd_and (h.below hb)).mono fun x w2 hx=>(show x=.returned (.int .i64 0)∧Below w.heap.size w w2 from ⟨hx.1,hb.trans (hx.2.mono hb.size)⟩)
 have c1:=fun w1 (hb:Below w.heap.size w w1)=>(bd_token (h.below hb) 0).mono fun x w2 hx=>(show x=.returned zeroTk.val∧Below w.heap.size w w2 from ⟨hx.1,hb.trans (hx.2.mono hb.size)⟩)
 simp only [zeroTk,Tk.val] at c1
 have c2:=fun w1 (hb:Below w.heap.size w w1)=>(bd_take (h.below hb) ⟨#[111,114,101,108,115,101]⟩).mono fun x w2 hx=>(show x=.returned (.bool false)∧Below w.heap.size w w2 from ⟨hx.1,hb.trans (hx.2.mono hb.size)⟩)
 have H0:=Hid.mk7 (Below.refl w.heap.size w)
 have HH:=Hid.mk7 h
 clear h
 go_enter Tryz.func149,Tryz.ntmps149
 go_wp2_with fail
 refine (c0 _ ?hB).mono ?_
 case hB=>first | exact H0.out | exact H0.out.up1 _ | exact (H0.out.up1 _).up1 _
 rintro x w1 ⟨rfl,hb1⟩
 clear c0
 have H1:=Hid.mk7 hb1
 clear hb1
 go_wp2_with fail
 refine (c1 _ ?hB).mono ?_
 case hB=>first | exact H1.out | exact H1.out.up1 _ | exact (H1.out.up1 _).up1 _
 rintro x w2 ⟨rfl,hb2⟩
 clear c1
 have H2:=Hid.mk7 hb2
 clear hb2
 go_wp2_with fail
 refine (c2 _ ?hB).mono ?_
 case hB=>first | exact H2.out | exact H2.out.up1 _ | exact (H2.out.up1 _).up1 _
 rintro x w3 ⟨rfl,hb3⟩
 clear c2
 have H3:=Hid.mk7 hb3
 clear hb3
 go_wp2
 go_ret
 first | exact ⟨rfl,H3.out⟩ | exact ⟨rfl,H3.out.up1 _⟩ | exact ⟨rfl,(H3.out.up1 _).up1 _⟩
theorem bd_exp (h:Bd w q e):Calls Tryz.prog 135 #[.pointer (some ⟨q,0,none⟩)] w fun x w'=>x=.returned (.int .i64 0)∧Below w.heap.size w w':=by
 have hbad:=fun w1 (hb:Below w.heap.size w w1)=>(h.below hb).bad
 have hl:=h.lt
 have c0:=fun w1 (hb:Below w.heap.size w w1)=>(bd_or (h.below hb)).mono fun x w2 hx=>(show x=.returned (.int .i64 0)∧Below w.heap.size w w2 from ⟨hx.1,hb.trans (hx.2.mono hb.size)⟩)
 have c1:=fun w1 (hb:Below w.heap.size w w1)=>(bd_token (h.below hb) 0).mono fun x w2 hx=>(show x=.returned zeroTk.val∧Below w.heap.size w w2 from ⟨hx.1,hb.trans (hx.2.mono hb.size)⟩)
 simp only [zeroTk,Tk.val] at c1
 have c2:=fun w1 (hb:Below w.heap.size w w1)=>(bd_take (h.below hb) ⟨#[61]⟩).mono fun x w2 hx=>(show x=.returned (.bool false)∧Below w.heap.size w w2 from ⟨hx.1,hb.trans (hx.2.mono hb.size)⟩)
 have c3:=fun w1 (hb:Below w.heap.size w w1)=>(bd_take (h.below hb) ⟨#[33]⟩).mono fun x w2 hx=>(show x=.returned (.bool false)∧Below w.heap.size w w2 from ⟨hx.1,hb.trans (hx.2.mono hb.size)⟩)
 have H0:=Hid.mk7 (Below.refl w.heap.size w)
 have HH:=Hid.mk7 h
 clear h
 go_enter Tryz.func135,Tryz.ntmps135
 go_wp2_with fail
 refine (c0 _ ?hB).mono ?_
 case hB=>first | exact H0.out | exact H0.out.up1 _ | exact (H0.out.up1 _).up1 _
 rintro x w1 ⟨rfl,hb1⟩
 clear c0
 have H1:=Hid.mk7 hb1
 clear hb1
 go_wp2_with fail
 refine (c1 _ ?hB).mono ?_
 case hB=>first | exact H1.out | exact H1.out.up1 _ | exact (H1.out.up1 _).up1 _
 rintro x w2 ⟨rfl,hb2⟩
 clear c1
 have H2:=Hid.mk7 hb2
 clear hb2
 go_wp2_with fail
 refine (c2 _ ?hB).mono ?_
 case hB=>first | exact H2.out | exact H2.out.up1 _ | exact (H2.out.up1 _).up1 _
 rintro x w3 ⟨rfl,hb3⟩
 clear c2
 have H3:=Hid.mk7 hb3
 clear hb3
 go_wp2_with fail
 refine (c3 _ ?hB).mono ?_
 case hB=>first | exact H3.out | exact H3.out.up1 _ | exact (H3.out.up1 _).up1 _
 rintro x w4 ⟨rfl,hb4⟩
 clear c3
 have H4:=Hid.mk7 hb4
 clear hb4
 go_wp2
 go_ret
 first | exact ⟨rfl,H4.out⟩ | exact ⟨rfl,H4.out.up1 _⟩ | exact ⟨rfl,(H4.out.up1 _).up1 _⟩
end
theorem OwnI.below {w w':World} {v:Value} {l:List Int} (h:OwnI w v l) (hb:Below w.heap.size w w'):OwnI w' v l:=OwnK.turned h (Turned.ofBelow (S:=fun _=>False) hb) (fun _ _ e=>e)
def BdL (w:World) (x:Ending) (w':World):Prop:=∃ V,x=.returned V∧∃ l:List Int,l.length≤1∧OwnI w' V l∧(∀ k,blk V k→w.heap.size≤k)∧Below w.heap.size w w'
section
variable {w:World} {q e:Nat}
theorem bd_exps (h:Bd w q e):Calls Tryz.prog 122 #[.pointer (some ⟨q,0,none⟩)] w (BdL w):=by
 have HH:=Hid.mk7 h
 have c0:=bd_exp h
 clear h
 go_enter Tryz.func122,Tryz.ntmps122
 go_wp2_with fail
 refine c0.mono ?_
 rintro x w1 ⟨rfl,hb1⟩
 have hc:=bd_take (HH.out.below (hb1.up1 (.cells #[.int .i64 0] 3))) ⟨#[44]⟩
 have H1:=Hid.mk7 hb1
 clear c0 hb1
 go_wp2_with fail
 refine wp_loop_rounds 1 ?_
 rw [rounds_succ]
 go_wp2_with fail
 refine hc.mono ?_
 rintro x w2 ⟨rfl,hb2⟩
 have H2:=Hid.mk7 hb2
 clear hc hb2
 go_wp2
 go_ret
 have B:=H1.out.up1 (.cells #[.int .i64 0] 3)
 exact ⟨_,rfl,[0],by simp,(OwnI.one w1 0 3).below H2.out,fun k hk=>by have:w1.heap.size=k:=hk; have:=H1.out.size; omega,B.trans (H2.out.mono B.size)⟩
theorem bd_body (h:Bd w q e):Calls Tryz.prog 124 #[.pointer (some ⟨q,0,none⟩)] w fun x w'=>x=.returned (.int .i64 0)∧Below w.heap.size w w':=by
 have HH:=Hid.mk7 h
 have c0:=bd_token h 0
 simp only [zeroTk,Tk.val] at c0
 have hfa:=Tryz.tokPlace
 clear h
 go_enter Tryz.func124,Tryz.ntmps124
 go_wp2_with fail
 refine c0.mono ?_
 rintro x w1 ⟨rfl,hb1⟩
 have hc:=bd_exps (HH.out.below hb1)
 have H1:=Hid.mk7 hb1
 clear c0 hb1
 go_wp2_with fail
 refine hc.mono ?_
 rintro x w2 ⟨V,rfl,l,_,_,_,hb2⟩
 have B:=H1.out.trans (hb2.mono H1.out.size)
 have hd:=fun at_=>bd_node (HH.out.below B) 23 at_ ⟨#[]⟩ V
 have H2:=Hid.mk7 B
 clear hc hb2 B
 go_wp2_with fail
 refine (hd _).mono ?_
 rintro x w3 ⟨rfl,hb3⟩
 have H3:=Hid.mk7 (H2.out.trans (hb3.mono H2.out.size))
 clear hd hb3
 go_wp2
 go_ret
 exact ⟨rfl,H3.out⟩
theorem bd_args (h:Bd w q e):Calls Tryz.prog 101 #[.pointer (some ⟨q,0,none⟩)] w (BdL w):=by
 have HH:=Hid.mk7 h
 have c0:=bd_want h ⟨#[40]⟩
 clear h
 go_enter Tryz.func101,Tryz.ntmps101
 go_wp2_with fail
 refine c0.mono ?_
 rintro x w1 ⟨rfl,hb1⟩
 have hc:=bd_take (HH.out.below hb1) ⟨#[41]⟩
 have H1:=Hid.mk7 hb1
 clear c0 hb1
 go_wp2_with fail
 refine hc.mono ?_
 rintro x w2 ⟨rfl,hb2⟩
 have B2:=H1.out.trans (hb2.mono H1.out.size)
 have hd:=bd_exps (HH.out.below B2)
 have H2:=Hid.mk7 B2
 clear hc hb2 B2
 go_wp2_with fail
 refine hd.mono ?_
 rintro x w3 ⟨V,rfl,l,hl,ho,hv,hb3⟩
 have B3:=H2.out.trans (hb3.mono H2.out.size)
 have he:=bd_want (HH.out.below B3) ⟨#[41]⟩
 have H3:=Hid.mk7 (And.intro B3 (And.intro hl (And.intro ho fun k hk=>Nat.le_trans H2.out.size (hv k hk))))
 clear hd hb3 B3 hl ho hv
 go_wp2_with fail
 refine he.mono ?_
 rintro x w4 ⟨rfl,hb4⟩
 have H4:=Hid.mk7 hb4
 clear he hb4
 go_wp2
 go_ret
 obtain ⟨B3,hl,ho,hv⟩:=H3.out
 exact ⟨V,rfl,l,hl,ho.below H4.out,hv,B3.trans (H4.out.mono B3.size)⟩
theorem bd_clauses (h:Bd w q e):Calls Tryz.prog 214 #[.pointer (some ⟨q,0,none⟩)] w fun x w'=>x=.returned (.slice none 0 0)∧Below w.heap.size w w':=by
 have hb:=h.bad
 clear h
 go_enter Tryz.func214,Tryz.ntmps214
 go_wp2_with fail
 refine wp_loop_rounds 1 ?_
 rw [rounds_succ]
 go_wp2
 go_ret
 exact ⟨rfl,Below.refl _ _⟩
theorem bd_rest (h:Bd w q e) (at_ pat:Int) (t:ByteArray):Calls Tryz.prog 102 #[.pointer (some ⟨q,0,none⟩),.int .i64 at_,.string t,.int .i64 pat] w fun x w'=>x=.returned (.int .i64 0)∧Below w.heap.size w w':=by
 have HH:=Hid.mk7 h
 have B0:=Below.alloc0 w (.cells #[.int .i64 pat] 3)
 have c0:=bd_take (h.below B0) ⟨#[119,104,101,110]⟩
 have H0:=Hid.mk7 B0
 clear h B0
 go_enter Tryz.func102,Tryz.ntmps102
 go_wp2_with fail
 refine c0.mono ?_
 rintro x w1 ⟨rfl,hb1⟩
 have B1:=H0.out.trans (hb1.mono H0.out.size)
 have o1:=(OwnI.one w pat 3).below hb1
 have hc:=bd_want (HH.out.below B1) ⟨#[45,62]⟩
 have H1:=Hid.mk7 (And.intro B1 o1)
 clear c0 hb1 B1 o1
 go_wp2_with fail
 refine hc.mono ?_
 rintro x w2 ⟨rfl,hb2⟩
 have B2:=H1.out.1.trans (hb2.mono H1.out.1.size)
 have hd:=bd_body (HH.out.below B2)
 have H2:=Hid.mk7 (And.intro B2 (H1.out.2.below hb2))
 clear hc hb2 B2
 go_wp2_with fail
 refine hd.mono ?_
 rintro x w3 ⟨rfl,hb3⟩
 have H3:=Hid.mk7 (And.intro (H2.out.1.trans (hb3.mono H2.out.1.size)) (H2.out.2.below hb3))
 clear hd hb3
 have HF:Hid (([pat].length+[(0:Int)].length)*8≤140737488355328∧[pat].length+[(0:Int)].length≤4611686018427387903):=by show _∧_; simp
 go_wp2_with (at_builtin; refine wpList_append_k (by rfl) (.tmp 21) (.tmp 24) (by rfl) Tryz.intTypes (by rfl) (by rfl) (OwnK.turned H3.out.2 (Turned.alloc (fun _=>False) _ _) (fun _ _ e=>e)) (SlI.one _ _ _) (ints_one _) HF.out.1 HF.out.2 ?_; intro V6 w6 ho6 T6 hv6)
 have B3:=H3.out.1.up1 (.cells #[.int .i64 0] 3)
 have B6:=B3.trans (T6.below B3.size (fun k (hk:w.heap.size=k)=>by omega))
 have hn:=bd_node (HH.out.below B6) 20 at_ t V6
 have H6:=Hid.mk7 B6
 clear T6 hv6 ho6 B3 B6
 refine hn.mono ?_
 rintro x w7 ⟨rfl,hb7⟩
 have H7:=Hid.mk7 (H6.out.trans (hb7.mono H6.out.size))
 clear hn hb7
 go_wp2
 go_ret
 exact ⟨rfl,H7.out⟩
end
end Go.Proofs.YtlciaafincgdeaaGreatDoor
