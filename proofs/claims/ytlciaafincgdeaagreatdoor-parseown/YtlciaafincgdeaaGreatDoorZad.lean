/-
  Layer 11 (parse): the program's parser takes tokens.
  Layer 11 (parse): the program's parser keeps a node.
  Layer 11 (parse): the program's operators and its simplest expressions.
  Layer 11 (parse): the program's expressions: a leaf; a leaf, an operator and an expression.
  Layer 11 (parse): the program's rows of one phrase; arguments, bodies, clauses.
  Layer 11 (parse): the program's clauses of functions.
-/
import Derived.Test.YtlciaafincgdeaaGreatDoorZac
namespace Go.Proofs.YtlciaafincgdeaaGreatDoor
open Go.RowKit
set_option maxHeartbeats 6400000
set_option maxRecDepth 100000
theorem PAt.next {w w1:World} {g:Nat} {Tv:Value} {T:List Tk} {i:Nat} {Nv:Value} {N:List Nd} (h:PAt w g Tv T i Nv N) (j:Nat) (hj:j≤T.length) (hw:w1=w.setCell ⟨g,1,none⟩ (.int .i64 j)):PAt w1 g Tv T j Nv N∧Turned (fun k=>k=g) w w1:=by
 subst hw
 have T1:=Turned.setCell w ⟨g,1,none⟩ (.int .i64 j)
 refine ⟨⟨?_,⟨World.cell?_setCell_same _ _ _ h.c1.1,?_⟩,⟨?_,?_⟩,h.tok.turned T1 (fun k hk e=>(h.tg k hk).1 e),h.tg,h.own.turned T1 (fun k hk e=>h.ng ((show k=g from e) ▸ hk)),h.ng,fun q hq=>⟨(h.kid q hq).1.turned T1 (fun k hk e=>((h.kid q hq).2 k hk).1 e),fun k hk=>⟨((h.kid q hq).2 k hk).1,((h.kid q hq).2 k hk).2.1,Nat.lt_of_lt_of_le ((h.kid q hq).2 k hk).2.2 T1.size⟩⟩,hj,h.tl⟩,T1⟩
 ·rw [World.cell?_setCell_other _ _ _ _ (by simp)]; exact h.c0
 ·rw [World.frozen?_setCell]; exact h.c1.2
 ·rw [World.cell?_setCell_other _ _ _ _ (by simp)]; exact h.c2.1
 ·rw [World.frozen?_setCell]; exact h.c2.2
def Took (w:World) (g:Nat) (Tv:Value) (T:List Tk) (i:Nat) (Nv:Value) (N:List Nd) (x:Ending) (w':World):Prop:=x=.returned (tokAt T i).val∧PAt w' g Tv T (i+1) Nv N∧Turned (fun k=>k=g) w w'
theorem Turned.set1 (w:World) (g j:Nat) (v:Value):Turned (fun k=>k=g) w (w.setCell ⟨g,j,none⟩ v):=Turned.setCell w ⟨g,j,none⟩ v
def lay4 (w:World) (q:Nat) (t:Tk):World:=(((w.setCell ⟨q,0,none⟩ (.int .i64 t.kind)).setCell ⟨q,1,none⟩ (.string t.text)).setCell ⟨q,2,none⟩ (.int .i64 t.num)).setCell ⟨q,3,none⟩ (.int .i64 t.at_)
theorem lay4_turned (w:World) (q:Nat) (t:Tk):Turned (fun k=>k=q) w (lay4 w q t):=
 (((Turned.set1 w q 0 _).trans (Turned.set1 _ q 1 _) (fun _ e=>.inl e)).trans (Turned.set1 _ q 2 _) (fun _ e=>.inl e)).trans (Turned.set1 _ q 3 _) (fun _ e=>.inl e)
theorem lay4_range (w:World) (q:Nat) (t:Tk) {v0 v1 v2 v3:Value} (h0:w.cell? ⟨q,0,none⟩=some v0) (h1:w.cell? ⟨q,1,none⟩=some v1) (h2:w.cell? ⟨q,2,none⟩=some v2) (h3:w.cell? ⟨q,3,none⟩=some v3):(lay4 w q t).rangeAt q 0 t.cells:=by
 have k0:(w.setCell ⟨q,0,none⟩ (.int .i64 t.kind)).cell? ⟨q,0,none⟩=some (.int .i64 t.kind):=World.cell?_setCell_same _ _ _ h0
 have o:∀ (W:World) (i j:Nat) (v u:Value),W.cell? ⟨q,j,none⟩=some u→i≠j→(W.setCell ⟨q,i,none⟩ v).cell? ⟨q,j,none⟩=some u:=fun W i j v u h hij=>by
  rw [World.cell?_setCell_other _ _ _ _ (by simp; try omega)]; exact h
 have a1:=World.cell?_setCell_same (w.setCell ⟨q,0,none⟩ (.int .i64 t.kind)) ⟨q,1,none⟩ (.string t.text) (o w 0 1 _ _ h1 (by omega))
 have a2:=World.cell?_setCell_same ((w.setCell ⟨q,0,none⟩ (.int .i64 t.kind)).setCell ⟨q,1,none⟩ (.string t.text)) ⟨q,2,none⟩ (.int .i64 t.num) (o _ 1 2 _ _ (o w 0 2 _ _ h2 (by omega)) (by omega))
 have a3:=World.cell?_setCell_same (((w.setCell ⟨q,0,none⟩ (.int .i64 t.kind)).setCell ⟨q,1,none⟩ (.string t.text)).setCell ⟨q,2,none⟩ (.int .i64 t.num)) ⟨q,3,none⟩ (.int .i64 t.at_) (o _ 2 3 _ _ (o _ 1 3 _ _ (o w 0 3 _ _ h3 (by omega)) (by omega)) (by omega))
 intro j v hj
 rw [Nat.zero_add]
 match j,hj with
 | 0,hj=>simp [Tk.cells] at hj; subst hj; exact o _ 3 0 _ _ (o _ 2 0 _ _ (o _ 1 0 _ _ k0 (by omega)) (by omega)) (by omega)
 | 1,hj=>simp [Tk.cells] at hj; subst hj; exact o _ 3 1 _ _ (o _ 2 1 _ _ a1 (by omega)) (by omega)
 | 2,hj=>simp [Tk.cells] at hj; subst hj; exact o _ 3 2 _ _ a2 (by omega)
 | 3,hj=>simp [Tk.cells] at hj; subst hj; exact a3
 | j+4,hj=>simp [Tk.cells] at hj
theorem rangeAt_turned {S:Nat→Prop} {w w':World} {b o:Nat} {cs:List Value} (h:w.rangeAt b o cs) (T:Turned S w w') (hs:¬ S b):w'.rangeAt b o cs:=fun j v hv=>T.cell (h j v hv) hs
theorem results_tok {fn:Func} {p:Tmp} (h:fn.results=#[.cell p 40]) {tmps:Array Value} {q:Nat} (hp:tmps.getD p undef=.pointer (some ⟨q,0,none⟩)) {W:World} {t:Tk} (hr:W.rangeAt q 0 t.cells):(results fn tmps).run Tryz.prog W=.ok t.val W:=by
 have hl:=run_loadVar_mid (P:=Tryz.prog) W q 0 40 t.cells _ hr Tryz.underlying40 rfl (by kernel_rfl)
 have e:(results fn tmps).run Tryz.prog W=((asAddr (tmps.getD p undef)).run Tryz.prog W).andThen fun a w₁=>(loadVar 40 a).run Tryz.prog w₁:=by
  simp only [results,h]
  simp [Sem.run_bind,Result.andThen]
 rw [e,hp]
 have e2:(asAddr (.pointer (some ⟨q,0,none⟩))).run Tryz.prog W=.ok ⟨q,0,none⟩ W:=rfl
 rw [e2]
 simp only [Result.andThen,hl,Tk.val,Tk.cells]
structure Free (w:World) (g:Nat) (Tv Nv:Value) (N:List Nd) (q:Nat):Prop where
 g:q≠g
 t:¬ blk Tv q
 n:¬ blk Nv q
 k:∀ j (h:j < N.length),¬ blk N[j].kv q
theorem SlK.blk_lt {k:Nat} {w:World} {v:Value} {n:Nat} {cs:List Value} (h:SlK k w v n cs) (hk:0 < k) (hn:0 < n):∀ b,blk v b→b < w.heap.size:=by
 obtain ⟨h0,⟨rfl,_⟩ | ⟨g,off,cap,rfl,_,_,h4⟩⟩:=h
 ·intro b hb; exact hb.elim
 ·intro b hb
  have hlt:0 < cs.length:=by rw [h0]; exact Nat.mul_pos hn hk
  exact (show g=b from hb) ▸ World.block_lt_of_cell? w _ (h4 0 hlt)
theorem PAt.free {w:World} {g:Nat} {Tv:Value} {T:List Tk} {i:Nat} {Nv:Value} {N:List Nd} (h:PAt w g Tv T i Nv N) (hT:0 < T.length) (q:Nat) (hq:w.heap.size≤q):Free w g Tv Nv N q:=
 ⟨by have:=h.lt; omega,fun e=>by have:=h.tok.blk_lt (by omega) hT q e; omega,fun e=>by have:=h.own.blk_lt q e; omega,fun j hj e=>by have:=((h.kid j hj).2 q e).2.2; omega⟩
theorem PAt.off {w w':World} {g q:Nat} {Tv:Value} {T:List Tk} {i:Nat} {Nv:Value} {N:List Nd} {w0:World} (h:PAt w g Tv T i Nv N) (f:Free w0 g Tv Nv N q) (ht:Turned (fun k=>k=q) w w'):PAt w' g Tv T i Nv N:=
 h.turned ht (fun e=>f.g e.symm) (fun k hk e=>f.t ((show k=q from e) ▸ hk)) (fun k hk e=>f.n ((show k=q from e) ▸ hk)) (fun j hj k hk e=>f.k j hj ((show k=q from e) ▸ hk))
theorem PAt.took {w w1:World} {g:Nat} {Tv:Value} {T:List Tk} {i:Nat} {Nv:Value} {N:List Nd} (h:PAt w g Tv T i Nv N) (hi:i < T.length) (B1:Below w.heap.size w w1) (t:Tk) (o:Obj):PAt ((lay4 (w1.setCell ⟨g,1,none⟩ (.int .i64 ((i:Int)+1))) w.heap.size t).alloc o) g Tv T (i+1) Nv N∧Turned (fun k=>k=g) w ((lay4 (w1.setCell ⟨g,1,none⟩ (.int .i64 ((i:Int)+1))) w.heap.size t).alloc o):=by
 obtain ⟨h2,T2⟩:=(h.below B1).next (i+1) hi rfl
 have f:=h.free (by omega) w.heap.size (Nat.le_refl _)
 have T3:=lay4_turned (w1.setCell ⟨g,1,none⟩ (.int .i64 ((i:Int)+1))) w.heap.size t
 refine ⟨(h2.off f T3).below (Below.alloc0 _ o),?_⟩
 exact ((Turned.ofBelow (S:=fun k=>k=g) B1).trans T2 (fun _ e=>.inl e)).trans (T3.trans (Turned.alloc (fun _=>False) _ o) (fun _ e=>e.elim)) (fun _ e=>.inr (Nat.le_of_eq e.symm))
theorem ps_need {w:World} {g:Nat} {Tv:Value} {T:List Tk} {i:Nat} {Nv:Value} {N:List Nd} (h:PAt w g Tv T i Nv N) (hi:i < T.length):Calls Tryz.prog 116 #[.pointer (some ⟨g,0,none⟩),.bool true] w (Took w g Tv T i Nv N):=by
 have hp:=fun o=>ps_peek (h.below (Below.alloc0 w o))
 have H:=Hid.mk7 h
 have htl:=h.tl
 unfold Took
 generalize tokAt T i=t at hp ⊢
 obtain ⟨tk,tt,tn,ta⟩:=t
 simp only [Tk.val] at hp ⊢
 clear h
 go_enter Tryz.func116,Tryz.ntmps116
 go_wp2_with fail
 refine (hp _).mono ?_
 rintro x w1 ⟨rfl,hb1⟩
 have HB:=Hid.mk7 hb1
 have B1:=(Below.alloc0 w _).trans (hb1.mono (by simp))
 have h1:=H.out.below B1
 have hc1:=h1.c1.1
 have hf1:=h1.c1.2
 obtain ⟨⟨c0,f0⟩,⟨c1,f1⟩,⟨c2,f2⟩,⟨c3,f3⟩⟩:=newTok hb1
 have hgl:=H.out.lt
 have hz1:=B1.size
 have hgl1:=h1.lt
 have hlt1:w.heap.size < w1.heap.size:=by have:=hb1.size; simp at this; omega
 have HB1:=Hid.mk7 (And.intro B1 h1)
 clear hp hb1 B1 h1
 go_wp2
 have o:∀ (j:Nat) (v u:Value),w1.cell? ⟨w.heap.size,j,none⟩=some u→(w1.setCell ⟨g,1,none⟩ v).cell? ⟨w.heap.size,j,none⟩=some u:=fun j v u h=>by
  rw [World.cell?_setCell_other _ _ _ _ (by simp; try omega)]; exact h
 have hr:=rangeAt_turned (lay4_range _ w.heap.size ⟨tk,tt,tn,ta⟩ (o 0 (.int .i64 ((i:Int)+1)) _ c0) (o 1 _ _ c1) (o 2 _ _ c2) (o 3 _ _ c3)) (Turned.alloc (fun _=>False) _ (.cells #[.int .i64 tk,.string tt,.int .i64 tn,.int .i64 ta] 40)) (fun h=>h)
 refine bodyPost_ret (v:=(⟨tk,tt,tn,ta⟩:Tk).val) (results_tok Tryz.results116 rfl hr) rfl ⟨rfl,?_⟩
 ·exact H.out.took hi HB1.out.1 ⟨tk,tt,tn,ta⟩ _
theorem Tryz.tokKind (a b c d:Value) (w:World):(Instr.field 40 (.agg #[a,b,c,d]) 0).run Tryz.prog w=.ok a w:=by kernel_rfl
theorem Tryz.tokText (a b c d:Value) (w:World):(Instr.field 40 (.agg #[a,b,c,d]) 1).run Tryz.prog w=.ok b w:=by kernel_rfl
theorem Tryz.tokInt (a b c d:Value) (w:World):(Instr.field 40 (.agg #[a,b,c,d]) 2).run Tryz.prog w=.ok c w:=by kernel_rfl
theorem Tryz.tokPlace (a b c d:Value) (w:World):(Instr.field 40 (.agg #[a,b,c,d]) 3).run Tryz.prog w=.ok d w:=by kernel_rfl
theorem newTokT {w w2:World} {g:Nat} (hg:g < w.heap.size) (T2:Turned (fun k=>k=g) (w.alloc (.cells #[.int .i64 0,.string ⟨#[]⟩,.int .i64 0,.int .i64 0] 40)) w2) :
  (w2.cell? ⟨w.heap.size,0,none⟩=some (.int .i64 0)∧w2.frozen? ⟨w.heap.size,0,none⟩=false)∧(w2.cell? ⟨w.heap.size,1,none⟩=some (.string ⟨#[]⟩)∧w2.frozen? ⟨w.heap.size,1,none⟩=false)∧(w2.cell? ⟨w.heap.size,2,none⟩=some (.int .i64 0)∧w2.frozen? ⟨w.heap.size,2,none⟩=false)∧(w2.cell? ⟨w.heap.size,3,none⟩=some (.int .i64 0)∧w2.frozen? ⟨w.heap.size,3,none⟩=false):=by
 obtain ⟨⟨c0,f0⟩,⟨c1,f1⟩,⟨c2,f2⟩,⟨c3,f3⟩⟩:=newTok (Below.refl (w.alloc (.cells #[.int .i64 0,.string ⟨#[]⟩,.int .i64 0,.int .i64 0] 40)).heap.size _)
 have hn:¬ w.heap.size=g:=by omega
 have fz:∀ j,w2.frozen? ⟨w.heap.size,j,none⟩=_:=fun j=>T2.frozen (p:=⟨w.heap.size,j,none⟩) (by simp) hn
 exact ⟨⟨T2.cell c0 hn,(fz 0).trans f0⟩,⟨T2.cell c1 hn,(fz 1).trans f1⟩,⟨T2.cell c2 hn,(fz 2).trans f2⟩,⟨T2.cell c3 hn,(fz 3).trans f3⟩⟩
theorem PAt.tookOn {w w2:World} {g:Nat} {Tv:Value} {T:List Tk} {i:Nat} {Nv:Value} {N:List Nd} (h:PAt w g Tv T i Nv N) (hT:0 < T.length) {o:Obj} (h2:PAt w2 g Tv T (i+1) Nv N) (T2:Turned (fun k=>k=g) (w.alloc o) w2) (t:Tk):PAt (lay4 w2 w.heap.size t) g Tv T (i+1) Nv N∧Turned (fun k=>k=g) w (lay4 w2 w.heap.size t):=by
 have f:=h.free hT w.heap.size (Nat.le_refl _)
 have T3:=lay4_turned w2 w.heap.size t
 exact ⟨h2.off f T3,((Turned.alloc (fun k=>k=g) w o).trans T2 (fun _ e=>.inl e)).trans T3 (fun _ e=>.inr (Nat.le_of_eq e.symm))⟩
theorem ps_kind {w:World} {g:Nat} {Tv:Value} {T:List Tk} {i:Nat} {Nv:Value} {N:List Nd} (h:PAt w g Tv T i Nv N) (hi:i < T.length) (k:Int) (hk:(tokAt T i).kind=k):Calls Tryz.prog 96 #[.pointer (some ⟨g,0,none⟩),.int .i64 k] w (Took w g Tv T i Nv N):=by
 have H:=Hid.mk7 h
 have hgl:=h.lt
 have hp:=fun o=>ps_peek (h.below (Below.alloc0 w o))
 have hn:=fun o (w1:World) (hb:Below (w.alloc o).heap.size (w.alloc o) w1)=>ps_need ((h.below (Below.alloc0 w o)).below hb) hi
 subst hk
 have hfk:=Tryz.tokKind
 unfold Took at hn ⊢
 generalize tokAt T i=t at hp hn ⊢
 obtain ⟨tk,tt,tn,ta⟩:=t
 simp only [Tk.val] at hp hn ⊢
 clear h
 go_enter Tryz.func96,Tryz.ntmps96
 go_wp2_with fail
 refine (hp _).mono ?_
 rintro x w1 ⟨rfl,hb1⟩
 go_wp2_with fail
 refine (hn _ _ hb1).mono ?_
 rintro x w2 ⟨rfl,h2,T2⟩
 have T3:=(Turned.ofBelow (S:=fun k=>k=g) hb1).trans T2 (fun _ e=>.inl e)
 obtain ⟨⟨c0,f0⟩,⟨c1,f1⟩,⟨c2,f2⟩,⟨c3,f3⟩⟩:=newTokT hgl T3
 have HN:=Hid.mk7 (H.out.tookOn (by omega) h2 T3 ⟨tk,tt,tn,ta⟩)
 clear hp hn hb1 h2 T2 T3
 go_wp2
 have hr:=lay4_range _ w.heap.size ⟨tk,tt,tn,ta⟩ c0 c1 c2 c3
 exact bodyPost_ret (v:=(⟨tk,tt,tn,ta⟩:Tk).val) (results_tok Tryz.results96 rfl hr) rfl ⟨rfl,HN.out⟩
theorem ps_sign {w:World} {g:Nat} {Tv:Value} {T:List Tk} {i:Nat} {Nv:Value} {N:List Nd} (h:PAt w g Tv T i Nv N) (hi:i < T.length) (s:ByteArray) (hk:isTk 5 s (tokAt T i)=true):Calls Tryz.prog 94 #[.pointer (some ⟨g,0,none⟩),.string s] w (Took w g Tv T i Nv N):=by
 have H:=Hid.mk7 h
 have hgl:=h.lt
 have hp:=fun o=>ps_isSign (h.below (Below.alloc0 w o)) s
 have hn:=fun o (w1:World) (hb:Below (w.alloc o).heap.size (w.alloc o) w1)=>ps_need ((h.below (Below.alloc0 w o)).below hb) hi
 simp only [hk] at hp
 clear hk
 unfold Took at hn ⊢
 generalize tokAt T i=t at hn ⊢
 obtain ⟨tk,tt,tn,ta⟩:=t
 simp only [Tk.val] at hn ⊢
 clear h
 go_enter Tryz.func94,Tryz.ntmps94
 go_wp2_with fail
 refine (hp _).mono ?_
 rintro x w1 ⟨rfl,hb1⟩
 go_wp2_with fail
 refine (hn _ _ hb1).mono ?_
 rintro x w2 ⟨rfl,h2,T2⟩
 have T3:=(Turned.ofBelow (S:=fun k=>k=g) hb1).trans T2 (fun _ e=>.inl e)
 obtain ⟨⟨c0,f0⟩,⟨c1,f1⟩,⟨c2,f2⟩,⟨c3,f3⟩⟩:=newTokT hgl T3
 have HN:=Hid.mk7 (H.out.tookOn (by omega) h2 T3 ⟨tk,tt,tn,ta⟩)
 clear hp hn hb1 h2 T2 T3
 go_wp2
 have hr:=lay4_range _ w.heap.size ⟨tk,tt,tn,ta⟩ c0 c1 c2 c3
 exact bodyPost_ret (v:=(⟨tk,tt,tn,ta⟩:Tk).val) (results_tok Tryz.results94 rfl hr) rfl ⟨rfl,HN.out⟩
theorem ps_atom {w:World} {g:Nat} {Tv:Value} {T:List Tk} {i:Nat} {Nv:Value} {N:List Nd} (h:PAt w g Tv T i Nv N) (hi:i < T.length) (s:ByteArray) (hk:isTk 1 s (tokAt T i)=true):Calls Tryz.prog 95 #[.pointer (some ⟨g,0,none⟩),.string s] w (Took w g Tv T i Nv N):=by
 have H:=Hid.mk7 h
 have hgl:=h.lt
 have hp:=fun o=>ps_peek (h.below (Below.alloc0 w o))
 have hq:∀ o (w0:World),Below (w.alloc o).heap.size (w.alloc o) w0→Calls Tryz.prog 117 #[(tokAt T i).val,.int .i64 1,.string s] w0 fun x w'=>x=.returned (.bool true)∧Below (w.alloc o).heap.size (w.alloc o) w':=fun o w0 hb=>(ps_is (tokAt T i) 1 s w0).mono (fun x w' hx=>⟨by rw [hx.1]; exact congrArg Ending.returned (congrArg Value.bool hk),hb.trans (hx.2.mono hb.size)⟩)
 have hn:=fun o (w1:World) (hb:Below (w.alloc o).heap.size (w.alloc o) w1)=>ps_need ((h.below (Below.alloc0 w o)).below hb) hi
 clear hk
 unfold Took at hn ⊢
 generalize tokAt T i=t at hp hq hn ⊢
 obtain ⟨tk,tt,tn,ta⟩:=t
 simp only [Tk.val] at hp hq hn ⊢
 clear h
 go_enter Tryz.func95,Tryz.ntmps95
 go_wp2_with fail
 refine (hp _).mono ?_
 rintro x w0 ⟨rfl,hb0⟩
 go_wp2_with fail
 refine (hq _ _ hb0).mono ?_
 rintro x w1 ⟨rfl,hb1⟩
 clear hb0
 go_wp2_with fail
 refine (hn _ _ hb1).mono ?_
 rintro x w2 ⟨rfl,h2,T2⟩
 have T3:=(Turned.ofBelow (S:=fun k=>k=g) hb1).trans T2 (fun _ e=>.inl e)
 obtain ⟨⟨c0,f0⟩,⟨c1,f1⟩,⟨c2,f2⟩,⟨c3,f3⟩⟩:=newTokT hgl T3
 have HN:=Hid.mk7 (H.out.tookOn (by omega) h2 T3 ⟨tk,tt,tn,ta⟩)
 clear hp hn hb1 h2 T2 T3
 go_wp2
 have hr:=lay4_range _ w.heap.size ⟨tk,tt,tn,ta⟩ c0 c1 c2 c3
 exact bodyPost_ret (v:=(⟨tk,tt,tn,ta⟩:Tk).val) (results_tok Tryz.results95 rfl hr) rfl ⟨rfl,HN.out⟩
structure Stp (g:Nat) (Nv Nv':Value) (w w':World):Prop where
 t:Turned (fun k=>k=g∨blk Nv k) w w'
 n:∀ k,blk Nv' k→blk Nv k∨w.heap.size≤k
theorem Stp.trans {g:Nat} {Na Nb Nc:Value} {a b c:World} (h:Stp g Na Nb a b) (k:Stp g Nb Nc b c):Stp g Na Nc a c:=
 ⟨h.t.trans k.t (fun i hi=>hi.elim (fun e=>.inl (.inl e)) (fun e=>(h.n i e).elim (fun e=>.inl (.inr e)) .inr)),fun i hi=>(k.n i hi).elim (h.n i) (fun e=>.inr (Nat.le_trans h.t.size e))⟩
theorem Stp.ofG {g:Nat} {Nv:Value} {a b:World} (h:Turned (fun k=>k=g) a b):Stp g Nv Nv a b:=⟨h.mono (fun _ e=>.inl (.inl e)),fun _ e=>.inl e⟩
theorem Stp.ofB {g:Nat} {Nv:Value} {a b:World} (h:Below a.heap.size a b):Stp g Nv Nv a b:=⟨Turned.ofBelow h,fun _ e=>.inl e⟩
theorem Tryz.nodeTypes:ElTypes Tryz.prog 28 47 6 80 (.agg #[.int .i64 0,.string ⟨#[]⟩,.string ⟨#[]⟩,.int .i64 0,.slice none 0 0,.int .i64 0]):=by
 refine ⟨Tryz.underlying28,?_,by simp [Value.cells]⟩
 have h:(Tryz.prog.info? 47).map (fun i=>(i.zero,i.size,i.bytes))=some (some (.agg #[.int .i64 0,.string ⟨#[]⟩,.string ⟨#[]⟩,.int .i64 0,.slice none 0 0,.int .i64 0]),6,80):=by kernel_rfl
 obtain ⟨i,hi,h0,h1,h2⟩:=info_parts h
 exact ⟨i,hi,h0,h1,h2⟩
structure KidOk (w:World) (g:Nat) (Nv kv:Value) (kids:List Int):Prop where
 sl:OwnI w kv kids
 off:∀ k,blk kv k→k≠g∧¬ blk Nv k∧k < w.heap.size
theorem KidOk.nil (w:World) (g:Nat) (Nv:Value):KidOk w g Nv (.slice none 0 0) []:=⟨⟨rfl,.inl ⟨rfl,rfl⟩⟩,fun _ h=>h.elim⟩
theorem SlI.form {w:World} {v:Value} {l:List Int} (h:SlI w v l):∃ a cap,v=.slice a l.length cap:=by
 obtain ⟨a,cap,e,_⟩:=SlK.form h
 exact ⟨a,cap,e⟩
theorem Nd.cells_one (n:Nd) (h:n.kv.oneCell'=true):∀ u∈n.cells,u.oneCell'=true:=by
 intro u hu
 simp only [Nd.cells,List.mem_cons,List.not_mem_nil,or_false] at hu
 rcases hu with rfl | rfl | rfl | rfl | rfl | rfl <;> first | rfl | exact h
theorem SlK.nd (w:World) (n:Nd):SlK 6 (w.alloc (.cells #[.int .i64 n.kind,.string n.text,.string n.mod,.int .i64 n.num,n.kv,.int .i64 n.at_] 47)) (.slice (some ⟨w.heap.size,0,none⟩) 1 1) 1 n.cells:=by
 refine ⟨rfl,.inr ⟨w.heap.size,0,1,rfl,Nat.le_refl _,by decide,fun j hj=>?_⟩⟩
 have hj6:j < 6:=hj
 match j,hj6 with
 | 0,_=>simp [Nd.cells]
 | 1,_=>simp [Nd.cells]
 | 2,_=>simp [Nd.cells]
 | 3,_=>simp [Nd.cells]
 | 4,_=>simp [Nd.cells]
 | 5,_=>simp [Nd.cells]
def Added (w:World) (g:Nat) (Tv:Value) (T:List Tk) (i:Nat) (Nv:Value) (N:List Nd) (n:Nd) (x:Ending) (w':World):Prop:=x=.returned (.int .i64 N.length)∧∃ Nv',PAt w' g Tv T i Nv' (N++[n])∧Stp g Nv Nv' w w'
theorem PAt.added {w w2 w3 w4:World} {g:Nat} {Tv:Value} {T:List Tk} {i:Nat} {Nv Nv':Value} {N:List Nd} (h:PAt w g Tv T i Nv N) (hT:0 < T.length) (n:Nd) (hk:KidOk w g Nv n.kv n.kids) (hb:Below w.heap.size w w2) (ho:OwnK 6 w3 Nv' (N.length+1) (nds N++n.cells)) (T3:Turned (blk Nv) w2 w3) (hn:∀ q,blk Nv' q→blk Nv q∨q=w2.heap.size) (e4:w4=w3.setCell ⟨g,2,none⟩ Nv'):PAt w4 g Tv T i Nv' (N++[n])∧Stp g Nv Nv' w w4:=by
 subst e4
 have h2:=h.below hb
 have hz:=hb.size
 have hgl:=h.lt
 have T4:=Turned.setCell w3 ⟨g,2,none⟩ Nv'
 have htl:=h.tok.blk_lt (by omega) hT
 have hng':¬ blk Nv' g:=fun e=>(hn g e).elim h.ng (fun e=>by omega)
 have g3:∀ j,w3.cell? ⟨g,j,none⟩=w2.cell? ⟨g,j,none⟩:=fun j=>World.cell?_of_block (T3.block g h2.lt h.ng)
 have f3:∀ j,w3.frozen? ⟨g,j,none⟩=w2.frozen? ⟨g,j,none⟩:=fun j=>T3.frozen (p:=⟨g,j,none⟩) h2.lt h.ng
 have T5:Turned (fun k=>k=g∨blk Nv k) w2 (w3.setCell ⟨g,2,none⟩ Nv'):=(T3.mono (fun _ e=>.inl (.inr e))).trans T4 (fun _ e=>.inl (.inl e))
 refine ⟨⟨?_,⟨?_,?_⟩,⟨World.cell?_setCell_same _ _ _ ((g3 2).trans h2.c2.1),?_⟩,h2.tok.turned T5 (fun k hk e=>e.elim (h.tg k hk).1 (h.tg k hk).2),fun k hk=>⟨(h.tg k hk).1,fun e=>(hn k e).elim (h.tg k hk).2 (fun e=>by have:=htl k hk; omega)⟩,?_,hng',?_,h.il,h.tl⟩,⟨(Turned.ofBelow (S:=fun k=>k=g∨blk Nv k) hb).trans T5 (fun _ e=>.inl e),fun k e=>(hn k e).elim .inl (fun e=>.inr (by omega))⟩⟩
 ·rw [World.cell?_setCell_other _ _ _ _ (by simp),g3]; exact h2.c0
 ·rw [World.cell?_setCell_other _ _ _ _ (by simp),g3]; exact h2.c1.1
 ·rw [World.frozen?_setCell,f3]; exact h2.c1.2
 ·rw [World.frozen?_setCell,f3]; exact h2.c2.2
 ·rw [nds_snoc]
  have:=ho.turned T4 (fun k hk e=>hng' ((show k=g from e) ▸ hk))
  simpa using this
 ·intro j hj
  have key:∀ (v:Value) (l:List Int),OwnI w v l→(∀ k,blk v k→k≠g∧¬ blk Nv k∧k < w.heap.size)→OwnI (w3.setCell ⟨g,2,none⟩ Nv') v l∧∀ k,blk v k→k≠g∧¬ blk Nv' k∧k < (w3.setCell ⟨g,2,none⟩ Nv').heap.size:=fun v l hs hv=>
   ⟨OwnK.turned (OwnK.turned hs (Turned.ofBelow (S:=fun _=>False) hb) (fun _ _ e=>e)) T5 (fun k hk e=>e.elim (hv k hk).1 (hv k hk).2.1),fun k hk=>⟨(hv k hk).1,fun e=>(hn k e).elim (hv k hk).2.1 (fun e=>by have:=(hv k hk).2.2; omega),by have:=(hv k hk).2.2; have:=T5.size; omega⟩⟩
  by_cases hjn:j < N.length
  ·rw [List.getElem_append_left hjn]
   exact key _ _ (h.kid j hjn).1 (h.kid j hjn).2
  ·have e:j=N.length:=by simp at hj; omega
   subst e
   simp only [List.getElem_append_right (Nat.le_refl _),Nat.sub_self,List.getElem_cons_zero]
   exact key _ _ hk.sl hk.off
theorem ps_add {w:World} {g:Nat} {Tv:Value} {T:List Tk} {i:Nat} {Nv:Value} {N:List Nd} (h:PAt w g Tv T i Nv N) (hT:0 < T.length) (n:Nd) (hk:KidOk w g Nv n.kv n.kids) (hN:N.length≤1073741824):Calls Tryz.prog 78 #[.pointer (some ⟨g,0,none⟩),n.val] w (Added w g Tv T i Nv N n):=by
 have H:=Hid.mk7 h
 have HK:=Hid.mk7 hk
 have hgl:=h.lt
 have hc2:=h.c2.1
 have hf2:=h.c2.2
 have hng:=h.ng
 obtain ⟨aN,cN,hNv,_⟩:=h.own.sl.form
 have HO:=Hid.mk7 (fun o1 o2=>h.own.turned (Turned.ofBelow (S:=fun _=>False) ((Below.alloc0 w o1).trans ((Below.alloc0 (w.alloc o1) o2).mono (by simp)))) (fun _ _ e=>e))
 have HX:=Hid.mk7 (fun o1=>SlK.nd (w.alloc o1) n)
 have hone:∀ u∈n.cells,u.oneCell'=true:=Nd.cells_one n (by obtain ⟨a,c,e⟩:=SlI.form (OwnK.sl hk.sl); rw [e]; rfl)
 have hfit:(N.length+1)*80≤140737488355328:=by omega
 have hcA:=Hid.mk7 (fun o1 o2=>(h.below ((Below.alloc0 w o1).trans ((Below.alloc0 (w.alloc o1) o2).mono (by simp)))).c2)
 have hlA:=Hid.mk7 (fun o1 o2=>(h.below ((Below.alloc0 w o1).trans ((Below.alloc0 (w.alloc o1) o2).mono (by simp)))).lt)
 subst hNv
 unfold Added
 obtain ⟨nk,nt,nm,nn,kv,kids,na⟩:=n
 obtain ⟨aK,cK,hkv⟩:=SlI.form (OwnK.sl hk.sl)
 simp only at hkv
 subst hkv
 simp only [Nd.val,World.size_alloc] at HX ⊢
 clear h hk
 go_enter Tryz.func78,Tryz.ntmps78
 go_wp2_with fail
 go_region_law (refine step_append_k (by rfl) (.tmp 9) (.tmp 11) (by rfl) Tryz.nodeTypes (by rfl) (by rfl) (HO.out _ _) (HX.out _) hone hfit (by omega) ?_; intro v4 w4 ho4 T4 hb4; have c4:=T4.cell (p:=⟨g,2,none⟩) (hcA.out _ _).1 hng; have f4:=(T4.frozen (p:=⟨g,2,none⟩) (hlA.out _ _) hng).trans (hcA.out _ _).2; obtain ⟨a4,cap4,rfl,_,_⟩:=ho4.sl.form)
 all_goals
  have HF:=Hid.mk7 (H.out.added hT ⟨nk,nt,nm,nn,.slice aK kids.length cK,kids,na⟩ HK.out ((Below.alloc0 w _).trans ((Below.alloc0 (w.alloc _) _).mono (by simp))).drew ho4 T4 hb4 rfl)
  have c5:=HF.out.1.c2.1
  generalize w4.setCell _ _=w5 at HF c5 ⊢
  clear ho4 T4 hb4 c4 f4 hc2 hf2
  go_wp2
  go_ret
  exact ⟨by simp,_,HF.out⟩
def Lv (t:Tk) (l:Int):Prop:=∀ w,Calls Tryz.prog 169 #[t.val] w fun e w'=>e=.returned (.int .i64 l)∧Below w.heap.size w w'
theorem ps_lv_sign (s:ByteArray) (n a l:Int) (h:∀ w,Calls Tryz.prog 178 #[.string s] w fun e w'=>e=.returned (.int .i64 l)∧w=w'):Lv ⟨5,s,n,a⟩ l:=by
 intro w
 simp only [Tk.val]
 go_enter Tryz.func169,Tryz.ntmps169
 go_wp2_with (go_at_call 178; refine (h _).mono ?_; rintro e w1 ⟨rfl,rfl⟩)
 go_ret
 exact ⟨rfl,Below.alloc0 w _⟩
theorem list_ne {a:ByteArray} {l:List UInt8} (h:¬ a=⟨l.toArray⟩):(a.toList == l)=false:=by
 rw [beq_eq_false_iff_ne]
 intro e
 refine h (ByteArray.ext (Array.toList_inj.1 ?_))
 rw [ByteArray.toList_eq] at e
 simpa using e
theorem ps_oper (t:Tk) (h1:¬ t.text=⟨#[61]⟩) (h2:¬ t.text=⟨#[33]⟩) (h3:¬ t.text=⟨#[111,114,101,108,115,101]⟩) (h4:¬ t.text=⟨#[97,110,100,97,108,115,111]⟩) (w:World):Calls Tryz.prog 170 #[t.val] w fun e w'=>e=.returned (.agg #[.int .i64 15,.string t.text,.string ⟨#[]⟩,.int .i64 0,.slice none 0 0,.int .i64 t.at_])∧Below w.heap.size w w':=by
 obtain ⟨tk,tt,tn,ta⟩:=t
 simp only at h1 h2 h3 h4
 have k1:=list_ne (l:=[61]) h1
 have k2:=list_ne (l:=[33]) h2
 have k3:=list_ne (l:=[111,114,101,108,115,101]) h3
 have k4:=list_ne (l:=[97,110,100,97,108,115,111]) h4
 clear h1 h2 h3 h4
 simp only [Tk.val]
 go_enter Tryz.func170,Tryz.ntmps170
 go_wp2
 refine bodyPost_ret (v:=.agg #[.int .i64 15,.string tt,.string ⟨#[]⟩,.int .i64 0,.slice none 0 0,.int .i64 ta]) (by simp [results,Tryz.results170,go_sem]) rfl ⟨rfl,?_⟩
 exact ((Below.alloc0 w _).trans ((Below.alloc0 _ _).mono (by simp)))
structure Sh where
 kind:Int
 text:ByteArray
 mod:ByteArray
 num:Int
 kids:List Int
 at_:Int
deriving DecidableEq
def Nd.sh (n:Nd):Sh:=⟨n.kind,n.text,n.mod,n.num,n.kids,n.at_⟩
theorem keptTok {w w1:World} {t:Tk} (hb:Below (w.alloc (.cells #[.int .i64 t.kind,.string t.text,.int .i64 t.num,.int .i64 t.at_] 40)).heap.size (w.alloc (.cells #[.int .i64 t.kind,.string t.text,.int .i64 t.num,.int .i64 t.at_] 40)) w1) :
  w1.cell? ⟨w.heap.size,0,none⟩=some (.int .i64 t.kind)∧w1.cell? ⟨w.heap.size,1,none⟩=some (.string t.text)∧w1.cell? ⟨w.heap.size,2,none⟩=some (.int .i64 t.num)∧w1.cell? ⟨w.heap.size,3,none⟩=some (.int .i64 t.at_):=by
 refine ⟨(hb.cell (p:=⟨w.heap.size,0,none⟩) (by simp)).trans (by simp),(hb.cell (p:=⟨w.heap.size,1,none⟩) (by simp)).trans (by simp),(hb.cell (p:=⟨w.heap.size,2,none⟩) (by simp)).trans (by simp),(hb.cell (p:=⟨w.heap.size,3,none⟩) (by simp)).trans (by simp)⟩
theorem newNode {S:Nat→Prop} {w w1:World} (a b c d e f:Value) (T:Turned S (w.alloc (.cells #[a,b,c,d,e,f] 47)) w1) (hs:¬ S w.heap.size) :
  (w1.cell? ⟨w.heap.size,0,none⟩=some a∧w1.cell? ⟨w.heap.size,1,none⟩=some b∧w1.cell? ⟨w.heap.size,2,none⟩=some c∧w1.cell? ⟨w.heap.size,3,none⟩=some d∧w1.cell? ⟨w.heap.size,4,none⟩=some e∧w1.cell? ⟨w.heap.size,5,none⟩=some f)∧∀ j,w1.frozen? ⟨w.heap.size,j,none⟩=false:=
 ⟨⟨T.cell (by simp) hs,T.cell (by simp) hs,T.cell (by simp) hs,T.cell (by simp) hs,T.cell (by simp) hs,T.cell (by simp) hs⟩,fun j=>by rw [T.frozen (p:=⟨w.heap.size,j,none⟩) (by simp) hs,World.frozen?_alloc_new]⟩
theorem SlI.two (w:World) (a b:Int) (t:TypeId):SlI (w.alloc (.cells #[.int .i64 a,.int .i64 b] t)) (.slice (some ⟨w.heap.size,0,none⟩) 2 2) [a,b]:=by
 refine ⟨rfl,.inr ⟨w.heap.size,0,2,rfl,Nat.le_refl _,by decide,fun j hj=>?_⟩⟩
 have hj2:j < 2:=hj
 match j,hj2 with
 | 0,_=>simp [ints]
 | 1,_=>simp [ints]
theorem OwnI.two (w:World) (a b:Int) (t:TypeId):OwnI (w.alloc (.cells #[.int .i64 a,.int .i64 b] t)) (.slice (some ⟨w.heap.size,0,none⟩) 2 2) [a,b]:=by
 refine ⟨by simp [ints],.inr ⟨w.heap.size,0,2,rfl,Nat.le_refl _,by decide,by simp,fun j hj=>?_,fun j hj=>?_⟩⟩
 ·have hj1:j < 2:=hj
  match j,hj1 with
  | 0,_=>simp [ints]
  | 1,_=>simp [ints]
 ·have hj1:j < 2:=by omega
  match j,hj1 with
  | 0,_=>exact ⟨by simp,by rw [World.frozen?_alloc_new]⟩
  | 1,_=>exact ⟨by simp,by rw [World.frozen?_alloc_new]⟩
theorem Stp.size {g:Nat} {Na Nb:Value} {a b:World} (h:Stp g Na Nb a b):a.heap.size≤b.heap.size:=h.t.size
theorem Tryz.makeFn:∀ (fn:Fn) (first cap:Array Value) (w:World),(Instr.makeFunc fn first cap).run Tryz.prog w=.ok (.func fn first cap) w:=fun _ _ _ _=>rfl
theorem SlI.one (w:World) (a:Int) (t:TypeId):SlI (w.alloc (.cells #[.int .i64 a] t)) (.slice (some ⟨w.heap.size,0,none⟩) 1 1) [a]:=by
 refine ⟨rfl,.inr ⟨w.heap.size,0,1,rfl,Nat.le_refl _,by decide,fun j hj=>?_⟩⟩
 have hj1:j < 1:=hj
 match j,hj1 with
 | 0,_=>simp [ints]
theorem OwnI.one (w:World) (a:Int) (t:TypeId):OwnI (w.alloc (.cells #[.int .i64 a] t)) (.slice (some ⟨w.heap.size,0,none⟩) 1 1) [a]:=by
 refine ⟨by simp [ints],.inr ⟨w.heap.size,0,1,rfl,Nat.le_refl _,by decide,by simp,fun j hj=>?_,fun j hj=>?_⟩⟩
 ·have:j=0:=by simp [ints] at hj; omega
  subst this
  rw [World.cell?_alloc_at _ _ _ _ (by simp)]
  simp [ints]
 ·have:j=0:=by omega
  subst this
  rw [World.cell?_alloc_at _ _ _ _ (by simp)]
  exact ⟨by simp,by rw [World.frozen?_alloc_new]⟩
theorem KidOk.below {w w':World} {g:Nat} {Nv V:Value} {kids:List Int} (h:KidOk w g Nv V kids) (hb:Below w.heap.size w w'):KidOk w' g Nv V kids:=
 ⟨OwnK.turned h.sl (Turned.ofBelow (S:=fun _=>False) hb) (fun _ _ e=>e),fun k hk=>⟨(h.off k hk).1,(h.off k hk).2.1,Nat.lt_of_lt_of_le (h.off k hk).2.2 hb.size⟩⟩
theorem Tryz.intTypes:ElTypes Tryz.prog 45 3 1 8 (.int .i64 0):=by
 refine ⟨Tryz.underlying45,?_,by simp [Value.cells]⟩
 have h:(Tryz.prog.info? 3).map (fun i=>(i.zero,i.size,i.bytes))=some (some (.int .i64 0),1,8):=by kernel_rfl
 obtain ⟨i,hi,h0,h1,h2⟩:=info_parts h
 exact ⟨i,hi,h0,h1,h2⟩
theorem ints_one (l:List Int):∀ u∈ints l,u.oneCell'=true:=by
 intro u hu
 obtain ⟨z,_,rfl⟩:=List.mem_map.1 hu
 rfl
theorem OwnI.snoc {w:World} {v:Value} {l:List Int} {x:Int} (h:OwnK 1 w v (l.length+1) (ints l++ints [x])):OwnI w v (l++[x]):=by
 unfold OwnI
 simpa [ints] using h
theorem newNode2 {S:Nat→Prop} {w w1:World} {a b c d e f:Value} {o:Obj} (T:Turned S ((w.alloc (.cells #[a,b,c,d,e,f] 47)).alloc o) w1) (hs:¬ S w.heap.size:=by exact fun h=>h) :
  (w1.cell? ⟨w.heap.size,0,none⟩=some a∧w1.cell? ⟨w.heap.size,1,none⟩=some b∧w1.cell? ⟨w.heap.size,2,none⟩=some c∧w1.cell? ⟨w.heap.size,3,none⟩=some d∧w1.cell? ⟨w.heap.size,4,none⟩=some e∧w1.cell? ⟨w.heap.size,5,none⟩=some f)∧∀ j,w1.frozen? ⟨w.heap.size,j,none⟩=false:=
 newNode a b c d e f ((Turned.alloc S _ o).trans T (fun _ e=>.inl e)) hs
theorem Free.step {w w':World} {g:Nat} {Tv Nv Nv':Value} {N M:List Nd} {q:Nat} (f:Free w g Tv Nv N q) (hq:q < w.heap.size) (S:Stp g Nv Nv' w w') (o:∀ n∈M,∀ k,blk n.kv k→w.heap.size≤k):Free w' g Tv Nv' (N++M) q:=
 ⟨f.g,f.t,fun e=>(S.n q e).elim f.n (fun e=>by omega),fun j hj e=>by
  by_cases hjn:j < N.length
  ·rw [List.getElem_append_left hjn] at e
   exact f.k j hjn e
  ·rw [List.getElem_append_right (by omega)] at e
   have:=o _ (List.getElem_mem _) _ e
   omega⟩
structure Making (w:World) (g:Nat) (Tv Nv:Value) (N:List Nd) (q:Nat) (nk:Int) (nt nm:ByteArray) (nn:Int) (V:Value) (l:List Int) (na:Int):Prop where
 n0:w.cell? ⟨q,0,none⟩=some (.int .i64 nk)
 n1:w.cell? ⟨q,1,none⟩=some (.string nt)
 n2:w.cell? ⟨q,2,none⟩=some (.string nm)
 n3:w.cell? ⟨q,3,none⟩=some (.int .i64 nn)
 n4:w.cell? ⟨q,4,none⟩=some V
 n5:w.cell? ⟨q,5,none⟩=some (.int .i64 na)
 fz:∀ j,w.frozen? ⟨q,j,none⟩=false
 own:OwnI w V l
 qv:¬ blk V q
 fq:Free w g Tv Nv N q
 fv:∀ k,blk V k→Free w g Tv Nv N k
section
variable {w w':World} {g:Nat} {Tv Nv Nv':Value} {N M:List Nd} {q:Nat} {nk:Int} {nt nm:ByteArray} {nn:Int} {V:Value} {l:List Int} {na:Int}
theorem Making.lt (h:Making w g Tv Nv N q nk nt nm nn V l na):q < w.heap.size:=World.block_lt_of_cell? w _ h.n0
theorem Making.step (h:Making w g Tv Nv N q nk nt nm nn V l na) (S:Stp g Nv Nv' w w') (o:∀ n∈M,∀ k,blk n.kv k→w.heap.size≤k):Making w' g Tv Nv' (N++M) q nk nt nm nn V l na:=by
 have hs:¬ (q=g∨blk Nv q):=fun e=>e.elim h.fq.g h.fq.n
 exact ⟨S.t.cell h.n0 hs,S.t.cell h.n1 hs,S.t.cell h.n2 hs,S.t.cell h.n3 hs,S.t.cell h.n4 hs,S.t.cell h.n5 hs,fun j=>by rw [S.t.frozen (p:=⟨q,j,none⟩) h.lt hs]; exact h.fz j,OwnK.turned h.own S.t (fun k hk e=>e.elim (h.fv k hk).g (h.fv k hk).n),h.qv,h.fq.step h.lt S o,fun k hk=>(h.fv k hk).step (OwnK.blk_lt h.own k hk) S o⟩
theorem Making.stepN (h:Making w g Tv Nv N q nk nt nm nn V l na) (S:Stp g Nv Nv' w w'):Making w' g Tv Nv' N q nk nt nm nn V l na:=by
 have:=h.step (M:=[]) S (fun _ hn=>by cases hn)
 simpa using this
theorem Making.kid (h:Making w g Tv Nv N q nk nt nm nn V l na):KidOk w g Nv V l:=⟨h.own,fun k hk=>⟨(h.fv k hk).g,(h.fv k hk).n,OwnK.blk_lt h.own k hk⟩⟩
theorem PAt.offS {S:Nat→Prop} {w0:World} {T:List Tk} {i:Nat} (h:PAt w g Tv T i Nv N) (f:∀ k,S k→Free w0 g Tv Nv N k) (ht:Turned S w w'):PAt w' g Tv T i Nv N:=
 h.turned ht (fun e=>(f g e).g rfl) (fun k hk e=>(f k e).t hk) (fun k hk e=>(f k e).n hk) (fun j hj k hk e=>(f k e).k j hj hk)
theorem Stp.mine {w0:World} {N0:Value} (S:Stp g N0 Nv w0 w) (T:Turned (fun k=>w0.heap.size≤k) w w'):Stp g N0 Nv w0 w':=⟨S.t.trans T (fun _ e=>.inr e),S.n⟩
theorem Making.new {T:List Tk} {i:Nat} (h:PAt w g Tv T i Nv N) (hT:0 < T.length) (nk:Int) (nt nm:ByteArray) (nn na:Int):Making (w.alloc (.cells #[.int .i64 nk,.string nt,.string nm,.int .i64 nn,.slice none 0 0,.int .i64 na] 47)) g Tv Nv N w.heap.size nk nt nm nn (.slice none 0 0) [] na:=by
 obtain ⟨⟨n0,n1,n2,n3,n4,n5⟩,nf⟩:=newNode (w:=w) (.int .i64 nk) (.string nt) (.string nm) (.int .i64 nn) (.slice none 0 0) (.int .i64 na) (Turned.refl (fun _=>False) _) (fun e=>e)
 have f:=h.free hT w.heap.size (Nat.le_refl _)
 exact ⟨n0,n1,n2,n3,n4,n5,nf,OwnK.nil 1 _,fun e=>e,⟨f.g,f.t,f.n,f.k⟩,fun _ e=>e.elim⟩
theorem Making.more {w1 w2:World} {V':Value} {x:Int} {T:List Tk} {i:Nat} (h:Making w g Tv Nv N q nk nt nm nn V l na) (hp:PAt w g Tv T i Nv N) (hT:0 < T.length) (hb:Below w.heap.size w w1) (ho:OwnK 1 w2 V' (l.length+1) (ints l++ints [x])) (Tt:Turned (blk V) w1 w2) (hv:∀ k,blk V' k→blk V k∨k=w1.heap.size) :
  Making (w2.setCell ⟨q,4,none⟩ V') g Tv Nv N q nk nt nm nn V' (l++[x]) na∧PAt (w2.setCell ⟨q,4,none⟩ V') g Tv T i Nv N∧Turned (fun k=>k=q∨blk V k) w (w2.setCell ⟨q,4,none⟩ V')∧∀ k,blk V' k→blk V k∨w.heap.size≤k:=by
 have hz:=hb.size
 have hql:=h.lt
 have c:∀ (j:Nat) (v:Value),w.cell? ⟨q,j,none⟩=some v→w2.cell? ⟨q,j,none⟩=some v:=fun j v e=>Tt.cell ((hb.cell (p:=⟨q,j,none⟩) hql).trans e) h.qv
 have o:∀ (j:Nat) (v:Value),4≠j→w2.cell? ⟨q,j,none⟩=some v→(w2.setCell ⟨q,4,none⟩ V').cell? ⟨q,j,none⟩=some v:=fun j v hj e=>by
  rw [World.cell?_setCell_other _ _ _ _ (by simp; try omega)]; exact e
 have fzz:∀ j,w2.frozen? ⟨q,j,none⟩=false:=fun j=>by
  rw [Tt.frozen (p:=⟨q,j,none⟩) (by simp; omega) h.qv,(Turned.ofBelow (S:=fun _=>False) hb).frozen (p:=⟨q,j,none⟩) hql (fun e=>e)]
  exact h.fz j
 have hqv':¬ blk V' q:=fun e=>(hv q e).elim h.qv (fun e=>by omega)
 have T4:=Turned.set1 w2 q 4 V'
 have TT:Turned (fun k=>k=q∨blk V k) w (w2.setCell ⟨q,4,none⟩ V'):=((Turned.ofBelow (S:=fun k=>k=q∨blk V k) hb).trans Tt (fun _ e=>.inl (.inr e))).trans T4 (fun _ e=>.inl (.inl e))
 refine ⟨⟨o 0 _ (by decide) (c 0 _ h.n0),o 1 _ (by decide) (c 1 _ h.n1),o 2 _ (by decide) (c 2 _ h.n2),o 3 _ (by decide) (c 3 _ h.n3),World.cell?_setCell_same _ _ _ (c 4 _ h.n4),o 5 _ (by decide) (c 5 _ h.n5),fun j=>by rw [World.frozen?_setCell]; exact fzz j,OwnK.turned (OwnI.snoc ho) T4 (fun k hk e=>hqv' ((show k=q from e) ▸ hk)),hqv',⟨h.fq.g,h.fq.t,h.fq.n,h.fq.k⟩,fun k hk=>?_⟩,hp.offS (w0:=w) (fun k e=>e.elim (fun e=>e ▸ h.fq) (h.fv k)) TT,TT,fun k hk=>(hv k hk).elim .inl (fun e=>.inr (by omega))⟩
 have f:Free w g Tv Nv N k:=(hv k hk).elim (h.fv k) (fun e=>hp.free hT k (by omega))
 exact ⟨f.g,f.t,f.n,f.k⟩
end
end Go.Proofs.YtlciaafincgdeaaGreatDoor
