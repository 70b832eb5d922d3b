/-
  Layer 10 (lex): the program's tokens, by what they begin with.
  Layer 10 (lex): the program's scan, of a text of ASCII bytes whose tokens are told one by one.
  Layer 10 (lex): the program's tokens of the text that every statement asks for.
  Layer 11 (parse): the program's parser in memory; what it looks at.
-/
import Derived.Test.YtlciaafincgdeaaGreatDoorZab
import Derived.Laws.RangeAny
namespace Go.Proofs.YtlciaafincgdeaaGreatDoor
open Go.RowKit
variable {L T acc:List Tk} {Nv Tv V:Value} {P:Program} {W w w' w1 wr:World} {e g i p:Nat} {s:ByteArray} {tk:Nat→Option (Tk × Nat)}
set_option maxHeartbeats 3200000
set_option maxRecDepth 100000
theorem Below.alloc0 (w:World) (o:Obj):Below w.heap.size w (w.alloc o):=(Below.refl _ _).alloc (Nat.le_refl _) o
theorem Below.setNew (h:Below w.heap.size w w1) (j:Nat) (v:Value):Below w.heap.size w (w1.setCell ⟨w.heap.size,j,none⟩ v):=h.trans ((Turned.setCell w1 ⟨w.heap.size,j,none⟩ v).below h.size (fun _ hi=>Nat.le_of_eq hi.symm))
def tokZero:Nat→Value
 | 0=>.int .i64 0
 | 1=>.string ⟨#[]⟩
 | 2=>.int .i64 0
 | _=>.int .i64 0
theorem newTok (hb:Below (w.alloc (.cells #[.int .i64 0,.string ⟨#[]⟩,.int .i64 0,.int .i64 0] 40)).heap.size (w.alloc (.cells #[.int .i64 0,.string ⟨#[]⟩,.int .i64 0,.int .i64 0] 40)) w1) :
  (w1.cell? ⟨w.heap.size,0,none⟩=some (.int .i64 0)∧w1.frozen? ⟨w.heap.size,0,none⟩=false)∧(w1.cell? ⟨w.heap.size,1,none⟩=some (.string ⟨#[]⟩)∧w1.frozen? ⟨w.heap.size,1,none⟩=false)∧(w1.cell? ⟨w.heap.size,2,none⟩=some (.int .i64 0)∧w1.frozen? ⟨w.heap.size,2,none⟩=false)∧(w1.cell? ⟨w.heap.size,3,none⟩=some (.int .i64 0)∧w1.frozen? ⟨w.heap.size,3,none⟩=false):=by
 have B:Block (w.alloc (.cells #[.int .i64 0,.string ⟨#[]⟩,.int .i64 0,.int .i64 0] 40)) w.heap.size 4 tokZero:=by
  intro j hj
  refine ⟨?_,by rw [World.frozen?_alloc_new]⟩
  match j,hj with
  | 0,_=>simp [tokZero]
  | 1,_=>simp [tokZero]
  | 2,_=>simp [tokZero]
  | 3,_=>simp [tokZero]
 have C:=B.turned (Turned.ofBelow (S:=fun _=>False) hb) (fun h=>h)
 exact ⟨C 0 (by omega),C 1 (by omega),C 2 (by omega),C 3 (by omega)⟩
theorem lx_tok_sign (s:ByteArray) (a:Nat) (ha:a < s.size) (c:Int) (hc:(s[a].toNat:Int)=c) (h1:smallB c=false) (h2:¬ c=39) (h3:capB c=false) (h4:¬ c=95) (h5:digB c=false) (h6:¬ c=36) (h7:¬ c=46)
  (t:Tk) (e:Int) (w:World) (hr:∀ o:Obj,Calls Tryz.prog 115 #[.string s,.int .i64 a] (w.alloc o) (TokTold t e (w.alloc o))) :
  Calls Tryz.prog 92 #[.string s,.int .i64 a] w (TokTold t e w):=by
 obtain ⟨tk,tt,tn,ta⟩:=t
 have k1:=fun w=>lx_small c w
 have k3:=fun w=>lx_cap c w
 have k5:=fun w=>lx_dig c w
 simp only [h1] at k1
 simp only [h3] at k3
 simp only [h5] at k5
 have hai:(a:Int) < (s.size:Int):=by omega
 clear h1 h3 h5
 go_enter Tryz.func92,Tryz.ntmps92
 go_wp2_with (first | (go_at_call 104; refine (k1 _).mono ?_; rintro e w1 ⟨rfl,rfl⟩) | (go_at_call 108; refine (k3 _).mono ?_; rintro e w1 ⟨rfl,rfl⟩) | (go_at_call 110; refine (k5 _).mono ?_; rintro e w1 ⟨rfl,rfl⟩))
 refine (hr _).mono ?_
 rintro x w1 ⟨rfl,hb1⟩
 obtain ⟨⟨c0,f0⟩,⟨c1,f1⟩,⟨c2,f2⟩,⟨c3,f3⟩⟩:=newTok hb1
 have HB:=Hid.mk7 ((Below.alloc0 w _).trans (hb1.mono (by simp)))
 clear hr hb1
 simp only [Tk.val]
 go_wp2
 refine bodyPost_ret (v:=.tuple #[.agg #[.int .i64 tk,.string tt,.int .i64 tn,.int .i64 ta],.int .i64 e,.nilIface]) ?_ rfl ⟨rfl,?_⟩
 ·simp [results,Tryz.results92,go_sem,c0,c1,c2,c3]
 ·exact Below.setNew (Below.setNew (Below.setNew (Below.setNew HB.out 0 _) 1 _) 2 _) 3 _
theorem lx_tok_atom (s:ByteArray) (hs:s.size≤4611686018427387904) (a:Nat) (ha:a < s.size) (c:Int) (hc:(s[a].toNat:Int)=c) (h1:smallB c=true) (k:Nat) (hk:k≤(s.extract a s.size).size) (hrun:runLen wordB (s.extract a s.size) (s.extract a s.size).size 0=k) (e2:Nat) (hp:PlainAt ((s.extract a s.size).extract 0 k) 0 e2)
  (t:Tk) (e:Int) (w:World) (hr:∀ o:Obj,Calls Tryz.prog 107 #[.string s,.int .i64 a] (w.alloc o) (TokTold t e (w.alloc o))) :
  Calls Tryz.prog 92 #[.string s,.int .i64 a] w (TokTold t e w):=by
 obtain ⟨tk,tt,tn,ta⟩:=t
 have hz:(s.extract a s.size).size=s.size - a:=by simp
 have k1:=fun w=>lx_small c w
 simp only [h1] at k1
 have k2:=fun w=>lx_word_at (s.extract a s.size) (by omega) k hk hrun w
 have k4:=fun w=>lx_free hp w
 have hai:(a:Int) < (s.size:Int):=by omega
 clear hp hrun h1
 go_enter Tryz.func92,Tryz.ntmps92
 go_wp2_with (first | (go_at_call 104; refine (k1 _).mono ?_; rintro e w1 ⟨rfl,rfl⟩) | (go_at_call 105; refine (k2 _).mono ?_; rintro e w1 ⟨rfl,rfl⟩) | (go_at_call 106; refine (k4 _).mono ?_; rintro e w1 ⟨rfl,rfl⟩))
 refine (hr _).mono ?_
 rintro x w1 ⟨rfl,hb1⟩
 obtain ⟨⟨c0,f0⟩,⟨c1,f1⟩,⟨c2,f2⟩,⟨c3,f3⟩⟩:=newTok hb1
 have HB:=Hid.mk7 ((Below.alloc0 w _).trans (hb1.mono (by simp)))
 clear hr hb1
 simp only [Tk.val]
 go_wp2
 refine bodyPost_ret (v:=.tuple #[.agg #[.int .i64 tk,.string tt,.int .i64 tn,.int .i64 ta],.int .i64 e,.nilIface]) ?_ rfl ⟨rfl,?_⟩
 ·simp [results,Tryz.results92,go_sem,c0,c1,c2,c3]
 ·exact Below.setNew (Below.setNew (Below.setNew (Below.setNew HB.out 0 _) 1 _) 2 _) 3 _
theorem lx_tok_var (s:ByteArray) (a:Nat) (ha:a < s.size) (c:Int) (hc:(s[a].toNat:Int)=c) (h1:smallB c=false) (h2:¬ c=39) (h3:capB c=true)
  (t:Tk) (e:Int) (w:World) (hr:∀ o:Obj,Calls Tryz.prog 109 #[.string s,.int .i64 a] (w.alloc o) (TokTold t e (w.alloc o))) :
  Calls Tryz.prog 92 #[.string s,.int .i64 a] w (TokTold t e w):=by
 obtain ⟨tk,tt,tn,ta⟩:=t
 have k1:=fun w=>lx_small c w
 have k3:=fun w=>lx_cap c w
 simp only [h1] at k1
 simp only [h3] at k3
 have hai:(a:Int) < (s.size:Int):=by omega
 clear h1 h3
 go_enter Tryz.func92,Tryz.ntmps92
 go_wp2_with (first | (go_at_call 104; refine (k1 _).mono ?_; rintro e w1 ⟨rfl,rfl⟩) | (go_at_call 108; refine (k3 _).mono ?_; rintro e w1 ⟨rfl,rfl⟩))
 refine (hr _).mono ?_
 rintro x w1 ⟨rfl,hb1⟩
 obtain ⟨⟨c0,f0⟩,⟨c1,f1⟩,⟨c2,f2⟩,⟨c3,f3⟩⟩:=newTok hb1
 have HB:=Hid.mk7 ((Below.alloc0 w _).trans (hb1.mono (by simp)))
 clear hr hb1
 simp only [Tk.val]
 go_wp2
 refine bodyPost_ret (v:=.tuple #[.agg #[.int .i64 tk,.string tt,.int .i64 tn,.int .i64 ta],.int .i64 e,.nilIface]) ?_ rfl ⟨rfl,?_⟩
 ·simp [results,Tryz.results92,go_sem,c0,c1,c2,c3]
 ·exact Below.setNew (Below.setNew (Below.setNew (Below.setNew HB.out 0 _) 1 _) 2 _) 3 _
theorem lx_tok_int (s:ByteArray) (_hs:s.size≤4611686018427387904) (a:Nat) (ha:a < s.size) (c:Int) (hc:(s[a].toNat:Int)=c) (h1:smallB c=false) (h2:¬ c=39) (h3:capB c=false) (h4:¬ c=95) (h5:digB c=true) (n k:Nat) (hk0:¬ (k:Int)=0) (e:Int) (he:wrap64 (a+k)=e)
  (w:World) (hn:∀ o:Obj,Calls Tryz.prog 111 #[.string (s.extract a s.size)] (w.alloc o) fun x w'=>x=.returned (.tuple #[.int .i64 n,.int .i64 k])∧Below (w.alloc o).heap.size (w.alloc o) w') :
  Calls Tryz.prog 92 #[.string s,.int .i64 a] w (TokTold ⟨3,⟨#[]⟩,n,a⟩ e w):=by
 have k1:=fun w=>lx_small c w
 have k3:=fun w=>lx_cap c w
 have k5:=fun w=>lx_dig c w
 simp only [h1] at k1
 simp only [h3] at k3
 simp only [h5] at k5
 have kt:=fun w=>lx_tell a n k 201 hk0 e he w
 have hai:(a:Int) < (s.size:Int):=by omega
 clear h1 h3 h5 he
 go_enter Tryz.func92,Tryz.ntmps92
 go_wp2_with (first | (go_at_call 104; refine (k1 _).mono ?_; rintro e w1 ⟨rfl,rfl⟩) | (go_at_call 108; refine (k3 _).mono ?_; rintro e w1 ⟨rfl,rfl⟩) | (go_at_call 110; refine (k5 _).mono ?_; rintro e w1 ⟨rfl,rfl⟩))
 refine (hn _).mono ?_
 rintro x w1 ⟨rfl,hb1⟩
 go_wp2_with fail
 refine (kt _).mono ?_
 rintro x w2 ⟨rfl,hb2⟩
 have hb:=hb1.trans (hb2.mono hb1.size)
 obtain ⟨⟨c0,f0⟩,⟨c1,f1⟩,⟨c2,f2⟩,⟨c3,f3⟩⟩:=newTok hb
 have HB:=Hid.mk7 ((Below.alloc0 w _).trans (hb.mono (by simp)))
 clear hn hb1 hb2 hb kt
 simp only [Tk.val]
 go_wp2
 refine bodyPost_ret (v:=.tuple #[.agg #[.int .i64 3,.string ⟨#[]⟩,.int .i64 n,.int .i64 a],.int .i64 e,.nilIface]) ?_ rfl ⟨rfl,?_⟩
 ·simp [results,Tryz.results92,go_sem,c0,c1,c2,c3]
 ·exact Below.setNew (Below.setNew (Below.setNew (Below.setNew HB.out 0 _) 1 _) 2 _) 3 _
theorem lx_tok_dot (s:ByteArray) (_hs:s.size≤4611686018427387904) (a:Nat) (ha:a < s.size) (hc:(s[a].toNat:Int)=46) (hn:∀ w,Calls Tryz.prog 114 #[.string (s.extract (a+1) s.size)] w fun x w'=>x=.returned (.bool true)∧w=w') (w:World) :
  Calls Tryz.prog 92 #[.string s,.int .i64 a] w (TokTold ⟨6,⟨#[]⟩,0,a⟩ (a+1:Nat) w):=by
 have k1:=fun w=>lx_small 46 w
 have k3:=fun w=>lx_cap 46 w
 have k5:=fun w=>lx_dig 46 w
 simp only [show smallB 46=false by decide] at k1
 simp only [show capB 46=false by decide] at k3
 simp only [show digB 46=false by decide] at k5
 have hai:(a:Int) < (s.size:Int):=by omega
 have hai1:¬ (s.size:Int) < (a:Int)+1:=by omega
 go_enter Tryz.func92,Tryz.ntmps92
 go_wp2_with (first | (go_at_call 104; refine (k1 _).mono ?_; rintro e w1 ⟨rfl,rfl⟩) | (go_at_call 108; refine (k3 _).mono ?_; rintro e w1 ⟨rfl,rfl⟩) | (go_at_call 110; refine (k5 _).mono ?_; rintro e w1 ⟨rfl,rfl⟩) | (go_at_call 114; refine (hn _).mono ?_; rintro e w1 ⟨rfl,rfl⟩))
 refine bodyPost_ret (v:=.tuple #[.agg #[.int .i64 6,.string ⟨#[]⟩,.int .i64 0,.int .i64 a],.int .i64 (a+1:Nat),.nilIface]) ?_ rfl ⟨rfl,?_⟩
 ·simp [results,Tryz.results92,go_sem]
 ·exact Below.alloc0 w _
def iterTo (W:World) (b:Nat) (s:ByteArray) (p:Nat):World:={ W with heap:=W.heap.setIfInBounds b (.stringIter s p) }
theorem iterTo_turned (W:World) (b:Nat) (s:ByteArray) (p:Nat):Turned (fun k=>k=b) W (iterTo W b s p):=
 ⟨rfl,rfl,rfl,by simp [iterTo],fun k _ hk=>by simp [iterTo]; rw [Array.getElem?_setIfInBounds_ne (fun h=>hk h.symm)]⟩
theorem iterTo_heap {b:Nat} (h:b < W.heap.size) (s:ByteArray) (p:Nat):(iterTo W b s p).heap[b]? = some (.stringIter s p):=by
 simp [iterTo,h]
theorem run_next_at {b:Nat} {pos:Nat} (hb:W.heap[b]? = some (.stringIter s pos)) (h:pos < s.size) (ha:(s[pos]'h).toNat < 128) (ty:TypeId) :
  (Instr.next (.pointer (some ⟨b,0,none⟩)) true ty).run P W=.ok (.tuple #[.bool true,.int .i64 pos,.int .i32 (s[pos]'h).toNat]) (iterTo W b s (pos+1)):=by
 simp only [Instr.next,getObj,setObj,Sem.run_bind,Sem.run,hb,Result.andThen,h,if_true,decode_ascii s pos h ha]
 simp [goInt,iterTo]
theorem run_next_over {b:Nat} {pos:Nat} (hb:W.heap[b]? = some (.stringIter s pos)) (h:¬ pos < s.size) (ty:TypeId) :
  (Instr.next (.pointer (some ⟨b,0,none⟩)) true ty).run P W=.ok (.tuple #[.bool false]) W:=by
 simp [Instr.next,getObj,Sem.run,hb,h]
def scanS (s:ByteArray) (tk:Nat→Option (Tk × Nat)):Nat→Nat→Nat→List Tk→Option (List Tk)
 | 0,_,_,acc=>some acc
 | k+1,p,e,acc=>if h:p < s.size then
   (if p < e∨blankB (s[p].toNat:Int)=true then scanS s tk k (p+1) e acc else
    if (s[p].toNat:Int)=37 then none else
    match tk p with
    | none=>none
    | some (t,e')=>scanS s tk k (p+1) e' (acc++[t])) else some acc
def toks (l:List Tk):List Value:=l.flatMap Tk.cells
theorem toks_snoc (l:List Tk) (t:Tk):toks (l++[t])=toks l++t.cells:=by simp [toks]
theorem toks_length (l:List Tk):(toks l).length=l.length*4:=by
 induction l with
 | nil=>rfl
 | cons t r ih=>simp only [toks,List.flatMap_cons,List.length_append,List.length_cons] at ih ⊢; rw [ih]; simp [Tk.cells]; omega
theorem Tk.cells_one (t:Tk):∀ u∈t.cells,u.oneCell'=true:=by
 intro u hu
 simp only [Tk.cells,List.mem_cons,List.not_mem_nil,or_false] at hu
 rcases hu with rfl | rfl | rfl | rfl <;> rfl
theorem Tryz.tokTypes:ElTypes Tryz.prog 23 40 4 40 (.agg #[.int .i64 0,.string ⟨#[]⟩,.int .i64 0,.int .i64 0]):=by
 refine ⟨Tryz.underlying23,?_,by simp [Value.cells]⟩
 have h:(Tryz.prog.info? 40).map (fun i=>(i.zero,i.size,i.bytes))=some (some (.agg #[.int .i64 0,.string ⟨#[]⟩,.int .i64 0,.int .i64 0]),4,40):=by kernel_rfl
 obtain ⟨i,hi,h0,h1,h2⟩:=info_parts h
 exact ⟨i,hi,h0,h1,h2⟩
structure ScanAt (w wr:World) (s:ByteArray) (tk:Nat→Option (Tk × Nat)) (L:List Tk) (p e:Nat) (V:Value) (acc:List Tk):Prop where
 it:wr.heap[w.heap.size]? = some (.stringIter s p)
 own:OwnK 4 wr V acc.length (toks acc)
 off:∀ k,blk V k→w.heap.size < k
 b:Below w.heap.size w wr
 le:acc.length≤p
 ps:p≤s.size
 es:e≤4611686018427387904
 rest:scanS s tk (s.size - p) p e acc=some L
theorem ScanAt.lt (h:ScanAt w wr s tk L p e V acc):w.heap.size < wr.heap.size:=by
 have:=h.it
 rw [Array.getElem?_eq_some_iff] at this
 exact this.1
theorem ScanAt.next (h:ScanAt w wr s tk L p e V acc) (hp:p < s.size) (hc:p < e∨blankB (s[p].toNat:Int)=true):ScanAt w (iterTo wr w.heap.size s (p+1)) s tk L (p+1) e V acc:=by
 have T:=iterTo_turned wr w.heap.size s (p+1)
 refine ⟨iterTo_heap h.lt _ _,h.own.turned T (fun k hk e=>by have:=h.off k hk; omega),h.off,h.b.trans (T.below h.b.size (fun _ e=>Nat.le_of_eq e.symm)),by have:=h.le; omega,by omega,h.es,?_⟩
 have hr:=h.rest
 have e1:s.size - p=s.size - (p+1)+1:=by omega
 rw [e1,scanS,dif_pos hp,if_pos hc] at hr
 exact hr
theorem ScanAt.done (h:ScanAt w wr s tk L p e V acc) (hp:¬ p < s.size):acc=L:=by
 have hr:=h.rest
 cases hk:s.size - p with
 | zero=>rw [hk] at hr; exact Option.some.inj hr
 | succ k=>omega
theorem ScanAt.pos (h:ScanAt w wr s tk L p e V acc):wr.iterPos w.heap.size=p:=by simp [World.iterPos,h.it]
theorem ScanAt.here (h:ScanAt w wr s tk L p e V acc) (hp:p < s.size) (hc:¬ (p < e∨blankB (s[p].toNat:Int)=true)):¬ (s[p].toNat:Int)=37∧∃ t e',tk p=some (t,e'):=by
 have hr:=h.rest
 have e1:s.size - p=s.size - (p+1)+1:=by omega
 rw [e1,scanS,dif_pos hp,if_neg hc] at hr
 by_cases h37:(s[p].toNat:Int)=37
 ·rw [if_pos h37] at hr; cases hr
 ·rw [if_neg h37] at hr
  cases ht:tk p with
  | none=>rw [ht] at hr; cases hr
  | some x=>exact ⟨h37,x.1,x.2,rfl⟩
theorem ScanAt.tok {w2 w3:World} {V':Value} (h:ScanAt w wr s tk L p e V acc) (hp:p < s.size) (hc:¬ (p < e∨blankB (s[p].toNat:Int)=true)) (h37:¬ (s[p].toNat:Int)=37) {t:Tk} {e':Nat} (ht:tk p=some (t,e')) (he':e'≤4611686018427387904)
  (hb:Below (iterTo wr w.heap.size s (p+1)).heap.size (iterTo wr w.heap.size s (p+1)) w2) (ho:OwnK 4 w3 V' (acc.length+1) (toks acc++t.cells)) (T:Turned (blk V) w2 w3) (hV:∀ q,blk V' q→blk V q∨q=w2.heap.size):ScanAt w w3 s tk L (p+1) e' V' (acc++[t]):=by
 have T1:=iterTo_turned wr w.heap.size s (p+1)
 have hlt:=h.lt
 have hz:(iterTo wr w.heap.size s (p+1)).heap.size=wr.heap.size:=by simp [iterTo]
 have hz2:=hb.size
 have hb1:Below w.heap.size w w2:=(h.b.trans (T1.below h.b.size (fun _ e=>Nat.le_of_eq e.symm))).trans (hb.mono (by rw [hz]; exact h.b.size))
 refine ⟨?_,by rw [toks_snoc]; simpa using ho,fun k hk=>(hV k hk).elim (h.off k) (fun e=>by omega),hb1.trans (T.below hb1.size (fun k hk=>Nat.le_of_lt (h.off k hk))),by have:=h.le; simp; omega,by omega,he',?_⟩
 ·rw [T.block _ (by omega) (fun hk=>by have:=h.off _ hk; omega),hb.block _ (by omega)]
  exact iterTo_heap hlt _ _
 ·have hr:=h.rest
  have e1:s.size - p=s.size - (p+1)+1:=by omega
  rw [e1,scanS,dif_pos hp,if_neg hc,if_neg h37,ht] at hr
  exact hr
theorem SlK.tok (w:World) (t:Tk):SlK 4 (w.alloc (.cells #[.int .i64 t.kind,.string t.text,.int .i64 t.num,.int .i64 t.at_] 40)) (.slice (some ⟨w.heap.size,0,none⟩) 1 1) 1 t.cells:=by
 refine ⟨rfl,.inr ⟨w.heap.size,0,1,rfl,Nat.le_refl _,by decide,fun j hj=>?_⟩⟩
 have hj4:j < 4:=hj
 match j,hj4 with
 | 0,_=>simp [Tk.cells]
 | 1,_=>simp [Tk.cells]
 | 2,_=>simp [Tk.cells]
 | 3,_=>simp [Tk.cells]
theorem lx_scan (s:ByteArray) (hs:s.size≤60000) (hasc:∀ i (h:i < s.size),s[i].toNat < 128) (tk:Nat→Option (Tk × Nat)) (htk:∀ p t e,tk p=some (t,e)→e≤4611686018427387904∧∀ W,SgAt W→Calls Tryz.prog 92 #[.string s,.int .i64 p] W (TokTold t e W)) (L:List Tk) (hL:scanS s tk s.size 0 0 []=some L) (w:World) (hw:SgAt w) :
  Calls Tryz.prog 75 #[.string s] w fun x w'=>∃ V,x=.returned (.tuple #[V,.nilIface])∧OwnK 4 w' V L.length (toks L)∧Below w.heap.size w w'∧∀ k,blk V k→w.heap.size < k:=by
 have HT:=Hid.mk7 htk
 have HA:=Hid.mk7 hasc
 have HW:=Hid.mk7 hw
 clear htk hasc hw
 go_enter Tryz.func75,Tryz.ntmps75
 go_wp2_with fail
 go_loopw [4,5] (fun V i wr=>∃ (p e:Nat) (acc:List Tk),i=.int .i64 e∧ScanAt w wr s tk L p e V acc) (fun _ _ wr=>s.size - wr.iterPos w.heap.size)
 case atStart=>exact ⟨0,0,[],rfl,⟨World.iter_heap w s 0,OwnK.nil 4 _,fun _ h=>h.elim,(World.iter_extends w s 0 |> fun _=>Below.alloc0 w _),Nat.le_refl _,Nat.zero_le _,by decide,by simpa using hL⟩⟩
 case round=>
  obtain ⟨p,e,acc,rfl,h⟩:=hrel
  have H:=Hid.mk7 h
  have hes:=h.es
  have hm0:=ScanAt.pos h
  obtain ⟨aV,cV,hV,_⟩:=h.own.sl.form
  subst hV
  by_cases hp:p < s.size
  ·have hnx:=fun ty=>run_next_at (P:=Tryz.prog) h.it hp (HA.out p hp) ty
   by_cases hpe:p < e
   ·have hN:=h.next hp (.inl hpe)
    have hm1:=ScanAt.pos hN
    have HN:=Hid.mk7 hN
    have hpi:(p:Int) < (e:Int):=by omega
    clear hN h
    generalize iterTo _ w.heap.size s (p+1)=w1 at hnx HN hm1
    go_wp2
    go_roundw
    case rel=>exact ⟨p+1,e,acc,rfl,HN.out⟩
    case measure=>rw [hm0,hm1]; omega
   ·have hpi:¬ (p:Int) < (e:Int):=by omega
    have hbl:=fun w=>lx_blank (s[p].toNat:Int) w
    cases hb:blankB (s[p].toNat:Int) with
    | true=>
     simp only [hb] at hbl
     have hN:=h.next hp (.inr hb)
     have hm1:=ScanAt.pos hN
     have HN:=Hid.mk7 hN
     clear hN h hb
     generalize iterTo _ w.heap.size s (p+1)=w1 at hnx HN hm1
     go_wp2_with (go_at_call 89; refine (hbl _).mono ?_; rintro x w2 ⟨rfl,rfl⟩)
     go_roundw
     case rel=>exact ⟨p+1,e,acc,rfl,HN.out⟩
     case measure=>rw [hm0,hm1]; omega
    | false=>
     simp only [hb] at hbl
     have hc:¬ (p < e∨blankB (s[p].toNat:Int)=true):=by rw [hb]; simp [hpe]
     obtain ⟨h37,t,e',ht⟩:=h.here hp hc
     obtain ⟨he',hrt⟩:=HT.out p t e' ht
     have hq:=(HW.out.below h.b).turned (iterTo_turned _ w.heap.size s (p+1)) (fun e=>by have:=HW.out.2; omega)
     have hrt:=hrt _ hq
     have HK:=Hid.mk7 (fun w2 w3 V' a b c d=>h.tok (w2:=w2) (w3:=w3) (V':=V') hp hc h37 ht he' a b c d)
     have hown:=h.own.turned (iterTo_turned _ w.heap.size s (p+1)) (fun k hk e=>by have:=h.off k hk; omega)
     have hmany:¬ (acc.length:Int)=65536:=by have:=h.le; omega
     have hfit:(acc.length+1)*40≤140737488355328:=by have:=h.le; omega
     obtain ⟨tkk,tkt,tkn,tka⟩:=t
     clear h hb hc ht hq
     generalize iterTo _ w.heap.size s (p+1)=w1 at hnx HK hrt hown
     go_wp2_with (go_at_call 89; refine (hbl _).mono ?_; rintro x w2 ⟨rfl,rfl⟩)
     refine hrt.mono ?_
     rintro x w2 ⟨rfl,hb2⟩
     simp only [Tk.val]
     have HB:=Hid.mk7 (fun o1 o2=>hb2.trans ((Below.alloc0 w2 o1).trans ((Below.alloc0 (w2.alloc o1) o2).mono (by simp)) |>.mono hb2.size))
     have HO:=Hid.mk7 (fun o1 o2=>hown.turned (Turned.ofBelow (S:=fun _=>False) (HB.out o1 o2)) (fun _ _ h=>h))
     have HX:=Hid.mk7 (fun o1=>SlK.tok (w2.alloc o1) ⟨tkk,tkt,tkn,tka⟩)
     simp only [World.size_alloc] at HX
     clear hb2 hrt hown hnx hbl
     go_wp2_with (at_builtin; refine wpList_append_k (by rfl) (.tmp 50) (.tmp 52) (by rfl) Tryz.tokTypes (by rfl) (by rfl) (HO.out _ _) (HX.out _) (Tk.cells_one _) hfit (by omega) ?_; intro V1 w3 ho3 ht3 hv3)
     have hN:=HK.out _ _ _ (HB.out _ _) ho3 ht3 hv3
     have hm1:=ScanAt.pos hN
     have HN:=Hid.mk7 hN
     clear hN ho3 ht3 hv3 HO HX HB HK
     go_wp2
     go_roundw
     case rel=>exact ⟨p+1,e',acc++[⟨tkk,tkt,tkn,tka⟩],rfl,HN.out⟩
     case measure=>rw [hm0,hm1]; omega
  ·have hnx:=fun ty=>run_next_over (P:=Tryz.prog) h.it hp ty
   obtain rfl:=h.done hp
   have HO:=Hid.mk7 (And.intro h.own (And.intro h.b h.off))
   clear h
   go_wp2
   go_ret2
   exact ⟨_,rfl,HO.out⟩
def S0:ByteArray:=⟨#[45,109,111,100,117,108,101,40,109,41,46,32,102,40,88,41,32,45,62,32,88,32,43,32,49,32,42,32,50,46]⟩
def tk0:Tk:=⟨5,⟨#[45]⟩,0,0⟩
def tk1:Tk:=⟨1,⟨#[109,111,100,117,108,101]⟩,0,1⟩
def tk2:Tk:=⟨5,⟨#[40]⟩,0,7⟩
def tk3:Tk:=⟨1,⟨#[109]⟩,0,8⟩
def tk4:Tk:=⟨5,⟨#[41]⟩,0,9⟩
def tk5:Tk:=⟨6,⟨#[]⟩,0,10⟩
def tk6:Tk:=⟨1,⟨#[102]⟩,0,12⟩
def tk7:Tk:=⟨5,⟨#[40]⟩,0,13⟩
def tk8:Tk:=⟨2,⟨#[88]⟩,0,14⟩
def tk9:Tk:=⟨5,⟨#[41]⟩,0,15⟩
def tk10:Tk:=⟨5,⟨#[45,62]⟩,0,17⟩
def tk11:Tk:=⟨2,⟨#[88]⟩,0,20⟩
def tk12:Tk:=⟨5,⟨#[43]⟩,0,22⟩
def tk13:Tk:=⟨3,⟨#[]⟩,1,24⟩
def tk14:Tk:=⟨5,⟨#[42]⟩,0,26⟩
def tk15:Tk:=⟨3,⟨#[]⟩,2,28⟩
def tk16:Tk:=⟨6,⟨#[]⟩,0,29⟩
def T0:List Tk:=[tk0,tk1,tk2,tk3,tk4,tk5,tk6,tk7,tk8,tk9,tk10,tk11,tk12,tk13,tk14,tk15,tk16]
def tkAt:Nat→Option (Tk × Nat)
 | 0=>some (tk0,1)
 | 1=>some (tk1,7)
 | 7=>some (tk2,8)
 | 8=>some (tk3,9)
 | 9=>some (tk4,10)
 | 10=>some (tk5,11)
 | 12=>some (tk6,13)
 | 13=>some (tk7,14)
 | 14=>some (tk8,15)
 | 15=>some (tk9,16)
 | 17=>some (tk10,19)
 | 20=>some (tk11,21)
 | 22=>some (tk12,23)
 | 24=>some (tk13,25)
 | 26=>some (tk14,27)
 | 28=>some (tk15,29)
 | 29=>some (tk16,30)
 | _=>none
theorem T0_scan:scanS S0 tkAt S0.size 0 0 []=some T0:=by decide +kernel
theorem S0_ascii:∀ i (h:i < S0.size),S0[i].toNat < 128:=by decide +kernel
theorem tok0 (W:World) (hW:SgAt W):Calls Tryz.prog 92 #[.string S0,.int .i64 0] W (TokTold tk0 1 W):=by
 refine lx_tok_sign S0 0 (by decide) 45 (by decide +kernel) (by decide) (by decide) (by decide) (by decide) (by decide) (by decide) (by decide) tk0 1 W (fun o=>?_)
 exact lx_sign S0 (by decide) 0 22 (by decide) (by decide) (by decide +kernel) (by decide +kernel) (W.alloc o) (hW.below (Below.alloc0 W o))
theorem tok1 (W:World) (hW:SgAt W):Calls Tryz.prog 92 #[.string S0,.int .i64 1] W (TokTold tk1 7 W):=by
 have _:=hW
 refine lx_tok_atom S0 (by decide) 1 (by decide) 109 (by decide +kernel) (by decide) 6 (by decide +kernel) (by decide +kernel) 6 ?_ tk1 7 W (fun o=>?_)
 ·exact ⟨by decide +kernel,by decide +kernel,by decide,by decide +kernel,by decide +kernel,by decide +kernel,by decide,fun w=>by rw [show ((S0.extract 1 S0.size).extract 0 6).extract 0 6=⟨#[109,111,100,117,108,101]⟩ by decide +kernel]; exact at_free_module w⟩
 ·have h:=lx_atom (s:=S0) (a:=1) (e:=7) ⟨by decide,by decide,by decide,by decide,by decide +kernel,by decide +kernel,by decide,fun w=>by rw [show S0.extract 1 7=⟨#[109,111,100,117,108,101]⟩ by decide +kernel]; exact at_free_module w⟩ (W.alloc o)
  rw [show S0.extract 1 7=⟨#[109,111,100,117,108,101]⟩ by decide +kernel] at h
  exact h
theorem tok2 (W:World) (hW:SgAt W):Calls Tryz.prog 92 #[.string S0,.int .i64 7] W (TokTold tk2 8 W):=by
 refine lx_tok_sign S0 7 (by decide) 40 (by decide +kernel) (by decide) (by decide) (by decide) (by decide) (by decide) (by decide) (by decide) tk2 8 W (fun o=>?_)
 exact lx_sign S0 (by decide) 7 9 (by decide) (by decide) (by decide +kernel) (by decide +kernel) (W.alloc o) (hW.below (Below.alloc0 W o))
theorem tok3 (W:World) (hW:SgAt W):Calls Tryz.prog 92 #[.string S0,.int .i64 8] W (TokTold tk3 9 W):=by
 have _:=hW
 refine lx_tok_atom S0 (by decide) 8 (by decide) 109 (by decide +kernel) (by decide) 1 (by decide +kernel) (by decide +kernel) 1 ?_ tk3 9 W (fun o=>?_)
 ·exact ⟨by decide +kernel,by decide +kernel,by decide,by decide +kernel,by decide +kernel,by decide +kernel,by decide,fun w=>by rw [show ((S0.extract 8 S0.size).extract 0 1).extract 0 1=⟨#[109]⟩ by decide +kernel]; exact at_free_m w⟩
 ·have h:=lx_atom (s:=S0) (a:=8) (e:=9) ⟨by decide,by decide,by decide,by decide,by decide +kernel,by decide +kernel,by decide,fun w=>by rw [show S0.extract 8 9=⟨#[109]⟩ by decide +kernel]; exact at_free_m w⟩ (W.alloc o)
  rw [show S0.extract 8 9=⟨#[109]⟩ by decide +kernel] at h
  exact h
theorem tok4 (W:World) (hW:SgAt W):Calls Tryz.prog 92 #[.string S0,.int .i64 9] W (TokTold tk4 10 W):=by
 refine lx_tok_sign S0 9 (by decide) 41 (by decide +kernel) (by decide) (by decide) (by decide) (by decide) (by decide) (by decide) (by decide) tk4 10 W (fun o=>?_)
 exact lx_sign S0 (by decide) 9 10 (by decide) (by decide) (by decide +kernel) (by decide +kernel) (W.alloc o) (hW.below (Below.alloc0 W o))
theorem tok5 (W:World) (hW:SgAt W):Calls Tryz.prog 92 #[.string S0,.int .i64 10] W (TokTold tk5 11 W):=by
 have _:=hW
 refine lx_tok_dot S0 (by decide) 10 (by decide) (by decide +kernel) (fun w=>?_) W
 exact lx_ends_blank (S0.extract (10+1) S0.size) (by decide +kernel) (by decide +kernel) w
theorem tok6 (W:World) (hW:SgAt W):Calls Tryz.prog 92 #[.string S0,.int .i64 12] W (TokTold tk6 13 W):=by
 have _:=hW
 refine lx_tok_atom S0 (by decide) 12 (by decide) 102 (by decide +kernel) (by decide) 1 (by decide +kernel) (by decide +kernel) 1 ?_ tk6 13 W (fun o=>?_)
 ·exact ⟨by decide +kernel,by decide +kernel,by decide,by decide +kernel,by decide +kernel,by decide +kernel,by decide,fun w=>by rw [show ((S0.extract 12 S0.size).extract 0 1).extract 0 1=⟨#[102]⟩ by decide +kernel]; exact at_free_f w⟩
 ·have h:=lx_atom (s:=S0) (a:=12) (e:=13) ⟨by decide,by decide,by decide,by decide,by decide +kernel,by decide +kernel,by decide,fun w=>by rw [show S0.extract 12 13=⟨#[102]⟩ by decide +kernel]; exact at_free_f w⟩ (W.alloc o)
  rw [show S0.extract 12 13=⟨#[102]⟩ by decide +kernel] at h
  exact h
theorem tok7 (W:World) (hW:SgAt W):Calls Tryz.prog 92 #[.string S0,.int .i64 13] W (TokTold tk7 14 W):=by
 refine lx_tok_sign S0 13 (by decide) 40 (by decide +kernel) (by decide) (by decide) (by decide) (by decide) (by decide) (by decide) (by decide) tk7 14 W (fun o=>?_)
 exact lx_sign S0 (by decide) 13 9 (by decide) (by decide) (by decide +kernel) (by decide +kernel) (W.alloc o) (hW.below (Below.alloc0 W o))
theorem tok8 (W:World) (hW:SgAt W):Calls Tryz.prog 92 #[.string S0,.int .i64 14] W (TokTold tk8 15 W):=by
 have _:=hW
 refine lx_tok_var S0 14 (by decide) 88 (by decide +kernel) (by decide) (by decide) (by decide) tk8 15 W (fun o=>?_)
 have h:=lx_var S0 (by decide) 14 1 (by decide) (by decide) (by decide +kernel) (by decide) (W.alloc o)
 rw [show (S0.extract 14 S0.size).extract 0 1=⟨#[88]⟩ by decide +kernel] at h
 exact h
theorem tok9 (W:World) (hW:SgAt W):Calls Tryz.prog 92 #[.string S0,.int .i64 15] W (TokTold tk9 16 W):=by
 refine lx_tok_sign S0 15 (by decide) 41 (by decide +kernel) (by decide) (by decide) (by decide) (by decide) (by decide) (by decide) (by decide) tk9 16 W (fun o=>?_)
 exact lx_sign S0 (by decide) 15 10 (by decide) (by decide) (by decide +kernel) (by decide +kernel) (W.alloc o) (hW.below (Below.alloc0 W o))
theorem tok10 (W:World) (hW:SgAt W):Calls Tryz.prog 92 #[.string S0,.int .i64 17] W (TokTold tk10 19 W):=by
 refine lx_tok_sign S0 17 (by decide) 45 (by decide +kernel) (by decide) (by decide) (by decide) (by decide) (by decide) (by decide) (by decide) tk10 19 W (fun o=>?_)
 exact lx_sign S0 (by decide) 17 2 (by decide) (by decide) (by decide +kernel) (by decide +kernel) (W.alloc o) (hW.below (Below.alloc0 W o))
theorem tok11 (W:World) (hW:SgAt W):Calls Tryz.prog 92 #[.string S0,.int .i64 20] W (TokTold tk11 21 W):=by
 have _:=hW
 refine lx_tok_var S0 20 (by decide) 88 (by decide +kernel) (by decide) (by decide) (by decide) tk11 21 W (fun o=>?_)
 have h:=lx_var S0 (by decide) 20 1 (by decide) (by decide) (by decide +kernel) (by decide) (W.alloc o)
 rw [show (S0.extract 20 S0.size).extract 0 1=⟨#[88]⟩ by decide +kernel] at h
 exact h
theorem tok12 (W:World) (hW:SgAt W):Calls Tryz.prog 92 #[.string S0,.int .i64 22] W (TokTold tk12 23 W):=by
 refine lx_tok_sign S0 22 (by decide) 43 (by decide +kernel) (by decide) (by decide) (by decide) (by decide) (by decide) (by decide) (by decide) tk12 23 W (fun o=>?_)
 exact lx_sign S0 (by decide) 22 21 (by decide) (by decide) (by decide +kernel) (by decide +kernel) (W.alloc o) (hW.below (Below.alloc0 W o))
theorem tok13 (W:World) (hW:SgAt W):Calls Tryz.prog 92 #[.string S0,.int .i64 24] W (TokTold tk13 25 W):=by
 have _:=hW
 refine lx_tok_int S0 (by decide) 24 (by decide) 49 (by decide +kernel) (by decide) (by decide) (by decide) (by decide) (by decide) 1 1 (by decide) 25 (by decide +kernel) W (fun o=>?_)
 exact lx_numb (S0.extract 24 S0.size) (by decide +kernel) 1 (by decide +kernel) (by decide) (by decide +kernel) (by decide +kernel) 1 (by decide +kernel) (by decide) (W.alloc o)
theorem tok14 (W:World) (hW:SgAt W):Calls Tryz.prog 92 #[.string S0,.int .i64 26] W (TokTold tk14 27 W):=by
 refine lx_tok_sign S0 26 (by decide) 42 (by decide +kernel) (by decide) (by decide) (by decide) (by decide) (by decide) (by decide) (by decide) tk14 27 W (fun o=>?_)
 exact lx_sign S0 (by decide) 26 23 (by decide) (by decide) (by decide +kernel) (by decide +kernel) (W.alloc o) (hW.below (Below.alloc0 W o))
theorem tok15 (W:World) (hW:SgAt W):Calls Tryz.prog 92 #[.string S0,.int .i64 28] W (TokTold tk15 29 W):=by
 have _:=hW
 refine lx_tok_int S0 (by decide) 28 (by decide) 50 (by decide +kernel) (by decide) (by decide) (by decide) (by decide) (by decide) 2 1 (by decide) 29 (by decide +kernel) W (fun o=>?_)
 exact lx_numb (S0.extract 28 S0.size) (by decide +kernel) 1 (by decide +kernel) (by decide) (by decide +kernel) (by decide +kernel) 2 (by decide +kernel) (by decide) (W.alloc o)
theorem tok16 (W:World) (hW:SgAt W):Calls Tryz.prog 92 #[.string S0,.int .i64 29] W (TokTold tk16 30 W):=by
 have _:=hW
 refine lx_tok_dot S0 (by decide) 29 (by decide) (by decide +kernel) (fun w=>?_) W
 rw [show S0.extract (29+1) S0.size=⟨#[]⟩ by decide +kernel]
 exact lx_ends_nil w
theorem toks0:∀ p t e,tkAt p=some (t,e)→e≤4611686018427387904∧∀ W,SgAt W→Calls Tryz.prog 92 #[.string S0,.int .i64 p] W (TokTold t e W):=by
 intro p t e h
 unfold tkAt at h
 split at h
 ·cases h; exact ⟨by decide,tok0⟩
 ·cases h; exact ⟨by decide,tok1⟩
 ·cases h; exact ⟨by decide,tok2⟩
 ·cases h; exact ⟨by decide,tok3⟩
 ·cases h; exact ⟨by decide,tok4⟩
 ·cases h; exact ⟨by decide,tok5⟩
 ·cases h; exact ⟨by decide,tok6⟩
 ·cases h; exact ⟨by decide,tok7⟩
 ·cases h; exact ⟨by decide,tok8⟩
 ·cases h; exact ⟨by decide,tok9⟩
 ·cases h; exact ⟨by decide,tok10⟩
 ·cases h; exact ⟨by decide,tok11⟩
 ·cases h; exact ⟨by decide,tok12⟩
 ·cases h; exact ⟨by decide,tok13⟩
 ·cases h; exact ⟨by decide,tok14⟩
 ·cases h; exact ⟨by decide,tok15⟩
 ·cases h; exact ⟨by decide,tok16⟩
 ·cases h
theorem lx_Scan (w:World) (hw:SgAt w):Calls Tryz.prog 44 #[.string S0] w fun x w'=>∃ V,x=.returned (.tuple #[V,.nilIface])∧OwnK 4 w' V 17 (toks T0)∧Below w.heap.size w w'∧∀ k,blk V k→w.heap.size < k:=by
 have h:=lx_scan S0 (by decide) S0_ascii tkAt toks0 T0 T0_scan w hw
 have hz:¬ (65536:Int) < (S0.size:Int):=by decide
 go_enter Tryz.func44,Tryz.ntmps44
 go_wp2_with fail
 refine h.mono ?_
 rintro x w1 ⟨V,rfl,ho,hb,hk⟩
 have H:=Hid.mk7 (And.intro ho (And.intro hb hk))
 obtain ⟨aV,cV,hV,_⟩:=ho.sl.form
 subst hV
 clear ho hb hk
 go_wp2
 go_ret2
 exact ⟨_,rfl,H.out⟩
structure Nd where
 kind:Int
 text:ByteArray
 mod:ByteArray
 num:Int
 kv:Value
 kids:List Int
 at_:Int
def Nd.cells (n:Nd):List Value:=[.int .i64 n.kind,.string n.text,.string n.mod,.int .i64 n.num,n.kv,.int .i64 n.at_]
def Nd.val (n:Nd):Value:=.agg #[.int .i64 n.kind,.string n.text,.string n.mod,.int .i64 n.num,n.kv,.int .i64 n.at_]
def nds (l:List Nd):List Value:=l.flatMap Nd.cells
theorem nds_snoc (l:List Nd) (t:Nd):nds (l++[t])=nds l++t.cells:=by simp [nds]
def ints (l:List Int):List Value:=l.map fun z=>.int .i64 z
theorem ints_length (l:List Int):(ints l).length=l.length:=by simp [ints]
def SlI (w:World) (v:Value) (l:List Int):Prop:=SlK 1 w v l.length (ints l)
def OwnI (w:World) (v:Value) (l:List Int):Prop:=OwnK 1 w v l.length (ints l)
structure PAt (w:World) (g:Nat) (Tv:Value) (T:List Tk) (i:Nat) (Nv:Value) (N:List Nd):Prop where
 c0:w.cell? ⟨g,0,none⟩=some Tv
 c1:w.cell? ⟨g,1,none⟩=some (.int .i64 i)∧w.frozen? ⟨g,1,none⟩=false
 c2:w.cell? ⟨g,2,none⟩=some Nv∧w.frozen? ⟨g,2,none⟩=false
 tok:SlK 4 w Tv T.length (toks T)
 tg:∀ k,blk Tv k→k≠g∧¬ blk Nv k
 own:OwnK 6 w Nv N.length (nds N)
 ng:¬ blk Nv g
 kid:∀ j (h:j < N.length),OwnI w N[j].kv N[j].kids∧∀ k,blk N[j].kv k→k≠g∧¬ blk Nv k∧k < w.heap.size
 il:i≤T.length
 tl:T.length≤65536
theorem PAt.lt {N:List Nd} (h:PAt w g Tv T i Nv N):g < w.heap.size:=World.block_lt_of_cell? w _ h.c0
theorem PAt.turned {S:Nat→Prop} {N:List Nd} (h:PAt w g Tv T i Nv N) (ht:Turned S w w') (hg:¬ S g) (hT:∀ k,blk Tv k→¬ S k) (hN:∀ k,blk Nv k→¬ S k) (hK:∀ j (h:j < N.length) k,blk N[j].kv k→¬ S k):PAt w' g Tv T i Nv N:=
 ⟨ht.cell h.c0 hg,⟨ht.cell h.c1.1 hg,by rw [ht.frozen (p:=⟨g,1,none⟩) h.lt hg]; exact h.c1.2⟩,⟨ht.cell h.c2.1 hg,by rw [ht.frozen (p:=⟨g,2,none⟩) h.lt hg]; exact h.c2.2⟩,h.tok.turned ht hT,h.tg,h.own.turned ht hN,h.ng,fun j hj=>⟨(h.kid j hj).1.turned ht (hK j hj),fun k hk=>⟨((h.kid j hj).2 k hk).1,((h.kid j hj).2 k hk).2.1,Nat.lt_of_lt_of_le ((h.kid j hj).2 k hk).2.2 ht.size⟩⟩,h.il,h.tl⟩
theorem PAt.below {N:List Nd} (h:PAt w g Tv T i Nv N) (hb:Below w.heap.size w w'):PAt w' g Tv T i Nv N:=
 h.turned (Turned.ofBelow (S:=fun _=>False) hb) (fun h=>h) (fun _ _ h=>h) (fun _ _ h=>h) (fun _ _ _ _ h=>h)
theorem Below.drew {B:Nat} {a b:World} (h:Below B a b):Below B a b.drew:=⟨h.os,h.tape,h.output,h.size,h.block⟩
def zeroTk:Tk:=⟨0,⟨#[]⟩,0,0⟩
def tokAt (T:List Tk) (i:Nat):Tk:=(T[i]?).getD zeroTk
theorem toks_get:∀ (T:List Tk) (i:Nat) (h:i < T.length),(toks T)[i*4]? = some (.int .i64 T[i].kind)∧(toks T)[i*4+1]? = some (.string T[i].text)∧(toks T)[i*4+2]? = some (.int .i64 T[i].num)∧(toks T)[i*4+3]? = some (.int .i64 T[i].at_)
 | t :: r,0,_=>⟨rfl,rfl,rfl,rfl⟩
 | t :: r,i+1,h=>by
  have ih:=toks_get r i (by simpa using h)
  have e:∀ j,(toks (t :: r))[(i+1)*4+j]? = (toks r)[i*4+j]?:=fun j=>by
   have:(i+1)*4+j=(i*4+j)+4:=by omega
   rw [this]
   show (Tk.cells t++toks r)[i*4+j+4]? = _
   rw [List.getElem?_append_right (by simp [Tk.cells])]
   simp [Tk.cells]
  have e0:=e 0
  rw [Nat.add_zero,Nat.add_zero] at e0
  rw [e0,e 1,e 2,e 3]
  exact ih
theorem PAt.at {N:List Nd} (h:PAt w g Tv T i Nv N) (j:Nat) (hj:j < T.length):∃ b off cap,Tv=.slice (some ⟨b,off,none⟩) T.length cap∧w.rangeAt b (off+j*4) (tokAt T j).cells:=by
 obtain ⟨b,off,cap,rfl,_,_,hc⟩:=h.tok.at j hj
 obtain ⟨t0,t1,t2,t3⟩:=toks_get T j hj
 have et:tokAt T j=T[j]:=by simp [tokAt,hj]
 have e0:=(hc 0 (by omega)).1
 have e1:=(hc 1 (by omega)).1
 have e2:=(hc 2 (by omega)).1
 have e3:=(hc 3 (by omega)).1
 rw [Nat.add_zero,Nat.add_zero,t0] at e0
 rw [t1] at e1
 rw [t2] at e2
 rw [t3] at e3
 refine ⟨b,off,cap,rfl,fun q v hq=>?_⟩
 rw [et] at hq
 match q,hq with
 | 0,hq=>simp [Tk.cells] at hq; subst hq; exact e0
 | 1,hq=>simp [Tk.cells] at hq; subst hq; exact e1
 | 2,hq=>simp [Tk.cells] at hq; subst hq; exact e2
 | 3,hq=>simp [Tk.cells] at hq; subst hq; exact e3
 | q+4,hq=>simp [Tk.cells] at hq
theorem ps_ahead {N:List Nd} (h:PAt w g Tv T i Nv N) (n:Nat) (hn:n≤1):Calls Tryz.prog 93 #[.pointer (some ⟨g,0,none⟩),.int .i64 n] w fun x w'=>x=.returned (tokAt T (i+n)).val∧Below w.heap.size w w':=by
 have hc0:=h.c0
 have hc1:=h.c1.1
 have hgl:=h.lt
 have hil:=h.il
 have htl:=h.tl
 obtain ⟨aT,cT,hTv,_⟩:=h.tok.form
 subst hTv
 by_cases hlt:i+n < T.length
 ·have hge:¬ (T.length:Int)≤(i:Int)+(n:Int):=by omega
  obtain ⟨b,off,cap,hTv,hr⟩:=h.at (i+n) hlt
  simp only [Value.slice.injEq] at hTv
  obtain ⟨rfl,_,rfl⟩:=hTv
  have k0:=hr 0 _ rfl
  have k1:=hr 1 _ rfl
  have k2:=hr 2 _ rfl
  have k3:=hr 3 _ rfl
  rw [Nat.add_zero] at k0
  have hbl:b < w.heap.size:=World.block_lt_of_cell? w _ k0
  generalize tokAt T (i+n)=t at k0 k1 k2 k3 ⊢
  obtain ⟨tk,tt,tn,ta⟩:=t
  clear h hr
  go_enter Tryz.func93,Tryz.ntmps93
  go_wp2_with fail
  go_region
  go_wp2_with fail
  go_region
  go_wp2
  refine bodyPost_ret (v:=.agg #[.int .i64 tk,.string tt,.int .i64 tn,.int .i64 ta]) (by simp [results,Tryz.results93,go_sem]) rfl ⟨rfl,?_⟩
  exact (Below.alloc0 w _).drew.drew
 ·have hge:(T.length:Int)≤(i:Int)+(n:Int):=by omega
  have ez:tokAt T (i+n)=zeroTk:=by simp [tokAt,List.getElem?_eq_none (Nat.le_of_not_lt hlt)]
  rw [ez]
  clear h ez
  go_enter Tryz.func93,Tryz.ntmps93
  go_wp2_with fail
  go_region
  go_wp2
  refine bodyPost_ret (v:=zeroTk.val) (by simp [results,Tryz.results93,go_sem,zeroTk,Tk.val]) rfl ⟨rfl,?_⟩
  exact (Below.alloc0 w _).drew
theorem Below.tok4 (h:Below w.heap.size w w1) (t:Tk):Below w.heap.size w ((((w1.setCell ⟨w.heap.size,0,none⟩ (.int .i64 t.kind)).setCell ⟨w.heap.size,1,none⟩ (.string t.text)).setCell ⟨w.heap.size,2,none⟩ (.int .i64 t.num)).setCell ⟨w.heap.size,3,none⟩ (.int .i64 t.at_)):=
 Below.setNew (Below.setNew (Below.setNew (Below.setNew h 0 _) 1 _) 2 _) 3 _
theorem ps_peek {N:List Nd} (h:PAt w g Tv T i Nv N):Calls Tryz.prog 76 #[.pointer (some ⟨g,0,none⟩)] w fun x w'=>x=.returned (tokAt T i).val∧Below w.heap.size w w':=by
 have ha:=fun o=>ps_ahead (h.below (Below.alloc0 w o)) 0 (by omega)
 simp only [Nat.add_zero] at ha
 generalize tokAt T i=t at ha ⊢
 obtain ⟨tk,tt,tn,ta⟩:=t
 clear h
 go_enter Tryz.func76,Tryz.ntmps76
 go_wp2_with fail
 refine (ha _).mono ?_
 rintro x w1 ⟨rfl,hb1⟩
 obtain ⟨⟨c0,f0⟩,⟨c1,f1⟩,⟨c2,f2⟩,⟨c3,f3⟩⟩:=newTok hb1
 have HB:=Hid.mk7 ((Below.alloc0 w _).trans (hb1.mono (by simp)))
 clear ha hb1
 simp only [Tk.val]
 go_wp2
 refine bodyPost_ret (v:=.agg #[.int .i64 tk,.string tt,.int .i64 tn,.int .i64 ta]) ?_ rfl ⟨rfl,?_⟩
 ·simp [results,Tryz.results76,go_sem,c0,c1,c2,c3]
 ·exact Below.tok4 HB.out ⟨tk,tt,tn,ta⟩
theorem bytes_ne {a b:ByteArray} (h:¬ a=b):¬ a.toList=b.toList:=by
 intro e
 rw [ByteArray.toList_eq,ByteArray.toList_eq] at e
 exact h (ByteArray.ext (Array.toList_inj.1 e))
theorem ps_is (t:Tk) (k:Int) (s:ByteArray) (w:World):Calls Tryz.prog 117 #[t.val,.int .i64 k,.string s] w fun x w'=>x=.returned (.bool (decide (t.kind=k) && decide (t.text=s)))∧Below w.heap.size w w':=by
 obtain ⟨tk,tt,tn,ta⟩:=t
 simp only [Tk.val]
 by_cases hk:tk=k
 ·subst hk
  by_cases hs:tt=s
  ·subst hs
   go_enter Tryz.func117,Tryz.ntmps117
   go_wp2
   all_goals go_ret
   all_goals exact ⟨congrArg Ending.returned (congrArg Value.bool (by simp)),Below.alloc0 w _⟩
  ·go_enter Tryz.func117,Tryz.ntmps117
   go_wp2
   all_goals go_ret
   all_goals exact ⟨congrArg Ending.returned (congrArg Value.bool (by simp [hs]; exact bytes_ne hs)),Below.alloc0 w _⟩
 ·have hkb:(tk == k)=false:=by simpa using hk
  go_enter Tryz.func117,Tryz.ntmps117
  go_wp2
  all_goals go_ret
  all_goals exact ⟨congrArg Ending.returned (congrArg Value.bool (by simp [hk])),Below.alloc0 w _⟩
def isTk (k:Int) (s:ByteArray) (t:Tk):Bool:=decide (t.kind=k) && decide (t.text=s)
theorem ps_isSign {N:List Nd} (h:PAt w g Tv T i Nv N) (s:ByteArray):Calls Tryz.prog 98 #[.pointer (some ⟨g,0,none⟩),.string s] w fun x w'=>x=.returned (.bool (isTk 5 s (tokAt T i)))∧Below w.heap.size w w':=by
 have hp:=ps_peek h
 have hi:=fun w=>ps_is (tokAt T i) 5 s w
 unfold isTk
 generalize (decide ((tokAt T i).kind=5) && decide ((tokAt T i).text=s))=bb at hi ⊢
 generalize tokAt T i=t at hp hi
 obtain ⟨tk,tt,tn,ta⟩:=t
 simp only [Tk.val] at hp hi
 clear h
 go_enter Tryz.func98,Tryz.ntmps98
 go_wp2_with fail
 refine hp.mono ?_
 rintro x w1 ⟨rfl,hb1⟩
 go_wp2_with fail
 refine (hi _).mono ?_
 rintro x w2 ⟨rfl,hb2⟩
 have HB:=Hid.mk7 (hb1.trans (hb2.mono hb1.size))
 clear hb1 hb2 hp hi
 go_wp2
 go_ret
 exact ⟨rfl,HB.out⟩
theorem ps_isWord {N:List Nd} (h:PAt w g Tv T i Nv N) (s:ByteArray):Calls Tryz.prog 146 #[.pointer (some ⟨g,0,none⟩),.string s] w fun x w'=>x=.returned (.bool (isTk 4 s (tokAt T i)))∧Below w.heap.size w w':=by
 have hp:=ps_peek h
 have hi:=fun w=>ps_is (tokAt T i) 4 s w
 unfold isTk
 generalize (decide ((tokAt T i).kind=4) && decide ((tokAt T i).text=s))=bb at hi ⊢
 generalize tokAt T i=t at hp hi
 obtain ⟨tk,tt,tn,ta⟩:=t
 simp only [Tk.val] at hp hi
 clear h
 go_enter Tryz.func146,Tryz.ntmps146
 go_wp2_with fail
 refine hp.mono ?_
 rintro x w1 ⟨rfl,hb1⟩
 go_wp2_with fail
 refine (hi _).mono ?_
 rintro x w2 ⟨rfl,hb2⟩
 have HB:=Hid.mk7 (hb1.trans (hb2.mono hb1.size))
 clear hb1 hb2 hp hi
 go_wp2
 go_ret
 exact ⟨rfl,HB.out⟩
end Go.Proofs.YtlciaafincgdeaaGreatDoor
