/-
  Layer 11 (parse): the document's parser while all is well: its tokens, its nodes.
  Layer 11 (parse): the document's parser while all is well: a sign, a kind that must stand there; a node.
  Layer 11 (parse): the document's parser while all is well: a node.
  Layer 11 (parse): how far the program's parser has come; a row of phrases.
  Layer 11 (parse): how far the document's parser has come; an operator, if one is next.
  Layer 11 (parse), of lists alone: a phrase goes on; an expression is read level by level just as by climbing.
-/
import Derived.Test.YtlciaafincgdeaaGreatDoorZaf
import Derived.Test.YtlciaafincgdeaaGreatDoorZae
namespace Go.Proofs.YtlciaafincgdeaaGreatDoor
open Go.RowKit
set_option maxHeartbeats 1600000
set_option maxRecDepth 100000
structure Gd (w:World) (q:Nat):Prop where
 c3:w.cell? ⟨q,3,none⟩=some (.bool false)∧w.frozen? ⟨q,3,none⟩=false
 c4:w.cell? ⟨q,4,none⟩=some (.int .i64 0)∧w.frozen? ⟨q,4,none⟩=false
theorem Gd.lt {w:World} {q:Nat} (h:Gd w q):q < w.heap.size:=World.block_lt_of_cell? w _ h.c3.1
theorem Gd.turned {S:Nat→Prop} {w w':World} {q:Nat} (h:Gd w q) (ht:Turned S w w') (hs:¬ S q):Gd w' q:=
 ⟨⟨ht.cell h.c3.1 hs,by rw [ht.frozen (p:=⟨q,3,none⟩) h.lt hs]; exact h.c3.2⟩,⟨ht.cell h.c4.1 hs,by rw [ht.frozen (p:=⟨q,4,none⟩) h.lt hs]; exact h.c4.2⟩⟩
theorem Gd.below {w w':World} {q:Nat} (h:Gd w q) (hb:Below w.heap.size w w'):Gd w' q:=h.turned (Turned.ofBelow (S:=fun _=>False) hb) (fun e=>e)
theorem Gd.set {w:World} {q:Nat} (h:Gd w q) (j:Nat) (v:Value) (hj:j < 3):Gd (w.setCell ⟨q,j,none⟩ v) q:=
 ⟨⟨by rw [World.cell?_setCell_other _ _ _ _ (fun e=>by simp at e <;> omega)]; exact h.c3.1,by rw [World.frozen?_setCell]; exact h.c3.2⟩,⟨by rw [World.cell?_setCell_other _ _ _ _ (fun e=>by simp at e <;> omega)]; exact h.c4.1,by rw [World.frozen?_setCell]; exact h.c4.2⟩⟩
theorem bytes_iff {a b:ByteArray}:a.toList=b.toList↔a=b:=⟨fun h=>Classical.byContradiction fun e=>bytes_ne e h,fun h=>by rw [h]⟩
def tkIs (s:ByteArray) (t:Tk):Bool:=(decide (t.kind=5) || decide (t.kind=4)) && decide (t.text=s)
section
variable {w:World} {q:Nat} {Tv:Value} {T:List Tk} {i:Nat} {Nv:Value} {N:List Nd}
theorem rf_token11 (h:PAt w q Tv T i Nv N) (hg:Gd w q) (n:Nat) (hn:n≤1):Calls Tryz.prog 25 #[.pointer (some ⟨q,0,none⟩),.int .i64 n] w fun x w'=>x=.returned (tokAt T (i+n)).val∧Below w.heap.size w w':=by
 have hc0:=h.c0
 have hc1:=h.c1.1
 have hc3:=hg.c3.1
 have hgl:=h.lt
 have hil:=h.il
 have htl:=h.tl
 obtain ⟨aT,cT,hTv,_⟩:=h.tok.form
 subst hTv
 by_cases hlt:i+n < T.length
 ·have hge:¬ (T.length:Int)≤(i:Int)+(n:Int):=by omega
  obtain ⟨b,off,cap,hTv,hr⟩:=h.at (i+n) hlt
  simp only [Value.slice.injEq] at hTv
  obtain ⟨rfl,_,rfl⟩:=hTv
  have k0:=hr 0 _ rfl
  have k1:=hr 1 _ rfl
  have k2:=hr 2 _ rfl
  have k3:=hr 3 _ rfl
  rw [Nat.add_zero] at k0
  have hbl:b < w.heap.size:=World.block_lt_of_cell? w _ k0
  generalize tokAt T (i+n)=t at k0 k1 k2 k3 ⊢
  obtain ⟨tk,tt,tn,ta⟩:=t
  clear h hr hg
  go_enter Tryz.func25,Tryz.ntmps25
  go_wp2_with fail
  go_region
  go_wp2_with fail
  go_region
  go_wp2
  refine bodyPost_ret (v:=.agg #[.int .i64 tk,.string tt,.int .i64 tn,.int .i64 ta]) (by simp [results,Tryz.results25,go_sem]) rfl ⟨rfl,?_⟩
  exact (Below.alloc0 w _).drew.drew
 ·have hge:(T.length:Int)≤(i:Int)+(n:Int):=by omega
  have ez:tokAt T (i+n)=zeroTk:=by simp [tokAt,List.getElem?_eq_none (Nat.le_of_not_lt hlt)]
  rw [ez]
  clear h ez hg
  go_enter Tryz.func25,Tryz.ntmps25
  go_wp2_with fail
  go_region
  go_wp2
  refine bodyPost_ret (v:=zeroTk.val) (by simp [results,Tryz.results25,go_sem,zeroTk,Tk.val]) rfl ⟨rfl,?_⟩
  exact (Below.alloc0 w _).drew
theorem rf_sign (h:PAt w q Tv T i Nv N) (hg:Gd w q) (n:Nat) (hn:n≤1) (s:ByteArray):Calls Tryz.prog 61 #[.pointer (some ⟨q,0,none⟩),.int .i64 n,.string s] w fun x w'=>x=.returned (.bool (tkIs s (tokAt T (i+n))))∧Below w.heap.size w w':=by
 have ht:=rf_token11 h hg n hn
 unfold tkIs
 generalize tokAt T (i+n)=t at ht ⊢
 obtain ⟨tk,tt,tn,ta⟩:=t
 simp only [Tk.val] at ht
 clear h hg
 go_enter Tryz.func61,Tryz.ntmps61
 go_wp2_with fail
 refine ht.mono ?_
 rintro x w1 ⟨rfl,hb1⟩
 have HB:=Hid.mk7 (hb1.up1)
 clear ht hb1
 go_wp2
 all_goals go_ret
 all_goals
  refine ⟨congrArg Ending.returned (congrArg Value.bool ?_),HB.out _⟩
  rw [Bool.eq_iff_iff]
  simp_all [bytes_iff]
theorem rf_word11 (h:PAt w q Tv T i Nv N) (hg:Gd w q) (s:ByteArray):Calls Tryz.prog 58 #[.pointer (some ⟨q,0,none⟩),.string s] w fun x w'=>x=.returned (.bool (isTk 1 s (tokAt T i)))∧Below w.heap.size w w':=by
 have ht:=rf_token11 h hg 0 (by omega)
 unfold isTk
 rw [Nat.add_zero] at ht
 generalize tokAt T i=t at ht ⊢
 obtain ⟨tk,tt,tn,ta⟩:=t
 simp only [Tk.val] at ht
 clear h hg
 go_enter Tryz.func58,Tryz.ntmps58
 go_wp2_with fail
 refine ht.mono ?_
 rintro x w1 ⟨rfl,hb1⟩
 have HB:=Hid.mk7 (hb1.up1)
 clear ht hb1
 go_wp2
 all_goals go_ret
 all_goals
  refine ⟨congrArg Ending.returned (congrArg Value.bool ?_),HB.out _⟩
  rw [Bool.eq_iff_iff]
  simp_all [bytes_iff]
theorem Gd.faulted (hg:Gd w q) (i:Nat):Bd ((w.setCell ⟨q,3,none⟩ (.bool true)).setCell ⟨q,4,none⟩ (.int .i64 i)) q i∧Turned (fun k=>k=q) w ((w.setCell ⟨q,3,none⟩ (.bool true)).setCell ⟨q,4,none⟩ (.int .i64 i)):=by
 refine ⟨⟨?_,?_⟩,(Turned.setCell w ⟨q,3,none⟩ _).trans (Turned.setCell _ ⟨q,4,none⟩ _) (fun _ e=>.inl e)⟩
 ·rw [World.cell?_setCell_other _ _ _ _ (by simp)]
  exact World.cell?_setCell_same _ _ _ hg.c3.1
 ·refine World.cell?_setCell_same _ _ _ (u:=.int .i64 0) ?_
  rw [World.cell?_setCell_other _ _ _ _ (by simp)]
  exact hg.c4.1
theorem rf_syntax (h:PAt w q Tv T i Nv N) (hg:Gd w q):Calls Tryz.prog 59 #[.pointer (some ⟨q,0,none⟩)] w fun x w'=>x=.returned (.int .i64 0)∧Bd w' q i∧Turned (fun k=>k=q) w w':=by
 have HF:=Hid.mk7 (hg.faulted i)
 have hc1:=h.c1.1
 obtain ⟨c3,f3⟩:=hg.c3
 obtain ⟨c4,f4⟩:=hg.c4
 clear h hg
 go_enter Tryz.func59,Tryz.ntmps59
 go_wp2
 go_ret
 exact ⟨rfl,HF.out⟩
def TakeTold (w:World) (q:Nat) (Tv:Value) (T:List Tk) (i:Nat) (Nv:Value) (N:List Nd) (b:Bool) (w':World):Prop:=PAt w' q Tv T (if b then i+1 else i) Nv N∧Gd w' q∧Turned (fun k=>k=q) w w'
theorem tkIs_lt {s:ByteArray} (h:tkIs s (tokAt T i)=true):i < T.length:=by
 apply Classical.byContradiction
 intro hn
 have ez:tokAt T i=zeroTk:=by simp [tokAt,List.getElem?_eq_none (Nat.le_of_not_lt hn)]
 rw [ez] at h
 simp [tkIs,zeroTk] at h
theorem rf_take (h:PAt w q Tv T i Nv N) (hg:Gd w q) (s:ByteArray):Calls Tryz.prog 84 #[.pointer (some ⟨q,0,none⟩),.string s] w fun x w'=>x=.returned (.bool (tkIs s (tokAt T i)))∧TakeTold w q Tv T i Nv N (tkIs s (tokAt T i)) w':=by
 have ht:=rf_sign h hg 0 (by omega) s
 rw [Nat.add_zero] at ht
 have hlt:=tkIs_lt (T:=T) (i:=i) (s:=s)
 have HH:=Hid.mk7 (And.intro h hg)
 have hil:=h.tl
 unfold TakeTold
 cases hb:tkIs s (tokAt T i) with
 | true=>
  rw [hb] at ht
  have hi:=hlt hb
  clear h hg hb hlt
  go_enter Tryz.func84,Tryz.ntmps84
  go_wp2_with fail
  refine ht.mono ?_
  rintro x w1 ⟨rfl,hb1⟩
  have h1:=HH.out.1.below hb1
  have g1:=HH.out.2.below hb1
  obtain ⟨c1,f1⟩:=h1.c1
  have HN:=Hid.mk7 (And.intro (h1.next (i+1) (by omega) rfl) (g1.set 1 (.int .i64 ((i+1:Nat):Int)) (by omega)))
  have HB:=Hid.mk7 hb1
  clear ht h1 g1 hb1
  go_wp2
  go_ret
  refine ⟨rfl,?_⟩
  exact ⟨HN.out.1.1,HN.out.2,(Turned.ofBelow (S:=fun k=>k=q) HB.out).trans HN.out.1.2 (fun _ e=>.inl e)⟩
 | false=>
  rw [hb] at ht
  clear h hg hb hlt
  go_enter Tryz.func84,Tryz.ntmps84
  go_wp2_with fail
  refine ht.mono ?_
  rintro x w1 ⟨rfl,hb1⟩
  have HB:=Hid.mk7 hb1
  clear ht hb1
  go_wp2
  go_ret
  refine ⟨rfl,?_⟩
  exact ⟨HH.out.1.below HB.out,HH.out.2.below HB.out,Turned.ofBelow HB.out⟩
end
section
variable {w:World} {q:Nat} {Tv:Value} {T:List Tk} {i:Nat} {Nv:Value} {N:List Nd}
def NeedTold (w:World) (q:Nat) (Tv:Value) (T:List Tk) (i:Nat) (Nv:Value) (N:List Nd) (b:Bool) (w':World):Prop:=
 match b with
 | true=>PAt w' q Tv T (i+1) Nv N∧Gd w' q∧Turned (fun k=>k=q) w w'
 | false=>Bd w' q i∧Turned (fun k=>k=q) w w'
theorem rf_want (h:PAt w q Tv T i Nv N) (hg:Gd w q) (s:ByteArray):Calls Tryz.prog 57 #[.pointer (some ⟨q,0,none⟩),.string s] w fun x w'=>x=.returned (.tuple #[])∧NeedTold w q Tv T i Nv N (tkIs s (tokAt T i)) w':=by
 have ht:=rf_take h hg s
 clear h hg
 cases hb:tkIs s (tokAt T i) with
 | true=>
  rw [hb] at ht
  clear hb
  go_enter Tryz.func57,Tryz.ntmps57
  go_wp2_with fail
  refine ht.mono ?_
  rintro x w1 ⟨rfl,hb1⟩
  have HB:=Hid.mk7 hb1
  clear ht hb1
  go_wp2
  go_end0
  exact ⟨rfl,HB.out⟩
 | false=>
  rw [hb] at ht
  clear hb
  go_enter Tryz.func57,Tryz.ntmps57
  go_wp2_with fail
  refine ht.mono ?_
  rintro x w1 ⟨rfl,h1,g1,t1⟩
  have hs:=rf_syntax h1 g1
  have HB:=Hid.mk7 t1
  clear ht h1 g1 t1
  go_wp2_with fail
  refine hs.mono ?_
  rintro x w2 ⟨rfl,b2,t2⟩
  have HB2:=Hid.mk7 (And.intro b2 (HB.out.trans t2 (fun _ e=>.inl e)))
  clear hs b2 t2
  go_wp2
  go_end0
  exact ⟨rfl,HB2.out⟩
theorem Gd.off {w w':World} {q g:Nat} (h:Gd w q) (hq:q≠g) (ht:Turned (fun k=>k=g) w w'):Gd w' q:=h.turned ht hq
theorem Bd.off {w w':World} {q e g:Nat} (h:Bd w q e) (hq:q≠g) (ht:Turned (fun k=>k=g) w w'):Bd w' q e:=⟨ht.cell h.bad hq,ht.cell h.err hq⟩
theorem rf_kind11 (h:PAt w q Tv T i Nv N) (hg:Gd w q) (k:Int) (hk:¬ k=0):Calls Tryz.prog 60 #[.pointer (some ⟨q,0,none⟩),.int .i64 k] w fun x w'=>x=.returned (if knd T k i then tokAt T i else zeroTk).val∧NeedTold w q Tv T i Nv N (knd T k i) w':=by
 have HH:=Hid.mk7 (And.intro h hg)
 have hgl:=h.lt
 have ht:=fun o=>rf_token11 (h.below (Below.alloc0 w o)) (hg.below (Below.alloc0 w o)) 0 (by omega)
 simp only [Nat.add_zero] at ht
 have hlt:knd T k i=true→i < T.length:=fun hb=>by
  apply Classical.byContradiction
  intro hn
  have ez:tokAt T i=zeroTk:=by simp [tokAt,List.getElem?_eq_none (Nat.le_of_not_lt hn)]
  simp [knd,ez,zeroTk] at hb
  exact hk hb.symm
 have hfk:=Tryz.tokKind
 have htl:=h.tl
 cases hb:knd T k i with
 | true=>
  have hi:=hlt hb
  have hkk:(tokAt T i).kind=k:=by simpa [knd] using hb
  simp only [if_true]
  clear h hg hlt hb
  subst hkk
  generalize tokAt T i=t at ht ⊢
  obtain ⟨tk,tt,tn,ta⟩:=t
  simp only [Tk.val] at ht ⊢
  go_enter Tryz.func60,Tryz.ntmps60
  go_wp2_with fail
  refine (ht _).mono ?_
  rintro x w1 ⟨rfl,hb1⟩
  have B1:=(Below.alloc0 w _).trans (hb1.mono (by simp))
  have h1:=HH.out.1.below B1
  have hc1:=h1.c1.1
  have hf1:=h1.c1.2
  obtain ⟨⟨c0,f0⟩,⟨c1,f1⟩,⟨c2,f2⟩,⟨c3,f3⟩⟩:=newTok hb1
  have hz1:=B1.size
  have hgl1:=h1.lt
  have hlt1:w.heap.size < w1.heap.size:=by have:=hb1.size; simp at this; omega
  have HB1:=Hid.mk7 (And.intro B1 h1)
  clear ht hb1 B1 h1
  go_wp2
  have o:∀ (j:Nat) (v u:Value),w1.cell? ⟨w.heap.size,j,none⟩=some u→(w1.setCell ⟨q,1,none⟩ v).cell? ⟨w.heap.size,j,none⟩=some u:=fun j v u h=>by
   rw [World.cell?_setCell_other _ _ _ _ (by simp; try omega)]; exact h
  have hr:=rangeAt_turned (lay4_range _ w.heap.size ⟨tk,tt,tn,ta⟩ (o 0 (.int .i64 ((i:Int)+1)) _ c0) (o 1 _ _ c1) (o 2 _ _ c2) (o 3 _ _ c3)) (Turned.alloc (fun _=>False) _ (.cells #[.int .i64 tk,.string tt,.int .i64 tn,.int .i64 ta] 40)) (fun h=>h)
  refine bodyPost_ret (v:=(⟨tk,tt,tn,ta⟩:Tk).val) (results_tok Tryz.results60 rfl hr) rfl ⟨rfl,?_⟩
  have hf:=HH.out.1.took hi HB1.out.1 ⟨tk,tt,tn,ta⟩ (.cells #[.int .i64 tk,.string tt,.int .i64 tn,.int .i64 ta] 40)
  exact ⟨hf.1,((((HH.out.2.below HB1.out.1).set 1 _ (by omega)).off (by omega) (lay4_turned _ w.heap.size ⟨tk,tt,tn,ta⟩)).below (Below.alloc0 _ _)),hf.2⟩
 | false=>
  have hkk:¬ (tokAt T i).kind=k:=by simpa [knd] using hb
  simp only [Bool.false_eq_true,if_false]
  clear h hg hlt hb
  generalize tokAt T i=t at ht hkk
  obtain ⟨tk,tt,tn,ta⟩:=t
  simp only [Tk.val,zeroTk] at ht hkk ⊢
  have hbe:(tk == k)=false:=by simpa using hkk
  go_enter Tryz.func60,Tryz.ntmps60
  go_wp2_with fail
  refine (ht _).mono ?_
  rintro x w1 ⟨rfl,hb1⟩
  have B1:=((Below.alloc0 w _).trans (hb1.mono (by simp))).up1 (.cells #[.int .i64 tk,.string tt,.int .i64 tn,.int .i64 ta] 40)
  have hs:=rf_syntax (HH.out.1.below B1) (HH.out.2.below B1)
  have HB:=Hid.mk7 (And.intro hb1 B1)
  have hl1:w.heap.size < w1.heap.size:=by have:=hb1.size; simp at this; omega
  clear ht hb1 B1
  go_wp2_with fail
  refine hs.mono ?_
  rintro x w2 ⟨rfl,b2,t2⟩
  have hne:¬ w.heap.size=q:=by omega
  have T2:=((Turned.ofBelow (S:=fun k=>k=q) HB.out.1).trans (Turned.alloc (fun _=>False) w1 _) (fun _ e=>e.elim)).trans t2 (fun _ e=>.inl e)
  obtain ⟨⟨c0,f0⟩,⟨c1,f1⟩,⟨c2,f2⟩,⟨c3,f3⟩⟩:=newTokT hgl T2
  have HF:=Hid.mk7 (And.intro (b2.off (fun e=>hne e.symm) (lay4_turned w2 w.heap.size zeroTk)) (((Turned.ofBelow (S:=fun k=>k=q) HB.out.2).trans t2 (fun _ e=>.inl e)).trans (lay4_turned w2 w.heap.size zeroTk) (fun _ e=>.inr (Nat.le_of_eq e.symm))))
  clear hs b2 t2 T2
  go_wp2
  have hr:=lay4_range _ w.heap.size zeroTk c0 c1 c2 c3
  exact bodyPost_ret (v:=zeroTk.val) (results_tok Tryz.results60 rfl hr) rfl ⟨rfl,HF.out⟩
end
section
variable {w:World} {q:Nat} {Tv:Value} {T:List Tk} {i:Nat} {Nv:Value} {N:List Nd}
def Kept (w:World) (q:Nat) (Tv:Value) (T:List Tk) (i:Nat) (Nv:Value) (N:List Nd) (n:Nd) (x:Ending) (w':World):Prop:=x=.returned (.int .i64 N.length)∧∃ Nv',PAt w' q Tv T i Nv' (N++[n])∧Stp q Nv Nv' w w'∧Gd w' q
theorem rf_node (h:PAt w q Tv T i Nv N) (hg:Gd w q) (hT:0 < T.length) (k at_:Int) (t:ByteArray) (kv:Value) (kids:List Int) (hk:KidOk w q Nv kv kids) (hN:N.length≤1073741824):Calls Tryz.prog 27 #[.pointer (some ⟨q,0,none⟩),.int .i64 k,.int .i64 at_,.string t,kv] w (Kept w q Tv T i Nv N ⟨k,t,⟨#[]⟩,0,kv,kids,at_⟩):=by
 have H:=Hid.mk7 h
 have HG:=Hid.mk7 hg
 have HK:=Hid.mk7 hk
 have hgl:=h.lt
 have hc2:=h.c2.1
 have hf2:=h.c2.2
 have hc3:=hg.c3.1
 have hng:=h.ng
 obtain ⟨aN,cN,hNv,_⟩:=h.own.sl.form
 have HO:=Hid.mk7 (fun o1=>h.own.turned (Turned.ofBelow (S:=fun _=>False) (Below.alloc0 w o1)) (fun _ _ e=>e))
 have HX:=Hid.mk7 (SlK.nd w ⟨k,t,⟨#[]⟩,0,kv,kids,at_⟩)
 have hone:Hid (∀ u∈(⟨k,t,⟨#[]⟩,0,kv,kids,at_⟩:Nd).cells,u.oneCell'=true):=Nd.cells_one _ (by obtain ⟨a,c,e⟩:=SlI.form (OwnK.sl hk.sl); show kv.oneCell'=true; rw [e]; rfl)
 have hfit:Hid ((N.length+1)*80≤140737488355328∧N.length+1≤4611686018427387903):=by show _∧_; omega
 have hcA:=Hid.mk7 (fun o1=>(h.below (Below.alloc0 w o1)).c2)
 have hlA:=Hid.mk7 (fun o1=>(h.below (Below.alloc0 w o1)).lt)
 subst hNv
 unfold Kept
 obtain ⟨aK,cK,hkv⟩:=SlI.form (OwnK.sl hk.sl)
 subst hkv
 simp only at HX ⊢
 clear h hk hg
 go_enter Tryz.func27,Tryz.ntmps27
 go_wp2_with (at_builtin; refine wpList_append_k (by rfl) (.tmp 19) (.tmp 25) (by rfl) Tryz.nodeTypes (by rfl) (by rfl) (HO.out _) HX.out hone.out hfit.out.1 hfit.out.2 ?_; intro v4 w4 ho4 T4 hb4; have c4:=T4.cell (p:=⟨q,2,none⟩) (hcA.out _).1 hng; have f4:=(T4.frozen (p:=⟨q,2,none⟩) (hlA.out _) hng).trans (hcA.out _).2; have HF:=Hid.mk7 (And.intro (H.out.added hT ⟨k,t,⟨#[]⟩,0,.slice aK kids.length cK,kids,at_⟩ HK.out (Below.alloc0 w _) ho4 T4 hb4 rfl) (((HG.out.below (Below.alloc0 w _)).turned T4 hng).set 2 v4 (by omega))); obtain ⟨a4,cap4,hv4,_,_⟩:=ho4.sl.form; subst hv4; clear ho4 T4 hb4 hc2 hf2 hc3)
 go_ret
 exact ⟨rfl,_,HF.out.1.1,HF.out.1.2,HF.out.2⟩
end
structure Rg (T:List Tk) (w wr:World) (g:Nat) (Tv Nv:Value) (N:List Nd) (s:Ps) (Nv1:Value) (M1:List Nd):Prop where
 ps:PS wr g Tv T Nv1 (N++M1) s
 off:∀ n∈M1,∀ k,blk n.kv k→w.heap.size≤k
 st:Stp g Nv Nv1 w wr
section
variable {T:List Tk} {w wr w2:World} {g:Nat} {Tv Nv Nv1 Nv2:Value} {N M1 M2:List Nd} {s t:Ps}
theorem Rg.refl (h:PS w g Tv T Nv N s):Rg T w w g Tv Nv N s Nv []:=⟨by simpa using h,fun n hn=>by (cases hn),⟨Turned.refl _ _,fun _ e=>.inl e⟩⟩
theorem Rg.below (h:Rg T w wr g Tv Nv N s Nv1 M1) (hb:Below wr.heap.size wr w2):Rg T w w2 g Tv Nv N s Nv1 M1:=⟨h.ps.below hb,h.off,h.st.trans (Stp.ofB hb)⟩
theorem Rg.size (h:Rg T w wr g Tv Nv N s Nv1 M1):w.heap.size≤wr.heap.size:=h.st.t.size
theorem Rg.more (h:Rg T w wr g Tv Nv N s Nv1 M1) (o:∀ n∈M2,∀ k,blk n.kv k→wr.heap.size≤k) (p:PS w2 g Tv T Nv2 (N++M1++M2) t) (S:Stp g Nv1 Nv2 wr w2):Rg T w w2 g Tv Nv N t Nv2 (M1++M2):=
 ⟨by simpa [List.append_assoc] using p,fun n hn k hk=>(List.mem_append.1 hn).elim (fun hn=>h.off n hn k hk) (fun hn=>Nat.le_trans h.size (o n hn k hk)),h.st.trans S⟩
theorem Rg.bad (h:Rg T w wr g Tv Nv N s Nv1 M1) (T2:Turned (fun k=>k=g∨blk Nv1 k) wr w2):Turned (fun k=>k=g∨blk Nv k) w w2:=h.st.t.trans T2 (fun k e=>e.elim (fun e=>.inl (.inl e)) (fun e=>(h.st.n k e).elim (fun e=>.inl (.inr e)) .inr))
theorem Rg.skip (h:Rg T w wr g Tv Nv N s Nv1 M1) (n:Nat) (hn:s.i+n≤T.length):Rg T w (wr.setCell ⟨g,1,none⟩ (.int .i64 ((s.i+n:Nat):Int))) g Tv Nv N ⟨s.i+n,s.N⟩ Nv1 M1:=by
 obtain ⟨h2,T2⟩:=h.ps.at_.next (s.i+n) hn rfl
 refine ⟨⟨h2,h.ps.n,h.ps.ok.next hn,?_⟩,h.off,h.st.trans (Stp.ofG T2)⟩
 have:=h.ps.cnt
 unfold Cnt at this ⊢
 simp only
 omega
theorem Rg.of (h:Rg T w wr g Tv Nv N t Nv1 M1) {a:Nat}:Rd T w g Tv Nv N (.ok (a,t)) (.returned (.int .i64 (a:Nat))) wr:=⟨rfl,Nv1,M1,h.off,h.ps,h.st⟩
theorem Rg.rd (h:Rg T w wr g Tv Nv N s Nv1 M1) {a:Nat} {x:Ending} (hr:Rd T wr g Tv Nv1 (N++M1) (.ok (a,t)) x w2):x=.returned (.int .i64 (a:Nat))∧∃ Nv2 M2,Rg T w w2 g Tv Nv N t Nv2 M2∧Stp g Nv1 Nv2 wr w2∧∃ M3,M2=M1++M3∧∀ n∈M3,∀ k,blk n.kv k→wr.heap.size≤k:=by
 obtain ⟨rfl,Nv2,M3,o,p,S⟩:=hr
 exact ⟨rfl,Nv2,M1++M3,h.more o p S,S,M3,rfl,o⟩
end
structure Kd (T:List Tk) (w wr:World) (g:Nat) (Tv Nv1:Value) (N:List Nd) (V:Value) (l:List Int):Prop where
 own:OwnI wr V l
 fv:∀ k,blk V k→w.heap.size≤k∧Free wr g Tv Nv1 N k
section
variable {T:List Tk} {w wr w2:World} {g:Nat} {Tv Nv Nv1 Nv2 V V2:Value} {N M1 M2:List Nd} {s t:Ps} {l:List Int}
theorem Kd.below (h:Kd T w wr g Tv Nv1 N V l) (hb:Below wr.heap.size wr w2):Kd T w w2 g Tv Nv1 N V l:=⟨OwnK.turned h.own (Turned.ofBelow (S:=fun _=>False) hb) (fun _ _ e=>e),fun k hk=>⟨(h.fv k hk).1,⟨(h.fv k hk).2.g,(h.fv k hk).2.t,(h.fv k hk).2.n,(h.fv k hk).2.k⟩⟩⟩
theorem Kd.set (h:Kd T w wr g Tv Nv1 N V l) (j:Nat) (v:Value):Kd T w (wr.setCell ⟨g,j,none⟩ v) g Tv Nv1 N V l:=⟨OwnK.turned h.own (Turned.set1 wr g j v) (fun k hk e=>(h.fv k hk).2.g e),fun k hk=>⟨(h.fv k hk).1,⟨(h.fv k hk).2.g,(h.fv k hk).2.t,(h.fv k hk).2.n,(h.fv k hk).2.k⟩⟩⟩
theorem Kd.step (h:Kd T w wr g Tv Nv1 N V l) (S:Stp g Nv1 Nv2 wr w2) (o:∀ n∈M2,∀ k,blk n.kv k→wr.heap.size≤k):Kd T w w2 g Tv Nv2 (N++M2) V l:=
 ⟨OwnK.turned h.own S.t (fun k hk e=>e.elim (h.fv k hk).2.g (h.fv k hk).2.n),fun k hk=>⟨(h.fv k hk).1,(h.fv k hk).2.step (OwnK.blk_lt h.own k hk) S o⟩⟩
theorem Kd.more (h:Kd T w wr g Tv Nv1 N V l) (hp:PAt wr g Tv T s.i Nv1 N) (hT:0 < T.length) (hw:w.heap.size≤wr.heap.size) {w3 w4:World} (hb:Below wr.heap.size wr w3) {q:Int} (ho:OwnK 1 w4 V2 (l.length+1) (ints l++ints [q])) (T4:Turned (blk V) w3 w4) (hv:∀ k,blk V2 k→blk V k∨k=w3.heap.size) :
  Kd T w w4 g Tv Nv1 N V2 (l++[q])∧PAt w4 g Tv T s.i Nv1 N∧Turned (blk V) wr w4:=by
 have hz:=hb.size
 have TT:Turned (blk V) wr w4:=(Turned.ofBelow (S:=blk V) hb).trans T4 (fun _ e=>.inl e)
 refine ⟨⟨OwnI.snoc ho,fun k hk=>?_⟩,hp.offS (w0:=wr) (fun k e=>(h.fv k e).2) TT,TT⟩
 rcases hv k hk with e | e
 ·exact ⟨(h.fv k e).1,⟨(h.fv k e).2.g,(h.fv k e).2.t,(h.fv k e).2.n,(h.fv k e).2.k⟩⟩
 ·have f:=hp.free hT k (by omega)
  exact ⟨by omega,⟨f.g,f.t,f.n,f.k⟩⟩
theorem Rg.mine (h:Rg T w wr g Tv Nv N s Nv1 M1) {k:Nat→Prop} (hk:∀ q,k q→w.heap.size≤q) (p:PAt w2 g Tv T s.i Nv1 (N++M1)) (T2:Turned k wr w2):Rg T w w2 g Tv Nv N s Nv1 M1:=
 ⟨⟨p,h.ps.n,h.ps.ok,h.ps.cnt⟩,h.off,⟨h.st.t.trans T2 (fun q e=>.inr (hk q e)),h.st.n⟩⟩
end
def posOf (w:World) (g:Nat):Nat:=match w.cell? ⟨g,1,none⟩ with
 | some (.int _ z)=>z.toNat
 | _=>0
theorem PAt.pos {w:World} {g:Nat} {Tv:Value} {T:List Tk} {i:Nat} {Nv:Value} {N:List Nd} (h:PAt w g Tv T i Nv N):posOf w g=i:=by simp [posOf,h.c1.1]
def Rf (T:List Tk) (w:World) (q:Nat) (Tv Nv:Value) (N:List Nd) (r:Except Nat (Nat × Ps)) (x:Ending) (w':World):Prop:=
 match r with
 | .error e=>(∃ z:Int,x=.returned (.int .i64 z))∧Bd w' q e∧Turned (fun k=>k=q∨blk Nv k) w w'
 | .ok (a,t)=>x=.returned (.int .i64 (a:Nat))∧∃ Nv' M',(∀ n∈M',∀ k,blk n.kv k→w.heap.size≤k)∧PS w' q Tv T Nv' (N++M') t∧Stp q Nv Nv' w w'∧Gd w' q
def RfL (T:List Tk) (w:World) (q:Nat) (Tv Nv:Value) (N:List Nd) (r:Except Nat (List Int × Ps)) (x:Ending) (w':World):Prop:=
 match r with
 | .error e=>(∃ V,x=.returned V∧∃ l:List Int,OwnI w' V l∧l.length≤T.length+1∧∀ k,blk V k→w.heap.size≤k)∧Bd w' q e∧Turned (fun k=>k=q∨blk Nv k) w w'
 | .ok (l,t)=>∃ V,x=.returned V∧∃ Nv' M',(∀ n∈M',∀ k,blk n.kv k→w.heap.size≤k)∧PS w' q Tv T Nv' (N++M') t∧Stp q Nv Nv' w w'∧Gd w' q∧OwnI w' V l∧∀ k,blk V k→w.heap.size≤k∧Free w' q Tv Nv' (N++M') k
def RunsF (T:List Tk) (F:FuncId) (more:List Value) (m:PM Nat) (i0:Nat):Prop:=∀ s,i0≤s.i→∀ w q Tv Nv N,PS w q Tv T Nv N s→Gd w q→Calls Tryz.prog F (Value.pointer (some ⟨q,0,none⟩) :: more).toArray w (Rf T w q Tv Nv N (m s))
section
variable {T:List Tk} {w wr w2:World} {q:Nat} {Tv Nv Nv1 Nv2:Value} {N M1 M2:List Nd} {s t:Ps}
theorem Rg.rf (h:Rg T w wr q Tv Nv N s Nv1 M1) {a:Nat} {x:Ending} (hr:Rf T wr q Tv Nv1 (N++M1) (.ok (a,t)) x w2):x=.returned (.int .i64 (a:Nat))∧∃ Nv2 M2,Rg T w w2 q Tv Nv N t Nv2 M2∧Gd w2 q∧Stp q Nv1 Nv2 wr w2∧∃ M3,M2=M1++M3∧∀ n∈M3,∀ k,blk n.kv k→wr.heap.size≤k:=by
 obtain ⟨rfl,Nv2,M3,o,p,S,g⟩:=hr
 exact ⟨rfl,Nv2,M1++M3,h.more o p S,g,S,M3,rfl,o⟩
theorem Rg.ofF (h:Rg T w wr q Tv Nv N t Nv1 M1) (g:Gd wr q) {a:Nat}:Rf T w q Tv Nv N (.ok (a,t)) (.returned (.int .i64 (a:Nat))) wr:=⟨rfl,Nv1,M1,h.off,h.ps,h.st,g⟩
theorem Rg.one (h:Rg T w wr q Tv Nv N s Nv1 M1) (hi:s.i < T.length) (p:PAt w2 q Tv T (s.i+1) Nv1 (N++M1)) (T2:Turned (fun k=>k=q) wr w2):Rg T w w2 q Tv Nv N ⟨s.i+1,s.N⟩ Nv1 M1:=by
 refine ⟨⟨p,h.ps.n,h.ps.ok.next hi,?_⟩,h.off,h.st.trans (Stp.ofG T2)⟩
 have:=h.ps.cnt
 unfold Cnt at this ⊢
 simp only
 omega
end
def opIs (L:List ByteArray) (t:Tk):Bool:=(decide (t.kind=5) || decide (t.kind=4)) && L.any fun x=>decide (t.text=x)
theorem opIs_of {L:List ByteArray} {t:Tk} {j:Nat} (hj:j < L.length) (h:tkIs L[j] t=true):opIs L t=true∧t.text=L[j]:=by
 simp only [tkIs,Bool.and_eq_true,decide_eq_true_eq] at h
 refine ⟨?_,h.2⟩
 simp only [opIs,Bool.and_eq_true,List.any_eq_true,decide_eq_true_eq]
 exact ⟨h.1,L[j],List.getElem_mem hj,h.2⟩
theorem opIs_none {L:List ByteArray} {t:Tk} (h:∀ k (hk:k < L.length),tkIs L[k] t=false):opIs L t=false:=by
 cases e:opIs L t with
 | false=>rfl
 | true=>
  simp only [opIs,Bool.and_eq_true,List.any_eq_true,decide_eq_true_eq] at e
  obtain ⟨e1,x,hx,e2⟩:=e
  obtain ⟨k,hk,hh⟩:=List.mem_iff_getElem.1 hx
  have h1:=h k hk
  rw [hh] at h1
  simp [tkIs,e1,e2] at h1
section
variable {w:World} {q:Nat} {Tv:Value} {T:List Tk} {i:Nat} {Nv:Value} {N:List Nd}
theorem rf_operator (h:PAt w q Tv T i Nv N) (hg:Gd w q) {b cap:Nat} {L:List ByteArray} (hL:StrsAt w b L) (hbq:b≠q) (hn:L.length≤100):Calls Tryz.prog 181 #[.pointer (some ⟨q,0,none⟩),.slice (some ⟨b,0,none⟩) L.length cap] w fun x w'=>x=.returned (.string (if opIs L (tokAt T i) then (tokAt T i).text else ⟨#[]⟩))∧TakeTold w q Tv T i Nv N (opIs L (tokAt T i)) w':=by
 have HH:=Hid.mk7 (And.intro h (And.intro hg hL))
 clear h hg hL
 obtain ⟨bb,hbb⟩:∃ bb,opIs L (tokAt T i)=bb:=⟨_,rfl⟩
 rw [hbb]
 obtain ⟨rt,hrt⟩:∃ rt,(if bb then (tokAt T i).text else ⟨#[]⟩)=rt:=⟨_,rfl⟩
 rw [hrt]
 have HR:=Hid.mk7 (And.intro hbb hrt)
 clear hbb hrt
 go_enter Tryz.func181,Tryz.ntmps181
 go_wp2_with fail
 go_loopw [5] (fun ii wr=>∃ j:Nat,ii=.int .i64 (j:Int)∧j≤L.length∧(∀ k (hk:k < L.length),k < j→tkIs L[k] (tokAt T i)=false)∧Turned (fun k=>k=q) w wr∧PAt wr q Tv T i Nv N∧Gd wr q) (fun ii _=>L.length - (intOf ii).toNat)
 case atStart=>exact ⟨0,rfl,by omega,fun _ _ h=>absurd h (Nat.not_lt_zero _),Turned.refl _ _,HH.out.1,HH.out.2.1⟩
 case round=>
  obtain ⟨j,rfl,hj,hno,hb,hp,hg⟩:=hrel
  by_cases hlt:j < L.length
  ·have hlti:(j:Int) < (L.length:Int):=by omega
   have hst:StrsAt wr b L:=fun k hk=>hb.cell (HH.out.2.2 k hk) hbq
   have k0:=hst j hlt
   have hl:=World.block_lt_of_cell? wr _ k0
   have hc:=rf_take hp hg L[j]
   have HB:=Hid.mk7 (And.intro hb (And.intro hst hno))
   cases hcs:tkIs L[j] (tokAt T i) with
   | true=>
    obtain ⟨o1,o2⟩:=opIs_of hlt hcs
    rw [hcs] at hc
    obtain ⟨r1,r2⟩:=HR.out
    rw [o1] at r1
    subst r1
    rw [if_pos rfl,o2] at r2
    subst r2
    clear hb hst hno hp hg o1 o2 hcs
    go_wp2_with fail
    refine hc.mono ?_
    rintro x w1 ⟨rfl,ht1⟩
    have k1:=ht1.2.2.cell (p:=⟨b,j,none⟩) k0 hbq
    have HT:=Hid.mk7 (And.intro ht1.1 (And.intro ht1.2.1 (HB.out.1.trans ht1.2.2 (fun _ e=>.inl e))))
    obtain ⟨t,htt⟩:∃ t,L[j]=t:=⟨_,rfl⟩
    have HE:=Hid.mk7 htt
    rw [htt] at k1 ⊢
    clear hc ht1 k0 htt
    go_wp2
    go_ret
    exact ⟨by rw [HE.out]; rfl,HT.out⟩
   | false=>
    rw [hcs] at hc
    have HN:=Hid.mk7 (show ∀ k (hk:k < L.length),k < j+1→tkIs L[k] (tokAt T i)=false from fun k hk h=>if e:k < j then hno k hk e else (by
     obtain rfl:k=j:=(by omega)
     exact hcs))
    clear hb hst hno hp hg hcs
    generalize L[j]=t at k0 hc
    go_wp2_with fail
    refine hc.mono ?_
    rintro x w1 ⟨rfl,ht1⟩
    have HT:=Hid.mk7 ht1
    clear hc ht1 k0
    go_wp2
    go_roundw
    case rel=>exact ⟨j+1,by go_num,by omega,HN.out,HB.out.1.trans HT.out.2.2 (fun _ e=>.inl e),HT.out.1,HT.out.2.1⟩
    case measure=>simp [intOf]; omega
  ·have hge:¬ (j:Int) < (L.length:Int):=by omega
   have ho:=opIs_none (L:=L) (t:=tokAt T i) (fun k hk=>hno k hk (by omega))
   obtain ⟨r1,r2⟩:=HR.out
   rw [ho] at r1
   subst r1
   rw [if_neg (by simp)] at r2
   subst r2
   have HB:=Hid.mk7 (show TakeTold w q Tv T i Nv N false wr from ⟨hp,hg,hb⟩)
   clear hb hno hp hg ho
   go_wp2
   go_ret
   exact ⟨rfl,HB.out⟩
end
def Mono {α:Type} (m:PM α):Prop:=∀ s a t,m s=.ok (a,t)→s.i≤t.i
theorem Mono.ret {α:Type} (a:α):Mono (PM.ret a):=fun s b t h=>by
 simp only [PM.ret,Except.ok.injEq,Prod.mk.injEq] at h
 rw [← h.2]
 exact Nat.le_refl _
theorem Mono.bind {α β:Type} {m:PM α} {k:α→PM β} (h:Mono m) (hk:∀ a,Mono (k a)):Mono (PM.bind m k):=fun s b t e=>by
 unfold PM.bind at e
 cases h1:m s with
 | error x=>simp [h1] at e
 | ok au=>
  obtain ⟨a,u⟩:=au
  rw [h1] at e
  exact Nat.le_trans (h s a u h1) (hk a u b t e)
theorem Mono.tok (T:List Tk):Mono (pTok T):=fun s b t h=>by
 simp only [pTok,Except.ok.injEq,Prod.mk.injEq] at h
 rw [← h.2]
 exact Nat.le_refl _
theorem Mono.need (T:List Tk) (b:Nat→Bool):Mono (pNeed T b):=fun s a t h=>by
 unfold pNeed at h
 split at h
 ·simp only [Except.ok.injEq,Prod.mk.injEq] at h
  rw [← h.2]
  simp
 ·cases h
theorem Mono.skip (k:Nat):Mono (pSkip k):=fun s b t h=>by
 simp only [pSkip,Except.ok.injEq,Prod.mk.injEq] at h
 rw [← h.2]
 simp
theorem Mono.add (x:Sh):Mono (pAdd x):=fun s b t h=>by
 simp only [pAdd,Except.ok.injEq,Prod.mk.injEq] at h
 rw [← h.2]
 simp
theorem Mono.iff {α:Type} {b:Nat→Bool} {m k:PM α} (h1:Mono m) (h2:Mono k):Mono (pIf b m k):=fun s a t h=>by
 unfold pIf at h
 split at h
 ·exact h1 s a t h
 ·exact h2 s a t h
theorem Mono.ite {α:Type} {c:Prop} [Decidable c] {m k:PM α} (h1:Mono m) (h2:Mono k):Mono (if c then m else k):=by
 split
 ·exact h1
 ·exact h2
section
variable {T:List Tk}
theorem Mono.rowL (x:ByteArray) {ph:PM Nat} (h:Mono ph):∀ f acc,Mono (rowL T x ph f acc)
 | 0,acc=>Mono.ret acc
 | f+1,acc=>Mono.iff (Mono.bind (Mono.skip 1) fun _=>Mono.bind h fun _=>Mono.rowL x h f _) (Mono.ret acc)
theorem Mono.row (x:ByteArray) {ph:PM Nat} (h:Mono ph):Mono (row T x ph):=Mono.bind h fun _=>Mono.rowL x h _ _
theorem Mono.enclosed (l r:ByteArray) {ph:PM Nat} (h:Mono ph):Mono (enclosed T l r ph):=
 Mono.bind (Mono.need T _) fun _=>Mono.bind (Mono.iff (Mono.ret _) (Mono.row _ h)) fun _=>Mono.bind (Mono.need T _) fun _=>Mono.ret _
variable {rec:Ph→PM Nat} (R:∀ ph,Mono (rec ph))
include R
theorem Mono.exprL (least:Int):∀ f most l,Mono (exprL T rec least f most l)
 | 0,_,l=>Mono.ret l
 | f+1,_,l=>Mono.bind (Mono.tok T) fun _=>Mono.ite (Mono.ret l) (Mono.bind (Mono.skip 1) fun _=>Mono.bind (R _) fun _=>Mono.bind (Mono.add _) fun k=>Mono.exprL least f _ k)
theorem Mono.rest (n:Sh) (pat:Nat):Mono (rest T rec n pat):=
 Mono.bind (Mono.iff (Mono.bind (Mono.skip 1) fun _=>Mono.bind (R _) fun _=>Mono.ret _) (Mono.ret _)) fun _=>Mono.bind (Mono.need T _) fun _=>Mono.bind (R _) fun _=>Mono.add _
theorem Mono.named (t:Tk):Mono (named T rec t):=
 Mono.bind (Mono.skip 1) fun _=>Mono.bind (Mono.iff (Mono.bind (Mono.skip 1) fun _=>Mono.bind (Mono.need T _) fun _=>Mono.ret _) (Mono.ret _)) fun _=>
  Mono.bind (Mono.iff (Mono.bind (Mono.enclosed _ _ (R _)) fun _=>Mono.ret _) (Mono.ret _)) fun _=>Mono.add _
theorem Mono.tail:Mono (tail T rec):=
 Mono.iff (Mono.bind (Mono.skip 1) fun _=>Mono.bind (R _) fun _=>Mono.bind (Mono.need T _) fun _=>Mono.ret _) (Mono.bind (Mono.need T _) fun _=>Mono.add _)
theorem Mono.list:Mono (list T rec):=
 Mono.bind (Mono.need T _) fun _=>Mono.iff (Mono.bind (Mono.skip 1) fun _=>Mono.add _) (Mono.bind (Mono.row _ (R _)) fun _=>Mono.bind (Mono.tail R) fun _=>Mono.add _)
theorem Mono.bracketed (t:Tk):Mono (bracketed T rec t):=
 Mono.ite (Mono.bind (Mono.enclosed _ _ (R _)) fun _=>Mono.add _) (Mono.ite (Mono.list R) (Mono.bind (Mono.need T _) fun _=>Mono.bind (R _) fun _=>Mono.bind (Mono.need T _) fun _=>Mono.ret _))
theorem Mono.after:Mono (after T rec):=
 Mono.bind (Mono.need T _) fun _=>Mono.bind (R _) fun _=>Mono.bind (Mono.need T _) fun _=>Mono.bind (R _) fun _=>Mono.add _
theorem Mono.choices:Mono (choices T rec):=
 Mono.bind (Mono.iff (Mono.ret _) (Mono.row _ (R _))) fun _=>Mono.iff (Mono.bind (Mono.after R) fun _=>Mono.ret _) (Mono.ret _)
theorem Mono.blockKids (t:Tk):Mono (blockKids T rec t):=
 Mono.ite (Mono.bind (R _) fun _=>Mono.ret _) (Mono.ite (Mono.bind (R _) fun _=>Mono.bind (Mono.need T _) fun _=>Mono.bind (Mono.row _ (R _)) fun _=>Mono.ret _)
  (Mono.ite (Mono.bind (Mono.choices R) fun _=>Mono.ret _) (Mono.bind (R _) fun _=>Mono.bind (Mono.need T _) fun _=>Mono.bind (Mono.row _ (R _)) fun _=>Mono.ret _)))
theorem Mono.block (t:Tk):Mono (block T rec t):=
 Mono.bind (Mono.need T _) fun _=>Mono.bind (Mono.blockKids R t) fun _=>Mono.bind (Mono.need T _) fun _=>Mono.add _
theorem Mono.single (t:Tk):Mono (single T rec t):=
 Mono.ite (Mono.bind (Mono.skip 1) fun _=>Mono.add _) (Mono.ite (Mono.bind (Mono.skip 1) fun _=>Mono.add _) (Mono.ite (Mono.named R t) (Mono.ite (Mono.bracketed R t) (Mono.block R t))))
theorem Mono.exports:Mono (exports T rec):=
 Mono.bind (Mono.need T _) fun _=>Mono.bind (Mono.need T _) fun _=>Mono.bind (Mono.need T _) fun _=>Mono.bind (Mono.enclosed _ _ (R _)) fun _=>Mono.bind (Mono.need T _) fun _=>Mono.bind (Mono.need T _) fun _=>Mono.ret _
theorem Mono.formsL:∀ f acc,Mono (formsL T rec f acc)
 | 0,acc=>Mono.ret acc
 | f+1,acc=>Mono.iff (Mono.bind (Mono.iff (Mono.exports R) (Mono.bind (R _) fun _=>Mono.ret _)) fun _=>Mono.formsL f _) (Mono.ret acc)
theorem Mono.phBody (ph:Ph):Mono (Go.Proofs.YtlciaafincgdeaaGreatDoor.phBody T rec ph):=by
 cases ph with
 | «module»=>
  simp only [Go.Proofs.YtlciaafincgdeaaGreatDoor.phBody]
  exact Mono.bind (Mono.need T _) fun _=>Mono.bind (Mono.need T _) fun _=>Mono.bind (Mono.need T _) fun _=>Mono.bind (Mono.need T _) fun _=>Mono.bind (Mono.need T _) fun _=>Mono.bind (Mono.need T _) fun _=>Mono.bind (Mono.formsL R _ _) fun _=>Mono.add _
 | «export»=>
  simp only [Go.Proofs.YtlciaafincgdeaaGreatDoor.phBody]
  exact Mono.bind (Mono.need T _) fun _=>Mono.bind (Mono.need T _) fun _=>Mono.bind (Mono.need T _) fun _=>Mono.add _
 | function=>
  simp only [Go.Proofs.YtlciaafincgdeaaGreatDoor.phBody]
  exact Mono.bind (Mono.tok T) fun _=>Mono.bind (Mono.row _ (R _)) fun ks=>fun s a t e=>Mono.bind (m:=pNeed T (knd T 6)) (Mono.need T _) (fun _=>Mono.add ⟨26,nameOf s.N (ks.headD 0),⟨#[]⟩,argsOf s.N (ks.headD 0),ks,_⟩) s a t e
 | fclause=>
  simp only [Go.Proofs.YtlciaafincgdeaaGreatDoor.phBody]
  exact Mono.bind (Mono.need T _) fun _=>Mono.bind (Mono.tok T) fun _=>Mono.bind (Mono.enclosed _ _ (R _)) fun _=>Mono.bind (Mono.add _) fun _=>Mono.rest R _ _
 | clause=>
  simp only [Go.Proofs.YtlciaafincgdeaaGreatDoor.phBody]
  exact Mono.bind (Mono.tok T) fun _=>Mono.bind (R _) fun _=>Mono.rest R _ _
 | cclause=>
  simp only [Go.Proofs.YtlciaafincgdeaaGreatDoor.phBody]
  exact Mono.bind (Mono.tok T) fun _=>Mono.bind (Mono.iff (Mono.bind (Mono.skip 2) fun _=>Mono.ret _) (Mono.ret _)) fun _=>Mono.bind (R _) fun _=>Mono.rest R _ _
 | conj=>
  simp only [Go.Proofs.YtlciaafincgdeaaGreatDoor.phBody]
  exact Mono.bind (Mono.tok T) fun _=>Mono.bind (Mono.row _ (R _)) fun _=>Mono.add _
 | guard=>
  simp only [Go.Proofs.YtlciaafincgdeaaGreatDoor.phBody]
  exact Mono.bind (Mono.tok T) fun _=>Mono.bind (Mono.row _ (R _)) fun _=>Mono.add _
 | body=>
  simp only [Go.Proofs.YtlciaafincgdeaaGreatDoor.phBody]
  exact Mono.bind (Mono.tok T) fun _=>Mono.bind (Mono.row _ (R _)) fun _=>Mono.add _
 | operand=>
  simp only [Go.Proofs.YtlciaafincgdeaaGreatDoor.phBody]
  exact Mono.bind (Mono.tok T) fun _=>Mono.ite (Mono.bind (Mono.skip 1) fun _=>Mono.bind (R _) fun _=>Mono.add _) (Mono.single R _)
 | expr least=>
  simp only [Go.Proofs.YtlciaafincgdeaaGreatDoor.phBody]
  exact Mono.bind (R _) fun l=>Mono.exprL R least _ _ l
end
theorem runP_mono (T:List Tk):∀ f ph,Mono (runP T f ph)
 | 0,_=>fun _ _ _ h=>by cases h
 | f+1,ph=>Mono.phBody (runP_mono T f) ph
theorem PM.bind_assoc {α β γ:Type} (m:PM α) (k:α→PM β) (l:β→PM γ):PM.bind (PM.bind m k) l=PM.bind m fun a=>PM.bind (k a) l:=by
 funext s
 simp only [PM.bind]
 cases m s <;> rfl
theorem lev_end {T:List Tk} {i:Nat} (h:T.length≤i):lev (tokAt T i)=0:=by
 have:tokAt T i=zeroTk:=by simp [tokAt,List.getElem?_eq_none h]
 rw [this]
 rfl
section
variable {T:List Tk} {rec:Ph→PM Nat} (R:∀ ph,Mono (rec ph))
def exprK (rec:Ph→PM Nat) (t:Tk) (l:Nat) (k:Nat→PM Nat):PM Nat:=
 PM.bind (pSkip 1) fun _=>PM.bind (rec (.expr (sidesR (lev t)))) fun r=>PM.bind (pAdd (opSh t [(l:Int),(r:Int)])) k
theorem exprL_succ (least:Int) (f:Nat) (most:Int) (l:Nat) (s:Ps):exprL T rec least (f+1) most l s=if lev (tokAt T s.i) < least∨lev (tokAt T s.i) > most then .ok (l,s) else exprK rec (tokAt T s.i) l (fun k=>exprL T rec least f (sidesB (lev (tokAt T s.i))) k) s:=by
 simp only [exprL,PM.bind,pTok,exprK]
 split <;> rfl
include R in
theorem exprK_congr {t:Tk} {l:Nat} {k k':Nat→PM Nat} {s:Ps} (h:∀ a u,s.i < u.i→k a u=k' a u):exprK rec t l k s=exprK rec t l k' s:=by
 simp only [exprK,PM.bind,pSkip]
 cases e:rec (.expr (sidesR (lev t))) ⟨s.i+1,s.N⟩ with
 | error x=>rfl
 | ok ru=>
  obtain ⟨r,u⟩:=ru
  have:=R _ _ _ _ e
  simp only [pAdd]
  exact h _ _ (by simp at this ⊢; omega)
include R in
theorem exprL_fuel (least:Int) (h1:1≤least):∀ (n f f':Nat) (most:Int) (l:Nat) (s:Ps),T.length - s.i≤n→n < f→n < f'→exprL T rec least f most l s=exprL T rec least f' most l s
 | n,f,f',most,l,s,hn,hf,hf'=>by
  obtain ⟨f,rfl⟩:∃ g,f=g+1:=⟨f - 1,by omega⟩
  obtain ⟨f',rfl⟩:∃ g,f'=g+1:=⟨f' - 1,by omega⟩
  rw [exprL_succ,exprL_succ]
  split
  ·rfl
  ·rename_i hc
   have hi:s.i < T.length:=by
    apply Classical.byContradiction
    intro h
    rw [lev_end (by omega)] at hc
    omega
   refine exprK_congr R fun a u hu=>?_
   exact exprL_fuel least h1 (n - 1) f f' _ a u (by omega) (by omega) (by omega)
include R in
theorem exprL_level (k:Int) (h1:1≤k):∀ (n f f1 f2:Nat) (most:Int) (l:Nat) (s:Ps),k≤most→T.length - s.i≤n→n < f→n < f1→n < f2 →
  exprL T rec k f most l s=PM.bind (exprL T rec (k+1) f1 most l) (exprL T rec k f2 k) s
 | n,f,f1,f2,most,l,s,hm,hn,hf,hf1,hf2=>by
  obtain ⟨f,rfl⟩:∃ g,f=g+1:=⟨f - 1,by omega⟩
  obtain ⟨f1,rfl⟩:∃ g,f1=g+1:=⟨f1 - 1,by omega⟩
  obtain ⟨g2,hg2⟩:∃ g,f2=g+1:=⟨f2 - 1,by omega⟩
  rw [exprL_succ]
  unfold PM.bind
  rw [exprL_succ]
  have hi:1≤lev (tokAt T s.i)→s.i < T.length:=fun h=>by
   apply Classical.byContradiction
   intro h2
   rw [lev_end (by omega)] at h
   omega
  by_cases hc:lev (tokAt T s.i) < k∨lev (tokAt T s.i) > most
  ·rw [if_pos hc,if_pos (by omega)]
   simp only
   rw [hg2,exprL_succ,if_pos (by omega)]
  ·rw [if_neg hc]
   by_cases he:lev (tokAt T s.i)=k
   ·rw [if_pos (by omega)]
    simp only
    rw [hg2,exprL_succ,if_neg (by omega)]
    have:=hi (by omega)
    exact exprK_congr R fun a u hu=>exprL_fuel R k h1 (n - 1) f g2 _ a u (by omega) (by omega) (by omega)
   ·rw [if_neg (by omega)]
    have:=hi (by omega)
    have hb:k≤sidesB (lev (tokAt T s.i)):=by unfold sidesB; split <;> omega
    have e1:exprK rec (tokAt T s.i) l (fun a=>exprL T rec k f (sidesB (lev (tokAt T s.i))) a) s=exprK rec (tokAt T s.i) l (fun a=>PM.bind (exprL T rec (k+1) f1 (sidesB (lev (tokAt T s.i))) a) (exprL T rec k f2 k)) s:=
     exprK_congr R fun a u hu=>exprL_level k h1 (n - 1) f f1 f2 _ a u hb (by omega) (by omega) (by omega) (by omega)
    rw [e1]
    simp only [exprK,PM.bind]
    cases pSkip 1 s with
    | error x=>rfl
    | ok au=>
     simp only
     cases rec (.expr (sidesR (lev (tokAt T s.i)))) au.2 with
     | error x=>rfl
     | ok ru=>rfl
end
theorem expr_level (T:List Tk) (f:Nat) (k:Int) (h1:1≤k) (h7:k≤7) (s:Ps):phBody T (runP T f) (.expr k) s=PM.bind (phBody T (runP T f) (.expr (k+1))) (exprL T (runP T f) k (T.length+1) k) s:=by
 simp only [phBody]
 rw [PM.bind_assoc]
 unfold PM.bind
 cases runP T f .operand s with
 | error x=>rfl
 | ok lu=>exact exprL_level (runP_mono T f) k h1 T.length _ _ _ 7 lu.1 lu.2 h7 (by omega) (by omega) (by omega) (by omega)
theorem lev_le (t:Tk):lev t≤7:=by
 unfold lev levS levW
 repeat' split
 all_goals omega
theorem expr_eight (T:List Tk) (f:Nat) (s:Ps):phBody T (runP T f) (.expr 8) s=runP T f .operand s:=by
 simp only [phBody,PM.bind]
 cases runP T f .operand s with
 | error x=>rfl
 | ok lu=>
  show exprL T (runP T f) 8 (T.length+1) 7 lu.1 lu.2=_
  rw [exprL_succ,if_pos (by have:=lev_le (tokAt T lu.2.i); omega)]
end Go.Proofs.YtlciaafincgdeaaGreatDoor
