/-
  Slices of elements of k cells in memory: what one reads as (SlK), that one may be appended to in place (OwnK); append of two such slices, for every program.
  Layers 1 and 10 (atom, lex): the program's questions on bytes; how far a run of bytes goes.
  Layers 1 and 10 (atom, lex): the program's words and plain atoms.
  Layer 10 (lex): the program's numbers, variables, dots.
  Layer 10 (lex): the program's signs.
-/
import Derived.Test.YtlciaafincgdeaaGreatDoorBytes
import Derived.Test.YtlciaafincgdeaaGreatDoorChecked
import Derived.Deep.RegionHeld3
import Derived.Deep.RegionLaw
import Derived.Laws.BytesArg
import Derived.WalkSpells
import Derived.RegionTactic
import Derived.Laws.Closers25
import Derived.Deep.QuietTactic
import Derived.BigQuiet
import Derived.Test.YtlciaafincgdeaaGreatDoorShelf
import Derived.Lib.SmallJoins
import Derived.Deep.MidRow
namespace Go.Proofs.YtlciaafincgdeaaGreatDoor
open Go.RowKit
set_option maxHeartbeats 1600000
set_option maxRecDepth 100000
def SlK (k:Nat) (w:World) (v:Value) (n:Nat) (cs:List Value):Prop:=
 cs.length=n*k∧((v=.slice none 0 0∧n=0)∨∃ g off cap,v=.slice (some ⟨g,off,none⟩) n cap∧n≤cap∧cap≤maxLen∧∀ j (h:j < cs.length),w.cell? ⟨g,off+j,none⟩=some cs[j])
def OwnK (k:Nat) (w:World) (v:Value) (n:Nat) (cs:List Value):Prop:=
 cs.length=n*k∧((v=.slice none 0 0∧n=0)∨∃ g off cap,v=.slice (some ⟨g,off,none⟩) n cap∧n≤cap∧cap≤maxLen∧g < w.heap.size∧(∀ j (h:j < cs.length),w.cell? ⟨g,off+j,none⟩=some cs[j]) ∧
  (∀ j,j < cap*k→(w.cell? ⟨g,off+j,none⟩).isSome=true∧w.frozen? ⟨g,off+j,none⟩=false))
theorem OwnK.sl {k:Nat} {w:World} {v:Value} {n:Nat} {cs:List Value} (h:OwnK k w v n cs):SlK k w v n cs:=by
 obtain ⟨h0,h | ⟨g,off,cap,h1,h2,h3,_,h4,_⟩⟩:=h
 ·exact ⟨h0,.inl h⟩
 ·exact ⟨h0,.inr ⟨g,off,cap,h1,h2,h3,h4⟩⟩
theorem SlK.turned {k:Nat} {S:Nat→Prop} {w w':World} {v:Value} {n:Nat} {cs:List Value} (h:SlK k w v n cs) (ht:Turned S w w') (hs:∀ b,blk v b→¬ S b):SlK k w' v n cs:=by
 obtain ⟨h0,h | ⟨g,off,cap,rfl,h2,h3,h4⟩⟩:=h
 ·exact ⟨h0,.inl h⟩
 ·exact ⟨h0,.inr ⟨g,off,cap,rfl,h2,h3,fun j hj=>ht.cell (h4 j hj) (hs g rfl)⟩⟩
theorem OwnK.turned {k:Nat} {S:Nat→Prop} {w w':World} {v:Value} {n:Nat} {cs:List Value} (h:OwnK k w v n cs) (ht:Turned S w w') (hs:∀ b,blk v b→¬ S b):OwnK k w' v n cs:=by
 obtain ⟨h0,h | ⟨g,off,cap,rfl,h2,h3,hg,h4,h5⟩⟩:=h
 ·exact ⟨h0,.inl h⟩
 ·refine ⟨h0,.inr ⟨g,off,cap,rfl,h2,h3,Nat.lt_of_lt_of_le hg ht.size,fun j hj=>ht.cell (h4 j hj) (hs g rfl),fun j hj=>?_⟩⟩
  obtain ⟨u,hu⟩:=Option.isSome_iff_exists.1 (h5 j hj).1
  exact ⟨by rw [ht.cell hu (hs g rfl)]; rfl,by rw [ht.frozen (p:=⟨g,off+j,none⟩) hg (hs g rfl)]; exact (h5 j hj).2⟩
theorem OwnK.blk_lt {k:Nat} {w:World} {v:Value} {n:Nat} {cs:List Value} (h:OwnK k w v n cs):∀ b,blk v b→b < w.heap.size:=by
 obtain ⟨_,⟨rfl,_⟩ | ⟨g,off,cap,rfl,_,_,hg,_⟩⟩:=h
 ·intro b hb; exact hb.elim
 ·intro b hb; exact (show g=b from hb) ▸ hg
theorem SlK.form {k:Nat} {w:World} {v:Value} {n:Nat} {cs:List Value} (h:SlK k w v n cs):∃ a cap,v=.slice a n cap∧n≤cap∧cap≤maxLen:=by
 obtain ⟨_,⟨rfl,rfl⟩ | ⟨g,off,cap,rfl,h2,h3,_⟩⟩:=h
 ·exact ⟨none,0,rfl,Nat.le_refl _,Nat.zero_le _⟩
 ·exact ⟨_,cap,rfl,h2,h3⟩
theorem SlK.nil (k:Nat) (w:World):SlK k w (.slice none 0 0) 0 []:=⟨by simp,.inl ⟨rfl,rfl⟩⟩
theorem OwnK.nil (k:Nat) (w:World):OwnK k w (.slice none 0 0) 0 []:=⟨by simp,.inl ⟨rfl,rfl⟩⟩
theorem SlK.at {k:Nat} {w:World} {v:Value} {n:Nat} {cs:List Value} (h:SlK k w v n cs) (i:Nat) (hi:i < n):∃ g off cap,v=.slice (some ⟨g,off,none⟩) n cap∧n≤cap∧cap≤maxLen∧∀ j,j < k→w.cell? ⟨g,off+i*k+j,none⟩=cs[i*k+j]?∧(cs[i*k+j]?).isSome=true:=by
 obtain ⟨h0,⟨rfl,rfl⟩ | ⟨g,off,cap,rfl,h2,h3,h4⟩⟩:=h
 ·omega
 ·refine ⟨g,off,cap,rfl,h2,h3,fun j hj=>?_⟩
  have hlt:i*k+j < cs.length:=by
   rw [h0]
   have:(i+1)*k≤n*k:=Nat.mul_le_mul_right k hi
   rw [Nat.add_mul,Nat.one_mul] at this
   omega
  rw [Nat.add_assoc,h4 _ hlt,List.getElem?_eq_getElem hlt]
  exact ⟨rfl,rfl⟩
structure ElTypes (P:Program) (t e:TypeId) (k b:Nat) (z:Value):Prop where
 slice:P.underlying t=some (.slice e)
 info:∃ i,P.info? e=some i∧i.zero=some z∧i.size=k∧i.bytes=b
 zero:z.cells.size=k
theorem OwnK.first {k:Nat} {P:Program} {w:World} {v:Value} {n:Nat} {cs:List Value} (h:OwnK k w v n cs):∃ a cap,v=.slice a n cap∧(Builtin.firstCells k n v).run P w.drew=.ok cs.toArray w.drew∧(a=none→n=0∧cap=0):=by
 obtain ⟨h0,⟨rfl,rfl⟩ | ⟨g,off,cap,rfl,_,_,_,h4,_⟩⟩:=h
 ·have:cs=[]:=List.eq_nil_of_length_eq_zero (by omega)
  subst this
  exact ⟨none,0,rfl,run_firstCells_none w.drew k 0 0 0,fun _=>⟨rfl,rfl⟩⟩
 ·refine ⟨_,cap,rfl,run_firstCells_some w.drew k _ _ _ _ _ h0 (fun j u hj=>?_),fun h=>by cases h⟩
  obtain ⟨hlt,rfl⟩:=List.getElem?_eq_some_iff.1 hj
  rw [Addr.add_lit]; exact h4 j hlt
theorem run_append_k {P:Program} {t e:TypeId} {k b:Nat} {z:Value} (hB:ElTypes P t e k b z) (ty:TypeId) {w:World} {v x:Value} {n m:Nat} {xs ys:List Value} (hv:OwnK k w v n xs) (hx:SlK k w x m ys) (hy1:∀ u∈ys,u.oneCell'=true) (hfit:(n+m)*b≤140737488355328) (hn:n+m≤4611686018427387903) :
  ∃ v' w',(Builtin.append_ #[t,t] ty #[v,x]).run P w=.ok v' w'∧OwnK k w' v' (n+m) (xs++ys)∧Turned (blk v) w w'∧∀ q,blk v' q→blk v q∨q=w.heap.size:=by
 obtain ⟨i,hi,hz,hsz,hby⟩:=hB.info
 have hyl:=hx.1
 have hxl:=hv.1
 have hsrc:Src P k t x m ys w:=by
  obtain ⟨h0,⟨rfl,rfl⟩ | ⟨g,off,cap,rfl,_,_,h4⟩⟩:=hx
  ·have:ys=[]:=List.eq_nil_of_length_eq_zero (by omega)
   subst this
   exact Src.ofNil w hB.slice 0
  ·refine Src.ofSlice w hB.slice _ _ _ _ h0 (fun j u hj=>?_) hy1
   obtain ⟨hlt,rfl⟩:=List.getElem?_eq_some_iff.1 hj
   rw [Addr.add_lit]; exact h4 j hlt
 obtain ⟨a,cap,rfl,hold,hnone⟩:=hv.first (P:=P)
 have hmul:(n+m)*k=n*k+m*k:=Nat.add_mul _ _ _
 by_cases hroom:n+m≤cap
 ·have hcapk:(n+m)*k≤cap*k:=Nat.mul_le_mul_right k hroom
  cases a with
  | none=>
   obtain ⟨h1,h2⟩:=hnone rfl
   subst h1
   have hm:m=0:=by omega
   subst hm h2
   have hx0:xs=[]:=List.eq_nil_of_length_eq_zero (by omega)
   have hy0:ys=[]:=List.eq_nil_of_length_eq_zero (by omega)
   subst hx0 hy0
   refine ⟨.slice none 0 0,w,?_,⟨by simp,.inl ⟨rfl,rfl⟩⟩,Turned.refl _ _,fun q hq=>hq.elim⟩
   have hl:=hsrc.len w
   have hc:=hsrc.cells
   simp [Builtin.append_,run_underlying hB.slice,sizeOf,typeInfo,hi,hsz,hl,hc]
  | some a=>
   obtain ⟨_,⟨h,_⟩ | ⟨g,off,cap',h,h2,h3,hg,h4,h5⟩⟩:=hv
   ·cases h
   ·cases h
    have hrun:=run_append_room_src (P:=P) w t t ty e i hB.slice hi g off n cap x m ys (by rw [hsz]; exact hsrc) hroom (fun j hj=>by rw [hsz,Nat.add_assoc]; exact (h5 _ (by omega)).1) (fun j hj=>by rw [hsz,Nat.add_assoc]; exact (h5 _ (by omega)).2)
    rw [hsz] at hrun
    have ht:=Turned.setCells g ys (off+n*k) w
    have hin:=World.cell?_setCells_in g ys (off+n*k) w (fun j hj=>by rw [Nat.add_assoc]; exact (h5 _ (by omega)).1)
    have hout:=World.cell?_setCells_out g ys (off+n*k) w
    refine ⟨_,_,hrun,⟨by simp; omega,.inr ⟨g,off,cap,rfl,hroom,h3,Nat.lt_of_lt_of_le hg ht.size,fun j hj=>?_,fun j hj=>⟨?_,?_⟩⟩⟩,ht.mono (fun q hq=>.inl hq.symm),fun q hq=>.inl hq⟩
    ·by_cases hjx:j < xs.length
     ·rw [hout ⟨g,off+j,none⟩ (fun _ _=>.inl (by simp; omega)),h4 j hjx,List.getElem_append_left hjx]
     ·have hjy:j - xs.length < ys.length:=by simp at hj; omega
      have:=hin (j - xs.length) hjy
      rw [show off+n*k+(j - xs.length)=off+j by omega] at this
      rw [this,List.getElem_append_right (by omega)]
    ·by_cases hjo:j < xs.length∨xs.length+ys.length≤j
     ·rw [hout ⟨g,off+j,none⟩ (fun _ _=>by simp; omega)]; exact (h5 j hj).1
     ·have hjy:j - xs.length < ys.length:=by omega
      have:=hin (j - xs.length) hjy
      rw [show off+n*k+(j - xs.length)=off+j by omega] at this
      rw [this]; rfl
    ·rw [World.frozen?_setCells]; exact (h5 j hj).2
 ·have hnext:=nextslicecap_le (need:=n+m) (old:=cap) (by omega)
  have hnb:Builtin.nextslicecap (n+m) cap*b≤2*(n+m)*b:=Nat.mul_le_mul_right b hnext
  have hrun:=run_append_grow_src (P:=P) w t t ty e i z hB.slice hi hz a n cap xs (by rw [hsz]; exact hold) x m ys (by rw [hsz]; exact hsrc) (by omega) (by omega) (by rw [hby]; rw [Nat.mul_assoc] at hnb; omega)
  have hge:=grownCap_ge w (n+m) cap e
  have hle:=grownCap_le_maxLen w (n+m) cap e (by unfold maxLen; omega)
  generalize grownCap w (n+m) cap e=c at hrun hge hle
  have hck:(n+m)*k≤c*k:=Nat.mul_le_mul_right k hge
  have hsub:(c - (n+m))*k=c*k - (n+m)*k:=Nat.sub_mul _ _ _
  refine ⟨_,_,hrun,⟨by simp; omega,.inr ⟨w.heap.size,0,c,rfl,hge,hle,by simp,fun j hj=>?_,fun j hj=>?_⟩⟩,(Turned.drew _ _).trans (T:=fun _=>False) (Turned.alloc _ _ _) (fun _ h=>h.elim),fun q hq=>.inr hq.symm⟩
  ·rw [World.cell?_alloc_at _ _ _ _ (by simp),Nat.zero_add,Array.getElem?_append_left (by simpa using hj)]
   simp only [List.getElem?_toArray]
   exact List.getElem?_eq_getElem hj
  ·refine ⟨?_,by rw [show w.heap.size=w.drew.heap.size from rfl,World.frozen?_alloc_new]⟩
   rw [World.cell?_alloc_at _ _ _ _ (by simp),Nat.zero_add]
   simp [size_zeroCells,hB.zero]
   omega
section
variable {P:Program} {t e:TypeId} {k b:Nat} {z:Value} {w:World} {v x:Value} {n m:Nat} {xs ys:List Value}
theorem wp_append_k {o:Oper} {a:Act} {K:Act→World→Prop} {Q:Exit→Act→World→Prop} (s y:Operand) (ho:o.op=.call { callee:=.builtin .append,args:=#[s,y],argTypes:=#[t,t] })
  (hB:ElTypes P t e k b z) (hs:a.eval s=v) (hy:a.eval y=x) (hv:OwnK k w v n xs) (hx:SlK k w x m ys) (hx1:∀ u∈ys,u.oneCell'=true) (hfit:(n+m)*b≤140737488355328) (hn:n+m≤4611686018427387903)
  (h:∀ v' w',OwnK k w' v' (n+m) (xs++ys)→Turned (blk v) w w'→(∀ q,blk v' q→blk v q∨q=w.heap.size)→K (a.put o.dst v') w'):o.wp P a w K Q:=by
 obtain ⟨v',w',hr,h1,h2,h3⟩:=run_append_k hB o.type hv hx hx1 hfit hn
 unfold Oper.wp execOp
 simp only [ho,resolve,invoke,builtin,Sem.run_bind,Sem.run_pure,Result.andThen_ok,List.map_toArray,List.map_cons,List.map_nil,hs,hy,hr]
 exact h v' w' h1 h2 h3
theorem wpList_append_k {ops:Array Oper} {rest:List Oper} {o:Oper} {a:Act} {Q:Exit→Act→World→Prop} (hgd:o.guard=none) (s y:Operand) (ho:o.op=.call { callee:=.builtin .append,args:=#[s,y],argTypes:=#[t,t] })
  (hB:ElTypes P t e k b z) (hs:a.eval s=v) (hy:a.eval y=x) (hv:OwnK k w v n xs) (hx:SlK k w x m ys) (hx1:∀ u∈ys,u.oneCell'=true) (hfit:(n+m)*b≤140737488355328) (hn:n+m≤4611686018427387903)
  (h:∀ v' w',OwnK k w' v' (n+m) (xs++ys)→Turned (blk v) w w'→(∀ q,blk v' q→blk v q∨q=w.heap.size)→wpList P ops Q rest (a.put o.dst v') w'):wpList P ops Q (o :: rest) a w:=
 wpList_plain hgd fun _ hK=>wp_append_k s y ho hB hs hy hv hx hx1 hfit hn fun v' w' h1 h2 h3=>hK _ _ (h v' w' h1 h2 h3)
theorem step_append_k {ops:Array Oper} {o:Oper} {a:Act} {K:Act→World→Prop} {Q:Exit→Act→World→Prop} {E:Prop} (hgd:o.guard=none) (s y:Operand) (ho:o.op=.call { callee:=.builtin .append,args:=#[s,y],argTypes:=#[t,t] })
  (hB:ElTypes P t e k b z) (hs:a.eval s=v) (hy:a.eval y=x) (hv:OwnK k w v n xs) (hx:SlK k w x m ys) (hx1:∀ u∈ys,u.oneCell'=true) (hfit:(n+m)*b≤140737488355328) (hn:n+m≤4611686018427387903)
  (h:∀ v' w',OwnK k w' v' (n+m) (xs++ys)→Turned (blk v) w w'→(∀ q,blk v' q→blk v q∨q=w.heap.size)→K (a.put o.dst v') w') :
  if Region.wanted o (yielded ops a.tmps)=true then Oper.wp P o a w K Q else E:=by
 rw [if_pos (by simp [Region.wanted,hgd])]
 exact wp_append_k s y ho hB hs hy hv hx hx1 hfit hn h
end
theorem Hid.mk7 {p:Prop} (h:p):Hid p:=h
def smallB (c:Int):Bool:=decide (97≤c∧c≤122)
def capB (c:Int):Bool:=decide (65≤c∧c≤90)
def digB (c:Int):Bool:=decide (48≤c∧c≤57)
def alnumB (c:Int):Bool:=smallB c || capB c || digB c
def wordB (c:Int):Bool:=alnumB c || decide (c=95) || decide (c=64)
def blankB (c:Int):Bool:=decide (c=9) || decide (c=10) || decide (c=13) || decide (c=32)
theorem at_small (c:Int) (w:World):Calls Tryz.prog 138 #[.int .u8 c] w fun e w'=>e=.returned (.bool (smallB c))∧w=w':=by
 go_enter Tryz.func138,Tryz.ntmps138
 go_wp2
 all_goals go_ret
 all_goals
  refine ⟨congrArg Ending.returned (congrArg Value.bool ?_),rfl⟩
  rw [Bool.eq_iff_iff]
  simp [smallB]
  try omega
theorem at_alnum (c:Int) (w:World):Calls Tryz.prog 159 #[.int .u8 c] w fun e w'=>e=.returned (.bool (alnumB c))∧w=w':=by
 have hs:=at_small c w
 cases h:smallB c
 all_goals
  rw [h] at hs
  go_enter Tryz.func159,Tryz.ntmps159
  go_wp2_with (go_at_call 138; refine hs.mono ?_; rintro e w' ⟨rfl,rfl⟩)
  all_goals go_ret
  all_goals
   refine ⟨congrArg Ending.returned (congrArg Value.bool ?_),rfl⟩
   rw [Bool.eq_iff_iff]
   simp [alnumB,capB,digB,h]
   try omega
theorem at_word (c:Int) (w:World):Calls Tryz.prog 150 #[.int .u8 c] w fun e w'=>e=.returned (.bool (wordB c))∧w=w':=by
 have hs:=at_alnum c w
 cases h:alnumB c
 all_goals
  rw [h] at hs
  go_enter Tryz.func150,Tryz.ntmps150
  go_wp2_with (go_at_call 159; refine hs.mono ?_; rintro e w' ⟨rfl,rfl⟩)
  all_goals go_ret
  all_goals
   refine ⟨congrArg Ending.returned (congrArg Value.bool ?_),rfl⟩
   rw [Bool.eq_iff_iff]
   simp [wordB,h]
   try omega
theorem lx_small (c:Int) (w:World):Calls Tryz.prog 104 #[.int .u8 c] w fun e w'=>e=.returned (.bool (smallB c))∧w=w':=by
 go_enter Tryz.func104,Tryz.ntmps104
 go_wp2
 all_goals go_ret
 all_goals
  refine ⟨congrArg Ending.returned (congrArg Value.bool ?_),rfl⟩
  rw [Bool.eq_iff_iff]
  simp [smallB]
  try omega
theorem lx_cap (c:Int) (w:World):Calls Tryz.prog 108 #[.int .u8 c] w fun e w'=>e=.returned (.bool (capB c))∧w=w':=by
 go_enter Tryz.func108,Tryz.ntmps108
 go_wp2
 all_goals go_ret
 all_goals
  refine ⟨congrArg Ending.returned (congrArg Value.bool ?_),rfl⟩
  rw [Bool.eq_iff_iff]
  simp [capB]
  try omega
theorem lx_dig (c:Int) (w:World):Calls Tryz.prog 110 #[.int .u8 c] w fun e w'=>e=.returned (.bool (digB c))∧w=w':=by
 go_enter Tryz.func110,Tryz.ntmps110
 go_wp2
 all_goals go_ret
 all_goals
  refine ⟨congrArg Ending.returned (congrArg Value.bool ?_),rfl⟩
  rw [Bool.eq_iff_iff]
  simp [digB]
  try omega
theorem lx_alnum (c:Int) (w:World):Calls Tryz.prog 136 #[.int .u8 c] w fun e w'=>e=.returned (.bool (alnumB c))∧w=w':=by
 have hs:=lx_small c w
 have hc:=lx_cap c w
 have hd:=lx_dig c w
 cases h:smallB c <;> cases h2:capB c
 all_goals
  rw [h] at hs
  rw [h2] at hc
  go_enter Tryz.func136,Tryz.ntmps136
  go_wp2_with (first | (go_at_call 104; refine hs.mono ?_; rintro e w' ⟨rfl,rfl⟩) | (go_at_call 108; refine hc.mono ?_; rintro e w' ⟨rfl,rfl⟩) | (go_at_call 110; refine hd.mono ?_; rintro e w' ⟨rfl,rfl⟩))
  all_goals go_ret
  all_goals
   refine ⟨congrArg Ending.returned (congrArg Value.bool ?_),rfl⟩
   simp [alnumB,h,h2]
theorem lx_word (c:Int) (w:World):Calls Tryz.prog 125 #[.int .u8 c] w fun e w'=>e=.returned (.bool (wordB c))∧w=w':=by
 have hs:=lx_alnum c w
 cases h:alnumB c
 all_goals
  rw [h] at hs
  go_enter Tryz.func125,Tryz.ntmps125
  go_wp2_with (go_at_call 136; refine hs.mono ?_; rintro e w' ⟨rfl,rfl⟩)
  all_goals go_ret
  all_goals
   refine ⟨congrArg Ending.returned (congrArg Value.bool ?_),rfl⟩
   rw [Bool.eq_iff_iff]
   simp [wordB,h]
   try omega
theorem lx_blank (c:Int) (w:World):Calls Tryz.prog 89 #[.int .i32 c] w fun e w'=>e=.returned (.bool (blankB c))∧w=w':=by
 go_enter Tryz.func89,Tryz.ntmps89
 go_wp2
 all_goals go_ret
 all_goals
  refine ⟨congrArg Ending.returned (congrArg Value.bool ?_),rfl⟩
  rw [Bool.eq_iff_iff]
  simp [blankB]
  try omega
def runLen (p:Int→Bool) (s:ByteArray):Nat→Nat→Nat
 | 0,n=>n
 | k+1,n=>if h:n < s.size then (if p (s[n].toNat:Int) then runLen p s k (n+1) else n) else n
theorem runLen_stop (p:Int→Bool) (s:ByteArray) (n:Nat) (h:n < s.size) (hp:p (s[n].toNat:Int)=false):∀ k,runLen p s k n=n
 | 0=>rfl
 | k+1=>by rw [runLen,dif_pos h,hp]; rfl
theorem runLen_end (p:Int→Bool) (s:ByteArray) (n:Nat) (h:¬ n < s.size):∀ k,runLen p s k n=n
 | 0=>rfl
 | k+1=>by rw [runLen,dif_neg h]
theorem lx_runWord (s:ByteArray) (hs:s.size≤4611686018427387904) (w:World):Calls Tryz.prog 90 #[.string s,.func (.func 125) #[] #[]] w fun e w'=>e=.returned (.int .i64 (runLen wordB s s.size 0:Nat))∧w=w':=by
 go_enter Tryz.func90,Tryz.ntmps90
 go_wp2_with fail
 go_loopw [5] (fun i wr=>∃ j:Nat,j≤s.size∧i=.int .i64 j∧runLen wordB s (s.size - j) j=runLen wordB s s.size 0∧w=wr) (fun i _=>s.size - (intOf i).toNat)
 case atStart=>exact ⟨0,Nat.zero_le _,rfl,rfl,rfl⟩
 case round=>
  obtain ⟨j,hj,rfl,hrun,rfl⟩:=hrel
  have HR:=Hid.mk7 hrun
  clear hrun
  by_cases hlt:j < s.size
  ·have hlti:(j:Int) < (s.size:Int):=by omega
   have ha:=lx_word (s[j].toNat:Int) w
   cases hp:wordB (s[j].toNat:Int) with
   | true=>
    have HN:Hid (runLen wordB s (s.size - (j+1)) (j+1)=runLen wordB s s.size 0):=by
     have e:s.size - j=s.size - (j+1)+1:=by omega
     have:=HR.out
     rw [e,runLen,dif_pos hlt,hp] at this
     exact this
    rw [hp] at ha
    clear hp HR
    go_wp2_with (refine ha.mono ?_; rintro e w' ⟨rfl,rfl⟩)
    go_roundw
    case rel=>exact ⟨j+1,by omega,by go_num,HN.out,trivial⟩
    case measure=>simp [intOf]; omega
   | false=>
    have HN:Hid (runLen wordB s s.size 0=j):=by
     have:=HR.out
     rw [runLen_stop wordB s j hlt hp] at this
     exact this.symm
    rw [hp] at ha
    clear hp HR
    go_wp2_with (refine ha.mono ?_; rintro e w' ⟨rfl,rfl⟩)
    go_ret
    exact ⟨by rw [HN.out]; rfl,rfl⟩
  ·have hge:¬ (j:Int) < (s.size:Int):=by omega
   have HN:Hid (runLen wordB s s.size 0=j):=by
    have:=HR.out
    rw [runLen_end wordB s j hlt] at this
    exact this.symm
   clear HR
   go_wp2
   go_ret
   exact ⟨by rw [HN.out]; rfl,rfl⟩
theorem lx_runDig (s:ByteArray) (hs:s.size≤4611686018427387904) (w:World):Calls Tryz.prog 90 #[.string s,.func (.func 110) #[] #[]] w fun e w'=>e=.returned (.int .i64 (runLen digB s s.size 0:Nat))∧w=w':=by
 go_enter Tryz.func90,Tryz.ntmps90
 go_wp2_with fail
 go_loopw [5] (fun i wr=>∃ j:Nat,j≤s.size∧i=.int .i64 j∧runLen digB s (s.size - j) j=runLen digB s s.size 0∧w=wr) (fun i _=>s.size - (intOf i).toNat)
 case atStart=>exact ⟨0,Nat.zero_le _,rfl,rfl,rfl⟩
 case round=>
  obtain ⟨j,hj,rfl,hrun,rfl⟩:=hrel
  have HR:=Hid.mk7 hrun
  clear hrun
  by_cases hlt:j < s.size
  ·have hlti:(j:Int) < (s.size:Int):=by omega
   have ha:=lx_dig (s[j].toNat:Int) w
   cases hp:digB (s[j].toNat:Int) with
   | true=>
    have HN:Hid (runLen digB s (s.size - (j+1)) (j+1)=runLen digB s s.size 0):=by
     have e:s.size - j=s.size - (j+1)+1:=by omega
     have:=HR.out
     rw [e,runLen,dif_pos hlt,hp] at this
     exact this
    rw [hp] at ha
    clear hp HR
    go_wp2_with (refine ha.mono ?_; rintro e w' ⟨rfl,rfl⟩)
    go_roundw
    case rel=>exact ⟨j+1,by omega,by go_num,HN.out,trivial⟩
    case measure=>simp [intOf]; omega
   | false=>
    have HN:Hid (runLen digB s s.size 0=j):=by
     have:=HR.out
     rw [runLen_stop digB s j hlt hp] at this
     exact this.symm
    rw [hp] at ha
    clear hp HR
    go_wp2_with (refine ha.mono ?_; rintro e w' ⟨rfl,rfl⟩)
    go_ret
    exact ⟨by rw [HN.out]; rfl,rfl⟩
  ·have hge:¬ (j:Int) < (s.size:Int):=by omega
   have HN:Hid (runLen digB s s.size 0=j):=by
    have:=HR.out
    rw [runLen_end digB s j hlt] at this
    exact this.symm
   clear HR
   go_wp2
   go_ret
   exact ⟨by rw [HN.out]; rfl,rfl⟩
theorem at_free_m (w:World):Calls Tryz.prog 151 #[.string ⟨#[109]⟩] w fun e w'=>e=.returned (.bool false)∧w=w':=by
 go_enter Tryz.func151,Tryz.ntmps151
 go_wp2
 all_goals go_ret
 all_goals exact ⟨rfl,rfl⟩
theorem at_free_f (w:World):Calls Tryz.prog 151 #[.string ⟨#[102]⟩] w fun e w'=>e=.returned (.bool false)∧w=w':=by
 go_enter Tryz.func151,Tryz.ntmps151
 go_wp2
 all_goals go_ret
 all_goals exact ⟨rfl,rfl⟩
theorem at_free_module (w:World):Calls Tryz.prog 151 #[.string ⟨#[109,111,100,117,108,101]⟩] w fun e w'=>e=.returned (.bool false)∧w=w':=by
 go_enter Tryz.func151,Tryz.ntmps151
 go_wp2
 all_goals go_ret
 all_goals exact ⟨rfl,rfl⟩
theorem at_plain (s:ByteArray) (hs:s.size≤4611686018427387904) (a e:Nat) (hae:a≤e) (hes:e≤s.size) (hrun:runLen wordB s (s.size - a) a=e) (hsz:e - a≤255) (hfree:∀ w,Calls Tryz.prog 151 #[.string (s.extract a e)] w fun x w'=>x=.returned (.bool false)∧w=w') (w:World) :
  Calls Tryz.prog 139 #[.string s,.int .i64 a] w fun x w'=>x=.returned (.tuple #[.string (s.extract a e),.int .i64 e,.nilIface])∧w=w':=by
 have HF:=Hid.mk7 hfree
 clear hfree
 go_enter Tryz.func139,Tryz.ntmps139
 go_wp2_with fail
 go_loopw [7] (fun i wr=>∃ j:Nat,a≤j∧j≤s.size∧i=.int .i64 j∧runLen wordB s (s.size - j) j=e∧w=wr) (fun i _=>s.size - (intOf i).toNat)
 case atStart=>exact ⟨a,Nat.le_refl _,by omega,rfl,hrun,rfl⟩
 case round=>
  obtain ⟨j,haj,hj,rfl,hrj,rfl⟩:=hrel
  have HR:=Hid.mk7 hrj
  clear hrj hrun
  by_cases hlt:j < s.size
  ·have hlti:(j:Int) < (s.size:Int):=by omega
   have ha:=at_word (s[j].toNat:Int) w
   cases hp:wordB (s[j].toNat:Int) with
   | true=>
    have HN:Hid (runLen wordB s (s.size - (j+1)) (j+1)=e):=by
     have e:s.size - j=s.size - (j+1)+1:=by omega
     have:=HR.out
     rw [e,runLen,dif_pos hlt,hp] at this
     exact this
    rw [hp] at ha
    clear hp HR HF
    go_wp2_with (go_at_call 150; refine ha.mono ?_; rintro e w' ⟨rfl,rfl⟩)
    go_roundw
    case rel=>exact ⟨j+1,by omega,by omega,by go_num,HN.out,trivial⟩
    case measure=>simp [intOf]; omega
   | false=>
    obtain rfl:j=e:=by
     have:=HR.out
     rw [runLen_stop wordB s j hlt hp] at this
     exact this
    rw [hp] at ha
    clear hp HR
    have h255:¬ (255:Int) < ((j - a:Nat):Int):=by omega
    go_wp2_with (first | (go_at_call 150; refine ha.mono ?_; rintro e w' ⟨rfl,rfl⟩) | (go_at_call 151; refine (HF.out w).mono ?_; rintro e w' ⟨rfl,rfl⟩))
    go_ret3
    exact ⟨rfl,rfl⟩
  ·have hge:¬ (j:Int) < (s.size:Int):=by omega
   obtain rfl:j=e:=by
    have:=HR.out
    rw [runLen_end wordB s j hlt] at this
    exact this
   clear HR
   have h255:¬ (255:Int) < ((j - a:Nat):Int):=by omega
   go_wp2_with (first | (go_at_call 151; refine (HF.out w).mono ?_; rintro e w' ⟨rfl,rfl⟩))
   go_ret3
   exact ⟨rfl,rfl⟩
structure PlainAt (s:ByteArray) (a e:Nat):Prop where
 size:s.size≤4611686018427387904
 lt:a < s.size
 le:a≤e
 es:e≤s.size
 small:smallB (s[a].toNat:Int)=true
 run:runLen wordB s (s.size - a) a=e
 short:e - a≤255
 free:∀ w,Calls Tryz.prog 151 #[.string (s.extract a e)] w fun x w'=>x=.returned (.bool false)∧w=w'
theorem at_scan {s:ByteArray} {a e:Nat} (h:PlainAt s a e) (w:World):Calls Tryz.prog 126 #[.string s,.int .i64 a] w fun x w'=>x=.returned (.tuple #[.string (s.extract a e),.int .i64 e,.nilIface])∧w=w':=by
 have hp:=at_plain s h.size a e h.le h.es h.run h.short h.free w
 have hlt:=h.lt
 have hsm:=at_small (s[a]'hlt).toNat w
 rw [h.small] at hsm
 have hlti:(a:Int) < (s.size:Int):=by omega
 have hn0:¬ (a:Int) < 0:=by omega
 have hn1:¬ (s.size:Int) < (a:Int):=by omega
 clear h
 go_enter Tryz.func126,Tryz.ntmps126
 go_wp2_with (first | (go_at_call 138; refine hsm.mono ?_; rintro e w' ⟨rfl,rfl⟩) | (go_at_call 139; refine hp.mono ?_; rintro e w' ⟨rfl,rfl⟩))
 go_ret3
 exact ⟨rfl,rfl⟩
theorem er_is_nil (x:Value) (w:World):Calls Tryz.prog 64 #[.nilIface,.iface 50 x] w fun e w'=>e=.returned (.bool false)∧w=w':=by
 have hq:(binOp .eql 30 .nilIface (.iface 50 x)).run Tryz.prog w=.ok (.bool false) w:=by
  have h:∀ d:Nat,(Op.equalIn (d+2) 30 .nilIface (.iface 50 x)).run Tryz.prog w=.ok false w:=fun d=>by
   simp [Op.equalIn,run_underlying Tryz.underlying30]
  simp only [binOp]
  simp [Op.equal,Op.maxDepth,h 9998]
 go_enter Tryz.func64,Tryz.ntmps64
 go_wp2
 all_goals go_ret
 all_goals exact ⟨rfl,rfl⟩
theorem lx_word_at (s:ByteArray) (hs:s.size≤4611686018427387904) (e:Nat) (hes:e≤s.size) (hrun:runLen wordB s s.size 0=e) (w:World):Calls Tryz.prog 105 #[.string s] w fun x w'=>x=.returned (.string (s.extract 0 e))∧w=w':=by
 have hr:=lx_runWord s hs w
 rw [hrun] at hr
 go_enter Tryz.func105,Tryz.ntmps105
 go_wp2_with (go_at_call 90; refine hr.mono ?_; rintro e w' ⟨rfl,rfl⟩)
 go_ret
 exact ⟨rfl,rfl⟩
theorem lx_free {s:ByteArray} {e:Nat} (h:PlainAt s 0 e) (w:World):Calls Tryz.prog 106 #[.string s] w fun x w'=>x=.returned (.bool false)∧w=w':=by
 have hsc:=at_scan h w
 have hi:=er_is_nil (.int .i64 20) w
 clear h
 go_enter Tryz.func106,Tryz.ntmps106
 go_wp2_with (first | (go_at_call 126; refine hsc.mono ?_; rintro e w' ⟨rfl,rfl⟩) | (go_at_call 64; refine hi.mono ?_; rintro e w' ⟨rfl,rfl⟩))
 go_ret
 exact ⟨rfl,rfl⟩
structure Tk where
 kind:Int
 text:ByteArray
 num:Int
 at_:Int
deriving DecidableEq
def Tk.val (t:Tk):Value:=.agg #[.int .i64 t.kind,.string t.text,.int .i64 t.num,.int .i64 t.at_]
def Tk.cells (t:Tk):List Value:=[.int .i64 t.kind,.string t.text,.int .i64 t.num,.int .i64 t.at_]
def TokTold (t:Tk) (e:Int) (w:World) (x:Ending) (w':World):Prop:=x=.returned (.tuple #[t.val,.int .i64 e,.nilIface])∧Below w.heap.size w w'
theorem lx_atom {s:ByteArray} {a e:Nat} (h:PlainAt s a e) (w:World):Calls Tryz.prog 107 #[.string s,.int .i64 a] w (TokTold ⟨1,s.extract a e,0,a⟩ e w):=by
 have hsc:=fun w=>at_scan h w
 clear h
 go_enter Tryz.func107,Tryz.ntmps107
 go_wp2_with (first | (go_at_call 126; refine (hsc _).mono ?_; rintro e w' ⟨rfl,rfl⟩))
 refine bodyPost_ret (v:=.tuple #[(⟨1,s.extract a e,0,a⟩:Tk).val,.int .i64 e,.nilIface]) (by simp [results,Tryz.results107,go_sem,Tk.val]) rfl ⟨rfl,?_⟩
 exact (Below.refl _ _).alloc (Nat.le_refl _) _
theorem sc_uint (t:ByteArray) (hne:t.size≠0) (hsz:t.size≤4611686018427387904) (n:Nat) (hn:Lib.parseUint10 0 t.data.toList=.ok n) (w:World):Calls Tryz.prog 141 #[.string t,.int .i64 10,.int .i64 64] w fun e w'=>e=.returned (.tuple #[.int .u64 n,.nilIface])∧Below w.heap.size w w':=by
 have hu:=Tryz.internal_strconv_ParseUint_10_b64 t hne (by omega) w
 rw [hn] at hu
 simp only [Lib.uintTuple] at hu
 clear hn
 go_enter Tryz.func141,Tryz.ntmps141
 go_wp2_with fail
 refine hu.mono ?_
 rintro e w1 ⟨rfl,hw1⟩
 have hb1:Below w.heap.size w w1:=by rw [hw1]; exact Go.Joins.below_bytesWorld _ _ _ _ (Nat.le_refl _)
 clear hw1
 go_wp2
 go_ret2
 exact ⟨rfl,hb1⟩
theorem lx_number (t:ByteArray) (hne:t.size≠0) (hsz:t.size≤4611686018427387904) (n:Nat) (hn:Lib.parseUint10 0 t.data.toList=.ok n) (hmax:n≤576460752303423487) (w:World):Calls Tryz.prog 128 #[.string t,.int .i64 10] w fun e w'=>e=.returned (.tuple #[.int .i64 n,.bool true])∧Below w.heap.size w w':=by
 have hu:=sc_uint t hne hsz n hn w
 have hle:¬ (576460752303423487:Int) < (n:Int):=by omega
 clear hn
 go_enter Tryz.func128,Tryz.ntmps128
 go_wp2_with (go_at_call 141; refine hu.mono ?_; rintro e w1 ⟨rfl,hb1⟩)
 go_ret2
 refine ⟨?_,hb1⟩
 simp
theorem lx_numb (s:ByteArray) (hs:s.size≤4611686018427387904) (k:Nat) (hk:k < s.size) (hk0:k≠0) (hrun:runLen digB s s.size 0=k) (hsh:¬ (s[k].toNat:Int)=35) (n:Nat) (hn:Lib.parseUint10 0 (s.extract 0 k).data.toList=.ok n) (hmax:n≤576460752303423487) (w:World) :
  Calls Tryz.prog 111 #[.string s] w fun e w'=>e=.returned (.tuple #[.int .i64 n,.int .i64 k])∧Below w.heap.size w w':=by
 have hr:=lx_runDig s hs w
 rw [hrun] at hr
 have hu:=lx_number (s.extract 0 k) (by rw [ByteArray.size_extract]; omega) (by rw [ByteArray.size_extract]; omega) n hn hmax w
 have hki:(k:Int) < (s.size:Int):=by omega
 clear hn hrun
 go_enter Tryz.func111,Tryz.ntmps111
 go_wp2_with (first | (go_at_call 90; refine hr.mono ?_; rintro e w1 ⟨rfl,rfl⟩) | (go_at_call 128; refine hu.mono ?_; rintro e w1 ⟨rfl,hb1⟩))
 go_ret2
 exact ⟨rfl,hb1⟩
theorem lx_tell (a n k c:Int) (hk:¬ k=0) (e:Int) (he:wrap64 (a+k)=e) (w:World):Calls Tryz.prog 112 #[.int .i64 a,.int .i64 n,.int .i64 k,.int .i64 c] w (TokTold ⟨3,⟨#[]⟩,n,a⟩ e w):=by
 have HE:=Hid.mk7 he
 clear he
 go_enter Tryz.func112,Tryz.ntmps112
 go_wp2
 refine bodyPost_ret (v:=.tuple #[(⟨3,⟨#[]⟩,n,a⟩:Tk).val,.int .i64 e,.nilIface]) (by simp [results,Tryz.results112,go_sem,Tk.val,← HE.out]) rfl ⟨rfl,?_⟩
 exact (Below.refl _ _).alloc (Nat.le_refl _) _
theorem lx_var (s:ByteArray) (hs:s.size≤4611686018427387904) (a k:Nat) (ha:a≤s.size) (hk:k≤s.size - a) (hrun:runLen wordB (s.extract a s.size) (s.size - a) 0=k) (h255:k≤255) (w:World):Calls Tryz.prog 109 #[.string s,.int .i64 a] w (TokTold ⟨2,(s.extract a s.size).extract 0 k,0,a⟩ (a+k:Nat) w):=by
 have hz:(s.extract a s.size).size=s.size - a:=by simp
 have hr:=fun w=>lx_word_at (s.extract a s.size) (by omega) k (by omega) (by rw [hz]; exact hrun) w
 have hle:¬ (255:Int) < (k:Int):=by omega
 clear hrun
 go_enter Tryz.func109,Tryz.ntmps109
 go_wp2_with (go_at_call 105; refine (hr _).mono ?_; rintro e w1 ⟨rfl,rfl⟩)
 refine bodyPost_ret (v:=.tuple #[(⟨2,(s.extract a s.size).extract 0 k,0,a⟩:Tk).val,.int .i64 (a+k:Nat),.nilIface]) (by simp [results,Tryz.results109,go_sem,Tk.val]) rfl ⟨rfl,?_⟩
 exact (Below.refl _ _).alloc (Nat.le_refl _) _
theorem lx_ends_nil (w:World):Calls Tryz.prog 114 #[.string ⟨#[]⟩] w fun e w'=>e=.returned (.bool true)∧w=w':=by
 go_enter Tryz.func114,Tryz.ntmps114
 go_wp2
 all_goals go_ret
 all_goals exact ⟨rfl,rfl⟩
theorem lx_ends_blank (s:ByteArray) (h0:0 < s.size) (hb:(s[0].toNat:Int)=32) (w:World):Calls Tryz.prog 114 #[.string s] w fun e w'=>e=.returned (.bool true)∧w=w':=by
 have hbl:=lx_blank 32 w
 have hne:¬ s=⟨#[]⟩:=fun h=>by subst h; exact absurd h0 (by decide)
 go_enter Tryz.func114,Tryz.ntmps114
 go_wp2_with (go_at_call 89; refine hbl.mono ?_; rintro e w1 ⟨rfl,rfl⟩)
 all_goals go_ret
 all_goals exact ⟨congrArg Ending.returned (congrArg Value.bool (by simp [blankB])),rfl⟩
def SG:Array ByteArray:=#[⟨#[61,58,61]⟩,⟨#[61,47,61]⟩,⟨#[45,62]⟩,⟨#[61,61]⟩,⟨#[47,61]⟩,⟨#[61,60]⟩,⟨#[62,61]⟩,⟨#[43,43]⟩,⟨#[45,45]⟩,⟨#[40]⟩,⟨#[41]⟩,⟨#[91]⟩,⟨#[93]⟩,⟨#[123]⟩,⟨#[125]⟩,⟨#[44]⟩,⟨#[59]⟩,⟨#[58]⟩,⟨#[124]⟩,⟨#[33]⟩,⟨#[61]⟩,⟨#[43]⟩,⟨#[45]⟩,⟨#[42]⟩,⟨#[47]⟩,⟨#[60]⟩,⟨#[62]⟩]
def sgVals:List Value:=SG.toList.map Value.string
theorem sgVals_get:∀ (j:Nat) (h:j < 27),sgVals[j]? = some (.string SG[j]):=by
 intro j h
 have h':j < SG.size:=h
 simp [sgVals,Array.getElem?_eq_getElem h']
 rfl
theorem SG_small:∀ j (h:j < 27),SG[j].size≤3:=by decide
def SgAt (w:World):Prop:=w.rangeAt 1 0 sgVals∧1 < w.heap.size
theorem SgAt.turned {S:Nat→Prop} {w w':World} (h:SgAt w) (T:Turned S w w') (hs:¬ S 1):SgAt w':=
 ⟨fun j v hv=>T.cell (h.1 j v hv) hs,Nat.lt_of_lt_of_le h.2 T.size⟩
theorem SgAt.below {w w':World} (h:SgAt w) (hb:Below w.heap.size w w'):SgAt w':=h.turned (Turned.ofBelow (S:=fun _=>False) hb) (fun h=>h)
theorem lx_sign (s:ByteArray) (hs:s.size≤4611686018427387904) (a k:Nat) (ha:a≤s.size) (hk:k < 27) (hno:∀ i (h:i < 27),i < k→Lib.hasPrefix (s.extract a s.size).data.toList SG[i].data.toList=false) (hyes:Lib.hasPrefix (s.extract a s.size).data.toList SG[k].data.toList=true) (w:World) (hw:SgAt w) :
  Calls Tryz.prog 115 #[.string s,.int .i64 a] w (TokTold ⟨5,SG[k],0,a⟩ (a+SG[k].size:Nat) w):=by
 have hr:∀ o:Obj,(w.alloc o).rangeAt 1 0 sgVals:=fun o=>(hw.below ((Below.refl _ _).alloc (Nat.le_refl _) o)).1
 have hpre:=fun (i:Nat) (h:i < 27) (w:World)=>Tryz.strings_HasPrefix (s.extract a s.size) SG[i] w
 clear hw
 go_enter Tryz.func115,Tryz.ntmps115
 go_wp2_with (refine wpList_load_mid (by rfl) 167 (.global 1) (by rfl) 1 0 (by rfl) sgVals _ (hr _) Tryz.underlying167 rfl (by kernel_rfl) ?_)
 obtain ⟨arr,harr⟩:∃ arr,arr=sgVals.toArray:=⟨_,rfl⟩
 simp only [← harr]
 have hget:∀ j (h:j < 27),arr[j]? = some (.string SG[j]):=fun j h=>by rw [harr]; simpa using sgVals_get j h
 clear harr hr
 have HNO:=Hid.mk7 hno
 have HYES:=Hid.mk7 hyes
 clear hno hyes
 go_loopw [10] (fun i wr=>∃ j:Nat,j≤k∧i=.int .i64 j∧wr=w.alloc (.cells #[.int .i64 0,.string ⟨#[]⟩,.int .i64 0,.int .i64 0] 40)) (fun i _=>27 - (intOf i).toNat)
 case atStart=>exact ⟨0,Nat.zero_le _,rfl,rfl⟩
 case round=>
  obtain ⟨j,hj,rfl,rfl⟩:=hrel
  have hj27:j < 27:=by omega
  have hji:(j:Int) < 27:=by omega
  have hg:=hget j hj27
  have hidx:∀ w,(Instr.index 167 (.agg arr) (.int .i64 j)).run Tryz.prog w=.ok (.string SG[j]) w:=fun w=>by
   simp [Instr.index,run_underlying Tryz.underlying167,hg,go_sem]
   intro h
   omega
  by_cases hlt:j < k
  ·have hp:=hpre j hj27
   rw [HNO.out j hj27 hlt] at hp
   clear hpre hget
   go_wp2_with (go_at_call 132; refine (hp _).mono ?_; rintro e w1 ⟨rfl,rfl⟩)
   go_roundw
   case rel=>exact ⟨j+1,by omega,by go_num,trivial⟩
   case measure=>simp [intOf]; omega
  ·obtain rfl:j=k:=by omega
   have hp:=hpre j hj27
   rw [HYES.out] at hp
   have hz:=SG_small j hj27
   clear hpre hget
   go_wp2_with (go_at_call 132; refine (hp _).mono ?_; rintro e w1 ⟨rfl,rfl⟩)
   refine bodyPost_ret (v:=.tuple #[(⟨5,SG[j],0,a⟩:Tk).val,.int .i64 (a+SG[j].size:Nat),.nilIface]) ?_ rfl ⟨rfl,?_⟩
   ·simp [results,Tryz.results115,go_sem,Tk.val]
   ·exact (Below.refl _ _).alloc (Nat.le_refl _) _
end Go.Proofs.YtlciaafincgdeaaGreatDoor
