/-
  Slices of bytes in memory: what one reads as (Sl), that one may be appended to in place (Own), which blocks a step has turned (Turned); append of two such slices, for every program.
-/
import Derived.WalkKit
import Derived.Below
import Derived.OwnWalk
import Derived.Laws.AppendOwn
import Derived.Laws.IdiomCopy
import Derived.Deep.AppendSrc
import Derived.RegionTactic
import Derived.WalkSmall
namespace Go.Proofs.YtlciaafincgdeaaGreatDoor
open Go.RowKit
structure Turned (S:Nat→Prop) (w w':World):Prop where
 os:w'.os=w.os
 tape:w'.tape=w.tape
 output:w'.output=w.output
 size:w.heap.size≤w'.heap.size
 block:∀ k,k < w.heap.size→¬ S k→w'.heap[k]? = w.heap[k]?
theorem Turned.refl (S:Nat→Prop) (w:World):Turned S w w:=⟨rfl,rfl,rfl,Nat.le_refl _,fun _ _ _=>rfl⟩
theorem Turned.trans {S T:Nat→Prop} {a b c:World} (h:Turned S a b) (k:Turned T b c) (hT:∀ i,T i→S i∨a.heap.size≤i):Turned S a c:=
 ⟨k.os.trans h.os,k.tape.trans h.tape,k.output.trans h.output,Nat.le_trans h.size k.size,fun i hi hs=>(k.block i (Nat.lt_of_lt_of_le hi h.size) (fun ht=>(hT i ht).elim hs (by omega))).trans (h.block i hi hs)⟩
theorem Turned.mono {S T:Nat→Prop} {a b:World} (h:Turned S a b) (hT:∀ i,S i→T i∨a.heap.size≤i):Turned T a b:=
 ⟨h.os,h.tape,h.output,h.size,fun i hi ht=>h.block i hi (fun hs=>(hT i hs).elim ht (by omega))⟩
theorem Turned.below {S:Nat→Prop} {a b:World} (h:Turned S a b) {B:Nat} (hB:B≤a.heap.size) (hS:∀ i,S i→B≤i):Below B a b:=
 ⟨h.os,h.tape,h.output,h.size,fun i hi=>h.block i (by omega) (fun hs=>by have:=hS i hs; omega)⟩
theorem Turned.ofBelow {S:Nat→Prop} {a b:World} (h:Below a.heap.size a b):Turned S a b:=⟨h.os,h.tape,h.output,h.size,fun i hi _=>h.block i hi⟩
theorem Turned.cell {S:Nat→Prop} {a b:World} (h:Turned S a b) {p:Addr} {v:Value} (hv:a.cell? p=some v) (hs:¬ S p.block):b.cell? p=some v:=
 (World.cell?_of_block (w:=a) (h.block p.block (World.block_lt_of_cell? a _ hv) hs)).trans hv
theorem Turned.frozen {S:Nat→Prop} {a b:World} (h:Turned S a b) {p:Addr} (hp:p.block < a.heap.size) (hs:¬ S p.block):b.frozen? p=a.frozen? p:=World.frozen?_of_block (w:=a) (h.block p.block hp hs)
theorem Turned.setCell (w:World) (a:Addr) (u:Value):Turned (fun k=>k=a.block) w (w.setCell a u):=
 ⟨rfl,rfl,rfl,by simp [World.setCell],fun k _ hk=>Below.heap_setCell _ _ _ _ hk⟩
theorem Turned.drew (S:Nat→Prop) (w:World):Turned S w w.drew:=⟨rfl,rfl,rfl,Nat.le_refl _,fun _ _ _=>rfl⟩
theorem Turned.alloc (S:Nat→Prop) (w:World) (o:Obj):Turned S w (w.alloc o):=Turned.ofBelow ((Below.refl _ _).alloc (Nat.le_refl _) o)
def blk:Value→Nat→Prop
 | .slice (some a) _ _,k=>a.block=k
 | _,_=>False
def Sl (w:World) (v:Value) (zs:List Int):Prop:=
 (v=.slice none 0 0∧zs=[])∨(∃ a,v=.slice (some a) 0 0∧zs=[])∨∃ g off cap,v=.slice (some ⟨g,off,none⟩) zs.length cap∧zs.length≤cap∧cap≤maxLen∧∀ j (h:j < zs.length),w.cell? ⟨g,off+j,none⟩=some (.int .u8 zs[j])
def Own (w:World) (v:Value) (zs:List Int):Prop:=
 (v=.slice none 0 0∧zs=[])∨∃ g off cap,v=.slice (some ⟨g,off,none⟩) zs.length cap∧zs.length≤cap∧cap≤maxLen∧g < w.heap.size∧(∀ j (h:j < zs.length),w.cell? ⟨g,off+j,none⟩=some (.int .u8 zs[j])) ∧
  (∀ j,j < cap→(w.cell? ⟨g,off+j,none⟩).isSome=true∧w.frozen? ⟨g,off+j,none⟩=false)
theorem Own.sl {w:World} {v:Value} {zs:List Int} (h:Own w v zs):Sl w v zs:=by
 rcases h with h | ⟨g,off,cap,h1,h2,h3,_,h4,_⟩
 ·exact .inl h
 ·exact .inr (.inr ⟨g,off,cap,h1,h2,h3,h4⟩)
theorem Sl.turned {S:Nat→Prop} {w w':World} {v:Value} {zs:List Int} (h:Sl w v zs) (ht:Turned S w w') (hs:∀ k,blk v k→¬ S k):Sl w' v zs:=by
 rcases h with h | h | ⟨g,off,cap,rfl,h2,h3,h4⟩
 ·exact .inl h
 ·exact .inr (.inl h)
 ·exact .inr (.inr ⟨g,off,cap,rfl,h2,h3,fun j hj=>ht.cell (h4 j hj) (hs g rfl)⟩)
theorem Own.turned {S:Nat→Prop} {w w':World} {v:Value} {zs:List Int} (h:Own w v zs) (ht:Turned S w w') (hs:∀ k,blk v k→¬ S k):Own w' v zs:=by
 rcases h with h | ⟨g,off,cap,rfl,h2,h3,hg,h4,h5⟩
 ·exact .inl h
 ·refine .inr ⟨g,off,cap,rfl,h2,h3,Nat.lt_of_lt_of_le hg ht.size,fun j hj=>ht.cell (h4 j hj) (hs g rfl),fun j hj=>?_⟩
  obtain ⟨u,hu⟩:=Option.isSome_iff_exists.1 (h5 j hj).1
  exact ⟨by rw [ht.cell hu (hs g rfl)]; rfl,by rw [ht.frozen (p:=⟨g,off+j,none⟩) hg (hs g rfl)]; exact (h5 j hj).2⟩
theorem Own.blk_lt {w:World} {v:Value} {zs:List Int} (h:Own w v zs):∀ k,blk v k→k < w.heap.size:=by
 rcases h with ⟨rfl,_⟩ | ⟨g,off,cap,rfl,_,_,hg,_⟩
 ·intro k hk; exact hk.elim
 ·intro k hk; exact (show g=k from hk) ▸ hg
structure ByteTypes (P:Program) (t e:TypeId):Prop where
 slice:P.underlying t=some (.slice e)
 info:∃ i,P.info? e=some i∧i.zero=some (.int .u8 0)∧i.size=1∧i.bytes=1
def cellsOfBytes (zs:List Int):List Value:=zs.map fun z=>.int .u8 z
theorem cellsOfBytes_length (zs:List Int):(cellsOfBytes zs).length=zs.length:=by simp [cellsOfBytes]
theorem cellsOfBytes_one (zs:List Int):∀ u∈cellsOfBytes zs,u.oneCell'=true:=by
 intro u hu; obtain ⟨z,_,rfl⟩:=List.mem_map.1 hu; rfl
theorem Sl.src {P:Program} {t e:TypeId} (hB:ByteTypes P t e) {w:World} {x:Value} {ys:List Int} (h:Sl w x ys):Src P 1 t x ys.length (cellsOfBytes ys) w:=by
 rcases h with ⟨rfl,rfl⟩ | ⟨a,rfl,rfl⟩ | ⟨g,off,cap,rfl,_,_,h4⟩
 ·exact Src.ofNil w hB.slice 0
 ·exact Src.ofSlice w hB.slice a 0 0 [] rfl (fun j u hj=>by simp at hj) (fun u hu=>by cases hu)
 ·refine Src.ofSlice w hB.slice _ _ _ _ (by rw [cellsOfBytes_length]; omega) (fun j u hj=>?_) (cellsOfBytes_one ys)
  simp only [cellsOfBytes,List.getElem?_map,Option.map_eq_some_iff] at hj
  obtain ⟨z,hz,rfl⟩:=hj
  obtain ⟨hlt,rfl⟩:=List.getElem?_eq_some_iff.1 hz
  rw [Addr.add_lit]; exact h4 j hlt
theorem Own.first {P:Program} {w:World} {v:Value} {xs:List Int} (h:Own w v xs):∃ a cap,v=.slice a xs.length cap∧(Builtin.firstCells 1 xs.length v).run P w.drew=.ok (cellsOfBytes xs).toArray w.drew∧(a=none→xs.length=0∧cap=0):=by
 rcases h with ⟨rfl,rfl⟩ | ⟨g,off,cap,rfl,_,_,_,h4,_⟩
 ·exact ⟨none,0,rfl,run_firstCells_none w.drew 1 0 0 0,fun _=>⟨rfl,rfl⟩⟩
 ·refine ⟨_,cap,rfl,run_firstCells_some w.drew 1 _ _ _ _ _ (by rw [cellsOfBytes_length]; omega) (fun j u hj=>?_),fun h=>by cases h⟩
  simp only [cellsOfBytes,List.getElem?_map,Option.map_eq_some_iff] at hj
  obtain ⟨z,hz,rfl⟩:=hj
  obtain ⟨hlt,rfl⟩:=List.getElem?_eq_some_iff.1 hz
  rw [Addr.add_lit]; exact h4 j hlt
theorem Turned.setCells (b:Nat) (vs:List Value):∀ (o:Nat) (w:World),Turned (fun k=>k=b) w (w.setCells b o vs):=by
 induction vs with
 | nil=>intro o w; rw [World.setCells.eq_1]; exact Turned.refl _ _
 | cons v r ih=>intro o w; rw [World.setCells.eq_2]; exact (Turned.setCell w ⟨b,o,none⟩ v).trans (ih (o+1) _) (fun _ h=>.inl h)
theorem run_append_bytes {P:Program} {t e:TypeId} (hB:ByteTypes P t e) (ty:TypeId) {w:World} {v x:Value} {xs ys:List Int} (hv:Own w v xs) (hx:Sl w x ys) (hfit:xs.length+ys.length≤70368744177664) :
  ∃ v' w',(Builtin.append_ #[t,t] ty #[v,x]).run P w=.ok v' w'∧Own w' v' (xs++ys)∧Turned (blk v) w w'∧∀ k,blk v' k→blk v k∨k=w.heap.size:=by
 obtain ⟨i,hi,hz,hsz,hby⟩:=hB.info
 have hsrc:=hx.src (P:=P) hB
 obtain ⟨a,cap,rfl,hold,hnone⟩:=hv.first (P:=P)
 by_cases hroom:xs.length+ys.length≤cap
 ·cases a with
  | none=>
   obtain ⟨h1,h2⟩:=hnone rfl
   have hx0:xs=[]:=List.eq_nil_of_length_eq_zero h1
   have hy0:ys=[]:=List.eq_nil_of_length_eq_zero (by omega)
   subst hx0 hy0 h2
   refine ⟨.slice none 0 0,w,?_,.inl ⟨rfl,rfl⟩,Turned.refl _ _,fun k hk=>hk.elim⟩
   have hl:=hsrc.len w
   have hc:=hsrc.cells
   simp [cellsOfBytes] at hl hc
   simp [Builtin.append_,run_underlying hB.slice,sizeOf,typeInfo,hi,hsz,hl,hc]
  | some a=>
   rcases hv with ⟨h,_⟩ | ⟨g,off,cap',h,h2,h3,hg,h4,h5⟩
   ·cases h
   ·cases h
    have hrun:=run_append_room_src (P:=P) w t t ty e i hB.slice hi g off xs.length cap x ys.length (cellsOfBytes ys) (by rw [hsz]; exact hsrc) hroom (fun j hj=>by rw [cellsOfBytes_length] at hj; rw [hsz,Nat.mul_one,Nat.add_assoc]; exact (h5 _ (by omega)).1) (fun j hj=>by rw [cellsOfBytes_length] at hj; rw [hsz,Nat.mul_one,Nat.add_assoc]; exact (h5 _ (by omega)).2)
    rw [hsz,Nat.mul_one] at hrun
    have ht:=Turned.setCells g (cellsOfBytes ys) (off+xs.length) w
    have hin:=World.cell?_setCells_in g (cellsOfBytes ys) (off+xs.length) w (fun j hj=>by rw [cellsOfBytes_length] at hj; rw [Nat.add_assoc]; exact (h5 _ (by omega)).1)
    have hout:=World.cell?_setCells_out g (cellsOfBytes ys) (off+xs.length) w
    refine ⟨_,_,hrun,.inr ⟨g,off,cap,by simp,by simpa using hroom,h3,Nat.lt_of_lt_of_le hg ht.size,fun j hj=>?_,fun j hj=>⟨?_,?_⟩⟩,ht.mono (fun k hk=>.inl hk.symm),fun k hk=>.inl hk⟩
    ·by_cases hjx:j < xs.length
     ·rw [hout ⟨g,off+j,none⟩ (fun _ _=>.inl (by simp; omega)),h4 j hjx,List.getElem_append_left hjx]
     ·have hjy:j - xs.length < (cellsOfBytes ys).length:=by rw [cellsOfBytes_length]; simp at hj; omega
      have:=hin (j - xs.length) hjy
      rw [show off+xs.length+(j - xs.length)=off+j by omega] at this
      rw [this,List.getElem_append_right (by omega)]
      simp [cellsOfBytes]
    ·by_cases hjo:j < xs.length∨xs.length+ys.length≤j
     ·rw [hout ⟨g,off+j,none⟩ (fun _ _=>by rw [cellsOfBytes_length]; simp; omega)]; exact (h5 j hj).1
     ·have hjy:j - xs.length < (cellsOfBytes ys).length:=by rw [cellsOfBytes_length]; omega
      have:=hin (j - xs.length) hjy
      rw [show off+xs.length+(j - xs.length)=off+j by omega] at this
      rw [this]; rfl
    ·rw [World.frozen?_setCells]; exact (h5 j hj).2
 ·have hnext:=nextslicecap_le (need:=xs.length+ys.length) (old:=cap) (by omega)
  have hrun:=run_append_grow_src (P:=P) w t t ty e i (.int .u8 0) hB.slice hi hz a xs.length cap (cellsOfBytes xs) (by rw [hsz]; exact hold) x ys.length (cellsOfBytes ys) (by rw [hsz]; exact hsrc) (by omega) (by omega) (by rw [hby]; omega)
  have hge:=grownCap_ge w (xs.length+ys.length) cap e
  have hle:=grownCap_le_maxLen w (xs.length+ys.length) cap e (by unfold maxLen; omega)
  generalize grownCap w (xs.length+ys.length) cap e=c at hrun hge hle
  refine ⟨_,_,hrun,.inr ⟨w.heap.size,0,c,by simp,by simpa using hge,hle,by simp,fun j hj=>?_,fun j hj=>?_⟩,(Turned.drew _ _).trans (T:=fun _=>False) (Turned.alloc _ _ _) (fun _ h=>h.elim),fun k hk=>.inr hk.symm⟩
  ·have hj2:j < xs.length+ys.length:=by simpa using hj
   rw [World.cell?_alloc_at _ _ _ _ (by simp),Nat.zero_add,Array.getElem?_append_left (by simp [cellsOfBytes]; omega)]
   simp only [List.getElem?_toArray]
   rw [show cellsOfBytes xs++cellsOfBytes ys=cellsOfBytes (xs++ys) by simp [cellsOfBytes]]
   simp only [cellsOfBytes,List.getElem?_map,List.getElem?_eq_getElem hj,Option.map_some]
  ·refine ⟨?_,by rw [show w.heap.size=w.drew.heap.size from rfl,World.frozen?_alloc_new]⟩
   rw [World.cell?_alloc_at _ _ _ _ (by simp),Nat.zero_add]
   simp [cellsOfBytes,size_zeroCells,Value.cells]
   omega
section
variable {P:Program} {t e:TypeId} {w:World} {v x:Value} {xs ys:List Int}
theorem wp_append_bytes {o:Oper} {a:Act} {K:Act→World→Prop} {Q:Exit→Act→World→Prop} (s y:Operand) (ho:o.op=.call { callee:=.builtin .append,args:=#[s,y],argTypes:=#[t,t] })
  (hB:ByteTypes P t e) (hs:a.eval s=v) (hy:a.eval y=x) (hv:Own w v xs) (hx:Sl w x ys) (hfit:xs.length+ys.length≤70368744177664)
  (h:∀ v' w',Own w' v' (xs++ys)→Turned (blk v) w w'→(∀ k,blk v' k→blk v k∨k=w.heap.size)→K (a.put o.dst v') w'):o.wp P a w K Q:=by
 obtain ⟨v',w',hr,h1,h2,h3⟩:=run_append_bytes hB o.type hv hx hfit
 unfold Oper.wp execOp
 simp only [ho,resolve,invoke,builtin,Sem.run_bind,Sem.run_pure,Result.andThen_ok,List.map_toArray,List.map_cons,List.map_nil,hs,hy,hr]
 exact h v' w' h1 h2 h3
theorem wpList_append_bytes {ops:Array Oper} {rest:List Oper} {o:Oper} {a:Act} {Q:Exit→Act→World→Prop} (hgd:o.guard=none) (s y:Operand) (ho:o.op=.call { callee:=.builtin .append,args:=#[s,y],argTypes:=#[t,t] })
  (hB:ByteTypes P t e) (hs:a.eval s=v) (hy:a.eval y=x) (hv:Own w v xs) (hx:Sl w x ys) (hfit:xs.length+ys.length≤70368744177664)
  (h:∀ v' w',Own w' v' (xs++ys)→Turned (blk v) w w'→(∀ k,blk v' k→blk v k∨k=w.heap.size)→wpList P ops Q rest (a.put o.dst v') w'):wpList P ops Q (o :: rest) a w:=
 wpList_plain hgd fun _ hK=>wp_append_bytes s y ho hB hs hy hv hx hfit fun v' w' h1 h2 h3=>hK _ _ (h v' w' h1 h2 h3)
theorem step_append_bytes {ops:Array Oper} {o:Oper} {a:Act} {K:Act→World→Prop} {Q:Exit→Act→World→Prop} {E:Prop} (hgd:o.guard=none) (s y:Operand) (ho:o.op=.call { callee:=.builtin .append,args:=#[s,y],argTypes:=#[t,t] })
  (hB:ByteTypes P t e) (hs:a.eval s=v) (hy:a.eval y=x) (hv:Own w v xs) (hx:Sl w x ys) (hfit:xs.length+ys.length≤70368744177664)
  (h:∀ v' w',Own w' v' (xs++ys)→Turned (blk v) w w'→(∀ k,blk v' k→blk v k∨k=w.heap.size)→K (a.put o.dst v') w') :
  if Region.wanted o (yielded ops a.tmps)=true then Oper.wp P o a w K Q else E:=by
 rw [if_pos (by simp [Region.wanted,hgd])]
 exact wp_append_bytes s y ho hB hs hy hv hx hfit h
end
theorem Sl.form {w:World} {v:Value} {zs:List Int} (h:Sl w v zs):∃ a cap,v=.slice a zs.length cap∧zs.length≤cap∧cap≤maxLen:=by
 rcases h with ⟨rfl,rfl⟩ | ⟨a,rfl,rfl⟩ | ⟨g,off,cap,rfl,h2,h3,_⟩
 ·exact ⟨none,0,rfl,Nat.le_refl _,Nat.zero_le _⟩
 ·exact ⟨some a,0,rfl,Nat.le_refl _,Nat.zero_le _⟩
 ·exact ⟨_,cap,rfl,h2,h3⟩
theorem Own.empty (w:World) (t:TypeId) (H:Nat) (hH:H=w.heap.size):Own (w.alloc (.cells #[] t)) (.slice (some ⟨H,0,none⟩) 0 0) []:=
 .inr ⟨H,0,0,rfl,Nat.le_refl _,Nat.zero_le _,by subst hH; simp,fun j h=>absurd h (Nat.not_lt_zero j),fun j h=>absurd h (Nat.not_lt_zero j)⟩
def Block (w:World) (g n:Nat) (f:Nat→Value):Prop:=∀ j,j < n→w.cell? ⟨g,j,none⟩=some (f j)∧w.frozen? ⟨g,j,none⟩=false
theorem Block.turned {S:Nat→Prop} {w w':World} {g n:Nat} {f:Nat→Value} (h:Block w g n f) (ht:Turned S w w') (hs:¬ S g):Block w' g n f:=fun j hj=>
 ⟨ht.cell (h j hj).1 hs,by rw [ht.frozen (p:=⟨g,j,none⟩) (World.block_lt_of_cell? w _ (h j hj).1) hs]; exact (h j hj).2⟩
theorem Block.set {w:World} {g n:Nat} {f:Nat→Value} (h:Block w g n f) (i:Nat) (v:Value):Block (w.setCell ⟨g,i,none⟩ v) g n (fun j=>if j=i then v else f j):=fun j hj=>by
 refine ⟨?_,by rw [World.frozen?_setCell]; exact (h j hj).2⟩
 by_cases hji:j=i
 ·subst hji; show _=some (if j=j then v else f j); rw [if_pos rfl]; exact World.cell?_setCell_same _ _ _ (h j hj).1
 ·show _=some (if j=i then v else f j); rw [if_neg hji,World.cell?_setCell_other _ _ _ _ (fun e=>hji (by have:=congrArg Addr.off e; simpa using this.symm))]; exact (h j hj).1
theorem Block.congr {w:World} {g n:Nat} {f f':Nat→Value} (h:Block w g n f) (hf:∀ j,j < n→f j=f' j):Block w g n f':=fun j hj=>by rw [← hf j hj]; exact h j hj
theorem Block.lt {w:World} {g n:Nat} {f:Nat→Value} (h:Block w g n f) (hn:0 < n):g < w.heap.size:=World.block_lt_of_cell? w _ (h 0 hn).1
end Go.Proofs.YtlciaafincgdeaaGreatDoor
