/-
  Layer 11 (parse): nodes in memory; cells that may be written.
  Layer 11 (parse), of lists alone: what is below some nodes. The program's meet.
  Layer 11 (parse): the program's Below.
  Layer 11 (parse), of lists alone: heights of nodes.
  Layer 11 (parse): nodes in memory, as arguments.
  Layer 11 (parse), of lists alone: what is below a node rises, and holds the lower Kids of what it holds.
-/
import Derived.Test.YtlciaafincgdeaaGreatDoorZam
import Derived.Defers
import Derived.Recover
import Derived.Laws.MakeOwn
namespace Go.Proofs.YtlciaafincgdeaaGreatDoor
open Go.RowKit
variable {K:List (Value × List Int)} {N:List Nd} {Nv v:Value} {S:Nat→Prop} {T:List Tk} {a:Option Addr} {cap g k n:Nat} {l:List Int} {m:List Bool} {w w':World}
set_option maxHeartbeats 6400000
set_option maxRecDepth 100000
theorem ps_idle (a b c:Value) (w:World):CallsD Tryz.prog 47 #[a,b,c] .returning w fun e u' w'=>e=.returned (.tuple #[])∧u'=.returning∧w'=w:=by
 refine callsD_of_wpS Tryz.func47 rfl fun c₀ cs hu=>?_
 apply wpS_seq
 apply wpS_region
 simp [wpOpsS,go_sem,recoverD,hu,Tryz.ntmps47,Exit.thenS]
 apply wpS_seq
 apply wpS_region
 simp [wpOpsS,go_sem,Array.replicate,Exit.thenS]
 refine wpS_cond (t:=false) (by simp [Act.eval]) ?_
 simp only [Bool.false_eq_true,if_false]
 refine wpS_of_wp (wp_skip ?_)
 cases c₀
 simp_all [bodyPostS,results,Tryz.results47]
structure NodesAt (w:World) (Nv:Value) (N:List Nd):Prop where
 own:OwnK 6 w Nv N.length (nds N)
 kid:∀ j (h:j < N.length),SlI w N[j].kv N[j].kids
 off:∀ j (h:j < N.length) k,blk N[j].kv k→¬ blk Nv k
theorem PAt.nodes {Tv:Value} {i:Nat} (h:PAt w g Tv T i Nv N):NodesAt w Nv N:=⟨h.own,fun j hj=>OwnK.sl (h.kid j hj).1,fun j hj k hk=>((h.kid j hj).2 k hk).2.1⟩
theorem NodesAt.turned (h:NodesAt w Nv N) (T:Turned S w w') (hn:∀ k,blk Nv k→¬ S k) (hk:∀ j (h:j < N.length) k,blk N[j].kv k→¬ S k):NodesAt w' Nv N:=⟨h.own.turned T hn,fun j hj=>SlK.turned (h.kid j hj) T (hk j hj),h.off⟩
def Cl (w:World) (k:Nat) (v:Value):Prop:=w.cell? ⟨k,0,none⟩=some v∧w.frozen? ⟨k,0,none⟩=false
theorem Cl.new (w:World) (v:Value) (t:TypeId):Cl (w.alloc (.cells #[v] t)) w.heap.size v:=⟨by simp,by rw [World.frozen?_alloc_new]⟩
theorem Cl.turned (h:Cl w k v) (T:Turned S w w') (hs:¬ S k):Cl w' k v:=⟨T.cell h.1 hs,by rw [T.frozen (p:=⟨k,0,none⟩) (World.block_lt_of_cell? w _ h.1) hs]; exact h.2⟩
theorem Cl.alloc (h:Cl w k v) (o:Obj):Cl (w.alloc o) k v:=h.turned (Turned.alloc (fun _=>False) w o) (fun e=>e)
theorem PAt.start {aT:Option Addr} {cT:Nat} (hT:0 < T.length) (hT2:T.length≤65536) (h:SlK 4 w (.slice aT T.length cT) T.length (toks T)):PAt (w.alloc (.cells #[.slice aT T.length cT,.int .i64 0,.slice none 0 0] 89)) w.heap.size (.slice aT T.length cT) T 0 (.slice none 0 0) []:=
 ⟨by simp,⟨by simp,by rw [World.frozen?_alloc_new]⟩,⟨by simp,by rw [World.frozen?_alloc_new]⟩,h.turned (Turned.alloc (fun _=>False) _ _) (fun _ _ e=>e),fun k hk=>⟨by have:=h.blk_lt (by omega) hT k hk; omega,fun e=>e⟩,OwnK.nil 6 _,fun e=>e,fun j hj=>absurd hj (Nat.not_lt_zero j),Nat.zero_le _,hT2⟩
def markL (p:Int→Bool):List Int→List Bool→List Bool
 | [],m=>m
 | k :: ks,m=>markL p ks (if p k then m.set k.toNat true else m)
def lowB (i:Int) (k:Int):Bool:=decide (0≤k∧k < i)
def downS (kids:Nat→List Int):Nat→List Bool→List Bool
 | 0,m=>m
 | i+1,m=>downS kids i (if (m[i]?).getD false then markL (lowB i) (kids i) m else m)
def marked:Nat→List Bool→List Int
 | _,[]=>[]
 | i,b :: r=>if b then (i:Int) :: marked (i+1) r else marked (i+1) r
def belowS (n:Nat) (kids:Nat→List Int) (roots:List Int):List Int:=marked 0 (downS kids n (markL (lowB n) roots (List.replicate n false)))
theorem markL_length (p:Int→Bool):∀ (l:List Int) (m:List Bool),(markL p l m).length=m.length
 | [],_=>rfl
 | k :: ks,m=>by rw [markL,markL_length p ks]; split <;> simp
theorem downS_length (kids:Nat→List Int):∀ (i:Nat) (m:List Bool),(downS kids i m).length=m.length
 | 0,_=>rfl
 | i+1,m=>by rw [downS,downS_length kids i]; split <;> simp [markL_length]
theorem marked_le:∀ (l:List Bool) (i:Nat),(marked i l).length≤l.length
 | [],_=>Nat.le_refl _
 | b :: r,i=>by
  have:=marked_le r (i+1)
  rw [marked]
  split <;> simp <;> omega
theorem belowS_le (n:Nat) (kids:Nat→List Int) (roots:List Int):(belowS n kids roots).length≤n:=by
 have:=marked_le (downS kids n (markL (lowB n) roots (List.replicate n false))) 0
 rw [downS_length,markL_length,List.length_replicate] at this
 exact this
structure MetAt (w:World) (g:Nat) (m:List Bool):Prop where
 lt:g < w.heap.size
 c:∀ j (h:j < m.length),w.cell? ⟨g,j,none⟩=some (.bool m[j])∧w.frozen? ⟨g,j,none⟩=false
theorem MetAt.turned (h:MetAt w g m) (T:Turned S w w') (hs:¬ S g):MetAt w' g m:=
 ⟨Nat.lt_of_lt_of_le h.lt T.size,fun j hj=>⟨T.cell (h.c j hj).1 hs,by rw [T.frozen (p:=⟨g,j,none⟩) h.lt hs]; exact (h.c j hj).2⟩⟩
theorem MetAt.set (h:MetAt w g m) (k:Nat) (hk:k < m.length):MetAt (w.setCell ⟨g,k,none⟩ (.bool true)) g (m.set k true):=by
 refine ⟨by simp [World.setCell]; exact h.lt,fun j hj=>⟨?_,by rw [World.frozen?_setCell]; exact (h.c j (by simpa using hj)).2⟩⟩
 have hj':j < m.length:=by simpa using hj
 by_cases hkj:k=j
 ·subst hkj
  rw [World.cell?_setCell_same _ _ _ (h.c k hk).1]
  simp
 ·rw [World.cell?_setCell_other _ _ _ _ (by simp; try omega),(h.c j hj').1]
  simp [List.getElem_set_ne hkj]
def SlA (w:World) (v:Value) (l:List Int):Prop:=(∃ a cap,v=.slice a 0 cap∧l=[])∨∃ g off cap,v=.slice (some ⟨g,off,none⟩) l.length cap∧l.length≤4611686018427387903∧∀ j (h:j < l.length),w.cell? ⟨g,off+j,none⟩=some (.int .i64 l[j])
theorem SlA.form (h:SlA w v l):∃ a cap,v=.slice a l.length cap∧l.length≤4611686018427387903:=by
 rcases h with ⟨a,cap,rfl,rfl⟩ | ⟨g,off,cap,rfl,h2,_⟩
 ·exact ⟨a,cap,rfl,by simp⟩
 ·exact ⟨_,cap,rfl,h2⟩
theorem SlA.at (h:SlA w (.slice a l.length cap) l) (j:Nat) (hj:j < l.length):∃ g off,a=some ⟨g,off,none⟩∧w.cell? ⟨g,off+j,none⟩=some (.int .i64 l[j]):=by
 rcases h with ⟨a',cap',_,rfl⟩ | ⟨g,off,cap',e,_,hc⟩
 ·simp at hj
 ·simp only [Value.slice.injEq,true_and] at e
  exact ⟨g,off,e.1,hc j hj⟩
theorem SlA.blk (h:SlA w v l) (hl:0 < l.length):∀ k,Go.Proofs.YtlciaafincgdeaaGreatDoor.blk v k→k < w.heap.size:=by
 rcases h with ⟨a,cap,rfl,rfl⟩ | ⟨g,off,cap,rfl,_,hc⟩
 ·simp at hl
 ·intro k hk
  exact (show g=k from hk) ▸ World.block_lt_of_cell? w _ (hc 0 hl)
theorem SlA.turned (h:SlA w v l) (T:Turned S w w') (hs:0 < l.length→∀ k,Go.Proofs.YtlciaafincgdeaaGreatDoor.blk v k→¬ S k):SlA w' v l:=by
 rcases h with h | ⟨g,off,cap,rfl,h2,hc⟩
 ·exact .inl h
 ·exact .inr ⟨g,off,cap,rfl,h2,fun j hj=>T.cell (hc j hj) (hs (by omega) g rfl)⟩
theorem SlI.any (h:SlI w v l) (hl:l.length≤4611686018427387903):SlA w v l:=by
 obtain ⟨_,⟨rfl,h0⟩ | ⟨g,off,cap,rfl,_,_,hc⟩⟩:=h
 ·exact .inl ⟨none,0,rfl,List.eq_nil_of_length_eq_zero h0⟩
 ·exact .inr ⟨g,off,cap,rfl,hl,fun j hj=>by rw [hc j (by rw [ints_length]; exact hj)]; simp [ints]⟩
theorem ps_isLower (k i:Int) (w:World):Calls Tryz.prog 79 #[.int .i64 k,.int .i64 i] w fun e w'=>e=.returned (.bool (lowB i k))∧w=w':=by
 go_enter Tryz.func79,Tryz.ntmps79
 go_wp2
 all_goals go_ret
 all_goals
  refine ⟨congrArg Ending.returned (congrArg Value.bool ?_),rfl⟩
  rw [Bool.eq_iff_iff]
  simp [lowB]
  try omega
theorem ps_isNode (a:Option Addr) (n cap:Nat) (k:Int) (w:World):Calls Tryz.prog 50 #[.slice a n cap,.int .i64 k] w fun e w'=>e=.returned (.bool (lowB n k))∧w=w':=by
 go_enter Tryz.func50,Tryz.ntmps50
 go_wp2
 all_goals go_ret
 all_goals
  refine ⟨congrArg Ending.returned (congrArg Value.bool ?_),rfl⟩
  rw [Bool.eq_iff_iff]
  simp [lowB]
  try omega
theorem make_one {P:Program} {t e:TypeId} {b:Nat} {z:Value} (hB:ElTypes P t e 1 b z) (hz1:z.cells=#[z]) (w:World) (n:Nat) (h:b*n≤281474976710656) (hn:n≤4611686018427387903):∃ w1,(Instr.makeSlice t (.int .i64 (n:Int)) (.int .i64 (n:Int))).run P w=.ok (.slice (some ⟨w.heap.size,0,none⟩) n n) w1∧Below w.heap.size w w1∧w.heap.size < w1.heap.size∧Block w1 w.heap.size n (fun _=>z):=by
 obtain ⟨i,hi,hz,hsz,hby⟩:=hB.info
 have hb':(b:Int)*(n:Int)≤281474976710656:=by
  have h:((b*n:Nat):Int)≤281474976710656:=by omega
  rwa [Int.natCast_mul] at h
 have hr:=run_make (P:=P) w t e i z hB.slice hi hz .i64 .i64 n n (by omega) (by omega) (by rw [hby]; exact hb') (by omega)
 rw [Int.toNat_natCast,hsz,Nat.mul_one] at hr
 refine ⟨_,hr,Below.alloc0 w _,by simp,fun j hj=>⟨?_,by rw [World.frozen?_alloc_new]⟩⟩
 rw [World.cell?_alloc_at _ _ _ _ rfl]
 have hj':j < (madeCells z.cells n).size:=by rw [size_madeCells]; exact hj
 rw [Array.getElem?_eq_getElem hj']
 simp [madeCells,hz1,Nat.mod_one]
theorem Tryz.boolTypes:ElTypes Tryz.prog 90 4 1 1 (.bool false):=by
 refine ⟨Tryz.underlying90,?_,by simp [Value.cells]⟩
 have h:(Tryz.prog.info? 4).map (fun i=>(i.zero,i.size,i.bytes))=some (some (.bool false),1,1):=by kernel_rfl
 obtain ⟨i,hi,h0,h1,h2⟩:=info_parts h
 exact ⟨i,hi,h0,h1,h2⟩
theorem markL_drop (p:Int→Bool) (l:List Int) (j:Nat) (hj:j < l.length) (m:List Bool):markL p (l.drop j) m=markL p (l.drop (j+1)) (if p l[j] then m.set l[j].toNat true else m):=by
 rw [List.drop_eq_getElem_cons hj,markL]
theorem ps_meet (hm:MetAt w g m) (hl:SlA w v l) (hg:0 < l.length→∀ k,blk v k→k≠g) (i:Nat) (hi:i≤m.length):Calls Tryz.prog 51 #[.slice (some ⟨g,0,none⟩) m.length m.length,v,.int .i64 i] w fun x w'=>x=.returned (.tuple #[])∧MetAt w' g (markL (lowB i) l m)∧Turned (fun k=>k=g) w w':=by
 obtain ⟨a,cap,hv,hll⟩:=hl.form
 subst hv
 have HL:=Hid.mk7 hl
 have HG:=Hid.mk7 hg
 have HM:=Hid.mk7 hm
 clear hl hg hm
 go_enter Tryz.func51,Tryz.ntmps51
 go_wp2_with fail
 go_loopw [10] (fun ix wr=>∃ (j:Nat) (mr:List Bool),j≤l.length∧ix=.int .i64 j∧mr.length=m.length∧markL (lowB i) (l.drop j) mr=markL (lowB i) l m∧MetAt wr g mr∧Turned (fun k=>k=g) w wr) (fun ix _=>l.length - (intOf ix).toNat)
 case atStart=>exact ⟨0,m,Nat.zero_le _,rfl,rfl,rfl,HM.out,Turned.refl _ _⟩
 case round=>
  obtain ⟨j,mr,hj,rfl,hlen,hrest,hmr,ht⟩:=hrel
  have H:=Hid.mk7 (And.intro hrest (And.intro hmr ht))
  by_cases hlt:j < l.length
  ·have hji:(j:Int) < (l.length:Int):=by omega
   obtain ⟨b,off,rfl,hc⟩:=(HL.out.turned ht (fun h0 k hk e=>HG.out h0 k hk e)).at j hlt
   have hlow:=ps_isLower l[j] i
   have hstep:=markL_drop (lowB i) l j hlt mr
   cases hb:lowB i l[j] with
   | true=>
    simp only [hb] at hlow hstep
    have hx:0≤l[j]∧l[j] < (i:Int):=by simpa [lowB] using hb
    obtain ⟨q,hq⟩:∃ q:Nat,l[j]=(q:Int):=⟨l[j].toNat,by omega⟩
    have hqi:q < mr.length:=by omega
    have hqi':(q:Int) < (m.length:Int):=by omega
    obtain ⟨cq,fq⟩:=hmr.c q hqi
    rw [hq] at hc hlow
    have HN:=Hid.mk7 (And.intro (show markL (lowB i) (l.drop (j+1)) (mr.set q true)=markL (lowB i) l m by rw [← hrest,hstep,hq]; simp) (And.intro (hmr.set q hqi) (ht.trans (Turned.set1 _ g q (.bool true)) (fun _ e=>.inl e))))
    clear hrest hmr ht hstep hb hx H
    go_wp2_with (go_at_call 79; refine (hlow _).mono ?_; rintro e w1 ⟨rfl,rfl⟩)
    go_roundw
    case rel=>exact ⟨j+1,mr.set q true,by omega,by go_num,by simpa using hlen,HN.out.1,HN.out.2.1,HN.out.2.2⟩
    case measure=>simp [intOf]; omega
   | false=>
    simp only [hb] at hlow hstep
    have HN:=Hid.mk7 (And.intro (show markL (lowB i) (l.drop (j+1)) mr=markL (lowB i) l m by rw [← hrest,hstep]; simp) (And.intro hmr ht))
    clear hrest hmr ht hstep hb H
    go_wp2_with (go_at_call 79; refine (hlow _).mono ?_; rintro e w1 ⟨rfl,rfl⟩)
    go_roundw
    case rel=>exact ⟨j+1,mr,by omega,by go_num,hlen,HN.out.1,HN.out.2.1,HN.out.2.2⟩
    case measure=>simp [intOf]; omega
  ·have hge:¬ (j:Int) < (l.length:Int):=by omega
   have he:mr=markL (lowB i) l m:=by rw [← hrest,List.drop_of_length_le (by omega)]; rfl
   clear hrest hmr ht
   go_wp2
   go_end0
   exact ⟨rfl,he ▸ H.out.2.1,H.out.2.2⟩
def NArg (w:World) (v:Value) (K:List (Value × List Int)):Prop:=(∃ a cap,v=.slice a 0 cap∧K=[])∨∃ b off cap,v=.slice (some ⟨b,off,none⟩) K.length cap∧∀ j (h:j < K.length),w.cell? ⟨b,off+j*6+4,none⟩=some K[j].1∧SlA w K[j].1 K[j].2
theorem NArg.form (h:NArg w v K):∃ a cap,v=.slice a K.length cap:=by
 rcases h with ⟨a,cap,rfl,rfl⟩ | ⟨b,off,cap,rfl,_⟩
 ·exact ⟨a,cap,rfl⟩
 ·exact ⟨_,cap,rfl⟩
theorem NArg.at (h:NArg w (.slice a K.length cap) K) (j:Nat) (hj:j < K.length):∃ b off,a=some ⟨b,off,none⟩∧w.cell? ⟨b,off+j*6+4,none⟩=some K[j].1∧SlA w K[j].1 K[j].2:=by
 rcases h with ⟨a',cap',_,rfl⟩ | ⟨b,off,cap',e,hc⟩
 ·simp at hj
 ·simp only [Value.slice.injEq,true_and] at e
  exact ⟨b,off,e.1,hc j hj⟩
theorem SlA.below (h:SlA w v l) (hb:Below w.heap.size w w'):SlA w' v l:=h.turned (Turned.ofBelow (S:=fun _=>False) hb) (fun _ _ _ e=>e)
theorem NArg.below (h:NArg w v K) (hb:Below w.heap.size w w'):NArg w' v K:=by
 rcases h with h | ⟨b,off,cap,rfl,hc⟩
 ·exact .inl h
 ·exact .inr ⟨b,off,cap,rfl,fun j hj=>⟨(hb.cell (p:=⟨b,off+j*6+4,none⟩) (World.block_lt_of_cell? w _ (hc j hj).1)).trans (hc j hj).1,(hc j hj).2.below hb⟩⟩
def kidsOf (K:List (Value × List Int)) (i:Nat):List Int:=((K[i]?).map (·.2)).getD []
theorem kidsOf_at (K:List (Value × List Int)) (i:Nat) (h:i < K.length):kidsOf K i=K[i].2:=by simp [kidsOf,h]
theorem MetAt.new (h:Block w g n (fun _=>.bool false)) (hl:g < w.heap.size):MetAt w g (List.replicate n false):=⟨hl,fun j hj=>by
 have:=h j (by simpa using hj)
 simpa using this⟩
theorem Turned.toBelow {wr:World} (hb:Below w.heap.size w wr) (T:Turned (fun k=>k=g) wr w') (hg:w.heap.size≤g):Below w.heap.size w w':=hb.trans (T.below hb.size (fun _ e=>by have e:=e; subst e; exact hg))
theorem marked_drop (m:List Bool) (j:Nat) (hj:j < m.length):marked j (m.drop j)=(if m[j] then [(j:Int)] else [])++marked (j+1) (m.drop (j+1)):=by
 rw [List.drop_eq_getElem_cons hj,marked]
 split <;> simp
theorem ps_Below {lv rv:Value} {roots:List Int} (hL:NArg w lv K) (hR:SlA w rv roots) (hK:K.length≤2199023255552) :
  Calls Tryz.prog 21 #[lv,rv] w fun x w'=>∃ V,x=.returned V∧OwnI w' V (belowS K.length (kidsOf K) roots)∧Below w.heap.size w w'∧∀ k,blk V k→w.heap.size≤k:=by
 obtain ⟨aL,cL,hlv⟩:=hL.form
 subst hlv
 obtain ⟨aR,cR,hrv,hrl⟩:=hR.form
 subst hrv
 have HL:=Hid.mk7 hL
 have HR:=Hid.mk7 hR
 obtain ⟨w1,hmk,hb1,hz1,hB1⟩:=make_one Tryz.boolTypes (by simp [Value.cells]) w K.length (by omega) (by omega)
 have HM:=Hid.mk7 (And.intro hb1 (And.intro hz1 (MetAt.new hB1 hz1)))
 clear hL hR hb1 hz1 hB1
 go_enter Tryz.func21,Tryz.ntmps21
 go_wp2_with fail
 go_loopw [17] (fun ix wr=>∃ (j:Nat) (mr:List Bool),j≤roots.length∧ix=.int .i64 j∧mr.length=K.length∧markL (lowB K.length) (roots.drop j) mr=markL (lowB K.length) roots (List.replicate K.length false)∧MetAt wr w.heap.size mr∧Below w.heap.size w wr) (fun ix _=>roots.length - (intOf ix).toNat)
 case atStart=>exact ⟨0,_,Nat.zero_le _,rfl,by simp,rfl,HM.out.2.2,HM.out.1⟩
 case round=>
  obtain ⟨j,mr,hj,rfl,hlen,hrest,hmr,hb⟩:=hrel
  by_cases hlt:j < roots.length
  ·have hji:(j:Int) < (roots.length:Int):=by omega
   obtain ⟨b,off,rfl,hc⟩:=(HR.out.below hb).at j hlt
   have hlow:=ps_isNode aL K.length cL roots[j]
   have hstep:=markL_drop (lowB K.length) roots j hlt mr
   cases hbb:lowB K.length roots[j] with
   | true=>
    simp only [hbb] at hlow hstep
    have hx:0≤roots[j]∧roots[j] < (K.length:Int):=by simpa [lowB] using hbb
    obtain ⟨q,hq⟩:∃ q:Nat,roots[j]=(q:Int):=⟨roots[j].toNat,by omega⟩
    have hqi:q < mr.length:=by omega
    have hqi':(q:Int) < (K.length:Int):=by omega
    obtain ⟨cq,fq⟩:=hmr.c q hqi
    rw [hq] at hc hlow
    have HN:=Hid.mk7 (And.intro (show markL (lowB K.length) (roots.drop (j+1)) (mr.set q true)=markL (lowB K.length) roots (List.replicate K.length false) by rw [← hrest,hstep,hq]; simp) (And.intro (hmr.set q hqi) (Turned.toBelow hb (Turned.set1 _ w.heap.size q (.bool true)) (Nat.le_refl _))))
    clear hrest hmr hb hstep hbb hx
    go_wp2_with (go_at_call 50; refine (hlow _).mono ?_; rintro e w1 ⟨rfl,rfl⟩)
    go_roundw
    case rel=>exact ⟨j+1,mr.set q true,by omega,by go_num,by simpa using hlen,HN.out.1,HN.out.2.1,HN.out.2.2⟩
    case measure=>simp [intOf]; omega
   | false=>
    simp only [hbb] at hlow hstep
    have HN:=Hid.mk7 (And.intro (show markL (lowB K.length) (roots.drop (j+1)) mr=markL (lowB K.length) roots (List.replicate K.length false) by rw [← hrest,hstep]; simp) (And.intro hmr hb))
    clear hrest hmr hb hstep hbb
    go_wp2_with (go_at_call 50; refine (hlow _).mono ?_; rintro e w1 ⟨rfl,rfl⟩)
    go_roundw
    case rel=>exact ⟨j+1,mr,by omega,by go_num,hlen,HN.out.1,HN.out.2.1,HN.out.2.2⟩
    case measure=>simp [intOf]; omega
  ·have hge:¬ (j:Int) < (roots.length:Int):=by omega
   have he:mr=markL (lowB K.length) roots (List.replicate K.length false):=by rw [← hrest,List.drop_of_length_le (by omega)]; rfl
   have HD:Hid (belowS K.length (kidsOf K) roots=marked 0 (downS (kidsOf K) K.length mr)):=by rw [he]; exact rfl
   have H1:=Hid.mk7 (And.intro hmr hb)
   clear hrest he hmr hb HM hmk
   go_wp2_with fail
   clear hge hlt hj
   go_loopw [8] (fun ix wr=>∃ (j:Nat) (mr:List Bool),j≤K.length∧ix=.int .i64 ((j:Int) - 1)∧mr.length=K.length∧marked 0 (downS (kidsOf K) j mr)=belowS K.length (kidsOf K) roots∧MetAt wr w.heap.size mr∧Below w.heap.size w wr) (fun ix _=>(intOf ix+1).toNat)
   case atStart=>exact ⟨K.length,mr,Nat.le_refl _,rfl,hlen,HD.out.symm,H1.out.1,H1.out.2⟩
   case round=>
    clear HD H1 hlen
    obtain ⟨j2,m2,hj2,rfl,hlen2,hrest2,hm2,hb2⟩:=hrel
    cases j2 with
    | succ i=>
     have ei:((i+1:Nat):Int) - 1=(i:Int):=by omega
     rw [ei]
     have hin:i < K.length:=by omega
     have hini:(i:Int) < (K.length:Int):=by omega
     have him:i < m2.length:=by omega
     have hpos:(0:Int)≤(i:Int):=by omega
     obtain ⟨cm,fm⟩:=hm2.c i him
     rw [downS] at hrest2
     have egd:(m2[i]?).getD false=m2[i]:=by simp [him]
     rw [egd] at hrest2
     cases hmi:m2[i] with
     | false=>
      rw [hmi] at cm hrest2
      have HN:=Hid.mk7 (And.intro (show marked 0 (downS (kidsOf K) i m2)=_ from by simpa using hrest2) (And.intro hm2 hb2))
      clear hrest2 hm2 hb2 egd hmi
      go_wp2
      go_roundw
      case rel=>exact ⟨i,m2,by omega,by go_num,hlen2,HN.out.1,HN.out.2.1,HN.out.2.2⟩
      case measure=>simp [intOf]
     | true=>
      rw [hmi] at cm hrest2
      obtain ⟨b,off,rfl,hck,hsk⟩:=(HL.out.below hb2).at i hin
      obtain ⟨ak,ck,hkv,_⟩:=hsk.form
      have hoff:0 < K[i].2.length→∀ k,blk K[i].1 k→k≠w.heap.size:=fun h0 k hk e=>by
       obtain ⟨_,_,_,_,hs0⟩:=HL.out.at i hin
       have:=hs0.blk h0 k hk
       omega
      have hmt:=ps_meet hm2 hsk hoff i (by omega)
      rw [hlen2] at hmt
      have hbl:b < (w.heap.size):=by
       obtain ⟨b0,off0,e0,hc0,_⟩:=HL.out.at i hin
       simp only [Option.some.injEq,Addr.mk.injEq,and_true] at e0
       rw [e0.1]
       exact World.block_lt_of_cell? w _ hc0
      rw [kidsOf_at K i hin] at hrest2
      have HN:=Hid.mk7 (And.intro (show marked 0 (downS (kidsOf K) i (markL (lowB i) K[i].2 m2))=_ from by simpa using hrest2) hb2)
      clear hrest2 hm2 hb2 egd hmi hsk hoff
      generalize hkd:K[i].1=kv at hck hkv hmt
      subst hkv
      go_wp2_with fail
      refine hmt.mono ?_
      rintro x w5 ⟨rfl,hm5,T5⟩
      have H5:=Hid.mk7 (And.intro hm5 (Turned.toBelow HN.out.2 T5 (Nat.le_refl _)))
      clear hm5 T5 hmt hck cm fm
      go_wp2
      go_roundw
      case rel=>exact ⟨i,markL (lowB i) K[i].2 m2,by omega,by go_num,by rw [markL_length]; exact hlen2,HN.out.1,H5.out.1,H5.out.2⟩
      case measure=>simp [intOf]
    | zero=>
     have hneg:¬ (0:Int)≤(((0:Nat):Int) - 1):=by omega
     have HD2:=Hid.mk7 hrest2
     have H2:=Hid.mk7 (And.intro hm2 hb2)
     clear hrest2 hm2 hb2
     go_wp2_with fail
     clear hneg
     go_loopw [9,49] (fun V ix wr=>∃ (j:Nat) (acc:List Int),j≤K.length∧ix=.int .i64 j∧acc.length≤j∧acc++marked j (m2.drop j)=belowS K.length (kidsOf K) roots∧OwnI wr V acc∧(∀ k,blk V k→w.heap.size < k)∧MetAt wr w.heap.size m2∧Below w.heap.size w wr) (fun _ ix _=>K.length - (intOf ix).toNat)
     case atStart=>exact ⟨0,[],Nat.zero_le _,rfl,Nat.le_refl _,HD2.out,OwnK.nil 1 _,fun _ e=>e.elim,H2.out.1,H2.out.2⟩
     case round=>
      clear HD2 H2
      obtain ⟨j3,acc,hj3,rfl,hal,hrest3,ho3,hof3,hm3,hb3⟩:=hrel
      obtain ⟨aV,cV,hV,_⟩:=OwnK.sl ho3 |>.form
      subst hV
      by_cases hlt:j3 < K.length
      ·have hji:(j3:Int) < (K.length:Int):=by omega
       have him:j3 < m2.length:=by omega
       obtain ⟨cm,fm⟩:=hm3.c j3 him
       rw [marked_drop m2 j3 him] at hrest3
       cases hmi:m2[j3] with
       | false=>
        rw [hmi] at cm hrest3
        have HN:=Hid.mk7 (And.intro (show acc++marked (j3+1) (m2.drop (j3+1))=_ from by simpa using hrest3) (And.intro ho3 (And.intro hof3 (And.intro hm3 hb3))))
        clear hrest3 ho3 hof3 hm3 hb3 hmi
        go_wp2
        go_roundw
        case rel=>exact ⟨j3+1,acc,by omega,by go_num,by omega,HN.out.1,HN.out.2.1,HN.out.2.2.1,HN.out.2.2.2.1,HN.out.2.2.2.2⟩
        case measure=>simp [intOf]; omega
       | true=>
        rw [hmi] at cm hrest3
        have hfit:(acc.length+[(j3:Int)].length)*8≤140737488355328:=by simp; omega
        have hfit2:acc.length+[(j3:Int)].length≤4611686018427387903:=by simp; omega
        have HN:=Hid.mk7 (And.intro (show (acc++[(j3:Int)])++marked (j3+1) (m2.drop (j3+1))=_ from by simpa using hrest3) (And.intro ho3 (And.intro hof3 (And.intro hm3 hb3))))
        clear hrest3 ho3 hof3 hm3 hb3 hmi
        go_wp2_with (at_builtin; refine wpList_append_k (by rfl) (.tmp 55) (.tmp 57) (by rfl) Tryz.intTypes (by rfl) (by rfl) (OwnK.turned HN.out.2.1 (Turned.alloc (fun _=>False) _ _) (fun _ _ e=>e)) (SlI.one _ _ _) (ints_one _) hfit hfit2 ?_; intro V4 w4 ho4 T4 hv4)
        obtain ⟨e3,ho3,hof3,hm3,hb3⟩:=HN.out
        have hz3:=hb3.size
        have hmlt:=hm3.lt
        have B4:=hb3.trans ((Below.alloc0 _ (.cells #[.int .i64 (j3:Int)] 3)).mono hz3)
        have H4:=Hid.mk7 (And.intro (OwnI.snoc ho4) (And.intro (show ∀ k,blk V4 k→w.heap.size < k from fun k hk=>(hv4 k hk).elim (hof3 k) (fun e=>by simp at e; omega)) (And.intro ((hm3.turned (Turned.alloc (fun _=>False) _ (.cells #[.int .i64 (j3:Int)] 3)) (fun e=>e)).turned T4 (fun e=>by have:=hof3 _ e; omega)) (B4.trans (T4.below B4.size (fun k hk=>Nat.le_of_lt (hof3 k hk)))))))
        clear ho4 T4 hv4 e3 ho3 hof3 hm3 hb3 B4
        go_wp2
        go_roundw
        case rel=>exact ⟨j3+1,acc++[(j3:Int)],by omega,by go_num,by simp; omega,HN.out.1,H4.out.1,H4.out.2.1,H4.out.2.2.1,H4.out.2.2.2⟩
        case measure=>simp [intOf]; omega
      ·have hge:¬ (j3:Int) < (K.length:Int):=by omega
       have he:acc=belowS K.length (kidsOf K) roots:=by rw [← hrest3,List.drop_of_length_le (by omega)]; simp [marked]
       have HE:=Hid.mk7 he
       have HN:=Hid.mk7 (And.intro ho3 (And.intro hb3 hof3))
       clear hrest3 ho3 hof3 hm3 hb3 he
       go_wp2
       go_ret
       exact ⟨_,rfl,by rw [← HE.out]; exact HN.out.1,HN.out.2.1,fun k hk=>Nat.le_of_lt (HN.out.2.2 k hk)⟩
def highest (h:List Int):List Int→Int→Int
 | [],x=>x
 | k :: ks,x=>highest h ks (max x ((h[k.toNat]?).getD 0))
def heightsS (kids:Nat→List Int):List Int→List Int→List Int
 | [],h=>h
 | i :: r,h=>heightsS kids r (h.set i.toNat (highest h (kids i.toNat) 0+1))
structure HtAt (w:World) (g:Nat) (h:List Int):Prop where
 lt:g < w.heap.size
 c:∀ j (hj:j < h.length),w.cell? ⟨g,j,none⟩=some (.int .i64 h[j])∧w.frozen? ⟨g,j,none⟩=false
theorem HtAt.set {h:List Int} (hh:HtAt w g h) (k:Nat) (hk:k < h.length) (x:Int):HtAt (w.setCell ⟨g,k,none⟩ (.int .i64 x)) g (h.set k x):=by
 refine ⟨by simp [World.setCell]; exact hh.lt,fun j hj=>⟨?_,by rw [World.frozen?_setCell]; exact (hh.c j (by simpa using hj)).2⟩⟩
 have hj':j < h.length:=by simpa using hj
 by_cases hkj:k=j
 ·subst hkj
  rw [World.cell?_setCell_same _ _ _ (hh.c k hk).1]
  simp
 ·rw [World.cell?_setCell_other _ _ _ _ (by simp; try omega),(hh.c j hj').1]
  simp [List.getElem_set_ne hkj]
theorem HtAt.new (h:Block w g n (fun _=>.int .i64 0)) (hl:g < w.heap.size):HtAt w g (List.replicate n 0):=⟨hl,fun j hj=>by
 have:=h j (by simpa using hj)
 simpa using this⟩
theorem highest_drop (h l:List Int) (j:Nat) (hj:j < l.length) (x:Int):highest h (l.drop j) x=highest h (l.drop (j+1)) (max x ((h[l[j].toNat]?).getD 0)):=by
 rw [List.drop_eq_getElem_cons hj,highest]
theorem heightsS_drop (kids:Nat→List Int) (l:List Int) (j:Nat) (hj:j < l.length) (h:List Int):heightsS kids (l.drop j) h=heightsS kids (l.drop (j+1)) (h.set l[j].toNat (highest h (kids l[j].toNat) 0+1)):=by
 rw [List.drop_eq_getElem_cons hj,heightsS]
def kvs (N:List Nd):List (Value × List Int):=N.map fun n=>(n.kv,n.kids)
theorem kvs_length (N:List Nd):(kvs N).length=N.length:=by simp [kvs]
theorem NodesAt.cells (h:NodesAt w Nv N) (j:Nat) (hj:j < N.length):∃ b off cap,Nv=.slice (some ⟨b,off,none⟩) N.length cap∧w.cell? ⟨b,off+j*6,none⟩=some (.int .i64 N[j].kind)∧w.cell? ⟨b,off+j*6+1,none⟩=some (.string N[j].text)∧w.cell? ⟨b,off+j*6+4,none⟩=some N[j].kv:=by
 obtain ⟨b,off,cap,e,_,_,hc⟩:=h.own.sl.at j hj
 have c:∀ q,q < 6→w.cell? ⟨b,off+j*6+q,none⟩=N[j].cells[q]?:=fun q hq=>(hc q hq).1.trans (nds_get N j hj q hq)
 exact ⟨b,off,cap,e,c 0 (by decide),c 1 (by decide),c 4 (by decide)⟩
theorem NodesAt.arg (h:NodesAt w Nv N) (hn:0 < N.length) (hs:∀ n∈N,n.kids.length≤4611686018427387903):NArg w Nv (kvs N):=by
 obtain ⟨b,off,cap,e,_⟩:=h.cells 0 hn
 refine .inr ⟨b,off,cap,by rw [kvs_length]; exact e,fun j hj=>?_⟩
 have hj':j < N.length:=by simpa [kvs] using hj
 obtain ⟨b',off',cap',e',_,_,c4⟩:=h.cells j hj'
 rw [e] at e'
 simp only [Value.slice.injEq,Option.some.injEq,Addr.mk.injEq,and_true,true_and] at e'
 obtain ⟨⟨rfl,rfl⟩,rfl⟩:=e'
 simp only [kvs,List.getElem_map]
 exact ⟨c4,(h.kid j hj').any (hs _ (List.getElem_mem hj'))⟩
theorem NodesAt.below (h:NodesAt w Nv N) (hb:Below w.heap.size w w'):NodesAt w' Nv N:=h.turned (Turned.ofBelow (S:=fun _=>False) hb) (fun _ _ e=>e) (fun _ _ _ _ e=>e)
theorem er_as_nil (t:Value) (w:World):Calls Tryz.prog 22 #[.nilIface,t] w fun e w'=>e=.returned (.bool false)∧w=w':=by
 go_enter Tryz.func22,Tryz.ntmps22
 go_wp2
 go_ret
 exact ⟨rfl,rfl⟩
theorem set_true (m:List Bool) (a j:Nat):(m.set a true)[j]? = some true↔m[j]? = some true∨(j < m.length∧a=j):=by
 by_cases h:a=j
 ·subst h
  by_cases hl:a < m.length <;> simp [hl]
 ·simp [List.getElem?_set_ne h,h]
theorem markL_true (p:Int→Bool):∀ (l:List Int) (m:List Bool) (j:Nat),(markL p l m)[j]? = some true↔m[j]? = some true∨(j < m.length∧∃ k∈l,p k=true∧k.toNat=j)
 | [],m,j=>by simp [markL]
 | k :: ks,m,j=>by
  rw [markL,markL_true p ks]
  by_cases hp:p k=true
  ·rw [if_pos hp,set_true]
   simp only [List.length_set,List.mem_cons]
   constructor
   ·rintro ((h | ⟨h1,h2⟩) | ⟨h1,z,hz,h3⟩)
    ·exact .inl h
    ·exact .inr ⟨h1,k,.inl rfl,hp,h2⟩
    ·exact .inr ⟨h1,z,.inr hz,h3⟩
   ·rintro (h | ⟨h1,z,rfl | hz,h3⟩)
    ·exact .inl (.inl h)
    ·exact .inl (.inr ⟨h1,h3.2⟩)
    ·exact .inr ⟨h1,z,hz,h3⟩
  ·rw [if_neg hp]
   simp only [List.mem_cons]
   constructor
   ·rintro (h | ⟨h1,z,hz,h3⟩)
    ·exact .inl h
    ·exact .inr ⟨h1,z,.inr hz,h3⟩
   ·rintro (h | ⟨h1,z,rfl | hz,h3⟩)
    ·exact .inl h
    ·exact absurd h3.1 hp
    ·exact .inr ⟨h1,z,hz,h3⟩
theorem downS_up (kids:Nat→List Int):∀ (i:Nat) (m:List Bool) (j:Nat),m[j]? = some true→(downS kids i m)[j]? = some true
 | 0,_,_,h=>h
 | i+1,m,j,h=>by
  rw [downS]
  refine downS_up kids i _ j ?_
  split
  ·exact (markL_true _ _ _ _).2 (.inl h)
  ·exact h
theorem downS_top (kids:Nat→List Int):∀ (i:Nat) (m:List Bool) (j:Nat),i≤j+1→(downS kids i m)[j]? = some true→m[j]? = some true
 | 0,_,_,_,h=>h
 | i+1,m,j,hj,h=>by
  rw [downS] at h
  have h1:=downS_top kids i _ j (by omega) h
  split at h1
  ·rcases (markL_true _ _ _ _).1 h1 with h2 | ⟨_,k,_,h3,h4⟩
   ·exact h2
   ·simp [lowB] at h3; omega
  ·exact h1
theorem downS_shut (kids:Nat→List Int):∀ (i:Nat) (m:List Bool) (j:Nat),j < i→i≤m.length→(downS kids i m)[j]? = some true→∀ k∈kids j,lowB j k=true→(downS kids i m)[k.toNat]? = some true
 | 0,_,_,h,_,_,_,_,_=>by omega
 | i+1,m,j,hj,hl,h,k,hk,hlow=>by
  rw [downS] at h ⊢
  by_cases e:j < i
  ·exact downS_shut kids i _ j e (by split <;> (try rw [markL_length]) <;> omega) h k hk hlow
  ·have ej:j=i:=by omega
   subst ej
   have h1:=downS_top kids j _ j (by omega) h
   have h2:m[j]? = some true:=by
    split at h1
    ·rcases (markL_true _ _ _ _).1 h1 with h2 | ⟨_,k,_,h3,h4⟩
     ·exact h2
     ·simp [lowB] at h3; omega
    ·exact h1
   refine downS_up kids j _ _ ?_
   rw [if_pos (by rw [h2]; rfl)]
   have hb:0≤k∧k < (j:Int):=by simpa [lowB] using hlow
   exact (markL_true _ _ _ _).2 (.inr ⟨by omega,k,hk,hlow,rfl⟩)
theorem downS_le (kids:Nat→List Int) (r:Nat):∀ (i:Nat) (m:List Bool),(∀ j:Nat,m[j]? = some true→j≤r)→∀ j:Nat,(downS kids i m)[j]? = some true→j≤r
 | 0,_,h,j,hj=>h j hj
 | i+1,m,h,j,hj=>by
  rw [downS] at hj
  refine downS_le kids r i _ (fun q hq=>?_) j hj
  by_cases e:(m[i]?).getD false=true
  ·rw [if_pos e] at hq
   rcases (markL_true _ _ _ _).1 hq with h2 | ⟨_,k,_,h3,h4⟩
   ·exact h q h2
   ·have hi:m[i]? = some true:=by
     cases hm:m[i]? with
     | none=>rw [hm] at e; cases e
     | some b=>rw [hm] at e; simpa using e
    have:=h i hi
    simp [lowB] at h3
    omega
  ·rw [if_neg e] at hq
   exact h q hq
theorem mem_marked:∀ (m:List Bool) (i:Nat) (z:Int),z∈marked i m↔∃ j:Nat,z=((i+j:Nat):Int)∧m[j]? = some true
 | [],i,z=>by simp [marked]
 | b :: r,i,z=>by
  have ih:=mem_marked r (i+1) z
  have key:(∃ j:Nat,z=((i+j:Nat):Int)∧(b :: r)[j]? = some true)↔((z=(i:Int)∧b=true)∨∃ j:Nat,z=((i+1+j:Nat):Int)∧r[j]? = some true):=by
   constructor
   ·rintro ⟨j,h1,h2⟩
    cases j with
    | zero=>exact .inl ⟨by simpa using h1,by simpa using h2⟩
    | succ j=>exact .inr ⟨j,by rw [h1]; congr 1; omega,by simpa using h2⟩
   ·rintro (⟨h1,h2⟩ | ⟨j,h1,h2⟩)
    ·exact ⟨0,by simpa using h1,by simpa using h2⟩
    ·exact ⟨j+1,by rw [h1]; congr 1; omega,by simpa using h2⟩
  rw [key,← ih,marked]
  split <;> simp_all
theorem marked_rises:∀ (m:List Bool) (i:Nat),(marked i m).Pairwise (· < ·)
 | [],_=>by simp [marked]
 | b :: r,i=>by
  rw [marked]
  split
  ·refine List.pairwise_cons.2 ⟨fun z hz=>?_,marked_rises r (i+1)⟩
   obtain ⟨j,h1,_⟩:=(mem_marked r (i+1) z).1 hz
   omega
  ·exact marked_rises r (i+1)
theorem belowS_one (n:Nat) (kids:Nat→List Int) (r:Nat) (hr:r < n):(belowS n kids [(r:Int)]).Pairwise (· < ·)∧(r:Int)∈belowS n kids [(r:Int)]∧(∀ z∈belowS n kids [(r:Int)],0≤z∧z≤(r:Int)) ∧
  ∀ z∈belowS n kids [(r:Int)],∀ k∈kids z.toNat,0≤k→k < z→k∈belowS n kids [(r:Int)]:=by
 have m0:∀ j:Nat,(markL (lowB n) [(r:Int)] (List.replicate n false))[j]? = some true↔j=r:=fun j=>by
  rw [markL_true]
  constructor
  ·rintro (h | ⟨_,k,hk,_,h2⟩)
   ·simp [List.getElem?_replicate] at h
   ·simp at hk; omega
  ·intro h
   subst h
   exact .inr ⟨by simpa using hr,(j:Int),by simp,by simp [lowB]; omega,by simp⟩
 have hlen:(markL (lowB n) [(r:Int)] (List.replicate n false)).length=n:=by rw [markL_length]; simp
 have le:=downS_le kids r n _ (fun j hj=>Nat.le_of_eq ((m0 j).1 hj))
 refine ⟨marked_rises _ _,(mem_marked _ _ _).2 ⟨r,by simp,downS_up kids n _ r ((m0 r).2 rfl)⟩,fun z hz=>?_,fun z hz k hk h0 h1=>?_⟩
 ·obtain ⟨j,e,hj⟩:=(mem_marked _ _ _).1 hz
  have:=le j hj
  omega
 ·obtain ⟨j,e,hj⟩:=(mem_marked _ _ _).1 hz
  have hjr:=le j hj
  have ez:z.toNat=j:=by omega
  rw [ez] at hk
  refine (mem_marked _ _ _).2 ⟨k.toNat,by omega,?_⟩
  exact downS_shut kids n _ j (by omega) (by omega) hj k hk (by simp [lowB]; omega)
end Go.Proofs.YtlciaafincgdeaaGreatDoor
