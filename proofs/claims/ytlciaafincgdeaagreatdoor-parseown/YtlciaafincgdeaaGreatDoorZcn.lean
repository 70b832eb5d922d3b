/-
  Layer 11 (parse): what ParseOwn asks beside the document's Parse: refusals, Tidy, the scanner's tokens.
  Layer 11 (parse): for the document's Places: a stack of numbers in memory, and what is still to be met.
-/
import Derived.Test.YtlciaafincgdeaaGreatDoorZcm
import Derived.Test.YtlciaafincgdeaaGreatDoorZcl
import Derived.Test.YtlciaafincgdeaaGreatDoorZcp
namespace Go.Proofs.YtlciaafincgdeaaGreatDoor
open Go.RowKit
variable {v:Value} {w:World}
set_option maxHeartbeats 1600000
set_option maxRecDepth 100000
theorem refused_parse {B B':Nat} {l:Value} {a c:Int} (her:Er w) (hf:FaultP B w v a c) (hl:LnkAt B' w l a c) :
  Calls Tryz.prog 29 #[v,l] w fun e w'=>e=.returned (.bool true)∧Below w.heap.size w w':=by
 obtain ⟨pb,_,rfl,h1,h2,h3,h4⟩:=hf
 obtain ⟨g,_,rfl,l0,l1,l2⟩:=hl
 exact refused_fault pb 0 g 1 _ _ _ w her h1 h2 h3 h4 l0 l1 l2
theorem words_small:∀ x∈allWords,smB x=true:=by decide
theorem signs_small:∀ x∈allSigns,smB x=false:=by decide
theorem TkW.ok {t:Tk} (h:TkW t):TkOk t:=by
 refine ⟨fun h5 hm=>?_,fun h4 hm=>?_⟩
 ·have h1:=h.1 h5
  rw [words_small _ hm] at h1
  cases h1
 ·have h1:=h.2 h4
  rw [signs_small _ hm] at h1
  cases h1
theorem tkOk_zero:TkOk zeroTk:=⟨fun h=>by simp [zeroTk] at h,fun h=>by simp [zeroTk] at h⟩
theorem tkOk_all {T:List Tk} (h:∀ t∈T,TkW t) (i:Nat):TkOk (tokAt T i):=by
 unfold tokAt
 by_cases hi:i < T.length
 ·have:T[i]? = some T[i]:=List.getElem?_eq_getElem hi
  simp only [this]
  exact (h _ (List.getElem_mem hi)).ok
 ·have:T[i]? = none:=List.getElem?_eq_none (by omega)
  simp only [this]
  exact tkOk_zero
theorem rt_Tidy {lv:Value} {K:List (Value × List Int)} {root:Int} (hL:NArg w lv K) (hK:K.length≤2199023255552) (hb:belowS K.length (kidsOf K) [root]=uptoN K.length) :
  Calls Tryz.prog 31 #[lv,.int .i64 root] w fun x w'=>x=.returned (.bool true)∧Below w.heap.size w w':=by
 have B2:=Below.alloc0 w (.cells #[.int .i64 root] 3)
 have hbl:=ref_Below (hL.below B2) (SlI.any (SlI.one w root 3) (by simp)) hK
 rw [hb] at hbl
 obtain ⟨aL,cL,hlv⟩:=hL.form
 subst hlv
 obtain ⟨n,hn⟩:∃ n:Nat,n=K.length:=⟨_,rfl⟩
 rw [← hn] at hbl ⊢
 have HB:=Hid.mk7 B2
 clear hL hK hb B2 hn
 go_enter Tryz.func31,Tryz.ntmps31
 go_wp2_with fail
 refine hbl.mono ?_
 rintro x w3 ⟨V,rfl,ho3,hb3,_⟩
 obtain ⟨aV,cV,hV,_⟩:=OwnK.sl ho3 |>.form
 rw [uptoN_length] at hV
 subst hV
 have H3:=Hid.mk7 (HB.out.trans (hb3.mono HB.out.size))
 clear hbl ho3 hb3
 go_wp2
 go_ret
 exact ⟨by simp,H3.out⟩
theorem ints_append (l m:List Int):ints (l++m)=ints l++ints m:=by simp [ints]
theorem OwnI.popped {P:List Int} {x:Int} (h:OwnI w v (P++[x])):∃ g off cap,v=.slice (some ⟨g,off,none⟩) (P.length+1) cap∧P.length+1≤cap∧cap≤maxLen ∧
  w.cell? ⟨g,off+P.length,none⟩=some (.int .i64 x)∧OwnI w (.slice (some ⟨g,off,none⟩) P.length cap) P:=by
 have hl:=ints_length P
 have e:(ints (P++[x])).length=P.length+1:=by rw [ints_length]; simp
 obtain ⟨h0,⟨_,hn⟩ | ⟨g,off,cap,hv,h2,h3,hg,h4,h5⟩⟩:=h
 ·simp at hn
 ·simp only [List.length_append,List.length_cons,List.length_nil,Nat.zero_add] at hv h2
  refine ⟨g,off,cap,hv,h2,h3,?_,by omega,.inr ⟨g,off,cap,rfl,by omega,h3,hg,fun j hj=>?_,h5⟩⟩
  ·rw [h4 P.length (by omega)]
   simp [ints]
  ·rw [h4 j (by omega)]
   simp only [ints_append]
   rw [List.getElem_append_left hj]
def leftM:List Nat→List Int→Nat
 | k :: ks,z :: zs=>(if z = -1 then k else 0)+leftM ks zs
 | _,_=>0
theorem leftM_set:∀ (ks:List Nat) (h:List Int) (x:Nat) (y:Int),(hx:x < h.length)→(hk:x < ks.length)→h[x] = -1→y≠-1→leftM ks (h.set x y)+ks[x]=leftM ks h
 | [],_,_,_,_,hk,_,_=>absurd hk (Nat.not_lt_zero _)
 | _ :: _,[],_,_,hx,_,_,_=>absurd hx (Nat.not_lt_zero _)
 | k :: ks,z :: zs,0,y,_,_,hz,hy=>by
  have hz:z = -1:=hz
  simp only [List.set_cons_zero,leftM,List.getElem_cons_zero]
  rw [if_neg hy,if_pos hz]
  omega
 | k :: ks,z :: zs,x+1,y,hx,hk,hz,hy=>by
  have ih:=leftM_set ks zs x y (by simpa using hx) (by simpa using hk) (by simpa using hz) hy
  simp only [List.set_cons_succ,leftM,List.getElem_cons_succ]
  omega
theorem leftM_le:∀ (ks:List Nat) (h:List Int) (B:Nat),(∀ k∈ks,k≤B)→leftM ks h≤ks.length*B
 | [],_,_,_=>by simp [leftM]
 | _ :: _,[],_,_=>by simp [leftM]
 | k :: ks,z :: zs,B,hB=>by
  have ih:=leftM_le ks zs B (fun x hx=>hB x (List.mem_cons_of_mem _ hx))
  have h1:=hB k List.mem_cons_self
  simp only [leftM,List.length_cons,Nat.add_mul,Nat.one_mul]
  split <;> omega
def wmet (w:World) (g n:Nat):List Int:=(List.range n).map fun j=>match w.cell? ⟨g,j,none⟩ with
 | some (.int _ z)=>z
 | _=>0
theorem HtAt.wmet {g:Nat} {h:List Int} (hh:HtAt w g h):wmet w g h.length=h:=by
 refine List.ext_getElem (by simp [Go.Proofs.YtlciaafincgdeaaGreatDoor.wmet]) fun j h1 h2=>?_
 simp [Go.Proofs.YtlciaafincgdeaaGreatDoor.wmet,(hh.c j h2).1]
end Go.Proofs.YtlciaafincgdeaaGreatDoor
