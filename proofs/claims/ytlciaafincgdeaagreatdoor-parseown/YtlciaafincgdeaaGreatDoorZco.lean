/-
  Layer 11 (parse): what every row of the seat needs: the listed variables; nodes and numbers read out of memory.
  Layer 11 (parse): a world in which the listed variables lie.
-/
import Derived.Test.YtlciaafincgdeaaGreatDoorRows
import Derived.Test.YtlciaafincgdeaaGreatDoorZcb
import Derived.ProofKit
import Derived.ChangeSame
import Derived.ChangeVars
import Derived.JoinedOf
import Derived.RowKit
import Derived.RowKitTokens
import Derived.LaidLaws
import Derived.LaidHandle
import Derived.LaidSub
import Derived.Lib.LaidTab
import Derived.Stop.Joined
import Derived.Lib.SmallJoins
import Derived.Deep.Slices
import Derived.Deep.DeepHandedRow
namespace Go.Proofs.YtlciaafincgdeaaGreatDoor
open Go.ChangeShapes Go.WideShapes Go.RowKit
variable {W:World}
set_option maxRecDepth 100000
theorem Tryz.own:ownKnob Tryz.prog.godebug=none:=by kernel_rfl
theorem Tryz.laidOut:laidOutB Tryz.prog=true:=by kernel_rfl
abbrev laidNine : List (String × DataW Unit) := [("math/bits.deBruijn32tab", Rows.laid_math_bits_deBruijn32tab), ("math/bits.deBruijn64tab", Rows.laid_math_bits_deBruijn64tab), ("internal/strconv.uint64pow10", Rows.laid_internal_strconv_uint64pow10), ("unicode/utf8.acceptRanges", Rows.laid_unicode_utf8_acceptRanges), ("errors.errorType", Rows.laid_errors_errorType), ("strconv.ErrRange", Rows.laid_strconv_ErrRange), ("strconv.ErrSyntax", Rows.laid_strconv_ErrSyntax), ("heddle/lex.signs", Rows.laid_heddle_lex_signs), ("unicode/utf8.first", Rows.laid_unicode_utf8_first)]
def strData (ss:List ByteArray):DataW Unit:=.agg (ss.map fun s=>.lit (.string s.data.toList))
theorem cells_of_strs {enc:TypeId × Value→Unit} {P:Program} {w:World} {base:Nat} {sp:Nat→Bool} {held:Bool} {fuel:Nat} {t e:TypeId} {n:Nat} {cs:List Value} {ss:List ByteArray} {p:List MemPlace}
  (ht:P.underlying t=some (.array n e)) (he:P.underlying e=some .string) (hce:P.cellsOf e=1) (hct:P.cellsOf t=n)
  (h:DataW.trod enc P w base sp held fuel t cs=some (strData ss,p)):cs=ss.map Value.string:=by
 cases fuel with
 | zero=>simp [DataW.trod] at h
 | succ fuel=>
  simp only [DataW.trod,ht,hce,hct,Nat.mul_one] at h
  split at h
  ·rename_i hl
   obtain ⟨xs,hm,hx⟩:=Option.map_eq_some_iff.1 h
   have hxs:xs.map (·.1)=ss.map fun s=>(DataW.lit (.string s.data.toList):DataW Unit):=by
    have:=congrArg Prod.fst hx
    simpa [strData] using this
   have hxl:xs.length=n:=by simpa using Lib.mapM_length hm
   have hzl:ss.length=n:=by
    have:=congrArg List.length hxs
    simp at this
    omega
   apply List.ext_getElem?
   intro i
   by_cases hi:i < n
   ·obtain ⟨b,hb,hf⟩:=Lib.mapM_at hm i i (by simp [hi])
    obtain ⟨s,hc,rfl,_⟩:=DataW.trod_string he hf
    have h1:cs[i]? = some (.string s):=by
     have:=congrArg (·[0]?) hc
     simpa [List.getElem?_take,List.getElem?_drop] using this
    have h2:(xs.map (·.1))[i]? = some (DataW.lit (.string s.data.toList):DataW Unit):=by simp [hb]
    rw [hxs] at h2
    simp only [List.getElem?_map,Option.map_eq_some_iff,DataW.lit.injEq,Lit.string.injEq] at h2
    obtain ⟨s',hs',e'⟩:=h2
    have es:s'=s:=ByteArray.ext (Array.toList_inj.1 e')
    simp [h1,hs',es]
   ·rw [List.getElem?_eq_none (by omega),List.getElem?_eq_none (by simp; omega)]
  ·cases h
def keepsStr (x:String × DataW Unit):Bool:=match x.2 with
 | .agg (.lit (.string _) :: _)=>true
 | _=>false
theorem Tryz.sg : Tryz.prog.globalNamed "heddle/lex.signs" = some 1 := by kernel_rfl
theorem signs_of {l : List (String × DataW Unit)} (h : laidMet Tryz.prog l W) (hl : l.filter keepsStr = [("heddle/lex.signs", strData SG.toList)]) : SgAt W := by
 have h':=h.filter keepsStr
 rw [hl] at h'
 obtain ⟨ps,⟨g',t',cs,fuel,p,q,hg',ht',hvar,hd,_,_⟩,_⟩:=h'
 obtain rfl:=Option.some.inj (Tryz.sg.symm.trans hg')
 obtain rfl:=Option.some.inj ((show (Tryz.prog.globals[1]?).map (·.type)=some 167 by kernel_rfl).symm.trans ht')
 have hcs:=cells_of_strs Tryz.underlying167 Tryz.underlying9 (by kernel_rfl) (by kernel_rfl) hd
 have hcell:∀ j v,sgVals[j]? = some v→W.cell? ⟨1,j,none⟩=some v:=fun j v hv=>by
  have:=World.var?_cell Tryz.sg hvar j
  rw [this]
  rw [← hv]
  have e2:cs.toList=sgVals:=hcs
  rw [← e2,Array.getElem?_toList]
 exact ⟨fun j v hv=>by rw [Nat.zero_add]; exact hcell j v hv,World.block_lt_of_cell? W _ (hcell 0 _ (sgVals_get 0 (by decide)))⟩
theorem signs9 (h:laidMetH Tryz.prog laidNine W):SgAt W:=signs_of (laidMetH_iff.1 h).1 (by kernel_rfl)
theorem Tryz.et : Tryz.prog.globalNamed "errors.errorType" = some 0 := by kernel_rfl
def litCells:DataW Unit→List Value
 | .lit (.int k z)=>[.int k z]
 | .lit (.string s)=>[.string ⟨s.toArray⟩]
 | .lit (.bool b)=>[.bool b]
 | _=>[]
def aggCells:DataW Unit→List Value
 | .agg l=>l.flatMap litCells
 | d=>litCells d
def agg2Cells:DataW Unit→List Value
 | .agg l=>l.flatMap aggCells
 | d=>aggCells d
def layAt (w:World) (g:Nat) (cs:Array Value):World:={ w with heap:=w.heap.modify g fun
   | .cells _ t frozen=>.cells cs t frozen
   | o=>o }
def errCells (s:List UInt8):Obj:=.cells #[.string ⟨s.toArray⟩] 201
def withVar (w:World):World:=
 let h:=w.heap.size
 let w1:=(w.alloc (errCells [118,97,108,117,101,32,111,117,116,32,111,102,32,114,97,110,103,101])).alloc (errCells [105,110,118,97,108,105,100,32,115,121,110,116,97,120])
 layAt (layAt (layAt (layAt (layAt (layAt (layAt (layAt (layAt w1 0 #[.iface 127 (.agg #[.pointer (some ⟨9,30,none⟩)])])
  6 (aggCells Rows.laid_internal_strconv_uint64pow10).toArray)
  7 (aggCells Rows.laid_math_bits_deBruijn32tab).toArray)
  8 (aggCells Rows.laid_math_bits_deBruijn64tab).toArray)
  3 (agg2Cells Rows.laid_unicode_utf8_acceptRanges).toArray)
  2 (aggCells Rows.laid_unicode_utf8_first).toArray)
  1 (aggCells Rows.laid_heddle_lex_signs).toArray)
  5 #[.iface 199 (.pointer (some ⟨h,0,none⟩))])
  4 #[.iface 199 (.pointer (some ⟨h+1,0,none⟩))]
theorem withVar_met9 (os:Os) (args:Array Value):laidMetH Tryz.prog laidNine ((withVar (World.holding Tryz.prog os ⟨#[],#[],[]⟩)).forCall (fun _ _=>0) ⟨#[],args,[]⟩).memory:=
 laidMetH_of_parts (laidMet_of_run' 8 (by kernel_rfl) (by kernel_rfl)) (by kernel_rfl)
end Go.Proofs.YtlciaafincgdeaaGreatDoor
