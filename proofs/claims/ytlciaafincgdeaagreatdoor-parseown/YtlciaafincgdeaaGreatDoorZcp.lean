/-
  errors.Is at a fault of package api with nothing under it, and a number of type api.Errno for its target: true just where the fault's Code is that number; the world stays.
  errors.As at a fault of package api, in the words that its callers use; heddlemem.Chain of a fault with nothing under it: one link, with that fault's layer, place and number.
  heddlemem.Refused: true where there is no link and no error, and where the one link tells the fault's layer, place and number.
-/
import Derived.Test.YtlciaafincgdeaaGreatDoorZca
import Derived.WalkSpells
import Derived.OwnWalk
import Derived.Deep.RegionHeld3
import Derived.Deep.AppendLies
import Derived.Deep.DrawnRows
import Derived.Deep.QuietTactic
import Derived.BigQuiet
import Derived.WalkSmall
namespace Go.Proofs.YtlciaafincgdeaaGreatDoor
open Go.RowKit Go.Extern.Stop Go.Stop Go.Extern
set_option maxHeartbeats 4000000
set_option maxRecDepth 100000
theorem Tryz.isTypeOf (v:Value) (w:World):(Extern.ReflectliteType.typeOf #[.iface 50 v]).run Tryz.prog w=.ok (.iface 127 (.agg #[.pointer (some ⟨9,50,none⟩)])) w:=by kernel_rfl
def cmpEntry : Array Value → Sem Value := Extern.ReflectliteType.method fun t => do Extern.Rtype.noPackHeld "Comparable" t; pure (.bool (← typeInfo t).comparable)
theorem Tryz.isComparable (w:World):(cmpEntry #[.agg #[.pointer (some ⟨9,50,none⟩)]]).run Tryz.prog w=.ok (.bool true) w:=by kernel_rfl
theorem Tryz.isMethodComparable (v : Value) (w : World) : (Go.method 344 127 v "Comparable").run Tryz.prog w = .ok (244, v) w := by kernel_rfl
theorem Tryz.isComp:(Tryz.prog.info? 50).map (·.comparable)=some true:=by kernel_rfl
theorem Tryz.eqlErrno (a b:Int) (w:World):(binOp .eql 30 (.iface 50 (.int .i64 a)) (.iface 50 (.int .i64 b))).run Tryz.prog w=.ok (.bool (a == b)) w:=by
 obtain ⟨i,hi,hcmp⟩:=Option.map_eq_some_iff.1 Tryz.isComp
 have h:∀ d:Nat,(Op.equalIn (d+2) 30 (.iface 50 (.int .i64 a)) (.iface 50 (.int .i64 b))).run Tryz.prog w=.ok (a == b) w:=fun d=>by
  simp [Op.equalIn,run_underlying Tryz.underlying30,run_underlying Tryz.underlying50,typeInfo,hi,hcmp]
 simp only [binOp]
 simp [Op.equal,Op.maxDepth,h 9998]
theorem Tryz.noIsF (v:Value) (xT:TypeId) (w:World):(Instr.typeAssert (.iface 60 v) xT 152 true).run Tryz.prog w=.ok (.tuple #[.nilIface,.bool false]) w:=run_typeAssert_lacksB Tryz.underlying152 (by kernel_rfl) (by kernel_rfl) v xT w
theorem Tryz.hasUnwrapF (v:Value) (xT:TypeId) (w:World):(Instr.typeAssert (.iface 60 v) xT 135 true).run Tryz.prog w=.ok (.tuple #[.iface 60 v,.bool true]) w:=run_typeAssert_hasB Tryz.underlying135 (by kernel_rfl) v xT w
theorem Tryz.methodUnwrap (v : Value) (w : World) : (Go.method 344 60 v "Unwrap").run Tryz.prog w = .ok (237, v) w := by kernel_rfl
theorem is_fault (pb po:Nat) (c:Int) (w:World) (h2:w.cell? ⟨pb,po+2,none⟩=some (.int .i64 c)) (h3:w.cell? ⟨pb,po+3,none⟩=some .nilIface) :
  Calls Tryz.prog 64 #[.iface 60 (.pointer (some ⟨pb,po,none⟩)),.iface 50 (.int .i64 c)] w fun e w'=>e=.returned (.bool true)∧w'=w:=by
 have hT:=@run_callFunc_extern Tryz.prog 80 _ Extern.ReflectliteType.typeOf Tryz.func80 (by kernel_rfl) (by kernel_rfl) (by kernel_rfl) (by kernel_rfl)
 have hC:=@run_callFunc_extern Tryz.prog 244 _ cmpEntry Tryz.func244 (by kernel_rfl) (by kernel_rfl) (by kernel_rfl) (by kernel_rfl)
 have tT:=Tryz.isTypeOf
 have cT:=Tryz.isComparable
 have mR:=Tryz.isMethodComparable
 have nF:=Tryz.noIsF
 have uF:=Tryz.hasUnwrapF
 have mU:=Tryz.methodUnwrap
 have heq:=Tryz.eqlErrno c c
 have hty:=run_eql_iface_types (P:=Tryz.prog) 60 50 (.pointer (some ⟨pb,po,none⟩)) (.int .i64 c) Tryz.underlying30 (by decide) w
 go_enter Tryz.func64,Tryz.ntmps64
 go_wp2
 refine wp_loop_rounds 2 ?_
 rw [rounds_succ]
 go_wp2
 rw [rounds_succ]
 go_wp2
 go_ret
 exact ⟨rfl,rfl⟩
theorem as_fault (e:Addr) (tb:Nat) (old:Value) (w:World) (hg:w.cell? ⟨0,0,none⟩=some (.iface 127 (.agg #[.pointer (some ⟨9,30,none⟩)]))) (ht0:w.cell? ⟨tb,0,none⟩=some old) (hf0:w.frozen? ⟨tb,0,none⟩=false) :
    Calls Tryz.prog 22 #[.iface 60 (.pointer (some e)),.iface 62 (.pointer (some ⟨tb,0,none⟩))] w fun ev w'=>ev=.returned (.bool true)∧w'.cell? ⟨tb,0,none⟩=some (.pointer (some e))∧Below tb w w'∧w.heap.size < w'.heap.size:=by
  have hlt:tb < w.heap.size:=World.block_lt_of_cell? w _ ht0
  refine (as_hit e ⟨tb,0,none⟩ old w hg ht0 hf0).mono ?_
  rintro ev w' ⟨rfl,rfl⟩
  refine ⟨rfl,?_,?_,?_⟩
  · refine World.cell?_setCell_same _ _ _ (u:=old) ?_
    rw [World.cell?_alloc_lt _ _ ⟨tb,0,none⟩ (by simp; omega),World.cell?_alloc_lt _ _ ⟨tb,0,none⟩ (by simp; omega),World.cell?_alloc_lt _ _ ⟨tb,0,none⟩ (by simp; omega),World.cell?_alloc_lt _ _ ⟨tb,0,none⟩ hlt]; exact ht0
  · refine Below.setCell (Below.alloc (Below.alloc (Below.alloc (Below.alloc (Below.refl _ _) ?_ _) ?_ _) ?_ _) ?_ _) ?_ _
    all_goals first | (simp; done) | omega | (simp; omega)
  · simp [World.setCell]; omega
theorem Tryz.infoLink:(Tryz.prog.info? 59).map (fun i=>(i.zero,i.size,i.bytes))=some (some (.agg #[.string ⟨#[]⟩,.int .i64 0,.int .i64 0]),3,32):=by kernel_rfl
theorem chain_fault (pb po:Nat) (ly:ByteArray) (at_ c:Int) (w:World) (hg:w.cell? ⟨0,0,none⟩=some (.iface 127 (.agg #[.pointer (some ⟨9,30,none⟩)])))
    (h0:w.cell? ⟨pb,po,none⟩=some (.string ly)) (h1:w.cell? ⟨pb,po+1,none⟩=some (.int .i64 at_)) (h2:w.cell? ⟨pb,po+2,none⟩=some (.int .i64 c)) (h3:w.cell? ⟨pb,po+3,none⟩=some .nilIface) :
    Calls Tryz.prog 10 #[.iface 60 (.pointer (some ⟨pb,po,none⟩))] w fun e w'=>∃ g cap,e=.returned (.slice (some ⟨g,0,none⟩) 1 cap) ∧
      w'.cell? ⟨g,0,none⟩=some (.string ly)∧w'.cell? ⟨g,1,none⟩=some (.int .i64 at_)∧w'.cell? ⟨g,2,none⟩=some (.int .i64 c)∧w.heap.size≤g∧Below w.heap.size w w':=by
  obtain ⟨i0,hi0,hz0,hz1,hz2⟩:=info_parts Tryz.infoLink
  have hlt:pb < w.heap.size:=World.block_lt_of_cell? w _ h0
  go_enter Tryz.func10,Tryz.ntmps10
  go_wp2
  refine wp_loop_rounds 2 ?_
  rw [rounds_succ]
  go_wp2_with fail
  refine (as_fault ⟨pb,po,none⟩ w.heap.size (.pointer none) _ ?_ (by simp) (by simp)).mono ?_
  · rw [World.cell?_alloc_lt _ _ ⟨0,0,none⟩ (World.block_lt_of_cell? w _ hg)]; exact hg
  rintro e w1 ⟨rfl,ht,hb,hz⟩
  have hbw:Below w.heap.size w w1:=((Below.refl _ _).alloc (Nat.le_refl _) _).trans hb
  simp at hz
  have k0:w1.cell? ⟨pb,po,none⟩=some (.string ly):=(hbw.cell (p:=⟨pb,po,none⟩) hlt).trans h0
  have k1:w1.cell? ⟨pb,po+1,none⟩=some (.int .i64 at_):=(hbw.cell (p:=⟨pb,po+1,none⟩) hlt).trans h1
  have k2:w1.cell? ⟨pb,po+2,none⟩=some (.int .i64 c):=(hbw.cell (p:=⟨pb,po+2,none⟩) hlt).trans h2
  have k3:w1.cell? ⟨pb,po+3,none⟩=some .nilIface:=(hbw.cell (p:=⟨pb,po+3,none⟩) hlt).trans h3
  have HB:Hid (Below w.heap.size w w1):=hbw
  clear hbw hb h0 h1 h2 h3 hg
  go_wp2_with fail
  go_region_held3 (fun w'=>w'.cell? ⟨w.heap.size,0,none⟩=some (.pointer (some ⟨pb,po,none⟩))∧w'.cell? ⟨pb,po,none⟩=some (.string ly)∧w'.cell? ⟨pb,po+1,none⟩=some (.int .i64 at_)∧w'.cell? ⟨pb,po+2,none⟩=some (.int .i64 c)∧w'.cell? ⟨pb,po+3,none⟩=some .nilIface)
    (first
      | go_keep
      | (go_split_ands
         refine ⟨?_,?_,?_,?_,?_⟩
         · (rw [hgrow.cell_far _ (by simp; omega) (by simp [Value.ownBlock])]; assumption)
         · (rw [hgrow.cell_far _ (by simp; omega) (by simp [Value.ownBlock])]; assumption)
         · (rw [hgrow.cell_far _ (by simp; omega) (by simp [Value.ownBlock])]; assumption)
         · (rw [hgrow.cell_far _ (by simp; omega) (by simp [Value.ownBlock])]; assumption)
         · (rw [hgrow.cell_far _ (by simp; omega) (by simp [Value.ownBlock])]; assumption)))
    ((refine step_append_lies _ (by rfl) _ _ _ (by rfl) w.heap.size 59 i0 _ 3 32 Tryz.underlying24 hi0 hz0 hz1 hz2 rfl (by omega) (.slice none 0 0) 0 [] (by rfl) (World.ownsRow_nil _ _ _ _)
        ⟨w1.heap.size,0,none⟩ 1 1 [.string ly,.int .i64 at_,.int .i64 c] (by rfl) (by rfl) (World.news_of_block (cs:=#[.string ly,.int .i64 at_,.int .i64 c]) (t:=59) (fr:=(0,0)) (heap_alloc_new w1 _)) (by simp [Value.oneCell'])
        (by omega) (by decide) (by decide) (by simp; omega) (w1.heap.size+1) (by simp) ?_; intro gg cap w2 hown2 hgrow hat hlt2))
  go_wp2
  have hz2:w1.heap.size < w2.heap.size:=by
    have:=hgrow.size; simp at this; omega
  rw [rounds_succ]
  go_wp2
  go_ret
  have hgg:gg=w1.heap.size+1:=by simpa [Value.ownBlock] using hat
  have hc:=hown2.cells (g:=gg) (by simp [Value.ownBlock])
  refine ⟨gg,cap,by simp,by simpa [Addr.add] using hc 0 _ rfl,by simpa [Addr.add] using hc 1 _ rfl,by simpa [Addr.add] using hc 2 _ rfl,by omega,?_⟩
  exact HB.out.trans (((Below.refl _ _).alloc (by omega) _).drew.grown hgrow (by simp; omega) (by simp [Value.ownBlock]))
theorem refused_nil (w:World) (a:Option Addr) (cap:Nat):Calls Tryz.prog 29 #[.nilIface,.slice a 0 cap] w fun e w'=>e=.returned (.bool true)∧w'=w:=by
 go_enter Tryz.func29,Tryz.ntmps29
 go_wp2
 go_ret
 exact ⟨rfl,rfl⟩
theorem refused_fault (pb po lb cap:Nat) (ly:ByteArray) (at_ c:Int) (w:World) (hg:w.cell? ⟨0,0,none⟩=some (.iface 127 (.agg #[.pointer (some ⟨9,30,none⟩)])))
  (h0:w.cell? ⟨pb,po,none⟩=some (.string ly)) (h1:w.cell? ⟨pb,po+1,none⟩=some (.int .i64 at_)) (h2:w.cell? ⟨pb,po+2,none⟩=some (.int .i64 c)) (h3:w.cell? ⟨pb,po+3,none⟩=some .nilIface)
  (l0:w.cell? ⟨lb,0,none⟩=some (.string ly)) (l1:w.cell? ⟨lb,1,none⟩=some (.int .i64 at_)) (l2:w.cell? ⟨lb,2,none⟩=some (.int .i64 c)) :
  Calls Tryz.prog 29 #[.iface 60 (.pointer (some ⟨pb,po,none⟩)),.slice (some ⟨lb,0,none⟩) 1 cap] w fun e w'=>e=.returned (.bool true)∧Below w.heap.size w w':=by
 have hlt:pb < w.heap.size:=World.block_lt_of_cell? w _ h0
 have hll:lb < w.heap.size:=World.block_lt_of_cell? w _ l0
 go_enter Tryz.func29,Tryz.ntmps29
 go_wp2_with fail
 refine (chain_fault pb po ly at_ c _ hg h0 h1 h2 h3).mono ?_
 rintro e w1 ⟨g,cap1,rfl,g0,g1,g2,hgw,hb⟩
 have k2:w1.cell? ⟨pb,po+2,none⟩=some (.int .i64 c):=(hb.cell (p:=⟨pb,po+2,none⟩) hlt).trans h2
 have k3:w1.cell? ⟨pb,po+3,none⟩=some .nilIface:=(hb.cell (p:=⟨pb,po+3,none⟩) hlt).trans h3
 have m0:w1.cell? ⟨lb,0,none⟩=some (.string ly):=(hb.cell (p:=⟨lb,0,none⟩) hll).trans l0
 have m1:w1.cell? ⟨lb,1,none⟩=some (.int .i64 at_):=(hb.cell (p:=⟨lb,1,none⟩) hll).trans l1
 have m2:w1.cell? ⟨lb,2,none⟩=some (.int .i64 c):=(hb.cell (p:=⟨lb,2,none⟩) hll).trans l2
 have HB:Hid (Below w.heap.size w w1):=hb
 clear hb h0 h1 h2 h3 hg l0 l1 l2 hgw
 go_wp2
 refine wp_loop_rounds 2 ?_
 rw [rounds_succ]
 go_wp2
 go_quiet (fail)
 go_wp2
 rw [rounds_succ]
 go_wp2_with fail
 refine (is_fault pb po c _ (by simpa using k2) (by simpa using k3)).mono ?_
 rintro e w2 ⟨rfl,rfl⟩
 go_wp2
 go_ret
 exact ⟨rfl,below_drewN HB.out nq⟩
end Go.Proofs.YtlciaafincgdeaaGreatDoor
