/-
  Layer 11 (parse): the statements' question whether the program is alive, by what its Parse makes of any tokens.
-/
import Derived.Test.YtlciaafincgdeaaGreatDoorZcd
import Derived.Test.YtlciaafincgdeaaGreatDoorZcb
namespace Go.Proofs.YtlciaafincgdeaaGreatDoor
open Go.RowKit
variable {w:World}
set_option maxHeartbeats 1600000
set_option maxRecDepth 100000
def NF0:List Sh:=[⟨3,⟨#[88]⟩,⟨#[]⟩,0,[],14⟩,⟨25,⟨#[]⟩,⟨#[]⟩,0,[0],13⟩,⟨3,⟨#[88]⟩,⟨#[]⟩,0,[],20⟩,⟨1,⟨#[]⟩,⟨#[]⟩,1,[],24⟩,⟨1,⟨#[]⟩,⟨#[]⟩,2,[],28⟩,⟨15,⟨#[42]⟩,⟨#[]⟩,0,[3,4],26⟩,⟨15,⟨#[43]⟩,⟨#[]⟩,0,[2,5],22⟩,⟨23,⟨#[]⟩,⟨#[]⟩,0,[6],20⟩,⟨20,⟨#[102]⟩,⟨#[]⟩,0,[1,7],12⟩,⟨26,⟨#[102]⟩,⟨#[]⟩,1,[8],12⟩,⟨27,⟨#[109]⟩,⟨#[]⟩,0,[9],0⟩,⟨28,⟨#[]⟩,⟨#[]⟩,0,[10],0⟩]
theorem NF0_length:NF0.length=12:=rfl
theorem parseOf_T0:parseOf T0=.ok (11,NF0):=by kernel_rfl
theorem pt_Parse {Tv:Value} (htok:SlK 4 w Tv 17 (toks T0)) (hbT:∀ k,blk Tv k→k < w.heap.size) (her:Er w) :
  Calls Tryz.prog 7 #[Tv] w fun x w'=>∃ Nv N,x=.returned (.tuple #[Nv,.int .i64 11,.nilIface])∧N.map Nd.sh=NF0∧NodesAt w' Nv N∧Below w.heap.size w w':=by
 have h:=rd_Parse T0 (by decide) her htok hbT
 rw [parseOf_T0] at h
 refine h.mono ?_
 rintro x w' ⟨Nv,N,e,h1,h2,h3,_⟩
 exact ⟨Nv,N,e,h1,h2,h3⟩
theorem pt_Text (hw:SgAt w) (her:Er w) :
  Calls Tryz.prog 17 #[.string S0] w fun x w'=>∃ Nv N,x=.returned (.tuple #[Nv,.int .i64 11,.nilIface])∧N.map Nd.sh=NF0∧NodesAt w' Nv N∧Below w.heap.size w w':=by
 have hs:=lx_Scan w hw
 have HE:=Hid.mk7 her
 clear hw her
 generalize S0=s0 at hs ⊢
 go_enter Tryz.func17,Tryz.ntmps17
 go_wp2_with fail
 refine hs.mono ?_
 rintro x w1 ⟨V,rfl,ho,hb1,_⟩
 have hp:=pt_Parse ho.sl ho.blk_lt (HE.out.below hb1)
 obtain ⟨aV,cV,hV,_⟩:=ho.sl.form
 subst hV
 have HB1:=Hid.mk7 hb1
 clear hs ho hb1
 go_wp2_with fail
 refine hp.mono ?_
 rintro x w2 ⟨Nv,N,rfl,e2,h2,hb2⟩
 obtain ⟨aN,cN,hNv,_⟩:=h2.own.sl.form
 have hNl:N.length=12:=by have:=congrArg List.length e2; simpa [NF0_length] using this
 rw [hNl] at hNv
 subst hNv
 have ha:=fun t w=>er_as_nil t w
 have H2:=Hid.mk7 (And.intro e2 (And.intro h2 (HB1.out.trans (hb2.mono HB1.out.size))))
 clear hp e2 h2 hb2
 go_wp2_with (go_at_call 22; refine (ha _ _).mono ?_; rintro x w3 ⟨rfl,rfl⟩)
 go_ret3
 exact ⟨_,N,rfl,H2.out.1,H2.out.2.1.below (Below.alloc0 w2 _),H2.out.2.2.trans ((Below.alloc0 w2 _).mono H2.out.2.2.size)⟩
theorem law_alive0 (hw:SgAt w) (her:Er w):Calls Tryz.prog 6 #[] w fun x w'=>x=.returned (.bool true)∧Below w.heap.size w w':=by
 have ht:=pt_Text hw her
 have eS:(.string S0:Value)=.string ⟨#[45,109,111,100,117,108,101,40,109,41,46,32,102,40,88,41,32,45,62,32,88,32,43,32,49,32,42,32,50,46]⟩:=rfl
 rw [eS] at ht
 clear eS hw her
 go_enter Tryz.func6,Tryz.ntmps6
 go_wp2_with fail
 refine ht.mono ?_
 rintro x w1 ⟨Nv,N,rfl,e1,h1,hb1⟩
 have hNl:N.length=12:=by have:=congrArg List.length e1; simpa [NF0_length] using this
 have hsh:∀ j (h:j < N.length),N[j].sh=NF0[j]'(by rw [NF0_length]; omega):=fun j h=>by
  have h2:(N.map Nd.sh)[j]'(by simpa using h)=N[j].sh:=by simp
  rw [← h2]
  congr 1
 obtain ⟨b,off,cap,hNv,k11,_,v11⟩:=h1.cells 11 (by omega)
 have s11:N[11].kids=[10]:=congrArg Sh.kids (hsh 11 (by omega))
 have q11:N[11].kind=28:=congrArg Sh.kind (hsh 11 (by omega))
 obtain ⟨ak,ck,hkv⟩:=SlI.form (h1.kid 11 (by omega))
 rw [s11] at hkv
 rw [hkv] at v11
 rw [q11] at k11
 have cell:∀ j (h:j < N.length),w1.cell? ⟨b,off+j*6,none⟩=some (.int .i64 N[j].kind)∧w1.cell? ⟨b,off+j*6+1,none⟩=some (.string N[j].text):=fun j h=>by
  obtain ⟨b',off',cap',e',c0,c1,_⟩:=h1.cells j h
  rw [hNv] at e'
  simp only [Value.slice.injEq,Option.some.injEq,Addr.mk.injEq,and_true,true_and] at e'
  obtain ⟨⟨rfl,rfl⟩,rfl⟩:=e'
  exact ⟨c0,c1⟩
 have zne:∀ j (h:j < N.length),j≤4→¬ N[j].kind=15:=fun j h hj4=>by
  rw [show N[j].kind=(NF0[j]'(by rw [NF0_length]; omega)).kind from congrArg Sh.kind (hsh j h)]
  have:∀ j (h:j < NF0.length),j≤4→¬ NF0[j].kind=15:=by decide +kernel
  exact this j _ hj4
 have q5:N[5].kind=15∧N[5].text=⟨#[42]⟩:=⟨congrArg Sh.kind (hsh 5 (by omega)),congrArg Sh.text (hsh 5 (by omega))⟩
 have q6:N[6].kind=15∧N[6].text=⟨#[43]⟩:=⟨congrArg Sh.kind (hsh 6 (by omega)),congrArg Sh.text (hsh 6 (by omega))⟩
 have k11':w1.cell? ⟨b,off+66,none⟩=some (.int .i64 28):=k11
 have v11':w1.cell? ⟨b,off+70,none⟩=some (.slice ak 1 ck):=v11
 have HC:=Hid.mk7 (And.intro cell (And.intro zne (And.intro q5 q6)))
 rw [hNl] at hNv
 subst hNv
 have HB:=Hid.mk7 hb1
 clear ht e1 h1 hb1 hsh k11 v11 s11 q11 hkv cell zne q5 q6
 go_wp2_with fail
 clear k11' v11'
 go_loopw [4] (fun ix wr=>∃ j:Nat,j≤6∧ix=.int .i64 j∧wr=w1) (fun ix _=>7 - (intOf ix).toNat)
 case atStart=>exact ⟨0,by omega,rfl,rfl⟩
 case round=>
  obtain ⟨j,hj,rfl,rfl⟩:=hrel
  have hjN:j < N.length:=by omega
  have hji:(j:Int) < 12:=by omega
  obtain ⟨cj,tj⟩:=HC.out.1 j hjN
  by_cases h4:j≤4
  ·have hne:=HC.out.2.1 j hjN h4
   generalize N[j].kind=kd at cj hne
   generalize N[j].text=tx at tj
   go_wp2
   go_roundw
   case rel=>exact ⟨j+1,by omega,by go_num,trivial⟩
   case measure=>simp [intOf]; omega
  ·by_cases h5:j=5
   ·subst h5
    rw [HC.out.2.2.1.1] at cj
    rw [HC.out.2.2.1.2] at tj
    go_wp2
    go_roundw
    case rel=>exact ⟨6,by omega,rfl,trivial⟩
    case measure=>simp [intOf]
   ·obtain rfl:j=6:=by omega
    rw [HC.out.2.2.2.1] at cj
    rw [HC.out.2.2.2.2] at tj
    go_wp2
    go_ret
    exact ⟨rfl,HB.out⟩
end Go.Proofs.YtlciaafincgdeaaGreatDoor
