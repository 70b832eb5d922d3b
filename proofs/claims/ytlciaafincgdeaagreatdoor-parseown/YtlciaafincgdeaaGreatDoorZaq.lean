/-
  Layer 11 (parse): the document's parser, be it behind a fault or not: one contract a call.
  Layer 11 (parse): the document's parser: what it calls, from a token on; the lengths of rows.
  Layer 11 (parse): the document's parser: rows of phrases in one state; a guard.
  Layer 11 (parse): the document's parser: what stands behind a clause's pattern.
-/
import Derived.Test.YtlciaafincgdeaaGreatDoorZap
namespace Go.Proofs.YtlciaafincgdeaaGreatDoor
open Go.RowKit
set_option maxHeartbeats 6400000
set_option maxRecDepth 100000
def PhF (T:List Tk) (F:FuncId) (more:List Value) (m:PM Nat) (u:Ps):Prop:=∀ w q Tv Nv N,PS w q Tv T Nv N u→Gd w q→Calls Tryz.prog F (Value.pointer (some ⟨q,0,none⟩) :: more).toArray w (Rf T w q Tv Nv N (m u))
def PhL (T:List Tk) (F:FuncId) (more:List Value) (m:PM (List Int)) (u:Ps):Prop:=∀ w q Tv Nv N,PS w q Tv T Nv N u→Gd w q→Calls Tryz.prog F (Value.pointer (some ⟨q,0,none⟩) :: more).toArray w (RfL T w q Tv Nv N (m u))
def BdF (F:FuncId) (more:List Value):Prop:=∀ w q e,Bd w q e→Calls Tryz.prog F (Value.pointer (some ⟨q,0,none⟩) :: more).toArray w fun x w'=>(∃ z:Int,x=.returned (.int .i64 z))∧Below w.heap.size w w'
def BdFL (F:FuncId) (more:List Value):Prop:=∀ w q e,Bd w q e→Calls Tryz.prog F (Value.pointer (some ⟨q,0,none⟩) :: more).toArray w (BdL w)
section
variable {T:List Tk} {w wr w2:World} {q:Nat} {Tv Nv:Value} {N:List Nd} {s:Ps} {B:Nat} {d:Int} {H:Nat→Prop} {V1 V2:Value} {l1 l2 zs:List Int} {r:Except Nat Ps} {α:Type} {res:Except Nat (α × Ps)}
theorem Uf.bad {e:Nat} (U:Uf T w wr q Tv Nv N s B d H V1 l1 V2 l2 zs (.error e)) (d':Int) (zs':List Int):Uf T w wr q Tv Nv N s B d' H V1 l1 V2 l2 zs' (.error e):=⟨U.a,U.b,U.dj,U.h,U.ql,U.sz,U.x⟩
theorem Uf.phrase (U:Uf T w wr q Tv Nv N s B d H V1 l1 V2 l2 zs r) {F:FuncId} {more:List Value} {m:PM Nat} {dm:Int} (hF:∀ u,r=.ok u→PhF T F more m u) (hB:∀ e,r=.error e→BdF F more) (hO:∀ u,r=.ok u→S2 T u u→Ok2 T VN dm m m u u) {k:Nat→PM α} (hq:Then r (PM.bind m k)=res) :
  Calls Tryz.prog F (Value.pointer (some ⟨q,0,none⟩) :: more).toArray wr fun x w2=>∃ z:Int,x=.returned (.int .i64 z)∧Kp H wr w2∧∃ r2,Then r2 (k z.toNat)=res∧Uf T w w2 q Tv Nv N s B (d+dm) H V1 l1 V2 l2 (z :: zs) r2∧∀ v,r2=.ok v→∃ u,r=.ok u∧m u=.ok (z.toNat,v)∧u.i≤v.i∧(1≤dm→u.i < v.i):=by
 have hx:=U.x
 cases r with
 | error e=>
  refine (hB e rfl wr q e hx.1).mono ?_
  rintro x w2 ⟨⟨z,rfl⟩,hb⟩
  exact ⟨z,rfl,U.kb hb,.error e,hq,(U.below hb).bad _ _,fun v e=>by cases e⟩
 | ok u=>
  obtain ⟨p,g,hz,Nv1,M1,rg,f⟩:=hx
  refine (hF u rfl wr q Tv Nv1 (N++M1) rg.ps g).mono ?_
  intro x w2 hx2
  have hO:=hO u rfl rg.ps.ok
  have hcs:=rg.ps.cnt
  simp only [Then,PM.bind] at hq
  cases hm:m u with
  | error e=>
   rw [hm] at hx2 hq
   obtain ⟨⟨z,rfl⟩,b,t⟩:=hx2
   obtain ⟨U2,K2⟩:=U.fall rg f b t (d+dm) (z :: zs)
   exact ⟨z,rfl,K2,.error e,hq,U2,fun v e=>by cases e⟩
  | ok av=>
   obtain ⟨a,v⟩:=av
   rw [hm] at hx2 hq
   obtain ⟨rfl,Nv2,M3,o,p2,S,g2⟩:=hx2
   rcases hO with ⟨e,h1,_⟩ | ⟨a1,a2,t1,t2,h1,_,h3,h4,h5,M,h6,h7⟩
   ·rw [hm] at h1; cases h1
   ·rw [hm] at h1
    obtain ⟨rfl,rfl⟩:a=a1∧v=t1:=by simpa using h1
    obtain ⟨U2,K2⟩:=U.on rg f p2 S o g2 (p.ok2 h5 h6 h7) (by rw [h6]; simp) (zs':=(a:Int) :: zs) (fun z hz=>by
     rcases List.mem_cons.1 hz with rfl | hz
     ·exact .inr ⟨by omega,by have:=h4.2; omega⟩
     ·exact .inl hz)
    exact ⟨(a:Int),rfl,K2,.ok v,by simpa [Then] using hq,U2,fun v2 e=>by cases e; exact ⟨u,rfl,by simpa using hm,h5,fun h=>by omega⟩⟩
theorem Uf.phraseL (U:Uf T w wr q Tv Nv N s B d H V1 l1 (.slice none 0 0) [] zs r) {F:FuncId} {more:List Value} {m:PM (List Int)} {dm:Int} (hF:∀ u,r=.ok u→PhL T F more m u) (hB:∀ e,r=.error e→BdFL F more) (hO:∀ u,r=.ok u→S2 T u u→Ok2 T VL dm m m u u) (hln:∀ u l v,m u=.ok (l,v)→l.length≤T.length+1) (hBn:T.length+1≤B) {k:List Int→PM α} (hq:Then r (PM.bind m k)=res) :
  Calls Tryz.prog F (Value.pointer (some ⟨q,0,none⟩) :: more).toArray wr fun x w2=>∃ V l,x=.returned V∧(∃ a c,V=.slice a l.length c)∧l.length≤T.length+1∧Kp H wr w2∧∃ r2,Then r2 (k l)=res∧Uf T w w2 q Tv Nv N s B (d+dm) H V1 l1 V l zs r2∧∀ v,r2=.ok v→∃ u,r=.ok u∧m u=.ok (l,v)∧u.i≤v.i∧(1≤dm→u.i < v.i):=by
 have hx:=U.x
 have ha:=OwnK.blk_lt U.a.own
 cases r with
 | error e=>
  refine (hB e rfl wr q e hx.1).mono ?_
  rintro x w2 ⟨V,rfl,l,hl,ho,hv,hb⟩
  obtain ⟨aV,cV,hV,_⟩:=OwnK.sl ho |>.form
  have U2:=(U.below hb).bad (d+dm) zs
  refine ⟨V,l,rfl,⟨aV,cV,hV⟩,by omega,U.kb hb,.error e,hq,⟨U2.a,⟨ho,by omega,fun k hk=>Nat.le_trans U.sz (hv k hk)⟩,fun k hk e=>by have:=ha k hk; have:=hv k e; omega,fun k hk=>⟨(U.h k hk).1,(U2.h k hk).2.1,(U.h k hk).2.2.1,fun e=>by have:=hv k e; have:=(U.h k hk).2.1; omega⟩,U.ql,U2.sz,U2.x⟩,fun v e=>by cases e⟩
 | ok u=>
  obtain ⟨p,g,hz,Nv1,M1,rg,f⟩:=hx
  refine (hF u rfl wr q Tv Nv1 (N++M1) rg.ps g).mono ?_
  intro x w2 hx2
  have hO:=hO u rfl rg.ps.ok
  simp only [Then,PM.bind] at hq
  cases hm:m u with
  | error e=>
   rw [hm] at hx2 hq
   obtain ⟨⟨V,rfl,l,ho,hl,hv⟩,b,t⟩:=hx2
   obtain ⟨aV,cV,hV,_⟩:=OwnK.sl ho |>.form
   obtain ⟨U2,K2⟩:=U.fall rg f b t (d+dm) zs
   exact ⟨V,l,rfl,⟨aV,cV,hV⟩,hl,K2,.error e,hq,⟨U2.a,⟨ho,by omega,fun k hk=>Nat.le_trans U.sz (hv k hk)⟩,fun k hk e=>by have:=ha k hk; have:=hv k e; omega,fun k hk=>⟨(U.h k hk).1,(U2.h k hk).2.1,(U.h k hk).2.2.1,fun e=>by have:=hv k e; have:=(U.h k hk).2.1; omega⟩,U.ql,U2.sz,U2.x⟩,fun v e=>by cases e⟩
  | ok av=>
   obtain ⟨l,v⟩:=av
   rw [hm] at hx2 hq
   obtain ⟨V,rfl,Nv2,M3,o,p2,S,g2,ow,fv⟩:=hx2
   obtain ⟨aV,cV,hV,_⟩:=OwnK.sl ow |>.form
   rcases hO with ⟨e,h1,_⟩ | ⟨a1,a2,t1,t2,h1,_,h3,h4,h5,M,h6,h7⟩
   ·rw [hm] at h1; cases h1
   ·rw [hm] at h1
    obtain ⟨rfl,rfl⟩:l=a1∧v=t1:=by simpa using h1
    obtain ⟨U2,K2⟩:=U.on rg f p2 S o g2 (p.ok2 h5 h6 h7) (by rw [h6]; simp) (zs':=zs) (fun z hz=>.inl hz)
    obtain ⟨p3,g3,hz3,_⟩:=U2.x
    refine ⟨V,l,rfl,⟨aV,cV,hV⟩,hln u l v hm,K2,.ok v,by simpa [Then] using hq,⟨U2.a,⟨ow,by have:=hln u l v hm; omega,fun k hk=>Nat.le_trans U.sz (fv k hk).1⟩,fun k hk e=>by have:=ha k hk; have:=(fv k e).1; omega,fun k hk=>⟨(U.h k hk).1,(U2.h k hk).2.1,(U.h k hk).2.2.1,fun e=>by have:=(fv k e).1; have:=(U.h k hk).2.1; omega⟩,U.ql,U2.sz,p3,g3,fun z hz=>?_,Nv2,M1++M3,rg.more o p2 S,fun k hk=>?_⟩,fun v2 e=>by cases e; exact ⟨u,rfl,hm,h5,fun h=>by omega⟩⟩
    ·simp only [List.mem_append] at hz
     rcases hz with (hz | hz) | hz
     ·exact hz3 z (by simp [hz])
     ·exact h4.2 z hz
     ·exact hz3 z (by simp [hz])
    ·rcases hk with h1 | h1 | h1
     ·have:=(f k (.inl h1)).step (ha k h1) S o
      rwa [List.append_assoc] at this
     ·have:=(fv k h1).2
      rwa [List.append_assoc] at this
     ·have:=(f k (.inr (.inr h1))).step (U.h k h1).2.1 S o
      rwa [List.append_assoc] at this
theorem Uf.token (U:Uf T w wr q Tv Nv N s B d H V1 l1 V2 l2 zs r) (n:Nat) (hn:n≤1) :
  Calls Tryz.prog 25 #[.pointer (some ⟨q,0,none⟩),.int .i64 n] wr fun x w2=>∃ t:Tk,x=.returned t.val∧Below wr.heap.size wr w2∧(∀ u,r=.ok u→t=tokAt T (u.i+n))∧(∀ e,r=.error e→t=zeroTk):=by
 have hx:=U.x
 cases r with
 | error e=>
  refine (bd_token hx.1 n).mono ?_
  rintro x w2 ⟨rfl,hb⟩
  exact ⟨zeroTk,rfl,hb,fun u e=>by (cases e),fun _ _=>rfl⟩
 | ok u=>
  obtain ⟨p,g,hz,Nv1,M1,rg,f⟩:=hx
  refine (rf_token11 rg.ps.at_ g n hn).mono ?_
  rintro x w2 ⟨rfl,hb⟩
  exact ⟨_,rfl,hb,fun u2 e=>by (cases e; rfl),fun _ e=>by cases e⟩
theorem Uf.sign (U:Uf T w wr q Tv Nv N s B d H V1 l1 V2 l2 zs r) (n:Nat) (hn:n≤1) (x:ByteArray) :
  Calls Tryz.prog 61 #[.pointer (some ⟨q,0,none⟩),.int .i64 n,.string x] wr fun y w2=>Below wr.heap.size wr w2∧((y=.returned (.bool true)∧∃ u,r=.ok u∧tkIs x (tokAt T (u.i+n))=true)∨(y=.returned (.bool false)∧∀ u,r=.ok u→tkIs x (tokAt T (u.i+n))=false)):=by
 have hx:=U.x
 cases r with
 | error e=>
  refine (bd_sign hx.1 n x).mono ?_
  rintro y w2 ⟨rfl,hb⟩
  exact ⟨hb,.inr ⟨rfl,fun u e=>by cases e⟩⟩
 | ok u=>
  obtain ⟨p,g,hz,Nv1,M1,rg,f⟩:=hx
  refine (rf_sign rg.ps.at_ g n hn x).mono ?_
  rintro y w2 ⟨rfl,hb⟩
  cases hc:tkIs x (tokAt T (u.i+n)) with
  | true=>exact ⟨hb,.inl ⟨rfl,u,rfl,hc⟩⟩
  | false=>exact ⟨hb,.inr ⟨rfl,fun u2 e=>by (cases e; exact hc)⟩⟩
theorem Uf.word (U:Uf T w wr q Tv Nv N s B d H V1 l1 V2 l2 zs r) (x:ByteArray) :
  Calls Tryz.prog 58 #[.pointer (some ⟨q,0,none⟩),.string x] wr fun y w2=>Below wr.heap.size wr w2∧((y=.returned (.bool true)∧∃ u,r=.ok u∧atm T x u.i=true)∨(y=.returned (.bool false)∧∀ u,r=.ok u→atm T x u.i=false)):=by
 have hx:=U.x
 cases r with
 | error e=>
  refine (bd_word hx.1 x).mono ?_
  rintro y w2 ⟨rfl,hb⟩
  exact ⟨hb,.inr ⟨rfl,fun u e=>by cases e⟩⟩
 | ok u=>
  obtain ⟨p,g,hz,Nv1,M1,rg,f⟩:=hx
  refine (rf_word11 rg.ps.at_ g x).mono ?_
  rintro y w2 ⟨rfl,hb⟩
  cases hc:atm T x u.i with
  | true=>exact ⟨hb,.inl ⟨by rw [show isTk 1 x (tokAt T u.i)=true from hc],u,rfl,hc⟩⟩
  | false=>exact ⟨hb,.inr ⟨by rw [show isTk 1 x (tokAt T u.i)=false from hc],fun u2 e=>by (cases e; exact hc)⟩⟩
theorem Uf.next {u:Ps} {Nv1:Value} {M1:List Nd} (U:Uf T w wr q Tv Nv N s B d H V1 l1 V2 l2 zs (.ok u)) (rg:Rg T w wr q Tv Nv N u Nv1 M1) (f:∀ k,blk V1 k∨blk V2 k∨H k→Free wr q Tv Nv1 (N++M1) k) (n:Nat) (hn:u.i+n≤T.length) (p:PAt w2 q Tv T (u.i+n) Nv1 (N++M1)) (g:Gd w2 q) (t:Turned (fun k=>k=q) wr w2):Uf T w w2 q Tv Nv N s B (d+4*n) H V1 l1 V2 l2 zs (.ok ⟨u.i+n,u.N⟩)∧Kp H wr w2:=by
 have hc:=rg.ps.cnt
 refine U.on rg f (M3:=[]) (v:=⟨u.i+n,u.N⟩) ?_ (Stp.ofG t) (fun n hn=>by cases hn) g (d':=d+4*n) (U.x.1.ok2 (M:=[]) (by simp) (by simp) (by simp; omega)) (Nat.le_refl _) (fun z hz=>.inl hz)
 refine ⟨by simpa using p,by simpa using rg.ps.n,rg.ps.ok.next hn,?_⟩
 unfold Cnt at hc ⊢
 simp only
 omega
theorem Uf.take (U:Uf T w wr q Tv Nv N s B d H V1 l1 V2 l2 zs r) (x:ByteArray) :
  Calls Tryz.prog 84 #[.pointer (some ⟨q,0,none⟩),.string x] wr fun y w2=>Kp H wr w2∧((y=.returned (.bool true)∧∃ u,r=.ok u∧tkIs x (tokAt T u.i)=true∧u.i < T.length∧Uf T w w2 q Tv Nv N s B (d+4) H V1 l1 V2 l2 zs (.ok ⟨u.i+1,u.N⟩))∨(y=.returned (.bool false)∧(∀ u,r=.ok u→tkIs x (tokAt T u.i)=false)∧Uf T w w2 q Tv Nv N s B d H V1 l1 V2 l2 zs r)):=by
 have hx:=U.x
 cases r with
 | error e=>
  refine (bd_take hx.1 x).mono ?_
  rintro y w2 ⟨rfl,hb⟩
  exact ⟨U.kb hb,.inr ⟨rfl,fun u e=>by (cases e),U.below hb⟩⟩
 | ok u=>
  obtain ⟨p,g,hz,Nv1,M1,rg,f⟩:=hx
  refine (rf_take rg.ps.at_ g x).mono ?_
  rintro y w2 ⟨rfl,p2,g2,t2⟩
  cases hc:tkIs x (tokAt T u.i) with
  | true=>
   have hlt:=tkIs_lt hc
   rw [hc] at p2
   obtain ⟨U2,K2⟩:=U.next rg f 1 hlt p2 g2 t2
   exact ⟨K2,.inl ⟨rfl,u,rfl,hc,hlt,U2⟩⟩
  | false=>
   rw [hc] at p2
   obtain ⟨U2,K2⟩:=U.next rg f 0 (by have:=rg.ps.ok.il; omega) p2 g2 t2
   exact ⟨K2,.inr ⟨rfl,fun u2 e=>by (cases e; exact hc),by simpa using U2⟩⟩
theorem NeedTold.uf {u:Ps} {Nv1:Value} {M1:List Nd} {b:Bool} (U:Uf T w wr q Tv Nv N s B d H V1 l1 V2 l2 zs (.ok u)) (rg:Rg T w wr q Tv Nv N u Nv1 M1) (f:∀ k,blk V1 k∨blk V2 k∨H k→Free wr q Tv Nv1 (N++M1) k) (hb:b=true→u.i < T.length) (h:NeedTold wr q Tv T u.i Nv1 (N++M1) b w2):Kp H wr w2∧Uf T w w2 q Tv Nv N s B (d+4) H V1 l1 V2 l2 zs (if b then .ok ⟨u.i+1,u.N⟩ else .error u.i):=by
 cases b with
 | true=>
  obtain ⟨U2,K2⟩:=U.next rg f 1 (hb rfl) h.1 h.2.1 h.2.2
  exact ⟨K2,by simpa using U2⟩
 | false=>
  obtain ⟨U2,K2⟩:=U.fall rg f h.1 (h.2.mono (fun _ e=>.inl (.inl e))) (d+4) zs
  exact ⟨K2,by simpa using U2⟩
theorem Uf.want (U:Uf T w wr q Tv Nv N s B d H V1 l1 V2 l2 zs r) (x:ByteArray) {b:Nat→Bool} (hb:∀ i,b i=tkIs x (tokAt T i)) {k:PM α} (hq:Then r (PM.bind (pNeed T b) fun _=>k)=res) :
  Calls Tryz.prog 57 #[.pointer (some ⟨q,0,none⟩),.string x] wr fun y w2=>y=.returned (.tuple #[])∧Kp H wr w2∧∃ r2,Then r2 k=res∧Uf T w w2 q Tv Nv N s B (d+4) H V1 l1 V2 l2 zs r2∧∀ v,r2=.ok v→∃ u,r=.ok u∧b u.i=true∧v=⟨u.i+1,u.N⟩:=by
 have hx:=U.x
 cases r with
 | error e=>
  refine (bd_want hx.1 x).mono ?_
  rintro y w2 ⟨rfl,hb⟩
  exact ⟨rfl,U.kb hb,.error e,hq,(U.below hb).bad _ _,fun v e=>by cases e⟩
 | ok u=>
  obtain ⟨p,g,hz,Nv1,M1,rg,f⟩:=hx
  refine (rf_want rg.ps.at_ g x).mono ?_
  rintro y w2 ⟨rfl,h2⟩
  obtain ⟨K2,U2⟩:=h2.uf U rg f tkIs_lt
  refine ⟨rfl,K2,_,?_,U2,?_⟩
  ·rw [← hb] at *
   simp only [Then,PM.bind,pNeed] at hq ⊢
   cases hc:b u.i <;> simp [hc] at hq ⊢ <;> exact hq
  ·intro v e
   cases hc:tkIs x (tokAt T u.i) with
   | true=>rw [hc] at e; cases e; exact ⟨u,rfl,by rw [hb]; exact hc,rfl⟩
   | false=>rw [hc] at e; cases e
theorem Uf.kind (U:Uf T w wr q Tv Nv N s B d H V1 l1 V2 l2 zs r) (n:Int) (hn:¬ n=0) {k:Tk→PM α} (hq:Then r (PM.bind (pNeed T (knd T n)) k)=res) :
  Calls Tryz.prog 60 #[.pointer (some ⟨q,0,none⟩),.int .i64 n] wr fun y w2=>∃ t:Tk,y=.returned t.val∧Kp H wr w2∧∃ r2,Then r2 (k t)=res∧Uf T w w2 q Tv Nv N s B (d+4) H V1 l1 V2 l2 zs r2∧∀ v,r2=.ok v→∃ u,r=.ok u∧knd T n u.i=true∧t=tokAt T u.i∧v=⟨u.i+1,u.N⟩:=by
 have hx:=U.x
 cases r with
 | error e=>
  refine (bd_kind hx.1 n hn).mono ?_
  rintro y w2 ⟨rfl,hb⟩
  exact ⟨zeroTk,rfl,U.kb hb,.error e,hq,(U.below hb).bad _ _,fun v e=>by cases e⟩
 | ok u=>
  obtain ⟨p,g,hz,Nv1,M1,rg,f⟩:=hx
  refine (rf_kind11 rg.ps.at_ g n hn).mono ?_
  rintro y w2 ⟨rfl,h2⟩
  obtain ⟨K2,U2⟩:=h2.uf U rg f (knd_lt hn)
  refine ⟨_,rfl,K2,_,?_,U2,?_⟩
  ·simp only [Then,PM.bind,pNeed] at hq ⊢
   cases hc:knd T n u.i <;> simp [hc] at hq ⊢ <;> exact hq
  ·intro v e
   cases hc:knd T n u.i with
   | true=>rw [hc] at e; cases e; exact ⟨u,rfl,hc,by simp,rfl⟩
   | false=>rw [hc] at e; cases e
theorem Uf.syntax (U:Uf T w wr q Tv Nv N s B d H V1 l1 V2 l2 zs r) :
  Calls Tryz.prog 59 #[.pointer (some ⟨q,0,none⟩)] wr fun y w2=>y=.returned (.int .i64 0)∧Kp H wr w2∧∃ e,errOf r=e∧Uf T w w2 q Tv Nv N s B d H V1 l1 V2 l2 (0 :: zs) (.error e):=by
 have hx:=U.x
 cases r with
 | error e=>
  refine (bd_syntax hx.1).mono ?_
  rintro y w2 ⟨rfl,hb⟩
  exact ⟨rfl,U.kb hb,e,rfl,(U.below hb).bad _ _⟩
 | ok u=>
  obtain ⟨p,g,hz,Nv1,M1,rg,f⟩:=hx
  refine (rf_syntax rg.ps.at_ g).mono ?_
  rintro y w2 ⟨rfl,b,t⟩
  obtain ⟨U2,K2⟩:=U.fall rg f b (t.mono (fun _ e=>.inl (.inl e))) d (0 :: zs)
  exact ⟨rfl,K2,u.i,rfl,U2⟩
theorem Uf.node0 (U:Uf T w wr q Tv Nv N s B d H V1 l1 V2 l2 zs r) (hT:0 < T.length) (hc:Cnt T s) (hd:1≤d) (kd at_:Int) (t:ByteArray) :
  Calls Tryz.prog 27 #[.pointer (some ⟨q,0,none⟩),.int .i64 kd,.int .i64 at_,.string t,V2] wr fun y w2=>∃ z:Int,y=.returned (.int .i64 z)∧Kp H wr w2∧∃ r2,(∀ e,r=.error e→r2=.error e)∧(∀ u,r=.ok u→z=(u.N.length:Int)∧r2=.ok ⟨u.i,u.N++[⟨kd,t,⟨#[]⟩,0,l2,at_⟩]⟩)∧Uf T w w2 q Tv Nv N s B (d - 1) H V1 l1 (.slice none 0 0) [] (z :: zs) r2:=by
 have hx:=U.x
 cases r with
 | error e=>
  refine (bd_node hx.1 kd at_ t V2).mono ?_
  rintro y w2 ⟨rfl,hb⟩
  exact ⟨0,rfl,U.kb hb,.error e,fun _ e=>e,fun u e=>by (cases e),((U.below hb).drop2).bad _ _⟩
 | ok u=>
  obtain ⟨p,g,hz,Nv1,M1,rg,f⟩:=hx
  have hl:=rg.ps.len
  have hcu:=rg.ps.cnt
  have hcu2:=hcu
  unfold Cnt at hcu2
  have hb2:=OwnK.blk_lt U.b.own
  refine (rf_node rg.ps.at_ g hT kd at_ t V2 l2 ⟨U.b.own,fun k hk=>⟨(f k (.inr (.inl hk))).g,(f k (.inr (.inl hk))).n,hb2 k hk⟩⟩ (by omega)).mono ?_
  rintro y w2 ⟨rfl,Nv2,p2,S,g2⟩
  have hpg:Pg T s ⟨u.i,u.N++[⟨kd,t,⟨#[]⟩,0,l2,at_⟩]⟩ (d - 1):=p.ok2 (dm:=-1) (M:=[⟨kd,t,⟨#[]⟩,0,l2,at_⟩]) (Nat.le_refl _) rfl (by simp)
  have hs2:S2 T ⟨u.i,u.N++[⟨kd,t,⟨#[]⟩,0,l2,at_⟩]⟩ ⟨u.i,u.N++[⟨kd,t,⟨#[]⟩,0,l2,at_⟩]⟩:=by
   rcases Ok2.add (x:=⟨kd,t,⟨#[]⟩,0,l2,at_⟩) (x':=⟨kd,t,⟨#[]⟩,0,l2,at_⟩) rg.ps.ok rfl (fun k hk=>hz k (by simp [show k∈l2 from hk])) with ⟨e,h1,_⟩ | ⟨a1,a2,t1,t2,h1,h2,h3,_⟩
   ·cases h1
   ·simp only [pAdd,Except.ok.injEq,Prod.mk.injEq] at h1 h2
    rw [← h1.2,← h2.2] at h3
    exact h3
  have hul:u.i≤T.length:=rg.ps.ok.il
  have hS:Stp q Nv1 Nv2 wr w2:=S
  -- the second numbers are the node's now
  have U':=U.drop2
  obtain ⟨_,_,_,_⟩:=U'.x
  have hfree:∀ k,blk V1 k∨H k→Free w2 q Tv Nv2 (N++(M1++[⟨kd,t,⟨#[]⟩,0,V2,l2,at_⟩])) k:=fun k hk=>by
   have fk:=f k (hk.elim .inl (fun e=>.inr (.inr e)))
   have hkl:k < wr.heap.size:=hk.elim (OwnK.blk_lt U.a.own k) (fun e=>(U.h k e).2.1)
   have h2:¬ blk V2 k:=hk.elim (U.dj k) (fun e=>(U.h k e).2.2.2)
   refine ⟨fk.g,fk.t,fun e=>(S.n k e).elim fk.n (fun e=>by omega),fun j hj e=>?_⟩
   by_cases hjn:j < (N++M1).length
   ·rw [show (N++(M1++[(⟨kd,t,⟨#[]⟩,0,V2,l2,at_⟩:Nd)]))[j]=(N++M1)[j] by
     simp only [← List.append_assoc]
     rw [List.getElem_append_left hjn]] at e
    exact fk.k j hjn e
   ·have ej:j=(N++M1).length:=by simp at hj hjn ⊢; omega
    subst ej
    simp only [← List.append_assoc] at e
    rw [List.getElem_append_right (Nat.le_refl _)] at e
    simp at e
    exact h2 e
  refine ⟨((N++M1).length:Int),rfl,fun k hk=>S.t.block k (U.h k hk).2.1 (fun e=>e.elim (f k (.inr (.inr hk))).g (f k (.inr (.inr hk))).n),.ok ⟨u.i,u.N++[⟨kd,t,⟨#[]⟩,0,l2,at_⟩]⟩,fun e h=>by (cases h),fun u2 e=>by (cases e; exact ⟨by rw [hl],rfl⟩),?_⟩
  refine ⟨U.a.turned S.t (fun k hk e=>e.elim (f k (.inl hk)).g (f k (.inl hk)).n),Sx.nil _ _ _,fun _ _ e=>e,fun k hk=>⟨(U.h k hk).1,Nat.lt_of_lt_of_le (U.h k hk).2.1 S.t.size,(U.h k hk).2.2.1,fun e=>e⟩,U.ql,Nat.le_trans U.sz S.t.size,hpg,g2,fun z hm=>?_,Nv2,M1++[⟨kd,t,⟨#[]⟩,0,V2,l2,at_⟩],⟨⟨by simpa [List.append_assoc] using p2,by simp [← rg.ps.n,Nd.sh],hs2,hpg.cnt (by omega) hul hc⟩,fun n hn k hk=>?_,rg.st.trans S⟩,fun k hk=>hfree k (hk.elim .inl (fun e=>e.elim (fun e=>e.elim) .inr))⟩
  ·simp only [List.append_nil,List.mem_append,List.mem_cons,List.length_append,List.length_cons,List.length_nil] at hm ⊢
   rcases hm with hm | rfl | hm
   ·have:=hz z (by simp [hm]); omega
   ·simp at hl ⊢; omega
   ·have:=hz z (by simp [hm]); omega
  ·rcases List.mem_append.1 hn with hn | hn
   ·exact rg.off n hn k hk
   ·rw [List.mem_singleton.1 hn] at hk
    exact U.b.new k hk
theorem Uf.node (U:Uf T w wr q Tv Nv N s B d H V1 l1 V2 l2 zs r) (hT:0 < T.length) (hc:Cnt T s) (hd:1≤d) (kd at_:Int) (t:ByteArray) {k:Nat→PM α} (hq:Then r (PM.bind (pAdd ⟨kd,t,⟨#[]⟩,0,l2,at_⟩) k)=res) :
  Calls Tryz.prog 27 #[.pointer (some ⟨q,0,none⟩),.int .i64 kd,.int .i64 at_,.string t,V2] wr fun y w2=>∃ z:Int,y=.returned (.int .i64 z)∧Kp H wr w2∧∃ r2,Then r2 (k z.toNat)=res∧Uf T w w2 q Tv Nv N s B (d - 1) H V1 l1 (.slice none 0 0) [] (z :: zs) r2∧∀ v,r2=.ok v→∃ u,r=.ok u∧v.i=u.i:=by
 refine (U.node0 hT hc hd kd at_ t).mono ?_
 rintro y w2 ⟨z,rfl,K,r2,he,hu,U2⟩
 refine ⟨z,rfl,K,r2,?_,U2,?_⟩
 ·cases r with
  | error e=>rw [he e rfl]; exact hq
  | ok u=>
   obtain ⟨rfl,rfl⟩:=hu u rfl
   simpa [Then,PM.bind,pAdd] using hq
 ·intro v e
  cases r with
  | error e2=>rw [he e2 rfl] at e; cases e
  | ok u=>
   obtain ⟨rfl,rfl⟩:=hu u rfl
   cases e
   exact ⟨u,rfl,rfl⟩
end
theorem rowM_len {T:List Tk} {x:ByteArray} {m:PM Nat} (hm:Mono m):∀ (f:Nat) (acc:List Int) (s:Ps) (l:List Int) (u:Ps),rowL T x m f acc s=.ok (l,u)→l.length≤acc.length+(T.length - s.i)
 | 0,acc,s,l,u,e=>by
  simp only [rowL,PM.ret,Except.ok.injEq,Prod.mk.injEq] at e
  rw [← e.1]
  omega
 | f+1,acc,s,l,u,e=>by
  unfold rowL pIf at e
  cases hc:sgn T x s.i with
  | false=>
   simp [hc,PM.ret] at e
   rw [← e.1]
   omega
  | true=>
   have hlt:=sgn_lt hc
   simp only [hc,if_true,PM.bind,pSkip] at e
   cases h1:m ⟨s.i+1,s.N⟩ with
   | error y=>simp [h1] at e
   | ok av=>
    obtain ⟨a,v⟩:=av
    rw [h1] at e
    have h2:=rowM_len hm f _ v l u e
    have h3:=hm _ _ _ h1
    simp at h2 h3
    omega
theorem rowT_len {T:List Tk} {x:ByteArray} {m:PM Nat} (hm:Mono m) {s:Ps} {l:List Int} {u:Ps} (e:row T x m s=.ok (l,u)):l.length≤T.length+1:=by
 unfold row PM.bind at e
 cases h1:m s with
 | error y=>simp [h1] at e
 | ok av=>
  obtain ⟨a,v⟩:=av
  rw [h1] at e
  have:=rowM_len hm _ _ _ _ _ e
  simp at this
  omega
theorem enclosedT_len {T:List Tk} {x y:ByteArray} {m:PM Nat} (hm:Mono m) {s:Ps} {l:List Int} {u:Ps} (e:enclosed T x y m s=.ok (l,u)):l.length≤T.length+1:=by
 unfold enclosed at e
 simp only [PM.bind,pNeed] at e
 split at e
 ·cases e
 ·rename_i a b h1
  split at e
  ·cases e
  ·rename_i l2 v h2
   split at e
   ·cases e
   ·simp only [PM.ret,Except.ok.injEq,Prod.mk.injEq] at e
    rw [← e.1]
    unfold pIf at h2
    split at h2
    ·simp only [PM.ret,Except.ok.injEq,Prod.mk.injEq] at h2
     rw [← h2.1]
     simp
    ·exact rowT_len hm h2
theorem finOf {T:List Tk} {f:Nat} (ph:Ph) (hp:okPh ph) {s:Ps} (hs:S2 T s s) (hc:Cnt T s):∀ a t,phBody T (runP T f) ph s=.ok (a,t)→S2 T t t∧Cnt T t:=fun a t e=>by
 have h:=phBody_ok2 (Alike.refl T) (rec:=runP T f) (rec':=runP T f) (fun ph hp s s' hs=>runP_ok2 (Alike.refl T) f ph hp s s' hs) ph hp hs
 have hd:=dOf_pos ph
 exact ⟨(h.fin (by omega) hc e).1,(h.fin (by omega) hc e).2.1⟩
theorem BdF.of {F:FuncId} {more:List Value} (h:∀ w q e,Bd w q e→Calls Tryz.prog F (Value.pointer (some ⟨q,0,none⟩) :: more).toArray w fun x w'=>x=.returned (.int .i64 0)∧Below w.heap.size w w'):BdF F more:=fun w q e b=>(h w q e b).mono fun _ _ hx=>⟨⟨0,hx.1⟩,hx.2⟩
theorem b_exp:BdF 135 []:=BdF.of fun _ _ _ b=>bd_exp b
theorem b_body:BdF 124 []:=BdF.of fun _ _ _ b=>bd_body b
theorem b_rest (at_ pat:Int) (t:ByteArray):BdF 102 [.int .i64 at_,.string t,.int .i64 pat]:=BdF.of fun _ _ _ b=>bd_rest b at_ pat t
theorem b_exps:BdFL 122 []:=fun _ _ _ b=>bd_exps b
theorem b_args:BdFL 101 []:=fun _ _ _ b=>bd_args b
theorem b_clauses:BdFL 214 []:=fun w _ _ b=>(bd_clauses b).mono fun _ w' hx=>⟨_,hx.1,[],by simp,OwnK.nil 1 w',fun _ e=>e.elim,hx.2⟩
def XR (T:List Tk) (g i0:Nat):Prop:=∀ f,g≤f→∀ s,i0≤s.i→PhF T 135 [] (runP T f (.expr 1)) s
section
variable {T:List Tk} {g i0:Nat}
theorem XR.up (X:XR T g i0) {g' j0:Nat} (hg:g≤g') (hi:i0≤j0):XR T g' j0:=fun f hf s hs=>X f (by omega) s (by omega)
theorem o_run (f:Nat) (ph:Ph) (hp:okPh ph) {s:Ps} (hs:S2 T s s):Ok2 T VN (dOf ph) (runP T f ph) (runP T f ph) s s:=runP_ok2 (Alike.refl T) f ph hp s s hs
theorem o_row (x:ByteArray) (f:Nat) (ph:Ph) (hp:okPh ph) {s:Ps} (hs:S2 T s s):Ok2 T VL (dOf ph) (row T x (runP T f ph)) (row T x (runP T f ph)) s s:=row_ok2 (Alike.refl T) (by have:=dOf_pos ph; omega) (fun s s' hs=>runP_ok2 (Alike.refl T) f ph hp s s' hs) hs
theorem XR.exps (X:XR T g i0) (hTk:∀ i,TkOk (tokAt T i)) {f:Nat} (hf:g≤f) (s:Ps) (hs:i0≤s.i):PhL T 122 [] (row T ⟨#[44]⟩ (runP T f (.expr 1))) s:=
 fun w q Tv Nv N h hg=>rf_exps (Fwd.of T f (.expr 1) (by simp [okPh])) (fun s2 h2=>X f hf s2 (by omega)) hTk h hg
theorem XR.body (X:XR T g i0) (hT:0 < T.length) (hTk:∀ i,TkOk (tokAt T i)) {f:Nat} (hf:g+1≤f) (s:Ps) (hs:i0≤s.i):PhF T 124 [] (runP T f .body) s:=by
 obtain ⟨f,rfl⟩:∃ k,f=k+1:=⟨f - 1,by omega⟩
 exact fun w q Tv Nv N h hg=>rf_body (rec:=runP T f) (fun w q Tv Nv N h hg=>X.exps hTk (by omega) s hs w q Tv Nv N h hg) hT (finOf .body trivial h.ok h.cnt) h hg
theorem XR.args (X:XR T g i0) (hTk:∀ i,TkOk (tokAt T i)) {f:Nat} (hf:g≤f) (s:Ps) (hs:i0≤s.i+1):PhL T 101 [] (arguments T (runP T f)) s:=
 fun w q Tv Nv N h hg=>rf_args (rec:=runP T f) (fun s2 h2 w q Tv Nv N h hg=>X.exps hTk hf s2 (by omega) w q Tv Nv N h hg) (fun s2 l u e=>rowT_len (runP_mono T f (.expr 1)) e) hTk h hg
end
def rowH {α:Type} (T:List Tk) (x:ByteArray) (ph:PM Nat) (f:Nat) (l:List Int) (K:List Int→PM α):PM α:=PM.bind ph fun k=>PM.bind (rowL T x ph f (l++[(k:Int)])) K
theorem rowH_start {α:Type} (T:List Tk) (x:ByteArray) (ph:PM Nat) (K:List Int→PM α):PM.bind (row T x ph) K=rowH T x ph (T.length+1) [] K:=by
 unfold row rowH
 rw [PM.bind_assoc]
 rfl
theorem rowH_next {α:Type} {T:List Tk} {x:ByteArray} {ph:PM Nat} {f:Nat} {acc:List Int} {K:List Int→PM α} {u:Ps} (hf:0 < f) (h:sgn T x u.i=true):PM.bind (rowL T x ph f acc) K u=rowH T x ph (f - 1) acc K ⟨u.i+1,u.N⟩:=by
 obtain ⟨f,rfl⟩:∃ k,f=k+1:=⟨f - 1,by omega⟩
 simp only [rowL,rowH,PM.bind,pIf,h,if_true,pSkip,Nat.add_sub_cancel]
 cases ph ⟨u.i+1,u.N⟩ <;> rfl
theorem rowH_stop {α:Type} {T:List Tk} {x:ByteArray} {ph:PM Nat} {f:Nat} {acc:List Int} {K:List Int→PM α} {r:Except Nat Ps} (hf:∀ u,r=.ok u→0 < f) (h:∀ u,r=.ok u→sgn T x u.i=false):Then r (PM.bind (rowL T x ph f acc) K)=Then r (K acc):=by
 cases r with
 | error e=>rfl
 | ok u=>
  have:=hf u rfl
  obtain ⟨f,rfl⟩:∃ k,f=k+1:=⟨f - 1,by omega⟩
  simp [Then,rowL,PM.bind,pIf,h u rfl,PM.ret]
def RwU {α:Type} (T:List Tk) (x:ByteArray) (ph:PM Nat) (K:List Int→PM α) (b:Nat) (w wr:World) (q:Nat) (Tv Nv:Value) (N:List Nd) (s:Ps) (H:Nat→Prop) (w0:World) (res:Except Nat (α × Ps)) (V:Value):Prop:=
 ∃ (l:List Int) (r:Except Nat Ps) (fu:Nat),Uf T w wr q Tv Nv N s (T.length+2) 0 H V l (.slice none 0 0) [] [] r∧Kp H w0 wr∧Then r (rowH T x ph fu l K)=res∧l.length≤T.length+1∧∀ u,r=.ok u→T.length - u.i < fu∧l.length+s.i≤u.i+b
theorem Uf.left {T:List Tk} {w wr:World} {q:Nat} {Tv Nv:Value} {N:List Nd} {s:Ps} {B:Nat} {d:Int} {H:Nat→Prop} {V1 V2:Value} {l1 l2 zs:List Int} {u:Ps} (U:Uf T w wr q Tv Nv N s B d H V1 l1 V2 l2 zs (.ok u)):leftOf T wr q=T.length+1 - u.i:=by
 obtain ⟨_,g,_,Nv1,M1,rg,_⟩:=U.x
 simp [leftOf,g.c3.1,rg.ps.at_.pos]
theorem Uf.il {T:List Tk} {w wr:World} {q:Nat} {Tv Nv:Value} {N:List Nd} {s:Ps} {B:Nat} {d:Int} {H:Nat→Prop} {V1 V2:Value} {l1 l2 zs:List Int} {u:Ps} (U:Uf T w wr q Tv Nv N s B d H V1 l1 V2 l2 zs (.ok u)):u.i≤T.length∧s.i≤u.i:=by
 obtain ⟨p,g,_,Nv1,M1,rg,_⟩:=U.x
 exact ⟨rg.ps.ok.il,p.i⟩
theorem Uf.tl {T:List Tk} {w wr:World} {q:Nat} {Tv Nv:Value} {N:List Nd} {s:Ps} {B:Nat} {d:Int} {H:Nat→Prop} {V1 V2:Value} {l1 l2 zs:List Int} {u:Ps} (U:Uf T w wr q Tv Nv N s B d H V1 l1 V2 l2 zs (.ok u)):T.length≤65536:=by
 obtain ⟨p,g,_,Nv1,M1,rg,_⟩:=U.x
 exact rg.ps.at_.tl
section
variable {T:List Tk} {g i0:Nat}
theorem XR.guard (X:XR T g i0) (hT:0 < T.length) (hTk:∀ i,TkOk (tokAt T i)) {f:Nat} (hf:g+2≤f) (s:Ps) (hs:i0≤s.i):PhF T 123 [] (runP T f .guard) s:=by
 intro w q Tv Nv N h hg
 obtain ⟨f,rfl⟩:∃ k,f=k+2:=⟨f - 2,by omega⟩
 obtain ⟨res,hres⟩:∃ res,runP T (f+2) .guard s=res:=⟨_,rfl⟩
 rw [hres]
 show Calls Tryz.prog _ #[.pointer (some ⟨q,0,none⟩)] w _
 have U0:=Uf.start h hg (T.length+2)
 have c0:=U0.token 0 (by omega)
 have HC:=Hid.mk7 h.cnt
 have HT:=Hid.mk7 (And.intro hT h.at_.tl)
 have HX:=Hid.mk7 (And.intro X (And.intro hTk (And.intro (show g≤f by omega) hs)))
 have HQ:=Hid.mk7 (And.intro hres U0)
 have hfa:=Tryz.tokPlace
 clear h hg U0 X hTk hf hs hres hT
 go_enter Tryz.func123,Tryz.ntmps123
 go_wp2_with fail
 refine c0.mono ?_
 rintro y w0 ⟨⟨tk,tt,tn,ta⟩,rfl,hb0,ht,_⟩
 have hta:(tokAt T s.i).at_=ta:=by have:=ht s rfl; simp at this; rw [← this]
 have H0:=Hid.mk7 (And.intro (HQ.out.2.below hb0) hta)
 clear c0 hb0 ht hta
 simp only [Tk.val]
 go_wp2_with fail
 go_loopw [4] (fun V wr=>RwU T ⟨#[59]⟩ (runP T (f+1) .conj) (fun ks=>pAdd ⟨21,⟨#[]⟩,⟨#[]⟩,0,ks,ta⟩) 0 w wr q Tv Nv N s noH w0 res V) (fun _ wr=>leftOf T wr q)
 case atStart=>
  refine ⟨[],.ok s,T.length+1,H0.out.1,fun _ e=>e.elim,?_,by simp,fun u e=>by cases e; simp; omega⟩
  rw [← rowH_start,← HQ.out.1,← H0.out.2]
  simp [runP,phBody,PM.bind,pTok,Then]
 case round=>
  obtain ⟨l,r,fu,U,_,hq,hl,hr⟩:=hrel
  obtain ⟨aV,cV,hV,_⟩:=OwnK.sl U.a.own |>.form
  subst hV
  cases r with
  | error e=>
   have hb:=U.x.1.bad
   have H1:=Hid.mk7 (And.intro U hq)
   clear U hq hr
   have hq9:Then (.error e) (PM.bind (pAdd ⟨21,⟨#[]⟩,⟨#[]⟩,0,l,ta⟩) PM.ret)=res:=by rw [PM.bind_ret]; exact H1.out.2
   have c9:=Uf.node (H1.out.1.to2.bad 1 []) HT.out.1 HC.out (by decide) 21 ta ⟨#[]⟩ hq9
   clear hq9
   go_wp2_with fail
   refine c9.mono ?_
   rintro y w9 ⟨z9,rfl,_,r9,hq9,U9,_⟩
   have H9:=Hid.mk7 (U9.done hq9)
   clear c9 hq9 U9
   go_wp2
   go_ret
   exact H9.out
  | ok u=>
   have hb:=U.x.2.1.c3.1
   have c1:=U.token 0 (by omega)
   have HL:=Hid.mk7 (And.intro U.left (And.intro U.il (And.intro (hr u rfl) hl)))
   have H1:=Hid.mk7 (And.intro U hq)
   clear U hq hr hl
   go_wp2_with fail
   refine c1.mono ?_
   rintro y w1 ⟨⟨tk1,tt1,tn1,ta1⟩,rfl,hb1,ht1,_⟩
   have hta1:(tokAt T u.i).at_=ta1:=by have:=ht1 u rfl; simp at this; rw [← this]
   have U1:=H1.out.1.below hb1
   have hq1:Then (.ok u) (PM.bind (row T ⟨#[44]⟩ (runP T f (.expr 1))) fun ks=>PM.bind (pAdd ⟨22,⟨#[]⟩,⟨#[]⟩,0,ks,ta1⟩) fun k=>PM.bind (rowL T ⟨#[59]⟩ (runP T (f+1) .conj) fu (l++[(k:Int)])) (fun ks=>pAdd ⟨21,⟨#[]⟩,⟨#[]⟩,0,ks,ta⟩))=res:=by
    rw [← H1.out.2,← hta1]
    simp only [Then,rowH,runP,phBody,PM.bind,pTok,whole]
    cases row T ⟨#[44]⟩ (runP T f (.expr 1)) u <;> rfl
   have c2:Calls Tryz.prog 122 #[.pointer (some ⟨q,0,none⟩)] w1 _:=U1.phraseL (dm:=3) (fun u2 e=>HX.out.1.exps HX.out.2.1 HX.out.2.2.1 u2 (by cases e; have:=HX.out.2.2.2; have:=HL.out.2.1.2; omega)) (fun _ _=>b_exps) (fun u2 _ hs=>o_row _ f (.expr 1) (by simp [okPh]) hs) (fun u2 l v e=>rowT_len (runP_mono T f (.expr 1)) e) (by omega) hq1
   clear c1 hb hb1 ht1 U1 hq1 hta1
   simp only [Tk.val]
   go_wp2_with fail
   refine c2.mono ?_
   rintro y w2 ⟨V2,l2,rfl,⟨a2,e2,hV2⟩,_,_,r2,hq2,U2,hr2⟩
   subst hV2
   have c3:=U2.node HT.out.1 HC.out (by decide) 22 ta1 ⟨#[]⟩ hq2
   have hi3:∀ v,r2=.ok v→u.i < v.i:=fun v e=>by
    obtain ⟨v2,e1,_,_,e2⟩:=hr2 v e
    cases e1
    exact e2 (by decide)
   have HI:=Hid.mk7 hi3
   clear c2 hq2 U2 hr2 hi3
   go_wp2_with fail
   refine c3.mono ?_
   rintro y w3 ⟨z3,rfl,_,r3,hq3,U3,hr3⟩
   have hq4:=U3.cast (k:=fun k=>PM.bind (rowL T ⟨#[59]⟩ (runP T (f+1) .conj) fu (l++[k])) (fun ks=>pAdd ⟨21,⟨#[]⟩,⟨#[]⟩,0,ks,ta⟩)) hq3
   have hi4:∀ v,r3=.ok v→u.i < v.i:=fun v e=>by obtain ⟨v2,e1,e2⟩:=hr3 v e; have:=HI.out v2 e1; omega
   have H3:=Hid.mk7 (And.intro U3 (And.intro hq4 hi4))
   clear c3 hq3 U3 hr3 hq4 hi4
   go_wp2_with (at_builtin; refine wpList_append_k (by rfl) (.tmp 17) (.tmp 23) (by rfl) Tryz.intTypes (by rfl) (by rfl) (OwnK.turned H3.out.1.a.own (Turned.alloc (fun _=>False) _ _) (fun _ _ e=>e)) (SlI.one _ _ _) (ints_one _) (by have:=H3.out.1.a.len; have:=HT.out.2; simp; omega) (by have:=H3.out.1.a.len; have:=HT.out.2; simp; omega) ?_; intro V4 w4 ho4 T4 hv4)
   obtain ⟨U4a,_⟩:=H3.out.1.push HT.out.1 (Below.alloc0 w3 _) ho4 T4 hv4 (by have:=HL.out.2.2.2; simp; omega) (by simp)
   have hlen:(l++[z3]).length=l.length+[z3].length:=by simp
   obtain ⟨aW,cW,hW,_⟩:=OwnK.sl ho4 |>.form
   have U4:=U4a.nums (zs':=[]) (fun z hz=>by cases hz)
   clear U4a
   rw [hW] at U4
   subst hW
   have c5:=U4.take ⟨#[59]⟩
   have H4:=Hid.mk7 U4
   clear ho4 T4 hv4 U4
   go_wp2_with fail
   refine c5.mono ?_
   rintro y w5 ⟨_,⟨rfl,v,hv,hk,hlt,U5⟩ | ⟨rfl,hk,U5⟩⟩
   ·subst hv
    have hk:sgn T ⟨#[59]⟩ v.i=true:=by rw [tkIs_sign (HX.out.2.1 _) (by simp [allSigns])] at hk; exact hk
    have hq5:Then (.ok ⟨v.i+1,v.N⟩) (rowH T ⟨#[59]⟩ (runP T (f+1) .conj) (fu - 1) (l++[z3]) (fun ks=>pAdd ⟨21,⟨#[]⟩,⟨#[]⟩,0,ks,ta⟩))=res:=(rowH_next (by have:=HL.out.2.2.1.1; omega) hk).symm.trans H3.out.2.1
    have H5:=Hid.mk7 (And.intro (U5.weak (d':=0) (by decide)) (And.intro hq5 hlt))
    clear c5 hk hlt U5 hq5
    go_wp2
    go_roundw
    case rel=>
     refine ⟨l++[z3],.ok ⟨v.i+1,v.N⟩,fu - 1,H5.out.1,fun _ e=>e.elim,H5.out.2.1,?_,fun u2 e=>?_⟩
     ·have h1:=H3.out.2.2 v rfl; have:=HL.out.2.2.1.2; have:=H5.out.2.2; simp; omega
     ·cases e
      have h1:=H3.out.2.2 v rfl
      have h2:=HL.out.2.2.1
      have:=H5.out.2.2
      simp
      omega
    case measure=>
     have h1:=H3.out.2.2 v rfl
     have h2:=H5.out.1.left
     have h3:=HL.out.1
     have h4:=H5.out.2.2
     simp only at h2 h3
     omega
   ·have hq5:=(rowH_stop (K:=fun ks=>pAdd ⟨21,⟨#[]⟩,⟨#[]⟩,0,ks,ta⟩) (fun u2 e=>by have:=HL.out.2.2.1.1; omega) (fun u2 e=>by have:=hk u2 e; rw [tkIs_sign (HX.out.2.1 _) (by simp [allSigns])] at this; exact this)).symm.trans H3.out.2.1
    have H5:=Hid.mk7 (And.intro U5 hq5)
    clear c5 hk U5 hq5
    have hq9:Then (r3) (PM.bind (pAdd ⟨21,⟨#[]⟩,⟨#[]⟩,0,(l++[z3]),ta⟩) PM.ret)=res:=by rw [PM.bind_ret]; exact H5.out.2
    have c9:=Uf.node (H5.out.1.to2) HT.out.1 HC.out (by decide) 21 ta ⟨#[]⟩ hq9
    clear hq9
    go_wp2_with fail
    refine c9.mono ?_
    rintro y w9 ⟨z9,rfl,_,r9,hq9,U9,_⟩
    have H9:=Hid.mk7 (U9.done hq9)
    clear c9 hq9 U9
    go_wp2
    go_ret
    exact H9.out
end
def restB (T:List Tk) (rec:Ph→PM Nat) (n:Sh) (kids:List Int):PM Nat:=PM.bind (pNeed T (sgn T ⟨#[45,62]⟩)) fun _=>PM.bind (rec .body) fun b=>pAdd { n with kids:=kids++[(b:Int)] }
theorem rest_when {T:List Tk} {rec:Ph→PM Nat} {n:Sh} {p:Nat} {s:Ps} (h:wrd T ⟨#[119,104,101,110]⟩ s.i=true):rest T rec n p s=Then (.ok ⟨s.i+1,s.N⟩) (PM.bind (rec .guard) fun k=>restB T rec n [(p:Int),(k:Int)]):=by
 simp only [rest,PM.bind,pIf,h,if_true,pSkip,Then,PM.ret,restB]
 cases rec .guard ⟨s.i+1,s.N⟩ <;> rfl
theorem rest_none {T:List Tk} {rec:Ph→PM Nat} {n:Sh} {p:Nat} {s:Ps} (h:wrd T ⟨#[119,104,101,110]⟩ s.i=false):rest T rec n p s=Then (.ok s) (restB T rec n [(p:Int)]):=by
 simp [rest,PM.bind,pIf,h,Then,PM.ret,restB]
section
variable {T:List Tk} {g i0:Nat}
theorem XR.restP (X:XR T g i0) (hT:0 < T.length) (hTk:∀ i,TkOk (tokAt T i)) {f:Nat} (hf:g+2≤f) (s:Ps) (hs:i0≤s.i) (at_:Int) (t:ByteArray) (pat:Nat) (hp:pat < s.N.length) :
  PhF T 102 [.int .i64 at_,.string t,.int .i64 pat] (rest T (runP T f) ⟨20,t,⟨#[]⟩,0,[],at_⟩ pat) s:=by
 intro w q Tv Nv N h hg
 obtain ⟨res,hres⟩:∃ res,rest T (runP T f) ⟨20,t,⟨#[]⟩,0,[],at_⟩ pat s=res:=⟨_,rfl⟩
 rw [hres]
 show Calls Tryz.prog _ #[.pointer (some ⟨q,0,none⟩),.int .i64 at_,.string t,.int .i64 pat] w _
 have U1:=(((Uf.start h hg 3).num (z:=(pat:Int)) ⟨by omega,by omega⟩).lit hT (OwnI.one w pat 3) (by simp) (by simp)).to1
 have c1:=U1.take ⟨#[119,104,101,110]⟩
 have HC:=Hid.mk7 h.cnt
 have HX:=Hid.mk7 (And.intro X (And.intro (fun f hf s hs=>X.guard hT hTk (f:=f) hf s hs) (And.intro trivial (And.intro hTk (And.intro hf hs)))))
 have HQ:=Hid.mk7 hres
 have HT:=Hid.mk7 hT
 clear h hg U1 X hTk hf hs hres hT hp
 go_enter Tryz.func102,Tryz.ntmps102
 go_wp2_with fail
 refine c1.mono ?_
 rintro y w1 ⟨_,⟨rfl,u,hu,hk,hlt,U2⟩ | ⟨rfl,hk,U2⟩⟩
 ·cases hu
  rw [tkIs_word (HX.out.2.2.2.1 _) (by simp [allWords])] at hk
  have hq:=(rest_when hk).symm.trans HQ.out
  have c2:Calls Tryz.prog 123 #[.pointer (some ⟨q,0,none⟩)] w1 _:=U2.phrase (dm:=1) (fun u e=>HX.out.2.1 f HX.out.2.2.2.2.1 u (by cases e; have:=HX.out.2.2.2.2.2; simp; omega)) (fun _ e=>by cases e) (fun u _ hs=>o_run f .guard trivial hs) hq
  clear c1 hk hlt U2 hq
  go_wp2_with fail
  refine c2.mono ?_
  rintro y w2 ⟨z,rfl,_,r2,hq,U3,hr⟩
  have hq3:=U3.cast (k:=fun k=>restB T (runP T f) ⟨20,t,⟨#[]⟩,0,[],at_⟩ [(pat:Int),k]) hq
  have hi3:∀ u,r2=.ok u→i0≤u.i:=fun u e=>by
   obtain ⟨v,e1,_,e3⟩:=hr u e
   cases e1
   have:=HX.out.2.2.2.2.2
   simp at e3
   omega
  have H3:=Hid.mk7 (And.intro U3 (And.intro hq3 hi3))
  clear c2 hq U3 hr hq3 hi3
  go_wp2_with (at_builtin; refine wpList_append_k (by rfl) (.tmp 14) (.tmp 17) (by rfl) Tryz.intTypes (by rfl) (by rfl) (OwnK.turned H3.out.1.a.own (Turned.alloc (fun _=>False) _ _) (fun _ _ e=>e)) (SlI.one _ _ _) (ints_one _) (by simp) (by simp) ?_; intro V4 w4 ho4 T4 hv4)
  obtain ⟨U4,_⟩:=H3.out.1.push HT.out (Below.alloc0 w2 _) ho4 T4 hv4 (by simp) (by simp)
  have c5:=U4.want ⟨#[45,62]⟩ (b:=sgn T ⟨#[45,62]⟩) (fun i=>(tkIs_sign (HX.out.2.2.2.1 _) (by simp [allSigns])).symm) H3.out.2.1
  obtain ⟨aV,cV,hV,_⟩:=OwnK.sl ho4 |>.form
  subst hV
  clear ho4 T4 hv4 U4
  go_wp2_with fail
  refine c5.mono ?_
  rintro y w5 ⟨rfl,_,r5,hq5,U5,hr5⟩
  have c6:Calls Tryz.prog 124 #[.pointer (some ⟨q,0,none⟩)] w5 _:=U5.phrase (dm:=2) (fun u e=>HX.out.1.body HT.out HX.out.2.2.2.1 (by have:=HX.out.2.2.2.2.1; omega) u (by obtain ⟨v,e1,_,rfl⟩:=hr5 u e; have:=H3.out.2.2 v e1; simp; omega)) (fun _ _=>b_body) (fun u _ hs=>o_run f .body trivial hs) hq5
  clear c5 hq5 U5 hr5
  go_wp2_with fail
  refine c6.mono ?_
  rintro y w6 ⟨z6,rfl,_,r6,hq6,U6,_⟩
  have hq7:=U6.cast (k:=fun k=>pAdd { (⟨20,t,⟨#[]⟩,0,[],at_⟩:Sh) with kids:=[(pat:Int),z]++[k] }) hq6
  have H6:=Hid.mk7 (And.intro U6 hq7)
  clear c6 hq6 U6 hq7
  go_wp2_with (at_builtin; refine wpList_append_k (by rfl) (.tmp 21) (.tmp 24) (by rfl) Tryz.intTypes (by rfl) (by rfl) (OwnK.turned H6.out.1.a.own (Turned.alloc (fun _=>False) _ _) (fun _ _ e=>e)) (SlI.one _ _ _) (ints_one _) (by simp) (by simp) ?_; intro V7 w7 ho7 T7 hv7)
  obtain ⟨U7,_⟩:=H6.out.1.push HT.out (Below.alloc0 w6 _) ho7 T7 hv7 (by simp) (by simp)
  have hq8:Then r6 (PM.bind (pAdd ⟨20,t,⟨#[]⟩,0,[(pat:Int)]++[z]++[z6],at_⟩) PM.ret)=res:=by rw [PM.bind_ret]; exact H6.out.2
  have c8:=U7.to2.node HT.out HC.out (by decide) 20 at_ t hq8
  obtain ⟨aW,cW,hW,_⟩:=OwnK.sl ho7 |>.form
  subst hW
  clear ho7 T7 hv7 U7 hq8
  go_wp2_with fail
  refine c8.mono ?_
  rintro y w8 ⟨z8,rfl,_,r8,hq8,U8,_⟩
  have H8:=Hid.mk7 (U8.done hq8)
  clear c8 hq8 U8
  go_wp2
  go_ret
  exact H8.out
 ·have hk:wrd T ⟨#[119,104,101,110]⟩ s.i=false:=by
   have h1:=hk s rfl
   rw [tkIs_word (HX.out.2.2.2.1 _) (by simp [allWords])] at h1
   exact h1
  have hq:=(rest_none hk).symm.trans HQ.out
  have c5:=U2.want ⟨#[45,62]⟩ (b:=sgn T ⟨#[45,62]⟩) (fun i=>(tkIs_sign (HX.out.2.2.2.1 _) (by simp [allSigns])).symm) hq
  clear c1 U2 hq
  go_wp2_with fail
  refine c5.mono ?_
  rintro y w5 ⟨rfl,_,r5,hq5,U5,hr5⟩
  have c6:Calls Tryz.prog 124 #[.pointer (some ⟨q,0,none⟩)] w5 _:=U5.phrase (dm:=2) (fun u e=>HX.out.1.body HT.out HX.out.2.2.2.1 (by have:=HX.out.2.2.2.2.1; omega) u (by obtain ⟨v,e1,_,rfl⟩:=hr5 u e; cases e1; have:=HX.out.2.2.2.2.2; simp; omega)) (fun _ _=>b_body) (fun u _ hs=>o_run f .body trivial hs) hq5
  clear c5 hq5 U5 hr5
  go_wp2_with fail
  refine c6.mono ?_
  rintro y w6 ⟨z6,rfl,_,r6,hq6,U6,_⟩
  have hq7:=U6.cast (k:=fun k=>pAdd { (⟨20,t,⟨#[]⟩,0,[],at_⟩:Sh) with kids:=[(pat:Int)]++[k] }) hq6
  have H6:=Hid.mk7 (And.intro U6 hq7)
  clear c6 hq6 U6 hq7
  go_wp2_with (at_builtin; refine wpList_append_k (by rfl) (.tmp 21) (.tmp 24) (by rfl) Tryz.intTypes (by rfl) (by rfl) (OwnK.turned H6.out.1.a.own (Turned.alloc (fun _=>False) _ _) (fun _ _ e=>e)) (SlI.one _ _ _) (ints_one _) (by simp) (by simp) ?_; intro V7 w7 ho7 T7 hv7)
  obtain ⟨U7,_⟩:=H6.out.1.push HT.out (Below.alloc0 w6 _) ho7 T7 hv7 (by simp) (by simp)
  have hq8:Then r6 (PM.bind (pAdd ⟨20,t,⟨#[]⟩,0,[(pat:Int)]++[z6],at_⟩) PM.ret)=res:=by rw [PM.bind_ret]; exact H6.out.2
  have c8:=U7.to2.node HT.out HC.out (by decide) 20 at_ t hq8
  obtain ⟨aW,cW,hW,_⟩:=OwnK.sl ho7 |>.form
  subst hW
  clear ho7 T7 hv7 U7 hq8
  go_wp2_with fail
  refine c8.mono ?_
  rintro y w8 ⟨z8,rfl,_,r8,hq8,U8,_⟩
  have H8:=Hid.mk7 (U8.done hq8)
  clear c8 hq8 U8
  go_wp2
  go_ret
  exact H8.out
theorem XR.restZ (X:XR T g i0) (hT:0 < T.length) (hTk:∀ i,TkOk (tokAt T i)) {f:Nat} (hf:g+2≤f) (s:Ps) (hs:i0≤s.i) (at_:Int) (t:ByteArray) (z:Int) (hz:((z.toNat:Nat):Int)=z∧z.toNat < s.N.length) :
  PhF T 102 [.int .i64 at_,.string t,.int .i64 z] (Go.Proofs.YtlciaafincgdeaaGreatDoor.rest T (runP T f) ⟨20,t,⟨#[]⟩,0,[],at_⟩ z.toNat) s:=by
 have:=X.restP hT hTk hf s hs at_ t z.toNat hz.2
 rw [hz.1] at this
 exact this
theorem o_rest (f:Nat) (n:Sh) {z:Int} {s:Ps} (hz:z.toNat < s.N.length) (hs:S2 T s s):Ok2 T VN 5 (Go.Proofs.YtlciaafincgdeaaGreatDoor.rest T (runP T f) n z.toNat) (Go.Proofs.YtlciaafincgdeaaGreatDoor.rest T (runP T f) n z.toNat) s s:=rest_ok2 (Alike.refl T) (fun ph hp s s' hs=>runP_ok2 (Alike.refl T) f ph hp s s' hs) rfl hs ⟨rfl,hz⟩
end
end Go.Proofs.YtlciaafincgdeaaGreatDoor
