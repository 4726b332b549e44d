import Derived.Test.YtgkbfahflngklaaGreatSpcV4
import Derived.Test.YtgkbfahflngklaaGreatRotBox
import Derived.Test.YtgkbfahflngklaaGreatCntA
import Derived.Test.YtgkbfahflngklaaGreatCntG
import Derived.Test.YtgkbfahflngklaaGreatSpcV1
set_option maxRecDepth 100000
set_option linter.unusedVariables false
namespace Go.Proofs.YtgkbfahflngklaaGreat
namespace Spc
open Go.RowKit RowLaw
open Dev (Dev DS ptr Turn)
open Rot (fsN planOk plan_facts)
open Go.Proofs.YtgkbfahflngklaaGreat.Cnt
section
variable {w W W':World} {q gp n:Nat} {S:SS}
theorem takes_n (S:SS) (o:Option Nat):(S.takes o).T.n=S.T.n:=by
 cases o with
 | none=>rfl
 | some a=>exact (setS_same S.T a 1).1
theorem Inv.takes (x:Inv S) (sp:Bool):Inv (S.takes (takeR S sp)):=by
 cases h:takeR S sp with
 | none=>exact x
 | some a=>exact (x.take h).2.2.2
theorem askV_in {T:TD} {a c:Nat} (h1:fsN T.n≤a) (h2:a < T.n):askV T a c=if 1≤c∧T.nowC a=0 then 9 else if c=2∧T.nowC a=65535 then 6 else 0:=by
 unfold askV fltE cntE
 rw [if_neg (show ¬ a < fsN T.n from by omega),if_neg (show ¬ T.n≤a from by omega),if_neg (show ¬ (0:Int)=2 from by decide)]
theorem askV_out {T:TD} {a c:Nat} (h:¬ (fsN T.n≤a∧a < T.n)):askV T a c=2:=by
 unfold askV fltE cntE
 by_cases h1:a < fsN T.n
 ·rw [if_pos h1]
 ·rw [if_neg h1,if_pos (show T.n≤a from by omega),if_pos rfl]
end
end Spc
namespace Cnt
open Go.RowKit Go.ChangeShapes Go.WideShapes Go.Deep
structure St where
 a:Nat
 n:Nat
 s:Bool
 r:Bool
 b:List UInt8
instance:Inhabited St:=⟨⟨0,0,false,false,[]⟩⟩
def St.Fits (x:St):Prop:=x.a < 4294967296∧x.n < 65536∧x.b.length=256
def stCells (x: St): List Value:=.int .u32 (x.a: Int)::.int .u16 (x.n: Int)::.bool x.s::.bool x.r::(LawKit.bytesOf x.b).toList
structure StsAt (W:World) (b off:Nat) (xs:List St):Prop where
 old:b < W.heap.size
 at_:∀ i (hi:i < xs.length),W.rangeAt b (off+i * 260) (stCells xs[i])
def Sts (W:World) (pa:Option Addr) (xs:List St):Prop:=(∀ x∈xs,x.Fits)∧(xs=[]∨∃ b off,pa=some ⟨b,off,none⟩∧StsAt W b off xs)
section
variable {H:Type} {enc:TypeId×Value→H} {W:World} {base:Nat} {sp:Nat→Bool} {held:Bool}
end
end Cnt
namespace Cnt
open Go.RowKit Go.Maps Go.MapKept RowLaw Crc
open Dev (Dev DS ptr Turn Step)
theorem Sts.cells {w:World} {pa:Option Addr} {xs:List St} (h:Sts w pa xs) {j:Nat} (hj:j < xs.length):∃ b off,pa=some ⟨b,off,none⟩∧xs[j].Fits∧∀ W,Below w.heap.size w W→
  W.cell? ⟨b,off+j * 260,none⟩=some (.int .u32 (xs[j].a:Int))∧W.cell? ⟨b,off+j * 260+1,none⟩=some (.int .u16 (xs[j].n:Int))∧W.cell? ⟨b,off+j * 260+2,none⟩=some (.bool xs[j].s):=by
 obtain ⟨h1,h2⟩:=h
 rcases h2 with h0 | ⟨b,off,hp,hb⟩
 ·rw [h0] at hj; exact absurd hj (by simp)
 ·refine ⟨b,off,hp,h1 _ (List.getElem_mem hj),fun W hW=>?_⟩
  have hc:∀ i v,(stCells xs[j])[i]? = some v→W.cell? ⟨b,off+j * 260+i,none⟩=some v:=fun i v hv=>(hW.cell (p:=⟨b,off+j * 260+i,none⟩) hb.old).trans (hb.at_ j hj i v hv)
  exact ⟨hc 0 _ rfl,hc 1 _ rfl,hc 2 _ rfl⟩
end Cnt
namespace Spc
open Go.RowKit RowLaw
open Dev (Dev DS ptr Turn)
open Rot (fsN planOk plan_facts)
open Go.Proofs.YtgkbfahflngklaaGreat.Cnt
def Sk (w:World) (q n:Nat) (E:List (Nat×Obj)) (S:SS) (W:World):Prop:=
 ∃ l K i j t bx s,Rs w l K i j q t bx s S W∧(∀ y∈E,y∈K)∧Inv S∧S.T.n=n
section
variable {w W W':World} {q n:Nat} {E E':List (Nat×Obj)} {S:SS}
theorem Sk.bel (x:Sk w q n E S W):Below w.heap.size w W:=by
 obtain ⟨l,K,i,j,t,bx,s,x,_⟩:=x
 exact Cnt.Hall.bel x.hall
theorem Sk.less (x:Sk w q n E S W) (hE:∀ y∈E',y∈E):Sk w q n E' S W:=by
 obtain ⟨l,K,i,j,t,bx,s,x,he,hr⟩:=x
 exact ⟨l,K,i,j,t,bx,s,x,fun y hy=>he y (hE y hy),hr⟩
theorem Sk.en (x:Sk w q n E S W):S.T.n=n:=by
 obtain ⟨l,K,i,j,t,bx,s,x,_,_,h⟩:=x
 exact h
theorem Sk.at_ (x:Sk w q n E S W) {g:Nat} {o:Obj} (h:(g,o)∈E):W.heap[g]? = some o:=by
 obtain ⟨l,K,i,j,t,bx,s,x,he,_⟩:=x
 exact Cnt.Hall.at_ x.hall (List.mem_cons_of_mem _ (he _ h))
theorem Sk.lt_ (x:Sk w q n E S W) {g:Nat} {o:Obj} (h:(g,o)∈E):g < W.heap.size:=(Array.getElem?_eq_some_iff.1 (x.at_ h)).1
theorem Sk.cell (x:Sk w q n E S W) {g:Nat} {cs:Array Value} {T:TypeId} (h:(g,Obj.cells cs T (0,0))∈E) {j:Nat} {v:Value} (hv:cs[j]? = some v):W.cell? ⟨g,j,none⟩=some v:=
 (cell_of_row W g j _ _ _ (x.at_ h)).trans hv
theorem Sk.put (x:Sk w q n E S W) {g j:Nat} {cs:Array Value} {v:Value} {T:TypeId} (hm:(g,Obj.cells cs T (0,0))∈E) (hg:w.heap.size≤g) (hT:T≠60) :
  Sk w q n ((g,.cells (cs.setIfInBounds j v) T (0,0))::but g E) S (W.setCell ⟨g,j,none⟩ v):=by
 obtain ⟨l,K,i,j',t,bx,s,x,he,hr⟩:=x
 have hmK:=he _ hm
 have hq:=x.out _ hmK
 have hb:bx≠g:=fun e=>Hall.unlike x.hall (List.mem_cons_of_mem _ hmK) (List.mem_cons_of_mem _ x.bxm) hT e.symm
 have h1:=Cnt.Hall.setCell (j:=j) (v:=v) (x.hall.less (K':=(g,.cells cs T (0,0))::but g ((q,spO t bx S.f S.r S.h)::K)) (fun y hy=>by
  rcases List.mem_cons.1 hy with rfl | hy
  ·exact List.mem_cons_of_mem _ hmK
  ·exact (but_mem.1 hy).1)) hg (fun y hy=>(but_mem.1 hy).2)
 refine ⟨l,(g,.cells (cs.setIfInBounds j v) T (0,0))::but g K,i,j',t,bx,s,{ x with hall:=h1.less (fun y hy=>?_),bxm:=List.mem_cons_of_mem _ (but_mem.2 ⟨x.bxm,hb⟩),out:=fun y hy=>?_ },fun y hy=>?_,hr⟩
 ·rcases List.mem_cons.1 hy with rfl | hy
  ·exact List.mem_cons_of_mem _ (but_mem.2 ⟨List.mem_cons_self,fun e=>hq e.symm⟩)
  ·rcases List.mem_cons.1 hy with rfl | hy
   ·exact List.mem_cons_self
   ·exact List.mem_cons_of_mem _ (but_mem.2 ⟨List.mem_cons_of_mem _ (but_mem.1 hy).1,(but_mem.1 hy).2⟩)
 ·rcases List.mem_cons.1 hy with rfl | hy
  ·exact hq
  ·exact x.out _ (but_mem.1 hy).1
 ·rcases List.mem_cons.1 hy with rfl | hy
  ·exact List.mem_cons_self
  ·exact List.mem_cons_of_mem _ (but_mem.2 ⟨he _ (but_mem.1 hy).1,(but_mem.1 hy).2⟩)
theorem Sk.take (x:Sk w q n E S W) (sp:Bool):Calls Tryz.prog 36 #[.pointer (some ⟨q,0,none⟩),.bool sp] W fun e W'=>e=.returned (ansV (takeR S sp))∧Sk w q n E (S.takes (takeR S sp)) W':=by
 obtain ⟨l,K,i,j,t,bx,s,x,he,h,hn⟩:=x
 exact (Take_any x h.h1 h.h2 h.ff h.rr sp).mono fun e W' ⟨h1,hx⟩=>⟨h1,l,K,i,j,t,bx,s,hx,he,h.takes sp,(takes_n _ _).trans hn⟩
theorem Sk.free (x:Sk w q n E S W):Calls Tryz.prog 30 #[.pointer (some ⟨q,0,none⟩)] W fun e W'=>e=.returned (.int .u32 (pos S.f:Int))∧W'=W:=by
 obtain ⟨l,K,i,j,t,bx,s,x,he,h,hn⟩:=x
 have:=h.ff
 exact Free_any x.sp (by unfold inI at this; omega) (by unfold inI at this; omega)
theorem Sk.room (x:Sk w q n E S W) (sp:Bool):Calls Tryz.prog 32 #[.pointer (some ⟨q,0,none⟩),.bool sp] W fun e W'=>e=.returned (.int .u32 (roomV S.r sp:Int))∧W'=W:=by
 obtain ⟨l,K,i,j,t,bx,s,x,he,h,hn⟩:=x
 have:=h.rr
 exact Room_any x.sp (by unfold inI at this; omega) (by unfold inI at this; omega) sp
theorem Sk.hint (x:Sk w q n E S W):Calls Tryz.prog 34 #[.pointer (some ⟨q,0,none⟩)] W fun e W'=>e=.returned (.int .u32 (S.h:Int))∧W'=W:=by
 obtain ⟨l,K,i,j,t,bx,s,x,_⟩:=x
 exact Hint_any x.sp
theorem ask_in {c a:Nat} (h:askV S.T a c=0):fsN S.T.n≤a∧a < S.T.n:=by
 by_cases hin:fsN S.T.n≤a∧a < S.T.n
 ·exact hin
 ·rw [askV_out hin] at h; omega
end
end Spc
namespace Spc
open Go.RowKit Go.ChangeShapes Go.WideShapes Go.Deep
theorem cellsU16':Tryz.prog.cellsOf 37=1:=by kernel_rfl
theorem cellsU8':Tryz.prog.cellsOf 5=1:=by kernel_rfl
theorem cellsU32':Tryz.prog.cellsOf 22=1:=by kernel_rfl
theorem cellsOld:Tryz.prog.cellsOf 94=2:=by kernel_rfl
theorem cellsAct:Tryz.prog.cellsOf 74=2:=by kernel_rfl
def oldCells (x:Nat×Nat):List Value:=[.int .u32 (x.1:Int),.int .u16 (x.2:Int)]
def actCells (x:Nat×Nat):List Value:=[.int .u8 (x.1:Int),.int .u32 (x.2:Int)]
structure ActsAt (W:World) (b off:Nat) (xs:List (Nat×Nat)):Prop where
 old:b < W.heap.size
 at_:∀ i (hi:i < xs.length),W.cell? ⟨b,off+i * 2,none⟩=some (.int .u8 (xs[i].1:Int))∧W.cell? ⟨b,off+i * 2+1,none⟩=some (.int .u32 (xs[i].2:Int))
def Acts (W:World) (pa:Option Addr) (xs:List (Nat×Nat)):Prop:=(∀ x∈xs,x.1 < 256∧x.2 < 4294967296)∧(xs=[]∨∃ b off,pa=some ⟨b,off,none⟩∧ActsAt W b off xs)
section
variable {H:Type} {enc:TypeId×Value→H} {W:World} {base:Nat} {sp:Nat→Bool} {held:Bool}
theorem open_old_cells {fuel:Nat} {cs:List Value} {y:DataW H×List MemPlace} (hcl:cs.length=2) (ht:DataW.trod enc Tryz.prog W base sp held fuel 94 cs=some y) :
  ∃ x:Nat×Nat,cs=oldCells x∧x.1 < 4294967296∧x.2 < 65536:=by
 obtain ⟨ys,n',_,_,_,hylen,hfs⟩:=DataW.trod_struct Tryz.underlying94 ht
 obtain ⟨v0,v1,rfl⟩:∃ v0 v1,cs=[v0,v1]:=by
  match cs,hcl with
  | [a,b],_=>exact ⟨a,b,rfl⟩
 have hyl:ys.length=2:=hylen
 have t0:DataW.trod enc Tryz.prog W base sp held n' 22 (([v0,v1].drop 0).take (Tryz.prog.cellsOf 22))=ys[0]?:=hfs 0 _ rfl
 rw [cellsU32',List.getElem?_eq_getElem (by omega)] at t0
 replace t0:DataW.trod enc Tryz.prog W base sp held n' 22 [v0]=some (ys[0]'(by omega)):=t0
 have t1:DataW.trod enc Tryz.prog W base sp held n' 37 (([v0,v1].drop 1).take (Tryz.prog.cellsOf 37))=ys[1]?:=hfs 1 _ rfl
 rw [cellsU16',List.getElem?_eq_getElem (by omega)] at t1
 replace t1:DataW.trod enc Tryz.prog W base sp held n' 37 [v1]=some (ys[1]'(by omega)):=t1
 obtain ⟨z0,e0,_,w0⟩:=DataW.trod_int Tryz.underlying22 t0
 obtain ⟨z1,e1,_,w1⟩:=DataW.trod_int Tryz.underlying37 t1
 simp only [List.cons.injEq,and_true] at e0 e1
 subst e0 e1
 obtain ⟨k,rfl,hk⟩:=LawKit.nat_of_u32 w0
 obtain ⟨m,rfl,hm⟩:=LawKit.nat_of_u16 w1
 exact ⟨(k,m),rfl,hk,hm⟩
theorem open_olds {b0:Nat} {v:Value} {d:DataW H} {ps:List MemPlace} (hval:Value.okWide Tryz.prog W .any b0 58 v) (h:DataW.Trod enc Tryz.prog W base sp held 58 v d ps) :
  ∃ (pa:Option Addr) (cap:Nat) (xs:List (Nat×Nat)),v=.slice pa xs.length cap∧xs.length≤maxLen∧Olds W pa xs:=by
 obtain ⟨a0,len,cap,rfl⟩:=okWide_slice Tryz.underlying58 hval
 obtain ⟨fuel,hf⟩:=h
 rcases open_slice Tryz.underlying58 hf with ⟨hcs,_⟩ | ⟨a,len',cap',m,nf,D,Pl,hcs,hbase,hl,hm,hmm,hx,hi⟩
 ·simp only [Value.cells,List.cons.injEq,Value.slice.injEq,and_true] at hcs
  obtain ⟨rfl,rfl,rfl⟩:=hcs
  exact ⟨none,0,[],rfl,by unfold maxLen; simp,by simp,.inl rfl⟩
 ·simp only [Value.cells,List.cons.injEq,Value.slice.injEq,and_true] at hcs
  obtain ⟨rfl,rfl,rfl⟩:=hcs
  have hlm:len≤m:=by rw [hmm]; split <;> omega
  by_cases h0:len=0
  ·subst h0
   exact ⟨some a,cap,[],rfl,by unfold maxLen; simp,by simp,.inl rfl⟩
  ·have key:∀ i,i < len→∃ x:Nat×Nat,(x.1 < 4294967296∧x.2 < 65536)∧∀ j,j < 2→W.cell? (a.add (i * 2+j))=(oldCells x)[j]?:=by
    intro i hil
    obtain ⟨cs,hc,ht⟩:=hi i (by omega)
    rw [cellsOld] at hc
    obtain ⟨_,hcl,hat⟩:=World.cells?_some hc
    obtain ⟨x,rfl,hok⟩:=open_old_cells hcl ht
    refine ⟨x,hok,fun j hj=>?_⟩
    have h1:=hat j (by omega)
    rw [Go.Deep.add_add a (i * 2) j] at h1
    rw [h1]
   obtain ⟨V,hV⟩:=choose_lt (α:=Nat×Nat) (p:=fun i x=>(x.1 < 4294967296∧x.2 < 65536)∧∀ j,j < 2→W.cell? (a.add (i * 2+j))=(oldCells x)[j]?) key
   have h00:=(hV 0 (by omega)).2 0 (by omega)
   have ea:a.add (0 * 2+0)=a:=by simp [Addr.add]
   rw [ea] at h00
   replace h00:W.cell? a=some (.int .u32 ((V 0).1:Int)):=h00
   have hsp:a.spot=none:=by
    cases hq:a.spot with
    | none=>rfl
    | some q=>
     exfalso
     unfold World.cell? at h00
     rw [hq] at h00
     split at h00 <;> simp at h00
   have hlt:=World.block_lt_of_cell? W _ h00
   obtain ⟨ab,ao,asp⟩:=a
   simp only at hsp hlt
   subst hsp
   refine ⟨some ⟨ab,ao,none⟩,cap,(List.range len).map V,by simp,by simp; omega,?_,.inr ⟨ab,ao,rfl,hlt,?_⟩⟩
   ·intro x hx
    obtain ⟨i,hi',rfl⟩:=List.mem_map.1 hx
    exact (hV i (by simpa using hi')).1
   ·intro i hil
    have hil':i < len:=by simpa using hil
    have hg:((List.range len).map V)[i]=V i:=by simp
    rw [hg]
    have h1:=(hV i hil').2 0 (by omega)
    have h2:=(hV i hil').2 1 (by omega)
    rw [Addr.add_mid] at h1 h2
    exact ⟨h1,h2⟩
theorem open_act_cells {fuel:Nat} {cs:List Value} {y:DataW H×List MemPlace} (hcl:cs.length=2) (ht:DataW.trod enc Tryz.prog W base sp held fuel 74 cs=some y) :
  ∃ x:Nat×Nat,cs=actCells x∧x.1 < 256∧x.2 < 4294967296:=by
 obtain ⟨ys,n',_,_,_,hylen,hfs⟩:=DataW.trod_struct Tryz.underlying74 ht
 obtain ⟨v0,v1,rfl⟩:∃ v0 v1,cs=[v0,v1]:=by
  match cs,hcl with
  | [a,b],_=>exact ⟨a,b,rfl⟩
 have hyl:ys.length=2:=hylen
 have t0:DataW.trod enc Tryz.prog W base sp held n' 5 (([v0,v1].drop 0).take (Tryz.prog.cellsOf 5))=ys[0]?:=hfs 0 _ rfl
 rw [cellsU8',List.getElem?_eq_getElem (by omega)] at t0
 replace t0:DataW.trod enc Tryz.prog W base sp held n' 5 [v0]=some (ys[0]'(by omega)):=t0
 have t1:DataW.trod enc Tryz.prog W base sp held n' 22 (([v0,v1].drop 1).take (Tryz.prog.cellsOf 22))=ys[1]?:=hfs 1 _ rfl
 rw [cellsU32',List.getElem?_eq_getElem (by omega)] at t1
 replace t1:DataW.trod enc Tryz.prog W base sp held n' 22 [v1]=some (ys[1]'(by omega)):=t1
 obtain ⟨z0,e0,_,w0⟩:=DataW.trod_int Tryz.underlying5 t0
 obtain ⟨z1,e1,_,w1⟩:=DataW.trod_int Tryz.underlying22 t1
 simp only [List.cons.injEq,and_true] at e0 e1
 subst e0 e1
 obtain ⟨k,rfl,hk⟩:=LawKit.nat_of_u8 w0
 obtain ⟨m,rfl,hm⟩:=LawKit.nat_of_u32 w1
 exact ⟨(k,m),rfl,hk,hm⟩
theorem open_acts {b0:Nat} {v:Value} {d:DataW H} {ps:List MemPlace} (hval:Value.okWide Tryz.prog W .any b0 59 v) (h:DataW.Trod enc Tryz.prog W base sp held 59 v d ps) :
  ∃ (pa:Option Addr) (cap:Nat) (xs:List (Nat×Nat)),v=.slice pa xs.length cap∧xs.length≤maxLen∧Acts W pa xs:=by
 obtain ⟨a0,len,cap,rfl⟩:=okWide_slice Tryz.underlying59 hval
 obtain ⟨fuel,hf⟩:=h
 rcases open_slice Tryz.underlying59 hf with ⟨hcs,_⟩ | ⟨a,len',cap',m,nf,D,Pl,hcs,hbase,hl,hm,hmm,hx,hi⟩
 ·simp only [Value.cells,List.cons.injEq,Value.slice.injEq,and_true] at hcs
  obtain ⟨rfl,rfl,rfl⟩:=hcs
  exact ⟨none,0,[],rfl,by unfold maxLen; simp,by simp,.inl rfl⟩
 ·simp only [Value.cells,List.cons.injEq,Value.slice.injEq,and_true] at hcs
  obtain ⟨rfl,rfl,rfl⟩:=hcs
  have hlm:len≤m:=by rw [hmm]; split <;> omega
  by_cases h0:len=0
  ·subst h0
   exact ⟨some a,cap,[],rfl,by unfold maxLen; simp,by simp,.inl rfl⟩
  ·have key:∀ i,i < len→∃ x:Nat×Nat,(x.1 < 256∧x.2 < 4294967296)∧∀ j,j < 2→W.cell? (a.add (i * 2+j))=(actCells x)[j]?:=by
    intro i hil
    obtain ⟨cs,hc,ht⟩:=hi i (by omega)
    rw [cellsAct] at hc
    obtain ⟨_,hcl,hat⟩:=World.cells?_some hc
    obtain ⟨x,rfl,hok⟩:=open_act_cells hcl ht
    refine ⟨x,hok,fun j hj=>?_⟩
    have h1:=hat j (by omega)
    rw [Go.Deep.add_add a (i * 2) j] at h1
    rw [h1]
   obtain ⟨V,hV⟩:=choose_lt (α:=Nat×Nat) (p:=fun i x=>(x.1 < 256∧x.2 < 4294967296)∧∀ j,j < 2→W.cell? (a.add (i * 2+j))=(actCells x)[j]?) key
   have h00:=(hV 0 (by omega)).2 0 (by omega)
   have ea:a.add (0 * 2+0)=a:=by simp [Addr.add]
   rw [ea] at h00
   replace h00:W.cell? a=some (.int .u8 ((V 0).1:Int)):=h00
   have hsp:a.spot=none:=by
    cases hq:a.spot with
    | none=>rfl
    | some q=>
     exfalso
     unfold World.cell? at h00
     rw [hq] at h00
     split at h00 <;> simp at h00
   have hlt:=World.block_lt_of_cell? W _ h00
   obtain ⟨ab,ao,asp⟩:=a
   simp only at hsp hlt
   subst hsp
   refine ⟨some ⟨ab,ao,none⟩,cap,(List.range len).map V,by simp,by simp; omega,?_,.inr ⟨ab,ao,rfl,hlt,?_⟩⟩
   ·intro x hx
    obtain ⟨i,hi',rfl⟩:=List.mem_map.1 hx
    exact (hV i (by simpa using hi')).1
   ·intro i hil
    have hil':i < len:=by simpa using hil
    have hg:((List.range len).map V)[i]=V i:=by simp
    rw [hg]
    have h1:=(hV i hil').2 0 (by omega)
    have h2:=(hV i hil').2 1 (by omega)
    rw [Addr.add_mid] at h1 h2
    exact ⟨h1,h2⟩
end
end Spc

end Go.Proofs.YtgkbfahflngklaaGreat
