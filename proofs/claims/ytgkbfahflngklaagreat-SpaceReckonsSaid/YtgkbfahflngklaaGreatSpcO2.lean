import Derived.Test.YtgkbfahflngklaaGreatRotBox
import Derived.Test.YtgkbfahflngklaaGreatCntA
import Derived.Test.YtgkbfahflngklaaGreatSpcV1
import Derived.Test.YtgkbfahflngklaaGreatSpcO1
set_option maxRecDepth 100000
set_option maxHeartbeats 12800000
namespace Go.Proofs.YtgkbfahflngklaaGreat
namespace Cnt
open Go.RowKit Go.ChangeShapes Go.WideShapes Go.Deep
structure St where
 a:Nat
 n:Nat
 s:Bool
 r:Bool
 b:List UInt8
instance:Inhabited St:=⟨⟨0,0,false,false,[]⟩⟩
def St.Fits (x:St):Prop:=x.a < 4294967296∧x.n < 65536∧x.b.length=256
def stCells (x: St): List Value:=.int .u32 (x.a: Int)::.int .u16 (x.n: Int)::.bool x.s::.bool x.r::(LawKit.bytesOf x.b).toList
structure StsAt (W:World) (b off:Nat) (xs:List St):Prop where
 old:b < W.heap.size
 at_:∀ i (hi:i < xs.length),W.rangeAt b (off+i * 260) (stCells xs[i])
def Sts (W:World) (pa:Option Addr) (xs:List St):Prop:=(∀ x∈xs,x.Fits)∧(xs=[]∨∃ b off,pa=some ⟨b,off,none⟩∧StsAt W b off xs)
section
variable {H:Type} {enc:TypeId×Value→H} {W:World} {base:Nat} {sp:Nat→Bool} {held:Bool}
end
end Cnt
namespace Spc
open Go.RowKit Go.ChangeShapes Go.WideShapes Go.Deep
theorem cellsU16':Tryz.prog.cellsOf 37=1:=by kernel_rfl
theorem cellsU8':Tryz.prog.cellsOf 5=1:=by kernel_rfl
theorem cellsU32':Tryz.prog.cellsOf 22=1:=by kernel_rfl
theorem cellsOld:Tryz.prog.cellsOf 94=2:=by kernel_rfl
theorem cellsAct:Tryz.prog.cellsOf 74=2:=by kernel_rfl
def oldCells (x:Nat×Nat):List Value:=[.int .u32 (x.1:Int),.int .u16 (x.2:Int)]
def actCells (x:Nat×Nat):List Value:=[.int .u8 (x.1:Int),.int .u32 (x.2:Int)]
structure ActsAt (W:World) (b off:Nat) (xs:List (Nat×Nat)):Prop where
 old:b < W.heap.size
 at_:∀ i (hi:i < xs.length),W.cell? ⟨b,off+i * 2,none⟩=some (.int .u8 (xs[i].1:Int))∧W.cell? ⟨b,off+i * 2+1,none⟩=some (.int .u32 (xs[i].2:Int))
def Acts (W:World) (pa:Option Addr) (xs:List (Nat×Nat)):Prop:=(∀ x∈xs,x.1 < 256∧x.2 < 4294967296)∧(xs=[]∨∃ b off,pa=some ⟨b,off,none⟩∧ActsAt W b off xs)
section
variable {H:Type} {enc:TypeId×Value→H} {W:World} {base:Nat} {sp:Nat→Bool} {held:Bool}
theorem open_old_cells {fuel:Nat} {cs:List Value} {y:DataW H×List MemPlace} (hcl:cs.length=2) (ht:DataW.trod enc Tryz.prog W base sp held fuel 94 cs=some y) :
  ∃ x:Nat×Nat,cs=oldCells x∧x.1 < 4294967296∧x.2 < 65536:=by
 obtain ⟨ys,n',_,_,_,hylen,hfs⟩:=DataW.trod_struct Tryz.underlying94 ht
 obtain ⟨v0,v1,rfl⟩:∃ v0 v1,cs=[v0,v1]:=by
  match cs,hcl with
  | [a,b],_=>exact ⟨a,b,rfl⟩
 have hyl:ys.length=2:=hylen
 have t0:DataW.trod enc Tryz.prog W base sp held n' 22 (([v0,v1].drop 0).take (Tryz.prog.cellsOf 22))=ys[0]?:=hfs 0 _ rfl
 rw [cellsU32',List.getElem?_eq_getElem (by omega)] at t0
 replace t0:DataW.trod enc Tryz.prog W base sp held n' 22 [v0]=some (ys[0]'(by omega)):=t0
 have t1:DataW.trod enc Tryz.prog W base sp held n' 37 (([v0,v1].drop 1).take (Tryz.prog.cellsOf 37))=ys[1]?:=hfs 1 _ rfl
 rw [cellsU16',List.getElem?_eq_getElem (by omega)] at t1
 replace t1:DataW.trod enc Tryz.prog W base sp held n' 37 [v1]=some (ys[1]'(by omega)):=t1
 obtain ⟨z0,e0,_,w0⟩:=DataW.trod_int Tryz.underlying22 t0
 obtain ⟨z1,e1,_,w1⟩:=DataW.trod_int Tryz.underlying37 t1
 simp only [List.cons.injEq,and_true] at e0 e1
 subst e0 e1
 obtain ⟨k,rfl,hk⟩:=LawKit.nat_of_u32 w0
 obtain ⟨m,rfl,hm⟩:=LawKit.nat_of_u16 w1
 exact ⟨(k,m),rfl,hk,hm⟩
theorem open_olds {b0:Nat} {v:Value} {d:DataW H} {ps:List MemPlace} (hval:Value.okWide Tryz.prog W .any b0 58 v) (h:DataW.Trod enc Tryz.prog W base sp held 58 v d ps) :
  ∃ (pa:Option Addr) (cap:Nat) (xs:List (Nat×Nat)),v=.slice pa xs.length cap∧xs.length≤maxLen∧Olds W pa xs:=by
 obtain ⟨a0,len,cap,rfl⟩:=okWide_slice Tryz.underlying58 hval
 obtain ⟨fuel,hf⟩:=h
 rcases open_slice Tryz.underlying58 hf with ⟨hcs,_⟩ | ⟨a,len',cap',m,nf,D,Pl,hcs,hbase,hl,hm,hmm,hx,hi⟩
 ·simp only [Value.cells,List.cons.injEq,Value.slice.injEq,and_true] at hcs
  obtain ⟨rfl,rfl,rfl⟩:=hcs
  exact ⟨none,0,[],rfl,by unfold maxLen; simp,by simp,.inl rfl⟩
 ·simp only [Value.cells,List.cons.injEq,Value.slice.injEq,and_true] at hcs
  obtain ⟨rfl,rfl,rfl⟩:=hcs
  have hlm:len≤m:=by rw [hmm]; split <;> omega
  by_cases h0:len=0
  ·subst h0
   exact ⟨some a,cap,[],rfl,by unfold maxLen; simp,by simp,.inl rfl⟩
  ·have key:∀ i,i < len→∃ x:Nat×Nat,(x.1 < 4294967296∧x.2 < 65536)∧∀ j,j < 2→W.cell? (a.add (i * 2+j))=(oldCells x)[j]?:=by
    intro i hil
    obtain ⟨cs,hc,ht⟩:=hi i (by omega)
    rw [cellsOld] at hc
    obtain ⟨_,hcl,hat⟩:=World.cells?_some hc
    obtain ⟨x,rfl,hok⟩:=open_old_cells hcl ht
    refine ⟨x,hok,fun j hj=>?_⟩
    have h1:=hat j (by omega)
    rw [Go.Deep.add_add a (i * 2) j] at h1
    rw [h1]
   obtain ⟨V,hV⟩:=choose_lt (α:=Nat×Nat) (p:=fun i x=>(x.1 < 4294967296∧x.2 < 65536)∧∀ j,j < 2→W.cell? (a.add (i * 2+j))=(oldCells x)[j]?) key
   have h00:=(hV 0 (by omega)).2 0 (by omega)
   have ea:a.add (0 * 2+0)=a:=by simp [Addr.add]
   rw [ea] at h00
   replace h00:W.cell? a=some (.int .u32 ((V 0).1:Int)):=h00
   have hsp:a.spot=none:=by
    cases hq:a.spot with
    | none=>rfl
    | some q=>
     exfalso
     unfold World.cell? at h00
     rw [hq] at h00
     split at h00 <;> simp at h00
   have hlt:=World.block_lt_of_cell? W _ h00
   obtain ⟨ab,ao,asp⟩:=a
   simp only at hsp hlt
   subst hsp
   refine ⟨some ⟨ab,ao,none⟩,cap,(List.range len).map V,by simp,by simp; omega,?_,.inr ⟨ab,ao,rfl,hlt,?_⟩⟩
   ·intro x hx
    obtain ⟨i,hi',rfl⟩:=List.mem_map.1 hx
    exact (hV i (by simpa using hi')).1
   ·intro i hil
    have hil':i < len:=by simpa using hil
    have hg:((List.range len).map V)[i]=V i:=by simp
    rw [hg]
    have h1:=(hV i hil').2 0 (by omega)
    have h2:=(hV i hil').2 1 (by omega)
    rw [Addr.add_mid] at h1 h2
    exact ⟨h1,h2⟩
theorem open_act_cells {fuel:Nat} {cs:List Value} {y:DataW H×List MemPlace} (hcl:cs.length=2) (ht:DataW.trod enc Tryz.prog W base sp held fuel 74 cs=some y) :
  ∃ x:Nat×Nat,cs=actCells x∧x.1 < 256∧x.2 < 4294967296:=by
 obtain ⟨ys,n',_,_,_,hylen,hfs⟩:=DataW.trod_struct Tryz.underlying74 ht
 obtain ⟨v0,v1,rfl⟩:∃ v0 v1,cs=[v0,v1]:=by
  match cs,hcl with
  | [a,b],_=>exact ⟨a,b,rfl⟩
 have hyl:ys.length=2:=hylen
 have t0:DataW.trod enc Tryz.prog W base sp held n' 5 (([v0,v1].drop 0).take (Tryz.prog.cellsOf 5))=ys[0]?:=hfs 0 _ rfl
 rw [cellsU8',List.getElem?_eq_getElem (by omega)] at t0
 replace t0:DataW.trod enc Tryz.prog W base sp held n' 5 [v0]=some (ys[0]'(by omega)):=t0
 have t1:DataW.trod enc Tryz.prog W base sp held n' 22 (([v0,v1].drop 1).take (Tryz.prog.cellsOf 22))=ys[1]?:=hfs 1 _ rfl
 rw [cellsU32',List.getElem?_eq_getElem (by omega)] at t1
 replace t1:DataW.trod enc Tryz.prog W base sp held n' 22 [v1]=some (ys[1]'(by omega)):=t1
 obtain ⟨z0,e0,_,w0⟩:=DataW.trod_int Tryz.underlying5 t0
 obtain ⟨z1,e1,_,w1⟩:=DataW.trod_int Tryz.underlying22 t1
 simp only [List.cons.injEq,and_true] at e0 e1
 subst e0 e1
 obtain ⟨k,rfl,hk⟩:=LawKit.nat_of_u8 w0
 obtain ⟨m,rfl,hm⟩:=LawKit.nat_of_u32 w1
 exact ⟨(k,m),rfl,hk,hm⟩
theorem open_acts {b0:Nat} {v:Value} {d:DataW H} {ps:List MemPlace} (hval:Value.okWide Tryz.prog W .any b0 59 v) (h:DataW.Trod enc Tryz.prog W base sp held 59 v d ps) :
  ∃ (pa:Option Addr) (cap:Nat) (xs:List (Nat×Nat)),v=.slice pa xs.length cap∧xs.length≤maxLen∧Acts W pa xs:=by
 obtain ⟨a0,len,cap,rfl⟩:=okWide_slice Tryz.underlying59 hval
 obtain ⟨fuel,hf⟩:=h
 rcases open_slice Tryz.underlying59 hf with ⟨hcs,_⟩ | ⟨a,len',cap',m,nf,D,Pl,hcs,hbase,hl,hm,hmm,hx,hi⟩
 ·simp only [Value.cells,List.cons.injEq,Value.slice.injEq,and_true] at hcs
  obtain ⟨rfl,rfl,rfl⟩:=hcs
  exact ⟨none,0,[],rfl,by unfold maxLen; simp,by simp,.inl rfl⟩
 ·simp only [Value.cells,List.cons.injEq,Value.slice.injEq,and_true] at hcs
  obtain ⟨rfl,rfl,rfl⟩:=hcs
  have hlm:len≤m:=by rw [hmm]; split <;> omega
  by_cases h0:len=0
  ·subst h0
   exact ⟨some a,cap,[],rfl,by unfold maxLen; simp,by simp,.inl rfl⟩
  ·have key:∀ i,i < len→∃ x:Nat×Nat,(x.1 < 256∧x.2 < 4294967296)∧∀ j,j < 2→W.cell? (a.add (i * 2+j))=(actCells x)[j]?:=by
    intro i hil
    obtain ⟨cs,hc,ht⟩:=hi i (by omega)
    rw [cellsAct] at hc
    obtain ⟨_,hcl,hat⟩:=World.cells?_some hc
    obtain ⟨x,rfl,hok⟩:=open_act_cells hcl ht
    refine ⟨x,hok,fun j hj=>?_⟩
    have h1:=hat j (by omega)
    rw [Go.Deep.add_add a (i * 2) j] at h1
    rw [h1]
   obtain ⟨V,hV⟩:=choose_lt (α:=Nat×Nat) (p:=fun i x=>(x.1 < 256∧x.2 < 4294967296)∧∀ j,j < 2→W.cell? (a.add (i * 2+j))=(actCells x)[j]?) key
   have h00:=(hV 0 (by omega)).2 0 (by omega)
   have ea:a.add (0 * 2+0)=a:=by simp [Addr.add]
   rw [ea] at h00
   replace h00:W.cell? a=some (.int .u8 ((V 0).1:Int)):=h00
   have hsp:a.spot=none:=by
    cases hq:a.spot with
    | none=>rfl
    | some q=>
     exfalso
     unfold World.cell? at h00
     rw [hq] at h00
     split at h00 <;> simp at h00
   have hlt:=World.block_lt_of_cell? W _ h00
   obtain ⟨ab,ao,asp⟩:=a
   simp only at hsp hlt
   subst hsp
   refine ⟨some ⟨ab,ao,none⟩,cap,(List.range len).map V,by simp,by simp; omega,?_,.inr ⟨ab,ao,rfl,hlt,?_⟩⟩
   ·intro x hx
    obtain ⟨i,hi',rfl⟩:=List.mem_map.1 hx
    exact (hV i (by simpa using hi')).1
   ·intro i hil
    have hil':i < len:=by simpa using hil
    have hg:((List.range len).map V)[i]=V i:=by simp
    rw [hg]
    have h1:=(hV i hil').2 0 (by omega)
    have h2:=(hV i hil').2 1 (by omega)
    rw [Addr.add_mid] at h1 h2
    exact ⟨h1,h2⟩
end
end Spc
namespace Spc
open Go.RowKit RowLaw
open Go.Proofs.YtgkbfahflngklaaGreat.Dev (Dev DS ptr)
open Go.Proofs.YtgkbfahflngklaaGreat.Cnt (Thing Hall TD loopsOf)
open Go.Proofs.YtgkbfahflngklaaGreat.Slt (Rt cells cells_one rootO infoR sizeR)
open Go.Proofs.YtgkbfahflngklaaGreat.Rot (fsN tlN pkN planOk plan_facts planCells planCells_one sizePlan infoPlan refLayout_yes)
set_option linter.unusedVariables false
set_option linter.unusedSimpArgs false
theorem order_olds {w:World} {m cap a:Nat} {xs:List (Nat×Nat)} {pa:Option Addr} (hm:m=xs.length) (hm40:m≤1000) (hx:Olds w pa xs)
  {Q0:Exit→Act→World→Prop} {c0 c2 c3 c4 c5 c6 c7 c8 c9 c10 c11 c12 c13 c14 c15 c16 c17 c18 c19 c20 c21 c23 c24 c27 c28 c29 c30 c31 c32 c33 c34 c35 c36 c37 c38 c39 c40 c41 c42 c43 c44 c45 c46 c47 c48 c49 c50 c51 c52 c53 c54 c55 c56 c57 c58 c59 c60 c61 c62 c63 c64 c65 c66 c67 c68 c69 c70 c71 c72 c73 c74 c75 c76 c77 c78 c79 c80 c81 c82 c83 c84 c85 c86 c87 c88 c89 c90 c91 c92 c93 c94 c95 c96 c97 c98 c99 c100 c101 c102 c103 c104 c105 c106 c107 c108 c109 c110 c111 c112 c113 c114 c115 c116 c117 c118 c119 c120 c121 c122 c123 c124 c125 c126 c127 c128 c129 c130 c131 c132 c133 c134 c135 c136 c137 c138 c139 c140 c141 c142 c143 c144 c145 c146 c147 c148 c149 c150 c151 c152 c153 c154 c155 c156 c157 c158 c159 c160 c161 c162 c163 c164 c165 c166 c167 c168 c169 c170 c171 c172 c173 c174 c175 c176 c177 c178 c179 c180 c181 c182 c183 c184 c185 c186 c187 c188 c189 c190 c191 c192:Value} {W0:World} (hb0:Below w.heap.size w W0)
  (hexit: ∀ (u26 u135 u136 u137 u138 u139 u140 u141 u142 u143 u144 u145 u146 u147 u148 u149 u150 u151 u152: Value) (W: World) ,W=W0→Q0 (.exit 4) ⟨List.toArray (c0::.slice pa m cap::c2::c3::c4::c5::c6::c7::c8::c9::c10::c11::c12::c13::c14::c15::c16::c17::c18::c19::c20::c21::.int .u32 (a: Int)::c23::c24::.int .u16 (lastS xs a 0: Int)::u26::c27::c28::c29::c30::c31::c32::c33::c34::c35::c36::c37::c38::c39::c40::c41::c42::c43::c44::c45::c46::c47::c48::c49::c50::c51::c52::c53::c54::c55::c56::c57::c58::c59::c60::c61::c62::c63::c64::c65::c66::c67::c68::c69::c70::c71::c72::c73::c74::c75::c76::c77::c78::c79::c80::c81::c82::c83::c84::c85::c86::c87::c88::c89::c90::c91::c92::c93::c94::c95::c96::c97::c98::c99::c100::c101::c102::c103::c104::c105::c106::c107::c108::c109::c110::c111::c112::c113::c114::c115::c116::c117::c118::c119::c120::c121::c122::c123::c124::c125::c126::c127::c128::c129::c130::c131::c132::c133::c134::u135::u136::u137::u138::u139::u140::u141::u142::u143::u144::u145::u146::u147::u148::u149::u150::u151::u152::c153::c154::c155::c156::c157::c158::c159::c160::c161::c162::c163::c164::c165::c166::c167::c168::c169::c170::c171::c172::c173::c174::c175::c176::c177::c178::c179::c180::c181::c182::c183::c184::c185::c186::c187::c188::c189::c190::c191::c192::[]),[]⟩ W) :
  Code.wp Tryz.prog (.loop bodyO3) Q0 ⟨List.toArray (c0::.slice pa m cap::c2::c3::c4::c5::c6::c7::c8::c9::c10::c11::c12::c13::c14::c15::c16::c17::c18::c19::c20::c21::.int .u32 (a: Int)::c23::c24::.int .u16 0::.int .i64 0::c27::c28::c29::c30::c31::c32::c33::c34::c35::c36::c37::c38::c39::c40::c41::c42::c43::c44::c45::c46::c47::c48::c49::c50::c51::c52::c53::c54::c55::c56::c57::c58::c59::c60::c61::c62::c63::c64::c65::c66::c67::c68::c69::c70::c71::c72::c73::c74::c75::c76::c77::c78::c79::c80::c81::c82::c83::c84::c85::c86::c87::c88::c89::c90::c91::c92::c93::c94::c95::c96::c97::c98::c99::c100::c101::c102::c103::c104::c105::c106::c107::c108::c109::c110::c111::c112::c113::c114::c115::c116::c117::c118::c119::c120::c121::c122::c123::c124::c125::c126::c127::c128::c129::c130::c131::c132::c133::c134::c135::c136::c137::c138::c139::c140::c141::c142::c143::c144::c145::c146::c147::c148::c149::c150::c151::c152::c153::c154::c155::c156::c157::c158::c159::c160::c161::c162::c163::c164::c165::c166::c167::c168::c169::c170::c171::c172::c173::c174::c175::c176::c177::c178::c179::c180::c181::c182::c183::c184::c185::c186::c187::c188::c189::c190::c191::c192::[]),[]⟩ W0:=by
 have HEX:=Lib.hid hexit; clear hexit
 have HX:=Lib.hid hx; clear hx
 have HLEN:=Lib.hid hm; clear hm
 have HB:=Lib.hid hb0; clear hb0
 conv=>arg 2; arg 1; whnf
 go_loopw [25,26] (fun v25 v26 W=>∃ k:Nat,k≤m∧v25=.int .u16 (lastS (xs.take k) a 0:Int)∧v26=.int .i64 (k:Int)∧W=W0) (fun _ v26 _=>m - (intOf v26).toNat)
 case atStart=>exact ⟨0,by omega,by rw [List.take_zero]; rfl,rfl,rfl⟩
 case round=>
  obtain ⟨k,hk,rfl,rfl,rfl⟩:=hrel
  by_cases hlt:k < m
  ·have hkl:k < xs.length:=by have:=HLEN.out; omega
   obtain ⟨b,off,hpa,hat⟩:∃ b off,pa=some ⟨b,off,none⟩∧OldsAt w b off xs:=by
    rcases HX.out.2 with h | h
    ·rw [h] at hkl; exact absurd hkl (by simp)
    ·exact h
   subst hpa
   obtain ⟨hc0,hc1⟩:=hat.at_ k hkl
   have hblt:=hat.old
   have htk:=lastS_take xs a 0 k hkl
   generalize xs[k]=y at hc0 hc1 htk
   have c0:=(HB.out.cell (p:=⟨b,off+k * 2,none⟩) hblt).trans hc0
   have c1:=(HB.out.cell (p:=⟨b,off+k * 2+1,none⟩) hblt).trans hc1
   have HTK:=Lib.hid htk
   have i0:(0:Int)≤(k:Int):=by omega
   have i1:(k:Int) < (m:Int):=by omega
   have z1:IntKind.i64.wrap ((k:Int)+1)=(k:Int)+1:=IntWalk.i64_in _ (by omega)
   generalize lastS (xs.take k) a 0=old at HTK
   clear hc0 hc1 hblt hat htk
   by_cases he:y.1=a
   ·have d1:((y.1:Int) == (a:Int))=true:=by rw [he]; simp
    have d2:(y.1:Int)=(a:Int):=by rw [he]
    have HE:=Lib.hid he
    clear he
    go_wp2_with fail
    go_roundw
    case rel=>exact ⟨k+1,by omega,by rw [HTK.out,if_pos HE.out],by go_num,trivial⟩
    case measure=>simp [intOf]; omega
   ·have d1:((y.1:Int) == (a:Int))=false:=by simp; omega
    have d2:¬ (y.1:Int)=(a:Int):=by omega
    have HE:=Lib.hid he
    clear he
    go_wp2_with fail
    go_roundw
    case rel=>exact ⟨k+1,by omega,by rw [HTK.out,if_neg HE.out],by go_num,trivial⟩
    case measure=>simp [intOf]; omega
  ·have hkm:k=m:=by omega
   have i1:¬ (k:Int) < (m:Int):=by omega
   have ht:xs.take k=xs:=List.take_of_length_le (by have:=HLEN.out; omega)
   rw [ht]
   have HE:=Lib.hid (HEX.out)
   generalize (lastS xs a 0:Int)=old at HE HEX ⊢
   clear hkm ht
   go_wp2_with fail
   exact HE.out _ _ _ _ _ _ _ _ _ _ _ _ _ _ _ _ _ _ _ _ rfl
theorem order_back {w:World} {q gp n fs m cap:Nat} {S:SS} {xs:List (Nat×Nat)} {pa:Option Addr} (hm:m=xs.length) (hm40:m≤1000) (hx:Olds w pa xs) (hfs:fs=fsN n) (hn:n≤1000) (hfn:fs < n) (hr:S.r=0) (hol:∀ a,fsN n≤a→a < n→S.T.oldC a=lastS xs a 0)
  {Q0:Exit→Act→World→Prop} {c2 c3 c4 c5 c6 c7 c9 c10 c11 c12 c13 c14 c15 c16 c17 c18 c19 c20 c21 c23 c24 c25 c26 c27 c28 c29 c30 c31 c32 c33 c34 c35 c36 c37 c38 c39 c40 c41 c42 c43 c44 c45 c46 c47 c48 c49 c50 c51 c52 c53 c54 c55 c56 c57 c58 c59 c60 c61 c62 c63 c64 c65 c66 c67 c68 c69 c70 c71 c72 c73 c74 c75 c76 c77 c78 c79 c80 c81 c82 c83 c84 c85 c86 c87 c88 c89 c90 c91 c92 c93 c94 c95 c96 c97 c98 c99 c100 c101 c102 c103 c104 c105 c106 c107 c108 c109 c110 c111 c112 c113 c114 c115 c116 c117 c118 c119 c120 c121 c122 c123 c124 c125 c126 c127 c128 c129 c130 c131 c132 c133 c134 c135 c136 c137 c138 c139 c140 c141 c142 c143 c144 c145 c146 c147 c148 c149 c150 c151 c152 c153 c154 c155 c156 c157 c158 c159 c160 c161 c162 c163 c164 c165 c166 c167 c168 c169 c170 c171 c172 c173 c174 c175 c176 c177 c178 c179 c180 c181 c182 c183 c184 c185 c186 c187 c188 c189 c190 c191 c192:Value} {W0:World} (hx0:Sv w q gp n S W0)
  (hexit: ∀ (u6 u22 u23 u24 u25 u26 u27 u28 u29 u30 u124 u125 u126 u127 u128 u129 u130 u131 u132 u133 u134 u135 u136 u137 u138 u139 u140 u141 u142 u143 u144 u145 u146 u147 u148 u149 u150 u151 u152 u153 u154 u155 u156 u157 u158 u159 u160 u161 u162 u163 u164 u165 u166 u167 u168 u169 u170 u171 u172 u173 u174 u175 u176 u177 u178 u179 u180 u181 u182 u183 u184 u185 u186 u187: Value) (W: World) ,Sv w q gp n S W→(∀ a,fsN n≤a→a < n→¬ (S.T.nowC a=1∧S.T.oldC a=0))→Q0 (.exit 2) ⟨List.toArray (.int .u32 (n: Int)::.slice pa m cap::c2::c3::c4::c5::u6::c7::.pointer (some ⟨q,0,none⟩)::c9::c10::c11::c12::c13::c14::c15::c16::c17::c18::c19::c20::c21::u22::u23::u24::u25::u26::u27::u28::u29::u30::c31::c32::c33::c34::c35::c36::c37::c38::c39::c40::c41::c42::c43::c44::c45::c46::c47::c48::c49::c50::c51::c52::c53::c54::c55::c56::c57::c58::c59::c60::c61::c62::c63::c64::c65::c66::c67::c68::c69::c70::c71::c72::c73::c74::c75::c76::c77::c78::c79::c80::c81::c82::c83::c84::c85::c86::c87::c88::c89::c90::c91::c92::c93::c94::c95::c96::c97::c98::c99::c100::c101::c102::c103::c104::c105::c106::c107::c108::c109::c110::c111::c112::c113::c114::c115::c116::c117::c118::c119::c120::c121::c122::c123::u124::u125::u126::u127::u128::u129::u130::u131::u132::u133::u134::u135::u136::u137::u138::u139::u140::u141::u142::u143::u144::u145::u146::u147::u148::u149::u150::u151::u152::u153::u154::u155::u156::u157::u158::u159::u160::u161::u162::u163::u164::u165::u166::u167::u168::u169::u170::u171::u172::u173::u174::u175::u176::u177::u178::u179::u180::u181::u182::u183::u184::u185::u186::u187::c188::c189::c190::c191::c192::[]),[]⟩ W)
  (hret: ∀ (u22 u23 u24 u25 u26 u27 u28 u29 u30 u124 u125 u126 u127 u128 u129 u130 u131 u132 u133 u134 u135 u136 u137 u138 u139 u140 u141 u142 u143 u144 u145 u146 u147 u148 u149 u150 u151 u152 u153 u154 u155 u156 u157 u158 u159 u160 u161 u162 u163 u164 u165 u166 u167 u168 u169 u170 u171 u172 u173 u174 u175 u176 u177 u178 u179 u180 u181 u182 u183 u184 u185 u186 u187: Value) (W: World) ,Below w.heap.size w W→Q0 .ret ⟨List.toArray (.int .u32 (n: Int)::.slice pa m cap::c2::c3::c4::c5::.bool true::c7::.pointer (some ⟨q,0,none⟩)::c9::c10::c11::c12::c13::c14::c15::c16::c17::c18::c19::c20::c21::u22::u23::u24::u25::u26::u27::u28::u29::u30::c31::c32::c33::c34::c35::c36::c37::c38::c39::c40::c41::c42::c43::c44::c45::c46::c47::c48::c49::c50::c51::c52::c53::c54::c55::c56::c57::c58::c59::c60::c61::c62::c63::c64::c65::c66::c67::c68::c69::c70::c71::c72::c73::c74::c75::c76::c77::c78::c79::c80::c81::c82::c83::c84::c85::c86::c87::c88::c89::c90::c91::c92::c93::c94::c95::c96::c97::c98::c99::c100::c101::c102::c103::c104::c105::c106::c107::c108::c109::c110::c111::c112::c113::c114::c115::c116::c117::c118::c119::c120::c121::c122::c123::u124::u125::u126::u127::u128::u129::u130::u131::u132::u133::u134::u135::u136::u137::u138::u139::u140::u141::u142::u143::u144::u145::u146::u147::u148::u149::u150::u151::u152::u153::u154::u155::u156::u157::u158::u159::u160::u161::u162::u163::u164::u165::u166::u167::u168::u169::u170::u171::u172::u173::u174::u175::u176::u177::u178::u179::u180::u181::u182::u183::u184::u185::u186::u187::c188::c189::c190::c191::c192::[]),[]⟩ W) :
  Code.wp Tryz.prog (.loop bodyO2) Q0 ⟨List.toArray (.int .u32 (n: Int)::.slice pa m cap::c2::c3::c4::c5::c6::c7::.pointer (some ⟨q,0,none⟩)::c9::c10::c11::c12::c13::c14::c15::c16::c17::c18::c19::c20::c21::.int .u32 (fs: Int)::c23::c24::c25::c26::c27::c28::c29::c30::c31::c32::c33::c34::c35::c36::c37::c38::c39::c40::c41::c42::c43::c44::c45::c46::c47::c48::c49::c50::c51::c52::c53::c54::c55::c56::c57::c58::c59::c60::c61::c62::c63::c64::c65::c66::c67::c68::c69::c70::c71::c72::c73::c74::c75::c76::c77::c78::c79::c80::c81::c82::c83::c84::c85::c86::c87::c88::c89::c90::c91::c92::c93::c94::c95::c96::c97::c98::c99::c100::c101::c102::c103::c104::c105::c106::c107::c108::c109::c110::c111::c112::c113::c114::c115::c116::c117::c118::c119::c120::c121::c122::c123::c124::c125::c126::c127::c128::c129::c130::c131::c132::c133::c134::c135::c136::c137::c138::c139::c140::c141::c142::c143::c144::c145::c146::c147::c148::c149::c150::c151::c152::c153::c154::c155::c156::c157::c158::c159::c160::c161::c162::c163::c164::c165::c166::c167::c168::c169::c170::c171::c172::c173::c174::c175::c176::c177::c178::c179::c180::c181::c182::c183::c184::c185::c186::c187::c188::c189::c190::c191::c192::[]),[]⟩ W0:=by
 have HEX:=Lib.hid hexit; clear hexit
 have HRT:=Lib.hid hret; clear hret
 have HM0:=Lib.hid hx0; clear hx0
 have HX:=Lib.hid hx; have HLEN:=Lib.hid hm; have HFS:=Lib.hid hfs; have HR:=Lib.hid hr; have HOL:=Lib.hid hol
 clear hx hm hfs hr hol
 conv=>arg 2; arg 1; whnf
 go_loopw [22] (fun v22 W=>∃ a:Nat,fs≤a∧a≤n∧v22=.int .u32 (a:Int)∧Hid (Sv w q gp n S W∧∀ b,fs≤b→b < a→¬ (S.T.nowC b=1∧S.T.oldC b=0))) (fun v22 _=>n - (intOf v22).toNat)
 case atStart=>exact ⟨fs,Nat.le_refl _,by omega,rfl,Lib.hid ⟨HM0.out,fun b h1 h2=>by omega⟩⟩
 case round=>
  clear HM0
  obtain ⟨a,ha1,ha2,rfl,HM⟩:=hrel
  by_cases hlt:a < n
  ·have i1:(a:Int) < (n:Int):=by omega
   have z1:IntKind.u32.wrap ((a:Int)+1)=(a:Int)+1:=IntWalk.u32_in _ (by omega)
   have HC:=Lib.hid (HM.out.1.count (a:=a) (by rw [←HFS.out]; exact ha1) hlt)
   have HOA:=Lib.hid (HOL.out a (by rw [←HFS.out]; exact ha1) hlt)
   have HNE:=Lib.hid HM.out.2
   clear HM
   obtain ⟨c,hc⟩:∃ c,c=S.T.nowC a:=⟨_,rfl⟩
   rw [←hc] at HC
   have HCC:=Lib.hid hc
   clear hc
   go_wp2_with fail
   refine HC.out.mono ?_
   clear HC
   rintro e W2 ⟨rfl,hx⟩
   have HM:=Lib.hid hx
   clear hx
   go_wp2_with fail
   refine order_olds HLEN.out hm40 HX.out HM.out.bel ?_
   intro _ _ _ _ _ _ _ _ _ _ _ _ _ _ _ _ _ _ _ W3 hW
   subst hW
   obtain ⟨o,ho⟩:∃ o,o=lastS xs a 0:=⟨_,rfl⟩
   rw [←ho]
   rw [←ho] at HOA
   clear ho
   by_cases hcd:c=1∧o=0
   ·obtain ⟨rfl,rfl⟩:=hcd
    have HHD:=Lib.hid head_any
    have HC:Hid (Calls Tryz.prog 38 #[.pointer (some ⟨q,0,none⟩),.int .u32 (a:Int)] W3 fun e W'=>e=.returned (.tuple #[.int .u16 0,.int .i64 0])∧Sv w q gp n (S.put a 0) W'):=Lib.hid (by
     have hl:=HM.out.less (a:=a) (by omega)
     have en:=HM.out.en
     have ha:=askV_in (T:=S.T) (a:=a) (c:=1) (by rw [en,←HFS.out]; exact ha1) (by rw [en]; exact hlt)
     rw [←HCC.out,if_neg (by omega),if_neg (by omega)] at ha
     rw [ha,if_pos rfl,if_pos rfl,←HCC.out] at hl
     exact hl)
    have HT:=Lib.hid (put_back HM.out.inv HR.out (a:=a) (by rw [HM.out.en,←HFS.out]; exact ha1) (by rw [HM.out.en]; exact hlt) HCC.out.symm HOA.out)
    clear HM
    go_wp2_with fail
    refine HC.out.mono ?_
    clear HC
    rintro e W4 ⟨rfl,hx⟩
    have ht:=hx.take true
    rw [HT.out] at ht
    have HC:=Lib.hid ht
    clear hx ht
    unfold ansV at HC
    rw [show ((some a).getD 0:Nat)=a from rfl] at HC
    go_wp2_with fail
    refine HC.out.mono ?_
    clear HC HT
    rintro e W5 ⟨rfl,hx⟩
    have HB:=Lib.hid hx.bel
    have HC:=Lib.hid (HHD.out W5)
    clear hx HHD
    go_wp2_with fail
    refine HC.out.mono ?_
    clear HC
    rintro e W6 ⟨rfl,hb⟩
    have HB2:=Lib.hid (HB.out.trans (hb.mono HB.out.size))
    clear hb HB
    go_wp2_with fail
    exact HRT.out _ _ _ _ _ _ _ _ _ _ _ _ _ _ _ _ _ _ _ _ _ _ _ _ _ _ _ _ _ _ _ _ _ _ _ _ _ _ _ _ _ _ _ _ _ _ _ _ _ _ _ _ _ _ _ _ _ _ _ _ _ _ _ _ _ _ _ _ _ _ _ _ _ _ HB2.out
   ·have HN:Hid (∀ b,fs≤b→b < a+1→¬ (S.T.nowC b=1∧S.T.oldC b=0)):=Lib.hid (fun b h1 h2=>by
     by_cases e:b=a
     ·subst e
      rw [←HCC.out,HOA.out]
      exact hcd
     ·exact HNE.out b h1 (by omega))
    by_cases h1:c=1
    ·have h0:¬ o=0:=fun e=>hcd ⟨h1,e⟩
     have d1:((o:Int) == 0)=false:=by simp; omega
     have d2:¬ (o:Int)=0:=by omega
     subst h1
     clear hcd h0
     go_wp2_with fail
     go_roundw
     case rel=>exact ⟨a+1,by omega,by omega,by go_num,Lib.hid ⟨HM.out,HN.out⟩⟩
     case measure=>simp [intOf]; omega
    ·have d1:((c:Int) == 1)=false:=by simp; omega
     have d2:¬ (c:Int)=1:=by omega
     clear hcd h1
     go_wp2_with fail
     go_roundw
     case rel=>exact ⟨a+1,by omega,by omega,by go_num,Lib.hid ⟨HM.out,HN.out⟩⟩
     case measure=>simp [intOf]; omega
  ·have han:a=n:=by omega
   have i1:¬ (a:Int) < (n:Int):=by omega
   have HE:=Lib.hid (show ∀ b,fsN n≤b→b < n→¬ (S.T.nowC b=1∧S.T.oldC b=0) from fun b h1 h2=>HM.out.2 b (by rw [HFS.out]; exact h1) (by omega))
   clear han
   go_wp2_with fail
   exact HEX.out _ _ _ _ _ _ _ _ _ _ _ _ _ _ _ _ _ _ _ _ _ _ _ _ _ _ _ _ _ _ _ _ _ _ _ _ _ _ _ _ _ _ _ _ _ _ _ _ _ _ _ _ _ _ _ _ _ _ _ _ _ _ _ _ _ _ _ _ _ _ _ _ _ _ _ HM.out.1 HE.out
end Spc

end Go.Proofs.YtgkbfahflngklaaGreat
