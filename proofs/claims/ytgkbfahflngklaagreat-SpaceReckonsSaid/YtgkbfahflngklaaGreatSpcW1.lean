import Derived.Test.YtgkbfahflngklaaGreatSpcQ
import Derived.Test.YtgkbfahflngklaaGreatSpcO2
set_option maxRecDepth 100000
set_option maxHeartbeats 12800000
namespace Go.Proofs.YtgkbfahflngklaaGreat
namespace Spc
open Go.RowKit RowLaw
open Go.Proofs.YtgkbfahflngklaaGreat.Dev (Dev DS ptr)
open Go.Proofs.YtgkbfahflngklaaGreat.Cnt (Thing Hall TD loopsOf nowO nowCs nowCs_get nowCs_set make_16)
open Go.Proofs.YtgkbfahflngklaaGreat.Slt (Rt cells cells_one rootO infoR sizeR)
open Go.Proofs.YtgkbfahflngklaaGreat.Rot (fsN tlN pkN planOk plan_facts planCells planCells_one sizePlan infoPlan refLayout_yes)
set_option linter.unusedVariables false
set_option linter.unusedSimpArgs false
noncomputable def bodyW1:Code:=((Tryz.f6.body.bind fun c=>(loopsOf c)[0]?).getD .skip)
noncomputable def bodyW2:Code:=((Tryz.f6.body.bind fun c=>(loopsOf c)[1]?).getD .skip)
noncomputable def bodyW3:Code:=((loopsOf bodyW2)[0]?).getD .skip
section
variable {w W:World} {q n g j v:Nat} {E:List (Nat×Obj)} {S:SS} {N:List Nat}
theorem Sk.putN (x: Sk w q n ((g,nowO N)::E) S W) (hne: ∀ y∈E,y.1≠g) (hg: w.heap.size≤g): Sk w q n ((g,nowO (N.set j v))::E) S (W.setCell ⟨g,j,none⟩ (.int .u16 (v: Int))):=
 (x.put (j:=j) (v:=.int .u16 (v:Int)) (cs:=nowCs N) (T:=37) List.mem_cons_self hg (by decide)).less (fun y hy=>by
  rcases List.mem_cons.1 hy with rfl | hy
  ·rw [nowCs_set]
   exact List.mem_cons_self
  ·exact List.mem_cons_of_mem _ (but_mem.2 ⟨List.mem_cons_of_mem _ hy,hne y hy⟩))
theorem Sk.numN (x:Sk w q n E S W) (h:(g,nowO N)∈E) (hj:j < N.length):W.cell? ⟨g,j,none⟩=some (.int .u16 ((N.getD j 0:Nat):Int)):=x.cell (cs:=nowCs N) h (nowCs_get hj)
theorem Sk.froN (x:Sk w q n E S W) (h:(g,nowO N)∈E) (j:Nat):W.frozen? ⟨g,j,none⟩=false:=x.frozen (cs:=nowCs N) h j
end
theorem reck_first {w:World} {q gp go gn n fs k1 k2:Nat} {op:Obj} {S:SS} (hfs:fs=fsN n) (hfn:fs < n) (hn:n≤1000) (h1:go≠gn) (h2:gp≠go) (h3:gp≠gn) (hgo:w.heap.size≤go) (hgn:w.heap.size≤gn)
  {Q0:Exit→Act→World→Prop} {c1 c2 c3 c4 c5 c6 c7 c9 c10 c14 c15 c16 c17 c18 c19 c20 c21 c22 c23 c24 c25 c26 c27 c28 c29 c30 c31 c32 c33 c34 c35 c36 c37 c38 c39 c40 c41 c42 c43 c44 c45 c46 c47 c48 c49 c50 c51 c52 c53 c54 c55 c56 c57 c58 c59 c60 c61 c62 c63 c64 c65 c66 c67 c68 c69 c70 c71 c72 c73 c74 c75 c76 c77 c78 c79 c80 c81 c82 c83 c84 c85 c86 c87 c88 c89 c90 c91 c92 c93 c94 c95 c96 c97 c98 c99 c100 c101 c102 c103 c104 c105 c106 c107 c108 c109 c110 c111 c112 c113 c114 c115 c116 c117 c118 c119 c120 c121 c122 c123 c124 c125 c126 c127 c128 c129 c130 c131 c132 c133 c134 c135 c136 c137 c138 c139 c140 c141 c142 c143 c144 c145 c146 c147 c148 c149 c150 c151 c152 c153 c154 c155 c156 c157 c158 c159 c160 c161 c162 c163 c164 c165 c166 c167 c168 c169 c170 c171 c172 c173 c174 c175 c176 c177 c178 c179 c180 c181 c182 c183 c184 c185 c186 c187 c188 c189 c190 c191 c192 c193 c194 c195 c196 c197 c198 c199 c200 c201 c202 c203 c204 c205 c206 c207 c208 c209 c210 c211 c212 c213 c214 c215 c216 c217 c218 c219 c220 c221 c222 c223 c224 c225 c226 c227 c228 c229 c230 c231 c232 c233 c234 c235 c236 c237 c238 c239 c240 c241 c242 c243 c244:Value} {W0:World} (hx0:Sk w q n [(gn,nowO (ini S.T.nowC fs n fs)),(go,nowO (ini S.T.nowC fs n fs)),(gp,op)] S W0)
  (hexit: ∀ (u13 u14 u15 u63 u64 u65 u66 u67 u68 u69 u70 u71 u72 u73 u74 u75 u76 u77 u78 u79 u80 u81: Value) (W: World) ,Sk w q n [(gn,nowO (ini S.T.nowC fs n n)),(go,nowO (ini S.T.nowC fs n n)),(gp,op)] S W→Q0 (.exit 0) ⟨List.toArray (.int .u32 (n: Int)::c1::c2::c3::c4::c5::c6::c7::.pointer (some ⟨q,0,none⟩)::c9::c10::.slice (some ⟨go,0,none⟩) n k1::.slice (some ⟨gn,0,none⟩) n k2::u13::u14::u15::c16::c17::c18::c19::c20::c21::c22::c23::c24::c25::c26::c27::c28::c29::c30::c31::c32::c33::c34::c35::c36::c37::c38::c39::c40::c41::c42::c43::c44::c45::c46::c47::c48::c49::c50::c51::c52::c53::c54::c55::c56::c57::c58::c59::c60::c61::c62::u63::u64::u65::u66::u67::u68::u69::u70::u71::u72::u73::u74::u75::u76::u77::u78::u79::u80::u81::c82::c83::c84::c85::c86::c87::c88::c89::c90::c91::c92::c93::c94::c95::c96::c97::c98::c99::c100::c101::c102::c103::c104::c105::c106::c107::c108::c109::c110::c111::c112::c113::c114::c115::c116::c117::c118::c119::c120::c121::c122::c123::c124::c125::c126::c127::c128::c129::c130::c131::c132::c133::c134::c135::c136::c137::c138::c139::c140::c141::c142::c143::c144::c145::c146::c147::c148::c149::c150::c151::c152::c153::c154::c155::c156::c157::c158::c159::c160::c161::c162::c163::c164::c165::c166::c167::c168::c169::c170::c171::c172::c173::c174::c175::c176::c177::c178::c179::c180::c181::c182::c183::c184::c185::c186::c187::c188::c189::c190::c191::c192::c193::c194::c195::c196::c197::c198::c199::c200::c201::c202::c203::c204::c205::c206::c207::c208::c209::c210::c211::c212::c213::c214::c215::c216::c217::c218::c219::c220::c221::c222::c223::c224::c225::c226::c227::c228::c229::c230::c231::c232::c233::c234::c235::c236::c237::c238::c239::c240::c241::c242::c243::c244::[]),[]⟩ W) :
  Code.wp Tryz.prog (.loop bodyW1) Q0 ⟨List.toArray (.int .u32 (n: Int)::c1::c2::c3::c4::c5::c6::c7::.pointer (some ⟨q,0,none⟩)::c9::c10::.slice (some ⟨go,0,none⟩) n k1::.slice (some ⟨gn,0,none⟩) n k2::.int .u32 (fs: Int)::c14::c15::c16::c17::c18::c19::c20::c21::c22::c23::c24::c25::c26::c27::c28::c29::c30::c31::c32::c33::c34::c35::c36::c37::c38::c39::c40::c41::c42::c43::c44::c45::c46::c47::c48::c49::c50::c51::c52::c53::c54::c55::c56::c57::c58::c59::c60::c61::c62::c63::c64::c65::c66::c67::c68::c69::c70::c71::c72::c73::c74::c75::c76::c77::c78::c79::c80::c81::c82::c83::c84::c85::c86::c87::c88::c89::c90::c91::c92::c93::c94::c95::c96::c97::c98::c99::c100::c101::c102::c103::c104::c105::c106::c107::c108::c109::c110::c111::c112::c113::c114::c115::c116::c117::c118::c119::c120::c121::c122::c123::c124::c125::c126::c127::c128::c129::c130::c131::c132::c133::c134::c135::c136::c137::c138::c139::c140::c141::c142::c143::c144::c145::c146::c147::c148::c149::c150::c151::c152::c153::c154::c155::c156::c157::c158::c159::c160::c161::c162::c163::c164::c165::c166::c167::c168::c169::c170::c171::c172::c173::c174::c175::c176::c177::c178::c179::c180::c181::c182::c183::c184::c185::c186::c187::c188::c189::c190::c191::c192::c193::c194::c195::c196::c197::c198::c199::c200::c201::c202::c203::c204::c205::c206::c207::c208::c209::c210::c211::c212::c213::c214::c215::c216::c217::c218::c219::c220::c221::c222::c223::c224::c225::c226::c227::c228::c229::c230::c231::c232::c233::c234::c235::c236::c237::c238::c239::c240::c241::c242::c243::c244::[]),[]⟩ W0:=by
 have HEX:=Lib.hid hexit; clear hexit
 have HM0:=Lib.hid hx0; clear hx0
 have HFS:=Lib.hid hfs; clear hfs
 have ng1:¬ go=gn:=h1
 have ng2:¬ gn=go:=fun e=>h1 e.symm
 conv=>arg 2; arg 1; whnf
 go_loopw [13] (fun v13 W=>∃ a:Nat,fs≤a∧a≤n∧v13=.int .u32 (a:Int)∧Hid (Sk w q n [(gn,nowO (ini S.T.nowC fs n a)),(go,nowO (ini S.T.nowC fs n a)),(gp,op)] S W)) (fun v13 _=>n - (intOf v13).toNat)
 case atStart=>exact ⟨fs,Nat.le_refl _,by omega,rfl,HM0⟩
 case round=>
  clear HM0
  obtain ⟨a,ha1,ha2,rfl,HM⟩:=hrel
  by_cases hlt:a < n
  ·have i0:(0:Int)≤(a:Int):=by omega
   have i1:(a:Int) < (n:Int):=by omega
   have z1:IntKind.u32.wrap ((a:Int)+1)=(a:Int)+1:=IntWalk.u32_in _ (by omega)
   have HC:=Lib.hid (HM.out.count (a:=a) (by rw [←HFS.out]; exact ha1) hlt)
   have HIS:=Lib.hid (ini_set (f:=S.T.nowC) ha1 hlt)
   clear HM
   obtain ⟨c,hc⟩:∃ c,c=S.T.nowC a:=⟨_,rfl⟩
   rw [←hc] at HC HIS
   clear hc
   go_wp2_with fail
   refine HC.out.mono ?_
   clear HC
   rintro e W2 ⟨rfl,hx⟩
   have k1':=hx.numN (g:=go) (j:=a) (N:=ini S.T.nowC fs n a) (by simp) (by rw [ini_len]; exact hlt)
   have k2':=hx.numN (g:=gn) (j:=a) (N:=ini S.T.nowC fs n a) (by simp) (by rw [ini_len]; exact hlt)
   have f1:=hx.froN (g:=go) (N:=ini S.T.nowC fs n a) (by simp) a
   have f2:=hx.froN (g:=gn) (N:=ini S.T.nowC fs n a) (by simp) a
   have hy:=(hx.less (E':=(go,nowO (ini S.T.nowC fs n a))::(gn,nowO (ini S.T.nowC fs n a))::[(gp,op)]) (fun y hy=>by
    simp only [List.mem_cons,List.not_mem_nil,or_false] at hy ⊢
    rcases hy with hy | hy | hy
    ·exact .inr (.inl hy)
    ·exact .inl hy
    ·exact .inr (.inr hy))).putN (j:=a) (v:=c) (fun y hy=>by
    simp only [List.mem_cons,List.not_mem_nil,or_false] at hy
    rcases hy with rfl | rfl
    ·exact ng2
    ·exact h2) hgo
   rw [HIS.out] at hy
   have hz:=(hy.less (E':=(gn,nowO (ini S.T.nowC fs n a))::(go,nowO (ini S.T.nowC fs n (a+1)))::[(gp,op)]) (fun y hy=>by
    simp only [List.mem_cons,List.not_mem_nil,or_false] at hy ⊢
    rcases hy with hy | hy | hy
    ·exact .inr (.inl hy)
    ·exact .inl hy
    ·exact .inr (.inr hy))).putN (j:=a) (v:=c) (fun y hy=>by
    simp only [List.mem_cons,List.not_mem_nil,or_false] at hy
    rcases hy with rfl | rfl
    ·exact ng1
    ·exact h3) hgn
   rw [HIS.out] at hz
   have HZ:=Lib.hid hz
   clear hx hy hz HIS
   generalize (ini S.T.nowC fs n a).getD a 0=y at k1' k2'
   go_wp2_with fail
   go_roundw
   case rel=>exact ⟨a+1,by omega,by omega,by go_num,HZ⟩
   case measure=>simp [intOf]; omega
  ·have han:a=n:=by omega
   have i1:¬ (a:Int) < (n:Int):=by omega
   have HE:=Lib.hid (show Sk w q n [(gn,nowO (ini S.T.nowC fs n n)),(go,nowO (ini S.T.nowC fs n n)),(gp,op)] S wr from by have h:=HM.out; rw [han] at h; exact h)
   clear han HM
   go_wp2_with fail
   exact HEX.out _ _ _ _ _ _ _ _ _ _ _ _ _ _ _ _ _ _ _ _ _ _ _ HE.out
end Spc

end Go.Proofs.YtgkbfahflngklaaGreat
