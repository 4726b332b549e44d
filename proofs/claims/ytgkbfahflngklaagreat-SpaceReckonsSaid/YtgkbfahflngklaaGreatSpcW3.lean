import Derived.Test.YtgkbfahflngklaaGreatSpcW1
set_option maxRecDepth 100000
set_option maxHeartbeats 12800000
namespace Go.Proofs.YtgkbfahflngklaaGreat
namespace Spc
open Go.RowKit RowLaw
open Go.Proofs.YtgkbfahflngklaaGreat.Dev (Dev DS ptr)
open Go.Proofs.YtgkbfahflngklaaGreat.Cnt (Thing Hall TD loopsOf nowO nowCs nowCs_get nowCs_set make_16)
open Go.Proofs.YtgkbfahflngklaaGreat.Slt (Rt cells cells_one rootO infoR sizeR)
open Go.Proofs.YtgkbfahflngklaaGreat.Rot (fsN tlN pkN planOk plan_facts planCells planCells_one sizePlan infoPlan refLayout_yes)
set_option linter.unusedVariables false
set_option linter.unusedSimpArgs false
theorem reck_count {w:World} {q go gn n fs k1 k2:Nat} {E:List (Nat×Obj)} {S:SS} {O N:List Nat} (hfs:fs=fsN n) (hfn:fs < n) (hn:n≤1000) (ho:(go,nowO O)∈E) (hnm:(gn,nowO N)∈E) (hol:O.length=n) (hnl:N.length=n) (hO:∀ b,fs≤b→b < n→O.getD b 0=S.T.oldC b) (hN:∀ b,fs≤b→b < n→N.getD b 0=S.T.nowC b)
  {Q0:Exit→Act→World→Prop} {c1 c2 c3 c4 c5 c6 c7 c9 c10 c13 c14 c15 c16 c17 c18 c19 c20 c21 c22 c23 c27 c28 c29 c30 c31 c32 c33 c34 c35 c36 c37 c38 c39 c40 c41 c42 c43 c44 c45 c46 c47 c48 c49 c50 c51 c52 c53 c54 c55 c56 c57 c58 c59 c60 c61 c62 c63 c64 c65 c66 c67 c68 c69 c70 c71 c72 c73 c74 c75 c76 c77 c78 c79 c80 c81 c82 c83 c84 c85 c86 c87 c88 c89 c90 c91 c92 c93 c94 c95 c96 c97 c98 c99 c100 c101 c102 c103 c104 c105 c106 c107 c108 c109 c110 c111 c112 c113 c114 c115 c116 c117 c118 c119 c120 c121 c122 c123 c124 c125 c126 c127 c128 c129 c130 c131 c132 c133 c134 c135 c136 c137 c138 c139 c140 c141 c142 c143 c144 c145 c146 c147 c148 c149 c150 c151 c152 c153 c154 c155 c156 c157 c158 c159 c160 c161 c162 c163 c164 c165 c166 c167 c168 c169 c170 c171 c172 c173 c174 c175 c176 c177 c178 c179 c180 c181 c182 c183 c184 c185 c186 c187 c188 c189 c190 c191 c192 c193 c194 c195 c196 c197 c198 c199 c200 c201 c202 c203 c204 c205 c206 c207 c208 c209 c210 c211 c212 c213 c214 c215 c216 c217 c218 c219 c220 c221 c222 c223 c224 c225 c226 c227 c228 c229 c230 c231 c232 c233 c234 c235 c236 c237 c238 c239 c240 c241 c242 c243 c244:Value} {W0:World} (hx0:Sk w q n E S W0)
  (hexit: ∀ (u6 u26 u27 u28 u194 u195 u196 u197 u198 u199 u200 u201 u202 u203 u204 u205 u206 u207 u208 u209 u210 u211 u212 u213 u214 u215 u216 u217 u218 u219 u220 u221 u222 u223 u224 u225: Value) (W: World) ,Sk w q n E S W→Q0 (.exit 4) ⟨List.toArray (.int .u32 (n: Int)::c1::c2::c3::c4::c5::u6::c7::.pointer (some ⟨q,0,none⟩)::c9::c10::.slice (some ⟨go,0,none⟩) n k1::.slice (some ⟨gn,0,none⟩) n k2::c13::c14::c15::c16::c17::c18::c19::c20::c21::c22::c23::.int .u32 ((cntTo (isZ S.T) fs (n - fs): Nat): Int)::.int .u32 ((cntTo (avB S.T) fs (n - fs): Nat): Int)::u26::u27::u28::c29::c30::c31::c32::c33::c34::c35::c36::c37::c38::c39::c40::c41::c42::c43::c44::c45::c46::c47::c48::c49::c50::c51::c52::c53::c54::c55::c56::c57::c58::c59::c60::c61::c62::c63::c64::c65::c66::c67::c68::c69::c70::c71::c72::c73::c74::c75::c76::c77::c78::c79::c80::c81::c82::c83::c84::c85::c86::c87::c88::c89::c90::c91::c92::c93::c94::c95::c96::c97::c98::c99::c100::c101::c102::c103::c104::c105::c106::c107::c108::c109::c110::c111::c112::c113::c114::c115::c116::c117::c118::c119::c120::c121::c122::c123::c124::c125::c126::c127::c128::c129::c130::c131::c132::c133::c134::c135::c136::c137::c138::c139::c140::c141::c142::c143::c144::c145::c146::c147::c148::c149::c150::c151::c152::c153::c154::c155::c156::c157::c158::c159::c160::c161::c162::c163::c164::c165::c166::c167::c168::c169::c170::c171::c172::c173::c174::c175::c176::c177::c178::c179::c180::c181::c182::c183::c184::c185::c186::c187::c188::c189::c190::c191::c192::c193::u194::u195::u196::u197::u198::u199::u200::u201::u202::u203::u204::u205::u206::u207::u208::u209::u210::u211::u212::u213::u214::u215::u216::u217::u218::u219::u220::u221::u222::u223::u224::u225::c226::c227::c228::c229::c230::c231::c232::c233::c234::c235::c236::c237::c238::c239::c240::c241::c242::c243::c244::[]),[]⟩ W) :
  Code.wp Tryz.prog (.loop bodyW3) Q0 ⟨List.toArray (.int .u32 (n: Int)::c1::c2::c3::c4::c5::c6::c7::.pointer (some ⟨q,0,none⟩)::c9::c10::.slice (some ⟨go,0,none⟩) n k1::.slice (some ⟨gn,0,none⟩) n k2::c13::c14::c15::c16::c17::c18::c19::c20::c21::c22::c23::.int .u32 0::.int .u32 0::.int .u32 (fs: Int)::c27::c28::c29::c30::c31::c32::c33::c34::c35::c36::c37::c38::c39::c40::c41::c42::c43::c44::c45::c46::c47::c48::c49::c50::c51::c52::c53::c54::c55::c56::c57::c58::c59::c60::c61::c62::c63::c64::c65::c66::c67::c68::c69::c70::c71::c72::c73::c74::c75::c76::c77::c78::c79::c80::c81::c82::c83::c84::c85::c86::c87::c88::c89::c90::c91::c92::c93::c94::c95::c96::c97::c98::c99::c100::c101::c102::c103::c104::c105::c106::c107::c108::c109::c110::c111::c112::c113::c114::c115::c116::c117::c118::c119::c120::c121::c122::c123::c124::c125::c126::c127::c128::c129::c130::c131::c132::c133::c134::c135::c136::c137::c138::c139::c140::c141::c142::c143::c144::c145::c146::c147::c148::c149::c150::c151::c152::c153::c154::c155::c156::c157::c158::c159::c160::c161::c162::c163::c164::c165::c166::c167::c168::c169::c170::c171::c172::c173::c174::c175::c176::c177::c178::c179::c180::c181::c182::c183::c184::c185::c186::c187::c188::c189::c190::c191::c192::c193::c194::c195::c196::c197::c198::c199::c200::c201::c202::c203::c204::c205::c206::c207::c208::c209::c210::c211::c212::c213::c214::c215::c216::c217::c218::c219::c220::c221::c222::c223::c224::c225::c226::c227::c228::c229::c230::c231::c232::c233::c234::c235::c236::c237::c238::c239::c240::c241::c242::c243::c244::[]),[]⟩ W0:=by
 have HEX:=Lib.hid hexit; clear hexit
 have HM0:=Lib.hid hx0; clear hx0
 have HFS:=Lib.hid hfs; have HO:=Lib.hid hO; have HN:=Lib.hid hN; have HE2:=Lib.hid (And.intro ho (And.intro hnm (And.intro hol hnl)))
 clear hfs hO hN ho hnm hol hnl
 conv=>arg 2; arg 1; whnf
 go_loopw [24,25,26] (fun v24 v25 v26 W=>∃ a f m:Nat,fs≤a∧a≤n∧v24=.int .u32 (f:Int)∧v25=.int .u32 (m:Int)∧v26=.int .u32 (a:Int)∧(f≤1000000∧m≤1000000)∧Hid (f=cntTo (isZ S.T) fs (a - fs)∧m=cntTo (avB S.T) fs (a - fs))∧Hid (Sk w q n E S W)) (fun _ _ v26 _=>n - (intOf v26).toNat)
 case atStart=>exact ⟨fs,0,0,Nat.le_refl _,by omega,rfl,rfl,rfl,⟨by omega,by omega⟩,Lib.hid (by rw [Nat.sub_self]; exact ⟨rfl,rfl⟩),HM0⟩
 case round=>
  clear HM0
  obtain ⟨a,f,m,ha1,ha2,rfl,rfl,rfl,hb,HF,HM⟩:=hrel
  by_cases hlt:a < n
  ·have i0:(0:Int)≤(a:Int):=by omega
   have i1:(a:Int) < (n:Int):=by omega
   have z1:IntKind.u32.wrap ((a:Int)+1)=(a:Int)+1:=IntWalk.u32_in _ (by omega)
   have z2:IntKind.u32.wrap ((f:Int)+1)=(f:Int)+1:=IntWalk.u32_in _ (by omega)
   have z3:IntKind.u32.wrap ((m:Int)+1)=(m:Int)+1:=IntWalk.u32_in _ (by omega)
   have hf1:=cntTo_succ (isZ S.T) fs (a - fs)
   have hm1:=cntTo_succ (avB S.T) fs (a - fs)
   rw [show fs+(a - fs)=a by omega,show a - fs+1=a+1 - fs by omega,←HF.out.1] at hf1
   rw [show fs+(a - fs)=a by omega,show a - fs+1=a+1 - fs by omega,←HF.out.2] at hm1
   have hfl:=cntTo_le (isZ S.T) fs (a+1 - fs)
   have hml:=cntTo_le (avB S.T) fs (a+1 - fs)
   have HC:=Lib.hid (HM.out.count (a:=a) (by rw [←HFS.out]; exact ha1) hlt)
   have hNa:=HN.out a ha1 hlt
   have hOa:=HO.out a ha1 hlt
   obtain ⟨c,hc⟩:∃ c,c=S.T.nowC a:=⟨_,rfl⟩
   obtain ⟨o,ho⟩:∃ o,o=S.T.oldC a:=⟨_,rfl⟩
   have hz:isZ S.T a=decide (c=0):=by rw [hc]; rfl
   have hv:avB S.T a=decide (o=0∧c=0):=by rw [hc,ho]; rfl
   rw [←hc] at HC hNa
   rw [←ho] at hOa
   rw [hz] at hf1
   rw [hv] at hm1
   have HNA:=Lib.hid hNa; have HOA:=Lib.hid hOa
   have HF1:=Lib.hid hf1; have HM1:=Lib.hid hm1; have HL:=Lib.hid (And.intro hfl hml)
   clear HM HF hc ho hz hv hNa hOa hf1 hm1 hfl hml
   go_wp2_with fail
   refine HC.out.mono ?_
   clear HC
   rintro e W2 ⟨rfl,hx⟩
   have kn:=hx.numN HE2.out.2.1 (j:=a) (by rw [HE2.out.2.2.2]; exact hlt)
   have ko:=hx.numN HE2.out.1 (j:=a) (by rw [HE2.out.2.2.1]; exact hlt)
   rw [HNA.out] at kn
   rw [HOA.out] at ko
   have HX:=Lib.hid hx
   have d0:((c:Int) != (c:Int))=false:=by simp
   clear hx
   by_cases hc0:c=0
   ·subst hc0
    by_cases ho0:o=0
    ·subst ho0
     go_wp2_with fail
     go_roundw
     case rel=>exact ⟨a+1,f+1,m+1,by omega,by omega,by go_num,by go_num,by go_num,by have:=HL.out; have h1:=HF1.out; have h2:=HM1.out; rw [if_pos (by simp)] at h1 h2; omega,Lib.hid ⟨by rw [HF1.out,if_pos (by simp)],by rw [HM1.out,if_pos (by simp)]⟩,HX⟩
     case measure=>simp [intOf]; omega
    ·have d1:((o:Int) == 0)=false:=by simp; omega
     have d2:¬ (o:Int)=0:=by omega
     have HO0:=Lib.hid ho0
     clear ho0
     go_wp2_with fail
     go_roundw
     case rel=>exact ⟨a+1,f+1,m,by omega,by omega,by go_num,rfl,by go_num,by have:=HL.out; have h1:=HF1.out; rw [if_pos (by simp)] at h1; omega,Lib.hid ⟨by rw [HF1.out,if_pos (by simp)],by rw [HM1.out,if_neg (by have:=HO0.out; simp; omega)]; rfl⟩,HX⟩
     case measure=>simp [intOf]; omega
   ·have d1:((c:Int) == 0)=false:=by simp; omega
    have d2:¬ (c:Int)=0:=by omega
    have HC0:=Lib.hid hc0
    clear hc0
    go_wp2_with fail
    go_roundw
    case rel=>exact ⟨a+1,f,m,by omega,by omega,rfl,rfl,by go_num,hb,Lib.hid ⟨by rw [HF1.out,if_neg (by have:=HC0.out; simp; omega)]; rfl,by rw [HM1.out,if_neg (by have:=HC0.out; simp; omega)]; rfl⟩,HX⟩
    case measure=>simp [intOf]; omega
  ·have han:a=n:=by omega
   subst han
   have i1:¬ (a:Int) < (a:Int):=by omega
   obtain ⟨e1,e2⟩:=HF.out
   have HE:=Lib.hid (HEX.out)
   rw [←e1,←e2] at HE
   clear e1 e2 HF HEX
   go_wp2_with fail
   exact HE.out _ _ _ _ _ _ _ _ _ _ _ _ _ _ _ _ _ _ _ _ _ _ _ _ _ _ _ _ _ _ _ _ _ _ _ _ _ HM.out
end Spc

end Go.Proofs.YtgkbfahflngklaaGreat
