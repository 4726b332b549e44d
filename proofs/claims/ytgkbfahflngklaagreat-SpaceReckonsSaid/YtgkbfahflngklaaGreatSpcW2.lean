import Derived.Test.YtgkbfahflngklaaGreatSpcW3
set_option maxRecDepth 100000
set_option maxHeartbeats 25600000
namespace Go.Proofs.YtgkbfahflngklaaGreat
namespace Spc
open Go.RowKit RowLaw
open Go.Proofs.YtgkbfahflngklaaGreat.Dev (Dev DS ptr)
open Go.Proofs.YtgkbfahflngklaaGreat.Cnt (Thing Hall TD loopsOf nowO nowCs nowCs_get nowCs_set make_16)
open Go.Proofs.YtgkbfahflngklaaGreat.Slt (Rt cells cells_one rootO infoR sizeR)
open Go.Proofs.YtgkbfahflngklaaGreat.Rot (fsN tlN pkN planOk plan_facts planCells planCells_one sizePlan infoPlan refLayout_yes)
set_option linter.unusedVariables false
set_option linter.unusedSimpArgs false
def Wk (w:World) (q gp go gn n fs:Nat) (op:Obj) (O:List Nat) (g:Nat→Nat) (W:World):Prop:=
 ∃ S N,Sk w q n [(gn,nowO N),(go,nowO O),(gp,op)] S W∧N.length=n∧(∀ b,fs≤b→b < n→N.getD b 0=S.T.nowC b)∧∀ b,S.T.oldC b=g b
theorem Wk.bel {w W:World} {q gp go gn n fs:Nat} {op:Obj} {O:List Nat} {g:Nat→Nat} (x:Wk w q gp go gn n fs op O g W):Below w.heap.size w W:=by
 obtain ⟨S,N,x,_⟩:=x
 exact x.bel
theorem rows_put {S:SS} {n fs a v:Nat} {N:List Nat} (hi:Inv S) (hfs:fs=fsN n) (hn:S.T.n=n) (hl:N.length=n) (h:∀ b,fs≤b→b < n→N.getD b 0=S.T.nowC b) (h1:fs≤a) (h2:a < n):(N.set a v).length=n∧∀ b,fs≤b→b < n→(N.set a v).getD b 0=(Cnt.setS S.T a v).nowC b:=by
 refine ⟨by rw [List.length_set]; exact hl,fun b b1 b2=>?_⟩
 rw [nowC_in hi.ok (by rw [hn,←hfs]; exact h1) (by rw [hn]; exact h2)]
 rw [List.getD_eq_getElem?_getD,List.getElem?_set]
 by_cases e:a=b
 ·subst e
  rw [if_pos rfl,if_pos (by omega),if_pos rfl]
  rfl
 ·rw [if_neg e,if_neg e,←h b b1 b2,List.getD_eq_getElem?_getD]
theorem reck_acts {w:World} {q gp go gn n fs k1 k2 mA capA:Nat} {cp:Array Value} {O:List Nat} {g:Nat→Nat} {xs:List (Nat×Nat)} {pA:Option Addr} (hcp:cp[2]? = some (.int .u32 (fsN n:Int))) (hm:mA=xs.length) (hx:Acts w pA xs) (hfs:fs=fsN n) (hfn:fs < n) (hn:n≤1000) (h1:go≠gn) (h3:gp≠gn) (hgn:w.heap.size≤gn) (hol:O.length=n) (hog:∀ b,fs≤b→b < n→O.getD b 0=g b)
  {Q0:Exit→Act→World→Prop} {c1 c3 c4 c5 c6 c7 c10 c13 c14 c15 c17 c18 c19 c20 c21 c22 c23 c24 c25 c26 c27 c28 c29 c30 c31 c32 c33 c34 c35 c36 c37 c38 c39 c40 c41 c42 c43 c44 c45 c46 c47 c48 c49 c50 c51 c52 c53 c54 c55 c56 c57 c58 c59 c60 c61 c62 c63 c64 c65 c66 c67 c68 c69 c70 c71 c72 c73 c74 c75 c76 c77 c78 c79 c80 c81 c82 c83 c84 c85 c86 c87 c88 c89 c90 c91 c92 c93 c94 c95 c96 c97 c98 c99 c100 c101 c102 c103 c104 c105 c106 c107 c108 c109 c110 c111 c112 c113 c114 c115 c116 c117 c118 c119 c120 c121 c122 c123 c124 c125 c126 c127 c128 c129 c130 c131 c132 c133 c134 c135 c136 c137 c138 c139 c140 c141 c142 c143 c144 c145 c146 c147 c148 c149 c150 c151 c152 c153 c154 c155 c156 c157 c158 c159 c160 c161 c162 c163 c164 c165 c166 c167 c168 c169 c170 c171 c172 c173 c174 c175 c176 c177 c178 c179 c180 c181 c182 c183 c184 c185 c186 c187 c188 c189 c190 c191 c192 c193 c194 c195 c196 c197 c198 c199 c200 c201 c202 c203 c204 c205 c206 c207 c208 c209 c210 c211 c212 c213 c214 c215 c216 c217 c218 c219 c220 c221 c222 c223 c224 c225 c226 c227 c228 c229 c230 c231 c232 c233 c234 c235 c236 c237 c238 c239 c240 c241 c242 c243 c244:Value} {W0:World} (hx0:Wk w q gp go gn n fs (Obj.cells cp 82 (0,0)) O g W0)
  (hexit: ∀ (u6 u16 u17 u18 u19 u20 u21 u22 u23 u24 u25 u26 u27 u28 u82 u83 u84 u85 u86 u87 u88 u89 u90 u91 u92 u93 u94 u95 u96 u97 u98 u99 u100 u101 u102 u103 u104 u105 u106 u107 u108 u109 u110 u111 u112 u113 u114 u115 u116 u117 u118 u119 u120 u121 u122 u123 u124 u125 u126 u127 u128 u129 u130 u131 u132 u133 u134 u135 u136 u137 u138 u139 u140 u141 u142 u143 u144 u145 u146 u147 u148 u149 u150 u151 u152 u153 u154 u155 u156 u157 u158 u159 u160 u161 u162 u163 u164 u165 u166 u167 u168 u169 u170 u171 u172 u173 u174 u175 u176 u177 u178 u179 u180 u181 u182 u183 u184 u185 u186 u187 u188 u189 u190 u191 u192 u193 u194 u195 u196 u197 u198 u199 u200 u201 u202 u203 u204 u205 u206 u207 u208 u209 u210 u211 u212 u213 u214 u215 u216 u217 u218 u219 u220 u221 u222 u223 u224 u225 u226 u227 u228 u229 u230 u231 u232 u233 u234 u235 u236 u237 u238 u239 u240 u241 u242 u243: Value) (W: World) ,Below w.heap.size w W→Q0 (.exit 2) ⟨List.toArray (.int .u32 (n: Int)::c1::.slice pA mA capA::c3::c4::c5::u6::c7::.pointer (some ⟨q,0,none⟩)::.pointer (some ⟨gp,0,none⟩)::c10::.slice (some ⟨go,0,none⟩) n k1::.slice (some ⟨gn,0,none⟩) n k2::c13::c14::c15::u16::u17::u18::u19::u20::u21::u22::u23::u24::u25::u26::u27::u28::c29::c30::c31::c32::c33::c34::c35::c36::c37::c38::c39::c40::c41::c42::c43::c44::c45::c46::c47::c48::c49::c50::c51::c52::c53::c54::c55::c56::c57::c58::c59::c60::c61::c62::c63::c64::c65::c66::c67::c68::c69::c70::c71::c72::c73::c74::c75::c76::c77::c78::c79::c80::c81::u82::u83::u84::u85::u86::u87::u88::u89::u90::u91::u92::u93::u94::u95::u96::u97::u98::u99::u100::u101::u102::u103::u104::u105::u106::u107::u108::u109::u110::u111::u112::u113::u114::u115::u116::u117::u118::u119::u120::u121::u122::u123::u124::u125::u126::u127::u128::u129::u130::u131::u132::u133::u134::u135::u136::u137::u138::u139::u140::u141::u142::u143::u144::u145::u146::u147::u148::u149::u150::u151::u152::u153::u154::u155::u156::u157::u158::u159::u160::u161::u162::u163::u164::u165::u166::u167::u168::u169::u170::u171::u172::u173::u174::u175::u176::u177::u178::u179::u180::u181::u182::u183::u184::u185::u186::u187::u188::u189::u190::u191::u192::u193::u194::u195::u196::u197::u198::u199::u200::u201::u202::u203::u204::u205::u206::u207::u208::u209::u210::u211::u212::u213::u214::u215::u216::u217::u218::u219::u220::u221::u222::u223::u224::u225::u226::u227::u228::u229::u230::u231::u232::u233::u234::u235::u236::u237::u238::u239::u240::u241::u242::u243::c244::[]),[]⟩ W) :
  Code.wp Tryz.prog (.loop bodyW2) Q0 ⟨List.toArray (.int .u32 (n: Int)::c1::.slice pA mA capA::c3::c4::c5::c6::c7::.pointer (some ⟨q,0,none⟩)::.pointer (some ⟨gp,0,none⟩)::c10::.slice (some ⟨go,0,none⟩) n k1::.slice (some ⟨gn,0,none⟩) n k2::c13::c14::c15::.int .i64 0::c17::c18::c19::c20::c21::c22::c23::c24::c25::c26::c27::c28::c29::c30::c31::c32::c33::c34::c35::c36::c37::c38::c39::c40::c41::c42::c43::c44::c45::c46::c47::c48::c49::c50::c51::c52::c53::c54::c55::c56::c57::c58::c59::c60::c61::c62::c63::c64::c65::c66::c67::c68::c69::c70::c71::c72::c73::c74::c75::c76::c77::c78::c79::c80::c81::c82::c83::c84::c85::c86::c87::c88::c89::c90::c91::c92::c93::c94::c95::c96::c97::c98::c99::c100::c101::c102::c103::c104::c105::c106::c107::c108::c109::c110::c111::c112::c113::c114::c115::c116::c117::c118::c119::c120::c121::c122::c123::c124::c125::c126::c127::c128::c129::c130::c131::c132::c133::c134::c135::c136::c137::c138::c139::c140::c141::c142::c143::c144::c145::c146::c147::c148::c149::c150::c151::c152::c153::c154::c155::c156::c157::c158::c159::c160::c161::c162::c163::c164::c165::c166::c167::c168::c169::c170::c171::c172::c173::c174::c175::c176::c177::c178::c179::c180::c181::c182::c183::c184::c185::c186::c187::c188::c189::c190::c191::c192::c193::c194::c195::c196::c197::c198::c199::c200::c201::c202::c203::c204::c205::c206::c207::c208::c209::c210::c211::c212::c213::c214::c215::c216::c217::c218::c219::c220::c221::c222::c223::c224::c225::c226::c227::c228::c229::c230::c231::c232::c233::c234::c235::c236::c237::c238::c239::c240::c241::c242::c243::c244::[]),[]⟩ W0:=by
 have HEX:=Lib.hid hexit; clear hexit
 have HM0:=Lib.hid hx0; clear hx0
 have HFS:=Lib.hid hfs; have HCP:=Lib.hid hcp; have HA:=Lib.hid hx; have HLEN:=Lib.hid hm; have HOL:=Lib.hid hol; have HOG:=Lib.hid hog
 have HD0:=Lib.hid (And.intro h1 (And.intro h3 hgn))
 clear hfs hcp hx hm hol hog h1 h3 hgn
 conv=>arg 2; arg 1; whnf
 go_loopw [16] (fun v16 W=>∃ k:Nat,k≤mA∧k≤200∧v16=.int .i64 (k:Int)∧Hid (Wk w q gp go gn n fs (Obj.cells cp 82 (0,0)) O g W)) (fun v16 _=>200 - (intOf v16).toNat)
 case atStart=>exact ⟨0,by omega,by omega,rfl,HM0⟩
 case round=>
  clear HM0
  obtain ⟨k,hk1,hk2,rfl,HM⟩:=hrel
  by_cases hlt:k < mA∧k < 200
  ·obtain ⟨hl1,hl2⟩:=hlt
   have hkl:k < xs.length:=by have:=HLEN.out; omega
   obtain ⟨b,off,hpa,hat⟩:∃ b off,pA=some ⟨b,off,none⟩∧ActsAt w b off xs:=by
    rcases HA.out.2 with h | h
    ·rw [h] at hkl; exact absurd hkl (by simp)
    ·exact h
   subst hpa
   have hyf:=HA.out.1 _ (List.getElem_mem hkl)
   obtain ⟨hc0,hc1⟩:=hat.at_ k hkl
   have hblt:=hat.old
   generalize xs[k]=y at hc0 hc1 hyf
   have c0:=(HM.out.bel.cell (p:=⟨b,off+k * 2,none⟩) hblt).trans hc0
   have c1:=(HM.out.bel.cell (p:=⟨b,off+k * 2+1,none⟩) hblt).trans hc1
   obtain ⟨S,N,hsk,hnl,hnn,hoc⟩:=HM.out
   have hsa:=hsk.alloc (.cells #[.int .u8 (y.1:Int),.int .u32 (y.2:Int)] 74)
   have HD:Hid (go≠gn∧gp≠gn∧wr.heap.size≠gn∧w.heap.size≤gn):=Lib.hid ⟨HD0.out.1,HD0.out.2.1,fun e=>by have:=hsk.lt_ (g:=gn) (o:=nowO N) (by simp); omega,HD0.out.2.2⟩
   have i0:(0:Int)≤(k:Int):=by omega
   have i1:(k:Int) < (mA:Int):=by omega
   have i2:(k:Int) < 200:=by omega
   have z1:IntKind.i64.wrap ((k:Int)+1)=(k:Int)+1:=IntWalk.i64_in _ (by omega)
   have HSA:=Lib.hid hsa; have HNL0:=Lib.hid hnl; have HNN0:=Lib.hid hnn; have HOC0:=Lib.hid hoc; have HYF:=Lib.hid hyf.2
   obtain ⟨r6,hr6⟩:∃ r,r=y.1 % 6:=⟨_,rfl⟩
   have hr66:r6 < 6:=by omega
   have e1:(y.1:Int) % 6=(r6:Int):=by omega
   have e2:(y.1:Int).tmod 6=(r6:Int):=by rw [Int.tmod_eq_emod_of_nonneg (by omega)]; exact e1
   have z6:IntKind.u8.wrap (r6:Int)=(r6:Int):=IntWalk.u8_in _ (by omega)
   clear HM hsk hsa hnl hnn hoc hc0 hc1 hblt hat hyf hr6
   go_upto_region 19 with fail
   change Code.wp _ _ _ _ (wr.alloc (.cells #[.int .u8 (y.1:Int),.int .u32 (y.2:Int)] 74))
   generalize wr.alloc (.cells #[.int .u8 (y.1:Int),.int .u32 (y.2:Int)] 74)=V1 at HSA ⊢
   generalize wr.heap.size=gx at HSA HD ⊢
   have x0:=HSA.out.cell (g:=gx) (cs:=#[.int .u8 (y.1:Int),.int .u32 (y.2:Int)]) (T:=74) (j:=0) (v:=.int .u8 (y.1:Int)) List.mem_cons_self rfl
   have x1:=HSA.out.cell (g:=gx) (cs:=#[.int .u8 (y.1:Int),.int .u32 (y.2:Int)]) (T:=74) (j:=1) (v:=.int .u32 (y.2:Int)) List.mem_cons_self rfl
   clear c0 c1
   generalize y.2=yA at HSA x1 HYF
   by_cases hr3:r6 < 3
   ·obtain ⟨sp,hsp⟩:∃ sp,sp=decide (r6=2):=⟨_,rfl⟩
    have b1:((r6:Int) == 2)=sp:=by
     rw [hsp]
     by_cases h:r6=2
     ·subst h; rfl
     ·simp [h]; omega
    have b2:(r6:Int) < 3:=by omega
    clear hsp hr3
    cases hta:takeR S sp with
    | none=>
     have hR0:roomV S.r sp=0:=by
      by_cases h:roomV S.r sp=0
      ·exact h
      ·obtain ⟨b,hb⟩:=HSA.out.inv.found h
       rw [hta] at hb
       cases hb
     have hrm:=HSA.out.room sp
     have htk:=HSA.out.take sp
     rw [hR0] at hrm
     rw [hta] at htk
     unfold ansV at htk
     have HRM:=Lib.hid hrm; have HT:=Lib.hid htk
     clear hrm htk hR0 hta HSA
     go_wp2_with ((with_reducible refine HRM.out.mono ?_); rintro e _ ⟨rfl,rfl⟩)
     refine HT.out.mono ?_
     clear HT HRM x0 x1
     rintro e V2 ⟨rfl,hx⟩
     have HX: Hid (Sk w q n ((gx,Obj.cells #[.int .u8 (y.1: Int),.int .u32 (yA: Int)] 74 (0,0))::(gn,nowO N)::[(go,nowO O),(gp,Obj.cells cp 82 (0,0))]) S V2):=Lib.hid hx
     have HNL:=Lib.hid HNL0.out; have HNN:=Lib.hid HNN0.out; have HOC:=Lib.hid HOC0.out
     clear hx HNL0 HNN0 HOC0
     have kp:=HX.out.cell (g:=gp) (cs:=cp) (T:=82) (j:=2) (by simp) HCP.out
     rw [←HFS.out] at kp
     go_wp2_with fail
     clear kp
     refine reck_count (go:=go) (gn:=gn) (S:=S) (N:=N) (O:=O) HFS.out hfn hn (by simp) (by simp) HOL.out HNL.out (fun b b1 b2=>by rw [HOG.out b b1 b2,HOC.out b]) HNN.out HX.out ?_
     intro _ _ _ _ _ _ _ _ _ _ _ _ _ _ _ _ _ _ _ _ _ _ _ _ _ _ _ _ _ _ _ _ _ _ _ _ V9 hx9
     have hf9:=hx9.inv.f
     have hr9:=hx9.inv.r
     rw [hx9.en,←HFS.out] at hf9 hr9
     have hcf:=cntTo_le (isZ (S).T) fs (n - fs)
     have hcm:=cntTo_le (avB (S).T) fs (n - fs)
     have h9f:=hx9.free
     have h9t:=hx9.room true
     have h9n:=hx9.room false
     rw [hf9] at h9f
     rw [hr9] at h9t h9n
     obtain ⟨F,hF⟩:∃ F,F=cntTo (isZ (S).T) fs (n - fs):=⟨_,rfl⟩
     obtain ⟨M,hM⟩:∃ M,M=cntTo (avB (S).T) fs (n - fs):=⟨_,rfl⟩
     rw [←hF] at h9f hcf ⊢
     rw [←hM] at h9t h9n hcm ⊢
     rw [show pos (F:Int)=F by unfold pos; omega] at h9f
     rw [show roomV (M:Int) true=M by unfold roomV pos; simp] at h9t
     have hw9:Wk w q gp go gn n fs (Obj.cells cp 82 (0,0)) O g V9:=⟨S,N,hx9.less (fun y hy=>List.mem_cons_of_mem _ hy),HNL.out,HNN.out,HOC.out⟩
     have H9F:=Lib.hid h9f; have H9T:=Lib.hid h9t; have HW9:=Lib.hid hw9
     have df:((F:Int) != (F:Int))=false:=by simp
     have dm:((M:Int) != (M:Int))=false:=by simp
     clear hx9 hf9 hr9 h9f h9t hw9 hF hM HX HNL HNN HOC
     by_cases hM24:M≤24
     ·rw [show roomV (M:Int) false=0 by unfold roomV pos; simp; omega] at h9n
      have H9N:=Lib.hid h9n
      have x1:max (M:Int) 24=24:=by omega
      have x2:max M 24=24:=by omega
      have x3:decide (M≤24)=true:=decide_eq_true hM24
      have x4:(M:Int)≤24:=by omega
      clear h9n hM24
      go_wp2_with (first | ((with_reducible refine H9F.out.mono ?_); rintro e _ ⟨rfl,rfl⟩) | ((with_reducible refine H9T.out.mono ?_); rintro e _ ⟨rfl,rfl⟩) | ((with_reducible refine H9N.out.mono ?_); rintro e _ ⟨rfl,rfl⟩))
      go_roundw
      case rel=>exact ⟨k+1,by omega,by omega,by go_num,HW9⟩
      case measure=>simp [intOf]; omega
     ·obtain ⟨D,hD⟩:∃ D,D=M - 24:=⟨_,rfl⟩
      rw [show roomV (M:Int) false=D by unfold roomV pos; simp; omega] at h9n
      have H9N:=Lib.hid h9n
      have x1:max (M:Int) 24=(M:Int):=by omega
      have x2:max M 24=M:=by omega
      have x3:decide (M≤24)=false:=decide_eq_false hM24
      have x4:¬ (M:Int)≤24:=by omega
      have x5:(M:Int) - 24=(D:Int):=by omega
      have x6:IntKind.u32.wrap (D:Int)=(D:Int):=IntWalk.u32_in _ (by omega)
      have dd:((D:Int) != (D:Int))=false:=by simp
      clear h9n hM24 hD
      go_wp2_with (first | ((with_reducible refine H9F.out.mono ?_); rintro e _ ⟨rfl,rfl⟩) | ((with_reducible refine H9T.out.mono ?_); rintro e _ ⟨rfl,rfl⟩) | ((with_reducible refine H9N.out.mono ?_); rintro e _ ⟨rfl,rfl⟩))
      go_roundw
      case rel=>exact ⟨k+1,by omega,by omega,by go_num,HW9⟩
      case measure=>simp [intOf]; omega
    | some a=>
     obtain ⟨a1,a2,a3,a4⟩:=HSA.out.inv.take hta
     rw [HSA.out.en,←HFS.out] at a1
     rw [HSA.out.en] at a2
     have ha2:=a2
     obtain ⟨o0,n0⟩:=of_decide_eq_true a3
     obtain ⟨R,hR⟩:∃ R,R=roomV S.r sp:=⟨_,rfl⟩
     have hR0:R≠0:=fun e=>by
      have:=take_none (S:=S) (sp:=sp) (by rw [←hR]; exact e)
      rw [hta] at this
      cases this
     have hrm:=HSA.out.room sp
     have htk:=HSA.out.take sp
     rw [←hR] at hrm
     rw [hta] at htk
     unfold ansV at htk
     rw [show ((some a).getD 0:Nat)=a from rfl] at htk
     have g1:¬ (a:Int) < (fs:Int):=by omega
     have g2:(a:Int) < (n:Int):=by omega
     have g3:¬ (n:Int)≤(a:Int):=by omega
     have g4:(0:Int)≤(a:Int):=by omega
     have g5:(0:Int) < (R:Int):=by omega
     have hrp:=rows_put (v:=1) HSA.out.inv HFS.out HSA.out.en HNL0.out HNN0.out a1 a2
     have HRM:=Lib.hid hrm; have HT:=Lib.hid htk
     have HNL:=Lib.hid hrp.1
     have HNN:Hid (∀ b,fs≤b→b < n→(N.set a 1).getD b 0=(S.take a).T.nowC b):=Lib.hid hrp.2
     have HOC:Hid (∀ b,(S.take a).T.oldC b=g b):=Lib.hid (fun b=>(oldC_setS S.T a 1 b).trans (HOC0.out b))
     have HO0:Hid (O.getD a 0=0):=Lib.hid (by rw [HOG.out a a1 a2,←HOC0.out a]; exact o0)
     have HN0:Hid (N.getD a 0=0):=Lib.hid (by rw [HNN0.out a a1 a2]; exact n0)
     clear hrm htk hR0 hta HSA a1 a2 a3 a4 o0 n0 hR hrp HNN0 HOC0
     go_wp2_with ((with_reducible refine HRM.out.mono ?_); rintro e _ ⟨rfl,rfl⟩)
     refine HT.out.mono ?_
     clear HT HRM x0 x1
     rintro e V2 ⟨rfl,hx⟩
     replace hx: Sk w q n ((gx,Obj.cells #[.int .u8 (y.1: Int),.int .u32 (yA: Int)] 74 (0,0))::(gn,nowO N)::[(go,nowO O),(gp,Obj.cells cp 82 (0,0))]) (S.take a) V2:=hx
     have ko:=hx.numN (g:=go) (N:=O) (j:=a) (by simp) (by rw [HOL.out]; exact ha2)
     rw [HO0.out] at ko
     have kp2:=hx.cell (g:=gp) (cs:=cp) (T:=82) (j:=2) (by simp) HCP.out
     rw [←HFS.out] at kp2
     have kn:=hx.numN (g:=gn) (N:=N) (j:=a) (by simp) (by rw [HNL0.out]; exact ha2)
     have fn:=hx.froN (g:=gn) (N:=N) (by simp) a
     have hp:=(hx.less (E':=(gn,nowO N)::(gx,Obj.cells #[.int .u8 (y.1: Int),.int .u32 (yA: Int)] 74 (0,0))::[(go,nowO O),(gp,Obj.cells cp 82 (0,0))]) (fun z hz=>by
      simp only [List.mem_cons,List.not_mem_nil,or_false] at hz ⊢
      rcases hz with hz | hz | hz | hz
      ·exact .inr (.inl hz)
      ·exact .inl hz
      ·exact .inr (.inr (.inl hz))
      ·exact .inr (.inr (.inr hz)))).putN (j:=a) (v:=1) (fun z hz=>by
      simp only [List.mem_cons,List.not_mem_nil,or_false] at hz
      rcases hz with rfl | rfl | rfl
      ·exact HD.out.2.2.1
      ·exact HD.out.1
      ·exact HD.out.2.1) HD.out.2.2.2
     have hp2:=hp.less (E':=(gx,Obj.cells #[.int .u8 (y.1: Int),.int .u32 (yA: Int)] 74 (0,0))::(gn,nowO (N.set a (1)))::[(go,nowO O),(gp,Obj.cells cp 82 (0,0))]) (fun z hz=>by
      simp only [List.mem_cons,List.not_mem_nil,or_false] at hz ⊢
      rcases hz with hz | hz | hz | hz
      ·exact .inr (.inl hz)
      ·exact .inl hz
      ·exact .inr (.inr (.inl hz))
      ·exact .inr (.inr (.inr hz)))
     have HX:=Lib.hid hp2
     clear hp hp2
     rw [HN0.out] at kn
     have HX1: Hid (Sk w q n ((gx,Obj.cells #[.int .u8 (y.1: Int),.int .u32 (yA: Int)] 74 (0,0))::(gn,nowO (N.set a 1))::[(go,nowO O),(gp,Obj.cells cp 82 (0,0))]) (S.take a) (V2.setCell ⟨gn,a,none⟩ (.int .u16 1))):=Lib.hid HX.out
     clear HX hx HNL0 ha2
     have HX:=Lib.hid HX1.out
     clear HX1
     have kp:=HX.out.cell (g:=gp) (cs:=cp) (T:=82) (j:=2) (by simp) HCP.out
     rw [←HFS.out] at kp
     go_wp2_with fail
     clear kp
     refine reck_count (go:=go) (gn:=gn) (S:=S.take a) (N:=N.set a 1) (O:=O) HFS.out hfn hn (by simp) (by simp) HOL.out HNL.out (fun b b1 b2=>by rw [HOG.out b b1 b2,HOC.out b]) HNN.out HX.out ?_
     intro _ _ _ _ _ _ _ _ _ _ _ _ _ _ _ _ _ _ _ _ _ _ _ _ _ _ _ _ _ _ _ _ _ _ _ _ V9 hx9
     have hf9:=hx9.inv.f
     have hr9:=hx9.inv.r
     rw [hx9.en,←HFS.out] at hf9 hr9
     have hcf:=cntTo_le (isZ (S.take a).T) fs (n - fs)
     have hcm:=cntTo_le (avB (S.take a).T) fs (n - fs)
     have h9f:=hx9.free
     have h9t:=hx9.room true
     have h9n:=hx9.room false
     rw [hf9] at h9f
     rw [hr9] at h9t h9n
     obtain ⟨F,hF⟩:∃ F,F=cntTo (isZ (S.take a).T) fs (n - fs):=⟨_,rfl⟩
     obtain ⟨M,hM⟩:∃ M,M=cntTo (avB (S.take a).T) fs (n - fs):=⟨_,rfl⟩
     rw [←hF] at h9f hcf ⊢
     rw [←hM] at h9t h9n hcm ⊢
     rw [show pos (F:Int)=F by unfold pos; omega] at h9f
     rw [show roomV (M:Int) true=M by unfold roomV pos; simp] at h9t
     have hw9:Wk w q gp go gn n fs (Obj.cells cp 82 (0,0)) O g V9:=⟨S.take a,N.set a 1,hx9.less (fun y hy=>List.mem_cons_of_mem _ hy),HNL.out,HNN.out,HOC.out⟩
     have H9F:=Lib.hid h9f; have H9T:=Lib.hid h9t; have HW9:=Lib.hid hw9
     have df:((F:Int) != (F:Int))=false:=by simp
     have dm:((M:Int) != (M:Int))=false:=by simp
     clear hx9 hf9 hr9 h9f h9t hw9 hF hM HX HNL HNN HOC
     by_cases hM24:M≤24
     ·rw [show roomV (M:Int) false=0 by unfold roomV pos; simp; omega] at h9n
      have H9N:=Lib.hid h9n
      have x1:max (M:Int) 24=24:=by omega
      have x2:max M 24=24:=by omega
      have x3:decide (M≤24)=true:=decide_eq_true hM24
      have x4:(M:Int)≤24:=by omega
      clear h9n hM24
      go_wp2_with (first | ((with_reducible refine H9F.out.mono ?_); rintro e _ ⟨rfl,rfl⟩) | ((with_reducible refine H9T.out.mono ?_); rintro e _ ⟨rfl,rfl⟩) | ((with_reducible refine H9N.out.mono ?_); rintro e _ ⟨rfl,rfl⟩))
      go_roundw
      case rel=>exact ⟨k+1,by omega,by omega,by go_num,HW9⟩
      case measure=>simp [intOf]; omega
     ·obtain ⟨D,hD⟩:∃ D,D=M - 24:=⟨_,rfl⟩
      rw [show roomV (M:Int) false=D by unfold roomV pos; simp; omega] at h9n
      have H9N:=Lib.hid h9n
      have x1:max (M:Int) 24=(M:Int):=by omega
      have x2:max M 24=M:=by omega
      have x3:decide (M≤24)=false:=decide_eq_false hM24
      have x4:¬ (M:Int)≤24:=by omega
      have x5:(M:Int) - 24=(D:Int):=by omega
      have x6:IntKind.u32.wrap (D:Int)=(D:Int):=IntWalk.u32_in _ (by omega)
      have dd:((D:Int) != (D:Int))=false:=by simp
      clear h9n hM24 hD
      go_wp2_with (first | ((with_reducible refine H9F.out.mono ?_); rintro e _ ⟨rfl,rfl⟩) | ((with_reducible refine H9T.out.mono ?_); rintro e _ ⟨rfl,rfl⟩) | ((with_reducible refine H9N.out.mono ?_); rintro e _ ⟨rfl,rfl⟩))
      go_roundw
      case rel=>exact ⟨k+1,by omega,by omega,by go_num,HW9⟩
      case measure=>simp [intOf]; omega
   ·by_cases hr4:r6=3
    ·subst hr4
     clear hr3 hr66
     have hrm:=HSA.out.room false
     have hmo:=HSA.out.raise (a:=yA) HYF.out
     obtain ⟨R,hR⟩:∃ R,R=roomV S.r false:=⟨_,rfl⟩
     rw [←hR] at hrm
     by_cases hz:askV S.T yA 2=0
     ·obtain ⟨a1,a2⟩:=ask_in hz
      obtain ⟨_,_,_,h65⟩:=flt_zero hz
      have h65':=h65 rfl
      rw [HSA.out.en,←HFS.out] at a1
      rw [HSA.out.en] at a2
      have ha2:=a2
      rw [hz,if_pos rfl] at hmo
      obtain ⟨m,hmm⟩:∃ m,m=S.T.nowC yA:=⟨_,rfl⟩
      have hm65:=nowC_lt HSA.out.inv.ok yA
      rw [←hmm] at h65' hmo hm65
      have hrp:=rows_put (v:=m+1) HSA.out.inv HFS.out HSA.out.en HNL0.out HNN0.out a1 a2
      have g2:(yA:Int) < (n:Int):=by omega
      have g4:(0:Int)≤(yA:Int):=by omega
      have g5:(yA:Int) % (n:Int)=(yA:Int):=Int.emod_eq_of_lt (by omega) (by omega)
      have g6:(yA:Int).tmod (n:Int)=(yA:Int):=by rw [Int.tmod_eq_emod_of_nonneg (by omega)]; exact g5
      have g7:¬ (n:Int)=0:=by omega
      have g8:¬ n=0:=by omega
      have z7:IntKind.u16.wrap ((m:Int)+1)=(m:Int)+1:=IntWalk.u16_in _ (by omega)
      have z8:IntKind.u32.wrap (yA:Int)=(yA:Int):=IntWalk.u32_in _ (by omega)
      have HRM:=Lib.hid hrm; have HT:=Lib.hid hmo
      have HNL:=Lib.hid hrp.1
      have HNN:Hid (∀ b,fs≤b→b < n→(N.set yA (m+1)).getD b 0=(S.put yA (m+1)).T.nowC b):=Lib.hid hrp.2
      have HOC:Hid (∀ b,(S.put yA (m+1)).T.oldC b=g b):=Lib.hid (fun b=>(oldC_setS S.T yA (m+1) b).trans (HOC0.out b))
      have HN0:Hid (N.getD yA 0=m):=Lib.hid (by rw [HNN0.out yA a1 a2,←hmm])
      clear hrm hmo hz HSA a1 a2 h65 h65' hm65 hR hrp HNN0 HOC0 hmm
      go_wp2_with ((with_reducible refine HRM.out.mono ?_); rintro e _ ⟨rfl,rfl⟩)
      refine HT.out.mono ?_
      clear HT HRM x0 x1
      rintro e V2 ⟨rfl,hx⟩
      have x1:=hx.cell (g:=gx) (cs:=#[.int .u8 (y.1:Int),.int .u32 (yA:Int)]) (T:=74) (j:=1) (v:=.int .u32 (yA:Int)) List.mem_cons_self rfl
      have kn:=hx.numN (g:=gn) (N:=N) (j:=yA) (by simp) (by rw [HNL0.out]; exact ha2)
      have fn:=hx.froN (g:=gn) (N:=N) (by simp) yA
      have hp:=(hx.less (E':=(gn,nowO N)::(gx,Obj.cells #[.int .u8 (y.1: Int),.int .u32 (yA: Int)] 74 (0,0))::[(go,nowO O),(gp,Obj.cells cp 82 (0,0))]) (fun z hz=>by
       simp only [List.mem_cons,List.not_mem_nil,or_false] at hz ⊢
       rcases hz with hz | hz | hz | hz
       ·exact .inr (.inl hz)
       ·exact .inl hz
       ·exact .inr (.inr (.inl hz))
       ·exact .inr (.inr (.inr hz)))).putN (j:=yA) (v:=m+1) (fun z hz=>by
       simp only [List.mem_cons,List.not_mem_nil,or_false] at hz
       rcases hz with rfl | rfl | rfl
       ·exact HD.out.2.2.1
       ·exact HD.out.1
       ·exact HD.out.2.1) HD.out.2.2.2
      have hp2:=hp.less (E':=(gx,Obj.cells #[.int .u8 (y.1: Int),.int .u32 (yA: Int)] 74 (0,0))::(gn,nowO (N.set yA (m+1)))::[(go,nowO O),(gp,Obj.cells cp 82 (0,0))]) (fun z hz=>by
       simp only [List.mem_cons,List.not_mem_nil,or_false] at hz ⊢
       rcases hz with hz | hz | hz | hz
       ·exact .inr (.inl hz)
       ·exact .inl hz
       ·exact .inr (.inr (.inl hz))
       ·exact .inr (.inr (.inr hz)))
      have HX:=Lib.hid hp2
      clear hp hp2
      have HX2:Hid _:=Lib.hid HX.out
      clear HX
      rw [show ((m+1:Nat):Int)=(m:Int)+1 by omega] at HX2
      have HX:=Lib.hid HX2.out
      rw [HN0.out] at kn
      clear hx HNL0 ha2 HX2
      have kp:=HX.out.cell (g:=gp) (cs:=cp) (T:=82) (j:=2) (by simp) HCP.out
      rw [←HFS.out] at kp
      go_wp2_with fail
      clear kp
      refine reck_count (go:=go) (gn:=gn) (S:=S.put yA (m+1)) (N:=N.set yA (m+1)) (O:=O) HFS.out hfn hn (by simp) (by simp) HOL.out HNL.out (fun b b1 b2=>by rw [HOG.out b b1 b2,HOC.out b]) HNN.out HX.out ?_
      intro _ _ _ _ _ _ _ _ _ _ _ _ _ _ _ _ _ _ _ _ _ _ _ _ _ _ _ _ _ _ _ _ _ _ _ _ V9 hx9
      have hf9:=hx9.inv.f
      have hr9:=hx9.inv.r
      rw [hx9.en,←HFS.out] at hf9 hr9
      have hcf:=cntTo_le (isZ (S.put yA (m+1)).T) fs (n - fs)
      have hcm:=cntTo_le (avB (S.put yA (m+1)).T) fs (n - fs)
      have h9f:=hx9.free
      have h9t:=hx9.room true
      have h9n:=hx9.room false
      rw [hf9] at h9f
      rw [hr9] at h9t h9n
      obtain ⟨F,hF⟩:∃ F,F=cntTo (isZ (S.put yA (m+1)).T) fs (n - fs):=⟨_,rfl⟩
      obtain ⟨M,hM⟩:∃ M,M=cntTo (avB (S.put yA (m+1)).T) fs (n - fs):=⟨_,rfl⟩
      rw [←hF] at h9f hcf ⊢
      rw [←hM] at h9t h9n hcm ⊢
      rw [show pos (F:Int)=F by unfold pos; omega] at h9f
      rw [show roomV (M:Int) true=M by unfold roomV pos; simp] at h9t
      have hw9:Wk w q gp go gn n fs (Obj.cells cp 82 (0,0)) O g V9:=⟨S.put yA (m+1),N.set yA (m+1),hx9.less (fun y hy=>List.mem_cons_of_mem _ hy),HNL.out,HNN.out,HOC.out⟩
      have H9F:=Lib.hid h9f; have H9T:=Lib.hid h9t; have HW9:=Lib.hid hw9
      have df:((F:Int) != (F:Int))=false:=by simp
      have dm:((M:Int) != (M:Int))=false:=by simp
      clear hx9 hf9 hr9 h9f h9t hw9 hF hM HX HNL HNN HOC
      by_cases hM24:M≤24
      ·rw [show roomV (M:Int) false=0 by unfold roomV pos; simp; omega] at h9n
       have H9N:=Lib.hid h9n
       have x1:max (M:Int) 24=24:=by omega
       have x2:max M 24=24:=by omega
       have x3:decide (M≤24)=true:=decide_eq_true hM24
       have x4:(M:Int)≤24:=by omega
       clear h9n hM24
       go_wp2_with (first | ((with_reducible refine H9F.out.mono ?_); rintro e _ ⟨rfl,rfl⟩) | ((with_reducible refine H9T.out.mono ?_); rintro e _ ⟨rfl,rfl⟩) | ((with_reducible refine H9N.out.mono ?_); rintro e _ ⟨rfl,rfl⟩))
       go_roundw
       case rel=>exact ⟨k+1,by omega,by omega,by go_num,HW9⟩
       case measure=>simp [intOf]; omega
      ·obtain ⟨D,hD⟩:∃ D,D=M - 24:=⟨_,rfl⟩
       rw [show roomV (M:Int) false=D by unfold roomV pos; simp; omega] at h9n
       have H9N:=Lib.hid h9n
       have x1:max (M:Int) 24=(M:Int):=by omega
       have x2:max M 24=M:=by omega
       have x3:decide (M≤24)=false:=decide_eq_false hM24
       have x4:¬ (M:Int)≤24:=by omega
       have x5:(M:Int) - 24=(D:Int):=by omega
       have x6:IntKind.u32.wrap (D:Int)=(D:Int):=IntWalk.u32_in _ (by omega)
       have dd:((D:Int) != (D:Int))=false:=by simp
       clear h9n hM24 hD
       go_wp2_with (first | ((with_reducible refine H9F.out.mono ?_); rintro e _ ⟨rfl,rfl⟩) | ((with_reducible refine H9T.out.mono ?_); rintro e _ ⟨rfl,rfl⟩) | ((with_reducible refine H9N.out.mono ?_); rintro e _ ⟨rfl,rfl⟩))
       go_roundw
       case rel=>exact ⟨k+1,by omega,by omega,by go_num,HW9⟩
       case measure=>simp [intOf]; omega
     ·rw [if_neg hz] at hmo
      obtain ⟨z,hzz⟩:∃ z,z=askV S.T yA 2:=⟨_,rfl⟩
      rw [←hzz] at hmo hz
      have HRM:=Lib.hid hrm; have HT:=Lib.hid hmo
      have d1:(z == 0)=false:=by simp; exact hz
      clear hrm hmo HSA hR hzz
      go_wp2_with ((with_reducible refine HRM.out.mono ?_); rintro e _ ⟨rfl,rfl⟩)
      refine HT.out.mono ?_
      clear HT HRM x0 x1
      rintro e V2 ⟨rfl,hx⟩
      have HX:=Lib.hid hx
      have HNL:=Lib.hid HNL0.out; have HNN:=Lib.hid HNN0.out; have HOC:=Lib.hid HOC0.out
      clear hx HNL0 HNN0 HOC0
      have kp:=HX.out.cell (g:=gp) (cs:=cp) (T:=82) (j:=2) (by simp) HCP.out
      rw [←HFS.out] at kp
      go_wp2_with fail
      clear kp
      refine reck_count (go:=go) (gn:=gn) (S:=S) (N:=N) (O:=O) HFS.out hfn hn (by simp) (by simp) HOL.out HNL.out (fun b b1 b2=>by rw [HOG.out b b1 b2,HOC.out b]) HNN.out HX.out ?_
      intro _ _ _ _ _ _ _ _ _ _ _ _ _ _ _ _ _ _ _ _ _ _ _ _ _ _ _ _ _ _ _ _ _ _ _ _ V9 hx9
      have hf9:=hx9.inv.f
      have hr9:=hx9.inv.r
      rw [hx9.en,←HFS.out] at hf9 hr9
      have hcf:=cntTo_le (isZ (S).T) fs (n - fs)
      have hcm:=cntTo_le (avB (S).T) fs (n - fs)
      have h9f:=hx9.free
      have h9t:=hx9.room true
      have h9n:=hx9.room false
      rw [hf9] at h9f
      rw [hr9] at h9t h9n
      obtain ⟨F,hF⟩:∃ F,F=cntTo (isZ (S).T) fs (n - fs):=⟨_,rfl⟩
      obtain ⟨M,hM⟩:∃ M,M=cntTo (avB (S).T) fs (n - fs):=⟨_,rfl⟩
      rw [←hF] at h9f hcf ⊢
      rw [←hM] at h9t h9n hcm ⊢
      rw [show pos (F:Int)=F by unfold pos; omega] at h9f
      rw [show roomV (M:Int) true=M by unfold roomV pos; simp] at h9t
      have hw9:Wk w q gp go gn n fs (Obj.cells cp 82 (0,0)) O g V9:=⟨S,N,hx9.less (fun y hy=>List.mem_cons_of_mem _ hy),HNL.out,HNN.out,HOC.out⟩
      have H9F:=Lib.hid h9f; have H9T:=Lib.hid h9t; have HW9:=Lib.hid hw9
      have df:((F:Int) != (F:Int))=false:=by simp
      have dm:((M:Int) != (M:Int))=false:=by simp
      clear hx9 hf9 hr9 h9f h9t hw9 hF hM HX HNL HNN HOC
      by_cases hM24:M≤24
      ·rw [show roomV (M:Int) false=0 by unfold roomV pos; simp; omega] at h9n
       have H9N:=Lib.hid h9n
       have x1:max (M:Int) 24=24:=by omega
       have x2:max M 24=24:=by omega
       have x3:decide (M≤24)=true:=decide_eq_true hM24
       have x4:(M:Int)≤24:=by omega
       clear h9n hM24
       go_wp2_with (first | ((with_reducible refine H9F.out.mono ?_); rintro e _ ⟨rfl,rfl⟩) | ((with_reducible refine H9T.out.mono ?_); rintro e _ ⟨rfl,rfl⟩) | ((with_reducible refine H9N.out.mono ?_); rintro e _ ⟨rfl,rfl⟩))
       go_roundw
       case rel=>exact ⟨k+1,by omega,by omega,by go_num,HW9⟩
       case measure=>simp [intOf]; omega
      ·obtain ⟨D,hD⟩:∃ D,D=M - 24:=⟨_,rfl⟩
       rw [show roomV (M:Int) false=D by unfold roomV pos; simp; omega] at h9n
       have H9N:=Lib.hid h9n
       have x1:max (M:Int) 24=(M:Int):=by omega
       have x2:max M 24=M:=by omega
       have x3:decide (M≤24)=false:=decide_eq_false hM24
       have x4:¬ (M:Int)≤24:=by omega
       have x5:(M:Int) - 24=(D:Int):=by omega
       have x6:IntKind.u32.wrap (D:Int)=(D:Int):=IntWalk.u32_in _ (by omega)
       have dd:((D:Int) != (D:Int))=false:=by simp
       clear h9n hM24 hD
       go_wp2_with (first | ((with_reducible refine H9F.out.mono ?_); rintro e _ ⟨rfl,rfl⟩) | ((with_reducible refine H9T.out.mono ?_); rintro e _ ⟨rfl,rfl⟩) | ((with_reducible refine H9N.out.mono ?_); rintro e _ ⟨rfl,rfl⟩))
       go_roundw
       case rel=>exact ⟨k+1,by omega,by omega,by go_num,HW9⟩
       case measure=>simp [intOf]; omega
    ·have b3:((r6:Int) == 3)=false:=by simp; omega
     have b4:¬ (r6:Int) < 3:=by omega
     have b5:((r6:Int) == 2)=false:=by simp; omega
     have b6:¬ (r6:Int)=3:=by omega
     have b7:¬ (r6:Int)=2:=by omega
     clear hr3 hr4 hr66
     have hrm:=HSA.out.room false
     have hmo:=HSA.out.lower (a:=yA) HYF.out
     obtain ⟨R,hR⟩:∃ R,R=roomV S.r false:=⟨_,rfl⟩
     rw [←hR] at hrm
     by_cases hz:askV S.T yA 1=0
     ·obtain ⟨a1,a2⟩:=ask_in hz
      obtain ⟨_,_,h0,_⟩:=flt_zero hz
      have h0':=h0 (by omega)
      rw [HSA.out.en,←HFS.out] at a1
      rw [HSA.out.en] at a2
      have ha2:=a2
      rw [hz,if_pos rfl,if_pos rfl] at hmo
      obtain ⟨m,hmm⟩:∃ m,m=S.T.nowC yA - 1:=⟨_,rfl⟩
      have hm65:=nowC_lt HSA.out.inv.ok yA
      rw [←hmm] at hmo
      have hrp:=rows_put (v:=m) HSA.out.inv HFS.out HSA.out.en HNL0.out HNN0.out a1 a2
      have g2:(yA:Int) < (n:Int):=by omega
      have g4:(0:Int)≤(yA:Int):=by omega
      have g5:(yA:Int) % (n:Int)=(yA:Int):=Int.emod_eq_of_lt (by omega) (by omega)
      have g6:(yA:Int).tmod (n:Int)=(yA:Int):=by rw [Int.tmod_eq_emod_of_nonneg (by omega)]; exact g5
      have g7:¬ (n:Int)=0:=by omega
      have g8:¬ n=0:=by omega
      have z8:IntKind.u32.wrap (yA:Int)=(yA:Int):=IntWalk.u32_in _ (by omega)
      have HRM:=Lib.hid hrm; have HT:=Lib.hid hmo
      have HNL:=Lib.hid hrp.1
      have HNN:Hid (∀ b,fs≤b→b < n→(N.set yA m).getD b 0=(S.put yA m).T.nowC b):=Lib.hid hrp.2
      have HOC:Hid (∀ b,(S.put yA m).T.oldC b=g b):=Lib.hid (fun b=>(oldC_setS S.T yA m b).trans (HOC0.out b))
      clear hrm hmo hz HSA a1 a2 h0 h0' hm65 hR hrp HNN0 HOC0 hmm
      go_wp2_with ((with_reducible refine HRM.out.mono ?_); rintro e _ ⟨rfl,rfl⟩)
      refine HT.out.mono ?_
      clear HT HRM x0 x1
      rintro e V2 ⟨rfl,hx⟩
      have x1:=hx.cell (g:=gx) (cs:=#[.int .u8 (y.1:Int),.int .u32 (yA:Int)]) (T:=74) (j:=1) (v:=.int .u32 (yA:Int)) List.mem_cons_self rfl
      have kn:=hx.numN (g:=gn) (N:=N) (j:=yA) (by simp) (by rw [HNL0.out]; exact ha2)
      have fn:=hx.froN (g:=gn) (N:=N) (by simp) yA
      have hp:=(hx.less (E':=(gn,nowO N)::(gx,Obj.cells #[.int .u8 (y.1: Int),.int .u32 (yA: Int)] 74 (0,0))::[(go,nowO O),(gp,Obj.cells cp 82 (0,0))]) (fun z hz=>by
       simp only [List.mem_cons,List.not_mem_nil,or_false] at hz ⊢
       rcases hz with hz | hz | hz | hz
       ·exact .inr (.inl hz)
       ·exact .inl hz
       ·exact .inr (.inr (.inl hz))
       ·exact .inr (.inr (.inr hz)))).putN (j:=yA) (v:=m) (fun z hz=>by
       simp only [List.mem_cons,List.not_mem_nil,or_false] at hz
       rcases hz with rfl | rfl | rfl
       ·exact HD.out.2.2.1
       ·exact HD.out.1
       ·exact HD.out.2.1) HD.out.2.2.2
      have hp2:=hp.less (E':=(gx,Obj.cells #[.int .u8 (y.1: Int),.int .u32 (yA: Int)] 74 (0,0))::(gn,nowO (N.set yA (m)))::[(go,nowO O),(gp,Obj.cells cp 82 (0,0))]) (fun z hz=>by
       simp only [List.mem_cons,List.not_mem_nil,or_false] at hz ⊢
       rcases hz with hz | hz | hz | hz
       ·exact .inr (.inl hz)
       ·exact .inl hz
       ·exact .inr (.inr (.inl hz))
       ·exact .inr (.inr (.inr hz)))
      have HX:=Lib.hid hp2
      clear hp hp2
      generalize N.getD yA 0=ny at kn
      clear hx HNL0 ha2
      have kp:=HX.out.cell (g:=gp) (cs:=cp) (T:=82) (j:=2) (by simp) HCP.out
      rw [←HFS.out] at kp
      go_wp2_with fail
      clear kp
      refine reck_count (go:=go) (gn:=gn) (S:=S.put yA m) (N:=N.set yA m) (O:=O) HFS.out hfn hn (by simp) (by simp) HOL.out HNL.out (fun b b1 b2=>by rw [HOG.out b b1 b2,HOC.out b]) HNN.out HX.out ?_
      intro _ _ _ _ _ _ _ _ _ _ _ _ _ _ _ _ _ _ _ _ _ _ _ _ _ _ _ _ _ _ _ _ _ _ _ _ V9 hx9
      have hf9:=hx9.inv.f
      have hr9:=hx9.inv.r
      rw [hx9.en,←HFS.out] at hf9 hr9
      have hcf:=cntTo_le (isZ (S.put yA m).T) fs (n - fs)
      have hcm:=cntTo_le (avB (S.put yA m).T) fs (n - fs)
      have h9f:=hx9.free
      have h9t:=hx9.room true
      have h9n:=hx9.room false
      rw [hf9] at h9f
      rw [hr9] at h9t h9n
      obtain ⟨F,hF⟩:∃ F,F=cntTo (isZ (S.put yA m).T) fs (n - fs):=⟨_,rfl⟩
      obtain ⟨M,hM⟩:∃ M,M=cntTo (avB (S.put yA m).T) fs (n - fs):=⟨_,rfl⟩
      rw [←hF] at h9f hcf ⊢
      rw [←hM] at h9t h9n hcm ⊢
      rw [show pos (F:Int)=F by unfold pos; omega] at h9f
      rw [show roomV (M:Int) true=M by unfold roomV pos; simp] at h9t
      have hw9:Wk w q gp go gn n fs (Obj.cells cp 82 (0,0)) O g V9:=⟨S.put yA m,N.set yA m,hx9.less (fun y hy=>List.mem_cons_of_mem _ hy),HNL.out,HNN.out,HOC.out⟩
      have H9F:=Lib.hid h9f; have H9T:=Lib.hid h9t; have HW9:=Lib.hid hw9
      have df:((F:Int) != (F:Int))=false:=by simp
      have dm:((M:Int) != (M:Int))=false:=by simp
      clear hx9 hf9 hr9 h9f h9t hw9 hF hM HX HNL HNN HOC
      by_cases hM24:M≤24
      ·rw [show roomV (M:Int) false=0 by unfold roomV pos; simp; omega] at h9n
       have H9N:=Lib.hid h9n
       have x1:max (M:Int) 24=24:=by omega
       have x2:max M 24=24:=by omega
       have x3:decide (M≤24)=true:=decide_eq_true hM24
       have x4:(M:Int)≤24:=by omega
       clear h9n hM24
       go_wp2_with (first | ((with_reducible refine H9F.out.mono ?_); rintro e _ ⟨rfl,rfl⟩) | ((with_reducible refine H9T.out.mono ?_); rintro e _ ⟨rfl,rfl⟩) | ((with_reducible refine H9N.out.mono ?_); rintro e _ ⟨rfl,rfl⟩))
       go_roundw
       case rel=>exact ⟨k+1,by omega,by omega,by go_num,HW9⟩
       case measure=>simp [intOf]; omega
      ·obtain ⟨D,hD⟩:∃ D,D=M - 24:=⟨_,rfl⟩
       rw [show roomV (M:Int) false=D by unfold roomV pos; simp; omega] at h9n
       have H9N:=Lib.hid h9n
       have x1:max (M:Int) 24=(M:Int):=by omega
       have x2:max M 24=M:=by omega
       have x3:decide (M≤24)=false:=decide_eq_false hM24
       have x4:¬ (M:Int)≤24:=by omega
       have x5:(M:Int) - 24=(D:Int):=by omega
       have x6:IntKind.u32.wrap (D:Int)=(D:Int):=IntWalk.u32_in _ (by omega)
       have dd:((D:Int) != (D:Int))=false:=by simp
       clear h9n hM24 hD
       go_wp2_with (first | ((with_reducible refine H9F.out.mono ?_); rintro e _ ⟨rfl,rfl⟩) | ((with_reducible refine H9T.out.mono ?_); rintro e _ ⟨rfl,rfl⟩) | ((with_reducible refine H9N.out.mono ?_); rintro e _ ⟨rfl,rfl⟩))
       go_roundw
       case rel=>exact ⟨k+1,by omega,by omega,by go_num,HW9⟩
       case measure=>simp [intOf]; omega
     ·rw [if_neg hz,if_neg hz] at hmo
      obtain ⟨z,hzz⟩:∃ z,z=askV S.T yA 1:=⟨_,rfl⟩
      rw [←hzz] at hmo hz
      have HRM:=Lib.hid hrm; have HT:=Lib.hid hmo
      have d1:(z == 0)=false:=by simp; exact hz
      clear hrm hmo HSA hR hzz
      go_wp2_with ((with_reducible refine HRM.out.mono ?_); rintro e _ ⟨rfl,rfl⟩)
      refine HT.out.mono ?_
      clear HT HRM x0 x1
      rintro e V2 ⟨rfl,hx⟩
      have HX:=Lib.hid hx
      have HNL:=Lib.hid HNL0.out; have HNN:=Lib.hid HNN0.out; have HOC:=Lib.hid HOC0.out
      clear hx HNL0 HNN0 HOC0
      have kp:=HX.out.cell (g:=gp) (cs:=cp) (T:=82) (j:=2) (by simp) HCP.out
      rw [←HFS.out] at kp
      go_wp2_with fail
      clear kp
      refine reck_count (go:=go) (gn:=gn) (S:=S) (N:=N) (O:=O) HFS.out hfn hn (by simp) (by simp) HOL.out HNL.out (fun b b1 b2=>by rw [HOG.out b b1 b2,HOC.out b]) HNN.out HX.out ?_
      intro _ _ _ _ _ _ _ _ _ _ _ _ _ _ _ _ _ _ _ _ _ _ _ _ _ _ _ _ _ _ _ _ _ _ _ _ V9 hx9
      have hf9:=hx9.inv.f
      have hr9:=hx9.inv.r
      rw [hx9.en,←HFS.out] at hf9 hr9
      have hcf:=cntTo_le (isZ (S).T) fs (n - fs)
      have hcm:=cntTo_le (avB (S).T) fs (n - fs)
      have h9f:=hx9.free
      have h9t:=hx9.room true
      have h9n:=hx9.room false
      rw [hf9] at h9f
      rw [hr9] at h9t h9n
      obtain ⟨F,hF⟩:∃ F,F=cntTo (isZ (S).T) fs (n - fs):=⟨_,rfl⟩
      obtain ⟨M,hM⟩:∃ M,M=cntTo (avB (S).T) fs (n - fs):=⟨_,rfl⟩
      rw [←hF] at h9f hcf ⊢
      rw [←hM] at h9t h9n hcm ⊢
      rw [show pos (F:Int)=F by unfold pos; omega] at h9f
      rw [show roomV (M:Int) true=M by unfold roomV pos; simp] at h9t
      have hw9:Wk w q gp go gn n fs (Obj.cells cp 82 (0,0)) O g V9:=⟨S,N,hx9.less (fun y hy=>List.mem_cons_of_mem _ hy),HNL.out,HNN.out,HOC.out⟩
      have H9F:=Lib.hid h9f; have H9T:=Lib.hid h9t; have HW9:=Lib.hid hw9
      have df:((F:Int) != (F:Int))=false:=by simp
      have dm:((M:Int) != (M:Int))=false:=by simp
      clear hx9 hf9 hr9 h9f h9t hw9 hF hM HX HNL HNN HOC
      by_cases hM24:M≤24
      ·rw [show roomV (M:Int) false=0 by unfold roomV pos; simp; omega] at h9n
       have H9N:=Lib.hid h9n
       have x1:max (M:Int) 24=24:=by omega
       have x2:max M 24=24:=by omega
       have x3:decide (M≤24)=true:=decide_eq_true hM24
       have x4:(M:Int)≤24:=by omega
       clear h9n hM24
       go_wp2_with (first | ((with_reducible refine H9F.out.mono ?_); rintro e _ ⟨rfl,rfl⟩) | ((with_reducible refine H9T.out.mono ?_); rintro e _ ⟨rfl,rfl⟩) | ((with_reducible refine H9N.out.mono ?_); rintro e _ ⟨rfl,rfl⟩))
       go_roundw
       case rel=>exact ⟨k+1,by omega,by omega,by go_num,HW9⟩
       case measure=>simp [intOf]; omega
      ·obtain ⟨D,hD⟩:∃ D,D=M - 24:=⟨_,rfl⟩
       rw [show roomV (M:Int) false=D by unfold roomV pos; simp; omega] at h9n
       have H9N:=Lib.hid h9n
       have x1:max (M:Int) 24=(M:Int):=by omega
       have x2:max M 24=M:=by omega
       have x3:decide (M≤24)=false:=decide_eq_false hM24
       have x4:¬ (M:Int)≤24:=by omega
       have x5:(M:Int) - 24=(D:Int):=by omega
       have x6:IntKind.u32.wrap (D:Int)=(D:Int):=IntWalk.u32_in _ (by omega)
       have dd:((D:Int) != (D:Int))=false:=by simp
       clear h9n hM24 hD
       go_wp2_with (first | ((with_reducible refine H9F.out.mono ?_); rintro e _ ⟨rfl,rfl⟩) | ((with_reducible refine H9T.out.mono ?_); rintro e _ ⟨rfl,rfl⟩) | ((with_reducible refine H9N.out.mono ?_); rintro e _ ⟨rfl,rfl⟩))
       go_roundw
       case rel=>exact ⟨k+1,by omega,by omega,by go_num,HW9⟩
       case measure=>simp [intOf]; omega
  ·have HB:=Lib.hid HM.out.bel
   by_cases hm:k < mA
   ·have i1:(k:Int) < (mA:Int):=by omega
    have i2:¬ (k:Int) < 200:=by omega
    clear hlt
    go_wp2_with fail
    exact HEX.out _ _ _ _ _ _ _ _ _ _ _ _ _ _ _ _ _ _ _ _ _ _ _ _ _ _ _ _ _ _ _ _ _ _ _ _ _ _ _ _ _ _ _ _ _ _ _ _ _ _ _ _ _ _ _ _ _ _ _ _ _ _ _ _ _ _ _ _ _ _ _ _ _ _ _ _ _ _ _ _ _ _ _ _ _ _ _ _ _ _ _ _ _ _ _ _ _ _ _ _ _ _ _ _ _ _ _ _ _ _ _ _ _ _ _ _ _ _ _ _ _ _ _ _ _ _ _ _ _ _ _ _ _ _ _ _ _ _ _ _ _ _ _ _ _ _ _ _ _ _ _ _ _ _ _ _ _ _ _ _ _ _ _ _ _ _ _ _ _ _ _ _ _ _ _ _ _ HB.out
   ·have i1:¬ (k:Int) < (mA:Int):=by omega
    clear hlt
    go_wp2_with fail
    exact HEX.out _ _ _ _ _ _ _ _ _ _ _ _ _ _ _ _ _ _ _ _ _ _ _ _ _ _ _ _ _ _ _ _ _ _ _ _ _ _ _ _ _ _ _ _ _ _ _ _ _ _ _ _ _ _ _ _ _ _ _ _ _ _ _ _ _ _ _ _ _ _ _ _ _ _ _ _ _ _ _ _ _ _ _ _ _ _ _ _ _ _ _ _ _ _ _ _ _ _ _ _ _ _ _ _ _ _ _ _ _ _ _ _ _ _ _ _ _ _ _ _ _ _ _ _ _ _ _ _ _ _ _ _ _ _ _ _ _ _ _ _ _ _ _ _ _ _ _ _ _ _ _ _ _ _ _ _ _ _ _ _ _ _ _ _ _ _ _ _ _ _ _ _ _ _ _ _ _ HB.out
end Spc

end Go.Proofs.YtgkbfahflngklaaGreat
