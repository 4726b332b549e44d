import Derived.Test.YtgkbfahflngklaaGreatSpcV1
namespace Go.Proofs.YtgkbfahflngklaaGreat.Spc
open Go.RowKit RowLaw
open Go.Proofs.YtgkbfahflngklaaGreat.Dev (ptr DS)
open Go.Proofs.YtgkbfahflngklaaGreat.Cnt (own_slice own_kept own_base own_ne Thing Hall TD cntE)
open Go.Proofs.YtgkbfahflngklaaGreat.Slt (Rt cells rootO)
open Go.Proofs.YtgkbfahflngklaaGreat.Rot (planOk tlN pkN fsN)
set_option maxRecDepth 100000
def freeTo (s:DS) (r:Rt) (L:List (Nat×Nat)):Nat→Nat
 | 0=>0
 | k+1=>freeTo s r L k+if getS s r L (fsN s.n+k)=0 then 1 else 0
theorem freeTo_le (s:DS) (r:Rt) (L:List (Nat×Nat)):∀ k,freeTo s r L k≤k
 | 0=>Nat.le_refl _
 | k+1=>by
  have:=freeTo_le s r L k
  unfold freeTo
  split <;> omega
structure Fg (w:World) (l:List Thing) (KL:List (Nat×Obj)) (x:RS) (r r2:Rt) (L:List (Nat×Nat)) (cs:Array Value) (gr gt f:Nat) (W:World):Prop where
 hall: Hall w l ((gr,rootO { r2 with free:=f }) :: KL) W
 gt_:(gt,Obj.cells cs 65 (0,0))∈KL
 ne:∀ y∈KL,y.1≠gr
 dt:DT (inK KL) W (.agg cs) x r L
theorem Fg.below {w W W':World} {l:List Thing} {KL:List (Nat×Obj)} {x:RS} {r r2:Rt} {L:List (Nat×Nat)} {cs:Array Value} {gr gt f:Nat} (h:Fg w l KL x r r2 L cs gr gt f W) (hb:Below W.heap.size W W'):Fg w l KL x r r2 L cs gr gt f W':=
 ⟨h.hall.below hb,h.gt_,h.ne,h.dt.kept hb⟩
theorem Fg.put {w W:World} {l:List Thing} {KL:List (Nat×Obj)} {x:RS} {r r2:Rt} {L:List (Nat×Nat)} {cs:Array Value} {gr gt f:Nat} (h:Fg w l KL x r r2 L cs gr gt f W) (hw:w.heap.size≤gr) (f':Nat):Fg w l KL x r r2 L cs gr gt f' (W.setCell ⟨gr,4,none⟩ (.int .u32 (f':Int))):=
 ⟨Cnt.Hall.setCell (j:=4) (v:=.int .u32 (f':Int)) h.hall hw h.ne,h.gt_,h.ne,h.dt.over (fun b ⟨_,hb⟩=>heap_setCell_other W ⟨gr,4,none⟩ b _ (h.ne _ hb))⟩
set_option linter.unusedVariables false in
set_option linter.unusedSimpArgs false in
set_option maxHeartbeats 12800000 in
theorem begun_free {w:World} {l:List Thing} {KL:List (Nat×Obj)} {gr gt:Nat} {s:DS} {x:RS} {r r2:Rt} {L:List (Nat×Nat)} {cs:Array Value} (hL:L.length < 1000000) (hS:Sees x r s) (hgr:w.heap.size≤gr)
  {Q0:Exit→Act→World→Prop} {c1 c2 c3 c4 c5 c6 c7 c8 c10 c11 c12 c13 c14 c15 c16 c17 c19 c20 c21 c22 c23 c24 c25 c26 c27 c28 c30 c31 c32 c33 c34 c35 c36 c37 c38 c39 c40 c41 c42 c43 c44 c45 c46 c47 c48 c49 c50 c51 c52 c53 c54 c55 c56 c57 c58 c59 c60 c61 c62 c63 c64 c65 c66 c67 c68 c69 c70 c71 c72 c73 c74 c75 c76 c77 c78 c79 c80 c81 c82 c83 c84 c85 c86 c87 c88 c89 c90 c91 c92 c93 c94 c95 c96 c97 c98 c99 c100 c101 c102 c103 c104 c105 c106 c107 c108 c109 c110 c111 c112 c113 c114 c115 c116 c117 c118 c119 c120 c121 c122 c123 c124 c125 c126 c127 c128 c129 c130 c131 c132 c133 c134 c135 c136 c137 c138 c139 c140 c141 c142 c143 c144 c145 c146 c147 c148 c149 c150 c151 c152 c153 c154 c155 c156 c157 c158 c159 c160 c161 c162 c163 c164 c165 c166 c167 c168 c169 c170 c171 c172 c173 c174 c175 c176 c177 c178 c179 c180 c181 c182 c183 c184 c185 c186 c187 c188 c189 c190 c191 c192 c193 c194 c195 c196 c197 c198 c199 c200 c201 c202 c203 c204 c205 c206 c207 c208 c209 c210 c211 c212 c213 c214 c215 c216 c217 c218 c219 c220:Value} {W0:World} (h0:Fg w l KL x r r2 L cs gr gt 0 W0)
  (hexit: ∀ (u29 u30 u31 u155 u156 u157 u158 u159 u160 u161 u162 u163 u164 u165 u166 u167 u168 u169 u170 u171: Value) (W: World) ,Fg w l KL x r r2 L cs gr gt (freeTo s r L (s.n - fsN s.n)) W→Q0 (.exit 2) ⟨List.toArray (.int .u32 (s.n: Int) :: c1 :: c2 :: c3 :: c4 :: c5 :: c6 :: c7 :: c8 :: .pointer (some ⟨gr,0,none⟩) :: c10 :: c11 :: c12 :: c13 :: c14 :: c15 :: c16 :: c17 :: .pointer (some ⟨gt,0,none⟩) :: c19 :: c20 :: c21 :: c22 :: c23 :: c24 :: c25 :: c26 :: c27 :: c28 :: u29 :: u30 :: u31 :: c32 :: c33 :: c34 :: c35 :: c36 :: c37 :: c38 :: c39 :: c40 :: c41 :: c42 :: c43 :: c44 :: c45 :: c46 :: c47 :: c48 :: c49 :: c50 :: c51 :: c52 :: c53 :: c54 :: c55 :: c56 :: c57 :: c58 :: c59 :: c60 :: c61 :: c62 :: c63 :: c64 :: c65 :: c66 :: c67 :: c68 :: c69 :: c70 :: c71 :: c72 :: c73 :: c74 :: c75 :: c76 :: c77 :: c78 :: c79 :: c80 :: c81 :: c82 :: c83 :: c84 :: c85 :: c86 :: c87 :: c88 :: c89 :: c90 :: c91 :: c92 :: c93 :: c94 :: c95 :: c96 :: c97 :: c98 :: c99 :: c100 :: c101 :: c102 :: c103 :: c104 :: c105 :: c106 :: c107 :: c108 :: c109 :: c110 :: c111 :: c112 :: c113 :: c114 :: c115 :: c116 :: c117 :: c118 :: c119 :: c120 :: c121 :: c122 :: c123 :: c124 :: c125 :: c126 :: c127 :: c128 :: c129 :: c130 :: c131 :: c132 :: c133 :: c134 :: c135 :: c136 :: c137 :: c138 :: c139 :: c140 :: c141 :: c142 :: c143 :: c144 :: c145 :: c146 :: c147 :: c148 :: c149 :: c150 :: c151 :: c152 :: c153 :: c154 :: u155 :: u156 :: u157 :: u158 :: u159 :: u160 :: u161 :: u162 :: u163 :: u164 :: u165 :: u166 :: u167 :: u168 :: u169 :: u170 :: u171 :: c172 :: c173 :: c174 :: c175 :: c176 :: c177 :: c178 :: c179 :: c180 :: c181 :: c182 :: c183 :: c184 :: c185 :: c186 :: c187 :: c188 :: c189 :: c190 :: c191 :: c192 :: c193 :: c194 :: c195 :: c196 :: c197 :: c198 :: c199 :: c200 :: c201 :: c202 :: c203 :: c204 :: c205 :: c206 :: c207 :: c208 :: c209 :: c210 :: c211 :: c212 :: c213 :: c214 :: c215 :: c216 :: c217 :: c218 :: c219 :: c220 :: []),[]⟩ W) :
  Code.wp Tryz.prog (.loop bodyV2) Q0 ⟨List.toArray (.int .u32 (s.n: Int) :: c1 :: c2 :: c3 :: c4 :: c5 :: c6 :: c7 :: c8 :: .pointer (some ⟨gr,0,none⟩) :: c10 :: c11 :: c12 :: c13 :: c14 :: c15 :: c16 :: c17 :: .pointer (some ⟨gt,0,none⟩) :: c19 :: c20 :: c21 :: c22 :: c23 :: c24 :: c25 :: c26 :: c27 :: c28 :: .int .u32 (fsN s.n: Int) :: c30 :: c31 :: c32 :: c33 :: c34 :: c35 :: c36 :: c37 :: c38 :: c39 :: c40 :: c41 :: c42 :: c43 :: c44 :: c45 :: c46 :: c47 :: c48 :: c49 :: c50 :: c51 :: c52 :: c53 :: c54 :: c55 :: c56 :: c57 :: c58 :: c59 :: c60 :: c61 :: c62 :: c63 :: c64 :: c65 :: c66 :: c67 :: c68 :: c69 :: c70 :: c71 :: c72 :: c73 :: c74 :: c75 :: c76 :: c77 :: c78 :: c79 :: c80 :: c81 :: c82 :: c83 :: c84 :: c85 :: c86 :: c87 :: c88 :: c89 :: c90 :: c91 :: c92 :: c93 :: c94 :: c95 :: c96 :: c97 :: c98 :: c99 :: c100 :: c101 :: c102 :: c103 :: c104 :: c105 :: c106 :: c107 :: c108 :: c109 :: c110 :: c111 :: c112 :: c113 :: c114 :: c115 :: c116 :: c117 :: c118 :: c119 :: c120 :: c121 :: c122 :: c123 :: c124 :: c125 :: c126 :: c127 :: c128 :: c129 :: c130 :: c131 :: c132 :: c133 :: c134 :: c135 :: c136 :: c137 :: c138 :: c139 :: c140 :: c141 :: c142 :: c143 :: c144 :: c145 :: c146 :: c147 :: c148 :: c149 :: c150 :: c151 :: c152 :: c153 :: c154 :: c155 :: c156 :: c157 :: c158 :: c159 :: c160 :: c161 :: c162 :: c163 :: c164 :: c165 :: c166 :: c167 :: c168 :: c169 :: c170 :: c171 :: c172 :: c173 :: c174 :: c175 :: c176 :: c177 :: c178 :: c179 :: c180 :: c181 :: c182 :: c183 :: c184 :: c185 :: c186 :: c187 :: c188 :: c189 :: c190 :: c191 :: c192 :: c193 :: c194 :: c195 :: c196 :: c197 :: c198 :: c199 :: c200 :: c201 :: c202 :: c203 :: c204 :: c205 :: c206 :: c207 :: c208 :: c209 :: c210 :: c211 :: c212 :: c213 :: c214 :: c215 :: c216 :: c217 :: c218 :: c219 :: c220 :: []),[]⟩ W0:=by
 have HEX:=Lib.hid hexit; clear hexit
 have HM0:=Lib.hid h0; clear h0
 have HSS:=Lib.hid hS
 have hsm:=hS.small
 clear hS
 obtain ⟨fs,hfs⟩:∃ fs,fs=fsN s.n:=⟨_,rfl⟩
 have HFS:=Lib.hid hfs
 rw [←hfs] at HEX hsm ⊢
 clear hfs
 conv=>arg 2; arg 1; whnf
 go_loopw [29] (fun v29 W=>∃ k:Nat,k≤s.n - fs∧v29=.int .u32 ((fs+k:Nat):Int)∧Hid (Fg w l KL x r r2 L cs gr gt (freeTo s r L k) W)) (fun v29 _=>s.n - (intOf v29).toNat)
 case atStart=>exact ⟨0,by omega,rfl,HM0⟩
 case round=>
  clear HM0
  obtain ⟨k,hk,rfl,HM⟩:=hrel
  by_cases hlt:k < s.n - fs
  ·obtain ⟨a,ha⟩:∃ a,a=fs+k:=⟨_,rfl⟩
   rw [←ha]
   have han:a < s.n:=by omega
   have i1:(a:Int) < (s.n:Int):=by omega
   have z1:IntKind.u32.wrap ((a:Int)+1)=(a:Int)+1:=IntWalk.u32_in _ (by omega)
   have hg0:=HM.out.hall.at_ (q:=gt) (o:=.cells cs 65 (0,0)) (List.mem_cons_of_mem _ HM.out.gt_)
   have hidt:=(dt_size HM.out.dt).1
   have HG:=Lib.hid (Get9_any (a:=a) HM.out.dt HSS.out hL)
   have ec:cntE s.n a=0:=if_neg (by omega)
   rw [ec] at HG
   have hft:freeTo s r L (k+1)=freeTo s r L k+if getS s r L a=0 then 1 else 0:=by
    show freeTo s r L k+(if getS s r L (fsN s.n+k)=0 then 1 else 0)=_
    rw [←HFS.out,←ha]
   have hfl:=freeTo_le s r L k
   generalize getS s r L a=c at HG hft
   have HFT:=Lib.hid hft
   have HA:=Lib.hid ha
   clear ec hft ha
   go_wp2_with (refine wpList_load_row rfl 65 _ rfl gt rfl _ _ _ _ hg0 Tryz.underlying65 rfl hidt ?_)
   refine HG.out.mono ?_
   clear HG hg0
   rintro e W2 ⟨rfl,hx⟩
   have HM2:=Lib.hid (HM.out.below hx)
   clear hx HM
   by_cases hc:c=0
   ·have d1:((c:Int) == 0)=true:=by simp [hc]
    have hq:=HM2.out.hall.at_ (q:=gr) (o:=rootO { r2 with free:=freeTo s r L k }) List.mem_cons_self
    have c4:W2.cell? ⟨gr,4,none⟩=some (.int .u32 ((freeTo s r L k:Nat):Int)):=(cell_of_row W2 gr 4 _ _ _ hq).trans rfl
    have f4:=frozen_of_row W2 gr 4 _ _ hq
    have HF:=Lib.hid (show Fg w l KL x r r2 L cs gr gt (freeTo s r L (k+1)) (W2.setCell ⟨gr,4,none⟩ (.int .u32 (((freeTo s r L k+1:Nat)):Int))) from by
     rw [HFT.out,if_pos hc]
     exact HM2.out.put hgr _)
    generalize freeTo s r L k=f at c4 HF hfl
    have z2:IntKind.u32.wrap ((f:Int)+1)=(f:Int)+1:=IntWalk.u32_in _ (by omega)
    have z3:((f+1:Nat):Int)=(f:Int)+1:=by omega
    rw [z3] at HF
    clear hc HM2 hq z3
    go_wp2_with fail
    go_roundw
    case rel=>exact ⟨k+1,by omega,by have:=HA.out; rw [show fs+(k+1)=a+1 by omega]; go_num,HF⟩
    case measure=>simp [intOf]; omega
   ·have d1:((c:Int) == 0)=false:=by simp; omega
    have HF:=Lib.hid (show Fg w l KL x r r2 L cs gr gt (freeTo s r L (k+1)) W2 from by
     rw [HFT.out,if_neg hc,Nat.add_zero]
     exact HM2.out)
    clear hc HM2
    go_wp2_with fail
    go_roundw
    case rel=>exact ⟨k+1,by omega,by have:=HA.out; rw [show fs+(k+1)=a+1 by omega]; go_num,HF⟩
    case measure=>simp [intOf]; omega
  ·have hkn:k=s.n - fs:=by omega
   have i1:¬ ((fs+k:Nat):Int) < (s.n:Int):=by omega
   have HE:=Lib.hid (show Fg w l KL x r r2 L cs gr gt (freeTo s r L (s.n - fs)) wr from by rw [←hkn]; exact HM.out)
   generalize fs+k=a at i1
   clear hkn
   go_wp2_with fail
   exact HEX.out _ _ _ _ _ _ _ _ _ _ _ _ _ _ _ _ _ _ _ _ _ HE.out
end Go.Proofs.YtgkbfahflngklaaGreat.Spc
