import Derived.Test.YtgkbfahflngklaaGreatSpcP2
set_option maxRecDepth 100000
set_option maxHeartbeats 12800000
set_option linter.unusedSimpArgs false
set_option linter.unusedVariables false
namespace Go.Proofs.YtgkbfahflngklaaGreat
namespace Spc
open Go.RowKit RowLaw
open Dev (DS)
open Rot (fsN)
open Go.Proofs.YtgkbfahflngklaaGreat.Cnt
open Slt (Rt)
variable {A:Nat→Prop}
theorem splice_dt (n m wr wr2:Nat) (vg vw vl vg2 vw2 vl2:Value) (r r2:Rt) (had hint first:Nat) (taken gone:Int) :
  spliceA (qC n vg vw wr r vl had hint first taken gone) 0 (dtC m vg2 vw2 wr2 r2 vl2).toList=qC m vg2 vw2 wr2 r2 vl2 had hint first taken gone:=by simp [spliceA]
theorem DT.parts {W:World} {x:RS} {r:Rt} {L:List (Nat×Nat)} {vg vw vl:Value} (h:DT A W (.agg (dtC x.n vg vw x.wr r vl)) x r L):RD A W (.agg (rdC x.n vg vw x.wr)) x∧SetsV A W vl L.length L:=by
 obtain ⟨ug,uw,ul,he,h1,h2⟩:=h
 simp only [dtC,Value.agg.injEq,Array.mk.injEq,List.cons.injEq] at he
 obtain ⟨-,e1,e2,-,-,-,-,-,-,-,-,-,-,-,-,e3,-⟩:=he
 subst e1 e2 e3
 exact ⟨h1,h2⟩
theorem nz (n:Nat):n=0∨(¬ n=0∧¬ (n:Int)=0∧(0:Int) < (n:Int)∧((n:Int) == 0)=false∧decide (0 < n)=true∧zr n=0):=by
 by_cases h:n=0
 ·exact .inl h
 ·exact .inr ⟨h,by omega,by omega,by simp; omega,decide_eq_true (by omega),if_neg h⟩
theorem set10_any {w:World} {v:Value} {d:QD} {s:DS} (h:QV A w v d) (hS:Sees d.x d.r s) (hL:d.L.length < 1000000) {a m:Nat} (h1:fsN s.n≤a) (h2:a < s.n) (hm:m < 65536) (ht: -100000≤d.taken∧d.taken≤1000000) (hg: -100000≤d.gone∧d.gone≤100000) (hAA:∀ b,w.heap.size≤b→A b) :
  Calls Tryz.prog 178 #[v,.int .u32 (a:Int),.int .u16 (m:Int)] w fun e w'=>∃ v',e=.returned (.tuple #[v',.int .i64 0])∧QV A w' v' (d.put a m (getS s d.r d.L a) (oldS s d.r a))∧Below w.heap.size w w':=by
 obtain ⟨x,r,L,had,hint,first,taken,gone⟩:=d
 obtain ⟨vg,vw,vl,rfl,hrd,hsv⟩:=h
 dsimp only at hS hL ht hg hrd hsv ⊢
 have hsm:=hS.small
 have hD:DT A w (.agg (dtC x.n vg vw x.wr r vl)) x r L:=⟨⟨vg,vw,vl,rfl,hrd,hsv⟩⟩
 have ez:cntE s.n a=0:=if_neg (by omega)
 have es:setE s.n a=0:=if_pos ⟨h1,h2⟩
 have el:setL s.n L a m=L ++ [(a,m)]:=if_pos ⟨h1,h2⟩
 have HO:Hid _:=Lib.hid (fun W (hb:Below w.heap.size w W)=>Old9_any (a:=a) (hD.kept hb) hS)
 have HG:Hid _:=Lib.hid (fun W (hb:Below w.heap.size w W)=>Get9_any (a:=a) (hD.kept hb) hS hL)
 have HT:Hid _:=Lib.hid (fun W (hb:Below w.heap.size w W)=>SetTo9_any (a:=a) (m:=m) (hD.kept hb) hS hL (by omega) hm (fun b hb'=>hAA b (Nat.le_trans hb.size hb')))
 rw [ez] at HO HG
 rw [es,el] at HT
 obtain ⟨o,ho⟩:∃ o,o=oldS s r a:=⟨_,rfl⟩
 obtain ⟨c,hc⟩:∃ c,c=getS s r L a:=⟨_,rfl⟩
 rw [←ho] at HO ⊢
 rw [←hc] at HG ⊢
 have hid:=sizeDT x.n vg vw x.wr r vl
 have hzt:=(zero_of_info infoDT).1
 have hzq:=(zero_of_info infoQ).1
 have b2:Below w.heap.size w ((w.alloc (.cells (qC x.n vg vw x.wr r vl had hint first taken gone) 67)).alloc (.cells (qC 0 (.slice none 0 0) (.slice none 0 0) 0 Slt.nil (.slice none 0 0) 0 0 0 0 0) 67)):=((Below.refl _ _).alloc (Nat.le_refl _) _).alloc (by rw [World.size_alloc]; omega) _
 have q1:((w.alloc (.cells (qC x.n vg vw x.wr r vl had hint first taken gone) 67)).alloc (.cells (qC 0 (.slice none 0 0) (.slice none 0 0) 0 Slt.nil (.slice none 0 0) 0 0 0 0 0) 67)).heap[w.heap.size]? = some (.cells (qC x.n vg vw x.wr r vl had hint first taken gone) 67 (0,0)):=(Below.heap_alloc _ _ _ (by rw [World.size_alloc]; omega)).trans (heap_alloc_new w _)
 have q2:((w.alloc (.cells (qC x.n vg vw x.wr r vl had hint first taken gone) 67)).alloc (.cells (qC 0 (.slice none 0 0) (.slice none 0 0) 0 Slt.nil (.slice none 0 0) 0 0 0 0 0) 67)).heap[w.heap.size+1]? = some (.cells (qC 0 (.slice none 0 0) (.slice none 0 0) 0 Slt.nil (.slice none 0 0) 0 0 0 0 0) 67 (0,0)):=heap_alloc2_new w _ _
 have HTG:=Lib.hid (And.intro ht hg)
 clear hS hL hrd hsv hD ez es el ho hc h1 hsm ht hg hAA
 go_enter Tryz.func178,Tryz.ntmps178
 go_upto_region 1 with fail
 change Code.wp _ _ _ _ ((w.alloc (.cells (qC x.n vg vw x.wr r vl had hint first taken gone) 67)).alloc (.cells (qC 0 (.slice none 0 0) (.slice none 0 0) 0 Slt.nil (.slice none 0 0) 0 0 0 0 0) 67))
 generalize ((w.alloc (.cells (qC x.n vg vw x.wr r vl had hint first taken gone) 67)).alloc (.cells (qC 0 (.slice none 0 0) (.slice none 0 0) 0 Slt.nil (.slice none 0 0) 0 0 0 0 0) 67))=W1 at b2 q1 q2 ⊢
 obtain ⟨q,hqq⟩:∃ q,q=w.heap.size:=⟨_,rfl⟩
 rw [←hqq] at q1 q2 ⊢
 have HQ:=Lib.hid hqq
 clear hqq
 have HO1:=Lib.hid (HO.out W1 b2)
 have HR:=Lib.hid (range_dt q1)
 clear HO
 go_wp2_with (refine Dev.wpList_load_sub rfl 65 _ rfl q 0 rfl (dtC x.n vg vw x.wr r vl) _ HR.out Tryz.underlying65 rfl hid ?_)
 refine HO1.out.mono ?_
 clear HO1 HR
 rintro e W2 ⟨rfl,hx⟩
 have p1:=(hx.block q (Array.getElem?_eq_some_iff.1 q1).1).trans q1
 have p2:=(hx.block (q+1) (Array.getElem?_eq_some_iff.1 q2).1).trans q2
 have b3:=b2.trans (hx.mono b2.size)
 have HG1:=Lib.hid (HG.out W2 b3)
 have HR:=Lib.hid (range_dt p1)
 clear HG hx q1 q2 b2
 go_wp2_with (refine Dev.wpList_load_sub rfl 65 _ rfl q 0 rfl (dtC x.n vg vw x.wr r vl) _ HR.out Tryz.underlying65 rfl hid ?_)
 refine HG1.out.mono ?_
 clear HG1 HR
 rintro e W3 ⟨rfl,hx⟩
 have r1:=(hx.block q (Array.getElem?_eq_some_iff.1 p1).1).trans p1
 have r2:=(hx.block (q+1) (Array.getElem?_eq_some_iff.1 p2).1).trans p2
 have b4:=b3.trans (hx.mono b3.size)
 have HT1:=Lib.hid (HT.out W3 b4)
 have HR:=Lib.hid (range_dt r1)
 clear HT hx p1 p2 b3
 go_wp2_with (refine Dev.wpList_load_sub rfl 65 _ rfl q 0 rfl (dtC x.n vg vw x.wr r vl) _ HR.out Tryz.underlying65 rfl hid ?_)
 refine HT1.out.mono ?_
 clear HT1 HR
 rintro e W4 ⟨v',rfl,hdt,hx⟩
 have s1:=(hx.block q (Array.getElem?_eq_some_iff.1 r1).1).trans r1
 have s2:=(hx.block (q+1) (Array.getElem?_eq_some_iff.1 r2).1).trans r2
 have b5:=b4.trans (hx.mono b4.size)
 clear hx r1 r2 b4 hid
 have hdt0:=hdt
 obtain ⟨ug,uw,ul,rfl,hr',hs'⟩:=hdt
 have hid:=sizeDT x.n ug uw x.wr r ul
 have h1c:=dtC_one x.n x.wr r hr'.slices.1 hr'.slices.2 hs'.slice
 clear hr' hs'
 have hst:=heap_alloc_new W4 (.cells (dtC x.n ug uw x.wr r ul) 65)
 have hbA:Below W4.heap.size W4 (W4.alloc (.cells (dtC x.n ug uw x.wr r ul) 65)):=(Below.refl _ _).alloc (Nat.le_refl _) _
 have t1:=(hbA.block q (Array.getElem?_eq_some_iff.1 s1).1).trans s1
 have t2:=(hbA.block (q+1) (Array.getElem?_eq_some_iff.1 s2).1).trans s2
 have b6:=b5.trans (hbA.mono b5.size)
 have HD5:=Lib.hid (hdt0.kept hbA)
 have hqlt:q < W4.heap.size:=(Array.getElem?_eq_some_iff.1 s1).1
 clear hbA s1 s2 b5 hdt0
 have tok:True:=trivial
 go_upto_region 6 with (have _t:=tok; refine wpList_store_new rfl 65 _ _ rfl (dtC x.n ug uw x.wr r ul) _ _ rfl rfl hid rfl h1c ?_; clear _t tok)
 generalize W4.alloc (.cells (dtC x.n ug uw x.wr r ul) 65)=W5 at hst t1 t2 b6 HD5 ⊢
 generalize W4.heap.size=g at hst hqlt ⊢
 have HTH:Hid (W5.there q 0 (dtC x.n ug uw x.wr r ul).size):=Lib.hid (there_block t1 0 16 (by simp))
 obtain ⟨i1,i2,i3,i4,i5,i6⟩:=setCells_block q 67 (dtC x.n ug uw x.wr r ul).toList _ 0 W5 t1
 rw [splice_dt] at i1
 have HI:Hid (∀ W6,W6=W5.setCells q 0 (dtC x.n ug uw x.wr r ul).toList→W6.heap[q]? = some (.cells (qC x.n ug uw x.wr r ul had hint first taken gone) 67 (0,0))∧W6.heap[q+1]? = some (.cells (qC 0 (.slice none 0 0) (.slice none 0 0) 0 Slt.nil (.slice none 0 0) 0 0 0 0 0) 67 (0,0))∧Below w.heap.size w W6∧DT A W6 (.agg (dtC x.n ug uw x.wr r ul)) x r (L ++ [(a,m)])):=Lib.hid (fun W6 h=>by
  rw [h]
  exact ⟨i1,(i2 (q+1) (by omega)).trans t2,b6.trans ⟨i3,i4,i5,by omega,fun k hk=>i2 k (by have:=HQ.out; omega)⟩,HD5.out.other t1 (by decide) (by decide) i2⟩)
 clear i1 i2 i3 i4 i5 i6 t1 t2 b6 HD5
 obtain ⟨cT,hcT⟩:∃ cT,cT=dtC x.n ug uw x.wr r ul:=⟨_,rfl⟩
 have HC6:Hid (∀ W6,W6=W5.setCells q 0 cT.toList→W6=W5.setCells q 0 (dtC x.n ug uw x.wr r ul).toList):=Lib.hid (fun W6 h=>by rw [h,hcT])
 rw [←hcT] at hid h1c hst HTH
 clear hcT
 go_upto_region 9 with (first | (refine wpList_load_row rfl 65 _ rfl g rfl _ _ _ _ hst Tryz.underlying65 rfl hid ?_) | (refine wpList_store_mid rfl 65 _ _ rfl q 0 cT rfl rfl HTH.out hid h1c ?_))
 obtain ⟨W6,hW6⟩:∃ W6,W6=W5.setCells q 0 cT.toList:=⟨_,rfl⟩
 rw [←hW6]
 obtain ⟨u1,u2,b7,hd6⟩:=HI.out W6 (HC6.out W6 hW6)
 clear hW6 HC6 hst HTH h1c hid
 have hsl:=hd6.parts
 have HD6:=Lib.hid hd6
 clear HI hd6
 have h1q:=fun T G=>qC_one x.n x.wr r had hint first T G hsl.1.slices.1 hsl.1.slices.2 hsl.2.slice
 have H1Q:=Lib.hid h1q
 clear hsl h1q
 have HPQ:=Lib.hid (fun (T' G':Int) (h1:taken - (if o=0 then zr m - zr c else 0)=T') (h2:gone+(if o=0 then 0 else zr m - zr c)=G')=>(show QD.put ⟨x,r,L,had,hint,first,taken,gone⟩ a m c o=⟨x,r,L ++ [(a,m)],had,hint,first,T',G'⟩ by rw [←h1,←h2]; rfl))
 rcases nz o with rfl | ⟨o0,o1,o2,o3,o4,o5⟩ <;> rcases nz c with rfl | ⟨c0,c1,c2,c3,c4,c5⟩ <;> rcases nz m with rfl | ⟨m0,m1,m2,m3,m4,m5⟩
 case' inl.inl.inl=>
  obtain ⟨T',hT⟩:∃ t:Int,t=taken:=⟨_,rfl⟩
  obtain ⟨G',hG⟩:∃ t:Int,t=gone:=⟨_,rfl⟩
  have HT:=Lib.hid hT; have HG:=Lib.hid hG
  clear hT hG
  have HP:=Lib.hid (HPQ.out T' G' (by rw [HT.out,if_pos rfl,show zr 0=1 from rfl]; omega) (by rw [HG.out,if_pos rfl]; omega))
  go_upto_region 17 with fail
  have HK:=Lib.hid (And.intro (show W6.heap[q]? = some (.cells (qC x.n ug uw x.wr r ul had hint first T' G') 67 (0,0)) from by rw [HT.out,HG.out]; exact u1) (And.intro u2 (And.intro b7 HD6.out)))
  clear u1 u2 b7
 case' inl.inl.inr=>
  obtain ⟨T',hT⟩:∃ t:Int,t=taken+1:=⟨_,rfl⟩
  obtain ⟨G',hG⟩:∃ t:Int,t=gone:=⟨_,rfl⟩
  have HT:=Lib.hid hT; have HG:=Lib.hid hG
  clear hT hG
  have HP:=Lib.hid (HPQ.out T' G' (by rw [HT.out,if_pos rfl,m5,show zr 0=1 from rfl]; omega) (by rw [HG.out,if_pos rfl]; omega))
  clear m5 m0
  have yj:W6.cell? ⟨q,19,none⟩=some (.int .i64 taken):=(cell_of_row W6 q 19 _ _ _ u1).trans rfl
  have zz:IntKind.i64.wrap (taken+1)=taken+1:=IntWalk.i64_in _ (by have:=HTG.out; omega)
  have fz:=frozen_of_row W6 q 19 _ _ u1
  go_upto_region 17 with fail
  have hoth:∀ k,k≠q→(W6.setCell ⟨q,19,none⟩ (.int .i64 (taken+1))).heap[k]? = W6.heap[k]?:=fun k hk=>heap_setCell_other W6 ⟨q,19,none⟩ k _ hk
  have HK:=Lib.hid (And.intro (show (W6.setCell ⟨q,19,none⟩ (.int .i64 (taken+1))).heap[q]? = some (.cells (qC x.n ug uw x.wr r ul had hint first T' G') 67 (0,0)) from by rw [HT.out,HG.out]; exact heap_setCell_same W6 q 19 _ _ (.int .i64 (taken+1)) u1) (And.intro ((hoth (q+1) (by omega)).trans u2) (And.intro (b7.trans (show Below w.heap.size W6 (W6.setCell ⟨q,19,none⟩ (.int .i64 (taken+1))) from ⟨rfl,rfl,rfl,by simp,fun k hk=>hoth k (by have:=HQ.out; omega)⟩)) (HD6.out.other u1 (by decide) (by decide) hoth))))
  clear hoth u1 u2 b7 HD6 yj zz fz
  generalize W6.setCell ⟨q,19,none⟩ (.int .i64 (taken+1))=W7 at HK ⊢
 case' inl.inr.inl=>
  obtain ⟨T',hT⟩:∃ t:Int,t=taken - 1:=⟨_,rfl⟩
  obtain ⟨G',hG⟩:∃ t:Int,t=gone:=⟨_,rfl⟩
  have HT:=Lib.hid hT; have HG:=Lib.hid hG
  clear hT hG
  have HP:=Lib.hid (HPQ.out T' G' (by rw [HT.out,if_pos rfl,c5,show zr 0=1 from rfl]; omega) (by rw [HG.out,if_pos rfl]; omega))
  clear c5 c0
  have yj:W6.cell? ⟨q,19,none⟩=some (.int .i64 taken):=(cell_of_row W6 q 19 _ _ _ u1).trans rfl
  have zz:IntKind.i64.wrap (taken - 1)=taken - 1:=IntWalk.i64_in _ (by have:=HTG.out; omega)
  have fz:=frozen_of_row W6 q 19 _ _ u1
  go_upto_region 17 with fail
  have hoth:∀ k,k≠q→(W6.setCell ⟨q,19,none⟩ (.int .i64 (taken - 1))).heap[k]? = W6.heap[k]?:=fun k hk=>heap_setCell_other W6 ⟨q,19,none⟩ k _ hk
  have HK:=Lib.hid (And.intro (show (W6.setCell ⟨q,19,none⟩ (.int .i64 (taken - 1))).heap[q]? = some (.cells (qC x.n ug uw x.wr r ul had hint first T' G') 67 (0,0)) from by rw [HT.out,HG.out]; exact heap_setCell_same W6 q 19 _ _ (.int .i64 (taken - 1)) u1) (And.intro ((hoth (q+1) (by omega)).trans u2) (And.intro (b7.trans (show Below w.heap.size W6 (W6.setCell ⟨q,19,none⟩ (.int .i64 (taken - 1))) from ⟨rfl,rfl,rfl,by simp,fun k hk=>hoth k (by have:=HQ.out; omega)⟩)) (HD6.out.other u1 (by decide) (by decide) hoth))))
  clear hoth u1 u2 b7 HD6 yj zz fz
  generalize W6.setCell ⟨q,19,none⟩ (.int .i64 (taken - 1))=W7 at HK ⊢
 case' inl.inr.inr=>
  obtain ⟨T',hT⟩:∃ t:Int,t=taken:=⟨_,rfl⟩
  obtain ⟨G',hG⟩:∃ t:Int,t=gone:=⟨_,rfl⟩
  have HT:=Lib.hid hT; have HG:=Lib.hid hG
  clear hT hG
  have HP:=Lib.hid (HPQ.out T' G' (by rw [HT.out,if_pos rfl,m5,c5]; omega) (by rw [HG.out,if_pos rfl]; omega))
  clear c5 c0 m5 m0
  go_upto_region 17 with fail
  have HK:=Lib.hid (And.intro (show W6.heap[q]? = some (.cells (qC x.n ug uw x.wr r ul had hint first T' G') 67 (0,0)) from by rw [HT.out,HG.out]; exact u1) (And.intro u2 (And.intro b7 HD6.out)))
  clear u1 u2 b7
 case' inr.inl.inl=>
  obtain ⟨T',hT⟩:∃ t:Int,t=taken:=⟨_,rfl⟩
  obtain ⟨G',hG⟩:∃ t:Int,t=gone:=⟨_,rfl⟩
  have HT:=Lib.hid hT; have HG:=Lib.hid hG
  clear hT hG
  have HP:=Lib.hid (HPQ.out T' G' (by rw [HT.out,if_neg o0]; omega) (by rw [HG.out,if_neg o0,show zr 0=1 from rfl]; omega))
  clear o5 o0
  go_upto_region 17 with fail
  have HK:=Lib.hid (And.intro (show W6.heap[q]? = some (.cells (qC x.n ug uw x.wr r ul had hint first T' G') 67 (0,0)) from by rw [HT.out,HG.out]; exact u1) (And.intro u2 (And.intro b7 HD6.out)))
  clear u1 u2 b7
 case' inr.inl.inr=>
  obtain ⟨T',hT⟩:∃ t:Int,t=taken:=⟨_,rfl⟩
  obtain ⟨G',hG⟩:∃ t:Int,t=gone - 1:=⟨_,rfl⟩
  have HT:=Lib.hid hT; have HG:=Lib.hid hG
  clear hT hG
  have HP:=Lib.hid (HPQ.out T' G' (by rw [HT.out,if_neg o0]; omega) (by rw [HG.out,if_neg o0,m5,show zr 0=1 from rfl]; omega))
  clear o5 o0 m5 m0
  have yj:W6.cell? ⟨q,20,none⟩=some (.int .i64 gone):=(cell_of_row W6 q 20 _ _ _ u1).trans rfl
  have zz:IntKind.i64.wrap (gone - 1)=gone - 1:=IntWalk.i64_in _ (by have:=HTG.out; omega)
  have fz:=frozen_of_row W6 q 20 _ _ u1
  go_upto_region 17 with fail
  have hoth:∀ k,k≠q→(W6.setCell ⟨q,20,none⟩ (.int .i64 (gone - 1))).heap[k]? = W6.heap[k]?:=fun k hk=>heap_setCell_other W6 ⟨q,20,none⟩ k _ hk
  have HK:=Lib.hid (And.intro (show (W6.setCell ⟨q,20,none⟩ (.int .i64 (gone - 1))).heap[q]? = some (.cells (qC x.n ug uw x.wr r ul had hint first T' G') 67 (0,0)) from by rw [HT.out,HG.out]; exact heap_setCell_same W6 q 20 _ _ (.int .i64 (gone - 1)) u1) (And.intro ((hoth (q+1) (by omega)).trans u2) (And.intro (b7.trans (show Below w.heap.size W6 (W6.setCell ⟨q,20,none⟩ (.int .i64 (gone - 1))) from ⟨rfl,rfl,rfl,by simp,fun k hk=>hoth k (by have:=HQ.out; omega)⟩)) (HD6.out.other u1 (by decide) (by decide) hoth))))
  clear hoth u1 u2 b7 HD6 yj zz fz
  generalize W6.setCell ⟨q,20,none⟩ (.int .i64 (gone - 1))=W7 at HK ⊢
 case' inr.inr.inl=>
  obtain ⟨T',hT⟩:∃ t:Int,t=taken:=⟨_,rfl⟩
  obtain ⟨G',hG⟩:∃ t:Int,t=gone+1:=⟨_,rfl⟩
  have HT:=Lib.hid hT; have HG:=Lib.hid hG
  clear hT hG
  have HP:=Lib.hid (HPQ.out T' G' (by rw [HT.out,if_neg o0]; omega) (by rw [HG.out,if_neg o0,c5,show zr 0=1 from rfl]; omega))
  clear o5 o0 c5 c0
  have yj:W6.cell? ⟨q,20,none⟩=some (.int .i64 gone):=(cell_of_row W6 q 20 _ _ _ u1).trans rfl
  have zz:IntKind.i64.wrap (gone+1)=gone+1:=IntWalk.i64_in _ (by have:=HTG.out; omega)
  have fz:=frozen_of_row W6 q 20 _ _ u1
  go_upto_region 17 with fail
  have hoth:∀ k,k≠q→(W6.setCell ⟨q,20,none⟩ (.int .i64 (gone+1))).heap[k]? = W6.heap[k]?:=fun k hk=>heap_setCell_other W6 ⟨q,20,none⟩ k _ hk
  have HK:=Lib.hid (And.intro (show (W6.setCell ⟨q,20,none⟩ (.int .i64 (gone+1))).heap[q]? = some (.cells (qC x.n ug uw x.wr r ul had hint first T' G') 67 (0,0)) from by rw [HT.out,HG.out]; exact heap_setCell_same W6 q 20 _ _ (.int .i64 (gone+1)) u1) (And.intro ((hoth (q+1) (by omega)).trans u2) (And.intro (b7.trans (show Below w.heap.size W6 (W6.setCell ⟨q,20,none⟩ (.int .i64 (gone+1))) from ⟨rfl,rfl,rfl,by simp,fun k hk=>hoth k (by have:=HQ.out; omega)⟩)) (HD6.out.other u1 (by decide) (by decide) hoth))))
  clear hoth u1 u2 b7 HD6 yj zz fz
  generalize W6.setCell ⟨q,20,none⟩ (.int .i64 (gone+1))=W7 at HK ⊢
 case' inr.inr.inr=>
  obtain ⟨T',hT⟩:∃ t:Int,t=taken:=⟨_,rfl⟩
  obtain ⟨G',hG⟩:∃ t:Int,t=gone:=⟨_,rfl⟩
  have HT:=Lib.hid hT; have HG:=Lib.hid hG
  clear hT hG
  have HP:=Lib.hid (HPQ.out T' G' (by rw [HT.out,if_neg o0]; omega) (by rw [HG.out,if_neg o0,m5,c5]; omega))
  clear o5 o0 c5 c0 m5 m0
  go_upto_region 17 with fail
  have HK:=Lib.hid (And.intro (show W6.heap[q]? = some (.cells (qC x.n ug uw x.wr r ul had hint first T' G') 67 (0,0)) from by rw [HT.out,HG.out]; exact u1) (And.intro u2 (And.intro b7 HD6.out)))
  clear u1 u2 b7
 all_goals
  obtain ⟨k1,k2,b8,hd7⟩:=HK.out
  have hiq:=sizeQ x.n ug uw x.wr r ul had hint first T' G'
  have h1q:=H1Q.out T' G'
  have HEND:=Lib.hid (hd7.other (W':=World.setRow _ (q+1) (qC x.n ug uw x.wr r ul had hint first T' G')) k2 (by decide) (by decide) (fun k hk=>setRow_other _ _ _ _ hk)).parts
  clear hd7
  go_wp2_with (first | (refine wpList_load_row rfl 67 _ rfl q rfl _ _ _ _ k1 Tryz.underlying67 rfl hiq ?_) | (refine wpList_store_row rfl 67 _ _ rfl (q+1) _ rfl rfl _ _ k2 hiq rfl h1q ?_))
  refine bodyPost_ret (results_row_tmp rfl _ _ _ _ _ _ _ rfl (setRow_heap _ _ _ _ _ _ k2) Tryz.underlying67 rfl hiq) rfl ⟨_,rfl,?_,Dev.below_row b8 (by have:=HQ.out; omega)⟩
  rw [HP.out]
  exact ⟨⟨_,_,_,rfl,HEND.out.1,HEND.out.2⟩⟩
end Spc

end Go.Proofs.YtgkbfahflngklaaGreat
