import Derived.Test.YtgkbfahflngklaaGreatSpcP4
set_option maxRecDepth 100000
set_option maxHeartbeats 12800000
set_option linter.unusedSimpArgs false
set_option linter.unusedVariables false
namespace Go.Proofs.YtgkbfahflngklaaGreat
namespace Spc
open Go.RowKit RowLaw
open Dev (DS)
open Rot (fsN)
open Go.Proofs.YtgkbfahflngklaaGreat.Cnt
open Slt (Rt)
variable {A:Nat→Prop}
theorem Take10_any {w:World} {v:Value} {d:QD} {s:DS} {S:SS} (h:QV A w v d) (y:Sync s S d) (hL:d.L.length < 1000000) (sp:Bool) (hAA:∀ b,w.heap.size≤b→A b) :
  Calls Tryz.prog 102 #[v,.bool sp] w fun e w'=>∃ v',e=.returned (.tuple #[v',.int .u32 (((takeR S sp).getD 0:Nat):Int),.int .i64 (if (takeR S sp).isSome then 0 else 100)])∧QV A w' v' (d.takes s.n (takeR S sp))∧Below w.heap.size w w':=by
 have HR:=Lib.hid (fun W (hb:Below w.heap.size w W)=>Room10_any (h.kept hb) y.had y.bounds.1 sp)
 rw [←y.r] at HR
 by_cases h0:roomV S.r sp=0
 ·rw [take_none h0]
  rw [h0] at HR
  show Calls _ _ _ _ fun e w'=>∃ v',e=.returned (.tuple #[v',.int .u32 0,.int .i64 100])∧QV A w' v' d∧Below w.heap.size w w'
  clear h0 y hAA
  obtain ⟨x,r,L,had,hint,first,taken,gone⟩:=d
  obtain ⟨vg,vw,vl,rfl,hrd,hsv⟩:=h
  dsimp only at hL ⊢
  have hQ:QT A w (.agg (qC x.n vg vw x.wr r vl had hint first taken gone)) x r L had hint first taken gone:=⟨⟨vg,vw,vl,rfl,hrd,hsv⟩⟩
  have hiq:=sizeQ x.n vg vw x.wr r vl had hint first taken gone
  have hzq:=(zero_of_info infoQ).1
  have h1q:=qC_one x.n x.wr r had hint first taken gone hrd.slices.1 hrd.slices.2 hsv.slice
  have b2:Below w.heap.size w ((w.alloc (.cells (qC x.n vg vw x.wr r vl had hint first taken gone) 67)).alloc (.cells (qC 0 (.slice none 0 0) (.slice none 0 0) 0 Slt.nil (.slice none 0 0) 0 0 0 0 0) 67)):=((Below.refl _ _).alloc (Nat.le_refl _) _).alloc (by rw [World.size_alloc]; omega) _
  have q1:((w.alloc (.cells (qC x.n vg vw x.wr r vl had hint first taken gone) 67)).alloc (.cells (qC 0 (.slice none 0 0) (.slice none 0 0) 0 Slt.nil (.slice none 0 0) 0 0 0 0 0) 67)).heap[w.heap.size]? = some (.cells (qC x.n vg vw x.wr r vl had hint first taken gone) 67 (0,0)):=(Below.heap_alloc _ _ _ (by rw [World.size_alloc]; omega)).trans (heap_alloc_new w _)
  have q2:((w.alloc (.cells (qC x.n vg vw x.wr r vl had hint first taken gone) 67)).alloc (.cells (qC 0 (.slice none 0 0) (.slice none 0 0) 0 Slt.nil (.slice none 0 0) 0 0 0 0 0) 67)).heap[w.heap.size+1]? = some (.cells (qC 0 (.slice none 0 0) (.slice none 0 0) 0 Slt.nil (.slice none 0 0) 0 0 0 0 0) 67 (0,0)):=heap_alloc2_new w _ _
  have HQT:=Lib.hid (fun W (hb:Below w.heap.size w W)=>hQ.kept hb)
  clear hQ hrd hsv
  go_enter Tryz.func102,Tryz.ntmps102
  go_upto_region 1 with fail
  change Code.wp _ _ _ _ ((w.alloc (.cells (qC x.n vg vw x.wr r vl had hint first taken gone) 67)).alloc (.cells (qC 0 (.slice none 0 0) (.slice none 0 0) 0 Slt.nil (.slice none 0 0) 0 0 0 0 0) 67))
  generalize ((w.alloc (.cells (qC x.n vg vw x.wr r vl had hint first taken gone) 67)).alloc (.cells (qC 0 (.slice none 0 0) (.slice none 0 0) 0 Slt.nil (.slice none 0 0) 0 0 0 0 0) 67))=W1 at b2 q1 q2 ⊢
  obtain ⟨q,hqq⟩:∃ q,q=w.heap.size:=⟨_,rfl⟩
  rw [←hqq] at q1 q2 ⊢
  have HQ:=Lib.hid hqq
  clear hqq
  have HR1:=Lib.hid (HR.out W1 b2)
  clear HR
  go_wp2_with (refine wpList_load_row rfl 67 _ rfl q rfl _ _ _ _ q1 Tryz.underlying67 rfl hiq ?_)
  refine HR1.out.mono ?_
  clear HR1
  rintro e W2 ⟨rfl,hx⟩
  have q1':=(hx.block q (Array.getElem?_eq_some_iff.1 q1).1).trans q1
  have q2':=(hx.block (q+1) (Array.getElem?_eq_some_iff.1 q2).1).trans q2
  have b2':=b2.trans (hx.mono b2.size)
  clear hx q1 q2 b2
  have q1:=q1'; have q2:=q2'; have b2:=b2'
  clear q1' q2' b2'
  have HEND:=Lib.hid ((HQT.out _ b2).other (W':=W2.setRow (q+1) (qC x.n vg vw x.wr r vl had hint first taken gone)) q2 (by decide) (by decide) (fun k hk=>setRow_other _ _ _ _ hk))
  go_wp2_with (first | (refine wpList_load_row rfl 67 _ rfl q rfl _ _ _ _ q1 Tryz.underlying67 rfl hiq ?_) | (refine wpList_store_row rfl 67 _ _ rfl (q+1) _ rfl rfl _ _ q2 hiq rfl h1q ?_))
  exact bodyPost_ret (results_row_tmp2 rfl _ _ _ _ _ _ _ rfl (setRow_heap _ _ _ _ _ _ q2) Tryz.underlying67 rfl hiq) rfl ⟨_,rfl,HEND.out,Dev.below_row b2 (by have:=HQ.out; omega)⟩
 ·obtain ⟨b,hb⟩:=y.inv.found h0
  rw [hb]
  have hsc:scan S.T (s.n - fsN s.n) S.h=some b:=by
   unfold takeR at hb
   rw [if_neg h0,y.n] at hb
   exact hb
  have hi:=y.inv.in_
  have hh1:=y.inv.h1; have hh2:=y.inv.h2
  rw [y.n] at hi hh1 hh2
  have hh:=y.h
  show Calls _ _ _ _ fun e w'=>∃ v',e=.returned (.tuple #[v',.int .u32 (b:Int),.int .i64 0])∧QV A w' v' (d.take s.n b)∧Below w.heap.size w w'
  have HO:=Lib.hid (fun a W (hb:Below w.heap.size w W) v (hd:DT A W v d.x d.r d.L)=>Old9_any (a:=a) hd y.sees)
  have HG:=Lib.hid (fun a W (hb:Below w.heap.size w W) v (hd:DT A W v d.x d.r d.L)=>Get9_any (a:=a) hd y.sees hL)
  have HS:=Lib.hid (fun a W (hb:Below w.heap.size w W) (hin:fsN s.n≤a∧a < s.n)=>y.set_ (a:=a) (m:=1) (h.kept hb) hL hin.1 hin.2 (by omega) (fun b hb'=>hAA b (Nat.le_trans hb.size hb')))
  have HOLD:=Lib.hid y.old
  have HNOW:=Lib.hid y.now
  have hfirst:=y.first
  have hsz:=y.sees.size
  have hsm:=y.sees.small
  have hyn:=y.n
  have HRM:=Lib.hid h0
  obtain ⟨m,hm⟩:∃ m,m=roomV S.r sp:=⟨_,rfl⟩
  rw [←hm] at HR
  have hm0:¬ (m:Int)=0:=by rw [hm]; omega
  have hm1:((m:Int) == 0)=false:=by simp; rw [hm]; omega
  clear h0 hb hm y hAA HRM
  obtain ⟨x,r,L,had,hint,first,taken,gone⟩:=d
  obtain ⟨vg,vw,vl,rfl,hrd,hsv⟩:=h
  dsimp only at hL HO HG HS HOLD HNOW hfirst hsz hh ⊢
  subst hfirst
  subst hh
  have hQ:QT A w (.agg (qC x.n vg vw x.wr r vl had S.h (fsN s.n) taken gone)) x r L had S.h (fsN s.n) taken gone:=⟨⟨vg,vw,vl,rfl,hrd,hsv⟩⟩
  have hiq:=sizeQ x.n vg vw x.wr r vl had S.h (fsN s.n) taken gone
  have hzq:=(zero_of_info infoQ).1
  have h1q:=qC_one x.n x.wr r had S.h (fsN s.n) taken gone hrd.slices.1 hrd.slices.2 hsv.slice
  have b2:Below w.heap.size w ((w.alloc (.cells (qC x.n vg vw x.wr r vl had S.h (fsN s.n) taken gone) 67)).alloc (.cells (qC 0 (.slice none 0 0) (.slice none 0 0) 0 Slt.nil (.slice none 0 0) 0 0 0 0 0) 67)):=((Below.refl _ _).alloc (Nat.le_refl _) _).alloc (by rw [World.size_alloc]; omega) _
  have q1:((w.alloc (.cells (qC x.n vg vw x.wr r vl had S.h (fsN s.n) taken gone) 67)).alloc (.cells (qC 0 (.slice none 0 0) (.slice none 0 0) 0 Slt.nil (.slice none 0 0) 0 0 0 0 0) 67)).heap[w.heap.size]? = some (.cells (qC x.n vg vw x.wr r vl had S.h (fsN s.n) taken gone) 67 (0,0)):=(Below.heap_alloc _ _ _ (by rw [World.size_alloc]; omega)).trans (heap_alloc_new w _)
  have q2:((w.alloc (.cells (qC x.n vg vw x.wr r vl had S.h (fsN s.n) taken gone) 67)).alloc (.cells (qC 0 (.slice none 0 0) (.slice none 0 0) 0 Slt.nil (.slice none 0 0) 0 0 0 0 0) 67)).heap[w.heap.size+1]? = some (.cells (qC 0 (.slice none 0 0) (.slice none 0 0) 0 Slt.nil (.slice none 0 0) 0 0 0 0 0) 67 (0,0)):=heap_alloc2_new w _ _
  have HQT:=Lib.hid (fun W (hb:Below w.heap.size w W)=>hQ.kept hb)
  clear hQ hrd hsv
  have HSZ:=Lib.hid hsz
  have HSC:=Lib.hid hsc
  have HYN:=Lib.hid hyn
  have HNS:=Lib.hid (And.intro hi (And.intro hh1 (And.intro hh2 hsm.2.1)))
  have hid:=sizeDT x.n vg vw x.wr r vl
  have HC8:Hid (∀ (W:World) q,W.heap[q]? = some (.cells (qC x.n vg vw x.wr r vl had S.h (fsN s.n) taken gone) 67 (0,0))→W.cell? ⟨q,8,none⟩=some (.int .u32 (s.n:Int))):=Lib.hid (fun W q h=>(cell_of_row W q 8 _ _ _ h).trans (by rw [←hsz]; rfl))
  clear hsz hsc hyn hsm hL
  obtain ⟨n,hnn⟩:∃ n,n=s.n:=⟨_,rfl⟩
  obtain ⟨fs,hfs⟩:∃ z,z=fsN s.n:=⟨_,rfl⟩
  obtain ⟨hq0,hhq⟩:∃ z,z=S.h:=⟨_,rfl⟩
  have HNN:=Lib.hid hnn
  have HFS:=Lib.hid hfs
  have HH0:=Lib.hid hhq
  rw [←hfs] at hi hh1 HQT hiq h1q b2 q1 q2 HC8 HR HS
  rw [←hnn] at hi hh2 HC8 HS
  rw [←hhq] at hh1 hh2 HQT hiq h1q b2 q1 q2 HC8 HR HS
  rw [←hfs,←hnn,←hhq]
  clear hfs hnn hhq
  go_enter Tryz.func102,Tryz.ntmps102
  go_upto_region 1 with fail
  change Code.wp _ _ _ _ ((w.alloc (.cells (qC x.n vg vw x.wr r vl had hq0 fs taken gone) 67)).alloc (.cells (qC 0 (.slice none 0 0) (.slice none 0 0) 0 Slt.nil (.slice none 0 0) 0 0 0 0 0) 67))
  generalize ((w.alloc (.cells (qC x.n vg vw x.wr r vl had hq0 fs taken gone) 67)).alloc (.cells (qC 0 (.slice none 0 0) (.slice none 0 0) 0 Slt.nil (.slice none 0 0) 0 0 0 0 0) 67))=W1 at b2 q1 q2 ⊢
  obtain ⟨q,hqq⟩:∃ q,q=w.heap.size:=⟨_,rfl⟩
  rw [←hqq] at q1 q2 ⊢
  have HQ:=Lib.hid hqq
  clear hqq
  have HR1:=Lib.hid (HR.out W1 b2)
  clear HR
  go_wp2_with (refine wpList_load_row rfl 67 _ rfl q rfl _ _ _ _ q1 Tryz.underlying67 rfl hiq ?_)
  refine HR1.out.mono ?_
  clear HR1
  rintro e W2 ⟨rfl,hx⟩
  have q1':=(hx.block q (Array.getElem?_eq_some_iff.1 q1).1).trans q1
  have q2':=(hx.block (q+1) (Array.getElem?_eq_some_iff.1 q2).1).trans q2
  have b2':=b2.trans (hx.mono b2.size)
  clear hx q1 q2 b2
  have q1:=q1'; have q2:=q2'; have b2:=b2'
  clear q1' q2' b2'
  have HQF:=Lib.hid (And.intro q1 (And.intro q2 b2))
  have c8:=HC8.out W2 q q1
  have c17:W2.cell? ⟨q,17,none⟩=some (.int .u32 (hq0:Int)):=(cell_of_row W2 q 17 _ _ _ q1).trans rfl
  clear q1 q2 b2
  obtain ⟨N,hN⟩:∃ N,N=n - fs:=⟨_,rfl⟩
  have HN:=Lib.hid hN
  have hNi:(n:Int) - (fs:Int)=(N:Int):=by omega
  have zN:IntKind.u32.wrap ((n:Int) - (fs:Int))=(N:Int):=by rw [hNi]; exact IntWalk.u32_in _ (by have:=HNS.out; have:=HNN.out; omega)
  have HNI:=Lib.hid hNi
  clear hN hNi
  go_wp2_with fail
  clear c8 c17 hm0 hm1
  go_loopw [8,9] (fun v8 v9 W=>∃ k j:Nat,k≤N∧j=atN fs N hq0 k∧scan S.T (N - k) j=some b∧v8=.int .u32 (j:Int)∧v9=.int .u32 (k:Int)∧Hid (W.heap[q]? = some (.cells (qC x.n vg vw x.wr r vl had hq0 fs taken gone) 67 (0,0))∧W.heap[q+1]? = some (.cells (qC 0 (.slice none 0 0) (.slice none 0 0) 0 Slt.nil (.slice none 0 0) 0 0 0 0 0) 67 (0,0))∧Below w.heap.size w W)) (fun _ v9 _=>N - (intOf v9).toNat)
  case atStart=>exact ⟨0,hq0,by omega,(at_zero hh1 (by have:=HN.out; omega)).symm,by have h:=HSC.out; rw [←HFS.out,←HNN.out,←HH0.out] at h; rw [Nat.sub_zero,HN.out]; exact h,rfl,rfl,HQF⟩
  case round=>
   clear HQF
   obtain ⟨k,j,hk,hj,hs,rfl,rfl,HF⟩:=hrel
   have hkN:k < N:=by
    rcases Nat.lt_or_eq_of_le hk with h | h
    ·exact h
    ·rw [h,Nat.sub_self] at hs
     cases hs
   have hj1:fs≤j∧j < n:=by
    have:=at_lt (fs:=fs) (N:=N) (h:=hq0) (j:=k) (by omega)
    have:=HN.out
    omega
   have hnx:nxt n j=atN fs N hq0 (k+1):=by
    have h:=at_nxt (n:=n) (h:=hq0) (j:=k) (by rw [HNN.out,←HFS.out,←HNN.out]; omega)
    have e:fsN n=fs:=by rw [HNN.out,←HFS.out]
    rw [e,←HN.out,←hj] at h
    exact h
   have hsc2:scan S.T (N - k) j=if avB S.T j=true then some j else scan S.T (N - (k+1)) (nxt n j):=by
    rw [show N - k=(N - (k+1))+1 by omega,scan,HYN.out,←HNN.out]
   have hso:oldS s r j=S.T.oldC j:=HOLD.out j
   have hsn:getS s r L j=S.T.nowC j:=HNOW.out j (by rw [←HFS.out]; exact hj1.1) (by rw [←HNN.out]; exact hj1.2)
   have hce:cntE s.n j=0:=if_neg (by rw [←HNN.out]; omega)
   have havb:avB S.T j=decide (S.T.oldC j=0∧S.T.nowC j=0):=rfl
   obtain ⟨q1,q2,b2⟩:=HF.out
   have HD:=Lib.hid (fun W (hb:Below w.heap.size w W)=>(show DT A W (.agg (dtC x.n vg vw x.wr r vl)) x r L from by
    obtain ⟨ug,uw,ul,e,h1,h2⟩:=HQT.out W hb
    simp only [qC,Value.agg.injEq,Array.mk.injEq,List.cons.injEq] at e
    obtain ⟨-,e1,e2,-,-,-,-,-,-,-,-,-,-,-,-,e3,-⟩:=e
    subst e1 e2 e3
    exact ⟨⟨vg,vw,vl,rfl,h1,h2⟩⟩))
   have HO1:=Lib.hid (HO.out j wr b2 _ (HD.out wr b2))
   have HG1:=Lib.hid (fun W hb=>HG.out j W hb _ (HD.out W hb))
   rw [hso,hce] at HO1
   rw [hsn,hce] at HG1
   have HS1:=Lib.hid (fun W hb=>HS.out j W hb hj1)
   obtain ⟨o,ho⟩:∃ o,o=S.T.oldC j:=⟨_,rfl⟩
   obtain ⟨c,hc⟩:∃ c,c=S.T.nowC j:=⟨_,rfl⟩
   rw [←ho,←hc] at havb HS1
   rw [←ho] at HO1
   rw [←hc] at HG1
   have i1:(k:Int) < (N:Int):=by omega
   have hjw:(j:Int)+1 < 4294967296:=by have:=HNS.out; have:=HNN.out; omega
   have z2:IntKind.u32.wrap ((k:Int)+1)=(k:Int)+1:=IntWalk.u32_in _ (by have:=HNS.out; have:=HNN.out; have:=HN.out; omega)
   have c18:wr.cell? ⟨q,18,none⟩=some (.int .u32 (fs:Int)):=(cell_of_row wr q 18 _ _ _ q1).trans rfl
   have HR0:=Lib.hid (range_dt q1)
   clear hso hsn hce ho hc HF
   have HKN:=Lib.hid (And.intro hkN (And.intro hj1 hj))
   have HNX:=Lib.hid hnx
   rw [havb] at hsc2
   rw [hsc2] at hs
   clear hkN hj1 hk hj hnx hsc2 havb
   have HJN:Hid (nxt n j=if j+1=n then fsN n else j+1):=Lib.hid rfl
   have HFN:Hid (fsN n=fs):=Lib.hid (by rw [HNN.out,←HFS.out])
   have h3:(o=0∧c=0)∨(o=0∧¬ c=0)∨¬ o=0:=by omega
   rcases Classical.em (j+1=n) with hend | hend
   case' inl=>
    obtain ⟨Z,hZ⟩:∃ z:Int,z=(fs:Int):=⟨_,rfl⟩
    obtain ⟨Y,hY⟩:∃ y:Int,y=(j:Int)+1:=⟨_,rfl⟩
    have HZ:Hid (Z=((nxt n j:Nat):Int)):=Lib.hid (by rw [HJN.out,if_pos hend,HFN.out]; exact hZ)
    have z1:IntKind.u32.wrap ((j:Int)+1)=Y:=by rw [hY]; exact IntWalk.u32_in _ (by omega)
    have g2:(Y == (n:Int))=true:=by rw [hY]; simp; omega
    have HC18:Hid (∀ W:World,W.heap[q]? = some (.cells (qC x.n vg vw x.wr r vl had hq0 fs taken gone) 67 (0,0))→W.cell? ⟨q,18,none⟩=some (.int .u32 Z)):=Lib.hid (fun W h=>(cell_of_row W q 18 _ _ _ h).trans (by rw [hZ]; rfl))
    clear hZ hY
   case' inr=>
    obtain ⟨Z,hZ⟩:∃ z:Int,z=(j:Int)+1:=⟨_,rfl⟩
    have HZ:Hid (Z=((nxt n j:Nat):Int)):=Lib.hid (by rw [HJN.out,if_neg hend]; exact hZ)
    have z1:IntKind.u32.wrap ((j:Int)+1)=Z:=by rw [hZ]; exact IntWalk.u32_in _ (by omega)
    have g2:(Z == (n:Int))=false:=by rw [hZ]; simp; omega
    have g2':¬ Z=(n:Int):=by omega
    have HC18:Hid (∀ W:World,W.heap[q]? = some (.cells (qC x.n vg vw x.wr r vl had hq0 fs taken gone) 67 (0,0))→W.cell? ⟨q,18,none⟩=some (.int .u32 (fs:Int))):=Lib.hid (fun W h=>(cell_of_row W q 18 _ _ _ h).trans rfl)
    clear hZ
   all_goals
    clear hend hjw
    rcases h3 with ⟨rfl,rfl⟩ | h3
    ·rw [show ((0:Nat):Int)=0 from rfl] at HO1 HG1
     rw [decide_eq_true ⟨rfl,rfl⟩,if_pos rfl] at hs
     have hjb:j=b:=by injection hs
     subst hjb
     clear hs
     go_wp2_with (refine Dev.wpList_load_sub rfl 65 _ rfl q 0 rfl (dtC x.n vg vw x.wr r vl) _ HR0.out Tryz.underlying65 rfl hid ?_)
     refine HO1.out.mono ?_
     clear HO1 HR0
     rintro e W3 ⟨rfl,hx⟩
     have q1':=(hx.block q (Array.getElem?_eq_some_iff.1 q1).1).trans q1
     have q2':=(hx.block (q+1) (Array.getElem?_eq_some_iff.1 q2).1).trans q2
     have b2':=b2.trans (hx.mono b2.size)
     clear hx q1 q2 b2 c18
     have HR0:=Lib.hid (range_dt q1')
     have HG2:=Lib.hid (HG1.out W3 b2')
     clear HG1
     go_wp2_with (refine Dev.wpList_load_sub rfl 65 _ rfl q 0 rfl (dtC x.n vg vw x.wr r vl) _ HR0.out Tryz.underlying65 rfl hid ?_)
     refine HG2.out.mono ?_
     clear HG2 HR0
     rintro e W4 ⟨rfl,hx⟩
     have q1:=(hx.block q (Array.getElem?_eq_some_iff.1 q1').1).trans q1'
     have q2:=(hx.block (q+1) (Array.getElem?_eq_some_iff.1 q2').1).trans q2'
     have b2:=b2'.trans (hx.mono b2'.size)
     have c18:=HC18.out W4 q1
     clear hx q1' q2' b2'
     obtain ⟨T',hT⟩:∃ t,t=taken - (if (0:Nat)=0 then zr 1 - zr 0 else 0):=⟨_,rfl⟩
     obtain ⟨G',hG⟩:∃ t,t=gone+(if (0:Nat)=0 then 0 else zr 1 - zr 0):=⟨_,rfl⟩
     have HPU:Hid (QD.take ⟨x,r,L,had,hq0,fs,taken,gone⟩ n j=⟨x,r,L ++ [(j,1)],had,nxt n j,fs,T',G'⟩):=Lib.hid (by unfold QD.take; rw [hT,hG]; rfl)
     have HS2:Hid (Calls Tryz.prog 178 #[.agg (qC x.n vg vw x.wr r vl had hq0 fs taken gone),.int .u32 (j:Int),.int .u16 1] W4 fun e w'=>∃ v',e=.returned (.tuple #[v',.int .i64 0])∧QT A w' v' x r (L ++ [(j,1)]) had hq0 fs T' G'∧Below W4.heap.size W4 w'):=Lib.hid (by
      have h:=HS1.out W4 b2
      rw [hT,hG]
      exact h)
     clear HS1 hT hG
     go_wp2_with (refine wpList_load_row rfl 67 _ rfl q rfl _ _ _ _ q1 Tryz.underlying67 rfl hiq ?_)
     refine HS2.out.mono ?_
     clear HS2
     rintro e W5 ⟨v',rfl,hq,hx⟩
     have q2':=(hx.block (q+1) (Array.getElem?_eq_some_iff.1 q2).1).trans q2
     have b3:=b2.trans (hx.mono b2.size)
     clear hx q1 q2 b2 hiq h1q c18
     have hq5:=hq
     obtain ⟨ug,uw,ul,rfl,hr',hs'⟩:=hq
     have hiq:=sizeQ x.n ug uw x.wr r ul had hq0 fs T' G'
     have h1q:=qC_one x.n x.wr r had hq0 fs T' G' hr'.slices.1 hr'.slices.2 hs'.slice
     have HI2:=Lib.hid (And.intro (sizeQ x.n ug uw x.wr r ul had (nxt n j) fs T' G') (qC_one x.n x.wr r had (nxt n j) fs T' G' hr'.slices.1 hr'.slices.2 hs'.slice))
     clear hr' hs'
     have hst:=heap_alloc_new W5 (.cells (qC x.n ug uw x.wr r ul had hq0 fs T' G') 67)
     have hbA:Below W5.heap.size W5 (W5.alloc (.cells (qC x.n ug uw x.wr r ul had hq0 fs T' G') 67)):=(Below.refl _ _).alloc (Nat.le_refl _) _
     have hqg:q+1 < W5.heap.size:=(Array.getElem?_eq_some_iff.1 q2').1
     have q2:=(hbA.block (q+1) hqg).trans q2'
     have b4:=b3.trans (hbA.mono b3.size)
     have hq6:=hq5.kept hbA
     clear hbA q2' b3 hq5
     have hst0:=heap_alloc_new W5 (.cells (qC 0 (.slice none 0 0) (.slice none 0 0) 0 Slt.nil (.slice none 0 0) 0 0 0 0 0) 67)
     go_upto_region 17 with (refine wpList_store_row rfl 67 _ _ rfl W5.heap.size (qC x.n ug uw x.wr r ul had hq0 fs T' G') rfl rfl _ _ hst0 hiq rfl h1q ?_)
     change Code.wp _ _ _ _ ((W5.alloc (.cells (qC 0 (.slice none 0 0) (.slice none 0 0) 0 Slt.nil (.slice none 0 0) 0 0 0 0 0) 67)).setRow W5.heap.size (qC x.n ug uw x.wr r ul had hq0 fs T' G'))
     rw [World.setRow_alloc_new]
     clear hst0
     generalize W5.alloc (.cells (qC x.n ug uw x.wr r ul had hq0 fs T' G') 67)=W6 at hst q2 b4 hq6 ⊢
     generalize W5.heap.size=g at hst hqg ⊢
     have hoth:∀ i,i≠g→(W6.setCell ⟨g,17,none⟩ (.int .u32 Z)).heap[i]? = W6.heap[i]?:=fun i hi=>heap_setCell_other W6 ⟨g,17,none⟩ i _ hi
     have k1:(W6.setCell ⟨g,17,none⟩ (.int .u32 Z)).heap[g]? = some (.cells (qC x.n ug uw x.wr r ul had (nxt n j) fs T' G') 67 (0,0)):=by
      have e:=heap_setCell_same W6 g 17 _ _ (.int .u32 Z) hst
      rw [HZ.out] at e ⊢
      exact e
     have y17:W6.cell? ⟨g,17,none⟩=some (.int .u32 (hq0:Int)):=(cell_of_row W6 g 17 _ _ _ hst).trans rfl
     have f17:=frozen_of_row W6 g 17 _ _ hst
     have HK:=Lib.hid (And.intro k1 (And.intro ((hoth (q+1) (by omega)).trans q2) (And.intro (b4.trans (show Below w.heap.size W6 (W6.setCell ⟨g,17,none⟩ (.int .u32 Z)) from ⟨rfl,rfl,rfl,by simp,fun i hi=>hoth i (by have:=HQ.out; omega)⟩)) (hq6.other hst (by decide) (by decide) hoth))))
     clear hoth k1 hq6 b4 q2 hst
     go_upto_region 18 with fail
     generalize (W6.setCell ⟨g,17,none⟩ (.int .u32 Z))=W7 at HK ⊢
     obtain ⟨k1,k2,b5,hq7⟩:=HK.out
     obtain ⟨ug',uw',ul',e',hr',hs'⟩:=hq7
     simp only [qC,Value.agg.injEq,Array.mk.injEq,List.cons.injEq] at e'
     obtain ⟨-,e1,e2,-,-,-,-,-,-,-,-,-,-,-,-,e3,-⟩:=e'
     subst e1 e2 e3
     have hq8:QT A W7 (.agg (qC x.n ug uw x.wr r ul had (nxt n j) fs T' G')) x r (L ++ [(j,1)]) had (nxt n j) fs T' G':=⟨⟨ug,uw,ul,rfl,hr',hs'⟩⟩
     have HEND:=Lib.hid (hq8.other (W':=W7.setRow (q+1) (qC x.n ug uw x.wr r ul had (nxt n j) fs T' G')) k2 (by decide) (by decide) (fun i hi=>setRow_other _ _ _ _ hi))
     obtain ⟨hiq,h1q⟩:=HI2.out
     clear hr' hs' hq8 HK HI2 y17 f17
     go_wp2_with (first | (refine wpList_load_row rfl 67 _ rfl g rfl _ _ _ _ k1 Tryz.underlying67 rfl hiq ?_) | (refine wpList_store_row rfl 67 _ _ rfl (q+1) _ rfl rfl _ _ k2 hiq rfl h1q ?_))
     refine bodyPost_ret (results_row_tmp2 rfl _ _ _ _ _ _ _ rfl (setRow_heap _ _ _ _ _ _ k2) Tryz.underlying67 rfl hiq) rfl ⟨_,rfl,?_,Dev.below_row b5 (by have:=HQ.out; omega)⟩
     rw [HPU.out]
     exact HEND.out
    ·rcases h3 with ⟨rfl,hav⟩ | hav
     case' inl=>
      rw [show ((0:Nat):Int)=0 from rfl] at HO1
      have g1:((c:Int) == 0)=false:=by simp; omega
      have g1':¬ (c:Int)=0:=by omega
      rw [decide_eq_false (fun h=>hav h.2),if_neg (by decide)] at hs
     case' inr=>
      have g1:((o:Int) == 0)=false:=by simp; omega
      have g1':¬ (o:Int)=0:=by omega
      rw [decide_eq_false (fun h=>hav h.1),if_neg (by decide)] at hs
     all_goals
      have HSS:=Lib.hid hs
      clear hs hav
      go_wp2_with (refine Dev.wpList_load_sub rfl 65 _ rfl q 0 rfl (dtC x.n vg vw x.wr r vl) _ HR0.out Tryz.underlying65 rfl hid ?_)
      refine HO1.out.mono ?_
      clear HO1 HR0
      rintro e W3 ⟨rfl,hx⟩
      have q1':=(hx.block q (Array.getElem?_eq_some_iff.1 q1).1).trans q1
      have q2':=(hx.block (q+1) (Array.getElem?_eq_some_iff.1 q2).1).trans q2
      have b2':=b2.trans (hx.mono b2.size)
      clear hx q1 q2 b2 c18
      have HR0:=Lib.hid (range_dt q1')
      have HG2:=Lib.hid (HG1.out W3 b2')
      clear HG1
      go_wp2_with (refine Dev.wpList_load_sub rfl 65 _ rfl q 0 rfl (dtC x.n vg vw x.wr r vl) _ HR0.out Tryz.underlying65 rfl hid ?_)
      refine HG2.out.mono ?_
      clear HG2 HR0
      rintro e W4 ⟨rfl,hx⟩
      have q1:=(hx.block q (Array.getElem?_eq_some_iff.1 q1').1).trans q1'
      have q2:=(hx.block (q+1) (Array.getElem?_eq_some_iff.1 q2').1).trans q2'
      have b2:=b2'.trans (hx.mono b2'.size)
      have c18:=HC18.out W4 q1
      clear hx q1' q2' b2'
      have HF2:=Lib.hid (And.intro q1 (And.intro q2 b2))
      clear q1 q2 b2
      go_wp2_with fail
      go_roundw
      case rel=>exact ⟨k+1,nxt n j,by have:=HKN.out.1; omega,HNX.out,HSS.out,by rw [HZ.out],by go_num,HF2⟩
      case measure=>have:=HKN.out.1; simp [intOf]; omega
end Spc

end Go.Proofs.YtgkbfahflngklaaGreat
