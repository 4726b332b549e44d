import Derived.Test.YtgkbfahflngklaaGreatSpcD
import Derived.Test.YtgkbfahflngklaaGreatCrc3
set_option maxRecDepth 100000
set_option maxHeartbeats 6400000
set_option linter.unusedSimpArgs false
namespace Go.Proofs.YtgkbfahflngklaaGreat
namespace Spc
open Go.RowKit RowLaw
open Dev (ptr pendCells putCells putCells_one putCells_length yieldsIf_load_row)
open Cnt (own_slice own_kept own_base own_ne)
open Slt (Rt cells cells_one rtB rtB_length mayB infoR sizeR)
open Rot (planOk tlN pkN fsN fresh fresh_good planCells planCells_one sizePlan infoPlan refLayout_yes plan_facts wpList_build_run run_buildRoot)
variable {A:Nat→Prop}
theorem results_row2_tmp {P:Program} {fn:Func} {p p2 u:Tmp} {ty ty2:TypeId} (h:fn.results=#[.cell p ty,.cell p2 ty2,.tmp u]) (tmps:Array Value) (w:World) (g:Nat) (t:TypeId) (cs:Array Value) (fr:Nat×Nat) (d:TypeDesc)
  (hp:tmps.getD p undef=.pointer (some ⟨g,0,none⟩)) (hg:w.heap[g]? = some (.cells cs t fr)) (hu:P.underlying ty=some d)
  (hd:(match d with | .struct _ | .array _ _=>true | _=>false)=true) (hi:(P.info? ty).map (·.size)=some cs.size)
  (g2:Nat) (t2:TypeId) (cs2:Array Value) (fr2:Nat×Nat) (d2:TypeDesc)
  (hp2:tmps.getD p2 undef=.pointer (some ⟨g2,0,none⟩)) (hg2:w.heap[g2]? = some (.cells cs2 t2 fr2)) (hu2:P.underlying ty2=some d2)
  (hd2:(match d2 with | .struct _ | .array _ _=>true | _=>false)=true) (hi2:(P.info? ty2).map (·.size)=some cs2.size) :
  (results fn tmps).run P w=.ok (.tuple #[.agg cs,.agg cs2,tmps.getD u undef]) w:=by
 have hp':tmps[p]?.getD undef=.pointer (some ⟨g,0,none⟩):=by simpa using hp
 have hp2':tmps[p2]?.getD undef=.pointer (some ⟨g2,0,none⟩):=by simpa using hp2
 simp [results,h,hp',hp2',asAddr,run_loadVar_row w g t ty cs fr d hg hu hd hi,run_loadVar_row w g2 t2 ty2 cs2 fr2 d2 hg2 hu2 hd2 hi2]
structure FmB (A:Nat→Prop) (w:World) (n tl pk fs:Nat) (cs:Array Value) (q gp:Nat) (W:World):Prop where
 rd:RD A W (.agg cs) ⟨n,[],[],0⟩
 r0:W.heap[q]? = some (.cells cs 62 (0,0))
 r1:W.heap[q+1]? = some (.cells zeroD 62 (0,0))
 r2:W.heap[q+2]? = some (.cells (cells Slt.nil) 31 (0,0))
 pl:W.heap[gp]? = some (.cells (planCells tl pk fs) 82 (0,0))
 bel:Below w.heap.size w W
 ge:w.heap.size≤q
 gg:q+2 < gp
theorem FmB.below {w W W':World} {n tl pk fs:Nat} {cs:Array Value} {q gp:Nat} (h:FmB A w n tl pk fs cs q gp W) (hb:Below W.heap.size W W'):FmB A w n tl pk fs cs q gp W':=
 ⟨h.rd.kept hb,(hb.block _ (Array.getElem?_eq_some_iff.1 h.r0).1).trans h.r0,(hb.block _ (Array.getElem?_eq_some_iff.1 h.r1).1).trans h.r1,(hb.block _ (Array.getElem?_eq_some_iff.1 h.r2).1).trans h.r2,(hb.block _ (Array.getElem?_eq_some_iff.1 h.pl).1).trans h.pl,h.bel.trans (hb.mono h.bel.size),h.ge,h.gg⟩
theorem Format8_any {w:World} {v:Value} {n:Nat} (h:RD A w v ⟨n,[],[],0⟩) (hpl:planOk n=true) (hAA:∀ b,w.heap.size≤b→A b) :
  Calls Tryz.prog 94 #[v] w fun e w'=>∃ v',e=.returned (.tuple #[v',.agg (cells (fresh n)),.int .i64 0])∧RD A w' v' (formX n)∧Below w.heap.size w w':=by
 have h0:=h
 obtain ⟨⟨vg,vw,rfl,hg,hw⟩,n32,g32,w32⟩:=h
 have hzv:=(zero_of_info infoRD).1
 have hzr:=(zero_of_info infoR).1
 have hzp:=(zero_of_info infoPlan).1
 have hzb:=(zero_of_info infoBlock).1
 have hid:=sizeRD n vg vw 0
 have hir:(Tryz.prog.info? 31).map (·.size)=some (cells (fresh n)).size:=sizeR (fresh n)
 obtain ⟨h64,hbig⟩:=Cnt.plan_of hpl
 obtain ⟨_,f2,_⟩:=plan_facts h64 hbig
 have hL:=refLayout_yes hpl
 obtain ⟨fs,hfs⟩:∃ z,z=fsN n:=⟨_,rfl⟩
 have HFS:=Lib.hid hfs
 rw [←hfs] at f2 hL
 clear hfs
 generalize tlN n=tl at hL
 generalize pkN n=pk at hL
 have hgood:=fresh_good h64 hbig
 obtain ⟨cs,hcs⟩:∃ cs,cs=rdC n vg vw 0:=⟨_,rfl⟩
 have hcs':rdC (⟨n,[],[],0⟩:RS).n vg vw (⟨n,[],[],0⟩:RS).wr=cs:=hcs.symm
 rw [hcs'] at h0 ⊢
 rw [←hcs] at hid
 clear hcs'
 obtain ⟨W1,hW1⟩:∃ W,W=((w.alloc (.cells cs 62)).alloc (.cells zeroD 62)).alloc (.cells (cells Slt.nil) 31):=⟨_,rfl⟩
 have b2:Below w.heap.size w W1:=by
  rw [hW1]
  exact (((Below.refl _ _).alloc (Nat.le_refl _) _).alloc (by simp only [World.size_alloc]; omega) _).alloc (by simp only [World.size_alloc]; omega) _
 have q1:W1.heap[w.heap.size]? = some (.cells cs 62 (0,0)):=by
  rw [hW1]
  exact (Below.heap_alloc _ _ _ (by simp only [World.size_alloc]; omega)).trans ((Below.heap_alloc _ _ _ (by simp only [World.size_alloc]; omega)).trans (heap_alloc_new w _))
 have q2:W1.heap[w.heap.size+1]? = some (.cells zeroD 62 (0,0)):=by
  rw [hW1]
  exact (Below.heap_alloc _ _ _ (by simp only [World.size_alloc]; omega)).trans (heap_alloc2_new w _ _)
 have q3:W1.heap[w.heap.size+2]? = some (.cells (cells Slt.nil) 31 (0,0)):=by
  rw [hW1]
  have:=heap_alloc_new ((w.alloc (.cells cs 62)).alloc (.cells zeroD 62)) (.cells (cells Slt.nil) 31)
  simpa only [World.size_alloc] using this
 have hs1:W1.heap.size=w.heap.size+3:=by rw [hW1]; simp only [World.size_alloc]
 have HD:=Lib.hid (h0.kept b2)
 have HCS:=Lib.hid hcs
 have HL:=Lib.hid hL
 clear hL
 have HN:=Lib.hid (And.intro hgood (And.intro h64 f2))
 have HPL:=Lib.hid hpl
 clear hg hw h0 n32 g32 w32 hgood hpl
 go_enter Tryz.func94,Tryz.ntmps94
 go_upto_region 1 with fail
 change Code.wp _ _ _ _ (((w.alloc (.cells (rdC n vg vw 0) 62)).alloc (.cells zeroD 62)).alloc (.cells (cells Slt.nil) 31))
 rw [←hcs,←hW1]
 clear hW1 hcs
 obtain ⟨q,hq⟩:∃ q,q=w.heap.size:=⟨_,rfl⟩
 rw [←hq] at q1 q2 q3 hs1 ⊢
 have HQ:=Lib.hid hq
 clear hq
 have c0:W1.cell? ⟨q,0,none⟩=some (.int .u32 (n:Int)):=(cell_of_row W1 q 0 _ _ _ q1).trans (by rw [HCS.out]; rfl)
 go_wp2_with fail
 refine (HL.out _).mono ?_
 clear HL
 rintro e W2 ⟨rfl,hx⟩
 have hS3:Below W2.heap.size W2 (W2.alloc (.cells (planCells tl pk fs) 82)):=(Below.refl _ _).alloc (Nat.le_refl _) _
 have hx3:=hx.trans (hS3.mono hx.size)
 have hfm:FmB A w n tl pk fs cs q W2.heap.size (W2.alloc (.cells (planCells tl pk fs) 82)):=⟨HD.out.kept hx3,(hx3.block _ (Array.getElem?_eq_some_iff.1 q1).1).trans q1,(hx3.block _ (Array.getElem?_eq_some_iff.1 q2).1).trans q2,(hx3.block _ (Array.getElem?_eq_some_iff.1 q3).1).trans q3,heap_alloc_new W2 _,b2.trans (hx3.mono b2.size),by have:=HQ.out; omega,by have:=hx.size; omega⟩
 clear HD q1 q2 q3 b2 hx hx3 hS3 c0 hs1
 have tok:True:=trivial
 go_upto_region 2 with (have _t:=tok; refine wpList_store_new rfl 82 _ _ rfl (planCells tl pk fs) _ _ rfl rfl (sizePlan _ _ _) rfl (planCells_one _ _ _) ?_; clear _t tok)
 generalize W2.heap.size=gp at hfm ⊢
 generalize W2.alloc (.cells (planCells tl pk fs) 82)=W3 at hfm ⊢
 go_wp2_with fail
 go_loopw [7,8] (fun l i wr=>∃ k:Nat,k≤fs∧l=.slice none 0 0∧i=.int .u32 (k:Int)∧FmB A w n tl pk fs cs q gp wr) (fun _ i _=>fs - (intOf i).toNat)
 case atStart=>exact ⟨0,by omega,rfl,rfl,hfm⟩
 case round=>
  obtain ⟨k,hk,rfl,rfl,hb⟩:=hrel
  clear hfm
  have c2:wr.cell? ⟨gp,2,none⟩=some (.int .u32 (fs:Int)):=(cell_of_row wr gp 2 _ _ _ hb.pl).trans rfl
  by_cases hlt:k < fs
  ·have i1:(k:Int) < (fs:Int):=by omega
   have z1:IntKind.u32.wrap ((k:Int)+1)=(k:Int)+1:=IntWalk.u32_in _ (by have:=HN.out.2; omega)
   have r0:=hb.r0
   have HRD:=Lib.hid (Read3_any (a:=k) hb.rd)
   have e1:(⟨n,[],[],0⟩:RS).at_ k=zeros:=by
    rw [at_calm rfl (show k < n by have:=HN.out.2; omega)]
    rfl
   have e2:(⟨n,[],[],0⟩:RS).err k=0:=if_neg (show ¬ n≤k by have:=HN.out.2; omega)
   rw [e1,e2] at HRD
   have HZ:=Lib.hid (fun W=>Crc.refZero_any zeros zeros_length W)
   rw [show decide (zeros=zeros)=true from decide_eq_true rfl] at HZ
   have HB:=Lib.hid hb
   clear hb e1 e2
   go_wp2_with (refine wpList_load_row rfl 62 _ rfl q rfl _ _ _ _ r0 Tryz.underlying62 rfl hid ?_)
   refine HRD.out.mono ?_
   clear HRD
   rintro e W5 ⟨rfl,hx⟩
   have h5:Holds (W5.alloc (.cells (cellsOf zeros) 39)) W5.heap.size zeros:=Holds.new W5 zeros
   have hb5:=(HB.out.below hx).below ((Below.refl W5.heap.size W5).alloc (Nat.le_refl _) (.cells (cellsOf zeros) 39))
   clear hx r0 c2 HB
   have tok:True:=trivial
   have hiz:=sizeBlock _ zeros_length
   go_upto_region 7 with (have _t:=tok; refine wpList_store_new rfl 39 _ _ rfl (cellsOf zeros) _ _ (by simp [Act.eval]) rfl hiz rfl (cellsOf_one _) ?_; clear _t tok)
   generalize W5.heap.size=g at h5 ⊢
   generalize W5.alloc (.cells (cellsOf zeros) 39)=W6 at h5 hb5 ⊢
   go_wp2_with (refine wpList_load_row rfl 39 _ rfl g rfl _ _ _ _ h5 Tryz.underlying39 rfl hiz ?_)
   refine (HZ.out _).mono ?_
   clear HZ
   rintro e W7 ⟨rfl,hx⟩
   have hb7:=hb5.below hx
   clear hx hb5 h5
   go_wp2_with fail
   go_roundw
   case rel=>exact ⟨k+1,by omega,rfl,by go_num,hb7⟩
   case measure=>simp [intOf]; omega
  ·have i1:¬ (k:Int) < (fs:Int):=by omega
   have HB:=Lib.hid hb
   have r0:=hb.r0
   have HWR:=Lib.hid (write8_any hb.rd (PutsV.nil wr) (fun y hy=>by cases hy) (by show 0+0+1 < 1000000000; omega) (by show 0+0+0+1 < 1000000; omega) (fun b h=>hAA b (Nat.le_trans hb.bel.size h)))
   clear hb
   go_wp2_with (refine wpList_load_row rfl 62 _ rfl q rfl _ _ _ _ r0 Tryz.underlying62 rfl hid ?_)
   refine HWR.out.mono ?_
   clear HWR
   rintro e W5 ⟨v',rfl,hD,hx⟩
   have hD0:RD A W5 v' ⟨n,[],[],1⟩:=hD
   clear hD
   obtain ⟨⟨vg',vw',hv5,hg',hw'⟩,_,_,_⟩:=id hD0
   obtain ⟨cs5,hcs5⟩:∃ cs,cs=rdC (⟨n,[],[],1⟩:RS).n vg' vw' (⟨n,[],[],1⟩:RS).wr:=⟨_,rfl⟩
   rw [←hcs5] at hv5
   subst hv5
   have h1c:cs5.all (·.oneCell')=true:=by rw [hcs5]; exact rdC_one _ _ hg'.slice hw'.slice
   have hid5:(Tryz.prog.info? 62).map (·.size)=some cs5.size:=by rw [hcs5]; exact sizeRD _ vg' vw' _
   have hsz:cs.size=cs5.size:=by rw [HCS.out,hcs5]; rfl
   have hb5:=HB.out.below hx
   clear HB r0 hx hg' hw'
   have p0:=hb5.r0
   have hoth:∀ j,j≠q→(W5.setRow q cs5).heap[j]? = W5.heap[j]?:=fun j hj=>setRow_other _ _ _ _ hj
   have p1:(W5.setRow q cs5).heap[q]? = some (.cells cs5 62 (0,0)):=setRow_heap _ _ _ _ _ _ p0
   have p2:=(hoth (q+1) (by omega)).trans hb5.r1
   have p3:=(hoth (q+2) (by omega)).trans hb5.r2
   have p4:=(hoth gp (by have:=hb5.gg; omega)).trans hb5.pl
   have b6:Below w.heap.size w (W5.setRow q cs5):=Dev.below_row hb5.bel hb5.ge
   have hD6:RD A (W5.setRow q cs5) (.agg cs5) ⟨n,[],[],1⟩:=hD0.other p0 hoth
   have hge:=hb5.ge
   have hgg:=hb5.gg
   clear hb5 hD0
   have HC5:=Lib.hid hcs5
   clear hcs5
   go_upto_region 10 with (refine wpList_store_row rfl 62 _ _ rfl q cs5 rfl rfl _ _ p0 hid5 hsz h1c ?_)
   generalize W5.setRow q cs5=W6 at hoth p1 p2 p3 p4 b6 hD6 ⊢
   clear hoth p0 h1c hsz hid
   obtain ⟨hgood,_,f2⟩:=HN.out
   have c0:W6.cell? ⟨q,0,none⟩=some (.int .u32 (n:Int)):=(cell_of_row W6 q 0 _ _ _ p1).trans (by rw [HC5.out]; rfl)
   have c2:W6.cell? ⟨gp,2,none⟩=some (.int .u32 (fs:Int)):=(cell_of_row W6 gp 2 _ _ _ p4).trans rfl
   have hbr:=fun W=>run_buildRoot W 1 n ((n:Int) - fs) 1 (fs)
   have hc:cells (fresh n)=#[.int .u64 1,.int .u32 (n:Int),.int .u32 0,.int .u32 0,.int .u32 ((n:Int) - (fs:Nat)),.int .u32 1,.int .u32 (fs:Nat),.int .u8 0]:=by
    unfold cells fresh
    rw [←HFS.out]
    rw [show ((n - fs:Nat):Int)=(n:Int) - (fs:Nat) from by omega]
    rfl
   have hS:Below W6.heap.size W6 (W6.alloc (.cells (cells (fresh n)) 31)):=(Below.refl _ _).alloc (Nat.le_refl _) _
   have r4:(W6.alloc (.cells (cells (fresh n)) 31)).heap[W6.heap.size]? = some (.cells (cells (fresh n)) 31 (0,0)):=heap_alloc_new W6 _
   have r1:=(hS.block _ (Array.getElem?_eq_some_iff.1 p1).1).trans p1
   have r2:=(hS.block _ (Array.getElem?_eq_some_iff.1 p2).1).trans p2
   have r3:=(hS.block _ (Array.getElem?_eq_some_iff.1 p3).1).trans p3
   have hgl:q+2 < W6.heap.size:=(Array.getElem?_eq_some_iff.1 p3).1
   have b7:=b6.trans (hS.mono b6.size)
   have hD7:=hD6.kept hS
   have HC:=Lib.hid hc
   have hii:=hir
   rw [hc] at hii
   clear p1 p2 p3 p4 b6 hS hc hD6
   have tok:True:=trivial
   go_upto_region 13 with (have _t:=tok; refine wpList_store_new rfl 31 _ _ rfl #[.int .u64 1,.int .u32 (n:Int),.int .u32 0,.int .u32 0,.int .u32 ((n:Int) - (fs:Nat)),.int .u32 1,.int .u32 (fs:Nat),.int .u8 0] _ _ (by simp [Act.eval]) rfl hii rfl (by simp [Value.oneCell']) ?_; clear _t tok)
   rw [←HC.out]
   generalize W6.heap.size=gr at r4 hgl ⊢
   generalize W6.alloc (.cells (cells (fresh n)) 31)=W7 at r1 r2 r3 r4 b7 hD7 ⊢
   have HT:=Lib.hid (turn8_any hD7 hgood.fits hgood.mayB (show 2≤n by omega) (show 1+2 < 1000000000 by omega) (show 0+0+2 < 1000000 by omega) (fun b h=>hAA b (Nat.le_trans b7.size h)))
   clear c0 c2 hbr hii hD7
   go_wp2_with (first | (refine wpList_load_row rfl 62 _ rfl q rfl _ _ _ _ r1 Tryz.underlying62 rfl hid5 ?_) | (refine wpList_load_row rfl 31 _ rfl gr rfl _ _ _ _ r4 Tryz.underlying31 rfl hir ?_))
   refine HT.out.mono ?_
   clear HT
   rintro e W8 ⟨v',rfl,hD,hx⟩
   have hD8:RD A W8 v' (formX n):=hD
   clear hD
   obtain ⟨⟨ug,uw,hv8,hg',hw'⟩,hD1,hD2,hD3⟩:=id hD8
   obtain ⟨cs8,hcs8⟩:∃ cs,cs=rdC (formX n).n ug uw (formX n).wr:=⟨_,rfl⟩
   rw [←hcs8] at hv8
   subst hv8
   have h1c8:cs8.all (·.oneCell')=true:=by rw [hcs8]; exact rdC_one _ _ hg'.slice hw'.slice
   have hid8:(Tryz.prog.info? 62).map (·.size)=some cs8.size:=by rw [hcs8]; exact sizeRD _ ug uw _
   have hsz8:cs5.size=cs8.size:=by rw [HC5.out,hcs8]; rfl
   have hsz8':zeroD.size=cs8.size:=by rw [hcs8]; rfl
   have s1:=(hx.block _ (Array.getElem?_eq_some_iff.1 r1).1).trans r1
   have s2:=(hx.block _ (Array.getElem?_eq_some_iff.1 r2).1).trans r2
   have s3:=(hx.block _ (Array.getElem?_eq_some_iff.1 r3).1).trans r3
   have s4:=(hx.block _ (Array.getElem?_eq_some_iff.1 r4).1).trans r4
   have b8:=b7.trans (hx.mono b7.size)
   clear hg' hw' r1 r2 r3 r4 b7 hx hcs8
   have hoth:∀ j,j≠q→(W8.setRow q cs8).heap[j]? = W8.heap[j]?:=fun j hj=>setRow_other _ _ _ _ hj
   have t1:(W8.setRow q cs8).heap[q]? = some (.cells cs8 62 (0,0)):=setRow_heap _ _ _ _ _ _ s1
   have t2:=(hoth (q+1) (by omega)).trans s2
   have t3:=(hoth (q+2) (by omega)).trans s3
   have t4:=(hoth gr (by omega)).trans s4
   have b9:Below w.heap.size w (W8.setRow q cs8):=Dev.below_row b8 hge
   have hD9:=hD8.other s1 hoth
   go_upto_region 14 with (refine wpList_store_row rfl 62 _ _ rfl q cs8 rfl rfl _ _ s1 hid8 hsz8 h1c8 ?_)
   generalize W8.setRow q cs8=W9 at hoth t1 t2 t3 t4 b9 hD9 ⊢
   clear hoth s1 s2 s3 s4 b8 hD8
   go_wp2_with fail
   refine wp_region_noPanic ?_
   refine wp_region_held_drew (S:=fun W=>W.heap[q]? = some (.cells cs8 62 (0,0))∧W.heap[gr]? = some (.cells (cells (fresh n)) 31 (0,0))) (by kernel_rfl) ⟨t1,t4⟩ ?_
   intro hS
   refine RowLaw.tkV 0 71 (.agg cs8) hS ?_ (hy:=(yieldsIf_load_row (by rfl) 62 _ rfl q rfl _ _ _ _ (fun W hW=>hW.1) Tryz.underlying62 rfl hid8))
   simp only [RowLaw.lset]
   refine RowLaw.tkV 1 72 (.agg (cells (fresh n))) hS ?_ (hy:=(yieldsIf_load_row (by rfl) 31 _ rfl gr rfl _ _ _ _ (fun W hW=>hW.2) Tryz.underlying31 rfl hir))
   simp only [RowLaw.lset]
   refine wpAnyH_ready (rs:=[2]) (by kernel_rfl) (by simp) ?_
   refine AllReadyH.cons rfl (fun K hK=>?_) AllReadyH.nil
   rw [if_pos (by rfl)]
   refine wp_store_row 62 _ _ rfl (q+1) cs8 rfl rfl _ _ (show W9.drew.heap[q+1]? = _ from t2) hid8 hsz8' h1c8 ?_
   have hB:Below w.heap.size w W9.drew:=b9.trans ⟨rfl,rfl,rfl,Nat.le_refl _,fun _ _=>rfl⟩
   have hD10:=(hD9.kept (W':=W9.drew) ⟨rfl,rfl,rfl,Nat.le_refl _,fun _ _=>rfl⟩)
   have t2':W9.drew.heap[q+1]? = _:=t2
   have t3':W9.drew.heap[q+2]? = _:=t3
   clear b9 hD9 t2 t3 t1 t4
   generalize W9.drew=W10 at hB hD10 t2' t3' hS ⊢
   have hoth:∀ j,j≠q+1→(W10.setRow (q+1) cs8).heap[j]? = W10.heap[j]?:=fun j hj=>setRow_other _ _ _ _ hj
   have u2:=setRow_heap W10 (q+1) _ cs8 _ _ t2'
   have u3:=(hoth (q+2) (by omega)).trans t3'
   have hS11:=And.intro ((hoth q (by omega)).trans hS.1) ((hoth gr (by omega)).trans hS.2)
   have b11:Below w.heap.size w (W10.setRow (q+1) cs8):=Dev.below_row hB (by omega)
   have hD11:=hD10.other t2' hoth
   refine hK _ _ hS11 (fun _=>?_)
   clear hK K hB hD10 t2' t3' hS hoth
   generalize W10.setRow (q+1) cs8=W11 at u2 u3 hS11 b11 hD11 ⊢
   try simp only [Act.put,List.setIfInBounds_toArray,RowLaw.lset]
   refine wpAnyH_ready (rs:=[3]) (by kernel_rfl) (by simp) ?_
   refine AllReadyH.cons rfl (fun K hK=>?_) AllReadyH.nil
   rw [if_pos (by rfl)]
   refine wp_store_row 31 _ _ rfl (q+2) (cells (fresh n)) rfl rfl _ _ u3 hir rfl (cells_one _) ?_
   have hoth:∀ j,j≠q+2→(W11.setRow (q+2) (cells (fresh n))).heap[j]? = W11.heap[j]?:=fun j hj=>setRow_other _ _ _ _ hj
   have x2:=(hoth (q+1) (by omega)).trans u2
   have x3:=setRow_heap W11 (q+2) _ (cells (fresh n)) _ _ u3
   have hS12:=And.intro ((hoth q (by omega)).trans hS11.1) ((hoth gr (by omega)).trans hS11.2)
   have b12:Below w.heap.size w (W11.setRow (q+2) (cells (fresh n))):=Dev.below_row b11 (by omega)
   have hD12:RD A (W11.setRow (q+2) (cells (fresh n))) (.agg cs8) (formX n):=by
    obtain ⟨⟨ag,aw,e,k1,k2⟩,k3,k4,k5⟩:=hD11
    refine ⟨⟨ag,aw,e,?_,?_⟩,k3,k4,k5⟩
    ·exact ⟨k1.len,Dev.ownsRow_block k1.row (fun b hb=>hoth b (fun e=>own_ne k1.row u3 (by decide) (by rw [hb,e]))),k1.ok,k1.own⟩
    ·exact ⟨k2.len,Dev.ownsRow_block k2.row (fun b hb=>hoth b (fun e=>own_ne k2.row u3 (by decide) (by rw [hb,e]))),k2.ok,k2.own⟩
   refine hK _ _ hS12 (fun _=>?_)
   clear hK K hS11 b11 hD11 u2 u3 hoth
   generalize W11.setRow (q+2) (cells (fresh n))=W12 at x2 x3 hS12 b12 hD12 ⊢
   try simp only [Act.put,List.setIfInBounds_toArray,RowLaw.lset]
   refine RowLaw.tkV 4 4 (.int .i64 0) hS12 ?_
   simp only [RowLaw.lset]
   refine wpAnyH_done (by kernel_rfl) ?_ _
   refine NoPanic.normal ?_
   go_wp2_with fail
   exact bodyPost_ret (results_row2_tmp rfl _ _ _ _ _ _ _ rfl x2 Tryz.underlying62 rfl hid8 _ _ _ _ _ rfl x3 Tryz.underlying31 rfl hir) rfl ⟨.agg cs8,rfl,hD12,b12⟩
end Spc

end Go.Proofs.YtgkbfahflngklaaGreat
