import Derived.Test.YtgkbfahflngklaaGreatSpcV3a
set_option maxRecDepth 100000
set_option maxHeartbeats 25600000
set_option linter.unusedSimpArgs false
set_option linter.unusedVariables false
namespace Go.Proofs.YtgkbfahflngklaaGreat
namespace Spc
open Go.RowKit RowLaw
open Dev (Dev DS ptr newS yieldsIf_load_row)
open Cnt (own_slice own_kept own_base own_ne Thing Hall TD TOk tdOf tdOf_ok Sound Reads sealL sealCh sortOkFew nodup_len)
open Slt (Rt cells cells_one rootO infoR sizeR)
open Rot (planOk tlN pkN fsN fresh plan_facts planCells planCells_one sizePlan infoPlan refLayout_yes)
theorem begun_any {w:World} {n m cap hint:Nat} {xs:List (Nat×Nat)} {pa:Option Addr} (hm:m=xs.length) (hm40:m≤1000) (hx:Olds w pa xs) (h64:64≤n) (h200:n≤700) (hh:hint < 4294967296) :
  Calls Tryz.prog 26 #[.int .u32 (n:Int),.slice pa m cap,.int .u32 (hint:Int)] w fun e w'=>∃ bx t1 t p q T1 s S K x r vg vw vl,
   e=.returned (.agg (bothC (.pointer (some ⟨q,0,none⟩)) x.n vg vw x.wr r vl r.free r.hint (fsN n) 0 0))∧Begun w n xs hint bx t1 t p q T1 s S K x r (qC x.n vg vw x.wr r vl r.free r.hint (fsN n) 0 0) w':=by
 obtain ⟨s2,hf,hn2,hpl2,hS,hpend,hz0⟩:=begun_zero h64 (show n≤65536 by omega)
 have HF:=Lib.hid hf; have HN:=Lib.hid hn2; have HPL:=Lib.hid hpl2; have HS:=Lib.hid hS; have HZ0:=Lib.hid hz0; have HPN:=Lib.hid hpend
 have HX:=Lib.hid hx; have HM:=Lib.hid hm
 have HP0:Hid (planOk (newS n).n=true):=Lib.hid (by show decide _=true; exact decide_eq_true (by show 64≤n∧n≤1048576; omega))
 have hzb:=(zero_of_info infoBoth).1
 have hzr:=(zero_of_info infoR).1
 have hzd:=(zero_of_info infoRD).1
 have hzt:=(zero_of_info infoDT).1
 have hzp:=(zero_of_info infoPlan).1
 have hzq:=(zero_of_info infoQ).1
 obtain ⟨_,hfs1,_⟩:=plan_facts h64 (show n≤1048576 by omega)
 clear hf hn2 hpl2 hS hx hm hpend hz0
 go_enter Tryz.func26,Tryz.ntmps26
 go_upto_region 1 with fail
 change Code.wp _ _ _ _ (w.alloc (.cells bothZ 69))
 have hm0:=(Hall.start w).alloc (.cells bothZ 69)
 obtain ⟨gR,hgR⟩:∃ g,g=w.heap.size:=⟨_,rfl⟩
 rw [←hgR] at hm0 ⊢
 have HGR:Hid (w.heap.size≤gR):=Lib.hid (by omega)
 clear hgR
 generalize w.alloc (.cells bothZ 69)=W1 at hm0 ⊢
 go_wp2_with fail
 refine (Dev.New_any W1 n h64 (by omega)).mono ?_
 rintro e W2 ⟨p,B,rfl,hd,hB,hb⟩
 have hmm:Hall w [.dev p (newS n)] [(gR,.cells bothZ 69 (0,0))] W2:=hm0.push hb (x:=.dev p (newS n)) hd hB
 clear hd hB hb hm0
 have hc:=Hall.format hmm (i:=0) rfl HP0.out (by show 0 < 4293000000; omega) HF.out
 unfold ptr at hc ⊢
 have HC:=Lib.hid hc
 clear hc hmm
 go_wp2_with fail
 refine HC.out.mono ?_
 clear HC HP0
 rintro e W3 ⟨rfl,hmm⟩
 replace hmm:Hall w [.dev p s2] [(gR,.cells bothZ 69 (0,0))] W3:=hmm
 have hm3:=hmm.alloc (rootO (fresh n))
 have HG1:=Lib.hid (hmm.lt_ (q:=gR) (o:=.cells bothZ 69 (0,0)) List.mem_cons_self)
 have tok:True:=trivial
 clear hmm
 go_upto_region 3 with (have _t:=tok; refine wpList_store_new rfl 31 _ _ rfl (cells (fresh n)) _ _ rfl rfl (sizeR _) rfl (cells_one _) ?_; change wpList _ _ _ _ _ (W3.alloc (rootO (fresh n))); clear _t tok)
 change Code.wp _ _ _ _ (W3.alloc (rootO (fresh n)))
 obtain ⟨g9,hg9⟩:∃ g,g=W3.heap.size:=⟨_,rfl⟩
 rw [←hg9] at hm3 HG1 ⊢
 have HG9:Hid (w.heap.size≤g9∧gR < g9):=Lib.hid ⟨by have:=HGR.out; have:=HG1.out; omega,HG1.out⟩
 clear hg9 HG1
 generalize W3.alloc (rootO (fresh n))=W4 at hm3 ⊢
 have o9:W4.heap[g9]? = some (.cells (cells (fresh n)) 31 (0,0)):=hm3.at_ (q:=g9) (o:=rootO (fresh n)) List.mem_cons_self
 have hc:Calls Tryz.prog 16 #[.pointer (some ⟨p,0,none⟩),.agg (cells (fresh n))] W4 fun e W'=>∃ t,e=.returned (.tuple #[.pointer (some ⟨t,0,none⟩),.int .i64 0])∧Hall w [.dev p s2,.tab t (tdOf p s2 0)] [(g9,rootO (fresh n)),(gR,.cells bothZ 69 (0,0))] W':=
  Hall.open_ hm3 (i:=0) rfl HPL.out (r:=fresh n) HN.out.symm (by show 0 < 4294967296; omega)
 have HC:=Lib.hid hc
 clear hc hm3
 go_wp2_with (refine wpList_load_row rfl 31 _ rfl g9 rfl _ _ _ _ o9 Tryz.underlying31 rfl (sizeR _) ?_)
 refine HC.out.mono ?_
 clear HC o9
 rintro e W5 ⟨t1,rfl,hh⟩
 obtain ⟨K5,hK5⟩:∃ K,K=[(g9,rootO (fresh n)),(gR,.cells bothZ 69 (0,0))]:=⟨_,rfl⟩
 have HI9:Hid ((g9,rootO (fresh n))∈K5∧(gR,Obj.cells bothZ 69 (0,0))∈K5):=Lib.hid (by rw [hK5]; simp)
 rw [←hK5] at hh
 clear hK5
 go_wp2_with fail
 refine (New3_any (A:=inN K5 W5.heap.size) n h64 (by omega) W5).mono ?_
 rintro e W6 ⟨v6,rfl,hrd,hb⟩
 have htold:=hrd.told
 clear hrd
 obtain ⟨Ks,hk,hrd⟩:=htold
 have hh6:=(Hall.mores hh hb hk)
 have hI6:∀ y,y∈K5→y∈Ks ++ K5:=fun y hy=>List.mem_append_right _ hy
 replace HI9:=Lib.hid (And.intro (hI6 _ HI9.out.1) (hI6 _ HI9.out.2))
 generalize Ks ++ K5=K6 at hrd hh6 HI9
 clear hh hb hk hI6 Ks K5 W5
 obtain ⟨c6,rfl⟩:=hrd.agg
 have hm7:=hh6.alloc (.cells c6 62)
 have hrd7:=hrd.kept (W':=W6.alloc (.cells c6 62)) ((Below.refl _ _).alloc (Nat.le_refl _) _)
 have hz6:=rd_size hrd
 have tok:True:=trivial
 clear hh6 hrd
 go_upto_region 7 with (have _t:=tok; refine wpList_store_new rfl 62 _ _ rfl c6 _ _ rfl rfl hz6.1 (by rw [hz6.2.2]; first | done | rfl) hz6.2.1 ?_; clear _t tok)
 change Code.wp _ _ _ _ (W6.alloc (.cells c6 62))
 obtain ⟨g13,hg13⟩:∃ g,g=W6.heap.size:=⟨_,rfl⟩
 rw [←hg13] at hm7 ⊢
 clear hg13
 generalize W6.alloc (.cells c6 62)=W7 at hm7 hrd7 ⊢
 have hI6: ∀ y,y∈K6→y∈(g13,Obj.cells c6 62 (0,0))::K6:=fun y hy=>List.mem_cons_of_mem _ hy
 replace HI9:=Lib.hid (And.intro (hI6 _ HI9.out.1) (hI6 _ HI9.out.2))
 have hrd8: RD (inK ((g13,Obj.cells c6 62 (0,0))::K6)) W7 (.agg c6) ⟨n,[],[],0⟩:=hrd7.mono (fun b ⟨o,hb⟩=>⟨o,hI6 _ hb⟩)
 have o13:W7.heap[g13]? = some (.cells c6 62 (0,0)):=hm7.at_ (q:=g13) (o:=.cells c6 62 (0,0)) List.mem_cons_self
 generalize (g13,Obj.cells c6 62 (0,0))::K6=K7 at hm7 hrd8 HI9
 clear hI6 hrd7 K6
 have HC:=Lib.hid (Format8_any (A:=inN K7 W7.heap.size) (hrd8.mono (fun _ hb=>.inl hb)) (by have:=HPL.out; rw [HN.out] at this; exact this) (inN_new _ _))
 have HHM:=Lib.hid hm7
 clear hm7 hrd8
 go_wp2_with (refine wpList_load_row rfl 62 _ rfl g13 rfl _ _ _ _ o13 Tryz.underlying62 rfl hz6.1 ?_)
 refine HC.out.mono ?_
 clear HC o13 hz6
 rintro e W8 ⟨v8,rfl,hrd,hb⟩
 have htold:=hrd.told
 clear hrd
 obtain ⟨Ks,hk,hrd⟩:=htold
 have hh8:=(Hall.mores HHM.out hb hk)
 have hI6:∀ y,y∈K7→y∈Ks ++ K7:=fun y hy=>List.mem_append_right _ hy
 replace HI9:=Lib.hid (And.intro (hI6 _ HI9.out.1) (hI6 _ HI9.out.2))
 generalize Ks ++ K7=K8 at hrd hh8 HI9
 clear HHM hb hk hI6 Ks K7 W7
 obtain ⟨c8,rfl⟩:=hrd.agg
 have hz8:=rd_size hrd
 have a1:=hh8.alloc (.cells zeroD 62)
 have a2:=a1.alloc (rootO Slt.nil)
 rw [World.size_alloc] at a2
 have hlt8:∀ y∈K8,y.1 < W8.heap.size:=fun y hy=>hh8.lt_ (q:=y.1) (o:=y.2) hy
 have HLT:=Lib.hid hlt8
 have hge8:w.heap.size≤W8.heap.size:=Cnt.Hall.size hh8
 have HGE:=Lib.hid hge8
 have p15:((W8.alloc (.cells zeroD 62)).alloc (rootO Slt.nil)).heap[W8.heap.size]? = some (.cells zeroD 62 (0,0)):=a2.at_ (q:=W8.heap.size) (o:=.cells zeroD 62 (0,0)) (by simp)
 have p16:(((W8.alloc (.cells zeroD 62)).alloc (rootO Slt.nil)).setRow W8.heap.size c8).heap[W8.heap.size+1]? = some (.cells (cells Slt.nil) 31 (0,0)):=(setRow_other _ _ _ _ (by omega)).trans (a2.at_ (q:=W8.heap.size+1) (o:=rootO Slt.nil) List.mem_cons_self)
 have hA:=a2.less (K':=(W8.heap.size,.cells zeroD 62 (0,0))::(W8.heap.size+1,rootO Slt.nil)::K8) (fun y hy=>by
  simp only [List.mem_cons] at hy ⊢
  rcases hy with hy | hy | hy
  ·exact .inr (.inl hy)
  ·exact .inl hy
  ·exact .inr (.inr hy))
 have hB:=Hall.setRow (cs2:=c8) hA hge8 (fun y hy=>by
  rcases List.mem_cons.1 hy with rfl | hy
  ·exact Nat.succ_ne_self _
  ·have:=hlt8 y hy; omega)
 have hC:=Hall.setRow (cs2:=cells (fresh n)) (hB.less (K':=(W8.heap.size+1,rootO Slt.nil)::(W8.heap.size,.cells c8 62 (0,0))::K8) (fun y hy=>by
  simp only [List.mem_cons] at hy ⊢
  rcases hy with hy | hy | hy
  ·exact .inr (.inl hy)
  ·exact .inl hy
  ·exact .inr (.inr hy))) (show w.heap.size≤W8.heap.size+1 by omega) (fun y hy=>by
  rcases List.mem_cons.1 hy with rfl | hy
  ·show W8.heap.size≠W8.heap.size+1; omega
  ·have:=hlt8 y hy; omega)
 have hI6: ∀ y,y∈K8→y∈(W8.heap.size+1,rootO (fresh n))::(W8.heap.size,Obj.cells c8 62 (0,0))::K8:=fun y hy=>List.mem_cons_of_mem _ (List.mem_cons_of_mem _ hy)
 have hC': Hall w [.dev p s2,.tab t1 (tdOf p s2 0)] ((W8.heap.size+1,rootO (fresh n))::(W8.heap.size,Obj.cells c8 62 (0,0))::K8) ((((W8.alloc (.cells zeroD 62)).alloc (rootO Slt.nil)).setRow W8.heap.size c8).setRow (W8.heap.size+1) (cells (fresh n))):=hC
 have hrd9:RD (inK K8) ((((W8.alloc (.cells zeroD 62)).alloc (rootO Slt.nil)).setRow W8.heap.size c8).setRow (W8.heap.size+1) (cells (fresh n))) (.agg c8) (formX n):=hrd.over (Hall.same hh8 (hC'.less hI6))
 have HG159:=Lib.hid (HLT.out _ HI9.out.1)
 replace HI9:=Lib.hid (And.intro (hI6 _ HI9.out.1) (hI6 _ HI9.out.2))
 have HIQ: Hid ((W8.heap.size,Obj.cells c8 62 (0,0))∈(W8.heap.size+1,rootO (fresh n))::(W8.heap.size,Obj.cells c8 62 (0,0))::K8∧(W8.heap.size+1,rootO (fresh n))∈(W8.heap.size+1,rootO (fresh n))::(W8.heap.size,Obj.cells c8 62 (0,0))::K8):=Lib.hid (by simp)
 have HCC:=Lib.hid hC'
 have HRD:=Lib.hid (hrd9.mono (A':=inK ((W8.heap.size+1,rootO (fresh n))::(W8.heap.size,Obj.cells c8 62 (0,0))::K8)) (fun b ⟨o,hb⟩=>⟨o,hI6 _ hb⟩))
 have hir:(Tryz.prog.info? 31).map (·.size)=some (cells (fresh n)).size:=sizeR (fresh n)
 have hor:=cells_one (fresh n)
 clear hI6 hrd9 hrd hA hB hC hC' a1 a2 hh8 hge8 hlt8 HLT
 go_upto_region 8 with (first | (refine wpList_store_row rfl 62 _ _ rfl W8.heap.size _ rfl rfl _ _ p15 hz8.1 (by rw [hz8.2.2]; first | done | rfl) hz8.2.1 ?_) | (refine wpList_store_row rfl 31 _ _ rfl (W8.heap.size+1) _ rfl rfl _ _ p16 hir rfl hor ?_))
 change Code.wp _ _ _ _ ((((W8.alloc (.cells zeroD 62)).alloc (rootO Slt.nil)).setRow W8.heap.size c8).setRow (W8.heap.size+1) (cells (fresh n)))
 clear p15 p16
 generalize (((W8.alloc (.cells zeroD 62)).alloc (rootO Slt.nil)).setRow W8.heap.size c8).setRow (W8.heap.size+1) (cells (fresh n))=W9 at HCC HRD ⊢
 generalize W8.heap.size=g15 at HGE HG159 HIQ HI9 HCC HRD ⊢
 generalize (g15+1,rootO (fresh n))::(g15,Obj.cells c8 62 (0,0))::K8=K9 at HCC HRD HI9 HIQ
 clear K8 W8
 have o15:W9.heap[g15]? = some (.cells c8 62 (0,0)):=HCC.out.at_ HIQ.out.1
 have o16:W9.heap[g15+1]? = some (.cells (cells (fresh n)) 31 (0,0)):=HCC.out.at_ HIQ.out.2
 have HC:=Lib.hid (Open9_any (A:=inN K9 W9.heap.size) (r:=fresh n) (HRD.out.mono (fun _ hb=>.inl hb)) (show planOk n=true by have:=HPL.out; rw [HN.out] at this; exact this) rfl)
 go_wp2_with (first | (refine wpList_load_row rfl 62 _ rfl g15 rfl _ _ _ _ o15 Tryz.underlying62 rfl hz8.1 ?_) | (refine wpList_load_row rfl 31 _ rfl (g15+1) rfl _ _ _ _ o16 Tryz.underlying31 rfl hir ?_))
 refine HC.out.mono ?_
 clear HC o15 o16
 rintro e W10 ⟨v10,rfl,hdt,hb⟩
 have htold:=hdt.told
 clear hdt
 obtain ⟨Ks,hk,hdt⟩:=htold
 have hh10:=(Hall.mores HCC.out hb hk)
 have hrd10:=HRD.out.kept hb
 have hI6:∀ y,y∈K9→y∈Ks ++ K9:=fun y hy=>List.mem_append_right _ hy
 replace hrd10:=hrd10.mono (A':=inK (Ks ++ K9)) (fun b ⟨o,hb⟩=>⟨o,hI6 _ hb⟩)
 replace HI9:=Lib.hid (And.intro (hI6 _ HI9.out.1) (hI6 _ HI9.out.2))
 replace HIQ:=Lib.hid (hI6 _ HIQ.out.1)
 generalize Ks ++ K9=K10 at hdt hh10 hrd10 HI9 HIQ
 clear HCC HRD hb hk hI6 Ks K9 W9
 obtain ⟨c10,rfl⟩:=hdt.agg
 have hz10:=dt_size hdt
 have hm11:=hh10.alloc (.cells c10 65)
 have hdt11:=hdt.kept (W':=W10.alloc (.cells c10 65)) ((Below.refl _ _).alloc (Nat.le_refl _) _)
 have hrd11:=hrd10.kept (W':=W10.alloc (.cells c10 65)) ((Below.refl _ _).alloc (Nat.le_refl _) _)
 have hne11:∀ y∈K10,y.1 < W10.heap.size:=fun y hy=>hh10.lt_ (q:=y.1) (o:=y.2) hy
 have hge11:w.heap.size≤W10.heap.size:=Cnt.Hall.size hh10
 have tok:True:=trivial
 clear hh10 hdt hrd10
 go_upto_region 9 with (have _t:=tok; refine wpList_store_new rfl 65 _ _ rfl c10 _ _ rfl rfl hz10.1 (by rw [hz10.2.2]; first | done | rfl) hz10.2.1 ?_; clear _t tok)
 change Code.wp _ _ _ _ (W10.alloc (.cells c10 65))
 generalize W10.alloc (.cells c10 65)=W11 at hm11 hdt11 hrd11 ⊢
 generalize W10.heap.size=gt at hm11 hne11 hge11 ⊢
 have HBG:Hid (Bg w s2 (formX n) (fresh n) p t1 gt K10 [] W11):=Lib.hid ⟨tdOf p s2 0,K10,c10,hm11,fun _ h=>h,fun y hy=>Nat.ne_of_lt (hne11 y hy),hdt11,begun_same HS.out p,tdOf_ok HPL.out (by omega),HS.out.sound.reads p,rfl⟩
 have HLT:=Lib.hid hne11; have HGT:=Lib.hid hge11; have HRD:=Lib.hid hrd11
 have HM11:=Lib.hid (hm11.less (K':=K10) (fun y hy=>List.mem_cons_of_mem _ hy))
 clear hm11 hdt11 hrd11 hne11 hge11 hz8 hz10 hir hor W10
 go_wp2_with fail
 refine begun_sets HM.out hm40 HX.out HS.out HGT.out HBG.out ?_
 clear HBG HX
 intro _ _ _ _ _ _ _ _ _ _ _ _ _ _ _ _ _ _ _ _ _ _ _ _ _ _ _ _ _ _ _ _ _ _ W12 hbg
 obtain ⟨T,K,cs,hh,hK0,hne,hdt,hsame,htok,hrd,hTd⟩:=hbg
 have hle:=setLs_len s2.n xs xs.length
 rw [List.take_length] at hle
 obtain ⟨L,hL⟩:∃ L,L=setLs s2.n xs:=⟨_,rfl⟩
 rw [←hL] at hdt hsame hle
 have hKK: ∀ y∈K10,y∈(gt,Obj.cells cs 65 (0,0))::K:=fun y hy=>List.mem_cons_of_mem _ (hK0 y hy)
 have hrq:=(HRD.out.over (Hall.same HM11.out (hh.less hKK))).mono (A':=inK K) (fun b ⟨o,hb⟩=>⟨o,hK0 _ hb⟩)
 have o9:W12.heap[g9]? = some (.cells (cells (fresh n)) 31 (0,0)):=hh.at_ (hKK _ HI9.out.1)
 have n1:gR≠g9:=Nat.ne_of_lt HG9.out.2
 have n2:gt≠g9:=fun e=>by have:=HLT.out _ HI9.out.1; omega
 have n3:g15≠g9:=fun e=>by have:=HG159.out; omega
 have hmd: Md w [.dev p s2,.tab t1 T] g9 gt gR g15 (fresh n) (fresh n) (formX n) L cs c8 [] ((gt,Obj.cells cs 65 (0,0))::but g9 K) W12:=by
  have hi: ∀ b,(inK K b∧b≠g9)→inK ((gt,Obj.cells cs 65 (0,0))::but g9 K) b:=fun b hb=>by
   obtain ⟨o,h⟩:=but_in hb
   exact ⟨o,List.mem_cons_of_mem _ h⟩
  refine ⟨hh.less (fun y hy=>?_),fun y hy=>?_,HG9.out.1,List.mem_cons_self,List.mem_cons_of_mem _ (but_mem.2 ⟨hK0 _ HI9.out.2,n1⟩),List.mem_cons_of_mem _ (but_mem.2 ⟨hK0 _ HIQ.out,n3⟩),(hdt.off o9 (by decide) (by decide)).mono hi,(hrq.off o9 (by decide)).mono hi,fun y hy=>by cases hy⟩
  ·rcases List.mem_cons.1 hy with rfl | hy
   ·exact List.mem_cons_of_mem _ (hK0 _ HI9.out.1)
   ·rcases List.mem_cons.1 hy with rfl | hy
    ·exact List.mem_cons_self
    ·exact List.mem_cons_of_mem _ (but_mem.1 hy).1
  ·rcases List.mem_cons.1 hy with rfl | hy
   ·exact n2
   ·exact (but_mem.1 hy).2
 generalize (gt,Obj.cells cs 65 (0,0))::but g9 K=KA at hmd
 have hSL:Hid (Calls Tryz.prog 19 #[.pointer (some ⟨t1,0,none⟩)] W12 fun e W'=>(∃ (v:Value) (ks:List Nat),e=.returned (.tuple #[v,.int .u32 (sealCh T ks:Int),.int .i64 0])∧ks.Pairwise (· < ·)∧(∀ a,a∈ks↔(T.C a).isSome=true)∧
    W'.ownsRow W12.heap.size 55 257 v (sealL T ks).length (Dev.pendCells (sealL T ks)))∧Hall w [.dev p s2,.tab t1 T] ((g9,rootO (fresh n))::KA) W'∧Below W12.heap.size W12 W'):=
  Lib.hid (Hall.sealed sortOkFew hmd.hall (i:=1) (j:=0) (T:=T) (s:=s2) rfl (by rw [hTd]; rfl) hrd (fun ss h1 h2=>Nat.le_trans (nodup_len (tlN T.n) ss h1 (fun x hx=>by
   obtain ⟨ns,hns⟩:=Option.isSome_iff_exists.1 ((h2 x).1 hx)
   exact htok.ck x ns hns)) (by rw [hsame.n,HN.out]; unfold tlN; omega)) (by rw [hsame.n,HN.out]; omega))
 have HLC:=Lib.hid (dt_size hmd.dt)
 have HMD:=Lib.hid hmd; have HSM:=Lib.hid hsame; have HTK:=Lib.hid htok; have HLL:=Lib.hid hL; have HLE:=Lib.hid hle
 clear hmd hsame htok hL hle hrd hTd hh hK0 hne hdt hKK hrq o9 n1 n2 n3 HM11 HRD HI9 HIQ HG9 HG159 HLT
 go_wp2_with fail
 refine hSL.out.mono ?_
 clear hSL
 rintro e W13 ⟨⟨v13,ks,rfl,hks,hmem,hrow⟩,-,hb⟩
 have hsl:=HSM.out.sealed hks hmem
 obtain ⟨X,hX⟩:∃ X,X=sealD s2 (fresh n) L:=⟨_,rfl⟩
 rw [hsl,←hX] at hrow
 have hpv:PutsV (inN KA W12.heap.size) W13 v13 X.length X:=⟨rfl,own_base hrow (Nat.zero_le _),by rw [hX]; exact sealD_ok HS.out L,fun b e=>.inr (by
  rcases hrow.2 with ⟨h0,_⟩ | ⟨g,c,cur,h0,h1,_⟩
  ·rw [h0] at e; cases e
  ·rw [h0] at e; cases e; exact h1)⟩
 obtain ⟨pv,cv,hv,-⟩:=own_slice hrow
 subst hv
 have htold:=hpv.told
 clear hpv
 obtain ⟨Ks,hk,hpv⟩:=htold
 have hmd:=(HMD.out.more hb hk).add hpv
 generalize Ks ++ KA=KB at hmd
 have hlen:=sealD_len HS.out L
 rw [HN.out,←hX] at hlen
 have hlen2:X.length≤1000:=by unfold tlN at hlen; omega
 have HKS:=Lib.hid (And.intro hks hmem)
 obtain ⟨ch,hch⟩:∃ ch,ch=sealCh T ks:=⟨_,rfl⟩
 rw [←hch]
 have HCH:=Lib.hid hch; have HLEN:=Lib.hid hlen2; have HXE:=Lib.hid hX
 have hs9:=Seal9_any (A:=inN KB W13.heap.size) (hmd.dt.mono (fun _ hb=>.inl hb)) HS.out (by have:=HLE.out; have:=HM.out; omega) (inN_new _ _)
 rw [←hX] at hs9
 have HC:=Lib.hid hs9
 have ot:W13.heap[gt]? = some (.cells cs 65 (0,0)):=hmd.hall.at_ (List.mem_cons_of_mem _ hmd.gtm)
 have hzt2:=(dt_size hmd.dt).1
 have HMD2:=Lib.hid hmd
 clear HMD hb hk hpv hrow hlen hlen2 hks hmem hsl hch hX hs9 hmd Ks KA W12
 go_wp2_with (refine wpList_load_row rfl 65 _ rfl gt rfl _ _ _ _ ot Tryz.underlying65 rfl hzt2 ?_)
 refine HC.out.mono ?_
 clear HC ot hzt2
 rintro e W14 ⟨v14,z14,rfl,hpq,hb⟩
 obtain ⟨pq,cq,hv,-⟩:=own_slice hpq.row
 subst hv
 have htold:=hpq.told
 clear hpq
 obtain ⟨Ks,hk,hpq⟩:=htold
 have hmd:=(HMD2.out.more hb hk).add hpq
 generalize Ks ++ KB=KC at hmd
 have hp1:PutsV (inK KC) W14 (.slice pv X.length cv) X.length X:=hmd.pv _ (List.mem_cons_of_mem _ List.mem_cons_self)
 have hp2:PutsV (inK KC) W14 (.slice pq X.length cq) X.length X:=hmd.pv _ List.mem_cons_self
 have HC:=Lib.hid (SamePuts_any hp1 hp2 (by have:=HLEN.out; omega))
 have HMD:=Lib.hid hmd
 clear HMD2 hmd hp1 hp2 hb hk hpq Ks KB W13
 go_wp2_with fail
 refine HC.out.mono ?_
 clear HC
 rintro e W15 ⟨rfl,hb⟩
 have HMD2:=Lib.hid (HMD.out.below hb)
 clear HMD hb W14
 obtain ⟨tl,htl⟩:∃ z,z=tlN n:=⟨_,rfl⟩
 obtain ⟨pk,hpk⟩:∃ z,z=pkN n:=⟨_,rfl⟩
 obtain ⟨fs,hfs⟩:∃ z,z=fsN n:=⟨_,rfl⟩
 have hly:=refLayout_yes (n:=n) (by have:=HPL.out; rw [HN.out] at this; exact this) W15
 rw [←htl,←hpk,←hfs] at hly
 rw [←hfs] at hfs1
 have HFS:=Lib.hid hfs
 obtain ⟨cp,hcp⟩:∃ c,c=planCells tl pk fs:=⟨_,rfl⟩
 rw [←hcp] at hly
 have hzp1:(Tryz.prog.info? 82).map (·.size)=some cp.size∧cp.size=3∧cp.all (·.oneCell')=true:=by rw [hcp]; exact ⟨sizePlan _ _ _,rfl,planCells_one _ _ _⟩
 have HCP:Hid (cp[2]? = some (.int .u32 (fs:Int))):=Lib.hid (by rw [hcp]; rfl)
 have HFS1:=Lib.hid hfs1
 have HC:=Lib.hid hly
 clear htl hpk hfs hly hcp
 go_wp2_with fail
 refine HC.out.mono ?_
 clear HC
 rintro e W16 ⟨rfl,hb⟩
 have HMD:=Lib.hid ((HMD2.out.below hb).alloc (.cells cp 82))
 clear HMD2 hb W15 hfs1 hzb hzr hzd hzt
 have hst:=heap_alloc_new W16 (.cells #[.int .u32 0,.int .u32 0,.int .u32 0] 82)
 go_upto_region 19 with (refine wpList_store_row rfl 82 _ _ rfl W16.heap.size cp rfl rfl _ _ hst hzp1.1 (by rw [hzp1.2.1]; first | done | rfl) hzp1.2.2 ?_)
 change Code.wp _ _ _ _ ((W16.alloc (.cells #[.int .u32 0,.int .u32 0,.int .u32 0] 82)).setRow W16.heap.size cp)
 rw [World.setRow_alloc_new]
 clear hst
 generalize W16.alloc (.cells cp 82)=W17 at HMD ⊢
 generalize W16.heap.size=gp at HMD ⊢
 have hmd:=HMD.out
 clear HMD
 have hgp: (gp,Obj.cells cp 82 (0,0))∈(gp,Obj.cells cp 82 (0,0))::KC:=List.mem_cons_self
 generalize (gp,Obj.cells cp 82 (0,0))::KC=KD at hmd hgp
 have HGP:=Lib.hid hgp
 clear hgp W16 KC
 have o9:W17.heap[g9]? = some (.cells (cells (fresh n)) 31 (0,0)):=hmd.hall.at_ List.mem_cons_self
 have k0:W17.cell? ⟨g9,0,none⟩=some (.int .u64 ((fresh n).gen:Int)):=(cell_of_row W17 g9 0 _ _ _ o9).trans rfl
 have k2:W17.cell? ⟨g9,2,none⟩=some (.int .u32 ((fresh n).picks:Int)):=(cell_of_row W17 g9 2 _ _ _ o9).trans rfl
 have f0:=frozen_of_row W17 g9 0 _ _ o9
 have f2:=frozen_of_row W17 g9 2 _ _ o9
 have HMD:=Lib.hid ((hmd.put (j:=0) (v:=.int .u64 2) (r':={ fresh n with gen:=2 }) rfl).put (j:=2) (v:=.int .u32 (ch:Int)) (r':={ fresh n with gen:=2,picks:=ch }) rfl)
 clear hmd o9
 go_upto_region 21 with fail
 change Code.wp _ _ _ _ ((W17.setCell ⟨g9,0,none⟩ (.int .u64 2)).setCell ⟨g9,2,none⟩ (.int .u32 (ch:Int)))
 generalize (W17.setCell ⟨g9,0,none⟩ (.int .u64 2)).setCell ⟨g9,2,none⟩ (.int .u32 (ch:Int))=W18 at HMD ⊢
 clear k0 k2 f0 f2 W17
 have hfs1:=HFS1.out
 obtain ⟨d,hd⟩:∃ d,d=n - fs:=⟨_,rfl⟩
 obtain ⟨mm,hmmo⟩:∃ k,k=hint % d:=⟨_,rfl⟩
 have hmlt:mm < d:=by rw [hmmo]; exact Nat.mod_lt _ (by omega)
 obtain ⟨h,hhe⟩:∃ h,h=fs+mm:=⟨_,rfl⟩
 have e1:(n:Int) - (fs:Int)=(d:Int):=by omega
 have e2:(hint:Int) % (d:Int)=(mm:Int):=by rw [hmmo]; omega
 have e3:(hint:Int).tmod (d:Int)=(mm:Int):=by rw [Int.tmod_eq_emod_of_nonneg (by omega)]; exact e2
 have e4:(fs:Int)+(mm:Int)=(h:Int):=by omega
 have e5:¬ (d:Int)=0:=by omega
 have e6:¬ d=0:=by omega
 have z1:IntKind.u32.wrap (d:Int)=(d:Int):=IntWalk.u32_in _ (by omega)
 have z2:IntKind.u32.wrap (mm:Int)=(mm:Int):=IntWalk.u32_in _ (by omega)
 have z3:IntKind.u32.wrap (h:Int)=(h:Int):=IntWalk.u32_in _ (by omega)
 have HH:=Lib.hid (And.intro hd (And.intro hmmo hhe))
 have HHL:Hid (fs≤h∧h < n):=Lib.hid (by omega)
 clear hd hmmo hhe hmlt hfs1
 refine wp_region_noPanic ?_
 refine wp_region_held_drew (S:=fun W=>W.cell? ⟨gp,2,none⟩=some (.int .u32 (fs:Int))) (by kernel_rfl) (show W18.drew.cell? ⟨gp,2,none⟩=some (.int .u32 (fs:Int)) from (cell_of_row W18 gp 2 _ _ _ (HMD.out.hall.at_ (List.mem_cons_of_mem _ HGP.out))).trans HCP.out) ?_
 intro hS
 have hmd:=HMD.out.below (W':=W18.drew) ⟨rfl,rfl,rfl,Nat.le_refl _,fun _ _=>rfl⟩
 clear HMD
 generalize W18.drew=V0 at hS hmd ⊢
 refine RowLaw.tkV 0 142 (.pointer (some ⟨gp,2,none⟩)) hS ?_
 simp only [RowLaw.lset]
 refine RowLaw.tkV 1 143 (.int .u32 (fs:Int)) hS ?_ (hy:=(Or.inl ⟨by rfl,fun W hW=>by have c:W.cell? ⟨gp,2,none⟩=some (.int .u32 (fs:Int)):=hW; go_simp⟩))
 simp only [RowLaw.lset]
 refine RowLaw.tkV 2 144 (.int .u32 (hint:Int)) hS ?_
 simp only [RowLaw.lset]
 refine RowLaw.tkV 3 145 (.int .u32 (n:Int)) hS ?_
 simp only [RowLaw.lset]
 refine RowLaw.tkV 4 146 (.pointer (some ⟨gp,2,none⟩)) hS ?_
 simp only [RowLaw.lset]
 refine RowLaw.tkV 5 147 (.int .u32 (fs:Int)) hS ?_ (hy:=(Or.inl ⟨by rfl,fun W hW=>by have c:W.cell? ⟨gp,2,none⟩=some (.int .u32 (fs:Int)):=hW; go_simp⟩))
 simp only [RowLaw.lset]
 refine RowLaw.tkV 6 148 (.int .u32 (d:Int)) hS ?_
 simp only [RowLaw.lset]
 refine RowLaw.tkV 7 149 (.int .u32 (mm:Int)) hS ?_
 simp only [RowLaw.lset]
 refine RowLaw.tkV 8 150 (.int .u32 (h:Int)) hS ?_
 simp only [RowLaw.lset]
 refine RowLaw.tkV 9 151 (.pointer (some ⟨g9,6,none⟩)) hS ?_
 simp only [RowLaw.lset]
 refine wpAnyH_ready (rs:=[10]) (by kernel_rfl) (by simp) ?_
 refine AllReadyH.cons rfl (fun K hK=>?_) AllReadyH.nil
 rw [if_pos (by rfl)]
 have o9:V0.heap[g9]? = some (.cells (cells { fresh n with gen:=2,picks:=ch }) 31 (0,0)):=hmd.hall.at_ List.mem_cons_self
 have k6:V0.cell? ⟨g9,6,none⟩=some (.int .u32 ((fresh n).hint:Int)):=(cell_of_row V0 g9 6 _ _ _ o9).trans rfl
 have f6:=frozen_of_row V0 g9 6 _ _ o9
 have HMD:=Lib.hid (hmd.put (j:=6) (v:=.int .u32 (h:Int)) (r':={ fresh n with gen:=2,picks:=ch,hint:=h }) rfl)
 clear hmd
 go_simp
 refine hK _ _ ((cell_of_row _ gp 2 _ _ _ (HMD.out.hall.at_ (List.mem_cons_of_mem _ HGP.out))).trans HCP.out) (fun hfz=>?_)
 clear hK K o9 k6 f6
 try simp only [Act.put,List.setIfInBounds_toArray,RowLaw.lset]
 refine wpAnyH_done (by kernel_rfl) ?_ _
 refine NoPanic.normal ?_
 generalize V0.setCell ⟨g9,6,none⟩ (.int .u32 (h:Int))=V1 at HMD ⊢
 clear hS e1 e2 e3 e4 e5 e6 z1 z2 z3 hfz V0 W18
 have o9:V1.heap[g9]? = some (.cells (cells { fresh n with gen:=2,picks:=ch,hint:=h }) 31 (0,0)):=HMD.out.hall.at_ List.mem_cons_self
 have k4:V1.cell? ⟨g9,4,none⟩=some (.int .u32 ((fresh n).free:Int)):=(cell_of_row V1 g9 4 _ _ _ o9).trans rfl
 have f4:=frozen_of_row V1 g9 4 _ _ o9
 have HMD2:=Lib.hid (HMD.out.put (j:=4) (v:=.int .u32 0) (r':={ fresh n with gen:=2,picks:=ch,hint:=h,free:=0 }) rfl)
 clear HMD o9
 go_upto_region 23 with fail
 change Code.wp _ _ _ _ (V1.setCell ⟨g9,4,none⟩ (.int .u32 0))
 generalize V1.setCell ⟨g9,4,none⟩ (.int .u32 0)=V2 at HMD2 ⊢
 clear k4 f4 V1
 have k27:V2.cell? ⟨gp,2,none⟩=some (.int .u32 (fs:Int)):=(cell_of_row V2 gp 2 _ _ _ (HMD2.out.hall.at_ (List.mem_cons_of_mem _ HGP.out))).trans HCP.out
 go_wp2_with fail
 clear k27
 obtain rfl:=HFS.out
 obtain rfl:=HN.out
 refine begun_free (s:=s2) (r2:={ fresh s2.n with gen:=2,picks:=ch,hint:=h }) (by have:=HLE.out; have:=HM.out; omega) HS.out HMD2.out.ge (HMD2.out.fg (r:={ fresh s2.n with gen:=2,picks:=ch,hint:=h }) (f:=0)) ?_
 intro _ _ _ _ _ _ _ _ _ _ _ _ _ _ _ _ _ _ _ _ V3 hfg
 have hmd:=HMD2.out.move (r':={ fresh s2.n with gen:=2,picks:=ch,hint:=h,free:=freeTo s2 (fresh s2.n) L (s2.n - fsN s2.n) }) hfg.hall
 have hF:=freeTo_le s2 (fresh s2.n) L (s2.n - fsN s2.n)
 obtain ⟨F,hFe⟩:∃ F,F=freeTo s2 (fresh s2.n) L (s2.n - fsN s2.n):=⟨_,rfl⟩
 rw [←hFe] at hmd hF
 obtain ⟨rB,hrB⟩:∃ r,r=rootB s2.n ch h F:=⟨_,rfl⟩
 replace hmd:Md w [.dev p s2,.tab t1 T] g9 gt gR g15 rB (fresh s2.n) (formX s2.n) L cs c8 [(.slice pq X.length cq,X),(.slice pv X.length cv,X)] KD V3:=by
  rw [hrB]
  exact hmd
 obtain ⟨hc2,s',hcm,hn',hS',ho⟩:=HS.out.next rfl HSM.out HTK.out HKS.out.1 HKS.out.2 (h:=h) (f:=F) HHL.out.1 HHL.out.2 hF
 rw [←HCH.out] at hc2
 rw [←HCH.out,←HXE.out,←hrB] at hcm hS'
 rw [←HCH.out,←hrB] at ho
 have hok:Rot.commitOk s2.n X rB=true:=by
  rw [HXE.out,hrB]
  exact rootB_commit HS.out L hc2 HHL.out.1 HHL.out.2 hF
 have hq1:PutsV (inK KD) V3 (.slice pv X.length cv) X.length X:=hmd.pv _ (List.mem_cons_of_mem _ List.mem_cons_self)
 have hpu:=hq1.mono (A':=inK ((g9,rootO rB)::KD)) (fun b ⟨o,hb⟩=>⟨o,List.mem_cons_of_mem _ hb⟩)
 have hcc:=Cnt.Hall.commit hmd.hall (i:=0) (p:=p) (pa:=pv) (n:=X.length) (c:=cv) rfl HPL.out rfl (PutsV.puts hpu).1 ((PutsV.puts hpu).2 w) hS'.fits (by rw [HPN.out]; have:=HLEN.out; simp only [List.length_nil]; omega) hcm
 unfold ptr at hcc
 have HC:=Lib.hid hcc
 have o9:V3.heap[g9]? = some (.cells (cells rB) 31 (0,0)):=hmd.hall.at_ List.mem_cons_self
 have hirB:(Tryz.prog.info? 31).map (·.size)=some (cells rB).size:=sizeR rB
 have hpl':planOk s'.n=true:=by rw [hn']; exact HPL.out
 have HMD:=Lib.hid hmd
 have HFE:=Lib.hid hFe; have HRB:=Lib.hid hrB; have HF2:=Lib.hid hF; have HC2:=Lib.hid hc2; have HN2:=Lib.hid hn'; have HS2:=Lib.hid hS'; have HO:=Lib.hid ho; have HOK:=Lib.hid hok; have HPL2:=Lib.hid hpl'
 clear HMD2 hfg hmd hF hFe hrB hc2 hcm hn' hS' ho hok hq1 hpu hcc hpl' V2 HSM HTK HKS HPN
 go_wp2_with (refine wpList_load_row rfl 31 _ rfl g9 rfl _ _ _ _ o9 Tryz.underlying31 rfl hirB ?_)
 refine HC.out.mono ?_
 clear HC o9
 rintro e V4 ⟨rfl,hh⟩
 have hmd:=HMD.out.move (r':=rB) hh
 replace hmd:Md w [.dev p s',.tab t1 T] g9 gt gR g15 rB (fresh s2.n) (formX s2.n) L cs c8 [(.slice pq X.length cq,X),(.slice pv X.length cv,X)] KD V4:=hmd
 have hq2:PutsV (inK KD) V4 (.slice pq X.length cq) X.length X:=hmd.pv _ List.mem_cons_self
 have HC:=Lib.hid (Commit8_any (A:=inN KD V4.heap.size) (hmd.rd.mono (fun _ hb=>.inl hb)) (hq2.mono (A':=inN KD V4.heap.size) (fun _ hb=>.inl hb)) (show planOk s2.n=true from HPL.out) (show Rot.commitOk s2.n X rB=true from HOK.out) HS2.out.fits rfl (show 3+X.length+10 < 1000000000 by have:=HLEN.out; omega) (show 1+X.length+10 < 1000000 by have:=HLEN.out; omega) (inN_new _ _))
 have o9:V4.heap[g9]? = some (.cells (cells rB) 31 (0,0)):=hmd.hall.at_ List.mem_cons_self
 have o15:V4.heap[g15]? = some (.cells c8 62 (0,0)):=hmd.hall.at_ (List.mem_cons_of_mem _ hmd.gqm)
 have hz8:=rd_size hmd.rd
 have HMD2:=Lib.hid hmd
 clear HMD hmd hh hq2 V3
 go_wp2_with (first | (refine wpList_load_row rfl 62 _ rfl g15 rfl _ _ _ _ o15 Tryz.underlying62 rfl hz8.1 ?_) | (refine wpList_load_row rfl 31 _ rfl g9 rfl _ _ _ _ o9 Tryz.underlying31 rfl hirB ?_))
 refine HC.out.mono ?_
 clear HC o9 o15
 rintro e V5 ⟨v21,rfl,hrd,hb⟩
 obtain ⟨x',hx'⟩:∃ x',x'=commitX (formX s2.n) X rB:=⟨_,rfl⟩
 rw [←hx'] at hrd
 have HS3:Hid (Sees x' rB s'):=Lib.hid (by rw [hx']; exact HS2.out)
 have HXN:Hid (x'.n=s2.n):=Lib.hid (by rw [hx']; rfl)
 clear hx' HS2
 have htold:=hrd.told
 clear hrd
 obtain ⟨Ks,hk,hrd⟩:=htold
 have hmd:=HMD2.out.more hb hk
 have hgp:(gp,Obj.cells cp 82 (0,0))∈Ks ++ KD:=List.mem_append_right _ HGP.out
 generalize Ks ++ KD=KE at hrd hmd hgp
 obtain ⟨c21,rfl⟩:=hrd.agg
 have hz21:=rd_size hrd
 have o15:V5.heap[g15]? = some (.cells c8 62 (0,0)):=hmd.hall.at_ (List.mem_cons_of_mem _ hmd.gqm)
 have hmf:=hmd.mf hgp hrd HGE.out
 clear HMD2 HGP hb hk hrd hmd hgp Ks KD V4
 go_upto_region 32 with (refine wpList_store_row rfl 62 _ _ rfl g15 _ rfl rfl _ _ o15 hz21.1 (by rw [hz8.2.2,hz21.2.2]) hz21.2.1 ?_)
 change Code.wp _ _ _ _ (V5.setRow g15 c21)
 generalize V5.setRow g15 c21=V6 at hmf ⊢
 generalize (g15,Obj.cells c21 62 (0,0))::but g15 ((g9,rootO rB)::KE)=K6 at hmf
 clear o15 hz8 V5 KE
 have hrs:rB.size=s'.n:=by rw [HRB.out,HN2.out]; rfl
 have hop:=Cnt.Hall.open_ hmf.hall (i:=0) (p:=p) (s:=s') rfl HPL2.out (r:=rB) hrs (by rw [HRB.out]; have:=HC2.out; show ch < 4294967296; omega)
 unfold ptr at hop
 have HC:=Lib.hid hop
 have o9:V6.heap[g9]? = some (.cells (cells rB) 31 (0,0)):=hmf.hall.at_ hmf.m9
 have HMF:=Lib.hid hmf; have HRS:=Lib.hid hrs
 clear hmf hop hrs
 go_wp2_with (refine wpList_load_row rfl 31 _ rfl g9 rfl _ _ _ _ o9 Tryz.underlying31 rfl hirB ?_)
 refine HC.out.mono ?_
 clear HC o9
 rintro e V7 ⟨t,rfl,hh⟩
 have hmf:=HMF.out.move hh
 replace hmf:Mf w [.dev p s',.tab t1 T,.tab t (tdOf p s' rB.picks)] g9 gt gR g15 gp rB x' cs c21 cp K6 V7:=hmf
 have HC:=Lib.hid (Open9_any (A:=inN K6 V7.heap.size) (r:=rB) (hmf.rd.mono (fun _ hb=>.inl hb)) (show planOk x'.n=true by rw [HXN.out]; exact HPL.out) (show rB.size=x'.n by rw [HRS.out,HN2.out,HXN.out]))
 have o9:V7.heap[g9]? = some (.cells (cells rB) 31 (0,0)):=hmf.hall.at_ hmf.m9
 have o15:V7.heap[g15]? = some (.cells c21 62 (0,0)):=hmf.hall.at_ hmf.mq
 have HMF2:=Lib.hid hmf
 clear HMF hmf hh V6
 go_wp2_with (first | (refine wpList_load_row rfl 62 _ rfl g15 rfl _ _ _ _ o15 Tryz.underlying62 rfl hz21.1 ?_) | (refine wpList_load_row rfl 31 _ rfl g9 rfl _ _ _ _ o9 Tryz.underlying31 rfl hirB ?_))
 refine HC.out.mono ?_
 clear HC o9 o15 hz21
 rintro e V8 ⟨v33,rfl,hdt,hb⟩
 have htold:=hdt.told
 clear hdt
 obtain ⟨Ks,hk,hdt⟩:=htold
 have hmf:=HMF2.out.more hb hk
 generalize Ks ++ K6=K8 at hdt hmf
 obtain ⟨c33,rfl⟩:=hdt.agg
 have hz33:=dt_size hdt
 have ot:V8.heap[gt]? = some (.cells cs 65 (0,0)):=hmf.hall.at_ hmf.mt
 have hzt1:=HLC.out
 obtain ⟨hmf3,hdt3⟩:=hmf.tab HGT.out hdt
 clear HMF2 hb hk hdt hmf Ks K6 V7
 go_upto_region 34 with (refine wpList_store_row rfl 65 _ _ rfl gt _ rfl rfl _ _ ot hz33.1 (by rw [hzt1.2.2,hz33.2.2]) hz33.2.1 ?_)
 change Code.wp _ _ _ _ (V8.setRow gt c33)
 generalize V8.setRow gt c33=V9 at hmf3 hdt3 ⊢
 generalize (gt,Obj.cells c33 65 (0,0))::but gt K8=K9 at hmf3 hdt3
 clear ot hzt1 V8 K8
 have hT':(tdOf p s' rB.picks).n=s2.n:=HN2.out
 have hok':TOk (tdOf p s' rB.picks):=tdOf_ok HPL2.out (by rw [HRB.out]; have:=HC2.out; show ch < 4294967296; omega)
 have hnew:=New_any hmf3.hall (i:=2) (j:=0) (t:=t) (s:=s') (T:=tdOf p s' rB.picks) rfl rfl (by decide) (HS3.out.sound.reads p) hok' (r:=rB) (by rw [hT']; exact HRS.out.trans HN2.out) (by rw [hT',HRB.out]; exact HHL.out.1) (by rw [hT',HRB.out]; exact HHL.out.2) (by rw [HRB.out]; have:=HF2.out; show F < 1000000; omega)
 unfold ptr at hnew
 have HC:=Lib.hid hnew
 have o9:V9.heap[g9]? = some (.cells (cells rB) 31 (0,0)):=hmf3.hall.at_ hmf3.m9
 have HMF:=Lib.hid hmf3; have HDT:=Lib.hid hdt3
 clear hmf3 hdt3 hT' hok' hnew
 go_wp2_with (refine wpList_load_row rfl 31 _ rfl g9 rfl _ _ _ _ o9 Tryz.underlying31 rfl hirB ?_)
 refine HC.out.mono ?_
 clear HC o9
 rintro e V10 ⟨q,bx,rfl,hrm⟩
 have hsm:=Hall.same (HMF.out.hall) (hrm.hall.less (K':=K9) (fun y hy=>List.mem_cons_of_mem _ (List.mem_cons_of_mem _ hy)))
 have hcK: ∀ y,y∈K9→y∈(bx,bxO q)::K9:=fun y hy=>List.mem_cons_of_mem _ hy
 have hdt:=(HDT.out.over hsm).mono (A':=inK ((bx,bxO q)::K9)) (fun b ⟨o,hb⟩=>⟨o,hcK _ hb⟩)
 have hat:∀ {y o},(y,o)∈K9→V10.heap[y]? = some o:=fun hy=>hrm.hall.at_ (List.mem_cons_of_mem _ (hcK _ hy))
 have o9:=hat HMF.out.m9
 have ot:=hat HMF.out.mt
 have op:=hat HMF.out.mp
 have kp:V10.cell? ⟨gp,2,none⟩=some (.int .u32 (fsN s2.n:Int)):=(cell_of_row V10 gp 2 _ _ _ op).trans HCP.out
 have HMR: Hid ((gR,Obj.cells bothZ 69 (0,0))∈(bx,bxO q)::K9):=Lib.hid (hcK _ HMF.out.mR)
 generalize (bx,bxO q)::K9=K10 at hrm hdt HMR
 obtain ⟨fs,hfs⟩:∃ f,f=fsN s2.n:=⟨_,rfl⟩
 rw [←hfs] at kp
 have hn10:=New10_any (A:=inN K10 V10.heap.size) (hdt.mono (fun _ hb=>.inl hb)) (first:=fs) (show fs≤rB.hint by rw [HRB.out,hfs]; exact HHL.out.1) (show rB.hint < rB.size by rw [HRB.out]; exact HHL.out.2)
 have HC:=Lib.hid hn10
 have HRM:=Lib.hid hrm
 have HFS9:=Lib.hid hfs
 clear HMF HDT hsm hfs hcK hdt hat op hn10 hrm V9 K9
 go_wp2_with (first | (refine wpList_load_row rfl 65 _ rfl gt rfl _ _ _ _ ot Tryz.underlying65 rfl hz33.1 ?_) | (refine wpList_load_row rfl 31 _ rfl g9 rfl _ _ _ _ o9 Tryz.underlying31 rfl hirB ?_))
 refine HC.out.mono ?_
 clear HC o9 ot kp hz33 hirB
 rintro e V11 ⟨v35,rfl,hqt,hb⟩
 have htold:=hqt.told
 clear hqt
 obtain ⟨Ks,hk,hqt⟩:=htold
 have hrm:=HRM.out.more hb hk
 have hmR:(gR,Obj.cells bothZ 69 (0,0))∈Ks ++ K10:=List.mem_append_right _ HMR.out
 generalize Ks ++ K10=K11 at hqt hrm hmR
 have hqt':=hqt
 obtain ⟨vg,vw,vl,rfl,hr0,hl0⟩:=hqt'
 have hiq:=sizeQ x'.n vg vw x'.wr rB vl rB.free rB.hint (fs) 0 0
 have hq1c:=qC_one x'.n x'.wr rB rB.free rB.hint (fs) 0 0 hr0.slices.1 hr0.slices.2 hl0.slice
 have hb1c:=bothC_one q x'.n x'.wr rB rB.free rB.hint (fs) 0 0 hr0.slices.1 hr0.slices.2 hl0.slice
 have hib:=sizeBoth (.pointer (some ⟨q,0,none⟩)) x'.n vg vw x'.wr rB vl rB.free rB.hint (fs) 0 0
 have hbe:Below V11.heap.size V11 (V11.alloc (.cells (qC x'.n vg vw x'.wr rB vl rB.free rB.hint (fs) 0 0) 67)):=(Below.refl _ _).alloc (Nat.le_refl _) _
 have hrm2:=Rm.below hrm hbe
 have hqt2:=hqt.kept hbe
 have oQ:=heap_alloc_new V11 (.cells (qC x'.n vg vw x'.wr rB vl rB.free rB.hint (fs) 0 0) 67)
 have tok:True:=trivial
 clear HRM HMR hb hk hqt hrm hr0 hl0 hbe Ks K10 V10
 have oR:(V11.alloc (.cells (qC x'.n vg vw x'.wr rB vl rB.free rB.hint (fs) 0 0) 67)).heap[gR]? = some (.cells bothZ 69 (0,0)):=hrm2.hall.at_ (List.mem_cons_of_mem _ hmR)
 have hst:=heap_alloc_new V11 (.cells (qC 0 (.slice none 0 0) (.slice none 0 0) 0 Slt.nil (.slice none 0 0) 0 0 0 0 0) 67)
 go_upto_region 36 with (refine wpList_store_row rfl 67 _ _ rfl V11.heap.size (qC x'.n vg vw x'.wr rB vl rB.free rB.hint (fs) 0 0) rfl rfl _ _ hst hiq rfl hq1c ?_)
 change Code.wp _ _ _ _ ((V11.alloc (.cells (qC 0 (.slice none 0 0) (.slice none 0 0) 0 Slt.nil (.slice none 0 0) 0 0 0 0 0) 67)).setRow V11.heap.size (qC x'.n vg vw x'.wr rB vl rB.free rB.hint (fs) 0 0))
 rw [World.setRow_alloc_new]
 clear hst
 have hrm3:=Rm.setR (cs2:=bothC (.pointer (some ⟨q,0,none⟩)) x'.n vg vw x'.wr rB vl rB.free rB.hint (fs) 0 0) hrm2 hmR HGR.out (by decide)
 have hqt3:=((hqt2.off oR (by decide) (by decide)).over (fun b hb=>setRow_other _ gR b (bothC (.pointer (some ⟨q,0,none⟩)) x'.n vg vw x'.wr rB vl rB.free rB.hint (fs) 0 0) hb.2)).mono (A':=inK ((gR,Obj.cells (bothC (.pointer (some ⟨q,0,none⟩)) x'.n vg vw x'.wr rB vl rB.free rB.hint (fs) 0 0) 69 (0,0))::but gR K11)) (fun b hb=>by
  obtain ⟨o,ho⟩:=but_in hb
  exact ⟨o,List.mem_cons_of_mem _ ho⟩)
 have HRM:=Lib.hid hrm3; have HQT:=Lib.hid hqt3
 clear hrm2 hqt2 hrm3 hqt3 hmR hq1c
 generalize V11.alloc (.cells (qC x'.n vg vw x'.wr rB vl rB.free rB.hint (fs) 0 0) 67)=V12 at HRM HQT oQ oR ⊢
 generalize V11.heap.size=gQ at oQ ⊢
 go_wp2_with (first | (refine wpList_load_row rfl 67 _ rfl gQ rfl _ _ _ _ oQ Tryz.underlying67 rfl hiq ?_) | (refine wpList_build_both rfl _ _ rfl q x'.n vg vw x'.wr rB vl rB.free rB.hint (fs) 0 0 rfl rfl ?_) | (refine wpList_store_row rfl 69 _ _ rfl gR _ rfl rfl _ _ oR hib rfl hb1c ?_))
 obtain rfl:=HFS9.out
 refine bodyPost_ret (results_cell_row rfl _ _ _ _ _ _ _ rfl (setRow_heap _ _ _ _ _ _ oR) Tryz.underlying69 rfl hib) rfl ⟨bx,t1,t,p,q,T,s',⟨tdOf p s' rB.picks,(F:Int),(F:Int),h⟩,_,x',rB,vg,vw,vl,rfl,⟨?_,HQT.out,HS3.out,?_,fun a=>rfl,?_,?_,HN2.out⟩⟩
 ·show Rm w [.dev p s',.tab t1 T,.tab t (tdOf p s' rB.picks)] _ 2 0 q t bx _ s' (F:Int) (F:Int) h _
  have hrm:=HRM.out
  have e1:rB.free=F:=by rw [HRB.out]; rfl
  have e2:rB.hint=h:=by rw [HRB.out]; rfl
  rw [←e1,←e2]
  exact hrm
 ·have hst:=start_of (s:=s2) (s':=s') (r:=fresh s2.n) (xs:=xs) (ch:=ch) (hint:=hint) (d:=p) h64 (by omega) HZ0.out HN2.out HPL2.out HC2.out (fun a=>by
   have:=HO.out a
   rw [←HLL.out]
   rw [show (tdOf p s' ch).oldC a=oldS s' rB a from by rw [HRB.out]; rfl]
   exact this)
  rw [←HLL.out,←HFE.out] at hst
  have e1:rB.picks=ch:=by rw [HRB.out]; rfl
  have e2:fsN s2.n+hint % (s2.n - fsN s2.n)=h:=by rw [HH.out.2.2,HH.out.2.1,HH.out.1]
  rw [e2,←e1] at hst
  exact hst
 ·show (F:Int)=(rB.free:Int)
  rw [HRB.out]
  rfl
 ·show h=rB.hint
  rw [HRB.out]
  rfl
end Spc

end Go.Proofs.YtgkbfahflngklaaGreat
