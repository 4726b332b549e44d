import Derived.Test.YtgkbfahflngklaaGreatSpcE
import Derived.Test.YtgkbfahflngklaaGreatSpcC
import Derived.Deep.QuietTactic
import Derived.BigQuiet
import Derived.Test.YtgkbfahflngklaaGreatKit1
set_option maxRecDepth 100000
set_option maxHeartbeats 12800000
set_option linter.unusedSimpArgs false
namespace Go.Proofs.YtgkbfahflngklaaGreat
namespace Spc
open Go.RowKit RowLaw
open Dev (ptr DS readB)
open Cnt (own_slice own_kept own_base own_ne TD tdOf tdOf_ok Sound cntV cntE setE)
open Slt (Rt cells cells_one infoR sizeR)
open Rot (planOk tlN pkN fsN wpList_build_run)
variable {A:Nat→Prop}
theorem infoSet:(Tryz.prog.info? 277).map (fun i=>(i.zero,i.size,i.bytes))=some (some (.agg (setCells (0,0)).toArray),2,8):=by kernel_rfl
theorem setCells_one (x:Nat×Nat):∀ u∈setCells x,u.oneCell'=true:=fun u hu=>by
 simp only [setCells,List.mem_cons,List.not_mem_nil,or_false] at hu
 rcases hu with rfl | rfl <;> rfl
theorem setsCells_one (xs:List (Nat×Nat)):∀ u∈setsCells xs,u.oneCell'=true:=fun u hu=>by
 obtain ⟨x,_,hx⟩:=List.mem_flatMap.1 hu
 exact setCells_one x u hx
theorem run_buildSet (W:World) (x:Nat×Nat):(Instr.buildSlice 63 1 #[(0,.agg (setCells x).toArray)]).run Tryz.prog W=.ok (.slice (some ⟨W.heap.size,0,none⟩) 1 1) (W.alloc (.cells (setCells x).toArray 277)):=by
 go_simp
 rfl
def setL (n:Nat) (L:List (Nat×Nat)) (a v:Nat):List (Nat×Nat):=if fsN n≤a∧a < n then L ++ [(a,v)] else L
theorem dtC_one (n wr:Nat) (r:Rt) {vg vw vl:Value} (h1:vg.oneCell'=true) (h2:vw.oneCell'=true) (h3:vl.oneCell'=true):(dtC n vg vw wr r vl).all (·.oneCell')=true:=by
 simp [dtC,Value.oneCell']
 exact ⟨h1,h2,h3⟩
theorem SetsV.slice {W:World} {v:Value} {n:Nat} {xs:List (Nat×Nat)} (h:SetsV A W v n xs):v.oneCell'=true:=by
 obtain ⟨pk,ck,rfl,_⟩:=own_slice h.row
 rfl
theorem RD.slices {W:World} {n:Nat} {vg vw:Value} {wr:Nat} {x:RS} (h:RD A W (.agg (rdC n vg vw wr)) x):vg.oneCell'=true∧vw.oneCell'=true:=by
 obtain ⟨⟨ug,uw,e,hg,hw⟩,_⟩:=h
 injection e with e
 have e1:=congrArg (fun c=>c[1]?) e
 have e2:=congrArg (fun c=>c[2]?) e
 simp at e1 e2
 rw [e1,e2]
 exact ⟨hg.slice,hw.slice⟩
theorem DT.other {W W':World} {v:Value} {x:RS} {r:Rt} {L:List (Nat×Nat)} (h:DT A W v x r L) {q:Nat} {cs:Array Value} {t:TypeId} (hq:W.heap[q]? = some (.cells cs t (0,0))) (h1:t≠55) (h2:t≠277) (hh:∀ k,k≠q→W'.heap[k]? = W.heap[k]?):DT A W' v x r L:=by
 obtain ⟨vg,vw,vl,e,⟨⟨ug,uw,e2,hg,hw⟩,k1,k2,k3⟩,hl⟩:=h
 refine ⟨⟨vg,vw,vl,e,⟨⟨ug,uw,e2,⟨hg.len,?_,hg.ok,hg.own⟩,⟨hw.len,?_,hw.ok,hw.own⟩⟩,k1,k2,k3⟩,⟨hl.len,?_,hl.ok,hl.own⟩⟩⟩
 ·exact Dev.ownsRow_block hg.row (fun b hb=>hh b (fun e=>own_ne hg.row hq h1 (by rw [hb,e])))
 ·exact Dev.ownsRow_block hw.row (fun b hb=>hh b (fun e=>own_ne hw.row hq h1 (by rw [hb,e])))
 ·exact Dev.ownsRow_block hl.row (fun b hb=>hh b (fun e=>own_ne hl.row hq h2 (by rw [hb,e])))
theorem SetTo9_any {w:World} {v:Value} {x:RS} {r:Rt} {L:List (Nat×Nat)} {s:DS} (h:DT A w v x r L) (hS:Sees x r s) (hL:L.length < 1000000) {a m:Nat} (ha:a < 4294967296) (hm:m < 65536) (hAA:∀ b,w.heap.size≤b→A b):Calls Tryz.prog 96 #[v,.int .u32 (a:Int),.int .u16 (m:Int)] w fun e w'=>∃ v',e=.returned (.tuple #[v',.int .i64 (setE s.n a)])∧DT A w' v' x r (setL s.n L a m)∧Below w.heap.size w w':=by
  have h0:=h
  obtain ⟨vg,vw,vl,rfl,h2,h3⟩:=h
  have hidt:=sizeDT x.n vg vw x.wr r vl
  have hzt:=(zero_of_info infoDT).1
  have hsl:=h2.slices
  have h1c:=dtC_one x.n x.wr r hsl.1 hsl.2 h3.slice
  have hsm:=hS.small
  have hsz:=hS.size
  have b1:Below w.heap.size w (w.alloc (.cells (dtC x.n vg vw x.wr r vl) 65)):=(Below.refl _ _).alloc (Nat.le_refl _) _
  have b2:Below w.heap.size w ((w.alloc (.cells (dtC x.n vg vw x.wr r vl) 65)).alloc (.cells (dtC 0 (.slice none 0 0) (.slice none 0 0) 0 Slt.nil (.slice none 0 0)) 65)):=b1.alloc b1.size _
  have q1:((w.alloc (.cells (dtC x.n vg vw x.wr r vl) 65)).alloc (.cells (dtC 0 (.slice none 0 0) (.slice none 0 0) 0 Slt.nil (.slice none 0 0)) 65)).heap[w.heap.size]? = some (.cells (dtC x.n vg vw x.wr r vl) 65 (0,0)):=(Below.heap_alloc _ _ _ (by rw [World.size_alloc]; omega)).trans (heap_alloc_new w _)
  have q2:((w.alloc (.cells (dtC x.n vg vw x.wr r vl) 65)).alloc (.cells (dtC 0 (.slice none 0 0) (.slice none 0 0) 0 Slt.nil (.slice none 0 0)) 65)).heap[w.heap.size+1]? = some (.cells (dtC 0 (.slice none 0 0) (.slice none 0 0) 0 Slt.nil (.slice none 0 0)) 65 (0,0)):=heap_alloc2_new w _ _
  have HO:=Lib.hid (fun W (hb:Below w.heap.size w W)=>Old9_any (a:=a) (h0.kept hb) hS)
  have HF:=Lib.hid (fun W (hb:Below w.heap.size w W)=>first9_any (h0.kept hb) hS)
  have HD:=Lib.hid (fun W (hb:Below w.heap.size w W)=>h0.kept hb)
  obtain ⟨fs,hfs⟩:∃ fs,fs=fsN s.n:=⟨_,rfl⟩
  have hEL:setL s.n L a m=if fs≤a∧a < s.n then L ++ [(a,m)] else L:=by rw [hfs]; rfl
  have hEE:setE s.n a=if fs≤a∧a < s.n then 0 else 2:=by rw [hfs]; rfl
  rw [hEL,hEE]
  rw [←hfs] at HF hsm
  have HSL:=Lib.hid (And.intro hsl (And.intro h2 h3))
  clear b1 h0 hsl hfs hEL hEE
  by_cases hin:fs≤a∧a < s.n
  · rw [if_pos hin,if_pos hin]
    obtain ⟨ik,hik0,hik1,hik2,hik3⟩:=info_parts infoSet
    have ez:cntE s.n a=0:=if_neg (by omega)
    rw [ez] at HO
    have c8:∀ W:World,W.heap[w.heap.size]? = some (.cells (dtC x.n vg vw x.wr r vl) 65 (0,0))→W.cell? ⟨w.heap.size,8,none⟩=some (.int .u32 (s.n:Int)):=fun W hq=>(cell_of_row _ w.heap.size 8 _ _ _ hq).trans (by rw [←hsz]; rfl)
    clear h2 h3 ez hS
    go_enter Tryz.func96,Tryz.ntmps96
    go_upto_region 1 with fail
    change Code.wp _ _ _ _ ((w.alloc (.cells (dtC x.n vg vw x.wr r vl) 65)).alloc (.cells (dtC 0 (.slice none 0 0) (.slice none 0 0) 0 Slt.nil (.slice none 0 0)) 65))
    generalize (w.alloc (.cells (dtC x.n vg vw x.wr r vl) 65)).alloc (.cells (dtC 0 (.slice none 0 0) (.slice none 0 0) 0 Slt.nil (.slice none 0 0)) 65)=W1 at b2 q1 q2 ⊢
    obtain ⟨q,hqq⟩:∃ q,q=w.heap.size:=⟨_,rfl⟩
    rw [←hqq] at q1 q2 c8 ⊢
    have HQ:=Lib.hid hqq
    clear hqq
    have HO1:=Lib.hid (HO.out W1 b2)
    clear HO
    go_wp2_with (refine wpList_load_row rfl 65 _ rfl q rfl _ _ _ _ q1 Tryz.underlying65 rfl hidt ?_)
    refine HO1.out.mono ?_
    clear HO1
    rintro e W2 ⟨rfl,hx⟩
    have p1:=(hx.block q (Array.getElem?_eq_some_iff.1 q1).1).trans q1
    have p2:=(hx.block (q+1) (Array.getElem?_eq_some_iff.1 q2).1).trans q2
    have b3:=b2.trans (hx.mono b2.size)
    have HF2:=Lib.hid (HF.out W2 b3)
    clear HF hx q1 q2 b2
    go_wp2_with (refine wpList_load_row rfl 65 _ rfl q rfl _ _ _ _ p1 Tryz.underlying65 rfl hidt ?_)
    refine HF2.out.mono ?_
    clear HF2
    rintro e W3 ⟨rfl,hx⟩
    have r1:=(hx.block q (Array.getElem?_eq_some_iff.1 p1).1).trans p1
    have r2:=(hx.block (q+1) (Array.getElem?_eq_some_iff.1 p2).1).trans p2
    have b4:=b3.trans (hx.mono b3.size)
    have c:=c8 W3 r1
    clear c8 hx p1 p2 b3
    have i1:¬ (a:Int) < (fs:Int):=by omega
    have i1':decide (a < fs)=false:=decide_eq_false (by omega)
    have i2:¬ (s.n:Int)≤(a:Int):=by omega
    go_upto_region 6 with (refine wpList_load_row rfl 65 _ rfl q rfl _ _ _ _ r1 Tryz.underlying65 rfl hidt ?_)
    have hS4:Below W3.heap.size W3 (W3.alloc (.cells #[] 277)):=(Below.refl _ _).alloc (Nat.le_refl _) _
    have b5:=b4.trans (hS4.mono b4.size)
    have hg4:=heap_alloc_new W3 (.cells #[] 277)
    have s1:=(hS4.block q (Array.getElem?_eq_some_iff.1 r1).1).trans r1
    have s2:=(hS4.block (q+1) (Array.getElem?_eq_some_iff.1 r2).1).trans r2
    have c15:(W3.alloc (.cells #[] 277)).cell? ⟨q,15,none⟩=some vl:=(cell_of_row _ q 15 _ _ _ s1).trans rfl
    have hrow:=(HSL.out.2.2.kept b5).row
    have hqg:q+1 < W3.heap.size:=(Array.getElem?_eq_some_iff.1 r2).1
    have hbn:=run_build_none W3 Tryz.underlying63 hik0
    obtain ⟨g,hg⟩:∃ g,g=W3.heap.size:=⟨_,rfl⟩
    have hgw:w.heap.size≤g:=by rw [hg]; exact b4.size
    rw [←hg] at hg4 hqg hbn
    clear r1 r2 b4 c hS4 i1 i1' i2 hg
    generalize W3.alloc (.cells #[] 277)=W4 at b5 hg4 s1 s2 c15 hrow hbn ⊢
    have HIK:=Lib.hid (And.intro hik0 (And.intro hik1 (And.intro hik2 hik3)))
    have HBN:=Lib.hid hbn
    have HG4:=Lib.hid hg4
    have HROW:=Lib.hid hrow
    have HS12:=Lib.hid (And.intro s1 (And.intro s2 b5))
    clear hbn hg4 hrow s1 s2 b5 hik0 hik1 hik2 hik3
    go_upto_region 7 with (first
      | (refine wpList_build_run rfl 63 0 #[] rfl #[] (by simp) _ HBN.out ?_; clear HBN)
      | (at_builtin; refine wpList_append_copy rfl _ _ 63 rfl Tryz.underlying63 HIK.out.1 HIK.out.2.1 HIK.out.2.2.1 HIK.out.2.2.2 rfl HG4.out rfl rfl HROW.out (setsCells_one _) (Nat.le_trans (show L.length≤1000000 by omega) (by decide)) (by omega) ?_; intro v5 W5 hr5 hb5; have HR5:=Lib.hid hr5; have HB5:=Lib.hid hb5; have hbs:=run_buildSet W5 (a,m); have HBS:=Lib.hid hbs; clear hr5 hb5 hbs c15)
      | (at_builtin; refine wpList_append_own _ rfl _ _ 63 rfl g 277 ik (.agg (setCells (0,0)).toArray) 2 8 Tryz.underlying63 HIK.out.1 HIK.out.2.1 HIK.out.2.2.1 HIK.out.2.2.2 rfl (by decide) v5 L.length (setsCells L) rfl (HR5.out.alloc _) ⟨W5.heap.size,0,none⟩ 1 1 (setCells (a,m)) rfl rfl (Dev.new_cells W5 (setCells (a,m)) 277) (setCells_one (a,m)) (Nat.le_trans (show L.length+1≤1000000 by omega) (by decide)) (by omega) (by have h1:=(Array.getElem?_eq_some_iff.1 HG4.out).1; have h2:=HB5.out.size; rw [World.size_alloc]; omega) ?_
         intro v6 W6 hown hgr _
         have hgl:=(Array.getElem?_eq_some_iff.1 HG4.out).1
         have hs5:=HB5.out.size
         have hxa:=HB5.out.alloc HB5.out.size (.cells (setCells (a,m)).toArray 277)
         have x1:=(hgr.block q (by rw [World.size_alloc]; omega) (fun e=>by have:=((HR5.out.alloc (.cells (setCells (a,m)).toArray 277)).lt q e.symm).1; omega)).trans ((hxa.block q (by omega)).trans HS12.out.1)
         have x2:=(hgr.block (q+1) (by rw [World.size_alloc]; omega) (fun e=>by have:=((HR5.out.alloc (.cells (setCells (a,m)).toArray 277)).lt (q+1) e.symm).1; omega)).trans ((hxa.block (q+1) (by omega)).trans HS12.out.2.1)
         have hwg:w.heap.size≤g:=by have:=HQ.out; omega
         have b6:=(HS12.out.2.2.trans (hxa.mono HS12.out.2.2.size)).grown hgr (HS12.out.2.2.trans (hxa.mono HS12.out.2.2.size)).size (fun y e=>Nat.le_trans hwg ((HR5.out.alloc (.cells (setCells (a,m)).toArray 277)).lt y e).1)
         obtain ⟨pk6,ck6,hv6,_⟩:=own_slice hown
         subst hv6
         have y15:W6.cell? ⟨q,15,none⟩=some vl:=(cell_of_row W6 q 15 _ _ _ x1).trans rfl
         have f15:=frozen_of_row W6 q 15 _ _ x1
         have HX:=Lib.hid (And.intro x1 (And.intro x2 (And.intro b6 hown)))
         clear x1 x2 b6 hown hgr hxa hs5 hgl hwg))
    obtain ⟨x1,x2,b6,hown⟩:=HX.out
    have e2:(dtC x.n vg vw x.wr r vl).setIfInBounds 15 (.slice pk6 (L.length+1) ck6)=dtC x.n vg vw x.wr r (.slice pk6 (L.length+1) ck6):=rfl
    have hoth:∀ k,k≠q→(W6.setCell ⟨q,15,none⟩ (.slice pk6 (L.length+1) ck6)).heap[k]? = W6.heap[k]?:=fun k hk=>heap_setCell_other W6 ⟨q,15,none⟩ k _ hk
    have z1:(W6.setCell ⟨q,15,none⟩ (.slice pk6 (L.length+1) ck6)).heap[q]? = some (.cells (dtC x.n vg vw x.wr r (.slice pk6 (L.length+1) ck6)) 65 (0,0)):=by rw [←e2]; exact heap_setCell_same W6 q 15 _ _ _ x1
    have z2:=(hoth (q+1) (by omega)).trans x2
    have b7:Below w.heap.size w (W6.setCell ⟨q,15,none⟩ (.slice pk6 (L.length+1) ck6)):=b6.trans ⟨rfl,rfl,rfl,by simp,fun k hk=>hoth k (by have:=HQ.out; omega)⟩
    have hdt:DT A W6 (.agg (dtC x.n vg vw x.wr r (.slice pk6 (L.length+1) ck6))) x r (L ++ [(a,m)]):=by
      refine ⟨⟨vg,vw,_,rfl,HSL.out.2.1.kept b6,⟨rfl,?_,fun y hy=>?_,fun b e=>hAA b (Nat.le_trans hgw (hown.lt b e).1)⟩⟩⟩
      · rw [setsCells_append,show setsCells [(a,m)]=setCells (a,m) from rfl,List.length_append]
        exact own_base hown (Nat.zero_le _)
      · rcases List.mem_append.1 hy with hy | hy
        · exact HSL.out.2.2.ok y hy
        · simp only [List.mem_singleton] at hy
          subst hy
          exact ⟨ha,hm⟩
    have HDT:=Lib.hid (hdt.other x1 (by decide) (by decide) hoth)
    have hid2:=sizeDT x.n vg vw x.wr r (.slice pk6 (L.length+1) ck6)
    have h1c2:=dtC_one x.n x.wr r HSL.out.1.1 HSL.out.1.2 (vl:=.slice pk6 (L.length+1) ck6) rfl
    clear x1 x2 b6 hown hoth hdt e2 y15 f15
    generalize W6.setCell ⟨q,15,none⟩ (.slice pk6 (L.length+1) ck6)=W7 at z1 z2 b7 HDT ⊢
    have hend:=HDT.out.other (W':=W7.setRow (q+1) (dtC x.n vg vw x.wr r (.slice pk6 (L.length+1) ck6))) z2 (by decide) (by decide) (fun k hk=>setRow_other _ _ _ _ hk)
    have HEND:=Lib.hid hend
    clear hend
    go_wp2_with (first | (refine wpList_load_row rfl 65 _ rfl q rfl _ _ _ _ z1 Tryz.underlying65 rfl hid2 ?_) | (refine wpList_store_row rfl 65 _ _ rfl (q+1) _ rfl rfl _ _ z2 hid2 rfl h1c2 ?_))
    exact bodyPost_ret (results_row_tmp rfl _ _ _ _ _ _ _ rfl (setRow_heap _ _ _ _ _ _ z2) Tryz.underlying65 rfl hid2) rfl ⟨_,rfl,HEND.out,Dev.below_row b7 (by have:=HQ.out; omega)⟩
  · rw [if_neg hin,if_neg hin]
    clear h2 h3
    obtain ⟨z,hz⟩:∃ z,z=cntE s.n a:=⟨_,rfl⟩
    rw [←hz] at HO
    clear hz
    have c8:∀ W:World,W.heap[w.heap.size]? = some (.cells (dtC x.n vg vw x.wr r vl) 65 (0,0))→W.cell? ⟨w.heap.size,8,none⟩=some (.int .u32 (s.n:Int)):=fun W hq=>(cell_of_row _ w.heap.size 8 _ _ _ hq).trans (by rw [←hsz]; rfl)
    go_enter Tryz.func96,Tryz.ntmps96
    go_upto_region 1 with fail
    change Code.wp _ _ _ _ ((w.alloc (.cells (dtC x.n vg vw x.wr r vl) 65)).alloc (.cells (dtC 0 (.slice none 0 0) (.slice none 0 0) 0 Slt.nil (.slice none 0 0)) 65))
    generalize (w.alloc (.cells (dtC x.n vg vw x.wr r vl) 65)).alloc (.cells (dtC 0 (.slice none 0 0) (.slice none 0 0) 0 Slt.nil (.slice none 0 0)) 65)=W1 at b2 q1 q2 ⊢
    obtain ⟨q,hqq⟩:∃ q,q=w.heap.size:=⟨_,rfl⟩
    rw [←hqq] at q1 q2 c8 ⊢
    have HQ:=Lib.hid hqq
    clear hqq
    have HO1:=Lib.hid (HO.out W1 b2)
    clear HO
    go_wp2_with (refine wpList_load_row rfl 65 _ rfl q rfl _ _ _ _ q1 Tryz.underlying65 rfl hidt ?_)
    refine HO1.out.mono ?_
    clear HO1
    rintro e W2 ⟨rfl,hx⟩
    have p1:=(hx.block q (Array.getElem?_eq_some_iff.1 q1).1).trans q1
    have p2:=(hx.block (q+1) (Array.getElem?_eq_some_iff.1 q2).1).trans q2
    have b3:=b2.trans (hx.mono b2.size)
    have HF2:=Lib.hid (HF.out W2 b3)
    clear HF hx q1 q2 b2
    go_wp2_with (refine wpList_load_row rfl 65 _ rfl q rfl _ _ _ _ p1 Tryz.underlying65 rfl hidt ?_)
    refine HF2.out.mono ?_
    clear HF2
    rintro e W3 ⟨rfl,hx⟩
    have r1:=(hx.block q (Array.getElem?_eq_some_iff.1 p1).1).trans p1
    have r2:=(hx.block (q+1) (Array.getElem?_eq_some_iff.1 p2).1).trans p2
    have b4:=b3.trans (hx.mono b3.size)
    have c:=c8 W3 r1
    clear c8 hx p1 p2 b3
    have hend:DT A (W3.setRow (q+1) (dtC x.n vg vw x.wr r vl)) (.agg (dtC x.n vg vw x.wr r vl)) x r L:=(HD.out W3 b4).other r2 (by decide) (by decide) (fun k hk=>setRow_other _ _ _ _ hk)
    have HEND:=Lib.hid hend
    clear hend
    by_cases hlt:a < fs
    · have i1:(a:Int) < (fs:Int):=by omega
      go_wp2_with (first | (refine wpList_load_row rfl 65 _ rfl q rfl _ _ _ _ r1 Tryz.underlying65 rfl hidt ?_) | (refine wpList_store_row rfl 65 _ _ rfl (q+1) _ rfl rfl _ _ r2 hidt rfl h1c ?_))
      exact bodyPost_ret (results_row_tmp rfl _ _ _ _ _ _ _ rfl (setRow_heap _ _ _ _ _ _ r2) Tryz.underlying65 rfl hidt) rfl ⟨_,rfl,HEND.out,Dev.below_row b4 (by have:=HQ.out; omega)⟩
    · have i1:¬ (a:Int) < (fs:Int):=by omega
      have i1':decide (a < fs)=false:=decide_eq_false hlt
      have i2:(s.n:Int)≤(a:Int):=by omega
      go_wp2_with (first | (refine wpList_load_row rfl 65 _ rfl q rfl _ _ _ _ r1 Tryz.underlying65 rfl hidt ?_) | (refine wpList_store_row rfl 65 _ _ rfl (q+1) _ rfl rfl _ _ r2 hidt rfl h1c ?_))
      exact bodyPost_ret (results_row_tmp rfl _ _ _ _ _ _ _ rfl (setRow_heap _ _ _ _ _ _ r2) Tryz.underlying65 rfl hidt) rfl ⟨_,rfl,HEND.out,Dev.below_row b4 (by have:=HQ.out; omega)⟩
end Spc
namespace Spc
open Go.RowKit RowLaw
open Dev (ptr DS)
open Cnt (own_slice own_kept own_base own_ne TD tdOf tdOf_ok Sound cntV cntE setE info32)
open Slt (Rt cells cells_one infoR sizeR)
open Rot (planOk tlN pkN fsN wpList_build_run)
variable {A:Nat→Prop}
def u32L (xs:List Nat):List Value:=xs.map fun n:Nat=>.int .u32 (n:Int)
theorem u32L_length (xs:List Nat):(u32L xs).length=xs.length:=by simp [u32L]
theorem u32L_append (xs ys:List Nat):u32L (xs ++ ys)=u32L xs ++ u32L ys:=by simp [u32L]
theorem u32L_one (xs:List Nat):∀ u∈u32L xs,u.oneCell'=true:=fun u hu=>by
 obtain ⟨x,_,rfl⟩:=List.mem_map.1 hu
 rfl
theorem u32L_get (xs:List Nat) (k:Nat) (hk:k < xs.length):(u32L xs)[k]? = some (.int .u32 (xs[k]:Int)):=by simp [u32L,hk]
theorem run_build32 (W:World) (x:Nat):(Instr.buildSlice 56 1 #[(0,.int .u32 (x:Int))]).run Tryz.prog W=.ok (.slice (some ⟨W.heap.size,0,none⟩) 1 1) (W.alloc (.cells #[.int .u32 (x:Int)] 22)):=by
 go_simp
structure U32V (W:World) (B:Nat) (v:Value) (n:Nat) (xs:List Nat):Prop where
 len:n=xs.length
 row:W.ownsRow B 22 1 v n (u32L xs)
theorem U32V.kept {W W':World} {B:Nat} {v:Value} {n:Nat} {xs:List Nat} (h:U32V W B v n xs) (hb:Below W.heap.size W W'):U32V W' B v n xs:=⟨h.len,own_kept h.row hb⟩
theorem U32V.nil (W:World) (B:Nat):U32V W B (.slice none 0 0) 0 []:=⟨rfl,World.ownsRow_nil _ _ _ _⟩
theorem U32V.at_ {W:World} {B:Nat} {v:Value} {n:Nat} {xs:List Nat} (h:U32V W B v n xs) {k:Nat} (hk:k < xs.length):∃ g c,v=.slice (some ⟨g,0,none⟩) n c∧W.cell? ⟨g,k,none⟩=some (.int .u32 (xs[k]:Int)):=by
 obtain ⟨pk,ck,he,hc⟩:=own_slice h.row
 obtain ⟨g,hg,h0⟩:=hc k _ (u32L_get xs k hk) (by rw [h.len]; omega)
 exact ⟨g,ck,by rw [he,hg],h0⟩
def idxD (a:Nat) (l:List Nat):Nat:=(l.takeWhile fun y=>decide (y < a)).length
theorem idxD_eq (a:Nat):∀ (l:List Nat) (k:Nat),k≤l.length→(∀ j (hj:j < l.length),j < k→l[j] < a)→(∀ hk:k < l.length,¬ l[k] < a)→idxD a l=k
 | [],k,hk,_,_=>by
  have:k=0:=by simpa using hk
  subst this; rfl
 | y::l,0,_,_,h2=>by
  have:=h2 (by simp)
  unfold idxD
  rw [List.takeWhile_cons,if_neg (by simpa using this)]
  rfl
 | y::l,k+1,hk,h1,h2=>by
  have h0:y < a:=h1 0 (by simp) (by omega)
  unfold idxD
  rw [List.takeWhile_cons,if_pos (by simpa using h0),List.length_cons]
  congr 1
  exact idxD_eq a l k (by simpa using hk) (fun j hj hjk=>h1 (j+1) (by simpa using hj) (by omega)) (fun hk'=>h2 (by simpa using hk'))
def insD (a:Nat) (l:List Nat):List Nat:=if l[idxD a l]? = some a then l else l.take (idxD a l) ++ [a] ++ l.drop (idxD a l)
theorem insD_len (a:Nat) (l:List Nat):(insD a l).length≤l.length+1:=by
 unfold insD
 split
 ·omega
 ·simp only [List.length_append,List.length_take,List.length_drop,List.length_cons,List.length_nil]
  omega
def chgD (s:DS) (r:Rt) (L:List (Nat×Nat)) (M:List (Nat×Nat)):List Nat:=M.foldl (fun l x=>if oldS s r x.1=getS s r L x.1 then l else insD x.1 l) []
theorem chgD_take (s:DS) (r:Rt) (L M:List (Nat×Nat)) (k:Nat) (hk:k < M.length):chgD s r L (M.take (k+1))=if oldS s r M[k].1=getS s r L M[k].1 then chgD s r L (M.take k) else insD M[k].1 (chgD s r L (M.take k)):=by
 unfold chgD
 rw [List.take_add_one,List.getElem?_eq_getElem hk,List.foldl_append]
 rfl
theorem chgD_len (s:DS) (r:Rt) (L:List (Nat×Nat)):∀ (M:List (Nat×Nat)) (k:Nat),(chgD s r L (M.take k)).length≤k
 | M,0=>by rw [List.take_zero]; exact Nat.le_refl _
 | M,k+1=>by
  by_cases hk:k < M.length
  ·rw [chgD_take s r L M k hk]
   have:=chgD_len s r L M k
   split
   ·omega
   ·have h2:=insD_len M[k].1 (chgD s r L (M.take k))
    omega
  ·rw [List.take_of_length_le (by omega)]
   have:=chgD_len s r L M k
   rw [List.take_of_length_le (by omega)] at this
   omega
structure ChB (A:Nat→Prop) (w:World) (x:RS) (r:Rt) (L:List (Nat×Nat)) (cs:Array Value) (q:Nat) (v3:Value) (out:List Nat) (W:World):Prop where
 dt:DT A W (.agg cs) x r L
 r0:W.heap[q]? = some (.cells cs 65 (0,0))
 row:U32V W (q+1) v3 out.length out
 bel:Below w.heap.size w W
 ge:w.heap.size≤q
theorem ChB.below {w W W':World} {x:RS} {r:Rt} {L:List (Nat×Nat)} {cs:Array Value} {q:Nat} {v3:Value} {out:List Nat} (h:ChB A w x r L cs q v3 out W) (hb:Below W.heap.size W W'):ChB A w x r L cs q v3 out W':=
 ⟨h.dt.kept hb,(hb.block _ (Array.getElem?_eq_some_iff.1 h.r0).1).trans h.r0,h.row.kept hb,h.bel.trans (hb.mono h.bel.size),h.ge⟩
theorem Changed9_any {w:World} {v:Value} {x:RS} {r:Rt} {L:List (Nat×Nat)} {s:DS} (h:DT A w v x r L) (hS:Sees x r s) (hL:L.length < 1000000):Calls Tryz.prog 170 #[v] w fun e w'=>∃ v',e=.returned v'∧U32V w' w.heap.size v' (chgD s r L L).length (chgD s r L L)∧Below w.heap.size w w':=by
 have h0:=h
 obtain ⟨vg,vw,vl,rfl,h2,h3⟩:=h
 have hidt:=sizeDT x.n vg vw x.wr r vl
 have hq:=heap_alloc_new w (.cells (dtC x.n vg vw x.wr r vl) 65)
 have hb:Below w.heap.size w (w.alloc (.cells (dtC x.n vg vw x.wr r vl) 65)):=(Below.refl _ _).alloc (Nat.le_refl _) _
 have hcb:ChB A w x r L (dtC x.n vg vw x.wr r vl) w.heap.size (.slice none 0 0) [] (w.alloc (.cells (dtC x.n vg vw x.wr r vl) 65)):=⟨h0.kept hb,hq,U32V.nil _ _,hb,Nat.le_refl _⟩
 have H3:=Lib.hid h3.ok
 obtain ⟨ik,hik0,hik1,hik2,hik3⟩:=info_parts info32
 have HIK:=Lib.hid (And.intro hik0 (And.intro hik1 (And.intro hik2 hik3)))
 obtain ⟨pl,cl,hvl,_⟩:=own_slice h3.row
 subst hvl
 obtain ⟨R,hR⟩:∃ R,R=chgD s r L L:=⟨_,rfl⟩
 have HR:=Lib.hid hR
 rw [←hR]
 have HSS:=Lib.hid hS
 clear h0 h2 h3 hq hb hik0 hik1 hik2 hik3 hR hS
 go_enter Tryz.func170,Tryz.ntmps170
 go_upto_region 1 with fail
 change Code.wp _ _ _ _ (w.alloc (.cells (dtC x.n vg vw x.wr r (.slice pl L.length cl)) 65))
 generalize w.alloc (.cells (dtC x.n vg vw x.wr r (.slice pl L.length cl)) 65)=W1 at hcb ⊢
 obtain ⟨q,hqq⟩:∃ q,q=w.heap.size:=⟨_,rfl⟩
 rw [←hqq] at hcb ⊢
 clear hqq
 go_wp2_with fail
 go_loopw [3,4] (fun v3 i wr=>∃ k:Nat,k≤L.length∧i=.int .i64 (k:Int)∧ChB A w x r L (dtC x.n vg vw x.wr r (.slice pl L.length cl)) q v3 (chgD s r L (L.take k)) wr) (fun _ i _=>L.length - (intOf i).toNat)
 case atStart=>exact ⟨0,by omega,rfl,by rw [List.take_zero]; exact hcb⟩
 case round=>
  obtain ⟨k,hk,rfl,hb⟩:=hrel
  clear hcb
  have c15:wr.cell? ⟨q,15,none⟩=some (.slice pl L.length cl):=(cell_of_row wr q 15 _ _ _ hb.r0).trans rfl
  have hol:=chgD_len s r L L k
  by_cases hlt:k < L.length
  ·have htk:=chgD_take s r L L k hlt
   have hcells:∃ g c,(Value.slice pl L.length cl)=.slice (some ⟨g,0,none⟩) L.length c∧wr.cell? ⟨g,k * 2,none⟩=some (.int .u32 (L[k].1:Int)):=by
    obtain ⟨ug,uw,ul,e,_,hl⟩:=hb.dt
    injection e with e
    have e1:=congrArg (fun c=>c[15]?) e
    simp at e1
    subst e1
    obtain ⟨g,c,he,h1,_⟩:=hl.at_ hlt
    exact ⟨g,c,he,h1⟩
   obtain ⟨g,c,he,hc0⟩:=hcells
   cases he
   have ha32:=(H3.out _ (List.getElem_mem hlt)).1
   generalize hya:L[k].1=a at hc0 htk ha32
   clear hya
   obtain ⟨out,hout⟩:∃ out,out=chgD s r L (L.take k):=⟨_,rfl⟩
   rw [←hout] at hb htk hol
   clear hout
   have i0:(0:Int)≤(k:Int):=by omega
   have i1:(k:Int) < (L.length:Int):=by omega
   have z1:IntKind.i64.wrap ((k:Int)+1)=(k:Int)+1:=IntWalk.i64_in _ (by omega)
   have r0:=hb.r0
   have HO:=Lib.hid (Old9_any (a:=a) hb.dt HSS.out)
   have HTK:=Lib.hid htk
   have HB:=Lib.hid hb
   clear hb htk
   obtain ⟨om,hom⟩:∃ m,m=oldS s r a:=⟨_,rfl⟩
   obtain ⟨gm,hgm⟩:∃ m,m=getS s r L a:=⟨_,rfl⟩
   have HOM:=Lib.hid (And.intro hom hgm)
   obtain ⟨z,hz⟩:∃ z,z=cntE s.n a:=⟨_,rfl⟩
   have HZZ:=Lib.hid hz
   rw [←hom,←hz] at HO
   clear hom hgm hz
   go_wp2_with (refine wpList_load_row rfl 65 _ rfl q rfl _ _ _ _ r0 Tryz.underlying65 rfl hidt ?_)
   refine HO.out.mono ?_
   clear HO c15 hc0
   rintro e W2 ⟨rfl,hx⟩
   have HB2:=Lib.hid (HB.out.below hx)
   have r2:=HB2.out.r0
   have HG:=Lib.hid (Get9_any (a:=a) HB2.out.dt HSS.out hL)
   rw [←HOM.out.2,←HZZ.out] at HG
   clear hx HB r0
   go_wp2_with (refine wpList_load_row rfl 65 _ rfl q rfl _ _ _ _ r2 Tryz.underlying65 rfl hidt ?_)
   refine HG.out.mono ?_
   clear HG
   rintro e W3 ⟨rfl,hx⟩
   have HB3:=Lib.hid (HB2.out.below hx)
   clear hx HB2 r2
   obtain ⟨p3,c3,hv3,hrd⟩:=own_slice HB3.out.row.row
   subst hv3
   have HRD:=Lib.hid hrd
   clear hrd
   go_wp2_with fail
   go_loopw [10] (fun j wr=>∃ m:Nat,m≤out.length∧j=.int .i64 (m:Int)∧wr=W3∧Hid (∀ j (hj:j < out.length),j < m→out[j] < a)) (fun j _=>out.length - (intOf j).toNat)
   case atStart=>exact ⟨0,by omega,rfl,rfl,show ∀ j (hj:j < out.length),j < 0→out[j] < a from fun j _ h=>by omega⟩
   case round=>
    obtain ⟨m,hm,rfl,hwr3,hbel⟩:=hrel
    subst hwr3
    have hm1:m < 1000000:=by omega
    by_cases hmlt:m < out.length
    ·obtain ⟨g3,cc3,he3,hcm⟩:=HB3.out.row.at_ hmlt
     cases he3
     generalize hym:out[m]=y at hcm
     have HYM:=Lib.hid hym
     clear hym
     have j0:(0:Int)≤(m:Int):=by omega
     have j1:(m:Int) < (out.length:Int):=by omega
     have z2:IntKind.i64.wrap ((m:Int)+1)=(m:Int)+1:=IntWalk.i64_in _ (by omega)
     by_cases hya:y < a
     ·have d1:(y:Int) < (a:Int):=by omega
      have hbel2:Hid (∀ j (hj:j < out.length),j < m+1→out[j] < a):=show ∀ j (hj:j < out.length),j < m+1→out[j] < a from fun j hj h=>by
       by_cases e:j=m
       ·subst e; rw [HYM.out]; exact hya
       ·exact hbel.out j hj (by omega)
      clear hbel hya
      go_wp2_with fail
      go_roundw
      case rel=>exact ⟨m+1,by omega,by go_num,trivial,hbel2⟩
      case measure=>simp [intOf]; omega
     ·have d1:¬ (y:Int) < (a:Int):=by omega
      have d1':decide (y < a)=false:=decide_eq_false hya
      have hidx:idxD a out=m:=idxD_eq a out m hm hbel.out (fun h=>by rw [HYM.out]; exact hya)
      have HIX:=Lib.hid hidx
      clear hbel hidx
      by_cases hf:om=gm
      ·have f1:((om:Int) != (gm:Int))=false:=by rw [hf]; simp
       have HT2:=Lib.hid (show chgD s r L (L.take (k+1))=out from by rw [HTK.out,if_pos (by rw [←HOM.out.1,←HOM.out.2]; exact hf)])
       clear hf HTK
       go_wp2_with fail
       go_roundw
       case rel=>exact ⟨k+1,by omega,by go_num,by rw [HT2.out]; exact HB3.out⟩
       case measure=>simp [intOf]; omega
      ·have f1:((om:Int) != (gm:Int))=true:=by simp; omega
       have hT2:chgD s r L (L.take (k+1))=insD a out:=by rw [HTK.out,if_neg (by rw [←HOM.out.1,←HOM.out.2]; exact hf)]
       clear hf HTK
       have e0:((m:Int) == (out.length:Int))=false:=by simp; omega
       by_cases hyy:y=a
       ·have g1:((y:Int) != (a:Int))=false:=by rw [hyy]; simp
        have HT3:=Lib.hid (show chgD s r L (L.take (k+1))=out from by
         rw [hT2]
         unfold insD
         rw [HIX.out,if_pos (by rw [List.getElem?_eq_getElem hmlt,HYM.out,hyy])])
        clear hyy hT2
        go_wp2_with fail
        go_roundw
        case rel=>exact ⟨k+1,by omega,by go_num,by rw [HT3.out]; exact HB3.out⟩
        case measure=>simp [intOf]; omega
       ·have g1:((y:Int) != (a:Int))=true:=by simp; omega
        have HT3:=Lib.hid (show chgD s r L (L.take (k+1))=out.take m ++ [a] ++ out.drop m from by
         rw [hT2]
         unfold insD
         rw [HIX.out,if_neg (by rw [List.getElem?_eq_getElem hmlt,HYM.out]; intro e; injection e with e; exact hyy e)])
        clear hyy hT2
        go_wp2_with fail
        have hrow:=HB3.out.row.row
        have hcap:=ownsRow_cap hrow
        have m0:(0:Int)≤(m:Int):=by omega
        have m1:(m:Int)≤(out.length:Int):=by omega
        have m2:(m:Int)≤(c3:Int):=by omega
        have m3:(out.length:Int)≤(c3:Int):=by omega
        have m4:(m:Int)+((out.length - m:Nat):Int)=(out.length:Int):=by omega
        obtain ⟨ov,hovm,hov⟩:∃ ov,(m < out.length→ov=m)∧(if c3=m then some (⟨g3,0,none⟩:Addr) else some ⟨g3,m,none⟩)=some ⟨g3,ov,none⟩:=by
         by_cases hcm:c3=m
         ·exact ⟨0,fun h=>by omega,by rw [if_pos hcm]⟩
         ·exact ⟨m,fun _=>rfl,by rw [if_neg hcm]⟩
        have hsrc:∀ W,Below wr.heap.size wr W→W.ownsRow (q+1) 22 1 (.slice (some ⟨g3,0,none⟩) m c3) m (u32L (out.take m)):=fun W hW=>by
         have:=ownsRow_pre (own_kept hrow hW) (m:=m) hm
         rwa [show (u32L out).take m=u32L (out.take m) from by simp [u32L]] at this
        have hnew2:∀ W,Below wr.heap.size wr W→∀ (j:Nat) (u:Value),(u32L (out.drop m))[j]? = some u→W.cell? ((⟨g3,ov,none⟩:Addr).add j)=some u:=fun W hW j u hu=>by
         have hj:j < (out.drop m).length:=by
          have:=(List.getElem?_eq_some_iff.1 hu).1
          simpa [u32L] using this
         rw [List.length_drop] at hj
         have h1:=(own_kept hrow hW).cells (g:=g3) rfl (m+j) (.int .u32 (out[m+j]'(by omega):Int)) (u32L_get out (m+j) (by omega))
         have h2:(⟨g3,0,none⟩:Addr).add (m+j)=(⟨g3,ov,none⟩:Addr).add j:=by
          rw [hovm (by omega)]
          unfold Addr.add
          by_cases hj0:j=0 <;> by_cases hm0:m=0 <;> simp [hj0,hm0]
         rw [h2] at h1
         rw [h1]
         rw [u32L_get (out.drop m) j (by rw [List.length_drop]; omega)] at hu
         rw [←hu]
         simp
        have HSRC:=Lib.hid hsrc
        have HNEW:=Lib.hid hnew2
        clear hsrc hnew2 hrow hovm
        refine wp_region_noPanic ?_
        refine wp_region_held_drew (S:=fun W=>Below wr.heap.size wr W) (by kernel_rfl) (Below.refl _ _).drew ?_
        intro hS
        generalize wr.drew=V0 at hS ⊢
        refine RowLaw.tkV 1 68 (.slice (some ⟨g3,0,none⟩) out.length c3) hS ?_
        simp only [RowLaw.lset]
        refine RowLaw.tkV 2 69 (.int .i64 (m:Int)) hS ?_
        simp only [RowLaw.lset]
        refine RowLaw.tkV 3 70 (.slice (some ⟨g3,0,none⟩) m c3) hS ?_
        simp only [RowLaw.lset]
        refine RowLaw.tkV 5 72 (.int .u32 (a:Int)) hS ?_
        simp only [RowLaw.lset]
        refine RowLaw.tkV 8 75 (.slice (some ⟨g3,0,none⟩) out.length c3) hS ?_
        simp only [RowLaw.lset]
        refine RowLaw.tkV 9 76 (.int .i64 (m:Int)) hS ?_
        simp only [RowLaw.lset]
        refine RowLaw.tkV 10 77 (.slice (some ⟨g3,ov,none⟩) (out.length - m) (c3 - m)) hS ?_
        simp only [RowLaw.lset]
        have hszq:q+1≤wr.heap.size:=(Array.getElem?_eq_some_iff.1 HB3.out.r0).1
        refine wpAnyH_grow wr [(4,71),(6,73),(0,67)] [(4,0)] (cpFact 22 1 0 4 6 99 undef wr.heap.size m (u32L (out.take m)) #[.int .u32 (a:Int)]) 3 80 rfl (by kernel_rfl) rfl (by decide) (cpFact_stays _ _ _ _ _ _ _ _ _ _ _) (fun _ h=>h) hS ?_ ?_
        ·intro i d hid a' W K hbelW hold hdep hK
         simp only [List.mem_cons,Prod.mk.injEq,List.not_mem_nil,or_false] at hid
         rcases hid with ⟨rfl,rfl⟩ | ⟨rfl,rfl⟩ | ⟨rfl,rfl⟩
         ·obtain ⟨g,hv,hg,hge⟩:∃ g,a'.eval (.tmp 67)=.slice (some ⟨g,0,none⟩) 0 0∧W.heap[g]? = some (.cells #[] 22 (0,0))∧wr.heap.size≤g:=by
           have:=hdep 0 67 (by simp) (by simp)
           unfold cpFact at this
           rwa [if_pos rfl] at this
          refine wpOp_row _ rfl rfl (wp_append_copy _ _ 56 rfl Tryz.underlying56 HIK.out.1 HIK.out.2.1 HIK.out.2.2.1 HIK.out.2.2.2 rfl hg hv (hold 70 (by decide)) (HSRC.out W hbelW) (u32L_one _) (Nat.le_trans (show m≤1000000 by omega) (by decide)) (by omega) (fun v' W' h1 h2=>hK v' W' h2 ?_))
          unfold cpFact
          rw [if_neg (by decide),if_pos rfl]
          exact own_base h1 hge
         ·refine wpOp_row _ rfl rfl (wp_slice_row _ 56 1 #[(0,.tmp 72)] rfl #[(0,.int .u32 (a:Int))] (by simp [hold 72 (by decide)]; rfl) _ (run_build32 W a) (hK _ _ ((Below.refl _ _).alloc (Nat.le_refl _) _) ?_))
          unfold cpFact
          rw [if_neg (by decide),if_neg (by decide),if_pos rfl]
          exact ⟨_,rfl,heap_alloc_new W _⟩
         ·refine wpOp_row _ rfl rfl (wp_slice_row _ 56 0 #[] rfl #[] (by simp) _ (run_build_none W Tryz.underlying56 HIK.out.1) (hK _ _ ((Below.refl _ _).alloc (Nat.le_refl _) _) ?_))
          unfold cpFact
          rw [if_pos rfl]
          exact ⟨_,rfl,heap_alloc_new W _,hbelW.size⟩
        ·intro f W hall hbelW hfact
         obtain ⟨v0,h0⟩:=hall 0 67 (by simp)
         obtain ⟨v4,h4⟩:=hall 4 71 (by simp)
         obtain ⟨v6,h6⟩:=hall 6 73 (by simp)
         have o4:W.ownsRow wr.heap.size 22 1 v4 m (u32L (out.take m)):=by
          have:=hfact 4 v4 h4
          unfold cpFact at this
          rwa [if_neg (by decide),if_pos rfl] at this
         obtain ⟨g6,rfl,o6⟩:∃ g,v6=.slice (some ⟨g,0,none⟩) 1 1∧W.heap[g]? = some (.cells #[.int .u32 (a:Int)] 22 (0,0)):=by
          have:=hfact 6 v6 h6
          unfold cpFact at this
          rwa [if_neg (by decide),if_neg (by decide),if_pos rfl] at this
         simp only [putsF,setB,isF,h0,h4,h6,Option.isSome_some,if_true]
         simp only [Act.put,List.setIfInBounds_toArray,RowLaw.lset]
         clear hall hfact h0 h4 h6 hS
         have hnews:∀ (j:Nat) (u:Value),[Value.int .u32 (a:Int)][j]? = some u→W.cell? ((⟨g6,0,none⟩:Addr).add j)=some u:=fun j u hu=>by
          have:(⟨g6,0,none⟩:Addr).add j=⟨g6,j,none⟩:=by unfold Addr.add; split <;> simp_all
          rw [this,cell_of_row W g6 j _ _ _ o6]
          simpa using hu
         refine wpAnyH_ready (rs:=[7]) (by kernel_rfl) (by simp) ?_
         refine AllReadyH.cons rfl (fun K hK=>?_) AllReadyH.nil
         rw [if_pos (by rfl)]
         refine wp_append_own _ _ _ 56 rfl wr.heap.size 22 ik (.int .u32 0) 1 4 Tryz.underlying56 HIK.out.1 HIK.out.2.1 HIK.out.2.2.1 HIK.out.2.2.2 rfl (by decide) v4 m (u32L (out.take m)) rfl o4 ⟨g6,0,none⟩ 1 1 [.int .u32 (a:Int)] rfl rfl hnews (fun u hu=>by simp only [List.mem_singleton] at hu; subst hu; rfl) (Nat.le_trans (show m+1≤1000001 by omega) (by decide)) (by omega) hbelW.size ?_
         intro v7 W7 hown hgr _
         have hb7:Below wr.heap.size wr W7:=hbelW.grown hgr hbelW.size (fun y e=>(o4.lt y e).1)
         refine hK _ _ hb7 (fun _=>?_)
         clear hK K hnews o6 o4 hgr
         try simp only [Act.put,List.setIfInBounds_toArray,RowLaw.lset]
         refine wpAnyH_ready (rs:=[11]) (by kernel_rfl) (by simp) ?_
         refine AllReadyH.cons rfl (fun K hK=>?_) AllReadyH.nil
         rw [if_pos (by rfl)]
         refine wp_append_own _ _ _ 56 rfl wr.heap.size 22 ik (.int .u32 0) 1 4 Tryz.underlying56 HIK.out.1 HIK.out.2.1 HIK.out.2.2.1 HIK.out.2.2.2 rfl (by decide) v7 (m+1) _ rfl hown ⟨g3,ov,none⟩ (out.length - m) (c3 - m) (u32L (out.drop m)) rfl (by rw [u32L_length,List.length_drop]; omega) (HNEW.out W7 hb7) (u32L_one _) (Nat.le_trans (show m+1+(out.length - m)≤1000001 by omega) (by decide)) (by omega) hb7.size ?_
         intro v8 W8 hown8 hgr8 _
         have hb8:Below wr.heap.size wr W8:=hb7.grown hgr8 hb7.size (fun y e=>(hown.lt y e).1)
         refine hK _ _ hb8 (fun _=>?_)
         clear hK K hgr8
         have hfin:U32V W8 (q+1) v8 (out.take m ++ [a] ++ out.drop m).length (out.take m ++ [a] ++ out.drop m):=by
          have hl:(out.take m ++ [a] ++ out.drop m).length=m+1+(out.length - m):=by
           simp only [List.length_append,List.length_take,List.length_drop,List.length_cons,List.length_nil]
           omega
          refine ⟨rfl,?_⟩
          rw [hl,u32L_append,u32L_append]
          exact own_base hown8 (Nat.le_trans hszq (Nat.le_refl _))
         have hch:=HB3.out.below hb8
         have HFIN:=Lib.hid (show ChB A w x r L _ q v8 (out.take m ++ [a] ++ out.drop m) W8 from ⟨hch.dt,hch.r0,hfin,hch.bel,hch.ge⟩)
         clear hfin hch hown
         try simp only [Act.put,List.setIfInBounds_toArray,RowLaw.lset]
         refine wpAnyH_take (i:=12) (v:=v8) rfl (by kernel_rfl) (by kernel_rfl) (by kernel_rfl) (fun _ _ _ h=>(h:False).elim) (Or.inl ⟨by rfl,fun _ _=>by go_simp⟩) hb8 ?_
         change wpAnyH _ _ _ _ _ _ _ (Act.put _ (some 3) _) _
         simp only [Act.put,List.setIfInBounds_toArray,RowLaw.lset]
         refine wpAnyH_done (by kernel_rfl) ?_ _
         refine NoPanic.normal ?_
         go_wp2_with fail
         go_roundw
         case rel=>exact ⟨k+1,by omega,by go_num,by rw [HT3.out]; exact HFIN.out⟩
         case measure=>simp [intOf]; omega
    ·have hme:m=out.length:=by omega
     have j1:¬ (m:Int) < (out.length:Int):=by omega
     have j1':decide (m < out.length)=false:=decide_eq_false hmlt
     have hidx:idxD a out=m:=idxD_eq a out m hm hbel.out (fun h=>absurd h hmlt)
     have HIX:=Lib.hid hidx
     have HME:=Lib.hid hme
     clear hbel hidx
     by_cases hf:om=gm
     ·have f1:((om:Int) != (gm:Int))=false:=by rw [hf]; simp
      have HT2:=Lib.hid (show chgD s r L (L.take (k+1))=out from by rw [HTK.out,if_pos (by rw [←HOM.out.1,←HOM.out.2]; exact hf)])
      clear hf HTK
      go_wp2_with fail
      go_roundw
      case rel=>exact ⟨k+1,by omega,by go_num,by rw [HT2.out]; exact HB3.out⟩
      case measure=>simp [intOf]; omega
     ·have f1:((om:Int) != (gm:Int))=true:=by simp; omega
      have e0:((m:Int) == (out.length:Int))=true:=by rw [hme]; simp
      have HT3:=Lib.hid (show chgD s r L (L.take (k+1))=out.take m ++ [a] ++ out.drop m from by
       rw [HTK.out,if_neg (by rw [←HOM.out.1,←HOM.out.2]; exact hf)]
       unfold insD
       rw [HIX.out,if_neg (by rw [List.getElem?_eq_none (by omega)]; simp)])
      clear hf HTK hme
      go_wp2_with fail
      rcases HB3.out.row.row.2 with ⟨hv,hn0⟩ | ⟨g3,cap3,cur3,hv,_⟩
      ·injection hv with hp3 hl3 hc3
       subst hp3 hc3
       have hm0:m=0:=by omega
       have hout0:out=[]:=List.eq_nil_of_length_eq_zero (by omega)
       clear hl3 hn0 e0 f1 j1 j1' hmlt hol HRD HIX HME
       subst hm0
       subst hout0
       have HSRC:=Lib.hid (fun (W:World) (_:Below wr.heap.size wr W)=>(show W.ownsRow (q+1) 22 1 (.slice none 0 0) 0 (u32L (([]:List Nat).take 0)) from World.ownsRow_nil _ _ _ _))
       refine wp_region_noPanic ?_
       refine wp_region_held_drew (S:=fun W=>Below wr.heap.size wr W) (by kernel_rfl) (Below.refl _ _).drew ?_
       intro hS
       generalize wr.drew=V0 at hS ⊢
       refine RowLaw.tkV 1 68 (.slice none 0 0) hS ?_
       simp only [RowLaw.lset]
       refine RowLaw.tkV 2 69 (.int .i64 0) hS ?_
       simp only [RowLaw.lset]
       refine RowLaw.tkV 3 70 (.slice none 0 0) hS ?_
       simp only [RowLaw.lset]
       refine RowLaw.tkV 5 72 (.int .u32 (a:Int)) hS ?_
       simp only [RowLaw.lset]
       refine RowLaw.tkV 8 75 (.slice none 0 0) hS ?_
       simp only [RowLaw.lset]
       refine RowLaw.tkV 9 76 (.int .i64 0) hS ?_
       simp only [RowLaw.lset]
       refine RowLaw.tkV 10 77 (.slice none 0 0) hS ?_
       simp only [RowLaw.lset]
       have hszq:q+1≤wr.heap.size:=(Array.getElem?_eq_some_iff.1 HB3.out.r0).1
       refine wpAnyH_grow wr [(4,71),(6,73),(0,67)] [(4,0)] (cpFact 22 1 0 4 6 99 undef wr.heap.size 0 (u32L (([]:List Nat).take 0)) #[.int .u32 (a:Int)]) 3 80 rfl (by kernel_rfl) rfl (by decide) (cpFact_stays _ _ _ _ _ _ _ _ _ _ _) (fun _ h=>h) hS ?_ ?_
       ·intro i d hid a' W K hbelW hold hdep hK
        simp only [List.mem_cons,Prod.mk.injEq,List.not_mem_nil,or_false] at hid
        rcases hid with ⟨rfl,rfl⟩ | ⟨rfl,rfl⟩ | ⟨rfl,rfl⟩
        ·obtain ⟨g,hv,hg,hge⟩:∃ g,a'.eval (.tmp 67)=.slice (some ⟨g,0,none⟩) 0 0∧W.heap[g]? = some (.cells #[] 22 (0,0))∧wr.heap.size≤g:=by
          have:=hdep 0 67 (by simp) (by simp)
          unfold cpFact at this
          rwa [if_pos rfl] at this
         refine wpOp_row _ rfl rfl (wp_append_copy _ _ 56 rfl Tryz.underlying56 HIK.out.1 HIK.out.2.1 HIK.out.2.2.1 HIK.out.2.2.2 rfl hg hv (hold 70 (by decide)) (HSRC.out W hbelW) (u32L_one _) (Nat.le_trans (show 0≤1000000 by omega) (by decide)) (by omega) (fun v' W' h1 h2=>hK v' W' h2 ?_))
         unfold cpFact
         rw [if_neg (by decide),if_pos rfl]
         exact own_base h1 hge
        ·refine wpOp_row _ rfl rfl (wp_slice_row _ 56 1 #[(0,.tmp 72)] rfl #[(0,.int .u32 (a:Int))] (by simp [hold 72 (by decide)]; rfl) _ (run_build32 W a) (hK _ _ ((Below.refl _ _).alloc (Nat.le_refl _) _) ?_))
         unfold cpFact
         rw [if_neg (by decide),if_neg (by decide),if_pos rfl]
         exact ⟨_,rfl,heap_alloc_new W _⟩
        ·refine wpOp_row _ rfl rfl (wp_slice_row _ 56 0 #[] rfl #[] (by simp) _ (run_build_none W Tryz.underlying56 HIK.out.1) (hK _ _ ((Below.refl _ _).alloc (Nat.le_refl _) _) ?_))
         unfold cpFact
         rw [if_pos rfl]
         exact ⟨_,rfl,heap_alloc_new W _,hbelW.size⟩
       ·intro f W hall hbelW hfact
        obtain ⟨v0,h0⟩:=hall 0 67 (by simp)
        obtain ⟨v4,h4⟩:=hall 4 71 (by simp)
        obtain ⟨v6,h6⟩:=hall 6 73 (by simp)
        have o4:W.ownsRow wr.heap.size 22 1 v4 0 (u32L (([]:List Nat).take 0)):=by
         have:=hfact 4 v4 h4
         unfold cpFact at this
         rwa [if_neg (by decide),if_pos rfl] at this
        obtain ⟨g6,rfl,o6⟩:∃ g,v6=.slice (some ⟨g,0,none⟩) 1 1∧W.heap[g]? = some (.cells #[.int .u32 (a:Int)] 22 (0,0)):=by
         have:=hfact 6 v6 h6
         unfold cpFact at this
         rwa [if_neg (by decide),if_neg (by decide),if_pos rfl] at this
        simp only [putsF,setB,isF,h0,h4,h6,Option.isSome_some,if_true]
        simp only [Act.put,List.setIfInBounds_toArray,RowLaw.lset]
        clear hall hfact h0 h4 h6 hS
        have hnews:∀ (j:Nat) (u:Value),[Value.int .u32 (a:Int)][j]? = some u→W.cell? ((⟨g6,0,none⟩:Addr).add j)=some u:=fun j u hu=>by
         have:(⟨g6,0,none⟩:Addr).add j=⟨g6,j,none⟩:=by unfold Addr.add; split <;> simp_all
         rw [this,cell_of_row W g6 j _ _ _ o6]
         simpa using hu
        refine wpAnyH_ready (rs:=[7]) (by kernel_rfl) (by simp) ?_
        refine AllReadyH.cons rfl (fun K hK=>?_) AllReadyH.nil
        rw [if_pos (by rfl)]
        refine wp_append_own _ _ _ 56 rfl wr.heap.size 22 ik (.int .u32 0) 1 4 Tryz.underlying56 HIK.out.1 HIK.out.2.1 HIK.out.2.2.1 HIK.out.2.2.2 rfl (by decide) v4 0 (u32L (([]:List Nat).take 0)) rfl o4 ⟨g6,0,none⟩ 1 1 [.int .u32 (a:Int)] rfl rfl hnews (fun u hu=>by simp only [List.mem_singleton] at hu; subst hu; rfl) (Nat.le_trans (show 0+1≤1000001 by omega) (by decide)) (by omega) hbelW.size ?_
        intro v7 W7 hown hgr _
        have hb7:Below wr.heap.size wr W7:=hbelW.grown hgr hbelW.size (fun y e=>(o4.lt y e).1)
        refine hK _ _ hb7 (fun _=>?_)
        clear hK K hnews o6 o4 hgr
        try simp only [Act.put,List.setIfInBounds_toArray,RowLaw.lset]
        refine wpAnyH_ready (rs:=[11]) (by kernel_rfl) (by simp) ?_
        refine AllReadyH.cons rfl (fun K hK=>?_) AllReadyH.nil
        rw [if_pos (by rfl)]
        refine wp_append_none _ _ 56 rfl wr.heap.size 22 ik 1 Tryz.underlying56 HIK.out.1 v7 (0+1) _ rfl hown rfl ?_
        have hb8:=hb7
        refine hK _ _ hb8 (fun _=>?_)
        clear hK K
        have hfin:U32V W7 (q+1) v7 (([]:List Nat).take 0 ++ [a] ++ ([]:List Nat).drop 0).length (([]:List Nat).take 0 ++ [a] ++ ([]:List Nat).drop 0):=by
         refine ⟨rfl,?_⟩
         exact own_base hown (Nat.le_trans hszq (Nat.le_refl _))
        have hch:=HB3.out.below hb8
        have HFIN:=Lib.hid (show ChB A w x r L _ q v7 (([]:List Nat).take 0 ++ [a] ++ ([]:List Nat).drop 0) W7 from ⟨hch.dt,hch.r0,hfin,hch.bel,hch.ge⟩)
        clear hfin hch hown
        try simp only [Act.put,List.setIfInBounds_toArray,RowLaw.lset]
        refine wpAnyH_take (i:=12) (v:=v7) rfl (by kernel_rfl) (by kernel_rfl) (by kernel_rfl) (fun _ _ _ h=>(h:False).elim) (Or.inl ⟨by rfl,fun _ _=>by go_simp⟩) hb8 ?_
        change wpAnyH _ _ _ _ _ _ _ (Act.put _ (some 3) _) _
        simp only [Act.put,List.setIfInBounds_toArray,RowLaw.lset]
        refine wpAnyH_done (by kernel_rfl) ?_ _
        refine NoPanic.normal ?_
        go_wp2_with fail
        go_roundw
        case rel=>exact ⟨k+1,by omega,by go_num,by rw [HT3.out]; exact HFIN.out⟩
        case measure=>simp [intOf]; omega
      ·injection hv with hp3 hl3 hc3
       subst hp3 hc3
       have hrow:=HB3.out.row.row
       have hcap:=ownsRow_cap hrow
       have m0:(0:Int)≤(m:Int):=by omega
       have m1:(m:Int)≤(out.length:Int):=by omega
       have m2:(m:Int)≤(c3:Int):=by omega
       have m3:(out.length:Int)≤(c3:Int):=by omega
       have m4:(m:Int)+((out.length - m:Nat):Int)=(out.length:Int):=by omega
       obtain ⟨ov,hovm,hov⟩:∃ ov,(m < out.length→ov=m)∧(if c3=m then some (⟨g3,0,none⟩:Addr) else some ⟨g3,m,none⟩)=some ⟨g3,ov,none⟩:=by
        by_cases hcm:c3=m
        ·exact ⟨0,fun h=>by omega,by rw [if_pos hcm]⟩
        ·exact ⟨m,fun _=>rfl,by rw [if_neg hcm]⟩
       have hsrc:∀ W,Below wr.heap.size wr W→W.ownsRow (q+1) 22 1 (.slice (some ⟨g3,0,none⟩) m c3) m (u32L (out.take m)):=fun W hW=>by
        have:=ownsRow_pre (own_kept hrow hW) (m:=m) hm
        rwa [show (u32L out).take m=u32L (out.take m) from by simp [u32L]] at this
       have hnew2:∀ W,Below wr.heap.size wr W→∀ (j:Nat) (u:Value),(u32L (out.drop m))[j]? = some u→W.cell? ((⟨g3,ov,none⟩:Addr).add j)=some u:=fun W hW j u hu=>by
        have hj:j < (out.drop m).length:=by
         have:=(List.getElem?_eq_some_iff.1 hu).1
         simpa [u32L] using this
        rw [List.length_drop] at hj
        have h1:=(own_kept hrow hW).cells (g:=g3) rfl (m+j) (.int .u32 (out[m+j]'(by omega):Int)) (u32L_get out (m+j) (by omega))
        have h2:(⟨g3,0,none⟩:Addr).add (m+j)=(⟨g3,ov,none⟩:Addr).add j:=by
         rw [hovm (by omega)]
         unfold Addr.add
         by_cases hj0:j=0 <;> by_cases hm0:m=0 <;> simp [hj0,hm0]
        rw [h2] at h1
        rw [h1]
        rw [u32L_get (out.drop m) j (by rw [List.length_drop]; omega)] at hu
        rw [←hu]
        simp
       have HSRC:=Lib.hid hsrc
       have HNEW:=Lib.hid hnew2
       clear hsrc hnew2 hrow hovm
       refine wp_region_noPanic ?_
       refine wp_region_held_drew (S:=fun W=>Below wr.heap.size wr W) (by kernel_rfl) (Below.refl _ _).drew ?_
       intro hS
       generalize wr.drew=V0 at hS ⊢
       refine RowLaw.tkV 1 68 (.slice (some ⟨g3,0,none⟩) out.length c3) hS ?_
       simp only [RowLaw.lset]
       refine RowLaw.tkV 2 69 (.int .i64 (m:Int)) hS ?_
       simp only [RowLaw.lset]
       refine RowLaw.tkV 3 70 (.slice (some ⟨g3,0,none⟩) m c3) hS ?_
       simp only [RowLaw.lset]
       refine RowLaw.tkV 5 72 (.int .u32 (a:Int)) hS ?_
       simp only [RowLaw.lset]
       refine RowLaw.tkV 8 75 (.slice (some ⟨g3,0,none⟩) out.length c3) hS ?_
       simp only [RowLaw.lset]
       refine RowLaw.tkV 9 76 (.int .i64 (m:Int)) hS ?_
       simp only [RowLaw.lset]
       refine RowLaw.tkV 10 77 (.slice (some ⟨g3,ov,none⟩) (out.length - m) (c3 - m)) hS ?_
       simp only [RowLaw.lset]
       have hszq:q+1≤wr.heap.size:=(Array.getElem?_eq_some_iff.1 HB3.out.r0).1
       refine wpAnyH_grow wr [(4,71),(6,73),(0,67)] [(4,0)] (cpFact 22 1 0 4 6 99 undef wr.heap.size m (u32L (out.take m)) #[.int .u32 (a:Int)]) 3 80 rfl (by kernel_rfl) rfl (by decide) (cpFact_stays _ _ _ _ _ _ _ _ _ _ _) (fun _ h=>h) hS ?_ ?_
       ·intro i d hid a' W K hbelW hold hdep hK
        simp only [List.mem_cons,Prod.mk.injEq,List.not_mem_nil,or_false] at hid
        rcases hid with ⟨rfl,rfl⟩ | ⟨rfl,rfl⟩ | ⟨rfl,rfl⟩
        ·obtain ⟨g,hv,hg,hge⟩:∃ g,a'.eval (.tmp 67)=.slice (some ⟨g,0,none⟩) 0 0∧W.heap[g]? = some (.cells #[] 22 (0,0))∧wr.heap.size≤g:=by
          have:=hdep 0 67 (by simp) (by simp)
          unfold cpFact at this
          rwa [if_pos rfl] at this
         refine wpOp_row _ rfl rfl (wp_append_copy _ _ 56 rfl Tryz.underlying56 HIK.out.1 HIK.out.2.1 HIK.out.2.2.1 HIK.out.2.2.2 rfl hg hv (hold 70 (by decide)) (HSRC.out W hbelW) (u32L_one _) (Nat.le_trans (show m≤1000000 by omega) (by decide)) (by omega) (fun v' W' h1 h2=>hK v' W' h2 ?_))
         unfold cpFact
         rw [if_neg (by decide),if_pos rfl]
         exact own_base h1 hge
        ·refine wpOp_row _ rfl rfl (wp_slice_row _ 56 1 #[(0,.tmp 72)] rfl #[(0,.int .u32 (a:Int))] (by simp [hold 72 (by decide)]; rfl) _ (run_build32 W a) (hK _ _ ((Below.refl _ _).alloc (Nat.le_refl _) _) ?_))
         unfold cpFact
         rw [if_neg (by decide),if_neg (by decide),if_pos rfl]
         exact ⟨_,rfl,heap_alloc_new W _⟩
        ·refine wpOp_row _ rfl rfl (wp_slice_row _ 56 0 #[] rfl #[] (by simp) _ (run_build_none W Tryz.underlying56 HIK.out.1) (hK _ _ ((Below.refl _ _).alloc (Nat.le_refl _) _) ?_))
         unfold cpFact
         rw [if_pos rfl]
         exact ⟨_,rfl,heap_alloc_new W _,hbelW.size⟩
       ·intro f W hall hbelW hfact
        obtain ⟨v0,h0⟩:=hall 0 67 (by simp)
        obtain ⟨v4,h4⟩:=hall 4 71 (by simp)
        obtain ⟨v6,h6⟩:=hall 6 73 (by simp)
        have o4:W.ownsRow wr.heap.size 22 1 v4 m (u32L (out.take m)):=by
         have:=hfact 4 v4 h4
         unfold cpFact at this
         rwa [if_neg (by decide),if_pos rfl] at this
        obtain ⟨g6,rfl,o6⟩:∃ g,v6=.slice (some ⟨g,0,none⟩) 1 1∧W.heap[g]? = some (.cells #[.int .u32 (a:Int)] 22 (0,0)):=by
         have:=hfact 6 v6 h6
         unfold cpFact at this
         rwa [if_neg (by decide),if_neg (by decide),if_pos rfl] at this
        simp only [putsF,setB,isF,h0,h4,h6,Option.isSome_some,if_true]
        simp only [Act.put,List.setIfInBounds_toArray,RowLaw.lset]
        clear hall hfact h0 h4 h6 hS
        have hnews:∀ (j:Nat) (u:Value),[Value.int .u32 (a:Int)][j]? = some u→W.cell? ((⟨g6,0,none⟩:Addr).add j)=some u:=fun j u hu=>by
         have:(⟨g6,0,none⟩:Addr).add j=⟨g6,j,none⟩:=by unfold Addr.add; split <;> simp_all
         rw [this,cell_of_row W g6 j _ _ _ o6]
         simpa using hu
        refine wpAnyH_ready (rs:=[7]) (by kernel_rfl) (by simp) ?_
        refine AllReadyH.cons rfl (fun K hK=>?_) AllReadyH.nil
        rw [if_pos (by rfl)]
        refine wp_append_own _ _ _ 56 rfl wr.heap.size 22 ik (.int .u32 0) 1 4 Tryz.underlying56 HIK.out.1 HIK.out.2.1 HIK.out.2.2.1 HIK.out.2.2.2 rfl (by decide) v4 m (u32L (out.take m)) rfl o4 ⟨g6,0,none⟩ 1 1 [.int .u32 (a:Int)] rfl rfl hnews (fun u hu=>by simp only [List.mem_singleton] at hu; subst hu; rfl) (Nat.le_trans (show m+1≤1000001 by omega) (by decide)) (by omega) hbelW.size ?_
        intro v7 W7 hown hgr _
        have hb7:Below wr.heap.size wr W7:=hbelW.grown hgr hbelW.size (fun y e=>(o4.lt y e).1)
        refine hK _ _ hb7 (fun _=>?_)
        clear hK K hnews o6 o4 hgr
        try simp only [Act.put,List.setIfInBounds_toArray,RowLaw.lset]
        refine wpAnyH_ready (rs:=[11]) (by kernel_rfl) (by simp) ?_
        refine AllReadyH.cons rfl (fun K hK=>?_) AllReadyH.nil
        rw [if_pos (by rfl)]
        refine wp_append_own _ _ _ 56 rfl wr.heap.size 22 ik (.int .u32 0) 1 4 Tryz.underlying56 HIK.out.1 HIK.out.2.1 HIK.out.2.2.1 HIK.out.2.2.2 rfl (by decide) v7 (m+1) _ rfl hown ⟨g3,ov,none⟩ (out.length - m) (c3 - m) (u32L (out.drop m)) rfl (by rw [u32L_length,List.length_drop]; omega) (HNEW.out W7 hb7) (u32L_one _) (Nat.le_trans (show m+1+(out.length - m)≤1000001 by omega) (by decide)) (by omega) hb7.size ?_
        intro v8 W8 hown8 hgr8 _
        have hb8:Below wr.heap.size wr W8:=hb7.grown hgr8 hb7.size (fun y e=>(hown.lt y e).1)
        refine hK _ _ hb8 (fun _=>?_)
        clear hK K hgr8
        have hfin:U32V W8 (q+1) v8 (out.take m ++ [a] ++ out.drop m).length (out.take m ++ [a] ++ out.drop m):=by
         have hl:(out.take m ++ [a] ++ out.drop m).length=m+1+(out.length - m):=by
          simp only [List.length_append,List.length_take,List.length_drop,List.length_cons,List.length_nil]
          omega
         refine ⟨rfl,?_⟩
         rw [hl,u32L_append,u32L_append]
         exact own_base hown8 (Nat.le_trans hszq (Nat.le_refl _))
        have hch:=HB3.out.below hb8
        have HFIN:=Lib.hid (show ChB A w x r L _ q v8 (out.take m ++ [a] ++ out.drop m) W8 from ⟨hch.dt,hch.r0,hfin,hch.bel,hch.ge⟩)
        clear hfin hch hown
        try simp only [Act.put,List.setIfInBounds_toArray,RowLaw.lset]
        refine wpAnyH_take (i:=12) (v:=v8) rfl (by kernel_rfl) (by kernel_rfl) (by kernel_rfl) (fun _ _ _ h=>(h:False).elim) (Or.inl ⟨by rfl,fun _ _=>by go_simp⟩) hb8 ?_
        change wpAnyH _ _ _ _ _ _ _ (Act.put _ (some 3) _) _
        simp only [Act.put,List.setIfInBounds_toArray,RowLaw.lset]
        refine wpAnyH_done (by kernel_rfl) ?_ _
        refine NoPanic.normal ?_
        go_wp2_with fail
        go_roundw
        case rel=>exact ⟨k+1,by omega,by go_num,by rw [HT3.out]; exact HFIN.out⟩
        case measure=>simp [intOf]; omega
  ·have hkn:k=L.length:=by omega
   have i1:¬ (k:Int) < (L.length:Int):=by omega
   rw [hkn,List.take_length,←HR.out] at hb
   have HB:=Lib.hid hb
   clear hb hkn
   go_wp2_with fail
   go_ret
   refine ⟨_,rfl,⟨HB.out.row.len,own_base HB.out.row.row (by have:=HB.out.ge; omega)⟩,HB.out.bel⟩
end Spc
namespace Spc
open Go.RowKit RowLaw
open Dev (ptr DS)
open Cnt (own_slice own_kept own_base own_ne info32)
open Rot (wpList_build_run)
variable {A:Nat→Prop}
def pagesD (per:Nat) (xs:List Nat):List Nat:=xs.foldl (fun out a=>if out.getLast? = some (a / per) then out else out ++ [a / per]) []
theorem pagesD_take (per:Nat) (xs:List Nat) (k:Nat) (hk:k < xs.length):pagesD per (xs.take (k+1))=if (pagesD per (xs.take k)).getLast? = some (xs[k] / per) then pagesD per (xs.take k) else pagesD per (xs.take k) ++ [xs[k] / per]:=by
 unfold pagesD
 rw [List.take_add_one,List.getElem?_eq_getElem hk,List.foldl_append]
 rfl
theorem pagesD_len (per:Nat) (xs:List Nat):∀ k,(pagesD per (xs.take k)).length≤k
 | 0=>by rw [List.take_zero]; exact Nat.le_refl _
 | k+1=>by
  have ih:=pagesD_len per xs k
  by_cases hk:k < xs.length
  ·rw [pagesD_take per xs k hk]
   split
   ·omega
   ·simp only [List.length_append,List.length_cons,List.length_nil]; omega
  ·rw [List.take_of_length_le (by omega)] at ih ⊢
   omega
structure PgB (w:World) (B:Nat) (v:Value) (xs:List Nat) (v5:Value) (out:List Nat) (W:World):Prop where
 src:U32V W B v xs.length xs
 row:U32V W w.heap.size v5 out.length out
 bel:Below w.heap.size w W
 old:∀ b,v.ownBlock=some b→b < w.heap.size
theorem PgB.below {w W W':World} {B:Nat} {v:Value} {xs:List Nat} {v5:Value} {out:List Nat} (h:PgB w B v xs v5 out W) (hb:Below W.heap.size W W'):PgB w B v xs v5 out W':=
 ⟨h.src.kept hb,h.row.kept hb,h.bel.trans (hb.mono h.bel.size),h.old⟩
theorem pages9_any {w:World} {B:Nat} {v:Value} {xs:List Nat} (h:U32V w B v xs.length xs) (hl:xs.length < 1000000) (hx:∀ x∈xs,x < 4294967296) {per:Nat} (hp:0 < per) (hp2:per < 4294967296) :
  Calls Tryz.prog 169 #[v,.int .u32 (per:Int)] w fun e w'=>∃ v',e=.returned v'∧U32V w' w.heap.size v' (pagesD per xs).length (pagesD per xs)∧Below w.heap.size w w':=by
 have hpb:PgB w B v xs (.slice none 0 0) [] w:=⟨h,U32V.nil _ _,Below.refl _ _,fun b e=>(h.row.lt b e).2⟩
 obtain ⟨ik,hik0,hik1,hik2,hik3⟩:=info_parts info32
 have HIK:=Lib.hid (And.intro hik0 (And.intro hik1 (And.intro hik2 hik3)))
 obtain ⟨pl,cl,rfl,_⟩:=own_slice h.row
 obtain ⟨R,hR⟩:∃ R,R=pagesD per xs:=⟨_,rfl⟩
 have HR:=Lib.hid hR
 rw [←hR]
 have HX:=Lib.hid hx
 clear h hik0 hik1 hik2 hik3 hR hx
 go_enter Tryz.func169,Tryz.ntmps169
 go_wp2_with fail
 go_loopw [5,6] (fun v5 i wr=>∃ k:Nat,k≤xs.length∧i=.int .i64 (k:Int)∧PgB w B (.slice pl xs.length cl) xs v5 (pagesD per (xs.take k)) wr) (fun _ i _=>xs.length - (intOf i).toNat)
 case atStart=>exact ⟨0,by omega,rfl,by rw [List.take_zero]; exact hpb⟩
 case round=>
  obtain ⟨k,hk,rfl,hb⟩:=hrel
  clear hpb
  have hol:=pagesD_len per xs k
  by_cases hlt:k < xs.length
  ·obtain ⟨g,c,he,hc0⟩:=hb.src.at_ hlt
   cases he
   have htk:=pagesD_take per xs k hlt
   have ha:=HX.out _ (List.getElem_mem hlt)
   generalize xs[k]=a at hc0 htk ha
   obtain ⟨out,hout⟩:∃ out,out=pagesD per (xs.take k):=⟨_,rfl⟩
   rw [←hout] at hb htk hol
   clear hout
   obtain ⟨p,hpa⟩:∃ p,p=a / per:=⟨_,rfl⟩
   rw [←hpa] at htk
   have hple:p≤a:=by rw [hpa]; exact Nat.div_le_self _ _
   have d1:Int.tdiv (a:Int) (per:Int)=(p:Int):=by rw [hpa,Int.tdiv_eq_ediv_of_nonneg (by omega)]; rfl
   have d2:(a:Int) / (per:Int)=(p:Int):=by rw [hpa]; rfl
   have i0:(0:Int)≤(k:Int):=by omega
   have i1:(k:Int) < (xs.length:Int):=by omega
   have ip:¬ (per:Int)=0:=by omega
   have ip':((per:Int) == 0)=false:=by simp; omega
   have z1:IntKind.i64.wrap ((k:Int)+1)=(k:Int)+1:=IntWalk.i64_in _ (by omega)
   have z2:IntKind.i64.wrap ((out.length:Int) - 1)=(out.length:Int) - 1:=IntWalk.i64_in _ (by omega)
   clear hpa
   have HTK:=Lib.hid htk
   have HB:=Lib.hid hb
   clear hb htk
   obtain ⟨p5,c5,hv5,_⟩:=own_slice HB.out.row.row
   subst hv5
   have hbs:=run_build32 wr p
   have HBS:=Lib.hid hbs
   have hnc:∀ (j:Nat) (u:Value),[Value.int .u32 (p:Int)][j]? = some u→(wr.alloc (.cells #[.int .u32 (p:Int)] 22)).cell? ((⟨wr.heap.size,0,none⟩:Addr).add j)=some u:=Dev.new_cells wr [.int .u32 (p:Int)] 22
   have HNC:=Lib.hid hnc
   have HRA:=Lib.hid (HB.out.row.row.alloc (.cells #[.int .u32 (p:Int)] 22))
   clear hbs hnc
   by_cases hlast:out.getLast? = some p
   ·have hne:out≠[]:=fun e=>by rw [e] at hlast; cases hlast
    have hlen:0 < out.length:=List.length_pos_iff.2 hne
    have hgl:out[out.length - 1]'(by omega)=p:=by
     rw [List.getLast?_eq_getElem?,List.getElem?_eq_getElem (by omega)] at hlast
     injection hlast
    obtain ⟨g5,cc5,he5,hc5⟩:=HB.out.row.at_ (k:=out.length - 1) (by omega)
    cases he5
    rw [hgl] at hc5
    have e0:((out.length:Int) == 0)=false:=by simp; exact hne
    have j0:(0:Int)≤(out.length:Int) - 1:=by omega
    have j1:(out.length:Int) - 1 < (out.length:Int):=by omega
    have j2:((out.length:Int) - 1).toNat=out.length - 1:=by omega
    have HT2:=Lib.hid (show pagesD per (xs.take (k+1))=out from by rw [HTK.out,if_pos hlast])
    clear hlast hne hgl
    go_wp2_with fail
    go_roundw
    case rel=>exact ⟨k+1,by omega,by go_num,by rw [HT2.out]; exact HB.out⟩
    case measure=>simp [intOf]; omega
   ·have HT2:=Lib.hid (show pagesD per (xs.take (k+1))=out ++ [p] from by rw [HTK.out,if_neg hlast])
    by_cases hne:out=[]
    ·have e0:((out.length:Int) == 0)=true:=by rw [hne]; rfl
     clear hlast hne
     go_wp2_with (at_builtin; refine wpList_append_own _ rfl _ _ 56 rfl w.heap.size 22 ik (.int .u32 0) 1 4 Tryz.underlying56 HIK.out.1 HIK.out.2.1 HIK.out.2.2.1 HIK.out.2.2.2 rfl (by decide) _ out.length (u32L out) rfl HRA.out ⟨wr.heap.size,0,none⟩ 1 1 [.int .u32 (p:Int)] rfl rfl HNC.out (fun u hu=>by simp only [List.mem_singleton] at hu; subst hu; rfl) (Nat.le_trans (show out.length+1≤1000001 by omega) (by decide)) (by omega) (by have:=HB.out.bel.size; rw [World.size_alloc]; omega) ?_; intro v8 W8 hown hgr _; have HO:=Lib.hid hown; have HG:=Lib.hid hgr; clear hown hgr)
     go_roundw
     case rel=>
      have hA:=HB.out.below ((Below.refl wr.heap.size wr).alloc (Nat.le_refl _) (.cells #[.int .u32 (p:Int)] 22))
      refine ⟨k+1,by omega,by go_num,?_⟩
      rw [HT2.out]
      refine ⟨⟨hA.src.len,Dev.ownsRow_block hA.src.row (fun b hb=>HG.out.block b (hA.src.row.lt b hb).2 (fun e=>by have h1:=(HRA.out.lt b e.symm).1; have h2:=hA.old b hb; omega))⟩,⟨rfl,?_⟩,hA.bel.grown HG.out hA.bel.size (fun y e=>(HRA.out.lt y e).1),hA.old⟩
      rw [List.length_append,u32L_append]
      exact HO.out
     case measure=>simp [intOf]; omega
    ·have hlen:0 < out.length:=List.length_pos_iff.2 hne
     obtain ⟨g5,cc5,he5,hc5⟩:=HB.out.row.at_ (k:=out.length - 1) (by omega)
     cases he5
     have hgl:out[out.length - 1]'(by omega)≠p:=fun e=>hlast (by rw [List.getLast?_eq_getElem?,List.getElem?_eq_getElem (by omega),e])
     generalize out[out.length - 1]'(by omega)=y at hc5 hgl
     have e0:((out.length:Int) == 0)=false:=by simp; exact hne
     have j0:(0:Int)≤(out.length:Int) - 1:=by omega
     have j1:(out.length:Int) - 1 < (out.length:Int):=by omega
     have j2:((out.length:Int) - 1).toNat=out.length - 1:=by omega
     have g1:((y:Int) != (p:Int))=true:=by simp; omega
     clear hlast hne hgl
     go_wp2_with (at_builtin; refine wpList_append_own _ rfl _ _ 56 rfl w.heap.size 22 ik (.int .u32 0) 1 4 Tryz.underlying56 HIK.out.1 HIK.out.2.1 HIK.out.2.2.1 HIK.out.2.2.2 rfl (by decide) _ out.length (u32L out) rfl HRA.out ⟨wr.heap.size,0,none⟩ 1 1 [.int .u32 (p:Int)] rfl rfl HNC.out (fun u hu=>by simp only [List.mem_singleton] at hu; subst hu; rfl) (Nat.le_trans (show out.length+1≤1000001 by omega) (by decide)) (by omega) (by have:=HB.out.bel.size; rw [World.size_alloc]; omega) ?_; intro v8 W8 hown hgr _; have HO:=Lib.hid hown; have HG:=Lib.hid hgr; clear hown hgr)
     go_roundw
     case rel=>
      have hA:=HB.out.below ((Below.refl wr.heap.size wr).alloc (Nat.le_refl _) (.cells #[.int .u32 (p:Int)] 22))
      refine ⟨k+1,by omega,by go_num,?_⟩
      rw [HT2.out]
      refine ⟨⟨hA.src.len,Dev.ownsRow_block hA.src.row (fun b hb=>HG.out.block b (hA.src.row.lt b hb).2 (fun e=>by have h1:=(HRA.out.lt b e.symm).1; have h2:=hA.old b hb; omega))⟩,⟨rfl,?_⟩,hA.bel.grown HG.out hA.bel.size (fun y e=>(HRA.out.lt y e).1),hA.old⟩
      rw [List.length_append,u32L_append]
      exact HO.out
     case measure=>simp [intOf]; omega
  ·have hkn:k=xs.length:=by omega
   have i1:¬ (k:Int) < (xs.length:Int):=by omega
   rw [hkn,List.take_length,←HR.out] at hb
   have HB:=Lib.hid hb
   clear hb hkn
   go_wp2_with fail
   go_ret
   exact ⟨_,rfl,HB.out.row,HB.out.bel⟩
end Spc
namespace Spc
open Go.RowKit RowLaw
open Cnt (bitAt turnBit turnBit_length)
open Tal (pgCells pgCells_size pgCells_one pgCells_set IsPg kP infoP zs zs_length sizeP)
variable {A:Nat→Prop}
theorem xor_pow (x r:Nat):x ^^^ 2 ^ r=if x / 2 ^ r % 2=1 then x - 2 ^ r else x+2 ^ r:=by
 have hp:0 < 2 ^ r:=Nat.pow_pos (by omega)
 have h1:(x ^^^ 2 ^ r) / 2 ^ r=oth (x / 2 ^ r):=by
  rw [oth_eq]
  show _=x / 2 ^ r ^^^ 1
  rw [Nat.xor_div_two_pow,Nat.div_self hp]
 have h2:(x ^^^ 2 ^ r) % 2 ^ r=x % 2 ^ r:=by
  rw [Nat.xor_mod_two_pow,Nat.mod_self,Nat.xor_zero]
 have h3:=Nat.div_add_mod (x ^^^ 2 ^ r) (2 ^ r)
 have h4:=Nat.div_add_mod x (2 ^ r)
 rw [h1,h2] at h3
 unfold oth at h3
 generalize 2 ^ r=P at *
 generalize x / P=y at *
 split at h3
 ·rename_i hy
  rw [if_neg (by omega),←h3,Nat.mul_add]
  omega
 ·rename_i hy
  rw [if_pos (by omega),←h3]
  have h5:P * y=P * (y - 1)+P:=by
   have:y=(y - 1)+1:=by omega
   conv=>lhs; rw [this,Nat.mul_add,Nat.mul_one]
  omega
theorem refTurn_any {k i:Nat} {ns:List Nat} (hl:ns.length=16) (hn:∀ x∈ns,x < 18446744073709551616) (hi:i < 1024) (w:World) :
  Calls Tryz.prog 175 #[.agg (pgCells .u64 k ns),.int .i64 (i:Int)] w fun e w'=>e=.returned (.tuple #[.agg (pgCells .u64 k (turnBit ns i)),.int .i64 0])∧Below w.heap.size w w':=by
 have hzv:=(zero_of_info infoP).1
 have hi0:=sizeP k ns hl
 have hi1:=sizeP k (turnBit ns i) (by rw [turnBit_length]; exact hl)
 have hsz:(pgCells .u64 0 (zs kP)).size=(pgCells .u64 k (turnBit ns i)).size:=by rw [pgCells_size,pgCells_size,zs_length,turnBit_length,hl]; rfl
 have b1:Below w.heap.size w (w.alloc (.cells (pgCells .u64 k ns) 142)):=(Below.refl _ _).alloc (Nat.le_refl _) _
 have b2:Below w.heap.size w ((w.alloc (.cells (pgCells .u64 k ns) 142)).alloc (.cells (pgCells .u64 0 (zs kP)) 142)):=b1.alloc b1.size _
 have q1:IsPg .u64 142 ((w.alloc (.cells (pgCells .u64 k ns) 142)).alloc (.cells (pgCells .u64 0 (zs kP)) 142)) w.heap.size k ns:=(Below.heap_alloc _ _ _ (by rw [World.size_alloc]; omega)).trans (heap_alloc_new w _)
 have q2:IsPg .u64 142 ((w.alloc (.cells (pgCells .u64 k ns) 142)).alloc (.cells (pgCells .u64 0 (zs kP)) 142)) (w.heap.size+1) 0 (zs kP):=heap_alloc2_new w _ _
 have HB:=Lib.hid (fun W=>refBit_any (k:=k) hl hn hi W)
 have hj:i / 64 < ns.length:=by omega
 have hx:ns[i / 64] < 18446744073709551616:=hn _ (List.getElem_mem hj)
 have hg:ns.getD (i / 64) 0=ns[i / 64]:=by rw [List.getD_eq_getElem?_getD,List.getElem?_eq_getElem hj]; rfl
 have hbd:bitAt ns i=ns[i / 64] / 2 ^ (i % 64) % 2:=by unfold bitAt; rw [hg]
 have htb:turnBit ns i=ns.set (i / 64) (if bitAt ns i=1 then ns[i / 64] - 2 ^ (i % 64) else ns[i / 64]+2 ^ (i % 64)):=by
  unfold turnBit
  rw [hg,xor_pow,←hbd]
 have hpw:2 ^ (i % 64) < 18446744073709551616:=Nat.pow_lt_pow_right (a:=2) (by omega) (show i % 64 < 64 by omega)
 have hxor:ns[i / 64] ^^^ 2 ^ (i % 64) < 18446744073709551616:=Nat.xor_lt_two_pow (n:=64) hx hpw
 rw [xor_pow,←hbd] at hxor
 have hge:bitAt ns i=1→2 ^ (i % 64)≤ns[i / 64]:=fun h=>by
  rw [hbd] at h
  have:0 < ns[i / 64] / 2 ^ (i % 64):=by
   rcases Nat.eq_zero_or_pos (ns[i / 64] / 2 ^ (i % 64)) with h0 | h0
   ·rw [h0] at h; cases h
   ·exact h0
  exact (Nat.div_pos_iff.1 this).2
 have hb2:bitAt ns i < 2:=Cnt.bitAt_lt ns i
 have hnum:=fun (W:World) (h:IsPg .u64 142 W w.heap.size k ns)=>h.num (i / 64) hj
 obtain ⟨ns',hns⟩:∃ n',n'=turnBit ns i:=⟨_,rfl⟩
 rw [←hns] at htb hi1 hsz ⊢
 clear hns hbd hg
 generalize ns[i / 64]=x at hnum htb hxor hge hx
 generalize bitAt ns i=b at HB htb hxor hge hb2
 obtain ⟨q,hq⟩:∃ q,q=i / 64:=⟨_,rfl⟩
 obtain ⟨r,hr⟩:∃ r,r=i % 64:=⟨_,rfl⟩
 rw [←hq] at hnum htb
 rw [←hr] at htb hxor hge hpw
 have d1:Int.tdiv (i:Int) 64=(q:Int):=by rw [Int.tdiv_eq_ediv_of_nonneg (by omega)]; omega
 have d2:Int.tmod (i:Int) 64=(r:Int):=by rw [Int.tmod_eq_emod_of_nonneg (by omega)]; omega
 have d3:(i:Int) / 64=(q:Int):=by omega
 have d4:(i:Int) % 64=(r:Int):=by omega
 have hq16:q < 16:=by omega
 have hr64:r < 64:=by omega
 have hq0:(0:Int)≤(q:Int):=by omega
 have hq1:(q:Int) < 16:=by omega
 have hr0:(0:Int)≤(r:Int):=by omega
 have hr1:(r:Int) < 64:=by omega
 have wq:IntKind.i64.wrap (q:Int)=q:=IntWalk.i64_in _ (by omega)
 have wr:IntKind.i64.wrap (r:Int)=r:=IntWalk.i64_in _ (by omega)
 obtain ⟨P,hP⟩:∃ P,P=2 ^ r:=⟨_,rfl⟩
 have hP2:((2:Int) ^ r)=(P:Int):=by rw [hP]; push_cast; rfl
 have wp2:IntKind.u64.wrap ((2:Int) ^ r)=(P:Int):=by rw [hP2]; exact IntWalk.u64_in _ (by omega)
 rw [←hP] at htb hxor hge hpw
 have HTB:=Lib.hid htb
 clear hq hr hj hl hn htb hP
 go_enter Tryz.func175,Tryz.ntmps175
 go_upto_region 1 with fail
 change Code.wp _ _ _ _ ((w.alloc (.cells (pgCells .u64 k ns) 142)).alloc (.cells (pgCells .u64 0 (zs kP)) 142))
 generalize (w.alloc (.cells (pgCells .u64 k ns) 142)).alloc (.cells (pgCells .u64 0 (zs kP)) 142)=W1 at b2 q1 q2 ⊢
 obtain ⟨g,hgg⟩:∃ g,g=w.heap.size:=⟨_,rfl⟩
 rw [←hgg] at q1 q2 hnum ⊢
 have HGG:=Lib.hid hgg
 clear hgg b1
 go_wp2_with (refine wpList_load_row rfl 142 _ rfl g rfl _ _ _ _ q1 Tryz.underlying142 rfl hi0 ?_)
 refine (HB.out _).mono ?_
 clear HB
 rintro e W2 ⟨rfl,hx2⟩
 have p1:IsPg .u64 142 W2 g k ns:=(hx2.block g (Array.getElem?_eq_some_iff.1 q1).1).trans q1
 have p2:IsPg .u64 142 W2 (g+1) 0 (zs kP):=(hx2.block (g+1) (Array.getElem?_eq_some_iff.1 q2).1).trans q2
 have b3:=b2.trans (hx2.mono b2.size)
 have c1:=hnum W2 p1
 have f1:=p1.frozen (1+q)
 clear q1 q2 b2 hx2 hnum
 by_cases hb1:b=1
 ·subst hb1
  rw [if_pos rfl] at hxor
  have hle:=hge rfl
  have htb:ns'=ns.set q (x - P):=by rw [HTB.out,if_pos rfl]
  have z1:IntKind.u64.wrap ((x:Int) - (P:Int))=((x - P:Nat):Int):=by rw [←Int.ofNat_sub hle]; exact IntWalk.u64_in _ (by omega)
  have z2:((x:Int) - (P:Int))=((x - P:Nat):Int):=by omega
  have s1:=p1.setNum q (x - P)
  rw [←htb] at s1
  have s2:IsPg .u64 142 (W2.setCell ⟨g,1+q,none⟩ (.int .u64 ((x - P:Nat):Int))) (g+1) 0 (zs kP):=p2.other ⟨g,1+q,none⟩ _ (show g+1≠g by omega)
  have b4:Below w.heap.size w (W2.setCell ⟨g,1+q,none⟩ (.int .u64 ((x - P:Nat):Int))):=b3.trans ⟨rfl,rfl,rfl,by simp,fun j hj=>heap_setCell_other W2 ⟨g,1+q,none⟩ j _ (by have:=HGG.out; show j≠g; omega)⟩
  generalize x - P=y at z1 z2 s1 s2 b4
  clear htb hge hb2 p1 p2 b3
  go_wp2_with (first | (refine wpList_load_row rfl 142 _ rfl g rfl _ _ _ _ s1 Tryz.underlying142 rfl hi1 ?_) | (refine wpList_store_row rfl 142 _ _ rfl (g+1) _ rfl rfl _ _ s2 hi1 hsz (pgCells_one _ _) ?_))
  exact bodyPost_ret (results_row_tmp rfl _ _ _ _ _ _ _ rfl (setRow_heap _ _ _ _ _ _ s2) Tryz.underlying142 rfl hi1) rfl ⟨rfl,Dev.below_row b4 (by have:=HGG.out; omega)⟩
 ·have hb0:b=0:=by omega
  subst hb0
  rw [if_neg (by omega)] at hxor
  have htb:ns'=ns.set q (x+P):=by rw [HTB.out,if_neg (by omega)]
  have z1:IntKind.u64.wrap ((x:Int)+(P:Int))=((x+P:Nat):Int):=by rw [←Int.natCast_add]; exact IntWalk.u64_in _ (by omega)
  have z2:((x:Int)+(P:Int))=((x+P:Nat):Int):=by omega
  have s1:=p1.setNum q (x+P)
  rw [←htb] at s1
  have s2:IsPg .u64 142 (W2.setCell ⟨g,1+q,none⟩ (.int .u64 ((x+P:Nat):Int))) (g+1) 0 (zs kP):=p2.other ⟨g,1+q,none⟩ _ (show g+1≠g by omega)
  have b4:Below w.heap.size w (W2.setCell ⟨g,1+q,none⟩ (.int .u64 ((x+P:Nat):Int))):=b3.trans ⟨rfl,rfl,rfl,by simp,fun j hj=>heap_setCell_other W2 ⟨g,1+q,none⟩ j _ (by have:=HGG.out; show j≠g; omega)⟩
  generalize x+P=y at z1 z2 s1 s2 b4
  clear htb hge hb2 p1 p2 b3
  go_wp2_with (first | (refine wpList_load_row rfl 142 _ rfl g rfl _ _ _ _ s1 Tryz.underlying142 rfl hi1 ?_) | (refine wpList_store_row rfl 142 _ _ rfl (g+1) _ rfl rfl _ _ s2 hi1 hsz (pgCells_one _ _) ?_))
  exact bodyPost_ret (results_row_tmp rfl _ _ _ _ _ _ _ rfl (setRow_heap _ _ _ _ _ _ s2) Tryz.underlying142 rfl hi1) rfl ⟨rfl,Dev.below_row b4 (by have:=HGG.out; omega)⟩
end Spc
namespace Spc
open Go.RowKit RowLaw
open Dev (pendCells putCells putCells_one putCells_length sizePut)
open Cnt (own_slice)
variable {A:Nat→Prop}
theorem noGuardP:Tryz.prog.eqGuardType Tryz.prog.depth 55=false:=by kernel_rfl
theorem fieldsP:Tryz.prog.underlying 55=some (.struct (Tryz.prog.fieldsOf 55)):=by kernel_rfl
theorem fieldsAreP : ((Tryz.prog.fieldsOf 55).toList.map fun f => (decide (f.name ≠ "_"), f.type, f.offset)) = [(true, 22, 0), (true, 39, 1)] := by kernel_rfl
theorem stoodP:Tryz.prog.stoodInHeld 55=false:=by kernel_rfl
theorem run_eqBlock9 (w:World) (l:List UInt8) (hl:l.length=256):(Op.equalIn 9999 39 (.agg (cellsOf l)) (.agg (cellsOf l))).run Tryz.prog w=.ok true w:=by
 obtain ⟨i,hi⟩:∃ i,Tryz.prog.info? 5=some i:=Option.isSome_iff_exists.1 (by kernel_rfl)
 rw [show (9999:Nat)=9997+1+1 from rfl,run_equalIn_array w (9997+1) (cellsOf l) (cellsOf l) Tryz.underlying39 hi,cellsOf8,run_eqItems8 w 9997 l l hl hl _ (by simp)]
 refine congrArg (Result.ok · w) ?_
 simp
theorem partBlk (w:World) (y:Nat×List UInt8) (hy:y.2.length=256):(part 39 (putCells y).toArray 1).run Tryz.prog w=.ok (.agg (cellsOf y.2)) w:=by
 have hs:(Tryz.prog.info? 39).map (·.size)=some 256:=by kernel_rfl
 cases hq:Tryz.prog.info? 39 with
 | none=>rw [hq] at hs; cases hs
 | some i=>
  rw [hq] at hs
  simp only [Option.map_some,Option.some.injEq] at hs
  have he2:(List.take 256 (putCells y).tail).toArray=cellsOf y.2:=by
   have h1:(putCells y).tail=(cellsOf y.2).toList:=rfl
   rw [h1,List.take_of_length_le (by simp [cellsOf,hy])]
  simp [part,isAgg,run_underlying Tryz.underlying39,sizeOf,typeInfo,hq,hs,he2]
theorem run_eqPut (w:World) (y:Nat×List UInt8) (hy:y.2.length=256):(Op.equalIn 10000 55 (.agg (putCells y).toArray) (.agg (putCells y).toArray)).run Tryz.prog w=.ok true w:=by
 rw [show (10000:Nat)=9999+1 from rfl,run_equalIn_struct w 9999 55 _ _ fieldsP stoodP]
 have h:=eqF_cons w 9999 (putCells y).toArray (putCells y).toArray (Tryz.prog.fieldsOf 55).toList 22 0 [(39,1)] (.int .u32 (y.1:Int)) (.int .u32 (y.1:Int)) ((y.1:Int) == (y.1:Int)) true fieldsAreP (part32 w _ 0 _ rfl) (part32 w _ 0 _ rfl) (run_equalIn_int (P:=Tryz.prog) w 9998 22 .u32 .u32 (y.1:Int) (y.1:Int) Tryz.underlying22) fun gs hg=>
  eqF_cons w 9999 _ _ gs 39 1 [] _ _ true true hg (partBlk w y hy) (partBlk w y hy) (run_eqBlock9 w y.2 hy) fun gs2 hg2=>eqF_nil w _ _ _ gs2 hg2
 rw [h]
 simp
theorem SamePuts_any {w:World} {v u:Value} {n m:Nat} {xs:List (Nat×List UInt8)} (hx:PutsV A w v n xs) (hy:PutsV A w u m xs) (hl:xs.length < 1000000) :
  Calls Tryz.prog 98 #[v,u] w fun e w'=>e=.returned (.bool true)∧Below w.heap.size w w':=by
 have e1:=hx.len
 have e2:=hy.len
 subst e1
 subst e2
 obtain ⟨pa,ca,rfl,_⟩:=own_slice hx.row
 obtain ⟨pb,cb,rfl,_⟩:=own_slice hy.row
 have HX:=Lib.hid (fun W (hb:Below w.heap.size w W)=>hx.kept hb)
 have HY:=Lib.hid (fun W (hb:Below w.heap.size w W)=>hy.kept hb)
 clear hx hy
 have d1:((xs.length:Int) != (xs.length:Int))=false:=by simp
 go_enter Tryz.func98,Tryz.ntmps98
 go_wp2_with fail
 clear d1
 go_loopw [5] (fun i wr=>∃ k:Nat,k≤xs.length∧i=.int .i64 (k:Int)∧Below w.heap.size w wr) (fun i _=>xs.length - (intOf i).toNat)
 case atStart=>exact ⟨0,by omega,rfl,Below.refl _ _⟩
 case round=>
  obtain ⟨k,hk,rfl,hb⟩:=hrel
  by_cases hlt:k < xs.length
  ·have hxw:=HX.out wr hb
   have hyw:=HY.out wr hb
   obtain ⟨g,c,he,hr⟩:=hxw.at_ hlt
   cases he
   obtain ⟨g',c',he',hr'⟩:=hyw.at_ hlt
   cases he'
   have hok:=hxw.ok _ (List.getElem_mem hlt)
   generalize xs[k]=y at hr hr' hok
   have hsp:=sizePut y hok.1
   have hq:=fun W=>run_eqPut W y hok.1
   have hgl:g < wr.heap.size:=World.block_lt_of_cell? wr _ (hr 0 _ rfl)
   have hgl':g' < wr.heap.size:=World.block_lt_of_cell? wr _ (hr' 0 _ rfl)
   obtain ⟨pc,hpc⟩:∃ z,z=putCells y:=⟨_,rfl⟩
   rw [←hpc] at hr hr' hsp hq
   clear hpc
   have HR:=Lib.hid (fun W (hW:Below wr.heap.size wr W)=>(show W.rangeAt g (k * 257) pc from fun j u hu=>(hW.cell (p:=⟨g,k * 257+j,none⟩) hgl).trans (hr j u hu)))
   have HR':=Lib.hid (fun W (hW:Below wr.heap.size wr W)=>(show W.rangeAt g' (k * 257) pc from fun j u hu=>(hW.cell (p:=⟨g',k * 257+j,none⟩) hgl').trans (hr' j u hu)))
   have HQ:=Lib.hid hq
   have HB:=Lib.hid hb
   have i0:(0:Int)≤(k:Int):=by omega
   have i1:(k:Int) < (xs.length:Int):=by omega
   have z1:IntKind.i64.wrap ((k:Int)+1)=(k:Int)+1:=IntWalk.i64_in _ (by omega)
   clear hr hr' hxw hyw hgl hgl' hq hok
   go_wp2_with fail
   refine wp_region_noPanic ?_
   refine wp_region_held_drew (S:=fun W=>Below wr.heap.size wr W) (by kernel_rfl) (Below.refl _ _).drew ?_
   intro hS
   have hbb:=HB.out.trans (hS.mono HB.out.size)
   generalize wr.drew=W0 at hS hbb ⊢
   refine RowLaw.tkV 0 17 (.slice (some ⟨g,0,none⟩) xs.length ca) hS ?_
   simp only [RowLaw.lset]
   refine RowLaw.tkV 1 18 (.int .i64 (k:Int)) hS ?_
   simp only [RowLaw.lset]
   refine RowLaw.tkV 2 19 (.pointer (some ⟨g,k * 257,none⟩)) hS ?_
   simp only [RowLaw.lset]
   refine RowLaw.tkV 3 20 (.agg pc.toArray) hS ?_ (hy:=(yieldsIf_load_mid (by rfl) 55 _ rfl g (k * 257) rfl pc _ (fun W hW=>HR.out W hW) Tryz.underlying55 rfl hsp))
   simp only [RowLaw.lset]
   refine RowLaw.tkV 4 21 (.slice (some ⟨g',0,none⟩) xs.length cb) hS ?_
   simp only [RowLaw.lset]
   refine RowLaw.tkV 5 22 (.int .i64 (k:Int)) hS ?_
   simp only [RowLaw.lset]
   refine RowLaw.tkV 6 23 (.pointer (some ⟨g',k * 257,none⟩)) hS ?_
   simp only [RowLaw.lset]
   refine RowLaw.tkV 7 24 (.agg pc.toArray) hS ?_ (hy:=(yieldsIf_load_mid (by rfl) 55 _ rfl g' (k * 257) rfl pc _ (fun W hW=>HR'.out W hW) Tryz.underlying55 rfl hsp))
   simp only [RowLaw.lset]
   refine RowLaw.tkV 8 25 (.bool false) hS ?_ (hy:=(Or.inl ⟨by rfl,fun W _=>by have e1:=HQ.out; have hg2:=fun (W:World) (op:BinOp) (x y:Operand) (xs ys:Array Value)=>run_eqGuard_agg (P:=Tryz.prog) W op 55 x y xs ys noGuardP; go_simp⟩))
   simp only [RowLaw.lset]
   refine wpAnyH_done (by kernel_rfl) ?_ _
   refine NoPanic.normal ?_
   clear HR HR' HQ hsp
   go_wp2_with fail
   go_roundw
   case rel=>exact ⟨k+1,by omega,by go_num,hbb⟩
   case measure=>simp [intOf]; omega
  ·have i1:¬ (k:Int) < (xs.length:Int):=by omega
   go_wp2_with fail
   go_ret
   exact ⟨rfl,hb⟩
end Spc

end Go.Proofs.YtgkbfahflngklaaGreat
