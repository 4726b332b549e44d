import Derived.Test.YtgkbfahflngklaaGreatSpcC
import Derived.Test.YtgkbfahflngklaaGreatSlt4
import Derived.Test.YtgkbfahflngklaaGreatPln
import Derived.Test.YtgkbfahflngklaaGreatRotB
import Derived.Deep.QuietTactic
import Derived.BigQuiet
set_option maxRecDepth 100000
set_option maxHeartbeats 6400000
set_option linter.unusedSimpArgs false
namespace Go.Proofs.YtgkbfahflngklaaGreat
namespace Spc
open Go.RowKit RowLaw
open Dev (ptr pendCells putCells putCells_one putCells_length pendCells_append pendCells_get infoPut sizePut run_buildPut new_cells exec_build yieldsIf_load_row)
open Cnt (own_slice own_kept own_base own_ne)
variable {A:Nat→Prop}
abbrev zeroD:Array Value:=rdC 0 (.slice none 0 0) (.slice none 0 0) 0
structure WlB (A:Nat→Prop) (w:World) (x:RS) (vl:Value) (xs:List (Nat×List UInt8)) (q:Nat) (k:Nat) (W:World):Prop where
 as_:∃ vg vw,W.heap[q]? = some (.cells (rdC x.n vg vw (x.wr+k)) 62 (0,0))∧PutsV A W vg x.good.length x.good∧PutsV A W vw (x.wait ++ xs.take k).length (x.wait ++ xs.take k)
 res:W.heap[q+1]? = some (.cells zeroD 62 (0,0))
 row:PutsV A W vl xs.length xs
 bel:Below w.heap.size w W
 ge:w.heap.size≤q
theorem WlB.below {w W W':World} {x:RS} {vl:Value} {xs:List (Nat×List UInt8)} {q k:Nat} (h:WlB A w x vl xs q k W) (hb:Below W.heap.size W W'):WlB A w x vl xs q k W':=by
 obtain ⟨⟨vg,vw,h1,h2,h3⟩,h4,h5,h6,h7⟩:=h
 exact ⟨⟨vg,vw,(hb.block _ (Array.getElem?_eq_some_iff.1 h1).1).trans h1,h2.kept hb,h3.kept hb⟩,(hb.block _ (Array.getElem?_eq_some_iff.1 h4).1).trans h4,h5.kept hb,h6.trans (hb.mono h6.size),h7⟩
theorem RD.other {W W':World} {v:Value} {x:RS} (h:RD A W v x) {q:Nat} {cs:Array Value} (hq:W.heap[q]? = some (.cells cs 62 (0,0))) (hh:∀ k,k≠q→W'.heap[k]? = W.heap[k]?):RD A W' v x:=by
 obtain ⟨⟨vg,vw,rfl,hg,hw⟩,h1,h2,h3⟩:=h
 exact ⟨⟨vg,vw,rfl,hg.other hq hh,hw.other hq hh⟩,h1,h2,h3⟩
theorem write8_any {w:World} {v vl:Value} {n:Nat} {x:RS} {xs:List (Nat×List UInt8)} (h:RD A w v x) (hp:PutsV A w vl n xs) (hlt:∀ y∈xs,y.1 < x.n) (hwr:x.wr+n+1 < 1000000000) (hgw:x.good.length+x.wait.length+n+1 < 1000000) (hAA:∀ b,w.heap.size≤b→A b) :
  Calls Tryz.prog 165 #[v,vl] w fun e w'=>∃ v',e=.returned (.tuple #[v',.int .i64 0])∧RD A w' v' ⟨x.n,flushL x.good (x.wait ++ xs),[],x.wr+n+1⟩∧Below w.heap.size w w':=by
 have h0:=h
 obtain ⟨⟨vg,vw,rfl,hg,hw⟩,n32,g32,w32⟩:=h
 have hzv:=(zero_of_info infoRD).1
 have b1:Below w.heap.size w (w.alloc (.cells (rdC x.n vg vw x.wr) 62)):=(Below.refl _ _).alloc (Nat.le_refl _) _
 have b2:Below w.heap.size w ((w.alloc (.cells (rdC x.n vg vw x.wr) 62)).alloc (.cells zeroD 62)):=b1.alloc b1.size _
 have q1:(w.alloc (.cells (rdC x.n vg vw x.wr) 62)).heap[w.heap.size]? = some (.cells (rdC x.n vg vw x.wr) 62 (0,0)):=heap_alloc_new w _
 have q1':((w.alloc (.cells (rdC x.n vg vw x.wr) 62)).alloc (.cells zeroD 62)).heap[w.heap.size]? = some (.cells (rdC x.n vg vw x.wr) 62 (0,0)):=(Below.heap_alloc _ _ _ (by rw [World.size_alloc]; omega)).trans q1
 have q2:((w.alloc (.cells (rdC x.n vg vw x.wr) 62)).alloc (.cells zeroD 62)).heap[w.heap.size+1]? = some (.cells zeroD 62 (0,0)):=heap_alloc2_new w _ _
 have hn:=hp.len
 subst hn
 have hwb:WlB A w x vl xs w.heap.size 0 ((w.alloc (.cells (rdC x.n vg vw x.wr) 62)).alloc (.cells zeroD 62)):=⟨⟨vg,vw,q1',hg.kept b2,by rw [List.take_zero,List.append_nil]; exact hw.kept b2⟩,q2,hp.kept b2,b2,Nat.le_refl _⟩
 have HNN:=Lib.hid (And.intro n32 (And.intro g32 w32))
 have HOK:=Lib.hid hp.ok
 have HLT:=Lib.hid hlt
 have HWR:=Lib.hid hwr
 have HGW:=Lib.hid hgw
 obtain ⟨pk,ck,rfl,_⟩:=own_slice hp.row
 clear b1 q1 hg hw h0 n32 g32 w32 b2 q1' q2 hp hlt
 go_enter Tryz.func165,Tryz.ntmps165
 go_upto_region 1 with fail
 change Code.wp _ _ _ _ ((w.alloc (.cells (rdC x.n vg vw x.wr) 62)).alloc (.cells zeroD 62))
 obtain ⟨q,hq⟩:∃ q,q=w.heap.size:=⟨_,rfl⟩
 rw [←hq] at hwb ⊢
 generalize (w.alloc (.cells (rdC x.n vg vw x.wr) 62)).alloc (.cells zeroD 62)=W1 at hwb ⊢
 clear hq
 go_wp2_with fail
 go_loopw [6] (fun i wr=>∃ k:Nat,k≤xs.length∧i=.int .i64 (k:Int)∧WlB A w x (.slice pk xs.length ck) xs q k wr) (fun i _=>xs.length - (intOf i).toNat)
 case atStart=>exact ⟨0,by omega,rfl,hwb⟩
 case round=>
  obtain ⟨k,hk,rfl,hb⟩:=hrel
  clear hwb
  by_cases hlt:k < xs.length
  ·obtain ⟨g,c,he,hr⟩:=hb.row.at_ hlt
   cases he
   have hHB:=hb
   obtain ⟨⟨vg,vw,h1,h2,h3⟩,h4,h5,h6,h7⟩:=hb
   have hy:=HOK.out _ (List.getElem_mem hlt)
   have hyn:=HLT.out _ (List.getElem_mem hlt)
   have htk:=List.take_succ_eq_append_getElem hlt
   generalize hyy:xs[k]=y at hr hy htk hyn
   have HTK:=Lib.hid htk
   clear hyy htk
   have hglt:g < wr.heap.size:=by
    have h0:=hr 0 _ rfl
    exact World.block_lt_of_cell? wr _ h0
   have hid:=sizeRD x.n vg vw (x.wr+k)
   have hsb:=sizeBlock y.2 hy.1
   have i0:(0:Int)≤(k:Int):=by omega
   have i1:(k:Int) < (xs.length:Int):=by omega
   have z1:IntKind.i64.wrap ((k:Int)+1)=(k:Int)+1:=IntWalk.i64_in _ (by omega)
   have HRA:=Lib.hid (fun W (hW:Below wr.heap.size wr W)=>(show W.rangeAt g (k * 257) (putCells y) from fun j u hu=>(hW.cell (p:=⟨g,k * 257+j,none⟩) hglt).trans (hr j u hu)))
   have HR0:=Lib.hid (fun W (hW:Below wr.heap.size wr W)=>(hW.block q (Array.getElem?_eq_some_iff.1 h1).1).trans h1)
   have HRD:=Lib.hid (show RD A wr (.agg (rdC x.n vg vw (x.wr+k))) ⟨x.n,x.good,x.wait ++ xs.take k,x.wr+k⟩ from ⟨⟨vg,vw,rfl,h2,h3⟩,HNN.out.1,HNN.out.2.1,by
    show (x.wait ++ xs.take k).length < 1000000
    rw [List.length_append,List.length_take]
    have:=HGW.out
    omega⟩)
   have HHB:=Lib.hid hHB
   have HY:=Lib.hid (And.intro hy hyn)
   clear hr h1 h2 h3 h4 h5 h6 h7 hHB hy hyn hglt
   go_wp2_with fail
   refine wp_region_noPanic ?_
   refine wp_region_held_drew (S:=fun W=>Below wr.heap.size wr W) (by kernel_rfl) (Below.refl _ _).drew ?_
   intro hS
   generalize wr.drew=W0 at hS ⊢
   refine RowLaw.tkV 0 16 (.agg (rdC x.n vg vw (x.wr+k))) hS ?_ (hy:=(yieldsIf_load_row (by rfl) 62 _ rfl q rfl _ _ _ _ (fun W hW=>HR0.out W hW) Tryz.underlying62 rfl hid))
   simp only [RowLaw.lset]
   refine RowLaw.tkV 1 17 (.slice (some ⟨g,0,none⟩) xs.length ck) hS ?_
   simp only [RowLaw.lset]
   refine RowLaw.tkV 2 18 (.int .i64 (k:Int)) hS ?_
   simp only [RowLaw.lset]
   refine RowLaw.tkV 3 19 (.pointer (some ⟨g,k * 257,none⟩)) hS ?_
   simp only [RowLaw.lset]
   refine RowLaw.tkV 4 20 (.pointer (some ⟨g,k * 257,none⟩)) hS ?_
   simp only [RowLaw.lset]
   refine RowLaw.tkV 5 21 (.int .u32 (y.1:Int)) hS ?_ (hy:=(Or.inl ⟨by rfl,fun W hW=>by have c:W.cell? ⟨g,k * 257,none⟩=some (.int .u32 (y.1:Int)):=by { have h0:=HRA.out W hW 0 _ rfl; simpa using h0 }; go_simp⟩))
   simp only [RowLaw.lset]
   refine RowLaw.tkV 6 22 (.slice (some ⟨g,0,none⟩) xs.length ck) hS ?_
   simp only [RowLaw.lset]
   refine RowLaw.tkV 7 23 (.int .i64 (k:Int)) hS ?_
   simp only [RowLaw.lset]
   refine RowLaw.tkV 8 24 (.pointer (some ⟨g,k * 257,none⟩)) hS ?_
   simp only [RowLaw.lset]
   refine RowLaw.tkV 9 25 (.pointer (some ⟨g,k * 257+1,none⟩)) hS ?_
   simp only [RowLaw.lset]
   refine RowLaw.tkV 10 26 (.agg (cellsOf y.2)) hS ?_ (hy:=(yieldsIf_load_mid (by rfl) 39 _ rfl g (k * 257+1) rfl (cellsOf y.2).toList _ (fun W hW=>(fun j u hu=>by rw [Nat.add_assoc,Nat.add_comm 1 j]; exact HRA.out W hW (j+1) u hu)) Tryz.underlying39 rfl (by simpa using hsb)))
   simp only [RowLaw.lset]
   clear HRA HR0 hid hsb
   have HZA:=Lib.hid (fun W (hW:Below wr.heap.size wr W)=>(show (W.alloc (.cells zeroD 62)).heap[W.heap.size]? = some (.cells zeroD 62 (0,0))∧Below wr.heap.size wr (W.alloc (.cells zeroD 62)) from ⟨heap_alloc_new W _,hW.alloc hW.size _⟩))
   have HWRITE:=Lib.hid (fun W (hW:Below wr.heap.size wr W)=>Write3_any (HRD.out.kept hW) HY.out.1.1 HY.out.2 (show x.wr+k < 1000000000 by have:=HWR.out; omega) (show (x.wait ++ xs.take k).length+1 < 1000000 by
    rw [List.length_append,List.length_take]
    have:=HGW.out
    omega) (fun b hb=>hAA b (Nat.le_trans HHB.out.bel.size (Nat.le_trans hW.size hb))))
   clear HRD
   refine wpAnyH_ready (rs:=[11,15]) (by kernel_rfl) (by simp) ?_
   refine AllReadyH.cons rfl (fun K hK=>?_) (AllReadyH.cons rfl (fun K hK=>?_) AllReadyH.nil)
   ·rw [if_pos (by rfl)]
    go_simp
    refine (HWRITE.out _ hS).mono ?_
    clear HWRITE
    rintro e W5 ⟨v',rfl,hD,hx⟩
    dsimp only
    have hS5:=hS.trans (hx.mono hS.size)
    refine hK _ _ hS5 (fun _=>?_)
    clear hK K
    try simp only [Act.put,List.setIfInBounds_toArray,RowLaw.lset]
    refine RowLaw.tkV 12 15 (.tuple #[v',.int .i64 0]) hS5 ?_
    simp only [RowLaw.lset]
    refine RowLaw.tkV 13 28 (v') hS5 ?_
    simp only [RowLaw.lset]
    refine RowLaw.tkV 14 29 (.int .i64 0) hS5 ?_
    simp only [RowLaw.lset]
    refine wpAnyH_ready (rs:=[15]) (by kernel_rfl) (by simp) ?_
    refine AllReadyH.cons rfl (fun K hK=>?_) AllReadyH.nil
    rw [if_pos (by rfl)]
    go_simp
    obtain ⟨h7,hS6⟩:=HZA.out _ hS5
    have hge:=hS5.size
    have hD:=hD.kept ((Below.refl W5.heap.size W5).alloc (Nat.le_refl _) (.cells zeroD 62))
    refine hK _ _ hS6 (fun _=>?_)
    clear hK K HZA hx
    try simp only [Act.put,List.setIfInBounds_toArray,RowLaw.lset]
    obtain ⟨g7,hg7⟩:∃ g,g=W5.heap.size:=⟨_,rfl⟩
    rw [←hg7] at h7 hge ⊢
    clear hg7 hS5
    generalize W5.alloc (.cells zeroD 62)=W6 at h7 hS6 hD ⊢
    obtain ⟨⟨vg',vw',rfl,hg',hw'⟩,hD1,hD2,hD3⟩:=hD
    have h1c:=rdC_one x.n (x.wr+k+1) hg'.slice hw'.slice
    have hid':=sizeRD x.n vg' vw' (x.wr+k+1)
    refine wpAnyH_ready (rs:=[16]) (by kernel_rfl) (by simp) ?_
    refine AllReadyH.cons rfl (fun K hK=>?_) AllReadyH.nil
    rw [if_pos (by rfl)]
    refine wp_store_row 62 _ _ rfl g7 (rdC x.n vg' vw' (x.wr+k+1)) rfl rfl _ _ h7 hid' rfl h1c ?_
    have hS7:Below wr.heap.size wr (W6.setRow g7 (rdC x.n vg' vw' (x.wr+k+1))):=Dev.below_row hS6 hge
    have h8:=setRow_heap W6 g7 _ (rdC x.n vg' vw' (x.wr+k+1)) _ _ h7
    have hoth:∀ j,j≠g7→(W6.setRow g7 (rdC x.n vg' vw' (x.wr+k+1))).heap[j]? = W6.heap[j]?:=fun j hj=>setRow_other _ _ _ _ hj
    have pg:=hg'.other h7 hoth
    have pw:=hw'.other h7 hoth
    refine hK _ _ hS7 (fun _=>?_)
    clear hK K
    try simp only [Act.put,List.setIfInBounds_toArray,RowLaw.lset]
    refine RowLaw.tkV 17 8 (.int .i64 0) hS7 ?_
    simp only [RowLaw.lset]
    refine wpAnyH_done (by kernel_rfl) ?_ _
    refine NoPanic.normal ?_
    have hne:q≠g7:=fun e=>by
     have h0:=HHB.out.as_
     obtain ⟨_,_,h0,_⟩:=h0
     have:=(Array.getElem?_eq_some_iff.1 h0).1
     omega
    have hne1:q+1≠g7:=fun e=>by
     have:=(Array.getElem?_eq_some_iff.1 HHB.out.res).1
     omega
    have hwl:=HHB.out.below hS7
    generalize W6.setRow g7 (rdC x.n vg' vw' (x.wr+k+1))=W8 at hS7 h8 hoth pg pw hwl ⊢
    clear hoth hS6 h7 hg' hw'
    obtain ⟨⟨ug,uw,k1,_,_⟩,k2,k3,k4,k5⟩:=hwl
    have hoth:∀ j,j≠q→(W8.setRow q (rdC x.n vg' vw' (x.wr+k+1))).heap[j]? = W8.heap[j]?:=fun j hj=>setRow_other _ _ _ _ hj
    have HF:=Lib.hid (show WlB A w x (.slice (some ⟨g,0,none⟩) xs.length ck) xs q (k+1) (W8.setRow q (rdC x.n vg' vw' (x.wr+k+1))) from
     ⟨⟨vg',vw',by rw [←Nat.add_assoc]; exact setRow_heap _ _ _ _ _ _ k1,pg.other k1 hoth,by rw [HTK.out,←List.append_assoc]; exact pw.other k1 hoth⟩,(hoth _ (by omega)).trans k2,k3.other k1 hoth,Dev.below_row k4 k5,k5⟩)
    clear pg pw k2 k3 k4 k5 hoth hS7
    go_wp2_with (first | (refine wpList_load_row rfl 62 _ rfl g7 rfl _ _ _ _ h8 Tryz.underlying62 rfl hid' ?_) | (refine wpList_store_row rfl 62 _ _ rfl q _ rfl rfl _ _ k1 hid' rfl h1c ?_))
    go_roundw
    case rel=>exact ⟨k+1,by omega,by go_num,HF.out⟩
    case measure=>simp [intOf]; omega
   ·rw [if_pos (by rfl)]
    go_simp
    obtain ⟨h7,hS6⟩:=HZA.out _ hS
    have hge:=hS.size
    refine hK _ _ hS6 (fun _=>?_)
    clear hK K HZA hS
    try simp only [Act.put,List.setIfInBounds_toArray,RowLaw.lset]
    obtain ⟨g7,hg7⟩:∃ g,g=W0.heap.size:=⟨_,rfl⟩
    rw [←hg7] at h7 hge ⊢
    clear hg7
    have hS:=hS6
    clear hS6
    generalize W0.alloc (.cells zeroD 62)=W6 at h7 hS ⊢
    refine wpAnyH_ready (rs:=[11]) (by kernel_rfl) (by simp) ?_
    refine AllReadyH.cons rfl (fun K hK=>?_) AllReadyH.nil
    rw [if_pos (by rfl)]
    go_simp
    refine (HWRITE.out _ hS).mono ?_
    clear HWRITE
    rintro e W5 ⟨v',rfl,hD,hx⟩
    dsimp only
    have hS5:=hS.trans (hx.mono hS.size)
    refine hK _ _ hS5 (fun _=>?_)
    clear hK K
    try simp only [Act.put,List.setIfInBounds_toArray,RowLaw.lset]
    refine RowLaw.tkV 12 15 (.tuple #[v',.int .i64 0]) hS5 ?_
    simp only [RowLaw.lset]
    refine RowLaw.tkV 13 28 (v') hS5 ?_
    simp only [RowLaw.lset]
    refine RowLaw.tkV 14 29 (.int .i64 0) hS5 ?_
    simp only [RowLaw.lset]
    have hS6:=hS5
    have h7:=(hx.block g7 (Array.getElem?_eq_some_iff.1 h7).1).trans h7
    clear hx hS
    obtain ⟨⟨vg',vw',rfl,hg',hw'⟩,hD1,hD2,hD3⟩:=hD
    have h1c:=rdC_one x.n (x.wr+k+1) hg'.slice hw'.slice
    have hid':=sizeRD x.n vg' vw' (x.wr+k+1)
    refine wpAnyH_ready (rs:=[16]) (by kernel_rfl) (by simp) ?_
    refine AllReadyH.cons rfl (fun K hK=>?_) AllReadyH.nil
    rw [if_pos (by rfl)]
    refine wp_store_row 62 _ _ rfl g7 (rdC x.n vg' vw' (x.wr+k+1)) rfl rfl _ _ h7 hid' rfl h1c ?_
    have hS7:Below wr.heap.size wr (W5.setRow g7 (rdC x.n vg' vw' (x.wr+k+1))):=Dev.below_row hS6 hge
    have h8:=setRow_heap W5 g7 _ (rdC x.n vg' vw' (x.wr+k+1)) _ _ h7
    have hoth:∀ j,j≠g7→(W5.setRow g7 (rdC x.n vg' vw' (x.wr+k+1))).heap[j]? = W5.heap[j]?:=fun j hj=>setRow_other _ _ _ _ hj
    have pg:=hg'.other h7 hoth
    have pw:=hw'.other h7 hoth
    refine hK _ _ hS7 (fun _=>?_)
    clear hK K
    try simp only [Act.put,List.setIfInBounds_toArray,RowLaw.lset]
    refine RowLaw.tkV 17 8 (.int .i64 0) hS7 ?_
    simp only [RowLaw.lset]
    refine wpAnyH_done (by kernel_rfl) ?_ _
    refine NoPanic.normal ?_
    have hne:q≠g7:=fun e=>by
     have h0:=HHB.out.as_
     obtain ⟨_,_,h0,_⟩:=h0
     have:=(Array.getElem?_eq_some_iff.1 h0).1
     omega
    have hne1:q+1≠g7:=fun e=>by
     have:=(Array.getElem?_eq_some_iff.1 HHB.out.res).1
     omega
    have hwl:=HHB.out.below hS7
    generalize W5.setRow g7 (rdC x.n vg' vw' (x.wr+k+1))=W8 at hS7 h8 hoth pg pw hwl ⊢
    clear hoth hS6 h7 hg' hw'
    obtain ⟨⟨ug,uw,k1,_,_⟩,k2,k3,k4,k5⟩:=hwl
    have hoth:∀ j,j≠q→(W8.setRow q (rdC x.n vg' vw' (x.wr+k+1))).heap[j]? = W8.heap[j]?:=fun j hj=>setRow_other _ _ _ _ hj
    have HF:=Lib.hid (show WlB A w x (.slice (some ⟨g,0,none⟩) xs.length ck) xs q (k+1) (W8.setRow q (rdC x.n vg' vw' (x.wr+k+1))) from
     ⟨⟨vg',vw',by rw [←Nat.add_assoc]; exact setRow_heap _ _ _ _ _ _ k1,pg.other k1 hoth,by rw [HTK.out,←List.append_assoc]; exact pw.other k1 hoth⟩,(hoth _ (by omega)).trans k2,k3.other k1 hoth,Dev.below_row k4 k5,k5⟩)
    clear pg pw k2 k3 k4 k5 hoth hS7
    go_wp2_with (first | (refine wpList_load_row rfl 62 _ rfl g7 rfl _ _ _ _ h8 Tryz.underlying62 rfl hid' ?_) | (refine wpList_store_row rfl 62 _ _ rfl q _ rfl rfl _ _ k1 hid' rfl h1c ?_))
    go_roundw
    case rel=>exact ⟨k+1,by omega,by go_num,HF.out⟩
    case measure=>simp [intOf]; omega
  ·have hkn:k=xs.length:=by omega
   subst hkn
   have i1:¬ (xs.length:Int) < (xs.length:Int):=by omega
   obtain ⟨⟨vg,vw,h1,h2,h3⟩,h4,h5,h6,h7⟩:=hb
   rw [List.take_length] at h3
   have hid:=sizeRD x.n vg vw (x.wr+xs.length)
   have HFL:=Lib.hid (Flush3_any (show RD A wr (.agg (rdC x.n vg vw (x.wr+xs.length))) ⟨x.n,x.good,x.wait ++ xs,x.wr+xs.length⟩ from ⟨⟨vg,vw,rfl,h2,h3⟩,HNN.out.1,HNN.out.2.1,by
    show (x.wait ++ xs).length < 1000000
    rw [List.length_append]
    have:=HGW.out
    omega⟩) (by show x.wr+xs.length < 1000000000; have:=HWR.out; omega) (by
    show x.good.length+(x.wait ++ xs).length < 1000000
    rw [List.length_append]
    have:=HGW.out
    omega) (fun b hb=>hAA b (Nat.le_trans h6.size hb)))
   clear h2 h3 h5
   go_wp2_with (refine wpList_load_row rfl 62 _ rfl q rfl _ _ _ _ h1 Tryz.underlying62 rfl hid ?_)
   refine HFL.out.mono ?_
   clear HFL
   rintro e W5 ⟨v',rfl,hD,hx⟩
   obtain ⟨⟨vg',vw',rfl,hg',hw'⟩,hD1,hD2,hD3⟩:=hD
   have p2:=(hx.block (q+1) (Array.getElem?_eq_some_iff.1 h4).1).trans h4
   have b5:=h6.trans (hx.mono h6.size)
   have h1c:=rdC_one x.n (x.wr+xs.length+1) hg'.slice hw'.slice
   have hid':=sizeRD x.n vg' vw' (x.wr+xs.length+1)
   have HP:=Lib.hid (And.intro hg' hw')
   clear hg' hw' hx h1 h4 h6
   go_wp2_with (refine wpList_store_row rfl 62 _ _ rfl (q+1) _ rfl rfl _ _ p2 hid' rfl h1c ?_)
   have hoth:∀ j,j≠q+1→(W5.setRow (q+1) (rdC x.n vg' vw' (x.wr+xs.length+1))).heap[j]? = W5.heap[j]?:=fun j hj=>setRow_other _ _ _ _ hj
   refine bodyPost_ret (results_row_tmp rfl _ _ _ _ _ _ _ rfl (setRow_heap _ _ _ _ _ _ p2) Tryz.underlying62 rfl hid') rfl ⟨_,rfl,?_,Dev.below_row b5 (by omega)⟩
   exact ⟨⟨vg',vw',rfl,HP.out.1.other p2 hoth,HP.out.2.other p2 hoth⟩,hD1,hD2,hD3⟩
end Spc
namespace Spc
open Go.RowKit RowLaw
open Dev (ptr pendCells putCells putCells_one putCells_length pendCells_append pendCells_get infoPut sizePut run_buildPut new_cells)
open Cnt (own_slice own_kept own_base own_ne)
open Slt (Rt cells cells_one rtB rtB_length mayB infoR)
open Rot (wpList_build_run)
variable {A:Nat→Prop}
theorem puts_one (W:World) {y:Nat×List UInt8} (h:y.2.length=256) (h2:y.1 < 4294967296) (hAW:A W.heap.size):PutsV A (W.alloc (.cells (putCells y).toArray 55)) (.slice (some ⟨W.heap.size,0,none⟩) 1 1) 1 [y]:=by
 have hl:=putCells_length h
 have hp:pendCells [y]=putCells y:=by simp [pendCells]
 refine ⟨rfl,?_,fun z hz=>?_,fun b e=>by cases e; exact hAW⟩
 ·rw [hp]
  exact ⟨by rw [hl],.inr ⟨W.heap.size,1,_,rfl,Nat.zero_le _,heap_alloc_new W _,Nat.le_refl _,by simp [maxLen],by simp [hl],List.take_of_length_le (by simp [hl])⟩⟩
 ·simp only [List.mem_singleton] at hz
  subst hz
  exact ⟨h,h2⟩
theorem turn8_any {w:World} {v:Value} {x:RS} (h:RD A w v x) {r:Rt} (hf:r.Fits) (hm:mayB r=true) (hn:2≤x.n) (hwr:x.wr+2 < 1000000000) (hgw:x.good.length+x.wait.length+2 < 1000000) (hAA:∀ b,w.heap.size≤b→A b) :
  Calls Tryz.prog 166 #[v,.agg (cells r)] w fun e w'=>∃ v',e=.returned (.tuple #[v',.int .i64 0])∧RD A w' v' ⟨x.n,flushL x.good (x.wait ++ [(r.gen % 2,rtB r)]),[],x.wr+1+1⟩∧Below w.heap.size w w':=by
 have h0:=h
 obtain ⟨⟨vg,vw,rfl,hg,hw⟩,n32,g32,w32⟩:=h
 have hzv:=(zero_of_info infoRD).1
 have hzb:=(zero_of_info infoBlock).1
 have hid:=sizeRD x.n vg vw x.wr
 have hir:(Tryz.prog.info? 31).map (·.size)=some (cells r).size:=(zero_of_info infoR).2
 obtain ⟨W1,hW1⟩:∃ W,W=((w.alloc (.cells (rdC x.n vg vw x.wr) 62)).alloc (.cells (cells r) 31)).alloc (.cells zeroD 62):=⟨_,rfl⟩
 have b2:Below w.heap.size w W1:=by
  rw [hW1]
  exact (((Below.refl _ _).alloc (Nat.le_refl _) _).alloc (by simp only [World.size_alloc]; omega) _).alloc (by simp only [World.size_alloc]; omega) _
 have q1:W1.heap[w.heap.size]? = some (.cells (rdC x.n vg vw x.wr) 62 (0,0)):=by
  rw [hW1]
  exact (Below.heap_alloc _ _ _ (by simp only [World.size_alloc]; omega)).trans ((Below.heap_alloc _ _ _ (by simp only [World.size_alloc]; omega)).trans (heap_alloc_new w _))
 have q2:W1.heap[w.heap.size+1]? = some (.cells (cells r) 31 (0,0)):=by
  rw [hW1]
  exact (Below.heap_alloc _ _ _ (by simp only [World.size_alloc]; omega)).trans (heap_alloc2_new w _ _)
 have q3:W1.heap[w.heap.size+2]? = some (.cells zeroD 62 (0,0)):=by
  rw [hW1]
  have:=heap_alloc_new ((w.alloc (.cells (rdC x.n vg vw x.wr) 62)).alloc (.cells (cells r) 31)) (.cells zeroD 62)
  simpa only [World.size_alloc] using this
 have HD:=Lib.hid (h0.kept b2)
 have HP:=Lib.hid (Slt.refPut_yes r hm hf)
 clear hg hw h0 n32 g32 w32
 go_enter Tryz.func166,Tryz.ntmps166
 go_upto_region 1 with fail
 change Code.wp _ _ _ _ (((w.alloc (.cells (rdC x.n vg vw x.wr) 62)).alloc (.cells (cells r) 31)).alloc (.cells zeroD 62))
 rw [←hW1]
 clear hW1
 obtain ⟨q,hq⟩:∃ q,q=w.heap.size:=⟨_,rfl⟩
 rw [←hq] at q1 q2 q3 ⊢
 have HQ:=Lib.hid hq
 clear hq
 go_wp2_with (refine wpList_load_row rfl 31 _ rfl (q+1) rfl _ _ _ _ q2 Tryz.underlying31 rfl hir ?_)
 refine (HP.out _).mono ?_
 clear HP
 rintro e W2 ⟨rfl,hx⟩
 have p1:=(hx.block q (Array.getElem?_eq_some_iff.1 q1).1).trans q1
 have p2:=(hx.block (q+1) (Array.getElem?_eq_some_iff.1 q2).1).trans q2
 have p3:=(hx.block (q+2) (Array.getElem?_eq_some_iff.1 q3).1).trans q3
 have b3:=b2.trans (hx.mono b2.size)
 have HD2:=Lib.hid (HD.out.kept hx)
 clear HD q1 q2 q3 b2 hx
 have hbl:=rtB_length r
 have hsb:=sizeBlock _ hbl
 obtain ⟨bl,hble⟩:∃ z,z=rtB r:=⟨_,rfl⟩
 have HBL:=Lib.hid hble
 rw [←hble] at hbl hsb ⊢
 clear hble
 have hz:Holds (W2.alloc (.cells (cellsOf zeros) 39)) W2.heap.size zeros:=Holds.new W2 zeros
 have bz:Below W2.heap.size W2 (W2.alloc (.cells (cellsOf zeros) 39)):=(Below.refl _ _).alloc (Nat.le_refl _) _
 have tok:True:=trivial
 go_upto_region 2 with (have _t:=tok; refine wpList_store_new rfl 39 _ _ rfl (cellsOf bl) _ _ (by simp [Act.eval]) rfl hsb (by rw [cellsOf_size,cellsOf_size,hbl,zeros_length]) (cellsOf_one _) ?_; clear _t tok)
 have hS3:Below W2.heap.size W2 (W2.alloc (.cells (cellsOf bl) 39)):=(Below.refl _ _).alloc (Nat.le_refl _) _
 have h3:Holds (W2.alloc (.cells (cellsOf bl) 39)) W2.heap.size bl:=Holds.new W2 bl
 have p1':=(hS3.block q (Array.getElem?_eq_some_iff.1 p1).1).trans p1
 have p2':=(hS3.block (q+1) (Array.getElem?_eq_some_iff.1 p2).1).trans p2
 have p3':=(hS3.block (q+2) (Array.getElem?_eq_some_iff.1 p3).1).trans p3
 have b4:=b3.trans (hS3.mono b3.size)
 have HD3:=Lib.hid (HD2.out.kept hS3)
 clear HD2 p1 p2 p3 b3 hz bz hS3
 generalize W2.heap.size=g at h3 ⊢
 generalize W2.alloc (.cells (cellsOf bl) 39)=W3 at h3 p1' p2' p3' b4 HD3 ⊢
 have c0:W3.cell? ⟨q+1,0,none⟩=some (.int .u64 (r.gen:Int)):=(cell_of_row W3 (q+1) 0 _ _ _ p2').trans rfl
 have hr2:r.gen % 2 < 4294967296:=by have:=Nat.mod_lt r.gen (show 2 > 0 by omega); omega
 have HBU:=Lib.hid (run_buildPut W3 (r.gen % 2,bl) hbl)
 have HPO:=Lib.hid (puts_one (A:=A) W3 (y:=(r.gen % 2,bl)) hbl hr2 (hAA _ b4.size))
 have hS4:Below W3.heap.size W3 (W3.alloc (.cells (putCells (r.gen % 2,bl)).toArray 55)):=(Below.refl _ _).alloc (Nat.le_refl _) _
 have p3:=(hS4.block (q+2) (Array.getElem?_eq_some_iff.1 p3').1).trans p3'
 have b5:=b4.trans (hS4.mono b4.size)
 have HWR:=Lib.hid (write8_any (HD3.out.kept hS4) HPO.out (fun y hy=>by simp only [List.mem_singleton] at hy; subst hy; show r.gen % 2 < x.n; have:=Nat.mod_lt r.gen (show 2 > 0 by omega); omega) (by omega) (by omega) (fun b hb=>hAA b (Nat.le_trans b5.size hb)))
 clear p3' b4 HD3 HPO hS4
 go_wp2_with (first | (refine wpList_load_row rfl 62 _ rfl q rfl _ _ _ _ p1' Tryz.underlying62 rfl hid ?_) | (refine wpList_load_row rfl 39 _ rfl g rfl _ _ _ _ h3 Tryz.underlying39 rfl hsb ?_) | (refine Cnt.wpList_build_put2 rfl _ _ rfl (r.gen % 2) bl hbl rfl rfl ?_) | (refine wpList_build_run rfl 44 1 #[(0,.tmp 19)] rfl #[(0,.agg (putCells (r.gen % 2,bl)).toArray)] (by first | rfl | (simp [Act.eval]; done) | (simp [Act.eval]; rfl)) _ HBU.out ?_; clear HBU))
 refine HWR.out.mono ?_
 clear HWR
 rintro e W5 ⟨v',rfl,hD,hx⟩
 obtain ⟨⟨vg',vw',rfl,hg',hw'⟩,hD1,hD2,hD3⟩:=hD
 have p4:=(hx.block (q+2) (Array.getElem?_eq_some_iff.1 p3).1).trans p3
 have b6:=b5.trans (hx.mono b5.size)
 have h1c:=rdC_one x.n (x.wr+1+1) hg'.slice hw'.slice
 have hid':=sizeRD x.n vg' vw' (x.wr+1+1)
 have HP:=Lib.hid (And.intro hg' hw')
 clear hg' hw' hx p3 b5
 go_wp2_with (refine wpList_store_row rfl 62 _ _ rfl (q+2) _ rfl rfl _ _ p4 hid' rfl h1c ?_)
 have hoth:∀ j,j≠q+2→(W5.setRow (q+2) (rdC x.n vg' vw' (x.wr+1+1))).heap[j]? = W5.heap[j]?:=fun j hj=>setRow_other _ _ _ _ hj
 refine bodyPost_ret (results_row_tmp rfl _ _ _ _ _ _ _ rfl (setRow_heap _ _ _ _ _ _ p4) Tryz.underlying62 rfl hid') rfl ⟨_,rfl,?_,Dev.below_row b6 (by have:=HQ.out; omega)⟩
 rw [←HBL.out]
 exact ⟨⟨vg',vw',rfl,HP.out.1.other p4 hoth,HP.out.2.other p4 hoth⟩,hD1,hD2,hD3⟩
end Spc
namespace Rot
open Go.RowKit RowLaw
open Slt (Rt cells rootO infoR sizeR cells_one IsRt mayB May_any)
open Dev (Dev DS ptr)
theorem May8_any {n:Nat} (h:planOk n=true) (r:Rt) (w:World):Calls Tryz.prog 177 #[.agg (cells r),.int .u32 (n:Int)] w fun e w'=>e=.returned (.bool (mayR r n))∧Below w.heap.size w w':=by
  have hzp:=(zero_of_info infoPlan).1
  obtain ⟨h64,hbig⟩:64≤n∧n≤1048576:=by simpa [planOk] using h
  obtain ⟨-,f2,-,-,-,f6,-,-,-⟩:=plan_facts h64 hbig
  have hL:=refLayout_yes h
  have hM:=Slt.refMay_any r
  obtain ⟨ans,ha⟩:∃ ans,ans=mayR r n:=⟨_,rfl⟩
  rw [←ha]
  unfold mayR at ha
  generalize tlN n=t at *
  generalize pkN n=p at *
  generalize fsN n=f at *
  generalize mayB r=m at *
  have HA:=Lib.hid ha
  clear ha
  have hK:=(Kept.start w).alloc (rootO r)
  clear h
  go_enter Tryz.func177,Tryz.ntmps177
  go_wp2_with fail
  change Calls _ _ _ (w.alloc (rootO r)) _
  refine (hL _).mono ?_
  rintro e W1 ⟨rfl,hx⟩
  have hK1:=(hK.below hx).alloc (planO t p f)
  clear hx hK hL
  have tok:True:=trivial
  go_wp2_with (first
    | (have _t:=tok; refine wpList_store_new rfl 82 _ _ rfl (planCells t p f) _ _ rfl rfl (sizePlan t p f) rfl (planCells_one t p f) ?_; change wpList _ _ _ _ _ (W1.alloc (planO t p f)); generalize hW2:W1.alloc (planO t p f)=W2 at hK1 ⊢; clear hW2; have hR:W2.heap[w.heap.size]? = some (.cells (cells r) 31 (0,0)):=hK1.at_ (q:=w.heap.size) (o:=rootO r) (by simp); clear _t tok)
    | (refine wpList_load_row rfl 31 _ rfl w.heap.size rfl _ _ _ _ hR Tryz.underlying31 rfl (sizeR r) ?_)
    | (with_reducible refine (hM _).mono ?_))
  rintro e W3 ⟨rfl,hx⟩
  have hK3:=hK1.below hx
  clear hx hM hR hK1
  have hb:=hK3.bel
  have hC:IsRt W3 w.heap.size r:=hK3.at_ (q:=w.heap.size) (o:=rootO r) (by simp)
  have hP:W3.heap[W1.heap.size]? = some (.cells (planCells t p f) 82 (0,0)):=hK3.at_ (q:=W1.heap.size) (o:=planO t p f) (by simp)
  have e1:=hC.size
  have e2:=hC.picks
  have e4:=hC.free
  have e6:=hC.hint
  have p1:W3.cell? ⟨W1.heap.size,1,none⟩=some (.int .u32 (p:Int)):=(cell_of_row W3 W1.heap.size 1 _ _ _ hP).trans rfl
  have p2:W3.cell? ⟨W1.heap.size,2,none⟩=some (.int .u32 (f:Int)):=(cell_of_row W3 W1.heap.size 2 _ _ _ hP).trans rfl
  clear hP hC hK3
  have s0:(0:Int)≤(p:Int):=by omega
  have s1:(p:Int)≤32:=by omega
  cases m with
  | false=>
    go_wp2
    go_ret
    exact ⟨by rw [HA.out]; rfl,hb⟩
  | true=>
    by_cases hh:r.size=n
    case neg=>
      have d0:((((r.size:Int) == (n:Int)))=false):=by rw [beq_eq_false_iff_ne]; omega
      have H0:=Lib.hid hh
      clear hh
      go_wp2
      go_ret
      exact ⟨by rw [HA.out]; simp [H0.out] <;> omega,hb⟩
    case pos=>
      have d0:((((r.size:Int) == (n:Int)))=true):=by rw [beq_iff_eq]; omega
      have H0:=Lib.hid hh
      clear hh
      by_cases hh:r.picks / 2 ^ p=0
      case neg=>
        have d1:((((r.picks:Int) / 2 ^ p == 0))=false):=by
          rw [beq_eq_false_iff_ne]; intro h9; apply hh; exact_mod_cast h9
        have H1:=Lib.hid hh
        clear hh
        go_wp2
        go_ret
        exact ⟨by rw [HA.out]; simp [H0.out,H1.out] <;> omega,hb⟩
      case pos=>
        have d1:((((r.picks:Int) / 2 ^ p == 0))=true):=by
          rw [beq_iff_eq]; exact_mod_cast hh
        have H1:=Lib.hid hh
        clear hh
        by_cases hh:f≤r.hint
        case neg=>
          have d2:¬ (f:Int)≤(r.hint:Int):=by omega
          have H2:=Lib.hid hh
          clear hh
          go_wp2
          go_ret
          exact ⟨by rw [HA.out]; simp [H0.out,H1.out,H2.out] <;> omega,hb⟩
        case pos=>
          have d2:(f:Int)≤(r.hint:Int):=by omega
          have H2:=Lib.hid hh
          clear hh
          by_cases hh:r.free≤n - f
          case neg=>
            have d3:¬ (r.free:Int)≤(n:Int) - (f:Int):=by omega
            have H3:=Lib.hid hh
            clear hh
            go_wp2
            go_ret
            exact ⟨by rw [HA.out]; simp [H0.out,H1.out,H2.out,H3.out] <;> omega,hb⟩
          case pos=>
            have d3:(r.free:Int)≤(n:Int) - (f:Int):=by omega
            have H3:=Lib.hid hh
            clear hh
            go_wp2
            go_ret
            exact ⟨by rw [HA.out]; simp [H0.out,H1.out,H2.out,H3.out] <;> omega,hb⟩
end Rot
namespace Spc
open Go.RowKit RowLaw
open Dev (ptr pendCells putCells putCells_one putCells_length pendCells_append pendCells_get infoPut sizePut run_buildPut new_cells)
open Cnt (own_slice own_kept own_base own_ne)
open Slt (Rt cells cells_one rtB rtB_length mayB infoR)
open Rot (planOk mayR commitOk May8_any)
variable {A:Nat→Prop}
structure CmB (A:Nat→Prop) (w:World) (x:RS) (v vl:Value) (cs:Array Value) (xs:List (Nat×List UInt8)) (r:Rt) (q:Nat) (W:World):Prop where
 rd:RD A W v x
 eq:v=.agg cs
 r0:W.heap[q]? = some (.cells cs 62 (0,0))
 r1:W.heap[q+1]? = some (.cells (cells r) 31 (0,0))
 r2:W.heap[q+2]? = some (.cells zeroD 62 (0,0))
 row:PutsV A W vl xs.length xs
 bel:Below w.heap.size w W
 ge:w.heap.size≤q
theorem CmB.below {w W W':World} {x:RS} {v vl:Value} {cs:Array Value} {xs:List (Nat×List UInt8)} {r:Rt} {q:Nat} (h:CmB A w x v vl cs xs r q W) (hb:Below W.heap.size W W'):CmB A w x v vl cs xs r q W':=
 ⟨h.rd.kept hb,h.eq,(hb.block _ (Array.getElem?_eq_some_iff.1 h.r0).1).trans h.r0,(hb.block _ (Array.getElem?_eq_some_iff.1 h.r1).1).trans h.r1,(hb.block _ (Array.getElem?_eq_some_iff.1 h.r2).1).trans h.r2,h.row.kept hb,h.bel.trans (hb.mono h.bel.size),h.ge⟩
theorem Commit8_any {w:World} {v vl:Value} {n:Nat} {x:RS} {xs:List (Nat×List UInt8)} {r:Rt} (h:RD A w v x) (hp:PutsV A w vl n xs) (hpl:planOk x.n=true) (ok:commitOk x.n xs r=true) (hf:r.Fits) (hwt:x.wait=[]) (hwr:x.wr+n+10 < 1000000000) (hgw:x.good.length+n+10 < 1000000) (hAA:∀ b,w.heap.size≤b→A b) :
  Calls Tryz.prog 100 #[v,vl,.agg (cells r)] w fun e w'=>∃ v',e=.returned (.tuple #[v',.int .i64 0])∧RD A w' v' (commitX x xs r)∧Below w.heap.size w w':=by
 have h0:=h
 obtain ⟨⟨vg,vw,rfl,hg,hw⟩,n32,g32,w32⟩:=h
 have hzv:=(zero_of_info infoRD).1
 have hid:=sizeRD x.n vg vw x.wr
 have hir:(Tryz.prog.info? 31).map (·.size)=some (cells r).size:=(zero_of_info infoR).2
 have hok:=ok
 unfold commitOk at hok
 rw [Bool.and_eq_true] at hok
 obtain ⟨hmay,hall⟩:=hok
 have hat:∀ y∈xs,2≤y.1∧y.1 < x.n:=fun y hy=>by simpa using List.all_eq_true.1 hall y hy
 have hmb:mayB r=true:=by
  unfold mayR at hmay
  rw [Bool.and_eq_true] at hmay
  exact hmay.1
 have hn64:64≤x.n:=(Cnt.plan_of hpl).1
 have hl:=hp.len
 subst hl
 obtain ⟨W1,hW1⟩:∃ W,W=((w.alloc (.cells (rdC x.n vg vw x.wr) 62)).alloc (.cells (cells r) 31)).alloc (.cells zeroD 62):=⟨_,rfl⟩
 have b2:Below w.heap.size w W1:=by
  rw [hW1]
  exact (((Below.refl _ _).alloc (Nat.le_refl _) _).alloc (by simp only [World.size_alloc]; omega) _).alloc (by simp only [World.size_alloc]; omega) _
 have q1:W1.heap[w.heap.size]? = some (.cells (rdC x.n vg vw x.wr) 62 (0,0)):=by
  rw [hW1]
  exact (Below.heap_alloc _ _ _ (by simp only [World.size_alloc]; omega)).trans ((Below.heap_alloc _ _ _ (by simp only [World.size_alloc]; omega)).trans (heap_alloc_new w _))
 have q2:W1.heap[w.heap.size+1]? = some (.cells (cells r) 31 (0,0)):=by
  rw [hW1]
  exact (Below.heap_alloc _ _ _ (by simp only [World.size_alloc]; omega)).trans (heap_alloc2_new w _ _)
 have q3:W1.heap[w.heap.size+2]? = some (.cells zeroD 62 (0,0)):=by
  rw [hW1]
  have:=heap_alloc_new ((w.alloc (.cells (rdC x.n vg vw x.wr) 62)).alloc (.cells (cells r) 31)) (.cells zeroD 62)
  simpa only [World.size_alloc] using this
 have hcb:CmB A w x (.agg (rdC x.n vg vw x.wr)) vl (rdC x.n vg vw x.wr) xs r w.heap.size W1:=⟨h0.kept b2,rfl,q1,q2,q3,hp.kept b2,b2,Nat.le_refl _⟩
 have HM:=Lib.hid (May8_any hpl r)
 rw [hmay] at HM
 have HAT:=Lib.hid hat
 have HN:=Lib.hid (And.intro hf (And.intro hmb (And.intro hn64 (And.intro hwt (And.intro hwr hgw)))))
 have HOK:=Lib.hid hp.ok
 obtain ⟨pk,ck,rfl,_⟩:=own_slice hp.row
 clear hg hw h0 n32 g32 w32 hp hat hall hmay hmb hf hwr hgw ok hpl hwt
 go_enter Tryz.func100,Tryz.ntmps100
 go_upto_region 1 with fail
 change Code.wp _ _ _ _ (((w.alloc (.cells (rdC x.n vg vw x.wr) 62)).alloc (.cells (cells r) 31)).alloc (.cells zeroD 62))
 rw [←hW1]
 clear hW1
 obtain ⟨q,hq⟩:∃ q,q=w.heap.size:=⟨_,rfl⟩
 rw [←hq] at q1 q2 q3 hcb ⊢
 clear hq
 have c0:W1.cell? ⟨q,0,none⟩=some (.int .u32 (x.n:Int)):=(cell_of_row W1 q 0 _ _ _ q1).trans rfl
 go_wp2_with (refine wpList_load_row rfl 31 _ rfl (q+1) rfl _ _ _ _ q2 Tryz.underlying31 rfl hir ?_)
 refine (HM.out _).mono ?_
 clear HM
 rintro e W2 ⟨rfl,hx⟩
 have hcb2:=hcb.below hx
 clear hcb q1 q2 q3 c0 hx b2
 go_wp2_with fail
 go_loopw [8] (fun i wr=>∃ k:Nat,k≤xs.length∧i=.int .i64 (k:Int)∧CmB A w x (.agg (rdC x.n vg vw x.wr)) (.slice pk xs.length ck) (rdC x.n vg vw x.wr) xs r q wr) (fun i _=>xs.length - (intOf i).toNat)
 case atStart=>exact ⟨0,by omega,rfl,hcb2⟩
 case round=>
  obtain ⟨k,hk,rfl,hb⟩:=hrel
  clear hcb2
  by_cases hlt:k < xs.length
  ·obtain ⟨g,c,he,hr⟩:=hb.row.at_ hlt
   cases he
   have hy:=HAT.out _ (List.getElem_mem hlt)
   generalize xs[k]=y at hr hy
   have ca:wr.cell? ⟨g,k * 257,none⟩=some (.int .u32 (y.1:Int)):=by simpa using hr 0 _ rfl
   have c0:wr.cell? ⟨q,0,none⟩=some (.int .u32 (x.n:Int)):=(cell_of_row wr q 0 _ _ _ hb.r0).trans rfl
   have i0:(0:Int)≤(k:Int):=by omega
   have i1:(k:Int) < (xs.length:Int):=by omega
   have z1:IntKind.i64.wrap ((k:Int)+1)=(k:Int)+1:=IntWalk.i64_in _ (by have:=HN.out.2.2.2.2.2; omega)
   have d1:¬ (y.1:Int) < 2:=by omega
   have d2:¬ (x.n:Int)≤(y.1:Int):=by omega
   have d1':decide ((y.1:Int) < 2)=false:=decide_eq_false d1
   have d1n:decide (y.1 < 2)=false:=decide_eq_false (by omega)
   have HB:=Lib.hid hb
   clear hr hb hy
   go_wp2_with fail
   go_big_quiet (fail)
   go_wp2_with fail
   go_roundw
   case rel=>exact ⟨k+1,by omega,by go_num,HB.out.below ⟨rfl,rfl,rfl,Nat.le_refl _,fun _ _=>rfl⟩⟩
   case measure=>simp [intOf]; omega
  ·have hkn:k=xs.length:=by omega
   subst hkn
   have i1:¬ (xs.length:Int) < (xs.length:Int):=by omega
   have HB:=Lib.hid hb
   have q1:=hb.r0
   obtain ⟨hf,hmb,hn64,hwt,hwr,hgw⟩:=HN.out
   have HWR:=Lib.hid (write8_any hb.rd hb.row (fun y hy=>(HAT.out y hy).2) (by omega) (by rw [hwt]; simp only [List.length_nil]; omega) (fun b h=>hAA b (Nat.le_trans hb.bel.size h)))
   clear hb
   go_wp2_with (refine wpList_load_row rfl 62 _ rfl q rfl _ _ _ _ q1 Tryz.underlying62 rfl hid ?_)
   refine HWR.out.mono ?_
   clear HWR
   rintro e W5 ⟨v',rfl,hD,hx⟩
   have hD0:=hD
   obtain ⟨⟨vg',vw',rfl,hg',hw'⟩,hD1,hD2,hD3⟩:=hD
   have hcb5:=HB.out.below hx
   clear HB q1 hx
   have h1c:=rdC_one x.n (x.wr+xs.length+1) hg'.slice hw'.slice
   have hid':=sizeRD x.n vg' vw' (x.wr+xs.length+1)
   have p0:=hcb5.r0
   have hoth:∀ j,j≠q→(W5.setRow q (rdC x.n vg' vw' (x.wr+xs.length+1))).heap[j]? = W5.heap[j]?:=fun j hj=>setRow_other _ _ _ _ hj
   have p1:(W5.setRow q (rdC x.n vg' vw' (x.wr+xs.length+1))).heap[q]? = some (.cells (rdC x.n vg' vw' (x.wr+xs.length+1)) 62 (0,0)):=setRow_heap _ _ _ _ _ _ p0
   have p2:=(hoth (q+1) (by omega)).trans hcb5.r1
   have p3:=(hoth (q+2) (by omega)).trans hcb5.r2
   have b6:Below w.heap.size w (W5.setRow q (rdC x.n vg' vw' (x.wr+xs.length+1))):=Dev.below_row hcb5.bel hcb5.ge
   have HT:=Lib.hid (turn8_any (hD0.other p0 hoth) hf hmb (show 2≤x.n by omega) (show x.wr+xs.length+1+2 < 1000000000 by omega) (by
    show (flushL x.good (x.wait ++ xs)).length+([]:List (Nat×List UInt8)).length+2 < 1000000
    have h1:=flushL_len (x.wait ++ xs) x.good
    rw [List.length_append,hwt] at h1
    rw [hwt]
    simp only [List.length_nil] at h1 ⊢
    omega) (fun b h=>hAA b (Nat.le_trans b6.size h)))
   have hge:=hcb5.ge
   clear hD0 hg' hw' hcb5
   go_upto_region 9 with (refine wpList_store_row rfl 62 _ _ rfl q _ rfl rfl _ _ p0 hid' rfl h1c ?_)
   generalize W5.setRow q (rdC x.n vg' vw' (x.wr+xs.length+1))=W6 at hoth p1 p2 p3 b6 HT ⊢
   clear hoth p0
   go_wp2_with (first | (refine wpList_load_row rfl 62 _ rfl q rfl _ _ _ _ p1 Tryz.underlying62 rfl hid' ?_) | (refine wpList_load_row rfl 31 _ rfl (q+1) rfl _ _ _ _ p2 Tryz.underlying31 rfl hir ?_))
   refine HT.out.mono ?_
   clear HT
   rintro e W7 ⟨v',rfl,hD,hx⟩
   obtain ⟨⟨ug,uw,rfl,hg',hw'⟩,hD1,hD2,hD3⟩:=hD
   have p4:=(hx.block (q+2) (Array.getElem?_eq_some_iff.1 p3).1).trans p3
   have b7:=b6.trans (hx.mono b6.size)
   have h1c':=rdC_one x.n (x.wr+xs.length+1+1+1) hg'.slice hw'.slice
   have hid'':=sizeRD x.n ug uw (x.wr+xs.length+1+1+1)
   have HP:=Lib.hid (And.intro hg' hw')
   clear hg' hw' hx p3 b6 p1 p2
   go_wp2_with (refine wpList_store_row rfl 62 _ _ rfl (q+2) _ rfl rfl _ _ p4 hid'' rfl h1c' ?_)
   have hoth:∀ j,j≠q+2→(W7.setRow (q+2) (rdC x.n ug uw (x.wr+xs.length+1+1+1))).heap[j]? = W7.heap[j]?:=fun j hj=>setRow_other _ _ _ _ hj
   refine bodyPost_ret (results_row_tmp rfl _ _ _ _ _ _ _ rfl (setRow_heap _ _ _ _ _ _ p4) Tryz.underlying62 rfl hid'') rfl ⟨_,rfl,?_,Dev.below_row b7 (by omega)⟩
   have hgo:flushL (flushL x.good (x.wait ++ xs)) ([] ++ [(r.gen % 2,rtB r)])=flushL (flushL x.good xs) [(r.gen % 2,rtB r)]:=by rw [hwt]; rfl
   unfold commitX
   rw [←hgo]
   exact ⟨⟨ug,uw,rfl,HP.out.1.other p4 hoth,HP.out.2.other p4 hoth⟩,hD1,hD2,hD3⟩
end Spc

end Go.Proofs.YtgkbfahflngklaaGreat
