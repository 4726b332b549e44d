import Derived.Test.YtgkbfahflngklaaGreatDev1
import Derived.Great.BuildSlice
import Derived.Deep.AppendLies
import Derived.Deep.RegionHeld3
import Derived.Scope
import Derived.Laws.Externs
import Derived.Laws.Cover3
import Derived.Laws.CopyOwn
set_option maxRecDepth 100000
set_option maxHeartbeats 3200000
set_option linter.unusedSimpArgs false
namespace Go.Proofs.YtgkbfahflngklaaGreat
namespace Dev
open Go.RowKit RowLaw
theorem size_of_putCells {x:Nat×List UInt8} (h:x.2.length=256):(putCells x).toArray.size=257:=by
 simp only [List.size_toArray]; exact putCells_length h
theorem fill_one {place:Nat→Option (Nat×Nat)} {i off size:Nat} {cells:Array Value} {v:Value} {rest:List (Nat×Value)} (hp:place i=some (off,size)) (hs:v.cells.size=size) (hf:off+size≤cells.size) :
  Instr.fill place cells ((i,v)::rest)=Instr.fill place ((v.cells.toList.zipIdx 0).foldl (fun cs (x: Value×Nat)=>cs.setIfInBounds (off+x.2) x.1) cells) rest:=by
 conv=>lhs; unfold Instr.fill
 simp only [hp]
 rw [if_neg (by simp; omega)]
 congr 1
 rw [←Array.foldl_toList,Array.toList_zipIdx]
theorem built_put (a:Nat) (l:List UInt8) (hl:l.length=256):Tryz.prog.built 55 [(0,.int .u32 (a:Int)),(1,.agg (cellsOf l))]=some (putCells (a,l)).toArray:=by
 obtain ⟨it,hit,hz⟩:∃ it,Tryz.prog.info? 55=some it∧it.zero=some (.agg (putCells (0,zeros)).toArray):=by
  have h:=infoPut
  cases hq:Tryz.prog.info? 55 with
  | none=>rw [hq] at h; cases h
  | some it=>
   rw [hq] at h
   simp only [Option.map_some,Option.some.injEq,Prod.mk.injEq] at h
   exact ⟨it,rfl,h.1⟩
 unfold Program.built
 rw [hit,Tryz.underlying55]
 simp only [hz]
 have hp : (List.mapM (fun f : Field => (Tryz.prog.info? f.type).map fun i => (f.offset, i.size)) [{ name := "At", type := 22, offset := 0, embedded := false, tag := "", pkgPath := "", byteOffset := 0 }, { name := "B", type := 39, offset := 1, embedded := false, tag := "", pkgPath := "", byteOffset := 4 }]) = some [(0, 1), (1, 256)] := by kernel_rfl
 rw [hp]
 have h0:=size_of_putCells (x:=(0,zeros)) zeros_length
 have hl':=size_of_putCells (x:=(a,l)) hl
 have hcl:(cellsOf l).size=256:=by rw [cellsOf_size,hl]
 show Instr.fill _ (putCells (0,zeros)).toArray _=_
 rw [fill_one (off:=0) (size:=1) rfl rfl (by rw [h0]; omega)]
 obtain ⟨z1,z2⟩:=Great.foldl_set 0 (Value.cells (.int .u32 (a:Int))).toList 0 (putCells (0,zeros)).toArray
 generalize ((Value.cells (.int .u32 (a:Int))).toList.zipIdx 0).foldl (fun cs (x:Value×Nat)=>cs.setIfInBounds (0+x.2) x.1) (putCells (0,zeros)).toArray=r1 at z1 z2 ⊢
 rw [fill_one (v:=.agg (cellsOf l)) (off:=1) (size:=256) rfl hcl (by rw [z1,h0]; exact Nat.le_refl _)]
 obtain ⟨y1,y2⟩:=Great.foldl_set 1 (Value.cells (.agg (cellsOf l))).toList 0 r1
 generalize ((Value.cells (.agg (cellsOf l))).toList.zipIdx 0).foldl (fun cs (x:Value×Nat)=>cs.setIfInBounds (1+x.2) x.1) r1=r2 at y1 y2 ⊢
 show some r2=_
 congr 1
 have hcl':(Value.cells (.agg (cellsOf l))).toList.length=256:=by show (cellsOf l).toList.length=256; simpa using hcl
 have hc0:(Value.cells (.int .u32 (a:Int))).toList.length=1:=rfl
 apply Array.ext_getElem?
 intro k
 rw [y2 k,z2 k]
 rw [hcl',hc0,z1,h0]
 match k with
 | 0=>rfl
 | k+1=>
  by_cases hk:k < 256
  ·rw [if_pos (by omega)]
   simp only [Nat.add_zero,Nat.add_sub_cancel]
   simp [putCells,Value.cells]
  ·rw [if_neg (by omega),if_neg (by omega),Array.getElem?_eq_none (by omega),Array.getElem?_eq_none (by omega)]
theorem run_buildPut (w:World) (x:Nat×List UInt8) (hx:x.2.length=256):(Instr.buildSlice 44 1 #[(0,.agg (putCells x).toArray)]).run Tryz.prog w=.ok (.slice (some ⟨w.heap.size,0,none⟩) 1 1) (w.alloc (.cells (putCells x).toArray 55)):=by
 obtain ⟨it,hit,hz,hs,hb⟩:=info_parts infoPut
 have h0:=size_of_putCells (x:=(0,zeros)) zeros_length
 have hf:=Great.fill_whole (s:=257) (by omega) [.agg (putCells x).toArray] ((Array.range (1 * 257)).map ((Value.agg (putCells (0,zeros)).toArray).cells[· % (Value.agg (putCells (0,zeros)).toArray).cells.size]!)) (fun v hv=>by
  simp only [List.mem_singleton] at hv; subst hv; exact size_of_putCells hx) (by simp)
 refine run_buildSlice w _ _ 1 _ (putCells x).toArray it _ Tryz.underlying44 hit hz (by rw [hs]; omega) (by rw [hs]; omega) ?_
 rw [hs]
 refine Eq.trans ?_ (hf.trans ?_)
 ·rfl
 ·simp [Value.cells]
theorem DevAt.pushed {w w1:World} {p bm g cap:Nat} {pv:Value} {B:List Nat} {s:DS} (h:DevAt w p bm pv B s) {a:Nat} {l:List UInt8} (ha:a < 4294967296) (hl:l.length=256)
  (hown:w1.ownsRow 0 55 257 (.slice (some ⟨g,0,none⟩) (s.pend.length+1) cap) (s.pend.length+1) (pendCells s.pend ++ putCells (a,l))) (hg:w.grownBy w1 pv.ownBlock) (hat:pv.ownBlock=some g∨g=w.heap.size) (hlt:g < w1.heap.size) :
  DevAt (w1.setCell ⟨p,2,none⟩ (.slice (some ⟨g,0,none⟩) (s.pend.length+1) cap)) p bm (.slice (some ⟨g,0,none⟩) (s.pend.length+1) cap) (g::B) { s with pend:=s.pend ++ [(a,l)] }∧
  Step B w (w1.setCell ⟨p,2,none⟩ (.slice (some ⟨g,0,none⟩) (s.pend.length+1) cap)) (g::B)∧w1.cell? ⟨p,2,none⟩=some pv∧w1.frozen? ⟨p,2,none⟩=false:=by
 have hp1:w1.heap[p]? = w.heap[p]?:=hg.block p (h.ltB p h.inP) (fun e=>h.neR e.symm)
 have ho1:=hp1.trans h.obj
 have hgp:g≠p:=by
  rcases hat with hat | hat
  ·exact fun e=>h.neR (by rw [hat,e])
  ·have:=h.ltB p h.inP; omega
 have ho:=heap_setCell_same w1 p 2 _ _ (.slice (some ⟨g,0,none⟩) (s.pend.length+1) cap) ho1
 have hb1:w1.heap[bm]? = w.heap[bm]?:=hg.block bm (h.ltB bm h.inM) (fun e=>h.neMR e.symm)
 refine ⟨⟨ho,?_,?_,?_,?_,?_,?_,?_,?_,h.okG,h.okN,h.okL⟩,⟨?_,?_⟩,cell_of_row w1 p 2 _ _ _ ho1,frozen_of_row w1 p 2 _ _ ho1⟩
 ·exact h.map.kept ((heap_setCell_other w1 _ _ _ h.neM).trans hb1)
 ·rw [List.length_append,pendCells_append]
  have e:pendCells [(a,l)]=putCells (a,l):=by simp [pendCells]
  rw [e]
  exact ownsRow_block hown (fun k hk=>heap_setCell_other w1 _ _ _ (by cases hk; exact hgp))
 ·exact List.mem_cons_of_mem _ h.inP
 ·exact List.mem_cons_of_mem _ h.inM
 ·intro k hk; cases hk; exact List.mem_cons_self
 ·intro k hk
  have hsz:(w1.setCell ⟨p,2,none⟩ (.slice (some ⟨g,0,none⟩) (s.pend.length+1) cap)).heap.size=w1.heap.size:=by simp [World.setCell]
  rw [hsz]
  rcases List.mem_cons.1 hk with rfl | hk
  ·exact hlt
  ·exact Nat.lt_of_lt_of_le (h.ltB k hk) hg.size
 ·intro x hx
  rcases List.mem_append.1 hx with hx | hx
  ·exact h.okP x hx
  ·simp only [List.mem_singleton] at hx; subst hx; exact hl
 ·intro x hx
  rcases List.mem_append.1 hx with hx | hx
  ·exact h.okA x hx
  ·simp only [List.mem_singleton] at hx; subst hx; exact ha
 ·exact (Turn.of_grown' hg h.inR).setCell _ _ (.inl h.inP)
 ·intro k hk
  rcases List.mem_cons.1 hk with rfl | hk
  ·rcases hat with hat | hat
   ·exact .inl (h.inR _ hat)
   ·exact .inr (by omega)
  ·exact .inl hk
theorem wp_new_put {o:Oper} {ac:Act} {w:World} {K:Act→World→Prop} {Q:Exit→Act→World→Prop} (d:Tmp) (ho:o.op=.buildSlice 44 1 #[(0,.tmp d)]) (x:Nat×List UInt8) (hx:x.2.length=256) (hv:ac.eval (.tmp d)=.agg (putCells x).toArray)
  (h:K (ac.put o.dst (.slice (some ⟨w.heap.size,0,none⟩) 1 1)) (w.alloc (.cells (putCells x).toArray 55))):o.wp Tryz.prog ac w K Q:=by
 unfold Oper.wp execOp
 simp only [ho,List.map_toArray,List.map_cons,List.map_nil,hv,Sem.run_bind,run_buildPut w x hx,Result.andThen_ok]
 exact h
theorem yieldsIf_load_row {P:Program} {ops:Array Oper} {S:World→Prop} {op:Oper} {a:Act} (hw:Region.wanted op (yielded ops a.tmps)=true) (ty:TypeId) (x:Operand) (ho:op.op=.load ty x)
  (g:Nat) (hx:a.eval x=.pointer (some ⟨g,0,none⟩)) (t:TypeId) (cs:Array Value) (fr:Nat×Nat) (d:TypeDesc) (hS:∀ w,S w→w.heap[g]? = some (.cells cs t fr))
  (hu:P.underlying ty=some d) (hd:(match d with | .struct _ | .array _ _=>true | _=>false)=true) (hi:(P.info? ty).map (·.size)=some cs.size):YieldsIf P ops S op (.agg cs) a:=
 .inl ⟨hw,fun w hw'=>by
  unfold execOp
  simp only [ho,hx,Instr.loadAt,Instr.sureAddr,Sem.run_bind,Sem.run_pure,Result.andThen_ok,run_loadVar_row w g t ty cs fr d (hS w hw') hu hd hi]⟩
theorem exec_build {o:Oper} {ac:Act} (d0 d1:Tmp) (ho:o.op=.build 55 #[(0,.tmp d0),(1,.tmp d1)]) (a:Nat) (l:List UInt8) (hl:l.length=256) (h0:ac.eval (.tmp d0)=.int .u32 (a:Int)) (h1:ac.eval (.tmp d1)=.agg (cellsOf l)) (w:World) :
  (execOp ac.eval o).run Tryz.prog w=.ok (.value (.agg (putCells (a,l)).toArray)) w:=by
 unfold execOp
 simp only [ho,List.map_toArray,List.map_cons,List.map_nil,h0,h1,Sem.run_bind,Sem.run_pure,run_build w _ _ _ (built_put a l hl),Result.andThen_ok]
def WBox (q0 q1 a:Nat) (l:List UInt8) (W:World):Prop:=W.cell? ⟨q0,0,none⟩=some (.int .u32 (a:Int))∧Holds W q1 l
theorem WBox.alloc {q0 q1 a:Nat} {l:List UInt8} {W:World} (h:WBox q0 q1 a l W) (o:Obj):WBox q0 q1 a l (W.alloc o):=
 ⟨(World.cell?_of_block (w:=W) (a:=⟨q0,0,none⟩) (Below.heap_alloc W o q0 (World.block_lt_of_cell? W _ h.1))).trans h.1,h.2.alloc o⟩
theorem write1_any {w:World} {p:Nat} {B:List Nat} {s:DS} (hd:Dev w p B s) {q0 q1 a:Nat} {l:List UInt8} (ha:a < 4294967296) (hl:l.length=256) (h0:w.cell? ⟨q0,0,none⟩=some (.int .u32 (a:Int))) (h1:Holds w q1 l) (hq0:q0∉B∧q0 < w.heap.size) (hq1:q1∉B) (hlen:s.pend.length < 4294967296) :
  Calls Tryz.prog 199 #[ptr p,.pointer (some ⟨q0,0,none⟩),.pointer (some ⟨q1,0,none⟩)] w fun e w'=>e=.returned (.bool true)∧∃ C,Dev w' p C { s with pend:=s.pend ++ [(a,l)] }∧Step B w w' C:=by
 obtain ⟨bm,pv,h⟩:=hd
 have hi:=sizeBlock l hl
 obtain ⟨i0,hi0,hz0,hz1,hz2⟩:=info_parts infoPut
 have hl1:=putCells_length (x:=(a,l)) hl
 have hS:WBox q0 q1 a l w.drew:=⟨h0,h1⟩
 have h':=h.drew
 have hst:Turn B w w.drew:=(Turn.refl _ _).drew
 have hq0':q0∉B∧q0 < w.drew.heap.size:=hq0
 have c2:w.drew.cell? ⟨p,2,none⟩=some pv:=h'.cell 2
 clear h h0 h1
 go_enter Tryz.func199,Tryz.ntmps199
 unfold ptr
 go_wp2_with fail
 refine wp_region_noPanic ?_
 refine wp_region_held_drew (S:=WBox q0 q1 a l) (by kernel_rfl) hS ?_
 intro hS
 generalize w.drew=V at hS h' hst c2 hq0' ⊢
 refine RowLaw.tkV 0 5 (.pointer (some ⟨p,0,none⟩)) hS ?_
 simp only [RowLaw.lset]
 refine RowLaw.tkV 1 6 (.pointer (some ⟨p,0,none⟩)) hS ?_
 simp only [RowLaw.lset]
 refine RowLaw.tkV 2 7 (.pointer (some ⟨p,0,none⟩)) hS ?_
 simp only [RowLaw.lset]
 refine RowLaw.tkV 3 8 (.pointer (some ⟨p,2,none⟩)) hS ?_
 simp only [RowLaw.lset]
 refine RowLaw.tkV 5 10 (.int .u32 (a:Int)) hS ?_ (hy:=(Or.inl ⟨by rfl,fun w hw=>by have c3:=hw.1; go_simp⟩))
 simp only [RowLaw.lset]
 refine RowLaw.tkV 6 11 (.agg (cellsOf l)) hS ?_ (hy:=(yieldsIf_load_row (by rfl) 39 _ rfl q1 rfl _ _ _ _ (fun _ h=>h.2) Tryz.underlying39 rfl hi))
 simp only [RowLaw.lset]
 refine RowLaw.tkV 7 12 (.agg (putCells (a,l)).toArray) hS ?_ (hy:=(Or.inl ⟨by rfl,fun w _=>exec_build 10 11 rfl a l hl rfl rfl w⟩))
 simp only [RowLaw.lset]
 refine wpAnyH_ready (rs:=[4,8]) (by kernel_rfl) (by simp) ?_
 refine AllReadyH.cons rfl (fun K hK=>?_) (AllReadyH.cons rfl (fun K hK=>?_) AllReadyH.nil)
 ·rw [if_pos (by rfl)]
  go_simp
  refine hK.out _ _ hS (fun _=>?_)
  clear hK K
  refine wpAnyH_ready (rs:=[8]) (by kernel_rfl) (by simp) ?_
  refine AllReadyH.cons rfl (fun K hK=>?_) AllReadyH.nil
  rw [if_pos (by rfl)]
  refine wp_new_put 12 rfl (a,l) hl rfl ?_
  have hS2:=hS.alloc (.cells (putCells (a,l)).toArray 55)
  refine hK.out _ _ hS2 (fun _=>?_)
  clear hK K
  change wpAnyH _ _ _ _ _ _ _ (Act.put _ (some 13) _) _
  simp only [Act.put,List.setIfInBounds_toArray,RowLaw.lset]
  have hd1:=h'.alloc (.cells (putCells (a,l)).toArray 55)
  have hst1:Step B w (V.alloc (.cells (putCells (a,l)).toArray 55)) B:=Step.of_turn (hst.alloc _)
  have hnew:∀ j u,(putCells (a,l))[j]? = some u→(V.alloc (.cells (putCells (a,l)).toArray 55)).cell? ((⟨V.heap.size,0,none⟩:Addr).add j)=some u:=fun j u hj=>by
   rw [Addr.add_mid,Nat.zero_add]
   exact (cell_of_row _ V.heap.size j _ _ _ (heap_alloc_new V _)).trans (by simpa using hj)
  have hq0s:q0∉B∧q0 < (V.alloc (.cells (putCells (a,l)).toArray 55)).heap.size:=⟨hq0.1,by have:=hq0'.2; simp; omega⟩
  clear h' hst c2
  generalize V.heap.size=b1 at hnew ⊢
  generalize V.alloc (.cells (putCells (a,l)).toArray 55)=V1 at hS2 hd1 hst1 hnew hq0s ⊢
  have hown:=hd1.row
  refine wpAnyH_ready (rs:=[9]) (by kernel_rfl) (by simp) ?_
  refine AllReadyH.cons rfl (fun K hK=>?_) AllReadyH.nil
  rw [if_pos (by rfl)]
  refine wp_append_lies V1 _ _ 44 (by rfl) 0 55 i0 (.agg (putCells (0,zeros)).toArray) 257 260 Tryz.underlying44 hi0 hz0 hz1 hz2 (size_of_putCells zeros_length) (by omega) pv s.pend.length (pendCells s.pend) (by rfl) hown ⟨b1,0,none⟩ 1 1 (putCells (a,l)) (by rfl) (by rw [hl1]) hnew (putCells_one _) (by omega) (by unfold maxLen; omega) (by omega) (Nat.zero_le _) V1.heap.size rfl ?_
  intro g cap w1 hown1 hgrow hat hlt
  obtain ⟨hdev,hstep,c2n,f2n⟩:=hd1.pushed ha hl hown1 hgrow hat hlt
  have hS3:WBox q0 q1 a l w1:=⟨(World.cell?_of_block (w:=V1) (a:=⟨q0,0,none⟩) (hgrow.block q0 hq0s.2 (fun e=>hq0s.1 (hd1.inR q0 e.symm)))).trans hS2.1,(hgrow.block q1 hS2.2.lt (fun e=>hq1 (hd1.inR q1 e.symm))).trans hS2.2⟩
  refine hK.out _ _ hS3 (fun hS=>?_)
  clear hK K hgrow hown1 hat hown hS2 hS3 hnew hq0'
  refine RowLaw.tkV 10 15 (.pointer (some ⟨p,0,none⟩)) hS ?_
  simp only [RowLaw.lset]
  refine RowLaw.tkV 11 16 (.pointer (some ⟨p,2,none⟩)) hS ?_
  simp only [RowLaw.lset]
  refine wpAnyH_ready (rs:=[12]) (by kernel_rfl) (by simp) ?_
  refine AllReadyH.cons rfl (fun K hK=>?_) AllReadyH.nil
  rw [if_pos (by rfl)]
  go_simp
  have hS4:WBox q0 q1 a l (w1.setCell ⟨p,2,none⟩ (.slice (some ⟨g,0,none⟩) (s.pend.length+1) cap)):=⟨(World.cell?_of_block (w:=w1) (a:=⟨q0,0,none⟩) (heap_setCell_other w1 ⟨p,2,none⟩ q0 _ (fun e=>hq0.1 (by have e':q0=p:=e; rw [e']; exact hd1.inP)))).trans hS.1,(heap_setCell_other w1 ⟨p,2,none⟩ q1 _ (fun e=>hq1 (by have e':q1=p:=e; rw [e']; exact hd1.inP))).trans hS.2⟩
  refine hK.out _ _ hS4 (fun _=>?_)
  clear hK K
  have hs2:=hst1.trans hstep
  clear hd1 hstep hst1 c2n f2n hS hS4
  refine wpAnyH_done (by kernel_rfl) ?_ _
  refine NoPanic.normal ?_
  generalize w1.setCell ⟨p,2,none⟩ (.slice (some ⟨g,0,none⟩) (s.pend.length+1) cap)=W9 at hdev hs2 ⊢
  go_wp2
  go_ret
  exact ⟨rfl,_,⟨bm,_,hdev⟩,hs2⟩
 ·rw [if_pos (by rfl)]
  refine wp_new_put 12 rfl (a,l) hl rfl ?_
  have hS2:=hS.alloc (.cells (putCells (a,l)).toArray 55)
  refine hK.out _ _ hS2 (fun _=>?_)
  clear hK K
  change wpAnyH _ _ _ _ _ _ _ (Act.put _ (some 13) _) _
  simp only [Act.put,List.setIfInBounds_toArray,RowLaw.lset]
  have c2':(V.alloc (.cells (putCells (a,l)).toArray 55)).cell? ⟨p,2,none⟩=some pv:=(h'.alloc _).cell 2
  refine wpAnyH_ready (rs:=[4]) (by kernel_rfl) (by simp) ?_
  refine AllReadyH.cons rfl (fun K hK=>?_) AllReadyH.nil
  rw [if_pos (by rfl)]
  go_simp
  refine hK.out _ _ hS2 (fun _=>?_)
  clear hK K c2'
  have hd1:=h'.alloc (.cells (putCells (a,l)).toArray 55)
  have hst1:Step B w (V.alloc (.cells (putCells (a,l)).toArray 55)) B:=Step.of_turn (hst.alloc _)
  have hnew:∀ j u,(putCells (a,l))[j]? = some u→(V.alloc (.cells (putCells (a,l)).toArray 55)).cell? ((⟨V.heap.size,0,none⟩:Addr).add j)=some u:=fun j u hj=>by
   rw [Addr.add_mid,Nat.zero_add]
   exact (cell_of_row _ V.heap.size j _ _ _ (heap_alloc_new V _)).trans (by simpa using hj)
  have hq0s:q0∉B∧q0 < (V.alloc (.cells (putCells (a,l)).toArray 55)).heap.size:=⟨hq0.1,by have:=hq0'.2; simp; omega⟩
  clear h' hst c2
  generalize V.heap.size=b1 at hnew ⊢
  generalize V.alloc (.cells (putCells (a,l)).toArray 55)=V1 at hS2 hd1 hst1 hnew hq0s ⊢
  have hown:=hd1.row
  refine wpAnyH_ready (rs:=[9]) (by kernel_rfl) (by simp) ?_
  refine AllReadyH.cons rfl (fun K hK=>?_) AllReadyH.nil
  rw [if_pos (by rfl)]
  refine wp_append_lies V1 _ _ 44 (by rfl) 0 55 i0 (.agg (putCells (0,zeros)).toArray) 257 260 Tryz.underlying44 hi0 hz0 hz1 hz2 (size_of_putCells zeros_length) (by omega) pv s.pend.length (pendCells s.pend) (by rfl) hown ⟨b1,0,none⟩ 1 1 (putCells (a,l)) (by rfl) (by rw [hl1]) hnew (putCells_one _) (by omega) (by unfold maxLen; omega) (by omega) (Nat.zero_le _) V1.heap.size rfl ?_
  intro g cap w1 hown1 hgrow hat hlt
  obtain ⟨hdev,hstep,c2n,f2n⟩:=hd1.pushed ha hl hown1 hgrow hat hlt
  have hS3:WBox q0 q1 a l w1:=⟨(World.cell?_of_block (w:=V1) (a:=⟨q0,0,none⟩) (hgrow.block q0 hq0s.2 (fun e=>hq0s.1 (hd1.inR q0 e.symm)))).trans hS2.1,(hgrow.block q1 hS2.2.lt (fun e=>hq1 (hd1.inR q1 e.symm))).trans hS2.2⟩
  refine hK.out _ _ hS3 (fun hS=>?_)
  clear hK K hgrow hown1 hat hown hS2 hS3 hnew hq0'
  refine RowLaw.tkV 10 15 (.pointer (some ⟨p,0,none⟩)) hS ?_
  simp only [RowLaw.lset]
  refine RowLaw.tkV 11 16 (.pointer (some ⟨p,2,none⟩)) hS ?_
  simp only [RowLaw.lset]
  refine wpAnyH_ready (rs:=[12]) (by kernel_rfl) (by simp) ?_
  refine AllReadyH.cons rfl (fun K hK=>?_) AllReadyH.nil
  rw [if_pos (by rfl)]
  go_simp
  have hS4:WBox q0 q1 a l (w1.setCell ⟨p,2,none⟩ (.slice (some ⟨g,0,none⟩) (s.pend.length+1) cap)):=⟨(World.cell?_of_block (w:=w1) (a:=⟨q0,0,none⟩) (heap_setCell_other w1 ⟨p,2,none⟩ q0 _ (fun e=>hq0.1 (by have e':q0=p:=e; rw [e']; exact hd1.inP)))).trans hS.1,(heap_setCell_other w1 ⟨p,2,none⟩ q1 _ (fun e=>hq1 (by have e':q1=p:=e; rw [e']; exact hd1.inP))).trans hS.2⟩
  refine hK.out _ _ hS4 (fun _=>?_)
  clear hK K
  have hs2:=hst1.trans hstep
  clear hd1 hstep hst1 c2n f2n hS hS4
  refine wpAnyH_done (by kernel_rfl) ?_ _
  refine NoPanic.normal ?_
  generalize w1.setCell ⟨p,2,none⟩ (.slice (some ⟨g,0,none⟩) (s.pend.length+1) cap)=W9 at hdev hs2 ⊢
  go_wp2
  go_ret
  exact ⟨rfl,_,⟨bm,_,hdev⟩,hs2⟩
end Dev
namespace Dev
open Go.RowKit RowLaw
theorem heap2 (w:World) (o0 o1:Obj):((w.alloc o0).alloc o1).heap[w.heap.size]? = some o0∧((w.alloc o0).alloc o1).heap[w.heap.size+1]? = some o1∧((w.alloc o0).alloc o1).heap.size=w.heap.size+1+1:=by
 refine ⟨?_,?_,by simp⟩
 ·rw [Below.heap_alloc _ o1 _ (by simp)]; exact heap_alloc_new w o0
 ·have:=heap_alloc_new (w.alloc o0) o1; simpa using this
theorem heap3 (w:World) (o0 o1 o2:Obj):(((w.alloc o0).alloc o1).alloc o2).heap[w.heap.size]? = some o0∧(((w.alloc o0).alloc o1).alloc o2).heap[w.heap.size+1]? = some o1∧(((w.alloc o0).alloc o1).alloc o2).heap[w.heap.size+1+1]? = some o2∧(((w.alloc o0).alloc o1).alloc o2).heap.size=w.heap.size+1+1+1:=by
 obtain ⟨h0,h1,h2⟩:=heap2 w o0 o1
 refine ⟨?_,?_,?_,by simp⟩
 ·rw [Below.heap_alloc _ o2 _ (by rw [h2]; omega)]; exact h0
 ·rw [Below.heap_alloc _ o2 _ (by rw [h2]; omega)]; exact h1
 ·have:=heap_alloc_new ((w.alloc o0).alloc o1) o2; rw [h2] at this; exact this
theorem heap4 (w:World) (o0 o1 o2 o3:Obj):((((w.alloc o0).alloc o1).alloc o2).alloc o3).heap[w.heap.size]? = some o0∧((((w.alloc o0).alloc o1).alloc o2).alloc o3).heap[w.heap.size+1]? = some o1∧((((w.alloc o0).alloc o1).alloc o2).alloc o3).heap[w.heap.size+1+1]? = some o2∧((((w.alloc o0).alloc o1).alloc o2).alloc o3).heap[w.heap.size+1+1+1]? = some o3∧((((w.alloc o0).alloc o1).alloc o2).alloc o3).heap.size=w.heap.size+1+1+1+1:=by
 obtain ⟨h0,h1,h2,h3⟩:=heap3 w o0 o1 o2
 refine ⟨?_,?_,?_,?_,by simp⟩
 ·rw [Below.heap_alloc _ o3 _ (by rw [h3]; omega)]; exact h0
 ·rw [Below.heap_alloc _ o3 _ (by rw [h3]; omega)]; exact h1
 ·rw [Below.heap_alloc _ o3 _ (by rw [h3]; omega)]; exact h2
 ·have:=heap_alloc_new (((w.alloc o0).alloc o1).alloc o2) o3; rw [h3] at this; exact this
theorem enterHas1:∀ (args:Array Value) (W:World),(callFunc 224 args).run Tryz.prog W=.ok (.enter 224 args) W:=fun _ _=>by simp [go_sem]
theorem enterWrite1:∀ (args:Array Value) (W:World),(callFunc 199 args).run Tryz.prog W=.ok (.enter 199 args) W:=fun _ _=>by simp [go_sem]
def pushS (s:DS) (a:Nat) (l:List UInt8):DS:={ s with pend:=s.pend ++ [(a,l)] }
def writeE (s:DS) (a:Nat):Int:=if s.n≤a then 2 else if s.down=true∨s.left=0 then 30 else 0
def writeS (s:DS) (a:Nat) (l:List UInt8):DS:=if s.n≤a then s else if s.down=true then s else succS (pushS s a l)
theorem Write_any {w : World} {p : Nat} {B : List Nat} {s : DS} (hd : Dev w p B s) {a : Nat} (ha : a < 4294967296) {l : List UInt8} (hl : l.length = 256) (hlen : s.pend.length < 4294967295) :
    Calls Tryz.prog 144 #[ptr p, .int .u32 (a : Int), .agg (cellsOf l)] w fun e w' => e = .returned (.int .i64 (writeE s a)) ∧ ∃ C, Dev w' p C (writeS s a l) ∧ Step B w w' C := by
  have hzs := (zero_of_info infoStep).1
  have hmf : ∀ (fn : Fn) (first cap : Array Value) (w : World), (Instr.makeFunc fn first cap).run Tryz.prog w = .ok (.func fn first cap) w := fun _ _ _ _ => rfl
  go_enter Tryz.func144, Tryz.ntmps144
  go_wp2_with ((with_reducible refine (has_any a _).mono ?_); rintro e W2 ⟨rfl, rfl⟩)
  have hs0 : Step B w ((((w.alloc (.cells #[.int .u32 (a : Int)] 22)).alloc (.cells (cellsOf l) 39)).alloc (.cells #[.int .u32 (a : Int)] 22)).alloc (.cells #[.func (.func 83) #[] #[], .int .i64 1, .func (.func 224) #[] #[.pointer (some ⟨w.heap.size + 1 + 1, 0, none⟩)], .int .i64 2, .func (.func 132) #[] #[], .int .i64 30, .func (.func 199) #[] #[.pointer (some ⟨w.heap.size, 0, none⟩), .pointer (some ⟨w.heap.size + 1, 0, none⟩)], .int .i64 0, .func (.func 200) #[] #[], .int .i64 30] 235)) B := Step.of_turn (Turn.alloc (Turn.alloc (Turn.alloc (Turn.alloc (Turn.refl _ _) _) _) _) _)
  obtain ⟨x0, x1, x2, x3, xs⟩ := heap4 w (.cells #[.int .u32 (a : Int)] 22) (.cells (cellsOf l) 39) (.cells #[.int .u32 (a : Int)] 22) (.cells #[.func (.func 83) #[] #[], .int .i64 1, .func (.func 224) #[] #[.pointer (some ⟨w.heap.size + 1 + 1, 0, none⟩)], .int .i64 2, .func (.func 132) #[] #[], .int .i64 30, .func (.func 199) #[] #[.pointer (some ⟨w.heap.size, 0, none⟩), .pointer (some ⟨w.heap.size + 1, 0, none⟩)], .int .i64 0, .func (.func 200) #[] #[], .int .i64 30] 235)
  have hlt := hd.ltB
  replace hd := hd.turn (C := []) (Turn.mono (C := []) (B := []) (Turn.alloc (Turn.alloc (Turn.alloc (Turn.alloc (Turn.refl [] _) (.cells #[.int .u32 (a : Int)] 22)) (.cells (cellsOf l) 39)) (.cells #[.int .u32 (a : Int)] 22)) (.cells #[.func (.func 83) #[] #[], .int .i64 1, .func (.func 224) #[] #[.pointer (some ⟨w.heap.size + 1 + 1, 0, none⟩)], .int .i64 2, .func (.func 132) #[] #[], .int .i64 30, .func (.func 199) #[] #[.pointer (some ⟨w.heap.size, 0, none⟩), .pointer (some ⟨w.heap.size + 1, 0, none⟩)], .int .i64 0, .func (.func 200) #[] #[], .int .i64 30] 235)) (fun _ h => h)) (by simp)
  generalize (((w.alloc (.cells #[.int .u32 (a : Int)] 22)).alloc (.cells (cellsOf l) 39)).alloc (.cells #[.int .u32 (a : Int)] 22)).alloc (.cells #[.func (.func 83) #[] #[], .int .i64 1, .func (.func 224) #[] #[.pointer (some ⟨w.heap.size + 1 + 1, 0, none⟩)], .int .i64 2, .func (.func 132) #[] #[], .int .i64 30, .func (.func 199) #[] #[.pointer (some ⟨w.heap.size, 0, none⟩), .pointer (some ⟨w.heap.size + 1, 0, none⟩)], .int .i64 0, .func (.func 200) #[] #[], .int .i64 30] 235) = W1 at hd hs0 x0 x1 x2 x3 xs ⊢
  obtain ⟨q0, hq0⟩ : ∃ z, z = w.heap.size := ⟨_, rfl⟩
  obtain ⟨q1, hq1⟩ : ∃ z, z = q0 + 1 := ⟨_, rfl⟩
  obtain ⟨q2, hq2⟩ : ∃ z, z = q1 + 1 := ⟨_, rfl⟩
  obtain ⟨sb, hsb⟩ : ∃ z, z = q2 + 1 := ⟨_, rfl⟩
  simp only [← hq0, ← hq1, ← hq2, ← hsb] at x0 x1 x2 x3 ⊢
  have n0 : q0 ∉ B := fun hm => by have := hlt _ hm; omega
  have n1 : q1 ∉ B := fun hm => by have := hlt _ hm; omega
  have n2 : q2 ∉ B := fun hm => by have := hlt _ hm; omega
  have ns : sb ∉ B := fun hm => by have := hlt _ hm; omega
  have l0 : q0 < W1.heap.size := by omega
  have l1 : q1 < W1.heap.size := by omega
  have l2 : q2 < W1.heap.size := by omega
  have c0 := cell_of_row W1 q0 0 _ _ _ x0
  have c2 := cell_of_row W1 q2 0 _ _ _ x2
  refine (steps_any (by omega) (fun k => match k with | 0 => 83 | 1 => 224 | 2 => 132 | 3 => 199 | _ => 200)
    (fun k => match k with | 0 => #[] | 1 => #[.pointer (some ⟨q2, 0, none⟩)] | 2 => #[] | 3 => #[.pointer (some ⟨q0, 0, none⟩), .pointer (some ⟨q1, 0, none⟩)] | _ => #[]) (fun k => match k with | 0 => 1 | 1 => 2 | 2 => 30 | 3 => 0 | _ => 30)
    (fun k => match k with | 0 => true | 1 => decide (a < s.n) | 2 => !s.down | 3 => true | _ => succB (pushS s a l))
    (fun k => match k with | 0 => s | 1 => s | 2 => s | 3 => s | 4 => pushS s a l | _ => succS (pushS s a l)) hd (by omega) ns
    (fun k hk => match k, hk with
      | 0, _ => ⟨cell_of_row W1 sb 0 _ _ _ x3, cell_of_row W1 sb 1 _ _ _ x3⟩
      | 1, _ => ⟨cell_of_row W1 sb 2 _ _ _ x3, cell_of_row W1 sb 3 _ _ _ x3⟩
      | 2, _ => ⟨cell_of_row W1 sb 4 _ _ _ x3, cell_of_row W1 sb 5 _ _ _ x3⟩
      | 3, _ => ⟨cell_of_row W1 sb 6 _ _ _ x3, cell_of_row W1 sb 7 _ _ _ x3⟩
      | 4, _ => ⟨cell_of_row W1 sb 8 _ _ _ x3, cell_of_row W1 sb 9 _ _ _ x3⟩)
    (fun k hk => match k, hk with
      | 0, _ => enterExists
      | 1, _ => enterHas1
      | 2, _ => enterIsUp
      | 3, _ => enterWrite1
      | 4, _ => enterSucceed)
    (fun k hk => match k, hk with
      | 0, _ => fun _ W C hC _ => (exists_yes hC).mono fun _ _ ⟨he, hw⟩ => ⟨he, step_eq hC hw⟩
      | 1, _ => fun _ W C hC hS => (has1_any hC ((hS.turn.cell (q := ⟨q2, 0, none⟩) l2 n2).trans c2)).mono fun _ _ ⟨he, hw⟩ => ⟨he, step_same hC hw⟩
      | 2, _ => fun _ W C hC _ => (isUp_any hC).mono fun _ _ ⟨he, hw⟩ => ⟨he, step_eq hC hw⟩
      | 3, _ => fun _ W C hC hS => (write1_any (s := s) hC ha hl ((hS.turn.cell (q := ⟨q0, 0, none⟩) l0 n0).trans c0) ((hS.turn.block q1 l1 n1).trans x1) ⟨hS.notIn l0 n0, Nat.lt_of_lt_of_le l0 hS.turn.size⟩ (hS.notIn l1 n1) (by omega)).mono fun _ _ h => h
      | 4, _ => fun _ W C hC _ => (succeed_any hC).mono fun _ _ ⟨he, h1, h2⟩ => ⟨he, step_turn h1 h2⟩)).mono ?_
  rintro e W2 ⟨m, z, rfl, hend, C, hC, hS⟩
  have key : z = writeE s a ∧ Dev W2 p C (writeS s a l) := by
    by_cases hn : s.n ≤ a
    · obtain ⟨rfl, rfl⟩ := runEnd_stop hend 1 (by omega) (fun k hk => by obtain rfl : k = 0 := by omega
                                                                         rfl) (decide_eq_false (by omega))
      exact ⟨(if_pos hn).symm, by rw [show writeS s a l = s from if_pos hn]; exact hC⟩
    · have hn' : decide (a < s.n) = true := decide_eq_true (by omega)
      by_cases h1 : s.down = true
      · obtain ⟨rfl, rfl⟩ := runEnd_stop hend 2 (by omega) (fun k hk => by
          have hk' : k = 0 ∨ k = 1 := by omega
          rcases hk' with rfl | rfl
          · rfl
          · exact hn') (by simp [h1])
        exact ⟨by rw [writeE, if_neg hn, if_pos (.inl h1)]; rfl, by rw [show writeS s a l = s from by rw [writeS, if_neg hn, if_pos h1]]; exact hC⟩
      · have h1' : s.down = false := by simpa using h1
        have e2 : writeS s a l = succS (pushS s a l) := by rw [writeS, if_neg hn, if_neg h1]
        have h4 : ∀ k, k < 4 → (match k with | 0 => true | 1 => decide (a < s.n) | 2 => !s.down | 3 => true | _ => succB (pushS s a l)) = true := fun k hk => by
          have hk' : k = 0 ∨ k = 1 ∨ k = 2 ∨ k = 3 := by omega
          rcases hk' with rfl | rfl | rfl | rfl
          · rfl
          · exact hn'
          · show (!s.down) = true; rw [h1']; rfl
          · rfl
        by_cases h2 : s.left = 0
        · obtain ⟨rfl, rfl⟩ := runEnd_stop hend 4 (by omega) h4 (by simp [succB, pushS, h2])
          exact ⟨by rw [writeE, if_neg hn, if_pos (.inr h2)]; rfl, by rw [e2]; exact hC⟩
        · obtain ⟨rfl, rfl⟩ := runEnd_all hend (fun k hk => by
            by_cases hk4 : k < 4
            · exact h4 k hk4
            · obtain rfl : k = 4 := by omega
              show succB (pushS s a l) = true
              simp [succB, pushS, h2])
          exact ⟨by rw [writeE, if_neg hn, if_neg (by rw [h1']; simp [h2])], by rw [e2]; exact hC⟩
  obtain ⟨rfl, hC2⟩ := key
  have hS2 := hs0.trans hS
  clear hend hC hd hs0 hS x0 x1 x2 x3 c0 c2
  go_wp2
  go_ret
  exact ⟨rfl, C, hC2, hS2⟩
end Dev
namespace Dev
open Go.RowKit RowLaw
def newS (n:Nat):DS:={ n:=n,g:=fun _=>zeros,pend:=[],left := -1,down:=false,writes:=0 }
theorem New_any (w:World) (n:Nat) (h1:64≤n) (h2:n≤1048576) :
  Calls Tryz.prog 14 #[.int .u32 (n:Int)] w fun e w'=>∃ p B,e=.returned (.tuple #[ptr p,.int .i64 0])∧Dev w' p B (newS n)∧(∀ k∈B,w.heap.size≤k)∧Below w.heap.size w w':=by
 have hmm:=@run_makeMap Tryz.prog
 have z1:¬ (n:Int) < 64:=by omega
 have z2:¬ (1048576:Int) < (n:Int):=by omega
 obtain ⟨x0,x1,xs⟩:=heap2 w (.map #[] 0) (.cells (devCells (newS n) w.heap.size (.slice none 0 0)) 147)
 have hm:MapIs ((w.alloc (.map #[] 0)).alloc (.cells (devCells (newS n) w.heap.size (.slice none 0 0)) 147)) w.heap.size (fun _=>zeros):=(MapIs.made w).kept (x0.trans (MapKept.heap_alloc w _).1.symm)
 have hd:DevAt ((w.alloc (.map #[] 0)).alloc (.cells (devCells (newS n) w.heap.size (.slice none 0 0)) 147)) (w.heap.size+1) w.heap.size (.slice none 0 0) [w.heap.size,w.heap.size+1] (newS n):=
  ⟨x1,hm,World.ownsRow_nil _ _ _ _,by simp,by simp,(fun k hk=>by cases hk),(fun k hk=>by simp only [List.mem_cons,List.not_mem_nil,or_false] at hk; omega),(fun x hx=>by cases hx),(fun x hx=>by cases hx),fun _=>zeros_length,⟨by show 0 < n; omega,by show n < _; omega⟩,⟨by show (-1:Int) ≤ -1; omega,by show (-1:Int) < _; omega⟩⟩
 have hb:Below w.heap.size w ((w.alloc (.map #[] 0)).alloc (.cells (devCells (newS n) w.heap.size (.slice none 0 0)) 147)):=((Below.refl _ _).alloc (Nat.le_refl _) _).alloc (by simp) _
 clear x0 x1 xs hm
 go_enter Tryz.func14,Tryz.ntmps14
 go_wp2
 go_ret2
 exact ⟨_,rfl,_,⟨_,_,hd⟩,(fun k hk=>by simp only [List.mem_cons,List.not_mem_nil,or_false] at hk; omega),hb⟩
end Dev
namespace Dev
open Go.RowKit RowLaw
theorem applyP_none {a:Nat}:∀ (l:List (Nat×List UInt8)) (g:Nat→List UInt8),(∀ x∈l,x.1≠a)→applyP g l a=g a
 | [],_,_=>rfl
 | x::r,g,h=>by
  show applyP (upd g x.1 x.2) r a=g a
  rw [applyP_none r _ (fun y hy=>h y (by simp [hy]))]
  exact if_neg (fun e=>h x (by simp) e.symm)
theorem applyP_append (g:Nat→List UInt8) (l m:List (Nat×List UInt8)):applyP g (l ++ m)=applyP (applyP g l) m:=by simp [applyP]
theorem applyP_last {a:Nat} (l:List (Nat×List UInt8)) (g:Nat→List UInt8) (k:Nat) (hk:k < l.length) (he:l[k].1=a) (h:∀ j (hj:j < l.length),k < j→l[j].1≠a):applyP g l a=l[k].2:=by
 have e:l=l.take (k+1) ++ l.drop (k+1):=(List.take_append_drop _ _).symm
 have e2:applyP g l=applyP (applyP g (l.take (k+1))) (l.drop (k+1)):=by rw [←applyP_append,←e]
 rw [e2,applyP_none,applyP_snoc g l k hk]
 ·exact if_pos he.symm
 ·intro x hx
  obtain ⟨i,hi,rfl⟩:=List.mem_iff_getElem.1 hx
  rw [List.getElem_drop]
  exact h _ (by simp at hi; omega) (by omega)
def readB (s:DS) (a:Nat):List UInt8:=applyP s.g s.pend a
theorem applyP_len {l:List (Nat×List UInt8)}:∀ {g:Nat→List UInt8},(∀ a,(g a).length=256)→(∀ x∈l,x.2.length=256)→∀ a,(applyP g l a).length=256:=by
 induction l with
 | nil=>intro g hg _ a; exact hg a
 | cons x r ih=>intro g hg hl a; exact ih (upd_length hg (hl x (by simp)) x.1) (fun y hy=>hl y (by simp [hy])) a
theorem Dev.readLen {w:World} {p:Nat} {B:List Nat} {s:DS} (h:Dev w p B s) (a:Nat):(readB s a).length=256:=by
 obtain ⟨bm,pv,h⟩:=h
 exact applyP_len h.okG h.okP a
theorem below_row {B g:Nat} {a w:World} {cs:Array Value} (h:Below B a w) (hg:B≤g):Below B a (w.setRow g cs):=
 h.trans ⟨rfl,rfl,rfl,by simp,fun k hk=>setRow_other w g k cs (by omega)⟩
structure FBox (w:World) (p bm:Nat) (pv:Value) (B:List Nat) (s:DS) (b0 b1:Nat) (l:List UInt8) (W:World):Prop where
 dev:DevAt W p bm pv B s
 res:Holds W b0 zeros
 cur:Holds W b1 l
 ne:b0≠b1
 ge0:w.heap.size≤b0
 ge1:w.heap.size≤b1
 bel:Below w.heap.size w W
theorem find_any {w:World} {p:Nat} {B:List Nat} {s:DS} (hd:Dev w p B s) {a:Nat} (ha:a < 4294967296) (hlen:s.pend.length < 4294967296) :
  Calls Tryz.prog 183 #[ptr p,.int .u32 (a:Int)] w fun e w'=>e=.returned (.agg (cellsOf (readB s a)))∧Below w.heap.size w w':=by
 obtain ⟨bm,pv,h⟩:=hd
 obtain ⟨ao,cap,hpv⟩:=h.pvIs
 have hzv:=(zero_of_info infoBlock).1
 have hgl:=h.okG a
 have hig:=sizeBlock _ hgl
 have h1:=h.alloc (.cells (cellsOf zeros) 39)
 have c1:(w.alloc (.cells (cellsOf zeros) 39)).cell? ⟨p,1,none⟩=some (.map (some bm)):=h1.cell 1
 have hbox:FBox w p bm pv B s w.heap.size (w.heap.size+1) (s.g a) ((w.alloc (.cells (cellsOf zeros) 39)).alloc (.cells (cellsOf (s.g a)) 39)):=
  ⟨h1.alloc _,(Holds.new w zeros).alloc _,heap_alloc2_new w _ _,by omega,Nat.le_refl _,by omega,((Below.refl _ _).alloc (Nat.le_refl _) _).alloc (by simp) _⟩
 have hm:=h1.map
 clear h
 go_enter Tryz.func183,Tryz.ntmps183
 unfold ptr
 have tok:True:=trivial
 go_wp2_with fail
 go_step3
 go_wp2_with (first | (at_lookup; refine wpList_look rfl _ _ rfl Tryz.underlying22 Tryz.underlying125 (zeroBlock _) hm ha rfl rfl ?_) | (have _t:=tok; refine wpList_store_new rfl 39 _ _ rfl (cellsOf (s.g a)) _ _ (by simp [Act.eval]) rfl hig (by rw [cellsOf_size,cellsOf_size,hgl,zeros_length]) (cellsOf_one _) ?_; clear _t tok))
 clear c1 h1 hm
 generalize w.heap.size+1=b1 at hbox ⊢
 obtain ⟨b0,hb0⟩:∃ b0,b0=w.heap.size:=⟨_,rfl⟩
 rw [←hb0] at hbox
 simp only [←hb0]
 clear hb0
 generalize (w.alloc (.cells (cellsOf zeros) 39)).alloc (.cells (cellsOf (s.g a)) 39)=W at hbox ⊢
 obtain ⟨n,hn⟩:∃ n,n=s.pend.length:=⟨_,rfl⟩
 have c2:W.cell? ⟨p,2,none⟩=some pv:=hbox.dev.cell 2
 rw [←hn] at hlen hpv
 rw [hpv] at c2
 have HN:=Lib.hid hn; clear hn
 have HPV:=Lib.hid hpv; clear hpv
 have z1:IntKind.i64.wrap ((n:Int) - 1)=(n:Int) - 1:=IntWalk.i64_in _ (by omega)
 go_step3
 go_wp2_with fail
 clear z1 c2
 go_loopw [6] (fun i wr=>∃ k:Nat,k≤n∧i=.int .i64 ((k:Int) - 1)∧FBox w p bm pv B s b0 b1 (s.g a) wr∧Hid (∀ j (hj:j < s.pend.length),k≤j→s.pend[j].1≠a)) (fun i _=>(intOf i+1).toNat)
 case atStart=>exact ⟨n,Nat.le_refl _,rfl,hbox,show ∀ j (hj:j < s.pend.length),n≤j→s.pend[j].1≠a from fun j hj hk=>by have:=HN.out; omega⟩
 case round=>
  obtain ⟨k,hk,rfl,hb,hnone⟩:=hrel
  clear hbox
  cases k with
  | zero=>
   have hr:=hb.res
   have hc:=hb.cur
   have hbel:=hb.bel
   have hge:=hb.ge0
   have e:readB s a=s.g a:=applyP_none _ _ (fun x hx=>by
    obtain ⟨j,hj,rfl⟩:=List.mem_iff_getElem.1 hx
    exact hnone.out j hj (Nat.zero_le _))
   rw [show ((0:Nat):Int) - 1 = -1 from rfl]
   clear hb hnone
   go_wp2_with (first | (refine wpList_load_row rfl 39 _ rfl b1 rfl _ _ _ _ hc Tryz.underlying39 rfl hig ?_) | (refine wpList_store_row rfl 39 _ _ rfl b0 _ rfl rfl _ _ hr hig (by rw [cellsOf_size,cellsOf_size,hgl,zeros_length]) (cellsOf_one _) ?_))
   simp only [Exit.noGoto]
   refine bodyPost_ret (v:=.agg (cellsOf (readB s a))) ?_ rfl ⟨rfl,?_⟩
   ·rw [e]; exact results_cell_row rfl _ _ _ _ _ _ _ rfl (setRow_heap wr _ _ _ _ _ hr) Tryz.underlying39 rfl hig
   ·exact below_row hbel hge
  | succ k=>
   have hkl:k < s.pend.length:=by have:=HN.out; omega
   obtain ⟨gr,cap',he,_⟩:=hb.dev.pendAt k hkl
   obtain rfl:ao=some ⟨gr,0,none⟩:=by have e:=HPV.out; rw [he] at e; injection e with e; exact e.symm
   have hr:=hb.dev.rangePut he k hkl
   have hxl:=hb.dev.okP _ (List.getElem_mem hkl)
   have c2:wr.cell? ⟨p,2,none⟩=some pv:=hb.dev.cell 2
   rw [HPV.out] at c2
   generalize hx:s.pend[k]=x at hr hxl
   have HX:=Lib.hid hx; clear hx he
   obtain ⟨xa,xl⟩:=x
   simp only at hxl
   have ca:wr.cell? ⟨gr,k * 257,none⟩=some (.int .u32 (xa:Int)):=by simpa using hr 0 _ rfl
   have cr:wr.rangeAt gr (k * 257+1) (cellsOf xl).toList:=fun j v hv=>by
    rw [Nat.add_assoc,Nat.add_comm 1 j]
    exact hr (j+1) v hv
   rw [show ((k+1:Nat):Int) - 1=(k:Int) from by omega]
   have hsb:=sizeBlock xl hxl
   clear hr
   by_cases hxa:xa=a
   ·have ed:((xa:Int) == (a:Int))=true:=by simp [hxa]
    have e:readB s a=xl:=by
     have h1:=applyP_last s.pend s.g k hkl (by rw [HX.out]; exact hxa) (fun j hj hkj=>hnone.out j hj (by omega))
     rw [HX.out] at h1
     exact h1
    have hres:=hb.res
    have hcur:=hb.cur
    have hbel:=hb.bel
    have hge0:=hb.ge0
    have hge1:=hb.ge1
    have hne:=hb.ne
    have hres2:Holds (wr.setRow b1 (cellsOf xl)) b0 zeros:=(setRow_other wr _ _ _ hne).trans hres
    have hcur2:Holds (wr.setRow b1 (cellsOf xl)) b1 xl:=setRow_heap wr _ _ _ _ _ hcur
    clear hb hnone hne hxa
    have tok:True:=trivial
    go_wp2_with (first | (refine wpList_load_sub rfl 39 _ rfl gr (k * 257+1) rfl (cellsOf xl) _ cr Tryz.underlying39 rfl hsb ?_) | (have _t:=tok; refine wpList_store_row rfl 39 _ _ rfl b1 _ rfl rfl _ _ hcur hsb (by rw [cellsOf_size,cellsOf_size,hgl,hxl]) (cellsOf_one _) ?_; clear _t tok) | (refine wpList_load_row rfl 39 _ rfl b1 rfl _ _ _ _ hcur2 Tryz.underlying39 rfl hsb ?_) | (refine wpList_store_row rfl 39 _ _ rfl b0 _ rfl rfl _ _ hres2 hsb (by rw [cellsOf_size,cellsOf_size,hxl,zeros_length]) (cellsOf_one _) ?_))
    simp only [Exit.noGoto]
    refine bodyPost_ret (v:=.agg (cellsOf (readB s a))) ?_ rfl ⟨rfl,?_⟩
    ·rw [e]; exact results_cell_row rfl _ _ _ _ _ _ _ rfl (setRow_heap _ _ _ _ _ _ hres2) Tryz.underlying39 rfl hsb
    ·exact below_row (below_row hbel hge1) hge0
   ·have ed:((xa:Int) == (a:Int))=false:=by simp; omega
    have hn2:Hid (∀ j (hj:j < s.pend.length),k≤j→s.pend[j].1≠a):=show ∀ j (hj:j < s.pend.length),k≤j→s.pend[j].1≠a from fun j hj hkj=>by
     by_cases h:j=k
     ·subst h; rw [HX.out]; exact hxa
     ·exact hnone.out j hj (by omega)
    have z2:IntKind.i64.wrap ((k:Int) - 1)=(k:Int) - 1:=IntWalk.i64_in _ (by omega)
    clear hnone hxa cr
    go_wp2
    go_roundw
    case rel=>exact ⟨k,by omega,rfl,hb,hn2⟩
    case measure=>simp [intOf]
theorem enterRead1:∀ (args:Array Value) (W:World),(callFunc 182 args).run Tryz.prog W=.ok (.enter 182 args) W:=fun _ _=>by simp [go_sem]
theorem read1_any {w:World} {p q0 q1:Nat} {B:List Nat} {s:DS} (hd:Dev w p B s) {a:Nat} (ha:a < 4294967296) (hlen:s.pend.length < 4294967296) (h0:w.cell? ⟨q0,0,none⟩=some (.int .u32 (a:Int))) (h1:Holds w q1 zeros) :
  Calls Tryz.prog 182 #[ptr p,.pointer (some ⟨q0,0,none⟩),.pointer (some ⟨q1,0,none⟩)] w fun e w'=>e=.returned (.bool true)∧Holds w' q1 (readB s a)∧Turn [q1] w w':=by
 have hrl:=hd.readLen a
 have hir:=sizeBlock _ hrl
 go_enter Tryz.func182,Tryz.ntmps182
 go_wp2_with fail
 refine (find_any hd ha hlen).mono ?_
 rintro e W ⟨rfl,hx⟩
 have h2:=h1.below hx h1.lt
 have ht:Turn [q1] w W:=Turn.of_below hx
 clear hx h0
 go_wp2_with (refine wpList_store_row rfl 39 _ _ rfl q1 _ rfl rfl _ _ h2 hir (by rw [cellsOf_size,cellsOf_size,hrl,zeros_length]) (cellsOf_one _) ?_)
 go_ret
 exact ⟨rfl,setRow_heap W _ _ _ _ _ h2,ht.trans ⟨rfl,rfl,rfl,by simp,fun k _ hk=>setRow_other W q1 k _ (by simpa using hk)⟩⟩
def readE (s:DS) (a:Nat):Int:=if s.n≤a then 2 else 0
def readR (s:DS) (a:Nat):List UInt8:=if s.n≤a then zeros else readB s a
theorem Read_any {w : World} {p : Nat} {B : List Nat} {s : DS} (hd : Dev w p B s) {a : Nat} (ha : a < 4294967296) (hlen : s.pend.length < 4294967296) :
    Calls Tryz.prog 112 #[ptr p, .int .u32 (a : Int)] w fun e w' => e = .returned (.tuple #[.agg (cellsOf (readR s a)), .int .i64 (readE s a)]) ∧ Below w.heap.size w w' := by
  have hzs := (zero_of_info infoStep).1
  have hzv := (zero_of_info infoBlock).1
  have hmf : ∀ (fn : Fn) (first cap : Array Value) (w : World), (Instr.makeFunc fn first cap).run Tryz.prog w = .ok (.func fn first cap) w := fun _ _ _ _ => rfl
  go_enter Tryz.func112, Tryz.ntmps112
  go_wp2_with ((with_reducible refine (has_any a _).mono ?_); rintro e W2 ⟨rfl, rfl⟩)
  have hs0 : Step B w ((((w.alloc (.cells #[.int .u32 (a : Int)] 22)).alloc (.cells (cellsOf zeros) 39)).alloc (.cells #[.int .u32 (a : Int)] 22)).alloc (.cells #[.func (.func 83) #[] #[], .int .i64 1, .func (.func 224) #[] #[.pointer (some ⟨w.heap.size + 1 + 1, 0, none⟩)], .int .i64 2, .func (.func 182) #[] #[.pointer (some ⟨w.heap.size, 0, none⟩), .pointer (some ⟨w.heap.size + 1, 0, none⟩)], .int .i64 0] 235)) B := Step.of_turn (Turn.alloc (Turn.alloc (Turn.alloc (Turn.alloc (Turn.refl _ _) _) _) _) _)
  have hb0 : Below w.heap.size w ((((w.alloc (.cells #[.int .u32 (a : Int)] 22)).alloc (.cells (cellsOf zeros) 39)).alloc (.cells #[.int .u32 (a : Int)] 22)).alloc (.cells #[.func (.func 83) #[] #[], .int .i64 1, .func (.func 224) #[] #[.pointer (some ⟨w.heap.size + 1 + 1, 0, none⟩)], .int .i64 2, .func (.func 182) #[] #[.pointer (some ⟨w.heap.size, 0, none⟩), .pointer (some ⟨w.heap.size + 1, 0, none⟩)], .int .i64 0] 235)) := ((((Below.refl _ _).alloc (Nat.le_refl _) _).alloc (by simp) _).alloc (by simp; omega) _).alloc (by simp; omega) _
  obtain ⟨x0, x1, x2, x3, xs⟩ := heap4 w (.cells #[.int .u32 (a : Int)] 22) (.cells (cellsOf zeros) 39) (.cells #[.int .u32 (a : Int)] 22) (.cells #[.func (.func 83) #[] #[], .int .i64 1, .func (.func 224) #[] #[.pointer (some ⟨w.heap.size + 1 + 1, 0, none⟩)], .int .i64 2, .func (.func 182) #[] #[.pointer (some ⟨w.heap.size, 0, none⟩), .pointer (some ⟨w.heap.size + 1, 0, none⟩)], .int .i64 0] 235)
  have hlt := hd.ltB
  replace hd := hd.turn (C := []) (Turn.mono (C := []) (B := []) (Turn.alloc (Turn.alloc (Turn.alloc (Turn.alloc (Turn.refl [] _) (.cells #[.int .u32 (a : Int)] 22)) (.cells (cellsOf zeros) 39)) (.cells #[.int .u32 (a : Int)] 22)) (.cells #[.func (.func 83) #[] #[], .int .i64 1, .func (.func 224) #[] #[.pointer (some ⟨w.heap.size + 1 + 1, 0, none⟩)], .int .i64 2, .func (.func 182) #[] #[.pointer (some ⟨w.heap.size, 0, none⟩), .pointer (some ⟨w.heap.size + 1, 0, none⟩)], .int .i64 0] 235)) (fun _ h => h)) (by simp)
  generalize (((w.alloc (.cells #[.int .u32 (a : Int)] 22)).alloc (.cells (cellsOf zeros) 39)).alloc (.cells #[.int .u32 (a : Int)] 22)).alloc (.cells #[.func (.func 83) #[] #[], .int .i64 1, .func (.func 224) #[] #[.pointer (some ⟨w.heap.size + 1 + 1, 0, none⟩)], .int .i64 2, .func (.func 182) #[] #[.pointer (some ⟨w.heap.size, 0, none⟩), .pointer (some ⟨w.heap.size + 1, 0, none⟩)], .int .i64 0] 235) = W1 at hd hs0 hb0 x0 x1 x2 x3 xs ⊢
  obtain ⟨q0, hq0⟩ : ∃ z, z = w.heap.size := ⟨_, rfl⟩
  obtain ⟨q1, hq1⟩ : ∃ z, z = q0 + 1 := ⟨_, rfl⟩
  obtain ⟨q2, hq2⟩ : ∃ z, z = q1 + 1 := ⟨_, rfl⟩
  obtain ⟨sb, hsb⟩ : ∃ z, z = q2 + 1 := ⟨_, rfl⟩
  simp only [← hq0, ← hq1, ← hq2, ← hsb] at x0 x1 x2 x3 ⊢
  clear hs0
  have n1 : q1 ∉ B := fun hm => by have := hlt _ hm; omega
  have l0 : q0 < W1.heap.size := by omega
  have l1 : q1 < W1.heap.size := by omega
  have l2 : q2 < W1.heap.size := by omega
  have ls : sb < W1.heap.size := by omega
  have d0 : q0 ∉ [q1] := by simp; omega
  have d2 : q2 ∉ [q1] := by simp; omega
  have ds : sb ∉ [q1] := by simp; omega
  have hge : w.heap.size ≤ q1 := by omega
  have c0 := cell_of_row W1 q0 0 _ _ _ x0
  have c2 := cell_of_row W1 q2 0 _ _ _ x2
  have hrl := hd.readLen a
  have hoff : ∀ (W : World) (o : Obj), Turn [q1] W1 W → W.heap.size ∉ [q1] := fun W o h => by have := h.size; simp; omega
  refine (run_any (ptr p) sb 3 (by omega) (fun k => match k with | 0 => 83 | 1 => 224 | _ => 182)
    (fun k => match k with | 0 => #[] | 1 => #[.pointer (some ⟨q2, 0, none⟩)] | _ => #[.pointer (some ⟨q0, 0, none⟩), .pointer (some ⟨q1, 0, none⟩)]) (fun k => match k with | 0 => 1 | 1 => 2 | _ => 0)
    (fun k => match k with | 0 => true | 1 => decide (a < s.n) | _ => true) (fun k W => Turn [q1] W1 W ∧ Holds W q1 (if k < 3 then zeros else readB s a) ∧ Dev W p B s) W1
    (fun k hk => match k, hk with
      | 0, _ => enterExists
      | 1, _ => enterHas1
      | 2, _ => enterRead1)
    (fun k W hS j hj => ⟨(hS.1.cell (q := ⟨sb, j * 2, none⟩) ls ds).trans (match j, hj with | 0, _ => cell_of_row W1 sb 0 _ _ _ x3 | 1, _ => cell_of_row W1 sb 2 _ _ _ x3 | 2, _ => cell_of_row W1 sb 4 _ _ _ x3), (hS.1.cell (q := ⟨sb, j * 2 + 1, none⟩) ls ds).trans (match j, hj with | 0, _ => cell_of_row W1 sb 1 _ _ _ x3 | 1, _ => cell_of_row W1 sb 3 _ _ _ x3 | 2, _ => cell_of_row W1 sb 5 _ _ _ x3)⟩)
    (fun k hk => match k, hk with
      | 0, _ => fun _ W o hS => (exists_yes (hS.2.2.alloc o)).mono fun _ _ ⟨he, hw⟩ => by subst hw; exact ⟨he, ⟨hS.1.alloc o, hS.2.1.alloc o, hS.2.2.alloc o⟩, heap_alloc_new W o⟩
      | 1, _ => fun _ W o hS => (has1_any (hS.2.2.alloc o) (((hS.1.alloc o).cell (q := ⟨q2, 0, none⟩) l2 d2).trans c2)).mono fun _ W' ⟨he, hw⟩ =>
          ⟨he, ⟨(hS.1.alloc o).trans (Turn.of_below hw), (hS.2.1.alloc o).below hw (hS.2.1.alloc o).lt, (hS.2.2.alloc o).below hw⟩, (hw.block _ (by simp)).trans (heap_alloc_new W o)⟩
      | 2, _ => fun _ W o hS => (read1_any (hS.2.2.alloc o) ha hlen (((hS.1.alloc o).cell (q := ⟨q0, 0, none⟩) l0 d0).trans c0) (hS.2.1.alloc o)).mono fun _ W' ⟨he, hh, ht⟩ =>
          ⟨he, ⟨(hS.1.alloc o).trans ht, hh, (hS.2.2.alloc o).turn ht (fun k hk hm => n1 (by simp only [List.mem_singleton] at hm; exact hm ▸ hk))⟩, (ht.block _ (by simp) (hoff W o hS.1)).trans (heap_alloc_new W o)⟩)
    ⟨Turn.refl _ _, x1, hd⟩).mono ?_
  rintro e W2 ⟨m, z, rfl, hend, ht, hh, hd2⟩
  have key : z = readE s a ∧ Holds W2 q1 (readR s a) := by
    by_cases hn : s.n ≤ a
    · obtain ⟨rfl, rfl⟩ := runEnd_stop hend 1 (by omega) (fun k hk => by obtain rfl : k = 0 := by omega
                                                                         rfl) (decide_eq_false (by omega))
      exact ⟨(if_pos hn).symm, by rw [show readR s a = zeros from if_pos hn]; exact hh⟩
    · obtain ⟨rfl, rfl⟩ := runEnd_all hend (fun k hk => by
        have hk' : k = 0 ∨ k = 1 ∨ k = 2 := by omega
        rcases hk' with rfl | rfl | rfl
        · rfl
        · exact decide_eq_true (by omega)
        · rfl)
      exact ⟨(if_neg hn).symm, by rw [show readR s a = readB s a from if_neg hn]; exact hh⟩
  obtain ⟨rfl, hh2⟩ := key
  have hrr : (readR s a).length = 256 := by
    unfold readR
    split
    · exact zeros_length
    · exact hrl
  have hir := sizeBlock _ hrr
  have hb2 : Below w.heap.size w W2 := hb0.trans (ht.below (fun k hk => by simp only [List.mem_singleton] at hk; omega) hb0.size)
  clear hend hh ht hd2 hd hoff x0 x1 x2 x3 c0 c2 xs d0 d2 ds l0 l1 l2 ls hsb hq2 hq1 hq0
  go_wp2_with (first | (refine wpList_load_row rfl 39 _ rfl q1 rfl _ _ _ _ hh2 Tryz.underlying39 rfl hir ?_) | (refine wpList_store_row rfl 39 _ _ rfl q1 _ rfl rfl _ _ hh2 hir rfl (cellsOf_one _) ?_))
  exact bodyPost_ret (results_row_tmp rfl _ _ _ _ _ _ _ rfl (setRow_heap W2 _ _ _ _ _ hh2) Tryz.underlying39 rfl hir) rfl ⟨rfl, below_row hb2 hge⟩
end Dev
namespace Dev
open Go.RowKit RowLaw
end Dev
namespace Dev
open Go.RowKit RowLaw
def sect (old new:List UInt8) (i:Nat):List UInt8:=old.take (i * 64) ++ ((new.drop (i * 64)).take 64 ++ old.drop (i * 64+64))
def keepTo (old new:List UInt8) (m:Nat):Nat→List UInt8
 | 0=>old
 | k+1=>if m.testBit k then sect (keepTo old new m k) new k else keepTo old new m k
def keepB (old new:List UInt8) (m:Nat):List UInt8:=keepTo old new m 4
end Dev

end Go.Proofs.YtgkbfahflngklaaGreat
