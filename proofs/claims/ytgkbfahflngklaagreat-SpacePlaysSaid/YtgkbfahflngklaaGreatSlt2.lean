import Derived.Test.YtgkbfahflngklaaGreatSlt1
import Derived.Test.YtgkbfahflngklaaGreatPln
set_option maxRecDepth 100000
set_option maxHeartbeats 6400000
namespace Go.Proofs.YtgkbfahflngklaaGreat
namespace Slt
open Go.RowKit RowLaw Crc Fld
def PtrsAt (p k n:Nat) (v:Value) (W:World):Prop:=∃ u,v=.slice (some ⟨u,0,none⟩) n n∧u < W.heap.size∧∀ j,j < n→W.cell? ⟨u,j,none⟩=some (.pointer (some ⟨p,k+j,none⟩))
theorem PtrsAt.below {p k n:Nat} {v:Value} {W W':World} (h:PtrsAt p k n v W) (hb:Below W.heap.size W W'):PtrsAt p k n v W':=by
 obtain ⟨u,rfl,hu,hc⟩:=h
 exact ⟨u,rfl,Nat.lt_of_lt_of_le hu hb.size,fun j hj=>(hb.cell (p:=⟨u,j,none⟩) hu).trans (hc j hj)⟩
def fact (w:World) (p:Nat):Nat→Value→World→Prop
 | 3,v,W=>PtrsAt p 0 1 v W
 | 4,v,W=>OwnP w.heap.size (pls 373 p 0 1 8) v W
 | 23,v,W=>PtrsAt p 1 6 v W
 | 24,v,W=>OwnP w.heap.size (pls 376 p 1 6 4) v W
 | 28,v,W=>PtrsAt p 7 1 v W
 | 29,v,W=>OwnP w.heap.size (pls 379 p 7 1 1) v W
 | _,_,_=>False
theorem fact_stays (w:World) (p:Nat) (i:Nat) (v:Value) (W W':World) (h:fact w p i v W) (hb:Below W.heap.size W W'):fact w p i v W':=by
 unfold fact at h ⊢
 split at h
 ·exact PtrsAt.below h hb
 ·exact OwnP.below h hb
 ·exact PtrsAt.below h hb
 ·exact OwnP.below h hb
 ·exact PtrsAt.below h hb
 ·exact OwnP.below h hb
 ·exact h.elim
theorem nils (n:Nat):(Array.range (n * 1)).map (fun i=>(Value.pointer none).cells[i % (Value.pointer none).cells.size]!)=Array.replicate n (.pointer none):=by
 apply Array.ext
 ·simp
 ·intro i h1 h2
  simp [Value.cells,Nat.mod_one]
theorem ptr1 (T E:TypeId) (hT:Tryz.prog.underlying T=some (.slice E)) (hi:(Tryz.prog.info? E).map (fun i=>(i.zero,i.size))=some (some (.pointer none),1)) (p k:Nat) (W:World) :
  (Instr.buildSlice T 1 #[(0,.pointer (some ⟨p,k,none⟩))]).run Tryz.prog W=.ok (.slice (some ⟨W.heap.size,0,none⟩) 1 1) (W.alloc (.cells #[.pointer (some ⟨p,k,none⟩)] E)):=by
 have hz:=zero_of_info hi
 obtain ⟨it,hit,hzz,hs⟩:∃ it,Tryz.prog.info? E=some it∧it.zero=some (.pointer none)∧it.size=1:=by
  cases h:Tryz.prog.info? E with
  | none=>rw [h] at hi; cases hi
  | some it=>rw [h] at hi; simp only [Option.map_some,Option.some.injEq,Prod.mk.injEq] at hi; exact ⟨it,rfl,hi.1,hi.2⟩
 refine run_buildSlice W _ _ 1 _ #[.pointer (some ⟨p,k,none⟩)] it _ hT hit hzz (by rw [hs]; omega) (by rw [hs]; omega) ?_
 rw [hs,nils]
 rfl
theorem ptr6 (p:Nat) (W:World) :
  (Instr.buildSlice 374 6 #[(0,.pointer (some ⟨p,1,none⟩)),(1,.pointer (some ⟨p,2,none⟩)),(2,.pointer (some ⟨p,3,none⟩)),(3,.pointer (some ⟨p,4,none⟩)),(4,.pointer (some ⟨p,5,none⟩)),(5,.pointer (some ⟨p,6,none⟩))]).run Tryz.prog W=.ok (.slice (some ⟨W.heap.size,0,none⟩) 6 6) (W.alloc (.cells #[.pointer (some ⟨p,1,none⟩),.pointer (some ⟨p,2,none⟩),.pointer (some ⟨p,3,none⟩),.pointer (some ⟨p,4,none⟩),.pointer (some ⟨p,5,none⟩),.pointer (some ⟨p,6,none⟩)] 349)):=by
 have hi:(Tryz.prog.info? 349).map (fun i=>(i.zero,i.size))=some (some (.pointer none),1):=by kernel_rfl
 obtain ⟨it,hit,hzz,hs⟩:∃ it,Tryz.prog.info? 349=some it∧it.zero=some (.pointer none)∧it.size=1:=by
  cases h:Tryz.prog.info? 349 with
  | none=>rw [h] at hi; cases hi
  | some it=>rw [h] at hi; simp only [Option.map_some,Option.some.injEq,Prod.mk.injEq] at hi; exact ⟨it,rfl,hi.1,hi.2⟩
 refine run_buildSlice W _ _ 6 _ #[.pointer (some ⟨p,1,none⟩),.pointer (some ⟨p,2,none⟩),.pointer (some ⟨p,3,none⟩),.pointer (some ⟨p,4,none⟩),.pointer (some ⟨p,5,none⟩),.pointer (some ⟨p,6,none⟩)] it _ Tryz.underlying374 hit hzz (by rw [hs]; omega) (by rw [hs]; omega) ?_
 rw [hs,nils,show Array.replicate 6 (Value.pointer none)=#[.pointer none,.pointer none,.pointer none,.pointer none,.pointer none,.pointer none] from rfl]
 simp [Instr.fill,Value.cells]
theorem ptrs1 (p k : Nat) (E : TypeId) (W : World) : PtrsAt p k 1 (.slice (some ⟨W.heap.size, 0, none⟩) 1 1) (W.alloc (.cells #[.pointer (some ⟨p, k, none⟩)] E)) :=
  ⟨W.heap.size, rfl, by simp, fun j hj => (cell_of_row _ W.heap.size j _ _ _ (heap_alloc_new W _)).trans (by obtain rfl : j = 0 := by omega
                                                                                                             rfl)⟩
theorem ptrs6 (p:Nat) (W:World):PtrsAt p 1 6 (.slice (some ⟨W.heap.size,0,none⟩) 6 6) (W.alloc (.cells #[.pointer (some ⟨p,1,none⟩),.pointer (some ⟨p,2,none⟩),.pointer (some ⟨p,3,none⟩),.pointer (some ⟨p,4,none⟩),.pointer (some ⟨p,5,none⟩),.pointer (some ⟨p,6,none⟩)] 349)):=
 ⟨W.heap.size,rfl,by simp,fun j hj=>(cell_of_row _ W.heap.size j _ _ _ (heap_alloc_new W _)).trans (by
  rcases (by omega:j=0∨j=1∨j=2∨j=3∨j=4∨j=5) with rfl | rfl | rfl | rfl | rfl | rfl <;> rfl)⟩
def fieldPls (p:Nat):List Pl:=[pls 373 p 0 1 8,pls 376 p 1 6 4,pls 379 p 7 1 1].flatten
theorem fields_any (p:Nat) (w:World) :
  Calls Tryz.prog 204 #[.pointer (some ⟨p,0,none⟩)] w fun e w'=>∃ v,e=.returned v∧OwnP w.heap.size (fieldPls p) v w'∧Below w.heap.size w w':=by
 go_enter Tryz.func204,Tryz.ntmps204
 go_upto_region 1 with fail
 refine wp_region_noPanic ?_
 refine wp_region_held_drew (S:=fun W=>Below w.heap.size w W) (by kernel_rfl) (Below.refl _ _).drew ?_
 intro hS
 generalize w.drew=W0 at hS ⊢
 refine RowLaw.tkV 0 3 (.pointer (some ⟨p,0,none⟩)) hS ?_
 simp only [RowLaw.lset]
 refine RowLaw.tkV 1 4 (.pointer (some ⟨p,0,none⟩)) hS ?_
 simp only [RowLaw.lset]
 refine RowLaw.tkV 2 5 (.pointer (some ⟨p,0,none⟩)) hS ?_
 simp only [RowLaw.lset]
 refine RowLaw.tkV 5 8 (.pointer (some ⟨p,0,none⟩)) hS ?_
 simp only [RowLaw.lset]
 refine RowLaw.tkV 6 9 (.pointer (some ⟨p,0,none⟩)) hS ?_
 simp only [RowLaw.lset]
 refine RowLaw.tkV 7 10 (.pointer (some ⟨p,1,none⟩)) hS ?_
 simp only [RowLaw.lset]
 refine RowLaw.tkV 8 11 (.pointer (some ⟨p,0,none⟩)) hS ?_
 simp only [RowLaw.lset]
 refine RowLaw.tkV 9 12 (.pointer (some ⟨p,0,none⟩)) hS ?_
 simp only [RowLaw.lset]
 refine RowLaw.tkV 10 13 (.pointer (some ⟨p,2,none⟩)) hS ?_
 simp only [RowLaw.lset]
 refine RowLaw.tkV 11 14 (.pointer (some ⟨p,0,none⟩)) hS ?_
 simp only [RowLaw.lset]
 refine RowLaw.tkV 12 15 (.pointer (some ⟨p,0,none⟩)) hS ?_
 simp only [RowLaw.lset]
 refine RowLaw.tkV 13 16 (.pointer (some ⟨p,3,none⟩)) hS ?_
 simp only [RowLaw.lset]
 refine RowLaw.tkV 14 17 (.pointer (some ⟨p,0,none⟩)) hS ?_
 simp only [RowLaw.lset]
 refine RowLaw.tkV 15 18 (.pointer (some ⟨p,0,none⟩)) hS ?_
 simp only [RowLaw.lset]
 refine RowLaw.tkV 16 19 (.pointer (some ⟨p,4,none⟩)) hS ?_
 simp only [RowLaw.lset]
 refine RowLaw.tkV 17 20 (.pointer (some ⟨p,0,none⟩)) hS ?_
 simp only [RowLaw.lset]
 refine RowLaw.tkV 18 21 (.pointer (some ⟨p,0,none⟩)) hS ?_
 simp only [RowLaw.lset]
 refine RowLaw.tkV 19 22 (.pointer (some ⟨p,5,none⟩)) hS ?_
 simp only [RowLaw.lset]
 refine RowLaw.tkV 20 23 (.pointer (some ⟨p,0,none⟩)) hS ?_
 simp only [RowLaw.lset]
 refine RowLaw.tkV 21 24 (.pointer (some ⟨p,0,none⟩)) hS ?_
 simp only [RowLaw.lset]
 refine RowLaw.tkV 22 25 (.pointer (some ⟨p,6,none⟩)) hS ?_
 simp only [RowLaw.lset]
 refine RowLaw.tkV 25 28 (.pointer (some ⟨p,0,none⟩)) hS ?_
 simp only [RowLaw.lset]
 refine RowLaw.tkV 26 29 (.pointer (some ⟨p,0,none⟩)) hS ?_
 simp only [RowLaw.lset]
 refine RowLaw.tkV 27 30 (.pointer (some ⟨p,7,none⟩)) hS ?_
 simp only [RowLaw.lset]
 refine wpAnyH_grow w [(4,7),(3,6),(24,27),(23,26),(29,32),(28,31)] [(4,3),(24,23),(29,28)] (fact w p) 3 35 rfl (by kernel_rfl) rfl (by decide) (fact_stays w p) (fun _ h=>h) hS ?_ ?_
 ·intro i d hid a' W K hbel hold hdep hK
  simp only [List.mem_cons,Prod.mk.injEq,List.not_mem_nil,or_false] at hid
  rcases hid with ⟨rfl,rfl⟩ | ⟨rfl,rfl⟩ | ⟨rfl,rfl⟩ | ⟨rfl,rfl⟩ | ⟨rfl,rfl⟩ | ⟨rfl,rfl⟩
  ·obtain ⟨u,hv,hu,hc⟩:=hdep 3 6 (by simp) (by simp)
   refine wpOp_row _ rfl rfl (wp_call_fn _ 235 #[.const (.int .i64 8),.tmp 6] _ rfl #[.int .i64 8,.slice (some ⟨u,0,none⟩) 1 1] (by simp [hv]; rfl) (by simp [go_sem]) (places64_any p 0 1 8 u (by omega) W hu hc) ?_)
   rintro e W' ⟨v,rfl,ho,hb⟩
   exact ⟨v,rfl,hK _ _ hb (OwnP.mono ho hbel.size)⟩
  ·refine wpOp_row _ rfl rfl (wp_slice_row _ 371 1 #[(0,.tmp 5)] rfl #[(0,.pointer (some ⟨p,0,none⟩))] (by simp [hold 5 (by decide)]; rfl) _ (ptr1 _ 347 Tryz.underlying371 (by kernel_rfl) p 0 W) (hK _ _ ((Below.refl _ _).alloc (Nat.le_refl _) _) (ptrs1 p 0 _ W)))
  ·obtain ⟨u,hv,hu,hc⟩:=hdep 23 26 (by simp) (by simp)
   refine wpOp_row _ rfl rfl (wp_call_fn _ 236 #[.const (.int .i64 4),.tmp 26] _ rfl #[.int .i64 4,.slice (some ⟨u,0,none⟩) 6 6] (by simp [hv]; rfl) (by simp [go_sem]) (places32_any p 1 6 4 u (by omega) W hu hc) ?_)
   rintro e W' ⟨v,rfl,ho,hb⟩
   exact ⟨v,rfl,hK _ _ hb (OwnP.mono ho hbel.size)⟩
  ·refine wpOp_row _ rfl rfl (wp_slice_row _ 374 6 #[(0,.tmp 10),(1,.tmp 13),(2,.tmp 16),(3,.tmp 19),(4,.tmp 22),(5,.tmp 25)] rfl #[(0,.pointer (some ⟨p,1,none⟩)),(1,.pointer (some ⟨p,2,none⟩)),(2,.pointer (some ⟨p,3,none⟩)),(3,.pointer (some ⟨p,4,none⟩)),(4,.pointer (some ⟨p,5,none⟩)),(5,.pointer (some ⟨p,6,none⟩))] (by simp [hold 10 (by decide),hold 13 (by decide),hold 16 (by decide),hold 19 (by decide),hold 22 (by decide),hold 25 (by decide)]; exact ⟨rfl,rfl,rfl,rfl,rfl,rfl⟩) _ (ptr6 p W) (hK _ _ ((Below.refl _ _).alloc (Nat.le_refl _) _) (ptrs6 p W)))
  ·obtain ⟨u,hv,hu,hc⟩:=hdep 28 31 (by simp) (by simp)
   refine wpOp_row _ rfl rfl (wp_call_fn _ 237 #[.const (.int .i64 1),.tmp 31] _ rfl #[.int .i64 1,.slice (some ⟨u,0,none⟩) 1 1] (by simp [hv]; rfl) (by simp [go_sem]) (places8_any p 7 1 1 u (by omega) W hu hc) ?_)
   rintro e W' ⟨v,rfl,ho,hb⟩
   exact ⟨v,rfl,hK _ _ hb (OwnP.mono ho hbel.size)⟩
  ·refine wpOp_row _ rfl rfl (wp_slice_row _ 377 1 #[(0,.tmp 30)] rfl #[(0,.pointer (some ⟨p,7,none⟩))] (by simp [hold 30 (by decide)]; rfl) _ (ptr1 _ 351 Tryz.underlying377 (by kernel_rfl) p 7 W) (hK _ _ ((Below.refl _ _).alloc (Nat.le_refl _) _) (ptrs1 p 7 _ W)))
 ·intro f W hall hbel hfact
  obtain ⟨v3,h3⟩:=hall 3 6 (by simp)
  obtain ⟨v4,h4⟩:=hall 4 7 (by simp)
  obtain ⟨v23,h23⟩:=hall 23 26 (by simp)
  obtain ⟨v24,h24⟩:=hall 24 27 (by simp)
  obtain ⟨v28,h28⟩:=hall 28 31 (by simp)
  obtain ⟨v29,h29⟩:=hall 29 32 (by simp)
  have o4:OwnP w.heap.size _ v4 W:=hfact 4 v4 h4
  have o24:OwnP w.heap.size _ v24 W:=hfact 24 v24 h24
  have o29:OwnP w.heap.size _ v29 W:=hfact 29 v29 h29
  simp only [putsF,setB,isF,h3,h4,h23,h24,h28,h29,Option.isSome_some,if_true]
  simp only [Act.put,List.setIfInBounds_toArray,RowLaw.lset]
  clear hall hfact h3 h4 h23 h24 h28 h29 hS
  have r4:=o4.row (by simp [pls])
  have r24:=o24.row (by simp [pls])
  have r29:=o29.row (by simp [pls])
  clear o4 o24 o29
  obtain ⟨g4,c4,rfl,_⟩:=id r4
  obtain ⟨g24,c24,rfl,_⟩:=id r24
  obtain ⟨g29,c29,rfl,_⟩:=id r29
  refine wpAnyH_ready (rs:=[30]) (by kernel_rfl) (by simp) ?_
  refine AllReadyH.cons rfl (fun K hK=>?_) AllReadyH.nil
  rw [if_pos (by rfl)]
  go_simp
  refine hK _ _ (hbel.alloc hbel.size _) (fun hS=>?_)
  clear hK K
  have hu:(W.alloc (Obj.cells #[Value.slice (some ⟨g4,0,none⟩) (pls 373 p 0 1 8).length c4,Value.slice (some ⟨g24,0,none⟩) (pls 376 p 1 6 4).length c24,Value.slice (some ⟨g29,0,none⟩) (pls 379 p 7 1 1).length c29] 311)).heap[W.heap.size]? = some (.cells [Value.slice (some ⟨g4,0,none⟩) (pls 373 p 0 1 8).length c4,Value.slice (some ⟨g24,0,none⟩) (pls 376 p 1 6 4).length c24,Value.slice (some ⟨g29,0,none⟩) (pls 379 p 7 1 1).length c29].toArray 311 (0,0)):=heap_alloc_new W _
  have hb2:Below W.heap.size W (W.alloc (Obj.cells #[Value.slice (some ⟨g4,0,none⟩) (pls 373 p 0 1 8).length c4,Value.slice (some ⟨g24,0,none⟩) (pls 376 p 1 6 4).length c24,Value.slice (some ⟨g29,0,none⟩) (pls 379 p 7 1 1).length c29] 311)):=(Below.refl _ _).alloc (Nat.le_refl _) _
  have q4:=r4.below hb2
  have q24:=r24.below hb2
  have q29:=r29.below hb2
  clear r4 r24 r29 hb2
  have hcon:=concat_any [pls 373 p 0 1 8,pls 376 p 1 6 4,pls 379 p 7 1 1] [Value.slice (some ⟨g4,0,none⟩) (pls 373 p 0 1 8).length c4,Value.slice (some ⟨g24,0,none⟩) (pls 376 p 1 6 4).length c24,Value.slice (some ⟨g29,0,none⟩) (pls 379 p 7 1 1).length c29] rfl (by simp) (by simp [pls]) (by simp [pls]) W.heap.size _ hu (fun i hi=>by
   rcases (by simp at hi; omega:i=0∨i=1∨i=2) with rfl | rfl | rfl
   ·exact q4
   ·exact q24
   ·exact q29)
  clear q4 q24 q29 hu
  have hle:w.heap.size≤(W.alloc (Obj.cells #[Value.slice (some ⟨g4,0,none⟩) (pls 373 p 0 1 8).length c4,Value.slice (some ⟨g24,0,none⟩) (pls 376 p 1 6 4).length c24,Value.slice (some ⟨g29,0,none⟩) (pls 379 p 7 1 1).length c29] 311)).heap.size:=by simp; have:=hbel.size; omega
  generalize W.alloc (Obj.cells #[Value.slice (some ⟨g4,0,none⟩) (pls 373 p 0 1 8).length c4,Value.slice (some ⟨g24,0,none⟩) (pls 376 p 1 6 4).length c24,Value.slice (some ⟨g29,0,none⟩) (pls 379 p 7 1 1).length c29] 311)=W2 at hcon hS hle ⊢
  have HC:=Lib.hid hcon; clear hcon
  refine wpAnyH_ready (rs:=[31]) (by kernel_rfl) (by simp) ?_
  refine AllReadyH.cons rfl (fun K hK=>?_) AllReadyH.nil
  rw [if_pos (by rfl)]
  go_simp
  refine (HC.out).mono ?_
  rintro e W3 ⟨v,rfl,ho,hb⟩
  dsimp only
  have hb3:=Below.trans hS (hb.mono hle)
  refine hK _ _ hb3 (fun hS=>?_)
  clear hK K
  refine RowLaw.tkV 32 2 (v) hS ?_
  simp only [RowLaw.lset]
  refine wpAnyH_done (by kernel_rfl) ?_ _
  refine NoPanic.normal ?_
  have HO:Hid (OwnP w.heap.size (fieldPls p) v W3):=Lib.hid (OwnP.mono ho hle)
  clear ho
  go_wp2
  go_ret
  exact ⟨v,rfl,HO.out,hb3⟩
end Slt
namespace Slt
open Go.RowKit RowLaw Crc Fld
def adr (p k:Nat):Value:=.agg #[.pointer (some ⟨p,k,none⟩)]
theorem load64_any (p k x:Nat) (hx:x < 2 ^ 64) (w:World) (hc:w.cell? ⟨p,k,none⟩=some (.int .u64 (x:Int))) :
  Calls Tryz.prog 300 #[adr p k] w fun e w'=>e=.returned (.int .u64 (x:Int))∧Below w.heap.size w w':=by
 have hlt:p < w.heap.size:=World.block_lt_of_cell? w _ hc
 have z1:IntKind.u64.wrap (x:Int)=(x:Int):=IntWalk.u64_in _ (by omega)
 have hb:Below w.heap.size w (w.alloc (.cells #[.pointer (some ⟨p,k,none⟩)] 373)):=(Below.refl _ _).alloc (Nat.le_refl _) _
 have hc2:=(hb.cell (p:=⟨p,k,none⟩) hlt).trans hc
 clear hx
 unfold adr
 go_enter Tryz.func300,Tryz.ntmps300
 go_wp2
 go_ret
 exact ⟨rfl,hb⟩
theorem load32_any (p k x:Nat) (hx:x < 2 ^ 32) (w:World) (hc:w.cell? ⟨p,k,none⟩=some (.int .u32 (x:Int))) :
  Calls Tryz.prog 302 #[adr p k] w fun e w'=>e=.returned (.int .u64 (x:Int))∧Below w.heap.size w w':=by
 have hlt:p < w.heap.size:=World.block_lt_of_cell? w _ hc
 have z1:IntKind.u64.wrap (x:Int)=(x:Int):=IntWalk.u64_in _ (by omega)
 have hb:Below w.heap.size w (w.alloc (.cells #[.pointer (some ⟨p,k,none⟩)] 376)):=(Below.refl _ _).alloc (Nat.le_refl _) _
 have hc2:=(hb.cell (p:=⟨p,k,none⟩) hlt).trans hc
 clear hx
 unfold adr
 go_enter Tryz.func302,Tryz.ntmps302
 go_wp2
 go_ret
 exact ⟨rfl,hb⟩
theorem load8_any (p k x:Nat) (hx:x < 2 ^ 8) (w:World) (hc:w.cell? ⟨p,k,none⟩=some (.int .u8 (x:Int))) :
  Calls Tryz.prog 304 #[adr p k] w fun e w'=>e=.returned (.int .u64 (x:Int))∧Below w.heap.size w w':=by
 have hlt:p < w.heap.size:=World.block_lt_of_cell? w _ hc
 have z1:IntKind.u64.wrap (x:Int)=(x:Int):=IntWalk.u64_in _ (by omega)
 have hb:Below w.heap.size w (w.alloc (.cells #[.pointer (some ⟨p,k,none⟩)] 379)):=(Below.refl _ _).alloc (Nat.le_refl _) _
 have hc2:=(hb.cell (p:=⟨p,k,none⟩) hlt).trans hc
 clear hx
 unfold adr
 go_enter Tryz.func304,Tryz.ntmps304
 go_wp2
 go_ret
 exact ⟨rfl,hb⟩
def flds (r:Rt):List (Nat×Nat):=[(r.gen,8),(r.size,4),(r.picks,4),(r.names,4),(r.free,4),(r.next,4),(r.hint,4),(r.vols,1)]
def bytesTo (r:Rt) (k:Nat):List UInt8:=((flds r).take k).flatMap fun x=>leB x.1 x.2
theorem bytes_all (r:Rt):bytesTo r 8=rtF r:=by simp [bytesTo,flds,rtF,rtTo,nums]
theorem bytes_succ (r:Rt) (k:Nat) (hk:k < 8):bytesTo r (k+1)=bytesTo r k ++ leB ((flds r).getD k (0,0)).1 ((flds r).getD k (0,0)).2:=by
 unfold bytesTo
 rw [List.take_succ_eq_append_getElem (show k < (flds r).length from hk),List.flatMap_append,List.getD_eq_getElem?_getD,List.getElem?_eq_getElem (show k < (flds r).length from hk)]
 simp
theorem bytes_len (r:Rt) (k:Nat):(bytesTo r k).length≤33:=by
 have h:(bytesTo r k).length≤(rtF r).length:=by
  rw [←bytes_all]
  unfold bytesTo
  rw [show (flds r).take 8=flds r from rfl]
  conv=>rhs; rw [←List.take_append_drop k (flds r),List.flatMap_append,List.length_append]
  omega
 rw [rtF_length] at h
 exact h
theorem numBytes8 (n:Nat):numBytes n 8=some (leB n 8):=by unfold numBytes; rw [if_pos (by decide)]; rfl
theorem app_fld (r:Rt) (k:Nat) (hk:k < 8):app (some (bytesTo r k)) (numBytes ((flds r).getD k (0,0)).1 (((flds r).getD k (0,0)).2:Nat))=some (bytesTo r (k+1)):=by
 have hn:numBytes ((flds r).getD k (0,0)).1 (((flds r).getD k (0,0)).2:Nat)=some (leB ((flds r).getD k (0,0)).1 ((flds r).getD k (0,0)).2):=by
  rcases (by omega:k=0∨k=1∨k=2∨k=3∨k=4∨k=5∨k=6∨k=7) with rfl | rfl | rfl | rfl | rfl | rfl | rfl | rfl
  ·exact numBytes8 _
  all_goals first | exact numBytes4 _ | exact numBytes1 _
 have h8:((flds r).getD k (0,0)).2≤8:=by
  rcases (by omega:k=0∨k=1∨k=2∨k=3∨k=4∨k=5∨k=6∨k=7) with rfl | rfl | rfl | rfl | rfl | rfl | rfl | rfl <;> simp [flds]
 rw [hn,app_at _ _ (by rw [leB_length]; have:=bytes_len r k; omega),bytes_succ r k hk]
def plObj (cur:Array Value):Obj:=.cells cur 344 (0,0)
structure Places (cur:Array Value) (p:Nat):Prop where
 at_:cur.toList.take 16=plRow (fieldPls p)
theorem Places.cell {cur:Array Value} {p:Nat} (h:Places cur p) {W:World} {g:Nat} (hg:W.heap[g]? = some (plObj cur)) (j:Nat) (v:Value) (hj:(plRow (fieldPls p))[j]? = some v):W.cell? ⟨g,j,none⟩=some v:=by
 rw [cell_of_row W g j _ _ _ hg]
 rw [←h.at_,List.getElem?_take] at hj
 split at hj
 ·simpa using hj
 ·cases hj
theorem Places.mid {cur:Array Value} {p:Nat} (h:Places cur p) {W:World} {g:Nat} (hg:W.heap[g]? = some (plObj cur)) (k:Nat) (h1:1≤k) (h7:k < 7) :
  W.cell? ⟨g,k * 2,none⟩=some (.iface 376 (adr p k))∧W.cell? ⟨g,k * 2+1,none⟩=some (.int .i64 4):=by
 rcases (by omega:k=1∨k=2∨k=3∨k=4∨k=5∨k=6) with rfl | rfl | rfl | rfl | rfl | rfl <;> exact ⟨h.cell hg _ _ rfl,h.cell hg _ _ rfl⟩
theorem own_places {base:Nat} {p:Nat} {v:Value} {W:World} (h:OwnP base (fieldPls p) v W):∃ g cap cur,v=.slice (some ⟨g,0,none⟩) 8 cap∧base≤g∧W.heap[g]? = some (plObj cur)∧Places cur p:=by
 rcases h.2 with ⟨_,h0⟩ | ⟨g,cap,cur,rfl,h5,h6,_,_,_,h10⟩
 ·cases h0
 ·exact ⟨g,cap,cur,rfl,h5,h6,⟨h10⟩⟩
theorem mid_cell {W:World} {p:Nat} {r:Rt} (h:IsRt W p r) (k:Nat) (h1:1≤k) (h7:k < 7):W.cell? ⟨p,k,none⟩=some (.int .u32 (((flds r).getD k (0,0)).1:Int)):=by
 rcases (by omega:k=1∨k=2∨k=3∨k=4∨k=5∨k=6) with rfl | rfl | rfl | rfl | rfl | rfl
 ·exact h.size
 ·exact h.picks
 ·exact h.names
 ·exact h.free
 ·exact h.next
 ·exact h.hint
theorem mid_lt {r:Rt} (h:r.Fits) (k:Nat) (h1:1≤k) (h7:k < 7):((flds r).getD k (0,0)).1 < 2 ^ 32:=by
 rcases (by omega:k=1∨k=2∨k=3∨k=4∨k=5∨k=6) with rfl | rfl | rfl | rfl | rfl | rfl
 ·exact h.size
 ·exact h.picks
 ·exact h.names
 ·exact h.free
 ·exact h.next
 ·exact h.hint
theorem mid_wd (r:Rt) (k:Nat) (h1:1≤k) (h7:k < 7):((flds r).getD k (0,0)).2=4:=by
 rcases (by omega:k=1∨k=2∨k=3∨k=4∨k=5∨k=6) with rfl | rfl | rfl | rfl | rfl | rfl <;> rfl
def numW (q:Nat):Value:=.func (.func 205) #[.pointer (some ⟨q,0,none⟩)] #[]
theorem write_any (w:World) (K':List (Nat×Obj)) (q g cap p:Nat) (cur:Array Value) (r:Rt) (hg:(g,plObj cur)∈K') (hp:(p,rootO r)∈K') (hpl:Places cur p) (hf:r.Fits) (W:World) (h:WBox w K' q (some []) W) :
  Calls Tryz.prog 203 #[.slice (some ⟨g,0,none⟩) 8 cap,numW q] W fun e W'=>e=.returned (.tuple #[])∧WBox w K' q (some (rtF r)) W':=by
 have HG:=Lib.hid hg; clear hg
 have HP:=Lib.hid hp; clear hp
 have HF:=Lib.hid hf; clear hf
 have HPL:=Lib.hid hpl; clear hpl
 have HA:=Lib.hid (bytes_all r)
 have HB:=Lib.hid (app_fld r)
 go_enter Tryz.func203,Tryz.ntmps203
 unfold numW
 go_wp2
 go_loopw [8] (fun i wr=>∃ k:Nat,k≤8∧i=.int .i64 k∧WBox w K' q (some (bytesTo r k)) wr) (fun i _=>8 - (intOf i).toNat)
 case atStart=>exact ⟨0,by omega,rfl,h⟩
 case round=>
  obtain ⟨k,hk,rfl,hbk⟩:=hrel
  clear h
  by_cases hlt:k < 8
  ·have hbyt:=HB.out k hlt
   have hG:=hbk.kept.at_ HG.out
   have hR:IsRt wr p r:=hbk.kept.at_ HP.out
   rcases (by omega:k=0∨(1≤k∧k < 7)∨k=7) with rfl | ⟨h1,h7⟩ | rfl
   ·have c1:wr.cell? ⟨g,0 * 2,none⟩=some (.iface 373 (adr p 0)):=HPL.out.cell hG _ _ rfl
    have c2:wr.cell? ⟨g,0 * 2+1,none⟩=some (.int .i64 8):=HPL.out.cell hG _ _ rfl
    have hval:∃ x,x=r.gen:=⟨_,rfl⟩
    obtain ⟨x,hx⟩:=hval
    have HX:=Lib.hid hx
    have hc:∀ W:World,Kept w K' W→W.cell? ⟨p,0,none⟩=some (.int .u64 (x:Int)):=fun W h=>by rw [hx]; exact IsRt.gen (h.at_ HP.out)
    have hxl:x < 2 ^ 64:=by rw [hx]; exact HF.out.gen
    clear hx
    have hbox:=hbk.more ((Below.refl _ _).alloc (Nat.le_refl _) (Obj.cells #[Value.iface 373 (adr p 0),Value.int IntKind.i64 8] 344)) (Nat.le_refl _) (heap_alloc_new wr _)
    have hE:Hid (app (some (bytesTo r 0)) (numBytes x (8:Int))=some (bytesTo r (0+1))):=Lib.hid (by rw [HX.out]; exact hbyt)
    clear hbk hR hbyt
    go_wp2_with fail
    have hm : ∀ W : World, (method 157 373 (adr p 0) "pantile/slot.load").run Tryz.prog W = .ok (300, adr p 0) W := fun _ => by kernel_rfl
    have hna : ∀ W : World, (nilAhead 157 373 (adr p 0) "pantile/slot.load").run Tryz.prog W = .ok (some false) W := fun _ => by kernel_rfl
    have hs:wr.heap.size < (wr.alloc (Obj.cells #[Value.iface 373 (adr p 0),Value.int IntKind.i64 8] 344)).heap.size:=by simp
    clear c1 c2 hG
    generalize wr.heap.size=s at hbox hs ⊢
    generalize wr.alloc (Obj.cells #[Value.iface 373 (adr p 0),Value.int IntKind.i64 8] 344)=W1 at hbox hs ⊢
    refine wp_region_noPanic ?_
    refine wp_region_held_drew (S:=Kept w ((s,(Obj.cells #[Value.iface 373 (adr p 0),Value.int IntKind.i64 8] 344 (0,0)))::K')) (by kernel_rfl) hbox.kept.drew ?_
    intro hS
    have hbox2: WBox w ((s,(Obj.cells #[Value.iface 373 (adr p 0),Value.int IntKind.i64 8] 344 (0,0)))::K') q _ W1.drew:=⟨hS,hbox.wr.of_block rfl,hbox.le,hbox.ne⟩
    clear hbox hs
    generalize W1.drew=W2 at hS hbox2 ⊢
    refine RowLaw.tkV 0 12 (.func (.func 205) #[.pointer (some ⟨q,0,none⟩)] #[]) hS ?_
    simp only [RowLaw.lset]
    refine RowLaw.tkV 1 13 (.pointer (some ⟨s,0,none⟩)) hS ?_
    simp only [RowLaw.lset]
    refine RowLaw.tkV 2 14 (.iface 373 (adr p 0)) hS ?_ (hy:=(Or.inl ⟨by rfl,fun W hW=>by have c:W.cell? ⟨s,0,none⟩=some (.iface 373 (adr p 0)):=(cell_of_row W s 0 _ _ _ (Kept.at_ hW (q:=s) (o:=(Obj.cells #[Value.iface 373 (adr p 0),Value.int IntKind.i64 8] 344 (0,0))) List.mem_cons_self)).trans rfl; go_simp⟩))
    simp only [RowLaw.lset]
    refine RowLaw.tkV 4 16 (.pointer (some ⟨s,1,none⟩)) hS ?_
    simp only [RowLaw.lset]
    refine RowLaw.tkV 5 17 (.int .i64 8) hS ?_ (hy:=(Or.inl ⟨by rfl,fun W hW=>by have c:W.cell? ⟨s,1,none⟩=some (.int .i64 8):=(cell_of_row W s 1 _ _ _ (Kept.at_ hW (q:=s) (o:=(Obj.cells #[Value.iface 373 (adr p 0),Value.int IntKind.i64 8] 344 (0,0))) List.mem_cons_self)).trans rfl; go_simp⟩))
    simp only [RowLaw.lset]
    refine wpAnyH_ready (rs:=[3]) (by kernel_rfl) (by simp) ?_
    refine AllReadyH.cons rfl (fun K hK=>?_) AllReadyH.nil
    rw [if_pos (by rfl)]
    refine wp_call_iface _ _ _ _ _ rfl 373 (adr p 0) rfl #[] (by simp) 300 (adr p 0) (by kernel_rfl) (by simp [go_sem]) (load64_any p _ x hxl W2 (hc W2 (hS.less (fun y hy=>List.mem_cons_of_mem _ hy)))) ?_
    rintro e W3 ⟨rfl,hb⟩
    refine ⟨_,rfl,?_⟩
    replace hbox2:=hbox2.below hb
    refine hK.out _ _ hbox2.kept (fun _=>?_)
    clear hS hb hK K
    change wpAnyH _ _ _ _ _ _ _ (Act.put _ (some 15) _) _
    simp only [Act.put,List.setIfInBounds_toArray,RowLaw.lset]
    refine wpAnyH_ready (rs:=[6]) (by kernel_rfl) (by simp) ?_
    refine AllReadyH.cons rfl (fun K hK=>?_) AllReadyH.nil
    rw [if_pos (by rfl)]
    go_simp
    refine (hbox2.num x 8 hE.out).mono ?_
    rintro e W4 ⟨rfl,hbox4⟩
    dsimp only
    refine hK.out _ _ hbox4.kept (fun _=>?_)
    clear hbox2 hK K
    refine wpAnyH_done (by kernel_rfl) ?_ _
    refine NoPanic.normal ?_
    have hbox5:WBox w K' q _ W4:=hbox4.less (fun y hy=>List.mem_cons_of_mem _ hy)
    clear hbox4
    go_wp2
    go_roundw
    case rel=>exact ⟨0+1,by omega,by go_num,hbox5⟩
    case measure=>simp [intOf]
   ·have c1:wr.cell? ⟨g,k * 2,none⟩=some (.iface 376 (adr p k)):=(HPL.out.mid hG k h1 h7).1
    have c2:wr.cell? ⟨g,k * 2+1,none⟩=some (.int .i64 4):=(HPL.out.mid hG k h1 h7).2
    have hval:∃ x,x=((flds r).getD k (0,0)).1:=⟨_,rfl⟩
    obtain ⟨x,hx⟩:=hval
    have HX:=Lib.hid hx
    have hc:∀ W:World,Kept w K' W→W.cell? ⟨p,k,none⟩=some (.int .u32 (x:Int)):=fun W h=>by rw [hx]; exact mid_cell (h.at_ HP.out) k h1 h7
    have hxl:x < 2 ^ 32:=by rw [hx]; exact mid_lt HF.out k h1 h7
    clear hx
    have hbox:=hbk.more ((Below.refl _ _).alloc (Nat.le_refl _) (Obj.cells #[Value.iface 376 (adr p k),Value.int IntKind.i64 4] 344)) (Nat.le_refl _) (heap_alloc_new wr _)
    have hE:Hid (app (some (bytesTo r k)) (numBytes x (4:Int))=some (bytesTo r (k+1))):=Lib.hid (by rw [HX.out]; rw [mid_wd r k h1 h7] at hbyt; exact hbyt)
    clear hbk hR hbyt
    go_wp2_with fail
    have hm : ∀ W : World, (method 157 376 (adr p k) "pantile/slot.load").run Tryz.prog W = .ok (302, adr p k) W := fun _ => by kernel_rfl
    have hna : ∀ W : World, (nilAhead 157 376 (adr p k) "pantile/slot.load").run Tryz.prog W = .ok (some false) W := fun _ => by kernel_rfl
    have hs:wr.heap.size < (wr.alloc (Obj.cells #[Value.iface 376 (adr p k),Value.int IntKind.i64 4] 344)).heap.size:=by simp
    clear c1 c2 hG
    generalize wr.heap.size=s at hbox hs ⊢
    generalize wr.alloc (Obj.cells #[Value.iface 376 (adr p k),Value.int IntKind.i64 4] 344)=W1 at hbox hs ⊢
    refine wp_region_noPanic ?_
    refine wp_region_held_drew (S:=Kept w ((s,(Obj.cells #[Value.iface 376 (adr p k),Value.int IntKind.i64 4] 344 (0,0)))::K')) (by kernel_rfl) hbox.kept.drew ?_
    intro hS
    have hbox2: WBox w ((s,(Obj.cells #[Value.iface 376 (adr p k),Value.int IntKind.i64 4] 344 (0,0)))::K') q _ W1.drew:=⟨hS,hbox.wr.of_block rfl,hbox.le,hbox.ne⟩
    clear hbox hs
    generalize W1.drew=W2 at hS hbox2 ⊢
    refine RowLaw.tkV 0 12 (.func (.func 205) #[.pointer (some ⟨q,0,none⟩)] #[]) hS ?_
    simp only [RowLaw.lset]
    refine RowLaw.tkV 1 13 (.pointer (some ⟨s,0,none⟩)) hS ?_
    simp only [RowLaw.lset]
    refine RowLaw.tkV 2 14 (.iface 376 (adr p k)) hS ?_ (hy:=(Or.inl ⟨by rfl,fun W hW=>by have c:W.cell? ⟨s,0,none⟩=some (.iface 376 (adr p k)):=(cell_of_row W s 0 _ _ _ (Kept.at_ hW (q:=s) (o:=(Obj.cells #[Value.iface 376 (adr p k),Value.int IntKind.i64 4] 344 (0,0))) List.mem_cons_self)).trans rfl; go_simp⟩))
    simp only [RowLaw.lset]
    refine RowLaw.tkV 4 16 (.pointer (some ⟨s,1,none⟩)) hS ?_
    simp only [RowLaw.lset]
    refine RowLaw.tkV 5 17 (.int .i64 4) hS ?_ (hy:=(Or.inl ⟨by rfl,fun W hW=>by have c:W.cell? ⟨s,1,none⟩=some (.int .i64 4):=(cell_of_row W s 1 _ _ _ (Kept.at_ hW (q:=s) (o:=(Obj.cells #[Value.iface 376 (adr p k),Value.int IntKind.i64 4] 344 (0,0))) List.mem_cons_self)).trans rfl; go_simp⟩))
    simp only [RowLaw.lset]
    refine wpAnyH_ready (rs:=[3]) (by kernel_rfl) (by simp) ?_
    refine AllReadyH.cons rfl (fun K hK=>?_) AllReadyH.nil
    rw [if_pos (by rfl)]
    refine wp_call_iface _ _ _ _ _ rfl 376 (adr p k) rfl #[] (by simp) 302 (adr p k) (by kernel_rfl) (by simp [go_sem]) (load32_any p _ x hxl W2 (hc W2 (hS.less (fun y hy=>List.mem_cons_of_mem _ hy)))) ?_
    rintro e W3 ⟨rfl,hb⟩
    refine ⟨_,rfl,?_⟩
    replace hbox2:=hbox2.below hb
    refine hK.out _ _ hbox2.kept (fun _=>?_)
    clear hS hb hK K
    change wpAnyH _ _ _ _ _ _ _ (Act.put _ (some 15) _) _
    simp only [Act.put,List.setIfInBounds_toArray,RowLaw.lset]
    refine wpAnyH_ready (rs:=[6]) (by kernel_rfl) (by simp) ?_
    refine AllReadyH.cons rfl (fun K hK=>?_) AllReadyH.nil
    rw [if_pos (by rfl)]
    go_simp
    refine (hbox2.num x 4 hE.out).mono ?_
    rintro e W4 ⟨rfl,hbox4⟩
    dsimp only
    refine hK.out _ _ hbox4.kept (fun _=>?_)
    clear hbox2 hK K
    refine wpAnyH_done (by kernel_rfl) ?_ _
    refine NoPanic.normal ?_
    have hbox5:WBox w K' q _ W4:=hbox4.less (fun y hy=>List.mem_cons_of_mem _ hy)
    clear hbox4
    go_wp2
    go_roundw
    case rel=>exact ⟨k+1,by omega,by go_num,hbox5⟩
    case measure=>simp [intOf]; omega
   ·have c1:wr.cell? ⟨g,7 * 2,none⟩=some (.iface 379 (adr p 7)):=HPL.out.cell hG _ _ rfl
    have c2:wr.cell? ⟨g,7 * 2+1,none⟩=some (.int .i64 1):=HPL.out.cell hG _ _ rfl
    have hval:∃ x,x=r.vols:=⟨_,rfl⟩
    obtain ⟨x,hx⟩:=hval
    have HX:=Lib.hid hx
    have hc:∀ W:World,Kept w K' W→W.cell? ⟨p,7,none⟩=some (.int .u8 (x:Int)):=fun W h=>by rw [hx]; exact IsRt.vols (h.at_ HP.out)
    have hxl:x < 2 ^ 8:=by rw [hx]; exact HF.out.vols
    clear hx
    have hbox:=hbk.more ((Below.refl _ _).alloc (Nat.le_refl _) (Obj.cells #[Value.iface 379 (adr p 7),Value.int IntKind.i64 1] 344)) (Nat.le_refl _) (heap_alloc_new wr _)
    have hE:Hid (app (some (bytesTo r 7)) (numBytes x (1:Int))=some (bytesTo r (7+1))):=Lib.hid (by rw [HX.out]; exact hbyt)
    clear hbk hR hbyt
    go_wp2_with fail
    have hm : ∀ W : World, (method 157 379 (adr p 7) "pantile/slot.load").run Tryz.prog W = .ok (304, adr p 7) W := fun _ => by kernel_rfl
    have hna : ∀ W : World, (nilAhead 157 379 (adr p 7) "pantile/slot.load").run Tryz.prog W = .ok (some false) W := fun _ => by kernel_rfl
    have hs:wr.heap.size < (wr.alloc (Obj.cells #[Value.iface 379 (adr p 7),Value.int IntKind.i64 1] 344)).heap.size:=by simp
    clear c1 c2 hG
    generalize wr.heap.size=s at hbox hs ⊢
    generalize wr.alloc (Obj.cells #[Value.iface 379 (adr p 7),Value.int IntKind.i64 1] 344)=W1 at hbox hs ⊢
    refine wp_region_noPanic ?_
    refine wp_region_held_drew (S:=Kept w ((s,(Obj.cells #[Value.iface 379 (adr p 7),Value.int IntKind.i64 1] 344 (0,0)))::K')) (by kernel_rfl) hbox.kept.drew ?_
    intro hS
    have hbox2: WBox w ((s,(Obj.cells #[Value.iface 379 (adr p 7),Value.int IntKind.i64 1] 344 (0,0)))::K') q _ W1.drew:=⟨hS,hbox.wr.of_block rfl,hbox.le,hbox.ne⟩
    clear hbox hs
    generalize W1.drew=W2 at hS hbox2 ⊢
    refine RowLaw.tkV 0 12 (.func (.func 205) #[.pointer (some ⟨q,0,none⟩)] #[]) hS ?_
    simp only [RowLaw.lset]
    refine RowLaw.tkV 1 13 (.pointer (some ⟨s,0,none⟩)) hS ?_
    simp only [RowLaw.lset]
    refine RowLaw.tkV 2 14 (.iface 379 (adr p 7)) hS ?_ (hy:=(Or.inl ⟨by rfl,fun W hW=>by have c:W.cell? ⟨s,0,none⟩=some (.iface 379 (adr p 7)):=(cell_of_row W s 0 _ _ _ (Kept.at_ hW (q:=s) (o:=(Obj.cells #[Value.iface 379 (adr p 7),Value.int IntKind.i64 1] 344 (0,0))) List.mem_cons_self)).trans rfl; go_simp⟩))
    simp only [RowLaw.lset]
    refine RowLaw.tkV 4 16 (.pointer (some ⟨s,1,none⟩)) hS ?_
    simp only [RowLaw.lset]
    refine RowLaw.tkV 5 17 (.int .i64 1) hS ?_ (hy:=(Or.inl ⟨by rfl,fun W hW=>by have c:W.cell? ⟨s,1,none⟩=some (.int .i64 1):=(cell_of_row W s 1 _ _ _ (Kept.at_ hW (q:=s) (o:=(Obj.cells #[Value.iface 379 (adr p 7),Value.int IntKind.i64 1] 344 (0,0))) List.mem_cons_self)).trans rfl; go_simp⟩))
    simp only [RowLaw.lset]
    refine wpAnyH_ready (rs:=[3]) (by kernel_rfl) (by simp) ?_
    refine AllReadyH.cons rfl (fun K hK=>?_) AllReadyH.nil
    rw [if_pos (by rfl)]
    refine wp_call_iface _ _ _ _ _ rfl 379 (adr p 7) rfl #[] (by simp) 304 (adr p 7) (by kernel_rfl) (by simp [go_sem]) (load8_any p _ x hxl W2 (hc W2 (hS.less (fun y hy=>List.mem_cons_of_mem _ hy)))) ?_
    rintro e W3 ⟨rfl,hb⟩
    refine ⟨_,rfl,?_⟩
    replace hbox2:=hbox2.below hb
    refine hK.out _ _ hbox2.kept (fun _=>?_)
    clear hS hb hK K
    change wpAnyH _ _ _ _ _ _ _ (Act.put _ (some 15) _) _
    simp only [Act.put,List.setIfInBounds_toArray,RowLaw.lset]
    refine wpAnyH_ready (rs:=[6]) (by kernel_rfl) (by simp) ?_
    refine AllReadyH.cons rfl (fun K hK=>?_) AllReadyH.nil
    rw [if_pos (by rfl)]
    go_simp
    refine (hbox2.num x 1 hE.out).mono ?_
    rintro e W4 ⟨rfl,hbox4⟩
    dsimp only
    refine hK.out _ _ hbox4.kept (fun _=>?_)
    clear hbox2 hK K
    refine wpAnyH_done (by kernel_rfl) ?_ _
    refine NoPanic.normal ?_
    have hbox5:WBox w K' q _ W4:=hbox4.less (fun y hy=>List.mem_cons_of_mem _ hy)
    clear hbox4
    go_wp2
    go_roundw
    case rel=>exact ⟨7+1,by omega,by go_num,hbox5⟩
    case measure=>simp [intOf]
  ·obtain rfl:k=8:=by omega
   rw [HA.out] at hbk
   go_wp2
   go_end0
   exact ⟨rfl,hbk⟩
theorem RBox.lt {w: World} {K: List (Nat×Obj)} {q: Nat} {st: Option (List UInt8×Nat)} {W: World} {x: Nat×Obj} (h: RBox w (x::K) q st W): x.1 < W.heap.size:=h.kept.lt_ (q:=x.1) (o:=x.2) List.mem_cons_self
end Slt

end Go.Proofs.YtgkbfahflngklaaGreat
