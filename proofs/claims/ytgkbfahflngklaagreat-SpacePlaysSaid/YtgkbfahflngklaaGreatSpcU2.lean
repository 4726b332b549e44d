import Derived.Test.YtgkbfahflngklaaGreatSpcG
import Derived.Test.YtgkbfahflngklaaGreatSpcR8d
import Derived.Test.YtgkbfahflngklaaGreatCntG
set_option maxRecDepth 100000
set_option maxHeartbeats 3200000
set_option linter.unusedSimpArgs false
namespace Go.Proofs.YtgkbfahflngklaaGreat
namespace Spc
open Go.RowKit RowLaw
open Dev (ptr DS)
open Cnt (own_slice own_kept own_base own_ne TD tdOf tdOf_ok Sound)
open Slt (Rt cells cells_one infoR sizeR)
open Rot (planOk tlN pkN fsN planCells planCells_one sizePlan infoPlan refLayout_yes plan_facts)
variable {A:Nat→Prop}
theorem built_dt (n:Nat) (vg vw:Value) (wr:Nat) (r:Rt):Tryz.prog.built 65 [(0,.agg (rdC n vg vw wr)),(1,.agg (cells r))]=some (dtC n vg vw wr r (.slice none 0 0)):=by kernel_rfl
theorem wpList_build_dt {ops:Array Oper} {rest:List Oper} {o:Oper} {ac:Act} {w:World} {Q:Exit→Act→World→Prop} (hgd:o.guard=none) (x0 x1:Operand) (ho:o.op=.build 65 #[(0,x0),(1,x1)]) (n:Nat) (vg vw:Value) (wr:Nat) (r:Rt)
  (h0: ac.eval x0=.agg (rdC n vg vw wr)) (h1: ac.eval x1=.agg (cells r)) (h: wpList Tryz.prog ops Q rest (ac.put o.dst (.agg (dtC n vg vw wr r (.slice none 0 0)))) w): wpList Tryz.prog ops Q (o::rest) ac w:=by
 refine wpList_plain hgd fun K hK=>?_
 unfold Oper.wp execOp
 simp only [ho,List.map_toArray,List.map_cons,List.map_nil,h0,h1,Sem.run_bind,Sem.run_pure,run_build w _ _ _ (built_dt n vg vw wr r),Result.andThen_ok]
 exact hK _ _ h
theorem Open9_any {w:World} {v:Value} {x:RS} {r:Rt} (h:RD A w v x) (hp:planOk x.n=true) (hr:r.size=x.n) :
  Calls Tryz.prog 95 #[v,.agg (cells r)] w fun e w'=>∃ v',e=.returned (.tuple #[v',.int .i64 0])∧DT A w' v' x r []∧Below w.heap.size w w':=by
 have h0:=h
 obtain ⟨⟨vg,vw,rfl,hg,hw⟩,n32,g32,w32⟩:=h
 have hzt:=(zero_of_info infoDT).1
 have hzp:=(zero_of_info infoPlan).1
 have hid:=sizeRD x.n vg vw x.wr
 have hir:(Tryz.prog.info? 31).map (·.size)=some (cells r).size:=sizeR r
 have hidt:=sizeDT x.n vg vw x.wr r (.slice none 0 0)
 have h1c:=dtC_one x.n x.wr r hg.slice hw.slice (vl:=.slice none 0 0) rfl
 have hL:=refLayout_yes hp
 obtain ⟨W1,hW1⟩:∃ W,W=((w.alloc (.cells (rdC x.n vg vw x.wr) 62)).alloc (.cells (cells r) 31)).alloc (.cells (dtC 0 (.slice none 0 0) (.slice none 0 0) 0 Slt.nil (.slice none 0 0)) 65):=⟨_,rfl⟩
 have b2:Below w.heap.size w W1:=by
  rw [hW1]
  exact (((Below.refl _ _).alloc (Nat.le_refl _) _).alloc (by simp only [World.size_alloc]; omega) _).alloc (by simp only [World.size_alloc]; omega) _
 have q1:W1.heap[w.heap.size]? = some (.cells (rdC x.n vg vw x.wr) 62 (0,0)):=by
  rw [hW1]
  exact (Below.heap_alloc _ _ _ (by simp only [World.size_alloc]; omega)).trans ((Below.heap_alloc _ _ _ (by simp only [World.size_alloc]; omega)).trans (heap_alloc_new w _))
 have q2:W1.heap[w.heap.size+1]? = some (.cells (cells r) 31 (0,0)):=by
  rw [hW1]
  exact (Below.heap_alloc _ _ _ (by simp only [World.size_alloc]; omega)).trans (heap_alloc2_new w _ _)
 have q3:W1.heap[w.heap.size+2]? = some (.cells (dtC 0 (.slice none 0 0) (.slice none 0 0) 0 Slt.nil (.slice none 0 0)) 65 (0,0)):=by
  rw [hW1]
  have:=heap_alloc_new ((w.alloc (.cells (rdC x.n vg vw x.wr) 62)).alloc (.cells (cells r) 31)) (.cells (dtC 0 (.slice none 0 0) (.slice none 0 0) 0 Slt.nil (.slice none 0 0)) 65)
  simpa only [World.size_alloc] using this
 have HD:=Lib.hid h0
 generalize tlN x.n=tl at hL
 generalize pkN x.n=pk at hL
 generalize fsN x.n=fs at hL
 have HL:=Lib.hid hL
 clear hL hg hw h0 n32 g32 w32 hp
 have c1:∀ W:World,W.heap[w.heap.size+1]? = some (.cells (cells r) 31 (0,0))→W.cell? ⟨w.heap.size+1,1,none⟩=some (.int .u32 (x.n:Int)):=fun W h=>(cell_of_row W (w.heap.size+1) 1 _ _ _ h).trans (by rw [←hr]; rfl)
 go_enter Tryz.func95,Tryz.ntmps95
 go_upto_region 1 with fail
 change Code.wp _ _ _ _ (((w.alloc (.cells (rdC x.n vg vw x.wr) 62)).alloc (.cells (cells r) 31)).alloc (.cells (dtC 0 (.slice none 0 0) (.slice none 0 0) 0 Slt.nil (.slice none 0 0)) 65))
 rw [←hW1]
 clear hW1
 obtain ⟨q,hq⟩:∃ q,q=w.heap.size:=⟨_,rfl⟩
 rw [←hq] at q1 q2 q3 c1 ⊢
 have HQ:=Lib.hid hq
 clear hq
 have cc:=c1 W1 q2
 go_wp2_with fail
 refine (HL.out _).mono ?_
 clear HL cc
 rintro e W2 ⟨rfl,hx⟩
 have hx3:=hx.alloc hx.size (.cells (planCells tl pk fs) 82)
 have p1:=(hx3.block _ (Array.getElem?_eq_some_iff.1 q1).1).trans q1
 have p2:=(hx3.block _ (Array.getElem?_eq_some_iff.1 q2).1).trans q2
 have p3:=(hx3.block _ (Array.getElem?_eq_some_iff.1 q3).1).trans q3
 have b3:=b2.trans (hx3.mono b2.size)
 clear q1 q2 q3 b2 hx hx3
 have tok:True:=trivial
 go_upto_region 2 with (have _t:=tok; refine wpList_store_new rfl 82 _ _ rfl (planCells tl pk fs) _ _ rfl rfl (sizePlan _ _ _) rfl (planCells_one _ _ _) ?_; clear _t tok)
 generalize W2.heap.size=gp
 generalize W2.alloc (.cells (planCells tl pk fs) 82)=W3 at p1 p2 p3 b3 ⊢
 have cc:=c1 W3 p2
 have c0:W3.cell? ⟨q,0,none⟩=some (.int .u32 (x.n:Int)):=(cell_of_row W3 q 0 _ _ _ p1).trans rfl
 have d1:((x.n:Int) != (x.n:Int))=false:=by simp
 go_wp2_with (first | (refine wpList_load_row rfl 62 _ rfl q rfl _ _ _ _ p1 Tryz.underlying62 rfl hid ?_) | (refine wpList_load_row rfl 31 _ rfl (q+1) rfl _ _ _ _ p2 Tryz.underlying31 rfl hir ?_) | (refine wpList_build_dt rfl _ _ rfl x.n vg vw x.wr r rfl rfl ?_) | (refine wpList_store_row rfl 65 _ _ rfl (q+2) _ rfl rfl _ _ p3 hidt rfl h1c ?_))
 have b4:=Dev.below_row (g:=q+2) (cs:=dtC x.n vg vw x.wr r (.slice none 0 0)) b3 (by have:=HQ.out; omega)
 exact bodyPost_ret (results_row_tmp rfl _ _ _ _ _ _ _ rfl (setRow_heap _ _ _ _ _ _ p3) Tryz.underlying65 rfl hidt) rfl ⟨_,rfl,⟨⟨vg,vw,_,rfl,HD.out.kept b4,SetsV.nil _⟩⟩,b4⟩
abbrev qC (n:Nat) (vg vw:Value) (wr:Nat) (r:Rt) (vl:Value) (had hint first:Nat) (taken gone:Int):Array Value:=
 #[.int .u32 (n:Int),vg,vw,.bool false,.int .i64 0,.bool false,.int .u64 (wr:Int),.int .u64 (r.gen:Int),.int .u32 (r.size:Int),.int .u32 (r.picks:Int),.int .u32 (r.names:Int),.int .u32 (r.free:Int),.int .u32 (r.next:Int),.int .u32 (r.hint:Int),.int .u8 (r.vols:Int),vl,
  .int .u32 (had:Int),.int .u32 (hint:Int),.int .u32 (first:Int),.int .i64 taken,.int .i64 gone]
theorem infoQ:(Tryz.prog.info? 67).map (fun i=>(i.zero,i.size))=some (some (.agg (qC 0 (.slice none 0 0) (.slice none 0 0) 0 Slt.nil (.slice none 0 0) 0 0 0 0 0)),21):=by kernel_rfl
theorem sizeQ (n:Nat) (vg vw:Value) (wr:Nat) (r:Rt) (vl:Value) (had hint first:Nat) (taken gone:Int):(Tryz.prog.info? 67).map (·.size)=some (qC n vg vw wr r vl had hint first taken gone).size:=(zero_of_info infoQ).2
theorem qC_one (n wr:Nat) (r:Rt) (had hint first:Nat) (taken gone:Int) {vg vw vl:Value} (h1:vg.oneCell'=true) (h2:vw.oneCell'=true) (h3:vl.oneCell'=true):(qC n vg vw wr r vl had hint first taken gone).all (·.oneCell')=true:=by
 simp [qC,Value.oneCell']
 exact ⟨h1,h2,h3⟩
theorem built_q (n:Nat) (vg vw:Value) (wr:Nat) (r:Rt) (vl:Value) (had hint first:Nat):Tryz.prog.built 67 [(0,.agg (dtC n vg vw wr r vl)),(1,.int .u32 (had:Int)),(2,.int .u32 (hint:Int)),(3,.int .u32 (first:Int))]=some (qC n vg vw wr r vl had hint first 0 0):=by kernel_rfl
theorem wpList_build_q {ops:Array Oper} {rest:List Oper} {o:Oper} {ac:Act} {w:World} {Q:Exit→Act→World→Prop} (hgd:o.guard=none) (x0 x1 x2 x3:Operand) (ho:o.op=.build 67 #[(0,x0),(1,x1),(2,x2),(3,x3)]) (n:Nat) (vg vw:Value) (wr:Nat) (r:Rt) (vl:Value) (had hint first:Nat)
  (h0: ac.eval x0=.agg (dtC n vg vw wr r vl)) (h1: ac.eval x1=.int .u32 (had: Int)) (h2: ac.eval x2=.int .u32 (hint: Int)) (h3: ac.eval x3=.int .u32 (first: Int)) (h: wpList Tryz.prog ops Q rest (ac.put o.dst (.agg (qC n vg vw wr r vl had hint first 0 0))) w): wpList Tryz.prog ops Q (o::rest) ac w:=by
 refine wpList_plain hgd fun K hK=>?_
 unfold Oper.wp execOp
 simp only [ho,List.map_toArray,List.map_cons,List.map_nil,h0,h1,h2,h3,Sem.run_bind,Sem.run_pure,run_build w _ _ _ (built_q n vg vw wr r vl had hint first),Result.andThen_ok]
 exact hK _ _ h
structure QT (A:Nat→Prop) (W:World) (v:Value) (x:RS) (r:Rt) (L:List (Nat×Nat)) (had hint first:Nat) (taken gone:Int):Prop where
 as_:∃ vg vw vl,v=.agg (qC x.n vg vw x.wr r vl had hint first taken gone)∧RD A W (.agg (rdC x.n vg vw x.wr)) x∧SetsV A W vl L.length L
theorem QT.kept {W W':World} {v:Value} {x:RS} {r:Rt} {L:List (Nat×Nat)} {had hint first:Nat} {taken gone:Int} (h:QT A W v x r L had hint first taken gone) (hb:Below W.heap.size W W'):QT A W' v x r L had hint first taken gone:=by
 obtain ⟨vg,vw,vl,h1,h2,h3⟩:=h
 exact ⟨⟨vg,vw,vl,h1,h2.kept hb,h3.kept hb⟩⟩
theorem New10_any {w:World} {v:Value} {x:RS} {r:Rt} {L:List (Nat×Nat)} (h:DT A w v x r L) {first:Nat} (h1:first≤r.hint) (h2:r.hint < r.size) :
  Calls Tryz.prog 101 #[v,.agg (cells r),.int .u32 (first:Int)] w fun e w'=>∃ v',e=.returned (.tuple #[v',.int .i64 0])∧QT A w' v' x r L r.free r.hint first 0 0∧Below w.heap.size w w':=by
 have h0:=h
 obtain ⟨vg,vw,vl,rfl,hd,hl⟩:=h
 have hzq:=(zero_of_info infoQ).1
 have hidt:=sizeDT x.n vg vw x.wr r vl
 have hiq:=sizeQ x.n vg vw x.wr r vl r.free r.hint first 0 0
 have hsl:=hd.slices
 have h1c:=qC_one x.n x.wr r r.free r.hint first 0 0 hsl.1 hsl.2 hl.slice
 obtain ⟨W1,hW1⟩:∃ W,W=((w.alloc (.cells (dtC x.n vg vw x.wr r vl) 65)).alloc (.cells (cells r) 31)).alloc (.cells (qC 0 (.slice none 0 0) (.slice none 0 0) 0 Slt.nil (.slice none 0 0) 0 0 0 0 0) 67):=⟨_,rfl⟩
 have b2:Below w.heap.size w W1:=by
  rw [hW1]
  exact (((Below.refl _ _).alloc (Nat.le_refl _) _).alloc (by simp only [World.size_alloc]; omega) _).alloc (by simp only [World.size_alloc]; omega) _
 have q1:W1.heap[w.heap.size]? = some (.cells (dtC x.n vg vw x.wr r vl) 65 (0,0)):=by
  rw [hW1]
  exact (Below.heap_alloc _ _ _ (by simp only [World.size_alloc]; omega)).trans ((Below.heap_alloc _ _ _ (by simp only [World.size_alloc]; omega)).trans (heap_alloc_new w _))
 have q2:W1.heap[w.heap.size+1]? = some (.cells (cells r) 31 (0,0)):=by
  rw [hW1]
  exact (Below.heap_alloc _ _ _ (by simp only [World.size_alloc]; omega)).trans (heap_alloc2_new w _ _)
 have q3:W1.heap[w.heap.size+2]? = some (.cells (qC 0 (.slice none 0 0) (.slice none 0 0) 0 Slt.nil (.slice none 0 0) 0 0 0 0 0) 67 (0,0)):=by
  rw [hW1]
  have:=heap_alloc_new ((w.alloc (.cells (dtC x.n vg vw x.wr r vl) 65)).alloc (.cells (cells r) 31)) (.cells (qC 0 (.slice none 0 0) (.slice none 0 0) 0 Slt.nil (.slice none 0 0) 0 0 0 0 0) 67)
  simpa only [World.size_alloc] using this
 have HD:=Lib.hid (And.intro hd hl)
 clear h0 hd hl hsl
 go_enter Tryz.func101,Tryz.ntmps101
 go_upto_region 1 with fail
 change Code.wp _ _ _ _ (((w.alloc (.cells (dtC x.n vg vw x.wr r vl) 65)).alloc (.cells (cells r) 31)).alloc (.cells (qC 0 (.slice none 0 0) (.slice none 0 0) 0 Slt.nil (.slice none 0 0) 0 0 0 0 0) 67))
 rw [←hW1]
 clear hW1
 obtain ⟨q,hq⟩:∃ q,q=w.heap.size:=⟨_,rfl⟩
 rw [←hq] at q1 q2 q3 ⊢
 have HQ:=Lib.hid hq
 clear hq
 have c1:W1.cell? ⟨q+1,1,none⟩=some (.int .u32 (r.size:Int)):=(cell_of_row W1 (q+1) 1 _ _ _ q2).trans rfl
 have c6:W1.cell? ⟨q+1,6,none⟩=some (.int .u32 (r.hint:Int)):=(cell_of_row W1 (q+1) 6 _ _ _ q2).trans rfl
 have c4:W1.cell? ⟨q+1,4,none⟩=some (.int .u32 (r.free:Int)):=(cell_of_row W1 (q+1) 4 _ _ _ q2).trans rfl
 have c8:W1.cell? ⟨q,8,none⟩=some (.int .u32 (r.size:Int)):=(cell_of_row W1 q 8 _ _ _ q1).trans rfl
 have d1:((r.size:Int) != (r.size:Int))=false:=by simp
 have d2:¬ (r.hint:Int) < (first:Int):=by omega
 have d2':decide (r.hint < first)=false:=decide_eq_false (by omega)
 have d3:¬ (r.size:Int)≤(r.hint:Int):=by omega
 go_wp2_with (first | (refine wpList_load_row rfl 65 _ rfl q rfl _ _ _ _ q1 Tryz.underlying65 rfl hidt ?_) | (refine wpList_build_q rfl _ _ _ _ rfl x.n vg vw x.wr r vl r.free r.hint first rfl rfl rfl rfl ?_) | (refine wpList_store_row rfl 67 _ _ rfl (q+2) _ rfl rfl _ _ q3 hiq rfl h1c ?_))
 have b4:=Dev.below_row (g:=q+2) (cs:=qC x.n vg vw x.wr r vl r.free r.hint first 0 0) b2 (by have:=HQ.out; omega)
 exact bodyPost_ret (results_row_tmp rfl _ _ _ _ _ _ _ rfl (setRow_heap _ _ _ _ _ _ q3) Tryz.underlying67 rfl hiq) rfl ⟨_,rfl,⟨⟨vg,vw,vl,rfl,HD.out.1.kept b4,HD.out.2.kept b4⟩⟩,b4⟩
end Spc
namespace Spc
open Go.RowKit RowLaw
open Dev (ptr DS)
open Cnt (own_slice own_kept own_base own_ne Thing Hall)
open Slt (Rt cells)
variable {A:Nat→Prop}
def inK (K:List (Nat×Obj)) (b:Nat):Prop:=∃ o,(b,o)∈K
def inN (K:List (Nat×Obj)) (B b:Nat):Prop:=inK K b∨B≤b
theorem inN_new (K:List (Nat×Obj)) (B:Nat):∀ b,B≤b→inN K B b:=fun _ h=>.inr h
theorem PutsV.mono {A':Nat→Prop} {W:World} {v:Value} {n:Nat} {xs:List (Nat×List UInt8)} (h:PutsV A W v n xs) (ha:∀ b,A b→A' b):PutsV A' W v n xs:=⟨h.len,h.row,h.ok,fun b e=>ha b (h.own b e)⟩
theorem SetsV.mono {A':Nat→Prop} {W:World} {v:Value} {n:Nat} {xs:List (Nat×Nat)} (h:SetsV A W v n xs) (ha:∀ b,A b→A' b):SetsV A' W v n xs:=⟨h.len,h.row,h.ok,fun b e=>ha b (h.own b e)⟩
theorem RD.mono {A':Nat→Prop} {W:World} {v:Value} {x:RS} (h:RD A W v x) (ha:∀ b,A b→A' b):RD A' W v x:=by
 obtain ⟨⟨vg,vw,e,h1,h2⟩,h3,h4,h5⟩:=h
 exact ⟨⟨vg,vw,e,h1.mono ha,h2.mono ha⟩,h3,h4,h5⟩
theorem DT.mono {A':Nat→Prop} {W:World} {v:Value} {x:RS} {r:Rt} {L:List (Nat×Nat)} (h:DT A W v x r L) (ha:∀ b,A b→A' b):DT A' W v x r L:=by
 obtain ⟨vg,vw,vl,e,h1,h2⟩:=h
 exact ⟨⟨vg,vw,vl,e,h1.mono ha,h2.mono ha⟩⟩
theorem QT.mono {A':Nat→Prop} {W:World} {v:Value} {x:RS} {r:Rt} {L:List (Nat×Nat)} {had hint first:Nat} {taken gone:Int} (h:QT A W v x r L had hint first taken gone) (ha:∀ b,A b→A' b):QT A' W v x r L had hint first taken gone:=by
 obtain ⟨vg,vw,vl,e,h1,h2⟩:=h
 exact ⟨⟨vg,vw,vl,e,h1.mono ha,h2.mono ha⟩⟩
theorem PutsV.over {W W':World} {v:Value} {n:Nat} {xs:List (Nat×List UInt8)} (h:PutsV A W v n xs) (hh:∀ b,A b→W'.heap[b]? = W.heap[b]?):PutsV A W' v n xs:=⟨h.len,Dev.ownsRow_block h.row (fun b hb=>hh b (h.own b hb)),h.ok,h.own⟩
theorem SetsV.over {W W':World} {v:Value} {n:Nat} {xs:List (Nat×Nat)} (h:SetsV A W v n xs) (hh:∀ b,A b→W'.heap[b]? = W.heap[b]?):SetsV A W' v n xs:=⟨h.len,Dev.ownsRow_block h.row (fun b hb=>hh b (h.own b hb)),h.ok,h.own⟩
theorem RD.over {W W':World} {v:Value} {x:RS} (h:RD A W v x) (hh:∀ b,A b→W'.heap[b]? = W.heap[b]?):RD A W' v x:=by
 obtain ⟨⟨vg,vw,e,h1,h2⟩,h3,h4,h5⟩:=h
 exact ⟨⟨vg,vw,e,h1.over hh,h2.over hh⟩,h3,h4,h5⟩
theorem DT.over {W W':World} {v:Value} {x:RS} {r:Rt} {L:List (Nat×Nat)} (h:DT A W v x r L) (hh:∀ b,A b→W'.heap[b]? = W.heap[b]?):DT A W' v x r L:=by
 obtain ⟨vg,vw,vl,e,h1,h2⟩:=h
 exact ⟨⟨vg,vw,vl,e,h1.over hh,h2.over hh⟩⟩
theorem QT.over {W W':World} {v:Value} {x:RS} {r:Rt} {L:List (Nat×Nat)} {had hint first:Nat} {taken gone:Int} (h:QT A W v x r L had hint first taken gone) (hh:∀ b,A b→W'.heap[b]? = W.heap[b]?):QT A W' v x r L had hint first taken gone:=by
 obtain ⟨vg,vw,vl,e,h1,h2⟩:=h
 exact ⟨⟨vg,vw,vl,e,h1.over hh,h2.over hh⟩⟩
section
variable {w W W':World} {l l':List Thing} {K:List (Nat×Obj)}
theorem Hall.same (h:Hall w l K W) (h':Hall w l' K W'):∀ b,inK K b→W'.heap[b]? = W.heap[b]?:=fun _ ⟨_,hb⟩=>(h'.at_ hb).trans (h.at_ hb).symm
theorem Hall.mores (h:Hall w l K W) (hb:Below W.heap.size W W'):∀ {Ks:List (Nat×Obj)},(∀ y∈Ks,W'.heap[y.1]? = some y.2∧W.heap.size≤y.1)→Hall w l (Ks ++ K) W':=fun {Ks} hK=>by
 obtain ⟨h1,f,h2,h3,h4⟩:=h
 have hlt:∀ i,i < l.length→∀ k∈f i,k < W.heap.size:=fun i hi k hk=>(h2 i l[i] (List.getElem?_eq_getElem hi)).1.ltB k hk
 refine ⟨h1.trans (hb.mono h1.size),f,fun i x hi=>⟨(h2 i x hi).1.below hb,(h2 i x hi).2⟩,h3,fun x hx=>?_⟩
 rcases List.mem_append.1 hx with hx | hx
 ·exact ⟨(hK x hx).1,fun i hi hm=>by have:=hlt i hi _ hm; have:=(hK x hx).2; omega⟩
 ·exact ⟨(hb.block _ (Array.getElem?_eq_some_iff.1 (h4 x hx).1).1).trans (h4 x hx).1,(h4 x hx).2⟩
theorem row_new {B base:Nat} {e:TypeId} {size n:Nat} {v:Value} {xs:List Value} (hr:W'.ownsRow base e size v n xs) (ho:∀ b,v.ownBlock=some b→inN K B b) :
  ∃ Ks:List (Nat×Obj),(∀ y∈Ks,W'.heap[y.1]? = some y.2∧B≤y.1)∧∀ b,v.ownBlock=some b→inK (Ks ++ K) b:=by
 rcases hr.2 with ⟨rfl,_⟩ | ⟨g,cap,cur,rfl,_,hg,_⟩
 ·exact ⟨[],(fun y hy=>by cases hy),(fun b e=>by cases e)⟩
 ·rcases ho g rfl with ⟨o,h⟩ | h
  ·exact ⟨[],(fun y hy=>by cases hy),(fun b e=>by cases e; exact ⟨o,h⟩)⟩
  ·refine ⟨[(g,.cells cur e (0,0))],fun y hy=>?_,(fun b e=>by cases e; exact ⟨_,List.mem_cons_self⟩)⟩
   simp only [List.mem_singleton] at hy
   subst hy
   exact ⟨hg,h⟩
theorem inK_left {Ks K2:List (Nat×Obj)} {b:Nat} (h:inK (K2 ++ K) b):inK (Ks ++ K2 ++ K) b:=by
 obtain ⟨o,h⟩:=h
 refine ⟨o,?_⟩
 rw [List.append_assoc]
 exact List.mem_append_right _ h
theorem inK_mid {Ks K2:List (Nat×Obj)} {b:Nat} (h:inK (Ks ++ K) b):inK (Ks ++ K2 ++ K) b:=by
 obtain ⟨o,h⟩:=h
 refine ⟨o,?_⟩
 rcases List.mem_append.1 h with h | h
 ·exact List.mem_append_left _ (List.mem_append_left _ h)
 ·exact List.mem_append_right _ h
theorem PutsV.told {B:Nat} {v:Value} {n:Nat} {xs:List (Nat×List UInt8)} (hp:PutsV (inN K B) W' v n xs):∃ Ks:List (Nat×Obj),(∀ y∈Ks,W'.heap[y.1]? = some y.2∧B≤y.1)∧PutsV (inK (Ks ++ K)) W' v n xs:=by
 obtain ⟨Ks,k1,k2⟩:=row_new hp.row hp.own
 exact ⟨Ks,k1,⟨hp.len,hp.row,hp.ok,k2⟩⟩
theorem RD.told {B:Nat} {v:Value} {x:RS} (hp:RD (inN K B) W' v x):∃ Ks:List (Nat×Obj),(∀ y∈Ks,W'.heap[y.1]? = some y.2∧B≤y.1)∧RD (inK (Ks ++ K)) W' v x:=by
 obtain ⟨⟨vg,vw,e,h1,h2⟩,h3,h4,h5⟩:=hp
 obtain ⟨K1,a1,a2⟩:=row_new h1.row h1.own
 obtain ⟨K2,b1,b2⟩:=row_new h2.row h2.own
 refine ⟨K1 ++ K2,(fun y hy=>?_),⟨⟨vg,vw,e,⟨h1.len,h1.row,h1.ok,fun b e=>inK_mid (a2 b e)⟩,⟨h2.len,h2.row,h2.ok,fun b e=>inK_left (b2 b e)⟩⟩,h3,h4,h5⟩⟩
 rcases List.mem_append.1 hy with hy | hy
 ·exact a1 y hy
 ·exact b1 y hy
theorem DT.told {B:Nat} {v:Value} {x:RS} {r:Rt} {L:List (Nat×Nat)} (hp:DT (inN K B) W' v x r L):∃ Ks:List (Nat×Obj),(∀ y∈Ks,W'.heap[y.1]? = some y.2∧B≤y.1)∧DT (inK (Ks ++ K)) W' v x r L:=by
 obtain ⟨vg,vw,vl,e,⟨⟨ug,uw,e2,h1,h2⟩,h3,h4,h5⟩,h6⟩:=hp
 obtain ⟨K1,a1,a2⟩:=row_new h1.row h1.own
 obtain ⟨K2,b1,b2⟩:=row_new h2.row h2.own
 obtain ⟨K3,c1,c2⟩:=row_new h6.row h6.own
 refine ⟨K3 ++ (K1 ++ K2),(fun y hy=>?_),⟨vg,vw,vl,e,⟨⟨ug,uw,e2,⟨h1.len,h1.row,h1.ok,fun b e=>inK_left (inK_mid (a2 b e))⟩,⟨h2.len,h2.row,h2.ok,fun b e=>inK_left (inK_left (b2 b e))⟩⟩,h3,h4,h5⟩,⟨h6.len,h6.row,h6.ok,fun b e=>inK_mid (c2 b e)⟩⟩⟩
 rcases List.mem_append.1 hy with hy | hy
 ·exact c1 y hy
 ·rcases List.mem_append.1 hy with hy | hy
  ·exact a1 y hy
  ·exact b1 y hy
end
end Spc

end Go.Proofs.YtgkbfahflngklaaGreat
