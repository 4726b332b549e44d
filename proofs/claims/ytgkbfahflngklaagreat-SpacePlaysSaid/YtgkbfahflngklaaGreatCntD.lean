import Derived.Test.YtgkbfahflngklaaGreatCntB
import Derived.Test.YtgkbfahflngklaaGreatCntC
import Derived.Test.YtgkbfahflngklaaGreatTal1
set_option maxRecDepth 100000
set_option maxHeartbeats 6400000
set_option linter.unusedSimpArgs false
namespace Go.Proofs.YtgkbfahflngklaaGreat
namespace Cnt
open Go.RowKit Go.Maps Go.MapKept RowLaw Crc
open Dev (Dev DS ptr Turn Step)
open Rot (planOk tlN pkN fsN)
open Tal (pgCells IsPg)
def differs (T:TD) (p i:Nat):Bool:=decide ((T.now p).getD i 0≠(T.TV p).getD i 0)
def chgTo (T:TD) (p k:Nat):List Nat:=((List.range k).filter (differs T p)).map fun i=>p * 64+i
def chg (T:TD) (p:Nat):List Nat:=chgTo T p 64
theorem chgTo_succ (T:TD) (p k:Nat):chgTo T p (k+1)=if differs T p k=true then chgTo T p k ++ [p * 64+k] else chgTo T p k:=by
 unfold chgTo
 rw [List.range_succ,List.filter_append]
 cases h:differs T p k with
 | true=>simp [h]
 | false=>simp [h]
theorem chgTo_len (T:TD) (p k:Nat):(chgTo T p k).length≤k:=by
 unfold chgTo
 rw [List.length_map]
 exact Nat.le_trans (List.length_filter_le _ _) (by simp)
def chV (p:Nat) (v:Value):Array Value:=#[.int .u32 (p:Int),v]
theorem sizeCh (p:Nat) (v:Value):(Tryz.prog.info? 166).map (·.size)=some (chV p v).size:=by kernel_rfl
theorem zeroCh (W:World):(zeroValue 166).run Tryz.prog W=.ok (.agg (chV 0 (.slice none 0 0))) W:=by kernel_rfl
theorem exec_look {P:Program} {k e ty:TypeId} {o:Oper} {ac:Act} {w:World} {b:Nat} {f:Nat→Option Nat} {m x:Operand} (hop:o.op=Op.lookup ty m x false) (hk:P.underlying k=some (.int .u32)) (ht:P.underlying ty=some (.map k e)) (hz:(zeroValue e).run P w=.ok (.pointer none) w)
  (h:PMap w b f) {a q:Nat} (ha:a < 4294967296) (hf:f a=some q) (hm:ac.eval m=.map (some b)) (hx:ac.eval x=.int .u32 (a:Int)):(execOp ac.eval o).run P w=.ok (.value (.pointer (some ⟨q,0,none⟩))) w:=by
 have hrun:=h.look hk ht hz ha
 rw [hf] at hrun
 unfold pv at hrun
 unfold execOp
 simp only [hop,hm,hx,hrun,Sem.run_bind,Sem.run_pure,Result.andThen_ok]
theorem own_ne {W:World} {base:Nat} {e T:TypeId} {size:Nat} {v:Value} {n:Nat} {xs:List Value} {j:Nat} {cs:Array Value} {fr:Nat×Nat} (h:W.ownsRow base e size v n xs) (hj:W.heap[j]? = some (.cells cs T fr)) (hne:T≠e):some j≠v.ownBlock:=fun he=>by
 rcases h.2 with ⟨rfl,_⟩ | ⟨g,cap,cur,rfl,_,hg,_⟩
 ·cases he
 ·simp only [Value.ownBlock,Option.some.injEq] at he
  rw [←he,hj] at hg
  injection hg with hg
  injection hg with _ hg
  exact hne hg
theorem chV_one (p:Nat) {v:Value} (h:v.oneCell'=true):(chV p v).all (·.oneCell')=true:=by
 simp only [chV,List.all_toArray,List.all_cons,List.all_nil,h]
 rfl
theorem own_one {W:World} {base:Nat} {e:TypeId} {size:Nat} {v:Value} {n:Nat} {xs:List Value} (h:W.ownsRow base e size v n xs):v.oneCell'=true:=by
 rcases h.2 with ⟨rfl,_⟩ | ⟨g,cap,cur,rfl,_⟩ <;> rfl
section
variable {w:World} {t bp bt bc:Nat} {fp ft fc:Nat→Option Nat} {B C:List Nat} {T:TD} {s:DS}
theorem change_any (hT:TabAt w t bp bt bc fp ft fc B T) {k:Nat} {ns:List Nat} (hc:T.C k=some ns) :
    Calls Tryz.prog 153 #[ptr t,.int .u32 (k:Int)] w fun e w'=>∃ v,e=.returned (.agg (chV k v))∧w'.ownsRow w.heap.size 22 1 v (chg T k).length ((chg T k).map encN)∧Below w.heap.size w w':=by
  obtain ⟨q7,hf7,hp7⟩:=hT.fc_some hc
  obtain ⟨q6,hf6⟩:=hT.has k q7 hf7
  obtain ⟨hp6,hB6⟩:=hT.pt k q6 hf6
  obtain ⟨_,hB7⟩:=hT.pc k q7 hf7
  have hkn:=hT.ok.ck k ns hc
  obtain ⟨n1,n2⟩:=plan_of hT.ok.plan
  have npl:=Rot.plan_facts n1 n2
  have hk16:k < 16384:=by omega
  have hk32:k < 4294967296:=by omega
  have hlo:=hT.ok.tl k
  have hln:=(hT.ok.now k).1
  have hnow:=now_some hc
  rw [←hnow] at hp7
  obtain ⟨i0,hi,hz0,hz1,hz2⟩:=info_parts info32
  have hzc:=zeroCh
  have HC7:Hid (∀ W,Below w.heap.size w W→∀ j,j < 64→W.cell? ⟨q7,1+j,none⟩=some (.int .u16 ((T.now k).getD j 0:Int))):=Lib.hid (fun W hW j hj=>by
    have h1:IsPg .u16 137 W q7 k (T.now k):=(hW.block q7 (hT.ltB q7 hB7)).trans hp7
    rw [h1.num j (by omega),List.getD_eq_getElem?_getD,List.getElem?_eq_getElem (by omega)]
    rfl)
  have HC6:Hid (∀ W,Below w.heap.size w W→∀ j,j < 64→W.cell? ⟨q6,1+j,none⟩=some (.int .u16 ((T.TV k).getD j 0:Int))):=Lib.hid (fun W hW j hj=>by
    have h1:IsPg .u16 137 W q6 k (T.TV k):=(hW.block q6 (hT.ltB q6 hB6)).trans hp6
    rw [h1.num j (by omega),List.getD_eq_getElem?_getD,List.getElem?_eq_getElem (by omega)]
    rfl)
  have hlt:t < w.heap.size:=hT.ltB t hT.inB.1
  have h4:(w.alloc (.cells (chV 0 (.slice none 0 0)) 166)).heap[w.heap.size]? = some (.cells (chV 0 (.slice none 0 0)) 166 (0,0)):=heap_alloc_new w _
  have hT1:=hT.alloc (.cells (chV 0 (.slice none 0 0)) 166)
  have hb1:Below w.heap.size w (w.alloc (.cells (chV 0 (.slice none 0 0)) 166)):=(Below.refl _ _).alloc (Nat.le_refl _) _
  have HTo:=Lib.hid (chgTo_succ T k)
  have HTl:=Lib.hid (chgTo_len T k)
  have HZ:Hid (chgTo T k 0=[]):=Lib.hid rfl
  have HE:Hid (chg T k=chgTo T k 64):=Lib.hid rfl
  have HD:Hid (∀ i,differs T k i=decide ((T.now k).getD i 0≠(T.TV k).getD i 0)):=Lib.hid (fun _=>rfl)
  clear hp6 hp7 hlo hln hnow hB6 hB7 hkn n1 n2 npl hc hT
  unfold ptr
  go_enter Tryz.func153,Tryz.ntmps153
  go_upto_region 1 with fail
  change Code.wp _ _ _ _ (w.alloc (.cells (chV 0 (.slice none 0 0)) 166))
  obtain ⟨b4,hb4⟩:∃ b4,b4=w.heap.size:=⟨_,rfl⟩
  have hge4:w.heap.size≤b4:=by omega
  rw [←hb4] at h4
  rw [←hb4]
  clear hb4
  generalize w.alloc (.cells (chV 0 (.slice none 0 0)) 166)=W1 at h4 hT1 hb1 ⊢
  have h4':(W1.alloc (.cells (chV k (.slice none 0 0)) 166)).heap[b4]? = some (.cells (chV 0 (.slice none 0 0)) 166 (0,0)):=(Below.heap_alloc _ _ b4 (Array.getElem?_eq_some_iff.1 h4).1).trans h4
  have h5:(W1.alloc (.cells (chV k (.slice none 0 0)) 166)).heap[W1.heap.size]? = some (.cells (chV k (.slice none 0 0)) 166 (0,0)):=heap_alloc_new W1 _
  have n45:b4≠W1.heap.size:=fun e=>by have:=(Array.getElem?_eq_some_iff.1 h4).1; omega
  have hT2:=hT1.alloc (.cells (chV k (.slice none 0 0)) 166)
  have hb2:Below w.heap.size w (W1.alloc (.cells (chV k (.slice none 0 0)) 166)):=hb1.alloc hb1.size _
  have hge5:w.heap.size≤W1.heap.size:=hb1.size
  clear h4 hT1 hb1
  have tok:True:=trivial
  go_upto_region 2 with (have _t:=tok; refine wpList_store_new rfl 166 _ _ rfl (chV k (.slice none 0 0)) _ _ rfl rfl (sizeCh _ _) rfl (by simp [chV,Value.oneCell']) ?_; change wpList _ _ _ _ _ (W1.alloc (.cells (chV k (.slice none 0 0)) 166)); clear _t tok)
  change Code.wp _ _ _ _ (W1.alloc (.cells (chV k (.slice none 0 0)) 166))
  generalize W1.heap.size=b5 at h5 n45 hge5 ⊢
  generalize W1.alloc (.cells (chV k (.slice none 0 0)) 166)=W2 at h4' h5 hT2 hb2 ⊢
  have hS:(W2.drew.cell? ⟨t,6,none⟩=some (.map (some bt))∧W2.drew.cell? ⟨t,7,none⟩=some (.map (some bc)))∧PMap W2.drew bt ft∧PMap W2.drew bc fc:=⟨⟨(hT2.drew.cell 6).trans rfl,(hT2.drew.cell 7).trans rfl⟩,hT2.drew.mt,hT2.drew.mc⟩
  have h4d:W2.drew.heap[b4]? = some (.cells (chV 0 (.slice none 0 0)) 166 (0,0)):=h4'
  have h5d:W2.drew.heap[b5]? = some (.cells (chV k (.slice none 0 0)) 166 (0,0)):=h5
  have hbd:Below w.heap.size w W2.drew:=⟨hb2.os,hb2.tape,hb2.output,hb2.size,hb2.block⟩
  clear h4' h5 hT2 hb2
  refine wp_region_noPanic ?_
  refine wp_region_held_drew (S:=fun W=>(W.cell? ⟨t,6,none⟩=some (.map (some bt))∧W.cell? ⟨t,7,none⟩=some (.map (some bc)))∧PMap W bt ft∧PMap W bc fc) (by kernel_rfl) hS ?_
  intro hS
  generalize W2.drew=V at hS h4d h5d hbd ⊢
  refine RowLaw.tkV 0 11 (.pointer (some ⟨t,0,none⟩)) hS ?_
  simp only [RowLaw.lset]
  refine RowLaw.tkV 1 12 (.pointer (some ⟨t,0,none⟩)) hS ?_
  simp only [RowLaw.lset]
  refine RowLaw.tkV 2 13 (.pointer (some ⟨t,6,none⟩)) hS ?_
  simp only [RowLaw.lset]
  refine RowLaw.tkV 3 14 (.map (some bt)) hS ?_ (hy:=(Or.inl ⟨by rfl,fun w hw=>by have c:=hw.1.1; go_simp⟩))
  simp only [RowLaw.lset]
  refine RowLaw.tkV 4 15 (.int .u32 (k:Int)) hS ?_
  simp only [RowLaw.lset]
  refine RowLaw.tkV 5 16 (.pointer (some ⟨q6,0,none⟩)) hS ?_ (hy:=(Or.inl ⟨by rfl,fun W hw=>exec_look rfl Tryz.underlying22 Tryz.underlying157 (zeroT _) hw.2.1 hk32 hf6 rfl rfl⟩))
  simp only [RowLaw.lset]
  refine RowLaw.tkV 6 17 (.pointer (some ⟨t,0,none⟩)) hS ?_
  simp only [RowLaw.lset]
  refine RowLaw.tkV 7 18 (.pointer (some ⟨t,0,none⟩)) hS ?_
  simp only [RowLaw.lset]
  refine RowLaw.tkV 8 19 (.pointer (some ⟨t,7,none⟩)) hS ?_
  simp only [RowLaw.lset]
  refine RowLaw.tkV 9 20 (.map (some bc)) hS ?_ (hy:=(Or.inl ⟨by rfl,fun w hw=>by have c:=hw.1.2; go_simp⟩))
  simp only [RowLaw.lset]
  refine RowLaw.tkV 10 21 (.int .u32 (k:Int)) hS ?_
  simp only [RowLaw.lset]
  refine RowLaw.tkV 11 22 (.pointer (some ⟨q7,0,none⟩)) hS ?_ (hy:=(Or.inl ⟨by rfl,fun W hw=>exec_look rfl Tryz.underlying22 Tryz.underlying157 (zeroT _) hw.2.2 hk32 hf7 rfl rfl⟩))
  simp only [RowLaw.lset]
  refine RowLaw.tkV 12 6 (.pointer (some ⟨q6,0,none⟩)) hS ?_
  simp only [RowLaw.lset]
  refine RowLaw.tkV 13 7 (.pointer (some ⟨q7,0,none⟩)) hS ?_
  simp only [RowLaw.lset]
  clear hS
  refine wpAnyH_done (by kernel_rfl) ?_ _
  refine NoPanic.normal ?_
  have HF4:=Lib.hid h4d
  have hp5:∃ v,V.heap[b5]? = some (.cells (chV k v) 166 (0,0))∧V.ownsRow w.heap.size 22 1 v (chgTo T k 0).length ((chgTo T k 0).map encN):=⟨_,h5d,by rw [HZ.out]; exact World.ownsRow_nil _ _ _ _⟩
  clear h5d h4d HZ
  go_wp2_with fail
  go_loopw [23] (fun i wr=>∃ j:Nat,j≤64∧i=.int .i64 j∧Below w.heap.size w wr∧wr.heap[b4]? = some (.cells (chV 0 (.slice none 0 0)) 166 (0,0))∧∃ v,wr.heap[b5]? = some (.cells (chV k v) 166 (0,0))∧wr.ownsRow w.heap.size 22 1 v (chgTo T k j).length ((chgTo T k j).map encN)) (fun i _=>64 - (intOf i).toNat)
  case atStart=>exact ⟨0,by omega,rfl,hbd,HF4.out,hp5⟩
  case round=>
    clear hbd HF4 hp5
    obtain ⟨j,hj,rfl,hb,h4,v,h5,hrow⟩:=hrel
    by_cases hlt:j < 64
    · have c7:=HC7.out wr hb j hlt
      have c6:=HC6.out wr hb j hlt
      have hto:=HTo.out j
      have hdf:=HD.out j
      have hll:=HTl.out j
      have j0:(0:Int)≤(j:Int):=by omega
      have j1:(j:Int) < 64:=by omega
      generalize (T.now k).getD j 0=a at c7 hdf
      generalize (T.TV k).getD j 0=b at c6 hdf
      generalize differs T k j=df at hto hdf
      generalize chgTo T k j=l at hto hll hrow
      have HTO:=Lib.hid hto
      clear hto
      by_cases hab:a=b
      · have d0:((a:Int) != (b:Int))=false:=by simp [hab]
        have hd0:df=false:=by rw [hdf]; simp [hab]
        have HDF:=Lib.hid hd0
        clear hab hdf hd0
        go_wp2_with fail
        go_quiet (fail)
        go_wp2_with fail
        go_roundw
        case rel=>exact ⟨j+1,by omega,by go_num,⟨hb.os,hb.tape,hb.output,hb.size,hb.block⟩,h4,v,h5,by rw [HTO.out,HDF.out,if_neg (by simp)]; exact hrow⟩
        case measure=>simp [intOf]; omega
      · have d0:((a:Int) != (b:Int))=true:=by rw [bne_iff_ne]; omega
        have hd0:df=true:=by rw [hdf]; exact decide_eq_true hab
        have HDF:=Lib.hid hd0
        clear hab hdf hd0
        go_wp2_with fail
        go_quiet (fail)
        have hbW:Below w.heap.size w (wr.drewN nq):=⟨hb.os,hb.tape,hb.output,hb.size,hb.block⟩
        have h4W:(wr.drewN nq).heap[b4]? = some (.cells (chV 0 (.slice none 0 0)) 166 (0,0)):=h4
        have h5W:(wr.drewN nq).heap[b5]? = some (.cells (chV k v) 166 (0,0)):=h5
        have hrowW:(wr.drewN nq).ownsRow w.heap.size 22 1 v l.length (l.map encN):=hrow
        generalize wr.drewN nq=W at hbW h4W h5W hrowW ⊢
        clear hb h4 h5 hrow c6 c7
        have c5:W.cell? ⟨b5,1,none⟩=some v:=(cell_of_row W b5 1 _ _ _ h5W).trans rfl
        have hrow2:=World.ownsRow.alloc hrowW (.cells #[.int .u32 ((k:Int) * 64+(j:Int))] 22)
        have n4:=own_ne hrowW h4W (by decide)
        have n5:=own_ne hrowW h5W (by decide)
        have H4:=Lib.hid h4W; have H5:=Lib.hid h5W; have HBW:=Lib.hid hbW; have HR2:=Lib.hid hrow2; have HN4:=Lib.hid n4; have HN5:=Lib.hid n5
        have hlt4:b4 < W.heap.size:=(Array.getElem?_eq_some_iff.1 h4W).1
        have hlt5:b5 < W.heap.size:=(Array.getElem?_eq_some_iff.1 h5W).1
        clear h4W h5W hbW hrow2 hrowW n4 n5
        go_wp2_with (at_builtin; refine wpList_append_own _ rfl _ _ 56 rfl w.heap.size 22 i0 (.int .u32 0) 1 4 Tryz.underlying56 hi hz0 hz1 hz2 rfl (by decide) v l.length (l.map encN) rfl HR2.out ⟨W.heap.size,0,none⟩ 1 1 [.int .u32 ((k:Int) * 64+(j:Int))] rfl rfl (cell_one_new _ _ _) (by simp [Value.oneCell']) (Nat.le_trans (show l.length+1≤65 by omega) (by decide)) (by omega) (by have:=HBW.out.size; simp; omega) ?_; intro v' w1 hown' hgrow _; obtain ⟨g',cap',rfl⟩:=ownsRow_succ hown'; have h5a:w1.heap[b5]? = some (.cells (chV k v) 166 (0,0)):=((hgrow.block b5 (by simp; omega) HN5.out).trans (Below.heap_alloc _ _ b5 hlt5)).trans H5.out; have c5a:w1.cell? ⟨b5,1,none⟩=some v:=(cell_of_row w1 b5 1 _ _ _ h5a).trans rfl; have f5a:w1.frozen? ⟨b5,1,none⟩=false:=frozen_of_row w1 b5 1 _ _ h5a; have HG:Hid ((W.alloc (.cells #[.int .u32 ((k:Int) * 64+(j:Int))] 22)).grownBy w1 v.ownBlock):=Lib.hid hgrow; have HO:=Lib.hid hown'; have H5A:=Lib.hid h5a; clear hgrow hown' h5a)
        go_roundw
        case rel=>
          have h4a:w1.heap[b4]? = some (.cells (chV 0 (.slice none 0 0)) 166 (0,0)):=((HG.out.block b4 (by simp; omega) HN4.out).trans (Below.heap_alloc _ _ b4 hlt4)).trans H4.out
          have hb1:Below w.heap.size w w1:=(HBW.out.alloc HBW.out.size _).grown HG.out (by have:=HBW.out.size; simp; omega) (fun x e=>(HR2.out.lt x e).1)
          have ne5:=own_ne HO.out H5A.out (by decide)
          refine ⟨j+1,by omega,by go_num,hb1.setCell (p:=⟨b5,1,none⟩) hge5 _,(heap_setCell_other w1 _ _ _ n45).trans h4a,_,heap_setCell_same w1 b5 1 _ _ _ H5A.out,?_⟩
          rw [HTO.out,if_pos HDF.out,List.map_append,List.length_append]
          exact Dev.ownsRow_block HO.out (fun x hx=>heap_setCell_other w1 _ _ _ (fun e=>ne5 (by rw [hx,e])))
        case measure=>simp [intOf]; omega
    · obtain rfl:j=64:=by omega
      have c5:wr.cell? ⟨b5,1,none⟩=some v:=(cell_of_row wr b5 1 _ _ _ h5).trans rfl
      rw [←HE.out] at hrow
      clear HC6 HC7 HTo HTl HD HE
      have tok:True:=trivial
      go_wp2_with (first
        | (refine wpList_load_row rfl 166 _ rfl b5 rfl _ _ _ _ h5 Tryz.underlying166 rfl (sizeCh _ _) ?_)
        | (have _t:=tok; refine wpList_store_row rfl 166 _ _ rfl b4 _ rfl rfl _ _ h4 (sizeCh _ _) rfl (chV_one k (own_one hrow)) ?_; clear _t tok))
      refine bodyPost_ret (v:=.agg (chV k v)) ?_ rfl ⟨v,rfl,?_,below_row hb hge4⟩
      · exact results_cell_row rfl _ _ _ _ _ _ _ rfl (setRow_heap wr _ _ _ _ _ h4) Tryz.underlying166 rfl (sizeCh _ _)
      · exact Dev.ownsRow_block hrow (fun x hx=>setRow_other wr _ _ _ (fun e=>own_ne hrow h4 (by decide) (by rw [hx,e])))
end
end Cnt
namespace Cnt
open Go.RowKit Go.Maps Go.MapKept RowLaw Crc
open Dev (Dev DS ptr Turn Step)
theorem own_slice {W:World} {base:Nat} {e:TypeId} {size:Nat} {v:Value} {n:Nat} {xs:List Value} (h:W.ownsRow base e size v n xs):∃ pk ck,v=.slice pk n ck∧∀ j u,xs[j]? = some u→j < n * size→∃ g,pk=some ⟨g,0,none⟩∧W.cell? ⟨g,j,none⟩=some u:=by
 rcases h.2 with ⟨rfl,rfl⟩ | ⟨g,cap,cur,rfl,_,hg,_⟩
 ·exact ⟨none,0,rfl,fun j u hu hj=>by omega⟩
 ·refine ⟨some ⟨g,0,none⟩,cap,rfl,fun j u hu hj=>⟨g,rfl,?_⟩⟩
  rw [h.cellAt j hj,hu]
theorem own_base {W:World} {base base':Nat} {e:TypeId} {size:Nat} {v:Value} {n:Nat} {xs:List Value} (h:W.ownsRow base e size v n xs) (hb:base'≤base):W.ownsRow base' e size v n xs:=by
 obtain ⟨h1,h2⟩:=h
 refine ⟨h1,?_⟩
 rcases h2 with h2 | ⟨g,cap,cur,rfl,h3,h4⟩
 ·exact .inl h2
 ·exact .inr ⟨g,cap,cur,rfl,Nat.le_trans hb h3,h4⟩
theorem own_kept {W W':World} {base:Nat} {e:TypeId} {size:Nat} {v:Value} {n:Nat} {xs:List Value} (h:W.ownsRow base e size v n xs) (hb:Below W.heap.size W W'):W'.ownsRow base e size v n xs:=
 Dev.ownsRow_block h (fun k hk=>hb.block k (h.lt k hk).2)
theorem own_grown {W W':World} {base base':Nat} {e e':TypeId} {size size':Nat} {v v':Value} {n n':Nat} {xs xs':List Value} (h:W.ownsRow base e size v n xs) (h':W.ownsRow base' e' size' v' n' xs') (hne:e≠e') (hg:W.grownBy W' v'.ownBlock):W'.ownsRow base e size v n xs:=
 Dev.ownsRow_block h (fun k hk=>hg.block k (h.lt k hk).2 (by
  rcases h.2 with ⟨rfl,_⟩ | ⟨g,cap,cur,rfl,_,hgb,_⟩
  ·cases hk
  ·simp only [Value.ownBlock,Option.some.injEq] at hk
   exact own_ne h' (hk ▸ hgb) hne))
def chCells (L:List (Nat×Value)):List Value:=L.flatMap fun x=>[.int .u32 (x.1:Int),x.2]
theorem chCells_app (L M:List (Nat×Value)):chCells (L ++ M)=chCells L ++ chCells M:=by simp [chCells]
structure ChL (W:World) (base:Nat) (v:Value) (L:List (Nat×Value)) (G:Nat→List Nat):Prop where
 row:W.ownsRow base 166 2 v L.length (chCells L)
 each:∀ x∈L,W.ownsRow base 22 1 x.2 (G x.1).length ((G x.1).map encN)
theorem ChL.kept {W W':World} {base:Nat} {v:Value} {L:List (Nat×Value)} {G:Nat→List Nat} (h:ChL W base v L G) (hb:Below W.heap.size W W'):ChL W' base v L G:=⟨own_kept h.row hb,fun x hx=>own_kept (h.each x hx) hb⟩
theorem infoCh:(Tryz.prog.info? 166).map (fun i=>(i.zero,i.size,i.bytes))=some (some (.agg (chV 0 (.slice none 0 0))),2,32):=by kernel_rfl
theorem wp_scope_loop {P:Program} {a:Act} {w:World} {Q:Exit→Act→World→Prop} {c X:Code} (l:Nat) (J:Act→World→Prop) (μ:Act→World→Nat) (hf:findLabel c l=some (Code.skip.seq X))
  (pass:∀ a w,J a w→X.wp P (Exit.jump l (fun a' w'=>J a' w'∧μ a' w' < μ a w) Q) a w)
  (first:(∀ a w,J a w→X.wp P (Exit.jump l J Q) a w)→c.wp P (Exit.jump l J Q) a w):(Code.scope c).wp P Q a w:=
 wp_scope_jumps l J μ hf (first fun a w h=>Code.wp_mono (fun e a' w' he=>by
  cases e with
  | goto l'=>exact ⟨he.1,he.2.1⟩
  | _=>exact he) (pass a w h)) (fun a w h=>wp_seq (wp_skip (pass a w h)))
def lenV:Value→Nat
 | .slice _ n _=>n
 | _=>0
def ChJ (w:World) (t bc:Nat) (T:TD) (a':Act) (w':World):Prop:=
 ∃ (pk:Option Addr) (n ck:Nat) (ks:List Nat) (j:Nat) (L:List (Nat×Value)) (v3 u6 u13 u14 u15 u16 u17 u18 u19 u20 u21 u22 u23 u24 u25 u26 u27 u28 u29 u30 u31 u32 u33:Value),
  a'={ tmps:=List.toArray (.pointer (some ⟨t,0,none⟩)::undef::.slice none 0 0::v3::.slice pk n ck::.int .i64 (j: Int)::u6::.pointer (some ⟨t,0,none⟩)::.pointer (some ⟨t,0,none⟩)::.pointer (some ⟨t,7,none⟩)::.map (some bc)::keysF w.heap.size::.slice pk n ck::u13::u14::u15::u16::u17::u18::u19::u20::u21::u22::u23::u24::u25::u26::u27::u28::u29::u30::u31::u32::u33::[]),defers:=[] }∧
  j≤n∧Below w.heap.size w w'∧w'.ownsRow w.heap.size 22 1 (.slice pk n ck) n (ks.map encN)∧ChL w' w.heap.size v3 L (chg T)∧
  Hid (n=ks.length∧ks.Pairwise (· < ·)∧(∀ a,a∈ks↔(T.C a).isSome=true)∧L.map (·.1)=(ks.take j).filter (fun p=>decide (chg T p≠[])))
section
variable {w:World} {t bp bt bc:Nat} {fp ft fc:Nat→Option Nat} {B C:List Nat} {T:TD} {s:DS}
theorem TabAt.keys (h:TabAt w t bp bt bc fp ft fc B T) (a:Nat):(fc a).isSome=true↔(T.C a).isSome=true:=by
 cases hc:T.C a with
 | none=>rw [h.fc_none hc]; simp
 | some ns=>obtain ⟨q,hq,_⟩:=h.fc_some hc; rw [hq]; simp
theorem changes_any {N:Nat} (hS:SortOk N) (hT:TabAt w t bp bt bc fp ft fc B T) (hN:∀ ss:List Nat,ss.Nodup→(∀ a,a∈ss↔(T.C a).isSome=true)→ss.length≤N) :
    Calls Tryz.prog 75 #[ptr t] w fun e w'=>∃ (v:Value) (L:List (Nat×Value)) (ks:List Nat),e=.returned v∧ks.Pairwise (· < ·)∧(∀ a,a∈ks↔(T.C a).isSome=true)∧L.map (·.1)=ks.filter (fun p=>decide (chg T p≠[]))∧
      ChL w' w.heap.size v L (chg T)∧Below w.heap.size w w':=by
  have c7:w.cell? ⟨t,7,none⟩=some (.map (some bc)):=(hT.cell 7).trans rfl
  have hkeys:=fun a=>hT.keys a
  have hmc:=hT.mc
  have hmc1:PMap (w.alloc (.cells #[.map (some bc)] 157)) bc fc:=hmc.kept (Below.heap_alloc _ _ _ hmc.lt)
  have hq1:(w.alloc (.cells #[.map (some bc)] 157)).cell? ⟨w.heap.size,0,none⟩=some (.map (some bc)):=(cell_of_row _ _ 0 _ _ _ (heap_alloc_new w _)).trans rfl
  have hK:=keys_any bc w
  have hSo:=Sorted_any hS hmc1 hq1 (by simp) (fun ss h1 h2=>hN ss h1 (fun a=>by rw [h2,hkeys]))
  have HT:=Lib.hid hT
  have HK:=Lib.hid hK
  have HSo:=Lib.hid hSo
  have HKEYS:=Lib.hid hkeys
  clear hT hkeys hmc hmc1 hq1 hK hSo hS hN
  unfold ptr
  go_enter Tryz.func75,Tryz.ntmps75
  go_wp2_with fail
  refine wp_scope_loop 0 (ChJ w t bc T) (fun a' _=>lenV (a'.tmps.getD 4 undef) - (intOf (a'.tmps.getD 5 undef)).toNat) rfl ?_ ?_
  · rintro a' w1 ⟨pk,n,ck,ks,j,L,v3,u6,u13,u14,u15,u16,u17,u18,u19,u20,u21,u22,u23,u24,u25,u26,u27,u28,u29,u30,u31,u32,u33,rfl,hj,hb,hrow,hL,HI⟩
    obtain ⟨hn,hpw,hmem,hLk⟩:=HI.out
    have HT:=HT.out
    have hsm:∀ x∈ks,x < 16384:=fun x hx=>by
      obtain ⟨ns,hns⟩:=Option.isSome_iff_exists.1 ((hmem x).1 hx)
      have h1:=HT.ok.ck x ns hns
      obtain ⟨n1,n2⟩:=plan_of HT.ok.plan
      have h2:=Rot.plan_facts n1 n2
      omega
    have hks:ks.length≤16384:=nodup_len 16384 ks (hpw.imp fun h=>Nat.ne_of_lt h) hsm
    have hn16:n≤16384:=by rw [hn]; exact hks
    have hLl:L.length≤j:=by
      have:=congrArg List.length hLk
      rw [List.length_map] at this
      rw [this]
      exact Nat.le_trans (List.length_filter_le _ _) (by rw [List.length_take]; omega)
    by_cases hlt:j < n
    · have hjl:j < ks.length:=by omega
      obtain ⟨pk',ck',he,hcell⟩:=own_slice hrow
      cases he
      obtain ⟨g,rfl,cj⟩:=hcell j (encN ks[j]) (by simp [hjl]) (by omega)
      obtain ⟨ns,hns⟩:=Option.isSome_iff_exists.1 ((hmem ks[j]).1 (List.getElem_mem hjl))
      have hch:=change_any (HT.below hb) hns
      have htk:=List.take_succ_eq_append_getElem hjl
      have hk16:=hsm _ (List.getElem_mem hjl)
      obtain ⟨k,hk⟩:∃ k,k=ks[j]:=⟨_,rfl⟩
      rw [←hk] at cj hch htk hk16
      have hLs:∀ M:List (Nat×Value),(M.map (·.1)=if chg T k≠[] then [k] else [])→(L ++ M).map (·.1)=(ks.take (j+1)).filter (fun p=>decide (chg T p≠[])):=fun M hM=>by
        rw [htk,List.filter_append,List.map_append,hLk,hM]
        congr 1
        by_cases h0:chg T k=[] <;> simp [h0]
      have HLS:=Lib.hid hLs; have HCH:=Lib.hid hch; have HF:=Lib.hid (show n=ks.length∧ks.Pairwise (· < ·)∧(∀ a,a∈ks↔(T.C a).isSome=true) from ⟨hn,hpw,hmem⟩)
      have i0:(0:Int)≤(j:Int):=by omega
      have i1:(j:Int) < (n:Int):=by omega
      have z1:IntKind.i64.wrap ((j:Int)+1)=(j:Int)+1:=IntWalk.i64_in _ (by omega)
      clear hLs hch hns hn hpw hmem hLk htk hk hsm hjl hcell HI HK HSo HKEYS c7 HT
      unfold ptr at HCH
      go_wp2_with fail
      refine HCH.out.mono ?_
      clear HCH
      rintro e W2 ⟨v,rfl,hown,hx⟩
      have hb2:=hb.trans (hx.mono hb.size)
      have hrow2:=own_kept hrow hx
      have hL2:=hL.kept hx
      have hown2:=own_base hown hb.size
      clear hb hrow hL hx hown cj
      obtain ⟨pv',cv,rfl,_⟩:=own_slice hown2
      obtain ⟨v,hv⟩:∃ v,v=Value.slice pv' (chg T k).length cv:=⟨_,rfl⟩
      have hone:=chV_one k (own_one hown2)
      rw [←hv] at hown2 hone ⊢
      have hb3:=hb2.alloc hb2.size (.cells (chV k v) 166)
      have hrow3:=World.ownsRow.alloc hrow2 (.cells (chV k v) 166)
      have hL3:=hL2.kept ((Below.refl _ _).alloc (Nat.le_refl _) (.cells (chV k v) 166))
      have hown3:=World.ownsRow.alloc hown2 (.cells (chV k v) 166)
      have h6:(W2.alloc (.cells (chV k v) 166)).heap[W2.heap.size]? = some (.cells (chV k v) 166 (0,0)):=heap_alloc_new W2 _
      have HV:=Lib.hid hv
      clear hb2 hrow2 hL2 hown2 hv
      have hzc:=zeroCh
      have tok:True:=trivial
      go_upto_region 6 with (have _t:=tok; refine wpList_store_new rfl 166 _ _ rfl (chV k v) _ _ rfl rfl (sizeCh _ _) rfl hone ?_; change wpList _ _ _ _ _ (W2.alloc (.cells (chV k v) 166)); clear _t tok)
      change Code.wp _ _ _ _ (W2.alloc (.cells (chV k v) 166))
      generalize W2.heap.size=b6 at h6 ⊢
      generalize W2.alloc (.cells (chV k v) 166)=W3 at h6 hb3 hrow3 hL3 hown3 ⊢
      clear hzc
      have c6:W3.cell? ⟨b6,1,none⟩=some (.slice pv' (chg T k).length cv):=by rw [←HV.out]; exact (cell_of_row W3 b6 1 _ _ _ h6).trans rfl
      by_cases h0:chg T k=[]
      · have hz:(chg T k).length=0:=by rw [h0]; rfl
        have hM:=HLS.out [] (by simp [h0])
        rw [List.append_nil] at hM
        have HM:=Lib.hid hM
        rw [hz] at c6
        clear hM h0 hz hown3 HLS
        go_wp2_with fail
        go_step3
        refine ⟨rfl,⟨some ⟨g,0,none⟩,n,ck,ks,j+1,L,v3,_,_,_,_,_,_,_,_,_,_,_,_,_,_,_,_,_,_,_,_,_,_,by go_num,by omega,hb3,hrow3,hL3,Lib.hid ⟨HF.out.1,HF.out.2.1,HF.out.2.2,HM.out⟩⟩,?_⟩
        simp [intOf,lenV]
        omega
      · have hz:(((chg T k).length:Int) != 0)=true:=by
          rw [bne_iff_ne]
          have:(chg T k).length≠0:=fun e=>h0 (List.eq_nil_of_length_eq_zero e)
          omega
        have hM:=HLS.out [(k,v)] (by simp [h0])
        have HM:=Lib.hid hM
        clear hM h0 HLS
        obtain ⟨ik,hik0,hik1,hik2,hik3⟩:=info_parts infoCh
        have hsz:(chV k v).size=2:=rfl
        have hrowA:=World.ownsRow.alloc hL3.row (.cells (chV k v) 166)
        have hrow4:=World.ownsRow.alloc hrow3 (.cells (chV k v) 166)
        have hL4:=hL3.kept ((Below.refl _ _).alloc (Nat.le_refl _) (.cells (chV k v) 166))
        have hown4:=World.ownsRow.alloc hown3 (.cells (chV k v) 166)
        have hb4:=hb3.alloc hb3.size (.cells (chV k v) 166)
        have HRA:=Lib.hid hrowA; have HR4:=Lib.hid hrow4; have HL4:=Lib.hid hL4; have HO4:=Lib.hid hown4; have HB4:=Lib.hid hb4
        have HNW:=Lib.hid (Dev.new_cells W3 [.int .u32 (k:Int),v] 166)
        have HONE:Hid (∀ u∈([.int .u32 (k:Int),v]:List Value),u.oneCell'=true):=Lib.hid (fun u hu=>by
          simp only [List.mem_cons,List.not_mem_nil,or_false] at hu
          rcases hu with rfl | rfl
          · rfl
          · exact own_one hown3)
        clear hrowA hrow3 hL3 hown3 hb3 hrow4 hL4 hown4 hb4 hone
        go_wp2_with (first
          | (refine wpList_load_row rfl 166 _ rfl b6 rfl _ _ _ _ h6 Tryz.underlying166 rfl (sizeCh _ _) ?_)
          | (at_builtin; refine wpList_append_own _ rfl _ _ 163 rfl w.heap.size 166 ik (.agg (chV 0 (.slice none 0 0))) 2 32 Tryz.underlying163 hik0 hik1 hik2 hik3 rfl (by decide) v3 L.length (chCells L) rfl HRA.out ⟨W3.heap.size,0,none⟩ 1 1 [.int .u32 (k:Int),v] rfl rfl HNW.out HONE.out (Nat.le_trans (show L.length+1≤16385 by omega) (by decide)) (by omega) HB4.out.size ?_; intro v' w1 hown' hgrow _; have HG:Hid ((W3.alloc (.cells (chV k v) 166)).grownBy w1 v3.ownBlock):=Lib.hid hgrow; have HO:=Lib.hid hown'; clear hgrow hown'))
        go_step3
        have hbF:=HB4.out.grown HG.out HB4.out.size (fun x e=>(HRA.out.lt x e).1)
        have hrowF:=own_grown HR4.out HRA.out (by decide) HG.out
        refine ⟨rfl,⟨some ⟨g,0,none⟩,n,ck,ks,j+1,L ++ [(k,v)],v',_,_,_,_,_,_,_,_,_,_,_,_,_,_,_,_,_,_,_,_,_,_,by go_num,by omega,hbF,hrowF,⟨?_,fun x hx=>?_⟩,Lib.hid ⟨HF.out.1,HF.out.2.1,HF.out.2.2,HM.out⟩⟩,?_⟩
        · rw [List.length_append,chCells_app]
          exact HO.out
        · rcases List.mem_append.1 hx with hx | hx
          · exact own_grown (HL4.out.each x hx) HRA.out (by decide) HG.out
          · simp only [List.mem_singleton] at hx
            subst hx
            exact own_grown HO4.out HRA.out (by decide) HG.out
        · simp [intOf,lenV]
          omega
    · obtain rfl:j=n:=by omega
      have i1:¬ (j:Int) < (j:Int):=by omega
      have hLk':L.map (·.1)=ks.filter (fun p=>decide (chg T p≠[])):=by rw [hLk,hn,List.take_length]
      have HX:=Lib.hid (show ks.Pairwise (· < ·)∧(∀ a,a∈ks↔(T.C a).isSome=true)∧L.map (·.1)=ks.filter (fun p=>decide (chg T p≠[])) from ⟨hpw,hmem,hLk'⟩)
      clear hn hpw hmem hLk hLk' hsm hks hLl HI HK HSo HKEYS c7 HT
      go_wp2_with fail
      simp only [Exit.jump]
      go_ret
      exact ⟨v3,L,ks,rfl,HX.out.1,HX.out.2.1,HX.out.2.2,hL,hb⟩
  · intro hpass
    have HPASS:=Lib.hid hpass
    clear hpass
    go_wp2_with fail
    refine HK.out.mono ?_
    clear HK c7
    rintro e W1 ⟨rfl,hW1⟩
    subst hW1
    go_wp2_with fail
    refine HSo.out.mono ?_
    clear HSo
    rintro e W2 ⟨v4,ks,rfl,hpw,hmem,hrow,hb⟩
    replace hb:Below w.heap.size w W2:=((Below.refl _ w).alloc (Nat.le_refl _) _).trans (hb.mono (by simp))
    replace hrow:W2.ownsRow w.heap.size 22 1 v4 ks.length (ks.map encN):=own_base hrow (by simp)
    obtain ⟨pk,ck,rfl,_⟩:=own_slice hrow
    have hmem2:∀ a,a∈ks↔(T.C a).isSome=true:=fun a=>by rw [hmem,HKEYS.out]
    go_wp2_with fail
    go_step3
    simp only [Exit.then]
    refine (by assumption:∀ (a:Act) (w:World),_→_) _ _ (HPASS.out _ _ ⟨pk,ks.length,ck,ks,0,[],_,_,_,_,_,_,_,_,_,_,_,_,_,_,_,_,_,_,_,_,_,_,_,rfl,Nat.zero_le _,hb,hrow,⟨World.ownsRow_nil _ _ _ _,fun x hx=>by cases hx⟩,Lib.hid ⟨rfl,hpw,hmem2,rfl⟩⟩)
end
end Cnt
namespace Cnt
open Go.RowKit RowLaw Crc
open Dev (Dev DS ptr putCells putCells_one putCells_length size_of_putCells sizePut infoPut exec_build)
open Tal (pgCells pgCells_size pgCells_one IsPg kT kP fT fP putB putE putB_length sizeT sizeP Put_anyT Put_anyP)
open Fld (blockO)
def other (a:Nat):Nat:=a ^^^ 1
theorem infoPutZ:(Tryz.prog.info? 55).map (fun i=>(i.zero,i.size))=some (some (.agg (putCells (0,zeros)).toArray),257):=by kernel_rfl
theorem wpList_build_put2 {ops:Array Oper} {rest:List Oper} {o:Oper} {ac:Act} {w:World} {Q:Exit→Act→World→Prop} (hgd:o.guard=none) (d0 d1:Tmp) (ho:o.op=.build 55 #[(0,.tmp d0),(1,.tmp d1)]) (a:Nat) (l:List UInt8) (hl:l.length=256)
  (h0: ac.eval (.tmp d0)=.int .u32 (a: Int)) (h1: ac.eval (.tmp d1)=.agg (cellsOf l)) (h: wpList Tryz.prog ops Q rest (ac.put o.dst (.agg (putCells (a,l)).toArray)) w): wpList Tryz.prog ops Q (o::rest) ac w:=by
 refine wpList_plain hgd fun K hK=>?_
 unfold Oper.wp
 rw [exec_build d0 d1 ho a l hl h0 h1 w]
 exact hK _ _ h
theorem moveT_any (idx:Nat) (ns:List Nat) (hn:ns.length=kT.n) (hs:∀ j (hj:j < ns.length),ns[j] < 256 ^ kT.wd) {a:Nat} (ha:a < 4294967296) (w:World) :
    Calls Tryz.prog 77 #[.agg (pgCells .u16 idx ns),.int .u32 (a:Int),.func (.func 78) #[] #[]] w fun e w'=>e=.returned (.agg (putCells (other a,putB kT idx ns)).toArray)∧Below w.heap.size w w':=by
  have hP:=fun W=>Put_anyT idx ns hn hs W
  have hpl:=putB_length fT idx hn
  have HP:=Lib.hid hP
  generalize putB kT idx ns=b at HP hpl ⊢
  generalize putE kT idx=z at HP
  have hip:=sizeT idx ns hn
  have hzb:=(zero_of_info infoBlock).1
  have hzp:=(zero_of_info infoPutZ).1
  have hib:=sizeBlock b hpl
  have hzz:(cellsOf zeros).size=(cellsOf b).size:=by rw [cellsOf_size,cellsOf_size,hpl,zeros_length]
  have hx:=xor_u32 a 1 ha (by decide)
  have hoa:a ^^^ 1=other a:=rfl
  rw [hoa] at hx
  generalize other a=a2 at hx ⊢
  have hiu:(Tryz.prog.info? 55).map (·.size)=some (putCells (a2,b)).toArray.size:=by rw [List.size_toArray]; exact sizePut _ hpl
  have hzu:(putCells (0,zeros)).toArray.size=(putCells (a2,b)).toArray.size:=by rw [size_of_putCells zeros_length,size_of_putCells hpl]
  have hone:(putCells (a2,b)).toArray.all (·.oneCell')=true:=by rw [List.all_toArray]; exact List.all_eq_true.2 (putCells_one _)
  have hK:Kept w [(w.heap.size+1,.cells (putCells (0,zeros)).toArray 55),(w.heap.size,.cells (pgCells .u16 idx ns) 137)] ((w.alloc (.cells (pgCells .u16 idx ns) 137)).alloc (.cells (putCells (0,zeros)).toArray 55)):=by
    have h:=((Kept.start w).alloc (.cells (pgCells .u16 idx ns) 137)).alloc (.cells (putCells (0,zeros)).toArray 55)
    rwa [show (w.alloc (.cells (pgCells .u16 idx ns) 137)).heap.size=w.heap.size+1 from by simp] at h
  have hge:w.heap.size≤w.heap.size+1:=by omega
  clear hP hn hs hoa
  go_enter Tryz.func77,Tryz.ntmps77
  go_upto_region 1 with fail
  change Code.wp _ _ _ _ ((w.alloc (.cells (pgCells .u16 idx ns) 137)).alloc (.cells (putCells (0,zeros)).toArray 55))
  generalize (w.alloc (.cells (pgCells .u16 idx ns) 137)).alloc (.cells (putCells (0,zeros)).toArray 55)=W1 at hK ⊢
  generalize w.heap.size+1=b6 at hK hge ⊢
  obtain ⟨b3,hb3⟩:∃ b3,b3=w.heap.size:=⟨_,rfl⟩
  rw [←hb3]
  have hK':Kept w [(b6,.cells (putCells (0,zeros)).toArray 55),(b3,.cells (pgCells .u16 idx ns) 137)] W1:=by rw [hb3]; exact hK
  clear hK hb3
  have r3:W1.heap[b3]? = some (.cells (pgCells .u16 idx ns) 137 (0,0)):=hK'.at_ (q:=b3) (o:=.cells (pgCells .u16 idx ns) 137) (by simp)
  go_wp2_with (refine wpList_load_row rfl 137 _ rfl b3 rfl _ _ _ _ r3 Tryz.underlying137 rfl hip ?_)
  refine (HP.out _).mono ?_
  clear HP r3 hip
  rintro e W2 ⟨rfl,hx2⟩
  have hK2:=(hK'.below hx2).alloc (blockO b)
  clear hK' hx2
  have tok:True:=trivial
  go_upto_region 2 with (have _t:=tok; refine wpList_store_new rfl 39 _ _ rfl (cellsOf b) _ _ rfl rfl hib hzz (cellsOf_one _) ?_; change wpList _ _ _ _ _ (W2.alloc (blockO b)); clear _t tok)
  change Code.wp _ _ _ _ (W2.alloc (blockO b))
  generalize W2.heap.size=b7 at hK2 ⊢
  generalize W2.alloc (blockO b)=W3 at hK2 ⊢
  have r7:W3.heap[b7]? = some (.cells (cellsOf b) 39 (0,0)):=hK2.at_ (q:=b7) (o:=blockO b) List.mem_cons_self
  have r6:W3.heap[b6]? = some (.cells (putCells (0,zeros)).toArray 55 (0,0)):=hK2.at_ (q:=b6) (o:=.cells (putCells (0,zeros)).toArray 55) (by simp)
  have hbel:=hK2.bel
  clear hK2 hzz
  have hxx:bits .xor .u32 (a:Int) 1=(a2:Int):=hx
  clear hx
  have tok:True:=trivial
  go_wp2_with (first
    | (refine wpList_load_row rfl 39 _ rfl b7 rfl _ _ _ _ r7 Tryz.underlying39 rfl hib ?_)
    | (refine wpList_build_put2 rfl _ _ rfl a2 b hpl rfl rfl ?_)
    | (have _t:=tok; refine wpList_store_row rfl 55 _ _ rfl b6 _ rfl rfl _ _ r6 hiu hzu hone ?_; clear _t tok))
  exact bodyPost_ret (v:=.agg (putCells (a2,b)).toArray) (results_cell_row rfl _ _ _ _ _ _ _ rfl (setRow_heap W3 _ _ _ _ _ r6) Tryz.underlying55 rfl hiu) rfl ⟨rfl,below_row hbel hge⟩
theorem moveP_any (idx:Nat) (ns:List Nat) (hn:ns.length=kP.n) (hs:∀ j (hj:j < ns.length),ns[j] < 256 ^ kP.wd) {a:Nat} (ha:a < 4294967296) (w:World) :
    Calls Tryz.prog 81 #[.agg (pgCells .u64 idx ns),.int .u32 (a:Int),.func (.func 82) #[] #[]] w fun e w'=>e=.returned (.agg (putCells (other a,putB kP idx ns)).toArray)∧Below w.heap.size w w':=by
  have hP:=fun W=>Put_anyP idx ns hn hs W
  have hpl:=putB_length fP idx hn
  have HP:=Lib.hid hP
  generalize putB kP idx ns=b at HP hpl ⊢
  generalize putE kP idx=z at HP
  have hip:=sizeP idx ns hn
  have hzb:=(zero_of_info infoBlock).1
  have hzp:=(zero_of_info infoPutZ).1
  have hib:=sizeBlock b hpl
  have hzz:(cellsOf zeros).size=(cellsOf b).size:=by rw [cellsOf_size,cellsOf_size,hpl,zeros_length]
  have hx:=xor_u32 a 1 ha (by decide)
  have hoa:a ^^^ 1=other a:=rfl
  rw [hoa] at hx
  generalize other a=a2 at hx ⊢
  have hiu:(Tryz.prog.info? 55).map (·.size)=some (putCells (a2,b)).toArray.size:=by rw [List.size_toArray]; exact sizePut _ hpl
  have hzu:(putCells (0,zeros)).toArray.size=(putCells (a2,b)).toArray.size:=by rw [size_of_putCells zeros_length,size_of_putCells hpl]
  have hone:(putCells (a2,b)).toArray.all (·.oneCell')=true:=by rw [List.all_toArray]; exact List.all_eq_true.2 (putCells_one _)
  have hK:Kept w [(w.heap.size+1,.cells (putCells (0,zeros)).toArray 55),(w.heap.size,.cells (pgCells .u64 idx ns) 142)] ((w.alloc (.cells (pgCells .u64 idx ns) 142)).alloc (.cells (putCells (0,zeros)).toArray 55)):=by
    have h:=((Kept.start w).alloc (.cells (pgCells .u64 idx ns) 142)).alloc (.cells (putCells (0,zeros)).toArray 55)
    rwa [show (w.alloc (.cells (pgCells .u64 idx ns) 142)).heap.size=w.heap.size+1 from by simp] at h
  have hge:w.heap.size≤w.heap.size+1:=by omega
  clear hP hn hs hoa
  go_enter Tryz.func81,Tryz.ntmps81
  go_upto_region 1 with fail
  change Code.wp _ _ _ _ ((w.alloc (.cells (pgCells .u64 idx ns) 142)).alloc (.cells (putCells (0,zeros)).toArray 55))
  generalize (w.alloc (.cells (pgCells .u64 idx ns) 142)).alloc (.cells (putCells (0,zeros)).toArray 55)=W1 at hK ⊢
  generalize w.heap.size+1=b6 at hK hge ⊢
  obtain ⟨b3,hb3⟩:∃ b3,b3=w.heap.size:=⟨_,rfl⟩
  rw [←hb3]
  have hK':Kept w [(b6,.cells (putCells (0,zeros)).toArray 55),(b3,.cells (pgCells .u64 idx ns) 142)] W1:=by rw [hb3]; exact hK
  clear hK hb3
  have r3:W1.heap[b3]? = some (.cells (pgCells .u64 idx ns) 142 (0,0)):=hK'.at_ (q:=b3) (o:=.cells (pgCells .u64 idx ns) 142) (by simp)
  go_wp2_with (refine wpList_load_row rfl 142 _ rfl b3 rfl _ _ _ _ r3 Tryz.underlying142 rfl hip ?_)
  refine (HP.out _).mono ?_
  clear HP r3 hip
  rintro e W2 ⟨rfl,hx2⟩
  have hK2:=(hK'.below hx2).alloc (blockO b)
  clear hK' hx2
  have tok:True:=trivial
  go_upto_region 2 with (have _t:=tok; refine wpList_store_new rfl 39 _ _ rfl (cellsOf b) _ _ rfl rfl hib hzz (cellsOf_one _) ?_; change wpList _ _ _ _ _ (W2.alloc (blockO b)); clear _t tok)
  change Code.wp _ _ _ _ (W2.alloc (blockO b))
  generalize W2.heap.size=b7 at hK2 ⊢
  generalize W2.alloc (blockO b)=W3 at hK2 ⊢
  have r7:W3.heap[b7]? = some (.cells (cellsOf b) 39 (0,0)):=hK2.at_ (q:=b7) (o:=blockO b) List.mem_cons_self
  have r6:W3.heap[b6]? = some (.cells (putCells (0,zeros)).toArray 55 (0,0)):=hK2.at_ (q:=b6) (o:=.cells (putCells (0,zeros)).toArray 55) (by simp)
  have hbel:=hK2.bel
  clear hK2 hzz
  have hxx:bits .xor .u32 (a:Int) 1=(a2:Int):=hx
  clear hx
  have tok:True:=trivial
  go_wp2_with (first
    | (refine wpList_load_row rfl 39 _ rfl b7 rfl _ _ _ _ r7 Tryz.underlying39 rfl hib ?_)
    | (refine wpList_build_put2 rfl _ _ rfl a2 b hpl rfl rfl ?_)
    | (have _t:=tok; refine wpList_store_row rfl 55 _ _ rfl b6 _ rfl rfl _ _ r6 hiu hzu hone ?_; clear _t tok))
  exact bodyPost_ret (v:=.agg (putCells (a2,b)).toArray) (results_cell_row rfl _ _ _ _ _ _ _ rfl (setRow_heap W3 _ _ _ _ _ r6) Tryz.underlying55 rfl hiu) rfl ⟨rfl,below_row hbel hge⟩
end Cnt

end Go.Proofs.YtgkbfahflngklaaGreat
