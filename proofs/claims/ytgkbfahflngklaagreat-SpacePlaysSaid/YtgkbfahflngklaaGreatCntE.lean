import Derived.Test.YtgkbfahflngklaaGreatCntD
import Derived.Test.YtgkbfahflngklaaGreatCntB
import Derived.Great.BuildSlice
import Derived.BigQuiet
import Derived.Deep.MidRow
import Derived.Test.YtgkbfahflngklaaGreatKit1
import Derived.Deep.AppendLies
import Derived.OwnWalk
set_option maxRecDepth 100000
set_option maxHeartbeats 12800000
set_option linter.unusedSimpArgs false
namespace Go.Proofs.YtgkbfahflngklaaGreat
namespace Cnt
open Go.RowKit Go.Maps Go.MapKept RowLaw Crc
open Dev (Dev DS ptr Turn Step new_cells)
open Tal (pgCells pgCells_size pgCells_one IsPg kT kP infoP zs zs_length sizeP)
open Rot (planOk tlN pkN fsN wpList_build_run)
def turnAll (ns:List Nat) (ps:List Nat):List Nat:=ps.foldl turnBit ns
theorem turnAll_length (ps:List Nat):∀ ns:List Nat,(turnAll ns ps).length=ns.length:=by
 induction ps with
 | nil=>intro ns; rfl
 | cons p ps ih=>intro ns; exact (ih _).trans (turnBit_length _ _)
theorem turnBit_lt {ns:List Nat} (hn:∀ x∈ns,x < 18446744073709551616) (i:Nat):∀ x∈turnBit ns i,x < 18446744073709551616:=fun x hx=>by
 rcases List.mem_or_eq_of_mem_set hx with hx | rfl
 ·exact hn x hx
 ·refine Nat.xor_lt_two_pow (n:=64) ?_ (Nat.pow_lt_pow_right (a:=2) (by omega) (by omega))
  rw [List.getD_eq_getElem?_getD]
  by_cases h:i / 64 < ns.length
  ·rw [List.getElem?_eq_getElem h]
   exact hn _ (List.getElem_mem h)
  ·rw [List.getElem?_eq_none (by omega)]
   show 0 < 2 ^ 64
   omega
theorem turnAll_lt (ps:List Nat):∀ ns:List Nat,(∀ x∈ns,x < 18446744073709551616)→∀ x∈turnAll ns ps,x < 18446744073709551616:=by
 induction ps with
 | nil=>intro ns h; exact h
 | cons p ps ih=>intro ns h; exact ih _ (turnBit_lt h p)
theorem turnAll_snoc (ns ps:List Nat) (p:Nat):turnAll ns (ps ++ [p])=turnBit (turnAll ns ps) p:=by unfold turnAll; rw [List.foldl_append]; rfl
theorem infoPk:(Tryz.prog.info? 142).map (fun i=>(i.zero,i.size,i.bytes))=some (some (.agg (pgCells .u64 0 (zs kP))),17,136):=by kernel_rfl
theorem size_of_pick {k:Nat} {ns:List Nat} (h:ns.length=16):(pgCells .u64 k ns).size=17:=by rw [pgCells_size,h]
theorem run_buildPk (w:World) (k:Nat) (ns:List Nat) (h:ns.length=16):(Instr.buildSlice 170 1 #[(0,.agg (pgCells .u64 k ns))]).run Tryz.prog w=.ok (.slice (some ⟨w.heap.size,0,none⟩) 1 1) (w.alloc (.cells (pgCells .u64 k ns) 142)):=by
 obtain ⟨it,hit,hz,hs,hb⟩:=info_parts infoPk
 have h0:=size_of_pick (k:=0) (ns:=zs kP) (zs_length kP)
 have hf:=Great.fill_whole (s:=17) (by omega) [.agg (pgCells .u64 k ns)] ((Array.range (1 * 17)).map ((Value.agg (pgCells .u64 0 (zs kP))).cells[· % (Value.agg (pgCells .u64 0 (zs kP))).cells.size]!)) (fun v hv=>by
  simp only [List.mem_singleton] at hv; subst hv; exact size_of_pick h) (by simp)
 refine run_buildSlice w _ _ 1 _ (pgCells .u64 k ns) it _ Tryz.underlying170 hit hz (by rw [hs]; omega) (by rw [hs]; omega) ?_
 rw [hs]
 refine Eq.trans ?_ (hf.trans ?_)
 ·rfl
 ·simp [Value.cells]
theorem cell_setCells_other (q o:Nat) (vs:List Value) (a:Addr):∀ (W:World),a.block≠q→(W.setCells q o vs).cell? a=W.cell? a:=by
 induction vs generalizing o with
 | nil=>intro W h; rfl
 | cons v vs ih=>
  intro W h
  show ((W.setCell ⟨q,o,none⟩ v).setCells q (o+1) vs).cell? a=_
  rw [ih (o+1) _ h]
  unfold World.cell?
  rw [heap_setCell_other W ⟨q,o,none⟩ a.block v h]
theorem chCells_get:∀ (M:List (Nat×Value)) (j:Nat) (hj:j < M.length) (i:Nat),i < 2→(chCells M)[j * 2+i]? = [Value.int .u32 (M[j].1:Int),M[j].2][i]?
 | [],j,hj,i,hi=>absurd hj (by simp)
 | x::M,0,hj,i,hi=>by
  show (([.int .u32 (x.1:Int),x.2]:List Value) ++ chCells M)[0 * 2+i]? = _
  rw [Nat.zero_mul,Nat.zero_add,List.getElem?_append_left (by simpa using hi)]
  rfl
 | x::M,j+1,hj,i,hi=>by
  show (([.int .u32 (x.1:Int),x.2]:List Value) ++ chCells M)[(j+1) * 2+i]? = _
  rw [List.getElem?_append_right (by simp; omega),show (j+1) * 2+i - ([Value.int .u32 (x.1:Int),x.2]:List Value).length=j * 2+i from by simp; omega]
  exact chCells_get M j (by simpa using hj) i hi
def PkRow (W:World) (base:Nat) (v:Value) (j:Nat) (ns:List Nat):Prop:=(j=0→v=.slice none 0 0)∧(0 < j→W.ownsRow base 142 17 v 1 (pgCells .u64 0 ns).toList)
theorem PkRow.kept {W W':World} {base:Nat} {v:Value} {j:Nat} {ns:List Nat} (h:PkRow W base v j ns) (hb:Below W.heap.size W W'):PkRow W' base v j ns:=⟨h.1,fun hj=>own_kept (h.2 hj) hb⟩
theorem range_own {W:World} {base g:Nat} {e:TypeId} {size n c:Nat} {xs:List Value} (h:W.ownsRow base e size (.slice (some ⟨g,0,none⟩) n c) n xs):W.rangeAt g 0 xs:=fun j u hu=>by
 have hl:j < xs.length:=(List.getElem?_eq_some_iff.1 hu).1
 rw [Nat.zero_add,h.cellAt j (by rw [←h.1]; exact hl),hu]
theorem there_own {W:World} {base g:Nat} {e:TypeId} {size n c:Nat} {xs:List Value} (h:W.ownsRow base e size (.slice (some ⟨g,0,none⟩) n c) n xs):W.there g 0 xs.length:=fun j hj=>by
 refine ⟨?_,?_⟩
 ·rw [range_own h j xs[j] (List.getElem?_eq_getElem hj)]
  rfl
 ·rcases h.2 with ⟨hn,_⟩ | ⟨g',cap,cur,he,_,hg,_⟩
  ·cases hn
  ·cases he
   exact frozen_of_row W g (0+j) _ _ hg
theorem own_setAll {W:World} {base g:Nat} {e:TypeId} {size n c:Nat} {xs vs:List Value} (h:W.ownsRow base e size (.slice (some ⟨g,0,none⟩) n c) n xs) (hv:vs.length=xs.length):(W.setCells g 0 vs).ownsRow base e size (.slice (some ⟨g,0,none⟩) n c) n vs∧(base≤g→∀ w:World,Below base w W→Below base w (W.setCells g 0 vs)):=by
 rcases h with ⟨hl,⟨hn,_⟩ | ⟨g',cap,cur,he,h3,hg,h5,h6,h7,h8⟩⟩
 ·cases hn
 ·cases he
  obtain ⟨i1,i2,i3,i4,i5,i6⟩:=setCells_block g e vs cur 0 W hg
  have hle:n * size≤cur.size:=by rw [h7]; exact Nat.mul_le_mul_right _ h5
  refine ⟨⟨hv.trans hl,.inr ⟨g,c,_,rfl,h3,i1,h5,h6,(splice_size _ _ _).trans h7,?_⟩⟩,fun hb w hw=>hw.trans ⟨i3,i4,i5,by rw [i6]; exact Nat.le_refl _,fun k hk=>i2 k (by omega)⟩⟩
  refine List.ext_getElem? fun i=>?_
  rw [List.getElem?_take]
  by_cases hi:i < n * size
  ·rw [if_pos hi,Array.getElem?_toList,splice_get vs cur 0 i (by omega),if_pos ⟨Nat.zero_le _,by omega⟩,Nat.sub_zero]
  ·rw [if_neg hi,List.getElem?_eq_none (by omega)]
theorem wp_load_arr {P:Program} {op:Oper} {a:Act} {w:World} {K:Act→World→Prop} {Q:Exit→Act→World→Prop} (ty:TypeId) (x:Operand) (ho:op.op=.load ty x)
  (b o:Nat) (hx:a.eval x=.pointer (some ⟨b,o,none⟩)) (A:Array Value) (d:TypeDesc) (hc:w.rangeAt b o A.toList)
  (hu:P.underlying ty=some d) (hd:d.isRow=true) (hi:(P.info? ty).map (·.size)=some A.size) (h:K (a.put op.dst (.agg A)) w):op.wp P a w K Q:=
 wp_load_mid ty x ho b o hx A.toList d hc hu hd (by rw [Array.length_toList]; exact hi) (by rw [Array.toArray_toList]; exact h)
section
variable {w:World} {t bp bt bc:Nat} {fp ft fc:Nat→Option Nat} {B C:List Nat} {T:TD} {s:DS}
theorem turned_any {base:Nat} {v:Value} {M:List (Nat×Value)} {G:Nat→List Nat} (hT:TabAt w t bp bt bc fp ft fc B T) (hd:Dev w T.d C s) (hr:Reads s T) (hM:ChL w base v M G) (hlt:∀ x∈M,x.1 < 1024) {q0:Nat} (hq0:M≠[]→fp 0=some q0) (hlen:M.length≤16384) :
    Calls Tryz.prog 79 #[ptr t,v] w fun e w'=>∃ vp,e=.returned vp∧PkRow w' w.heap.size vp M.length (turnAll (T.PV 0) (M.map (·.1)))∧Below w.heap.size w w':=by
  obtain ⟨n1,n2⟩:=plan_of hT.ok.plan
  have npl:=Rot.plan_facts n1 n2
  have hpk:0 < pkN T.n:=by omega
  clear npl n1 n2
  obtain ⟨pv,cv,hv,hcell⟩:=own_slice hM.row
  subst hv
  have HP:Hid (∀ W,Below w.heap.size w W→M≠[]→Calls Tryz.prog 154 #[ptr t,.int .u32 0] W fun e w'=>e=.returned (.tuple #[ptr q0,.int .i64 0])∧Below W.heap.size W w'):=Lib.hid (fun W hW hne=>(pick_any (hT.below hW) (hd.below hW) hr hpk).mono fun e w' h=>by
    obtain ⟨q,fp',B',he,_,_,_,hh⟩:=h
    obtain ⟨rfl,hb⟩:=hh q0 (hq0 hne)
    exact ⟨he,hb⟩)
  have HQ:Hid (∀ W,Below w.heap.size w W→M≠[]→IsPg .u64 142 W q0 0 (T.PV 0)):=Lib.hid (fun W hW hne=>((hT.below hW).pp 0 q0 (hq0 hne)).1)
  have hpl:=hT.ok.pl 0
  have hpn:=hT.ok.pn 0
  have HM:=Lib.hid hM; have HLT:=Lib.hid hlt
  have HC:Hid (∀ W,Below w.heap.size w W→∀ j (hj:j < M.length),∃ g,pv=some ⟨g,0,none⟩∧W.rangeAt g (j * 2) [.int .u32 (M[j].1:Int),M[j].2]∧M[j].2.oneCell'=true):=Lib.hid (fun W hW j hj=>by
    have hM':=hM.kept hW
    obtain ⟨pv',cv',he,hc⟩:=own_slice hM'.row
    cases he
    have hcc:∀ i,i < 2→(chCells M)[j * 2+i]? = [Value.int .u32 (M[j].1:Int),M[j].2][i]?:=fun i hi=>chCells_get M j hj i hi
    obtain ⟨g,hg,_⟩:=hc (j * 2) (.int .u32 (M[j].1:Int)) (hcc 0 (by omega)) (by omega)
    refine ⟨g,hg,fun i u hu=>?_,own_one (hM'.each _ (List.getElem_mem hj))⟩
    have hi:i < 2:=(List.getElem?_eq_some_iff.1 hu).1
    obtain ⟨g',hg',hcu⟩:=hc (j * 2+i) u ((hcc i hi).trans hu) (by omega)
    rw [hg] at hg'
    cases hg'
    exact hcu)
  generalize T.PV 0=P0 at HQ hpl hpn ⊢
  have hip:=sizeP 0 P0 hpl
  have hzc:=zeroCh
  have hiu:(Tryz.prog.info? 166).map (·.size)=some 2:=by kernel_rfl
  have HTL:Hid (∀ ps,(turnAll P0 ps).length=16):=Lib.hid (fun ps=>(turnAll_length ps P0).trans hpl)
  have HTN:Hid (∀ ps,∀ x∈turnAll P0 ps,x < 18446744073709551616):=Lib.hid (fun ps=>turnAll_lt ps P0 hpn)
  have HBT:Hid (∀ (ps:List Nat) (p:Nat),p < 1024→∀ W,Calls Tryz.prog 157 #[.agg (pgCells .u64 0 (turnAll P0 ps)),.int .i64 (p:Int)] W fun e w'=>e=.returned (.tuple #[.agg (pgCells .u64 0 (turnAll P0 (ps ++ [p]))),.int .i64 0])∧Below W.heap.size W w'):=Lib.hid (fun ps p hp W=>by
    rw [turnAll_snoc]
    exact Turn_any (HTL.out ps) (HTN.out ps) hp W)
  have HPS:Hid (∀ j (hj:j < M.length),(M.map (·.1)).take (j+1)=(M.map (·.1)).take j ++ [M[j].1]):=Lib.hid (fun j hj=>by rw [List.take_succ_eq_append_getElem (by simpa using hj)]; simp)
  obtain ⟨ik,hik0,hik1,hik2,hik3⟩:=info_parts infoPk
  have HALL:Hid (turnAll P0 ((M.map (·.1)).take M.length)=turnAll P0 (M.map (·.1))):=Lib.hid (by rw [List.take_of_length_le (by simp)])
  generalize M.map (·.1)=PS at HPS HALL ⊢
  clear hcell hT hd hr hM hlt hq0 hpk
  unfold ptr
  go_enter Tryz.func79,Tryz.ntmps79
  go_wp2_with fail
  go_loopw [5,13] (fun v5 i wr=>∃ j:Nat,j≤M.length∧i=.int .i64 j∧Below w.heap.size w wr∧PkRow wr w.heap.size v5 j (turnAll P0 (PS.take j))) (fun _ i _=>M.length - (intOf i).toNat)
  case atStart=>exact ⟨0,Nat.zero_le _,rfl,Below.refl _ _,⟨fun _=>rfl,fun h=>absurd h (by omega)⟩⟩
  case round=>
    obtain ⟨j,hj,rfl,hb,hp⟩:=hrel
    by_cases hlt:j < M.length
    · have hne:M≠[]:=fun e=>by rw [e] at hlt; exact absurd hlt (by simp)
      obtain ⟨g,hg,hrg,hone⟩:=HC.out wr hb j hlt
      have hp1024:M[j].1 < 1024:=HLT.out _ (List.getElem_mem hlt)
      have hps:=HPS.out j hlt
      generalize M[j].2=vx at hrg hone
      generalize M[j].1=p at hrg hp1024 hps
      have HPQ:=Lib.hid hps
      have HB1:Hid (Below w.heap.size w (wr.alloc (.cells (chV p vx) 166))):=Lib.hid (hb.alloc hb.size _)
      have HP1:Hid (PkRow (wr.alloc (.cells (chV p vx) 166)) w.heap.size u5 j (turnAll P0 (PS.take j))):=Lib.hid (hp.kept ((Below.refl _ _).alloc (Nat.le_refl _) _))
      have h7:(wr.alloc (.cells (chV p vx) 166)).heap[wr.heap.size]? = some (.cells (chV p vx) 166 (0,0)):=heap_alloc_new wr _
      have hvo:=chV_one p hone
      have i0:(0:Int)≤(j:Int):=by omega
      have i1:(j:Int) < (M.length:Int):=by omega
      have z1:IntKind.i64.wrap ((j:Int)+1)=(j:Int)+1:=IntWalk.i64_in _ (by omega)
      subst hg
      clear hb hp hps
      have tok:True:=trivial
      go_upto_region 5 with (first
        | (refine wpList_load_mid rfl 166 _ rfl g (j * 2) rfl _ _ hrg Tryz.underlying166 rfl hiu ?_)
        | (have _t:=tok; refine wpList_store_new rfl 166 _ _ rfl (chV p vx) _ _ rfl rfl (sizeCh _ _) rfl hvo ?_; change wpList _ _ _ _ _ (wr.alloc (.cells (chV p vx) 166)); clear _t tok))
      change Code.wp _ _ _ _ (wr.alloc (.cells (chV p vx) 166))
      generalize wr.heap.size=b7 at h7 ⊢
      generalize wr.alloc (.cells (chV p vx) 166)=W1 at HB1 HP1 h7 ⊢
      clear hrg hvo
      have c7:W1.cell? ⟨b7,0,none⟩=some (.int .u32 (p:Int)):=(cell_of_row W1 b7 0 _ _ _ h7).trans rfl
      have d1:(p:Int) / 1024=0:=by omega
      have d2:Int.tdiv (p:Int) 1024=0:=by rw [Int.tdiv_eq_ediv_of_nonneg (by omega)]; omega
      have hpc:=HP.out W1 HB1.out hne
      unfold ptr at hpc
      go_wp2_with fail
      refine hpc.mono ?_
      clear hpc c7 d1 d2
      rintro e W2 ⟨rfl,hx⟩
      have HB2:Hid (Below w.heap.size w W2):=Lib.hid (HB1.out.trans (hx.mono HB1.out.size))
      have HP2:=Lib.hid (HP1.out.kept hx)
      have h7':W2.heap[b7]? = some (.cells (chV p vx) 166 (0,0)):=(hx.block b7 (Array.getElem?_eq_some_iff.1 h7).1).trans h7
      have hpg:=HQ.out W2 HB2.out hne
      clear HB1 HP1 h7 hx
      by_cases hj0:j=0
      · have h5:=HP2.out.1 hj0
        have HJ0:=Lib.hid hj0
        rw [h5]
        clear HP2 h5 hj0
        go_wp2_with fail
        go_quiet (fail)
        have HB3:Hid (Below w.heap.size w (W2.drewN nq)):=Lib.hid ⟨HB2.out.os,HB2.out.tape,HB2.out.output,HB2.out.size,HB2.out.block⟩
        have h73:(W2.drewN nq).heap[b7]? = some (.cells (chV p vx) 166 (0,0)):=h7'
        have hpg3:(W2.drewN nq).heap[q0]? = some (.cells (pgCells .u64 0 P0) 142 (0,0)):=hpg
        generalize W2.drewN nq=W3 at HB3 h73 hpg3 ⊢
        clear h7' hpg HB2
        have HNC:=Lib.hid (new_cells W3 (pgCells .u64 0 P0).toList 142)
        have HBU:=Lib.hid (run_buildPk W3 0 P0 hpl)
        have HNL:Hid ((pgCells .u64 0 P0).toList.length=1 * 17):=Lib.hid (by rw [Array.length_toList,size_of_pick hpl])
        have HON:Hid (∀ u∈(pgCells .u64 0 P0).toList,u.oneCell'=true):=Lib.hid (fun u hu=>Array.all_eq_true_iff_forall_mem.1 (pgCells_one (K:=.u64) 0 P0) u (by simpa using hu))
        have HBA:Hid (Below w.heap.size w (W3.alloc (.cells (pgCells .u64 0 P0) 142))):=Lib.hid (HB3.out.alloc HB3.out.size _)
        have h74:(W3.alloc (.cells (pgCells .u64 0 P0) 142)).heap[b7]? = some (.cells (chV p vx) 166 (0,0)):=(Below.heap_alloc _ _ b7 (Array.getElem?_eq_some_iff.1 h73).1).trans h73
        have H74:=Lib.hid h74
        rw [Array.toArray_toList] at HNC
        have HPE:Hid (P0=turnAll P0 (PS.take j)):=Lib.hid (by rw [HJ0.out]; rfl)
        have hown0:(W3.alloc (.cells (pgCells .u64 0 P0) 142)).ownsRow w.heap.size 142 17 (.slice none 0 0) 0 []:=World.ownsRow_nil _ _ _ _
        have HW0:=Lib.hid hown0
        have HG1:=Lib.hid (show w.heap.size≤(W3.alloc (.cells (pgCells .u64 0 P0) 142)).heap.size from HBA.out.size)
        clear h73 h74 hown0 HB3
        obtain ⟨pc,hpc⟩:∃ pc,pc=pgCells .u64 0 P0:=⟨_,rfl⟩
        rw [←hpc] at hpg3 HBU HNC HNL HON HBA H74 HW0 HG1 hip
        have HPC:=Lib.hid hpc
        clear hpc
        go_upto_region 8 with (first
          | (refine wpList_load_row rfl 142 _ rfl q0 rfl _ _ _ _ hpg3 Tryz.underlying142 rfl hip ?_)
          | (refine wpList_build_run rfl 170 1 #[(0,.tmp 45)] rfl #[(0,.agg pc)] (by first | rfl | (simp [Act.eval]; done) | (simp [Act.eval]; rfl)) _ HBU.out ?_; clear hpg3 HBU)
          | (at_builtin; refine wpList_append_own _ rfl _ _ 170 rfl w.heap.size 142 ik (.agg (pgCells .u64 0 (zs kP))) 17 136 Tryz.underlying170 hik0 hik1 hik2 hik3 rfl (by decide) (.slice none 0 0) 0 [] rfl HW0.out ⟨W3.heap.size,0,none⟩ 1 1 pc.toList rfl HNL.out HNC.out HON.out (by decide) (by decide) HG1.out ?_; intro v5 W4 hown hgr _; have HGR:=Lib.hid hgr; have HO4:=Lib.hid hown; clear hgr hown))
        obtain ⟨pv5,c5,rfl,hc5⟩:=own_slice HO4.out
        obtain ⟨g5,rfl,_⟩:=hc5 0 (.int .u32 0) (by rw [HPC.out]; simp [pgCells]) (by omega)
        have h74:W4.heap[b7]? = some (.cells (chV p vx) 166 (0,0)):=(HGR.out.block b7 (Array.getElem?_eq_some_iff.1 H74.out).1 (by simp [Value.ownBlock])).trans H74.out
        have HB4:Hid (Below w.heap.size w W4):=Lib.hid (HBA.out.grown HGR.out HBA.out.size (fun x e=>by simp [Value.ownBlock] at e))
        replace HO4:Hid (W4.ownsRow w.heap.size 142 17 (.slice (some ⟨g5,0,none⟩) 1 c5) 1 (pgCells .u64 0 (turnAll P0 (PS.take j))).toList):=Lib.hid (by rw [←HPE.out,←HPC.out]; exact HO4.out)
        clear hc5 HGR H74 HBA HNC HNL HON HW0 HG1 HPE HPC
        have hns:=HTL.out (PS.take j)
        have hbt:=HBT.out (PS.take j) p hp1024
        rw [←HPQ.out] at hbt
        have hns':=HTL.out (PS.take (j+1))
        obtain ⟨ns,hn0⟩:∃ n',n'=turnAll P0 (PS.take j):=⟨_,rfl⟩
        rw [←hn0] at HO4 hns hbt
        obtain ⟨ns',hns2⟩:∃ n',n'=turnAll P0 (PS.take (j+1)):=⟨_,rfl⟩
        rw [←hns2] at hns' hbt
        have HBT4:=Lib.hid hbt
        have HNS2:=Lib.hid hns2
        clear hbt hns2 hn0
        go_upto_region 9 with fail
        have hS:W4.drew.cell? ⟨b7,0,none⟩=some (.int .u32 (p:Int)):=(cell_of_row W4.drew b7 0 _ _ _ h74).trans rfl
        have HB5:Hid (Below w.heap.size w W4.drew):=Lib.hid ⟨HB4.out.os,HB4.out.tape,HB4.out.output,HB4.out.size,HB4.out.block⟩
        have HO5:Hid (W4.drew.ownsRow w.heap.size 142 17 (.slice (some ⟨g5,0,none⟩) 1 c5) 1 (pgCells .u64 0 ns).toList):=Lib.hid (own_kept HO4.out ⟨rfl,rfl,rfl,Nat.le_refl _,fun _ _=>rfl⟩)
        have h75:W4.drew.heap[b7]? = some (.cells (chV p vx) 166 (0,0)):=h74
        have e1:(p:Int) % 1024=(p:Int):=by omega
        have e2:Int.tmod (p:Int) 1024=(p:Int):=by rw [Int.tmod_eq_emod_of_nonneg (by omega)]; omega
        have e3:IntKind.i64.wrap (p:Int)=(p:Int):=IntWalk.i64_in _ (by omega)
        refine wp_region_noPanic ?_
        refine wp_region_held_drew (S:=fun W=>W.cell? ⟨b7,0,none⟩=some (.int .u32 (p:Int))) (by kernel_rfl) hS ?_
        intro hS
        generalize W4.drew=W5 at hS HB5 HO5 h75 ⊢
        clear HB4 HO4 h74
        refine RowLaw.tkV 0 54 (.pointer (some ⟨g5,0,none⟩)) hS ?_
        simp only [RowLaw.lset]
        refine RowLaw.tkV 1 55 (.pointer (some ⟨g5,0,none⟩)) hS ?_
        simp only [RowLaw.lset]
        refine RowLaw.tkV 2 56 (.pointer (some ⟨g5,0,none⟩)) hS ?_
        simp only [RowLaw.lset]
        refine RowLaw.tkV 4 58 (.pointer (some ⟨b7,0,none⟩)) hS ?_
        simp only [RowLaw.lset]
        refine RowLaw.tkV 5 59 (.int .u32 (p:Int)) hS ?_ (hy:=(Or.inl ⟨by rfl,fun w hw=>by go_simp⟩))
        simp only [RowLaw.lset]
        refine RowLaw.tkV 6 60 (.int .u32 (p:Int)) hS ?_
        simp only [RowLaw.lset]
        refine RowLaw.tkV 7 61 (.int .i64 (p:Int)) hS ?_
        simp only [RowLaw.lset]
        clear e1 e2 e3
        have hrg:=range_own HO5.out
        refine wpAnyH_ready (rs:=[3]) (by kernel_rfl) (by simp) ?_
        refine AllReadyH.cons rfl (fun K hK=>?_) AllReadyH.nil
        rw [if_pos (by rfl)]
        refine wp_load_arr 142 _ rfl g5 0 rfl (pgCells .u64 0 ns) _ hrg Tryz.underlying142 rfl (sizeP 0 ns hns) ?_
        refine hK _ _ hS (fun _=>?_)
        clear hK K hrg
        try simp only [Act.put,List.setIfInBounds_toArray,RowLaw.lset]
        refine wpAnyH_ready (rs:=[8]) (by kernel_rfl) (by simp) ?_
        refine AllReadyH.cons rfl (fun K hK=>?_) AllReadyH.nil
        rw [if_pos (by rfl)]
        go_simp
        refine (HBT4.out _).mono ?_
        clear HBT4
        rintro e W6 ⟨rfl,hx⟩
        dsimp only
        have hS6:W6.cell? ⟨b7,0,none⟩=some (.int .u32 (p:Int)):=(cell_of_row W6 b7 0 _ _ _ ((hx.block b7 (Array.getElem?_eq_some_iff.1 h75).1).trans h75)).trans rfl
        have HB6:Hid (Below w.heap.size w W6):=Lib.hid (HB5.out.trans (hx.mono HB5.out.size))
        have HO6:=Lib.hid (own_kept HO5.out hx)
        have HNE:Hid (b7≠g5):=Lib.hid (fun e=>own_ne HO5.out h75 (by decide) (by rw [e]; rfl))
        refine hK _ _ hS6 (fun _=>?_)
        clear hK K hS h75 HB5 HO5 hx
        have hS:=hS6
        clear hS6
        try simp only [Act.put,List.setIfInBounds_toArray,RowLaw.lset]
        refine RowLaw.tkV 9 53 (.tuple #[.agg (pgCells .u64 0 ns'),.int .i64 0]) hS ?_
        simp only [RowLaw.lset]
        refine RowLaw.tkV 10 63 (.agg (pgCells .u64 0 ns')) hS ?_
        simp only [RowLaw.lset]
        refine RowLaw.tkV 11 64 (.int .i64 0) hS ?_
        simp only [RowLaw.lset]
        refine RowLaw.tkV 12 65 (.pointer (some ⟨g5,0,none⟩)) hS ?_
        simp only [RowLaw.lset]
        refine wpAnyH_ready (rs:=[13]) (by kernel_rfl) (by simp) ?_
        refine AllReadyH.cons rfl (fun K hK=>?_) AllReadyH.nil
        rw [if_pos (by rfl)]
        have hth:=there_own HO6.out
        rw [Array.length_toList,size_of_pick hns,←size_of_pick (k:=0) hns'] at hth
        refine wp_store_mid 142 _ _ rfl g5 0 (pgCells .u64 0 ns') rfl rfl hth (sizeP 0 ns' hns') (pgCells_one _ _) ?_
        have h7o:=own_setAll HO6.out (vs:=(pgCells .u64 0 ns').toList) (by rw [Array.length_toList,Array.length_toList,size_of_pick hns,size_of_pick hns'])
        have hge:w.heap.size≤g5:=(HO6.out.lt g5 rfl).1
        have hSF:(W6.setCells g5 0 (pgCells .u64 0 ns').toList).cell? ⟨b7,0,none⟩=some (.int .u32 (p:Int)):=by
          rw [cell_setCells_other _ _ _ _ _ HNE.out]
          exact hS
        refine hK _ _ hSF (fun _=>?_)
        clear hK K hSF hS hth
        have HOF:=Lib.hid h7o.1
        have HBF:=Lib.hid (h7o.2 hge w HB6.out)
        clear h7o HO6 HB6
        generalize W6.setCells g5 0 (pgCells .u64 0 ns').toList=WF at HOF HBF ⊢
        try simp only [Act.put,List.setIfInBounds_toArray,RowLaw.lset]
        refine wpAnyH_done (by kernel_rfl) ?_ _
        refine NoPanic.normal ?_
        go_wp2_with fail
        go_roundw
        case rel=>exact ⟨j+1,by omega,by go_num,HBF.out,⟨fun h=>absurd h (by omega),fun _=>by rw [←HNS2.out]; exact HOF.out⟩⟩
        case measure=>simp [intOf]; omega
      · have h5:=HP2.out.2 (Nat.pos_of_ne_zero hj0)
        obtain ⟨pv5,c5,rfl,hc5⟩:=own_slice h5
        obtain ⟨g5,rfl,c50⟩:=hc5 0 (.int .u32 0) (by simp [pgCells]) (by omega)
        clear hc5 HP2 hj0
        have cq:=hpg.index
        have HO3:=Lib.hid h5
        have HPG:=Lib.hid hpg
        clear h5 hpg
        go_wp2_with fail
        go_quiet (fail)
        have HB4:Hid (Below w.heap.size w (W2.drewN nq)):=Lib.hid ⟨HB2.out.os,HB2.out.tape,HB2.out.output,HB2.out.size,HB2.out.block⟩
        have h74:(W2.drewN nq).heap[b7]? = some (.cells (chV p vx) 166 (0,0)):=h7'
        have HO4:Hid ((W2.drewN nq).ownsRow w.heap.size 142 17 (.slice (some ⟨g5,0,none⟩) 1 c5) 1 (pgCells .u64 0 (turnAll P0 (PS.take j))).toList):=Lib.hid (own_kept HO3.out ⟨rfl,rfl,rfl,Nat.le_refl _,fun _ _=>rfl⟩)
        generalize W2.drewN nq=W4 at HB4 h74 HO4 ⊢
        clear h7' HPG HB2 HO3 cq c50
        have hns:=HTL.out (PS.take j)
        have hbt:=HBT.out (PS.take j) p hp1024
        rw [←HPQ.out] at hbt
        have hns':=HTL.out (PS.take (j+1))
        obtain ⟨ns,hn0⟩:∃ n',n'=turnAll P0 (PS.take j):=⟨_,rfl⟩
        rw [←hn0] at HO4 hns hbt
        obtain ⟨ns',hns2⟩:∃ n',n'=turnAll P0 (PS.take (j+1)):=⟨_,rfl⟩
        rw [←hns2] at hns' hbt
        have HBT4:=Lib.hid hbt
        have HNS2:=Lib.hid hns2
        clear hbt hns2 hn0
        go_upto_region 9 with fail
        have hS:W4.drew.cell? ⟨b7,0,none⟩=some (.int .u32 (p:Int)):=(cell_of_row W4.drew b7 0 _ _ _ h74).trans rfl
        have HB5:Hid (Below w.heap.size w W4.drew):=Lib.hid ⟨HB4.out.os,HB4.out.tape,HB4.out.output,HB4.out.size,HB4.out.block⟩
        have HO5:Hid (W4.drew.ownsRow w.heap.size 142 17 (.slice (some ⟨g5,0,none⟩) 1 c5) 1 (pgCells .u64 0 ns).toList):=Lib.hid (own_kept HO4.out ⟨rfl,rfl,rfl,Nat.le_refl _,fun _ _=>rfl⟩)
        have h75:W4.drew.heap[b7]? = some (.cells (chV p vx) 166 (0,0)):=h74
        have e1:(p:Int) % 1024=(p:Int):=by omega
        have e2:Int.tmod (p:Int) 1024=(p:Int):=by rw [Int.tmod_eq_emod_of_nonneg (by omega)]; omega
        have e3:IntKind.i64.wrap (p:Int)=(p:Int):=IntWalk.i64_in _ (by omega)
        refine wp_region_noPanic ?_
        refine wp_region_held_drew (S:=fun W=>W.cell? ⟨b7,0,none⟩=some (.int .u32 (p:Int))) (by kernel_rfl) hS ?_
        intro hS
        generalize W4.drew=W5 at hS HB5 HO5 h75 ⊢
        clear HB4 HO4 h74
        refine RowLaw.tkV 0 54 (.pointer (some ⟨g5,0,none⟩)) hS ?_
        simp only [RowLaw.lset]
        refine RowLaw.tkV 1 55 (.pointer (some ⟨g5,0,none⟩)) hS ?_
        simp only [RowLaw.lset]
        refine RowLaw.tkV 2 56 (.pointer (some ⟨g5,0,none⟩)) hS ?_
        simp only [RowLaw.lset]
        refine RowLaw.tkV 4 58 (.pointer (some ⟨b7,0,none⟩)) hS ?_
        simp only [RowLaw.lset]
        refine RowLaw.tkV 5 59 (.int .u32 (p:Int)) hS ?_ (hy:=(Or.inl ⟨by rfl,fun w hw=>by go_simp⟩))
        simp only [RowLaw.lset]
        refine RowLaw.tkV 6 60 (.int .u32 (p:Int)) hS ?_
        simp only [RowLaw.lset]
        refine RowLaw.tkV 7 61 (.int .i64 (p:Int)) hS ?_
        simp only [RowLaw.lset]
        clear e1 e2 e3
        have hrg:=range_own HO5.out
        refine wpAnyH_ready (rs:=[3]) (by kernel_rfl) (by simp) ?_
        refine AllReadyH.cons rfl (fun K hK=>?_) AllReadyH.nil
        rw [if_pos (by rfl)]
        refine wp_load_arr 142 _ rfl g5 0 rfl (pgCells .u64 0 ns) _ hrg Tryz.underlying142 rfl (sizeP 0 ns hns) ?_
        refine hK _ _ hS (fun _=>?_)
        clear hK K hrg
        try simp only [Act.put,List.setIfInBounds_toArray,RowLaw.lset]
        refine wpAnyH_ready (rs:=[8]) (by kernel_rfl) (by simp) ?_
        refine AllReadyH.cons rfl (fun K hK=>?_) AllReadyH.nil
        rw [if_pos (by rfl)]
        go_simp
        refine (HBT4.out _).mono ?_
        clear HBT4
        rintro e W6 ⟨rfl,hx⟩
        dsimp only
        have hS6:W6.cell? ⟨b7,0,none⟩=some (.int .u32 (p:Int)):=(cell_of_row W6 b7 0 _ _ _ ((hx.block b7 (Array.getElem?_eq_some_iff.1 h75).1).trans h75)).trans rfl
        have HB6:Hid (Below w.heap.size w W6):=Lib.hid (HB5.out.trans (hx.mono HB5.out.size))
        have HO6:=Lib.hid (own_kept HO5.out hx)
        have HNE:Hid (b7≠g5):=Lib.hid (fun e=>own_ne HO5.out h75 (by decide) (by rw [e]; rfl))
        refine hK _ _ hS6 (fun _=>?_)
        clear hK K hS h75 HB5 HO5 hx
        have hS:=hS6
        clear hS6
        try simp only [Act.put,List.setIfInBounds_toArray,RowLaw.lset]
        refine RowLaw.tkV 9 53 (.tuple #[.agg (pgCells .u64 0 ns'),.int .i64 0]) hS ?_
        simp only [RowLaw.lset]
        refine RowLaw.tkV 10 63 (.agg (pgCells .u64 0 ns')) hS ?_
        simp only [RowLaw.lset]
        refine RowLaw.tkV 11 64 (.int .i64 0) hS ?_
        simp only [RowLaw.lset]
        refine RowLaw.tkV 12 65 (.pointer (some ⟨g5,0,none⟩)) hS ?_
        simp only [RowLaw.lset]
        refine wpAnyH_ready (rs:=[13]) (by kernel_rfl) (by simp) ?_
        refine AllReadyH.cons rfl (fun K hK=>?_) AllReadyH.nil
        rw [if_pos (by rfl)]
        have hth:=there_own HO6.out
        rw [Array.length_toList,size_of_pick hns,←size_of_pick (k:=0) hns'] at hth
        refine wp_store_mid 142 _ _ rfl g5 0 (pgCells .u64 0 ns') rfl rfl hth (sizeP 0 ns' hns') (pgCells_one _ _) ?_
        have h7o:=own_setAll HO6.out (vs:=(pgCells .u64 0 ns').toList) (by rw [Array.length_toList,Array.length_toList,size_of_pick hns,size_of_pick hns'])
        have hge:w.heap.size≤g5:=(HO6.out.lt g5 rfl).1
        have hSF:(W6.setCells g5 0 (pgCells .u64 0 ns').toList).cell? ⟨b7,0,none⟩=some (.int .u32 (p:Int)):=by
          rw [cell_setCells_other _ _ _ _ _ HNE.out]
          exact hS
        refine hK _ _ hSF (fun _=>?_)
        clear hK K hSF hS hth
        have HOF:=Lib.hid h7o.1
        have HBF:=Lib.hid (h7o.2 hge w HB6.out)
        clear h7o HO6 HB6
        generalize W6.setCells g5 0 (pgCells .u64 0 ns').toList=WF at HOF HBF ⊢
        try simp only [Act.put,List.setIfInBounds_toArray,RowLaw.lset]
        refine wpAnyH_done (by kernel_rfl) ?_ _
        refine NoPanic.normal ?_
        go_wp2_with fail
        go_roundw
        case rel=>exact ⟨j+1,by omega,by go_num,HBF.out,⟨fun h=>absurd h (by omega),fun _=>by rw [←HNS2.out]; exact HOF.out⟩⟩
        case measure=>simp [intOf]; omega
    · obtain rfl:j=M.length:=by omega
      have i1:¬ (M.length:Int) < (M.length:Int):=by omega
      have HF:Hid (PkRow wr w.heap.size u5 M.length (turnAll P0 PS)):=Lib.hid (by rw [←HALL.out]; exact hp)
      clear hp
      go_wp2_with fail
      go_ret
      exact ⟨u5,rfl,HF.out,hb⟩
end
end Cnt
namespace Cnt
open Go.RowKit Go.Maps Go.MapKept RowLaw Crc
open Dev (Dev DS ptr Turn Step new_cells putCells putCells_one putCells_length pendCells pendCells_append infoPut sizePut size_of_putCells run_buildPut)
open Tal (pgCells pgCells_size pgCells_one IsPg kT kP fT fP infoP infoT zs zs_length sizeP sizeT putB putB_length)
open Rot (planOk tlN pkN fsN wpList_build_run)
def chs (T:TD) (ks:List Nat):List Nat:=ks.filter (fun p=>decide (chg T p≠[]))
def tlPut (T:TD) (p:Nat):Nat×List UInt8:=(other (tlAt T p),putB kT p (T.now p))
def pkPut (T:TD) (ps:List Nat):Nat×List UInt8:=(other (pkAt T 0),putB kP 0 (turnAll (T.PV 0) ps))
def sealL (T:TD) (ks:List Nat):List (Nat×List UInt8):=(chs T ks).map (tlPut T) ++ (if chs T ks=[] then [] else [pkPut T (chs T ks)])
def sealCh (T:TD) (ks:List Nat):Nat:=if chs T ks=[] then T.ch else other T.ch
theorem tlPut_len {T:TD} (h:TOk T) (p:Nat):(tlPut T p).2.length=256:=putB_length fT p (h.now p).1
theorem pkPut_len {T:TD} (h:TOk T) (ps:List Nat):(pkPut T ps).2.length=256:=putB_length fP 0 ((turnAll_length ps _).trans (h.pl 0))
theorem wpList_load_arr {P:Program} {ops:Array Oper} {rest:List Oper} {op:Oper} {a:Act} {w:World} {Q:Exit→Act→World→Prop} (hgd:op.guard=none) (ty:TypeId) (x:Operand) (ho:op.op=.load ty x)
  (b o:Nat) (hx:a.eval x=.pointer (some ⟨b,o,none⟩)) (A:Array Value) (d:TypeDesc) (hc:w.rangeAt b o A.toList)
  (hu: P.underlying ty=some d) (hd: d.isRow=true) (hi: (P.info? ty).map (·.size)=some A.size) (h: wpList P ops Q rest (a.put op.dst (.agg A)) w): wpList P ops Q (op::rest) a w:=
 wpList_plain hgd fun _ hK=>wp_load_arr ty x ho b o hx A d hc hu hd hi (hK _ _ h)
section
variable {w:World} {t bp bt bc:Nat} {fp ft fc:Nat→Option Nat} {B C:List Nat} {T:TD} {s:DS}
theorem TabAt.set_facts (hT:TabAt w t bp bt bc fp ft fc B T) {p:Nat} (h:(T.C p).isSome=true):∃ q7,fc p=some q7∧p < tlN T.n∧(∃ x,fp (p / 1024)=some x)∧∀ W,Below w.heap.size w W→IsPg .u16 137 W q7 p (T.now p):=by
 obtain ⟨ns,hns⟩:=Option.isSome_iff_exists.1 h
 obtain ⟨q7,hq,hp⟩:=hT.fc_some hns
 obtain ⟨q6,hf6⟩:=hT.has p q7 hq
 refine ⟨q7,hq,hT.ok.ck p ns hns,hT.hasP p q6 hf6,fun W hW=>?_⟩
 rw [now_some hns]
 exact (hW.block q7 (hT.ltB q7 (hT.pc p q7 hq).2)).trans hp
theorem Seal_any {N:Nat} (hS:SortOk N) (hT:TabAt w t bp bt bc fp ft fc B T) (hd:Dev w T.d C s) (hr:Reads s T) (hN:∀ ss:List Nat,ss.Nodup→(∀ a,a∈ss↔(T.C a).isSome=true)→ss.length≤N) (hsm:T.n≤65536) :
    Calls Tryz.prog 19 #[ptr t] w fun e w'=>∃ (v:Value) (ks:List Nat),e=.returned (.tuple #[v,.int .u32 (sealCh T ks:Int),.int .i64 0])∧ks.Pairwise (· < ·)∧(∀ a,a∈ks↔(T.C a).isSome=true)∧
      w'.ownsRow w.heap.size 55 257 v (sealL T ks).length (pendCells (sealL T ks))∧Below w.heap.size w w':=by
  have hE:=exists_yesT hT
  obtain ⟨n1,n2⟩:=plan_of hT.ok.plan
  have npl:=Rot.plan_facts n1 n2
  have htl:tlN T.n≤1024:=by omega
  have hpk:0 < pkN T.n:=by omega
  clear npl n1 n2
  have HCH:=Lib.hid (fun W (hW:Below w.heap.size w W)=>changes_any hS (hT.below hW) hN)
  have HTA:Hid (∀ W,Below w.heap.size w W→∀ p,(T.C p).isSome=true→Calls Tryz.prog 76 #[ptr t,.int .u32 (p:Int)] W fun e w'=>e=.returned (.tuple #[.int .u32 (tlAt T p:Int),.int .i64 0])∧Below W.heap.size W w'):=Lib.hid (fun W hW p hp=>by
    obtain ⟨q7,_,hlt,⟨x,hx⟩,_⟩:=hT.set_facts hp
    exact (tallyAt_any (hT.below hW) (hd.below hW) hr hlt).mono fun e w' h=>by
      obtain ⟨he,_,_,_,_,_,hh⟩:=h
      exact ⟨he,hh x hx⟩)
  have HPA:Hid (∀ W,Below w.heap.size w W→Calls Tryz.prog 80 #[ptr t,.int .u32 0] W fun e w'=>e=.returned (.tuple #[.int .u32 (pkAt T 0:Int),.int .i64 0])∧w'=W):=Lib.hid (fun W hW=>pickAt_any (hT.below hW) hpk)
  have HMT:Hid (∀ p W,(T.C p).isSome=true→Calls Tryz.prog 77 #[.agg (pgCells .u16 p (T.now p)),.int .u32 (tlAt T p:Int),.func (.func 78) #[] #[]] W fun e w'=>e=.returned (.agg (putCells (tlPut T p)).toArray)∧Below W.heap.size W w'):=Lib.hid (fun p W hp=>by
    obtain ⟨q7,_,hlt,_,_⟩:=hT.set_facts hp
    have h1:=tlAt_lt hT.ok hlt
    have h2:=(plan_of hT.ok.plan).2
    exact moveT_any p (T.now p) (hT.ok.now p).1 (fun j hj=>(hT.ok.now p).2 _ (List.getElem_mem hj)) (by omega) W)
  have HMP:Hid (∀ ps W,Calls Tryz.prog 81 #[.agg (pgCells .u64 0 (turnAll (T.PV 0) ps)),.int .u32 (pkAt T 0:Int),.func (.func 82) #[] #[]] W fun e w'=>e=.returned (.agg (putCells (pkPut T ps)).toArray)∧Below W.heap.size W w'):=Lib.hid (fun ps W=>by
    have h1:=pkAt_lt hT.ok hpk
    have h2:=(plan_of hT.ok.plan).2
    exact moveP_any 0 (turnAll (T.PV 0) ps) ((turnAll_length ps _).trans (hT.ok.pl 0)) (fun j hj=>turnAll_lt ps _ (hT.ok.pn 0) _ (List.getElem_mem hj)) (by omega) W)
  have HMC:Hid (∀ W,Below w.heap.size w W→PMap W bc fc∧W.cell? ⟨t,7,none⟩=some (.map (some bc))∧W.cell? ⟨t,4,none⟩=some (.int .u32 (T.ch:Int))):=Lib.hid (fun W hW=>⟨(hT.below hW).mc,((hT.below hW).cell 7).trans rfl,((hT.below hW).cell 4).trans rfl⟩)
  have HFC:=Lib.hid (fun p (hp:(T.C p).isSome=true)=>hT.set_facts hp)
  have HTU:=Lib.hid (fun W (hW:Below w.heap.size w W) v M (hM:ChL W w.heap.size v M (chg T)) hlt q0 hq0 hlen=>turned_any (hT.below hW) (hd.below hW) hr hM hlt (q0:=q0) hq0 hlen)
  have HLT:=Lib.hid (fun p=>tlPut_len hT.ok p); have HLP:=Lib.hid (fun ps=>pkPut_len hT.ok ps)
  have HTN:Hid (∀ ps,(turnAll (T.PV 0) ps).length=16):=Lib.hid (fun ps=>(turnAll_length ps _).trans (hT.ok.pl 0))
  have hch:=hT.ok.ch
  have hl6:=fun p=>(hT.ok.now p).1
  clear hT hd hr hN hS hpk
  have hzc:=zeroCh
  have hzp:=(zero_of_info infoP).1
  have hiu:(Tryz.prog.info? 166).map (·.size)=some 2:=by kernel_rfl
  obtain ⟨ik,hik0,hik1,hik2,hik3⟩:=info_parts infoPut
  have hz0:(Value.agg (putCells (0,zeros)).toArray).cells.size=257:=by
    show (putCells (0,zeros)).toArray.size=257
    rw [List.size_toArray,putCells_length zeros_length]
  unfold ptr at hE HTA HPA ⊢
  have HE:=Lib.hid hE
  clear hE
  go_enter Tryz.func19,Tryz.ntmps19
  go_upto_region 4 with ((with_reducible refine HE.out.mono ?_); rintro e W1 ⟨rfl,rfl⟩)
  have hS0:W1.drew.cell? ⟨t,4,none⟩=some (.int .u32 (T.ch:Int)):=(HMC.out W1 (Below.refl _ _)).2.2
  have hcc:=HCH.out W1.drew ⟨rfl,rfl,rfl,Nat.le_refl _,fun _ _=>rfl⟩
  clear HE HCH
  unfold ptr at hcc
  have HCC:=Lib.hid hcc
  clear hcc
  refine wp_region_noPanic ?_
  refine wp_region_held_drew (S:=fun W=>W.cell? ⟨t,4,none⟩=some (.int .u32 (T.ch:Int))) (by kernel_rfl) hS0 ?_
  intro hS
  clear hS0
  refine RowLaw.tkV 0 19 (.pointer (some ⟨t,0,none⟩)) hS ?_
  simp only [RowLaw.lset]
  refine RowLaw.tkV 2 21 (.pointer (some ⟨t,0,none⟩)) hS ?_
  simp only [RowLaw.lset]
  refine RowLaw.tkV 3 22 (.pointer (some ⟨t,0,none⟩)) hS ?_
  simp only [RowLaw.lset]
  refine RowLaw.tkV 4 23 (.pointer (some ⟨t,4,none⟩)) hS ?_
  simp only [RowLaw.lset]
  refine RowLaw.tkV 5 24 (.int .u32 (T.ch:Int)) hS ?_ (hy:=(Or.inl ⟨by rfl,fun w hw=>by go_simp⟩))
  simp only [RowLaw.lset]
  refine wpAnyH_ready (rs:=[1]) (by kernel_rfl) (by simp) ?_
  refine AllReadyH.cons rfl (fun K hK=>?_) AllReadyH.nil
  rw [if_pos (by rfl)]
  go_simp
  refine HCC.out.mono ?_
  clear HCC
  rintro e W2 ⟨vc,M,ks,rfl,hpw,hmem,hMk,hM,hx⟩
  dsimp only
  replace hx:Below W1.heap.size W1 W2:=(Below.refl _ W1).drew.trans hx
  replace hM:ChL W2 W1.heap.size vc M (chg T):=hM
  have hS2:W2.cell? ⟨t,4,none⟩=some (.int .u32 (T.ch:Int)):=(HMC.out W2 hx).2.2
  refine hK _ _ hS2 (fun _=>?_)
  clear hK K hS
  have hS:=hS2
  clear hS2
  try simp only [Act.put,List.setIfInBounds_toArray,RowLaw.lset]
  refine RowLaw.tkV 6 6 (vc) hS ?_
  simp only [RowLaw.lset]
  refine RowLaw.tkV 7 7 (.int .u32 (T.ch:Int)) hS ?_
  simp only [RowLaw.lset]
  refine wpAnyH_done (by kernel_rfl) ?_ _
  refine NoPanic.normal ?_
  clear hS
  obtain ⟨pv,cv,hv,hcell⟩:=own_slice hM.row
  subst hv
  have hMs:∀ j (hj:j < M.length),(T.C M[j].1).isSome=true:=fun j hj=>by
    have h1:M[j].1∈M.map (·.1):=List.mem_map.2 ⟨_,List.getElem_mem hj,rfl⟩
    rw [hMk,List.mem_filter] at h1
    exact (hmem _).1 h1.1
  have hMlt:∀ x∈M,x.1 < 1024:=fun x hx'=>by
    obtain ⟨j,hj,rfl⟩:=List.getElem_of_mem hx'
    obtain ⟨_,_,h1,_⟩:=HFC.out _ (hMs j hj)
    omega
  have hMn:M.length≤1024:=by
    have h1:(M.map (·.1)).Nodup:=by
      rw [hMk]
      exact ((hpw.imp fun h=>Nat.ne_of_lt h).filter _)
    have h2:=nodup_len 1024 _ h1 (fun x hx'=>by
      obtain ⟨y,hy,rfl⟩:=List.mem_map.1 hx'
      exact hMlt y hy)
    rwa [List.length_map] at h2
  have HC:Hid (∀ W,Below W2.heap.size W2 W→∀ j (hj:j < M.length),∃ g,pv=some ⟨g,0,none⟩∧W.rangeAt g (j * 2) [.int .u32 (M[j].1:Int),M[j].2]∧M[j].2.oneCell'=true):=Lib.hid (fun W hW j hj=>by
    have hM':=hM.kept hW
    obtain ⟨pv',cv',he,hc⟩:=own_slice hM'.row
    cases he
    have hcc:∀ i,i < 2→(chCells M)[j * 2+i]? = [Value.int .u32 (M[j].1:Int),M[j].2][i]?:=fun i hi=>chCells_get M j hj i hi
    obtain ⟨g,hg,_⟩:=hc (j * 2) (.int .u32 (M[j].1:Int)) (hcc 0 (by omega)) (by omega)
    refine ⟨g,hg,fun i u hu=>?_,own_one (hM'.each _ (List.getElem_mem hj))⟩
    have hi:i < 2:=(List.getElem?_eq_some_iff.1 hu).1
    obtain ⟨g',hg',hcu⟩:=hc (j * 2+i) u ((hcc i hi).trans hu) (by omega)
    rw [hg] at hg'
    cases hg'
    exact hcu)
  have HMK:=Lib.hid hMk; have HPW:=Lib.hid hpw; have HMEM:=Lib.hid hmem; have HM:=Lib.hid hM; have HMS:=Lib.hid hMs; have HML:=Lib.hid hMlt; have HX:=Lib.hid hx
  have HPS:Hid (∀ j (hj:j < M.length),(M.map (·.1)).take (j+1)=(M.map (·.1)).take j ++ [M[j].1]):=Lib.hid (fun j hj=>by rw [List.take_succ_eq_append_getElem (by simpa using hj)]; simp)
  have HALL:Hid ((M.map (·.1)).take M.length=M.map (·.1)):=Lib.hid (by rw [List.take_of_length_le (by simp)])
  have HLEN:Hid (∀ j,j≤M.length→(((M.map (·.1)).take j).map (tlPut T)).length=j):=Lib.hid (fun j hj=>by simp; omega)
  have hbs:Below W2.heap.size W2 W2:=Below.refl _ _
  have hr0:W2.ownsRow W1.heap.size 55 257 (.slice none 0 0) 0 (pendCells []):=World.ownsRow_nil _ _ _ _
  clear hMk hpw hmem hM hMs hMlt hcell hx
  have HXB:Hid (∀ W,Below W2.heap.size W2 W→Below W1.heap.size W1 W):=Lib.hid (fun W hW=>HX.out.trans (hW.mono HX.out.size))
  have hr0:W2.ownsRow W2.heap.size 55 257 (.slice none 0 0) 0 (pendCells (((M.map (·.1)).take 0).map (tlPut T))):=World.ownsRow_nil _ _ _ _
  go_wp2_with fail
  go_loopw [5,27] (fun v5 i wr=>∃ j:Nat,j≤M.length∧i=.int .i64 j∧Below W2.heap.size W2 wr∧wr.ownsRow W2.heap.size 55 257 v5 j (pendCells (((M.map (·.1)).take j).map (tlPut T)))) (fun _ i _=>M.length - (intOf i).toNat)
  case atStart=>exact ⟨0,Nat.zero_le _,rfl,hbs,hr0⟩
  case round=>
    clear hbs hr0
    obtain ⟨j,hj,rfl,hb,hrow⟩:=hrel
    by_cases hlt:j < M.length
    · obtain ⟨g,hg,hrg,hone⟩:=HC.out wr hb j hlt
      have hsome:=HMS.out j hlt
      have hps:=HPS.out j hlt
      have hp10:=HML.out _ (List.getElem_mem hlt)
      generalize M[j].2=vx at hrg hone
      generalize M[j].1=p at hrg hsome hps hp10
      obtain ⟨q7,hf7,hlt7,_,hp7⟩:=HFC.out p hsome
      have HPQ:=Lib.hid hps
      have HB1:Hid (Below W2.heap.size W2 (wr.alloc (.cells (chV p vx) 166))):=Lib.hid (hb.alloc hb.size _)
      have HR1:Hid ((wr.alloc (.cells (chV p vx) 166)).ownsRow W2.heap.size 55 257 u5 j (pendCells (((M.map (·.1)).take j).map (tlPut T)))):=Lib.hid (own_kept hrow ((Below.refl _ _).alloc (Nat.le_refl _) _))
      have h9:(wr.alloc (.cells (chV p vx) 166)).heap[wr.heap.size]? = some (.cells (chV p vx) 166 (0,0)):=heap_alloc_new wr _
      have hvo:=chV_one p hone
      have i0:(0:Int)≤(j:Int):=by omega
      have i1:(j:Int) < (M.length:Int):=by omega
      have z1:IntKind.i64.wrap ((j:Int)+1)=(j:Int)+1:=IntWalk.i64_in _ (by omega)
      have hp32:p < 4294967296:=by omega
      have HF7:=Lib.hid hf7; have HP7:=Lib.hid hp7; have HSOME:=Lib.hid hsome
      subst hg
      clear hb hrow hps hf7 hp7 hsome
      have tok:True:=trivial
      go_upto_region 8 with (first
        | (refine wpList_load_mid rfl 166 _ rfl g (j * 2) rfl _ _ hrg Tryz.underlying166 rfl hiu ?_)
        | (have _t:=tok; refine wpList_store_new rfl 166 _ _ rfl (chV p vx) _ _ rfl rfl (sizeCh _ _) rfl hvo ?_; change wpList _ _ _ _ _ (wr.alloc (.cells (chV p vx) 166)); clear _t tok))
      change Code.wp _ _ _ _ (wr.alloc (.cells (chV p vx) 166))
      generalize wr.heap.size=b9 at h9 ⊢
      generalize wr.alloc (.cells (chV p vx) 166)=W3 at HB1 HR1 h9 ⊢
      clear hrg hvo
      have c9:W3.cell? ⟨b9,0,none⟩=some (.int .u32 (p:Int)):=(cell_of_row W3 b9 0 _ _ _ h9).trans rfl
      have hta:=HTA.out W3 (HXB.out W3 HB1.out) p HSOME.out
      go_wp2_with fail
      refine hta.mono ?_
      clear hta c9
      rintro e W4 ⟨rfl,hx⟩
      have HB4:Hid (Below W2.heap.size W2 W4):=Lib.hid (HB1.out.trans (hx.mono HB1.out.size))
      have HR4:=Lib.hid (own_kept HR1.out hx)
      have H94:Hid (W4.heap[b9]? = some (.cells (chV p vx) 166 (0,0))):=Lib.hid ((hx.block b9 (Array.getElem?_eq_some_iff.1 h9).1).trans h9)
      clear HB1 HR1 h9 hx
      go_upto_region 9 with fail
      have hBd:Below W2.heap.size W2 W4.drew:=⟨HB4.out.os,HB4.out.tape,HB4.out.output,HB4.out.size,HB4.out.block⟩
      have hS:Below W2.heap.size W2 W4.drew∧W4.drew.heap[b9]? = some (.cells (chV p vx) 166 (0,0)):=⟨hBd,H94.out⟩
      have HR5:Hid (W4.drew.ownsRow W2.heap.size 55 257 u5 j (pendCells (((M.map (·.1)).take j).map (tlPut T)))):=Lib.hid (own_kept HR4.out ⟨rfl,rfl,rfl,Nat.le_refl _,fun _ _=>rfl⟩)
      have hmt:=fun W=>HMT.out p W HSOME.out
      have hpl:=HLT.out p
      have hszT:=sizeT p (T.now p) (hl6 p)
      have hnow:(T.now p).length=64:=hl6 p
      obtain ⟨pu,hpu⟩:∃ x,x=tlPut T p:=⟨_,rfl⟩
      rw [←hpu] at hmt hpl
      obtain ⟨nw,hnw⟩:∃ x,x=T.now p:=⟨_,rfl⟩
      rw [←hnw] at hmt hszT
      have HMV:=Lib.hid hmt
      have HP7':Hid (∀ W,Below W2.heap.size W2 W→IsPg .u16 137 W q7 p nw):=Lib.hid (fun W hW=>by rw [hnw]; exact HP7.out W (HXB.out W hW))
      have HPU:=Lib.hid hpu
      obtain ⟨ta,hta⟩:∃ x,x=tlAt T p:=⟨_,rfl⟩
      rw [←hta] at HMV ⊢
      clear hBd hpu hnw hmt hta HB4 HR4 H94 HP7 hnow
      refine wp_region_noPanic ?_
      refine wp_region_held_drew (S:=fun W=>Below W2.heap.size W2 W∧W.heap[b9]? = some (.cells (chV p vx) 166 (0,0))) (by kernel_rfl) hS ?_
      intro hS
      generalize W4.drew=W5 at hS HR5 ⊢
      refine RowLaw.tkV 0 38 (u5) hS ?_
      simp only [RowLaw.lset]
      refine RowLaw.tkV 1 39 (.pointer (some ⟨t,0,none⟩)) hS ?_
      simp only [RowLaw.lset]
      refine RowLaw.tkV 2 40 (.pointer (some ⟨t,0,none⟩)) hS ?_
      simp only [RowLaw.lset]
      refine RowLaw.tkV 3 41 (.pointer (some ⟨t,7,none⟩)) hS ?_
      simp only [RowLaw.lset]
      refine RowLaw.tkV 4 42 (.map (some bc)) hS ?_ (hy:=(Or.inl ⟨by rfl,fun w hw=>by have c:=(HMC.out w (HXB.out w hw.1)).2.1; go_simp⟩))
      simp only [RowLaw.lset]
      refine RowLaw.tkV 5 43 (.pointer (some ⟨b9,0,none⟩)) hS ?_
      simp only [RowLaw.lset]
      refine RowLaw.tkV 6 44 (.int .u32 (p:Int)) hS ?_ (hy:=(Or.inl ⟨by rfl,fun w hw=>by have c:w.cell? ⟨b9,0,none⟩=some (.int .u32 (p:Int)):=(cell_of_row w b9 0 _ _ _ hw.2).trans rfl; go_simp⟩))
      simp only [RowLaw.lset]
      refine RowLaw.tkV 7 45 (.pointer (some ⟨q7,0,none⟩)) hS ?_ (hy:=(Or.inl ⟨by rfl,fun W hw=>exec_look rfl Tryz.underlying22 Tryz.underlying157 (zeroT _) (HMC.out W (HXB.out W hw.1)).1 hp32 HF7.out rfl rfl⟩))
      simp only [RowLaw.lset]
      refine RowLaw.tkV 8 46 (.pointer (some ⟨q7,0,none⟩)) hS ?_
      simp only [RowLaw.lset]
      refine RowLaw.tkV 9 47 (.agg (pgCells .u16 p nw)) hS ?_ (hy:=(yieldsIf_load_row (by rfl) 137 _ rfl q7 rfl _ _ _ _ (fun W hW=>HP7'.out W hW.1) Tryz.underlying137 rfl hszT))
      simp only [RowLaw.lset]
      refine RowLaw.tkV 10 48 (.int .u32 (ta:Int)) hS ?_
      simp only [RowLaw.lset]
      refine wpAnyH_ready (rs:=[11]) (by kernel_rfl) (by simp) ?_
      refine AllReadyH.cons rfl (fun K hK=>?_) AllReadyH.nil
      rw [if_pos (by rfl)]
      go_simp
      refine (HMV.out _).mono ?_
      clear HMV
      rintro e W6 ⟨rfl,hx⟩
      dsimp only
      have hS6:Below W2.heap.size W2 W6∧W6.heap[b9]? = some (.cells (chV p vx) 166 (0,0)):=⟨hS.1.trans (hx.mono hS.1.size),(hx.block b9 (Array.getElem?_eq_some_iff.1 hS.2).1).trans hS.2⟩
      have HR6:=Lib.hid (own_kept HR5.out hx)
      refine hK _ _ hS6 (fun _=>?_)
      clear hK K hS HR5 hx
      have hS:=hS6
      clear hS6
      try simp only [Act.put,List.setIfInBounds_toArray,RowLaw.lset]
      refine wpAnyH_ready (rs:=[12]) (by kernel_rfl) (by simp) ?_
      refine AllReadyH.cons rfl (fun K hK=>?_) AllReadyH.nil
      rw [if_pos (by rfl)]
      refine wp_slice_row _ 44 1 #[(0,.tmp 49)] rfl #[(0,.agg (putCells pu).toArray)] (by first | rfl | (simp [Act.eval]; done) | (simp [Act.eval]; rfl)) _ (run_buildPut W6 pu hpl) ?_
      have hSA:Below W2.heap.size W2 (W6.alloc (.cells (putCells pu).toArray 55))∧(W6.alloc (.cells (putCells pu).toArray 55)).heap[b9]? = some (.cells (chV p vx) 166 (0,0)):=⟨hS.1.alloc hS.1.size _,(Below.heap_alloc _ _ b9 (Array.getElem?_eq_some_iff.1 hS.2).1).trans hS.2⟩
      have HRA:=Lib.hid (own_kept HR6.out ((Below.refl _ _).alloc (Nat.le_refl _) (.cells (putCells pu).toArray 55)))
      refine hK _ _ hSA (fun _=>?_)
      clear hK K
      try simp only [Act.put,List.setIfInBounds_toArray,RowLaw.lset]
      refine wpAnyH_ready (rs:=[13]) (by kernel_rfl) (by simp) ?_
      refine AllReadyH.cons rfl (fun K hK=>?_) AllReadyH.nil
      rw [if_pos (by rfl)]
      refine wp_append_lies _ _ _ 44 rfl W2.heap.size 55 ik (.agg (putCells (0,zeros)).toArray) 257 260 Tryz.underlying44 hik0 hik1 hik2 hik3 hz0 (by decide) u5 j (pendCells (((M.map (·.1)).take j).map (tlPut T))) rfl HRA.out ⟨W6.heap.size,0,none⟩ 1 1 (putCells pu) rfl (by rw [putCells_length hpl]) (new_cells W6 (putCells pu) 55) (putCells_one pu) (by decide) (Nat.le_trans (show j+1≤1025 by omega) (by decide)) (by omega) (by have:=hSA.1.size; exact this) _ rfl ?_
      intro g5 cap W7 hown hgr _ _
      have hSB:Below W2.heap.size W2 W7∧W7.heap[b9]? = some (.cells (chV p vx) 166 (0,0)):=⟨hSA.1.grown hgr hSA.1.size (fun x e=>(HRA.out.lt x e).1),(hgr.block b9 (Array.getElem?_eq_some_iff.1 hSA.2).1 (own_ne HRA.out hSA.2 (by decide))).trans hSA.2⟩
      refine hK _ _ hSB (fun _=>?_)
      clear hK K hSA hS HRA HR6
      have HO:=Lib.hid hown
      clear hown hgr
      have hS:=hSB
      clear hSB
      try simp only [Act.put,List.setIfInBounds_toArray,RowLaw.lset]
      refine wpAnyH_take (i:=14) (v:=.slice (some ⟨g5,0,none⟩) (j+1) cap) rfl (by kernel_rfl) (by kernel_rfl) (by kernel_rfl) (fun _ _ _ h=>(h:False).elim) (Or.inl ⟨by rfl,fun _ _=>by go_simp⟩) hS ?_
      change wpAnyH _ _ _ _ _ _ _ (Act.put _ (some 5) _) _
      simp only [Act.put,List.setIfInBounds_toArray,RowLaw.lset]
      refine wpAnyH_done (by kernel_rfl) ?_ _
      refine NoPanic.normal ?_
      have HBF:=Lib.hid hS.1
      clear hS
      go_wp2_with fail
      go_roundw
      case rel=>
        refine ⟨j+1,by omega,by go_num,HBF.out,?_⟩
        rw [HPQ.out,List.map_append,pendCells_append,List.map_cons,List.map_nil,←HPU.out,show pendCells [pu]=putCells pu from by simp [pendCells]]
        exact HO.out
      case measure=>simp [intOf]; omega
    · obtain rfl:j=M.length:=by omega
      have i1:¬ (M.length:Int) < (M.length:Int):=by omega
      have hfull:=HALL.out
      rw [hfull] at hrow
      have HCS:Hid (chs T ks=M.map (·.1)):=Lib.hid HMK.out.symm
      have HB1:=Lib.hid hb; have HR1:=Lib.hid hrow
      have HCM:=Lib.hid (HM.out.kept hb)
      have HQ0:Hid (M≠[]→∃ q0,fp 0=some q0):=Lib.hid (fun h=>by
        have hj:0 < M.length:=List.length_pos_iff.2 h
        obtain ⟨_,_,_,⟨x,hx⟩,_⟩:=HFC.out _ (HMS.out 0 hj)
        rw [Nat.div_eq_of_lt (HML.out _ (List.getElem_mem hj))] at hx
        exact ⟨x,hx⟩)
      clear hb hrow hfull HC HPS HLEN HTA HMT HMC HFC
      by_cases hM0:M=[]
      · have htu:=HTU.out wr (HXB.out wr HB1.out) _ M HCM.out HML.out 0 (fun h=>absurd hM0 h) (by omega)
        unfold ptr at htu
        have hml:M.length=0:=by rw [hM0]; rfl
        have HML0:=Lib.hid hml; have HM0:=Lib.hid hM0
        have HTX:=Lib.hid htu
        clear htu hM0 hml
        go_wp2_with fail
        refine HTX.out.mono ?_
        clear HTX
        rintro e W4 ⟨vp,rfl,hpk,hx⟩
        obtain rfl:=hpk.1 HML0.out
        have HBF:Hid (Below W2.heap.size W2 W4):=Lib.hid (HB1.out.trans (hx.mono HB1.out.size))
        have HRF:=Lib.hid (own_kept HR1.out hx)
        clear hpk hx
        go_wp2_with fail
        go_loopw [5,7,57] (fun v5 c i W=>v5=u5∧c=.int .u32 (T.ch:Int)∧i=.int .i64 0∧W=W4) (fun _ _ _ _=>0)
        case atStart=>exact ⟨rfl,rfl,rfl,rfl⟩
        case round=>
          obtain ⟨rfl,rfl,rfl,rfl⟩:=hrel
          go_wp2_with fail
          go_ret3
          have e1:sealCh T ks=T.ch:=by unfold sealCh; rw [HCS.out,HM0.out]; simp
          have e2:sealL T ks=(M.map (·.1)).map (tlPut T):=by unfold sealL; rw [HCS.out,HM0.out]; simp
          refine ⟨_,ks,by rw [e1]; rfl,HPW.out,HMEM.out,?_,HXB.out _ HBF.out⟩
          rw [e2,show ((M.map (·.1)).map (tlPut T)).length=M.length from by simp]
          exact own_base HRF.out HX.out.size
      · obtain ⟨q0,hq0⟩:=HQ0.out hM0
        have htu:=HTU.out wr (HXB.out wr HB1.out) _ M HCM.out HML.out q0 (fun _=>hq0) (by omega)
        unfold ptr at htu
        have hml:0 < M.length:=List.length_pos_iff.2 hM0
        have HML0:=Lib.hid hml; have HM0:=Lib.hid hM0
        have HTX:=Lib.hid htu
        clear htu hM0 hml hq0
        go_wp2_with fail
        refine HTX.out.mono ?_
        clear HTX
        rintro e W4 ⟨vp,rfl,hpk,hx⟩
        have hpr:=own_base (hpk.2 HML0.out) HB1.out.size
        obtain ⟨pv5,c5,rfl,hc5⟩:=own_slice hpr
        obtain ⟨g5,rfl,_⟩:=hc5 0 (.int .u32 0) (by simp [pgCells]) (by omega)
        have hns:=HTN.out (M.map (·.1))
        have hmp:=fun W=>HMP.out (M.map (·.1)) W
        have hpl:=HLP.out (M.map (·.1))
        obtain ⟨pu,hpu⟩:∃ x,x=pkPut T (M.map (·.1)):=⟨_,rfl⟩
        rw [←hpu] at hmp hpl
        have HPU:=Lib.hid hpu
        have HBF:Hid (Below W2.heap.size W2 W4):=Lib.hid (HB1.out.trans (hx.mono HB1.out.size))
        have HRF:=Lib.hid (own_kept HR1.out hx)
        obtain ⟨ns,hnn⟩:∃ x,x=turnAll (T.PV 0) (M.map (·.1)):=⟨_,rfl⟩
        rw [←hnn] at hpr hns hmp
        obtain ⟨pa,hpa⟩:∃ x,x=pkAt T 0:=⟨_,rfl⟩
        rw [←hpa] at hmp HPA
        have HMV:=Lib.hid hmp; have HPR:=Lib.hid hpr
        have hx1:=xor_u32 T.ch 1 hch (by decide)
        have hoa:T.ch ^^^ 1=other T.ch:=rfl
        rw [hoa] at hx1
        have HX1:=Lib.hid hx1
        clear hpk hx hc5 hpu hnn hpa hmp hpr hx1 hoa
        go_wp2_with fail
        go_loopw [5,7,57] (fun v5 c i W=>Below W2.heap.size W2 W∧W.ownsRow W2.heap.size 142 17 (.slice (some ⟨g5,0,none⟩) 1 c5) 1 (pgCells .u64 0 ns).toList∧((i=.int .i64 0∧c=.int .u32 (T.ch:Int)∧W.ownsRow W2.heap.size 55 257 v5 M.length (pendCells ((M.map (·.1)).map (tlPut T))))∨(i=.int .i64 1∧c=.int .u32 (other T.ch:Int)∧W.ownsRow W2.heap.size 55 257 v5 (M.length+1) (pendCells ((M.map (·.1)).map (tlPut T) ++ [pu]))))) (fun _ _ i _=>1 - (intOf i).toNat)
        case atStart=>exact ⟨HBF.out,HPR.out,.inl ⟨rfl,rfl,HRF.out⟩⟩
        case round=>
          clear HBF HPR HRF
          obtain ⟨hb,hpr,⟨rfl,rfl,hrow⟩ | ⟨rfl,rfl,hrow⟩⟩:=hrel
          · have hrg:=range_own hpr
            have hip:=sizeP 0 ns hns
            have hzz:(pgCells .u64 0 (zs kP)).size=(pgCells .u64 0 ns).size:=by rw [size_of_pick hns,size_of_pick (zs_length kP)]
            have HB6:Hid (Below W2.heap.size W2 (wr.alloc (.cells (pgCells .u64 0 ns) 142))):=Lib.hid (hb.alloc hb.size _)
            have HP6:=Lib.hid (own_kept hpr ((Below.refl _ _).alloc (Nat.le_refl _) (.cells (pgCells .u64 0 ns) 142)))
            have HR6:=Lib.hid (own_kept hrow ((Below.refl _ _).alloc (Nat.le_refl _) (.cells (pgCells .u64 0 ns) 142)))
            have h13:=IsPg.new .u64 142 wr 0 ns
            clear hb hpr hrow
            have tok:True:=trivial
            go_upto_region 14 with (first
              | (refine wpList_load_arr rfl 142 _ rfl g5 0 rfl (pgCells .u64 0 ns) _ hrg Tryz.underlying142 rfl hip ?_)
              | (have _t:=tok; refine wpList_store_new rfl 142 _ _ rfl (pgCells .u64 0 ns) _ _ rfl rfl hip hzz (pgCells_one _ _) ?_; change wpList _ _ _ _ _ (wr.alloc (.cells (pgCells .u64 0 ns) 142)); clear _t tok))
            change Code.wp _ _ _ _ (wr.alloc (.cells (pgCells .u64 0 ns) 142))
            generalize wr.heap.size=b13 at h13 ⊢
            generalize wr.alloc (.cells (pgCells .u64 0 ns) 142)=W6 at HB6 HP6 HR6 h13 ⊢
            clear hrg hzz
            have c13:W6.cell? ⟨b13,0,none⟩=some (.int .u32 0):=h13.index
            have hpc:=HPA.out W6 (HXB.out W6 HB6.out)
            go_wp2_with fail
            refine hpc.mono ?_
            clear hpc
            rintro e W ⟨rfl,hW⟩
            subst hW
            have r13:W.heap[b13]? = some (.cells (pgCells .u64 0 ns) 142 (0,0)):=h13
            go_wp2_with (refine wpList_load_row rfl 142 _ rfl b13 rfl _ _ _ _ r13 Tryz.underlying142 rfl hip ?_)
            refine (HMV.out _).mono ?_
            clear HMV c13 h13
            rintro e W7 ⟨rfl,hx⟩
            have HB7:Hid (Below W2.heap.size W2 (W7.alloc (.cells (putCells pu).toArray 55))):=Lib.hid ((HB6.out.trans (hx.mono HB6.out.size)).alloc (Nat.le_trans HB6.out.size hx.size) _)
            have HP7:=Lib.hid (own_kept (own_kept HP6.out hx) ((Below.refl _ _).alloc (Nat.le_refl _) (.cells (putCells pu).toArray 55)))
            have HR7:=Lib.hid (own_kept (own_kept HR6.out hx) ((Below.refl _ _).alloc (Nat.le_refl _) (.cells (putCells pu).toArray 55)))
            have H13:Hid ((W7.alloc (.cells (putCells pu).toArray 55)).heap[b13]? = some (.cells (pgCells .u64 0 ns) 142 (0,0))):=Lib.hid (by
              have h1:=(hx.block b13 (Array.getElem?_eq_some_iff.1 r13).1).trans r13
              exact (Below.heap_alloc _ _ b13 (Array.getElem?_eq_some_iff.1 h1).1).trans h1)
            have HBU:=Lib.hid (run_buildPut W7 pu hpl)
            have HNC:=Lib.hid (new_cells W7 (putCells pu) 55)
            have HN1:=Lib.hid (putCells_one pu)
            have HNL:Hid ((putCells pu).length=1 * 257):=Lib.hid (by rw [putCells_length hpl])
            have HPD:Hid (pendCells [pu]=putCells pu):=Lib.hid (by simp [pendCells])
            obtain ⟨pc,hpc⟩:∃ x,x=putCells pu:=⟨_,rfl⟩
            rw [←hpc] at HB7 HP7 HR7 H13 HBU HNC HN1 HNL HPD ⊢
            clear HB6 HP6 HR6 r13 hx hpc
            have tst4:=fun ops rest o a Q hgd s1 x1 ho hs hx h=>wpList_append_own (P:=Tryz.prog) (ops:=ops) (rest:=rest) (o:=o) (a:=a) (Q:=Q) _ hgd s1 x1 44 ho W2.heap.size 55 ik (.agg (putCells (0,zeros)).toArray) 257 260 Tryz.underlying44 hik0 hik1 hik2 hik3 hz0 (by decide) u5 M.length (pendCells ((M.map (·.1)).map (tlPut T))) hs HR7.out ⟨W7.heap.size,0,none⟩ 1 1 pc hx HNL.out HNC.out HN1.out (Nat.le_trans (show M.length+1≤1025 by omega) (by decide)) (by omega) (by have:=HB7.out.size; exact this) h
            have HAP:=Lib.hid tst4
            clear tst4
            go_upto_region 16 with (first
              | (refine wpList_build_run rfl 44 1 #[(0,.tmp 71)] rfl #[(0,.agg pc.toArray)] (by first | rfl | (simp [Act.eval]; done) | (simp [Act.eval]; rfl)) _ HBU.out ?_; clear HBU)
              | (at_builtin; refine HAP.out _ _ _ _ _ rfl _ _ rfl rfl rfl ?_; intro v8 W8 hown hgr _; have HGR:=Lib.hid hgr; have HO8:=Lib.hid hown; clear hgr hown))
            have c13:W8.cell? ⟨b13,0,none⟩=some (.int .u32 0):=(cell_of_row W8 b13 0 _ _ _ ((HGR.out.block b13 (Array.getElem?_eq_some_iff.1 H13.out).1 (own_ne HR7.out H13.out (by decide))).trans H13.out)).trans rfl
            have HB8:Hid (Below W2.heap.size W2 W8):=Lib.hid (HB7.out.grown HGR.out HB7.out.size (fun x e=>(HR7.out.lt x e).1))
            have HP8:=Lib.hid (own_grown HP7.out HR7.out (by decide) HGR.out)
            have hx2:bits .xor .u32 (T.ch:Int) 1=(other T.ch:Int):=HX1.out
            clear HB7 HP7 HR7 H13 HGR HNC HN1 HNL
            go_wp2_with fail
            go_roundw
            case rel=>
              refine ⟨HB8.out,HP8.out,.inr ⟨by go_num,rfl,?_⟩⟩
              rw [pendCells_append,HPD.out]
              exact HO8.out
            case measure=>simp [intOf]
          · go_wp2_with fail
            go_ret3
            have hne:M.map (·.1)≠[]:=fun e=>HM0.out (List.map_eq_nil_iff.1 e)
            have e1:sealCh T ks=other T.ch:=by unfold sealCh; rw [HCS.out,if_neg hne]
            have e2:sealL T ks=(M.map (·.1)).map (tlPut T) ++ [pu]:=by unfold sealL; rw [HCS.out,if_neg hne,HPU.out]
            refine ⟨_,ks,by rw [e1]; rfl,HPW.out,HMEM.out,?_,HXB.out _ hb⟩
            rw [e2,show ((M.map (·.1)).map (tlPut T) ++ [pu]).length=M.length+1 from by simp]
            exact own_base hrow HX.out.size
end
end Cnt
namespace Cnt
open Go.RowKit Go.Maps Go.MapKept RowLaw Crc
open Dev (Dev DS ptr Turn Step)
open Rot (planOk tlN pkN fsN)
section
variable {w:World} {t bp bt bc:Nat} {fp ft fc:Nat→Option Nat} {B C:List Nat} {T:TD} {s:DS}
end
end Cnt
namespace Cnt
open Go.RowKit RowLaw Crc
open Dev (ptr)
section
variable {w:World} {t:Nat}
end
end Cnt

end Go.Proofs.YtgkbfahflngklaaGreat
