import Derived.Test.YtgkbfahflngklaaGreatRotC
import Derived.Test.YtgkbfahflngklaaGreatRotBox
import Derived.Test.YtgkbfahflngklaaGreatCrc3
import Derived.Test.YtgkbfahflngklaaGreatKit1
set_option maxRecDepth 100000
set_option maxHeartbeats 6400000
namespace Go.Proofs.YtgkbfahflngklaaGreat
namespace Rot
open Go.RowKit RowLaw Crc
open Slt (Rt cells rootO rtB rtB_length infoR sizeR cells_one mayB)
open Dev (Dev DS ptr writeS writeE flushS flushE putCells pendCells Box Step Turn)
def Apart (pa:Option Addr) (l:List (Nat×List UInt8)) (B:List Nat):Prop:=l≠[]→∀ a,pa=some a→a.block∉B
theorem runTodo_any {w0 w:World} {p:Nat} {B:List Nat} {s:DS} (hd:Dev w0 p B s) {pa:Option Addr} {c:Nat} {l:List (Nat×List UInt8)} {r:Rt} {g c2 pb lb rb:Nat} {is:List Nat} (hil:is.length=l.length)
  (hT:Todo w0 p pa l.length c r pb lb rb is (.slice (some ⟨g,0,none⟩) (l.length+3) c2) (is.map (fStep pb lb) ++ [fSettle pb,fSwap rb pb,fSettle pb]) (l.length+3) w)
  (hpu:Puts w0 pa l) (hap:Apart pa l B) (hm:mayB r=true) (hf:r.Fits) (hlen:s.pend.length+l.length < 4294967290) :
  Calls Tryz.prog 68 #[.slice (some ⟨g,0,none⟩) (l.length+3) c2] w fun e w'=>e=.returned (.int .i64 (replF s l r).2)∧∃ C,Dev w' p C (replF s l r).1∧Step B w w' C:=by
 have hltB:=hd.ltB
 have hsz:=hT.bel.size
 have hdw:=hd.below hT.bel
 have hnew:∀ q,w0.heap.size≤q→q < w.heap.size→∀ (s':DS) W,Box w B p s' [] W→W.heap[q]? = w.heap[q]?:=fun q h1 h2 s' W hW=>hW.old h2 (fun hm=>by have:=hltB q hm; omega)
 have hgl:w0.heap.size≤g∧g < w.heap.size:=by
  have h:=hT.own
  exact ⟨(h.lt g rfl).1,(h.lt g rfl).2⟩
 have hcell:∀ j,j < l.length+3→w.cell? ⟨g,j,none⟩=(is.map (fStep pb lb) ++ [fSettle pb,fSwap rb pb,fSettle pb])[j]?:=fun j hj=>hT.own.cellAt j (by omega)
 have hdev:∀ (s':DS) W,Box w B p s' [] W→W.cell? ⟨pb,0,none⟩=some (ptr p):=fun s' W hW=>by
  rw [cell_of_row W pb 0 _ _ _ ((hnew pb hT.dev.1 (Array.getElem?_eq_some_iff.1 hT.dev.2).1 s' W hW).trans hT.dev.2)]
  rfl
 have hlst:∀ (s':DS) W,Box w B p s' [] W→W.cell? ⟨lb,0,none⟩=some (.slice pa l.length c):=fun s' W hW=>by
  rw [cell_of_row W lb 0 _ _ _ ((hnew lb hT.lst.1 (Array.getElem?_eq_some_iff.1 hT.lst.2).1 s' W hW).trans hT.lst.2)]
  rfl
 have hrt:∀ (s':DS) W,Box w B p s' [] W→W.heap[rb]? = some (.cells (cells r) 31 (0,0)):=fun s' W hW=>(hnew rb hT.rt.1 (Array.getElem?_eq_some_iff.1 hT.rt.2).1 s' W hW).trans hT.rt.2
 refine (run_any g (l.length+3) c2 (by omega) (fun j=>if j < l.length then 143 else if j=l.length+1 then 147 else 145)
  (fun j=>if j < l.length then #[ptr pb,ptr lb,ptr (is.getD j 0)] else if j=l.length+1 then #[ptr rb,ptr pb] else #[ptr pb]) (esF s l r) (fun k W=>Box w B p (stF s l r k) [] W) w ?_ ?_ ?_ (Box.start hdw)).mono ?_
 ·intro k hk W
  by_cases h1:k < l.length
  ·rw [if_pos h1,if_pos h1]; simp [go_sem]
  ·rw [if_neg h1,if_neg h1]
   by_cases h2:k=l.length+1
   ·rw [if_pos h2,if_pos h2]; simp [go_sem]
   ·rw [if_neg h2,if_neg h2]; simp [go_sem]
 ·intro k W hW j hj
  rw [World.cell?_of_block (w:=w) (a:=⟨g,j,none⟩) (hnew g hgl.1 hgl.2 _ W hW),hcell j hj]
  by_cases h1:j < l.length
  ·rw [if_pos h1,if_pos h1,List.getElem?_append_left (by simp; omega),List.getElem?_map,List.getElem?_eq_getElem (by omega),List.getD_eq_getElem?_getD,List.getElem?_eq_getElem (by omega)]
   rfl
  ·rw [if_neg h1,if_neg h1,List.getElem?_append_right (by simp; omega),List.length_map,hil]
   rcases (by omega:j=l.length∨j=l.length+1∨j=l.length+2) with rfl | rfl | rfl
   ·rw [if_neg (by omega),if_neg (by omega),Nat.sub_self]; rfl
   ·rw [if_pos rfl,if_pos rfl,show l.length+1 - l.length=1 by omega]; rfl
   ·rw [if_neg (by omega),if_neg (by omega),show l.length+2 - l.length=2 by omega]; rfl
 ·intro k hk _ W hW
  have hpl:=stF_pend (s:=s) (l:=l) (r:=r) k
  by_cases h1:k < l.length
  ·rw [if_pos h1,if_pos h1,(esF_w h1).1,(esF_w h1).2]
   have hne:l≠[]:=fun e=>by rw [e] at h1; simp at h1
   obtain ⟨hok,hat⟩:=hpu
   rcases hat with h0 | ⟨b,off,rfl,hb,hat⟩
   ·exact absurd h0 hne
   have hbB:=hap hne _ rfl
   have hxk:=hok _ (List.getElem_mem h1)
   have hik:is.getD k 0=is[k]'(by omega):=by rw [List.getD_eq_getElem?_getD,List.getElem?_eq_getElem (by omega)]; rfl
   have hii:=hT.ints k (by omega)
   have hc2:W.cell? ⟨is.getD k 0,0,none⟩=some (.int .i64 (k:Int)):=by
    rw [hik,cell_of_row W _ 0 _ _ _ ((hnew _ hii.1 (Array.getElem?_eq_some_iff.1 hii.2).1 _ W hW).trans hii.2)]
    rfl
   refine step1_any hW (hdev _ W hW) (hlst _ W hW) hc2 h1 (fun j v hv=>?_) hxk.1 hxk.2 (by omega)
   rw [World.cell?_of_block (w:=w) (a:=⟨b,off+k * 257+j,none⟩) (hW.old (b:=b) (by omega) hbB),World.cell?_of_block (w:=w0) (a:=⟨b,off+k * 257+j,none⟩) (hT.bel.block b hb)]
   exact hat k h1 j v hv
  ·rw [if_neg h1,if_neg h1]
   rcases (by omega:k=l.length∨k=l.length+1∨k=l.length+2) with rfl | rfl | rfl
   ·rw [if_neg (by omega),if_neg (by omega),esF_f.1,esF_f.2]
    exact step2_any hW (hdev _ W hW) (by omega)
   ·rw [if_pos rfl,if_pos rfl,esF_r.1,esF_r.2]
    exact step3_any hW (hrt _ W hW) (fun W' K s' h=>⟨hdev s' W' (h.less (fun _ h=>by cases h)),hrt s' W' (h.less (fun _ h=>by cases h))⟩) hm hf (by omega)
   ·rw [if_neg (by omega),if_neg (by omega),esF_g.1,esF_g.2]
    exact step2_any hW (hdev _ W hW) (by omega)
 ·rintro e W ⟨m,z,rfl,hs,hW⟩
  rw [stop_repl hs]
  exact ⟨rfl,hW.out⟩
end Rot
namespace Rot
open Go.RowKit RowLaw Crc
open Fld (blockO)
open Dev (Dev DS ptr putCells pendCells pendCells_append putCells_length putCells_one infoPut fill_one size_of_putCells run_buildPut below_own new_cells readB readR readE Read_any)
theorem wpList_build_run {P:Program} {ops:Array Oper} {rest:List Oper} {o:Oper} {a:Act} {w W':World} {Q:Exit→Act→World→Prop} (hgd:o.guard=none) (t:TypeId) (n:Nat) (xs:Array (Nat×Operand)) (ho:o.op=.buildSlice t n xs)
  (ps: Array (Nat×Value)) (hx: (xs.map fun x=>(x.1,a.eval x.2))=ps) (v: Value) (hr: (Instr.buildSlice t n ps).run P w=.ok v W') (h: wpList P ops Q rest (a.put o.dst v) W'): wpList P ops Q (o::rest) a w:=
 wpList_plain hgd fun _ hK=>wp_slice_row o t n xs ho ps hx v hr (hK _ _ h)
theorem zeroCells_put:Tryz.zeroCells55=(putCells (0,zeros)).toArray:=by kernel_rfl
theorem zeroCells_at (a:Nat):Tryz.zeroCells55.setIfInBounds 0 (.int .u32 (a:Int))=(putCells (a,zeros)).toArray:=by
 rw [zeroCells_put]
 simp [putCells]
theorem pend_one (x:Nat×List UInt8):pendCells [x]=putCells x:=by simp [pendCells]
theorem puts_of_row {W : World} {base n : Nat} {v : Value} {l : List (Nat × List UInt8)} (hn : n = l.length) (h : W.ownsRow base 55 257 v n (pendCells l)) (hl : ∀ x ∈ l, x.1 < 4294967296 ∧ x.2.length = 256) :
    ∃ pa cap, v = .slice pa n cap ∧ Puts W pa l ∧ ∀ a, pa = some a → base ≤ a.block ∧ ∃ cur, W.heap[a.block]? = some (.cells cur 55 (0, 0)) := by
  subst hn
  rcases h.2 with ⟨rfl, h0⟩ | ⟨g, cap, cur, rfl, h3, h4, _⟩
  · refine ⟨none, 0, by rw [h0], ⟨hl, .inl (List.eq_nil_of_length_eq_zero h0)⟩, fun a ha => by cases ha⟩
  · refine ⟨_, cap, rfl, ⟨hl, .inr ⟨g, 0, rfl, (Array.getElem?_eq_some_iff.1 h4).1, fun i hi j u hu => ?_⟩⟩, fun a ha => by cases ha; exact ⟨h3, cur, h4⟩⟩
    have hj : j < 257 := by
      have := (List.getElem?_eq_some_iff.1 hu).1
      rw [putCells_length (hl _ (List.getElem_mem hi)).2] at this
      exact this
    rw [Nat.zero_add, h.cellAt (i * 257 + j) (by have : i * 257 + 257 ≤ l.length * 257 := by rw [← Nat.succ_mul]; exact Nat.mul_le_mul_right _ hi
                                                 omega), Dev.pendCells_get (fun x hx => (hl x hx).2) i hi j hj]
    exact hu
theorem own_below {W W':World} {base:Nat} {e:TypeId} {size n:Nat} {v:Value} {xs:List Value} (h:W.ownsRow base e size v n xs) (hb:Below W.heap.size W W'):W'.ownsRow base e size v n xs:=Dev.ownsRow_block h (fun k hk=>hb.block k (h.lt k hk).2)
theorem Puts.below {W W':World} {pa:Option Addr} {l:List (Nat×List UInt8)} (h:Puts W pa l) (hb:Below W.heap.size W W'):Puts W' pa l:=by
 obtain ⟨h1,h2⟩:=h
 refine ⟨h1,?_⟩
 rcases h2 with h2 | ⟨b,off,h3,h4,h5⟩
 ·exact .inl h2
 ·exact .inr ⟨b,off,h3,Nat.lt_of_lt_of_le h4 hb.size,fun i hi j v hv=>by
   rw [World.cell?_of_block (w:=W) (a:=⟨b,off+i * 257+j,none⟩) (hb.block b h4)]
   exact h5 i hi j v hv⟩
theorem zeros_any {w:World} {p:Nat} {B:List Nat} {s:DS} (hd:Dev w p B s) (hlen:s.pend.length < 4294967296) {n:Nat} (hn:n≤s.n) :
    Calls Tryz.prog 70 #[ptr p,.int .u32 (n:Int)] w fun e w'=>∃ v,e=.returned v∧w'.ownsRow w.heap.size 55 257 v (toZero (readB s) n).length (pendCells (toZero (readB s) n))∧Below w.heap.size w w':=by
  have hzb:=(zero_of_info infoBlock).1
  obtain ⟨ik,hik0,hik1,hik2,hik3⟩:=info_parts infoPut
  have hsN:s.n < 4294967296:=by obtain ⟨_,_,h⟩:=hd; exact h.okN.2
  have hg:=fun (W:World) (op:BinOp) (x y:Operand) (xs ys:Array Value)=>run_eqGuard_agg (P:=Tryz.prog) W op 39 x y xs ys noGuard
  have HRd:Hid (∀ (a:Nat),a < s.n→∀ W,Below w.heap.size w W→Calls Tryz.prog 112 #[ptr p,.int .u32 (a:Int)] W fun e w'=>e=.returned (.tuple #[.agg (cellsOf (readB s a)),.int .i64 0])∧Below W.heap.size W w'):=Lib.hid (fun a ha W hW=>by
    have:=Read_any (hd.below hW) (a:=a) (by omega) hlen
    rw [readR,if_neg (by omega),readE,if_neg (by omega)] at this
    exact this)
  have HL:=Lib.hid (fun a=>hd.readLen a)
  clear hd hlen
  unfold ptr at HRd ⊢
  generalize readB s=rd at HRd HL ⊢
  go_enter Tryz.func70,Tryz.ntmps70
  go_wp2_with fail
  go_loopw [5,10] (fun v i wr=>∃ k:Nat,k≤n∧i=.int .u32 k∧wr.ownsRow w.heap.size 55 257 v (toZero rd k).length (pendCells (toZero rd k))∧Below w.heap.size w wr) (fun _ i _=>n - (intOf i).toNat)
  case atStart=>exact ⟨0,Nat.zero_le _,rfl,World.ownsRow_nil _ _ _ _,Below.refl _ _⟩
  case round=>
    obtain ⟨k,hk,rfl,hown,hbel⟩:=hrel
    by_cases hlt:k < n
    · have i0:(k:Int) < (n:Int):=by omega
      have hs:=toZero_succ rd k
      have hll:=toZero_length rd k
      have hrd:=HRd.out k (by omega) wr hbel
      have hl:=HL.out k
      generalize rd k=b at hs hrd hl
      generalize toZero rd k=l at hs hll hown
      have HS:=Lib.hid hs
      clear hs
      go_wp2_with fail
      refine hrd.mono ?_
      rintro e W1 ⟨rfl,hx⟩
      have hown1:=World.ownsRow.alloc (own_below hown hx) (blockO b)
      have hK:=((Kept.start wr).below hx).alloc (blockO b)
      have hb1:Below w.heap.size w (W1.alloc (blockO b)):=(hbel.trans (hx.mono hbel.size)).alloc (Nat.le_trans hbel.size hx.size) _
      clear hx hrd hown hbel
      have hi:=sizeBlock b hl
      have hzz:(cellsOf zeros).size=(cellsOf b).size:=by rw [cellsOf_size,cellsOf_size,hl,zeros_length]
      have he:∀ W,(Op.equalIn 10000 39 (.agg (cellsOf b)) (.agg (cellsOf zeros))).run Tryz.prog W=.ok (decide (b=zeros)) W:=fun W=>run_eqBlock W b zeros hl zeros_length
      have tok:True:=trivial
      by_cases hbz:b=zeros
      · have d0:decide (b=zeros)=true:=decide_eq_true hbz
        have HZ:=Lib.hid hbz
        clear hbz
        go_wp2_with (first
          | (have _t:=tok; refine wpList_store_new rfl 39 _ _ rfl (cellsOf b) _ _ rfl rfl hi hzz (cellsOf_one b) ?_; change wpList _ _ _ _ _ (W1.alloc (blockO b)); generalize W1.heap.size=q at hK ⊢; generalize W1.alloc (blockO b)=W2 at hK hown1 hb1 ⊢; have hgo:W2.heap[q]? = some (.cells (cellsOf b) 39 (0,0)):=hK.at_ (q:=q) (o:=blockO b) (by simp); clear _t tok)
          | (refine wpList_load_row rfl 39 _ rfl q rfl _ _ _ _ hgo Tryz.underlying39 rfl hi ?_))
        go_roundw
        case rel=>exact ⟨k+1,by omega,by go_num,by rw [HS.out,if_pos HZ.out]; exact hown1,hb1⟩
        case measure=>simp [intOf]; omega
      · have d0:decide (b=zeros)=false:=decide_eq_false hbz
        have HZ:=Lib.hid hbz
        clear hbz
        have hbp:=zeroCells_at k
        have hbs:=fun W=>run_buildPut W (k,zeros) zeros_length
        have hone:=putCells_one (k,zeros)
        have hlc:=putCells_length (x:=(k,zeros)) zeros_length
        have hpe:=pend_one (k,zeros)
        generalize putCells (k,zeros)=pc at hbp hbs hone hlc hpe
        have HPE:=Lib.hid hpe
        have HBS:=Lib.hid hbs
        clear hbs
        have HOC:=Lib.hid hone
        have HLC:=Lib.hid hlc
        clear hpe hone hlc
        go_upto_region 7 with (first
          | (have _t:=tok; refine wpList_store_new rfl 39 _ _ rfl (cellsOf b) _ _ rfl rfl hi hzz (cellsOf_one b) ?_; change wpList _ _ _ _ _ (W1.alloc (blockO b)); generalize W1.heap.size=q at hK ⊢; generalize W1.alloc (blockO b)=W2 at hK hown1 hb1 ⊢; have hgo:W2.heap[q]? = some (.cells (cellsOf b) 39 (0,0)):=hK.at_ (q:=q) (o:=blockO b) (by simp); clear _t tok)
          | (refine wpList_load_row rfl 39 _ rfl q rfl _ _ _ _ hgo Tryz.underlying39 rfl hi ?_))
        have hown2:=World.ownsRow.alloc hown1 (.cells pc.toArray 55)
        have hnew:=new_cells W2 pc 55
        have HB2:=Lib.hid (hb1.alloc hb1.size (.cells pc.toArray 55))
        have HO2:=Lib.hid hown2
        have HN2:=Lib.hid hnew
        clear hown2 hnew hgo hb1 hown1 hK hi he hzz
        go_wp2_with (first | (refine wpList_build_run rfl 44 1 #[(0,.tmp 24)] rfl #[(0,.agg pc.toArray)] (by simp [Act.eval]) _ (HBS.out _) ?_) | (at_builtin; refine wpList_append_own _ rfl _ _ 44 rfl w.heap.size 55 ik (.agg (putCells (0,zeros)).toArray) 257 260 Tryz.underlying44 hik0 hik1 hik2 hik3 (size_of_putCells zeros_length) (by omega) _ l.length (pendCells l) rfl HO2.out ⟨W2.heap.size,0,none⟩ 1 1 pc rfl HLC.out HN2.out HOC.out (by unfold maxLen; omega) (by omega) HB2.out.size ?_; intro v' w1 hown3 hgrow hnil))
        go_roundw
        case rel=>
          refine ⟨k+1,by omega,by go_num,?_,HB2.out.trans (below_own HO2.out hgrow HB2.out.size)⟩
          rw [HS.out,if_neg HZ.out,pendCells_append,HPE.out,List.length_append]
          exact hown3
        case measure=>simp [intOf]; omega
    · obtain rfl:k=n:=by omega
      go_wp2_with fail
      go_ret
      exact ⟨_,rfl,hown,hbel⟩
end Rot
namespace Rot
open Go.RowKit RowLaw Crc
open Slt (Rt cells rootO rtB rtB_length infoR sizeR cells_one mayB)
open Dev (Dev DS ptr putCells pendCells putCells_length putCells_one infoPut size_of_putCells sizePut Box Step Turn)
def badP (n:Nat) (x:Nat×List UInt8):Bool:=decide (x.1 < 2)||decide (n≤x.1)
theorem ok_bad (n:Nat) (l:List (Nat×List UInt8)) (r:Rt):commitOk n l r=(mayR r n && !(l.any (badP n))):=by
 unfold commitOk
 congr 1
 rw [List.not_any_eq_all_not]
 congr 1
 funext x
 rw [Bool.eq_iff_iff]
 simp [badP]
theorem isBad_any {nb n:Nat} {x:Nat×List UInt8} (hl:x.2.length=256) (w:World) (hc:w.cell? ⟨nb,0,none⟩=some (.int .u32 (n:Int))) :
  Calls Tryz.prog 88 #[.agg (putCells x).toArray,ptr nb] w fun e w'=>e=.returned (.bool (badP n x))∧Below w.heap.size w w':=by
 have hlt:=World.block_lt_of_cell? w _ hc
 have hK:=(Kept.start w).alloc (.cells (putCells x).toArray 55)
 have hb:=hK.bel
 have c0:(w.alloc (.cells (putCells x).toArray 55)).cell? ⟨w.heap.size,0,none⟩=some (.int .u32 (x.1:Int)):=(cell_of_row _ w.heap.size 0 _ _ _ (hK.at_ (q:=w.heap.size) (o:=.cells (putCells x).toArray 55) (by simp))).trans rfl
 have c1:(w.alloc (.cells (putCells x).toArray 55)).cell? ⟨nb,0,none⟩=some (.int .u32 (n:Int)):=(hb.cell (p:=⟨nb,0,none⟩) hlt).trans hc
 obtain ⟨ans,ha⟩:∃ ans,ans=badP n x:=⟨_,rfl⟩
 rw [←ha]
 unfold badP at ha
 have HA:=Lib.hid ha
 unfold ptr
 clear ha hK hc hlt
 obtain ⟨xa,xl⟩:=x
 simp only at c0 HA hl
 by_cases h2:xa < 2
 ·have d0:(xa:Int) < 2:=by omega
  have H2:=Lib.hid h2
  clear h2
  go_enter Tryz.func88,Tryz.ntmps88
  go_upto_region 1 with fail
  change Code.wp _ _ _ _ (w.alloc (.cells (putCells (xa,xl)).toArray 55))
  generalize w.alloc (.cells (putCells (xa,xl)).toArray 55)=W at c0 c1 hb ⊢
  go_wp2
  go_ret
  exact ⟨by rw [HA.out,decide_eq_true H2.out]; rfl,hb⟩
 ·have d0:¬ (xa:Int) < 2:=by omega
  have H2:=Lib.hid h2
  clear h2
  by_cases h3:n≤xa
  ·have d1:(n:Int)≤(xa:Int):=by omega
   have H3:=Lib.hid h3
   clear h3
   go_enter Tryz.func88,Tryz.ntmps88
   go_upto_region 1 with fail
   change Code.wp _ _ _ _ (w.alloc (.cells (putCells (xa,xl)).toArray 55))
   generalize w.alloc (.cells (putCells (xa,xl)).toArray 55)=W at c0 c1 hb ⊢
   go_wp2
   go_ret
   exact ⟨by rw [HA.out]; simp [H3.out],hb⟩
  ·have d1:¬ (n:Int)≤(xa:Int):=by omega
   have H3:=Lib.hid h3
   clear h3
   go_enter Tryz.func88,Tryz.ntmps88
   go_upto_region 1 with fail
   change Code.wp _ _ _ _ (w.alloc (.cells (putCells (xa,xl)).toArray 55))
   generalize w.alloc (.cells (putCells (xa,xl)).toArray 55)=W at c0 c1 hb ⊢
   go_wp2
   go_ret
   exact ⟨by rw [HA.out,decide_eq_false H2.out,decide_eq_false H3.out]; simp,hb⟩
def badF (nb:Nat):Value:=.func (.func 88) #[] #[ptr nb]
theorem IndexFunc_any {nb n:Nat} {pa:Option Addr} {c:Nat} {l:List (Nat×List UInt8)} (hn:l.length < 4294967296) (w:World) (hp:Puts w pa l) (hc:w.cell? ⟨nb,0,none⟩=some (.int .u32 (n:Int))) :
    Calls Tryz.prog 161 #[.slice pa l.length c,badF nb] w fun e w'=>∃ z:Int,e=.returned (.int .i64 z)∧decide (0≤z)=l.any (badP n)∧Below w.heap.size w w':=by
  have hlt:=World.block_lt_of_cell? w _ hc
  have HC:Hid (∀ x:Nat×List UInt8,x.2.length=256→∀ W,Below w.heap.size w W→Calls Tryz.prog 88 #[.agg (putCells x).toArray,ptr nb] W fun e w'=>e=.returned (.bool (badP n x))∧Below W.heap.size W w'):=Lib.hid (fun x hx W hW=>isBad_any hx W ((hW.cell (p:=⟨nb,0,none⟩) hlt).trans hc))
  have HP:=Lib.hid hp
  clear hp hc hlt
  unfold badF ptr
  unfold ptr at HC
  obtain ⟨m,hm⟩:∃ m,m=l.length:=⟨_,rfl⟩
  rw [←hm] at hn ⊢
  have HM:=Lib.hid hm
  clear hm
  go_enter Tryz.func161,Tryz.ntmps161
  go_wp2_with fail
  go_loopw [8] (fun i wr=>∃ k:Nat,k≤m∧i=.int .i64 k∧Below w.heap.size w wr∧Hid (∀ j (hj:j < l.length),j < k→badP n l[j]=false)) (fun i _=>m - (intOf i).toNat)
  case atStart=>exact ⟨0,Nat.zero_le _,rfl,Below.refl _ _,show ∀ j (hj:j < l.length),j < 0→badP n l[j]=false from fun j _ h=>absurd h (by omega)⟩
  case round=>
    obtain ⟨k,hk,rfl,hb,hno⟩:=hrel
    by_cases hkl:k < m
    · have hkl':k < l.length:=by have:=HM.out; omega
      have i0:(k:Int) < (m:Int):=by omega
      rcases HP.out.2 with h0 | ⟨b,off,rfl,hbl,hat⟩
      · rw [h0] at hkl'; simp at hkl'
      have hxl:=(HP.out.1 _ (List.getElem_mem hkl')).2
      have hr:wr.rangeAt b (off+k * 257) (putCells l[k]):=fun j v hv=>(hb.cell (p:=⟨b,off+k * 257+j,none⟩) hbl).trans (hat k hkl' j v hv)
      have hcall:=HC.out _ hxl wr hb
      have hsz:=sizePut l[k] hxl
      obtain ⟨bb,hbb⟩:∃ bb,bb=badP n l[k]:=⟨_,rfl⟩
      rw [←hbb] at hcall
      have HBB:=Lib.hid hbb
      have HSZ:=Lib.hid hsz
      clear hbb hat hbl hsz hxl
      generalize putCells l[k]=pc at hr hcall HSZ
      cases bb with
      | true=>
        go_wp2_with (first
          | (refine wpList_load_mid rfl 55 _ rfl b (off+k * 257) rfl pc _ hr Tryz.underlying55 rfl (by simpa using HSZ.out) ?_)
          | (with_reducible refine hcall.mono ?_; rintro e W1 ⟨rfl,hx⟩))
        go_ret
        refine ⟨k,rfl,?_,hb.trans (hx.mono hb.size)⟩
        rw [decide_eq_true (by omega:(0:Int)≤k)]
        exact (List.any_eq_true.2 ⟨_,List.getElem_mem hkl',HBB.out.symm⟩).symm
      | false=>
        go_wp2_with (first
          | (refine wpList_load_mid rfl 55 _ rfl b (off+k * 257) rfl pc _ hr Tryz.underlying55 rfl (by simpa using HSZ.out) ?_)
          | (with_reducible refine hcall.mono ?_; rintro e W1 ⟨rfl,hx⟩))
        go_roundw
        case rel=>exact ⟨k+1,by omega,by go_num,hb.trans (hx.mono hb.size),show ∀ j (hj:j < l.length),j < k+1→badP n l[j]=false from fun j hj hjk=>by
          by_cases e:j=k
          · subst e; exact HBB.out.symm
          · exact hno.out j hj (by omega)⟩
        case measure=>simp [intOf]; omega
    · go_wp2_with fail
      go_ret
      refine ⟨-1,rfl,?_,hb⟩
      rw [decide_eq_false (by omega)]
      symm
      rw [List.any_eq_false]
      intro x hx
      obtain ⟨j,hj,rfl⟩:=List.mem_iff_getElem.1 hx
      rw [hno.out j hj (by have:=HM.out; omega)]
      simp
theorem ContainsFunc_any {nb n:Nat} {pa:Option Addr} {c:Nat} {l:List (Nat×List UInt8)} (hn:l.length < 4294967296) (w:World) (hp:Puts w pa l) (hc:w.cell? ⟨nb,0,none⟩=some (.int .u32 (n:Int))) :
  Calls Tryz.prog 87 #[.slice pa l.length c,badF nb] w fun e w'=>e=.returned (.bool (l.any (badP n)))∧Below w.heap.size w w':=by
 have hI:=IndexFunc_any (c:=c) hn w hp hc
 unfold badF ptr at hI ⊢
 generalize l.any (badP n)=a at hI ⊢
 go_enter Tryz.func87,Tryz.ntmps87
 go_wp2_with fail
 refine hI.mono ?_
 rintro e W ⟨z,rfl,hz,hb⟩
 have HZ:=Lib.hid hz
 clear hz hI
 go_wp2_with fail
 go_ret
 exact ⟨congrArg (fun b=>Ending.returned (Value.bool b)) HZ.out,hb⟩
end Rot
namespace Rot
open Go.RowKit RowLaw Crc
open Slt (Rt cells rootO rtB rtB_length infoR sizeR cells_one mayB)
open Dev (Dev DS ptr putCells pendCells Box Step Turn readB)
theorem commitF_yes {s:DS} {l:List (Nat×List UInt8)} {r:Rt} (h:commitOk s.n l r=true):commitF s l r=replF s l r:=by
 unfold commitF
 rw [if_pos h]
 rfl
theorem Commit_any {w:World} {p:Nat} {B:List Nat} {s:DS} (hd:Dev w p B s) (hpl:planOk s.n=true) {pa:Option Addr} {c:Nat} {l:List (Nat×List UInt8)} {r:Rt} (hpu:Puts w pa l) (hap:Apart pa l B) (hf:r.Fits) (hlen:s.pend.length+l.length < 4294967290) :
  Calls Tryz.prog 21 #[ptr p,.slice pa l.length c,.agg (cells r)] w fun e w'=>e=.returned (.int .i64 (commitF s l r).2)∧∃ C,Dev w' p C (commitF s l r).1∧Step B w w' C:=by
 have hmf:∀ (fn:Fn) (first cap:Array Value) (w:World),(Instr.makeFunc fn first cap).run Tryz.prog w=.ok (.func fn first cap) w:=fun _ _ _ _=>rfl
 obtain ⟨m,hm⟩:∃ m,m=l.length:=⟨_,rfl⟩
 have HEx:Hid (∀ W,Below w.heap.size w W→Calls Tryz.prog 65 #[ptr p] W fun e w'=>e=.returned (.bool true)∧w'=W):=Lib.hid (fun W hW=>exists_any (hd.below hW))
 have HSz:Hid (∀ W,Below w.heap.size w W→Calls Tryz.prog 67 #[ptr p] W fun e w'=>e=.returned (.int .u32 (s.n:Int))∧w'=W):=Lib.hid (fun W hW=>Size_any (hd.below hW))
 have HMay:=Lib.hid (fun W=>mayBe_any hpl r W)
 have HC:Hid (∀ nb W,Below w.heap.size w W→W.cell? ⟨nb,0,none⟩=some (.int .u32 (s.n:Int))→Calls Tryz.prog 87 #[.slice pa m c,badF nb] W fun e w'=>e=.returned (.bool (l.any (badP s.n)))∧Below W.heap.size W w'):=Lib.hid (fun nb W hW hc=>by rw [hm]; exact ContainsFunc_any (by omega) W (hpu.below hW) hc)
 have HRep:Hid (∀ W,Below w.heap.size w W→Calls Tryz.prog 69 #[ptr p,.slice pa m c,.agg (cells r)] W fun e W'=>mayB r=true→∃ g c2,e=.returned (.slice (some ⟨g,0,none⟩) (m+3) c2)∧Below w.heap.size w W'∧
   Calls Tryz.prog 68 #[.slice (some ⟨g,0,none⟩) (m+3) c2] W' fun e w'=>e=.returned (.int .i64 (replF s l r).2)∧∃ C,Dev w' p C (replF s l r).1∧Step B w w' C):=Lib.hid (fun W hW=>by
  rw [hm]
  refine (replace_any W p pa l.length c r (by omega)).mono fun e W' ⟨g,c2,pb,lb,rb,is,hil,he,hT⟩ hmay=>⟨g,c2,he,hW.trans (hT.bel.mono hW.size),?_⟩
  refine (runTodo_any (hd.below hW) hil hT (hpu.below hW) hap hmay hf hlen).mono fun e w' ⟨he,C,hd',hs⟩=>⟨he,C,hd',?_⟩
  exact (Step.of_turn (Turn.of_below (hW.trans (hT.bel.mono hW.size)))).trans hs)
 have hok:=ok_bad s.n l r
 have hbadS:commitOk s.n l r=false→commitF s l r=(s,2):=commit_bad
 have hyesS:commitOk s.n l r=true→commitF s l r=replF s l r:=commitF_yes
 have hmr:mayR r s.n=true→mayB r=true:=fun h=>by unfold mayR at h; rw [Bool.and_eq_true] at h; exact h.1
 have hdw:=hd
 rw [←hm]
 clear hd hpl hpu hap hf hlen hm
 generalize l.any (badP s.n)=bad at hok HC
 generalize mayR r s.n=may at hok hmr HMay
 rw [hok] at hbadS hyesS
 clear hok
 have HB:=Lib.hid hbadS
 have HY:=Lib.hid hyesS
 have HMR:=Lib.hid hmr
 have HD:=Lib.hid hdw
 clear hbadS hyesS hmr hdw
 have hK:=(Kept.start w).alloc (rootO r)
 unfold ptr at HEx HSz HRep ⊢
 go_enter Tryz.func21,Tryz.ntmps21
 go_upto_region 1 with fail
 change Code.wp _ _ _ _ (w.alloc (rootO r))
 generalize w.alloc (rootO r)=W0 at hK ⊢
 go_wp2_with fail
 refine (HEx.out W0 hK.bel).mono ?_
 rintro e W1 ⟨rfl,rfl⟩
 go_wp2_with fail
 refine (HSz.out _ hK.bel).mono ?_
 rintro e W2 ⟨rfl,rfl⟩
 have hK2:=hK.alloc (.cells #[.int .u32 (s.n:Int)] 22)
 clear hK
 go_upto_region 4 with fail
 change Code.wp _ _ _ _ (W2.alloc (.cells #[.int .u32 (s.n:Int)] 22))
 generalize W2.alloc (.cells #[.int .u32 (s.n:Int)] 22)=W3 at hK2 ⊢
 generalize W2.heap.size=nb at hK2 ⊢
 have hR:W3.heap[w.heap.size]? = some (.cells (cells r) 31 (0,0)):=hK2.at_ (q:=w.heap.size) (o:=rootO r) (by simp)
 have cn:W3.cell? ⟨nb,0,none⟩=some (.int .u32 (s.n:Int)):=(cell_of_row W3 nb 0 _ _ _ (hK2.at_ (q:=nb) (o:=.cells #[.int .u32 (s.n:Int)] 22) (by simp))).trans rfl
 cases may with
 | false=>
  replace HB:=Lib.hid (HB.out rfl)
  clear HY HMR HC HRep
  go_wp2_with (refine wpList_load_row rfl 31 _ rfl w.heap.size rfl _ _ _ _ hR Tryz.underlying31 rfl (sizeR r) ?_)
  refine (HMay.out W3).mono ?_
  rintro e W4 ⟨rfl,hx⟩
  have hb:=hK2.bel.trans (hx.mono hK2.bel.size)
  clear hx hR cn hK2
  go_wp2_with fail
  go_ret
  rw [HB.out]
  exact ⟨rfl,B,HD.out.below hb,Step.of_turn (Turn.of_below hb)⟩
 | true=>
  replace HMR:=Lib.hid (HMR.out rfl)
  go_wp2_with (refine wpList_load_row rfl 31 _ rfl w.heap.size rfl _ _ _ _ hR Tryz.underlying31 rfl (sizeR r) ?_)
  refine (HMay.out W3).mono ?_
  rintro e W4 ⟨rfl,hx⟩
  have hK4:=hK2.below hx
  have cn4:W4.cell? ⟨nb,0,none⟩=some (.int .u32 (s.n:Int)):=(hx.cell (p:=⟨nb,0,none⟩) (hK2.lt_ (q:=nb) (o:=.cells #[.int .u32 (s.n:Int)] 22) (by simp))).trans cn
  clear hx hR cn hK2
  have hCC:=HC.out nb W4 hK4.bel cn4
  unfold badF ptr at hCC
  go_wp2_with fail
  refine hCC.mono ?_
  rintro e W5 ⟨rfl,hx⟩
  have hK5:=hK4.below hx
  clear hx cn4 hK4 hCC
  cases bad with
  | true=>
   replace HB:=Lib.hid (HB.out rfl)
   clear HY HRep
   go_wp2_with fail
   go_ret
   rw [HB.out]
   exact ⟨rfl,B,HD.out.below hK5.bel,Step.of_turn (Turn.of_below hK5.bel)⟩
  | false=>
   replace HY:=Lib.hid (HY.out rfl)
   clear HB
   have hR5:W5.heap[w.heap.size]? = some (.cells (cells r) 31 (0,0)):=hK5.at_ (q:=w.heap.size) (o:=rootO r) (by simp)
   go_wp2_with (refine wpList_load_row rfl 31 _ rfl w.heap.size rfl _ _ _ _ hR5 Tryz.underlying31 rfl (sizeR r) ?_)
   refine (HRep.out W5 hK5.bel).mono ?_
   intro e W6 h6
   obtain ⟨g,c2,rfl,_,hrun⟩:=h6 HMR.out
   clear h6 hR5 hK5
   go_wp2_with fail
   refine hrun.mono ?_
   clear hrun
   rintro e W7 ⟨rfl,hfin⟩
   have HF:=Lib.hid hfin
   clear hfin
   go_wp2_with fail
   go_ret
   rw [HY.out]
   exact ⟨rfl,HF.out⟩
end Rot
namespace Rot
open Go.RowKit RowLaw Crc
open Slt (Rt cells rootO rtB rtB_length infoR sizeR cells_one mayB IsRt)
open Dev (Dev DS ptr putCells pendCells Box Step Turn readB)
theorem formatF_eq (s:DS):formatF s=if (replF s (toZero (readB s) (fsN s.n)) (fresh s.n)).2=0 then ((replF s (toZero (readB s) (fsN s.n)) (fresh s.n)).1,(fresh s.n,0)) else ((replF s (toZero (readB s) (fsN s.n)) (fresh s.n)).1,(Slt.nil,(replF s (toZero (readB s) (fsN s.n)) (fresh s.n)).2)):=by
 have hg:(fresh s.n).gen % 2=1:=rfl
 unfold formatF replF
 rw [hg]
 by_cases h:(writeF s (toZero (readB s) (fsN s.n))).2=0
 ·rw [if_pos h,if_pos h]
 ·rw [if_neg h,if_neg h,if_neg h]
theorem Format_any {w:World} {p:Nat} {B:List Nat} {s:DS} (hd:Dev w p B s) (hpl:planOk s.n=true) (hlen:s.pend.length < 4293000000) :
    Calls Tryz.prog 15 #[ptr p] w fun e w'=>e=.returned (.tuple #[.agg (cells (formatF s).2.1),.int .i64 (formatF s).2.2])∧∃ C,Dev w' p C (formatF s).1∧Step B w w' C:=by
  have hzr:=(zero_of_info infoR).1
  obtain ⟨h64,hbig⟩:64≤s.n∧s.n≤1048576:=by simpa [planOk] using hpl
  obtain ⟨-,f2,-⟩:=plan_facts h64 hbig
  have HEx:Hid (∀ W,Below w.heap.size w W→Calls Tryz.prog 65 #[ptr p] W fun e w'=>e=.returned (.bool true)∧w'=W):=Lib.hid (fun W hW=>exists_any (hd.below hW))
  have HSz:Hid (∀ W,Below w.heap.size w W→Calls Tryz.prog 67 #[ptr p] W fun e w'=>e=.returned (.int .u32 (s.n:Int))∧w'=W):=Lib.hid (fun W hW=>Size_any (hd.below hW))
  have HFi:=Lib.hid (fun W=>first_any hpl W)
  have hgood:=fresh_good h64 hbig
  have hmay:mayB (fresh s.n)=true:=by
    have:=hgood.2
    unfold mayR at this
    rw [Bool.and_eq_true] at this
    exact this.1
  have hfit:=hgood.1
  have hhint:(fresh s.n).hint=fsN s.n:=rfl
  have hll:=toZero_length (readB s) (fsN s.n)
  have hlm:∀ x∈toZero (readB s) (fsN s.n),x.1 < 4294967296∧x.2.length=256:=fun x hx=>by
    have:=toZero_mem hx
    exact ⟨by omega,by rw [this.2]; exact zeros_length⟩
  have hZ:Hid (∀ W C,Dev W p C s→Calls Tryz.prog 70 #[ptr p,.int .u32 (fsN s.n:Int)] W fun e w'=>∃ v,e=.returned v∧w'.ownsRow W.heap.size 55 257 v (toZero (readB s) (fsN s.n)).length (pendCells (toZero (readB s) (fsN s.n)))∧Below W.heap.size W w'):=Lib.hid (fun W C h=>zeros_any h (by omega) (by omega))
  rw [formatF_eq]
  have hB0:=Box.start hd
  clear hd hpl hgood
  generalize fresh s.n=R at hmay hfit hhint HFi ⊢
  rw [←hhint] at hll hlm hZ ⊢
  have HHI:=Lib.hid hhint
  clear hhint
  generalize toZero (readB s) R.hint=l at hll hlm hZ ⊢
  have HMAY:=Lib.hid hmay
  have HFIT:=Lib.hid hfit
  have HLL:=Lib.hid hll
  have HLM:=Lib.hid hlm
  clear hmay hfit hll hlm
  obtain ⟨z,hz⟩:∃ z,z=(replF s l R).2:=⟨_,rfl⟩
  rw [←hz]
  have HZZ:=Lib.hid hz
  clear hz
  obtain ⟨F,hF⟩:∃ F:DS×(Rt×Int),F=if z=0 then ((replF s l R).1,(R,0)) else ((replF s l R).1,(Slt.nil,z)):=⟨_,rfl⟩
  rw [←hF]
  have HF:=Lib.hid hF
  clear hF
  have hB:=hB0.alloc (rootO Slt.nil)
  have hb0:Below w.heap.size w (w.alloc (rootO Slt.nil)):=(Below.refl _ _).alloc (Nat.le_refl _) _
  clear hB0
  unfold ptr at HEx HSz hZ ⊢
  go_enter Tryz.func15,Tryz.ntmps15
  go_upto_region 1 with fail
  change Code.wp _ _ _ _ (w.alloc (rootO Slt.nil))
  generalize w.alloc (rootO Slt.nil)=W0 at hB hb0 ⊢
  go_wp2_with fail
  refine (HEx.out W0 hb0).mono ?_
  rintro e W1 ⟨rfl,rfl⟩
  go_wp2_with fail
  refine (HSz.out _ hb0).mono ?_
  rintro e W2 ⟨rfl,rfl⟩
  go_wp2_with fail
  refine (HFi.out _).mono ?_
  rintro e W3 ⟨rfl,hx⟩
  have hB3:=(hB.below hx).alloc (rootO R)
  clear hB hb0 hx
  have tok:True:=trivial
  go_upto_region 4 with (first
    | (have _t:=tok; refine wpList_store_new rfl 31 _ _ rfl (cells R) _ _ rfl rfl (sizeR R) rfl (cells_one R) ?_; change wpList _ _ _ _ _ (W3.alloc (rootO R)); clear _t tok))
  change Code.wp _ _ _ _ (W3.alloc (rootO R))
  generalize W3.heap.size=q at hB3 ⊢
  generalize W3.alloc (rootO R)=W4 at hB3 ⊢
  go_wp2_with fail
  have hS:=hB3.drew
  clear hB3
  have tr:∀ W',(∃ s',Box w B p s' [(q,rootO R),(w.heap.size,rootO Slt.nil)] W')→IsRt W' q R:=fun W' ⟨_,h⟩=>h.at_ (q:=q) (o:=rootO R) (by simp)
  refine wp_region_noPanic ?_
  refine wp_region_held_drew (S:=fun W'=>∃ s',Box w B p s' [(q,rootO R),(w.heap.size,rootO Slt.nil)] W') (by kernel_rfl) ⟨_,hS⟩ ?_
  intro hT
  generalize W4.drew=V at hS hT ⊢
  refine RowLaw.tkV 0 13 (.pointer (some ⟨p,0,none⟩)) hT ?_
  simp only [RowLaw.lset]
  refine RowLaw.tkV 1 14 (.pointer (some ⟨p,0,none⟩)) hT ?_
  simp only [RowLaw.lset]
  refine RowLaw.tkV 2 15 (.pointer (some ⟨q,6,none⟩)) hT ?_
  simp only [RowLaw.lset]
  refine RowLaw.tkV 3 16 (.int .u32 (R.hint:Int)) hT ?_ (hy:=(Or.inl ⟨by rfl,fun w hw=>by have c3:=(tr w hw).hint; go_simp⟩))
  simp only [RowLaw.lset]
  refine RowLaw.tkV 5 18 (.agg (cells R)) hT ?_ (hy:=(yieldsIf_load_row (by rfl) 31 _ rfl q rfl _ _ _ _ tr Tryz.underlying31 rfl (sizeR R)))
  simp only [RowLaw.lset]
  obtain ⟨C,hdC,hstC,hKC⟩:=hS
  have hlB:=hdC.ltB
  refine wpAnyH_ready (rs:=[4]) (by kernel_rfl) (by simp) ?_
  refine AllReadyH.cons rfl (fun K hK=>?_) AllReadyH.nil
  go_simp
  refine (hZ.out V C hdC).mono ?_
  rintro e V1 ⟨v,rfl,hown,hx1⟩
  dsimp only
  obtain ⟨s0,hT0⟩:=hT
  refine hK _ _ ⟨_,hT0.below hx1⟩ (fun _=>?_)
  clear hK K
  obtain ⟨pa,cap,rfl,hpu,hpa⟩:=puts_of_row rfl hown HLM.out
  have hd1:=hdC.below hx1
  have hap:Apart pa l C:=fun _ a ha hm=>by
    have h1:=(hpa a ha).1
    have h2:=hlB _ hm
    omega
  clear hown hpa
  have hrep:=replace_any V1 p pa l.length cap R (by have:=HLL.out; have:=HFIT.out.hint; omega)
  unfold ptr at hrep
  refine wpAnyH_ready (rs:=[6]) (by kernel_rfl) (by simp) ?_
  refine AllReadyH.cons rfl (fun K hK=>?_) AllReadyH.nil
  go_simp
  refine hrep.mono ?_
  rintro e V2 ⟨g,c2,pb,lb,rb,is,hil,rfl,hTd⟩
  dsimp only
  refine hK _ _ ⟨_,(hT0.below hx1).below hTd.bel⟩ (fun _=>?_)
  clear hK K hrep
  have hrun:Calls Tryz.prog 68 #[.slice (some ⟨g,0,none⟩) (l.length+3) c2] V2 fun e V3=>e=.returned (.int .i64 z)∧Box w B p (replF s l R).1 [(q,rootO R),(w.heap.size,rootO Slt.nil)] V3:=by
    rw [HZZ.out]
    refine (runTodo_any hd1 hil hTd hpu hap HMAY.out HFIT.out (by have:=HLL.out; have:=HHI.out; omega)).mono fun e V3 ⟨he,D,hD,hs⟩=>⟨he,D,hD,?_,fun x hx=>?_⟩
    · exact (hstC.trans (Step.of_turn (Turn.of_below (hx1.trans (hTd.bel.mono hx1.size))))).trans hs
    · have h1:=hKC x hx
      have hlt:=(Array.getElem?_eq_some_iff.1 h1.2.1).1
      have hlt2:x.1 < V2.heap.size:=Nat.lt_of_lt_of_le hlt (Nat.le_trans hx1.size hTd.bel.size)
      refine ⟨h1.1,?_,hs.notIn hlt2 h1.2.2⟩
      rw [hs.turn.block _ hlt2 h1.2.2,hTd.bel.block _ (Nat.lt_of_lt_of_le hlt hx1.size),hx1.block _ hlt]
      exact h1.2.1
  clear hd1 hil hTd hpu hap hx1 hlB hKC hstC hdC hT0 tr
  refine wpAnyH_ready (rs:=[7]) (by kernel_rfl) (by simp) ?_
  refine AllReadyH.cons rfl (fun K hK=>?_) AllReadyH.nil
  go_simp
  refine hrun.mono ?_
  rintro e V3 ⟨rfl,hB3⟩
  dsimp only
  refine hK _ _ ⟨_,hB3⟩ (fun _=>?_)
  clear hK K hrun
  refine wpAnyH_ready (rs:=[8]) (by kernel_rfl) (by simp) ?_
  refine AllReadyH.cons rfl (fun K hK=>?_) AllReadyH.nil
  go_simp
  refine hK _ _ ⟨_,hB3⟩ (fun _=>?_)
  clear hK K
  refine wpAnyH_done (by kernel_rfl) ?_ _
  refine NoPanic.normal ?_
  have hR:V3.heap[w.heap.size]? = some (.cells (cells Slt.nil) 31 (0,0)):=hB3.at_ (q:=w.heap.size) (o:=rootO Slt.nil) (by simp)
  have hQ:V3.heap[q]? = some (.cells (cells R) 31 (0,0)):=hB3.at_ (q:=q) (o:=rootO R) (by simp)
  have hres:=fun (cs:Array Value)=>Box.setRow (cs':=cs) (hB3.less (K':=[(w.heap.size,.cells (cells Slt.nil) 31 (0,0))]) (by simp [rootO])) (by simp)
  have HRES:=Lib.hid hres
  clear hres hB3
  by_cases h0:z=0
  · replace HF:=Lib.hid (HF.out.trans (if_pos h0))
    subst h0
    go_wp2_with (first
      | (refine wpList_load_row rfl 31 _ rfl q rfl _ _ _ _ hQ Tryz.underlying31 rfl (sizeR R) ?_)
      | (refine wpList_store_row rfl 31 _ _ rfl w.heap.size (cells R) rfl rfl _ _ hR (sizeR R) rfl (cells_one R) ?_))
    exact bodyPost_ret (results_row_tmp rfl _ _ _ _ _ _ _ rfl (setRow_heap _ _ _ _ _ _ hR) Tryz.underlying31 rfl (sizeR R)) rfl ⟨by rw [HF.out]; rfl,by rw [HF.out]; exact (HRES.out _).out⟩
  · replace HF:=Lib.hid (HF.out.trans (if_neg h0))
    have d0:(z != 0)=true:=by simpa using h0
    clear h0
    go_wp2_with (first
      | (refine wpList_store_row rfl 31 _ _ rfl w.heap.size (cells Slt.nil) rfl rfl _ _ hR (sizeR Slt.nil) rfl (cells_one Slt.nil) ?_))
    exact bodyPost_ret (results_row_tmp rfl _ _ _ _ _ _ _ rfl (setRow_heap _ _ _ _ _ _ hR) Tryz.underlying31 rfl (sizeR Slt.nil)) rfl ⟨by rw [HF.out]; rfl,by rw [HF.out]; exact (HRES.out _).out⟩
end Rot
namespace Dev
open Go.RowKit RowLaw
section
variable {w W W':World} {l:List (Nat×DS)} {K:List (Nat×Obj)} {i p:Nat} {s s':DS}
theorem Many.lt_ (h:Many w l K W) {q:Nat} {o:Obj} (hq:(q,o)∈K):q < W.heap.size:=(Array.getElem?_eq_some_iff.1 (h.at_ hq)).1
theorem Many.put {q: Nat} {o o': Obj} (h: Many w l ((q,o)::K) W) (hw: w.heap.size≤q) (hne: ∀ x∈K,x.1≠q) (hq: W'.heap[q]? = some o') (hs: W'.os=W.os) (ht: W'.tape=W.tape) (hp: W'.output=W.output) (hz: W.heap.size≤W'.heap.size)
  (hb: ∀ k,k≠q→W'.heap[k]? = W.heap[k]?): Many w l ((q,o')::K) W':=by
 obtain ⟨h1,f,h2,h3,h4⟩:=h
 have h0:=h4 _ List.mem_cons_self
 have htn:Turn [q] W W':=⟨hs,ht,hp,hz,fun k _ hk=>hb k (by simpa using hk)⟩
 refine ⟨⟨hs.trans h1.os,ht.trans h1.tape,hp.trans h1.output,Nat.le_trans h1.size hz,fun k hk=>(hb k (by omega)).trans (h1.block k hk)⟩,f,fun j p s hj=>⟨(h2 j p s hj).1.turn htn (fun k hk hm=>?_),(h2 j p s hj).2⟩,h3,fun x hx=>?_⟩
 ·simp only [List.mem_singleton] at hm
  exact h0.2 j (List.getElem?_eq_some_iff.1 hj).1 (hm ▸ hk)
 ·rcases List.mem_cons.1 hx with rfl | hx
  ·exact ⟨hq,h0.2⟩
  ·have h5:=h4 x (List.mem_cons_of_mem _ hx)
   exact ⟨(hb _ (hne x hx)).trans h5.1,h5.2⟩
theorem Many.setCell {q j: Nat} {cs: Array Value} {T: TypeId} {v: Value} (h: Many w l ((q,.cells cs T (0,0))::K) W) (hw: w.heap.size≤q) (hne: ∀ x∈K,x.1≠q): Many w l ((q,.cells (cs.setIfInBounds j v) T (0,0))::K) (W.setCell ⟨q,j,none⟩ v):=
 h.put hw hne (heap_setCell_same W q j _ _ _ (h.at_ List.mem_cons_self)) rfl rfl rfl (by simp [World.setCell]) (fun k hk=>heap_setCell_other W ⟨q,j,none⟩ k v hk)
end
end Dev
namespace Rot
open Go.RowKit RowLaw Crc
open Slt (Rt cells rootO)
open Dev (Dev DS ptr Many putCells)
section
variable {w W:World} {l:List (Nat×DS)} {K:List (Nat×Obj)} {i p:Nat} {s s':DS}
def Here (w:World) (K:List (Nat×Obj)) (pa:Option Addr) (xs:List (Nat×List UInt8)):Prop:=xs≠[]→∀ a,pa=some a→a.block < w.heap.size∨∃ o,(a.block,o)∈K
end
end Rot

end Go.Proofs.YtgkbfahflngklaaGreat
