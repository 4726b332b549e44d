import Derived.Test.YtgkbfahflngklaaGreatCntG
set_option maxRecDepth 100000
set_option maxHeartbeats 6400000
set_option linter.unusedSimpArgs false
namespace Go.Proofs.YtgkbfahflngklaaGreat
namespace Spc
open Go.RowKit RowLaw
open Dev (ptr pendCells putCells pendCells_get applyP applyP_none applyP_last applyP_len wpList_load_sub)
open Cnt (own_slice own_kept)
variable {A:Nat→Prop}
structure PutsV (A:Nat→Prop) (W:World) (v:Value) (n:Nat) (xs:List (Nat×List UInt8)):Prop where
 len:n=xs.length
 row:W.ownsRow 0 55 257 v n (pendCells xs)
 ok:∀ x∈xs,x.2.length=256∧x.1 < 4294967296
 own:∀ b,v.ownBlock=some b→A b
theorem PutsV.kept {W W':World} {v:Value} {n:Nat} {xs:List (Nat×List UInt8)} (h:PutsV A W v n xs) (hb:Below W.heap.size W W'):PutsV A W' v n xs:=⟨h.len,own_kept h.row hb,h.ok,h.own⟩
theorem PutsV.nil (W:World):PutsV A W (.slice none 0 0) 0 []:=⟨rfl,World.ownsRow_nil _ _ _ _,(fun x hx=>by cases hx),(fun b e=>by cases e)⟩
theorem PutsV.at_ {W:World} {v:Value} {n:Nat} {xs:List (Nat×List UInt8)} (h:PutsV A W v n xs) {k:Nat} (hk:k < xs.length) :
  ∃ g c,v=.slice (some ⟨g,0,none⟩) n c∧W.rangeAt g (k * 257) (putCells xs[k]):=by
 have hl:∀ x∈xs,x.2.length=256:=fun x hx=>(h.ok x hx).1
 obtain ⟨pk,ck,he,hc⟩:=own_slice h.row
 have hle:k * 257+257≤n * 257:=by rw [h.len,←Nat.succ_mul]; exact Nat.mul_le_mul_right _ hk
 obtain ⟨g,hg,_⟩:=hc (k * 257+0) (.int .u32 (xs[k].1:Int)) (by rw [pendCells_get hl k hk 0 (by omega)]; rfl) (by omega)
 refine ⟨g,ck,by rw [he,hg],fun j v hv=>?_⟩
 have hj:=(List.getElem?_eq_some_iff.1 hv).1
 rw [Dev.putCells_length (hl _ (List.getElem_mem hk))] at hj
 obtain ⟨g',hg',hv'⟩:=hc (k * 257+j) v (by rw [pendCells_get hl k hk j hj]; exact hv) (by omega)
 rw [hg] at hg'
 cases hg'
 exact hv'
def inB (xs:List (Nat×List UInt8)) (a:Nat):Bool:=decide (∃ x∈xs,x.1=a)
def lastB (xs:List (Nat×List UInt8)) (a:Nat):List UInt8:=applyP (fun _=>zeros) xs a
structure LBox (A:Nat→Prop) (w:World) (v:Value) (n:Nat) (xs:List (Nat×List UInt8)) (b0:Nat) (W:World):Prop where
 row:PutsV A W v n xs
 res:Holds W b0 zeros
 ge0:w.heap.size≤b0
 bel:Below w.heap.size w W
theorem last_any {w:World} {v:Value} {n:Nat} {xs:List (Nat×List UInt8)} (h:PutsV A w v n xs) {a:Nat} (hn:n < 4294967296) :
  Calls Tryz.prog 190 #[v,.int .u32 (a:Int)] w fun e w'=>e=.returned (.tuple #[.agg (cellsOf (lastB xs a)),.bool (inB xs a)])∧Below w.heap.size w w':=by
 have hzv:=(zero_of_info infoBlock).1
 have hiz:=sizeBlock _ zeros_length
 have hbox:LBox A w v n xs w.heap.size (w.alloc (.cells (cellsOf zeros) 39)):=⟨h.kept ((Below.refl _ _).alloc (Nat.le_refl _) _),Holds.new w zeros,Nat.le_refl _,(Below.refl _ _).alloc (Nat.le_refl _) _⟩
 obtain ⟨pk,ck,rfl,_⟩:=own_slice h.row
 have HN:=Lib.hid h.len
 clear h
 obtain ⟨R,hR⟩:∃ R,R=lastB xs a:=⟨_,rfl⟩
 obtain ⟨bb,hbb⟩:∃ bb,bb=inB xs a:=⟨_,rfl⟩
 have HR:=Lib.hid hR
 have HB:=Lib.hid hbb
 rw [←hR,←hbb]
 clear hR hbb
 have z1:IntKind.i64.wrap ((n:Int) - 1)=(n:Int) - 1:=IntWalk.i64_in _ (by omega)
 go_enter Tryz.func190,Tryz.ntmps190
 go_upto_region 1 with fail
 change Code.wp _ _ _ _ (w.alloc (.cells (cellsOf zeros) 39))
 generalize w.heap.size=b0 at hbox ⊢
 generalize w.alloc (.cells (cellsOf zeros) 39)=W at hbox ⊢
 go_wp2_with fail
 clear z1
 go_loopw [6] (fun i wr=>∃ k:Nat,k≤n∧i=.int .i64 ((k:Int) - 1)∧LBox A w (.slice pk n ck) n xs b0 wr∧Hid (∀ j (hj:j < xs.length),k≤j→xs[j].1≠a)) (fun i _=>(intOf i+1).toNat)
 case atStart=>exact ⟨n,Nat.le_refl _,rfl,hbox,show ∀ j (hj:j < xs.length),n≤j→xs[j].1≠a from fun j hj hk=>by have:=HN.out; omega⟩
 case round=>
  obtain ⟨k,hk,rfl,hb,hnone⟩:=hrel
  clear hbox
  cases k with
  | zero=>
   have hr:=hb.res
   have hbel:=hb.bel
   have hge:=hb.ge0
   have e0:∀ x∈xs,x.1≠a:=fun x hx=>by
    obtain ⟨j,hj,rfl⟩:=List.mem_iff_getElem.1 hx
    exact hnone.out j hj (Nat.zero_le _)
   have e:R=zeros:=by rw [HR.out]; exact applyP_none _ _ e0
   have e2:bb=false:=by
    rw [HB.out]
    exact decide_eq_false (fun ⟨x,h1,h2⟩=>e0 x h1 h2)
   have HE:=Lib.hid e
   have HE2:=Lib.hid e2
   rw [show ((0:Nat):Int) - 1 = -1 from rfl]
   clear hb hnone e0 e e2
   go_wp2_with (first | (refine wpList_store_row rfl 39 _ _ rfl b0 _ rfl rfl _ _ hr hiz rfl (cellsOf_one _) ?_))
   refine bodyPost_ret (results_row_tmp rfl _ _ _ _ _ _ _ rfl (setRow_heap _ _ _ _ _ _ hr) Tryz.underlying39 rfl hiz) rfl ⟨?_,Dev.below_row hbel hge⟩
   rw [HE.out,HE2.out]
   rfl
  | succ k=>
   have hkl:k < xs.length:=by have:=HN.out; omega
   obtain ⟨g,c,he,hr⟩:=hb.row.at_ hkl
   cases he
   have hxl:=(hb.row.ok _ (List.getElem_mem hkl)).1
   generalize hx:xs[k]=x at hr hxl
   have HX:=Lib.hid hx; clear hx
   obtain ⟨xa,xl⟩:=x
   simp only at hxl
   have ca:wr.cell? ⟨g,k * 257,none⟩=some (.int .u32 (xa:Int)):=by simpa using hr 0 _ rfl
   have cr:wr.rangeAt g (k * 257+1) (cellsOf xl).toList:=fun j v hv=>by
    rw [Nat.add_assoc,Nat.add_comm 1 j]
    exact hr (j+1) v hv
   rw [show ((k+1:Nat):Int) - 1=(k:Int) from by omega]
   have hsb:=sizeBlock xl hxl
   clear hr
   by_cases hxa:xa=a
   ·have ed:((xa:Int) == (a:Int))=true:=by simp [hxa]
    have e:R=xl:=by
     have h1:=applyP_last xs (fun _=>zeros) k hkl (by rw [HX.out]; exact hxa) (fun j hj hkj=>hnone.out j hj (by omega))
     rw [HX.out] at h1
     rw [HR.out]
     exact h1
    have e2:bb=true:=by
     rw [HB.out]
     exact decide_eq_true ⟨xs[k],List.getElem_mem hkl,by rw [HX.out]; exact hxa⟩
    have HE:=Lib.hid e
    have HE2:=Lib.hid e2
    have hres:=hb.res
    have hbel:=hb.bel
    have hge0:=hb.ge0
    clear hb hnone hxa e e2
    go_wp2_with (first | (refine wpList_load_sub rfl 39 _ rfl g (k * 257+1) rfl (cellsOf xl) _ cr Tryz.underlying39 rfl hsb ?_) | (refine wpList_store_row rfl 39 _ _ rfl b0 _ rfl rfl _ _ hres hsb (by rw [cellsOf_size,cellsOf_size,hxl,zeros_length]) (cellsOf_one _) ?_))
    refine bodyPost_ret (results_row_tmp rfl _ _ _ _ _ _ _ rfl (setRow_heap _ _ _ _ _ _ hres) Tryz.underlying39 rfl hsb) rfl ⟨?_,Dev.below_row hbel hge0⟩
    rw [HE.out,HE2.out]
    rfl
   ·have ed:((xa:Int) == (a:Int))=false:=by simp; omega
    have hn2:Hid (∀ j (hj:j < xs.length),k≤j→xs[j].1≠a):=show ∀ j (hj:j < xs.length),k≤j→xs[j].1≠a from fun j hj hkj=>by
     by_cases h:j=k
     ·subst h; rw [HX.out]; exact hxa
     ·exact hnone.out j hj (by omega)
    have z2:IntKind.i64.wrap ((k:Int) - 1)=(k:Int) - 1:=IntWalk.i64_in _ (by omega)
    clear hnone hxa cr
    go_wp2
    go_roundw
    case rel=>exact ⟨k,by omega,rfl,hb,hn2⟩
    case measure=>simp [intOf]
end Spc
namespace Spc
open Go.RowKit RowLaw
open Dev (ptr pendCells putCells pendCells_get applyP applyP_none applyP_last applyP_len wpList_load_sub)
open Cnt (own_slice own_kept)
variable {A:Nat→Prop}
structure RS where
 n:Nat
 good:List (Nat×List UInt8)
 wait:List (Nat×List UInt8)
 wr:Nat
abbrev rdC (n:Nat) (vg vw:Value) (wr:Nat):Array Value:=#[.int .u32 (n:Int),vg,vw,.bool false,.int .i64 0,.bool false,.int .u64 (wr:Int)]
structure RD (A:Nat→Prop) (W:World) (v:Value) (x:RS):Prop where
 as_:∃ vg vw,v=.agg (rdC x.n vg vw x.wr)∧PutsV A W vg x.good.length x.good∧PutsV A W vw x.wait.length x.wait
 n32:x.n < 4294967296
 g32:x.good.length < 1000000
 w32:x.wait.length < 1000000
theorem RD.kept {W W':World} {v:Value} {x:RS} (h:RD A W v x) (hb:Below W.heap.size W W'):RD A W' v x:=by
 obtain ⟨⟨vg,vw,h1,h2,h3⟩,h4,h5,h6⟩:=h
 exact ⟨⟨vg,vw,h1,h2.kept hb,h3.kept hb⟩,h4,h5,h6⟩
theorem infoRD:(Tryz.prog.info? 62).map (fun i=>(i.zero,i.size))=some (some (.agg (rdC 0 (.slice none 0 0) (.slice none 0 0) 0)),7):=by kernel_rfl
theorem sizeRD (n:Nat) (vg vw:Value) (wr:Nat):(Tryz.prog.info? 62).map (·.size)=some (rdC n vg vw wr).size:=(zero_of_info infoRD).2
theorem PutsV.slice {W:World} {v:Value} {n:Nat} {xs:List (Nat×List UInt8)} (h:PutsV A W v n xs):v.oneCell'=true:=by
 obtain ⟨pk,ck,rfl,_⟩:=own_slice h.row
 rfl
theorem rdC_one (n:Nat) {vg vw:Value} (wr:Nat) (h1:vg.oneCell'=true) (h2:vw.oneCell'=true):(rdC n vg vw wr).all (·.oneCell')=true:=by
 simp [rdC,Value.oneCell']
 exact ⟨h1,h2⟩
theorem lastB_len {xs:List (Nat×List UInt8)} (h:∀ x∈xs,x.2.length=256) (a:Nat):(lastB xs a).length=256:=applyP_len (fun _=>zeros_length) h a
theorem New3_any (n:Nat) (hn:64≤n) (hn2:n≤1048576) (w:World):Calls Tryz.prog 93 #[.int .u32 (n:Int)] w fun e w'=>∃ v,e=.returned (.tuple #[v,.int .i64 0])∧RD A w' v ⟨n,[],[],0⟩∧Below w.heap.size w w':=by
 have hzv:=(zero_of_info infoRD).1
 have h1:¬ (n:Int) < 64:=by omega
 have h2:¬ (1048576:Int) < (n:Int):=by omega
 have h1':decide (n < 64)=false:=decide_eq_false (by omega)
 have h2':decide (1048576 < n)=false:=decide_eq_false (by omega)
 have hh:(w.alloc (.cells (rdC 0 (.slice none 0 0) (.slice none 0 0) 0) 62)).heap[w.heap.size]? = some (.cells (rdC 0 (.slice none 0 0) (.slice none 0 0) 0) 62 (0,0)):=heap_alloc_new w _
 have hb:Below w.heap.size w (w.alloc (.cells (rdC 0 (.slice none 0 0) (.slice none 0 0) 0) 62)):=(Below.refl _ _).alloc (Nat.le_refl _) _
 have hs:=sizeRD n (.slice none 0 0) (.slice none 0 0) 0
 have h1c:=rdC_one n (vg:=.slice none 0 0) (vw:=.slice none 0 0) 0 rfl rfl
 go_enter Tryz.func93,Tryz.ntmps93
 go_upto_region 1 with fail
 change Code.wp _ _ _ _ (w.alloc (.cells (rdC 0 (.slice none 0 0) (.slice none 0 0) 0) 62))
 generalize hq:w.heap.size=q at hh ⊢
 try rw [hq] at hb
 generalize w.alloc (.cells (rdC 0 (.slice none 0 0) (.slice none 0 0) 0) 62)=W1 at hh hb ⊢
 go_wp2_with (refine wpList_store_row rfl 62 _ _ rfl q (rdC n (.slice none 0 0) (.slice none 0 0) 0) rfl rfl _ _ hh hs rfl h1c ?_)
 refine bodyPost_ret (results_row_tmp rfl _ _ _ _ _ _ _ rfl (setRow_heap _ _ _ _ _ _ hh) Tryz.underlying62 rfl hs) rfl ⟨.agg (rdC n (.slice none 0 0) (.slice none 0 0) 0),rfl,⟨⟨_,_,rfl,PutsV.nil _,PutsV.nil _⟩,by show n < 4294967296; omega,by show (0:Nat) < 1000000; omega,by show (0:Nat) < 1000000; omega⟩,Dev.below_row hb (Nat.le_refl _)⟩
theorem Good_any {w:World} {v:Value} {x:RS} (h:RD A w v x) {a:Nat} :
  Calls Tryz.prog 187 #[v,.int .u32 (a:Int)] w fun e w'=>e=.returned (.agg (cellsOf (lastB x.good a)))∧Below w.heap.size w w':=by
 have hg32:=h.g32
 obtain ⟨⟨vg,vw,rfl,hg,hw⟩,_,_,_⟩:=h
 have hzv:=(zero_of_info infoBlock).1
 have hiz:=sizeBlock _ zeros_length
 have hl:=lastB_len (fun y hy=>(hg.ok y hy).1) a
 have hsb:=sizeBlock _ hl
 have b1:Below w.heap.size w (w.alloc (.cells (rdC x.n vg vw x.wr) 62)):=(Below.refl _ _).alloc (Nat.le_refl _) _
 have b2:Below w.heap.size w ((w.alloc (.cells (rdC x.n vg vw x.wr) 62)).alloc (.cells (cellsOf zeros) 39)):=b1.alloc b1.size _
 have q1:(w.alloc (.cells (rdC x.n vg vw x.wr) 62)).heap[w.heap.size]? = some (.cells (rdC x.n vg vw x.wr) 62 (0,0)):=heap_alloc_new w _
 have q1':((w.alloc (.cells (rdC x.n vg vw x.wr) 62)).alloc (.cells (cellsOf zeros) 39)).heap[w.heap.size]? = some (.cells (rdC x.n vg vw x.wr) 62 (0,0)):=(Below.heap_alloc _ _ _ (by rw [World.size_alloc]; omega)).trans q1
 have q2:Holds ((w.alloc (.cells (rdC x.n vg vw x.wr) 62)).alloc (.cells (cellsOf zeros) 39)) (w.heap.size+1) zeros:=heap_alloc2_new w _ _
 have hg2:=hg.kept b2
 obtain ⟨R,hR⟩:∃ R,R=lastB x.good a:=⟨_,rfl⟩
 rw [←hR] at hl hsb ⊢
 clear b1 q1 hg hw
 go_enter Tryz.func187,Tryz.ntmps187
 go_upto_region 1 with fail
 change Code.wp _ _ _ _ ((w.alloc (.cells (rdC x.n vg vw x.wr) 62)).alloc (.cells (cellsOf zeros) 39))
 obtain ⟨q,hq⟩:∃ q,q=w.heap.size:=⟨_,rfl⟩
 rw [←hq] at q1' q2 ⊢
 have hs2:((w.alloc (.cells (rdC x.n vg vw x.wr) 62)).alloc (.cells (cellsOf zeros) 39)).heap.size=q+2:=by rw [World.size_alloc,World.size_alloc,hq]
 generalize (w.alloc (.cells (rdC x.n vg vw x.wr) 62)).alloc (.cells (cellsOf zeros) 39)=W1 at b2 q1' q2 hg2 hs2 ⊢
 have HQ:=Lib.hid hq
 clear hq
 have c1:W1.cell? ⟨q,1,none⟩=some vg:=(cell_of_row W1 q 1 _ _ _ q1').trans rfl
 have HL:=Lib.hid (last_any (a:=a) hg2 (by omega))
 obtain ⟨pk,ck,rfl,_⟩:=own_slice hg2.row
 rw [←hR] at HL
 generalize inB x.good a=bb at HL
 clear hg2 q1' hR
 go_wp2_with fail
 refine HL.out.mono ?_
 clear HL c1
 rintro e W2 ⟨rfl,hx⟩
 have b3:=b2.trans (hx.mono b2.size)
 have r2:Holds W2 (q+1) zeros:=q2.below hx q2.lt
 have hs3:=hx.size
 rw [hs2] at hs3
 have tok:True:=trivial
 have r3:Holds (W2.alloc (.cells (cellsOf R) 39)) (q+1) zeros:=r2.alloc _
 have r4:Holds (W2.alloc (.cells (cellsOf R) 39)) W2.heap.size R:=Holds.new W2 R
 have b4:=b3.alloc b3.size (.cells (cellsOf R) 39)
 clear hx b2 q2 b3 r2
 go_wp2_with (first | (have _t:=tok; refine wpList_store_new rfl 39 _ _ rfl (cellsOf R) _ _ (by simp [Act.eval]) rfl hsb (by rw [cellsOf_size,cellsOf_size,hl,zeros_length]) (cellsOf_one _) ?_; clear _t tok) | (refine wpList_load_row rfl 39 _ rfl W2.heap.size rfl _ _ _ _ r4 Tryz.underlying39 rfl hsb ?_) | (refine wpList_store_row rfl 39 _ _ rfl (q+1) _ rfl rfl _ _ r3 hsb (by rw [cellsOf_size,cellsOf_size,hl,zeros_length]) (cellsOf_one _) ?_))
 refine bodyPost_ret (results_cell_row rfl _ _ _ _ _ _ _ rfl (setRow_heap _ _ _ _ _ _ r3) Tryz.underlying39 rfl hsb) rfl ⟨rfl,?_⟩
 first
 | exact Dev.below_row b4 (by omega)
 | exact Dev.below_row b4 (by have:=HQ.out; omega)
end Spc
namespace Spc
open Go.RowKit RowLaw
open Dev (ptr pendCells putCells pendCells_get applyP applyP_none applyP_last applyP_len wpList_load_sub)
open Cnt (own_slice own_kept)
variable {A:Nat→Prop}
def RS.at_ (x:RS) (a:Nat):List UInt8:=if x.n≤a then zeros else if inB x.wait a=true then lastB x.wait a else lastB x.good a
def RS.err (x:RS) (a:Nat):Int:=if x.n≤a then 2 else 0
theorem Read3_any {w:World} {v:Value} {x:RS} (h:RD A w v x) {a:Nat} :
  Calls Tryz.prog 124 #[v,.int .u32 (a:Int)] w fun e w'=>e=.returned (.tuple #[.agg (cellsOf (x.at_ a)),.int .i64 (x.err a)])∧Below w.heap.size w w':=by
 have h0:=h
 obtain ⟨⟨vg,vw,rfl,hg,hw⟩,_,_,hw32⟩:=h
 have hzv:=(zero_of_info infoBlock).1
 have hiz:=sizeBlock _ zeros_length
 have hid:=sizeRD x.n vg vw x.wr
 have hl:(lastB x.wait a).length=256:=lastB_len (fun y hy=>(hw.ok y hy).1) a
 have hlg:(lastB x.good a).length=256:=lastB_len (fun y hy=>(hg.ok y hy).1) a
 have hsb:=sizeBlock _ hl
 have hsg:=sizeBlock _ hlg
 have b1:Below w.heap.size w (w.alloc (.cells (rdC x.n vg vw x.wr) 62)):=(Below.refl _ _).alloc (Nat.le_refl _) _
 have b2:Below w.heap.size w ((w.alloc (.cells (rdC x.n vg vw x.wr) 62)).alloc (.cells (cellsOf zeros) 39)):=b1.alloc b1.size _
 have q1:(w.alloc (.cells (rdC x.n vg vw x.wr) 62)).heap[w.heap.size]? = some (.cells (rdC x.n vg vw x.wr) 62 (0,0)):=heap_alloc_new w _
 have q1':((w.alloc (.cells (rdC x.n vg vw x.wr) 62)).alloc (.cells (cellsOf zeros) 39)).heap[w.heap.size]? = some (.cells (rdC x.n vg vw x.wr) 62 (0,0)):=(Below.heap_alloc _ _ _ (by rw [World.size_alloc]; omega)).trans q1
 have q2:Holds ((w.alloc (.cells (rdC x.n vg vw x.wr) 62)).alloc (.cells (cellsOf zeros) 39)) (w.heap.size+1) zeros:=heap_alloc2_new w _ _
 have hw2:=hw.kept b2
 have HD:=Lib.hid (h0.kept b2)
 obtain ⟨R,hR⟩:∃ R,R=x.at_ a:=⟨_,rfl⟩
 obtain ⟨z,hz⟩:∃ z,z=x.err a:=⟨_,rfl⟩
 have HR:=Lib.hid hR
 have HZ:=Lib.hid hz
 rw [←hR,←hz]
 clear b1 q1 hg hw h0 hR hz
 go_enter Tryz.func124,Tryz.ntmps124
 go_upto_region 1 with fail
 change Code.wp _ _ _ _ ((w.alloc (.cells (rdC x.n vg vw x.wr) 62)).alloc (.cells (cellsOf zeros) 39))
 obtain ⟨q,hq⟩:∃ q,q=w.heap.size:=⟨_,rfl⟩
 rw [←hq] at q1' q2 ⊢
 have hs2:((w.alloc (.cells (rdC x.n vg vw x.wr) 62)).alloc (.cells (cellsOf zeros) 39)).heap.size=q+2:=by rw [World.size_alloc,World.size_alloc,hq]
 generalize (w.alloc (.cells (rdC x.n vg vw x.wr) 62)).alloc (.cells (cellsOf zeros) 39)=W1 at b2 q1' q2 hw2 hs2 HD ⊢
 have HQ:=Lib.hid hq
 clear hq
 have c0:W1.cell? ⟨q,0,none⟩=some (.int .u32 (x.n:Int)):=(cell_of_row W1 q 0 _ _ _ q1').trans rfl
 have c1:W1.cell? ⟨q,2,none⟩=some vw:=(cell_of_row W1 q 2 _ _ _ q1').trans rfl
 by_cases hn:x.n≤a
 ·have hn':(x.n:Int)≤(a:Int):=by omega
  have e1:R=zeros:=by rw [HR.out]; exact if_pos hn
  have e2:z=2:=by rw [HZ.out]; exact if_pos hn
  have E:=Lib.hid (And.intro e1 e2)
  clear e1 e2 hn
  go_wp2_with (refine wpList_store_row rfl 39 _ _ rfl (q+1) _ rfl rfl _ _ q2 hiz rfl (cellsOf_one _) ?_)
  refine bodyPost_ret (results_row_tmp rfl _ _ _ _ _ _ _ rfl (setRow_heap _ _ _ _ _ _ q2) Tryz.underlying39 rfl hiz) rfl ⟨?_,Dev.below_row b2 (by have:=HQ.out; omega)⟩
  rw [E.out.1,E.out.2]
  rfl
 ·have hn':¬ (x.n:Int)≤(a:Int):=by omega
  have e1:R=if inB x.wait a=true then lastB x.wait a else lastB x.good a:=by rw [HR.out]; exact if_neg hn
  have e2:z=0:=by rw [HZ.out]; exact if_neg hn
  have HL:=Lib.hid (last_any (a:=a) hw2 (by omega))
  obtain ⟨pk,ck,rfl,_⟩:=own_slice hw2.row
  obtain ⟨L,hL⟩:∃ L,L=lastB x.wait a:=⟨_,rfl⟩
  rw [←hL] at HL hl hsb e1
  obtain ⟨bb,hbb⟩:∃ bb,bb=inB x.wait a:=⟨_,rfl⟩
  rw [←hbb] at HL e1
  have E1:=Lib.hid e1
  have E2:=Lib.hid e2
  have HQ1:=Lib.hid q1'
  clear hw2 hL hbb e1 e2 hn q1'
  cases bb
  ·go_wp2_with fail
   refine HL.out.mono ?_
   clear HL c1 c0
   rintro e W2 ⟨rfl,hx⟩
   have b3:=b2.trans (hx.mono b2.size)
   have r2:Holds W2 (q+1) zeros:=q2.below hx q2.lt
   have hs3:=hx.size
   rw [hs2] at hs3
   have tok:True:=trivial
   have r3:Holds (W2.alloc (.cells (cellsOf L) 39)) (q+1) zeros:=r2.alloc _
   have b4:=b3.alloc b3.size (.cells (cellsOf L) 39)
   have b5:Below W1.heap.size W1 (W2.alloc (.cells (cellsOf L) 39)):=hx.alloc hx.size _
   have HD5:=Lib.hid (HD.out.kept b5)
   have q5:(W2.alloc (.cells (cellsOf L) 39)).heap[q]? = some (.cells (rdC x.n vg (.slice pk x.wait.length ck) x.wr) 62 (0,0)):=(b5.block q (by omega)).trans HQ1.out
   have HG:=Lib.hid (Good_any (a:=a) HD5.out)
   clear hx b2 q2 b3 r2
   go_wp2_with (first | (have _t:=tok; refine wpList_store_new rfl 39 _ _ rfl (cellsOf L) _ _ (by simp [Act.eval]) rfl hsb (by rw [cellsOf_size,cellsOf_size,hl,zeros_length]) (cellsOf_one _) ?_; clear _t tok) | (refine wpList_load_row rfl 62 _ rfl q rfl _ _ _ _ q5 Tryz.underlying62 rfl hid ?_))
   refine HG.out.mono ?_
   clear HG
   rintro e W3 ⟨rfl,hx⟩
   have b6:=b4.trans (hx.mono b4.size)
   have r6:Holds W3 (q+1) zeros:=r3.below hx r3.lt
   clear hx r3 b4 q5 b5
   go_wp2_with (refine wpList_store_row rfl 39 _ _ rfl (q+1) _ rfl rfl _ _ r6 hsg (by rw [cellsOf_size,cellsOf_size,hlg,zeros_length]) (cellsOf_one _) ?_)
   refine bodyPost_ret (results_row_tmp rfl _ _ _ _ _ _ _ rfl (setRow_heap _ _ _ _ _ _ r6) Tryz.underlying39 rfl hsg) rfl ⟨?_,Dev.below_row b6 (by have:=HQ.out; omega)⟩
   rw [E1.out,E2.out]
   rfl
  ·go_wp2_with fail
   refine HL.out.mono ?_
   clear HL c1 c0
   rintro e W2 ⟨rfl,hx⟩
   have b3:=b2.trans (hx.mono b2.size)
   have r2:Holds W2 (q+1) zeros:=q2.below hx q2.lt
   have hs3:=hx.size
   rw [hs2] at hs3
   have tok:True:=trivial
   have r3:Holds (W2.alloc (.cells (cellsOf L) 39)) (q+1) zeros:=r2.alloc _
   have r4:Holds (W2.alloc (.cells (cellsOf L) 39)) W2.heap.size L:=Holds.new W2 L
   have b4:=b3.alloc b3.size (.cells (cellsOf L) 39)
   clear hx b2 q2 b3 r2
   go_wp2_with (first | (have _t:=tok; refine wpList_store_new rfl 39 _ _ rfl (cellsOf L) _ _ (by simp [Act.eval]) rfl hsb (by rw [cellsOf_size,cellsOf_size,hl,zeros_length]) (cellsOf_one _) ?_; clear _t tok) | (refine wpList_load_row rfl 39 _ rfl W2.heap.size rfl _ _ _ _ r4 Tryz.underlying39 rfl hsb ?_) | (refine wpList_store_row rfl 39 _ _ rfl (q+1) _ rfl rfl _ _ r3 hsb (by rw [cellsOf_size,cellsOf_size,hl,zeros_length]) (cellsOf_one _) ?_))
   refine bodyPost_ret (results_row_tmp rfl _ _ _ _ _ _ _ rfl (setRow_heap _ _ _ _ _ _ r3) Tryz.underlying39 rfl hsb) rfl ⟨?_,Dev.below_row b4 (by have:=HQ.out; omega)⟩
   rw [E1.out,E2.out]
   rfl
end Spc
namespace Spc
open Go.RowKit RowLaw
open Dev (ptr pendCells putCells pendCells_get applyP applyP_none applyP_last applyP_len wpList_load_sub)
open Cnt (own_slice own_kept)
variable {A:Nat→Prop}
theorem burn_any {w:World} {v:Value} {x:RS} (h:RD A w v x) (hwr:x.wr < 1000000000) :
  Calls Tryz.prog 249 #[v] w fun e w'=>∃ v',e=.returned v'∧RD A w' v' { x with wr:=x.wr+1 }∧Below w.heap.size w w':=by
 have h0:=h
 obtain ⟨⟨vg,vw,rfl,hg,hw⟩,n32,g32,w32⟩:=h
 have hzv:=(zero_of_info infoRD).1
 have hid:=sizeRD x.n vg vw (x.wr+1)
 have h1c:=rdC_one x.n (x.wr+1) hg.slice hw.slice
 have b1:Below w.heap.size w (w.alloc (.cells (rdC x.n vg vw x.wr) 62)):=(Below.refl _ _).alloc (Nat.le_refl _) _
 have b2:Below w.heap.size w ((w.alloc (.cells (rdC x.n vg vw x.wr) 62)).alloc (.cells (rdC 0 (.slice none 0 0) (.slice none 0 0) 0) 62)):=b1.alloc b1.size _
 have q1:(w.alloc (.cells (rdC x.n vg vw x.wr) 62)).heap[w.heap.size]? = some (.cells (rdC x.n vg vw x.wr) 62 (0,0)):=heap_alloc_new w _
 have q1':((w.alloc (.cells (rdC x.n vg vw x.wr) 62)).alloc (.cells (rdC 0 (.slice none 0 0) (.slice none 0 0) 0) 62)).heap[w.heap.size]? = some (.cells (rdC x.n vg vw x.wr) 62 (0,0)):=(Below.heap_alloc _ _ _ (by rw [World.size_alloc]; omega)).trans q1
 have q2:((w.alloc (.cells (rdC x.n vg vw x.wr) 62)).alloc (.cells (rdC 0 (.slice none 0 0) (.slice none 0 0) 0) 62)).heap[w.heap.size+1]? = some (.cells (rdC 0 (.slice none 0 0) (.slice none 0 0) 0) 62 (0,0)):=heap_alloc2_new w _ _
 have hwz:IntKind.u64.wrap ((x.wr:Int)+1)=(x.wr:Int)+1:=IntWalk.u64_in _ (by omega)
 have HG:=Lib.hid hg
 have HW:=Lib.hid hw
 have HNN:=Lib.hid (And.intro n32 (And.intro g32 w32))
 clear b1 q1 hg hw h0 n32 g32 w32
 go_enter Tryz.func249,Tryz.ntmps249
 go_upto_region 1 with fail
 change Code.wp _ _ _ _ ((w.alloc (.cells (rdC x.n vg vw x.wr) 62)).alloc (.cells (rdC 0 (.slice none 0 0) (.slice none 0 0) 0) 62))
 obtain ⟨q,hq⟩:∃ q,q=w.heap.size:=⟨_,rfl⟩
 rw [←hq] at q1' q2 ⊢
 generalize (w.alloc (.cells (rdC x.n vg vw x.wr) 62)).alloc (.cells (rdC 0 (.slice none 0 0) (.slice none 0 0) 0) 62)=W1 at b2 q1' q2 ⊢
 have HQ:=Lib.hid hq
 clear hq
 have c3:W1.cell? ⟨q,3,none⟩=some (.bool false):=(cell_of_row W1 q 3 _ _ _ q1').trans rfl
 have c6:W1.cell? ⟨q,6,none⟩=some (.int .u64 (x.wr:Int)):=(cell_of_row W1 q 6 _ _ _ q1').trans rfl
 have f6:=frozen_of_row W1 q 6 _ _ q1'
 have e2:(rdC x.n vg vw x.wr).setIfInBounds 6 (.int .u64 ((x.wr:Int)+1))=rdC x.n vg vw (x.wr+1):=rfl
 have p1:(W1.setCell ⟨q,6,none⟩ (.int .u64 ((x.wr:Int)+1))).heap[q]? = some (.cells (rdC x.n vg vw (x.wr+1)) 62 (0,0)):=by rw [←e2]; exact heap_setCell_same W1 q 6 _ _ _ q1'
 have p2:(W1.setCell ⟨q,6,none⟩ (.int .u64 ((x.wr:Int)+1))).heap[q+1]? = some (.cells (rdC 0 (.slice none 0 0) (.slice none 0 0) 0) 62 (0,0)):=(heap_setCell_other W1 ⟨q,6,none⟩ (q+1) _ (by show q+1≠q; omega)).trans q2
 have b3:Below w.heap.size w (W1.setCell ⟨q,6,none⟩ (.int .u64 ((x.wr:Int)+1))):=b2.trans ⟨rfl,rfl,rfl,by simp,fun k hk=>heap_setCell_other W1 ⟨q,6,none⟩ k _ (by have:=HQ.out; show k≠q; omega)⟩
 clear q1' q2 e2 b2
 go_wp2_with (first | (refine wpList_load_row rfl 62 _ rfl q rfl _ _ _ _ p1 Tryz.underlying62 rfl hid ?_) | (refine wpList_store_row rfl 62 _ _ rfl (q+1) _ rfl rfl _ _ p2 hid rfl h1c ?_))
 refine bodyPost_ret (results_cell_row rfl _ _ _ _ _ _ _ rfl (setRow_heap _ _ _ _ _ _ p2) Tryz.underlying62 rfl hid) rfl ⟨_,rfl,?_⟩
 have b4:=Dev.below_row (g:=q+1) (cs:=rdC x.n vg vw (x.wr+1)) b3 (by have:=HQ.out; omega)
 exact ⟨⟨⟨vg,vw,rfl,HG.out.kept b4,HW.out.kept b4⟩,HNN.out.1,HNN.out.2.1,HNN.out.2.2⟩,b4⟩
end Spc
namespace Spc
open Go.RowKit RowLaw
open Dev (ptr pendCells putCells putCells_one putCells_length pendCells_append pendCells_get applyP applyP_none applyP_last applyP_len wpList_load_sub infoPut sizePut run_buildPut new_cells)
open Cnt (own_slice own_kept own_base)
open Rot (wpList_build_run)
variable {A:Nat→Prop}
def fltP (xs:List (Nat×List UInt8)) (a:Nat):List (Nat×List UInt8):=xs.filter (fun y=>decide (y.1≠a))
def withP (xs:List (Nat×List UInt8)) (x:Nat×List UInt8):List (Nat×List UInt8):=fltP xs x.1 ++ [x]
theorem fltP_take (xs:List (Nat×List UInt8)) (a k:Nat) (hk:k < xs.length):fltP (xs.take (k+1)) a=fltP (xs.take k) a ++ (if xs[k].1=a then [] else [xs[k]]):=by
 unfold fltP
 rw [List.take_succ_eq_append_getElem hk,List.filter_append]
 congr 1
 by_cases h:xs[k].1=a <;> simp [h]
structure WBx (A:Nat→Prop) (w:World) (v:Value) (n:Nat) (xs:List (Nat×List UInt8)) (x:Nat×List UInt8) (q:Nat) (vo:Value) (k:Nat) (W:World):Prop where
 row:PutsV A W v n xs
 at_:W.heap[q]? = some (.cells (putCells x).toArray 55 (0,0))
 out:W.ownsRow (q+1) 55 257 vo (fltP (xs.take k) x.1).length (pendCells (fltP (xs.take k) x.1))
 bel:Below w.heap.size w W
 ge:w.heap.size≤q
 old:∀ b,v.ownBlock=some b→b < q
theorem WBx.below {w W W':World} {v:Value} {n:Nat} {xs:List (Nat×List UInt8)} {x:Nat×List UInt8} {q:Nat} {vo:Value} {k:Nat} (h:WBx A w v n xs x q vo k W) (hb:Below W.heap.size W W'):WBx A w v n xs x q vo k W':=
 ⟨h.row.kept hb,(hb.block q (Array.getElem?_eq_some_iff.1 h.at_).1).trans h.at_,own_kept h.out hb,h.bel.trans (hb.mono h.bel.size),h.ge,h.old⟩
theorem WBx.app {w W W':World} {v:Value} {n:Nat} {xs:List (Nat×List UInt8)} {x:Nat×List UInt8} {q:Nat} {vo:Value} {k:Nat} (h:WBx A w v n xs x q vo k W) {vo':Value} {m:Nat} {ys:List (Nat×List UInt8)}
  (hm:m=ys.length) (hr:W'.ownsRow (q+1) 55 257 vo' m (pendCells ys)) (hg:W.grownBy W' vo.ownBlock) {k':Nat} (hys:ys=fltP (xs.take k') x.1):WBx A w v n xs x q vo' k' W':=by
 have hq:=(Array.getElem?_eq_some_iff.1 h.at_).1
 refine ⟨⟨h.row.len,Dev.ownsRow_block h.row.row (fun b hb=>hg.block b (h.row.row.lt b hb).2 (fun e=>?_)),h.row.ok,h.row.own⟩,(hg.block q hq (fun e=>?_)).trans h.at_,?_,h.bel.grown hg h.bel.size (fun b e=>?_),h.ge,h.old⟩
 ·have h1:=(h.out.lt b e.symm).1
  have h2:=h.old b hb
  omega
 ·have h1:=(h.out.lt q e.symm).1
  omega
 ·rw [←hys,←hm]
  exact hr
 ·have h1:=(h.out.lt b e).1
  have h2:=h.ge
  omega
theorem fltP_len (xs:List (Nat×List UInt8)) (a:Nat):(fltP xs a).length≤xs.length:=List.length_filter_le _ _
theorem with_any {w:World} {v:Value} {n:Nat} {xs:List (Nat×List UInt8)} (h:PutsV A w v n xs) {x:Nat×List UInt8} (hx:x.2.length=256) (hx2:x.1 < 4294967296) (hn:n < 1000000) (hAA:∀ b,w.heap.size≤b→A b) :
    Calls Tryz.prog 188 #[v,.agg (putCells x).toArray] w fun e w'=>∃ v',e=.returned v'∧PutsV A w' v' (withP xs x).length (withP xs x)∧Below w.heap.size w w':=by
  have hq:=heap_alloc_new w (.cells (putCells x).toArray 55)
  have hb:Below w.heap.size w (w.alloc (.cells (putCells x).toArray 55)):=(Below.refl _ _).alloc (Nat.le_refl _) _
  have hbox:WBx A w v n xs x w.heap.size (.slice none 0 0) 0 (w.alloc (.cells (putCells x).toArray 55)):=
    ⟨h.kept hb,hq,by rw [List.take_zero]; exact World.ownsRow_nil _ _ _ _,hb,Nat.le_refl _,fun b e=>(h.row.lt b e).2⟩
  obtain ⟨pk,ck,rfl,_⟩:=own_slice h.row
  have HN:=Lib.hid h.len
  have HOK:=Lib.hid h.ok
  have HX:=Lib.hid (And.intro hx hx2)
  have hiu:(Tryz.prog.info? 55).map (·.size)=some (putCells x).length:=sizePut x hx
  obtain ⟨ik,hik0,hik1,hik2,hik3⟩:=info_parts infoPut
  have hz0:(putCells (0,zeros)).length=257:=putCells_length zeros_length
  clear h hq hb
  go_enter Tryz.func188,Tryz.ntmps188
  go_upto_region 1 with fail
  change Code.wp _ _ _ _ (w.alloc (.cells (putCells x).toArray 55))
  obtain ⟨q,hq⟩:∃ q,q=w.heap.size:=⟨_,rfl⟩
  have HQ:=Lib.hid hq
  rw [←hq] at hbox ⊢
  clear hq
  generalize w.alloc (.cells (putCells x).toArray 55)=W1 at hbox ⊢
  go_wp2_with fail
  go_loopw [5,6] (fun v5 i wr=>∃ k:Nat,k≤n∧i=.int .i64 (k:Int)∧Hid (WBx A w (.slice pk n ck) n xs x q v5 k wr)) (fun _ i _=>n - (intOf i).toNat)
  case atStart=>exact ⟨0,by omega,rfl,Lib.hid hbox⟩
  case round=>
    obtain ⟨k,hk,rfl,hb⟩:=hrel
    clear hbox
    by_cases hlt:k < n
    · have hkl:k < xs.length:=by have:=HN.out; omega
      obtain ⟨g,c,he,hr⟩:=hb.out.row.at_ hkl
      cases he
      have hat:=hb.out.at_
      have i0:(0:Int)≤(k:Int):=by omega
      have i1:(k:Int) < (n:Int):=by omega
      have z1:IntKind.i64.wrap ((k:Int)+1)=(k:Int)+1:=IntWalk.i64_in _ (by omega)
      have htk:=fltP_take xs x.1 k hkl
      have hy:=HOK.out _ (List.getElem_mem hkl)
      generalize hyy:xs[k]=y at hr htk hy
      have HT:=Lib.hid htk
      clear hyy htk
      have ca:wr.cell? ⟨g,k * 257,none⟩=some (.int .u32 (y.1:Int)):=by simpa using hr 0 _ rfl
      have cb:wr.cell? ⟨q,0,none⟩=some (.int .u32 (x.1:Int)):=(cell_of_row wr q 0 _ _ _ hat).trans rfl
      have hiy:(Tryz.prog.info? 55).map (·.size)=some (putCells y).length:=sizePut y hy.1
      clear hiu hat
      by_cases hne:y.1=x.1
      · have d1:((y.1:Int) != (x.1:Int))=false:=by rw [hne]; simp
        have HT2:=Lib.hid (show fltP (xs.take (k+1)) x.1=fltP (xs.take k) x.1 from by rw [HT.out,if_pos hne,List.append_nil])
        clear hne hr HT
        go_wp2_with fail
        go_big_quiet (fail)
        go_wp2_with fail
        go_roundw
        case rel=>
          have hB:=hb.out.below (W':=wr.drewN nq) ⟨rfl,rfl,rfl,Nat.le_refl _,fun _ _=>rfl⟩
          exact ⟨k+1,by omega,by go_num,Lib.hid ⟨hB.row,hB.at_,by rw [HT2.out]; exact hB.out,hB.bel,hB.ge,hB.old⟩⟩
        case measure=>simp [intOf]; omega
      · have d1:((y.1:Int) != (x.1:Int))=true:=by simp; omega
        have HT2:=Lib.hid (show fltP (xs.take (k+1)) x.1=fltP (xs.take k) x.1 ++ [y] from by rw [HT.out,if_neg hne])
        have hfl:(fltP (xs.take k) x.1).length < 1000000:=by
          have h1:=fltP_len (xs.take k) x.1
          rw [List.length_take] at h1
          omega
        clear hne HT
        go_wp2_with fail
        go_big_quiet (fail)
        have HB:=Lib.hid (hb.out.below (W':=wr.drewN nq) ⟨rfl,rfl,rfl,Nat.le_refl _,fun _ _=>rfl⟩)
        have hr2:(wr.drewN nq).rangeAt g (k * 257) (putCells y):=hr
        generalize wr.drewN nq=W2 at HB hr2 ⊢
        clear ca cb hr hb
        have HR2:=Lib.hid hr2
        have HA:=Lib.hid (HB.out.below ((Below.refl _ _).alloc (Nat.le_refl _) (.cells (putCells y).toArray 55)))
        have HBU:=Lib.hid (run_buildPut W2 y hy.1)
        have HNC:=Lib.hid (new_cells W2 (putCells y) 55)
        have HN1:=Lib.hid (putCells_one y)
        have HNL:Hid ((putCells y).length=1 * 257):=Lib.hid (by rw [putCells_length hy.1])
        have HSZ:Hid (q+1≤W2.heap.size):=Lib.hid ((Array.getElem?_eq_some_iff.1 HB.out.at_).1)
        obtain ⟨F,hF⟩:∃ F,F=fltP (xs.take k) x.1:=⟨_,rfl⟩
        rw [←hF] at hfl
        have HT3:Hid (fltP (xs.take (k+1)) x.1=F ++ [y]):=Lib.hid (by rw [HT2.out,hF])
        have HOW:=Lib.hid HA.out.out
        rw [←hF] at HOW
        have HPD:Hid (pendCells [y]=putCells y):=Lib.hid (by simp [pendCells])
        clear hF HT2 hr2 hy
        obtain ⟨pc,hpc⟩:∃ z,z=putCells y:=⟨_,rfl⟩
        have HPC:=Lib.hid hpc
        rw [←hpc] at HR2 HA HBU HNC HN1 HNL HPD HOW hiy
        clear hpc
        have tst:=fun ops rest o a Q hgd s1 x1 ho hs hx h=>wpList_append_own (P:=Tryz.prog) (ops:=ops) (rest:=rest) (o:=o) (a:=a) (Q:=Q) _ hgd s1 x1 44 ho (q+1) 55 ik (.agg (putCells (0,zeros)).toArray) 257 260 Tryz.underlying44 hik0 hik1 hik2 hik3 hz0 (by decide) u5 F.length (pendCells F) hs HOW.out ⟨W2.heap.size,0,none⟩ 1 1 pc hx HNL.out HNC.out HN1.out (Nat.le_trans (show F.length+1≤1000000 by omega) (by decide)) (by omega) (by have:=HSZ.out; rw [World.size_alloc]; omega) h
        have HAP:=Lib.hid tst
        clear tst
        have hld:W2.rangeAt g (k * 257) pc:=HR2.out
        go_upto_region 4 with (first
          | (refine wpList_load_mid rfl 55 _ rfl g (k * 257) rfl pc _ hld Tryz.underlying55 rfl hiy ?_)
          | (refine wpList_build_run rfl 44 1 #[(0,.tmp 25)] rfl #[(0,.agg pc.toArray)] (by first | rfl | (simp [Act.eval]; done) | (simp [Act.eval]; rfl)) _ HBU.out ?_; clear HBU hld)
          | (at_builtin; refine HAP.out _ _ _ _ _ rfl _ _ rfl rfl rfl ?_; intro v8 W8 hown hgr _; have HGR:=Lib.hid hgr; have HO8:=Lib.hid hown; clear hgr hown))
        go_wp2_with fail
        go_roundw
        case rel=>
          refine ⟨k+1,by omega,by go_num,Lib.hid (HA.out.app (ys:=F ++ [y]) (m:=F.length+1) (by simp) ?_ HGR.out HT3.out.symm)⟩
          rw [pendCells_append,HPD.out]
          exact HO8.out
        case measure=>simp [intOf]; omega
    · have hkn:k=n:=by omega
      subst hkn
      have i1:¬ (k:Int) < (k:Int):=by omega
      have hat:=hb.out.at_
      have htk:xs.take k=xs:=by rw [HN.out,List.take_length]
      have HTK:=Lib.hid htk
      clear htk
      have hfl:(fltP (xs.take k) x.1).length < 1000000:=by
        have h1:=fltP_len (xs.take k) x.1
        rw [List.length_take] at h1
        omega
      have HA:=Lib.hid (hb.out.below ((Below.refl _ _).alloc (Nat.le_refl _) (.cells (putCells x).toArray 55)))
      have HBU:=Lib.hid (run_buildPut wr x HX.out.1)
      have HNC:=Lib.hid (new_cells wr (putCells x) 55)
      have HN1:=Lib.hid (putCells_one x)
      have HNL:Hid ((putCells x).length=1 * 257):=Lib.hid (by rw [putCells_length HX.out.1])
      have HSZ:Hid (q+1≤wr.heap.size):=Lib.hid ((Array.getElem?_eq_some_iff.1 hat).1)
      have HOW:=Lib.hid HA.out.out
      obtain ⟨F,hF⟩:∃ F,F=fltP (xs.take k) x.1:=⟨_,rfl⟩
      rw [←hF] at hfl HOW
      have HT3:Hid (withP xs x=F ++ [x]):=Lib.hid (by rw [hF,HTK.out]; rfl)
      have HPD:Hid (pendCells [x]=putCells x):=Lib.hid (by simp [pendCells])
      have hxs:(putCells x).toArray.size=(putCells x).length:=by simp
      clear hF hb
      obtain ⟨pc,hpc⟩:∃ z,z=putCells x:=⟨_,rfl⟩
      have HPC:=Lib.hid hpc
      rw [←hpc] at HA HBU HNC HN1 HNL HPD HOW hiu hat
      clear hpc hxs
      have tst:=fun ops rest o a Q hgd s1 x1 ho hs hx h=>wpList_append_own (P:=Tryz.prog) (ops:=ops) (rest:=rest) (o:=o) (a:=a) (Q:=Q) _ hgd s1 x1 44 ho (q+1) 55 ik (.agg (putCells (0,zeros)).toArray) 257 260 Tryz.underlying44 hik0 hik1 hik2 hik3 hz0 (by decide) u5 F.length (pendCells F) hs HOW.out ⟨wr.heap.size,0,none⟩ 1 1 pc hx HNL.out HNC.out HN1.out (Nat.le_trans (show F.length+1≤1000000 by omega) (by decide)) (by omega) (by have:=HSZ.out; rw [World.size_alloc]; omega) h
      have HAP:=Lib.hid tst
      clear tst
      have hia:(Tryz.prog.info? 55).map (·.size)=some pc.toArray.size:=by simpa using hiu
      go_wp2_with (first
        | (refine wpList_load_row rfl 55 _ rfl q rfl _ _ _ _ hat Tryz.underlying55 rfl hia ?_; clear hat hia)
        | (refine wpList_build_run rfl 44 1 #[(0,.tmp 29)] rfl #[(0,.agg pc.toArray)] (by first | rfl | (simp [Act.eval]; done) | (simp [Act.eval]; rfl)) _ HBU.out ?_; clear HBU)
        | (at_builtin; refine HAP.out _ _ _ _ _ rfl _ _ rfl rfl rfl ?_; intro v8 W8 hown hgr _; have HGR:=Lib.hid hgr; have HO8:=Lib.hid hown; clear hgr hown))
      go_ret
      have hA:=HA.out
      refine ⟨_,rfl,⟨rfl,?_,fun z hz=>?_,fun b e=>hAA b (Nat.le_trans hA.ge (Nat.le_trans (Nat.le_succ q) (HO8.out.lt b e).1))⟩,?_⟩
      · rw [HT3.out,pendCells_append,HPD.out,show (F ++ [x]).length=F.length+1 from by simp]
        exact own_base HO8.out (Nat.zero_le _)
      · rcases List.mem_append.1 hz with hz | hz
        · exact HOK.out z (List.mem_filter.1 hz).1
        · simp only [List.mem_singleton] at hz
          subst hz
          exact HX.out
      · have h1:=hA.bel.grown HGR.out hA.bel.size (fun b e=>by have h1:=(hA.out.lt b e).1; have h2:=hA.ge; omega)
        exact h1
end Spc
namespace Spc
open Go.RowKit RowLaw
open Dev (ptr pendCells putCells putCells_one putCells_length pendCells_append pendCells_get applyP applyP_none applyP_last applyP_len wpList_load_sub infoPut sizePut run_buildPut new_cells)
open Cnt (own_slice own_kept own_base own_ne)
open Rot (wpList_build_run)
variable {A:Nat→Prop}
def flushL (g l:List (Nat×List UInt8)):List (Nat×List UInt8):=l.foldl withP g
theorem flushL_take (g l:List (Nat×List UInt8)) (k:Nat) (hk:k < l.length):flushL g (l.take (k+1))=withP (flushL g (l.take k)) l[k]:=by
 unfold flushL
 rw [List.take_add_one,List.getElem?_eq_getElem hk,List.foldl_append]
 rfl
theorem withP_len (g:List (Nat×List UInt8)) (x:Nat×List UInt8):(withP g x).length≤g.length+1:=by
 have:=fltP_len g x.1
 unfold withP
 rw [List.length_append]
 simp only [List.length_cons,List.length_nil]
 omega
theorem flushL_len:∀ (l g:List (Nat×List UInt8)),(flushL g l).length≤g.length+l.length
 | [],g=>Nat.le_refl _
 | x::l,g=>by
  have h1:=flushL_len l (withP g x)
  have h2:=withP_len g x
  have h3: flushL g (x::l)=flushL (withP g x) l:=rfl
  rw [h3]
  simp only [List.length_cons]
  omega
theorem PutsV.other {W W':World} {v:Value} {n:Nat} {xs:List (Nat×List UInt8)} (h:PutsV A W v n xs) {q:Nat} {cs:Array Value} (hq:W.heap[q]? = some (.cells cs 62 (0,0))) (hh:∀ k,k≠q→W'.heap[k]? = W.heap[k]?):PutsV A W' v n xs:=
 ⟨h.len,Dev.ownsRow_block h.row (fun b hb=>hh b (fun e=>own_ne h.row hq (by decide) (by rw [hb,e]))),h.ok,h.own⟩
structure FlB (A:Nat→Prop) (w:World) (x:RS) (q:Nat) (k:Nat) (W:World):Prop where
 as_:∃ vg vw,W.heap[q]? = some (.cells (rdC x.n vg vw (x.wr+1)) 62 (0,0))∧PutsV A W vg (flushL x.good (x.wait.take k)).length (flushL x.good (x.wait.take k))∧PutsV A W vw x.wait.length x.wait
 res:W.heap[q+1]? = some (.cells (rdC 0 (.slice none 0 0) (.slice none 0 0) 0) 62 (0,0))
 bel:Below w.heap.size w W
 ge:w.heap.size≤q
theorem Flush3_any {w:World} {v:Value} {x:RS} (h:RD A w v x) (hwr:x.wr < 1000000000) (hgw:x.good.length+x.wait.length < 1000000) (hAA:∀ b,w.heap.size≤b→A b) :
  Calls Tryz.prog 219 #[v] w fun e w'=>∃ v',e=.returned (.tuple #[v',.int .i64 0])∧RD A w' v' ⟨x.n,flushL x.good x.wait,[],x.wr+1⟩∧Below w.heap.size w w':=by
 have h0:=h
 obtain ⟨⟨vg,vw,rfl,hg,hw⟩,n32,g32,w32⟩:=h
 have hzv:=(zero_of_info infoRD).1
 have hid:=sizeRD x.n vg vw x.wr
 have b1:Below w.heap.size w (w.alloc (.cells (rdC x.n vg vw x.wr) 62)):=(Below.refl _ _).alloc (Nat.le_refl _) _
 have b2:Below w.heap.size w ((w.alloc (.cells (rdC x.n vg vw x.wr) 62)).alloc (.cells (rdC 0 (.slice none 0 0) (.slice none 0 0) 0) 62)):=b1.alloc b1.size _
 have q1:(w.alloc (.cells (rdC x.n vg vw x.wr) 62)).heap[w.heap.size]? = some (.cells (rdC x.n vg vw x.wr) 62 (0,0)):=heap_alloc_new w _
 have q1':((w.alloc (.cells (rdC x.n vg vw x.wr) 62)).alloc (.cells (rdC 0 (.slice none 0 0) (.slice none 0 0) 0) 62)).heap[w.heap.size]? = some (.cells (rdC x.n vg vw x.wr) 62 (0,0)):=(Below.heap_alloc _ _ _ (by rw [World.size_alloc]; omega)).trans q1
 have q2:((w.alloc (.cells (rdC x.n vg vw x.wr) 62)).alloc (.cells (rdC 0 (.slice none 0 0) (.slice none 0 0) 0) 62)).heap[w.heap.size+1]? = some (.cells (rdC 0 (.slice none 0 0) (.slice none 0 0) 0) 62 (0,0)):=heap_alloc2_new w _ _
 have HD:=Lib.hid (h0.kept b2)
 have HNN:=Lib.hid (And.intro n32 (And.intro g32 w32))
 clear b1 q1 hg hw h0 n32 g32 w32
 go_enter Tryz.func219,Tryz.ntmps219
 go_upto_region 1 with fail
 change Code.wp _ _ _ _ ((w.alloc (.cells (rdC x.n vg vw x.wr) 62)).alloc (.cells (rdC 0 (.slice none 0 0) (.slice none 0 0) 0) 62))
 obtain ⟨q,hq⟩:∃ q,q=w.heap.size:=⟨_,rfl⟩
 rw [←hq] at q1' q2 ⊢
 generalize (w.alloc (.cells (rdC x.n vg vw x.wr) 62)).alloc (.cells (rdC 0 (.slice none 0 0) (.slice none 0 0) 0) 62)=W1 at b2 q1' q2 HD ⊢
 have HQ:=Lib.hid hq
 clear hq
 have c5:W1.cell? ⟨q,5,none⟩=some (.bool false):=(cell_of_row W1 q 5 _ _ _ q1').trans rfl
 have HB:=Lib.hid (burn_any HD.out hwr)
 go_wp2_with (refine wpList_load_row rfl 62 _ rfl q rfl _ _ _ _ q1' Tryz.underlying62 rfl hid ?_)
 refine HB.out.mono ?_
 clear HB HD
 rintro e W2 ⟨v',rfl,hD,hx⟩
 obtain ⟨⟨vg',vw',rfl,hg,hw⟩,_,_,_⟩:=hD
 have p1:=(hx.block q (Array.getElem?_eq_some_iff.1 q1').1).trans q1'
 have p2:=(hx.block (q+1) (Array.getElem?_eq_some_iff.1 q2).1).trans q2
 have b3:=b2.trans (hx.mono b2.size)
 have hid':=sizeRD x.n vg' vw' (x.wr+1)
 have h1c:=rdC_one x.n (x.wr+1) hg.slice hw.slice
 have r1:(W2.setRow q (rdC x.n vg' vw' (x.wr+1))).heap[q]? = some (.cells (rdC x.n vg' vw' (x.wr+1)) 62 (0,0)):=setRow_heap _ _ _ _ _ _ p1
 have r2:(W2.setRow q (rdC x.n vg' vw' (x.wr+1))).heap[q+1]? = some (.cells (rdC 0 (.slice none 0 0) (.slice none 0 0) 0) 62 (0,0)):=(setRow_other _ _ _ _ (by omega)).trans p2
 have b4:Below w.heap.size w (W2.setRow q (rdC x.n vg' vw' (x.wr+1))):=Dev.below_row b3 (by have:=HQ.out; omega)
 have hfb:FlB A w x q 0 (W2.setRow q (rdC x.n vg' vw' (x.wr+1))):=⟨⟨vg',vw',r1,by rw [List.take_zero]; exact hg.other p1 (fun k hk=>setRow_other _ _ _ _ hk),hw.other p1 (fun k hk=>setRow_other _ _ _ _ hk)⟩,r2,b4,by have:=HQ.out; omega⟩
 go_upto_region 4 with (refine wpList_store_row rfl 62 _ _ rfl q _ rfl rfl _ _ p1 hid' rfl h1c ?_)
 have c5':(W2.setRow q (rdC x.n vg' vw' (x.wr+1))).cell? ⟨q,5,none⟩=some (.bool false):=(cell_of_row _ q 5 _ _ _ r1).trans rfl
 generalize W2.setRow q (rdC x.n vg' vw' (x.wr+1))=W3 at hfb c5' ⊢
 clear hg hw p1 p2 b3 hid' h1c r1 r2 b4 hx q1' q2 b2 c5 hid
 go_wp2_with fail
 go_loopw [4] (fun i wr=>∃ k:Nat,k≤x.wait.length∧i=.int .i64 (k:Int)∧FlB A w x q k wr) (fun i _=>x.wait.length - (intOf i).toNat)
 case atStart=>exact ⟨0,by omega,rfl,hfb⟩
 case round=>
  obtain ⟨k,hk,rfl,hb⟩:=hrel
  clear hfb c5'
  obtain ⟨⟨ug,uw,h1,h2,h3⟩,h4,h5,h6⟩:=hb
  have c2:wr.cell? ⟨q,2,none⟩=some uw:=(cell_of_row wr q 2 _ _ _ h1).trans rfl
  have c1:wr.cell? ⟨q,1,none⟩=some ug:=(cell_of_row wr q 1 _ _ _ h1).trans rfl
  obtain ⟨pk,ck,rfl,_⟩:=own_slice h3.row
  by_cases hlt:k < x.wait.length
  ·obtain ⟨g,c,he,hr⟩:=h3.at_ hlt
   cases he
   have hy:=h3.ok _ (List.getElem_mem hlt)
   have htk:=flushL_take x.good x.wait k hlt
   generalize hyy:x.wait[k]=y at hr hy htk
   have HT:=Lib.hid htk
   have hiy:(Tryz.prog.info? 55).map (·.size)=some (putCells y).length:=sizePut y hy.1
   have hfl:(flushL x.good (x.wait.take k)).length < 1000000:=by
    have h1:=flushL_len (x.wait.take k) x.good
    rw [List.length_take] at h1
    omega
   have HWI:=Lib.hid (with_any (h2.kept (W':=wr.drew) ⟨rfl,rfl,rfl,Nat.le_refl _,fun _ _=>rfl⟩) hy.1 hy.2 hfl (fun b hb=>hAA b (Nat.le_trans h5.size hb)))
   have HR:=Lib.hid hr
   have HSP:=Lib.hid (show (Tryz.prog.info? 55).map (·.size)=some (putCells y).toArray.size from by simpa using hiy)
   have HF:=Lib.hid (And.intro h1 (And.intro h2 (And.intro h3 (And.intro h4 (And.intro h5 h6)))))
   have i0:(0:Int)≤(k:Int):=by omega
   have i1:(k:Int) < (x.wait.length:Int):=by omega
   have z1:IntKind.i64.wrap ((k:Int)+1)=(k:Int)+1:=IntWalk.i64_in _ (by omega)
   clear hyy htk hiy hfl hr h1 h2 h3 h4 h5 h6 hy
   go_wp2_with fail
   refine wp_region_still_tail 7 (by kernel_rfl) (by kernel_rfl) ?_
   simp only [List.take_succ_cons,List.take_zero,List.drop_succ_cons,List.drop_zero]
   still_step
   still_step
   still_step
   still_step
   still_step
   still_step
   refine wpStill_step (fun K hK=>?_)
   rw [if_pos (by rfl)]
   refine Go.Proofs.YtgkbfahflngklaaGreat.Rot.still_load_mid 55 _ rfl g (k * 257) rfl (putCells y).toArray _ HR.out Tryz.underlying55 rfl HSP.out ?_
   refine hK _ ?_
   clear hK K
   refine wpStill_nil ?_
   change wpList _ _ _ _ _ wr.drew
   obtain ⟨h1,h2,h3,h4,h5,h6⟩:=HF.out
   clear HF c1 c2
   have b1:Below w.heap.size w wr.drew:=h5.trans ⟨rfl,rfl,rfl,Nat.le_refl _,fun _ _=>rfl⟩
   have g1:wr.drew.heap[q]? = wr.heap[q]?:=rfl
   have g2:wr.drew.heap[q+1]? = wr.heap[q+1]?:=rfl
   rw [h1] at g1
   rw [h4] at g2
   have g3:=h3.kept (W':=wr.drew) ⟨rfl,rfl,rfl,Nat.le_refl _,fun _ _=>rfl⟩
   clear h1 h2 h3 h4 h5
   generalize wr.drew=W4 at b1 g1 g2 g3 HWI ⊢
   have HG:=Lib.hid (And.intro b1 (And.intro g1 (And.intro g2 (And.intro g3 h6))))
   clear b1 g1 g2 g3 h6
   go_wp2_with fail
   refine HWI.out.mono ?_
   clear HWI
   rintro e W5 ⟨vz,rfl,h2,hx⟩
   obtain ⟨b1,g1,g2,g3,h6⟩:=HG.out
   have b5:=b1.trans (hx.mono b1.size)
   have k1:=(hx.block q (Array.getElem?_eq_some_iff.1 g1).1).trans g1
   have k2:=(hx.block (q+1) (Array.getElem?_eq_some_iff.1 g2).1).trans g2
   have k3:=g3.kept hx
   have c1:W5.cell? ⟨q,1,none⟩=some ug:=(cell_of_row W5 q 1 _ _ _ k1).trans rfl
   have f1:=frozen_of_row W5 q 1 _ _ k1
   have e2:(rdC x.n ug (.slice (some ⟨g,0,none⟩) x.wait.length ck) (x.wr+1)).setIfInBounds 1 vz=rdC x.n vz (.slice (some ⟨g,0,none⟩) x.wait.length ck) (x.wr+1):=rfl
   have hoth:∀ j,j≠q→(W5.setCell ⟨q,1,none⟩ vz).heap[j]? = W5.heap[j]?:=fun j hj=>heap_setCell_other W5 ⟨q,1,none⟩ j _ hj
   have hfb:FlB A w x q (k+1) (W5.setCell ⟨q,1,none⟩ vz):=⟨⟨vz,_,by rw [←e2]; exact heap_setCell_same W5 q 1 _ _ _ k1,by rw [HT.out]; exact h2.other k1 hoth,k3.other k1 hoth⟩,(hoth _ (by omega)).trans k2,b5.trans ⟨rfl,rfl,rfl,by simp,fun j hj=>hoth j (by omega)⟩,h6⟩
   obtain ⟨pz,cz,rfl,_⟩:=own_slice h2.row
   have HFB:=Lib.hid hfb
   clear hfb h2 hx b1 g1 g2 g3 HG b5 k1 k2 k3 e2 hoth
   go_wp2_with fail
   go_roundw
   case rel=>exact ⟨k+1,by omega,by go_num,HFB.out⟩
   case measure=>simp [intOf]; omega
  ·have hkn:k=x.wait.length:=by omega
   have i1:¬ (k:Int) < (x.wait.length:Int):=by omega
   have htk:flushL x.good (x.wait.take k)=flushL x.good x.wait:=by rw [hkn,List.take_length]
   rw [htk] at h2
   have hfl:(flushL x.good x.wait).length < 1000000:=by
    have:=flushL_len x.wait x.good
    omega
   have f2:=frozen_of_row wr q 2 _ _ h1
   have e2:(rdC x.n ug (.slice pk x.wait.length ck) (x.wr+1)).setIfInBounds 2 (.slice none 0 0)=rdC x.n ug (.slice none 0 0) (x.wr+1):=rfl
   have hoth:∀ j,j≠q→(wr.setCell ⟨q,2,none⟩ (.slice none 0 0)).heap[j]? = wr.heap[j]?:=fun j hj=>heap_setCell_other wr ⟨q,2,none⟩ j _ hj
   have p1:(wr.setCell ⟨q,2,none⟩ (.slice none 0 0)).heap[q]? = some (.cells (rdC x.n ug (.slice none 0 0) (x.wr+1)) 62 (0,0)):=by rw [←e2]; exact heap_setCell_same wr q 2 _ _ _ h1
   have p2:=(hoth (q+1) (by omega)).trans h4
   have p3:=h2.other h1 hoth
   have b5:Below w.heap.size w (wr.setCell ⟨q,2,none⟩ (.slice none 0 0)):=h5.trans ⟨rfl,rfl,rfl,by simp,fun j hj=>hoth j (by omega)⟩
   have hid2:=sizeRD x.n ug (.slice none 0 0) (x.wr+1)
   have h1c:=rdC_one x.n (vg:=ug) (vw:=.slice none 0 0) (x.wr+1) h2.slice rfl
   have HF:=Lib.hid (And.intro p3 (And.intro b5 (And.intro h6 hfl)))
   clear p3 b5 h6 hfl htk e2 hoth h1 h2 h3 h4 h5 c1 hkn
   go_wp2_with (first | (refine wpList_load_row rfl 62 _ rfl q rfl _ _ _ _ p1 Tryz.underlying62 rfl hid2 ?_) | (refine wpList_store_row rfl 62 _ _ rfl (q+1) _ rfl rfl _ _ p2 hid2 rfl h1c ?_))
   obtain ⟨p3,b5,h6,hfl⟩:=HF.out
   refine bodyPost_ret (results_row_tmp rfl _ _ _ _ _ _ _ rfl (setRow_heap _ _ _ _ _ _ p2) Tryz.underlying62 rfl hid2) rfl ⟨_,rfl,?_,Dev.below_row b5 (by omega)⟩
   exact ⟨⟨ug,.slice none 0 0,rfl,p3.other p2 (fun j hj=>setRow_other _ _ _ _ hj),PutsV.nil _⟩,HNN.out.1,hfl,by show (0:Nat) < 1000000; omega⟩
end Spc

end Go.Proofs.YtgkbfahflngklaaGreat
