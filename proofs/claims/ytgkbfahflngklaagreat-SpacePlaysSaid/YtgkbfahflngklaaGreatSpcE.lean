import Derived.Test.YtgkbfahflngklaaGreatSpcC
import Derived.Test.YtgkbfahflngklaaGreatSlt4
import Derived.Test.YtgkbfahflngklaaGreatPln
import Derived.Test.YtgkbfahflngklaaGreatTal3
set_option maxRecDepth 100000
set_option maxHeartbeats 6400000
set_option linter.unusedSimpArgs false
namespace Go.Proofs.YtgkbfahflngklaaGreat
namespace Spc
open Go.RowKit RowLaw
open Dev (ptr DS readB)
open Cnt (own_slice own_kept own_base own_ne TD tdOf tdOf_ok Sound pkAt tlAt bitAt bitAt_lt shr_lt shr_cast cntV)
open Slt (Rt cells cells_one infoR sizeR)
open Tal (pgCells pgCells_size pgCells_one IsPg kT kP infoP infoT zs zs_length sizeP sizeT getE getI getNs getNs_length refGet_anyP refGet_anyT)
open Rot (planOk tlN pkN fsN planCells planCells_one sizePlan infoPlan refLayout_yes plan_facts)
variable {A:Nat→Prop}
theorem refBit_any {k i:Nat} {ns:List Nat} (hl:ns.length=16) (hn:∀ x∈ns,x < 18446744073709551616) (hi:i < 1024) (w:World) :
  Calls Tryz.prog 221 #[.agg (pgCells .u64 k ns),.int .i64 (i:Int)] w fun e w'=>e=.returned (.tuple #[.int .i64 (bitAt ns i:Int),.int .i64 0])∧Below w.heap.size w w':=by
 have hN:=IsPg.new .u64 142 w k ns
 have hb:Below w.heap.size w (w.alloc (.cells (pgCells .u64 k ns) 142)):=(Below.refl _ _).alloc (Nat.le_refl _) _
 have hj:i / 64 < ns.length:=by omega
 have hc:(w.alloc (.cells (pgCells .u64 k ns) 142)).cell? ⟨w.heap.size,1+i / 64,none⟩=some (.int .u64 (ns[i / 64]:Int)):=hN.num (i / 64) hj
 have hx:ns[i / 64] < 18446744073709551616:=hn _ (List.getElem_mem hj)
 have hbd:bitAt ns i=ns[i / 64] / 2 ^ (i % 64) % 2:=by
  unfold bitAt
  rw [List.getD_eq_getElem?_getD,List.getElem?_eq_getElem hj]
  rfl
 generalize ns[i / 64]=x at hc hx hbd
 have hsl:=shr_lt (i % 64) hx
 obtain ⟨y,hy⟩:∃ y,y=x / 2 ^ (i % 64):=⟨_,rfl⟩
 have hcast:(x:Int) / 2 ^ (i % 64)=(y:Int):=by rw [hy]; push_cast; rfl
 rw [←hy] at hsl hbd
 rw [hbd]
 clear hbd hN hn hy
 obtain ⟨q,hq⟩:∃ q,q=i / 64:=⟨_,rfl⟩
 obtain ⟨r,hr⟩:∃ r,r=i % 64:=⟨_,rfl⟩
 rw [←hq] at hc
 rw [←hr] at hcast
 have d1:Int.tdiv (i:Int) 64=(q:Int):=by rw [Int.tdiv_eq_ediv_of_nonneg (by omega)]; omega
 have d2:Int.tmod (i:Int) 64=(r:Int):=by rw [Int.tmod_eq_emod_of_nonneg (by omega)]; omega
 have d3:(i:Int) / 64=(q:Int):=by omega
 have d4:(i:Int) % 64=(r:Int):=by omega
 have hq16:q < 16:=by omega
 have hr64:r < 64:=by omega
 have g0:¬ (i:Int) < 0:=by omega
 have g1:¬ (1024:Int)≤(i:Int):=by omega
 have gi0:decide ((i:Int) < 0)=false:=decide_eq_false g0
 clear hq hr
 go_enter Tryz.func221,Tryz.ntmps221
 go_wp2_with fail
 go_ret2
 refine ⟨?_,hb⟩
 push_cast
 rfl
theorem bit_any (n i:Nat) (hi:i < 32) (w:World):Calls Tryz.prog 222 #[.int .u32 (n:Int),.int .u32 (i:Int)] w fun e w'=>e=.returned (.int .u32 ((n / 2 ^ i % 2:Nat):Int))∧w'=w:=by
 obtain ⟨y,hy⟩:∃ y,y=n / 2 ^ i:=⟨_,rfl⟩
 have hcast:(n:Int) / 2 ^ i=(y:Int):=by rw [hy]; push_cast; rfl
 have hyn:y≤n:=by rw [hy]; exact Nat.div_le_self _ _
 rw [←hy]
 clear hy
 have i0:(0:Int)≤(i:Int):=by omega
 have i1:(i:Int) < 32:=by omega
 go_enter Tryz.func222,Tryz.ntmps222
 go_wp2_with fail
 go_ret
 exact ⟨rfl,rfl⟩
def setCells (x:Nat×Nat):List Value:=[.int .u32 (x.1:Int),.int .u16 (x.2:Int)]
def setsCells (l:List (Nat×Nat)):List Value:=l.flatMap setCells
structure SetsV (A:Nat→Prop) (W:World) (v:Value) (n:Nat) (xs:List (Nat×Nat)):Prop where
 len:n=xs.length
 row:W.ownsRow 0 277 2 v n (setsCells xs)
 ok:∀ x∈xs,x.1 < 4294967296∧x.2 < 65536
 own:∀ b,v.ownBlock=some b→A b
theorem SetsV.kept {W W':World} {v:Value} {n:Nat} {xs:List (Nat×Nat)} (h:SetsV A W v n xs) (hb:Below W.heap.size W W'):SetsV A W' v n xs:=⟨h.len,own_kept h.row hb,h.ok,h.own⟩
theorem SetsV.nil (W:World):SetsV A W (.slice none 0 0) 0 []:=⟨rfl,World.ownsRow_nil _ _ _ _,(fun x hx=>by cases hx),(fun b e=>by cases e)⟩
abbrev dtC (n:Nat) (vg vw:Value) (wr:Nat) (r:Rt) (vl:Value):Array Value:=
 #[.int .u32 (n:Int),vg,vw,.bool false,.int .i64 0,.bool false,.int .u64 (wr:Int),.int .u64 (r.gen:Int),.int .u32 (r.size:Int),.int .u32 (r.picks:Int),.int .u32 (r.names:Int),.int .u32 (r.free:Int),.int .u32 (r.next:Int),.int .u32 (r.hint:Int),.int .u8 (r.vols:Int),vl]
theorem infoDT:(Tryz.prog.info? 65).map (fun i=>(i.zero,i.size))=some (some (.agg (dtC 0 (.slice none 0 0) (.slice none 0 0) 0 Slt.nil (.slice none 0 0))),16):=by kernel_rfl
theorem sizeDT (n:Nat) (vg vw:Value) (wr:Nat) (r:Rt) (vl:Value):(Tryz.prog.info? 65).map (·.size)=some (dtC n vg vw wr r vl).size:=(zero_of_info infoDT).2
structure DT (A:Nat→Prop) (W:World) (v:Value) (x:RS) (r:Rt) (L:List (Nat×Nat)):Prop where
 as_:∃ vg vw vl,v=.agg (dtC x.n vg vw x.wr r vl)∧RD A W (.agg (rdC x.n vg vw x.wr)) x∧SetsV A W vl L.length L
theorem DT.kept {W W':World} {v:Value} {x:RS} {r:Rt} {L:List (Nat×Nat)} (h:DT A W v x r L) (hb:Below W.heap.size W W'):DT A W' v x r L:=by
 obtain ⟨vg,vw,vl,h1,h2,h3⟩:=h
 exact ⟨⟨vg,vw,vl,h1,h2.kept hb,h3.kept hb⟩⟩
structure Sees (x:RS) (r:Rt) (s:DS):Prop where
 like:Like x s
 sound:Sound s r.picks
 size:r.size=s.n
 one:pkN s.n=1
 fits:r.Fits
theorem Sees.n {x:RS} {r:Rt} {s:DS} (h:Sees x r s):x.n=s.n:=h.like.n.symm
theorem first9_any {w:World} {v:Value} {x:RS} {r:Rt} {L:List (Nat×Nat)} {s:DS} (h:DT A w v x r L) (hS:Sees x r s):Calls Tryz.prog 168 #[v] w fun e w'=>e=.returned (.int .u32 (fsN s.n:Int))∧Below w.heap.size w w':=by
 obtain ⟨vg,vw,vl,rfl,h2,h3⟩:=h
 have hzp:=(zero_of_info infoPlan).1
 have hL:=refLayout_yes hS.sound.plan
 have hq:=heap_alloc_new w (.cells (dtC x.n vg vw x.wr r vl) 65)
 have hb:Below w.heap.size w (w.alloc (.cells (dtC x.n vg vw x.wr r vl) 65)):=(Below.refl _ _).alloc (Nat.le_refl _) _
 have hsz:=hS.size
 have c8:(w.alloc (.cells (dtC x.n vg vw x.wr r vl) 65)).cell? ⟨w.heap.size,8,none⟩=some (.int .u32 (s.n:Int)):=(cell_of_row _ w.heap.size 8 _ _ _ hq).trans (by rw [←hsz]; rfl)
 generalize fsN s.n=fs at hL ⊢
 generalize tlN s.n=tl at hL
 generalize pkN s.n=pk at hL
 have HL:=Lib.hid hL
 clear hL hq h2 h3 hsz
 go_enter Tryz.func168,Tryz.ntmps168
 go_upto_region 1 with fail
 change Code.wp _ _ _ _ (w.alloc (.cells (dtC x.n vg vw x.wr r vl) 65))
 generalize w.alloc (.cells (dtC x.n vg vw x.wr r vl) 65)=W1 at hb c8 ⊢
 go_wp2_with fail
 refine (HL.out _).mono ?_
 clear HL
 rintro e W2 ⟨rfl,hx⟩
 have b3:=(hb.trans (hx.mono hb.size)).alloc (hb.trans (hx.mono hb.size)).size (.cells (planCells tl pk fs) 82)
 have c2:(W2.alloc (.cells (planCells tl pk fs) 82)).cell? ⟨W2.heap.size,2,none⟩=some (.int .u32 (fs:Int)):=(cell_of_row _ W2.heap.size 2 _ _ _ (heap_alloc_new W2 _)).trans rfl
 have tok:True:=trivial
 go_wp2_with (have _t:=tok; refine wpList_store_new rfl 82 _ _ rfl (planCells tl pk fs) _ _ rfl rfl (sizePlan _ _ _) rfl (planCells_one _ _ _) ?_; clear _t tok)
 go_ret
 exact ⟨rfl,b3⟩
end Spc
namespace Spc
open Go.RowKit RowLaw
open Dev (ptr DS readB yieldsIf_load_row)
open Cnt (own_slice own_kept own_base own_ne TD tdOf tdOf_ok Sound pkAt tlAt bitAt bitAt_lt cntV)
open Slt (Rt cells cells_one infoR sizeR)
open Tal (pgCells pgCells_size pgCells_one IsPg kT kP infoP infoT zs zs_length sizeP sizeT getE getI getNs getNs_length refGet_anyP refGet_anyT)
open Rot (planOk tlN pkN fsN planCells planCells_one sizePlan infoPlan refLayout_yes plan_facts)
variable {A:Nat→Prop}
theorem pickAt9_any {w:World} {v:Value} {x:RS} {r:Rt} {L:List (Nat×Nat)} {s:DS} (h:DT A w v x r L):Calls Tryz.prog 176 #[v,.int .u32 0] w fun e w'=>e=.returned (.int .u32 (pkAt (tdOf 0 s r.picks) 0:Int))∧Below w.heap.size w w':=by
 obtain ⟨vg,vw,vl,rfl,h2,h3⟩:=h
 have hq:=heap_alloc_new w (.cells (dtC x.n vg vw x.wr r vl) 65)
 have hb:Below w.heap.size w (w.alloc (.cells (dtC x.n vg vw x.wr r vl) 65)):=(Below.refl _ _).alloc (Nat.le_refl _) _
 have c9:(w.alloc (.cells (dtC x.n vg vw x.wr r vl) 65)).cell? ⟨w.heap.size,9,none⟩=some (.int .u32 (r.picks:Int)):=(cell_of_row _ w.heap.size 9 _ _ _ hq).trans rfl
 have hB:=Lib.hid (fun W=>bit_any r.picks 0 (by omega) W)
 have e:((pkAt (tdOf 0 s r.picks) 0:Nat):Int)=2+((r.picks / 2 ^ 0 % 2:Nat):Int):=by
  show ((2+2 * 0+r.picks / 2 ^ 0 % 2:Nat):Int)=_
  omega
 have hbd:r.picks / 2 ^ 0 % 2 < 2:=Nat.mod_lt _ (by omega)
 rw [e]
 generalize r.picks / 2 ^ 0 % 2=b at hB hbd ⊢
 clear hq h2 h3 e
 go_enter Tryz.func176,Tryz.ntmps176
 go_upto_region 1 with fail
 change Code.wp _ _ _ _ (w.alloc (.cells (dtC x.n vg vw x.wr r vl) 65))
 generalize w.alloc (.cells (dtC x.n vg vw x.wr r vl) 65)=W1 at hb c9 ⊢
 go_wp2_with fail
 refine (hB.out _).mono ?_
 rintro e W2 ⟨rfl,rfl⟩
 go_wp2_with fail
 go_ret
 exact ⟨rfl,hb⟩
theorem Sees.pick {x:RS} {r:Rt} {s:DS} (h:Sees x r s):x.at_ (pkAt (tdOf 0 s r.picks) 0)=readB s (pkAt (tdOf 0 s r.picks) 0)∧x.err (pkAt (tdOf 0 s r.picks) 0)=0∧
  getE kP (readB s (pkAt (tdOf 0 s r.picks) 0)) 0=0∧getNs kP (readB s (pkAt (tdOf 0 s r.picks) 0)) 0=(tdOf 0 s r.picks).PV 0:=by
 have h1:pkAt (tdOf 0 s r.picks) 0 < s.n:=Cnt.pkAt_lt (tdOf_ok h.sound.plan h.sound.chl) (show 0 < pkN s.n by rw [h.one]; omega)
 have h2:2≤pkAt (tdOf 0 s r.picks) 0:=by unfold pkAt; omega
 refine ⟨h.like.at_ _ h2 (by rw [h.n]; exact h1),if_neg (by rw [h.n]; omega),h.sound.pick 0 (by rw [h.one]; omega),rfl⟩
theorem RD.at_len {W:World} {v:Value} {x:RS} (h:RD A W v x) (a:Nat):(x.at_ a).length=256:=by
 obtain ⟨⟨vg,vw,_,hg,hw⟩,_⟩:=h
 unfold RS.at_
 split
 ·exact zeros_length
 ·split
  ·exact lastB_len (fun y hy=>(hw.ok y hy).1) a
  ·exact lastB_len (fun y hy=>(hg.ok y hy).1) a
theorem sub0 {n:Nat} {vg vw vl:Value} {wr:Nat} {r:Rt} {j:Nat} {u:Value} (hu:(rdC n vg vw wr).toList[j]? = some u):(dtC n vg vw wr r vl)[j]? = some u:=by
 have hj:j < 7:=by
  have:=(List.getElem?_eq_some_iff.1 hu).1
  simpa using this
 rcases (by omega:j=0∨j=1∨j=2∨j=3∨j=4∨j=5∨j=6) with rfl | rfl | rfl | rfl | rfl | rfl | rfl <;> exact hu
theorem pick9_any {w:World} {v:Value} {x:RS} {r:Rt} {L:List (Nat×Nat)} {s:DS} (h:DT A w v x r L) (hS:Sees x r s):Calls Tryz.prog 174 #[v,.int .u32 0] w fun e w'=>e=.returned (.tuple #[.agg (pgCells .u64 0 ((tdOf 0 s r.picks).PV 0)),.int .i64 0])∧Below w.heap.size w w':=by
 have h0:=h
 obtain ⟨vg,vw,vl,rfl,h2,h3⟩:=h
 have hzb:=(zero_of_info infoBlock).1
 have hzp:=(zero_of_info infoP).1
 have hidt:=sizeDT x.n vg vw x.wr r vl
 have hid:=sizeRD x.n vg vw x.wr
 obtain ⟨e1,e2,e3,e4⟩:=hS.pick
 have hpl:((tdOf 0 s r.picks).PV 0).length=16:=(tdOf_ok (d:=0) hS.sound.plan hS.sound.chl).pl 0
 have hbl:=h2.at_len (pkAt (tdOf 0 s r.picks) 0)
 have hP:=Lib.hid (fun W (hb:Below w.heap.size w W)=>pickAt9_any (s:=s) (h0.kept hb))
 have hR:=Lib.hid (fun W (hb:Below w.heap.size w W)=>Read3_any (a:=pkAt (tdOf 0 s r.picks) 0) (h2.kept hb))
 have hG:=refGet_anyP (x.at_ (pkAt (tdOf 0 s r.picks) 0)) hbl 0
 rw [e1] at hG hbl
 rw [e1,e2] at hR
 have eI:getI kP (readB s (pkAt (tdOf 0 s r.picks) 0)) 0=0:=if_pos e3
 rw [eI,e3,e4] at hG
 generalize (tdOf 0 s r.picks).PV 0=ns at hG hpl ⊢
 generalize pkAt (tdOf 0 s r.picks) 0=at_ at hP hR hG hbl
 generalize readB s at_=bl at hR hG hbl
 have hsb:=sizeBlock bl hbl
 have hip:=sizeP 0 ns hpl
 have HG:=Lib.hid hG
 have b1:Below w.heap.size w (w.alloc (.cells (dtC x.n vg vw x.wr r vl) 65)):=(Below.refl _ _).alloc (Nat.le_refl _) _
 have b2:Below w.heap.size w ((w.alloc (.cells (dtC x.n vg vw x.wr r vl) 65)).alloc (.cells (pgCells .u64 0 (zs kP)) 142)):=b1.alloc b1.size _
 have q1:((w.alloc (.cells (dtC x.n vg vw x.wr r vl) 65)).alloc (.cells (pgCells .u64 0 (zs kP)) 142)).heap[w.heap.size]? = some (.cells (dtC x.n vg vw x.wr r vl) 65 (0,0)):=(Below.heap_alloc _ _ _ (by rw [World.size_alloc]; omega)).trans (heap_alloc_new w _)
 have q2:((w.alloc (.cells (dtC x.n vg vw x.wr r vl) 65)).alloc (.cells (pgCells .u64 0 (zs kP)) 142)).heap[w.heap.size+1]? = some (.cells (pgCells .u64 0 (zs kP)) 142 (0,0)):=heap_alloc2_new w _ _
 clear h0 h2 h3 hS e1 e2 e3 e4 eI hG b1
 go_enter Tryz.func174,Tryz.ntmps174
 go_upto_region 1 with fail
 change Code.wp _ _ _ _ ((w.alloc (.cells (dtC x.n vg vw x.wr r vl) 65)).alloc (.cells (pgCells .u64 0 (zs kP)) 142))
 obtain ⟨q,hq⟩:∃ q,q=w.heap.size:=⟨_,rfl⟩
 rw [←hq] at q1 q2 ⊢
 have HQ:=Lib.hid hq
 clear hq
 generalize (w.alloc (.cells (dtC x.n vg vw x.wr r vl) 65)).alloc (.cells (pgCells .u64 0 (zs kP)) 142)=W1 at b2 q1 q2 ⊢
 have HT:=Lib.hid (fun W (hW:Below W1.heap.size W1 W)=>(hW.block q (Array.getElem?_eq_some_iff.1 q1).1).trans q1)
 have HZ:=Lib.hid (fun W (hW:Below W1.heap.size W1 W)=>(hW.block (q+1) (Array.getElem?_eq_some_iff.1 q2).1).trans q2)
 have HB:=Lib.hid (fun W (hW:Below W1.heap.size W1 W)=>b2.trans (hW.mono b2.size))
 have HPB:=Lib.hid (fun W (hW:Below W1.heap.size W1 W)=>hP.out W (HB.out W hW))
 have HRB:=Lib.hid (fun W (hW:Below W1.heap.size W1 W)=>hR.out W (HB.out W hW))
 clear q1 q2 b2 hP hR
 refine wp_region_noPanic ?_
 refine wp_region_held_drew (S:=fun W=>Below W1.heap.size W1 W) (by kernel_rfl) (Below.refl _ _).drew ?_
 intro hS
 generalize W1.drew=V0 at hS ⊢
 refine RowLaw.tkV 0 9 (.pointer (some ⟨q,0,none⟩)) hS ?_
 simp only [RowLaw.lset]
 refine RowLaw.tkV 1 10 (.agg (rdC x.n vg vw x.wr)) hS ?_ (hy:=(yieldsIf_load_mid (by rfl) 62 _ rfl q 0 rfl (rdC x.n vg vw x.wr).toList _ (fun W hW=>(fun j u hu=>by rw [Nat.zero_add,cell_of_row W q j _ _ _ (HT.out W hW)]; exact sub0 hu)) Tryz.underlying62 rfl (by simpa using hid)))
 simp only [RowLaw.lset]
 refine RowLaw.tkV 2 11 (.agg (dtC x.n vg vw x.wr r vl)) hS ?_ (hy:=(yieldsIf_load_row (by rfl) 65 _ rfl q rfl _ _ _ _ (fun W hW=>HT.out W hW) Tryz.underlying65 rfl hidt))
 simp only [RowLaw.lset]
 refine RowLaw.tkV 3 12 (.int .u32 0) hS ?_
 simp only [RowLaw.lset]
 refine wpAnyH_ready (rs:=[4,9]) (by kernel_rfl) (by simp) ?_
 refine AllReadyH.cons rfl (fun K hK=>?_) (AllReadyH.cons rfl (fun K hK=>?_) AllReadyH.nil)
 ·rw [if_pos (by rfl)]
  go_simp
  refine (HPB.out _ hS).mono ?_
  rintro e V1 ⟨rfl,hx1⟩
  dsimp only
  have hT1:=hS.trans (hx1.mono hS.size)
  refine hK _ _ hT1 (fun _=>?_)
  clear hK K hx1
  try simp only [Act.put,List.setIfInBounds_toArray,RowLaw.lset]
  refine wpAnyH_ready (rs:=[5,9]) (by kernel_rfl) (by simp) ?_
  refine AllReadyH.cons rfl (fun K hK=>?_) (AllReadyH.cons rfl (fun K hK=>?_) AllReadyH.nil)
  ·rw [if_pos (by rfl)]
   go_simp
   refine (HRB.out _ hT1).mono ?_
   rintro e V2 ⟨rfl,hx2⟩
   dsimp only
   have hT2:=hT1.trans (hx2.mono hT1.size)
   refine hK _ _ hT2 (fun _=>?_)
   clear hK K hx2
   try simp only [Act.put,List.setIfInBounds_toArray,RowLaw.lset]
   refine RowLaw.tkV 6 8 (.tuple #[.agg (cellsOf bl),.int .i64 0]) hT2 ?_
   simp only [RowLaw.lset]
   refine RowLaw.tkV 7 15 (.agg (cellsOf bl)) hT2 ?_
   simp only [RowLaw.lset]
   refine RowLaw.tkV 8 16 (.int .i64 0) hT2 ?_
   simp only [RowLaw.lset]
   refine wpAnyH_ready (rs:=[9]) (by kernel_rfl) (by simp) ?_
   refine AllReadyH.cons rfl (fun K hK=>?_) AllReadyH.nil
   rw [if_pos (by rfl)]
   go_simp
   have hT3:Below W1.heap.size W1 (V2.alloc (.cells (cellsOf zeros) 39)):=hT2.alloc hT2.size _
   have hg3:(V2.alloc (.cells (cellsOf zeros) 39)).heap[V2.heap.size]? = some (.cells (cellsOf zeros) 39 (0,0)):=heap_alloc_new V2 _
   have hge3:=hT2.size
   refine hK _ _ hT3 (fun _=>?_)
   clear hK K
   try simp only [Act.put,List.setIfInBounds_toArray,RowLaw.lset]
   obtain ⟨g3,hgg⟩:∃ g,g=V2.heap.size:=⟨_,rfl⟩
   rw [←hgg] at hg3 hge3 ⊢
   clear hgg
   generalize V2.alloc (.cells (cellsOf zeros) 39)=V3 at hT3 hg3 ⊢
   refine wpAnyH_ready (rs:=[10]) (by kernel_rfl) (by simp) ?_
   refine AllReadyH.cons rfl (fun K hK=>?_) AllReadyH.nil
   rw [if_pos (by rfl)]
   refine wp_store_row 39 _ _ rfl g3 (cellsOf bl) rfl rfl _ _ hg3 hsb (by rw [cellsOf_size,cellsOf_size,hbl,zeros_length]) (cellsOf_one _) ?_
   have hS9:Below W1.heap.size W1 (V3.setRow g3 (cellsOf bl)):=Dev.below_row hT3 hge3
   have h9:=setRow_heap V3 g3 _ (cellsOf bl) _ _ hg3
   refine hK _ _ hS9 (fun _=>?_)
   clear hK K
   try simp only [Act.put,List.setIfInBounds_toArray,RowLaw.lset]
   refine RowLaw.tkV 11 7 (.int .i64 0) hS9 ?_
   simp only [RowLaw.lset]
   refine wpAnyH_done (by kernel_rfl) ?_ _
   refine NoPanic.normal ?_
   generalize V3.setRow g3 (cellsOf bl)=W9 at hS9 h9 ⊢
   clear hT3 hg3
   have z9:=HZ.out W9 hS9
   have HB9:=Lib.hid (HB.out W9 hS9)
   clear hS9
   go_wp2_with (refine wpList_load_row rfl 39 _ rfl g3 rfl _ _ _ _ h9 Tryz.underlying39 rfl hsb ?_)
   refine (HG.out _).mono ?_
   rintro e U ⟨rfl,hx⟩
   have z10:=(hx.block (q+1) (Array.getElem?_eq_some_iff.1 z9).1).trans z9
   have b10:=HB9.out.trans (hx.mono HB9.out.size)
   clear hx z9 h9
   go_wp2_with (refine wpList_store_row rfl 142 _ _ rfl (q+1) _ rfl rfl _ _ z10 hip (by rw [pgCells_size,pgCells_size,zs_length,hpl]; rfl) (pgCells_one _ _) ?_)
   exact bodyPost_ret (results_row_tmp rfl _ _ _ _ _ _ _ rfl (setRow_heap _ _ _ _ _ _ z10) Tryz.underlying142 rfl hip) rfl ⟨rfl,Dev.below_row b10 (by have:=HQ.out; omega)⟩
  ·rw [if_pos (by rfl)]
   go_simp
   have hT2:Below W1.heap.size W1 (V1.alloc (.cells (cellsOf zeros) 39)):=hT1.alloc hT1.size _
   have hg2:(V1.alloc (.cells (cellsOf zeros) 39)).heap[V1.heap.size]? = some (.cells (cellsOf zeros) 39 (0,0)):=heap_alloc_new V1 _
   have hge2:=hT1.size
   refine hK _ _ hT2 (fun _=>?_)
   clear hK K
   try simp only [Act.put,List.setIfInBounds_toArray,RowLaw.lset]
   obtain ⟨g2,hgg⟩:∃ g,g=V1.heap.size:=⟨_,rfl⟩
   rw [←hgg] at hg2 hge2 ⊢
   clear hgg
   generalize V1.alloc (.cells (cellsOf zeros) 39)=V2 at hT2 hg2 ⊢
   refine wpAnyH_ready (rs:=[5]) (by kernel_rfl) (by simp) ?_
   refine AllReadyH.cons rfl (fun K hK=>?_) AllReadyH.nil
   rw [if_pos (by rfl)]
   go_simp
   refine (HRB.out _ hT2).mono ?_
   rintro e V3 ⟨rfl,hx3⟩
   dsimp only
   have hT3:=hT2.trans (hx3.mono hT2.size)
   have hg3:=(hx3.block g2 (Array.getElem?_eq_some_iff.1 hg2).1).trans hg2
   have hge3:=hge2
   refine hK _ _ hT3 (fun _=>?_)
   clear hK K hx3
   try simp only [Act.put,List.setIfInBounds_toArray,RowLaw.lset]
   refine RowLaw.tkV 6 8 (.tuple #[.agg (cellsOf bl),.int .i64 0]) hT3 ?_
   simp only [RowLaw.lset]
   refine RowLaw.tkV 7 15 (.agg (cellsOf bl)) hT3 ?_
   simp only [RowLaw.lset]
   refine RowLaw.tkV 8 16 (.int .i64 0) hT3 ?_
   simp only [RowLaw.lset]
   refine wpAnyH_ready (rs:=[10]) (by kernel_rfl) (by simp) ?_
   refine AllReadyH.cons rfl (fun K hK=>?_) AllReadyH.nil
   rw [if_pos (by rfl)]
   refine wp_store_row 39 _ _ rfl g2 (cellsOf bl) rfl rfl _ _ hg3 hsb (by rw [cellsOf_size,cellsOf_size,hbl,zeros_length]) (cellsOf_one _) ?_
   have hS9:Below W1.heap.size W1 (V3.setRow g2 (cellsOf bl)):=Dev.below_row hT3 hge3
   have h9:=setRow_heap V3 g2 _ (cellsOf bl) _ _ hg3
   refine hK _ _ hS9 (fun _=>?_)
   clear hK K
   try simp only [Act.put,List.setIfInBounds_toArray,RowLaw.lset]
   refine RowLaw.tkV 11 7 (.int .i64 0) hS9 ?_
   simp only [RowLaw.lset]
   refine wpAnyH_done (by kernel_rfl) ?_ _
   refine NoPanic.normal ?_
   generalize V3.setRow g2 (cellsOf bl)=W9 at hS9 h9 ⊢
   clear hT3 hg3
   have z9:=HZ.out W9 hS9
   have HB9:=Lib.hid (HB.out W9 hS9)
   clear hS9
   go_wp2_with (refine wpList_load_row rfl 39 _ rfl g2 rfl _ _ _ _ h9 Tryz.underlying39 rfl hsb ?_)
   refine (HG.out _).mono ?_
   rintro e U ⟨rfl,hx⟩
   have z10:=(hx.block (q+1) (Array.getElem?_eq_some_iff.1 z9).1).trans z9
   have b10:=HB9.out.trans (hx.mono HB9.out.size)
   clear hx z9 h9
   go_wp2_with (refine wpList_store_row rfl 142 _ _ rfl (q+1) _ rfl rfl _ _ z10 hip (by rw [pgCells_size,pgCells_size,zs_length,hpl]; rfl) (pgCells_one _ _) ?_)
   exact bodyPost_ret (results_row_tmp rfl _ _ _ _ _ _ _ rfl (setRow_heap _ _ _ _ _ _ z10) Tryz.underlying142 rfl hip) rfl ⟨rfl,Dev.below_row b10 (by have:=HQ.out; omega)⟩
 ·rw [if_pos (by rfl)]
  go_simp
  have hT1:Below W1.heap.size W1 (V0.alloc (.cells (cellsOf zeros) 39)):=hS.alloc hS.size _
  have hg1:(V0.alloc (.cells (cellsOf zeros) 39)).heap[V0.heap.size]? = some (.cells (cellsOf zeros) 39 (0,0)):=heap_alloc_new V0 _
  have hge1:=hS.size
  refine hK _ _ hT1 (fun _=>?_)
  clear hK K
  try simp only [Act.put,List.setIfInBounds_toArray,RowLaw.lset]
  obtain ⟨g1,hgg⟩:∃ g,g=V0.heap.size:=⟨_,rfl⟩
  rw [←hgg] at hg1 hge1 ⊢
  clear hgg
  generalize V0.alloc (.cells (cellsOf zeros) 39)=V1 at hT1 hg1 ⊢
  refine wpAnyH_ready (rs:=[4]) (by kernel_rfl) (by simp) ?_
  refine AllReadyH.cons rfl (fun K hK=>?_) AllReadyH.nil
  rw [if_pos (by rfl)]
  go_simp
  refine (HPB.out _ hT1).mono ?_
  rintro e V2 ⟨rfl,hx2⟩
  dsimp only
  have hT2:=hT1.trans (hx2.mono hT1.size)
  have hg2:=(hx2.block g1 (Array.getElem?_eq_some_iff.1 hg1).1).trans hg1
  have hge2:=hge1
  refine hK _ _ hT2 (fun _=>?_)
  clear hK K hx2
  try simp only [Act.put,List.setIfInBounds_toArray,RowLaw.lset]
  refine wpAnyH_ready (rs:=[5]) (by kernel_rfl) (by simp) ?_
  refine AllReadyH.cons rfl (fun K hK=>?_) AllReadyH.nil
  rw [if_pos (by rfl)]
  go_simp
  refine (HRB.out _ hT2).mono ?_
  rintro e V3 ⟨rfl,hx3⟩
  dsimp only
  have hT3:=hT2.trans (hx3.mono hT2.size)
  have hg3:=(hx3.block g1 (Array.getElem?_eq_some_iff.1 hg2).1).trans hg2
  have hge3:=hge2
  refine hK _ _ hT3 (fun _=>?_)
  clear hK K hx3
  try simp only [Act.put,List.setIfInBounds_toArray,RowLaw.lset]
  refine RowLaw.tkV 6 8 (.tuple #[.agg (cellsOf bl),.int .i64 0]) hT3 ?_
  simp only [RowLaw.lset]
  refine RowLaw.tkV 7 15 (.agg (cellsOf bl)) hT3 ?_
  simp only [RowLaw.lset]
  refine RowLaw.tkV 8 16 (.int .i64 0) hT3 ?_
  simp only [RowLaw.lset]
  refine wpAnyH_ready (rs:=[10]) (by kernel_rfl) (by simp) ?_
  refine AllReadyH.cons rfl (fun K hK=>?_) AllReadyH.nil
  rw [if_pos (by rfl)]
  refine wp_store_row 39 _ _ rfl g1 (cellsOf bl) rfl rfl _ _ hg3 hsb (by rw [cellsOf_size,cellsOf_size,hbl,zeros_length]) (cellsOf_one _) ?_
  have hS9:Below W1.heap.size W1 (V3.setRow g1 (cellsOf bl)):=Dev.below_row hT3 hge3
  have h9:=setRow_heap V3 g1 _ (cellsOf bl) _ _ hg3
  refine hK _ _ hS9 (fun _=>?_)
  clear hK K
  try simp only [Act.put,List.setIfInBounds_toArray,RowLaw.lset]
  refine RowLaw.tkV 11 7 (.int .i64 0) hS9 ?_
  simp only [RowLaw.lset]
  refine wpAnyH_done (by kernel_rfl) ?_ _
  refine NoPanic.normal ?_
  generalize V3.setRow g1 (cellsOf bl)=W9 at hS9 h9 ⊢
  clear hT3 hg3
  have z9:=HZ.out W9 hS9
  have HB9:=Lib.hid (HB.out W9 hS9)
  clear hS9
  go_wp2_with (refine wpList_load_row rfl 39 _ rfl g1 rfl _ _ _ _ h9 Tryz.underlying39 rfl hsb ?_)
  refine (HG.out _).mono ?_
  rintro e U ⟨rfl,hx⟩
  have z10:=(hx.block (q+1) (Array.getElem?_eq_some_iff.1 z9).1).trans z9
  have b10:=HB9.out.trans (hx.mono HB9.out.size)
  clear hx z9 h9
  go_wp2_with (refine wpList_store_row rfl 142 _ _ rfl (q+1) _ rfl rfl _ _ z10 hip (by rw [pgCells_size,pgCells_size,zs_length,hpl]; rfl) (pgCells_one _ _) ?_)
  exact bodyPost_ret (results_row_tmp rfl _ _ _ _ _ _ _ rfl (setRow_heap _ _ _ _ _ _ z10) Tryz.underlying142 rfl hip) rfl ⟨rfl,Dev.below_row b10 (by have:=HQ.out; omega)⟩
end Spc
namespace Spc
open Go.RowKit RowLaw
open Dev (ptr DS readB wpList_load_sub)
open Cnt (own_slice own_kept own_base own_ne TD tdOf tdOf_ok Sound pkAt tlAt bitAt bitAt_lt cntV cntE)
open Slt (Rt cells cells_one infoR sizeR)
open Tal (pgCells pgCells_size pgCells_one IsPg kT kP infoP infoT zs zs_length sizeP sizeT getE getI getNs getNs_length refGet_anyP refGet_anyT)
open Rot (planOk tlN pkN fsN planCells planCells_one sizePlan infoPlan refLayout_yes plan_facts)
variable {A:Nat→Prop}
theorem Sees.small {x:RS} {r:Rt} {s:DS} (h:Sees x r s):64≤s.n∧s.n≤65536∧tlN s.n≤1024∧fsN s.n < s.n∧1≤tlN s.n∧s.n≤64 * tlN s.n∧64 * (tlN s.n - 1) < s.n:=by
 obtain ⟨h1,h2⟩:=Cnt.plan_of h.sound.plan
 have hp:=plan_facts h1 h2
 have h3:=h.one
 omega
theorem tallyAt9_any {w:World} {v:Value} {x:RS} {r:Rt} {L:List (Nat×Nat)} {s:DS} (h:DT A w v x r L) (hS:Sees x r s) {p:Nat} (hp:p < tlN s.n):Calls Tryz.prog 172 #[v,.int .u32 (p:Int)] w fun e w'=>e=.returned (.tuple #[.int .u32 (tlAt (tdOf 0 s r.picks) p:Int),.int .i64 0])∧Below w.heap.size w w':=by
 have h0:=h
 obtain ⟨vg,vw,vl,rfl,h2,h3⟩:=h
 have hzp:=(zero_of_info infoPlan).1
 have hzk:=(zero_of_info infoP).1
 have hidt:=sizeDT x.n vg vw x.wr r vl
 have hsm:=hS.small
 have hpl:((tdOf 0 s r.picks).PV 0).length=16:=(tdOf_ok (d:=0) hS.sound.plan hS.sound.chl).pl 0
 have hpn:=(tdOf_ok (d:=0) hS.sound.plan hS.sound.chl).pn 0
 have hone:=hS.one
 have he:tlAt (tdOf 0 s r.picks) p=2+2 * 1+2 * p+bitAt ((tdOf 0 s r.picks).PV 0) p:=by
  show 2+2 * (pkN s.n+p)+bitAt ((tdOf 0 s r.picks).PV (p / 1024)) (p % 1024)=_
  rw [hone,Nat.div_eq_of_lt (by omega),Nat.mod_eq_of_lt (by omega)]
  omega
 rw [he]
 have hbl:=bitAt_lt ((tdOf 0 s r.picks).PV 0) p
 have hB:=Lib.hid (fun W=>refBit_any (k:=0) (i:=p) hpl hpn (by omega) W)
 have hPK:=Lib.hid (fun W (hb:Below w.heap.size w W)=>pick9_any (h0.kept hb) hS)
 have hL:=refLayout_yes hS.sound.plan
 rw [hone] at hL
 generalize (tdOf 0 s r.picks).PV 0=ns at hB hPK hpl hbl ⊢
 generalize bitAt ns p=b at hB hbl ⊢
 generalize fsN s.n=fs at hL hsm
 generalize htl:tlN s.n=tl at hL hsm hp
 have hp1024:p < 1024:=by omega
 have hip:=sizeP 0 ns hpl
 have hq:=heap_alloc_new w (.cells (dtC x.n vg vw x.wr r vl) 65)
 have hb:Below w.heap.size w (w.alloc (.cells (dtC x.n vg vw x.wr r vl) 65)):=(Below.refl _ _).alloc (Nat.le_refl _) _
 have hsz:=hS.size
 have c8:(w.alloc (.cells (dtC x.n vg vw x.wr r vl) 65)).cell? ⟨w.heap.size,8,none⟩=some (.int .u32 (s.n:Int)):=(cell_of_row _ w.heap.size 8 _ _ _ hq).trans (by rw [←hsz]; rfl)
 have HL:=Lib.hid hL
 have d1:Int.tdiv (p:Int) 1024=0:=by rw [Int.tdiv_eq_ediv_of_nonneg (by omega)]; omega
 have d2:Int.tmod (p:Int) 1024=(p:Int):=by rw [Int.tmod_eq_emod_of_nonneg (by omega)]; omega
 have d3:(p:Int) / 1024=0:=by omega
 have d4:(p:Int) % 1024=(p:Int):=by omega
 clear hL h2 h3 hsz h0 hS hpn he hsm htl hone
 go_enter Tryz.func172,Tryz.ntmps172
 go_upto_region 1 with fail
 change Code.wp _ _ _ _ (w.alloc (.cells (dtC x.n vg vw x.wr r vl) 65))
 obtain ⟨q,hqq⟩:∃ q,q=w.heap.size:=⟨_,rfl⟩
 rw [←hqq] at hq c8 ⊢
 clear hqq
 generalize w.alloc (.cells (dtC x.n vg vw x.wr r vl) 65)=W1 at hb hq c8 ⊢
 go_wp2_with fail
 refine (HL.out _).mono ?_
 clear HL
 rintro e W2 ⟨rfl,hx⟩
 have b3:=(hb.trans (hx.mono hb.size)).alloc (hb.trans (hx.mono hb.size)).size (.cells (planCells tl 1 fs) 82)
 have hq3:(W2.alloc (.cells (planCells tl 1 fs) 82)).heap[q]? = some (.cells (dtC x.n vg vw x.wr r vl) 65 (0,0)):=(Below.heap_alloc _ _ _ (Nat.lt_of_lt_of_le (Array.getElem?_eq_some_iff.1 hq).1 hx.size)).trans ((hx.block q (Array.getElem?_eq_some_iff.1 hq).1).trans hq)
 have hpp:=heap_alloc_new W2 (.cells (planCells tl 1 fs) 82)
 clear hx hb hq c8
 have tok:True:=trivial
 go_upto_region 2 with (have _t:=tok; refine wpList_store_new rfl 82 _ _ rfl (planCells tl 1 fs) _ _ rfl rfl (sizePlan _ _ _) rfl (planCells_one _ _ _) ?_; clear _t tok)
 generalize W2.heap.size=gp at hpp ⊢
 generalize W2.alloc (.cells (planCells tl 1 fs) 82)=W3 at b3 hq3 hpp ⊢
 have HP3:=Lib.hid (hPK.out W3 b3)
 clear hPK
 go_wp2_with (refine wpList_load_row rfl 65 _ rfl q rfl _ _ _ _ hq3 Tryz.underlying65 rfl hidt ?_)
 refine HP3.out.mono ?_
 clear HP3
 rintro e W4 ⟨rfl,hx⟩
 have b4:=(b3.trans (hx.mono b3.size)).alloc (b3.trans (hx.mono b3.size)).size (.cells (pgCells .u64 0 ns) 142)
 have hpp4:(W4.alloc (.cells (pgCells .u64 0 ns) 142)).heap[gp]? = some (.cells (planCells tl 1 fs) 82 (0,0)):=(Below.heap_alloc _ _ _ (Nat.lt_of_lt_of_le (Array.getElem?_eq_some_iff.1 hpp).1 hx.size)).trans ((hx.block gp (Array.getElem?_eq_some_iff.1 hpp).1).trans hpp)
 have hk4:=heap_alloc_new W4 (.cells (pgCells .u64 0 ns) 142)
 clear hx b3 hq3 hpp
 have tok:True:=trivial
 go_upto_region 3 with (have _t:=tok; refine wpList_store_new rfl 142 _ _ rfl (pgCells .u64 0 ns) _ _ (by simp [Act.eval]) rfl hip (by rw [pgCells_size,pgCells_size,zs_length,hpl]; rfl) (pgCells_one _ _) ?_; clear _t tok)
 generalize W4.heap.size=gk at hk4 ⊢
 generalize W4.alloc (.cells (pgCells .u64 0 ns) 142)=W5 at b4 hpp4 hk4 ⊢
 go_wp2_with (refine wpList_load_row rfl 142 _ rfl gk rfl _ _ _ _ hk4 Tryz.underlying142 rfl hip ?_)
 refine (hB.out _).mono ?_
 clear hB
 rintro e W6 ⟨rfl,hx⟩
 have b6:=b4.trans (hx.mono b4.size)
 have c1:W6.cell? ⟨gp,1,none⟩=some (.int .u32 1):=(cell_of_row W6 gp 1 _ _ _ ((hx.block gp (Array.getElem?_eq_some_iff.1 hpp4).1).trans hpp4)).trans rfl
 clear hx b4 hpp4 hk4
 go_wp2_with fail
 go_ret2
 refine ⟨?_,b6⟩
 push_cast
 rfl
theorem Sees.tally {x:RS} {r:Rt} {s:DS} (h:Sees x r s) {p:Nat} (hp:p < tlN s.n):x.at_ (tlAt (tdOf 0 s r.picks) p)=readB s (tlAt (tdOf 0 s r.picks) p)∧x.err (tlAt (tdOf 0 s r.picks) p)=0∧
  getE kT (readB s (tlAt (tdOf 0 s r.picks) p)) p=0∧getNs kT (readB s (tlAt (tdOf 0 s r.picks) p)) p=(tdOf 0 s r.picks).TV p:=by
 have h1:tlAt (tdOf 0 s r.picks) p < s.n:=Cnt.tlAt_lt (tdOf_ok h.sound.plan h.sound.chl) hp
 have h2:2≤tlAt (tdOf 0 s r.picks) p:=by unfold tlAt; omega
 exact ⟨h.like.at_ _ h2 (by rw [h.n]; exact h1),if_neg (by rw [h.n]; omega),h.sound.tally p hp,rfl⟩
theorem tally9_any {w:World} {v:Value} {x:RS} {r:Rt} {L:List (Nat×Nat)} {s:DS} (h:DT A w v x r L) (hS:Sees x r s) {p:Nat} (hp:p < tlN s.n):Calls Tryz.prog 171 #[v,.int .u32 (p:Int)] w fun e w'=>e=.returned (.tuple #[.agg (pgCells .u16 p ((tdOf 0 s r.picks).TV p)),.int .i64 0])∧Below w.heap.size w w':=by
 have h0:=h
 obtain ⟨vg,vw,vl,rfl,h2,h3⟩:=h
 have hzb:=(zero_of_info infoBlock).1
 have hzt:=(zero_of_info infoT).1
 have hidt:=sizeDT x.n vg vw x.wr r vl
 have hid:=sizeRD x.n vg vw x.wr
 obtain ⟨e1,e2,e3,e4⟩:=hS.tally hp
 have htl:((tdOf 0 s r.picks).TV p).length=64:=(tdOf_ok (d:=0) hS.sound.plan hS.sound.chl).tl p
 have hbl:=h2.at_len (tlAt (tdOf 0 s r.picks) p)
 have hA:=Lib.hid (fun W (hb:Below w.heap.size w W)=>tallyAt9_any (h0.kept hb) hS hp)
 have hR:=Lib.hid (fun W (hb:Below w.heap.size w W)=>Read3_any (a:=tlAt (tdOf 0 s r.picks) p) (h2.kept hb))
 have hG:=refGet_anyT (x.at_ (tlAt (tdOf 0 s r.picks) p)) hbl p
 rw [e1] at hG hbl
 rw [e1,e2] at hR
 have eI:getI kT (readB s (tlAt (tdOf 0 s r.picks) p)) p=p:=if_pos e3
 rw [eI,e3,e4] at hG
 generalize (tdOf 0 s r.picks).TV p=ns at hG htl ⊢
 generalize tlAt (tdOf 0 s r.picks) p=at_ at hA hR hG hbl
 generalize readB s at_=bl at hR hG hbl
 have hsb:=sizeBlock bl hbl
 have hit:=sizeT p ns htl
 have HG:=Lib.hid hG
 have b1:Below w.heap.size w (w.alloc (.cells (dtC x.n vg vw x.wr r vl) 65)):=(Below.refl _ _).alloc (Nat.le_refl _) _
 have b2:Below w.heap.size w ((w.alloc (.cells (dtC x.n vg vw x.wr r vl) 65)).alloc (.cells (pgCells .u16 0 (zs kT)) 137)):=b1.alloc b1.size _
 have q1:((w.alloc (.cells (dtC x.n vg vw x.wr r vl) 65)).alloc (.cells (pgCells .u16 0 (zs kT)) 137)).heap[w.heap.size]? = some (.cells (dtC x.n vg vw x.wr r vl) 65 (0,0)):=(Below.heap_alloc _ _ _ (by rw [World.size_alloc]; omega)).trans (heap_alloc_new w _)
 have q2:((w.alloc (.cells (dtC x.n vg vw x.wr r vl) 65)).alloc (.cells (pgCells .u16 0 (zs kT)) 137)).heap[w.heap.size+1]? = some (.cells (pgCells .u16 0 (zs kT)) 137 (0,0)):=heap_alloc2_new w _ _
 clear h0 h2 h3 hS e1 e2 e3 e4 eI hG b1
 go_enter Tryz.func171,Tryz.ntmps171
 go_upto_region 1 with fail
 change Code.wp _ _ _ _ ((w.alloc (.cells (dtC x.n vg vw x.wr r vl) 65)).alloc (.cells (pgCells .u16 0 (zs kT)) 137))
 obtain ⟨q,hq⟩:∃ q,q=w.heap.size:=⟨_,rfl⟩
 rw [←hq] at q1 q2 ⊢
 have HQ:=Lib.hid hq
 clear hq
 generalize (w.alloc (.cells (dtC x.n vg vw x.wr r vl) 65)).alloc (.cells (pgCells .u16 0 (zs kT)) 137)=W1 at b2 q1 q2 ⊢
 have HA1:=Lib.hid (hA.out W1 b2)
 clear hA
 go_wp2_with (refine wpList_load_row rfl 65 _ rfl q rfl _ _ _ _ q1 Tryz.underlying65 rfl hidt ?_)
 refine HA1.out.mono ?_
 clear HA1
 rintro e W2 ⟨rfl,hx⟩
 have p1:=(hx.block q (Array.getElem?_eq_some_iff.1 q1).1).trans q1
 have p2:=(hx.block (q+1) (Array.getElem?_eq_some_iff.1 q2).1).trans q2
 have b3:=b2.trans (hx.mono b2.size)
 clear hx q1 q2 b2
 have hsub:W2.rangeAt q 0 (rdC x.n vg vw x.wr).toList:=fun j u hu=>by
  rw [Nat.zero_add,cell_of_row W2 q j _ _ _ p1]
  exact sub0 hu
 have HR2:=Lib.hid (hR.out W2 b3)
 clear hR
 go_wp2_with (refine wpList_load_sub rfl 62 _ rfl q 0 rfl (rdC x.n vg vw x.wr) _ hsub Tryz.underlying62 rfl hid ?_)
 refine HR2.out.mono ?_
 clear HR2 hsub
 rintro e W4 ⟨rfl,hx⟩
 have b4:=(b3.trans (hx.mono b3.size)).alloc (b3.trans (hx.mono b3.size)).size (.cells (cellsOf bl) 39)
 have z2:(W4.alloc (.cells (cellsOf bl) 39)).heap[q+1]? = some (.cells (pgCells .u16 0 (zs kT)) 137 (0,0)):=(Below.heap_alloc _ _ _ (Nat.lt_of_lt_of_le (Array.getElem?_eq_some_iff.1 p2).1 hx.size)).trans ((hx.block (q+1) (Array.getElem?_eq_some_iff.1 p2).1).trans p2)
 have hk4:Holds (W4.alloc (.cells (cellsOf bl) 39)) W4.heap.size bl:=Holds.new W4 bl
 clear hx b3 p1 p2
 have tok:True:=trivial
 go_upto_region 5 with (have _t:=tok; refine wpList_store_new rfl 39 _ _ rfl (cellsOf bl) _ _ (by simp [Act.eval]) rfl hsb (by rw [cellsOf_size,cellsOf_size,hbl,zeros_length]) (cellsOf_one _) ?_; clear _t tok)
 generalize W4.heap.size=gk at hk4 ⊢
 generalize W4.alloc (.cells (cellsOf bl) 39)=W5 at b4 z2 hk4 ⊢
 go_wp2_with (refine wpList_load_row rfl 39 _ rfl gk rfl _ _ _ _ hk4 Tryz.underlying39 rfl hsb ?_)
 refine (HG.out _).mono ?_
 clear HG
 rintro e W6 ⟨rfl,hx⟩
 have b6:=b4.trans (hx.mono b4.size)
 have z3:=(hx.block (q+1) (Array.getElem?_eq_some_iff.1 z2).1).trans z2
 clear hx b4 z2 hk4
 go_wp2_with (refine wpList_store_row rfl 137 _ _ rfl (q+1) _ rfl rfl _ _ z3 hit (by rw [pgCells_size,pgCells_size,zs_length,htl]; rfl) (pgCells_one _ _) ?_)
 exact bodyPost_ret (results_row_tmp rfl _ _ _ _ _ _ _ rfl (setRow_heap _ _ _ _ _ _ z3) Tryz.underlying137 rfl hit) rfl ⟨rfl,Dev.below_row b6 (by have:=HQ.out; omega)⟩
end Spc
namespace Spc
open Go.RowKit RowLaw
open Dev (ptr DS readB wpList_load_sub)
open Cnt (own_slice own_kept own_base own_ne TD tdOf tdOf_ok Sound cntV cntE)
open Slt (Rt cells cells_one infoR sizeR)
open Tal (pgCells pgCells_size pgCells_one IsPg kT kP infoP infoT zs zs_length sizeP sizeT)
open Rot (planOk tlN pkN fsN)
variable {A:Nat→Prop}
def oldS (s:DS) (r:Rt) (a:Nat):Nat:=(tdOf 0 s r.picks).oldC a
theorem Old9_any {w:World} {v:Value} {x:RS} {r:Rt} {L:List (Nat×Nat)} {s:DS} (h:DT A w v x r L) (hS:Sees x r s) {a:Nat}:Calls Tryz.prog 167 #[v,.int .u32 (a:Int)] w fun e w'=>e=.returned (.tuple #[.int .u16 (oldS s r a:Int),.int .i64 (cntE s.n a)])∧Below w.heap.size w w':=by
 have h0:=h
 obtain ⟨vg,vw,vl,rfl,h2,h3⟩:=h
 have hzt:=(zero_of_info infoT).1
 have hidt:=sizeDT x.n vg vw x.wr r vl
 have hsm:=hS.small
 have hF:=Lib.hid (fun W (hb:Below w.heap.size w W)=>first9_any (h0.kept hb) hS)
 have hq:=heap_alloc_new w (.cells (dtC x.n vg vw x.wr r vl) 65)
 have hb:Below w.heap.size w (w.alloc (.cells (dtC x.n vg vw x.wr r vl) 65)):=(Below.refl _ _).alloc (Nat.le_refl _) _
 have hsz:=hS.size
 have c8:(w.alloc (.cells (dtC x.n vg vw x.wr r vl) 65)).cell? ⟨w.heap.size,8,none⟩=some (.int .u32 (s.n:Int)):=(cell_of_row _ w.heap.size 8 _ _ _ hq).trans (by rw [←hsz]; rfl)
 by_cases hn:s.n≤a
 ·have e1:oldS s r a=0:=if_neg (by show ¬ (fsN s.n≤a∧a < s.n); omega)
  have e2:cntE s.n a=2:=if_pos hn
  rw [e1,e2]
  have i1:(s.n:Int)≤(a:Int):=by omega
  clear h0 h2 h3 hF hsm hq e1 e2 hn hS hsz
  go_enter Tryz.func167,Tryz.ntmps167
  go_upto_region 1 with fail
  change Code.wp _ _ _ _ (w.alloc (.cells (dtC x.n vg vw x.wr r vl) 65))
  generalize w.alloc (.cells (dtC x.n vg vw x.wr r vl) 65)=W1 at hb c8 ⊢
  go_wp2_with fail
  go_ret2
  exact ⟨rfl,hb⟩
 ·have e2:cntE s.n a=0:=if_neg hn
  rw [e2]
  have i1:¬ (s.n:Int)≤(a:Int):=by omega
  have HL:=Lib.hid (hF.out _ hb)
  by_cases hfs:a < fsN s.n
  ·have e1:oldS s r a=0:=if_neg (by show ¬ (fsN s.n≤a∧a < s.n); omega)
   rw [e1]
   have i2:(a:Int) < (fsN s.n:Int):=by omega
   clear h0 h2 h3 hF e1 e2 hS hsz
   generalize fsN s.n=fs at HL i2 hsm hfs
   clear hsm hn hfs
   go_enter Tryz.func167,Tryz.ntmps167
   go_upto_region 1 with fail
   change Code.wp _ _ _ _ (w.alloc (.cells (dtC x.n vg vw x.wr r vl) 65))
   generalize w.alloc (.cells (dtC x.n vg vw x.wr r vl) 65)=W1 at hb c8 hq HL ⊢
   generalize w.heap.size=q at hq c8 ⊢
   go_wp2_with (refine wpList_load_row rfl 65 _ rfl q rfl _ _ _ _ hq Tryz.underlying65 rfl hidt ?_)
   refine HL.out.mono ?_
   rintro e W2 ⟨rfl,hx⟩
   go_wp2_with fail
   go_ret2
   exact ⟨rfl,hb.trans (hx.mono hb.size)⟩
  ·have hp:a / 64 < tlN s.n:=by omega
   have e1:oldS s r a=((tdOf 0 s r.picks).TV (a / 64)).getD (a % 64) 0:=if_pos (by show (fsN s.n≤a∧a < s.n); omega)
   have htl:((tdOf 0 s r.picks).TV (a / 64)).length=64:=(tdOf_ok (d:=0) hS.sound.plan hS.sound.chl).tl _
   have hT:=Lib.hid (fun W (hb:Below w.heap.size w W)=>tally9_any (h0.kept hb) hS hp)
   rw [e1]
   generalize (tdOf 0 s r.picks).TV (a / 64)=ns at htl hT ⊢
   have hit:=sizeT (a / 64) ns htl
   have hlt:a % 64 < ns.length:=by omega
   have hgd:ns.getD (a % 64) 0=ns[a % 64]:=by rw [List.getD_eq_getElem?_getD,List.getElem?_eq_getElem hlt]; rfl
   rw [hgd]
   have i2:¬ (a:Int) < (fsN s.n:Int):=by omega
   have i2':decide (a < fsN s.n)=false:=decide_eq_false (by omega)
   have hnum:=fun W (hW:Below w.heap.size w W)=>(show (W.alloc (.cells (pgCells .u16 (a / 64) ns) 137)).cell? ⟨W.heap.size,1+a % 64,none⟩=some (.int .u16 (ns[a % 64]:Int)) from (IsPg.new .u16 137 W (a / 64) ns).num (a % 64) hlt)
   have HNUM:=Lib.hid hnum
   clear hnum
   generalize ns[a % 64]=y at HNUM ⊢
   obtain ⟨P,hP⟩:∃ P,P=a / 64:=⟨_,rfl⟩
   obtain ⟨R,hR⟩:∃ R,R=a % 64:=⟨_,rfl⟩
   rw [←hP] at hT hit HNUM
   rw [←hR] at HNUM
   have d1:Int.tdiv (a:Int) 64=(P:Int):=by rw [Int.tdiv_eq_ediv_of_nonneg (by omega)]; omega
   have d2:Int.tmod (a:Int) 64=(R:Int):=by rw [Int.tmod_eq_emod_of_nonneg (by omega)]; omega
   have d3:(a:Int) / 64=(P:Int):=by omega
   have d4:(a:Int) % 64=(R:Int):=by omega
   have r1:R < 64:=by omega
   have hn32:a < 4294967296:=by omega
   clear h0 h2 h3 hF e1 e2 hS hsz hgd hlt hP hR hp
   generalize fsN s.n=fs at HL i2 i2' hsm hfs
   clear hsm hn hfs
   go_enter Tryz.func167,Tryz.ntmps167
   go_upto_region 1 with fail
   change Code.wp _ _ _ _ (w.alloc (.cells (dtC x.n vg vw x.wr r vl) 65))
   generalize w.alloc (.cells (dtC x.n vg vw x.wr r vl) 65)=W1 at hb c8 hq HL ⊢
   generalize w.heap.size=q at hq c8 ⊢
   go_wp2_with (refine wpList_load_row rfl 65 _ rfl q rfl _ _ _ _ hq Tryz.underlying65 rfl hidt ?_)
   refine HL.out.mono ?_
   clear HL c8
   rintro e W2 ⟨rfl,hx⟩
   have b2:=hb.trans (hx.mono hb.size)
   have hq2:=(hx.block q (Array.getElem?_eq_some_iff.1 hq).1).trans hq
   clear hx hb hq
   have HT2:=Lib.hid (hT.out W2 b2)
   clear hT
   go_wp2_with (refine wpList_load_row rfl 65 _ rfl q rfl _ _ _ _ hq2 Tryz.underlying65 rfl hidt ?_)
   refine HT2.out.mono ?_
   clear HT2
   rintro e W3 ⟨rfl,hx⟩
   have b3:=b2.trans (hx.mono b2.size)
   have b4:=b3.alloc b3.size (.cells (pgCells .u16 P ns) 137)
   have c1:=HNUM.out W3 b3
   clear hx hq2 HNUM
   have tok:True:=trivial
   go_upto_region 6 with (have _t:=tok; refine wpList_store_new rfl 137 _ _ rfl (pgCells .u16 P ns) _ _ (by simp [Act.eval]) rfl hit (by rw [pgCells_size,pgCells_size,zs_length,htl]; rfl) (pgCells_one _ _) ?_; clear _t tok)
   generalize W3.heap.size=g at c1 ⊢
   generalize W3.alloc (.cells (pgCells .u16 P ns) 137)=W4 at b4 c1 ⊢
   go_wp2_with fail
   go_ret2
   exact ⟨rfl,b4⟩
end Spc
namespace Spc
open Go.RowKit RowLaw
open Dev (ptr DS readB wpList_load_sub)
open Cnt (own_slice own_kept own_base own_ne TD tdOf tdOf_ok Sound cntV cntE)
open Slt (Rt cells cells_one infoR sizeR)
open Rot (planOk tlN pkN fsN)
variable {A:Nat→Prop}
theorem setsCells_cons (x: Nat×Nat) (xs: List (Nat×Nat)): setsCells (x::xs)=setCells x ++ setsCells xs:=rfl
theorem setsCells_append (xs ys:List (Nat×Nat)):setsCells (xs ++ ys)=setsCells xs ++ setsCells ys:=by simp [setsCells]
theorem setsCells_get:∀ (xs:List (Nat×Nat)) (k:Nat) (hk:k < xs.length) (j:Nat),j < 2→(setsCells xs)[k * 2+j]? = (setCells xs[k])[j]?
 | [],_,hk,_,_=>absurd hk (by simp)
 | x::xs,0,_,j,hj=>by
  rw [setsCells_cons,Nat.zero_mul,Nat.zero_add,List.getElem?_append_left (by simpa [setCells] using hj)]
  rfl
 | x::xs,k+1,hk,j,hj=>by
  rw [setsCells_cons,List.getElem?_append_right (by simp [setCells]; omega)]
  have e:(k+1) * 2+j - (setCells x).length=k * 2+j:=by simp [setCells]; omega
  rw [e,setsCells_get xs k (by simpa using hk) j hj]
  rfl
theorem SetsV.at_ {W:World} {v:Value} {n:Nat} {xs:List (Nat×Nat)} (h:SetsV A W v n xs) {k:Nat} (hk:k < xs.length) :
  ∃ g c,v=.slice (some ⟨g,0,none⟩) n c∧W.cell? ⟨g,k * 2,none⟩=some (.int .u32 (xs[k].1:Int))∧W.cell? ⟨g,k * 2+1,none⟩=some (.int .u16 (xs[k].2:Int)):=by
 obtain ⟨pk,ck,he,hc⟩:=own_slice h.row
 have hle:k * 2+2≤n * 2:=by rw [h.len]; omega
 obtain ⟨g,hg,h0⟩:=hc (k * 2+0) (.int .u32 (xs[k].1:Int)) (by rw [setsCells_get xs k hk 0 (by omega)]; rfl) (by omega)
 obtain ⟨g',hg',h1⟩:=hc (k * 2+1) (.int .u16 (xs[k].2:Int)) (by rw [setsCells_get xs k hk 1 (by omega)]; rfl) (by omega)
 rw [hg] at hg'
 cases hg'
 exact ⟨g,ck,by rw [he,hg],h0,h1⟩
def lastS (L:List (Nat×Nat)) (a d:Nat):Nat:=L.foldl (fun n x=>if x.1=a then x.2 else n) d
theorem lastS_take (L:List (Nat×Nat)) (a d k:Nat) (hk:k < L.length):lastS (L.take (k+1)) a d=if L[k].1=a then L[k].2 else lastS (L.take k) a d:=by
 unfold lastS
 rw [List.take_add_one,List.getElem?_eq_getElem hk,List.foldl_append]
 rfl
def getS (s:DS) (r:Rt) (L:List (Nat×Nat)) (a:Nat):Nat:=if s.n≤a then 0 else lastS L a (oldS s r a)
theorem oldS_out {s:DS} {r:Rt} {a:Nat} (h:s.n≤a):oldS s r a=0:=if_neg (by show ¬ (fsN s.n≤a∧a < s.n); omega)
theorem Get9_any {w:World} {v:Value} {x:RS} {r:Rt} {L:List (Nat×Nat)} {s:DS} (h:DT A w v x r L) (hS:Sees x r s) (hL:L.length < 1000000) {a:Nat}:Calls Tryz.prog 99 #[v,.int .u32 (a:Int)] w fun e w'=>e=.returned (.tuple #[.int .u16 (getS s r L a:Int),.int .i64 (cntE s.n a)])∧Below w.heap.size w w':=by
 have h0:=h
 obtain ⟨vg,vw,vl,rfl,h2,h3⟩:=h
 have hidt:=sizeDT x.n vg vw x.wr r vl
 have hq:=heap_alloc_new w (.cells (dtC x.n vg vw x.wr r vl) 65)
 have hb:Below w.heap.size w (w.alloc (.cells (dtC x.n vg vw x.wr r vl) 65)):=(Below.refl _ _).alloc (Nat.le_refl _) _
 have HO:=Lib.hid (Old9_any (a:=a) (h0.kept hb) hS)
 have H3:=Lib.hid (h3.kept hb)
 obtain ⟨pk,ck,hvl,_⟩:=own_slice h3.row
 subst hvl
 clear h0 h2 h3
 obtain ⟨z,hz⟩:∃ z,z=cntE s.n a:=⟨_,rfl⟩
 obtain ⟨A,hA⟩:∃ A,A=getS s r L a:=⟨_,rfl⟩
 have HZ:=Lib.hid hz
 have HA:=Lib.hid hA
 rw [←hz] at HO ⊢
 rw [←hA]
 clear hz hA
 go_enter Tryz.func99,Tryz.ntmps99
 go_upto_region 1 with fail
 change Code.wp _ _ _ _ (w.alloc (.cells (dtC x.n vg vw x.wr r (.slice pk L.length ck)) 65))
 generalize w.alloc (.cells (dtC x.n vg vw x.wr r (.slice pk L.length ck)) 65)=W1 at hb hq HO H3 ⊢
 obtain ⟨q,hqq⟩:∃ q,q=w.heap.size:=⟨_,rfl⟩
 rw [←hqq] at hq ⊢
 clear hqq
 go_wp2_with (refine wpList_load_row rfl 65 _ rfl q rfl _ _ _ _ hq Tryz.underlying65 rfl hidt ?_)
 refine HO.out.mono ?_
 clear HO
 rintro e W2 ⟨rfl,hx⟩
 have b2:=hb.trans (hx.mono hb.size)
 have hq2:=(hx.block q (Array.getElem?_eq_some_iff.1 hq).1).trans hq
 have H32:=Lib.hid (H3.out.kept hx)
 clear hx hb hq H3
 have cl:W2.cell? ⟨q,15,none⟩=some (.slice pk L.length ck):=(cell_of_row W2 q 15 _ _ _ hq2).trans rfl
 by_cases hn:s.n≤a
 ·have ez:z=2:=by rw [HZ.out]; exact if_pos hn
  have eg:A=0:=by rw [HA.out]; exact if_pos hn
  rw [oldS_out hn]
  subst ez
  have EG:=Lib.hid eg
  clear HZ eg HA
  go_wp2_with fail
  go_loopw [6,8] (fun m i wr=>m=.int .u16 0∧i=.int .i64 0∧wr=W2) (fun _ _ _=>0)
  case atStart=>exact ⟨rfl,rfl,rfl⟩
  case round=>
   obtain ⟨rfl,rfl,rfl⟩:=hrel
   by_cases h0:(0:Int) < (L.length:Int)
   ·go_wp2_with fail
    go_ret2
    exact ⟨by rw [EG.out]; rfl,b2⟩
   ·go_wp2_with fail
    go_ret2
    exact ⟨by rw [EG.out]; rfl,b2⟩
 ·have ez:z=0:=by rw [HZ.out]; exact if_neg hn
  have eg:A=lastS L a (oldS s r a):=by rw [HA.out]; exact if_neg hn
  subst ez
  have hn32:a < 4294967296:=by have:=hS.small; omega
  generalize oldS s r a=d at eg ⊢
  have EG:=Lib.hid eg
  clear HZ eg hn hS HA
  go_wp2_with fail
  go_loopw [6,8] (fun m i wr=>∃ k:Nat,k≤L.length∧m=.int .u16 ((lastS (L.take k) a d:Nat):Int)∧i=.int .i64 (k:Int)∧wr=W2) (fun _ i _=>L.length - (intOf i).toNat)
  case atStart=>exact ⟨0,by omega,by rw [List.take_zero]; rfl,rfl,rfl⟩
  case round=>
   obtain ⟨k,hk,rfl,rfl,rfl⟩:=hrel
   by_cases hlt:k < L.length
   ·obtain ⟨g,c,he,hc0,hc1⟩:=H32.out.at_ hlt
    cases he
    have htk:=lastS_take L a d k hlt
    generalize L[k]=y at hc0 hc1 htk
    have i0:(0:Int)≤(k:Int):=by omega
    have i1:(k:Int) < (L.length:Int):=by omega
    have z1:IntKind.i64.wrap ((k:Int)+1)=(k:Int)+1:=IntWalk.i64_in _ (by omega)
    by_cases hya:y.1=a
    ·have d1:((y.1:Int) == (a:Int))=true:=by simp [hya]
     rw [if_pos hya] at htk
     have HT:=Lib.hid htk
     clear htk hya
     go_wp2_with fail
     go_roundw
     case rel=>exact ⟨k+1,by omega,by rw [HT.out],by go_num,trivial⟩
     case measure=>simp [intOf]; omega
    ·have d1:((y.1:Int) == (a:Int))=false:=by simp; omega
     rw [if_neg hya] at htk
     have HT:=Lib.hid htk
     clear htk hya
     go_wp2_with fail
     go_roundw
     case rel=>exact ⟨k+1,by omega,by rw [HT.out],by go_num,trivial⟩
     case measure=>simp [intOf]; omega
   ·have hkn:k=L.length:=by omega
    have i1:¬ (k:Int) < (L.length:Int):=by omega
    have e3:lastS (L.take k) a d=A:=by rw [hkn,List.take_length,EG.out]
    rw [e3]
    clear e3 hkn
    go_wp2_with fail
    go_ret2
    exact ⟨rfl,b2⟩
end Spc

end Go.Proofs.YtgkbfahflngklaaGreat
