import Derived.Test.YtgkbfahflngklaaGreatSlt1
import Derived.Test.YtgkbfahflngklaaGreatFld4
import Derived.Test.YtgkbfahflngklaaGreatKit1
import Derived.Test.YtgkbfahflngklaaGreatCrc3
set_option maxRecDepth 100000
set_option maxHeartbeats 3200000
namespace Go.Proofs.YtgkbfahflngklaaGreat
namespace Slt
open Go.RowKit RowLaw Crc Fld
def wordsV (r:Rt):Array Value:=#[.int .u32 (r.size:Int),.int .u32 (r.picks:Int),.int .u32 (r.names:Int),.int .u32 (r.free:Int),.int .u32 (r.next:Int),.int .u32 (r.hint:Int)]
theorem wordsV_get (r:Rt) (j:Nat) (hj:j < (nums r).length):(wordsV r)[j]? = some (.int .u32 ((nums r)[j]:Int)):=by
 rw [nums_length] at hj
 rcases (by omega:j=0∨j=1∨j=2∨j=3∨j=4∨j=5) with rfl | rfl | rfl | rfl | rfl | rfl <;> rfl
theorem refPut_yes (r:Rt) (hm:mayB r=true) (hf:r.Fits) (w:World) :
    Calls Tryz.prog 220 #[.agg (cells r)] w fun e w'=>e=.returned (.tuple #[.agg (cellsOf (rtB r)),.int .i64 0])∧Below w.heap.size w w':=by
  have hlen:=rtB_length r
  have hzv:=(zero_of_info infoBlock).1
  have hi:=sizeBlock _ hlen
  have hzz:(cellsOf zeros).size=(cellsOf (rtB r)).size:=by rw [cellsOf_size,cellsOf_size,hlen,zeros_length]
  have hK:Kept w [(w.heap.size+1,blockO zeros),(w.heap.size,rootO r)] ((w.alloc (.cells (cells r) 31)).alloc (.cells (cellsOf zeros) 39)):=by
    have h:=((Kept.start w).alloc (rootO r)).alloc (blockO zeros)
    rw [show (w.alloc (rootO r)).heap.size=w.heap.size+1 from by simp] at h
    exact h
  have hcall:=fun W=>refMay_any r W
  rw [hm] at hcall
  have hdone:=fun W=>refDone_short ⟨(rtF r).toArray⟩ (rtF r) (by simp) 82 (rtF_le r) W
  rw [show fdone (rtF r) 82=rtB r from rfl] at hdone
  have hcf:(⟨(rtTo r 6).toArray⟩:ByteArray) ++ ⟨(leB r.vols 1).toArray⟩=⟨(rtF r).toArray⟩:=str_app _ _
  have HCF:=Lib.hid hcf
  have HZ:=Lib.hid (rtTo_zero r)
  have HN:=Lib.hid (fun j hj=>rtTo_succ r j hj)
  have HL:=Lib.hid (fun j hj=>nums_lt hf j hj)
  have HD:=Lib.hid hdone
  have HS:=Lib.hid (fun j hj=>rtTo_length r j hj)
  have hgl:=hf.gen
  have hvl:=hf.vols
  have hFl:=rtF_le r
  generalize rtB r=B at hi hzz HD ⊢
  clear hm hf hlen hdone hcf
  go_enter Tryz.func220,Tryz.ntmps220
  go_wp2_with (refine wpList_load_row rfl 31 _ rfl (w.heap.size) rfl _ _ _ _ (hK.at_ (q:=w.heap.size) (o:=rootO r) (by simp)) Tryz.underlying31 rfl (sizeR r) ?_)
  refine (hcall _).mono ?_
  rintro e W1 ⟨rfl,hx⟩
  replace hK:=hK.below hx
  clear hx hcall
  have hR:IsRt W1 w.heap.size r:=hK.at_ (q:=w.heap.size) (o:=rootO r) (by simp)
  have e0:=hR.gen
  have e1:=hR.size
  have e2:=hR.picks
  have e3:=hR.names
  have e4:=hR.free
  have e5:=hR.next
  have e6:=hR.hint
  clear hR
  go_upto_region 4 with fail
  have hK3:=hK.alloc (.cells (wordsV r) 22)
  clear hK e1 e2 e3 e4 e5 e6
  unfold wordsV at hK3
  generalize W1.heap.size=u at hK3 ⊢
  have hwl:w.heap.size < W1.heap.size:=World.block_lt_of_cell? W1 _ e0
  replace e0:=(Below.cell (p:=⟨w.heap.size,0,none⟩) ((Below.refl W1.heap.size W1).alloc (Nat.le_refl _) (.cells #[.int .u32 (r.size:Int),.int .u32 (r.picks:Int),.int .u32 (r.names:Int),.int .u32 (r.free:Int),.int .u32 (r.next:Int),.int .u32 (r.hint:Int)] 22)) hwl).trans e0
  clear hwl
  generalize W1.alloc (.cells #[.int .u32 (r.size:Int),.int .u32 (r.picks:Int),.int .u32 (r.names:Int),.int .u32 (r.free:Int),.int .u32 (r.next:Int),.int .u32 (r.hint:Int)] 22)=W2 at hK3 e0 ⊢
  go_wp2_with fail
  refine (refNum_any 8 r.gen _ (by omega) (by omega)).mono ?_
  rintro e W3 ⟨rfl,hx⟩
  replace hK3:Kept w [(u,.cells (wordsV r) 22 (0,0)),(w.heap.size+1,blockO zeros),(w.heap.size,rootO r)] W3:=hK3.below hx
  clear hx e0
  rw [←HZ.out]
  go_wp2_with fail
  go_loopw [5,6] (fun s i wr=>∃ j:Nat,j≤6∧i=.int .i64 j∧s=.string ⟨(rtTo r j).toArray⟩∧Kept w [(u,.cells (wordsV r) 22 (0,0)),(w.heap.size+1,blockO zeros),(w.heap.size,rootO r)] wr) (fun _ i _=>6 - (intOf i).toNat)
  case atStart=>exact ⟨0,by omega,rfl,rfl,hK3⟩
  case round=>
    clear hK3
    obtain ⟨j,hj,rfl,rfl,hK⟩:=hrel
    by_cases hlt:j < 6
    · have hjl:j < (nums r).length:=hlt
      have hc:wr.cell? ⟨u,j,none⟩=some (.int .u32 ((nums r)[j]:Int)):=(cell_of_row wr u j _ _ _ (hK.at_ (q:=u) (o:=.cells (wordsV r) 22 (0,0)) (by simp))).trans (wordsV_get r j hjl)
      have hnx:=HN.out j hjl
      have hxl:=HL.out j hjl
      obtain ⟨x,hx⟩:∃ x,x=(nums r)[j]:=⟨_,rfl⟩
      rw [←hx] at hc hnx hxl
      clear hx
      have HNX:=Lib.hid hnx; clear hnx
      have z2:IntKind.u64.wrap (x:Int)=(x:Int):=IntWalk.u64_in _ (by omega)
      have s1:(rtTo r j).length≤100:=by rw [HS.out j (by omega)]; omega
      have s2:(leB x 4).length≤4:=by rw [leB_length]; omega
      go_wp2_with fail
      refine (refNum_any 4 x _ (by omega) (by omega)).mono ?_
      rintro e W4 ⟨rfl,hx⟩
      replace hK:=hK.below hx
      clear hx hc
      go_wp2_with fail
      go_roundw
      case rel=>exact ⟨j+1,by omega,by go_num,by rw [HNX.out,←str_app],hK⟩
      case measure=>simp [intOf]; omega
    · obtain rfl:j=6:=by omega
      have c8:=IsRt.vols (hK.at_ (q:=w.heap.size) (o:=rootO r) (by simp))
      have s1:(rtTo r 6).length≤100:=by rw [HS.out 6 (by omega)]; omega
      have z3:IntKind.u64.wrap (r.vols:Int)=(r.vols:Int):=IntWalk.u64_in _ (by omega)
      generalize rtTo r 6=T at HCF s1 ⊢
      generalize rtF r=F at HCF HD hFl
      have s2:(leB r.vols 1).length≤1:=by rw [leB_length]; omega
      go_wp2_with fail
      refine (refNum_any 1 r.vols _ (by omega) (by omega)).mono ?_
      rintro e W4 ⟨rfl,hx⟩
      replace hK:=hK.below hx
      clear hx c8
      go_wp2_with fail
      rw [HCF.out]
      refine (HD.out _).mono ?_
      rintro e W5 ⟨rfl,hx⟩
      have hK2:=(hK.below hx).alloc (blockO B)
      clear hx hK
      have tok:True:=trivial
      have hR:=hK2.at_ (q:=w.heap.size+1) (o:=blockO zeros) (by simp)
      have hN:=hK2.at_ (q:=W5.heap.size) (o:=blockO B) (by simp)
      unfold blockO at hK2 hR hN
      go_wp2_with (first
        | (have _t:=tok; refine wpList_store_new rfl 39 _ _ rfl (cellsOf B) _ _ rfl rfl hi hzz (cellsOf_one _) ?_; generalize W5.heap.size=q6 at hK2 hN ⊢; generalize W5.alloc (.cells (cellsOf B) 39)=W6 at hK2 hR hN ⊢; clear _t tok)
        | (refine wpList_load_row rfl 39 _ rfl q6 rfl _ _ _ _ hN Tryz.underlying39 rfl hi ?_)
        | (refine wpList_store_row rfl 39 _ _ rfl (w.heap.size+1) _ rfl rfl _ _ hR hi hzz (cellsOf_one _) ?_))
      exact bodyPost_ret (results_row_tmp rfl _ _ _ _ _ _ _ rfl (setRow_heap _ _ _ _ _ _ hR) Tryz.underlying39 rfl hi) rfl ⟨rfl,below_row hK2.bel (by omega)⟩
end Slt
namespace Slt
open Go.RowKit RowLaw Crc Fld
end Slt

end Go.Proofs.YtgkbfahflngklaaGreat
