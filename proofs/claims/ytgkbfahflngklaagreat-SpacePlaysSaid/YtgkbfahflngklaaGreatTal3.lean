import Derived.Test.YtgkbfahflngklaaGreatTal1
import Derived.Test.YtgkbfahflngklaaGreatTal2
import Derived.Test.YtgkbfahflngklaaGreatPln
import Derived.StillTailTactics
set_option maxRecDepth 100000
set_option maxHeartbeats 3200000
namespace Go.Proofs.YtgkbfahflngklaaGreat
namespace Tal
open Go.RowKit RowLaw Crc Fld
theorem str_app (a b:List UInt8):((⟨a.toArray⟩:ByteArray) ++ ⟨b.toArray⟩)=⟨(a ++ b).toArray⟩:=by
 apply ByteArray.ext
 simp
theorem refPut_noT (idx:Nat) (ns:List Nat) (ho:¬ idx < kT.lim) (w:World) :
  Calls Tryz.prog 141 #[.agg (pgCells .u16 idx ns)] w fun e w'=>e=.returned (.tuple #[.agg (cellsOf zeros),.int .i64 2])∧Below w.heap.size w w':=by
 have hzv:=(zero_of_info infoBlock).1
 have hi:=sizeBlock zeros zeros_length
 have hN:IsPg .u16 137 ((w.alloc (.cells (pgCells .u16 idx ns) 137)).alloc (.cells (cellsOf zeros) 39)) w.heap.size idx ns:=(IsPg.new .u16 137 w idx ns).alloc _
 have hR:Holds ((w.alloc (.cells (pgCells .u16 idx ns) 137)).alloc (.cells (cellsOf zeros) 39)) (w.heap.size+1) zeros:=heap_alloc2_new w _ _
 have hb:Below w.heap.size w ((w.alloc (.cells (pgCells .u16 idx ns) 137)).alloc (.cells (cellsOf zeros) 39)):=((Below.refl _ _).alloc (Nat.le_refl _) _).alloc (by simp) _
 have ci:=hN.index
 have d1:(16384:Int)≤(idx:Int):=by have:¬ idx < 16384:=ho; omega
 clear ho hN
 go_enter Tryz.func141,Tryz.ntmps141
 go_wp2_with (refine wpList_store_row rfl 39 _ _ rfl _ _ rfl rfl _ _ hR hi rfl (cellsOf_one _) ?_)
 exact bodyPost_ret (results_row_tmp rfl _ _ _ _ _ _ _ rfl (setRow_heap _ _ _ _ _ _ hR) Tryz.underlying39 rfl hi) rfl ⟨rfl,below_row hb (by omega)⟩
theorem refPut_yesT (idx:Nat) (ns:List Nat) (hn:ns.length=kT.n) (hs:∀ j (hj:j < ns.length),ns[j] < 256 ^ kT.wd) (ho:idx < kT.lim) (w:World) :
    Calls Tryz.prog 141 #[.agg (pgCells .u16 idx ns)] w fun e w'=>e=.returned (.tuple #[.agg (cellsOf (pgB kT idx ns)),.int .i64 0])∧Below w.heap.size w w':=by
  have hzv:=(zero_of_info infoBlock).1
  have hpl:=page_length fT idx hn
  have hlen:=pgB_length fT idx hn
  have hi:=sizeBlock _ hlen
  have hzz:(cellsOf zeros).size=(cellsOf (pgB kT idx ns)).size:=by rw [cellsOf_size,cellsOf_size,hlen,zeros_length]
  have hN:IsPg .u16 137 ((w.alloc (.cells (pgCells .u16 idx ns) 137)).alloc (.cells (cellsOf zeros) 39)) w.heap.size idx ns:=(IsPg.new .u16 137 w idx ns).alloc _
  have hR:Holds ((w.alloc (.cells (pgCells .u16 idx ns) 137)).alloc (.cells (cellsOf zeros) 39)) (w.heap.size+1) zeros:=heap_alloc2_new w _ _
  have hb:Below w.heap.size w ((w.alloc (.cells (pgCells .u16 idx ns) 137)).alloc (.cells (cellsOf zeros) 39)):=((Below.refl _ _).alloc (Nat.le_refl _) _).alloc (by simp) _
  have ci:=hN.index
  have hlim:idx < 16384:=ho
  have d1:¬ (16384:Int)≤(idx:Int):=by omega
  have hdone:=fun W=>refDone_short ⟨(page kT idx ns).toArray⟩ (page kT idx ns) (by simp) 84 (by omega) W
  rw [show fdone (page kT idx ns) 84=pgB kT idx ns from rfl] at hdone
  have HD:=Lib.hid hdone
  have HN:=Lib.hid (fun j hj=>pgTo_succ kT idx ns j hj)
  have HL:=Lib.hid hs
  have HP:=Lib.hid hn
  have HT:=Lib.hid (pgTo_length kT idx ns)
  clear hdone hs hn hlen hpl ho
  obtain ⟨B,hB⟩:∃ B,B=pgB kT idx ns:=⟨_,rfl⟩
  rw [←hB] at hi hzz HD ⊢
  clear hB
  have z1:IntKind.u64.wrap (idx:Int)=(idx:Int):=IntWalk.u64_in _ (by omega)
  go_enter Tryz.func141,Tryz.ntmps141
  go_wp2_with fail
  refine (refNum_any 4 idx _ (by omega) (by omega)).mono ?_
  rintro e W1 ⟨rfl,hx⟩
  replace hR:=hR.below hx hR.lt
  replace hN:=hN.below hx hN.lt
  replace hb:=hb.trans (hx.mono hb.size)
  clear hx ci
  go_wp2_with fail
  go_loopw [4,5] (fun s i wr=>∃ j:Nat,j≤64∧i=.int .i64 j∧s=.string ⟨(pgTo kT idx ns j).toArray⟩∧IsPg .u16 137 wr w.heap.size idx ns∧Holds wr (w.heap.size+1) zeros∧Below w.heap.size w wr) (fun _ i _=>64 - (intOf i).toNat)
  case atStart=>exact ⟨0,by omega,rfl,by rw [pgTo_zero],hN,hR,hb⟩
  case round=>
    clear hN hR hb
    obtain ⟨j,hj,rfl,rfl,hN,hR,hb⟩:=hrel
    by_cases hlt:j < 64
    · have hjl:j < ns.length:=by have:ns.length=64:=HP.out; omega
      have hc:=hN.num j hjl
      have hnx:=HN.out j hjl
      have hxl:ns[j] < 65536:=HL.out j hjl
      obtain ⟨x,hx⟩:∃ x,x=ns[j]:=⟨_,rfl⟩
      rw [←hx] at hc hnx hxl
      clear hx
      have HNX:=Lib.hid hnx; clear hnx
      have z2:IntKind.u64.wrap (x:Int)=(x:Int):=IntWalk.u64_in _ (by omega)
      have s1:(pgTo kT idx ns j).length≤132:=by rw [HT.out j (by omega)]; show 4+2 * j≤132; omega
      have s2:(leB x 2).length≤2:=by rw [leB_length]; omega
      go_wp2_with fail
      refine (refNum_any 2 x _ (by omega) (by omega)).mono ?_
      rintro e W2 ⟨rfl,hx⟩
      replace hR:=hR.below hx hR.lt
      replace hN:=hN.below hx hN.lt
      replace hb:=hb.trans (hx.mono hb.size)
      clear hx hc
      go_wp2_with fail
      go_roundw
      case rel=>exact ⟨j+1,by omega,by go_num,by rw [HNX.out,←str_app]; rfl,hN,hR,hb⟩
      case measure=>simp [intOf]; omega
    · obtain rfl:j=64:=by omega
      go_wp2_with fail
      refine (HD.out _).mono ?_
      rintro e W3 ⟨rfl,hx⟩
      replace hR:=hR.below hx hR.lt
      replace hb:=hb.trans (hx.mono hb.size)
      clear hx hN
      have hA:Holds (W3.alloc (.cells (cellsOf B) 39)) W3.heap.size B:=Holds.new W3 B
      have hR2:=hR.alloc (.cells (cellsOf B) 39)
      have hb2:=hb.alloc hb.size (.cells (cellsOf B) 39)
      clear hR hb
      go_wp2_with (first
        | (refine wpList_store_new rfl 39 _ _ rfl (cellsOf B) _ _ rfl rfl hi hzz (cellsOf_one _) ?_; generalize W3.heap.size=q6 at hA ⊢; generalize W3.alloc (.cells (cellsOf B) 39)=W4 at hA hR2 hb2 ⊢)
        | (refine wpList_load_row rfl 39 _ rfl _ rfl _ _ _ _ hA Tryz.underlying39 rfl hi ?_)
        | (refine wpList_store_row rfl 39 _ _ rfl _ _ rfl rfl _ _ hR2 hi hzz (cellsOf_one _) ?_))
      exact bodyPost_ret (results_row_tmp rfl _ _ _ _ _ _ _ rfl (setRow_heap W4 _ _ _ _ _ hR2) Tryz.underlying39 rfl hi) rfl ⟨rfl,below_row hb2 (by omega)⟩
theorem refPut_anyT (idx:Nat) (ns:List Nat) (hn:ns.length=kT.n) (hs:∀ j (hj:j < ns.length),ns[j] < 256 ^ kT.wd) (w:World) :
  Calls Tryz.prog 141 #[.agg (pgCells .u16 idx ns)] w fun e w'=>e=.returned (.tuple #[.agg (cellsOf (putB kT idx ns)),.int .i64 (putE kT idx)])∧Below w.heap.size w w':=by
 by_cases ho:idx < kT.lim
 ·rw [putB_yes ns ho,putE_yes ho]; exact refPut_yesT idx ns hn hs ho w
 ·rw [show putB kT idx ns=zeros from if_neg ho,putE_no ho]; exact refPut_noT idx ns ho w
theorem refPut_noP (idx:Nat) (ns:List Nat) (ho:¬ idx < kP.lim) (w:World) :
  Calls Tryz.prog 142 #[.agg (pgCells .u64 idx ns)] w fun e w'=>e=.returned (.tuple #[.agg (cellsOf zeros),.int .i64 2])∧Below w.heap.size w w':=by
 have hzv:=(zero_of_info infoBlock).1
 have hi:=sizeBlock zeros zeros_length
 have hN:IsPg .u64 142 ((w.alloc (.cells (pgCells .u64 idx ns) 142)).alloc (.cells (cellsOf zeros) 39)) w.heap.size idx ns:=(IsPg.new .u64 142 w idx ns).alloc _
 have hR:Holds ((w.alloc (.cells (pgCells .u64 idx ns) 142)).alloc (.cells (cellsOf zeros) 39)) (w.heap.size+1) zeros:=heap_alloc2_new w _ _
 have hb:Below w.heap.size w ((w.alloc (.cells (pgCells .u64 idx ns) 142)).alloc (.cells (cellsOf zeros) 39)):=((Below.refl _ _).alloc (Nat.le_refl _) _).alloc (by simp) _
 have ci:=hN.index
 have d1:(16:Int)≤(idx:Int):=by have:¬ idx < 16:=ho; omega
 clear ho hN
 go_enter Tryz.func142,Tryz.ntmps142
 go_wp2_with (refine wpList_store_row rfl 39 _ _ rfl _ _ rfl rfl _ _ hR hi rfl (cellsOf_one _) ?_)
 exact bodyPost_ret (results_row_tmp rfl _ _ _ _ _ _ _ rfl (setRow_heap _ _ _ _ _ _ hR) Tryz.underlying39 rfl hi) rfl ⟨rfl,below_row hb (by omega)⟩
theorem refPut_yesP (idx:Nat) (ns:List Nat) (hn:ns.length=kP.n) (hs:∀ j (hj:j < ns.length),ns[j] < 256 ^ kP.wd) (ho:idx < kP.lim) (w:World) :
    Calls Tryz.prog 142 #[.agg (pgCells .u64 idx ns)] w fun e w'=>e=.returned (.tuple #[.agg (cellsOf (pgB kP idx ns)),.int .i64 0])∧Below w.heap.size w w':=by
  have hzv:=(zero_of_info infoBlock).1
  have hpl:=page_length fP idx hn
  have hlen:=pgB_length fP idx hn
  have hi:=sizeBlock _ hlen
  have hzz:(cellsOf zeros).size=(cellsOf (pgB kP idx ns)).size:=by rw [cellsOf_size,cellsOf_size,hlen,zeros_length]
  have hN:IsPg .u64 142 ((w.alloc (.cells (pgCells .u64 idx ns) 142)).alloc (.cells (cellsOf zeros) 39)) w.heap.size idx ns:=(IsPg.new .u64 142 w idx ns).alloc _
  have hR:Holds ((w.alloc (.cells (pgCells .u64 idx ns) 142)).alloc (.cells (cellsOf zeros) 39)) (w.heap.size+1) zeros:=heap_alloc2_new w _ _
  have hb:Below w.heap.size w ((w.alloc (.cells (pgCells .u64 idx ns) 142)).alloc (.cells (cellsOf zeros) 39)):=((Below.refl _ _).alloc (Nat.le_refl _) _).alloc (by simp) _
  have ci:=hN.index
  have hlim:idx < 16:=ho
  have d1:¬ (16:Int)≤(idx:Int):=by omega
  have hdone:=fun W=>refDone_short ⟨(page kP idx ns).toArray⟩ (page kP idx ns) (by simp) 80 (by omega) W
  rw [show fdone (page kP idx ns) 80=pgB kP idx ns from rfl] at hdone
  have HD:=Lib.hid hdone
  have HN:=Lib.hid (fun j hj=>pgTo_succ kP idx ns j hj)
  have HL:=Lib.hid hs
  have HP:=Lib.hid hn
  have HT:=Lib.hid (pgTo_length kP idx ns)
  clear hdone hs hn hlen hpl ho
  obtain ⟨B,hB⟩:∃ B,B=pgB kP idx ns:=⟨_,rfl⟩
  rw [←hB] at hi hzz HD ⊢
  clear hB
  have z1:IntKind.u64.wrap (idx:Int)=(idx:Int):=IntWalk.u64_in _ (by omega)
  go_enter Tryz.func142,Tryz.ntmps142
  go_wp2_with fail
  refine (refNum_any 4 idx _ (by omega) (by omega)).mono ?_
  rintro e W1 ⟨rfl,hx⟩
  replace hR:=hR.below hx hR.lt
  replace hN:=hN.below hx hN.lt
  replace hb:=hb.trans (hx.mono hb.size)
  clear hx ci
  go_wp2_with fail
  go_loopw [4,5] (fun s i wr=>∃ j:Nat,j≤16∧i=.int .i64 j∧s=.string ⟨(pgTo kP idx ns j).toArray⟩∧IsPg .u64 142 wr w.heap.size idx ns∧Holds wr (w.heap.size+1) zeros∧Below w.heap.size w wr) (fun _ i _=>16 - (intOf i).toNat)
  case atStart=>exact ⟨0,by omega,rfl,by rw [pgTo_zero],hN,hR,hb⟩
  case round=>
    clear hN hR hb
    obtain ⟨j,hj,rfl,rfl,hN,hR,hb⟩:=hrel
    by_cases hlt:j < 16
    · have hjl:j < ns.length:=by have:ns.length=16:=HP.out; omega
      have hc:=hN.num j hjl
      have hnx:=HN.out j hjl
      have hxl:ns[j] < 18446744073709551616:=HL.out j hjl
      obtain ⟨x,hx⟩:∃ x,x=ns[j]:=⟨_,rfl⟩
      rw [←hx] at hc hnx hxl
      clear hx
      have HNX:=Lib.hid hnx; clear hnx
      have z2:IntKind.u64.wrap (x:Int)=(x:Int):=IntWalk.u64_in _ (by omega)
      have s1:(pgTo kP idx ns j).length≤132:=by rw [HT.out j (by omega)]; show 4+8 * j≤132; omega
      have s2:(leB x 8).length≤8:=by rw [leB_length]; omega
      go_wp2_with fail
      refine (refNum_any 8 x _ (by omega) (by omega)).mono ?_
      rintro e W2 ⟨rfl,hx⟩
      replace hR:=hR.below hx hR.lt
      replace hN:=hN.below hx hN.lt
      replace hb:=hb.trans (hx.mono hb.size)
      clear hx hc
      go_wp2_with fail
      go_roundw
      case rel=>exact ⟨j+1,by omega,by go_num,by rw [HNX.out,←str_app]; rfl,hN,hR,hb⟩
      case measure=>simp [intOf]; omega
    · obtain rfl:j=16:=by omega
      go_wp2_with fail
      refine (HD.out _).mono ?_
      rintro e W3 ⟨rfl,hx⟩
      replace hR:=hR.below hx hR.lt
      replace hb:=hb.trans (hx.mono hb.size)
      clear hx hN
      have hA:Holds (W3.alloc (.cells (cellsOf B) 39)) W3.heap.size B:=Holds.new W3 B
      have hR2:=hR.alloc (.cells (cellsOf B) 39)
      have hb2:=hb.alloc hb.size (.cells (cellsOf B) 39)
      clear hR hb
      go_wp2_with (first
        | (refine wpList_store_new rfl 39 _ _ rfl (cellsOf B) _ _ rfl rfl hi hzz (cellsOf_one _) ?_; generalize W3.heap.size=q6 at hA ⊢; generalize W3.alloc (.cells (cellsOf B) 39)=W4 at hA hR2 hb2 ⊢)
        | (refine wpList_load_row rfl 39 _ rfl _ rfl _ _ _ _ hA Tryz.underlying39 rfl hi ?_)
        | (refine wpList_store_row rfl 39 _ _ rfl _ _ rfl rfl _ _ hR2 hi hzz (cellsOf_one _) ?_))
      exact bodyPost_ret (results_row_tmp rfl _ _ _ _ _ _ _ rfl (setRow_heap W4 _ _ _ _ _ hR2) Tryz.underlying39 rfl hi) rfl ⟨rfl,below_row hb2 (by omega)⟩
theorem refPut_anyP (idx:Nat) (ns:List Nat) (hn:ns.length=kP.n) (hs:∀ j (hj:j < ns.length),ns[j] < 256 ^ kP.wd) (w:World) :
  Calls Tryz.prog 142 #[.agg (pgCells .u64 idx ns)] w fun e w'=>e=.returned (.tuple #[.agg (cellsOf (putB kP idx ns)),.int .i64 (putE kP idx)])∧Below w.heap.size w w':=by
 by_cases ho:idx < kP.lim
 ·rw [putB_yes ns ho,putE_yes ho]; exact refPut_yesP idx ns hn hs ho w
 ·rw [show putB kP idx ns=zeros from if_neg ho,putE_no ho]; exact refPut_noP idx ns ho w
end Tal
namespace Tal
open Go.RowKit RowLaw Crc Fld
theorem nsOf_lt {k:PK} (hk:k.Fine) (l:List UInt8) (hl:l.length=256):∀ j (hj:j < (nsOf k l).length),(nsOf k l)[j] < 256 ^ k.wd:=fun j hj=>by
 have:=valK_lt hk true l hl j (by rw [nsOf_length] at hj; exact hj)
 rw [nsOf_get]
 exact this
theorem two_at (l:List UInt8) (A:Nat) (h:A+1 < l.length):leNat (piece l A 2)=(l[A]'(by omega)).toNat+256 * (l[A+1]'(by omega)).toNat:=by
 unfold piece
 rw [List.drop_eq_getElem_cons (by omega:A < l.length),List.take_succ_cons,List.drop_eq_getElem_cons (by omega:A+1 < l.length),List.take_succ_cons,List.take_zero]
 simp only [leNat]
 omega
theorem next_at (l:List UInt8) (A c:Nat) (h:A < l.length):leNat (piece l A (c+1))=(l[A]'(by omega)).toNat+256 * leNat (piece l (A+1) c):=by
 unfold piece
 rw [List.drop_eq_getElem_cons (by omega:A < l.length),List.take_succ_cons]
 simp only [leNat]
theorem part_lt (l:List UInt8) (A c:Nat) (h:c≤7):leNat (piece l A c) < 72057594037927936:=by
 have h1:=leNat_lt (piece l A c)
 have h2:(piece l A c).length≤7:=by
  unfold piece
  rw [List.length_take]
  omega
 exact Nat.lt_of_lt_of_le h1 (Nat.pow_le_pow_right (by omega) h2)
theorem nsK_nil (k:PK) (ok:Bool) (l:List UInt8) (j:Nat) (hj:j < k.n) (h:j < (nsK k ok l j).length):(nsK k ok l j)[j]=0:=by
 cases ok with
 | false=>exact List.getElem_replicate (n:=k.n) (a:=0) (by rw [List.length_replicate]; exact hj)
 | true=>
  have e:nsK k true l j=nsTo k l j ++ List.replicate (k.n - j) 0:=rfl
  simp only [e]
  rw [List.getElem_append_right (by rw [nsTo_length]; omega)]
  exact List.getElem_replicate _
theorem refGet_noT (l:List UInt8) (idx:Nat) (ho:¬ idx < kT.lim) (w:World) :
  Calls Tryz.prog 62 #[.agg (cellsOf l),.int .u32 (idx:Int)] w fun e w'=>e=.returned (.tuple #[.agg (pgCells .u16 0 (zs kT)),.int .i64 2])∧Below w.heap.size w w':=by
 have hzv:=(zero_of_info infoT).1
 have hi0:=sizeT 0 (zs kT) (zs_length kT)
 have hk:Kept w [(w.heap.size+1,Obj.cells (pgCells .u16 0 (zs kT)) 137),(w.heap.size,Obj.cells (cellsOf l) 39)] ((w.alloc (Obj.cells (cellsOf l) 39)).alloc (Obj.cells (pgCells .u16 0 (zs kT)) 137)):=by
  have h:=((Kept.start w).alloc (Obj.cells (cellsOf l) 39)).alloc (Obj.cells (pgCells .u16 0 (zs kT)) 137)
  rwa [show (w.alloc (Obj.cells (cellsOf l) 39)).heap.size=w.heap.size+1 from by simp] at h
 have hR:=hk.at_ List.mem_cons_self
 have d1:(16384:Int)≤(idx:Int):=by have:¬ idx < 16384:=ho; omega
 clear ho
 go_enter Tryz.func62,Tryz.ntmps62
 go_wp2_with (refine wpList_store_row rfl 137 _ _ rfl _ _ rfl rfl _ _ hR hi0 rfl (pgCells_one _ _) ?_)
 exact bodyPost_ret (results_row_tmp rfl _ _ _ _ _ _ _ rfl (setRow_heap _ _ _ _ _ _ hR) Tryz.underlying137 rfl hi0) rfl ⟨rfl,below_row hk.bel (by omega)⟩
theorem refGet_zeroT (idx:Nat) (ho:idx < kT.lim) (w:World) :
    Calls Tryz.prog 62 #[.agg (cellsOf zeros),.int .u32 (idx:Int)] w fun e w'=>e=.returned (.tuple #[.agg (pgCells .u16 idx (zs kT)),.int .i64 0])∧Below w.heap.size w w':=by
  obtain ⟨l,hlz⟩:∃ l,l=zeros:=⟨_,rfl⟩
  have hl:l.length=256:=by rw [hlz]; exact zeros_length
  rw [←hlz]
  have hz:=fun W=>refZero_any l hl W
  rw [decide_eq_true hlz] at hz
  have HZ:=Lib.hid hz
  clear hz hlz
  have hzv:=(zero_of_info infoT).1
  have hi:=sizeBlock l hl
  have hi0:=sizeT 0 (zs kT) (zs_length kT)
  have hi1:=sizeT idx (zs kT) (zs_length kT)
  have hsz:(pgCells .u16 0 (zs kT)).size=(pgCells .u16 idx (zs kT)).size:=by rw [pgCells_size,pgCells_size]
  have hne:∀ x∈[(w.heap.size+1,Obj.cells (pgCells .u16 0 (zs kT)) 137),(w.heap.size,Obj.cells (cellsOf l) 39)],x.1≠w.heap.size+1+1:=by simp; omega
  have hk0:Kept w [(w.heap.size+1+1,Obj.cells (pgCells .u16 0 (zs kT)) 137),(w.heap.size+1,Obj.cells (pgCells .u16 0 (zs kT)) 137),(w.heap.size,Obj.cells (cellsOf l) 39)] (((w.alloc (Obj.cells (cellsOf l) 39)).alloc (Obj.cells (pgCells .u16 0 (zs kT)) 137)).alloc (Obj.cells (pgCells .u16 0 (zs kT)) 137)):=by
    have h:=(((Kept.start w).alloc (Obj.cells (cellsOf l) 39)).alloc (Obj.cells (pgCells .u16 0 (zs kT)) 137)).alloc (Obj.cells (pgCells .u16 0 (zs kT)) 137)
    rwa [show (w.alloc (Obj.cells (cellsOf l) 39)).heap.size=w.heap.size+1 from by simp,show ((w.alloc (Obj.cells (cellsOf l) 39)).alloc (Obj.cells (pgCells .u16 0 (zs kT)) 137)).heap.size=w.heap.size+1+1 from by simp] at h
  have hk:=hk0.setRow (cs':=pgCells .u16 idx (zs kT)) hne
  have hP0:=hk0.at_ List.mem_cons_self
  clear hk0
  have hset:=pgCells_setIdx (K:=.u16) 0 idx (zs kT)
  have hlim:idx < 16384:=ho
  have d1:¬ (16384:Int)≤(idx:Int):=by omega
  clear ho
  have tok:True:=trivial
  go_enter Tryz.func62,Tryz.ntmps62
  go_wp2_with (first
    | (have _t:=tok; refine wpList_store_row rfl 137 _ _ rfl _ _ rfl rfl _ _ hP0 hi1 hsz (pgCells_one _ _) ?_; clear _t tok hP0; generalize ((((w.alloc (Obj.cells (cellsOf l) 39)).alloc (Obj.cells (pgCells .u16 0 (zs kT)) 137)).alloc (Obj.cells (pgCells .u16 0 (zs kT)) 137))).setRow (w.heap.size+1+1) (pgCells .u16 idx (zs kT))=W0 at hk ⊢; have hB:=hk.at_ (q:=w.heap.size) (o:=Obj.cells (cellsOf l) 39) (by simp))
    | (refine wpList_load_row rfl 39 _ rfl w.heap.size rfl _ _ _ _ hB Tryz.underlying39 rfl hi ?_))
  refine (HZ.out _).mono ?_
  rintro e W1 ⟨rfl,hx⟩
  replace hk:=hk.below hx
  clear hx hB
  have hrw:w.heap.size≤w.heap.size+1:=by omega
  have hrb:w.heap.size+1≠w.heap.size+1+1:=by omega
  generalize w.heap.size+1+1=p at hk hne hrb ⊢
  generalize hrd:w.heap.size+1=r at hk hne hrb hrw ⊢
  clear hrd hset
  obtain ⟨b,hb⟩:∃ b,b=w.heap.size:=⟨_,rfl⟩
  rw [←hb] at hk hne ⊢
  clear hb
  have hR:=hk.at_ (q:=r) (o:=Obj.cells (pgCells .u16 0 (zs kT)) 137) (by simp)
  have hP:=hk.at_ List.mem_cons_self
  go_wp2_with (first | (refine wpList_load_row rfl 137 _ rfl p rfl _ _ _ _ hP Tryz.underlying137 rfl hi1 ?_) | (refine wpList_store_row rfl 137 _ _ rfl r _ rfl rfl _ _ hR hi1 hsz (pgCells_one _ _) ?_))
  exact bodyPost_ret (results_row_tmp rfl _ _ _ _ _ _ _ rfl (setRow_heap _ _ _ _ _ _ hR) Tryz.underlying137 rfl hi1) rfl ⟨rfl,below_row hk.bel hrw⟩
theorem refGet_coreT (l:List UInt8) (hl:l.length=256) (hlz:l≠zeros) (idx:Nat) (ho:idx < kT.lim) (w:World) :
    Calls Tryz.prog 62 #[.agg (cellsOf l),.int .u32 (idx:Int)] w fun e w'=>e=.returned (.tuple #[.agg (if pgB kT idx (nsOf kT l)=l then pgCells .u16 idx (nsOf kT l) else pgCells .u16 0 (zs kT)),.int .i64 (if pgB kT idx (nsOf kT l)=l then 0 else 250)])∧Below w.heap.size w w':=by
  have hz:=fun W=>refZero_any l hl W
  rw [decide_eq_false hlz] at hz
  have HZ:=Lib.hid hz
  have HLn:=Lib.hid hl
  have HS:=Lib.hid (nsK_set kT true l)
  have HPL:=Lib.hid (nsK_length kT true l)
  have HNL:=Lib.hid (nsOf_lt fT l hl)
  have HTW:=Lib.hid (fun A h=>two_at l A h)
  clear hz hlz
  obtain ⟨B,hB⟩:∃ B,B=pgB kT idx (nsOf kT l):=⟨_,rfl⟩
  rw [←hB]
  have HB:=Lib.hid hB
  clear hB
  obtain ⟨R,hR⟩:∃ R,R=if B=l then pgCells .u16 idx (nsOf kT l) else pgCells .u16 0 (zs kT):=⟨_,rfl⟩
  obtain ⟨Ev,hEv⟩:∃ Ev:Int,Ev=if B=l then 0 else 250:=⟨_,rfl⟩
  rw [←hR,←hEv]
  have HR:=Lib.hid hR
  have HEv:=Lib.hid hEv
  clear hR hEv
  have hzv:=(zero_of_info infoT).1
  have hi:=sizeBlock l hl
  have hi0:=sizeT 0 (zs kT) (zs_length kT)
  have hi1:=sizeT idx (zs kT) (zs_length kT)
  have hsz:(pgCells .u16 0 (zs kT)).size=(pgCells .u16 idx (zs kT)).size:=by rw [pgCells_size,pgCells_size]
  have hne:∀ x∈[(w.heap.size+1,Obj.cells (pgCells .u16 0 (zs kT)) 137),(w.heap.size,Obj.cells (cellsOf l) 39)],x.1≠w.heap.size+1+1:=by simp; omega
  have hk0:Kept w [(w.heap.size+1+1,Obj.cells (pgCells .u16 0 (zs kT)) 137),(w.heap.size+1,Obj.cells (pgCells .u16 0 (zs kT)) 137),(w.heap.size,Obj.cells (cellsOf l) 39)] (((w.alloc (Obj.cells (cellsOf l) 39)).alloc (Obj.cells (pgCells .u16 0 (zs kT)) 137)).alloc (Obj.cells (pgCells .u16 0 (zs kT)) 137)):=by
    have h:=(((Kept.start w).alloc (Obj.cells (cellsOf l) 39)).alloc (Obj.cells (pgCells .u16 0 (zs kT)) 137)).alloc (Obj.cells (pgCells .u16 0 (zs kT)) 137)
    rwa [show (w.alloc (Obj.cells (cellsOf l) 39)).heap.size=w.heap.size+1 from by simp,show ((w.alloc (Obj.cells (cellsOf l) 39)).alloc (Obj.cells (pgCells .u16 0 (zs kT)) 137)).heap.size=w.heap.size+1+1 from by simp] at h
  have hk:=hk0.setRow (cs':=pgCells .u16 idx (zs kT)) hne
  have hP0:=hk0.at_ List.mem_cons_self
  clear hk0
  have hset:=pgCells_setIdx (K:=.u16) 0 idx (zs kT)
  have hlim:idx < 16384:=ho
  have d1:¬ (16384:Int)≤(idx:Int):=by omega
  clear ho
  have tok:True:=trivial
  go_enter Tryz.func62,Tryz.ntmps62
  go_wp2_with (first
    | (have _t:=tok; refine wpList_store_row rfl 137 _ _ rfl _ _ rfl rfl _ _ hP0 hi1 hsz (pgCells_one _ _) ?_; clear _t tok hP0; generalize ((((w.alloc (Obj.cells (cellsOf l) 39)).alloc (Obj.cells (pgCells .u16 0 (zs kT)) 137)).alloc (Obj.cells (pgCells .u16 0 (zs kT)) 137))).setRow (w.heap.size+1+1) (pgCells .u16 idx (zs kT))=W0 at hk ⊢; have hB:=hk.at_ (q:=w.heap.size) (o:=Obj.cells (cellsOf l) 39) (by simp))
    | (refine wpList_load_row rfl 39 _ rfl w.heap.size rfl _ _ _ _ hB Tryz.underlying39 rfl hi ?_))
  refine (HZ.out _).mono ?_
  rintro e W1 ⟨rfl,hx⟩
  replace hk:=hk.below hx
  clear hx hB
  have hrw:w.heap.size≤w.heap.size+1:=by omega
  have hrb:w.heap.size+1≠w.heap.size+1+1:=by omega
  generalize w.heap.size+1+1=p at hk hne hrb ⊢
  generalize hrd:w.heap.size+1=r at hk hne hrb hrw ⊢
  clear hrd hset
  obtain ⟨b,hb⟩:∃ b,b=w.heap.size:=⟨_,rfl⟩
  rw [←hb] at hk hne ⊢
  clear hb
  go_wp2_with fail
  go_loopw [7] (fun i wr=>∃ j: Nat,j≤64∧i=.int .i64 j∧Kept w ((p,.cells (pgCells .u16 idx (nsK kT true l j)) 137)::[(r,Obj.cells (pgCells .u16 0 (zs kT)) 137),(b,Obj.cells (cellsOf l) 39)]) wr) (fun i _=>64 - (intOf i).toNat)
  case atStart=>exact ⟨0,by omega,rfl,by rw [nsK_zero]; exact hk⟩
  case round=>
    clear hk
    obtain ⟨j,hj,rfl,hk⟩:=hrel
    by_cases hlt:j < 64
    · have hl256:=HLn.out
      have hst:=HS.out j hlt
      rw [show valK kT true l j=leNat (piece l (5+2 * j) 2) from rfl,HTW.out (5+2 * j) (by omega)] at hst
      have hB:Holds wr b l:=hk.at_ (q:=b) (o:=Obj.cells (cellsOf l) 39) (by simp)
      have hP:IsPg .u16 137 wr p idx (nsK kT true l j):=hk.at_ List.mem_cons_self
      obtain ⟨A,hA⟩:∃ A,A=5+2 * j:=⟨_,rfl⟩
      obtain ⟨C,hC⟩:∃ C,C=6+2 * j:=⟨_,rfl⟩
      simp only [←hA] at hst
      obtain ⟨b0,e0⟩:∃ b,b=(l[A]'(by omega)):=⟨_,rfl⟩
      obtain ⟨b1,e1⟩:∃ b,b=(l[A+1]'(by omega)):=⟨_,rfl⟩
      have c0:wr.cell? ⟨b,A,none⟩=some (.int .u8 (b0.toNat:Int)):=by rw [e0]; exact hB.cell A (by omega)
      have c1:wr.cell? ⟨b,C,none⟩=some (.int .u8 (b1.toNat:Int)):=by rw [e1,show C=A+1 from by omega]; exact hB.cell (A+1) (by omega)
      rw [←e0,←e1] at hst
      clear e0 e1 hB
      have u0:=b0.toNat_lt
      have u1:=b1.toNat_lt
      generalize b0.toNat=n0 at c0 hst u0
      generalize b1.toNat=n1 at c1 hst u1
      obtain ⟨x,hx⟩:∃ x,x=n0+256 * n1:=⟨_,rfl⟩
      rw [←hx] at hst
      have hpl:(nsK kT true l j).length=64:=HPL.out j hj
      obtain ⟨v0,h0⟩:∃ v0,wr.drew.cell? ⟨p,1+j,none⟩=some v0:=⟨_,hP.num j (by omega)⟩
      have hf:wr.drew.frozen? ⟨p,1+j,none⟩=false:=hP.frozen (1+j)
      have hn:=hk.drew.setCell (j:=1+j) (v:=.int .u16 (x:Int)) hne
      rw [pgCells_set,hst] at hn
      have m1:(5:Int)+2 * (j:Int)=(A:Int):=by omega
      have m2:(6:Int)+2 * (j:Int)=(C:Int):=by omega
      have m0:IntKind.i64.wrap (2 * (j:Int))=2 * (j:Int):=IntWalk.i64_in _ (by omega)
      have hA0:(0:Int)≤(A:Int):=by omega
      have hC0:(0:Int)≤(C:Int):=by omega
      have hA1:(A:Int) < 256:=by omega
      have hC1:(C:Int) < 256:=by omega
      have hA2:IntKind.i64.wrap (A:Int)=(A:Int):=IntWalk.i64_in _ (by omega)
      have hC2:IntKind.i64.wrap (C:Int)=(C:Int):=IntWalk.i64_in _ (by omega)
      have hK1:(j:Int) < 64:=by omega
      have zz0:IntKind.u16.wrap (n0:Int)=(n0:Int):=IntWalk.u16_in _ (by omega)
      have zz1:IntKind.u16.wrap (n1:Int)=(n1:Int):=IntWalk.u16_in _ (by omega)
      have y1:IntKind.u16.wrap (256 * (n1:Int))=256 * (n1:Int):=IntWalk.u16_in _ (by omega)
      have s1:IntKind.u16.wrap ((n0:Int)+256 * (n1:Int))=(x:Int):=by rw [IntWalk.u16_in _ (by omega)]; omega
      clear hA hC hx hst hP hpl
      go_wp2_with fail
      refine wp_region_still_tail 17 (by kernel_rfl) (by kernel_rfl) ?_
      simp only [List.take_succ_cons,List.take_zero,List.drop_succ_cons,List.drop_zero]
      repeat still_step
      refine wpStill_nil ?_
      change wpList _ _ _ _ _ wr.drew
      clear c0 c1 hk
      generalize wr.drew=W1 at h0 hf hn ⊢
      clear zz0 zz1 y1 s1 hA0 hA1 hC0 hC1 hA2 hC2 m0 m1 m2
      go_wp2
      go_roundw
      case rel=>exact ⟨j+1,by omega,by go_num,hn⟩
      case measure=>simp [intOf]; omega
    · obtain rfl:j=64:=by omega
      rw [show nsK kT true l 64=nsOf kT l from nsK_all kT l] at hk
      have hnl:=nsOf_length kT l
      have hput:=fun W=>refPut_anyT idx (nsOf kT l) hnl HNL.out W
      rw [show putB kT idx (nsOf kT l)=pgB kT idx (nsOf kT l) from if_pos hlim,show putE kT idx=0 from if_pos hlim] at hput
      have hpl:=pgB_length fT idx hnl
      have hin:=sizeT idx (nsOf kT l) hnl
      have hs2:(pgCells .u16 0 (zs kT)).size=(pgCells .u16 idx (nsOf kT l)).size:=by rw [pgCells_size,pgCells_size,zs_length,hnl]
      rw [←HB.out] at hpl
      simp only [←HB.out] at hput
      have hip:=sizeBlock B hpl
      have hzz:(cellsOf zeros).size=(cellsOf B).size:=by rw [cellsOf_size,cellsOf_size,hpl,zeros_length]
      have hzb:=(zero_of_info infoBlock).1
      have hg:=fun (W:World) (op:BinOp) (x y:Operand) (xs ys:Array Value)=>run_eqGuard_agg (P:=Tryz.prog) W op 39 x y xs ys noGuard
      have heq:=fun W:World=>run_eqBlock W B l hpl HLn.out
      have HPT:=Lib.hid hput
      have hP:=hk.at_ List.mem_cons_self
      generalize nsOf kT l=ns at hk HPT hin hs2 hP HR
      clear hput hnl hpl HB
      go_wp2_with (refine wpList_load_row rfl 137 _ rfl p rfl _ _ _ _ hP Tryz.underlying137 rfl hin ?_)
      refine (HPT.out _).mono ?_
      rintro e W3 ⟨rfl,hx⟩
      have hk2:=(hk.below hx).alloc (.cells (cellsOf B) 39)
      clear hx hk hP
      have tok:True:=trivial
      by_cases hBl:B=l
      · rw [decide_eq_true hBl] at heq
        have HBl:=Lib.hid hBl; clear hBl
        go_wp2_with (first
          | (have _t:=tok; refine wpList_store_new rfl 39 _ _ rfl (cellsOf B) _ _ rfl rfl hip hzz (cellsOf_one _) ?_; generalize W3.heap.size=q7 at hk2 ⊢; generalize W3.alloc (.cells (cellsOf B) 39)=W4 at hk2 ⊢; clear _t tok; have hA:=hk2.at_ List.mem_cons_self; have hP:=hk2.at_ (q:=p) (o:=.cells (pgCells .u16 idx ns) 137) (by simp); have hR:=hk2.at_ (q:=r) (o:=Obj.cells (pgCells .u16 0 (zs kT)) 137) (by simp); have hq:=hk2.at_ (q:=b) (o:=Obj.cells (cellsOf l) 39) (by simp))
          | (refine wpList_load_want (by rfl) 39 _ rfl q7 rfl _ _ _ _ hA Tryz.underlying39 rfl hip ?_)
          | (refine wpList_load_want (by rfl) 39 _ rfl b rfl _ _ _ _ hq Tryz.underlying39 rfl hi ?_)
          | (refine wpList_load_row rfl 137 _ rfl p rfl _ _ _ _ hP Tryz.underlying137 rfl hin ?_)
          | (refine wpList_store_row rfl 137 _ _ rfl r _ rfl rfl _ _ hR hin hs2 (pgCells_one _ _) ?_))
        exact bodyPost_ret (results_row_tmp rfl _ _ _ _ _ _ _ rfl (setRow_heap _ _ _ _ _ _ (hk2.at_ (q:=r) (o:=Obj.cells (pgCells .u16 0 (zs kT)) 137) (by simp))) Tryz.underlying137 rfl hin) rfl ⟨by rw [HR.out,HEv.out,if_pos HBl.out,if_pos HBl.out]; rfl,below_row hk2.bel hrw⟩
      · rw [decide_eq_false hBl] at heq
        have HBl:=Lib.hid hBl; clear hBl
        go_wp2_with (first
          | (have _t:=tok; refine wpList_store_new rfl 39 _ _ rfl (cellsOf B) _ _ rfl rfl hip hzz (cellsOf_one _) ?_; generalize W3.heap.size=q7 at hk2 ⊢; generalize W3.alloc (.cells (cellsOf B) 39)=W4 at hk2 ⊢; clear _t tok; have hA:=hk2.at_ List.mem_cons_self; have hR:=hk2.at_ (q:=r) (o:=Obj.cells (pgCells .u16 0 (zs kT)) 137) (by simp); have hq:=hk2.at_ (q:=b) (o:=Obj.cells (cellsOf l) 39) (by simp))
          | (refine wpList_load_want (by rfl) 39 _ rfl q7 rfl _ _ _ _ hA Tryz.underlying39 rfl hip ?_)
          | (refine wpList_load_want (by rfl) 39 _ rfl b rfl _ _ _ _ hq Tryz.underlying39 rfl hi ?_)
          | (refine wpList_store_row rfl 137 _ _ rfl r _ rfl rfl _ _ hR hi0 rfl (pgCells_one _ _) ?_))
        exact bodyPost_ret (results_row_tmp rfl _ _ _ _ _ _ _ rfl (setRow_heap _ _ _ _ _ _ (hk2.at_ (q:=r) (o:=Obj.cells (pgCells .u16 0 (zs kT)) 137) (by simp))) Tryz.underlying137 rfl hi0) rfl ⟨by rw [HR.out,HEv.out,if_neg HBl.out,if_neg HBl.out]; rfl,below_row hk2.bel hrw⟩
theorem refGet_anyT (l:List UInt8) (hl:l.length=256) (idx:Nat) (w:World) :
  Calls Tryz.prog 62 #[.agg (cellsOf l),.int .u32 (idx:Int)] w fun e w'=>e=.returned (.tuple #[.agg (pgCells .u16 (getI kT l idx) (getNs kT l idx)),.int .i64 (getE kT l idx)])∧Below w.heap.size w w':=by
 by_cases ho:idx < kT.lim
 ·by_cases hz:l=zeros
  ·have hE:getE kT l idx=0:=getE_zero.2 ⟨ho,.inl hz⟩
   unfold getI getNs
   rw [hE,if_pos rfl,if_pos rfl,hz,nsOf_zerosT]
   exact refGet_zeroT idx ho w
  ·refine (refGet_coreT l hl hz idx ho w).mono fun e w' ⟨he,hb⟩=>⟨he.trans ?_,hb⟩
   by_cases hp:pgB kT idx (nsOf kT l)=l
   ·have hE:getE kT l idx=0:=getE_zero.2 ⟨ho,.inr hp⟩
    unfold getI getNs
    rw [hE,if_pos rfl,if_pos rfl,if_pos hp,if_pos hp]
   ·have hE:getE kT l idx=250:=by
     have h1:isG kT l idx=false:=by unfold isG; rw [decide_eq_false hz,decide_eq_false hp]; rfl
     unfold getE
     rw [if_pos ho,h1]
     rfl
    unfold getI getNs
    rw [hE,if_neg hp,if_neg hp]
    rfl
 ·have hE:getE kT l idx=2:=if_neg ho
  unfold getI getNs
  rw [hE]
  exact refGet_noT l idx ho w
end Tal
namespace Tal
open Go.RowKit RowLaw Crc Fld
theorem refGet_noP (l:List UInt8) (idx:Nat) (ho:¬ idx < kP.lim) (w:World) :
  Calls Tryz.prog 63 #[.agg (cellsOf l),.int .u32 (idx:Int)] w fun e w'=>e=.returned (.tuple #[.agg (pgCells .u64 0 (zs kP)),.int .i64 2])∧Below w.heap.size w w':=by
 have hzv:=(zero_of_info infoP).1
 have hi0:=sizeP 0 (zs kP) (zs_length kP)
 have hk:Kept w [(w.heap.size+1,Obj.cells (pgCells .u64 0 (zs kP)) 142),(w.heap.size,Obj.cells (cellsOf l) 39)] ((w.alloc (Obj.cells (cellsOf l) 39)).alloc (Obj.cells (pgCells .u64 0 (zs kP)) 142)):=by
  have h:=((Kept.start w).alloc (Obj.cells (cellsOf l) 39)).alloc (Obj.cells (pgCells .u64 0 (zs kP)) 142)
  rwa [show (w.alloc (Obj.cells (cellsOf l) 39)).heap.size=w.heap.size+1 from by simp] at h
 have hR:=hk.at_ List.mem_cons_self
 have d1:(16:Int)≤(idx:Int):=by have:¬ idx < 16:=ho; omega
 clear ho
 go_enter Tryz.func63,Tryz.ntmps63
 go_wp2_with (refine wpList_store_row rfl 142 _ _ rfl _ _ rfl rfl _ _ hR hi0 rfl (pgCells_one _ _) ?_)
 exact bodyPost_ret (results_row_tmp rfl _ _ _ _ _ _ _ rfl (setRow_heap _ _ _ _ _ _ hR) Tryz.underlying142 rfl hi0) rfl ⟨rfl,below_row hk.bel (by omega)⟩
theorem refGet_zeroP (idx:Nat) (ho:idx < kP.lim) (w:World) :
    Calls Tryz.prog 63 #[.agg (cellsOf zeros),.int .u32 (idx:Int)] w fun e w'=>e=.returned (.tuple #[.agg (pgCells .u64 idx (zs kP)),.int .i64 0])∧Below w.heap.size w w':=by
  obtain ⟨l,hlz⟩:∃ l,l=zeros:=⟨_,rfl⟩
  have hl:l.length=256:=by rw [hlz]; exact zeros_length
  rw [←hlz]
  have hz:=fun W=>refZero_any l hl W
  rw [decide_eq_true hlz] at hz
  have HZ:=Lib.hid hz
  clear hz hlz
  have hzv:=(zero_of_info infoP).1
  have hi:=sizeBlock l hl
  have hi0:=sizeP 0 (zs kP) (zs_length kP)
  have hi1:=sizeP idx (zs kP) (zs_length kP)
  have hsz:(pgCells .u64 0 (zs kP)).size=(pgCells .u64 idx (zs kP)).size:=by rw [pgCells_size,pgCells_size]
  have hne:∀ x∈[(w.heap.size+1,Obj.cells (pgCells .u64 0 (zs kP)) 142),(w.heap.size,Obj.cells (cellsOf l) 39)],x.1≠w.heap.size+1+1:=by simp; omega
  have hk0:Kept w [(w.heap.size+1+1,Obj.cells (pgCells .u64 0 (zs kP)) 142),(w.heap.size+1,Obj.cells (pgCells .u64 0 (zs kP)) 142),(w.heap.size,Obj.cells (cellsOf l) 39)] (((w.alloc (Obj.cells (cellsOf l) 39)).alloc (Obj.cells (pgCells .u64 0 (zs kP)) 142)).alloc (Obj.cells (pgCells .u64 0 (zs kP)) 142)):=by
    have h:=(((Kept.start w).alloc (Obj.cells (cellsOf l) 39)).alloc (Obj.cells (pgCells .u64 0 (zs kP)) 142)).alloc (Obj.cells (pgCells .u64 0 (zs kP)) 142)
    rwa [show (w.alloc (Obj.cells (cellsOf l) 39)).heap.size=w.heap.size+1 from by simp,show ((w.alloc (Obj.cells (cellsOf l) 39)).alloc (Obj.cells (pgCells .u64 0 (zs kP)) 142)).heap.size=w.heap.size+1+1 from by simp] at h
  have hk:=hk0.setRow (cs':=pgCells .u64 idx (zs kP)) hne
  have hP0:=hk0.at_ List.mem_cons_self
  clear hk0
  have hset:=pgCells_setIdx (K:=.u64) 0 idx (zs kP)
  have hlim:idx < 16:=ho
  have d1:¬ (16:Int)≤(idx:Int):=by omega
  clear ho
  have tok:True:=trivial
  go_enter Tryz.func63,Tryz.ntmps63
  go_wp2_with (first
    | (have _t:=tok; refine wpList_store_row rfl 142 _ _ rfl _ _ rfl rfl _ _ hP0 hi1 hsz (pgCells_one _ _) ?_; clear _t tok hP0; generalize ((((w.alloc (Obj.cells (cellsOf l) 39)).alloc (Obj.cells (pgCells .u64 0 (zs kP)) 142)).alloc (Obj.cells (pgCells .u64 0 (zs kP)) 142))).setRow (w.heap.size+1+1) (pgCells .u64 idx (zs kP))=W0 at hk ⊢; have hB:=hk.at_ (q:=w.heap.size) (o:=Obj.cells (cellsOf l) 39) (by simp))
    | (refine wpList_load_row rfl 39 _ rfl w.heap.size rfl _ _ _ _ hB Tryz.underlying39 rfl hi ?_))
  refine (HZ.out _).mono ?_
  rintro e W1 ⟨rfl,hx⟩
  replace hk:=hk.below hx
  clear hx hB
  have hrw:w.heap.size≤w.heap.size+1:=by omega
  have hrb:w.heap.size+1≠w.heap.size+1+1:=by omega
  generalize w.heap.size+1+1=p at hk hne hrb ⊢
  generalize hrd:w.heap.size+1=r at hk hne hrb hrw ⊢
  clear hrd hset
  obtain ⟨b,hb⟩:∃ b,b=w.heap.size:=⟨_,rfl⟩
  rw [←hb] at hk hne ⊢
  clear hb
  have hR:=hk.at_ (q:=r) (o:=Obj.cells (pgCells .u64 0 (zs kP)) 142) (by simp)
  have hP:=hk.at_ List.mem_cons_self
  go_wp2_with (first | (refine wpList_load_row rfl 142 _ rfl p rfl _ _ _ _ hP Tryz.underlying142 rfl hi1 ?_) | (refine wpList_store_row rfl 142 _ _ rfl r _ rfl rfl _ _ hR hi1 hsz (pgCells_one _ _) ?_))
  exact bodyPost_ret (results_row_tmp rfl _ _ _ _ _ _ _ rfl (setRow_heap _ _ _ _ _ _ hR) Tryz.underlying142 rfl hi1) rfl ⟨rfl,below_row hk.bel hrw⟩
theorem refGet_coreP (l:List UInt8) (hl:l.length=256) (hlz:l≠zeros) (idx:Nat) (ho:idx < kP.lim) (w:World) :
    Calls Tryz.prog 63 #[.agg (cellsOf l),.int .u32 (idx:Int)] w fun e w'=>e=.returned (.tuple #[.agg (if pgB kP idx (nsOf kP l)=l then pgCells .u64 idx (nsOf kP l) else pgCells .u64 0 (zs kP)),.int .i64 (if pgB kP idx (nsOf kP l)=l then 0 else 250)])∧Below w.heap.size w w':=by
  have hz:=fun W=>refZero_any l hl W
  rw [decide_eq_false hlz] at hz
  have HZ:=Lib.hid hz
  have HLn:=Lib.hid hl
  have HS:=Lib.hid (nsK_set kP true l)
  have HPL:=Lib.hid (nsK_length kP true l)
  have HNL:=Lib.hid (nsOf_lt fP l hl)
  have HNX:=Lib.hid (fun A c h=>next_at l A c h)
  have HLT:=Lib.hid (fun A c h=>part_lt l A c h)
  have HZ0:=Lib.hid (fun j hj h=>nsK_nil kP true l j hj h)
  clear hz hlz
  obtain ⟨B,hB⟩:∃ B,B=pgB kP idx (nsOf kP l):=⟨_,rfl⟩
  rw [←hB]
  have HB:=Lib.hid hB
  clear hB
  obtain ⟨R,hR⟩:∃ R,R=if B=l then pgCells .u64 idx (nsOf kP l) else pgCells .u64 0 (zs kP):=⟨_,rfl⟩
  obtain ⟨Ev,hEv⟩:∃ Ev:Int,Ev=if B=l then 0 else 250:=⟨_,rfl⟩
  rw [←hR,←hEv]
  have HR:=Lib.hid hR
  have HEv:=Lib.hid hEv
  clear hR hEv
  have hzv:=(zero_of_info infoP).1
  have hi:=sizeBlock l hl
  have hi0:=sizeP 0 (zs kP) (zs_length kP)
  have hi1:=sizeP idx (zs kP) (zs_length kP)
  have hsz:(pgCells .u64 0 (zs kP)).size=(pgCells .u64 idx (zs kP)).size:=by rw [pgCells_size,pgCells_size]
  have hne:∀ x∈[(w.heap.size+1,Obj.cells (pgCells .u64 0 (zs kP)) 142),(w.heap.size,Obj.cells (cellsOf l) 39)],x.1≠w.heap.size+1+1:=by simp; omega
  have hk0:Kept w [(w.heap.size+1+1,Obj.cells (pgCells .u64 0 (zs kP)) 142),(w.heap.size+1,Obj.cells (pgCells .u64 0 (zs kP)) 142),(w.heap.size,Obj.cells (cellsOf l) 39)] (((w.alloc (Obj.cells (cellsOf l) 39)).alloc (Obj.cells (pgCells .u64 0 (zs kP)) 142)).alloc (Obj.cells (pgCells .u64 0 (zs kP)) 142)):=by
    have h:=(((Kept.start w).alloc (Obj.cells (cellsOf l) 39)).alloc (Obj.cells (pgCells .u64 0 (zs kP)) 142)).alloc (Obj.cells (pgCells .u64 0 (zs kP)) 142)
    rwa [show (w.alloc (Obj.cells (cellsOf l) 39)).heap.size=w.heap.size+1 from by simp,show ((w.alloc (Obj.cells (cellsOf l) 39)).alloc (Obj.cells (pgCells .u64 0 (zs kP)) 142)).heap.size=w.heap.size+1+1 from by simp] at h
  have hk:=hk0.setRow (cs':=pgCells .u64 idx (zs kP)) hne
  have hP0:=hk0.at_ List.mem_cons_self
  clear hk0
  have hset:=pgCells_setIdx (K:=.u64) 0 idx (zs kP)
  have hlim:idx < 16:=ho
  have d1:¬ (16:Int)≤(idx:Int):=by omega
  clear ho
  have tok:True:=trivial
  go_enter Tryz.func63,Tryz.ntmps63
  go_wp2_with (first
    | (have _t:=tok; refine wpList_store_row rfl 142 _ _ rfl _ _ rfl rfl _ _ hP0 hi1 hsz (pgCells_one _ _) ?_; clear _t tok hP0; generalize ((((w.alloc (Obj.cells (cellsOf l) 39)).alloc (Obj.cells (pgCells .u64 0 (zs kP)) 142)).alloc (Obj.cells (pgCells .u64 0 (zs kP)) 142))).setRow (w.heap.size+1+1) (pgCells .u64 idx (zs kP))=W0 at hk ⊢; have hB:=hk.at_ (q:=w.heap.size) (o:=Obj.cells (cellsOf l) 39) (by simp))
    | (refine wpList_load_row rfl 39 _ rfl w.heap.size rfl _ _ _ _ hB Tryz.underlying39 rfl hi ?_))
  refine (HZ.out _).mono ?_
  rintro e W1 ⟨rfl,hx⟩
  replace hk:=hk.below hx
  clear hx hB
  have hrw:w.heap.size≤w.heap.size+1:=by omega
  have hrb:w.heap.size+1≠w.heap.size+1+1:=by omega
  generalize w.heap.size+1+1=p at hk hne hrb ⊢
  generalize hrd:w.heap.size+1=r at hk hne hrb hrw ⊢
  clear hrd hset
  obtain ⟨b,hb⟩:∃ b,b=w.heap.size:=⟨_,rfl⟩
  rw [←hb] at hk hne ⊢
  clear hb
  go_wp2_with fail
  go_loopw [7] (fun i wr=>∃ j: Nat,j≤16∧i=.int .i64 j∧Kept w ((p,.cells (pgCells .u64 idx (nsK kP true l j)) 142)::[(r,Obj.cells (pgCells .u64 0 (zs kP)) 142),(b,Obj.cells (cellsOf l) 39)]) wr) (fun i _=>16 - (intOf i).toNat)
  case atStart=>exact ⟨0,by omega,rfl,by rw [nsK_zero]; exact hk⟩
  case round=>
    clear hk
    obtain ⟨j,hj,rfl,hk⟩:=hrel
    by_cases hlt:j < 16
    · have hl256:=HLn.out
      have hst:=HS.out j hlt
      rw [show valK kP true l j=leNat (piece l (5+8 * j+0) (8 - 0)) from rfl] at hst
      have hpl:(nsK kP true l j).length=16:=HPL.out j hj
      have hz0:(nsK kP true l j)[j]'(by omega)=0:=HZ0.out j hlt (by omega)
      obtain ⟨A,hA⟩:∃ A,A=5+8 * j:=⟨_,rfl⟩
      rw [←hA] at hst
      have hstart: Kept w ((p,.cells (pgCells .u64 idx ((nsK kP true l j).set j (leNat (piece l (A+8) 0)))) 142)::[(r,Obj.cells (pgCells .u64 0 (zs kP)) 142),(b,Obj.cells (cellsOf l) 39)]) wr:=by
        have h1:leNat (piece l (A+8) 0)=(nsK kP true l j)[j]'(by omega):=by rw [hz0]; simp [piece,leNat]
        rw [h1,List.set_getElem_self]
        exact hk
      have HST:=Lib.hid hst; clear hst hz0 hk
      have m0:IntKind.i64.wrap (8 * (j:Int))=8 * (j:Int):=IntWalk.i64_in _ (by omega)
      have m1:(5:Int)+8 * (j:Int)=(A:Int):=by omega
      have hA2:IntKind.i64.wrap (A:Int)=(A:Int):=IntWalk.i64_in _ (by omega)
      have hK1:(j:Int) < 16:=by omega
      have hA5:A≤125:=by omega
      clear hA
      generalize nsK kP true l j=ns at hpl hstart HST
      go_wp2_with fail
      go_loopw [8] (fun v wi=>∃ m: Nat,m≤8∧v=.int .i64 ((m: Int) - 1)∧Kept w ((p,.cells (pgCells .u64 idx (ns.set j (leNat (piece l (A+m) (8 - m))))) 142)::[(r,Obj.cells (pgCells .u64 0 (zs kP)) 142),(b,Obj.cells (cellsOf l) 39)]) wi) (fun v _=>(intOf v+1).toNat)
      case atStart=>exact ⟨8,by omega,rfl,hstart⟩
      case round=>
        clear hstart
        obtain ⟨m,hm,rfl,hk⟩:=hrel
        cases m with
        | zero=>
          rw [Nat.add_zero,Nat.sub_zero] at hk
          rw [show leNat (piece l A 8)=leNat (piece l (A+0) (8 - 0)) from rfl,HST.out] at hk
          go_wp2_with fail
          go_roundw
          case rel=>exact ⟨j+1,by omega,by go_num,hk⟩
          case measure=>simp [intOf]; omega
        | succ m=>
          have hB:Holds wr b l:=hk.at_ (q:=b) (o:=Obj.cells (cellsOf l) 39) (by simp)
          have hval:=HNX.out (A+m) (7 - m) (by omega)
          rw [show 7 - m+1=8 - m from by omega] at hval
          have hx7:=HLT.out (A+m+1) (7 - m) (by omega)
          rw [show A+(m+1)=A+m+1 from by omega,show 8 - (m+1)=7 - m from by omega] at hk
          have hP:IsPg .u64 142 wr p idx (ns.set j (leNat (piece l (A+m+1) (7 - m)))):=hk.at_ List.mem_cons_self
          obtain ⟨C,hC⟩:∃ C,C=A+m:=⟨_,rfl⟩
          have m2:(A:Int)+(m:Int)=(C:Int):=by omega
          simp only [←hC] at hval hx7 hk hP
          have c1:=hP.num j (by rw [List.length_set]; omega)
          rw [List.getElem_set_self] at c1
          obtain ⟨b0,e0⟩:∃ b,b=(l[C]'(by omega)):=⟨_,rfl⟩
          have c0:wr.cell? ⟨b,C,none⟩=some (.int .u8 (b0.toNat:Int)):=by rw [e0]; exact hB.cell C (by omega)
          rw [←e0] at hval
          clear e0 hB
          have u0:=b0.toNat_lt
          generalize b0.toNat=n0 at c0 hval u0
          generalize leNat (piece l (C+1) (7 - m))=y at hval hx7 hk hP c1
          obtain ⟨x,hx⟩:∃ x,leNat (piece l C (8 - m))=x:=⟨_,rfl⟩
          rw [hx] at hval
          have HXE:Hid (leNat (piece l (A+m) (8 - m))=x):=Lib.hid (by rw [←hC]; exact hx)
          clear hx
          have h0:wr.drew.cell? ⟨p,1+j,none⟩=some (.int .u64 (y:Int)):=c1
          have hf:wr.drew.frozen? ⟨p,1+j,none⟩=false:=hP.frozen (1+j)
          have hn:=hk.drew.setCell (j:=1+j) (v:=.int .u64 (x:Int)) hne
          rw [pgCells_set,List.set_set] at hn
          rw [show ((m+1:Nat):Int) - 1=(m:Int) from by omega]
          have hm0:(0:Int)≤(m:Int):=by omega
          have hC0:(0:Int)≤(C:Int):=by omega
          have hC1:(C:Int) < 256:=by omega
          have hC2:IntKind.i64.wrap (C:Int)=(C:Int):=IntWalk.i64_in _ (by omega)
          have zz0:IntKind.u64.wrap (n0:Int)=(n0:Int):=IntWalk.u64_in _ (by omega)
          have y1:IntKind.u64.wrap (256 * (y:Int))=256 * (y:Int):=IntWalk.u64_in _ (by omega)
          have s1:IntKind.u64.wrap (256 * (y:Int)+(n0:Int))=(x:Int):=by rw [IntWalk.u64_in _ (by omega)]; omega
          have hm8:m≤7:=by omega
          clear hC hval hx7 hP hm
          go_wp2_with fail
          refine wp_region_still_tail 17 (by kernel_rfl) (by kernel_rfl) ?_
          simp only [List.take_succ_cons,List.take_zero,List.drop_succ_cons,List.drop_zero]
          repeat still_step
          refine wpStill_nil ?_
          change wpList _ _ _ _ _ wr.drew
          clear c0 c1 hk
          generalize wr.drew=W1 at h0 hf hn ⊢
          clear zz0 y1 s1 hC0 hC1 hC2 m2
          go_wp2
          go_roundw
          case rel=>exact ⟨m,by omega,by go_num,by rw [HXE.out]; exact hn⟩
          case measure=>simp [intOf]
    · obtain rfl:j=16:=by omega
      rw [show nsK kP true l 16=nsOf kP l from nsK_all kP l] at hk
      have hnl:=nsOf_length kP l
      have hput:=fun W=>refPut_anyP idx (nsOf kP l) hnl HNL.out W
      rw [show putB kP idx (nsOf kP l)=pgB kP idx (nsOf kP l) from if_pos hlim,show putE kP idx=0 from if_pos hlim] at hput
      have hpl:=pgB_length fP idx hnl
      have hin:=sizeP idx (nsOf kP l) hnl
      have hs2:(pgCells .u64 0 (zs kP)).size=(pgCells .u64 idx (nsOf kP l)).size:=by rw [pgCells_size,pgCells_size,zs_length,hnl]
      rw [←HB.out] at hpl
      simp only [←HB.out] at hput
      have hip:=sizeBlock B hpl
      have hzz:(cellsOf zeros).size=(cellsOf B).size:=by rw [cellsOf_size,cellsOf_size,hpl,zeros_length]
      have hzb:=(zero_of_info infoBlock).1
      have hg:=fun (W:World) (op:BinOp) (x y:Operand) (xs ys:Array Value)=>run_eqGuard_agg (P:=Tryz.prog) W op 39 x y xs ys noGuard
      have heq:=fun W:World=>run_eqBlock W B l hpl HLn.out
      have HPT:=Lib.hid hput
      have hP:=hk.at_ List.mem_cons_self
      generalize nsOf kP l=ns at hk HPT hin hs2 hP HR
      clear hput hnl hpl HB
      go_wp2_with (refine wpList_load_row rfl 142 _ rfl p rfl _ _ _ _ hP Tryz.underlying142 rfl hin ?_)
      refine (HPT.out _).mono ?_
      rintro e W3 ⟨rfl,hx⟩
      have hk2:=(hk.below hx).alloc (.cells (cellsOf B) 39)
      clear hx hk hP
      have tok:True:=trivial
      by_cases hBl:B=l
      · rw [decide_eq_true hBl] at heq
        have HBl:=Lib.hid hBl; clear hBl
        go_wp2_with (first
          | (have _t:=tok; refine wpList_store_new rfl 39 _ _ rfl (cellsOf B) _ _ rfl rfl hip hzz (cellsOf_one _) ?_; generalize W3.heap.size=q7 at hk2 ⊢; generalize W3.alloc (.cells (cellsOf B) 39)=W4 at hk2 ⊢; clear _t tok; have hA:=hk2.at_ List.mem_cons_self; have hP:=hk2.at_ (q:=p) (o:=.cells (pgCells .u64 idx ns) 142) (by simp); have hR:=hk2.at_ (q:=r) (o:=Obj.cells (pgCells .u64 0 (zs kP)) 142) (by simp); have hq:=hk2.at_ (q:=b) (o:=Obj.cells (cellsOf l) 39) (by simp))
          | (refine wpList_load_want (by rfl) 39 _ rfl q7 rfl _ _ _ _ hA Tryz.underlying39 rfl hip ?_)
          | (refine wpList_load_want (by rfl) 39 _ rfl b rfl _ _ _ _ hq Tryz.underlying39 rfl hi ?_)
          | (refine wpList_load_row rfl 142 _ rfl p rfl _ _ _ _ hP Tryz.underlying142 rfl hin ?_)
          | (refine wpList_store_row rfl 142 _ _ rfl r _ rfl rfl _ _ hR hin hs2 (pgCells_one _ _) ?_))
        exact bodyPost_ret (results_row_tmp rfl _ _ _ _ _ _ _ rfl (setRow_heap _ _ _ _ _ _ (hk2.at_ (q:=r) (o:=Obj.cells (pgCells .u64 0 (zs kP)) 142) (by simp))) Tryz.underlying142 rfl hin) rfl ⟨by rw [HR.out,HEv.out,if_pos HBl.out,if_pos HBl.out]; rfl,below_row hk2.bel hrw⟩
      · rw [decide_eq_false hBl] at heq
        have HBl:=Lib.hid hBl; clear hBl
        go_wp2_with (first
          | (have _t:=tok; refine wpList_store_new rfl 39 _ _ rfl (cellsOf B) _ _ rfl rfl hip hzz (cellsOf_one _) ?_; generalize W3.heap.size=q7 at hk2 ⊢; generalize W3.alloc (.cells (cellsOf B) 39)=W4 at hk2 ⊢; clear _t tok; have hA:=hk2.at_ List.mem_cons_self; have hR:=hk2.at_ (q:=r) (o:=Obj.cells (pgCells .u64 0 (zs kP)) 142) (by simp); have hq:=hk2.at_ (q:=b) (o:=Obj.cells (cellsOf l) 39) (by simp))
          | (refine wpList_load_want (by rfl) 39 _ rfl q7 rfl _ _ _ _ hA Tryz.underlying39 rfl hip ?_)
          | (refine wpList_load_want (by rfl) 39 _ rfl b rfl _ _ _ _ hq Tryz.underlying39 rfl hi ?_)
          | (refine wpList_store_row rfl 142 _ _ rfl r _ rfl rfl _ _ hR hi0 rfl (pgCells_one _ _) ?_))
        exact bodyPost_ret (results_row_tmp rfl _ _ _ _ _ _ _ rfl (setRow_heap _ _ _ _ _ _ (hk2.at_ (q:=r) (o:=Obj.cells (pgCells .u64 0 (zs kP)) 142) (by simp))) Tryz.underlying142 rfl hi0) rfl ⟨by rw [HR.out,HEv.out,if_neg HBl.out,if_neg HBl.out]; rfl,below_row hk2.bel hrw⟩
theorem refGet_anyP (l:List UInt8) (hl:l.length=256) (idx:Nat) (w:World) :
  Calls Tryz.prog 63 #[.agg (cellsOf l),.int .u32 (idx:Int)] w fun e w'=>e=.returned (.tuple #[.agg (pgCells .u64 (getI kP l idx) (getNs kP l idx)),.int .i64 (getE kP l idx)])∧Below w.heap.size w w':=by
 by_cases ho:idx < kP.lim
 ·by_cases hz:l=zeros
  ·have hE:getE kP l idx=0:=getE_zero.2 ⟨ho,.inl hz⟩
   unfold getI getNs
   rw [hE,if_pos rfl,if_pos rfl,hz,nsOf_zerosP]
   exact refGet_zeroP idx ho w
  ·refine (refGet_coreP l hl hz idx ho w).mono fun e w' ⟨he,hb⟩=>⟨he.trans ?_,hb⟩
   by_cases hp:pgB kP idx (nsOf kP l)=l
   ·have hE:getE kP l idx=0:=getE_zero.2 ⟨ho,.inr hp⟩
    unfold getI getNs
    rw [hE,if_pos rfl,if_pos rfl,if_pos hp,if_pos hp]
   ·have hE:getE kP l idx=250:=by
     have h1:isG kP l idx=false:=by unfold isG; rw [decide_eq_false hz,decide_eq_false hp]; rfl
     unfold getE
     rw [if_pos ho,h1]
     rfl
    unfold getI getNs
    rw [hE,if_neg hp,if_neg hp]
    rfl
 ·have hE:getE kP l idx=2:=if_neg ho
  unfold getI getNs
  rw [hE]
  exact refGet_noP l idx ho w
end Tal

end Go.Proofs.YtgkbfahflngklaaGreat
