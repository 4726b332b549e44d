import Derived.Test.YtgkbfahflngklaaGreatTal1
import Derived.Test.YtgkbfahflngklaaGreatCrc3
import Derived.Test.YtgkbfahflngklaaGreatPln
import Derived.Test.YtgkbfahflngklaaGreatFld2
set_option maxRecDepth 100000
set_option maxHeartbeats 3200000
namespace Go.Proofs.YtgkbfahflngklaaGreat
namespace Tal
open Go.RowKit RowLaw Crc Fld
def stK (k:PK) (ok:Bool) (l:List UInt8) (j:Nat):Option (List UInt8×Nat):=if ok=true then some (l,5+k.wd * j) else none
def idxK (ok:Bool) (l:List UInt8):Nat:=if ok=true then idxOf l else 0
def valK (k:PK) (ok:Bool) (l:List UInt8) (j:Nat):Nat:=if ok=true then numAt k l j else 0
def nsK (k:PK) (ok:Bool) (l:List UInt8) (j:Nat):List Nat:=if ok=true then nsTo k l j ++ List.replicate (k.n - j) 0 else zs k
theorem idxK_lt (ok:Bool) (l:List UInt8) (hl:l.length=256):idxK ok l < 4294967296:=by
 unfold idxK idxOf
 split
 ·have:=leNat_lt (piece l 1 4)
  rw [piece_length l 1 4 (by omega)] at this
  omega
 ·omega
theorem valK_lt {k:PK} (hk:k.Fine) (ok:Bool) (l:List UInt8) (hl:l.length=256) (j:Nat) (hj:j < k.n):valK k ok l j < 256 ^ k.wd:=by
 have hw:=wd_le1 hk hj
 unfold valK numAt
 split
 ·have:=leNat_lt (piece l (5+k.wd * j) k.wd)
  rw [piece_length l _ k.wd (by omega)] at this
  exact this
 ·exact Nat.pow_pos (by omega)
theorem nsK_length (k:PK) (ok:Bool) (l:List UInt8) (j:Nat) (hj:j≤k.n):(nsK k ok l j).length=k.n:=by
 unfold nsK
 split
 ·rw [List.length_append,nsTo_length,List.length_replicate]; omega
 ·exact zs_length k
theorem nsK_zero (k:PK) (ok:Bool) (l:List UInt8):nsK k ok l 0=zs k:=by
 unfold nsK
 split <;> rfl
theorem nsK_set (k:PK) (ok:Bool) (l:List UInt8) (j:Nat) (hj:j < k.n):(nsK k ok l j).set j (valK k ok l j)=nsK k ok l (j+1):=by
 unfold nsK valK
 split
 ·have e:nsTo k l (j+1)=nsTo k l j ++ [numAt k l j]:=by simp [nsTo,List.range_succ]
  rw [List.set_append_right _ _ (by rw [nsTo_length]; omega),nsTo_length,Nat.sub_self,show k.n - j=(k.n - (j+1))+1 from by omega,List.replicate_succ,List.set_cons_zero,e,List.append_assoc]
  rfl
 ·apply List.ext_getElem
  ·simp
  ·intro i h1 h2
   rw [List.getElem_set]
   split
   ·exact (List.getElem_replicate (n:=k.n) (a:=0) (by rw [List.length_replicate]; rw [zs_length] at h2; exact h2)).symm
   ·rfl
theorem nsK_all (k:PK) (l:List UInt8):nsK k true l k.n=nsOf k l:=by
 unfold nsK nsOf
 rw [if_pos rfl,Nat.sub_self,List.replicate_zero,List.append_nil]
theorem takeIdx (k:PK) (ok:Bool) (l:List UInt8):takeNum (if ok=true then some (l,1) else none) 4=(idxK ok l,stK k ok l 0):=by
 unfold stK idxK
 rw [Nat.mul_zero]
 cases ok <;> rfl
theorem takeK {k:PK} (hk:k.Fine) {z:Int} (hz:numSz z=k.wd) (h0:k.wd≠0) (ok:Bool) (l:List UInt8) (j:Nat) (hj:j < k.n):takeNum (stK k ok l j) z=(valK k ok l j,stK k ok l (j+1)):=by
 have hw:=wd_le1 hk hj
 unfold stK valK numAt
 cases ok with
 | false=>simp [takeNum]
 | true=>
  simp only [if_true]
  show (if fitB (5+k.wd * j) (numSz z)=true then (leNat (piece l (5+k.wd * j) (numSz z)),some (l,5+k.wd * j+numSz z)) else (0,none))=_
  rw [hz,show fitB (5+k.wd * j) k.wd=true from decide_eq_true (by omega),if_pos rfl,Nat.mul_add,Nat.mul_one,Nat.add_assoc]
def endsB (ok:Bool) (l:List UInt8):Bool:=ok&&blankB (piece l 133 119)
theorem endK {k:PK} (hk:k.Fine) (ok:Bool) (l:List UInt8):endE (stK k ok l k.n)=if endsB ok l=true then 0 else 250:=by
 unfold stK endE endsB
 rw [hk.len]
 cases ok <;> rfl
theorem getE_long {k:PK} (hk:k.Fine) {l:List UInt8} (hl:l.length=256) {idx:Nat} (hi:idx < k.lim) (hz:l≠zeros) (ok:Bool) (hok:openSt l k.m=if ok=true then some (l,1) else none) :
  getE k l idx=if (endsB ok l&&decide (idxK ok l=idx))=true then 0 else 250:=by
 have hlim:=hk.lim
 have h:=pgB_iff hk hl (idx:=idx) (by omega)
 unfold getE isG
 rw [if_pos hi,decide_eq_false hz,Bool.false_or]
 congr 1
 rw [eq_iff_iff,decide_eq_true_eq,h,Bool.and_eq_true,decide_eq_true_eq,hok]
 unfold endsB idxK
 cases ok with
 | true=>simp
 | false=>simp
theorem getE_ok {k:PK} {l:List UInt8} {idx:Nat} (hz:l≠zeros) (ok:Bool) (hk:k.Fine) (hl:l.length=256) (hok:openSt l k.m=if ok=true then some (l,1) else none) (h:getE k l idx=0):ok=true:=by
 have hi:=(getE_zero.1 h).1
 rw [getE_long hk hl hi hz ok hok] at h
 cases ok with
 | true=>rfl
 | false=>simp [endsB] at h
theorem Apart.own' {p q:Nat} {w W W':World} (h:Apart p w W) (h2:Apart q W W') (hq:w.heap.size≤q):Apart p w W':=
 ⟨h2.os.trans h.os,h2.tape.trans h.tape,h2.output.trans h.output,Nat.le_trans h.size h2.size,fun k hk hp=>(h2.block k (Nat.lt_of_lt_of_le hk h.size) (by omega)).trans (h.block k hk hp)⟩
structure GetBox (K:IntKind) (t:TypeId) (w:World) (p q i0:Nat) (ns:List Nat) (st:Option (List UInt8×Nat)) (W:World):Prop where
 pg:IsPg K t W p i0 ns
 rd:RIs W q st
 ap:Apart p w W
 ne:p≠q∧w.heap.size≤q
section
variable {K:IntKind} {t:TypeId} {w W W':World} {p q i0:Nat} {ns:List Nat} {st st':Option (List UInt8×Nat)}
theorem GetBox.num (h:GetBox K t w p q i0 ns st W) (width:Int) {x:Nat} (hf:takeNum st width=(x,st')) :
  Calls Tryz.prog 230 #[.pointer (some ⟨q,0,none⟩),.int .i64 width] W fun e W'=>e=.returned (.int .u64 (x:Int))∧GetBox K t w p q i0 ns st' W':=by
 have:=RNum_any st q width W h.rd
 rw [hf] at this
 exact this.mono fun _ _ ⟨he,h1,h2⟩=>⟨he,h.pg.apart h2 h.ne.1,h1,Apart.own' h.ap h2 h.ne.2,h.ne⟩
theorem GetBox.setNum (h:GetBox K t w p q i0 ns st W) (j x:Nat):GetBox K t w p q i0 (ns.set j x) st (W.setCell ⟨p,1+j,none⟩ (.int K (x:Int))):=
 ⟨h.pg.setNum j x,h.rd.of_block (heap_setCell_other W _ q _ (fun e=>h.ne.1 e.symm)),h.ap.set_ _ _,h.ne⟩
theorem GetBox.end_ (h:GetBox K t w p q i0 ns st W) {e0:Int} (he:endE st=e0) :
  Calls Tryz.prog 231 #[.pointer (some ⟨q,0,none⟩)] W fun e W'=>e=.returned (.int .i64 e0)∧GetBox K t w p q i0 ns st W':=by
 subst he
 exact (End_any st q W h.rd).mono fun _ _ ⟨he,hb⟩=>⟨he,h.pg.below hb h.pg.lt,h.rd.below hb,h.ap.trans (Apart.of_below hb),h.ne⟩
end
def Got (k:PK) (K:IntKind) (t:TypeId) (w:World) (p i0:Nat) (E:Int) (l:List UInt8) (w':World):Prop:=(∃ ns:List Nat,ns.length=k.n∧IsPg K t w' p i0 ns∧(E=0→ns=nsOf k l))∧Apart p w w'
theorem get_noT (l:List UInt8) (hl:l.length=256) (p i0 idx:Nat) (ho:¬ idx < kT.lim) (w:World) (hw:IsPg .u16 137 w p i0 (zs kT)) :
  Calls Tryz.prog 215 #[.agg #[.int .u8 84,.int .u32 16384],.agg (cellsOf l),.int .u32 (idx:Int),.slice (some ⟨p,1,none⟩) 64 64] w fun e w'=>e=.returned (.int .i64 2)∧Got kT .u16 137 w p i0 2 l w':=by
 have hi:=sizeBlock l hl
 have hK:((w.alloc (.cells #[.int .u8 84,.int .u32 16384] 263)).alloc (.cells (cellsOf l) 39)).heap[w.heap.size]? = some (.cells #[.int .u8 84,.int .u32 16384] 263 (0,0)):=(Below.heap_alloc _ _ _ (by simp)).trans (heap_alloc_new w _)
 have ck:((w.alloc (.cells #[.int .u8 84,.int .u32 16384] 263)).alloc (.cells (cellsOf l) 39)).cell? ⟨w.heap.size,1,none⟩=some (.int .u32 16384):=(cell_of_row _ _ 1 _ _ _ hK).trans rfl
 have hH:Holds ((w.alloc (.cells #[.int .u8 84,.int .u32 16384] 263)).alloc (.cells (cellsOf l) 39)) (w.heap.size+1) l:=heap_alloc2_new w _ _
 have hN:IsPg .u16 137 ((w.alloc (.cells #[.int .u8 84,.int .u32 16384] 263)).alloc (.cells (cellsOf l) 39)) p i0 (zs kT):=(hw.alloc _).alloc _
 have ha:Apart p w ((w.alloc (.cells #[.int .u8 84,.int .u32 16384] 263)).alloc (.cells (cellsOf l) 39)):=((Apart.refl p w).alloc _).alloc _
 have d1:(16384:Int)≤(idx:Int):=by have:¬ idx < 16384:=ho; omega
 clear hK ho hH hi
 go_enter Tryz.func215,Tryz.ntmps215
 go_wp2_with fail
 go_ret
 exact ⟨rfl,⟨zs kT,zs_length kT,hN,fun h=>by cases h⟩,ha⟩
theorem get_zeroT (p i0 idx:Nat) (ho:idx < kT.lim) (w:World) (hw:IsPg .u16 137 w p i0 (zs kT)) :
  Calls Tryz.prog 215 #[.agg #[.int .u8 84,.int .u32 16384],.agg (cellsOf zeros),.int .u32 (idx:Int),.slice (some ⟨p,1,none⟩) 64 64] w fun e w'=>e=.returned (.int .i64 0)∧Got kT .u16 137 w p i0 0 zeros w':=by
 obtain ⟨l,hlz⟩:∃ l,l=zeros:=⟨_,rfl⟩
 have hl:l.length=256:=by rw [hlz]; exact zeros_length
 rw [←hlz]
 have hi:=sizeBlock l hl
 have hK:((w.alloc (.cells #[.int .u8 84,.int .u32 16384] 263)).alloc (.cells (cellsOf l) 39)).heap[w.heap.size]? = some (.cells #[.int .u8 84,.int .u32 16384] 263 (0,0)):=(Below.heap_alloc _ _ _ (by simp)).trans (heap_alloc_new w _)
 have ck:((w.alloc (.cells #[.int .u8 84,.int .u32 16384] 263)).alloc (.cells (cellsOf l) 39)).cell? ⟨w.heap.size,1,none⟩=some (.int .u32 16384):=(cell_of_row _ _ 1 _ _ _ hK).trans rfl
 have hH:Holds ((w.alloc (.cells #[.int .u8 84,.int .u32 16384] 263)).alloc (.cells (cellsOf l) 39)) (w.heap.size+1) l:=heap_alloc2_new w _ _
 have hN:IsPg .u16 137 ((w.alloc (.cells #[.int .u8 84,.int .u32 16384] 263)).alloc (.cells (cellsOf l) 39)) p i0 (zs kT):=(hw.alloc _).alloc _
 have ha:Apart p w ((w.alloc (.cells #[.int .u8 84,.int .u32 16384] 263)).alloc (.cells (cellsOf l) 39)):=((Apart.refl p w).alloc _).alloc _
 have d1:¬ (16384:Int)≤(idx:Int):=by have:idx < 16384:=ho; omega
 have hz:=fun W=>Zero_any l hl W
 rw [decide_eq_true hlz] at hz
 have HZ:=Lib.hid hz
 have HL:=Lib.hid hlz
 clear hK ho hl hz hlz
 go_enter Tryz.func215,Tryz.ntmps215
 go_wp2_with (refine wpList_load_row rfl 39 _ rfl _ rfl _ _ _ _ hH Tryz.underlying39 rfl hi ?_)
 refine (HZ.out _).mono ?_
 rintro e W1 ⟨rfl,hx⟩
 go_wp2_with fail
 go_ret
 exact ⟨rfl,⟨zs kT,zs_length kT,hN.below hx hN.lt,fun _=>by rw [HL.out]; exact nsOf_zerosT.symm⟩,ha.trans (Apart.of_below hx)⟩
theorem get_coreT (l:List UInt8) (hl:l.length=256) (hlz:l≠zeros) (ok:Bool) (hok:openSt l 84=if ok=true then some (l,1) else none) (p i0 idx:Nat) (ho:idx < kT.lim) (w:World) (hw:IsPg .u16 137 w p i0 (zs kT)) :
  Calls Tryz.prog 215 #[.agg #[.int .u8 84,.int .u32 16384],.agg (cellsOf l),.int .u32 (idx:Int),.slice (some ⟨p,1,none⟩) 64 64] w fun e w'=>e=.returned (.int .i64 (if (endsB ok l&&decide (idxK ok l=idx))=true then 0 else 250))∧IsPg .u16 137 w' p i0 (nsK kT ok l 64)∧Apart p w w':=by
 have hi:=sizeBlock l hl
 have hK:((w.alloc (.cells #[.int .u8 84,.int .u32 16384] 263)).alloc (.cells (cellsOf l) 39)).heap[w.heap.size]? = some (.cells #[.int .u8 84,.int .u32 16384] 263 (0,0)):=(Below.heap_alloc _ _ _ (by simp)).trans (heap_alloc_new w _)
 have ck:((w.alloc (.cells #[.int .u8 84,.int .u32 16384] 263)).alloc (.cells (cellsOf l) 39)).cell? ⟨w.heap.size,1,none⟩=some (.int .u32 16384):=(cell_of_row _ _ 1 _ _ _ hK).trans rfl
 have hH:Holds ((w.alloc (.cells #[.int .u8 84,.int .u32 16384] 263)).alloc (.cells (cellsOf l) 39)) (w.heap.size+1) l:=heap_alloc2_new w _ _
 have hN:IsPg .u16 137 ((w.alloc (.cells #[.int .u8 84,.int .u32 16384] 263)).alloc (.cells (cellsOf l) 39)) p i0 (zs kT):=(hw.alloc _).alloc _
 have ha:Apart p w ((w.alloc (.cells #[.int .u8 84,.int .u32 16384] 263)).alloc (.cells (cellsOf l) 39)):=((Apart.refl p w).alloc _).alloc _
 have hpw:=hw.lt
 have hlim:idx < 16384:=ho
 have d1:¬ (16384:Int)≤(idx:Int):=by omega
 have hz:=fun W=>Zero_any l hl W
 rw [decide_eq_false hlz] at hz
 have hopen:=fun W=>Open_any l hl 84 W
 rw [hok] at hopen
 have HZ:=Lib.hid hz
 have HO:=Lib.hid hopen
 have hil:=idxK_lt ok l hl
 have HTL:=Lib.hid (takeIdx kT ok l)
 have HTK:=Lib.hid (takeK fT (z:=2) rfl (by decide) ok l)
 have HVK:=Lib.hid (valK_lt fT ok l hl)
 have HE:=Lib.hid (endK fT ok l)
 have HS:=Lib.hid (nsK_set kT ok l)
 have HPL:=Lib.hid (nsK_length kT ok l)
 clear hl hz hlz hopen hok ho hw
 have cm:((w.alloc (.cells #[.int .u8 84,.int .u32 16384] 263)).alloc (.cells (cellsOf l) 39)).cell? ⟨w.heap.size,0,none⟩=some (.int .u8 84):=(cell_of_row _ _ 0 _ _ _ hK).trans rfl
 have z1:IntKind.u64.wrap (idx:Int)=(idx:Int):=IntWalk.u64_in _ (by omega)
 obtain ⟨sm,hsm⟩:∃ sm,sm=decide (idxK ok l=idx):=⟨_,rfl⟩
 rw [←hsm]
 obtain ⟨b,hbd⟩:∃ b,b=endsB ok l:=⟨_,rfl⟩
 rw [←hbd] at HE ⊢
 have HBD:=Lib.hid hbd
 clear hbd
 have hse:((idxK ok l:Int) == (idx:Int))=sm:=by
  rw [hsm,Bool.eq_iff_iff,decide_eq_true_eq,beq_iff_eq]
  exact ⟨fun h=>by exact_mod_cast h,fun h=>by rw [h]⟩
 clear hsm
 generalize idxK ok l=ix at hil HTL hse
 go_enter Tryz.func215,Tryz.ntmps215
 go_wp2_with (refine wpList_load_row rfl 39 _ rfl _ rfl _ _ _ _ hH Tryz.underlying39 rfl hi ?_)
 refine (HZ.out _).mono ?_
 rintro e W1 ⟨rfl,hx⟩
 replace hH:=hH.below hx hH.lt
 replace hN:=hN.below hx hN.lt
 replace ha:=ha.trans (Apart.of_below hx)
 replace hK:=(hx.block _ (by simp; omega)).trans hK
 replace cm:W1.cell? ⟨w.heap.size,0,none⟩=some (.int .u8 84):=(cell_of_row _ _ 0 _ _ _ hK).trans rfl
 have hws:w.heap.size≤W1.heap.size:=ha.size
 clear hx ck
 go_wp2_with (refine wpList_load_row rfl 39 _ rfl _ rfl _ _ _ _ hH Tryz.underlying39 rfl hi ?_)
 refine (HO.out _).mono ?_
 clear HO hH hi
 rintro e W ⟨q,hq,rfl,hrd,hbx⟩
 have hbox:GetBox .u16 137 w p q i0 (nsK kT ok l 0) (if ok=true then some (l,1) else none) W:=by
  rw [nsK_zero]
  exact ⟨hN.below hbx hN.lt,hrd,ha.trans (Apart.of_below hbx),by omega,by omega⟩
 clear hN hrd ha hbx hK cm hq hws
 go_wp2_with fail
 refine (hbox.num 4 HTL.out).mono ?_
 clear hbox
 rintro e W1 ⟨rfl,hbox⟩
 go_wp2_with fail
 go_loopw [11,29] (fun _ i wr=>∃ j:Nat,j≤64∧i=.int .i64 j∧GetBox .u16 137 w p q i0 (nsK kT ok l j) (stK kT ok l j) wr) (fun _ i _=>64 - (intOf i).toNat)
 case atStart=>exact ⟨0,by omega,rfl,hbox⟩
 case round=>
  obtain ⟨j,hj,rfl,hbk⟩:=hrel
  clear hbox
  by_cases hlt:j < 64
  ·have hx:valK kT ok l j < 65536:=HVK.out j hlt
   have htk:=HTK.out j hlt
   have hst:=HS.out j hlt
   generalize valK kT ok l j=x at hx htk hst
   have HT:=Lib.hid htk; clear htk
   have HST:=Lib.hid hst; clear hst
   have z2:IntKind.u16.wrap (x:Int)=(x:Int):=IntWalk.u16_in _ (by omega)
   go_wp2_with (go_at_call 213; (with_reducible refine (widthT _).mono ?_); rintro e W ⟨rfl,rfl⟩)
   refine (hbk.num 2 HT.out).mono ?_
   clear hbk
   rintro e W3 ⟨rfl,hbk⟩
   have hpl:(nsK kT ok l j).length=64:=HPL.out j hj
   obtain ⟨v0,hc⟩:∃ v0,W3.cell? ⟨p,1+j,none⟩=some v0:=⟨_,hbk.pg.num j (by omega)⟩
   have hf:=hbk.pg.frozen (1+j)
   have hn:=hbk.setNum j x
   rw [HST.out] at hn
   clear hbk hpl
   go_wp2_with fail
   go_roundw
   case rel=>exact ⟨j+1,by omega,by go_num,hn⟩
   case measure=>simp [intOf]; omega
  ·obtain rfl:j=64:=by omega
   have hend:endE (stK kT ok l 64)=if b=true then 0 else 250:=HE.out
   cases b with
   | false=>
    have HE2:Hid (endE (stK kT ok l 64)=250):=Lib.hid hend
    clear hend HE HBD
    go_wp2_with fail
    refine (hbk.end_ HE2.out).mono ?_
    clear hbk
    rintro e W3 ⟨rfl,hbk⟩
    go_wp2_with fail
    go_ret
    exact ⟨rfl,hbk.pg,hbk.ap⟩
   | true=>
    have HE2:Hid (endE (stK kT ok l 64)=0):=Lib.hid hend
    clear hend HE HBD
    cases sm with
    | false=>
     go_wp2_with fail
     refine (hbk.end_ HE2.out).mono ?_
     clear hbk
     rintro e W3 ⟨rfl,hbk⟩
     go_wp2_with fail
     go_ret
     exact ⟨rfl,hbk.pg,hbk.ap⟩
    | true=>
     go_wp2_with fail
     refine (hbk.end_ HE2.out).mono ?_
     clear hbk
     rintro e W3 ⟨rfl,hbk⟩
     go_wp2_with fail
     go_ret
     exact ⟨rfl,hbk.pg,hbk.ap⟩
theorem get_anyT (l:List UInt8) (hl:l.length=256) (p i0 idx:Nat) (w:World) (hw:IsPg .u16 137 w p i0 (zs kT)) :
  Calls Tryz.prog 215 #[.agg #[.int .u8 84,.int .u32 16384],.agg (cellsOf l),.int .u32 (idx:Int),.slice (some ⟨p,1,none⟩) 64 64] w fun e w'=>e=.returned (.int .i64 (getE kT l idx))∧Got kT .u16 137 w p i0 (getE kT l idx) l w':=by
 by_cases ho:idx < kT.lim
 ·by_cases hz:l=zeros
  ·rw [show getE kT l idx=0 from getE_zero.2 ⟨ho,.inl hz⟩,hz]
   exact get_zeroT p i0 idx ho w hw
  ·obtain ⟨ok,hok⟩:∃ ok:Bool,openSt l kT.m=if ok=true then some (l,1) else none:=by
    rcases Node.openSt_cases l kT.m with h | h
    ·exact ⟨true,by rw [h]; rfl⟩
    ·exact ⟨false,by rw [h]; rfl⟩
   have hlong:=getE_long fT hl ho hz ok hok
   refine (get_coreT l hl hz ok hok p i0 idx ho w hw).mono fun e w' ⟨he,hp,ha⟩=>⟨he.trans (by rw [hlong]),⟨_,?_,hp,fun h=>?_⟩,ha⟩
   ·exact nsK_length kT ok l 64 (Nat.le_refl _)
   ·have:=getE_ok hz ok fT hl hok h
    rw [this]
    exact nsK_all kT l
 ·rw [show getE kT l idx=2 from if_neg ho]
  exact get_noT l hl p i0 idx ho w hw
theorem get_noP (l:List UInt8) (hl:l.length=256) (p i0 idx:Nat) (ho:¬ idx < kP.lim) (w:World) (hw:IsPg .u64 142 w p i0 (zs kP)) :
  Calls Tryz.prog 246 #[.agg #[.int .u8 80,.int .u32 16],.agg (cellsOf l),.int .u32 (idx:Int),.slice (some ⟨p,1,none⟩) 16 16] w fun e w'=>e=.returned (.int .i64 2)∧Got kP .u64 142 w p i0 2 l w':=by
 have hi:=sizeBlock l hl
 have hK:((w.alloc (.cells #[.int .u8 80,.int .u32 16] 263)).alloc (.cells (cellsOf l) 39)).heap[w.heap.size]? = some (.cells #[.int .u8 80,.int .u32 16] 263 (0,0)):=(Below.heap_alloc _ _ _ (by simp)).trans (heap_alloc_new w _)
 have ck:((w.alloc (.cells #[.int .u8 80,.int .u32 16] 263)).alloc (.cells (cellsOf l) 39)).cell? ⟨w.heap.size,1,none⟩=some (.int .u32 16):=(cell_of_row _ _ 1 _ _ _ hK).trans rfl
 have hH:Holds ((w.alloc (.cells #[.int .u8 80,.int .u32 16] 263)).alloc (.cells (cellsOf l) 39)) (w.heap.size+1) l:=heap_alloc2_new w _ _
 have hN:IsPg .u64 142 ((w.alloc (.cells #[.int .u8 80,.int .u32 16] 263)).alloc (.cells (cellsOf l) 39)) p i0 (zs kP):=(hw.alloc _).alloc _
 have ha:Apart p w ((w.alloc (.cells #[.int .u8 80,.int .u32 16] 263)).alloc (.cells (cellsOf l) 39)):=((Apart.refl p w).alloc _).alloc _
 have d1:(16:Int)≤(idx:Int):=by have:¬ idx < 16:=ho; omega
 clear hK ho hH hi
 go_enter Tryz.func246,Tryz.ntmps246
 go_wp2_with fail
 go_ret
 exact ⟨rfl,⟨zs kP,zs_length kP,hN,fun h=>by cases h⟩,ha⟩
theorem get_zeroP (p i0 idx:Nat) (ho:idx < kP.lim) (w:World) (hw:IsPg .u64 142 w p i0 (zs kP)) :
  Calls Tryz.prog 246 #[.agg #[.int .u8 80,.int .u32 16],.agg (cellsOf zeros),.int .u32 (idx:Int),.slice (some ⟨p,1,none⟩) 16 16] w fun e w'=>e=.returned (.int .i64 0)∧Got kP .u64 142 w p i0 0 zeros w':=by
 obtain ⟨l,hlz⟩:∃ l,l=zeros:=⟨_,rfl⟩
 have hl:l.length=256:=by rw [hlz]; exact zeros_length
 rw [←hlz]
 have hi:=sizeBlock l hl
 have hK:((w.alloc (.cells #[.int .u8 80,.int .u32 16] 263)).alloc (.cells (cellsOf l) 39)).heap[w.heap.size]? = some (.cells #[.int .u8 80,.int .u32 16] 263 (0,0)):=(Below.heap_alloc _ _ _ (by simp)).trans (heap_alloc_new w _)
 have ck:((w.alloc (.cells #[.int .u8 80,.int .u32 16] 263)).alloc (.cells (cellsOf l) 39)).cell? ⟨w.heap.size,1,none⟩=some (.int .u32 16):=(cell_of_row _ _ 1 _ _ _ hK).trans rfl
 have hH:Holds ((w.alloc (.cells #[.int .u8 80,.int .u32 16] 263)).alloc (.cells (cellsOf l) 39)) (w.heap.size+1) l:=heap_alloc2_new w _ _
 have hN:IsPg .u64 142 ((w.alloc (.cells #[.int .u8 80,.int .u32 16] 263)).alloc (.cells (cellsOf l) 39)) p i0 (zs kP):=(hw.alloc _).alloc _
 have ha:Apart p w ((w.alloc (.cells #[.int .u8 80,.int .u32 16] 263)).alloc (.cells (cellsOf l) 39)):=((Apart.refl p w).alloc _).alloc _
 have d1:¬ (16:Int)≤(idx:Int):=by have:idx < 16:=ho; omega
 have hz:=fun W=>Zero_any l hl W
 rw [decide_eq_true hlz] at hz
 have HZ:=Lib.hid hz
 have HL:=Lib.hid hlz
 clear hK ho hl hz hlz
 go_enter Tryz.func246,Tryz.ntmps246
 go_wp2_with (refine wpList_load_row rfl 39 _ rfl _ rfl _ _ _ _ hH Tryz.underlying39 rfl hi ?_)
 refine (HZ.out _).mono ?_
 rintro e W1 ⟨rfl,hx⟩
 go_wp2_with fail
 go_ret
 exact ⟨rfl,⟨zs kP,zs_length kP,hN.below hx hN.lt,fun _=>by rw [HL.out]; exact nsOf_zerosP.symm⟩,ha.trans (Apart.of_below hx)⟩
theorem get_coreP (l:List UInt8) (hl:l.length=256) (hlz:l≠zeros) (ok:Bool) (hok:openSt l 80=if ok=true then some (l,1) else none) (p i0 idx:Nat) (ho:idx < kP.lim) (w:World) (hw:IsPg .u64 142 w p i0 (zs kP)) :
  Calls Tryz.prog 246 #[.agg #[.int .u8 80,.int .u32 16],.agg (cellsOf l),.int .u32 (idx:Int),.slice (some ⟨p,1,none⟩) 16 16] w fun e w'=>e=.returned (.int .i64 (if (endsB ok l&&decide (idxK ok l=idx))=true then 0 else 250))∧IsPg .u64 142 w' p i0 (nsK kP ok l 16)∧Apart p w w':=by
 have hi:=sizeBlock l hl
 have hK:((w.alloc (.cells #[.int .u8 80,.int .u32 16] 263)).alloc (.cells (cellsOf l) 39)).heap[w.heap.size]? = some (.cells #[.int .u8 80,.int .u32 16] 263 (0,0)):=(Below.heap_alloc _ _ _ (by simp)).trans (heap_alloc_new w _)
 have ck:((w.alloc (.cells #[.int .u8 80,.int .u32 16] 263)).alloc (.cells (cellsOf l) 39)).cell? ⟨w.heap.size,1,none⟩=some (.int .u32 16):=(cell_of_row _ _ 1 _ _ _ hK).trans rfl
 have hH:Holds ((w.alloc (.cells #[.int .u8 80,.int .u32 16] 263)).alloc (.cells (cellsOf l) 39)) (w.heap.size+1) l:=heap_alloc2_new w _ _
 have hN:IsPg .u64 142 ((w.alloc (.cells #[.int .u8 80,.int .u32 16] 263)).alloc (.cells (cellsOf l) 39)) p i0 (zs kP):=(hw.alloc _).alloc _
 have ha:Apart p w ((w.alloc (.cells #[.int .u8 80,.int .u32 16] 263)).alloc (.cells (cellsOf l) 39)):=((Apart.refl p w).alloc _).alloc _
 have hpw:=hw.lt
 have hlim:idx < 16:=ho
 have d1:¬ (16:Int)≤(idx:Int):=by omega
 have hz:=fun W=>Zero_any l hl W
 rw [decide_eq_false hlz] at hz
 have hopen:=fun W=>Open_any l hl 80 W
 rw [hok] at hopen
 have HZ:=Lib.hid hz
 have HO:=Lib.hid hopen
 have hil:=idxK_lt ok l hl
 have HTL:=Lib.hid (takeIdx kP ok l)
 have HTK:=Lib.hid (takeK fP (z:=8) rfl (by decide) ok l)
 have HVK:=Lib.hid (valK_lt fP ok l hl)
 have HE:=Lib.hid (endK fP ok l)
 have HS:=Lib.hid (nsK_set kP ok l)
 have HPL:=Lib.hid (nsK_length kP ok l)
 clear hl hz hlz hopen hok ho hw
 have cm:((w.alloc (.cells #[.int .u8 80,.int .u32 16] 263)).alloc (.cells (cellsOf l) 39)).cell? ⟨w.heap.size,0,none⟩=some (.int .u8 80):=(cell_of_row _ _ 0 _ _ _ hK).trans rfl
 have z1:IntKind.u64.wrap (idx:Int)=(idx:Int):=IntWalk.u64_in _ (by omega)
 obtain ⟨sm,hsm⟩:∃ sm,sm=decide (idxK ok l=idx):=⟨_,rfl⟩
 rw [←hsm]
 obtain ⟨b,hbd⟩:∃ b,b=endsB ok l:=⟨_,rfl⟩
 rw [←hbd] at HE ⊢
 have HBD:=Lib.hid hbd
 clear hbd
 have hse:((idxK ok l:Int) == (idx:Int))=sm:=by
  rw [hsm,Bool.eq_iff_iff,decide_eq_true_eq,beq_iff_eq]
  exact ⟨fun h=>by exact_mod_cast h,fun h=>by rw [h]⟩
 clear hsm
 generalize idxK ok l=ix at hil HTL hse
 go_enter Tryz.func246,Tryz.ntmps246
 go_wp2_with (refine wpList_load_row rfl 39 _ rfl _ rfl _ _ _ _ hH Tryz.underlying39 rfl hi ?_)
 refine (HZ.out _).mono ?_
 rintro e W1 ⟨rfl,hx⟩
 replace hH:=hH.below hx hH.lt
 replace hN:=hN.below hx hN.lt
 replace ha:=ha.trans (Apart.of_below hx)
 replace hK:=(hx.block _ (by simp; omega)).trans hK
 replace cm:W1.cell? ⟨w.heap.size,0,none⟩=some (.int .u8 80):=(cell_of_row _ _ 0 _ _ _ hK).trans rfl
 have hws:w.heap.size≤W1.heap.size:=ha.size
 clear hx ck
 go_wp2_with (refine wpList_load_row rfl 39 _ rfl _ rfl _ _ _ _ hH Tryz.underlying39 rfl hi ?_)
 refine (HO.out _).mono ?_
 clear HO hH hi
 rintro e W ⟨q,hq,rfl,hrd,hbx⟩
 have hbox:GetBox .u64 142 w p q i0 (nsK kP ok l 0) (if ok=true then some (l,1) else none) W:=by
  rw [nsK_zero]
  exact ⟨hN.below hbx hN.lt,hrd,ha.trans (Apart.of_below hbx),by omega,by omega⟩
 clear hN hrd ha hbx hK cm hq hws
 go_wp2_with fail
 refine (hbox.num 4 HTL.out).mono ?_
 clear hbox
 rintro e W1 ⟨rfl,hbox⟩
 go_wp2_with fail
 go_loopw [11,29] (fun _ i wr=>∃ j:Nat,j≤16∧i=.int .i64 j∧GetBox .u64 142 w p q i0 (nsK kP ok l j) (stK kP ok l j) wr) (fun _ i _=>16 - (intOf i).toNat)
 case atStart=>exact ⟨0,by omega,rfl,hbox⟩
 case round=>
  obtain ⟨j,hj,rfl,hbk⟩:=hrel
  clear hbox
  by_cases hlt:j < 16
  ·have hx:valK kP ok l j < 18446744073709551616:=HVK.out j hlt
   have htk:=HTK.out j hlt
   have hst:=HS.out j hlt
   generalize valK kP ok l j=x at hx htk hst
   have HT:=Lib.hid htk; clear htk
   have HST:=Lib.hid hst; clear hst
   have z2:IntKind.u64.wrap (x:Int)=(x:Int):=IntWalk.u64_in _ (by omega)
   go_wp2_with (go_at_call 214; (with_reducible refine (widthP _).mono ?_); rintro e W ⟨rfl,rfl⟩)
   refine (hbk.num 8 HT.out).mono ?_
   clear hbk
   rintro e W3 ⟨rfl,hbk⟩
   have hpl:(nsK kP ok l j).length=16:=HPL.out j hj
   obtain ⟨v0,hc⟩:∃ v0,W3.cell? ⟨p,1+j,none⟩=some v0:=⟨_,hbk.pg.num j (by omega)⟩
   have hf:=hbk.pg.frozen (1+j)
   have hn:=hbk.setNum j x
   rw [HST.out] at hn
   clear hbk hpl
   go_wp2_with fail
   go_roundw
   case rel=>exact ⟨j+1,by omega,by go_num,hn⟩
   case measure=>simp [intOf]; omega
  ·obtain rfl:j=16:=by omega
   have hend:endE (stK kP ok l 16)=if b=true then 0 else 250:=HE.out
   cases b with
   | false=>
    have HE2:Hid (endE (stK kP ok l 16)=250):=Lib.hid hend
    clear hend HE HBD
    go_wp2_with fail
    refine (hbk.end_ HE2.out).mono ?_
    clear hbk
    rintro e W3 ⟨rfl,hbk⟩
    go_wp2_with fail
    go_ret
    exact ⟨rfl,hbk.pg,hbk.ap⟩
   | true=>
    have HE2:Hid (endE (stK kP ok l 16)=0):=Lib.hid hend
    clear hend HE HBD
    cases sm with
    | false=>
     go_wp2_with fail
     refine (hbk.end_ HE2.out).mono ?_
     clear hbk
     rintro e W3 ⟨rfl,hbk⟩
     go_wp2_with fail
     go_ret
     exact ⟨rfl,hbk.pg,hbk.ap⟩
    | true=>
     go_wp2_with fail
     refine (hbk.end_ HE2.out).mono ?_
     clear hbk
     rintro e W3 ⟨rfl,hbk⟩
     go_wp2_with fail
     go_ret
     exact ⟨rfl,hbk.pg,hbk.ap⟩
theorem get_anyP (l:List UInt8) (hl:l.length=256) (p i0 idx:Nat) (w:World) (hw:IsPg .u64 142 w p i0 (zs kP)) :
  Calls Tryz.prog 246 #[.agg #[.int .u8 80,.int .u32 16],.agg (cellsOf l),.int .u32 (idx:Int),.slice (some ⟨p,1,none⟩) 16 16] w fun e w'=>e=.returned (.int .i64 (getE kP l idx))∧Got kP .u64 142 w p i0 (getE kP l idx) l w':=by
 by_cases ho:idx < kP.lim
 ·by_cases hz:l=zeros
  ·rw [show getE kP l idx=0 from getE_zero.2 ⟨ho,.inl hz⟩,hz]
   exact get_zeroP p i0 idx ho w hw
  ·obtain ⟨ok,hok⟩:∃ ok:Bool,openSt l kP.m=if ok=true then some (l,1) else none:=by
    rcases Node.openSt_cases l kP.m with h | h
    ·exact ⟨true,by rw [h]; rfl⟩
    ·exact ⟨false,by rw [h]; rfl⟩
   have hlong:=getE_long fP hl ho hz ok hok
   refine (get_coreP l hl hz ok hok p i0 idx ho w hw).mono fun e w' ⟨he,hp,ha⟩=>⟨he.trans (by rw [hlong]),⟨_,?_,hp,fun h=>?_⟩,ha⟩
   ·exact nsK_length kP ok l 16 (Nat.le_refl _)
   ·have:=getE_ok hz ok fP hl hok h
    rw [this]
    exact nsK_all kP l
 ·rw [show getE kP l idx=2 from if_neg ho]
  exact get_noP l hl p i0 idx ho w hw
end Tal
namespace Tal
open Go.RowKit RowLaw Crc Fld
theorem Kept.turn {w W W': World} {K: List (Nat×Obj)} {q: Nat} {o o': Obj} (h: Kept w ((q,o)::K) W) (ha: Apart q W W') (hne: ∀ x∈K,x.1≠q) (hq: W'.heap[q]? = some o'): Kept w ((q,o')::K) W':=by
 have h0:=h.has _ List.mem_cons_self
 refine ⟨h.bel.trans (ha.below h0.1 h.bel.size),fun x hx=>?_⟩
 rcases List.mem_cons.1 hx with rfl | hx
 ·exact ⟨h0.1,hq⟩
 ·have h1:=h.has x (List.mem_cons_of_mem _ hx)
  exact ⟨h1.1,(ha.block _ (Array.getElem?_eq_some_iff.1 h1.2).1 (hne x hx)).trans h1.2⟩
theorem Get_anyT (l:List UInt8) (hl:l.length=256) (idx:Nat) (w:World) :
  Calls Tryz.prog 163 #[.agg (cellsOf l),.int .u32 (idx:Int)] w fun e w'=>e=.returned (.tuple #[.agg (pgCells .u16 (getI kT l idx) (getNs kT l idx)),.int .i64 (getE kT l idx)])∧Below w.heap.size w w':=by
 have hzv:=(zero_of_info infoT).1
 have hi:=sizeBlock l hl
 have hi0:=sizeT 0 (zs kT) (zs_length kT)
 have hi1:=sizeT idx (zs kT) (zs_length kT)
 have hsz:(pgCells .u16 0 (zs kT)).size=(pgCells .u16 idx (zs kT)).size:=by rw [pgCells_size,pgCells_size]
 have hne:∀ x∈[(w.heap.size+1,Obj.cells (pgCells .u16 0 (zs kT)) 137),(w.heap.size,Obj.cells (cellsOf l) 39)],x.1≠w.heap.size+1+1:=by simp; omega
 have hk0:Kept w [(w.heap.size+1+1,Obj.cells (pgCells .u16 0 (zs kT)) 137),(w.heap.size+1,Obj.cells (pgCells .u16 0 (zs kT)) 137),(w.heap.size,Obj.cells (cellsOf l) 39)] (((w.alloc (Obj.cells (cellsOf l) 39)).alloc (Obj.cells (pgCells .u16 0 (zs kT)) 137)).alloc (Obj.cells (pgCells .u16 0 (zs kT)) 137)):=by
  have h:=(((Kept.start w).alloc (Obj.cells (cellsOf l) 39)).alloc (Obj.cells (pgCells .u16 0 (zs kT)) 137)).alloc (Obj.cells (pgCells .u16 0 (zs kT)) 137)
  rwa [show (w.alloc (Obj.cells (cellsOf l) 39)).heap.size=w.heap.size+1 from by simp,show ((w.alloc (Obj.cells (cellsOf l) 39)).alloc (Obj.cells (pgCells .u16 0 (zs kT)) 137)).heap.size=w.heap.size+1+1 from by simp] at h
 have hk:=hk0.setRow (cs':=pgCells .u16 idx (zs kT)) hne
 have hP0:=hk0.at_ List.mem_cons_self
 clear hk0
 have hset:=pgCells_setIdx (K:=.u16) 0 idx (zs kT)
 have hget:=fun W (hW:IsPg .u16 137 W (w.heap.size+1+1) idx (zs kT))=>get_anyT l hl (w.heap.size+1+1) idx idx W hW
 have hcs:=getE_cases kT l idx
 have HI:=Lib.hid (show getI kT l idx=if getE kT l idx=0 then idx else 0 from rfl)
 have HNS:=Lib.hid (show getNs kT l idx=if getE kT l idx=0 then nsOf kT l else zs kT from rfl)
 generalize getI kT l idx=gi at HI ⊢
 generalize getNs kT l idx=gn at HNS ⊢
 generalize getE kT l idx=E at HI HNS hget hcs ⊢
 have HGT:=Lib.hid hget
 have HC:=Lib.hid hcs
 clear hget hcs hl
 have tok:True:=trivial
 go_enter Tryz.func163,Tryz.ntmps163
 go_wp2_with (have _t:=tok; refine wpList_store_row rfl 137 _ _ rfl _ _ rfl rfl _ _ hP0 hi1 hsz (pgCells_one _ _) ?_; clear _t tok hP0; generalize ((((w.alloc (Obj.cells (cellsOf l) 39)).alloc (Obj.cells (pgCells .u16 0 (zs kT)) 137)).alloc (Obj.cells (pgCells .u16 0 (zs kT)) 137))).setRow (w.heap.size+1+1) (pgCells .u16 idx (zs kT))=W0 at hk ⊢)
 have hrw:w.heap.size≤w.heap.size+1:=by omega
 have hrb:w.heap.size+1≠w.heap.size+1+1:=by omega
 generalize w.heap.size+1+1=p at hk hne HGT hrb ⊢
 generalize hrd:w.heap.size+1=r at hk hne hrb hrw ⊢
 clear hrd hset
 obtain ⟨b,hb⟩:∃ b,b=w.heap.size:=⟨_,rfl⟩
 rw [←hb] at hk hne ⊢
 clear hb
 refine wp_region_noPanic ?_
 refine wp_region_held_drew (S:=fun W=>Kept w [(r,Obj.cells (pgCells .u16 0 (zs kT)) 137),(b,Obj.cells (cellsOf l) 39)] W) (by kernel_rfl) (hk.less (fun x hx=>List.mem_cons_of_mem _ hx)).drew ?_
 intro hS
 replace hk:=hk.drew
 generalize W0.drew=W1 at hk hS ⊢
 refine RowLaw.tkV 0 10 (.agg #[.int .u8 84,.int .u32 16384]) hS ?_
 simp only [RowLaw.lset]
 refine RowLaw.tkV 1 11 (.agg (cellsOf l)) hS ?_ (hy:=(yieldsIf_load_row (by rfl) 39 _ rfl b rfl _ _ _ _ (fun W hW=>hW.at_ (List.mem_cons_of_mem _ List.mem_cons_self)) Tryz.underlying39 rfl hi))
 simp only [RowLaw.lset]
 refine RowLaw.tkV 2 12 (.int .u32 (idx:Int)) hS ?_
 simp only [RowLaw.lset]
 refine RowLaw.tkV 3 13 (.pointer (some ⟨p,1,none⟩)) hS ?_
 simp only [RowLaw.lset]
 refine RowLaw.tkV 4 14 (.slice (some ⟨p,1,none⟩) 64 64) hS ?_
 simp only [RowLaw.lset]
 refine wpAnyH_ready (rs:=[5]) (by kernel_rfl) (by simp) ?_
 refine AllReadyH.cons rfl (fun K hK=>?_) AllReadyH.nil
 rw [if_pos (by rfl)]
 go_simp
 refine (HGT.out W1 (hk.at_ List.mem_cons_self)).mono ?_
 rintro e W2 ⟨rfl,⟨ns,hns,hpg,hE⟩,ha⟩
 replace hk:=Kept.turn hk ha hne hpg
 replace hS:=hk.less (K':=[(r,Obj.cells (pgCells .u16 0 (zs kT)) 137),(b,Obj.cells (cellsOf l) 39)]) (fun x hx=>List.mem_cons_of_mem _ hx)
 clear ha hpg
 dsimp only
 refine hK.out _ _ hS (fun hS=>?_)
 clear hK K
 refine RowLaw.tkV 6 7 (.int .i64 E) hS ?_
 simp only [RowLaw.lset]
 refine wpAnyH_done (by kernel_rfl) ?_ _
 refine NoPanic.normal ?_
 have hR:=hk.at_ (q:=r) (o:=Obj.cells (pgCells .u16 0 (zs kT)) 137) (by simp)
 have hP:=hk.at_ List.mem_cons_self
 rcases HC.out with h | h | h
 ·subst h
  have e:=hE rfl
  rw [e] at hP hns
  have hi2:=sizeT idx (nsOf kT l) hns
  have hs2:(pgCells .u16 0 (zs kT)).size=(pgCells .u16 idx (nsOf kT l)).size:=by rw [pgCells_size,pgCells_size,zs_length,hns]
  clear hE e
  go_wp2_with (first | (refine wpList_load_row rfl 137 _ rfl _ rfl _ _ _ _ hP Tryz.underlying137 rfl hi2 ?_) | (refine wpList_store_row rfl 137 _ _ rfl _ _ rfl rfl _ _ hR hi2 hs2 (pgCells_one _ _) ?_))
  exact bodyPost_ret (results_row_tmp rfl _ _ _ _ _ _ _ rfl (setRow_heap _ _ _ _ _ _ hR) Tryz.underlying137 rfl hi2) rfl ⟨by rw [HI.out,HNS.out]; rfl,below_row hk.bel hrw⟩
 ·subst h
  go_wp2_with (refine wpList_store_row rfl 137 _ _ rfl _ _ rfl rfl _ _ hR hi0 rfl (pgCells_one _ _) ?_)
  exact bodyPost_ret (results_row_tmp rfl _ _ _ _ _ _ _ rfl (setRow_heap _ _ _ _ _ _ hR) Tryz.underlying137 rfl hi0) rfl ⟨by rw [HI.out,HNS.out]; rfl,below_row hk.bel hrw⟩
 ·subst h
  go_wp2_with (refine wpList_store_row rfl 137 _ _ rfl _ _ rfl rfl _ _ hR hi0 rfl (pgCells_one _ _) ?_)
  exact bodyPost_ret (results_row_tmp rfl _ _ _ _ _ _ _ rfl (setRow_heap _ _ _ _ _ _ hR) Tryz.underlying137 rfl hi0) rfl ⟨by rw [HI.out,HNS.out]; rfl,below_row hk.bel hrw⟩
theorem Get_anyP (l:List UInt8) (hl:l.length=256) (idx:Nat) (w:World) :
  Calls Tryz.prog 211 #[.agg (cellsOf l),.int .u32 (idx:Int)] w fun e w'=>e=.returned (.tuple #[.agg (pgCells .u64 (getI kP l idx) (getNs kP l idx)),.int .i64 (getE kP l idx)])∧Below w.heap.size w w':=by
 have hzv:=(zero_of_info infoP).1
 have hi:=sizeBlock l hl
 have hi0:=sizeP 0 (zs kP) (zs_length kP)
 have hi1:=sizeP idx (zs kP) (zs_length kP)
 have hsz:(pgCells .u64 0 (zs kP)).size=(pgCells .u64 idx (zs kP)).size:=by rw [pgCells_size,pgCells_size]
 have hne:∀ x∈[(w.heap.size+1,Obj.cells (pgCells .u64 0 (zs kP)) 142),(w.heap.size,Obj.cells (cellsOf l) 39)],x.1≠w.heap.size+1+1:=by simp; omega
 have hk0:Kept w [(w.heap.size+1+1,Obj.cells (pgCells .u64 0 (zs kP)) 142),(w.heap.size+1,Obj.cells (pgCells .u64 0 (zs kP)) 142),(w.heap.size,Obj.cells (cellsOf l) 39)] (((w.alloc (Obj.cells (cellsOf l) 39)).alloc (Obj.cells (pgCells .u64 0 (zs kP)) 142)).alloc (Obj.cells (pgCells .u64 0 (zs kP)) 142)):=by
  have h:=(((Kept.start w).alloc (Obj.cells (cellsOf l) 39)).alloc (Obj.cells (pgCells .u64 0 (zs kP)) 142)).alloc (Obj.cells (pgCells .u64 0 (zs kP)) 142)
  rwa [show (w.alloc (Obj.cells (cellsOf l) 39)).heap.size=w.heap.size+1 from by simp,show ((w.alloc (Obj.cells (cellsOf l) 39)).alloc (Obj.cells (pgCells .u64 0 (zs kP)) 142)).heap.size=w.heap.size+1+1 from by simp] at h
 have hk:=hk0.setRow (cs':=pgCells .u64 idx (zs kP)) hne
 have hP0:=hk0.at_ List.mem_cons_self
 clear hk0
 have hset:=pgCells_setIdx (K:=.u64) 0 idx (zs kP)
 have hget:=fun W (hW:IsPg .u64 142 W (w.heap.size+1+1) idx (zs kP))=>get_anyP l hl (w.heap.size+1+1) idx idx W hW
 have hcs:=getE_cases kP l idx
 have HI:=Lib.hid (show getI kP l idx=if getE kP l idx=0 then idx else 0 from rfl)
 have HNS:=Lib.hid (show getNs kP l idx=if getE kP l idx=0 then nsOf kP l else zs kP from rfl)
 generalize getI kP l idx=gi at HI ⊢
 generalize getNs kP l idx=gn at HNS ⊢
 generalize getE kP l idx=E at HI HNS hget hcs ⊢
 have HGT:=Lib.hid hget
 have HC:=Lib.hid hcs
 clear hget hcs hl
 have tok:True:=trivial
 go_enter Tryz.func211,Tryz.ntmps211
 go_wp2_with (have _t:=tok; refine wpList_store_row rfl 142 _ _ rfl _ _ rfl rfl _ _ hP0 hi1 hsz (pgCells_one _ _) ?_; clear _t tok hP0; generalize ((((w.alloc (Obj.cells (cellsOf l) 39)).alloc (Obj.cells (pgCells .u64 0 (zs kP)) 142)).alloc (Obj.cells (pgCells .u64 0 (zs kP)) 142))).setRow (w.heap.size+1+1) (pgCells .u64 idx (zs kP))=W0 at hk ⊢)
 have hrw:w.heap.size≤w.heap.size+1:=by omega
 have hrb:w.heap.size+1≠w.heap.size+1+1:=by omega
 generalize w.heap.size+1+1=p at hk hne HGT hrb ⊢
 generalize hrd:w.heap.size+1=r at hk hne hrb hrw ⊢
 clear hrd hset
 obtain ⟨b,hb⟩:∃ b,b=w.heap.size:=⟨_,rfl⟩
 rw [←hb] at hk hne ⊢
 clear hb
 refine wp_region_noPanic ?_
 refine wp_region_held_drew (S:=fun W=>Kept w [(r,Obj.cells (pgCells .u64 0 (zs kP)) 142),(b,Obj.cells (cellsOf l) 39)] W) (by kernel_rfl) (hk.less (fun x hx=>List.mem_cons_of_mem _ hx)).drew ?_
 intro hS
 replace hk:=hk.drew
 generalize W0.drew=W1 at hk hS ⊢
 refine RowLaw.tkV 0 10 (.agg #[.int .u8 80,.int .u32 16]) hS ?_
 simp only [RowLaw.lset]
 refine RowLaw.tkV 1 11 (.agg (cellsOf l)) hS ?_ (hy:=(yieldsIf_load_row (by rfl) 39 _ rfl b rfl _ _ _ _ (fun W hW=>hW.at_ (List.mem_cons_of_mem _ List.mem_cons_self)) Tryz.underlying39 rfl hi))
 simp only [RowLaw.lset]
 refine RowLaw.tkV 2 12 (.int .u32 (idx:Int)) hS ?_
 simp only [RowLaw.lset]
 refine RowLaw.tkV 3 13 (.pointer (some ⟨p,1,none⟩)) hS ?_
 simp only [RowLaw.lset]
 refine RowLaw.tkV 4 14 (.slice (some ⟨p,1,none⟩) 16 16) hS ?_
 simp only [RowLaw.lset]
 refine wpAnyH_ready (rs:=[5]) (by kernel_rfl) (by simp) ?_
 refine AllReadyH.cons rfl (fun K hK=>?_) AllReadyH.nil
 rw [if_pos (by rfl)]
 go_simp
 refine (HGT.out W1 (hk.at_ List.mem_cons_self)).mono ?_
 rintro e W2 ⟨rfl,⟨ns,hns,hpg,hE⟩,ha⟩
 replace hk:=Kept.turn hk ha hne hpg
 replace hS:=hk.less (K':=[(r,Obj.cells (pgCells .u64 0 (zs kP)) 142),(b,Obj.cells (cellsOf l) 39)]) (fun x hx=>List.mem_cons_of_mem _ hx)
 clear ha hpg
 dsimp only
 refine hK.out _ _ hS (fun hS=>?_)
 clear hK K
 refine RowLaw.tkV 6 7 (.int .i64 E) hS ?_
 simp only [RowLaw.lset]
 refine wpAnyH_done (by kernel_rfl) ?_ _
 refine NoPanic.normal ?_
 have hR:=hk.at_ (q:=r) (o:=Obj.cells (pgCells .u64 0 (zs kP)) 142) (by simp)
 have hP:=hk.at_ List.mem_cons_self
 rcases HC.out with h | h | h
 ·subst h
  have e:=hE rfl
  rw [e] at hP hns
  have hi2:=sizeP idx (nsOf kP l) hns
  have hs2:(pgCells .u64 0 (zs kP)).size=(pgCells .u64 idx (nsOf kP l)).size:=by rw [pgCells_size,pgCells_size,zs_length,hns]
  clear hE e
  go_wp2_with (first | (refine wpList_load_row rfl 142 _ rfl _ rfl _ _ _ _ hP Tryz.underlying142 rfl hi2 ?_) | (refine wpList_store_row rfl 142 _ _ rfl _ _ rfl rfl _ _ hR hi2 hs2 (pgCells_one _ _) ?_))
  exact bodyPost_ret (results_row_tmp rfl _ _ _ _ _ _ _ rfl (setRow_heap _ _ _ _ _ _ hR) Tryz.underlying142 rfl hi2) rfl ⟨by rw [HI.out,HNS.out]; rfl,below_row hk.bel hrw⟩
 ·subst h
  go_wp2_with (refine wpList_store_row rfl 142 _ _ rfl _ _ rfl rfl _ _ hR hi0 rfl (pgCells_one _ _) ?_)
  exact bodyPost_ret (results_row_tmp rfl _ _ _ _ _ _ _ rfl (setRow_heap _ _ _ _ _ _ hR) Tryz.underlying142 rfl hi0) rfl ⟨by rw [HI.out,HNS.out]; rfl,below_row hk.bel hrw⟩
 ·subst h
  go_wp2_with (refine wpList_store_row rfl 142 _ _ rfl _ _ rfl rfl _ _ hR hi0 rfl (pgCells_one _ _) ?_)
  exact bodyPost_ret (results_row_tmp rfl _ _ _ _ _ _ _ rfl (setRow_heap _ _ _ _ _ _ hR) Tryz.underlying142 rfl hi0) rfl ⟨by rw [HI.out,HNS.out]; rfl,below_row hk.bel hrw⟩
end Tal

end Go.Proofs.YtgkbfahflngklaaGreat
