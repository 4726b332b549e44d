import Derived.Test.YtgkbfahflngklaaGreatCrc1
import Derived.Test.YtgkbfahflngklaaGreatRows
import Derived.WalkKit
import Derived.WalkSpells
import Derived.WalkLawsBesides
import Derived.Deep.WholeRow
import Derived.Deep.MidRow
import Derived.Lib.Hide
import Derived.Test.YtgkbfahflngklaaGreatBlk
set_option maxRecDepth 100000
set_option maxHeartbeats 800000
namespace Go.Proofs.YtgkbfahflngklaaGreat
namespace Crc
open Go.RowKit
def wd (n:Int):BitVec 32:=BitVec.ofInt 32 n
theorem wd_nat (n:Nat) (h:n < 4294967296):(wd (n:Int)).toNat=n:=ofInt_u32 n h
theorem wd_toNat (x:BitVec 32):wd (x.toNat:Int)=x:=by
 unfold wd; rw [BitVec.ofInt_natCast,BitVec.ofNat_toNat,BitVec.setWidth_eq]
theorem msb_wd (n:Nat) (h:n < 4294967296):(wd (n:Int)).msb=decide (2147483648≤n):=by
 rw [BitVec.msb_eq_decide,wd_nat n h]
theorem shl_wd (n:Nat) (h:n < 4294967296):((wd (n:Int)) <<< 1).toNat=n * 2 % 4294967296:=by
 rw [BitVec.toNat_shiftLeft,wd_nat n h,Nat.shiftLeft_eq]
theorem xor_wd (n:Nat) (h:n < 4294967296):bits .xor .u32 ((n:Int) * 2 % 4294967296) 79764919=(((wd (n:Int)) <<< 1 ^^^ 0x04c11db7#32).toNat:Int):=by
 rw [BitVec.toNat_xor,shl_wd n h]
 have:=u32_xor_nat (n * 2 % 4294967296) 79764919 (by omega) (by omega)
 exact this
theorem sh_hi (x:Int) (h0:0≤x) (h1:x < 4294967296) (h:(x / 2147483648 == 1)=true):bits .xor .u32 (x * 2 % 4294967296) 79764919=((sh (wd x)).toNat:Int):=by
 obtain ⟨n,rfl⟩:=Int.eq_ofNat_of_zero_le h0
 have hn:2147483648≤n:=by simp at h; omega
 unfold sh
 rw [msb_wd n (by omega),if_pos (by simpa using hn),xor_wd n (by omega)]
theorem sh_lo (x:Int) (h0:0≤x) (h1:x < 4294967296) (h:(x / 2147483648 == 1)=false):x * 2 % 4294967296=((sh (wd x)).toNat:Int):=by
 obtain ⟨n,rfl⟩:=Int.eq_ofNat_of_zero_le h0
 have hn:¬ 2147483648≤n:=by simp at h; omega
 unfold sh
 rw [msb_wd n (by omega),if_neg (by simpa using hn),shl_wd n (by omega)]
 omega
theorem stp_yes (x:Int) (h0:0≤x) (h1:x < 4294967296) (b:Bool) (h:(decide (2147483648≤x) == b)=false):bits .xor .u32 (x * 2 % 4294967296) 79764919=((stp (wd x) b).toNat:Int):=by
 obtain ⟨n,rfl⟩:=Int.eq_ofNat_of_zero_le h0
 have e:decide ((2147483648:Int)≤(n:Int))=decide (2147483648≤n):=by congr 1; simp; omega
 rw [e] at h
 unfold stp
 rw [msb_wd n (by omega),bne,h,if_pos (by decide),xor_wd n (by omega)]
theorem stp_no (x:Int) (h0:0≤x) (h1:x < 4294967296) (b:Bool) (h:(decide (2147483648≤x) == b)=true):x * 2 % 4294967296=((stp (wd x) b).toNat:Int):=by
 obtain ⟨n,rfl⟩:=Int.eq_ofNat_of_zero_le h0
 have e:decide ((2147483648:Int)≤(n:Int))=decide (2147483648≤n):=by congr 1; simp; omega
 rw [e] at h
 unfold stp
 rw [msb_wd n (by omega),bne,h,if_neg (by decide),shl_wd n (by omega)]
 omega
theorem ret_u32 {a b:Int} (h:a=b):Ending.returned (.int .u32 a)=.returned (.int .u32 b):=by rw [h]
theorem shift_any (x:Int) (h0:0≤x) (h1:x < 4294967296) (w:World) :
  Calls Tryz.prog 282 #[.int .u32 x] w fun e w'=>e=.returned (.int .u32 ((sh (wd x)).toNat:Int))∧w=w':=by
 go_enter Tryz.func282,Tryz.ntmps282
 go_wp2
 ·go_ret
  exact ⟨ret_u32 (sh_hi x h0 h1 ‹_›),rfl⟩
 ·go_ret
  exact ⟨ret_u32 (sh_lo x h0 h1 ‹_›),rfl⟩
theorem step_one (x:Int) (h0:0≤x) (h1:x < 4294967296) (w:World) :
  Calls Tryz.prog 274 #[.int .u32 x,.int .u8 1] w fun e w'=>e=.returned (.int .u32 ((stp (wd x) true).toNat:Int))∧w=w':=by
 by_cases hx:2147483648≤x
 ·go_enter Tryz.func274,Tryz.ntmps274
  go_wp2
  go_ret
  exact ⟨ret_u32 (stp_no x h0 h1 true (by simp [hx])),rfl⟩
 ·go_enter Tryz.func274,Tryz.ntmps274
  go_wp2
  go_ret
  refine ⟨ret_u32 ?_,rfl⟩
  have h2:=stp_yes x h0 h1 true (by simp [hx])
  rw [show x * 2 % 4294967296=x * 2 from by omega] at h2
  exact h2
theorem step_zero (x:Int) (h0:0≤x) (h1:x < 4294967296) (w:World) :
  Calls Tryz.prog 274 #[.int .u32 x,.int .u8 0] w fun e w'=>e=.returned (.int .u32 ((stp (wd x) false).toNat:Int))∧w=w':=by
 by_cases hx:2147483648≤x
 ·go_enter Tryz.func274,Tryz.ntmps274
  go_wp2
  go_ret
  exact ⟨ret_u32 (stp_yes x h0 h1 false (by simp [hx])),rfl⟩
 ·go_enter Tryz.func274,Tryz.ntmps274
  go_wp2
  go_ret
  refine ⟨ret_u32 ?_,rfl⟩
  have h2:=stp_no x h0 h1 false (by simp [hx])
  rw [show x * 2 % 4294967296=x * 2 from by omega] at h2
  exact h2
theorem step_any (x:Int) (h0:0≤x) (h1:x < 4294967296) (y:Int) (hy:y=0∨y=1) (w:World) :
  Calls Tryz.prog 274 #[.int .u32 x,.int .u8 y] w fun e w'=>e=.returned (.int .u32 ((stp (wd x) (y == 1)).toNat:Int))∧w=w':=by
 rcases hy with rfl | rfl
 ·exact step_zero x h0 h1 w
 ·exact step_one x h0 h1 w
end Crc
namespace Crc
open Go.RowKit
def shN (i:Nat):Nat→BitVec 32
 | 0=>BitVec.ofNat 32 i <<< 28
 | k+1=>sh (shN i k)
theorem shN_four (i:Nat):shN i 4=tab i:=rfl
def tcells (k:Nat):Array Value:=((List.range 16).map fun j=>if j < k then Value.int .u32 ((tab j).toNat:Int) else Value.int .u32 0).toArray
theorem tcells_size (k:Nat):(tcells k).size=16:=by simp [tcells]
theorem tcells_zero:tcells 0=#[Value.int .u32 0,Value.int .u32 0,Value.int .u32 0,Value.int .u32 0,Value.int .u32 0,Value.int .u32 0,Value.int .u32 0,Value.int .u32 0,Value.int .u32 0,Value.int .u32 0,Value.int .u32 0,Value.int .u32 0,Value.int .u32 0,Value.int .u32 0,Value.int .u32 0,Value.int .u32 0]:=by rfl
theorem tcells_set (k:Nat) (h:k < 16):(tcells k).setIfInBounds k (Value.int .u32 ((tab k).toNat:Int))=tcells (k+1):=by
 apply Array.ext_getElem?
 intro i
 rw [Array.getElem?_setIfInBounds]
 by_cases hi:k=i
 ·subst hi
  simp [tcells,h]
 ·simp only [hi,if_false]
  by_cases h16:i < 16
  ·simp [tcells,h16]
   by_cases h1:i < k
   ·have h2:i < k+1:=by omega
    simp [h1,h2]
   ·have h2:¬ i < k+1:=by omega
    simp [h1,h2]
  ·rw [Array.getElem?_eq_none (by rw [tcells_size]; omega),Array.getElem?_eq_none (by rw [tcells_size]; omega)]
theorem shN_zero (k:Nat) (h:k < 16):(k:Int) * 268435456=((shN k 0).toNat:Int):=by
 unfold shN
 rw [BitVec.toNat_shiftLeft,BitVec.toNat_ofNat,Nat.shiftLeft_eq]
 omega
theorem table_any (w:World) :
  Calls Tryz.prog 275 #[] w fun e w'=>e=.returned (.agg (tcells 16))∧Below w.heap.size w w':=by
 go_enter Tryz.func275,Tryz.ntmps275
 go_wp2
 rw [←tcells_zero]
 go_loopw [4] (fun i wr=>∃ k:Nat,k≤16∧i=.int .i64 k∧wr=(w.alloc (.cells (tcells 0) 394)).alloc (.cells (tcells k) 394)) (fun i _=>16 - (intOf i).toNat)
 case atStart=>exact ⟨0,by omega,rfl,rfl⟩
 case round=>
  obtain ⟨k,hk,rfl,rfl⟩:=hrel
  have hs:=tcells_size k
  by_cases hlt:k < 16
  ·have hd:decide ((k:Int) < 16)=true:=by simp; omega
   go_wp2_with fail
   rw [shN_zero k hlt]
   go_loop [3,10] (fun v j=>∃ m:Nat,m≤4∧j=.int .i64 m∧v=.int .u32 ((shN k m).toNat:Int)) (fun _ j=>4 - (intOf j).toNat)
   case atStart=>exact ⟨0,by omega,rfl,rfl⟩
   case round=>
    obtain ⟨m,hm,rfl,rfl⟩:=hrel
    have hb:=(shN k m).isLt
    by_cases hl2:m < 4
    ·go_wp2_with (go_at_call 282; refine (shift_any _ (by omega) (by omega) _).mono ?_; rintro e w' ⟨rfl,rfl⟩)
     go_round
     case rel=>exact ⟨m+1,by omega,by go_num,by rw [wd_toNat]; rfl⟩
     case measure=>simp [intOf]; omega
    ·obtain rfl:m=4:=by omega
     rw [shN_four]
     go_wp2_with fail
     go_roundw
     case rel=>exact ⟨k+1,by omega,by go_num,by rw [tcells_set k hlt]⟩
     case measure=>simp [intOf]; omega
  ·obtain rfl:k=16:=by omega
   have h1:((w.alloc (.cells (tcells 0) 394)).alloc (.cells (tcells 16) 394)).heap[w.heap.size+1]? = some (.cells (tcells 16) 394 (0,0)):=heap_alloc2_new w _ _
   have h0:((w.alloc (.cells (tcells 0) 394)).alloc (.cells (tcells 16) 394)).heap[w.heap.size]? = some (.cells (tcells 0) 394 (0,0)):=heap_alloc2_old w _ _
   have hb:Below w.heap.size w ((w.alloc (.cells (tcells 0) 394)).alloc (.cells (tcells 16) 394)):=((Below.refl _ _).alloc (Nat.le_refl _) _).alloc (by simp) _
   have hz:(tcells 0).size=(tcells 16).size:=by rw [tcells_size,tcells_size]
   have h1c:(tcells 16).all (·.oneCell')=true:=by decide +kernel
   have hi:(Tryz.prog.info? 394).map (·.size)=some (tcells 16).size:=by rw [tcells_size]; kernel_rfl
   generalize (w.alloc (.cells (tcells 0) 394)).alloc (.cells (tcells 16) 394)=W at *
   go_wp2_with (first | (with_reducible refine wpList_load_row rfl 394 _ rfl _ rfl _ _ _ _ h1 Tryz.underlying394 rfl hi ?_) | (with_reducible refine wpList_store_row rfl 394 _ _ rfl _ _ rfl rfl _ _ h0 hi hz h1c ?_))
   refine bodyPost_ret (v:=.agg (tcells 16)) ?_ rfl ⟨rfl,?_⟩
   ·exact results_cell_row rfl _ _ _ _ _ _ _ rfl (setRow_heap W _ _ _ _ _ h0) Tryz.underlying394 rfl hi
   ·exact Below.trans hb ⟨rfl,rfl,rfl,by simp,fun k hk=>setRow_other W _ _ _ (by omega)⟩
end Crc
namespace Crc
open Go.RowKit RowLaw
theorem tcells_get (j:Nat) (h:j < 16):(tcells 16)[j]? = some (.int .u32 ((tab j).toNat:Int)):=by
 simp [tcells,h]
theorem nib_w (x:BitVec 32) (n:Nat) (hn:n < 16):∃ i:Nat,i < 16∧bits .xor .u32 ((x.toNat:Int) / 268435456) (n:Int)=(i:Int)∧
  bits .xor .u32 ((x.toNat:Int) * 16 % 4294967296) ((tab i).toNat:Int)=((nib x n).toNat:Int):=by
 have hx:=x.isLt
 have e:(x >>> 28).toNat=x.toNat / 268435456:=by rw [BitVec.toNat_ushiftRight,Nat.shiftRight_eq_div_pow]
 have hi:(x >>> 28).toNat ^^^ n < 16:=Nat.xor_lt_two_pow (n:=4) (by rw [e]; omega) hn
 refine ⟨(x >>> 28).toNat ^^^ n,hi,?_,?_⟩
 ·rw [e]
  have:=u32_xor_nat (x.toNat / 268435456) n (by omega) (by omega)
  rw [←this]; rfl
 ·have ht:=(tab ((x >>> 28).toNat ^^^ n)).isLt
  unfold nib
  rw [BitVec.toNat_xor,BitVec.toNat_shiftLeft,Nat.shiftLeft_eq]
  have:=u32_xor_nat (x.toNat * 2 ^ 4 % 2 ^ 32) (tab ((x >>> 28).toNat ^^^ n)).toNat (by omega) (by omega)
  rw [←this]; rfl
theorem and15 (u:UInt8):bits .and .u8 (u.toNat:Int) 15=((u.toNat &&& 15:Nat):Int):=u8_and_nat u.toNat 15 u.toNat_lt (by omega)
theorem byte_w (x:BitVec 32) (u:UInt8):∃ (i j m:Nat) (y:BitVec 32),i < 16∧j < 16∧m < 16∧
  bits .xor .u32 ((x.toNat:Int) / 268435456) ((u.toNat:Int) / 16)=(i:Int)∧bits .xor .u32 ((x.toNat:Int) * 16 % 4294967296) ((tab i).toNat:Int)=(y.toNat:Int)∧
  bits .and .u8 (u.toNat:Int) 15=(m:Int)∧bits .xor .u32 ((y.toNat:Int) / 268435456) (m:Int)=(j:Int)∧
  bits .xor .u32 ((y.toNat:Int) * 16 % 4294967296) ((tab j).toNat:Int)=((byteStep x u).toNat:Int):=by
 have hu:=u.toNat_lt
 have hm:u.toNat &&& 15 < 16:=by have:=Nat.and_le_right (n:=u.toNat) (m:=15); omega
 obtain ⟨i,hi,e1,f1⟩:=nib_w x (u.toNat / 16) (by omega)
 obtain ⟨j,hj,e2,f2⟩:=nib_w (nib x (u.toNat / 16)) (u.toNat &&& 15) hm
 exact ⟨i,j,_,_,hi,hj,hm,by rw [←e1]; rfl,f1,and15 u,e2,f2⟩
def regTo (l:List UInt8) (k:Nat):BitVec 32:=(l.take k).foldl byteStep 0xffffffff#32
theorem regTo_zero (l:List UInt8):regTo l 0=0xffffffff#32:=by simp [regTo]
theorem regTo_succ (l:List UInt8) (k:Nat) (h:k < l.length):regTo l (k+1)=byteStep (regTo l k) l[k]:=by
 unfold regTo
 rw [List.take_succ_eq_append_getElem h,List.foldl_append]; rfl
theorem regTo_all (l:List UInt8) (k:Nat) (h:l.length≤k):regTo l k=crcReg l:=by
 unfold regTo; rw [List.take_of_length_le h]; rfl
theorem not_w (x:BitVec 32):bits .xor .u32 IntKind.u32.max (x.toNat:Int)=(((~~~ x).toNat:Nat):Int):=by
 have hx:=x.isLt
 have h:=u32_xor_nat 4294967295 x.toNat (by omega) (by omega)
 have e:(4294967295 ^^^ x.toNat:Nat)=(~~~ x).toNat:=by
  have:(0xffffffff#32 ^^^ x) = ~~~ x:=by
   apply BitVec.eq_of_getLsbD_eq
   intro i hi
   have h1:∀ j:Fin 32,(0xffffffff#32).getLsbD j.val=true:=by decide
   rw [BitVec.getLsbD_xor,h1 ⟨i,hi⟩]
   simp [hi]
  rw [←this,BitVec.toNat_xor]; rfl
 rw [←e,←h]; rfl
theorem sumB_any (b off cap:Nat) (l:List UInt8) (hs:l.length≤maxLen) (hcap:l.length≤cap) (w:World) (hbk:b < w.heap.size) (hc:∀ j (h:j < l.length),w.cell? ⟨b,off+j,none⟩=some (.int .u8 (l[j].toNat:Int))) :
  Calls Tryz.prog 261 #[.slice (some ⟨b,off,none⟩) l.length cap] w fun e w'=>e=.returned (.int .u32 ((crc l).toNat:Int))∧Below w.heap.size w w':=by
 unfold maxLen at hs
 have h1c:(tcells 16).all (·.oneCell')=true:=by decide +kernel
 have hi:(Tryz.prog.info? 394).map (·.size)=some (tcells 16).size:=by rw [tcells_size]; kernel_rfl
 have HC:=Lib.hid hc; clear hc
 obtain ⟨n,hn⟩:∃ n,n=l.length:=⟨_,rfl⟩
 rw [←hn] at hs hcap ⊢
 have HN:=Lib.hid hn; clear hn
 go_enter Tryz.func261,Tryz.ntmps261
 go_wp2_with (first | (go_at_call 275; refine (table_any _).mono ?_; rintro e w1 ⟨rfl,hb1⟩) | (refine wpList_store_new rfl 394 _ _ rfl _ _ _ rfl rfl hi ?_ h1c ?_; (rw [tcells_size]; rfl)))
 clear hi h1c
 have hz1:=hb1.size
 go_loop [4,9] (fun x i=>∃ k:Nat,k≤n∧i=.int .i64 k∧x=.int .u32 ((regTo l k).toNat:Int)) (fun _ i=>n - (intOf i).toNat)
 case atStart=>exact ⟨0,by omega,rfl,by rw [regTo_zero]; rfl⟩
 case round=>
  obtain ⟨k,hk,rfl,rfl⟩:=hrel
  by_cases hlt:k < n
  ·have hkl:k < l.length:=by have:=HN.out; omega
   obtain ⟨u,hul⟩:∃ u,u=l[k]:=⟨_,rfl⟩
   have hu:u.toNat < 256:=u.toNat_lt
   have hcu:(w1.alloc (.cells (tcells 16) 394)).cell? ⟨b,off+k,none⟩=some (.int .u8 (u.toNat:Int)):=by
    rw [World.cell?_alloc_lt _ _ _ (show b < w1.heap.size by omega),hb1.cell (p:=⟨b,off+k,none⟩) hbk,HC.out k hkl,hul]
   have HU:=Lib.hid hul; clear hul
   obtain ⟨i,j,m,y,hi,hj,hm,e1,f1,e2,f2,f3⟩:=byte_w (regTo l k) u
   have c1:=(cell_of_row (w1.alloc (.cells (tcells 16) 394)) w1.heap.size i _ _ _ (heap_alloc_new _ _)).trans (tcells_get i hi)
   have c2:=(cell_of_row (w1.alloc (.cells (tcells 16) 394)) w1.heap.size j _ _ _ (heap_alloc_new _ _)).trans (tcells_get j hj)
   have hr:=regTo_succ l k hkl
   have HR:=Lib.hid hr; clear hr
   go_wp2_with fail
   go_round
   case rel=>exact ⟨k+1,by omega,by go_num,by rw [HR.out,←HU.out]⟩
   case measure=>simp [intOf]; omega
  ·obtain rfl:k=n:=by omega
   rw [regTo_all _ _ (by have:=HN.out; omega)]
   have hsg:IntKind.u32.signed=false:=rfl
   go_wp2_with fail
   go_ret
   exact ⟨ret_u32 (not_w _),hb1.trans ((Below.refl _ _).alloc hb1.size _)⟩
end Crc
namespace Crc
open Go.RowKit RowLaw
theorem bitsU8_take (u:UInt8) (j:Nat) (h:j < 8):(bitsU8 u).take (j+1)=(bitsU8 u).take j ++ [u.toNat.testBit (7 - j)]:=by
 rcases j with _ | _ | _ | _ | _ | _ | _ | _ | j <;> first | rfl | omega
theorem reg_take (x:BitVec 32) (u:UInt8) (j:Nat) (h:j < 8):reg x ((bitsU8 u).take (j+1))=stp (reg x ((bitsU8 u).take j)) (u.toNat.testBit (7 - j)):=by
 rw [bitsU8_take u j h,reg_append]; rfl
theorem bit_t (n j:Nat):((n:Int) / 2 ^ j).tmod 2=((n / 2 ^ j % 2:Nat):Int):=by
 have h:((n:Int) / 2 ^ j)=((n / 2 ^ j:Nat):Int):=by rw [Int.natCast_ediv]; congr 1
 rw [h]; rfl
theorem bit_01 (n j:Nat):((n:Int) / 2 ^ j).tmod 2=0∨((n:Int) / 2 ^ j).tmod 2=1:=by rw [bit_t]; omega
theorem bit_eq (n j:Nat):(((n:Int) / 2 ^ j).tmod 2 == 1)=n.testBit j:=by
 rw [bit_t,Nat.testBit_eq_decide_div_mod_eq]
 by_cases h:n / 2 ^ j % 2=1
 ·rw [h]; rfl
 ·have h0:n / 2 ^ j % 2=0:=by omega
  rw [h0]; rfl
theorem sub_w (x:BitVec 32):4294967295 - (x.toNat:Int)=(((~~~ x).toNat:Nat):Int):=by
 have:=x.isLt
 rw [BitVec.toNat_not]; omega
theorem len_take8 (u:UInt8):(bitsU8 u).take 8=bitsU8 u:=rfl
theorem refSum_any (s:ByteArray) (hs:s.size≤maxLen) (w:World) :
  Calls Tryz.prog 257 #[.string s] w fun e w'=>e=.returned (.int .u32 ((crc s.data.toList).toNat:Int))∧w=w':=by
 unfold maxLen at hs
 go_enter Tryz.func257,Tryz.ntmps257
 go_wp2_with fail
 go_loop [3,4] (fun x i=>∃ k:Nat,k≤s.size∧i=.int .i64 k∧x=.int .u32 ((regTo s.data.toList k).toNat:Int)) (fun _ i=>s.size - (intOf i).toNat)
 case atStart=>exact ⟨0,by omega,rfl,by rw [regTo_zero]; rfl⟩
 case round=>
  obtain ⟨k,hk,rfl,rfl⟩:=hrel
  by_cases hlt:k < s.size
  ·have hu:s[k].toNat < 256:=s[k].toNat_lt
   have hd:decide ((k:Int) < (s.size:Int))=true:=by simp; omega
   have hr:=regTo_succ s.data.toList k (by simpa using hlt)
   have HR:=Lib.hid hr; clear hr
   go_wp2_with fail
   go_loop [3,5] (fun x j=>∃ m:Nat,m≤8∧j=.int .i64 (7 - (m:Int))∧x=.int .u32 ((reg (regTo s.data.toList k) ((bitsU8 s[k]).take m)).toNat:Int)) (fun _ j=>(intOf j+1).toNat)
   case atStart=>exact ⟨0,by omega,rfl,rfl⟩
   case round=>
    obtain ⟨m,hm,rfl,rfl⟩:=hrel
    by_cases hl2:m < 8
    ·have hx:=(reg (regTo s.data.toList k) ((bitsU8 s[k]).take m)).isLt
     have hst:=reg_take (regTo s.data.toList k) s[k] m hl2
     have HST:=Lib.hid hst; clear hst
     go_wp2_with fail
     refine (step_any _ (by omega) (by omega) _ (bit_01 _ _) _).mono ?_
     rintro e w' ⟨rfl,rfl⟩
     rw [bit_eq,wd_toNat,←HST.out]
     go_wp2_with fail
     go_round
     case rel=>exact ⟨m+1,by omega,by simp; omega,rfl⟩
     case measure=>simp [intOf]; omega
    ·obtain rfl:m=8:=by omega
     rw [len_take8,←byteStep_reg]
     go_wp2_with fail
     go_round
     case rel=>exact ⟨k+1,by omega,by go_num,by rw [HR.out]; rfl⟩
     case measure=>simp [intOf]; omega
  ·obtain rfl:k=s.size:=by omega
   rw [regTo_all _ _ (by simp)]
   go_wp2_with fail
   go_ret
   exact ⟨ret_u32 (sub_w _),rfl⟩
end Crc
namespace Crc
open Go.RowKit RowLaw
def sealTo (l:List UInt8) (k:Nat):List UInt8:=l.take 252 ++ ((be4 (crc (l.take 252))).take k ++ l.drop (252+k))
theorem sealTo_length {l:List UInt8} (h:l.length=256) (k:Nat) (hk:k≤4):(sealTo l k).length=256:=by
 simp [sealTo,be4,h]; omega
theorem sealTo_zero (l:List UInt8):sealTo l 0=l:=by simp [sealTo]
theorem sealTo_four {l:List UInt8} (h:l.length=256):sealTo l 4=sealB l:=by
 unfold sealTo sealB
 rw [List.drop_of_length_le (by omega),List.append_nil]; rfl
theorem sealTo_set {l:List UInt8} (h:l.length=256) (k:Nat) (hk:k < 4) :
  (sealTo l k).set (252+k) (UInt8.ofNat ((crc (l.take 252)).toNat / 2 ^ (8 * (3 - k))))=sealTo l (k+1):=by
 obtain ⟨a,b,c,d,e⟩:=len4 (l:=l.drop 252) (by simp [h])
 have ht:(l.take 252).length=252:=by simp [h]
 have hd:∀ j,l.drop (252+j)=[a,b,c,d].drop j:=by intro j; rw [←e,List.drop_drop]
 unfold sealTo
 rw [List.set_append_right _ _ (by omega),ht,hd,hd]
 generalize crc (l.take 252)=v
 congr 1
 rw [show 252+k - 252=k from by omega]
 have hk':k=0∨k=1∨k=2∨k=3:=by omega
 rcases hk' with rfl | rfl | rfl | rfl <;> simp [be4]
theorem sumBlk_any (b:Nat) (l:List UInt8) (hl:l.length=256) (w:World) (h:Holds w b l) :
  Calls Tryz.prog 261 #[.slice (some ⟨b,0,none⟩) 252 256] w fun e w'=>e=.returned (.int .u32 ((crc (l.take 252)).toNat:Int))∧Below w.heap.size w w':=by
 have hlen:(l.take 252).length=252:=by simp [hl]
 have:=sumB_any b 0 256 (l.take 252) (by unfold maxLen; omega) (by omega) w h.lt (fun j hj=>by
  rw [Nat.zero_add,h.cell j (by omega)]; simp)
 rw [hlen] at this
 exact this
theorem byte_of (n k:Nat):(n:Int) / 2 ^ (8 * (3 - k)) % 256=((UInt8.ofNat (n / 2 ^ (8 * (3 - k)))).toNat:Int):=by
 rw [UInt8.toNat_ofNat']
 have h:((n:Int) / 2 ^ (8 * (3 - k)))=((n / 2 ^ (8 * (3 - k)):Nat):Int):=by rw [Int.natCast_ediv]; congr 1
 rw [h]; rfl
theorem Seal_any (l:List UInt8) (hl:l.length=256) (w:World) :
  Calls Tryz.prog 242 #[.agg (cellsOf l)] w fun e w'=>e=.returned (.agg (cellsOf (sealB l)))∧Below w.heap.size w w':=by
 have hzv:=(zero_of_info infoBlock).1
 go_enter Tryz.func242,Tryz.ntmps242
 go_wp2_with fail
 have hA:Holds ((w.alloc (.cells (cellsOf l) 39)).alloc (.cells (cellsOf zeros) 39)) w.heap.size l:=(Holds.new w l).alloc _
 have hB:Holds ((w.alloc (.cells (cellsOf l) 39)).alloc (.cells (cellsOf zeros) 39)) (w.heap.size+1) zeros:=heap_alloc2_new w _ _
 have hbel:Below w.heap.size w ((w.alloc (.cells (cellsOf l) 39)).alloc (.cells (cellsOf zeros) 39)):=((Below.refl _ _).alloc (Nat.le_refl _) _).alloc (by simp) _
 generalize (w.alloc (.cells (cellsOf l) 39)).alloc (.cells (cellsOf zeros) 39)=W at *
 refine (sumBlk_any w.heap.size l hl W hA).mono ?_
 rintro e W2 ⟨rfl,hb2⟩
 have hA2:=hA.below hb2 hA.lt
 have hB2:=hB.below hb2 hB.lt
 have hbel2:Below w.heap.size w W2:=hbel.trans (hb2.mono hbel.size)
 clear hA hB hbel hb2
 have hx:=(crc (l.take 252)).isLt
 go_wp2_with fail
 go_loopw [7] (fun i wr=>∃ k:Nat,k≤4∧i=.int .i64 k∧Holds wr w.heap.size (sealTo l k)∧Holds wr (w.heap.size+1) zeros∧Below w.heap.size w wr) (fun i _=>4 - (intOf i).toNat)
 case atStart=>exact ⟨0,by omega,rfl,by rw [sealTo_zero]; exact hA2,hB2,hbel2⟩
 case round=>
  obtain ⟨k,hk,rfl,hA3,hB3,hbel3⟩:=hrel
  have hsl:=sealTo_length hl k hk
  by_cases hlt:k < 4
  ·have hc:=hA3.cell (252+k) (by omega)
   have hf:=hA3.frozen (252+k)
   go_wp2_with fail
   go_roundw
   case rel=>
    rw [byte_of]
    refine ⟨k+1,by omega,by go_num,?_,hB3.other _ _ (by simp),hbel3.setCell (Nat.le_refl _) _⟩
    rw [←sealTo_set hl k hlt]
    exact hA3.set_ _ _
   case measure=>simp [intOf]; omega
  ·obtain rfl:k=4:=by omega
   rw [sealTo_four hl] at hA3
   have hsz:=sealB_length hl
   have hi:(Tryz.prog.info? 39).map (·.size)=some (cellsOf (sealB l)).size:=by rw [cellsOf_size,hsz]; exact (zero_of_info infoBlock).2
   have hzz:(cellsOf zeros).size=(cellsOf (sealB l)).size:=by rw [cellsOf_size,cellsOf_size,hsz,zeros_length]
   clear hsl hsz hx
   go_wp2_with (first | (refine wpList_load_row rfl 39 _ rfl _ rfl _ _ _ _ hA3 Tryz.underlying39 rfl hi ?_) | (refine wpList_store_row rfl 39 _ _ rfl _ _ rfl rfl _ _ hB3 hi hzz (cellsOf_one _) ?_))
   refine bodyPost_ret (v:=.agg (cellsOf (sealB l))) ?_ rfl ⟨rfl,?_⟩
   ·exact results_cell_row rfl _ _ _ _ _ _ _ rfl (setRow_heap wr _ _ _ _ _ hB3) Tryz.underlying39 rfl hi
   ·exact Below.trans hbel3 ⟨rfl,rfl,rfl,by simp,fun k hk=>setRow_other wr _ _ _ (by omega)⟩
theorem sealB_sets {l:List UInt8} (h:l.length=256):((((l.set 252 (UInt8.ofNat ((crc (l.take 252)).toNat / 16777216))).set 253 (UInt8.ofNat ((crc (l.take 252)).toNat / 65536))).set 254 (UInt8.ofNat ((crc (l.take 252)).toNat / 256))).set 255 (UInt8.ofNat (crc (l.take 252)).toNat))=sealB l:=by
 have e0:=sealTo_set h 0 (by omega)
 have e1:=sealTo_set h 1 (by omega)
 have e2:=sealTo_set h 2 (by omega)
 have e3:=sealTo_set h 3 (by omega)
 rw [sealTo_zero] at e0
 rw [←sealTo_four h,←e3,←e2,←e1,←e0]
 generalize (crc (l.take 252)).toNat=n
 simp
theorem u8_div (n d:Nat):(n:Int) / (d:Int) % 256=((UInt8.ofNat (n / d)).toNat:Int):=by
 rw [UInt8.toNat_ofNat',Int.natCast_emod,Int.natCast_ediv]; rfl
theorem u8_24 (n:Nat):(n:Int) / 16777216 % 256=((UInt8.ofNat (n / 16777216)).toNat:Int):=u8_div n 16777216
theorem u8_16 (n:Nat):(n:Int) / 65536 % 256=((UInt8.ofNat (n / 65536)).toNat:Int):=u8_div n 65536
theorem u8_8 (n:Nat):(n:Int) / 256 % 256=((UInt8.ofNat (n / 256)).toNat:Int):=u8_div n 256
theorem u8_mod (n:Nat):(n:Int) % 256=((UInt8.ofNat n).toNat:Int):=by
 rw [UInt8.toNat_ofNat',Int.natCast_emod]; rfl
theorem refSeal_any (l:List UInt8) (hl:l.length=256) (w:World) :
  Calls Tryz.prog 233 #[.agg (cellsOf l)] w fun e w'=>e=.returned (.agg (cellsOf (sealB l)))∧Below w.heap.size w w':=by
 have hzv:=(zero_of_info infoBlock).1
 have hA:Holds ((w.alloc (.cells (cellsOf l) 39)).alloc (.cells (cellsOf zeros) 39)) w.heap.size l:=(Holds.new w l).alloc _
 have hB:Holds ((w.alloc (.cells (cellsOf l) 39)).alloc (.cells (cellsOf zeros) 39)) (w.heap.size+1) zeros:=heap_alloc2_new w _ _
 have hbel:Below w.heap.size w ((w.alloc (.cells (cellsOf l) 39)).alloc (.cells (cellsOf zeros) 39)):=((Below.refl _ _).alloc (Nat.le_refl _) _).alloc (by simp) _
 have hlen:(l.take 252).length=252:=by simp [hl]
 have hcv:=run_convert_bytes_back (P:=Tryz.prog) ((w.alloc (.cells (cellsOf l) 39)).alloc (.cells (cellsOf zeros) 39)) 331 9 5 ⟨w.heap.size,0,none⟩ 256 (l.take 252) Tryz.underlying331 Tryz.underlying5 Tryz.underlying9
  (fun j hj=>by rw [Addr.add_mid,Nat.zero_add,hA.cell j (by omega)]; simp)
 rw [hlen] at hcv
 have hx:=(crc (l.take 252)).isLt
 have HL:=Lib.hid hlen; clear hlen
 go_enter Tryz.func233,Tryz.ntmps233
 go_wp2_with fail
 refine (refSum_any _ (by have:=HL.out; unfold maxLen ByteArray.size; simp; omega) _).mono ?_
 rintro e w' ⟨rfl,rfl⟩
 clear hcv
 generalize (w.alloc (.cells (cellsOf l) 39)).alloc (.cells (cellsOf zeros) 39)=W at *
 have c2:=hA.cell 252 (by omega)
 have c3:=hA.cell 253 (by omega)
 have c4:=hA.cell 254 (by omega)
 have c5:=hA.cell 255 (by omega)
 have f2:=hA.frozen 252
 have f3:=hA.frozen 253
 have f4:=hA.frozen 254
 have f5:=hA.frozen 255
 have hsz:=sealB_length hl
 have hi:(Tryz.prog.info? 39).map (·.size)=some (cellsOf (sealB l)).size:=by rw [cellsOf_size,hsz]; exact (zero_of_info infoBlock).2
 have hzz:(cellsOf zeros).size=(cellsOf (sealB l)).size:=by rw [cellsOf_size,cellsOf_size,hsz,zeros_length]
 have HS:=Lib.hid hsz; clear hsz
 generalize hcr:crc (List.take 252 l)=v at *
 have hF:=(((hA.set_ 252 (UInt8.ofNat (v.toNat / 16777216))).set_ 253 (UInt8.ofNat (v.toNat / 65536))).set_ 254 (UInt8.ofNat (v.toNat / 256))).set_ 255 (UInt8.ofNat v.toNat)
 have hG:=(((hB.other ⟨w.heap.size,252,none⟩ (.int .u8 ((UInt8.ofNat (v.toNat / 16777216)).toNat:Int)) (by simp)).other ⟨w.heap.size,253,none⟩ (.int .u8 ((UInt8.ofNat (v.toNat / 65536)).toNat:Int)) (by simp)).other ⟨w.heap.size,254,none⟩ (.int .u8 ((UInt8.ofNat (v.toNat / 256)).toNat:Int)) (by simp)).other ⟨w.heap.size,255,none⟩ (.int .u8 ((UInt8.ofNat v.toNat).toNat:Int)) (by simp)
 have hH:=(((hbel.setCell (p:=⟨w.heap.size,252,none⟩) (Nat.le_refl _) (.int .u8 ((UInt8.ofNat (v.toNat / 16777216)).toNat:Int))).setCell (p:=⟨w.heap.size,253,none⟩) (Nat.le_refl _) (.int .u8 ((UInt8.ofNat (v.toNat / 65536)).toNat:Int))).setCell (p:=⟨w.heap.size,254,none⟩) (Nat.le_refl _) (.int .u8 ((UInt8.ofNat (v.toNat / 256)).toNat:Int))).setCell (p:=⟨w.heap.size,255,none⟩) (Nat.le_refl _) (.int .u8 ((UInt8.ofNat v.toNat).toNat:Int))
 have hse:=sealB_sets hl
 rw [hcr] at hse
 rw [hse] at hF
 have e2:((UInt8.ofNat (v.toNat / 16777216)).toNat:Int)=(v.toNat:Int) / 16777216:=by rw [←u8_24]; omega
 rw [e2,←u8_16,←u8_8,←u8_mod] at hF hG hH
 clear hse e2 hA hB hbel hcr
 have HH:=Lib.hid hH; clear hH
 go_wp2_with (refine wpList_load_row rfl 39 _ rfl _ rfl 39 (cellsOf (sealB l)) (0,0) _ ?_ Tryz.underlying39 rfl hi ?_; exact hF; generalize ((((W.setCell ⟨w.heap.size,252,none⟩ (.int .u8 ((v.toNat:Int) / 16777216))).setCell ⟨w.heap.size,253,none⟩ (.int .u8 ((v.toNat:Int) / 65536 % 256))).setCell ⟨w.heap.size,254,none⟩ (.int .u8 ((v.toNat:Int) / 256 % 256))).setCell ⟨w.heap.size,255,none⟩ (.int .u8 ((v.toNat:Int) % 256)))=W3 at hF hG HH ⊢; refine wpList_store_row rfl 39 _ _ rfl _ _ rfl rfl _ _ hG hi hzz (cellsOf_one _) ?_)
 refine bodyPost_ret (v:=.agg (cellsOf (sealB l))) ?_ rfl ⟨rfl,?_⟩
 ·exact results_cell_row rfl _ _ _ _ _ _ _ rfl (setRow_heap _ _ _ _ _ _ hG) Tryz.underlying39 rfl hi
 ·exact Below.trans HH.out ⟨rfl,rfl,rfl,by simp,fun k hk=>setRow_other _ _ _ _ (by omega)⟩
end Crc

end Go.Proofs.YtgkbfahflngklaaGreat
