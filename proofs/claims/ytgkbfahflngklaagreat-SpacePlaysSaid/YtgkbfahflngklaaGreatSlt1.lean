import Derived.Test.YtgkbfahflngklaaGreatFld4
import Derived.Test.YtgkbfahflngklaaGreatPln
import Derived.Deep.Cut
import Derived.Test.YtgkbfahflngklaaGreatKit1
import Derived.Deep.AppendLies
import Derived.Lib.AppendZeros
import Derived.Handy
set_option maxRecDepth 100000
set_option maxHeartbeats 6400000
namespace Go.Proofs.YtgkbfahflngklaaGreat
namespace Slt
open Go.RowKit RowLaw Crc Fld
open Go.Proofs.YtgkbfahflngklaaGreat.Node (piece_add leB_leNat blank_replicate fset openSt_cases)
structure Rt where
 gen:Nat
 size:Nat
 picks:Nat
 names:Nat
 free:Nat
 next:Nat
 hint:Nat
 vols:Nat
def nil:Rt:=⟨0,0,0,0,0,0,0,0⟩
def cells (r:Rt):Array Value:=
 #[.int .u64 (r.gen:Int),.int .u32 (r.size:Int),.int .u32 (r.picks:Int),.int .u32 (r.names:Int),.int .u32 (r.free:Int),.int .u32 (r.next:Int),.int .u32 (r.hint:Int),.int .u8 (r.vols:Int)]
theorem cells_one (r:Rt):(cells r).all (·.oneCell')=true:=by simp [cells,Value.oneCell']
def nums (r:Rt):List Nat:=[r.size,r.picks,r.names,r.free,r.next,r.hint]
structure Rt.Fits (r:Rt):Prop where
 gen:r.gen < 18446744073709551616
 size:r.size < 4294967296
 picks:r.picks < 4294967296
 names:r.names < 4294967296
 free:r.free < 4294967296
 next:r.next < 4294967296
 hint:r.hint < 4294967296
 vols:r.vols < 256
theorem nums_length (r:Rt):(nums r).length=6:=rfl
theorem nums_lt {r:Rt} (h:r.Fits) (j:Nat) (hj:j < (nums r).length):(nums r)[j] < 4294967296:=by
 have:∀ x∈nums r,x < 4294967296:=by
  intro x hx
  simp only [nums,List.mem_cons,List.not_mem_nil,or_false] at hx
  rcases hx with rfl | rfl | rfl | rfl | rfl | rfl
  ·exact h.size
  ·exact h.picks
  ·exact h.names
  ·exact h.free
  ·exact h.next
  ·exact h.hint
 exact this _ (List.getElem_mem hj)
def May (r:Rt):Prop:=1≤r.gen∧64≤r.size∧r.size≤1048576∧r.picks < 65536∧r.names < r.size∧r.hint < r.size∧r.free≤r.size∧1≤r.next∧r.vols≤16∧(r.vols=0↔r.names=0)
instance (r:Rt):Decidable (May r):=by unfold May; exact inferInstance
def mayB (r:Rt):Bool:=decide (May r)
theorem mayB_iff {r:Rt}:mayB r=true↔May r:=decide_eq_true_iff
def rtTo (r:Rt) (j:Nat):List UInt8:=leB r.gen 8 ++ ((nums r).take j).flatMap fun n=>leB n 4
def rtF (r:Rt):List UInt8:=rtTo r 6 ++ leB r.vols 1
theorem flat4_length:∀ ns:List Nat,(ns.flatMap fun n=>leB n 4).length=4 * ns.length
 | []=>rfl
 | p::ps=>by rw [List.flatMap_cons,List.length_append,leB_length,flat4_length ps,List.length_cons,Nat.mul_add,Nat.mul_one,Nat.add_comm]
theorem rtTo_length (r:Rt) (j:Nat) (hj:j≤6):(rtTo r j).length=8+4 * j:=by
 unfold rtTo
 rw [List.length_append,leB_length,flat4_length,List.length_take,nums_length,Nat.min_eq_left hj]
theorem rtF_length (r:Rt):(rtF r).length=33:=by
 unfold rtF
 rw [List.length_append,rtTo_length r 6 (by omega),leB_length]
theorem rtTo_zero (r:Rt):rtTo r 0=leB r.gen 8:=by simp [rtTo]
theorem rtTo_succ (r:Rt) (j:Nat) (h:j < (nums r).length):rtTo r (j+1)=rtTo r j ++ leB (nums r)[j] 4:=by
 unfold rtTo
 rw [List.take_succ_eq_append_getElem h,List.flatMap_append,List.append_assoc]
 simp
def rtB (r:Rt):List UInt8:=fdone (rtF r) 82
def putB (r:Rt):List UInt8:=if mayB r=true then rtB r else zeros
def putE (r:Rt):Int:=if mayB r=true then 0 else 2
theorem rtF_le (r:Rt):(rtF r).length≤251:=by rw [rtF_length]; omega
theorem rtB_length (r:Rt):(rtB r).length=256:=fdone_length _ _ (rtF_le r)
theorem putB_yes {r:Rt} (h:mayB r=true):putB r=rtB r:=if_pos h
theorem putE_yes {r:Rt} (h:mayB r=true):putE r=0:=if_pos h
theorem putE_no {r:Rt} (h:¬ mayB r=true):putE r=2:=if_neg h
def numAt (l:List UInt8) (k w:Nat):Nat:=leNat (piece l k w)
def rawR (l:List UInt8):Rt:=⟨numAt l 1 8,numAt l 9 4,numAt l 13 4,numAt l 17 4,numAt l 21 4,numAt l 25 4,numAt l 29 4,numAt l 33 1⟩
def isR (l:List UInt8):Bool:=mayB (rawR l)&&decide (rtB (rawR l)=l)
def getE (l:List UInt8):Int:=if isR l=true then 0 else 250
theorem take_pieces (l: List UInt8) (hl: l.length=256): l.take 252=l.getD 0 0::(piece l 1 33 ++ piece l 34 218):=by
 have h:piece l 0 (1+(33+218))=l.take 252:=by simp [piece]
 rw [←h,piece_add,piece_add]
 have h0:piece l 0 1=[l.getD 0 0]:=by
  unfold piece
  rw [List.drop_zero,show (1:Nat)=0+1 from rfl,List.take_succ_eq_append_getElem (by omega),List.getD_eq_getElem?_getD,List.getElem?_eq_getElem (by omega)]
  rfl
 rw [h0]; rfl
theorem getD_get {l:List UInt8} {i:Nat} (h:i < l.length):l[i]? = some (l.getD i 0):=by rw [List.getD_eq_getElem?_getD,List.getElem?_eq_getElem h]; rfl
end Slt
namespace Slt
open Go.RowKit RowLaw Crc Fld
theorem infoR:(Tryz.prog.info? 31).map (fun i=>(i.zero,i.size))=some (some (.agg (cells nil)),8):=by kernel_rfl
theorem sizeR (r:Rt):(Tryz.prog.info? 31).map (·.size)=some (cells r).size:=(zero_of_info infoR).2
def rootO (r:Rt):Obj:=.cells (cells r) 31
def IsRt (w:World) (p:Nat) (r:Rt):Prop:=w.heap[p]? = some (.cells (cells r) 31 (0,0))
section
variable {w:World} {p:Nat} {r:Rt}
theorem IsRt.gen (h:IsRt w p r):w.cell? ⟨p,0,none⟩=some (.int .u64 (r.gen:Int)):=(cell_of_row w p 0 _ _ _ h).trans rfl
theorem IsRt.size (h:IsRt w p r):w.cell? ⟨p,1,none⟩=some (.int .u32 (r.size:Int)):=(cell_of_row w p 1 _ _ _ h).trans rfl
theorem IsRt.picks (h:IsRt w p r):w.cell? ⟨p,2,none⟩=some (.int .u32 (r.picks:Int)):=(cell_of_row w p 2 _ _ _ h).trans rfl
theorem IsRt.names (h:IsRt w p r):w.cell? ⟨p,3,none⟩=some (.int .u32 (r.names:Int)):=(cell_of_row w p 3 _ _ _ h).trans rfl
theorem IsRt.free (h:IsRt w p r):w.cell? ⟨p,4,none⟩=some (.int .u32 (r.free:Int)):=(cell_of_row w p 4 _ _ _ h).trans rfl
theorem IsRt.next (h:IsRt w p r):w.cell? ⟨p,5,none⟩=some (.int .u32 (r.next:Int)):=(cell_of_row w p 5 _ _ _ h).trans rfl
theorem IsRt.hint (h:IsRt w p r):w.cell? ⟨p,6,none⟩=some (.int .u32 (r.hint:Int)):=(cell_of_row w p 6 _ _ _ h).trans rfl
theorem IsRt.vols (h:IsRt w p r):w.cell? ⟨p,7,none⟩=some (.int .u8 (r.vols:Int)):=(cell_of_row w p 7 _ _ _ h).trans rfl
theorem IsRt.new (w:World) (r:Rt):IsRt (w.alloc (.cells (cells r) 31)) w.heap.size r:=heap_alloc_new w _
end
theorem lastB (r:Rt):(((r.vols:Int) == 0) == ((r.names:Int) == 0))=decide (r.vols=0↔r.names=0):=by
 rw [Bool.eq_iff_iff,beq_iff_eq,Bool.eq_iff_iff,beq_iff_eq,beq_iff_eq,decide_eq_true_eq]
 omega
theorem May_any (r:Rt) (w:World) :
  Calls Tryz.prog 160 #[.agg (cells r)] w fun e w'=>e=.returned (.bool (mayB r))∧Below w.heap.size w w':=by
 have hC:=IsRt.new w r
 have hb:Below w.heap.size w (w.alloc (.cells (cells r) 31)):=(Below.refl _ _).alloc (Nat.le_refl _) _
 go_enter Tryz.func160,Tryz.ntmps160
 go_upto_region 1 with fail
 generalize w.alloc (Obj.cells (cells r) 31)=W at hC hb ⊢
 have e0:=hC.gen
 have e1:=hC.size
 have e2:=hC.picks
 have e3:=hC.names
 have e4:=hC.free
 have e5:=hC.next
 have e6:=hC.hint
 have e7:=hC.vols
 clear hC
 by_cases hh:r.gen=0
 ·have d0:((r.gen:Int) != 0)=false:=by rw [hh]; rfl
  have HM:Hid (mayB r=false):=Lib.hid (by rw [Bool.eq_false_iff]; intro h9; have hm:=mayB_iff.1 h9; unfold May at hm; omega)
  clear hh
  go_wp2
  go_ret
  exact ⟨by rw [HM.out]; rfl,hb⟩
 ·have d0:((r.gen:Int) != 0)=true:=by simp; omega
  have K0:Hid (¬ r.gen=0):=Lib.hid hh
  clear hh
  by_cases hh:r.size < 64
  ·have d1:¬ (64:Int)≤(r.size:Int):=by omega
   have HM:Hid (mayB r=false):=Lib.hid (by rw [Bool.eq_false_iff]; intro h9; have hm:=mayB_iff.1 h9; unfold May at hm; omega)
   clear hh
   go_wp2
   go_ret
   exact ⟨by rw [HM.out]; rfl,hb⟩
  ·have d1:(64:Int)≤(r.size:Int):=by omega
   have K1:Hid (¬ r.size < 64):=Lib.hid hh
   clear hh
   by_cases hh:1048576 < r.size
   ·have d2:¬ (r.size:Int)≤1048576:=by omega
    have HM:Hid (mayB r=false):=Lib.hid (by rw [Bool.eq_false_iff]; intro h9; have hm:=mayB_iff.1 h9; unfold May at hm; omega)
    clear hh
    go_wp2
    go_ret
    exact ⟨by rw [HM.out]; rfl,hb⟩
   ·have d2:(r.size:Int)≤1048576:=by omega
    have K2:Hid (¬ 1048576 < r.size):=Lib.hid hh
    clear hh
    by_cases hh:65536≤r.picks
    ·have d3:¬ (r.picks:Int) < 65536:=by omega
     have HM:Hid (mayB r=false):=Lib.hid (by rw [Bool.eq_false_iff]; intro h9; have hm:=mayB_iff.1 h9; unfold May at hm; omega)
     clear hh
     go_wp2
     go_ret
     exact ⟨by rw [HM.out]; rfl,hb⟩
    ·have d3:(r.picks:Int) < 65536:=by omega
     have K3:Hid (¬ 65536≤r.picks):=Lib.hid hh
     clear hh
     by_cases hh:r.size≤r.names
     ·have d4:¬ (r.names:Int) < (r.size:Int):=by omega
      have HM:Hid (mayB r=false):=Lib.hid (by rw [Bool.eq_false_iff]; intro h9; have hm:=mayB_iff.1 h9; unfold May at hm; omega)
      clear hh
      go_wp2
      go_ret
      exact ⟨by rw [HM.out]; rfl,hb⟩
     ·have d4:(r.names:Int) < (r.size:Int):=by omega
      have K4:Hid (¬ r.size≤r.names):=Lib.hid hh
      clear hh
      by_cases hh:r.size≤r.hint
      ·have d5:¬ (r.hint:Int) < (r.size:Int):=by omega
       have HM:Hid (mayB r=false):=Lib.hid (by rw [Bool.eq_false_iff]; intro h9; have hm:=mayB_iff.1 h9; unfold May at hm; omega)
       clear hh
       go_wp2
       go_ret
       exact ⟨by rw [HM.out]; rfl,hb⟩
      ·have d5:(r.hint:Int) < (r.size:Int):=by omega
       have K5:Hid (¬ r.size≤r.hint):=Lib.hid hh
       clear hh
       by_cases hh:r.size < r.free
       ·have d6:¬ (r.free:Int)≤(r.size:Int):=by omega
        have HM:Hid (mayB r=false):=Lib.hid (by rw [Bool.eq_false_iff]; intro h9; have hm:=mayB_iff.1 h9; unfold May at hm; omega)
        clear hh
        go_wp2
        go_ret
        exact ⟨by rw [HM.out]; rfl,hb⟩
       ·have d6:(r.free:Int)≤(r.size:Int):=by omega
        have K6:Hid (¬ r.size < r.free):=Lib.hid hh
        clear hh
        by_cases hh:r.next=0
        ·have d7:((r.next:Int) != 0)=false:=by rw [hh]; rfl
         have HM:Hid (mayB r=false):=Lib.hid (by rw [Bool.eq_false_iff]; intro h9; have hm:=mayB_iff.1 h9; unfold May at hm; omega)
         clear hh
         go_wp2
         go_ret
         exact ⟨by rw [HM.out]; rfl,hb⟩
        ·have d7:((r.next:Int) != 0)=true:=by simp; omega
         have K7:Hid (¬ r.next=0):=Lib.hid hh
         clear hh
         by_cases hh:16 < r.vols
         ·have d8:¬ (r.vols:Int)≤16:=by omega
          have HM:Hid (mayB r=false):=Lib.hid (by rw [Bool.eq_false_iff]; intro h9; have hm:=mayB_iff.1 h9; unfold May at hm; omega)
          clear hh
          go_wp2
          go_ret
          exact ⟨by rw [HM.out]; rfl,hb⟩
         ·have d8:(r.vols:Int)≤16:=by omega
          have K8:Hid (¬ 16 < r.vols):=Lib.hid hh
          clear hh
          have q9:=lastB r
          have HM:Hid (mayB r=decide (r.vols=0↔r.names=0)):=Lib.hid (by
           have k0:=K0.out; have k1:=K1.out; have k2:=K2.out; have k3:=K3.out; have k4:=K4.out; have k5:=K5.out; have k6:=K6.out; have k7:=K7.out; have k8:=K8.out
           rw [Bool.eq_iff_iff,mayB_iff,decide_eq_true_eq]; unfold May; constructor
           ·exact fun h=>h.2.2.2.2.2.2.2.2.2
           ·exact fun h=>⟨by omega,by omega,by omega,by omega,by omega,by omega,by omega,by omega,by omega,h⟩)
          rw [←q9] at HM
          clear q9
          go_wp2
          go_ret
          exact ⟨by rw [HM.out]; rfl,hb⟩
theorem refMay_any (r:Rt) (w:World) :
  Calls Tryz.prog 223 #[.agg (cells r)] w fun e w'=>e=.returned (.bool (mayB r))∧Below w.heap.size w w':=by
 have hC:=IsRt.new w r
 have hb:Below w.heap.size w (w.alloc (.cells (cells r) 31)):=(Below.refl _ _).alloc (Nat.le_refl _) _
 go_enter Tryz.func223,Tryz.ntmps223
 go_upto_region 1 with fail
 generalize w.alloc (Obj.cells (cells r) 31)=W at hC hb ⊢
 have e0:=hC.gen
 have e1:=hC.size
 have e2:=hC.picks
 have e3:=hC.names
 have e4:=hC.free
 have e5:=hC.next
 have e6:=hC.hint
 have e7:=hC.vols
 clear hC
 by_cases hh:r.gen=0
 ·have d0:¬ (1:Int)≤(r.gen:Int):=by omega
  have HM:Hid (mayB r=false):=Lib.hid (by rw [Bool.eq_false_iff]; intro h9; have hm:=mayB_iff.1 h9; unfold May at hm; omega)
  clear hh
  go_wp2
  go_ret
  exact ⟨by rw [HM.out]; rfl,hb⟩
 ·have d0:(1:Int)≤(r.gen:Int):=by omega
  have K0:Hid (¬ r.gen=0):=Lib.hid hh
  clear hh
  by_cases hh:r.size < 64
  ·have d1:¬ (64:Int)≤(r.size:Int):=by omega
   have HM:Hid (mayB r=false):=Lib.hid (by rw [Bool.eq_false_iff]; intro h9; have hm:=mayB_iff.1 h9; unfold May at hm; omega)
   clear hh
   go_wp2
   go_ret
   exact ⟨by rw [HM.out]; rfl,hb⟩
  ·have d1:(64:Int)≤(r.size:Int):=by omega
   have K1:Hid (¬ r.size < 64):=Lib.hid hh
   clear hh
   by_cases hh:1048576 < r.size
   ·have d2:¬ (r.size:Int)≤1048576:=by omega
    have HM:Hid (mayB r=false):=Lib.hid (by rw [Bool.eq_false_iff]; intro h9; have hm:=mayB_iff.1 h9; unfold May at hm; omega)
    clear hh
    go_wp2
    go_ret
    exact ⟨by rw [HM.out]; rfl,hb⟩
   ·have d2:(r.size:Int)≤1048576:=by omega
    have K2:Hid (¬ 1048576 < r.size):=Lib.hid hh
    clear hh
    by_cases hh:65536≤r.picks
    ·have d3:¬ (r.picks:Int) < 65536:=by omega
     have HM:Hid (mayB r=false):=Lib.hid (by rw [Bool.eq_false_iff]; intro h9; have hm:=mayB_iff.1 h9; unfold May at hm; omega)
     clear hh
     go_wp2
     go_ret
     exact ⟨by rw [HM.out]; rfl,hb⟩
    ·have d3:(r.picks:Int) < 65536:=by omega
     have K3:Hid (¬ 65536≤r.picks):=Lib.hid hh
     clear hh
     by_cases hh:r.size≤r.names
     ·have d4:¬ (r.names:Int) < (r.size:Int):=by omega
      have HM:Hid (mayB r=false):=Lib.hid (by rw [Bool.eq_false_iff]; intro h9; have hm:=mayB_iff.1 h9; unfold May at hm; omega)
      clear hh
      go_wp2
      go_ret
      exact ⟨by rw [HM.out]; rfl,hb⟩
     ·have d4:(r.names:Int) < (r.size:Int):=by omega
      have K4:Hid (¬ r.size≤r.names):=Lib.hid hh
      clear hh
      by_cases hh:r.size≤r.hint
      ·have d5:¬ (r.hint:Int) < (r.size:Int):=by omega
       have HM:Hid (mayB r=false):=Lib.hid (by rw [Bool.eq_false_iff]; intro h9; have hm:=mayB_iff.1 h9; unfold May at hm; omega)
       clear hh
       go_wp2
       go_ret
       exact ⟨by rw [HM.out]; rfl,hb⟩
      ·have d5:(r.hint:Int) < (r.size:Int):=by omega
       have K5:Hid (¬ r.size≤r.hint):=Lib.hid hh
       clear hh
       by_cases hh:r.size < r.free
       ·have d6:¬ (r.free:Int)≤(r.size:Int):=by omega
        have HM:Hid (mayB r=false):=Lib.hid (by rw [Bool.eq_false_iff]; intro h9; have hm:=mayB_iff.1 h9; unfold May at hm; omega)
        clear hh
        go_wp2
        go_ret
        exact ⟨by rw [HM.out]; rfl,hb⟩
       ·have d6:(r.free:Int)≤(r.size:Int):=by omega
        have K6:Hid (¬ r.size < r.free):=Lib.hid hh
        clear hh
        by_cases hh:r.next=0
        ·have d7:¬ (1:Int)≤(r.next:Int):=by omega
         have HM:Hid (mayB r=false):=Lib.hid (by rw [Bool.eq_false_iff]; intro h9; have hm:=mayB_iff.1 h9; unfold May at hm; omega)
         clear hh
         go_wp2
         go_ret
         exact ⟨by rw [HM.out]; rfl,hb⟩
        ·have d7:(1:Int)≤(r.next:Int):=by omega
         have K7:Hid (¬ r.next=0):=Lib.hid hh
         clear hh
         by_cases hh:16 < r.vols
         ·have d8:¬ (r.vols:Int)≤16:=by omega
          have HM:Hid (mayB r=false):=Lib.hid (by rw [Bool.eq_false_iff]; intro h9; have hm:=mayB_iff.1 h9; unfold May at hm; omega)
          clear hh
          go_wp2
          go_ret
          exact ⟨by rw [HM.out]; rfl,hb⟩
         ·have d8:(r.vols:Int)≤16:=by omega
          have K8:Hid (¬ 16 < r.vols):=Lib.hid hh
          clear hh
          have q9:=lastB r
          have HM:Hid (mayB r=decide (r.vols=0↔r.names=0)):=Lib.hid (by
           have k0:=K0.out; have k1:=K1.out; have k2:=K2.out; have k3:=K3.out; have k4:=K4.out; have k5:=K5.out; have k6:=K6.out; have k7:=K7.out; have k8:=K8.out
           rw [Bool.eq_iff_iff,mayB_iff,decide_eq_true_eq]; unfold May; constructor
           ·exact fun h=>h.2.2.2.2.2.2.2.2.2
           ·exact fun h=>⟨by omega,by omega,by omega,by omega,by omega,by omega,by omega,by omega,by omega,h⟩)
          rw [←q9] at HM
          clear q9
          go_wp2
          go_ret
          exact ⟨by rw [HM.out]; rfl,hb⟩
end Slt
namespace Slt
open Go.RowKit RowLaw Crc Fld
structure Pl where
 t:TypeId
 p:Nat
 k:Nat
 wd:Nat
def plCells (x:Pl):List Value:=[.iface x.t (.agg #[.pointer (some ⟨x.p,x.k,none⟩)]),.int .i64 (x.wd:Int)]
def plRow (l:List Pl):List Value:=l.flatMap plCells
theorem plRow_snoc (l:List Pl) (x:Pl):plRow (l ++ [x])=plRow l ++ plCells x:=by simp [plRow]
theorem plRow_app (l m:List Pl):plRow (l ++ m)=plRow l ++ plRow m:=by simp [plRow]
theorem plRow_length:∀ l:List Pl,(plRow l).length=l.length * 2
 | []=>rfl
 | x::l=>by
  have: plRow (x::l)=plCells x ++ plRow l:=rfl
  rw [this,List.length_append,plRow_length l]
  simp [plCells]
  omega
theorem plRow_one:∀ (l:List Pl) (v:Value),v∈plRow l→v.oneCell'=true:=fun l v hv=>by
 unfold plRow at hv
 rw [List.mem_flatMap] at hv
 obtain ⟨x,_,hx⟩:=hv
 simp only [plCells,List.mem_cons,List.not_mem_nil,or_false] at hx
 rcases hx with rfl | rfl <;> rfl
theorem infoPl:(Tryz.prog.info? 344).map (fun i=>(i.zero,i.size,i.bytes))=some (some (.agg #[.nilIface,.int .i64 0]),2,24):=by kernel_rfl
theorem new_cells (W:World) (cs:List Value) (T:TypeId):∀ j u,cs[j]? = some u→(W.alloc (.cells cs.toArray T)).cell? (Addr.add ⟨W.heap.size,0,none⟩ j)=some u:=fun j u hj=>by
 rw [Addr.add_mid,Nat.zero_add,cell_of_row _ W.heap.size j _ _ _ (heap_alloc_new W _)]
 simpa using hj
theorem below_own {W W1:World} {base:Nat} {e:TypeId} {size n:Nat} {v:Value} {xs:List Value} (h:W.ownsRow base e size v n xs) (hg:W.grownBy W1 v.ownBlock) (hb:base≤W.heap.size):Below base W W1:=
 ⟨hg.os,hg.tape,hg.output,hg.size,fun k hk=>hg.block k (by omega) (fun e2=>by
  rcases h.2 with ⟨rfl,_⟩ | ⟨g,cap,cur,rfl,h5,_⟩
  ·cases e2
  ·cases e2; have hk':g < base:=hk; omega)⟩
def OwnP (base:Nat) (l:List Pl) (v:Value) (W:World):Prop:=W.ownsRow base 344 2 v l.length (plRow l)
theorem OwnP.nil (base:Nat) (W:World):OwnP base [] (.slice none 0 0) W:=World.ownsRow_nil _ _ _ _
theorem OwnP.mono {base b:Nat} {l:List Pl} {v:Value} {W:World} (h:OwnP base l v W) (hb:b≤base):OwnP b l v W:=by
 refine ⟨h.1,?_⟩
 rcases h.2 with hn | ⟨g,cap,cur,rfl,h5,rest⟩
 ·exact .inl hn
 ·exact .inr ⟨g,cap,cur,rfl,Nat.le_trans hb h5,rest⟩
theorem OwnP.below {base:Nat} {l:List Pl} {v:Value} {W W':World} (h:OwnP base l v W) (hb:Below W.heap.size W W'):OwnP base l v W':=by
 refine ⟨h.1,?_⟩
 rcases h.2 with hn | ⟨g,cap,cur,rfl,h5,h6,rest⟩
 ·exact .inl hn
 ·exact .inr ⟨g,cap,cur,rfl,h5,(hb.block g (Array.getElem?_eq_some_iff.1 h6).1).trans h6,rest⟩
def RowP (l:List Pl) (v:Value) (W:World):Prop:=∃ g cap,v=.slice (some ⟨g,0,none⟩) l.length cap∧g < W.heap.size∧∀ j u,(plRow l)[j]? = some u→W.cell? ⟨g,j,none⟩=some u
theorem OwnP.row {base:Nat} {l:List Pl} {v:Value} {W:World} (h:OwnP base l v W) (hl:l≠[]):RowP l v W:=by
 rcases h.2 with ⟨rfl,h0⟩ | ⟨g,cap,cur,rfl,h5,h6,h7,h8,h9,h10⟩
 ·exact absurd (List.eq_nil_of_length_eq_zero h0) hl
 ·refine ⟨g,cap,rfl,(Array.getElem?_eq_some_iff.1 h6).1,fun j u hj=>?_⟩
  have:=World.ownsRow.cells h (g:=g) rfl j u hj
  rw [Addr.add_mid,Nat.zero_add] at this
  exact this
theorem RowP.below {l:List Pl} {v:Value} {W W':World} (h:RowP l v W) (hb:Below W.heap.size W W'):RowP l v W':=by
 obtain ⟨g,cap,rfl,hg,hc⟩:=h
 exact ⟨g,cap,rfl,Nat.lt_of_lt_of_le hg hb.size,fun j u hj=>(hb.cell (p:=⟨g,j,none⟩) hg).trans (hc j u hj)⟩
def pls (t:TypeId) (p k n wd:Nat):List Pl:=(List.range n).map fun j=>⟨t,p,k+j,wd⟩
theorem pls_succ (t:TypeId) (p k n wd:Nat):pls t p k (n+1) wd=pls t p k n wd ++ [⟨t,p,k+n,wd⟩]:=by simp [pls,List.range_succ]
theorem pls_length (t:TypeId) (p k n wd:Nat):(pls t p k n wd).length=n:=by simp [pls]
theorem plCells_one (x:Pl):∀ u∈plCells x,u.oneCell'=true:=fun u hu=>plRow_one [x] u (by simpa [plRow] using hu)
theorem places64_any (p k n wd u:Nat) (hn:n≤100) (w:World) (hu:u < w.heap.size) (hp:∀ j,j < n→w.cell? ⟨u,j,none⟩=some (.pointer (some ⟨p,k+j,none⟩))) :
  Calls Tryz.prog 235 #[.int .i64 (wd:Int),.slice (some ⟨u,0,none⟩) n n] w fun e w'=>∃ v,e=.returned v∧OwnP w.heap.size (pls 373 p k n wd) v w'∧Below w.heap.size w w':=by
 obtain ⟨ik,hik0,hik1,hik2,hik3⟩:=info_parts infoPl
 have HP:=Lib.hid hp; clear hp
 go_enter Tryz.func235,Tryz.ntmps235
 go_wp2
 go_loopw [5,10] (fun v i wr=>∃ j:Nat,j≤n∧i=.int .i64 j∧OwnP w.heap.size (pls 373 p k j wd) v wr∧Below w.heap.size w wr) (fun _ i _=>n - (intOf i).toNat)
 case atStart=>exact ⟨0,by omega,rfl,OwnP.nil _ _,Below.refl _ _⟩
 case round=>
  obtain ⟨j,hj,rfl,hown,hb⟩:=hrel
  by_cases hlt:j < n
  ·have hc:=(hb.cell (p:=⟨u,j,none⟩) hu).trans (HP.out j hlt)
   obtain ⟨x,hx⟩:∃ x:Pl,x=⟨373,p,k+j,wd⟩:=⟨_,rfl⟩
   have hcs:plCells x=[.iface 373 (.agg #[.pointer (some ⟨p,k+j,none⟩)]),.int .i64 (wd:Int)]:=by rw [hx]; rfl
   have hnx:Hid (pls 373 p k (j+1) wd=pls 373 p k j wd ++ [x]):=Lib.hid (by rw [hx]; exact pls_succ _ _ _ _ _)
   have hl:=pls_length 373 p k j wd
   have h1:=plCells_one x
   rw [hcs] at h1
   unfold OwnP at hown
   rw [hl] at hown
   have HCS:=Lib.hid hcs
   have HL:=Lib.hid hl
   clear hx hcs hl
   generalize hkj:k+j=kj at hc h1 HCS
   clear hkj
   have hown2:(wr.alloc (.cells [Value.iface 373 (.agg #[.pointer (some ⟨p,kj,none⟩)]),.int .i64 (wd:Int)].toArray 344)).ownsRow w.heap.size 344 2 _ j _:=World.ownsRow.alloc hown _
   have hnew:=new_cells wr [Value.iface 373 (.agg #[.pointer (some ⟨p,kj,none⟩)]),.int .i64 (wd:Int)] 344
   have hb2:Below w.heap.size w (wr.alloc (.cells [Value.iface 373 (.agg #[.pointer (some ⟨p,kj,none⟩)]),.int .i64 (wd:Int)].toArray 344)):=hb.alloc hb.size _
   clear hown hb
   go_wp2_with (first | (at_builtin; refine wpList_append_own _ rfl _ _ 311 rfl w.heap.size 344 ik (.agg #[.nilIface,.int .i64 0]) 2 24 Tryz.underlying311 hik0 hik1 hik2 hik3 rfl (by omega) _ j _ rfl hown2 ⟨wr.heap.size,0,none⟩ 1 1 [Value.iface 373 (.agg #[.pointer (some ⟨p,kj,none⟩)]),.int .i64 (wd:Int)] rfl rfl hnew h1 (by unfold maxLen; omega) (by omega) hb2.size ?_; intro v' w1 hown1 hgrow hnil))
   go_roundw
   case rel=>
    refine ⟨j+1,by omega,by go_num,?_,hb2.trans (below_own hown2 hgrow hb2.size)⟩
    rw [hnx.out]
    unfold OwnP
    rw [plRow_snoc,List.length_append,HL.out,HCS.out]
    exact hown1
   case measure=>simp [intOf]; omega
  ·obtain rfl:j=n:=by omega
   go_wp2
   go_ret
   exact ⟨_,rfl,hown,hb⟩
theorem places32_any (p k n wd u:Nat) (hn:n≤100) (w:World) (hu:u < w.heap.size) (hp:∀ j,j < n→w.cell? ⟨u,j,none⟩=some (.pointer (some ⟨p,k+j,none⟩))) :
  Calls Tryz.prog 236 #[.int .i64 (wd:Int),.slice (some ⟨u,0,none⟩) n n] w fun e w'=>∃ v,e=.returned v∧OwnP w.heap.size (pls 376 p k n wd) v w'∧Below w.heap.size w w':=by
 obtain ⟨ik,hik0,hik1,hik2,hik3⟩:=info_parts infoPl
 have HP:=Lib.hid hp; clear hp
 go_enter Tryz.func236,Tryz.ntmps236
 go_wp2
 go_loopw [5,10] (fun v i wr=>∃ j:Nat,j≤n∧i=.int .i64 j∧OwnP w.heap.size (pls 376 p k j wd) v wr∧Below w.heap.size w wr) (fun _ i _=>n - (intOf i).toNat)
 case atStart=>exact ⟨0,by omega,rfl,OwnP.nil _ _,Below.refl _ _⟩
 case round=>
  obtain ⟨j,hj,rfl,hown,hb⟩:=hrel
  by_cases hlt:j < n
  ·have hc:=(hb.cell (p:=⟨u,j,none⟩) hu).trans (HP.out j hlt)
   obtain ⟨x,hx⟩:∃ x:Pl,x=⟨376,p,k+j,wd⟩:=⟨_,rfl⟩
   have hcs:plCells x=[.iface 376 (.agg #[.pointer (some ⟨p,k+j,none⟩)]),.int .i64 (wd:Int)]:=by rw [hx]; rfl
   have hnx:Hid (pls 376 p k (j+1) wd=pls 376 p k j wd ++ [x]):=Lib.hid (by rw [hx]; exact pls_succ _ _ _ _ _)
   have hl:=pls_length 376 p k j wd
   have h1:=plCells_one x
   rw [hcs] at h1
   unfold OwnP at hown
   rw [hl] at hown
   have HCS:=Lib.hid hcs
   have HL:=Lib.hid hl
   clear hx hcs hl
   generalize hkj:k+j=kj at hc h1 HCS
   clear hkj
   have hown2:(wr.alloc (.cells [Value.iface 376 (.agg #[.pointer (some ⟨p,kj,none⟩)]),.int .i64 (wd:Int)].toArray 344)).ownsRow w.heap.size 344 2 _ j _:=World.ownsRow.alloc hown _
   have hnew:=new_cells wr [Value.iface 376 (.agg #[.pointer (some ⟨p,kj,none⟩)]),.int .i64 (wd:Int)] 344
   have hb2:Below w.heap.size w (wr.alloc (.cells [Value.iface 376 (.agg #[.pointer (some ⟨p,kj,none⟩)]),.int .i64 (wd:Int)].toArray 344)):=hb.alloc hb.size _
   clear hown hb
   go_wp2_with (first | (at_builtin; refine wpList_append_own _ rfl _ _ 311 rfl w.heap.size 344 ik (.agg #[.nilIface,.int .i64 0]) 2 24 Tryz.underlying311 hik0 hik1 hik2 hik3 rfl (by omega) _ j _ rfl hown2 ⟨wr.heap.size,0,none⟩ 1 1 [Value.iface 376 (.agg #[.pointer (some ⟨p,kj,none⟩)]),.int .i64 (wd:Int)] rfl rfl hnew h1 (by unfold maxLen; omega) (by omega) hb2.size ?_; intro v' w1 hown1 hgrow hnil))
   go_roundw
   case rel=>
    refine ⟨j+1,by omega,by go_num,?_,hb2.trans (below_own hown2 hgrow hb2.size)⟩
    rw [hnx.out]
    unfold OwnP
    rw [plRow_snoc,List.length_append,HL.out,HCS.out]
    exact hown1
   case measure=>simp [intOf]; omega
  ·obtain rfl:j=n:=by omega
   go_wp2
   go_ret
   exact ⟨_,rfl,hown,hb⟩
theorem places8_any (p k n wd u:Nat) (hn:n≤100) (w:World) (hu:u < w.heap.size) (hp:∀ j,j < n→w.cell? ⟨u,j,none⟩=some (.pointer (some ⟨p,k+j,none⟩))) :
  Calls Tryz.prog 237 #[.int .i64 (wd:Int),.slice (some ⟨u,0,none⟩) n n] w fun e w'=>∃ v,e=.returned v∧OwnP w.heap.size (pls 379 p k n wd) v w'∧Below w.heap.size w w':=by
 obtain ⟨ik,hik0,hik1,hik2,hik3⟩:=info_parts infoPl
 have HP:=Lib.hid hp; clear hp
 go_enter Tryz.func237,Tryz.ntmps237
 go_wp2
 go_loopw [5,10] (fun v i wr=>∃ j:Nat,j≤n∧i=.int .i64 j∧OwnP w.heap.size (pls 379 p k j wd) v wr∧Below w.heap.size w wr) (fun _ i _=>n - (intOf i).toNat)
 case atStart=>exact ⟨0,by omega,rfl,OwnP.nil _ _,Below.refl _ _⟩
 case round=>
  obtain ⟨j,hj,rfl,hown,hb⟩:=hrel
  by_cases hlt:j < n
  ·have hc:=(hb.cell (p:=⟨u,j,none⟩) hu).trans (HP.out j hlt)
   obtain ⟨x,hx⟩:∃ x:Pl,x=⟨379,p,k+j,wd⟩:=⟨_,rfl⟩
   have hcs:plCells x=[.iface 379 (.agg #[.pointer (some ⟨p,k+j,none⟩)]),.int .i64 (wd:Int)]:=by rw [hx]; rfl
   have hnx:Hid (pls 379 p k (j+1) wd=pls 379 p k j wd ++ [x]):=Lib.hid (by rw [hx]; exact pls_succ _ _ _ _ _)
   have hl:=pls_length 379 p k j wd
   have h1:=plCells_one x
   rw [hcs] at h1
   unfold OwnP at hown
   rw [hl] at hown
   have HCS:=Lib.hid hcs
   have HL:=Lib.hid hl
   clear hx hcs hl
   generalize hkj:k+j=kj at hc h1 HCS
   clear hkj
   have hown2:(wr.alloc (.cells [Value.iface 379 (.agg #[.pointer (some ⟨p,kj,none⟩)]),.int .i64 (wd:Int)].toArray 344)).ownsRow w.heap.size 344 2 _ j _:=World.ownsRow.alloc hown _
   have hnew:=new_cells wr [Value.iface 379 (.agg #[.pointer (some ⟨p,kj,none⟩)]),.int .i64 (wd:Int)] 344
   have hb2:Below w.heap.size w (wr.alloc (.cells [Value.iface 379 (.agg #[.pointer (some ⟨p,kj,none⟩)]),.int .i64 (wd:Int)].toArray 344)):=hb.alloc hb.size _
   clear hown hb
   go_wp2_with (first | (at_builtin; refine wpList_append_own _ rfl _ _ 311 rfl w.heap.size 344 ik (.agg #[.nilIface,.int .i64 0]) 2 24 Tryz.underlying311 hik0 hik1 hik2 hik3 rfl (by omega) _ j _ rfl hown2 ⟨wr.heap.size,0,none⟩ 1 1 [Value.iface 379 (.agg #[.pointer (some ⟨p,kj,none⟩)]),.int .i64 (wd:Int)] rfl rfl hnew h1 (by unfold maxLen; omega) (by omega) hb2.size ?_; intro v' w1 hown1 hgrow hnil))
   go_roundw
   case rel=>
    refine ⟨j+1,by omega,by go_num,?_,hb2.trans (below_own hown2 hgrow hb2.size)⟩
    rw [hnx.out]
    unfold OwnP
    rw [plRow_snoc,List.length_append,HL.out,HCS.out]
    exact hown1
   case measure=>simp [intOf]; omega
  ·obtain rfl:j=n:=by omega
   go_wp2
   go_ret
   exact ⟨_,rfl,hown,hb⟩
theorem grow_any (n:Nat) (h0:0 < n) (h1:n≤100) (w:World) :
  Calls Tryz.prog 258 #[.slice none 0 0,.int .i64 (n:Int)] w fun e w'=>∃ v,e=.returned v∧OwnP w.heap.size [] v w'∧Below w.heap.size w w':=by
 obtain ⟨ik,hik0,hik1,hik2,hik3⟩:=info_parts infoPl
 have hr:=Lib.run_append_nil_zeros (P:=Tryz.prog) w 311 3 311 344 ik _ .i64 .i64 Tryz.underlying311 Tryz.underlying3 hik0 hik1 n h0 (by omega) (by omega) (by rw [hik3]; omega)
 have hG:=grownCap_le_maxLen w n 0 344 (by unfold maxLen; omega)
 have hge:=grownCap_ge w n 0 344
 generalize grownCap w n 0 344=G at hr hG hge
 have hsz:(Builtin.zeroCells (Value.agg #[.nilIface,.int .i64 0]).cells n ++ Builtin.zeroCells (Value.agg #[.nilIface,.int .i64 0]).cells (G - n)).size=G * 2:=by
  rw [Array.size_append,size_zeroCells,size_zeroCells]
  show n * 2+(G - n) * 2=G * 2
  omega
 generalize Builtin.zeroCells (Value.agg #[.nilIface,.int .i64 0]).cells n ++ Builtin.zeroCells (Value.agg #[.nilIface,.int .i64 0]).cells (G - n)=Z at hr hsz
 have hown:=World.ownsRow_made (base:=w.heap.size) (e:=344) (size:=2) w.drew Z G (Nat.le_refl _) hG hsz
 have hb:Below w.heap.size w (w.drew.alloc (.cells Z 344)):=(Below.refl _ _).drew.alloc (Nat.le_refl _) _
 have hG2:G≤9223372036854775807:=by unfold maxLen at hG; omega
 go_enter Tryz.func258,Tryz.ntmps258
 go_wp2_with (at_builtin; refine Lib.wpList_append_run _ rfl _ _ _ _ rfl _ _ rfl rfl _ _ hr ?_)
 go_ret
 exact ⟨_,rfl,hown,hb⟩
theorem flat_succ {α:Type} (ls:List (List α)) (k:Nat) (h:k < ls.length):(ls.take (k+1)).flatten=(ls.take k).flatten ++ ls.getD k []:=by
 rw [List.take_succ_eq_append_getElem h,List.flatten_append,List.getD_eq_getElem?_getD,List.getElem?_eq_getElem h]
 simp
theorem flat_le {α:Type} (ls:List (List α)) (k:Nat):(ls.take k).flatten.length≤ls.flatten.length:=by
 conv=>rhs; rw [←List.take_append_drop k ls,List.flatten_append,List.length_append]
 omega
theorem concat_any (ls:List (List Pl)) (vs:List Value) (hlen:vs.length=ls.length) (hls:ls.length≤100) (h0:0 < ls.flatten.length) (h100:ls.flatten.length≤100) (u:Nat) (w:World) (hu:w.heap[u]? = some (.cells vs.toArray 311 (0,0)))
  (hr:∀ i,i < ls.length→RowP (ls.getD i []) (vs.getD i undef) w) :
  Calls Tryz.prog 234 #[.slice (some ⟨u,0,none⟩) ls.length ls.length] w fun e w'=>∃ v,e=.returned v∧OwnP w.heap.size ls.flatten v w'∧Below w.heap.size w w':=by
 obtain ⟨ik,hik0,hik1,hik2,hik3⟩:=info_parts infoPl
 have hult:u < w.heap.size:=(Array.getElem?_eq_some_iff.1 hu).1
 have hc:∀ k,k < ls.length→w.cell? ⟨u,k,none⟩=some (vs.getD k undef):=fun k h=>(cell_of_row w u k _ _ _ hu).trans (by rw [List.getElem?_toArray,List.getD_eq_getElem?_getD,List.getElem?_eq_getElem (by omega)]; rfl)
 have HC:=Lib.hid hc; clear hc hu
 have HR:=Lib.hid hr; clear hr
 have HT:Hid (∀ k,k < ls.length→(ls.take (k+1)).flatten=(ls.take k).flatten ++ ls.getD k []):=Lib.hid (flat_succ ls)
 have HE:=Lib.hid (flat_le ls)
 have HA:Hid ((ls.take ls.length).flatten=ls.flatten):=Lib.hid (by rw [List.take_length])
 obtain ⟨n,hn⟩:∃ n,n=ls.length:=⟨_,rfl⟩
 rw [←hn] at hls HA ⊢
 have HN:=Lib.hid hn; clear hn hlen
 go_enter Tryz.func234,Tryz.ntmps234
 go_wp2
 go_loopw [3,11] (fun z i wr=>∃ k:Nat,k≤n∧i=.int .i64 k∧z=.int .i64 ((ls.take k).flatten.length:Nat)∧w=wr) (fun _ i _=>n - (intOf i).toNat)
 case atStart=>exact ⟨0,by omega,rfl,rfl,rfl⟩
 case round=>
  obtain ⟨k,hk,rfl,rfl,rfl⟩:=hrel
  by_cases hlt:k < n
  ·have hkl:k < ls.length:=by have:=HN.out; omega
   have c1:=HC.out k hkl
   obtain ⟨g,cap,hv,hg,hx⟩:=HR.out k hkl
   rw [hv] at c1
   have ht:=HT.out k hkl
   have he:=HE.out (k+1)
   have HTT:=Lib.hid ht
   have hz:((ls.take (k+1)).flatten).length=((ls.take k).flatten).length+(ls.getD k []).length:=by rw [HTT.out,List.length_append]
   have HZ:=Lib.hid hz
   clear hv hx ht hz
   have hb1:=HZ.out
   generalize (ls.take k).flatten.length=a at hb1 HZ ⊢
   generalize (ls.getD k []).length=b at c1 hb1 HZ
   have hab:a+b≤100:=by omega
   clear hb1 he
   have z1:IntKind.i64.wrap ((a:Int)+(b:Int))=(a:Int)+(b:Int):=IntWalk.i64_in _ (by omega)
   have d1:¬ ((a:Int)+(b:Int)) < 0:=by omega
   go_wp2
   go_roundw
   case rel=>exact ⟨k+1,by omega,by go_num,by rw [HZ.out]; go_num,trivial⟩
   case measure=>simp [intOf]; omega
  ·obtain rfl:n=k:=by omega
   rw [HA.out]
   generalize hN2:ls.flatten.length=N at h0 h100 ⊢
   have HN2:=Lib.hid hN2; clear hN2
   go_wp2_with fail
   refine (grow_any N h0 h100 _).mono ?_
   rintro e W1 ⟨v,rfl,hown,hbel⟩
   go_wp2_with fail
   go_loopw [6,27] (fun v i wr=>∃ j:Nat,j≤n∧i=.int .i64 j∧OwnP w.heap.size ((ls.take j).flatten) v wr∧Below w.heap.size w wr) (fun _ i _=>n - (intOf i).toNat)
   case atStart=>exact ⟨0,by omega,rfl,hown,hbel⟩
   case round=>
    obtain ⟨j,hj,rfl,hown,hbel⟩:=hrel
    by_cases hlt2:j < n
    ·have hjl:j < ls.length:=by have:=HN.out; omega
     have c1:=(hbel.cell (p:=⟨u,j,none⟩) hult).trans (HC.out j hjl)
     obtain ⟨g,cap,hv,hg,hx⟩:=(HR.out j hjl).below hbel
     rw [hv] at c1
     have HTT:=Lib.hid (HT.out j hjl)
     have he:=HE.out (j+1)
     rw [HTT.out,List.length_append,HN2.out] at he
     have hone:=plRow_one (ls.getD j [])
     have hll:=plRow_length (ls.getD j [])
     have hcells:∀ i x,(plRow (ls.getD j []))[i]? = some x→wr.cell? ((⟨g,0,none⟩:Addr).add i)=some x:=fun i x h=>by
      rw [Addr.add_mid,Nat.zero_add]
      exact hx i x h
     clear hv hx
     unfold OwnP at hown
     obtain ⟨X,hX⟩:∃ X,X=(ls.take j).flatten:=⟨_,rfl⟩
     obtain ⟨Y,hY⟩:∃ Y,Y=ls.getD j []:=⟨_,rfl⟩
     rw [←hX] at hown HTT he
     rw [←hY] at c1 HTT he hone hll hcells
     clear hX hY
     have h63:X.length+Y.length≤maxLen:=by unfold maxLen; omega
     have hby:(X.length+Y.length) * 24≤140737488355328:=by omega
     have hsz:=hbel.size
     have HO:=Lib.hid hone; clear hone
     have HLL:=Lib.hid hll; clear hll
     have HCL:=Lib.hid hcells; clear hcells
     clear he hg
     go_wp2_with (first | (at_builtin; refine wpList_append_own _ rfl _ _ 311 rfl w.heap.size 344 ik (.agg #[.nilIface,.int .i64 0]) 2 24 Tryz.underlying311 hik0 hik1 hik2 hik3 rfl (by omega) _ X.length _ rfl hown ⟨g,0,none⟩ Y.length _ (plRow Y) rfl HLL.out HCL.out HO.out h63 hby hsz ?_; intro v' w1 hown1 hgrow hnil))
     go_roundw
     case rel=>
      refine ⟨j+1,by omega,by go_num,?_,hbel.trans (below_own hown hgrow hsz)⟩
      rw [HTT.out]
      unfold OwnP
      rw [plRow_app,List.length_append]
      exact hown1
     case measure=>simp [intOf]; omega
    ·obtain rfl:n=j:=by omega
     rw [HA.out] at hown
     go_wp2
     go_ret
     exact ⟨_,rfl,hown,hbel⟩
end Slt

end Go.Proofs.YtgkbfahflngklaaGreat
