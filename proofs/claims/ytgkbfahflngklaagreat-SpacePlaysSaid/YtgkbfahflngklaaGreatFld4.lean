import Derived.Test.YtgkbfahflngklaaGreatFld1
import Derived.Deep.OwnRows
import Derived.RegionTactic
import Derived.IntWalk
import Derived.Deep.RegionWith
import Derived.Test.YtgkbfahflngklaaGreatFld2
import Derived.Test.YtgkbfahflngklaaGreatCrc3
set_option maxRecDepth 100000
set_option maxHeartbeats 1600000
namespace Go.Proofs.YtgkbfahflngklaaGreat
namespace Fld
open Go.RowKit RowLaw Crc
def bcell (u:UInt8):Obj:=.cells #[.int .u8 (u.toNat:Int)] 5
theorem conv_one (W:World) (b:Nat) (u:UInt8) (h:W.cell? ⟨b,0,none⟩=some (.int .u8 (u.toNat:Int))):(convert 331 9 (.slice (some ⟨b,0,none⟩) 1 1)).run Tryz.prog W=.ok (.string ⟨#[u]⟩) W:=
 run_convert_bytes_back (P:=Tryz.prog) W 331 9 5 ⟨b,0,none⟩ 1 [u] Tryz.underlying331 Tryz.underlying5 Tryz.underlying9 (fun j hj=>by
  obtain rfl:j=0:=by simpa using hj
  rw [Addr.add_mid]; exact h)
theorem ret_str {s t:ByteArray} (h:s=t):Ending.returned (.string s)=.returned (.string t):=by rw [h]
theorem cat2 (u: UInt8) (l: List UInt8): ((⟨#[u]⟩: ByteArray) ++ ⟨l.toArray⟩)=⟨(u::l).toArray⟩:=by
 apply ByteArray.ext
 simp
theorem conv_new (W:World) (u:UInt8):(convert 331 9 (.slice (some ⟨W.heap.size,0,none⟩) 1 1)).run Tryz.prog (W.alloc (bcell u))=.ok (.string ⟨#[u]⟩) (W.alloc (bcell u)):=conv_one _ _ u (cell_of_row (W.alloc (bcell u)) W.heap.size 0 _ _ _ (heap_alloc_new _ _))
theorem conv_old (w w1:World) (u:UInt8) (hb:Below (w.alloc (bcell u)).drew.heap.size (w.alloc (bcell u)).drew w1):(convert 331 9 (.slice (some ⟨w.heap.size,0,none⟩) 1 1)).run Tryz.prog w1=.ok (.string ⟨#[u]⟩) w1:=
 conv_one _ _ u ((hb.cell (p:=⟨w.heap.size,0,none⟩) (by simp)).trans (cell_of_row (w.alloc (bcell u)) w.heap.size 0 _ _ _ (heap_alloc_new _ _)))
theorem refNum_any:∀ (m n:Nat) (w:World),m≤8→n < 18446744073709551616→
  Calls Tryz.prog 197 #[.int .u64 (n:Int),.int .i64 (m:Int)] w fun e w'=>e=.returned (.string ⟨(leB n m).toArray⟩)∧Below w.heap.size w w'
 | 0,n,w,_,_=>by
  rw [show ((0:Nat):Int)=0 from rfl]
  go_enter Tryz.func197,Tryz.ntmps197
  go_wp2
  go_ret
  exact ⟨rfl,Below.refl _ _⟩
 | m+1,n,w,hm,hn=>by
  obtain ⟨u,hue⟩:∃ u,u=UInt8.ofNat n:=⟨_,rfl⟩
  have hu:(n:Int) % 256=(u.toNat:Int):=by rw [hue,UInt8.toNat_ofNat']; omega
  obtain ⟨d,hde⟩:∃ d,d=n / 256:=⟨_,rfl⟩
  have hd:(n:Int) / 256=(d:Int):=by omega
  have hdl:d < 18446744073709551616:=by omega
  obtain ⟨M,hM⟩:∃ M,M=m+1:=⟨_,rfl⟩
  have ih:=fun w=>refNum_any m d w (by omega) hdl
  have hul:=u.toNat_lt
  have z2:IntKind.u8.wrap (u.toNat:Int)=(u.toNat:Int):=IntWalk.u8_in _ (by omega)
  have z3:(M:Int) - 1=(m:Int):=by omega
  have z4:IntKind.i64.wrap ((M:Int) - 1)=(m:Int):=by rw [IntWalk.i64_in _ (by omega)]; omega
  have z5:¬ (M:Int)≤0:=by omega
  have z6:(n:Int).tmod 256=(u.toNat:Int):=by rw [Int.tmod_eq_emod_of_nonneg (by omega)]; exact hu
  have z7:IntKind.u64.wrap (d:Int)=(d:Int):=IntWalk.u64_in _ (by omega)
  have z8:IntKind.i64.wrap (m:Int)=(m:Int):=IntWalk.i64_in _ (by omega)
  have hres:=leB_cons n m
  rw [←hue,←hde] at hres
  rw [←hM]
  have hLl:(leB d m).length≤8:=by rw [leB_length]; omega
  obtain ⟨L,hL⟩:∃ L,L=leB d m:=⟨_,rfl⟩
  rw [←hL] at hLl hres
  simp only [←hL] at ih
  have HL:=Lib.hid hL; clear hL
  have HR:=Lib.hid hres; clear hres
  have HI:=Lib.hid ih; clear ih
  have f1:(convert 331 9 (.slice (some ⟨w.heap.size,0,none⟩) 1 1)).run Tryz.prog (w.alloc (bcell u)).drew=.ok (.string ⟨#[u]⟩) (w.alloc (bcell u)).drew:=conv_one _ _ u (cell_of_row (w.alloc (bcell u)) w.heap.size 0 _ _ _ (heap_alloc_new _ _))
  simp only [bcell] at f1
  have HU:=Lib.hid hue; clear hue
  have HD:=Lib.hid hde; clear hde
  have HM:=Lib.hid hM; clear hM
  clear hn hm
  go_enter Tryz.func197,Tryz.ntmps197
  go_wp2
  go_region_with (go_at_call 197; (with_reducible refine (HI.out _).mono ?_); rintro e w1 ⟨rfl,hb⟩; have k2:=conv_new w1 u; have k1:=conv_old w w1 u; simp only [bcell] at k2 k1; (try replace k1:=k1 hb))
  all_goals
   change Exit.then _ _ Exit.normal (Act.put _ (some 4) _) _
   simp only [Act.put]
   go_wp2
   go_ret
   have hm1:=HM.out
   subst hm1
   rw [HR.out]
   refine ⟨ret_str (cat2 u L),?_⟩
   first
    | exact (((Below.refl _ _).alloc (Nat.le_refl _) _).drew).trans (hb.mono (by simp))
    | exact ((Below.refl _ _).drew.trans hb).alloc hb.size _
end Fld
namespace Fld
open Go.RowKit RowLaw Crc
end Fld
namespace Fld
open Go.RowKit RowLaw Crc
def blkTo (m:UInt8) (s:List UInt8) (k:Nat):List UInt8:=(fblk (s.take k)).set 0 m
theorem blkTo_length (m:UInt8) (s:List UInt8) (k:Nat) (h:k≤255):(blkTo m s k).length=256:=by
 unfold blkTo
 rw [List.length_set,fblk_length]
 rw [List.length_take]; omega
theorem blkTo_set (m:UInt8) (s:List UInt8) (k:Nat) (hk:k < s.length) (h:k < 255):(blkTo m s k).set (1+k) s[k]=blkTo m s (k+1):=by
 have ht:(s.take k).length=k:=by rw [List.length_take]; omega
 unfold blkTo fblk
 rw [List.take_succ_eq_append_getElem hk,List.set_cons_zero,List.set_cons_zero,Nat.add_comm 1 k,List.set_cons_succ,List.set_append_right _ _ (by omega),ht,Nat.sub_self,
  show 255 - k=(255 - (k+1))+1 from by omega,List.replicate_succ,List.set_cons_zero,List.length_append,ht,List.append_assoc]
 rfl
theorem refDone_short (str:ByteArray) (s:List UInt8) (hstr:str.data.toList=s) (m:UInt8) (hshort:s.length≤251) (w:World) :
    Calls Tryz.prog 198 #[.int .u8 (m.toNat:Int),.string str] w fun e w'=>e=.returned (.tuple #[.agg (cellsOf (fdone s m)),.int .i64 0])∧Below w.heap.size w w':=by
  have hzv:=(zero_of_info infoBlock).1
  have hi:=sizeBlock zeros zeros_length
  have hsz:str.size=s.length:=by rw [←hstr,Array.length_toList]; rfl
  obtain ⟨n,hn⟩:∃ n,n=str.size:=⟨_,rfl⟩
  have hn251:str.size≤251:=by omega
  have hZ:Holds ((w.alloc (.cells (cellsOf zeros) 39)).alloc (.cells (cellsOf zeros) 39)) (w.heap.size+1) zeros:=heap_alloc2_new w _ _
  have hA:Holds (((w.alloc (.cells (cellsOf zeros) 39)).alloc (.cells (cellsOf zeros) 39)).setRow (w.heap.size+1) (cellsOf zeros)) w.heap.size zeros:=(setRow_other _ _ _ _ (by omega)).trans ((Holds.new w zeros).alloc _)
  have hB:Holds (((w.alloc (.cells (cellsOf zeros) 39)).alloc (.cells (cellsOf zeros) 39)).setRow (w.heap.size+1) (cellsOf zeros)) (w.heap.size+1) zeros:=setRow_heap _ _ _ _ _ _ hZ
  have hb:Below w.heap.size w (((w.alloc (.cells (cellsOf zeros) 39)).alloc (.cells (cellsOf zeros) 39)).setRow (w.heap.size+1) (cellsOf zeros)):=(((Below.refl _ _).alloc (Nat.le_refl _) _).alloc (by simp) _).trans ⟨rfl,rfl,rfl,by simp,fun k hk=>setRow_other _ _ _ _ (by omega)⟩
  have HS:=Lib.hid hsz; clear hsz
  have HT:=Lib.hid hstr; clear hstr
  have HN:=Lib.hid hn; clear hn
  go_enter Tryz.func198,Tryz.ntmps198
  have h251:¬ (252:Int) < 1+(str.size:Int):=by omega
  go_wp2_with (refine wpList_store_row rfl 39 _ _ rfl _ _ rfl rfl _ _ hZ hi rfl (cellsOf_one _) ?_; clear hZ; generalize ((w.alloc (.cells (cellsOf zeros) 39)).alloc (.cells (cellsOf zeros) 39)).setRow (w.heap.size+1) (cellsOf zeros)=W at hA hB hb ⊢; have cB:=hB.cell 0 (by rw [zeros_length]; omega); have fB:=hB.frozen 0; have hB2:=hB.set_ 0 m; have hA2:=hA.other ⟨w.heap.size+1,0,none⟩ (.int .u8 (m.toNat:Int)) (by simp); have hb2:=hb.setCell (p:=⟨w.heap.size+1,0,none⟩) (by simp) (.int .u8 (m.toNat:Int)))
  clear hA hB hb cB fB
  go_loopw [7] (fun i wr=>∃ k:Nat,k≤str.size∧i=.int .i64 k∧Holds wr (w.heap.size+1) (blkTo m s k)∧Holds wr w.heap.size zeros∧Below w.heap.size w wr) (fun i _=>str.size - (intOf i).toNat)
  case atStart=>exact ⟨0,by omega,rfl,hB2,hA2,hb2⟩
  case round=>
    obtain ⟨k,hk,rfl,hB3,hA3,hb3⟩:=hrel
    clear hA2 hB2 hb2
    by_cases hlt:k < str.size
    · have hsl:k < s.length:=by rw [←HS.out]; exact hlt
      have hchar:s[k]=str[k]:=by
        have:=HT.out
        subst this
        rfl
      have hbl:=blkTo_length m s k (by omega)
      have hset:=blkTo_set m s k hsl (by omega)
      have hB4:=hB3.set_ (1+k) str[k]
      rw [←hchar,hset,hchar] at hB4
      have hA4:=hA3.other ⟨w.heap.size+1,1+k,none⟩ (.int .u8 (str[k].toNat:Int)) (by simp)
      have hb4:=hb3.setCell (p:=⟨w.heap.size+1,1+k,none⟩) (by simp) (.int .u8 (str[k].toNat:Int))
      obtain ⟨v,c⟩:∃ v,wr.cell? ⟨w.heap.size+1,1+k,none⟩=some v:=⟨_,hB3.cell (1+k) (by omega)⟩
      have f:=hB3.frozen (1+k)
      clear hset hchar hbl
      go_wp2_with fail
      go_roundw
      case rel=>exact ⟨k+1,by omega,by go_num,hB4,hA4,hb4⟩
      case measure=>simp [intOf]; omega
    · obtain rfl:k=str.size:=by omega
      have hfull:blkTo m s str.size=(fblk s).set 0 m:=by unfold blkTo; rw [HS.out,List.take_length]
      rw [hfull] at hB3
      have hl1:((fblk s).set 0 m).length=256:=by rw [List.length_set,fblk_length _ (by rw [←HS.out]; omega)]
      have hi2:=sizeBlock _ hl1
      have hi3:=sizeBlock _ (sealB_length hl1)
      have hzz:(cellsOf zeros).size=(cellsOf (sealB ((fblk s).set 0 m))).size:=by rw [cellsOf_size,cellsOf_size,sealB_length hl1,zeros_length]
      have HL:=Lib.hid hl1; clear hl1 hfull
      go_wp2_with (first
        | (refine wpList_load_row rfl 39 _ rfl _ rfl _ _ _ _ hB3 Tryz.underlying39 rfl hi2 ?_)
        | (go_at_call 233; (with_reducible refine (refSeal_any _ HL.out _).mono ?_); rintro e W3 ⟨rfl,hb5⟩; replace hA3:=hA3.below hb5 hA3.lt; replace hb3:=hb3.trans (hb5.mono hb3.size); clear hb5)
        | (refine wpList_store_row rfl 39 _ _ rfl _ _ rfl rfl _ _ hA3 hi3 hzz (cellsOf_one _) ?_))
      refine bodyPost_ret (results_row_tmp rfl _ _ _ _ _ _ _ rfl (setRow_heap W3 _ _ _ _ _ hA3) Tryz.underlying39 rfl hi3) rfl ⟨rfl,?_⟩
      exact Below.trans hb3 ⟨rfl,rfl,rfl,by simp,fun k hk=>setRow_other W3 _ _ _ (by omega)⟩
end Fld
namespace Fld
open Go.RowKit RowLaw Crc
theorem fdone_length (f:List UInt8) (m:UInt8) (h:f.length≤251):(fdone f m).length=256:=sealB_length (by rw [List.length_set,fblk_length _ (by omega)])
end Fld
namespace Fld
open Crc
theorem fdone_eq (f: List UInt8) (m: UInt8): fdone f m=(m::(f ++ List.replicate (255 - f.length) 0)).take 252 ++ be4 (crc ((m::(f ++ List.replicate (255 - f.length) 0)).take 252)):=rfl
theorem fdone_take (f: List UInt8) (m: UInt8) (j: Nat) (h1: j≤f.length) (h2: j≤251): (fdone f m).take (1+j)=m::f.take j:=by
 rw [fdone_eq,List.take_append_of_le_length (by simp; omega),List.take_take,Nat.min_eq_left (by omega),Nat.add_comm 1 j,List.take_succ_cons,List.take_append_of_le_length h1]
theorem fdone_zero (f:List UInt8) (m:UInt8) (i:Nat) (h1:1+f.length≤i) (h2:i < 252):(fdone f m)[i]? = some 0:=by
 rw [fdone_eq,List.getElem?_append_left (by simp; omega),List.getElem?_take_of_lt h2]
 obtain ⟨j,rfl⟩:∃ j,i=j+1:=⟨i - 1,by omega⟩
 rw [List.getElem?_cons_succ,List.getElem?_append_right (by omega),List.getElem?_replicate]
 rw [if_pos (by omega)]
theorem fdone_first (f:List UInt8) (m:UInt8):(fdone f m).getD 0 0=m:=by rw [fdone_eq]; rfl
theorem fdone_good (f:List UInt8) (m:UInt8) (h:f.length≤251):sealB (fdone f m)=fdone f m:=sealB_sealB (by rw [List.length_set,fblk_length _ (by omega)])
end Fld
namespace Fld
open Crc
theorem fdone_piece (f:List UInt8) (m:UInt8) (a b:Nat) (h:a+b≤f.length) (hf:f.length≤251):piece (fdone f m) (1+a) b=(f.drop a).take b:=by
 unfold piece
 have h1:=fdone_take f m (a+b) h (by omega)
 have h2:((fdone f m).drop (1+a)).take b=((fdone f m).take (1+(a+b))).drop (1+a):=by
  rw [List.drop_take,show 1+(a+b) - (1+a)=b from by omega]
 rw [h2,h1,Nat.add_comm 1 a,List.drop_succ_cons,List.drop_take,show a+b - a=b from by omega]
theorem leNat_leB:∀ (w n:Nat),leNat (leB n w)=n % 256 ^ w
 | 0,n=>by simp [leB,leNat,Nat.mod_one]
 | w+1,n=>by
  have e:n % 256 ^ (w+1)=n % 256+256 * (n / 256 % 256 ^ w):=by rw [Nat.pow_succ,Nat.mul_comm (256 ^ w) 256,Nat.mod_mul]
  rw [leB_cons,leNat,leNat_leB w (n / 256),UInt8.toNat_ofNat',e]
end Fld
namespace Fld
open Go.RowKit RowLaw Crc
section
variable {w:World} {p:Nat} {l:List UInt8} {k:Nat} {b:Bool}
end
theorem blankB_piece_true (l:List UInt8) (k m:Nat) (hl:k+m≤l.length) (h:∀ j (hj:j < l.length),k≤j→j < k+m→l[j]=0):blankB (piece l k m)=true:=by
 unfold blankB
 rw [List.all_eq_true]
 intro u hu
 obtain ⟨j,hj,rfl⟩:=List.mem_iff_getElem.1 hu
 have hjl:=hj
 rw [piece_length l k m hl] at hjl
 rw [piece_get l k m j hl hj,h (k+j) (by omega) (by omega) (by omega)]
 rfl
end Fld
namespace Node
open Go.RowKit RowLaw Crc Fld
def lvB (lv:Nat):Bool:=decide (1≤lv∧lv≤3)
def okPs (ps:List Nat):Bool:=ps.all fun n=>decide (n < 1048576)
def okN (lv:Nat) (ps:List Nat):Bool:=okPs ps&&lvB lv
def nodeTo (lv:Nat) (ps:List Nat) (k:Nat):List UInt8:=leB lv 1 ++ (ps.take k).flatMap fun n=>leB n 4
theorem flat_length:∀ ps:List Nat,(ps.flatMap fun n=>leB n 4).length=4 * ps.length
 | []=>rfl
 | p::ps=>by rw [List.flatMap_cons,List.length_append,leB_length,flat_length ps,List.length_cons]; omega
def putB (lv:Nat) (ps:List Nat):List UInt8:=if okN lv ps=true then fdone (nodeTo lv ps 32) 78 else zeros
def putE (lv:Nat) (ps:List Nat):Int:=if okN lv ps=true then 0 else 2
theorem piece_add (l:List UInt8) (k a b:Nat):piece l k (a+b)=piece l k a ++ piece l (k+a) b:=by
 unfold piece
 rw [List.take_add,List.drop_drop]
theorem leB_leNat:∀ bs:List UInt8,leB (leNat bs) bs.length=bs
 | []=>rfl
 | u::bs=>by
  rw [List.length_cons,leB_cons,leNat]
  have hu:=u.toNat_lt
  have h1:(u.toNat+256 * leNat bs) / 256=leNat bs:=by omega
  have h2:UInt8.ofNat (u.toNat+256 * leNat bs)=u:=by
   apply UInt8.toNat_inj.1
   rw [UInt8.toNat_ofNat']; omega
  rw [h1,h2,leB_leNat bs]
def lvOf (l:List UInt8):Nat:=leNat (piece l 1 1)
def psTo (l:List UInt8) (k:Nat):List Nat:=(List.range k).map fun i=>leNat (piece l (2+4 * i) 4)
def psOf (l:List UInt8):List Nat:=psTo l 32
theorem take_pieces (l: List UInt8) (hl: l.length=256): l.take 252=l.getD 0 0::(piece l 1 129 ++ piece l 130 122):=by
 have h:piece l 0 (1+(129+122))=l.take 252:=by simp [piece]
 rw [←h,piece_add,piece_add]
 have h0:piece l 0 1=[l.getD 0 0]:=by
  unfold piece
  rw [List.drop_zero,show (1:Nat)=0+1 from rfl,List.take_succ_eq_append_getElem (by omega),List.getD_eq_getElem?_getD,List.getElem?_eq_getElem (by omega)]
  rfl
 rw [h0]; rfl
theorem blank_replicate:∀ {l:List UInt8},blankB l=true→l=List.replicate l.length 0
 | [],_=>rfl
 | u::l,h=>by
  unfold blankB at h
  rw [List.all_cons,Bool.and_eq_true] at h
  rw [List.length_cons,List.replicate_succ,←blank_replicate (l:=l) h.2]
  rw [eq_of_beq h.1]
theorem fset (f: List UInt8) (m: UInt8): (fblk f).set 0 m=m::(f ++ List.replicate (255 - f.length) 0):=rfl
def isN (l:List UInt8):Bool:=okN (lvOf l) (psOf l)&&decide (fdone (nodeTo (lvOf l) (psOf l) 32) 78=l)
def getE (l:List UInt8):Int:=if isN l=true then 0 else 250
theorem openSt_cases (l:List UInt8) (m:UInt8):openSt l m=some (l,1)∨openSt l m=none:=by
 unfold openSt
 split
 ·exact .inl rfl
 ·exact .inr rfl
def idx (page level:Nat):Nat:=page / 32 ^ (level - 1) % 32
end Node

end Go.Proofs.YtgkbfahflngklaaGreat
