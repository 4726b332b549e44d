import Derived.Test.YtgkbfahflngklaaGreatFld3
import Derived.Test.YtgkbfahflngklaaGreatFld2
import Derived.Test.YtgkbfahflngklaaGreatCrc3
namespace Go.Proofs.YtgkbfahflngklaaGreat.Fld
open Crc
theorem fdone_eq (f: List UInt8) (m: UInt8): fdone f m=(m :: (f ++ List.replicate (255 - f.length) 0)).take 252 ++ be4 (crc ((m :: (f ++ List.replicate (255 - f.length) 0)).take 252)):=rfl
theorem fdone_take (f: List UInt8) (m: UInt8) (j: Nat) (h1: j≤f.length) (h2: j≤251): (fdone f m).take (1+j)=m :: f.take j:=by
 rw [fdone_eq,List.take_append_of_le_length (by simp; omega),List.take_take,Nat.min_eq_left (by omega),Nat.add_comm 1 j,List.take_succ_cons,List.take_append_of_le_length h1]
theorem fdone_zero (f:List UInt8) (m:UInt8) (i:Nat) (h1:1+f.length≤i) (h2:i < 252):(fdone f m)[i]? = some 0:=by
 rw [fdone_eq,List.getElem?_append_left (by simp; omega),List.getElem?_take_of_lt h2]
 obtain ⟨j,rfl⟩:∃ j,i=j+1:=⟨i - 1,by omega⟩
 rw [List.getElem?_cons_succ,List.getElem?_append_right (by omega),List.getElem?_replicate]
 rw [if_pos (by omega)]
theorem fdone_first (f:List UInt8) (m:UInt8):(fdone f m).getD 0 0=m:=by rw [fdone_eq]; rfl
theorem fdone_good (f:List UInt8) (m:UInt8) (h:f.length≤251):sealB (fdone f m)=fdone f m:=sealB_sealB (by rw [List.length_set,fblk_length _ (by omega)])
end Go.Proofs.YtgkbfahflngklaaGreat.Fld
namespace Go.Proofs.YtgkbfahflngklaaGreat.Fld
open Crc
theorem fdone_piece (f:List UInt8) (m:UInt8) (a b:Nat) (h:a+b≤f.length) (hf:f.length≤251):piece (fdone f m) (1+a) b=(f.drop a).take b:=by
 unfold piece
 have h1:=fdone_take f m (a+b) h (by omega)
 have h2:((fdone f m).drop (1+a)).take b=((fdone f m).take (1+(a+b))).drop (1+a):=by
  rw [List.drop_take,show 1+(a+b) - (1+a)=b from by omega]
 rw [h2,h1,Nat.add_comm 1 a,List.drop_succ_cons,List.drop_take,show a+b - a=b from by omega]
theorem leNat_leB:∀ (w n:Nat),leNat (leB n w)=n % 256 ^ w
 | 0,n=>by simp [leB,leNat,Nat.mod_one]
 | w+1,n=>by
  have e:n % 256 ^ (w+1)=n % 256+256 * (n / 256 % 256 ^ w):=by rw [Nat.pow_succ,Nat.mul_comm (256 ^ w) 256,Nat.mod_mul]
  rw [leB_cons,leNat,leNat_leB w (n / 256),UInt8.toNat_ofNat',e]
end Go.Proofs.YtgkbfahflngklaaGreat.Fld
namespace Go.Proofs.YtgkbfahflngklaaGreat.Fld
open Go.RowKit RowLaw Crc
set_option maxRecDepth 100000
section
variable {w:World} {p:Nat} {l:List UInt8} {k:Nat} {b:Bool}
end
theorem blankB_piece_true (l:List UInt8) (k m:Nat) (hl:k+m≤l.length) (h:∀ j (hj:j < l.length),k≤j→j < k+m→l[j]=0):blankB (piece l k m)=true:=by
 unfold blankB
 rw [List.all_eq_true]
 intro u hu
 obtain ⟨j,hj,rfl⟩:=List.mem_iff_getElem.1 hu
 have hjl:=hj
 rw [piece_length l k m hl] at hjl
 rw [piece_get l k m j hl hj,h (k+j) (by omega) (by omega) (by omega)]
 rfl
end Go.Proofs.YtgkbfahflngklaaGreat.Fld
namespace Go.Proofs.YtgkbfahflngklaaGreat.Node
open Go.RowKit RowLaw Crc Fld
set_option maxRecDepth 100000
def lvB (lv:Nat):Bool:=decide (1≤lv∧lv≤3)
def okPs (ps:List Nat):Bool:=ps.all fun n=>decide (n < 1048576)
def okN (lv:Nat) (ps:List Nat):Bool:=okPs ps&&lvB lv
def nodeTo (lv:Nat) (ps:List Nat) (k:Nat):List UInt8:=leB lv 1 ++ (ps.take k).flatMap fun n=>leB n 4
theorem flat_length:∀ ps:List Nat,(ps.flatMap fun n=>leB n 4).length=4 * ps.length
 | []=>rfl
 | p :: ps=>by rw [List.flatMap_cons,List.length_append,leB_length,flat_length ps,List.length_cons]; omega
def putB (lv:Nat) (ps:List Nat):List UInt8:=if okN lv ps=true then fdone (nodeTo lv ps 32) 78 else zeros
def putE (lv:Nat) (ps:List Nat):Int:=if okN lv ps=true then 0 else 2
theorem piece_add (l:List UInt8) (k a b:Nat):piece l k (a+b)=piece l k a ++ piece l (k+a) b:=by
 unfold piece
 rw [List.take_add,List.drop_drop]
theorem leB_leNat:∀ bs:List UInt8,leB (leNat bs) bs.length=bs
 | []=>rfl
 | u :: bs=>by
  rw [List.length_cons,leB_cons,leNat]
  have hu:=u.toNat_lt
  have h1:(u.toNat+256 * leNat bs) / 256=leNat bs:=by omega
  have h2:UInt8.ofNat (u.toNat+256 * leNat bs)=u:=by
   apply UInt8.toNat_inj.1
   rw [UInt8.toNat_ofNat']; omega
  rw [h1,h2,leB_leNat bs]
def lvOf (l:List UInt8):Nat:=leNat (piece l 1 1)
def psTo (l:List UInt8) (k:Nat):List Nat:=(List.range k).map fun i=>leNat (piece l (2+4 * i) 4)
def psOf (l:List UInt8):List Nat:=psTo l 32
theorem take_pieces (l: List UInt8) (hl: l.length=256): l.take 252=l.getD 0 0 :: (piece l 1 129 ++ piece l 130 122):=by
 have h:piece l 0 (1+(129+122))=l.take 252:=by simp [piece]
 rw [←h,piece_add,piece_add]
 have h0:piece l 0 1=[l.getD 0 0]:=by
  unfold piece
  rw [List.drop_zero,show (1:Nat)=0+1 from rfl,List.take_succ_eq_append_getElem (by omega),List.getD_eq_getElem?_getD,List.getElem?_eq_getElem (by omega)]
  rfl
 rw [h0]; rfl
theorem blank_replicate:∀ {l:List UInt8},blankB l=true→l=List.replicate l.length 0
 | [],_=>rfl
 | u :: l,h=>by
  unfold blankB at h
  rw [List.all_cons,Bool.and_eq_true] at h
  rw [List.length_cons,List.replicate_succ,←blank_replicate (l:=l) h.2]
  rw [eq_of_beq h.1]
theorem fset (f: List UInt8) (m: UInt8): (fblk f).set 0 m=m :: (f ++ List.replicate (255 - f.length) 0):=rfl
def isN (l:List UInt8):Bool:=okN (lvOf l) (psOf l)&&decide (fdone (nodeTo (lvOf l) (psOf l) 32) 78=l)
def getE (l:List UInt8):Int:=if isN l=true then 0 else 250
theorem openSt_cases (l:List UInt8) (m:UInt8):openSt l m=some (l,1)∨openSt l m=none:=by
 unfold openSt
 split
 ·exact .inl rfl
 ·exact .inr rfl
def idx (page level:Nat):Nat:=page / 32 ^ (level - 1) % 32
end Go.Proofs.YtgkbfahflngklaaGreat.Node
