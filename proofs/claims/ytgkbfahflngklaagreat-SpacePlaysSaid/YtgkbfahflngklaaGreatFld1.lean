import Derived.Test.YtgkbfahflngklaaGreatCrc3
import Derived.Lib.Hide
import Derived.Defers
import Derived.Scope
import Derived.WalkMore
import Derived.ScopeJumps
import Derived.StillTailTactics
import Derived.BigQuiet
import Derived.IntWalk
import Derived.Laws.IdiomCopy
import Derived.Deep.MidRow
set_option maxRecDepth 100000
set_option maxHeartbeats 1600000
namespace Go.Proofs.YtgkbfahflngklaaGreat
namespace Fld
open Go.RowKit RowLaw Crc
def objCells (l:List UInt8) (at_:Nat):Array Value:=cellsOf l ++ #[.int .i64 (at_:Int)]
theorem objCells_size (l:List UInt8) (k:Nat):(objCells l k).size=l.length+1:=by unfold objCells; rw [Array.size_append,cellsOf_size]; rfl
theorem objCells_byte (l:List UInt8) (k j:Nat) (h:j < l.length):(objCells l k)[j]? = some (.int .u8 (l[j].toNat:Int)):=by
 unfold objCells
 rw [Array.getElem?_append_left (by rw [cellsOf_size]; exact h),cellsOf_get l j h]
theorem objCells_at (l:List UInt8) (k:Nat) (h:l.length=256):(objCells l k)[256]? = some (.int .i64 (k:Int)):=by
 unfold objCells
 rw [Array.getElem?_append_right (by rw [cellsOf_size]; omega),cellsOf_size,h]; rfl
theorem objCells_setByte (l:List UInt8) (k j:Nat) (u:UInt8) (h:j < l.length):(objCells l k).setIfInBounds j (.int .u8 (u.toNat:Int))=objCells (l.set j u) k:=by
 unfold objCells
 rw [Array.setIfInBounds_append_left (by rw [cellsOf_size]; exact h),cellsOf_set]
theorem objCells_setAt (l:List UInt8) (k k':Nat) (h:l.length=256):(objCells l k).setIfInBounds 256 (.int .i64 (k':Int))=objCells l k':=by
 unfold objCells
 rw [Array.setIfInBounds_append_right (by rw [cellsOf_size]; omega),cellsOf_size,h]; rfl
def IsObj (T:TypeId) (w:World) (p:Nat) (l:List UInt8) (k:Nat):Prop:=w.heap[p]? = some (.cells (objCells l k) T (0,0))
section
variable {T:TypeId} {w:World} {p:Nat} {l:List UInt8} {k:Nat}
theorem IsObj.lt (h:IsObj T w p l k):p < w.heap.size:=by
 rcases Nat.lt_or_ge p w.heap.size with hlt | hge
 ·exact hlt
 ·unfold IsObj at h; rw [Array.getElem?_eq_none hge] at h; cases h
theorem IsObj.byte (h:IsObj T w p l k) (j:Nat) (hj:j < l.length):w.cell? ⟨p,j,none⟩=some (.int .u8 (l[j].toNat:Int)):=
 (cell_of_row w p j _ _ _ h).trans (objCells_byte l k j hj)
theorem IsObj.pos (h:IsObj T w p l k) (hl:l.length=256):w.cell? ⟨p,256,none⟩=some (.int .i64 (k:Int)):=
 (cell_of_row w p 256 _ _ _ h).trans (objCells_at l k hl)
theorem IsObj.frozen (h:IsObj T w p l k) (j:Nat):w.frozen? ⟨p,j,none⟩=false:=frozen_of_row w p j _ _ h
theorem IsObj.setByte (h:IsObj T w p l k) (j:Nat) (u:UInt8) (hj:j < l.length):IsObj T (w.setCell ⟨p,j,none⟩ (.int .u8 (u.toNat:Int))) p (l.set j u) k:=by
 unfold IsObj
 rw [←objCells_setByte l k j u hj]
 exact heap_setCell_same w p j _ _ _ h
theorem IsObj.setPos (h:IsObj T w p l k) (hl:l.length=256) (k':Nat):IsObj T (w.setCell ⟨p,256,none⟩ (.int .i64 (k':Int))) p l k':=by
 unfold IsObj
 rw [←objCells_setAt l k k' hl]
 exact heap_setCell_same w p 256 _ _ _ h
theorem IsObj.other (h:IsObj T w p l k) (a:Addr) (v:Value) (ha:p≠a.block):IsObj T (w.setCell a v) p l k:=(heap_setCell_other w a p v ha).trans h
theorem IsObj.alloc (h:IsObj T w p l k) (o:Obj):IsObj T (w.alloc o) p l k:=(Below.heap_alloc w o p h.lt).trans h
theorem IsObj.below {B:Nat} {w':World} (h:IsObj T w p l k) (hb:Below B w w') (hB:p < B):IsObj T w' p l k:=(hb.block p hB).trans h
theorem IsObj.new (w:World) (T:TypeId) (l:List UInt8) (k:Nat):IsObj T (w.alloc (.cells (objCells l k) T)) w.heap.size l k:=heap_alloc_new w _
end
structure Apart (p:Nat) (w w':World):Prop where
 os:w'.os=w.os
 tape:w'.tape=w.tape
 output:w'.output=w.output
 size:w.heap.size≤w'.heap.size
 block:∀ k,k < w.heap.size→k≠p→w'.heap[k]? = w.heap[k]?
theorem Apart.refl (p:Nat) (w:World):Apart p w w:=⟨rfl,rfl,rfl,Nat.le_refl _,fun _ _ _=>rfl⟩
theorem Apart.trans {p:Nat} {a b c:World} (h:Apart p a b) (k:Apart p b c):Apart p a c:=
 ⟨k.os.trans h.os,k.tape.trans h.tape,k.output.trans h.output,Nat.le_trans h.size k.size,fun i hi hp=>(k.block i (Nat.lt_of_lt_of_le hi h.size) hp).trans (h.block i hi hp)⟩
theorem Apart.of_below {p:Nat} {w w':World} (h:Below w.heap.size w w'):Apart p w w':=⟨h.os,h.tape,h.output,h.size,fun k hk _=>h.block k hk⟩
theorem Apart.below {p B:Nat} {w w':World} (h:Apart p w w') (hp:B≤p) (hw:B≤w.heap.size):Below B w w':=
 ⟨h.os,h.tape,h.output,h.size,fun k hk=>h.block k (by omega) (by omega)⟩
theorem Apart.alloc {p:Nat} {a w:World} (h:Apart p a w) (o:Obj):Apart p a (w.alloc o):=h.trans (Apart.of_below ((Below.refl _ _).alloc (Nat.le_refl _) o))
theorem Apart.set_ {p:Nat} {a w:World} (h:Apart p a w) (j:Nat) (v:Value):Apart p a (w.setCell ⟨p,j,none⟩ v):=
 h.trans ⟨rfl,rfl,rfl,by simp [World.setCell],fun k _ hk=>heap_setCell_other w ⟨p,j,none⟩ k v hk⟩
theorem Apart.own {p:Nat} {a w:World} (h:Apart p a w) (q:Addr) (hq:a.heap.size≤q.block) (v:Value):Apart p a (w.setCell q v):=
 ⟨h.os,h.tape,h.output,Nat.le_trans h.size (by simp [World.setCell]),fun k hk hp=>(heap_setCell_other w q k v (by omega)).trans (h.block k hk hp)⟩
theorem Apart.cell {p:Nat} {w w':World} (h:Apart p w w') {q:Addr} (hq:q.block < w.heap.size) (hp:q.block≠p):w'.cell? q=w.cell? q:=World.cell?_of_block (w:=w) (h.block q.block hq hp)
theorem Apart.frozen {p:Nat} {w w':World} (h:Apart p w w') {q:Addr} (hq:q.block < w.heap.size) (hp:q.block≠p):w'.frozen? q=w.frozen? q:=World.frozen?_of_block (w:=w) (h.block q.block hq hp)
theorem holds_apart {w w':World} {p b:Nat} {l:List UInt8} (h:Holds w b l) (ha:Apart p w w') (hp:b≠p):Holds w' b l:=(ha.block b h.lt hp).trans h
theorem ret_bool {a b:Bool} (h:a=b):Ending.returned (.bool a)=.returned (.bool b):=by rw [h]
def fitB (at_ size:Nat):Bool:=decide (at_≠0∧size≠0∧at_+size≤252)
theorem fits_any (a s:Nat) (ha:a≤252) (hs:s≤252) (w:World) :
  Calls Tryz.prog 260 #[.int .i64 (a:Int),.int .i64 (s:Int)] w fun e w'=>e=.returned (.bool (fitB a s))∧w=w':=by
 by_cases h1:(a:Int)=0
 ·go_enter Tryz.func260,Tryz.ntmps260
  go_wp2
  go_ret
  exact ⟨by rw [show fitB a s=false from decide_eq_false (by omega)]; rfl,rfl⟩
 ·by_cases h2:(s:Int)=0
  ·have d1:((a:Int) != 0)=true:=by simp; omega
   go_enter Tryz.func260,Tryz.ntmps260
   go_wp2
   go_ret
   exact ⟨by rw [show fitB a s=false from decide_eq_false (by omega)]; rfl,rfl⟩
  ·have d1:((a:Int) != 0)=true:=by simp; omega
   have d2:((s:Int) != 0)=true:=by simp; omega
   go_enter Tryz.func260,Tryz.ntmps260
   go_wp2
   go_ret
   exact ⟨ret_bool (decide_eq_decide.2 (by omega)),rfl⟩
def numSz (width:Int):Nat:=if width=1∨width=2∨width=4∨width=8 then width.toNat else 0
theorem numSz_le (width:Int):numSz width≤8:=by unfold numSz; split <;> omega
theorem numSize_any (width:Int) (w:World) :
  Calls Tryz.prog 239 #[.int .i64 width] w fun e w'=>e=.returned (.int .i64 (numSz width:Int))∧w=w':=by
 by_cases h1:width=1
 ·subst h1
  go_enter Tryz.func239,Tryz.ntmps239
  go_wp2
  go_ret
  exact ⟨rfl,rfl⟩
 ·by_cases h2:width=2
  ·subst h2
   go_enter Tryz.func239,Tryz.ntmps239
   go_wp2
   go_ret
   exact ⟨rfl,rfl⟩
  ·by_cases h4:width=4
   ·subst h4
    go_enter Tryz.func239,Tryz.ntmps239
    go_wp2
    go_ret
    exact ⟨rfl,rfl⟩
   ·by_cases h8:width=8
    ·subst h8
     go_enter Tryz.func239,Tryz.ntmps239
     go_wp2
     go_ret
     exact ⟨rfl,rfl⟩
    ·have b1:(width == 1)=false:=by simp [h1]
     have b2:(width == 2)=false:=by simp [h2]
     have b4:(width == 4)=false:=by simp [h4]
     have b8:(width == 8)=false:=by simp [h8]
     go_enter Tryz.func239,Tryz.ntmps239
     go_wp2
     go_ret
     exact ⟨by rw [show numSz width=0 from if_neg (by omega)]; rfl,rfl⟩
def widthB (width:Int):Bool:=decide (width=1∨width=2∨width=4∨width=8)
theorem widthB_iff (width:Int):widthB width=true↔numSz width≠0:=by
 unfold widthB numSz
 rw [decide_eq_true_iff]
 split <;> omega
end Fld
namespace Fld
open Go.RowKit RowLaw Crc
def leB (n m:Nat):List UInt8:=(List.range m).map fun j=>UInt8.ofNat (n / 256 ^ j)
theorem leB_length (n m:Nat):(leB n m).length=m:=by simp [leB]
theorem leB_succ (n m:Nat):leB n (m+1)=leB n m ++ [UInt8.ofNat (n / 256 ^ m)]:=by simp [leB,List.range_succ]
theorem leB_cons (n m: Nat): leB n (m+1)=UInt8.ofNat n::leB (n / 256) m:=by
 apply List.ext_getElem
 ·simp [leB_length]
 ·intro i h1 h2
  cases i with
  | zero=>simp [leB]
  | succ i=>
   simp only [leB,List.getElem_map,List.getElem_range,List.getElem_cons_succ]
   rw [Nat.pow_succ,Nat.mul_comm,Nat.div_div_eq_div_mul]
def lay (l:List UInt8) (off:Nat) (bs:List UInt8):List UInt8:=l.take off ++ (bs ++ l.drop (off+bs.length))
theorem lay_nil (l:List UInt8) (off:Nat):lay l off []=l:=by simp [lay]
theorem lay_length (l:List UInt8) (off:Nat) (bs:List UInt8) (h:off+bs.length≤l.length):(lay l off bs).length=l.length:=by
 simp [lay]; omega
theorem lay_snoc (l:List UInt8) (off:Nat) (bs:List UInt8) (u:UInt8) (h:off+bs.length < l.length):(lay l off bs).set (off+bs.length) u=lay l off (bs ++ [u]):=by
 unfold lay
 have ht:(l.take off).length=off:=by simp; omega
 rw [List.set_append_right _ _ (by omega),ht,show off+bs.length - off=bs.length from by omega,List.set_append_right _ _ (by omega),Nat.sub_self,
  List.drop_eq_getElem_cons h,List.set_cons_zero]
 simp [Nat.add_assoc]
theorem byte_at (n k:Nat):(n:Int) / 2 ^ (8 * k) % 256=((UInt8.ofNat (n / 256 ^ k)).toNat:Int):=by
 rw [UInt8.toNat_ofNat',show (256:Nat) ^ k=2 ^ (8 * k) from by rw [Nat.pow_mul]]
 have h:((n:Int) / 2 ^ (8 * k))=((n / 2 ^ (8 * k):Nat):Int):=by rw [Int.natCast_ediv]; congr 1
 rw [h]; rfl
theorem split_any (T:TypeId) (p off m cap:Nat) (l:List UInt8) (k n:Nat) (hl:l.length=256) (hm:m≤8) (hoff:off+m≤256) (w:World) (hw:IsObj T w p l k) :
  Calls Tryz.prog 241 #[.int .u64 (n:Int),.slice (some ⟨p,off,none⟩) m cap] w fun e w'=>e=.returned (.tuple #[])∧IsObj T w' p (lay l off (leB n m)) k∧Apart p w w':=by
 go_enter Tryz.func241,Tryz.ntmps241
 go_wp2
 refine wp_scope_jumps 0 (fun a' w'=>∃ (i:Nat) (u5 u6 u7 u8 u9 u10 u11 u12 u13 u14 u15 u16 u17 u18:Value),i≤m∧a'={ tmps:=#[.int .u64 (n:Int),.slice (some ⟨p,off,none⟩) m cap,undef,undef,.int .i64 (i:Int),u5,u6,u7,u8,u9,u10,u11,u12,u13,u14,u15,u16,u17,u18],defers:=[] }∧IsObj T w' p (lay l off (leB n i)) k∧Apart p w w') (fun a' _=>m - (intOf (a'.tmps.getD 4 undef)).toNat) rfl ?_ ?_
 ·go_wp2
  go_step3
  by_cases hlt:0 < m
  ·have hc:=hw.byte off (by omega)
   have hf:=hw.frozen off
   have ho:=hw.setByte off (UInt8.ofNat (n / 256 ^ 0)) (by omega)
   rw [←byte_at n 0] at ho
   have hs:=lay_snoc l off [] (UInt8.ofNat (n / 256 ^ 0)) (by simp; omega)
   rw [lay_nil,List.length_nil,Nat.add_zero] at hs
   rw [hs] at ho
   have hl1:=leB_succ n 0
   clear hs
   go_wp2
   go_step3
   refine ⟨rfl,1,_,_,_,_,_,_,_,_,_,_,_,_,_,_,by omega,rfl,?_,(Apart.refl _ _).set_ _ _⟩
   rw [hl1,show leB n 0=[] from rfl]
   simpa using ho
  ·obtain rfl:m=0:=by omega
   go_wp2
   simp only [Exit.jump]
   go_end0
   exact ⟨rfl,by rw [show leB n 0=[] from rfl,lay_nil]; exact hw,Apart.refl _ _⟩
 ·rintro a' w1 ⟨i,u5,u6,u7,u8,u9,u10,u11,u12,u13,u14,u15,u16,u17,u18,hi,rfl,ho,ha⟩
  have hlen:=lay_length l off (leB n i) (by rw [leB_length]; omega)
  by_cases hlt:i < m
  ·have hc:=ho.byte (off+i) (by omega)
   have hf:=ho.frozen (off+i)
   have ho2:=ho.setByte (off+i) (UInt8.ofNat (n / 256 ^ i)) (by omega)
   have hs:=lay_snoc l off (leB n i) (UInt8.ofNat (n / 256 ^ i)) (by rw [leB_length]; omega)
   rw [leB_length,←leB_succ] at hs
   rw [hs,←byte_at] at ho2
   clear hs
   go_wp2
   go_step3
   refine ⟨rfl,⟨i+1,_,_,_,_,_,_,_,_,_,_,_,_,_,_,by omega,rfl,ho2,ha.set_ _ _⟩,?_⟩
   simp [intOf]
   omega
  ·obtain rfl:i=m:=by omega
   go_wp2
   simp only [Exit.jump]
   go_end0
   exact ⟨rfl,ho,ha⟩
end Fld
namespace Fld
open Go.RowKit RowLaw Crc
theorem num1_any (T:TypeId) (p off m cap:Nat) (l:List UInt8) (k n:Nat) (q:Addr) (hl:l.length=256) (hm:m≤8) (hoff:off+m≤256) (w:World) (hw:IsObj T w p l k) (hq:w.cell? q=some (.int .u64 (n:Int))) :
  Calls Tryz.prog 240 #[.slice (some ⟨p,off,none⟩) m cap,.pointer (some q)] w fun e w'=>e=.returned (.bool true)∧IsObj T w' p (lay l off (leB n m)) k∧Apart p w w':=by
 go_enter Tryz.func240,Tryz.ntmps240
 go_wp2_with (go_at_call 241; refine (split_any T p off m cap l k n hl hm hoff _ hw).mono ?_; rintro e W1 ⟨rfl,ho,ha⟩)
 go_ret
 exact ⟨rfl,ho,ha⟩
theorem fin_ok (q r:Addr) (u:FrameMode) (w:World) (hq:w.cell? q=some (.bool true)) :
  CallsD Tryz.prog 259 #[.pointer (some q),.pointer (some r)] u w fun e u' w'=>u'=u∧e=.returned (.tuple #[])∧w'=w:=by
 go_enter_d Tryz.func259,Tryz.ntmps259
 go_wp2
 go_end0
 exact ⟨rfl,rfl⟩
theorem fin_no (q r:Addr) (p:Nat) (x:Value) (u:FrameMode) (w:World) (hq:w.cell? q=some (.bool false)) (hr:w.cell? r=some (.pointer (some ⟨p,0,none⟩))) (hc:w.cell? ⟨p,256,none⟩=some x) (hf:w.frozen? ⟨p,256,none⟩=false) :
  CallsD Tryz.prog 259 #[.pointer (some q),.pointer (some r)] u w fun e u' w'=>u'=u∧e=.returned (.tuple #[])∧w'=w.setCell ⟨p,256,none⟩ (.int .i64 0):=by
 go_enter_d Tryz.func259,Tryz.ntmps259
 go_wp2
 go_end0
 exact ⟨rfl,rfl⟩
theorem fits_as (a s:Nat) (b:Bool) (hb:fitB a s=b) (ha:a≤252) (hs:s≤252) (w:World) :
  Calls Tryz.prog 260 #[.int .i64 (a:Int),.int .i64 (s:Int)] w fun e w'=>e=.returned (.bool b)∧w'=w:=
 (fits_any a s ha hs w).mono fun _ _ ⟨he,hw⟩=>⟨by rw [he,hb],hw.symm⟩
structure AddBox (T:TypeId) (w:World) (p:Nat) (l:List UInt8) (k:Nat) (ok:Bool) (W:World):Prop where
 obj:IsObj T W p l k
 ptr:W.cell? ⟨w.heap.size,0,none⟩=some (.pointer (some ⟨p,0,none⟩))
 res:W.cell? ⟨w.heap.size+1,0,none⟩=some (.bool ok)
 resf:W.frozen? ⟨w.heap.size+1,0,none⟩=false
 apart:Apart p w W
 size:w.heap.size+2≤W.heap.size
theorem AddBox.start {T:TypeId} {w:World} {p:Nat} {l:List UInt8} {k:Nat} (h:IsObj T w p l k) (t u:TypeId) :
  AddBox T w p l k false ((w.alloc (.cells #[.pointer (some ⟨p,0,none⟩)] t)).alloc (.cells #[.bool false] u)):=
 ⟨(h.alloc _).alloc _,by go_simp,by go_simp,by go_simp,((Apart.refl _ _).alloc _).alloc _,by simp⟩
theorem AddBox.step {T:TypeId} {w W W':World} {p:Nat} {l l':List UInt8} {k k':Nat} {ok:Bool} (h:AddBox T w p l k ok W) (hp:p < w.heap.size) (ho:IsObj T W' p l' k') (ha:Apart p W W'):AddBox T w p l' k' ok W':=
 have hs:=h.size
 ⟨ho,(ha.cell (q:=⟨w.heap.size,0,none⟩) (by simp; omega) (by simp; omega)).trans h.ptr,(ha.cell (q:=⟨w.heap.size+1,0,none⟩) (by simp; omega) (by simp; omega)).trans h.res,
  (ha.frozen (q:=⟨w.heap.size+1,0,none⟩) (by simp; omega) (by simp; omega)).trans h.resf,h.apart.trans ha,Nat.le_trans hs ha.size⟩
theorem AddBox.setRes {T:TypeId} {w W:World} {p:Nat} {l:List UInt8} {k:Nat} {ok:Bool} (h:AddBox T w p l k ok W) (hp:p < w.heap.size) (b:Bool):AddBox T w p l k b (W.setCell ⟨w.heap.size+1,0,none⟩ (.bool b)):=
 have hs:=h.size
 ⟨h.obj.other _ _ (by simp; omega),(World.cell?_setCell_other W _ _ _ (by simp)).trans h.ptr,World.cell?_setCell_same' W _ _ (by rw [h.res]; rfl),by rw [World.frozen?_setCell]; exact h.resf,h.apart.own _ (by simp) _,by simp [World.setCell]; omega⟩
theorem add_no (p sz:Nat) (l:List UInt8) (k:Nat) (fv:Value) (hl:l.length=256) (hk:k≤252) (hs:sz≤252) (hfit:fitB k sz=false) (w:World) (hw:IsObj 340 w p l k) :
  Calls Tryz.prog 238 #[.pointer (some ⟨p,0,none⟩),.int .i64 (sz:Int),fv] w fun e w'=>e=.returned (.bool false)∧IsObj 340 w' p l 0∧Apart p w w':=by
 have hmf:∀ (fn:Fn) (first cap:Array Value) (w:World),(Instr.makeFunc fn first cap).run Tryz.prog w=.ok (.func fn first cap) w:=fun _ _ _ _=>rfl
 have hb:=AddBox.start hw 308 4
 have hlt:=hw.lt
 go_enter_defers Tryz.func238,Tryz.ntmps238
 go_wp2
 generalize (w.alloc (.cells #[.pointer (some ⟨p,0,none⟩)] 308)).alloc (.cells #[.bool false] 4)=W at hb ⊢
 have c1:=hb.ptr
 have c2:=hb.res
 have f2:=hb.resf
 have c3:=hb.obj.pos hl
 go_quiet ((go_at_call 260; exact Calls.quiet_of_same (fits_as k sz false hfit hk hs _)))
 go_wp2
 replace hb:AddBox 340 w p l k false ((W.drewN nq).setCell ⟨w.heap.size+1,0,none⟩ (.bool false)):=(hb.step hlt (W':=W.drewN nq) hb.obj ⟨rfl,rfl,rfl,Nat.le_refl _,fun _ _ _=>rfl⟩).setRes hlt false
 generalize (W.drewN nq).setCell ⟨w.heap.size+1,0,none⟩ (.bool false)=W2 at hb ⊢
 refine leaves_cons (f:=259) (args:=#[.pointer (some ⟨w.heap.size+1,0,none⟩),.pointer (some ⟨w.heap.size,0,none⟩)]) (by simp) (by simp [go_sem]) ?_
 refine (fin_no _ _ p _ .returning _ hb.res hb.ptr (hb.obj.pos hl) (hb.obj.frozen 256)).mono ?_
 rintro e u' w'' ⟨rfl,rfl,rfl⟩
 have ho:=hb.obj.setPos hl 0
 have ha:=hb.apart.set_ 256 (.int .i64 0)
 have hr:=(hb.step hlt ho ((Apart.refl _ _).set_ 256 (.int .i64 0))).res
 generalize W2.setCell ⟨p,256,none⟩ (.int .i64 0)=W3 at hr ho ha ⊢
 exact ⟨_,by simp [results,Tryz.results238,go_sem,hr],rfl,ho,ha⟩
theorem add_yes (p sz:Nat) (l l':List UInt8) (k:Nat) (fid:FuncId) (cap:Array Value) (hl:l.length=256) (hl':l'.length=256) (hfit:fitB k sz=true) (w:World) (hw:IsObj 340 w p l k) (hen:∀ (args:Array Value) (W:World),(callFunc fid args).run Tryz.prog W=.ok (.enter fid args) W)
  (hfill:∀ W:World,IsObj 340 W p l k→Apart p w W→Calls Tryz.prog fid (#[.slice (some ⟨p,k,none⟩) sz (256 - k)] ++ cap) W fun e W'=>e=.returned (.bool true)∧IsObj 340 W' p l' k∧Apart p W W') :
  Calls Tryz.prog 238 #[.pointer (some ⟨p,0,none⟩),.int .i64 (sz:Int),.func (.func fid) #[] cap] w fun e w'=>e=.returned (.bool true)∧IsObj 340 w' p l' (k+sz)∧Apart p w w':=by
 have hmf:∀ (fn:Fn) (first cap:Array Value) (w:World),(Instr.makeFunc fn first cap).run Tryz.prog w=.ok (.func fn first cap) w:=fun _ _ _ _=>rfl
 have hb:=AddBox.start hw 308 4
 have hlt:=hw.lt
 have hk:k≠0∧sz≠0∧k+sz≤252:=of_decide_eq_true hfit
 obtain ⟨hk0,hs0,hks⟩:=hk
 have HF:=Lib.hid hfill; clear hfill
 go_enter_defers Tryz.func238,Tryz.ntmps238
 go_wp2
 generalize (w.alloc (.cells #[.pointer (some ⟨p,0,none⟩)] 308)).alloc (.cells #[.bool false] 4)=W at hb ⊢
 have c1:=hb.ptr
 have c2:=hb.res
 have f2:=hb.resf
 have c3:=hb.obj.pos hl
 have z1:IntKind.i64.wrap ((k:Int)+(sz:Int))=(k:Int)+(sz:Int):=IntWalk.i64_in _ (by omega)
 have z2:((k:Int)+(sz:Int)).toNat=k+sz:=by omega
 have z3:0≤(k:Int)+(sz:Int):=by omega
 have z4:(k:Int)+(sz:Int)≤256:=by omega
 have z5:(k:Int)≤(k:Int)+(sz:Int):=by omega
 have z6:¬ 256=k:=by omega
 refine wp_region_still_tail 23 (by kernel_rfl) (by kernel_rfl) ?_
 simp only [List.take_succ_cons,List.take_zero,List.drop_succ_cons,List.drop_zero]
 repeat still_step
 still_call (fits_as k sz true hfit (by omega) (by omega) _)
 repeat still_step
 refine wpStill_nil ?_
 change wpList _ _ _ _ _ W.drew
 replace hb:=hb.step hlt (W':=W.drew) hb.obj ⟨rfl,rfl,rfl,Nat.le_refl _,fun _ _ _=>rfl⟩
 clear c1 c2 c3 f2
 generalize W.drew=W2 at hb ⊢
 go_wp2_with ((with_reducible refine (HF.out W2 hb.obj hb.apart).mono ?_); rintro e W3 ⟨rfl,ho,ha⟩; clear HF; replace hb:=hb.step hlt ho ha; have c1:=hb.ptr; have c2:=hb.res; have f2:=hb.resf; have c3:=hb.obj.pos hl'; have f3:=hb.obj.frozen 256)
 have ho2:=hb.obj.setPos hl' (k+sz)
 have hb2:=(hb.step hlt ho2 ((Apart.refl _ _).set_ 256 _)).setRes hlt true
 rw [show (((k+sz:Nat):Int))=(k:Int)+(sz:Int) from by omega] at hb2
 generalize ((W3.setCell ⟨p,256,none⟩ (.int .i64 ((k:Int)+(sz:Int)))).setCell ⟨w.heap.size+1,0,none⟩ (.bool true))=W4 at hb2 ⊢
 refine leaves_cons (f:=259) (args:=#[.pointer (some ⟨w.heap.size+1,0,none⟩),.pointer (some ⟨w.heap.size,0,none⟩)]) (by simp) (by simp [go_sem]) ?_
 refine (fin_ok _ _ .returning _ hb2.res).mono ?_
 rintro e u' w'' ⟨rfl,rfl,rfl⟩
 have hr:=hb2.res
 exact ⟨_,by simp [results,Tryz.results238,go_sem,hr],rfl,hb2.obj,hb2.apart⟩
end Fld
namespace Fld
open Go.RowKit RowLaw Crc
def vals (l:List UInt8):List Value:=l.map fun u=>Value.int .u8 (u.toNat:Int)
theorem lay_cons (l: List UInt8) (o: Nat) (u: UInt8) (r: List UInt8) (h: o < l.length): lay (l.set o u) (o+1) r=lay l o (u::r):=by
 unfold lay
 rw [List.take_set,List.take_succ_eq_append_getElem h,List.set_append_right _ _ (by simp; omega),List.drop_set_of_lt (by omega)]
 simp [Nat.min_eq_left (Nat.le_of_lt h),show o+1+r.length=o+(r.length+1) from by omega]
theorem IsObj.setCells {T:TypeId} {p k:Nat}:∀ (bs:List UInt8) {w:World} {l:List UInt8} (o:Nat),IsObj T w p l k→o+bs.length≤l.length→IsObj T (w.setCells p o (vals bs)) p (lay l o bs) k
 | [],w,l,o,h,_=>by rw [lay_nil]; exact h
 | u::r,w,l,o,h,hle=>by
  have hlt:o < l.length:=by simp at hle; omega
  rw [←lay_cons l o u r hlt]
  exact IsObj.setCells r (o+1) (h.setByte o u hlt) (by simp at hle ⊢; omega)
theorem Apart.setCells {p:Nat}:∀ (vs:List Value) {a w:World} (o:Nat),Apart p a w→Apart p a (w.setCells p o vs)
 | [],_,_,_,h=>h
 | v::r,_,_,o,h=>Apart.setCells r (o+1) (h.set_ o v)
end Fld
namespace Fld
open Go.RowKit RowLaw Crc
def fblk (f: List UInt8): List UInt8:=0::(f ++ List.replicate (255 - f.length) 0)
theorem fblk_length (f:List UInt8) (h:f.length≤255):(fblk f).length=256:=by simp [fblk]; omega
theorem fblk_lay (f bs:List UInt8):lay (fblk f) (1+f.length) bs=fblk (f ++ bs):=by
 unfold lay fblk
 rw [Nat.add_comm 1 f.length,List.take_succ_cons,show f.length+1+bs.length=(f.length+bs.length)+1 from by omega,List.drop_succ_cons,List.take_left,List.drop_append,
  List.drop_of_length_le (by omega),List.drop_replicate,List.nil_append]
 simp
 omega
def WIs (w:World) (p:Nat):Option (List UInt8)→Prop
 | some f=>f.length≤251∧IsObj 340 w p (fblk f) (1+f.length)
 | none=>∃ l:List UInt8,l.length=256∧IsObj 340 w p l 0
theorem WIs.lt {w:World} {p:Nat}:∀ {st:Option (List UInt8)},WIs w p st→p < w.heap.size
 | some _,h=>h.2.lt
 | none,⟨_,_,h⟩=>h.lt
theorem WIs.of_block {w w':World} {p:Nat}:∀ {st:Option (List UInt8)},WIs w p st→w'.heap[p]? = w.heap[p]?→WIs w' p st
 | some _,h,e=>⟨h.1,e.trans h.2⟩
 | none,⟨l,hl,h⟩,e=>⟨l,hl,e.trans h⟩
def app:Option (List UInt8)→Option (List UInt8)→Option (List UInt8)
 | some f,some bs=>if f.length+bs.length≤251 then some (f ++ bs) else none
 | _,_=>none
def numBytes (n:Nat) (width:Int):Option (List UInt8):=if widthB width=true then some (leB n (numSz width)) else none
def SomeBool (e:Ending):Prop:=∃ b:Bool,e=.returned (.bool b)
theorem add_any_no (st:Option (List UInt8)) (p sz:Nat) (fv:Value) (hs:sz≤252) (hno:∀ f,st=some f→fitB (1+f.length) sz=false) (w:World) (hw:WIs w p st) :
  Calls Tryz.prog 238 #[.pointer (some ⟨p,0,none⟩),.int .i64 (sz:Int),fv] w fun e w'=>SomeBool e∧WIs w' p none∧Apart p w w':=by
 cases st with
 | none=>
  obtain ⟨l,hl,ho⟩:=hw
  exact (add_no p sz l 0 fv hl (by omega) hs (decide_eq_false (by omega)) w ho).mono fun _ _ ⟨he,h1,h2⟩=>⟨⟨_,he⟩,⟨l,hl,h1⟩,h2⟩
 | some f=>
  have hlen:=fblk_length f (by have:=hw.1; omega)
  exact (add_no p sz (fblk f) (1+f.length) fv hlen (by have:=hw.1; omega) hs (hno f rfl) w hw.2).mono fun _ _ ⟨he,h1,h2⟩=>⟨⟨_,he⟩,⟨_,hlen,h1⟩,h2⟩
theorem enter53:∀ (args:Array Value) (W:World),(callFunc 240 args).run Tryz.prog W=.ok (.enter 240 args) W:=fun _ _=>by simp [go_sem]
theorem add_num (st:Option (List UInt8)) (p n:Nat) (width:Int) (q:Addr) (w:World) (hw:WIs w p st) (hq:w.cell? q=some (.int .u64 (n:Int))) (hqp:q.block≠p) (hql:q.block < w.heap.size) :
  Calls Tryz.prog 238 #[.pointer (some ⟨p,0,none⟩),.int .i64 (numSz width:Int),.func (.func 240) #[] #[.pointer (some q)]] w fun e w'=>SomeBool e∧WIs w' p (app st (numBytes n width))∧Apart p w w':=by
 have hz:=numSz_le width
 cases st with
 | none=>exact (add_any_no none p (numSz width) _ (by omega) (fun f hf=>by cases hf) w hw).mono fun _ _ h=>h
 | some f=>
  cases hfit:fitB (1+f.length) (numSz width) with
  | false=>
   have happ:app (some f) (numBytes n width)=none:=by
    have hn:¬ (1+f.length≠0∧numSz width≠0∧1+f.length+numSz width≤252):=of_decide_eq_false hfit
    unfold numBytes
    split
    ·rename_i hwd
     have:=(widthB_iff width).1 hwd
     show (if f.length+(leB n (numSz width)).length≤251 then _ else _)=_
     rw [leB_length,if_neg (by omega)]
    ·rfl
   rw [happ]
   exact add_any_no (some f) p (numSz width) _ (by omega) (fun f' hf=>by cases hf; exact hfit) w hw
  | true=>
   have hy:1+f.length≠0∧numSz width≠0∧1+f.length+numSz width≤252:=of_decide_eq_true hfit
   have hlen:=fblk_length f (by omega)
   have happ:app (some f) (numBytes n width)=some (f ++ leB n (numSz width)):=by
    unfold numBytes
    rw [if_pos ((widthB_iff width).2 hy.2.1)]
    show (if f.length+(leB n (numSz width)).length≤251 then _ else _)=_
    rw [leB_length,if_pos (by omega)]
   rw [happ]
   have hll:(lay (fblk f) (1+f.length) (leB n (numSz width))).length=256:=by rw [lay_length _ _ _ (by rw [leB_length,hlen]; omega),hlen]
   refine (add_yes p (numSz width) (fblk f) (lay (fblk f) (1+f.length) (leB n (numSz width))) (1+f.length) 240 #[.pointer (some q)] hlen hll hfit w hw.2 enter53 (fun W ho ha=>
    num1_any 340 p (1+f.length) (numSz width) (256 - (1+f.length)) (fblk f) (1+f.length) n q hlen (by omega) (by omega) W ho (by rw [ha.cell hql hqp]; exact hq))).mono fun e w' ⟨he,h1,h2⟩=>⟨⟨_,he⟩,?_,h2⟩
   rw [fblk_lay _ _] at h1
   refine ⟨by rw [List.length_append,leB_length]; omega,?_⟩
   rw [List.length_append,leB_length,←Nat.add_assoc]
   exact h1
end Fld
namespace Fld
open Go.RowKit RowLaw Crc
theorem infoWriter:(Tryz.prog.info? 340).map (fun i=>(i.zero,i.size))=some (some (.agg (objCells zeros 0)),257):=by kernel_rfl
theorem objSet (k k':Nat):(objCells zeros k).setIfInBounds 256 (.int .i64 (k':Int))=objCells zeros k':=objCells_setAt zeros k k' zeros_length
theorem New_any (w:World) :
  Calls Tryz.prog 202 #[] w fun e w'=>e=.returned (.pointer (some ⟨w.heap.size,0,none⟩))∧WIs w' w.heap.size (some [])∧Below w.heap.size w w':=by
 have hzv:=(zero_of_info infoWriter).1
 go_enter Tryz.func202,Tryz.ntmps202
 go_wp2
 go_ret
 have e:(objCells zeros 0).setIfInBounds 256 (.int .i64 1)=objCells zeros 1:=objSet 0 1
 rw [e]
 exact ⟨rfl,⟨by simp,IsObj.new w _ zeros 1⟩,(Below.refl _ _).alloc (Nat.le_refl _) _⟩
theorem Num_any (st:Option (List UInt8)) (p n:Nat) (width:Int) (w:World) (hw:WIs w p st) :
  Calls Tryz.prog 205 #[.pointer (some ⟨p,0,none⟩),.int .u64 (n:Int),.int .i64 width] w fun e w'=>e=.returned (.tuple #[])∧WIs w' p (app st (numBytes n width))∧Apart p w w':=by
 have hmf:∀ (fn:Fn) (first cap:Array Value) (w:World),(Instr.makeFunc fn first cap).run Tryz.prog w=.ok (.func fn first cap) w:=fun _ _ _ _=>rfl
 have hlt:=hw.lt
 have h1:WIs (w.alloc (.cells #[.int .u64 (n:Int)] 29)) p st:=hw.of_block (Below.heap_alloc w _ p hlt)
 have hc:(w.alloc (.cells #[.int .u64 (n:Int)] 29)).cell? ⟨w.heap.size,0,none⟩=some (.int .u64 (n:Int)):=by go_simp
 go_enter Tryz.func205,Tryz.ntmps205
 go_wp2_with (first | (go_at_call 239; (with_reducible refine (numSize_any width _).mono ?_); rintro e W1 ⟨rfl,rfl⟩) | (go_at_call 238; (with_reducible refine (add_num st p n width ⟨w.heap.size,0,none⟩ _ h1 hc (by simp; omega) (by simp)).mono ?_); rintro e W2 ⟨⟨b,rfl⟩,h2,ha⟩))
 go_end0
 exact ⟨rfl,h2,((Apart.refl _ _).alloc _).trans ha⟩
theorem wpList_load_obj {T:TypeId} {p k:Nat} {l:List UInt8} {ops:Array Oper} {rest:List Oper} {op:Oper} {a:Act} {w:World} {Q:Exit→Act→World→Prop} (hgd:op.guard=none) (x:Operand) (ho:op.op=.load 39 x)
  (hx:a.eval x=.pointer (some ⟨p,0,none⟩)) (hw:IsObj T w p l k) (hl:l.length=256)
  (h: wpList Tryz.prog ops Q rest (a.put op.dst (.agg (cellsOf l))) w): wpList Tryz.prog ops Q (op::rest) a w:=by
 refine wpList_load_mid hgd 39 x ho p 0 hx (vals l) _ (fun j v hv=>?_) Tryz.underlying39 rfl (by rw [sizeBlock l hl]; simp [vals,cellsOf]) h
 have hj:j < l.length:=by
  have:=(List.getElem?_eq_some_iff.1 hv).1
  simpa [vals] using this
 rw [Nat.zero_add,hw.byte j hj]
 simpa [vals,hj] using hv
def fdone (f:List UInt8) (m:UInt8):List UInt8:=sealB ((fblk f).set 0 m)
theorem Done_some (p:Nat) (f:List UInt8) (m:UInt8) (w:World) (hw:WIs w p (some f)) :
    Calls Tryz.prog 206 #[.pointer (some ⟨p,0,none⟩),.int .u8 (m.toNat:Int)] w fun e w'=>e=.returned (.tuple #[.agg (cellsOf (fdone f m)),.int .i64 0])∧Below w.heap.size w w':=by
  obtain ⟨hf,ho⟩:=hw
  have hlen:=fblk_length f (by omega)
  have hk0:((((1+f.length:Nat):Int)) == 0)=false:=by simp; omega
  have hzv:=(zero_of_info infoBlock).1
  obtain ⟨l,hl⟩:∃ l,l=fblk f:=⟨_,rfl⟩
  obtain ⟨k,hk⟩:∃ k,k=1+f.length:=⟨_,rfl⟩
  unfold fdone
  rw [←hl] at ho hlen ⊢
  rw [←hk] at ho hk0
  clear hf hl hk
  have hsl:(l.set 0 m).length=256:=by rw [List.length_set,hlen]
  have hi:=sizeBlock l hlen
  have hi2:=sizeBlock _ hsl
  have hi3:=sizeBlock _ (sealB_length hsl)
  have hzz:(cellsOf zeros).size=(cellsOf (sealB (l.set 0 m))).size:=by rw [cellsOf_size,cellsOf_size,sealB_length hsl,zeros_length]
  have hz0:(cellsOf zeros).size=(cellsOf l).size:=by rw [cellsOf_size,cellsOf_size,hlen,zeros_length]
  have ho1:=ho.alloc (.cells (cellsOf zeros) 39)
  have hc:=ho1.pos hlen
  have hZ:Holds ((w.alloc (.cells (cellsOf zeros) 39)).alloc (.cells (cellsOf zeros) 39)) (w.heap.size+1) zeros:=heap_alloc2_new w _ _
  have hA:Holds (((w.alloc (.cells (cellsOf zeros) 39)).alloc (.cells (cellsOf zeros) 39)).setRow (w.heap.size+1) (cellsOf l)) w.heap.size zeros:=(setRow_other _ _ _ _ (by omega)).trans ((Holds.new w zeros).alloc _)
  have hB:Holds (((w.alloc (.cells (cellsOf zeros) 39)).alloc (.cells (cellsOf zeros) 39)).setRow (w.heap.size+1) (cellsOf l)) (w.heap.size+1) l:=setRow_heap _ _ _ _ _ _ hZ
  have hb:Below w.heap.size w (((w.alloc (.cells (cellsOf zeros) 39)).alloc (.cells (cellsOf zeros) 39)).setRow (w.heap.size+1) (cellsOf l)):=(((Below.refl _ _).alloc (Nat.le_refl _) _).alloc (by simp) _).trans ⟨rfl,rfl,rfl,by simp,fun k hk=>setRow_other _ _ _ _ (by omega)⟩
  have HL:=Lib.hid hlen; clear hlen
  have HS:=Lib.hid hsl; clear hsl
  go_enter Tryz.func206,Tryz.ntmps206
  go_wp2_with (first
    | (with_reducible refine wpList_load_obj rfl _ rfl rfl ho1 HL.out ?_)
    | (refine wpList_store_row rfl 39 _ _ rfl _ _ rfl rfl _ _ hZ hi hz0 (cellsOf_one _) ?_; clear hZ; generalize ((w.alloc (.cells (cellsOf zeros) 39)).alloc (.cells (cellsOf zeros) 39)).setRow (w.heap.size+1) (cellsOf l)=W at hA hB hb ⊢; have cB:=hB.cell 0 (by rw [HL.out]; omega); have fB:=hB.frozen 0; have hB2:=hB.set_ 0 m; have hA2:=hA.other ⟨w.heap.size+1,0,none⟩ (.int .u8 (m.toNat:Int)) (by simp); have hb2:=hb.setCell (p:=⟨w.heap.size+1,0,none⟩) (by simp) (.int .u8 (m.toNat:Int)))
    | (refine wpList_load_row rfl 39 _ rfl _ rfl _ _ _ _ hB2 Tryz.underlying39 rfl hi2 ?_; generalize W.setCell ⟨w.heap.size+1,0,none⟩ (.int .u8 (m.toNat:Int))=W2 at hA2 hB2 hb2 ⊢)
    | (go_at_call 242; (with_reducible refine (Seal_any _ HS.out _).mono ?_); rintro e W3 ⟨rfl,hb3⟩; replace hA2:=hA2.below hb3 hA2.lt; replace hb2:=hb2.trans (hb3.mono hb2.size); clear hb3)
    | (refine wpList_store_row rfl 39 _ _ rfl _ _ rfl rfl _ _ hA2 hi3 hzz (cellsOf_one _) ?_))
  refine bodyPost_ret (results_row_tmp rfl _ _ _ _ _ _ _ rfl (setRow_heap W3 _ _ _ _ _ hA2) Tryz.underlying39 rfl hi3) rfl ⟨rfl,?_⟩
  exact Below.trans hb2 ⟨rfl,rfl,rfl,by simp,fun k hk=>setRow_other W3 _ _ _ (by omega)⟩
end Fld

end Go.Proofs.YtgkbfahflngklaaGreat
