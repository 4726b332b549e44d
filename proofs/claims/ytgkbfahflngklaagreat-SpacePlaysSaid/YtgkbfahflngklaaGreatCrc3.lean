import Derived.Test.YtgkbfahflngklaaGreatCrc2
import Derived.ChangeKeysEq
set_option maxHeartbeats 800000
namespace Go.Proofs.YtgkbfahflngklaaGreat
namespace Crc
open Go.RowKit RowLaw
theorem Zero_any (l:List UInt8) (hl:l.length=256) (w:World) :
  Calls Tryz.prog 248 #[.agg (cellsOf l)] w fun e w'=>e=.returned (.bool (decide (l=zeros)))∧Below w.heap.size w w':=by
 have hA:=Holds.new w l
 have hzv:=(zero_of_info infoBlock).1
 have hi:(Tryz.prog.info? 39).map (·.size)=some (cellsOf l).size:=by rw [cellsOf_size,hl]; exact (zero_of_info infoBlock).2
 have hg:=fun (op:BinOp) (x y:Operand) (xs ys:Array Value)=>run_eqGuard_agg (P:=Tryz.prog) (w.alloc (.cells (cellsOf l) 39)) op 39 x y xs ys noGuard
 have he:=run_eqBlock (w.alloc (.cells (cellsOf l) 39)) l zeros hl zeros_length
 go_enter Tryz.func248,Tryz.ntmps248
 go_wp2_with (refine wpList_load_row rfl 39 _ rfl _ rfl _ _ _ _ hA Tryz.underlying39 rfl hi ?_)
 go_ret
 exact ⟨rfl,(Below.refl _ _).alloc (Nat.le_refl _) _⟩
theorem refZero_any (l:List UInt8) (hl:l.length=256) (w:World) :
  Calls Tryz.prog 140 #[.agg (cellsOf l)] w fun e w'=>e=.returned (.bool (decide (l=zeros)))∧Below w.heap.size w w':=by
 have hA:=Holds.new w l
 have hzv:=(zero_of_info infoBlock).1
 have hi:(Tryz.prog.info? 39).map (·.size)=some (cellsOf l).size:=by rw [cellsOf_size,hl]; exact (zero_of_info infoBlock).2
 have hg:=fun (op:BinOp) (x y:Operand) (xs ys:Array Value)=>run_eqGuard_agg (P:=Tryz.prog) (w.alloc (.cells (cellsOf l) 39)) op 39 x y xs ys noGuard
 have he:=run_eqBlock (w.alloc (.cells (cellsOf l) 39)) l zeros hl zeros_length
 go_enter Tryz.func140,Tryz.ntmps140
 go_wp2_with (refine wpList_load_row rfl 39 _ rfl _ rfl _ _ _ _ hA Tryz.underlying39 rfl hi ?_)
 go_ret
 exact ⟨rfl,(Below.refl _ _).alloc (Nat.le_refl _) _⟩
def Box (w:World) (l:List UInt8) (w':World):Prop:=Holds w' w.heap.size l∧Below w.heap.size w w'
theorem Box.start (w:World) (l:List UInt8):Box w l (w.alloc (.cells (cellsOf l) 39)):=⟨Holds.new w l,(Below.refl _ _).alloc (Nat.le_refl _) _⟩
theorem Box.drew {w w':World} {l:List UInt8} (h:Box w l w'):Box w l w'.drew:=⟨h.1,h.2.drew⟩
theorem Box.below {w w' w'':World} {l:List UInt8} (h:Box w l w') (hb:Below w'.heap.size w' w''):Box w l w'':=⟨h.1.below hb h.1.lt,h.2.trans (hb.mono h.2.size)⟩
theorem Good_any (l:List UInt8) (hl:l.length=256) (w:World) :
  Calls Tryz.prog 252 #[.agg (cellsOf l)] w fun e w'=>e=.returned (.bool (decide (sealB l=l)))∧Below w.heap.size w w':=by
 have hi:(Tryz.prog.info? 39).map (·.size)=some (cellsOf l).size:=by rw [cellsOf_size,hl]; exact (zero_of_info infoBlock).2
 have hg:=fun (W:World) (op:BinOp) (x y:Operand) (xs ys:Array Value)=>run_eqGuard_agg (P:=Tryz.prog) W op 39 x y xs ys noGuard
 have he:=fun (W:World)=>run_eqBlock W (sealB l) l (sealB_length hl) hl
 have hbox:=(Box.start w l).drew
 go_enter Tryz.func252,Tryz.ntmps252
 go_wp2_with fail
 refine wp_region_class_lit (Box w l) (by kernel_rfl) (by kernel_rfl) hbox ?_
 haveI:Nonempty {w':World // Box w l w'}:=⟨⟨_,hbox⟩⟩
 repeat (first | go_big_quiet_skip | (go_big_quiet_want; first | (refine quiet_load_row 39 _ rfl w.heap.size rfl _ _ _ _ (fun _ h=>h.1) Tryz.underlying39 rfl hi ?_; go_big_quiet_on; simp only [Act.put,List.setIfInBounds_toArray,RowLaw.lset]) | (go_big_quiet_op; first | go_big_quiet_on | go_big_quiet_call (first | (intro h1; exact (Seal_any l hl _).mono fun _ _ ⟨he,hb⟩=>⟨he,h1.below hb⟩) | (intro _; rfl)))))
 refine wpQuiet_nil ?_
 intro w2 hw2
 go_wp2_with fail
 go_ret
 exact ⟨rfl,hw2.2⟩
end Crc
namespace Crc
open Go.RowKit RowLaw
end Crc
namespace Crc
open Go.RowKit RowLaw
theorem xor_pow (u:UInt8) (r:Nat) (_h:r < 8):bits .xor .u8 (u.toNat:Int) (128 / 2 ^ r)=((UInt8.ofNat (u.toNat ^^^ 128 / 2 ^ r)).toNat:Int):=by
 have hu:=u.toNat_lt
 have e:((128:Int) / 2 ^ r)=((128 / 2 ^ r:Nat):Int):=by rw [Int.natCast_ediv]; congr 1
 have hd:128 / 2 ^ r < 256:=Nat.lt_of_le_of_lt (Nat.div_le_self _ _) (by omega)
 rw [e,u8_xor_nat _ _ hu hd,UInt8.toNat_ofNat',Nat.mod_eq_of_lt (Nat.xor_lt_two_pow (n:=8) hu hd)]
end Crc

end Go.Proofs.YtgkbfahflngklaaGreat
