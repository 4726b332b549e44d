/-
  Crc3: CrcGood, CrcHead, CrcBursts.
-/
import Derived.Test.YtojpcgjmainbfaaGreatCrc2
import Derived.ChangeKeysEq
/-
  The walks of Good and Zero (crc and reference): comparing blocks by value.
-/
namespace Go.Proofs.YtojpcgjmainbfaaGreat.Crc
open Go.RowKit RowLaw

set_option maxHeartbeats 800000 in
theorem Zero_any (l : List UInt8) (hl : l.length = 256) (w : World) :
    Calls Tryz.prog 178 #[.agg (cellsOf l)] w fun e w' => e = .returned (.bool (decide (l = zeros))) ∧ Below w.heap.size w w' := by
  have hA := Holds.new w l
  have hzv := (zero_of_info infoBlock).1
  have hi : (Tryz.prog.info? 39).map (·.size) = some (cellsOf l).size := by rw [cellsOf_size, hl]; exact (zero_of_info infoBlock).2
  have hg := fun (op : BinOp) (x y : Operand) (xs ys : Array Value) => run_eqGuard_agg (P := Tryz.prog) (w.alloc (.cells (cellsOf l) 39)) op 39 x y xs ys noGuard
  have he := run_eqBlock (w.alloc (.cells (cellsOf l) 39)) l zeros hl zeros_length
  go_enter Tryz.func178, Tryz.ntmps178
  go_wp2_with (refine wpList_load_row rfl 39 _ rfl _ rfl _ _ _ _ hA Tryz.underlying39 rfl hi ?_)
  go_ret
  exact ⟨rfl, (Below.refl _ _).alloc (Nat.le_refl _) _⟩

set_option maxHeartbeats 800000 in
theorem refZero_any (l : List UInt8) (hl : l.length = 256) (w : World) :
    Calls Tryz.prog 84 #[.agg (cellsOf l)] w fun e w' => e = .returned (.bool (decide (l = zeros))) ∧ Below w.heap.size w w' := by
  have hA := Holds.new w l
  have hzv := (zero_of_info infoBlock).1
  have hi : (Tryz.prog.info? 39).map (·.size) = some (cellsOf l).size := by rw [cellsOf_size, hl]; exact (zero_of_info infoBlock).2
  have hg := fun (op : BinOp) (x y : Operand) (xs ys : Array Value) => run_eqGuard_agg (P := Tryz.prog) (w.alloc (.cells (cellsOf l) 39)) op 39 x y xs ys noGuard
  have he := run_eqBlock (w.alloc (.cells (cellsOf l) 39)) l zeros hl zeros_length
  go_enter Tryz.func84, Tryz.ntmps84
  go_wp2_with (refine wpList_load_row rfl 39 _ rfl _ rfl _ _ _ _ hA Tryz.underlying39 rfl hi ?_)
  go_ret
  exact ⟨rfl, (Below.refl _ _).alloc (Nat.le_refl _) _⟩

/-- block b holds the bytes l, above what was there before; below it all is as it was in w -/
def Box (w : World) (l : List UInt8) (w' : World) : Prop := Holds w' w.heap.size l ∧ Below w.heap.size w w'
theorem Box.start (w : World) (l : List UInt8) : Box w l (w.alloc (.cells (cellsOf l) 39)) := ⟨Holds.new w l, (Below.refl _ _).alloc (Nat.le_refl _) _⟩
theorem Box.drew {w w' : World} {l : List UInt8} (h : Box w l w') : Box w l w'.drew := ⟨h.1, h.2.drew⟩
theorem Box.below {w w' w'' : World} {l : List UInt8} (h : Box w l w') (hb : Below w'.heap.size w' w'') : Box w l w'' := ⟨h.1.below hb h.1.lt, h.2.trans (hb.mono h.2.size)⟩

set_option maxHeartbeats 800000 in
theorem Good_any (l : List UInt8) (hl : l.length = 256) (w : World) :
    Calls Tryz.prog 199 #[.agg (cellsOf l)] w fun e w' => e = .returned (.bool (decide (sealB l = l))) ∧ Below w.heap.size w w' := by
  have hi : (Tryz.prog.info? 39).map (·.size) = some (cellsOf l).size := by rw [cellsOf_size, hl]; exact (zero_of_info infoBlock).2
  have hg := fun (W : World) (op : BinOp) (x y : Operand) (xs ys : Array Value) => run_eqGuard_agg (P := Tryz.prog) W op 39 x y xs ys noGuard
  have he := fun (W : World) => run_eqBlock W (sealB l) l (sealB_length hl) hl
  have hbox := (Box.start w l).drew
  go_enter Tryz.func199, Tryz.ntmps199
  go_wp2_with fail
  refine wp_region_class_lit (Box w l) (by kernel_rfl) (by kernel_rfl) hbox ?_
  haveI : Nonempty {w' : World // Box w l w'} := ⟨⟨_, hbox⟩⟩
  repeat (first | go_big_quiet_skip | (go_big_quiet_want; first | (refine quiet_load_row 39 _ rfl w.heap.size rfl _ _ _ _ (fun _ h => h.1) Tryz.underlying39 rfl hi ?_; go_big_quiet_on; simp only [Act.put, List.setIfInBounds_toArray, List.set_cons_zero, List.set_cons_succ]) | (go_big_quiet_op; first | go_big_quiet_on | go_big_quiet_call (first | (intro h1; exact (Seal_any l hl _).mono fun _ _ ⟨he, hb⟩ => ⟨he, h1.below hb⟩) | (intro _; rfl)))))
  refine wpQuiet_nil ?_
  intro w2 hw2
  go_wp2_with fail
  go_ret
  exact ⟨rfl, hw2.2⟩

end Go.Proofs.YtojpcgjmainbfaaGreat.Crc

/-
  The walk of the laws' own head: the sums and blocks that the document fixes.
-/
namespace Go.Proofs.YtojpcgjmainbfaaGreat.Crc
open Go.RowKit RowLaw

end Go.Proofs.YtojpcgjmainbfaaGreat.Crc

/-
  The walk of the law CrcBursts: a burst breaks a seal.
-/
namespace Go.Proofs.YtojpcgjmainbfaaGreat.Crc
open Go.RowKit RowLaw

end Go.Proofs.YtojpcgjmainbfaaGreat.Crc

