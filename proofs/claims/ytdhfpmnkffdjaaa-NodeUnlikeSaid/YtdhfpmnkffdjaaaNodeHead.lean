/-
  The statements' known answers of nodes.
-/
import Derived.Test.YtdhfpmnkffdjaaaNodeEq
import Derived.Test.YtdhfpmnkffdjaaaKept
namespace Go.Proofs.Ytdhfpmnkffdjaaa.Node
open Go.RowKit RowLaw Crc Fld

def nodeO (lv : Nat) (ps : List Nat) : Obj := .cells (nodeCells lv ps) 25
def blkO (l : List UInt8) : Obj := .cells (cellsOf l) 27

set_option maxRecDepth 100000 in
set_option maxHeartbeats 1600000 in
theorem bad_any (lv : Nat) (ps : List Nat) (hp : ps.length = 32) (ho : okN lv ps = false) (w : World) :
    Calls Try.prog 26 #[.agg (nodeCells lv ps)] w fun e w' => e = .returned (.bool true) ∧ Below w.heap.size w w' := by
  have hzv := (zero_of_info infoBlock).1
  have hi := sizeBlock zeros zeros_length
  have hin := sizeNode lv ps hp
  have hk := (Kept.start w).alloc (nodeO lv ps)
  have hN : IsNode (w.alloc (nodeO lv ps)) w.heap.size lv ps := IsNode.new w lv ps
  have heq : ∀ W : World, (Op.equalIn 10000 27 (.agg (cellsOf zeros)) (.agg (cellsOf zeros))).run Try.prog W = .ok true W := fun W => by rw [run_eqBlock W zeros zeros zeros_length zeros_length]; simp
  have hg := fun (W : World) (op : BinOp) (x y : Operand) (xs ys : Array Value) => run_eqGuard_agg (P := Try.prog) W op 27 x y xs ys noGuard
  have hput := fun W => Put_no lv ps hp ho W
  have HP := Lib.hid hput
  clear hput hp ho
  unfold nodeO at hk hN
  go_enter Try.func26, Try.ntmps26
  go_wp2_with (refine wpList_load_row rfl 25 _ rfl _ rfl _ _ _ _ hN Try.underlying25 rfl hin ?_)
  refine (HP.out _).mono ?_
  rintro e W ⟨rfl, hx⟩
  have hA := (hk.below hx).alloc (blkO zeros)
  unfold blkO at hA
  have hZ : Holds (W.alloc (.cells (cellsOf zeros) 27)) W.heap.size zeros := Holds.new W zeros
  clear hk hx hN
  have tok : True := trivial
  go_wp2_with (first
    | (have _t := tok; refine wpList_store_new rfl 27 _ _ rfl (cellsOf zeros) _ _ rfl rfl hi rfl (cellsOf_one _) ?_; generalize W.heap.size = q3 at hZ hA ⊢; generalize W.alloc (.cells (cellsOf zeros) 27) = W4 at hZ hA ⊢; clear _t tok)
    | (refine wpList_load_row rfl 27 _ rfl _ rfl _ _ _ _ hZ Try.underlying27 rfl hi ?_))
  go_ret
  exact ⟨rfl, hA.bel⟩

def nine : List Nat := zeros32.set 1 9
def farP : List Nat := nine.set 31 1048576
theorem nine_length : nine.length = 32 := rfl
theorem farP_length : farP.length = 32 := rfl
theorem ok_nine : okN 2 nine = true := by decide +kernel
theorem no_far : okN 2 farP = false := by decide +kernel
theorem no_zero : okN 0 zeros32 = false := by decide +kernel
theorem no_four : okN 4 zeros32 = false := by decide +kernel
def B9 : List UInt8 := fdone (nodeTo 2 nine 32) 78
theorem B9_eq : putB 2 nine = B9 := if_pos ok_nine
theorem B9_len : B9.length = 256 := by rw [← B9_eq]; exact putB_length 2 nine nine_length
theorem B9_ten : B9.take 10 = [78, 2, 0, 0, 0, 0, 9, 0, 0, 0] := by decide +kernel
theorem get_B9 : getLv B9 = 2 ∧ getPs B9 = nine ∧ getE B9 = 0 := by rw [← B9_eq]; exact back nine_length ok_nine
theorem isN_zeros : isN zeros = false := by decide +kernel
theorem get_zeros : getLv zeros = 0 ∧ getPs zeros = zeros32 ∧ getE zeros = 250 := by
  unfold getLv getPs getE
  rw [isN_zeros]
  exact ⟨rfl, rfl, rfl⟩
theorem kids_nine : kidsOf nine = [9] := by decide +kernel
theorem Put_nine (w : World) : Calls Try.prog 7 #[.agg (nodeCells 2 nine)] w fun e w' => e = .returned (.tuple #[.agg (cellsOf B9), .int .i64 0]) ∧ Below w.heap.size w w' := Put_yes 2 nine nine_length ok_nine w
theorem Get_nine (w : World) : Calls Try.prog 13 #[.agg (cellsOf B9)] w fun e w' => e = .returned (.tuple #[.agg (nodeCells 2 nine), .int .i64 0]) ∧ Below w.heap.size w w' := by
  have h := Get_any B9 B9_len w
  rw [get_B9.1, get_B9.2.1, get_B9.2.2] at h
  exact h
theorem Get_zeros (w : World) : Calls Try.prog 13 #[.agg (cellsOf zeros)] w fun e w' => e = .returned (.tuple #[.agg (nodeCells 0 zeros32), .int .i64 250]) ∧ Below w.heap.size w w' := by
  have h := Get_any zeros zeros_length w
  rw [get_zeros.1, get_zeros.2.1, get_zeros.2.2] at h
  exact h
theorem Index_1 (w : World) : Calls Try.prog 16 #[.int .u32 1027, .int .u8 1] w fun e w' => e = .returned (.tuple #[.int .i64 3, .int .i64 0]) ∧ w' = w := Index_any 1027 1 w
theorem Index_2 (w : World) : Calls Try.prog 16 #[.int .u32 1027, .int .u8 2] w fun e w' => e = .returned (.tuple #[.int .i64 0, .int .i64 0]) ∧ w' = w := Index_any 1027 2 w
theorem Index_3 (w : World) : Calls Try.prog 16 #[.int .u32 1027, .int .u8 3] w fun e w' => e = .returned (.tuple #[.int .i64 1, .int .i64 0]) ∧ w' = w := Index_any 1027 3 w
theorem Index_far (w : World) : Calls Try.prog 16 #[.int .u32 32768, .int .u8 1] w fun e w' => e = .returned (.tuple #[.int .i64 0, .int .i64 2]) ∧ w' = w := Index_any 32768 1 w

theorem conv_ten (W : World) (b : Nat) (B l : List UInt8) (hB : B.length = 256) (ht : B.take 10 = l) (h : Holds W b B) :
    (convert 62 9 (.slice (some ⟨b, 0, none⟩) 10 256)).run Try.prog W = .ok (.string ⟨l.toArray⟩) W := by
  have hl : l.length = 10 := by rw [← ht, List.length_take]; omega
  have := run_convert_bytes_back (P := Try.prog) W 62 9 5 ⟨b, 0, none⟩ 256 l Try.underlying62 Try.underlying5 Try.underlying9 (fun j hj => by
    have hj2 : j < B.length := by omega
    rw [Addr.add_mid, Nat.zero_add, h.cell j hj2]
    subst ht
    simp)
  rw [hl] at this
  exact this

end Go.Proofs.Ytdhfpmnkffdjaaa.Node
