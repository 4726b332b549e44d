/-
  The walk of the statements' head.
-/
import Derived.Test.YtdhfpmnkffdjaaaNodeHead
import Derived.Deep.Cut
namespace Go.Proofs.Ytdhfpmnkffdjaaa.Node
open Go.RowKit RowLaw Crc Fld

theorem Kids_nine (w : World) : Calls Try.prog 10 #[.agg (nodeCells 2 nine)] w fun e w' => RowAns w [9] e w' := by
  have h := Kids_any 2 nine nine_length w
  rw [kids_nine] at h
  exact h
theorem row_nine (W : World) : Row32 [9] (.slice (some ⟨W.heap.size, 0, none⟩) 1 1) (W.alloc (.cells #[.int .u32 9] 22)) :=
  ⟨_, _, rfl, .inr ⟨W.heap.size, 0, rfl, by simp, fun j hj => by
    obtain rfl : j = 0 := by simpa using hj
    exact cell_of_row _ W.heap.size 0 _ _ _ (heap_alloc_new W _)⟩⟩

set_option maxRecDepth 100000 in
set_option maxHeartbeats 3200000 in
theorem head_any (w : World) : Calls Try.prog 12 #[] w fun e w' => e = .returned (.bool true) ∧ Below w.heap.size w w' := by
  have hzv := (zero_of_info infoBlock).1
  have hzn := (zero_of_info infoNode).1
  have hi := sizeBlock zeros zeros_length
  have hi9 := sizeBlock _ B9_len
  have hz9 : (cellsOf zeros).size = (cellsOf B9).size := by rw [cellsOf_size, cellsOf_size, B9_len, zeros_length]
  have hin0 := sizeNode 0 zeros32 zeros32_length
  have hin2 := sizeNode 2 zeros32 zeros32_length
  have hinN := sizeNode 2 nine nine_length
  have hinF := sizeNode 2 farP farP_length
  have hs2 : (nodeCells 0 zeros32).size = (nodeCells 2 zeros32).size := by rw [nodeCells_size, nodeCells_size]
  have hsN : (nodeCells 0 zeros32).size = (nodeCells 2 nine).size := by rw [nodeCells_size, nodeCells_size, nine_length, zeros32_length]
  have hset : (nodeCells 0 zeros32).setIfInBounds 0 (.int .u8 2) = nodeCells 2 zeros32 := nodeCells_setLv 0 2 zeros32
  have hset4 : (nodeCells 0 zeros32).setIfInBounds 0 (.int .u8 4) = nodeCells 4 zeros32 := nodeCells_setLv 0 4 zeros32
  have h0 := (Kept.start w).alloc (nodeO 2 zeros32)
  have c0 : (w.alloc (.cells (nodeCells 2 zeros32) 25)).cell? ⟨w.heap.size, 2, none⟩ = some (.int .u32 0) := (IsNode.new w 2 zeros32).ptr 1 (by decide)
  have f0 : (w.alloc (.cells (nodeCells 2 zeros32) 25)).frozen? ⟨w.heap.size, 2, none⟩ = false := (IsNode.new w 2 zeros32).frozen 2
  unfold nodeO at h0
  have e9 : (nodeCells 2 zeros32).setIfInBounds 2 (.int .u32 9) = nodeCells 2 nine := nodeCells_set 2 zeros32 1 9
  have eF : (nodeCells 2 nine).setIfInBounds 32 (.int .u32 1048576) = nodeCells 2 farP := nodeCells_set 2 nine 31 1048576
  have E9 := Lib.hid e9; clear e9
  have EF := Lib.hid eF; clear eF
  have hgn := fun (W : World) (op : BinOp) (x y : Operand) (xs ys : Array Value) => run_eqGuard_agg (P := Try.prog) W op 25 x y xs ys noGuardN
  have e9 : (nodeCells 2 zeros32).setIfInBounds 2 (.int .u32 9) = nodeCells 2 nine := nodeCells_set 2 zeros32 1 9
  have eF : (nodeCells 2 nine).setIfInBounds 32 (.int .u32 1048576) = nodeCells 2 farP := nodeCells_set 2 nine 31 1048576
  have E9 := Lib.hid e9; clear e9
  have EF := Lib.hid eF; clear eF
  have hgn := fun (W : World) (op : BinOp) (x y : Operand) (xs ys : Array Value) => run_eqGuard_agg (P := Try.prog) W op 25 x y xs ys noGuardN
  have e9 : (nodeCells 2 zeros32).setIfInBounds 2 (.int .u32 9) = nodeCells 2 nine := nodeCells_set 2 zeros32 1 9
  have eF : (nodeCells 2 nine).setIfInBounds 32 (.int .u32 1048576) = nodeCells 2 farP := nodeCells_set 2 nine 31 1048576
  have E9 := Lib.hid e9; clear e9
  have EF := Lib.hid eF; clear eF
  have hgn := fun (W : World) (op : BinOp) (x y : Operand) (xs ys : Array Value) => run_eqGuard_agg (P := Try.prog) W op 25 x y xs ys noGuardN
  have e9 : (nodeCells 2 zeros32).setIfInBounds 2 (.int .u32 9) = nodeCells 2 nine := nodeCells_set 2 zeros32 1 9
  have eF : (nodeCells 2 nine).setIfInBounds 32 (.int .u32 1048576) = nodeCells 2 farP := nodeCells_set 2 nine 31 1048576
  have E9 := Lib.hid e9; clear e9
  have EF := Lib.hid eF; clear eF
  have hgn := fun (W : World) (op : BinOp) (x y : Operand) (xs ys : Array Value) => run_eqGuard_agg (P := Try.prog) W op 25 x y xs ys noGuardN
  have e9 : (nodeCells 2 zeros32).setIfInBounds 2 (.int .u32 9) = nodeCells 2 nine := nodeCells_set 2 zeros32 1 9
  have eF : (nodeCells 2 nine).setIfInBounds 32 (.int .u32 1048576) = nodeCells 2 farP := nodeCells_set 2 nine 31 1048576
  have E9 := Lib.hid e9; clear e9
  have EF := Lib.hid eF; clear eF
  have hgn := fun (W : World) (op : BinOp) (x y : Operand) (xs ys : Array Value) => run_eqGuard_agg (P := Try.prog) W op 25 x y xs ys noGuardN
  have e9 : (nodeCells 2 zeros32).setIfInBounds 2 (.int .u32 9) = nodeCells 2 nine := nodeCells_set 2 zeros32 1 9
  have eF : (nodeCells 2 nine).setIfInBounds 32 (.int .u32 1048576) = nodeCells 2 farP := nodeCells_set 2 nine 31 1048576
  have E9 := Lib.hid e9; clear e9
  have EF := Lib.hid eF; clear eF
  have hgn := fun (W : World) (op : BinOp) (x y : Operand) (xs ys : Array Value) => run_eqGuard_agg (P := Try.prog) W op 25 x y xs ys noGuardN
  have e9 : (nodeCells 2 zeros32).setIfInBounds 2 (.int .u32 9) = nodeCells 2 nine := nodeCells_set 2 zeros32 1 9
  have eF : (nodeCells 2 nine).setIfInBounds 32 (.int .u32 1048576) = nodeCells 2 farP := nodeCells_set 2 nine 31 1048576
  have E9 := Lib.hid e9; clear e9
  have EF := Lib.hid eF; clear eF
  have hgn := fun (W : World) (op : BinOp) (x y : Operand) (xs ys : Array Value) => run_eqGuard_agg (P := Try.prog) W op 25 x y xs ys noGuardN
  have e9 : (nodeCells 2 zeros32).setIfInBounds 2 (.int .u32 9) = nodeCells 2 nine := nodeCells_set 2 zeros32 1 9
  have eF : (nodeCells 2 nine).setIfInBounds 32 (.int .u32 1048576) = nodeCells 2 farP := nodeCells_set 2 nine 31 1048576
  have E9 := Lib.hid e9; clear e9
  have EF := Lib.hid eF; clear eF
  have hgn := fun (W : World) (op : BinOp) (x y : Operand) (xs ys : Array Value) => run_eqGuard_agg (P := Try.prog) W op 25 x y xs ys noGuardN
  have e9 : (nodeCells 2 zeros32).setIfInBounds 2 (.int .u32 9) = nodeCells 2 nine := nodeCells_set 2 zeros32 1 9
  have eF : (nodeCells 2 nine).setIfInBounds 32 (.int .u32 1048576) = nodeCells 2 farP := nodeCells_set 2 nine 31 1048576
  have E9 := Lib.hid e9; clear e9
  have EF := Lib.hid eF; clear eF
  have hgn := fun (W : World) (op : BinOp) (x y : Operand) (xs ys : Array Value) => run_eqGuard_agg (P := Try.prog) W op 25 x y xs ys noGuardN
  have tok : True := trivial
  go_enter Try.func12, Try.ntmps12
  go_wp2_with (first
    | (have _t := tok; refine wpList_store_new rfl 25 _ _ rfl (nodeCells 2 zeros32) _ _ rfl rfl hin2 hs2 (nodeCells_one _ _) ?_; generalize w.heap.size = q1 at h0 c0 f0 ⊢; generalize w.alloc (.cells (nodeCells 2 zeros32) 25) = W1 at h0 c0 f0 ⊢; clear _t tok; have h1 := h0.setCell (j := 2) (v := .int .u32 9) (fun x hx => by cases hx); rw [E9.out] at h1; clear h0)
    | (refine wpList_load_row rfl 25 _ rfl q1 rfl _ _ _ _ (h1.at_ List.mem_cons_self) Try.underlying25 rfl hinN ?_; generalize W1.setCell ⟨q1, 2, none⟩ (.int .u32 9) = W2 at h1 ⊢; clear c0 f0))
  refine (Put_nine _).mono ?_
  rintro e W3 ⟨rfl, hx⟩
  have h2 := (h1.below hx).alloc (.cells (cellsOf B9) 27)
  have l1 : q1 < W3.heap.size := (h1.below hx).lt_ List.mem_cons_self
  clear h1 hx
  have tokA : True := trivial
  have tokB : True := trivial
  go_wp2_with (first
    | (have _t := tokA; refine wpList_store_new rfl 27 _ _ rfl (cellsOf B9) _ _ rfl rfl hi9 hz9 (cellsOf_one _) ?_; generalize W3.heap.size = q2 at h2 l1 ⊢; generalize W3.alloc (.cells (cellsOf B9) 27) = W4 at h2 ⊢; clear _t tokA; have n1 := h2.at_ (List.mem_cons_of_mem _ List.mem_cons_self); have h3 := h2.alloc (.cells (nodeCells 2 nine) 25); have hne := h2.notin; clear h2)
    | (refine wpList_load_row rfl 25 _ rfl q1 rfl _ _ _ _ n1 Try.underlying25 rfl hinN ?_)
    | (have _t := tokB; refine wpList_store_new rfl 25 _ _ rfl (nodeCells 2 nine) _ _ rfl rfl hinN hsN (nodeCells_one _ _) ?_; generalize W4.heap.size = q4 at h3 hne ⊢; generalize W4.alloc (.cells (nodeCells 2 nine) 25) = W5 at h3 ⊢; clear _t tokB; have c4 := (cell_of_row W5 q4 32 _ _ _ (h3.at_ List.mem_cons_self)).trans (nodeCells_ptr 2 nine 31 (by decide)); have f4 := frozen_of_row W5 q4 32 _ _ (h3.at_ List.mem_cons_self); have h4 := h3.setCell (j := 32) (v := .int .u32 1048576) hne; rw [EF.out] at h4; clear h3 n1 hne)
    | (go_at_call 16; (with_reducible refine (Index_1 _).mono ?_); rintro e W ⟨rfl, rfl⟩) | (go_at_call 16; (with_reducible refine (Index_2 _).mono ?_); rintro e W ⟨rfl, rfl⟩) | (go_at_call 16; (with_reducible refine (Index_3 _).mono ?_); rintro e W ⟨rfl, rfl⟩) | (go_at_call 16; (with_reducible refine (Index_far _).mono ?_); rintro e W ⟨rfl, rfl⟩)
    | (refine wpList_load_row rfl 27 _ rfl q2 rfl _ _ _ _ (h4.at_ (List.mem_cons_of_mem _ List.mem_cons_self)) Try.underlying27 rfl hi9 ?_; generalize W5.setCell ⟨q4, 32, none⟩ (.int .u32 1048576) = W6 at h4 ⊢; clear c4 f4))
  refine (Get_nine _).mono ?_
  rintro e W7 ⟨rfl, hx⟩
  have h5 := (h4.below hx).alloc (.cells (nodeCells 2 nine) 25)
  clear h4 hx
  have tokC : True := trivial
  go_wp2_with (have _t := tokC; refine wpList_store_new rfl 25 _ _ rfl (nodeCells 2 nine) _ _ rfl rfl hinN hsN (nodeCells_one _ _) ?_; generalize W7.heap.size = q13 at h5 ⊢; generalize W7.alloc (.cells (nodeCells 2 nine) 25) = W8 at h5 ⊢; clear _t tokC)
  refine (Get_zeros _).mono ?_
  rintro e W9 ⟨rfl, hx⟩
  have h6 := (h5.below hx).alloc (.cells (nodeCells 0 zeros32) 25)
  clear h5 hx
  have hnn : ∀ W : World, (Op.equalIn 10000 25 (.agg (nodeCells 2 nine)) (.agg (nodeCells 2 nine))).run Try.prog W = .ok true W := fun W => by rw [run_eqNode W 2 2 nine nine nine_length nine_length]; simp
  have tokD : True := trivial
  go_upto_region 12 with (have _t := tokD; refine wpList_store_new rfl 25 _ _ rfl (nodeCells 0 zeros32) _ _ rfl rfl hin0 rfl (nodeCells_one _ _) ?_; generalize W9.heap.size = q15 at h6 ⊢; generalize W9.alloc (.cells (nodeCells 0 zeros32) 25) = WX at h6 ⊢; clear _t tokD; have hcv := conv_ten WX q2 B9 _ B9_len B9_ten (h6.at_ (by simp)); have m13 := h6.at_ (q := q13) (o := .cells (nodeCells 2 nine) 25) (by simp); have m1 := h6.at_ (q := q1) (o := .cells (nodeCells 2 nine) 25) (by simp); have m4 := h6.at_ (q := q4) (o := .cells (nodeCells 2 farP) 25) (by simp))
  simp only [List.append]
  go_wp2_with (first
    | (refine wpList_load_want (by rfl) 25 _ rfl q13 rfl _ _ _ _ m13 Try.underlying25 rfl hinN ?_)
    | (refine wpList_load_want (by rfl) 25 _ rfl q1 rfl _ _ _ _ m1 Try.underlying25 rfl hinN ?_)
    | (refine wpList_load_want (by rfl) 25 _ rfl q4 rfl _ _ _ _ m4 Try.underlying25 rfl hinF ?_)
    | (go_at_call 26; (with_reducible refine (bad_any 0 zeros32 zeros32_length no_zero _).mono ?_); rintro e W ⟨rfl, hx⟩; replace h6 := h6.below hx; clear hx m1 m4 m13 hcv; have hcv : True := trivial; have m13 : True := trivial; have m1 := h6.at_ (q := q1) (o := .cells (nodeCells 2 nine) 25) (by simp); have m4 := h6.at_ (q := q4) (o := .cells (nodeCells 2 farP) 25) (by simp))
    | (go_at_call 26; (with_reducible refine (bad_any 4 zeros32 zeros32_length no_four _).mono ?_); rintro e W ⟨rfl, hx⟩; replace h6 := h6.below hx; clear hx m1 m4 m13 hcv; have hcv : True := trivial; have m13 : True := trivial; have m1 := h6.at_ (q := q1) (o := .cells (nodeCells 2 nine) 25) (by simp); have m4 := h6.at_ (q := q4) (o := .cells (nodeCells 2 farP) 25) (by simp))
    | (go_at_call 26; (with_reducible refine (bad_any 2 farP farP_length no_far _).mono ?_); rintro e W ⟨rfl, hx⟩; replace h6 := h6.below hx; clear hx m1 m4 m13 hcv; have hcv : True := trivial; have m13 : True := trivial; have m1 := h6.at_ (q := q1) (o := .cells (nodeCells 2 nine) 25) (by simp); have m4 := h6.at_ (q := q4) (o := .cells (nodeCells 2 farP) 25) (by simp)))
  refine (Kids_nine _).mono ?_
  rintro e WK ⟨v, rfl, ho, hx⟩
  have hb7 := (h6.below hx).bel
  have hr1 := ho.row.below (W' := WK.alloc (.cells #[.int .u32 9] 22)) ((Below.refl _ _).alloc (Nat.le_refl _) _)
  have hr2 := row_nine WK
  have hb8 := hb7.alloc hb7.size (.cells #[.int .u32 9] 22)
  clear hx h6 m1 m4 m13 hcv ho hb7
  go_wp2_with fail
  refine (Same_any [9] [9] v _ _ hr1 hr2 (by simp)).mono ?_
  rintro e WS ⟨rfl, hx⟩
  have hb9 := hb8.trans (hx.mono hb8.size)
  clear hb8 hx hr1 hr2
  go_wp2_with fail
  go_ret
  exact ⟨by simp, hb9⟩

end Go.Proofs.Ytdhfpmnkffdjaaa.Node
