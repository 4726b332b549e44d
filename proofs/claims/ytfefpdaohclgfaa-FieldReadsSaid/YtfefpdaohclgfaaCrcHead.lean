/-
  The walk of the laws' own head: the sums and blocks that the document fixes.
-/
import Derived.Test.YtfefpdaohclgfaaCrcGood
namespace Go.Proofs.Ytfefpdaohclgfaa.Crc
open Go.RowKit RowLaw

theorem crc_nil : crc [] = 0#32 := by decide
theorem crc_nine : crc [49, 50, 51, 52, 53, 54, 55, 56, 57] = 0xfc891918#32 := by decide +kernel
theorem zeros_not : sealB zeros ≠ zeros := by decide +kernel

theorem Sum_nil (w : World) : Calls Try.prog 13 #[.string ⟨#[]⟩] w fun e w' => e = .returned (.int .u32 0) ∧ Below w.heap.size w w' := by
  have := Sum_any ⟨#[]⟩ (by decide) w
  rw [show crc (⟨#[]⟩ : ByteArray).data.toList = 0#32 from crc_nil] at this
  exact this
theorem Sum_nine (w : World) : Calls Try.prog 13 #[.string ⟨#[49, 50, 51, 52, 53, 54, 55, 56, 57]⟩] w fun e w' => e = .returned (.int .u32 4236843288) ∧ Below w.heap.size w w' := by
  have := Sum_any ⟨#[49, 50, 51, 52, 53, 54, 55, 56, 57]⟩ (by decide) w
  rw [show crc (⟨#[49, 50, 51, 52, 53, 54, 55, 56, 57]⟩ : ByteArray).data.toList = 0xfc891918#32 from crc_nine] at this
  exact this
theorem Good_sealed (w : World) : Calls Try.prog 17 #[.agg (cellsOf (sealB zeros))] w fun e w' => e = .returned (.bool true) ∧ Below w.heap.size w w' := by
  have := Good_any (sealB zeros) (sealB_length zeros_length) w
  rw [show decide (sealB (sealB zeros) = sealB zeros) = true from decide_eq_true (sealB_sealB zeros_length)] at this
  exact this
theorem Good_zeros (w : World) : Calls Try.prog 17 #[.agg (cellsOf zeros)] w fun e w' => e = .returned (.bool false) ∧ Below w.heap.size w w' := by
  have := Good_any zeros zeros_length w
  rw [show decide (sealB zeros = zeros) = false from decide_eq_false zeros_not] at this
  exact this
theorem Zero_zeros (w : World) : Calls Try.prog 19 #[.agg (cellsOf zeros)] w fun e w' => e = .returned (.bool true) ∧ Below w.heap.size w w' := by
  have := Zero_any zeros zeros_length w
  rw [show decide (zeros = zeros) = true from decide_eq_true rfl] at this
  exact this
theorem Zero_sealed (w : World) : Calls Try.prog 19 #[.agg (cellsOf (sealB zeros))] w fun e w' => e = .returned (.bool false) ∧ Below w.heap.size w w' := by
  have := Zero_any (sealB zeros) (sealB_length zeros_length) w
  rw [show decide (sealB zeros = zeros) = false from decide_eq_false zeros_not] at this
  exact this

set_option maxHeartbeats 800000 in
theorem head_any (w : World) :
    Calls Try.prog 12 #[] w fun e w' => e = .returned (.bool true) ∧ Below w.heap.size w w' := by
  have hzv := (zero_of_info infoBlock).1
  have hi : (Try.prog.info? 23).map (·.size) = some (cellsOf zeros).size := by rw [cellsOf_size, zeros_length]; exact (zero_of_info infoBlock).2
  have hb0 := Box.start w zeros
  go_enter Try.func12, Try.ntmps12
  go_wp2_with (first | (refine wpList_store_new rfl 23 _ _ rfl _ _ _ rfl rfl hi rfl (cellsOf_one _) ?_; generalize w.alloc (.cells (cellsOf zeros) 23) = W at hb0 ⊢) | (go_at_call 13; (first | (with_reducible refine (Sum_nil _).mono ?_) | (with_reducible refine (Sum_nine _).mono ?_)); rintro e W1 ⟨rfl, hb⟩; replace hb0 := hb0.below hb; clear hb) | (go_at_call 15; (first | (with_reducible refine (Seal_any zeros zeros_length _).mono ?_)); rintro e W1 ⟨rfl, hb⟩; replace hb0 := hb0.below hb; clear hb) | (go_at_call 17; (first | (with_reducible refine (Good_sealed _).mono ?_) | (with_reducible refine (Good_zeros _).mono ?_)); rintro e W1 ⟨rfl, hb⟩; replace hb0 := hb0.below hb; clear hb) | (go_at_call 19; (first | (with_reducible refine (Zero_sealed _).mono ?_) | (with_reducible refine (Zero_zeros _).mono ?_)); rintro e W1 ⟨rfl, hb⟩; replace hb0 := hb0.below hb; clear hb) | (refine wpList_load_want rfl 23 _ rfl _ rfl _ _ _ _ hb0.1 Try.underlying23 rfl hi ?_))
  go_ret
  exact ⟨rfl, hb0.2⟩

end Go.Proofs.Ytfefpdaohclgfaa.Crc
