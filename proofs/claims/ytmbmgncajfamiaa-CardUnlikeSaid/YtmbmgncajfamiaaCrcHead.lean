/-
  The walk of the laws' own head: the sums and blocks that the document fixes.
-/
import Derived.Test.YtmbmgncajfamiaaCrcGood
namespace Go.Proofs.Ytmbmgncajfamiaa.Crc
open Go.RowKit RowLaw

theorem crc_nil : crc [] = 0#32 := by decide
theorem crc_nine : crc [49, 50, 51, 52, 53, 54, 55, 56, 57] = 0xfc891918#32 := by decide +kernel
theorem zeros_not : sealB zeros ≠ zeros := by decide +kernel

theorem Good_sealed (w : World) : Calls Try.prog 54 #[.agg (cellsOf (sealB zeros))] w fun e w' => e = .returned (.bool true) ∧ Below w.heap.size w w' := by
  have := Good_any (sealB zeros) (sealB_length zeros_length) w
  rw [show decide (sealB (sealB zeros) = sealB zeros) = true from decide_eq_true (sealB_sealB zeros_length)] at this
  exact this
theorem Good_zeros (w : World) : Calls Try.prog 54 #[.agg (cellsOf zeros)] w fun e w' => e = .returned (.bool false) ∧ Below w.heap.size w w' := by
  have := Good_any zeros zeros_length w
  rw [show decide (sealB zeros = zeros) = false from decide_eq_false zeros_not] at this
  exact this
end Go.Proofs.Ytmbmgncajfamiaa.Crc
