/-
  The reference's readers: rows by value. The walks of its Open and End.
-/
import Derived.Test.YtkkeemjgeeillaaFldHead
namespace Go.Proofs.Ytkkeemjgeeillaa.Fld
open Go.RowKit RowLaw Crc
set_option maxRecDepth 100000

/-- a row's cells: a block's bytes, a place, whether nothing failed -/
def rowCells (l : List UInt8) (k : Nat) (fine : Bool) : Array Value := cellsOf l ++ #[.int .i64 (k : Int), .bool fine]
def rowV : Option (List UInt8 × Nat) → Array Value
  | some (l, k) => rowCells l k true
  | none => rowCells zeros 0 false
theorem rowCells_size (l : List UInt8) (k : Nat) (b : Bool) : (rowCells l k b).size = l.length + 2 := by unfold rowCells; rw [Array.size_append, cellsOf_size]; rfl
theorem rowCells_byte (l : List UInt8) (k : Nat) (b : Bool) (j : Nat) (h : j < l.length) : (rowCells l k b)[j]? = some (.int .u8 (l[j].toNat : Int)) := by
  unfold rowCells
  rw [Array.getElem?_append_left (by rw [cellsOf_size]; exact h), cellsOf_get l j h]
theorem rowCells_at (l : List UInt8) (k : Nat) (b : Bool) (h : l.length = 256) : (rowCells l k b)[256]? = some (.int .i64 (k : Int)) := by
  unfold rowCells
  rw [Array.getElem?_append_right (by rw [cellsOf_size]; omega), cellsOf_size, h]; rfl
theorem rowCells_fine (l : List UInt8) (k : Nat) (b : Bool) (h : l.length = 256) : (rowCells l k b)[257]? = some (.bool b) := by
  unfold rowCells
  rw [Array.getElem?_append_right (by rw [cellsOf_size]; omega), cellsOf_size, h]; rfl
theorem rowCells_one (l : List UInt8) (k : Nat) (b : Bool) : (rowCells l k b).all (·.oneCell') = true := by
  unfold rowCells
  rw [Array.all_append, cellsOf_one]
  simp [Value.oneCell']
theorem rowCells_setAt (l : List UInt8) (k k' : Nat) (b : Bool) (h : l.length = 256) : (rowCells l k b).setIfInBounds 256 (.int .i64 (k' : Int)) = rowCells l k' b := by
  unfold rowCells
  rw [Array.setIfInBounds_append_right (by rw [cellsOf_size]; omega), cellsOf_size, h]; rfl
section
variable {w : World} {p : Nat} {l : List UInt8} {k : Nat} {b : Bool}
end
/-! End -/
theorem blankB_piece_false (l : List UInt8) (k m j : Nat) (hl : k + m ≤ l.length) (h1 : k ≤ j) (h2 : j < k + m) (h0 : l[j]'(by omega) ≠ 0) : blankB (piece l k m) = false := by
  have hj : j - k < (piece l k m).length := by rw [piece_length l k m hl]; omega
  refine blankB_false _ (j - k) hj ?_
  rw [piece_get l k m (j - k) hl hj]
  have e : k + (j - k) = j := by omega
  simp only [e]
  exact h0
theorem blankB_piece_true (l : List UInt8) (k m : Nat) (hl : k + m ≤ l.length) (h : ∀ j (hj : j < l.length), k ≤ j → j < k + m → l[j] = 0) : blankB (piece l k m) = true := by
  unfold blankB
  rw [List.all_eq_true]
  intro u hu
  obtain ⟨j, hj, rfl⟩ := List.mem_iff_getElem.1 hu
  have hjl := hj
  rw [piece_length l k m hl] at hjl
  rw [piece_get l k m j hl hj, h (k + j) (by omega) (by omega) (by omega)]
  rfl

end Go.Proofs.Ytkkeemjgeeillaa.Fld
