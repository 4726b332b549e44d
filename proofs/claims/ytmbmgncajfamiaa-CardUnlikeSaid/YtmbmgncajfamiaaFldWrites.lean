/-
  The walk of the law FieldWrites.
-/
import Derived.Test.YtmbmgncajfamiaaFldRefDone
import Derived.Test.YtmbmgncajfamiaaFldHead
namespace Go.Proofs.Ytmbmgncajfamiaa.Fld
open Go.RowKit RowLaw Crc
set_option maxRecDepth 100000

/-- what Done hands back -/
def doneB (m : UInt8) : Option (List UInt8) → List UInt8
  | some f => fdone f m
  | none => zeros
def doneE : Option (List UInt8) → Int
  | some _ => 0
  | none => 3
def shortSt (f : List UInt8) : Option (List UInt8) := if f.length ≤ 251 then some f else none
theorem fdone_length (f : List UInt8) (m : UInt8) (h : f.length ≤ 251) : (fdone f m).length = 256 := sealB_length (by rw [List.length_set, fblk_length _ (by omega)])
theorem doneB_short (f : List UInt8) (m : UInt8) : (doneB m (shortSt f)).length = 256 := by
  unfold shortSt
  split
  · rename_i h; exact fdone_length f m h
  · exact zeros_length
theorem doneB_length {st : Option (List UInt8)} {w : World} {p : Nat} (h : WIs w p st) (m : UInt8) : (doneB m st).length = 256 := by
  cases st with
  | none => exact zeros_length
  | some f => exact fdone_length f m h.1
theorem Done_any (st : Option (List UInt8)) (p : Nat) (m : UInt8) (w : World) (hw : WIs w p st) :
    Calls Try.prog 24 #[.pointer (some ⟨p, 0, none⟩), .int .u8 (m.toNat : Int)] w fun e w' => e = .returned (.tuple #[.agg (cellsOf (doneB m st)), .int .i64 (doneE st)]) ∧ Below w.heap.size w w' := by
  cases st with
  | none => exact Done_none p _ w hw
  | some f => exact Done_some p f m w hw
theorem refDone_any (f : List UInt8) (hf : f.length ≤ 100000) (m : UInt8) (w : World) :
    Calls Try.prog 28 #[.int .u8 (m.toNat : Int), .string ⟨f.toArray⟩] w fun e w' => e = .returned (.tuple #[.agg (cellsOf (doneB m (shortSt f))), .int .i64 (doneE (shortSt f))]) ∧ Below w.heap.size w w' := by
  have hsz : (⟨f.toArray⟩ : ByteArray).size = f.length := by simp [ByteArray.size]
  unfold shortSt
  by_cases h : f.length ≤ 251
  · rw [if_pos h]
    exact refDone_short ⟨f.toArray⟩ f rfl m h w
  · rw [if_neg h]
    exact refDone_long ⟨f.toArray⟩ m (by omega) (by omega) w

theorem cat_app (f g : List UInt8) : ((⟨f.toArray⟩ : ByteArray) ++ ⟨g.toArray⟩) = ⟨(f ++ g).toArray⟩ := by
  apply ByteArray.ext
  simp

end Go.Proofs.Ytmbmgncajfamiaa.Fld
