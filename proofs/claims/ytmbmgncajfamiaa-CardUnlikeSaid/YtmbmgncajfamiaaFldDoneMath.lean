/-
  The bytes of a block of fields.
-/
import Derived.Test.YtmbmgncajfamiaaFldWrites
namespace Go.Proofs.Ytmbmgncajfamiaa.Fld
open Crc

theorem fdone_eq (f : List UInt8) (m : UInt8) : fdone f m = (m :: (f ++ List.replicate (255 - f.length) 0)).take 252 ++ be4 (crc ((m :: (f ++ List.replicate (255 - f.length) 0)).take 252)) := rfl
theorem fdone_take (f : List UInt8) (m : UInt8) (j : Nat) (h1 : j ≤ f.length) (h2 : j ≤ 251) : (fdone f m).take (1 + j) = m :: f.take j := by
  rw [fdone_eq, List.take_append_of_le_length (by simp; omega), List.take_take, Nat.min_eq_left (by omega), Nat.add_comm 1 j, List.take_succ_cons, List.take_append_of_le_length h1]
theorem fdone_zero (f : List UInt8) (m : UInt8) (i : Nat) (h1 : 1 + f.length ≤ i) (h2 : i < 252) : (fdone f m)[i]? = some 0 := by
  rw [fdone_eq, List.getElem?_append_left (by simp; omega), List.getElem?_take_of_lt h2]
  obtain ⟨j, rfl⟩ : ∃ j, i = j + 1 := ⟨i - 1, by omega⟩
  rw [List.getElem?_cons_succ, List.getElem?_append_right (by omega), List.getElem?_replicate]
  rw [if_pos (by omega)]
theorem fdone_first (f : List UInt8) (m : UInt8) : (fdone f m).getD 0 0 = m := by rw [fdone_eq]; rfl
theorem fdone_good (f : List UInt8) (m : UInt8) (h : f.length ≤ 251) : sealB (fdone f m) = fdone f m := sealB_sealB (by rw [List.length_set, fblk_length _ (by omega)])

/-- the bytes of the first fields begin the bytes of all -/
theorem catTo_prefix (xs : List It) (j : Nat) : ∀ d, j + d ≤ xs.length → ∃ r, catTo xs (j + d) = catTo xs j ++ r
  | 0, _ => ⟨[], by simp⟩
  | d + 1, h => by
    obtain ⟨r, hr⟩ := catTo_prefix xs j d (by omega)
    exact ⟨r ++ (itBytes xs[j + d]).getD [], by rw [← Nat.add_assoc, catTo_succ xs (j + d) (by omega), hr, List.append_assoc]⟩
theorem mayTo_prefix (xs : List It) (j : Nat) : ∀ d, j + d ≤ xs.length → mayTo xs (j + d) = true → mayTo xs j = true
  | 0, _, h => h
  | d + 1, h, hm => by
    rw [← Nat.add_assoc, mayTo_succ xs (j + d) (by omega), Bool.and_eq_true] at hm
    exact mayTo_prefix xs j d (by omega) hm.1
theorem stTo_prefix (xs : List It) (j n : Nat) (hj : j ≤ n) (hn : n ≤ xs.length) (F : List UInt8) (h : stTo xs n = some F) : ∃ r, stTo xs j = some (catTo xs j) ∧ F = catTo xs j ++ r ∧ F.length ≤ 251 := by
  obtain ⟨d, rfl⟩ : ∃ d, n = j + d := ⟨n - j, by omega⟩
  unfold stTo at h
  split at h
  · rename_i hc
    cases h
    obtain ⟨r, hr⟩ := catTo_prefix xs j d hn
    refine ⟨r, ?_, hr, hc.2⟩
    unfold stTo
    rw [if_pos ⟨mayTo_prefix xs j d hn hc.1, by have := hc.2; rw [hr, List.length_append] at this; omega⟩]
  · cases h

end Go.Proofs.Ytmbmgncajfamiaa.Fld
