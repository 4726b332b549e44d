/-
  The walk of the law CrcBursts: a burst breaks a seal.
-/
import Derived.Test.YtmbmgncajfamiaaCrcHead
namespace Go.Proofs.Ytmbmgncajfamiaa.Crc
open Go.RowKit RowLaw

theorem flip_set (l : List UInt8) (p : Nat) (h : p / 8 < l.length) : flip l p = l.set (p / 8) (UInt8.ofNat (l[p / 8].toNat ^^^ 128 / 2 ^ (p % 8))) := by
  unfold flip
  apply List.ext_getElem?
  intro i
  rw [List.getElem?_modify, List.getElem?_set]
  by_cases hi : p / 8 = i
  · subst hi
    rw [List.getElem?_eq_getElem h]
    simp [h]
  · simp [hi]
theorem burst_yes (l : List UInt8) (k n j : Nat) (h : n.testBit j = true) : burst l k n (j + 1) = flip (burst l k n j) (k + j) := by
  show (if n.testBit j then flip (burst l k n j) (k + j) else burst l k n j) = _
  rw [if_pos h]
theorem burst_no (l : List UInt8) (k n j : Nat) (h : n.testBit j = false) : burst l k n (j + 1) = burst l k n j := by
  show (if n.testBit j then flip (burst l k n j) (k + j) else burst l k n j) = _
  rw [if_neg (by simp [h])]
theorem xor_pow (u : UInt8) (r : Nat) (_h : r < 8) : bits .xor .u8 (u.toNat : Int) (128 / 2 ^ r) = ((UInt8.ofNat (u.toNat ^^^ 128 / 2 ^ r)).toNat : Int) := by
  have hu := u.toNat_lt
  have e : ((128 : Int) / 2 ^ r) = ((128 / 2 ^ r : Nat) : Int) := by rw [Int.natCast_ediv]; congr 1
  have hd : 128 / 2 ^ r < 256 := Nat.lt_of_le_of_lt (Nat.div_le_self _ _) (by omega)
  rw [e, u8_xor_nat _ _ hu hd, UInt8.toNat_ofNat', Nat.mod_eq_of_lt (Nat.xor_lt_two_pow (n := 8) hu hd)]

end Go.Proofs.Ytmbmgncajfamiaa.Crc
