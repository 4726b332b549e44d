/-
  The walks of crc.shift and pantileref01.step: one bit of the register.
-/
import Derived.Test.YtmbmgncajfamiaaCrcSeal
import Derived.Test.YtmbmgncajfamiaaRows
import Derived.WalkKit
import Derived.WalkSpells
import Derived.WalkLawsBesides
namespace Go.Proofs.Ytmbmgncajfamiaa.Crc
open Go.RowKit

/-- a word as a number of the program -/
def wd (n : Int) : BitVec 32 := BitVec.ofInt 32 n
theorem wd_nat (n : Nat) (h : n < 4294967296) : (wd (n : Int)).toNat = n := ofInt_u32 n h
theorem wd_toNat (x : BitVec 32) : wd (x.toNat : Int) = x := by
  unfold wd; rw [BitVec.ofInt_natCast, BitVec.ofNat_toNat, BitVec.setWidth_eq]
theorem msb_wd (n : Nat) (h : n < 4294967296) : (wd (n : Int)).msb = decide (2147483648 ≤ n) := by
  rw [BitVec.msb_eq_decide, wd_nat n h]
theorem shl_wd (n : Nat) (h : n < 4294967296) : ((wd (n : Int)) <<< 1).toNat = n * 2 % 4294967296 := by
  rw [BitVec.toNat_shiftLeft, wd_nat n h, Nat.shiftLeft_eq]
theorem xor_wd (n : Nat) (h : n < 4294967296) : bits .xor .u32 ((n : Int) * 2 % 4294967296) 79764919 = (((wd (n : Int)) <<< 1 ^^^ 0x04c11db7#32).toNat : Int) := by
  rw [BitVec.toNat_xor, shl_wd n h]
  have := u32_xor_nat (n * 2 % 4294967296) 79764919 (by omega) (by omega)
  exact this

theorem sh_hi (x : Int) (h0 : 0 ≤ x) (h1 : x < 4294967296) (h : (x / 2147483648 == 1) = true) : bits .xor .u32 (x * 2 % 4294967296) 79764919 = ((sh (wd x)).toNat : Int) := by
  obtain ⟨n, rfl⟩ := Int.eq_ofNat_of_zero_le h0
  have hn : 2147483648 ≤ n := by simp at h; omega
  unfold sh
  rw [msb_wd n (by omega), if_pos (by simpa using hn), xor_wd n (by omega)]
theorem sh_lo (x : Int) (h0 : 0 ≤ x) (h1 : x < 4294967296) (h : (x / 2147483648 == 1) = false) : x * 2 % 4294967296 = ((sh (wd x)).toNat : Int) := by
  obtain ⟨n, rfl⟩ := Int.eq_ofNat_of_zero_le h0
  have hn : ¬ 2147483648 ≤ n := by simp at h; omega
  unfold sh
  rw [msb_wd n (by omega), if_neg (by simpa using hn), shl_wd n (by omega)]
  omega
theorem stp_yes (x : Int) (h0 : 0 ≤ x) (h1 : x < 4294967296) (b : Bool) (h : (decide (2147483648 ≤ x) == b) = false) : bits .xor .u32 (x * 2 % 4294967296) 79764919 = ((stp (wd x) b).toNat : Int) := by
  obtain ⟨n, rfl⟩ := Int.eq_ofNat_of_zero_le h0
  have e : decide ((2147483648 : Int) ≤ (n : Int)) = decide (2147483648 ≤ n) := by congr 1; simp; omega
  rw [e] at h
  unfold stp
  rw [msb_wd n (by omega), bne, h, if_pos (by decide), xor_wd n (by omega)]
theorem stp_no (x : Int) (h0 : 0 ≤ x) (h1 : x < 4294967296) (b : Bool) (h : (decide (2147483648 ≤ x) == b) = true) : x * 2 % 4294967296 = ((stp (wd x) b).toNat : Int) := by
  obtain ⟨n, rfl⟩ := Int.eq_ofNat_of_zero_le h0
  have e : decide ((2147483648 : Int) ≤ (n : Int)) = decide (2147483648 ≤ n) := by congr 1; simp; omega
  rw [e] at h
  unfold stp
  rw [msb_wd n (by omega), bne, h, if_neg (by decide), shl_wd n (by omega)]
  omega

theorem ret_u32 {a b : Int} (h : a = b) : Ending.returned (.int .u32 a) = .returned (.int .u32 b) := by rw [h]

set_option maxHeartbeats 400000 in
theorem shift_any (x : Int) (h0 : 0 ≤ x) (h1 : x < 4294967296) (w : World) :
    Calls Try.prog 71 #[.int .u32 x] w fun e w' => e = .returned (.int .u32 ((sh (wd x)).toNat : Int)) ∧ w = w' := by
  go_enter Try.func71, Try.ntmps71
  go_wp2
  · go_ret
    exact ⟨ret_u32 (sh_hi x h0 h1 ‹_›), rfl⟩
  · go_ret
    exact ⟨ret_u32 (sh_lo x h0 h1 ‹_›), rfl⟩

set_option maxHeartbeats 400000 in
theorem step_one (x : Int) (h0 : 0 ≤ x) (h1 : x < 4294967296) (w : World) :
    Calls Try.prog 60 #[.int .u32 x, .int .u8 1] w fun e w' => e = .returned (.int .u32 ((stp (wd x) true).toNat : Int)) ∧ w = w' := by
  by_cases hx : 2147483648 ≤ x
  · go_enter Try.func60, Try.ntmps60
    go_wp2
    go_ret
    exact ⟨ret_u32 (stp_no x h0 h1 true (by simp [hx])), rfl⟩
  · go_enter Try.func60, Try.ntmps60
    go_wp2
    go_ret
    refine ⟨ret_u32 ?_, rfl⟩
    have h2 := stp_yes x h0 h1 true (by simp [hx])
    rw [show x * 2 % 4294967296 = x * 2 from by omega] at h2
    exact h2

set_option maxHeartbeats 400000 in
theorem step_zero (x : Int) (h0 : 0 ≤ x) (h1 : x < 4294967296) (w : World) :
    Calls Try.prog 60 #[.int .u32 x, .int .u8 0] w fun e w' => e = .returned (.int .u32 ((stp (wd x) false).toNat : Int)) ∧ w = w' := by
  by_cases hx : 2147483648 ≤ x
  · go_enter Try.func60, Try.ntmps60
    go_wp2
    go_ret
    exact ⟨ret_u32 (stp_yes x h0 h1 false (by simp [hx])), rfl⟩
  · go_enter Try.func60, Try.ntmps60
    go_wp2
    go_ret
    refine ⟨ret_u32 ?_, rfl⟩
    have h2 := stp_no x h0 h1 false (by simp [hx])
    rw [show x * 2 % 4294967296 = x * 2 from by omega] at h2
    exact h2

theorem step_any (x : Int) (h0 : 0 ≤ x) (h1 : x < 4294967296) (y : Int) (hy : y = 0 ∨ y = 1) (w : World) :
    Calls Try.prog 60 #[.int .u32 x, .int .u8 y] w fun e w' => e = .returned (.int .u32 ((stp (wd x) (y == 1)).toNat : Int)) ∧ w = w' := by
  rcases hy with rfl | rfl
  · exact step_zero x h0 h1 w
  · exact step_one x h0 h1 w

end Go.Proofs.Ytmbmgncajfamiaa.Crc
