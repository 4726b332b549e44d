/-
  The walk of pantileref01.Sum: bit by bit.
-/
import Derived.Test.YtmbmgncajfamiaaCrcSum
namespace Go.Proofs.Ytmbmgncajfamiaa.Crc
open Go.RowKit RowLaw

theorem bitsU8_take (u : UInt8) (j : Nat) (h : j < 8) : (bitsU8 u).take (j + 1) = (bitsU8 u).take j ++ [u.toNat.testBit (7 - j)] := by
  rcases j with _ | _ | _ | _ | _ | _ | _ | _ | j <;> first | rfl | omega
theorem reg_take (x : BitVec 32) (u : UInt8) (j : Nat) (h : j < 8) : reg x ((bitsU8 u).take (j + 1)) = stp (reg x ((bitsU8 u).take j)) (u.toNat.testBit (7 - j)) := by
  rw [bitsU8_take u j h, reg_append]; rfl
theorem bit_t (n j : Nat) : ((n : Int) / 2 ^ j).tmod 2 = ((n / 2 ^ j % 2 : Nat) : Int) := by
  have h : ((n : Int) / 2 ^ j) = ((n / 2 ^ j : Nat) : Int) := by rw [Int.natCast_ediv]; congr 1
  rw [h]; rfl
theorem bit_01 (n j : Nat) : ((n : Int) / 2 ^ j).tmod 2 = 0 ∨ ((n : Int) / 2 ^ j).tmod 2 = 1 := by rw [bit_t]; omega
theorem bit_eq (n j : Nat) : (((n : Int) / 2 ^ j).tmod 2 == 1) = n.testBit j := by
  rw [bit_t, Nat.testBit_eq_decide_div_mod_eq]
  by_cases h : n / 2 ^ j % 2 = 1
  · rw [h]; rfl
  · have h0 : n / 2 ^ j % 2 = 0 := by omega
    rw [h0]; rfl
theorem sub_w (x : BitVec 32) : 4294967295 - (x.toNat : Int) = (((~~~ x).toNat : Nat) : Int) := by
  have := x.isLt
  rw [BitVec.toNat_not]; omega
theorem len_take8 (u : UInt8) : (bitsU8 u).take 8 = bitsU8 u := rfl

set_option maxHeartbeats 800000 in
theorem refSum_any (s : ByteArray) (hs : s.size ≤ maxLen) (w : World) :
    Calls Try.prog 35 #[.string s] w fun e w' => e = .returned (.int .u32 ((crc s.data.toList).toNat : Int)) ∧ w = w' := by
  unfold maxLen at hs
  go_enter Try.func35, Try.ntmps35
  go_wp2_with fail
  go_loop [3, 4] (fun x i => ∃ k : Nat, k ≤ s.size ∧ i = .int .i64 k ∧ x = .int .u32 ((regTo s.data.toList k).toNat : Int)) (fun _ i => s.size - (intOf i).toNat)
  case atStart => exact ⟨0, by omega, rfl, by rw [regTo_zero]; rfl⟩
  case round =>
    obtain ⟨k, hk, rfl, rfl⟩ := hrel
    by_cases hlt : k < s.size
    · have hu : s[k].toNat < 256 := s[k].toNat_lt
      have hd : decide ((k : Int) < (s.size : Int)) = true := by simp; omega
      have hr := regTo_succ s.data.toList k (by simpa using hlt)
      have HR := Lib.hid hr; clear hr
      go_wp2_with fail
      go_loop [3, 5] (fun x j => ∃ m : Nat, m ≤ 8 ∧ j = .int .i64 (7 - (m : Int)) ∧ x = .int .u32 ((reg (regTo s.data.toList k) ((bitsU8 s[k]).take m)).toNat : Int)) (fun _ j => (intOf j + 1).toNat)
      case atStart => exact ⟨0, by omega, rfl, rfl⟩
      case round =>
        obtain ⟨m, hm, rfl, rfl⟩ := hrel
        by_cases hl2 : m < 8
        · have hx := (reg (regTo s.data.toList k) ((bitsU8 s[k]).take m)).isLt
          have hst := reg_take (regTo s.data.toList k) s[k] m hl2
          have HST := Lib.hid hst; clear hst
          go_wp2_with fail
          refine (step_any _ (by omega) (by omega) _ (bit_01 _ _) _).mono ?_
          rintro e w' ⟨rfl, rfl⟩
          rw [bit_eq, wd_toNat, ← HST.out]
          go_wp2_with fail
          go_round
          case rel => exact ⟨m + 1, by omega, by simp; omega, rfl⟩
          case measure => simp [intOf]; omega
        · obtain rfl : m = 8 := by omega
          rw [len_take8, ← byteStep_reg]
          go_wp2_with fail
          go_round
          case rel => exact ⟨k + 1, by omega, by go_num, by rw [HR.out]; rfl⟩
          case measure => simp [intOf]; omega
    · obtain rfl : k = s.size := by omega
      rw [regTo_all _ _ (by simp)]
      go_wp2_with fail
      go_ret
      exact ⟨ret_u32 (sub_w _), rfl⟩

end Go.Proofs.Ytmbmgncajfamiaa.Crc
