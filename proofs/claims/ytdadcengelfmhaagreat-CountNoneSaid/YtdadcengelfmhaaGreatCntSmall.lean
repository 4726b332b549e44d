/-
  The small functions of package count: does a table exist, its sizes, where its picks stand.
-/
import Derived.Test.YtdadcengelfmhaaGreatCntObj
import Derived.Laws.Bits64b
import Derived.Laws.BitsLemmas
namespace Go.Proofs.YtdadcengelfmhaaGreat.Cnt
open Go.RowKit RowLaw Crc
open Go.Proofs.YtdadcengelfmhaaGreat.Dev (Dev DS ptr Turn Step readB)
open Go.Proofs.YtdadcengelfmhaaGreat.Rot (planOk tlN pkN fsN)
set_option maxRecDepth 100000

theorem neTab (p : Nat) (W : World) : (binOp .neq 34 (.pointer (some ⟨p, 0, none⟩)) (.pointer none)).run Tryz.prog W = .ok (.bool true) W := by kernel_rfl
theorem neDev (p : Nat) (W : World) : (binOp .neq 25 (.pointer (some ⟨p, 0, none⟩)) (.pointer none)).run Tryz.prog W = .ok (.bool true) W := by kernel_rfl
section
variable {w : World} {t bp bt bc : Nat} {fp ft fc : Nat → Option Nat} {B C : List Nat} {T : TD} {s : DS}
theorem exists_nilT (w : World) : Calls Tryz.prog 29 #[.pointer none] w fun e w' => e = .returned (.bool false) ∧ w' = w := by
  go_enter Tryz.func29, Tryz.ntmps29
  go_wp2
  go_ret
  exact ⟨rfl, rfl⟩
theorem exists_zeroT (hc : w.cell? ⟨t, 0, none⟩ = some (.pointer none)) : Calls Tryz.prog 29 #[ptr t] w fun e w' => e = .returned (.bool false) ∧ w' = w := by
  have h1 := neTab t w
  unfold ptr
  go_enter Tryz.func29, Tryz.ntmps29
  go_wp2
  go_ret
  exact ⟨rfl, rfl⟩
theorem exists_yesT (h : TabAt w t bp bt bc fp ft fc B T) : Calls Tryz.prog 29 #[ptr t] w fun e w' => e = .returned (.bool true) ∧ w' = w := by
  have h1 := neTab t w
  have h2 := neDev T.d w
  have hc : w.cell? ⟨t, 0, none⟩ = some (ptr T.d) := (h.cell 0).trans rfl
  unfold ptr at hc ⊢
  clear h
  go_enter Tryz.func29, Tryz.ntmps29
  go_wp2
  go_ret
  exact ⟨rfl, rfl⟩

theorem First_nilT (w : World) : Calls Tryz.prog 11 #[.pointer none] w fun e w' => e = .returned (.int .u32 0) ∧ w' = w := by
  go_enter Tryz.func11, Tryz.ntmps11
  go_wp2_with ((with_reducible refine (exists_nilT _).mono ?_); rintro e W1 ⟨rfl, rfl⟩)
  go_ret
  exact ⟨rfl, rfl⟩
theorem First_zeroT (hc : w.cell? ⟨t, 0, none⟩ = some (.pointer none)) : Calls Tryz.prog 11 #[ptr t] w fun e w' => e = .returned (.int .u32 0) ∧ w' = w := by
  have hE := exists_zeroT hc
  clear hc
  unfold ptr at hE ⊢
  go_enter Tryz.func11, Tryz.ntmps11
  go_wp2_with ((with_reducible refine hE.mono ?_); rintro e W1 ⟨rfl, rfl⟩)
  go_ret
  exact ⟨rfl, rfl⟩
theorem First_anyT (h : TabAt w t bp bt bc fp ft fc B T) : Calls Tryz.prog 11 #[ptr t] w fun e w' => e = .returned (.int .u32 (fsN T.n : Int)) ∧ w' = w := by
  have hE := exists_yesT h
  have hc : w.cell? ⟨t, 3, none⟩ = some (.int .u32 (fsN T.n : Int)) := (h.cell 3).trans rfl
  clear h
  unfold ptr at hE ⊢
  go_enter Tryz.func11, Tryz.ntmps11
  go_wp2_with ((with_reducible refine hE.mono ?_); rintro e W1 ⟨rfl, rfl⟩)
  go_ret
  exact ⟨rfl, rfl⟩
theorem Size_nilT (w : World) : Calls Tryz.prog 18 #[.pointer none] w fun e w' => e = .returned (.int .u32 0) ∧ w' = w := by
  go_enter Tryz.func18, Tryz.ntmps18
  go_wp2_with ((with_reducible refine (exists_nilT _).mono ?_); rintro e W1 ⟨rfl, rfl⟩)
  go_ret
  exact ⟨rfl, rfl⟩
theorem Size_zeroT (hc : w.cell? ⟨t, 0, none⟩ = some (.pointer none)) : Calls Tryz.prog 18 #[ptr t] w fun e w' => e = .returned (.int .u32 0) ∧ w' = w := by
  have hE := exists_zeroT hc
  clear hc
  unfold ptr at hE ⊢
  go_enter Tryz.func18, Tryz.ntmps18
  go_wp2_with ((with_reducible refine hE.mono ?_); rintro e W1 ⟨rfl, rfl⟩)
  go_ret
  exact ⟨rfl, rfl⟩
theorem Size_anyT (h : TabAt w t bp bt bc fp ft fc B T) (hd : Dev w T.d C s) (hn : s.n = T.n) : Calls Tryz.prog 18 #[ptr t] w fun e w' => e = .returned (.int .u32 (T.n : Int)) ∧ w' = w := by
  have hE := exists_yesT h
  have hS := Rot.Size_any hd
  rw [hn] at hS
  have hc : w.cell? ⟨t, 0, none⟩ = some (ptr T.d) := (h.cell 0).trans rfl
  clear h
  unfold ptr at hE hS hc ⊢
  go_enter Tryz.func18, Tryz.ntmps18
  go_wp2_with (first
    | ((with_reducible refine hE.mono ?_); rintro e W1 ⟨rfl, rfl⟩)
    | ((with_reducible refine hS.mono ?_); rintro e W1 ⟨rfl, rfl⟩))
  go_ret
  exact ⟨rfl, rfl⟩

theorem and_one32 (x : Nat) (h : x < 4294967296) : bits .and .u32 (x : Int) 1 = ((x % 2 : Nat) : Int) := by
  have := (bits_nat .u32 32 (by decide) (fun n h0 h1 => by rw [IntKind.wrap_u32]; omega) x 1 h (by decide)).1
  rw [Nat.and_one_is_mod] at this
  exact this
theorem and_one64 (x : Nat) (h : x < 18446744073709551616) : bits .and .u64 (x : Int) 1 = ((x % 2 : Nat) : Int) := by
  have := (bits_nat .u64 64 (by decide) (fun n h0 h1 => by rw [IntKind.wrap_u64]; omega) x 1 h (by decide)).1
  rw [Nat.and_one_is_mod] at this
  exact this
theorem xor_u32 (a b : Nat) (ha : a < 4294967296) (hb : b < 4294967296) : bits .xor .u32 (a : Int) (b : Int) = ((a ^^^ b : Nat) : Int) := by
  have hx : a ^^^ b < 2 ^ 32 := Nat.xor_lt_two_pow (by omega) (by omega)
  have h1 : (BitVec.ofInt 32 (a : Int)).toNat = a := by
    rw [BitVec.ofInt_natCast, BitVec.toNat_ofNat]; exact Nat.mod_eq_of_lt (by omega)
  have h2 : (BitVec.ofInt 32 (b : Int)).toNat = b := by
    rw [BitVec.ofInt_natCast, BitVec.toNat_ofNat]; exact Nat.mod_eq_of_lt (by omega)
  show IntKind.u32.wrap ((BitVec.ofInt 32 (a : Int) ^^^ BitVec.ofInt 32 (b : Int)).toNat : Int) = _
  rw [BitVec.toNat_xor, h1, h2, IntKind.wrap_u32]
  omega
theorem shr_cast (x k : Nat) : ((x : Int) / 2 ^ k) = ((x / 2 ^ k : Nat) : Int) := by rw [Int.natCast_ediv]; congr 1
theorem shr_lt {x n : Nat} (k : Nat) (h : x < n) : x / 2 ^ k < n := Nat.lt_of_le_of_lt (Nat.div_le_self _ _) h

theorem pickAt_any (h : TabAt w t bp bt bc fp ft fc B T) {k : Nat} (hk : k < pkN T.n) : Calls Tryz.prog 36 #[ptr t, .int .u32 (k : Int)] w fun e w' => e = .returned (.tuple #[.int .u32 (pkAt T k : Int), .int .i64 0]) ∧ w' = w := by
  have hc : w.cell? ⟨t, 4, none⟩ = some (.int .u32 (T.ch : Int)) := (h.cell 4).trans rfl
  have hlt := pkAt_lt h.ok hk
  obtain ⟨h1, h2⟩ := plan_of h.ok.plan
  have hpl := Rot.plan_facts h1 h2
  have hk16 : k < 16 := by omega
  have hbit := and_one32 (T.ch / 2 ^ k) (shr_lt k h.ok.ch)
  rw [← shr_cast] at hbit
  have hat : pkAt T k = 2 + 2 * k + T.ch / 2 ^ k % 2 := rfl
  have hb2 : T.ch / 2 ^ k % 2 < 2 := Nat.mod_lt _ (by omega)
  generalize T.ch / 2 ^ k % 2 = b at hbit hat hb2
  generalize pkAt T k = at' at hat hlt ⊢
  have HA := Lib.hid hat
  clear h hpl hat
  have e1 : (2 + 2 * (k : Int) + (b : Int)) % 4294967296 = 2 + 2 * k + b := by omega
  unfold ptr
  go_enter Tryz.func36, Tryz.ntmps36
  go_wp2
  go_ret2
  refine ⟨?_, rfl⟩
  rw [HA.out]
  rfl
end
end Go.Proofs.YtdadcengelfmhaaGreat.Cnt
