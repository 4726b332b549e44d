/-
  No table, and a table of no device.
-/
import Derived.Test.YtdadcengelfmhaaGreatCntChanged
namespace Go.Proofs.YtdadcengelfmhaaGreat.Cnt
open Go.RowKit RowLaw Crc
open Go.Proofs.YtdadcengelfmhaaGreat.Dev (ptr)
set_option maxRecDepth 100000
section
variable {w : World} {t : Nat}
theorem countC_nilT (a : Nat) (f : Nat) (w0 : World) (h0 : w0 = w) : Calls Tryz.prog 45 #[.pointer none, .int .u32 (a : Int), .func (.func f) #[] #[]] w fun e w' => e = .returned (.tuple #[.int .u16 0, .int .i64 1]) ∧ w' = w := by
  have hE := exists_nilT w
  go_enter Tryz.func45, Tryz.ntmps45
  go_wp2_with ((with_reducible refine hE.mono ?_); rintro e W1 ⟨rfl, rfl⟩)
  go_ret2
  exact ⟨rfl, rfl⟩
theorem Old_nilT (a : Nat) (w0 : World) (h0 : w0 = w) : Calls Tryz.prog 16 #[.pointer none, .int .u32 (a : Int)] w fun e w' => e = .returned (.tuple #[.int .u16 0, .int .i64 1]) ∧ w' = w := by
  have hE := countC_nilT (w := w) a 47 w rfl
  go_enter Tryz.func16, Tryz.ntmps16
  go_wp2_with fail
  refine hE.mono ?_
  rintro e W1 ⟨rfl, rfl⟩
  go_wp2_with fail
  go_ret2
  exact ⟨rfl, rfl⟩
theorem Get_nilT (a : Nat) (w0 : World) (h0 : w0 = w) : Calls Tryz.prog 15 #[.pointer none, .int .u32 (a : Int)] w fun e w' => e = .returned (.tuple #[.int .u16 0, .int .i64 1]) ∧ w' = w := by
  have hE := countC_nilT (w := w) a 46 w rfl
  go_enter Tryz.func15, Tryz.ntmps15
  go_wp2_with fail
  refine hE.mono ?_
  rintro e W1 ⟨rfl, rfl⟩
  go_wp2_with fail
  go_ret2
  exact ⟨rfl, rfl⟩
theorem Set_nilT (a n : Nat) (w0 : World) (h0 : w0 = w) : Calls Tryz.prog 10 #[.pointer none, .int .u32 (a : Int), .int .u16 (n : Int)] w fun e w' => e = .returned (.int .i64 1) ∧ w' = w := by
  have hE := exists_nilT w
  go_enter Tryz.func10, Tryz.ntmps10
  go_wp2_with ((with_reducible refine hE.mono ?_); rintro e W1 ⟨rfl, rfl⟩)
  go_ret
  exact ⟨rfl, rfl⟩
theorem Seal_nilT (w0 : World) (h0 : w0 = w) : Calls Tryz.prog 12 #[.pointer none] w fun e w' => e = .returned (.tuple #[.slice none 0 0, .int .u32 0, .int .i64 1]) ∧ w' = w := by
  have hE := exists_nilT w
  go_enter Tryz.func12, Tryz.ntmps12
  go_wp2_with ((with_reducible refine hE.mono ?_); rintro e W1 ⟨rfl, rfl⟩)
  go_ret3
  exact ⟨rfl, rfl⟩
theorem Changed_nilT (w0 : World) (h0 : w0 = w) : Calls Tryz.prog 17 #[.pointer none] w fun e w' => e = .returned (.slice none 0 0) ∧ w' = w := by
  have hE := exists_nilT w
  go_enter Tryz.func17, Tryz.ntmps17
  go_wp2_with ((with_reducible refine hE.mono ?_); rintro e W1 ⟨rfl, rfl⟩)
  go_ret
  exact ⟨rfl, rfl⟩
theorem countC_zeroT (hc : w.cell? ⟨t, 0, none⟩ = some (.pointer none)) (a : Nat) (f : Nat) (w0 : World) (h0 : w0 = w) : Calls Tryz.prog 45 #[ptr t, .int .u32 (a : Int), .func (.func f) #[] #[]] w fun e w' => e = .returned (.tuple #[.int .u16 0, .int .i64 1]) ∧ w' = w := by
  have hE := exists_zeroT hc
  clear hc
  unfold ptr at hE ⊢
  go_enter Tryz.func45, Tryz.ntmps45
  go_wp2_with ((with_reducible refine hE.mono ?_); rintro e W1 ⟨rfl, rfl⟩)
  go_ret2
  exact ⟨rfl, rfl⟩
theorem Old_zeroT (hc : w.cell? ⟨t, 0, none⟩ = some (.pointer none)) (a : Nat) (w0 : World) (h0 : w0 = w) : Calls Tryz.prog 16 #[ptr t, .int .u32 (a : Int)] w fun e w' => e = .returned (.tuple #[.int .u16 0, .int .i64 1]) ∧ w' = w := by
  have hE := countC_zeroT hc a 47 w rfl
  clear hc
  unfold ptr at hE ⊢
  go_enter Tryz.func16, Tryz.ntmps16
  go_wp2_with fail
  refine hE.mono ?_
  rintro e W1 ⟨rfl, rfl⟩
  go_wp2_with fail
  go_ret2
  exact ⟨rfl, rfl⟩
theorem Get_zeroT (hc : w.cell? ⟨t, 0, none⟩ = some (.pointer none)) (a : Nat) (w0 : World) (h0 : w0 = w) : Calls Tryz.prog 15 #[ptr t, .int .u32 (a : Int)] w fun e w' => e = .returned (.tuple #[.int .u16 0, .int .i64 1]) ∧ w' = w := by
  have hE := countC_zeroT hc a 46 w rfl
  clear hc
  unfold ptr at hE ⊢
  go_enter Tryz.func15, Tryz.ntmps15
  go_wp2_with fail
  refine hE.mono ?_
  rintro e W1 ⟨rfl, rfl⟩
  go_wp2_with fail
  go_ret2
  exact ⟨rfl, rfl⟩
theorem Set_zeroT (hc : w.cell? ⟨t, 0, none⟩ = some (.pointer none)) (a n : Nat) (w0 : World) (h0 : w0 = w) : Calls Tryz.prog 10 #[ptr t, .int .u32 (a : Int), .int .u16 (n : Int)] w fun e w' => e = .returned (.int .i64 1) ∧ w' = w := by
  have hE := exists_zeroT hc
  clear hc
  unfold ptr at hE ⊢
  go_enter Tryz.func10, Tryz.ntmps10
  go_wp2_with ((with_reducible refine hE.mono ?_); rintro e W1 ⟨rfl, rfl⟩)
  go_ret
  exact ⟨rfl, rfl⟩
theorem Seal_zeroT (hc : w.cell? ⟨t, 0, none⟩ = some (.pointer none)) (w0 : World) (h0 : w0 = w) : Calls Tryz.prog 12 #[ptr t] w fun e w' => e = .returned (.tuple #[.slice none 0 0, .int .u32 0, .int .i64 1]) ∧ w' = w := by
  have hE := exists_zeroT hc
  clear hc
  unfold ptr at hE ⊢
  go_enter Tryz.func12, Tryz.ntmps12
  go_wp2_with ((with_reducible refine hE.mono ?_); rintro e W1 ⟨rfl, rfl⟩)
  go_ret3
  exact ⟨rfl, rfl⟩
theorem Changed_zeroT (hc : w.cell? ⟨t, 0, none⟩ = some (.pointer none)) (w0 : World) (h0 : w0 = w) : Calls Tryz.prog 17 #[ptr t] w fun e w' => e = .returned (.slice none 0 0) ∧ w' = w := by
  have hE := exists_zeroT hc
  clear hc
  unfold ptr at hE ⊢
  go_enter Tryz.func17, Tryz.ntmps17
  go_wp2_with ((with_reducible refine hE.mono ?_); rintro e W1 ⟨rfl, rfl⟩)
  go_ret
  exact ⟨rfl, rfl⟩
end
end Go.Proofs.YtdadcengelfmhaaGreat.Cnt
