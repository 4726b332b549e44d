/-
  The walk of the laws' cut.
-/
import Derived.Test.YtfefpdaohclgfaaFldBackMath
namespace Go.Proofs.Ytfefpdaohclgfaa.Fld
open Go.RowKit RowLaw Crc

theorem cut_any (n : Nat) (hn : n < 18446744073709551616) (width : Int) (hw : widthB width = true) (w : World) :
    Calls Try.prog 36 #[.int .u64 (n : Int), .int .i64 width] w fun e w' => e = .returned (.int .u64 ((n % 256 ^ numSz width : Nat) : Int)) ∧ w = w' := by
  have h' : width = 1 ∨ width = 2 ∨ width = 4 ∨ width = 8 := of_decide_eq_true hw
  clear hw
  rcases h' with rfl | rfl | rfl | rfl
  · rw [show ((n % 256 ^ numSz 1 : Nat) : Int) = (n : Int) % 256 from by rw [show numSz 1 = 1 from rfl]; omega]
    go_enter Try.func36, Try.ntmps36
    go_wp2
    go_ret
    exact ⟨rfl, rfl⟩
  · rw [show ((n % 256 ^ numSz 2 : Nat) : Int) = (n : Int) % 65536 from by rw [show numSz 2 = 2 from rfl]; omega]
    go_enter Try.func36, Try.ntmps36
    go_wp2
    go_ret
    exact ⟨rfl, rfl⟩
  · rw [show ((n % 256 ^ numSz 4 : Nat) : Int) = (n : Int) % 4294967296 from by rw [show numSz 4 = 4 from rfl]; omega]
    go_enter Try.func36, Try.ntmps36
    go_wp2
    go_ret
    exact ⟨rfl, rfl⟩
  · rw [show ((n % 256 ^ numSz 8 : Nat) : Int) = (n : Int) from by rw [show numSz 8 = 8 from rfl]; omega]
    go_enter Try.func36, Try.ntmps36
    go_wp2
    go_ret
    exact ⟨rfl, rfl⟩

end Go.Proofs.Ytfefpdaohclgfaa.Fld
