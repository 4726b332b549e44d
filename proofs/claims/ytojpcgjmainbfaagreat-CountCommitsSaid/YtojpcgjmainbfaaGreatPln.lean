/-
  Pln: RotPlan, RotRefPlan, RotPlanEq.
-/
import Derived.Test.YtojpcgjmainbfaaGreatRows
import Derived.Test.YtojpcgjmainbfaaGreatBoxes1
import Derived.Test.YtojpcgjmainbfaaGreatCrc3
import Derived.Test.YtojpcgjmainbfaaGreatKit1
/-
  Plans of devices, as numbers. Plain mathematics.
-/
namespace Go.Proofs.YtojpcgjmainbfaaGreat.Rot
set_option maxRecDepth 100000

/-! Plans. -/
def up (a b : Nat) : Nat := if a % b = 0 then a / b else a / b + 1
def tlN (n : Nat) : Nat := (n + 63) / 64
def pkN (n : Nat) : Nat := (tlN n + 1023) / 1024
def fsN (n : Nat) : Nat := 2 + 2 * pkN n + 2 * tlN n
theorem plan_facts {n : Nat} (h1 : 64 ≤ n) (h2 : n ≤ 1048576) : fsN n = 2 + 2 * (pkN n + tlN n) ∧ fsN n < n ∧ n ≤ 64 * tlN n ∧ 64 * (tlN n - 1) < n ∧ tlN n ≤ 1024 * pkN n ∧ pkN n ≤ 16 ∧ 1 ≤ pkN n ∧ 1 ≤ tlN n ∧ tlN n ≤ 16384 := by
  unfold fsN pkN tlN
  omega

end Go.Proofs.YtojpcgjmainbfaaGreat.Rot

/-
  The reference's plan of a device.
-/
namespace Go.Proofs.YtojpcgjmainbfaaGreat.Rot
open Go.RowKit RowLaw
set_option maxRecDepth 100000

/-- a plan, by value -/
def planCells (t p f : Nat) : Array Value := #[.int .u32 (t : Int), .int .u32 (p : Int), .int .u32 (f : Int)]
theorem infoPlan : (Tryz.prog.info? 82).map (fun i => (i.zero, i.size)) = some (some (.agg (planCells 0 0 0)), 3) := by kernel_rfl
theorem sizePlan (t p f : Nat) : (Tryz.prog.info? 82).map (·.size) = some (planCells t p f).size := (zero_of_info infoPlan).2
theorem planCells_one (t p f : Nat) : (planCells t p f).all (·.oneCell') = true := by simp [planCells, Value.oneCell']
def planO (t p f : Nat) : Obj := .cells (planCells t p f) 82
/-- what Layout answers -/
def planOk (n : Nat) : Bool := decide (64 ≤ n ∧ n ≤ 1048576)
end Go.Proofs.YtojpcgjmainbfaaGreat.Rot

/-
  Plans compared by '=='.
-/
namespace Go.Proofs.YtojpcgjmainbfaaGreat.Rot
open Go.RowKit RowLaw Crc
set_option maxRecDepth 100000

end Go.Proofs.YtojpcgjmainbfaaGreat.Rot

