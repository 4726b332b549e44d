/-
  Plans of devices, as numbers. Plain mathematics.
-/
import Derived.Test.YtlojhdnahioicaaRows
namespace Go.Proofs.Ytlojhdnahioicaa.Rot
set_option maxRecDepth 100000

/-! Plans. -/
def up (a b : Nat) : Nat := if a % b = 0 then a / b else a / b + 1
def tlN (n : Nat) : Nat := (n + 63) / 64
def pkN (n : Nat) : Nat := (tlN n + 1023) / 1024
def fsN (n : Nat) : Nat := 2 + 2 * pkN n + 2 * tlN n
theorem up64 (n : Nat) : up n 64 = tlN n := by unfold up tlN; split <;> omega
theorem up1024 (n : Nat) : up (tlN n) 1024 = pkN n := by unfold up pkN; split <;> omega
theorem plan_facts {n : Nat} (h1 : 64 ≤ n) (h2 : n ≤ 1048576) : fsN n = 2 + 2 * (pkN n + tlN n) ∧ fsN n < n ∧ n ≤ 64 * tlN n ∧ 64 * (tlN n - 1) < n ∧ tlN n ≤ 1024 * pkN n ∧ pkN n ≤ 16 ∧ 1 ≤ pkN n ∧ 1 ≤ tlN n ∧ tlN n ≤ 16384 := by
  unfold fsN pkN tlN
  omega

end Go.Proofs.Ytlojhdnahioicaa.Rot
