/-
  Pln: RotPlan, RotRefPlan, RotPlanEq.
-/
import Derived.Test.YtdadcengelfmhaaGreatRows
import Derived.Test.YtdadcengelfmhaaGreatBoxes1
import Derived.Test.YtdadcengelfmhaaGreatCrc3
import Derived.Test.YtdadcengelfmhaaGreatKit1
/-
  Plans of devices, as numbers. Plain mathematics.
-/
namespace Go.Proofs.YtdadcengelfmhaaGreat.Rot
set_option maxRecDepth 100000

/-! Plans. -/
def up (a b : Nat) : Nat := if a % b = 0 then a / b else a / b + 1
def tlN (n : Nat) : Nat := (n + 63) / 64
def pkN (n : Nat) : Nat := (tlN n + 1023) / 1024
def fsN (n : Nat) : Nat := 2 + 2 * pkN n + 2 * tlN n
theorem up64 (n : Nat) : up n 64 = tlN n := by unfold up tlN; split <;> omega
theorem up1024 (n : Nat) : up (tlN n) 1024 = pkN n := by unfold up pkN; split <;> omega
theorem plan_facts {n : Nat} (h1 : 64 ≤ n) (h2 : n ≤ 1048576) : fsN n = 2 + 2 * (pkN n + tlN n) ∧ fsN n < n ∧ n ≤ 64 * tlN n ∧ 64 * (tlN n - 1) < n ∧ tlN n ≤ 1024 * pkN n ∧ pkN n ≤ 16 ∧ 1 ≤ pkN n ∧ 1 ≤ tlN n ∧ tlN n ≤ 16384 := by
  unfold fsN pkN tlN
  omega

end Go.Proofs.YtdadcengelfmhaaGreat.Rot

/-
  The reference's plan of a device.
-/
namespace Go.Proofs.YtdadcengelfmhaaGreat.Rot
open Go.RowKit RowLaw
set_option maxRecDepth 100000

/-- a plan, by value -/
def planCells (t p f : Nat) : Array Value := #[.int .u32 (t : Int), .int .u32 (p : Int), .int .u32 (f : Int)]
theorem infoPlan : (Tryz.prog.info? 53).map (fun i => (i.zero, i.size)) = some (some (.agg (planCells 0 0 0)), 3) := by kernel_rfl
theorem sizePlan (t p f : Nat) : (Tryz.prog.info? 53).map (·.size) = some (planCells t p f).size := (zero_of_info infoPlan).2
theorem planCells_one (t p f : Nat) : (planCells t p f).all (·.oneCell') = true := by simp [planCells, Value.oneCell']
def planO (t p f : Nat) : Obj := .cells (planCells t p f) 53
/-- what Layout answers -/
def planOk (n : Nat) : Bool := decide (64 ≤ n ∧ n ≤ 1048576)
def planV (n : Nat) : Value := if planOk n = true then .tuple #[.agg (planCells (tlN n) (pkN n) (fsN n)), .int .i64 0] else .tuple #[.agg (planCells 0 0 0), .int .i64 2]

theorem upYes {a b : Nat} (ha : a < 4294967296) (h : ((a : Int) % (b : Int) == 0) = true) : (a : Int) / (b : Int) % 4294967296 = (up a b : Nat) := by
  have h1 : a % b = 0 := by rw [beq_iff_eq, ← Int.natCast_emod] at h; exact_mod_cast h
  have h2 := Nat.div_le_self a b
  unfold up
  rw [if_pos h1, ← Int.natCast_ediv]
  generalize a / b = q at h2 ⊢
  omega
theorem upNo {a b : Nat} (ha : a < 4294967296) (hb : 0 < b) (h : ((a : Int) % (b : Int) == 0) = false) : ((a : Int) / (b : Int) % 4294967296 + 1) % 4294967296 = (up a b : Nat) := by
  have h1 : ¬ a % b = 0 := fun h1 => by
    rw [← Int.natCast_emod, h1] at h
    exact absurd h (by decide)
  have hb2 : 2 ≤ b := by
    rcases (by omega : b = 1 ∨ 2 ≤ b) with rfl | h2
    · exact absurd (Nat.mod_one a) h1
    · exact h2
  have h2 := Nat.div_le_div_left hb2 (by omega : 0 < 2) (a := a)
  unfold up
  rw [if_neg h1, ← Int.natCast_ediv]
  generalize a / b = q at h2 ⊢
  omega

theorem run_buildPlan (W : World) (t p f : Nat) : (Instr.build 53 #[(0, .int .u32 (t : Int)), (1, .int .u32 (p : Int)), (2, .int .u32 (f : Int))]).run Tryz.prog W = .ok (.agg (planCells t p f)) W := by
  go_simp
  rfl

end Go.Proofs.YtdadcengelfmhaaGreat.Rot

/-
  Plans compared by '=='.
-/
namespace Go.Proofs.YtdadcengelfmhaaGreat.Rot
open Go.RowKit RowLaw Crc
set_option maxRecDepth 100000

theorem noGuardP : Tryz.prog.eqGuardType Tryz.prog.depth 53 = false := by kernel_rfl
theorem fieldsP : Tryz.prog.underlying 53 = some (.struct (Tryz.prog.fieldsOf 53)) := by kernel_rfl
theorem fieldsAreP : ((Tryz.prog.fieldsOf 53).toList.map fun f => (decide (f.name ≠ "_"), f.type, f.offset)) = [(true, 22, 0), (true, 22, 1), (true, 22, 2)] := by kernel_rfl
theorem stoodP : Tryz.prog.stoodInHeld 53 = false := by kernel_rfl
/-- are two plans the same? -/
def eqP (a b c x y z : Nat) : Bool := ((a : Int) == (x : Int)) && (((b : Int) == (y : Int)) && (((c : Int) == (z : Int)) && true))
theorem eqP_self (a b c : Nat) : eqP a b c a b c = true := by simp [eqP]
theorem run_eqPlan (w : World) (a b c x y z : Nat) : (Op.equalIn 10000 53 (.agg (planCells a b c)) (.agg (planCells x y z))).run Tryz.prog w = .ok (eqP a b c x y z) w := by
  rw [show (10000 : Nat) = 9998 + 1 + 1 from rfl, run_equalIn_struct w (9998 + 1) 53 _ _ fieldsP stoodP]
  have q := fun (a b : Nat) => run_equalIn_int (P := Tryz.prog) w 9998 22 .u32 .u32 (a : Int) (b : Int) Tryz.underlying22
  refine eqF_cons w (9998 + 1) _ _ _ 22 0 [(22, 1), (22, 2)] _ _ _ _ fieldsAreP (part32 w _ 0 _ rfl) (part32 w _ 0 _ rfl) (q _ _) fun fs1 h1 => ?_
  refine eqF_cons w (9998 + 1) _ _ _ 22 1 [(22, 2)] _ _ _ _ h1 (part32 w _ 1 _ rfl) (part32 w _ 1 _ rfl) (q _ _) fun fs2 h2 => ?_
  exact eqF_cons w (9998 + 1) _ _ _ 22 2 [] _ _ _ _ h2 (part32 w _ 2 _ rfl) (part32 w _ 2 _ rfl) (q _ _) fun fs3 h3 => eqF_nil w _ _ _ fs3 h3

end Go.Proofs.YtdadcengelfmhaaGreat.Rot

