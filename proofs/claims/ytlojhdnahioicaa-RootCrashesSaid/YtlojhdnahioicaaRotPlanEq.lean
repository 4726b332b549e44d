/-
  Plans compared by '=='.
-/
import Derived.Test.YtlojhdnahioicaaRotRefPlan
import Derived.Test.YtlojhdnahioicaaCrc3
import Derived.Test.YtlojhdnahioicaaKit1
namespace Go.Proofs.Ytlojhdnahioicaa.Rot
open Go.RowKit RowLaw Crc
set_option maxRecDepth 100000

theorem noGuardP : Try.prog.eqGuardType Try.prog.depth 24 = false := by kernel_rfl
theorem fieldsP : Try.prog.underlying 24 = some (.struct (Try.prog.fieldsOf 24)) := by kernel_rfl
theorem fieldsAreP : ((Try.prog.fieldsOf 24).toList.map fun f => (decide (f.name ≠ "_"), f.type, f.offset)) = [(true, 22, 0), (true, 22, 1), (true, 22, 2)] := by kernel_rfl
theorem stoodP : Try.prog.stoodInHeld 24 = false := by kernel_rfl
/-- are two plans the same? -/
def eqP (a b c x y z : Nat) : Bool := ((a : Int) == (x : Int)) && (((b : Int) == (y : Int)) && (((c : Int) == (z : Int)) && true))
theorem eqP_self (a b c : Nat) : eqP a b c a b c = true := by simp [eqP]
theorem run_eqPlan (w : World) (a b c x y z : Nat) : (Op.equalIn 10000 24 (.agg (planCells a b c)) (.agg (planCells x y z))).run Try.prog w = .ok (eqP a b c x y z) w := by
  rw [show (10000 : Nat) = 9998 + 1 + 1 from rfl, run_equalIn_struct w (9998 + 1) 24 _ _ fieldsP stoodP]
  have q := fun (a b : Nat) => run_equalIn_int (P := Try.prog) w 9998 22 .u32 .u32 (a : Int) (b : Int) Try.underlying22
  refine eqF_cons w (9998 + 1) _ _ _ 22 0 [(22, 1), (22, 2)] _ _ _ _ fieldsAreP (part32 w _ 0 _ rfl) (part32 w _ 0 _ rfl) (q _ _) fun fs1 h1 => ?_
  refine eqF_cons w (9998 + 1) _ _ _ 22 1 [(22, 2)] _ _ _ _ h1 (part32 w _ 1 _ rfl) (part32 w _ 1 _ rfl) (q _ _) fun fs2 h2 => ?_
  exact eqF_cons w (9998 + 1) _ _ _ 22 2 [] _ _ _ _ h2 (part32 w _ 2 _ rfl) (part32 w _ 2 _ rfl) (q _ _) fun fs3 h3 => eqF_nil w _ _ _ fs3 h3

end Go.Proofs.Ytlojhdnahioicaa.Rot
