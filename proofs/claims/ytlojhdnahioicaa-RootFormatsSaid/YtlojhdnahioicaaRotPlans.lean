/-
  The walk of the law RootPlans, by the contracts of the program's Layout and of the law's head.
-/
import Derived.Test.YtlojhdnahioicaaRotPlanEq
namespace Go.Proofs.Ytlojhdnahioicaa.Rot
open Go.RowKit RowLaw Crc
set_option maxRecDepth 100000

set_option maxHeartbeats 1600000 in
theorem plans_yes {n : Nat} (h : planOk n = true)
    (hL : ∀ W, Calls Try.prog 7 #[.int .u32 (n : Int)] W fun e w' => e = .returned (.tuple #[.agg (planCells (tlN n) (pkN n) (fsN n)), .int .i64 0]) ∧ Below W.heap.size W w')
    (hH : ∀ W, Calls Try.prog 9 #[] W fun e w' => e = .returned (.bool true) ∧ Below W.heap.size W w') (w : World) :
    Calls Try.prog 3 #[.int .u32 (n : Int)] w fun e w' => e = .returned (.bool true) ∧ Below w.heap.size w w' := by
  have hzp := (zero_of_info infoPlan).1
  obtain ⟨h64, hbig⟩ : 64 ≤ n ∧ n ≤ 1048576 := by simpa [planOk] using h
  have hF := plan_facts h64 hbig
  have hR := refLayout_yes h
  have hg := fun (W : World) (op : BinOp) (x y : Operand) (xs ys : Array Value) => run_eqGuard_agg (P := Try.prog) W op 24 x y xs ys noGuardP
  generalize tlN n = t at *
  generalize pkN n = p at *
  generalize fsN n = f at *
  have HF := Lib.hid hF
  clear hF
  have hK := Kept.start w
  go_enter Try.func3, Try.ntmps3
  go_wp2_with (first
    | (with_reducible refine (hL _).mono ?_))
  rintro e W1 ⟨rfl, hx⟩
  have hK1 := (hK.below hx).alloc (planO t p f)
  clear hx
  have tok : True := trivial
  go_wp2_with (first
    | (with_reducible refine (hR _).mono ?_)
    | (have _t := tok; refine wpList_store_new rfl 24 (.tmp 3) (.tmp 10) rfl (planCells t p f) _ _ rfl rfl (sizePlan t p f) rfl (planCells_one t p f) ?_; clear _t tok))
  rintro e W2 ⟨rfl, hx⟩
  have hK2 := (hK1.below hx).alloc (planO t p f)
  clear hx
  have he : ∀ W, (Op.equalIn 10000 24 (.agg (planCells t p f)) (.agg (planCells t p f))).run Try.prog W = .ok true W := fun W => by rw [run_eqPlan, eqP_self]
  obtain ⟨f1, f2, f3, f4, f5, f6, f7, f8, f9⟩ := HF.out
  have b1 : ((f : Int) == 2 + 2 * ((p : Int) + (t : Int))) = true := by rw [beq_iff_eq]; omega
  have b2 : (f : Int) < (n : Int) := by omega
  clear f1 f2 HF
  have tok : True := trivial
  go_wp2_with (first
    | (have _t := tok; refine wpList_store_new rfl 24 (.tmp 5) (.tmp 15) rfl (planCells t p f) _ _ rfl rfl (sizePlan t p f) rfl (planCells_one t p f) ?_; change wpList _ _ _ _ _ (W2.alloc (planO t p f)); generalize W2.alloc (planO t p f) = W3 at hK2 ⊢; have q0 : W3.heap[W1.heap.size]? = some (.cells (planCells t p f) 24 (0, 0)) := hK2.at_ (q := W1.heap.size) (o := planO t p f) (by simp); have q1 : W3.heap[W2.heap.size]? = some (.cells (planCells t p f) 24 (0, 0)) := hK2.at_ (q := W2.heap.size) (o := planO t p f) (by simp); have c0 : W3.cell? ⟨W1.heap.size, 0, none⟩ = some (.int .u32 (t : Int)) := (cell_of_row W3 W1.heap.size 0 _ _ _ q0).trans rfl; have c1 : W3.cell? ⟨W1.heap.size, 1, none⟩ = some (.int .u32 (p : Int)) := (cell_of_row W3 W1.heap.size 1 _ _ _ q0).trans rfl; have c2 : W3.cell? ⟨W1.heap.size, 2, none⟩ = some (.int .u32 (f : Int)) := (cell_of_row W3 W1.heap.size 2 _ _ _ q0).trans rfl; clear _t tok)
    | (refine wpList_load_row rfl 24 (.tmp 3) rfl W1.heap.size rfl _ _ _ _ q0 Try.underlying24 rfl (sizePlan t p f) ?_)
    | (refine wpList_load_row rfl 24 (.tmp 5) rfl W2.heap.size rfl _ _ _ _ q1 Try.underlying24 rfl (sizePlan t p f) ?_)
    | (with_reducible refine (hH _).mono ?_))
  rintro e W4 ⟨rfl, hx⟩
  have hK4 := hK2.below hx
  clear hx hK2 q0 q1 c0 c1 c2
  go_wp2_with fail
  go_ret
  exact ⟨rfl, hK4.bel⟩

set_option maxHeartbeats 1600000 in
theorem plans_no {n : Nat} (hn : n < 4294967296) (h : planOk n = false)
    (hL : ∀ W, Calls Try.prog 7 #[.int .u32 (n : Int)] W fun e w' => e = .returned (.tuple #[.agg (planCells 0 0 0), .int .i64 2]) ∧ Below W.heap.size W w')
    (hH : ∀ W, Calls Try.prog 9 #[] W fun e w' => e = .returned (.bool true) ∧ Below W.heap.size W w') (w : World) :
    Calls Try.prog 3 #[.int .u32 (n : Int)] w fun e w' => e = .returned (.bool true) ∧ Below w.heap.size w w' := by
  have hzp := (zero_of_info infoPlan).1
  have hR := refLayout_no hn h
  have hg := fun (W : World) (op : BinOp) (x y : Operand) (xs ys : Array Value) => run_eqGuard_agg (P := Try.prog) W op 24 x y xs ys noGuardP
  have hK := Kept.start w
  go_enter Try.func3, Try.ntmps3
  go_wp2_with (first
    | (with_reducible refine (hL _).mono ?_))
  rintro e W1 ⟨rfl, hx⟩
  have hK1 := (hK.below hx).alloc (planO 0 0 0)
  clear hx
  have tok : True := trivial
  go_wp2_with (first
    | (with_reducible refine (hR _).mono ?_)
    | (have _t := tok; refine wpList_store_new rfl 24 (.tmp 3) (.tmp 10) rfl (planCells 0 0 0) _ _ rfl rfl (sizePlan 0 0 0) rfl (planCells_one 0 0 0) ?_; clear _t tok))
  rintro e W2 ⟨rfl, hx⟩
  have hK2 := (hK1.below hx).alloc (planO 0 0 0)
  clear hx
  have he : ∀ W, (Op.equalIn 10000 24 (.agg (planCells 0 0 0)) (.agg (planCells 0 0 0))).run Try.prog W = .ok true W := fun W => by rw [run_eqPlan, eqP_self]
  have tok : True := trivial
  go_wp2_with (first
    | (have _t := tok; refine wpList_store_new rfl 24 (.tmp 5) (.tmp 15) rfl (planCells 0 0 0) _ _ rfl rfl (sizePlan 0 0 0) rfl (planCells_one 0 0 0) ?_; change wpList _ _ _ _ _ (W2.alloc (planO 0 0 0)); generalize W2.alloc (planO 0 0 0) = W3 at hK2 ⊢; have q0 : W3.heap[W1.heap.size]? = some (.cells (planCells 0 0 0) 24 (0, 0)) := hK2.at_ (q := W1.heap.size) (o := planO 0 0 0) (by simp); have q1 : W3.heap[W2.heap.size]? = some (.cells (planCells 0 0 0) 24 (0, 0)) := hK2.at_ (q := W2.heap.size) (o := planO 0 0 0) (by simp); have c0 : W3.cell? ⟨W1.heap.size, 0, none⟩ = some (.int .u32 0) := (cell_of_row W3 W1.heap.size 0 _ _ _ q0).trans rfl; have c1 : W3.cell? ⟨W1.heap.size, 1, none⟩ = some (.int .u32 0) := (cell_of_row W3 W1.heap.size 1 _ _ _ q0).trans rfl; have c2 : W3.cell? ⟨W1.heap.size, 2, none⟩ = some (.int .u32 0) := (cell_of_row W3 W1.heap.size 2 _ _ _ q0).trans rfl; clear _t tok)
    | (refine wpList_load_row rfl 24 (.tmp 3) rfl W1.heap.size rfl _ _ _ _ q0 Try.underlying24 rfl (sizePlan 0 0 0) ?_)
    | (refine wpList_load_row rfl 24 (.tmp 5) rfl W2.heap.size rfl _ _ _ _ q1 Try.underlying24 rfl (sizePlan 0 0 0) ?_)
    | (with_reducible refine (hH _).mono ?_))
  rintro e W4 ⟨rfl, hx⟩
  have hK4 := hK2.below hx
  clear hx hK2 q0 q1 c0 c1 c2
  go_wp2_with fail
  go_ret
  exact ⟨rfl, hK4.bel⟩

theorem plans_any {n : Nat} (hn : n < 4294967296)
    (hL : ∀ W, Calls Try.prog 7 #[.int .u32 (n : Int)] W fun e w' => e = .returned (planV n) ∧ Below W.heap.size W w')
    (hH : ∀ W, Calls Try.prog 9 #[] W fun e w' => e = .returned (.bool true) ∧ Below W.heap.size W w') (w : World) :
    Calls Try.prog 3 #[.int .u32 (n : Int)] w fun e w' => e = .returned (.bool true) ∧ Below w.heap.size w w' := by
  unfold planV at hL
  cases h : planOk n with
  | true => rw [h] at hL; exact plans_yes h hL hH w
  | false => rw [h] at hL; exact plans_no hn h hL hH w

end Go.Proofs.Ytlojhdnahioicaa.Rot
