/-
  The small functions of package root: pages, Layout, exists, first, home.
-/
import Derived.Test.YtlojhdnahioicaaRotPlanEq
import Derived.Test.YtlojhdnahioicaaDev3
import Derived.Test.YtlojhdnahioicaaSlt1
namespace Go.Proofs.Ytlojhdnahioicaa.Rot
open Go.RowKit RowLaw
set_option maxRecDepth 100000
open Go.Proofs.Ytlojhdnahioicaa.Slt (Rt cells rootO infoR sizeR cells_one IsRt)
open Go.Proofs.Ytlojhdnahioicaa.Dev (Dev DS ptr)

theorem pages_any {n k : Nat} (h : n + k < 4294967296) (hk : 0 < k) (w : World) : Calls Try.prog 22 #[.int .u32 (n : Int), .int .u32 (k : Int)] w fun e w' => e = .returned (.int .u32 (((n + k - 1) / k : Nat) : Int)) ∧ w' = w := by
  have hk0 : ((k : Int) == 0) = false := by simp; omega
  have he : ((n : Int) + (k : Int) - 1) / (k : Int) = (((n + k - 1) / k : Nat) : Int) := by
    have h2 : ((n : Int) + (k : Int) - 1) = ((n + k - 1 : Nat) : Int) := by omega
    rw [h2, ← Int.natCast_ediv]
  have HE := Lib.hid he
  clear he
  go_enter Try.func22, Try.ntmps22
  go_wp2
  go_ret
  exact ⟨congrArg (fun z => Ending.returned (Value.int .u32 z)) HE.out, rfl⟩

theorem Layout_no {n : Nat} (hn : n < 4294967296) (h : planOk n = false) (w : World) : Calls Try.prog 7 #[.int .u32 (n : Int)] w fun e w' => e = .returned (.tuple #[.agg (planCells 0 0 0), .int .i64 2]) ∧ Below w.heap.size w w' := by
  have hzp := (zero_of_info infoPlan).1
  have hr : ¬ (64 ≤ n ∧ n ≤ 1048576) := by simpa [planOk] using h
  have hR : ∀ (cs : Array Value), (w.alloc (.cells cs 24)).heap[w.heap.size]? = some (.cells cs 24 (0, 0)) := fun cs => heap_alloc_new w _
  have hbel : ∀ o : Obj, Below w.heap.size w (w.alloc o) := fun o => Below.alloc (Below.refl _ _) (Nat.le_refl _) o
  go_enter Try.func7, Try.ntmps7
  go_wp2_with (refine wpList_store_new rfl 24 _ _ rfl (planCells 0 0 0) _ _ rfl rfl (sizePlan 0 0 0) rfl (planCells_one 0 0 0) ?_)
  all_goals first
    | exact bodyPost_ret (results_row_tmp rfl _ _ _ _ _ _ _ rfl (hR _) Try.underlying24 rfl (sizePlan 0 0 0)) rfl ⟨rfl, hbel _⟩
    | (exfalso; omega)

set_option maxHeartbeats 400000 in
theorem Layout_yes {n : Nat} (h : planOk n = true) (w : World) : Calls Try.prog 7 #[.int .u32 (n : Int)] w fun e w' => e = .returned (.tuple #[.agg (planCells (tlN n) (pkN n) (fsN n)), .int .i64 0]) ∧ Below w.heap.size w w' := by
  have hzp := (zero_of_info infoPlan).1
  obtain ⟨h64, hbig⟩ : 64 ≤ n ∧ n ≤ 1048576 := by simpa [planOk] using h
  obtain ⟨f1, f2, f3, f4, f5, f6, f7, f8, f9⟩ := plan_facts h64 hbig
  have hup1 : ∀ W, Calls Try.prog 22 #[.int .u32 (n : Int), .int .u32 64] W fun e w' => e = .returned (.int .u32 (tlN n : Nat)) ∧ w' = W := fun W => by
    have := pages_any (n := n) (k := 64) (by omega) (by omega) W
    exact this
  have hup2 : ∀ W, Calls Try.prog 22 #[.int .u32 (tlN n : Int), .int .u32 1024] W fun e w' => e = .returned (.int .u32 (pkN n : Nat)) ∧ w' = W := fun W => by
    have := pages_any (n := tlN n) (k := 1024) (by omega) (by omega) W
    exact this
  have hfs : (2 : Int) + 2 * (pkN n : Int) + 2 * (tlN n : Int) = (fsN n : Nat) := by unfold fsN; omega
  have hR : ∀ (cs : Array Value), (w.alloc (.cells cs 24)).heap[w.heap.size]? = some (.cells cs 24 (0, 0)) := fun cs => heap_alloc_new w _
  have hbel : ∀ o : Obj, Below w.heap.size w (w.alloc o) := fun o => Below.alloc (Below.refl _ _) (Nat.le_refl _) o
  go_enter Try.func7, Try.ntmps7
  go_wp2_with (first
    | (with_reducible refine (hup1 _).mono ?_; rintro e W1 ⟨rfl, rfl⟩)
    | (with_reducible refine (hup2 _).mono ?_; rintro e W1 ⟨rfl, rfl⟩)
    | (refine wpList_store_new rfl 24 (.tmp 2) (.tmp 25) rfl #[.int .u32 (tlN n : Int), .int .u32 (pkN n : Int), .int .u32 (2 + 2 * ((pkN n : Int) + (tlN n : Int)))] _ _ rfl rfl (sizePlan 0 0 0) rfl (by simp [Value.oneCell']) ?_))
  have hc : (#[.int .u32 (tlN n : Int), .int .u32 (pkN n : Int), .int .u32 (2 + 2 * ((pkN n : Int) + (tlN n : Int)))] : Array Value) = planCells (tlN n) (pkN n) (fsN n) := by
    unfold planCells
    rw [← hfs]
    congr 5
    omega
  rw [hc]
  exact bodyPost_ret (results_row_tmp rfl _ _ _ _ _ _ _ rfl (hR _) Try.underlying24 rfl (sizePlan _ _ _)) rfl ⟨rfl, hbel _⟩

theorem Layout_any {n : Nat} (hn : n < 4294967296) (w : World) : Calls Try.prog 7 #[.int .u32 (n : Int)] w fun e w' => e = .returned (planV n) ∧ Below w.heap.size w w' := by
  unfold planV
  cases h : planOk n with
  | true => exact Layout_yes h w
  | false => exact Layout_no hn h w

/-! devices -/
section
variable {w : World} {p : Nat} {B : List Nat} {s : DS}
theorem Size_any (h : Dev w p B s) : Calls Try.prog 26 #[ptr p] w fun e w' => e = .returned (.int .u32 (s.n : Int)) ∧ w' = w := by
  obtain ⟨bm, pv, h⟩ := h
  have c0 : w.cell? ⟨p, 0, none⟩ = some (.int .u32 (s.n : Int)) := h.cell 0
  clear h
  have hp : (binOp .eql 39 (.pointer (some ⟨p, 0, none⟩)) (.pointer none)).run Try.prog w = .ok (.bool false) w := by kernel_rfl
  unfold ptr
  go_enter Try.func26, Try.ntmps26
  go_wp2
  go_ret
  exact ⟨rfl, rfl⟩
theorem Size_nil (w : World) : Calls Try.prog 26 #[.pointer none] w fun e w' => e = .returned (.int .u32 0) ∧ w' = w := by
  go_enter Try.func26, Try.ntmps26
  go_wp2
  go_ret
  exact ⟨rfl, rfl⟩
theorem exists_any (h : Dev w p B s) : Calls Try.prog 24 #[ptr p] w fun e w' => e = .returned (.bool true) ∧ w' = w := by
  have hn : ((s.n : Int) != 0) = true := by obtain ⟨_, _, h⟩ := h; have := h.okN; simp; omega
  have hS := Size_any h
  go_enter Try.func24, Try.ntmps24
  go_wp2_with (with_reducible refine hS.mono ?_; rintro e W1 ⟨rfl, rfl⟩)
  go_ret
  exact ⟨rfl, rfl⟩
theorem exists_nil (w : World) : Calls Try.prog 24 #[.pointer none] w fun e w' => e = .returned (.bool false) ∧ w' = w := by
  have hS := Size_nil w
  go_enter Try.func24, Try.ntmps24
  go_wp2_with (with_reducible refine hS.mono ?_; rintro e W1 ⟨rfl, rfl⟩)
  go_ret
  exact ⟨rfl, rfl⟩
end

theorem home_any (r : Rt) (w : World) : Calls Try.prog 58 #[.agg (cells r)] w fun e w' => e = .returned (.int .u32 ((r.gen % 2 : Nat) : Int)) ∧ Below w.heap.size w w' := by
  have hb : Below w.heap.size w (w.alloc (.cells (cells r) 34)) := (Below.refl _ _).alloc (Nat.le_refl _) _
  have c0 := (IsRt.new w r).gen
  have hm : (r.gen : Int) % 2 = ((r.gen % 2 : Nat) : Int) := by omega
  have HM := Lib.hid hm
  clear hm
  go_enter Try.func58, Try.ntmps58
  go_upto_region 1 with fail
  generalize w.alloc (Obj.cells (cells r) 34) = W at c0 hb ⊢
  go_wp2
  go_ret
  exact ⟨congrArg (fun z => Ending.returned (Value.int .u32 z)) HM.out, hb⟩

end Go.Proofs.Ytlojhdnahioicaa.Rot
