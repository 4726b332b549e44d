/-
  The reference's plan of a device.
-/
import Derived.Test.YtlojhdnahioicaaRotPlan
import Derived.Test.YtlojhdnahioicaaBoxes1
namespace Go.Proofs.Ytlojhdnahioicaa.Rot
open Go.RowKit RowLaw
set_option maxRecDepth 100000

/-- a plan, by value -/
def planCells (t p f : Nat) : Array Value := #[.int .u32 (t : Int), .int .u32 (p : Int), .int .u32 (f : Int)]
theorem infoPlan : (Try.prog.info? 24).map (fun i => (i.zero, i.size)) = some (some (.agg (planCells 0 0 0)), 3) := by kernel_rfl
theorem sizePlan (t p f : Nat) : (Try.prog.info? 24).map (·.size) = some (planCells t p f).size := (zero_of_info infoPlan).2
theorem planCells_one (t p f : Nat) : (planCells t p f).all (·.oneCell') = true := by simp [planCells, Value.oneCell']
def planO (t p f : Nat) : Obj := .cells (planCells t p f) 24
/-- what Layout answers -/
def planOk (n : Nat) : Bool := decide (64 ≤ n ∧ n ≤ 1048576)
def planV (n : Nat) : Value := if planOk n = true then .tuple #[.agg (planCells (tlN n) (pkN n) (fsN n)), .int .i64 0] else .tuple #[.agg (planCells 0 0 0), .int .i64 2]

theorem upYes {a b : Nat} (ha : a < 4294967296) (h : ((a : Int) % (b : Int) == 0) = true) : (a : Int) / (b : Int) % 4294967296 = (up a b : Nat) := by
  have h1 : a % b = 0 := by rw [beq_iff_eq, ← Int.natCast_emod] at h; exact_mod_cast h
  have h2 := Nat.div_le_self a b
  unfold up
  rw [if_pos h1, ← Int.natCast_ediv]
  generalize a / b = q at h2 ⊢
  omega
theorem upNo {a b : Nat} (ha : a < 4294967296) (hb : 0 < b) (h : ((a : Int) % (b : Int) == 0) = false) : ((a : Int) / (b : Int) % 4294967296 + 1) % 4294967296 = (up a b : Nat) := by
  have h1 : ¬ a % b = 0 := fun h1 => by
    rw [← Int.natCast_emod, h1] at h
    exact absurd h (by decide)
  have hb2 : 2 ≤ b := by
    rcases (by omega : b = 1 ∨ 2 ≤ b) with rfl | h2
    · exact absurd (Nat.mod_one a) h1
    · exact h2
  have h2 := Nat.div_le_div_left hb2 (by omega : 0 < 2) (a := a)
  unfold up
  rw [if_neg h1, ← Int.natCast_ediv]
  generalize a / b = q at h2 ⊢
  omega

theorem refUp_any {a b : Nat} (ha : a < 4294967296) (hb : 0 < b) (hb2 : b < 4294967296) (w : World) : Calls Try.prog 23 #[.int .u32 (a : Int), .int .u32 (b : Int)] w fun e w' => e = .returned (.int .u32 (up a b : Nat)) ∧ w' = w := by
  go_enter Try.func23, Try.ntmps23
  go_wp2
  · go_ret
    rename_i h
    exact ⟨congrArg (fun z => Ending.returned (Value.int .u32 z)) (upYes ha h), rfl⟩
  · go_ret
    rename_i h
    exact ⟨congrArg (fun z => Ending.returned (Value.int .u32 z)) (upNo ha hb h), rfl⟩

theorem run_buildPlan (W : World) (t p f : Nat) : (Instr.build 24 #[(0, .int .u32 (t : Int)), (1, .int .u32 (p : Int)), (2, .int .u32 (f : Int))]).run Try.prog W = .ok (.agg (planCells t p f)) W := by
  go_simp
  rfl

theorem refLayout_no {n : Nat} (hn : n < 4294967296) (h : planOk n = false) (w : World) : Calls Try.prog 8 #[.int .u32 (n : Int)] w fun e w' => e = .returned (.tuple #[.agg (planCells 0 0 0), .int .i64 2]) ∧ Below w.heap.size w w' := by
  have hzp := (zero_of_info infoPlan).1
  have hr : ¬ (64 ≤ n ∧ n ≤ 1048576) := by simpa [planOk] using h
  have hR : ∀ (cs : Array Value), (w.alloc (.cells cs 24)).heap[w.heap.size]? = some (.cells cs 24 (0, 0)) := fun cs => heap_alloc_new w _
  have hbel : ∀ o : Obj, Below w.heap.size w (w.alloc o) := fun o => Below.alloc (Below.refl _ _) (Nat.le_refl _) o
  go_enter Try.func8, Try.ntmps8
  go_wp2_with (refine wpList_store_new rfl 24 _ _ rfl (planCells 0 0 0) _ _ rfl rfl (sizePlan 0 0 0) rfl (planCells_one 0 0 0) ?_)
  all_goals first
    | exact bodyPost_ret (results_row_tmp rfl _ _ _ _ _ _ _ rfl (hR _) Try.underlying24 rfl (sizePlan 0 0 0)) rfl ⟨rfl, hbel _⟩
    | (exfalso; omega)

set_option maxHeartbeats 400000 in
theorem refLayout_yes {n : Nat} (h : planOk n = true) (w : World) : Calls Try.prog 8 #[.int .u32 (n : Int)] w fun e w' => e = .returned (.tuple #[.agg (planCells (tlN n) (pkN n) (fsN n)), .int .i64 0]) ∧ Below w.heap.size w w' := by
  have hzp := (zero_of_info infoPlan).1
  obtain ⟨h64, hbig⟩ : 64 ≤ n ∧ n ≤ 1048576 := by simpa [planOk] using h
  obtain ⟨f1, f2, f3, f4, f5, f6, f7, f8, f9⟩ := plan_facts h64 hbig
  have hup1 : ∀ W, Calls Try.prog 23 #[.int .u32 (n : Int), .int .u32 64] W fun e w' => e = .returned (.int .u32 (tlN n : Nat)) ∧ w' = W := fun W => by
    have := refUp_any (a := n) (b := 64) (by omega) (by omega) (by omega) W
    rw [up64] at this
    exact this
  have hup2 : ∀ W, Calls Try.prog 23 #[.int .u32 (tlN n : Int), .int .u32 1024] W fun e w' => e = .returned (.int .u32 (pkN n : Nat)) ∧ w' = W := fun W => by
    have := refUp_any (a := tlN n) (b := 1024) (by omega) (by omega) (by omega) W
    rw [up1024] at this
    exact this
  have hfs : (2 : Int) + 2 * (pkN n : Int) + 2 * (tlN n : Int) = (fsN n : Nat) := by unfold fsN; omega
  have hR : ∀ (cs : Array Value), (w.alloc (.cells cs 24)).heap[w.heap.size]? = some (.cells cs 24 (0, 0)) := fun cs => heap_alloc_new w _
  have hbel : ∀ o : Obj, Below w.heap.size w (w.alloc o) := fun o => Below.alloc (Below.refl _ _) (Nat.le_refl _) o
  go_enter Try.func8, Try.ntmps8
  go_wp2_with (first
    | (with_reducible refine (hup1 _).mono ?_; rintro e W1 ⟨rfl, rfl⟩)
    | (with_reducible refine (hup2 _).mono ?_; rintro e W1 ⟨rfl, rfl⟩)
    | (refine wpList_store_new rfl 24 (.tmp 2) (.tmp 25) rfl #[.int .u32 (tlN n : Int), .int .u32 (pkN n : Int), .int .u32 (2 + 2 * ((pkN n : Int) + (tlN n : Int)))] _ _ rfl rfl (sizePlan 0 0 0) rfl (by simp [Value.oneCell']) ?_))
  have hc : (#[.int .u32 (tlN n : Int), .int .u32 (pkN n : Int), .int .u32 (2 + 2 * ((pkN n : Int) + (tlN n : Int)))] : Array Value) = planCells (tlN n) (pkN n) (fsN n) := by
    unfold planCells
    rw [← hfs]
    congr 5
    omega
  rw [hc]
  exact bodyPost_ret (results_row_tmp rfl _ _ _ _ _ _ _ rfl (hR _) Try.underlying24 rfl (sizePlan _ _ _)) rfl ⟨rfl, hbel _⟩

theorem refLayout_any {n : Nat} (hn : n < 4294967296) (w : World) : Calls Try.prog 8 #[.int .u32 (n : Int)] w fun e w' => e = .returned (planV n) ∧ Below w.heap.size w w' := by
  unfold planV
  cases h : planOk n with
  | true => exact refLayout_yes h w
  | false => exact refLayout_no hn h w

end Go.Proofs.Ytlojhdnahioicaa.Rot
