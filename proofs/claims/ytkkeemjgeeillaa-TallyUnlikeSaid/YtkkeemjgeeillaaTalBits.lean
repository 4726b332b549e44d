/-
  Bits of picks, at the numbers that the statements' head names.
-/
import Derived.Test.YtkkeemjgeeillaaTalObj
import Derived.Test.YtkkeemjgeeillaaKept
import Derived.StillTailTactics
namespace Go.Proofs.Ytkkeemjgeeillaa.Tal
open Go.RowKit RowLaw Crc Fld
set_option maxRecDepth 100000

theorem isBit_70 (w : World) : Calls Try.prog 38 #[.int .i64 70] w fun e w' => e = .returned (.bool true) ∧ w' = w := by
  go_enter Try.func38, Try.ntmps38
  go_wp2
  go_ret
  exact ⟨rfl, rfl⟩
theorem isBit_1024 (w : World) : Calls Try.prog 38 #[.int .i64 1024] w fun e w' => e = .returned (.bool false) ∧ w' = w := by
  go_enter Try.func38, Try.ntmps38
  go_wp2
  go_ret
  exact ⟨rfl, rfl⟩
def one70 : List Nat := (zs kP).set 1 64
theorem one70_length : one70.length = kP.n := rfl

theorem Bit_70 (w : World) : Calls Try.prog 27 #[.agg (pgCells .u64 0 one70), .int .i64 70] w fun e w' => e = .returned (.tuple #[.int .i64 1, .int .i64 0]) ∧ Below w.heap.size w w' := by
  have hN := IsPg.new .u64 30 w 0 one70
  have hb : Below w.heap.size w (w.alloc (.cells (pgCells .u64 0 one70) 30)) := (Below.refl _ _).alloc (Nat.le_refl _) _
  have hc : (w.alloc (.cells (pgCells .u64 0 one70) 30)).cell? ⟨w.heap.size, 2, none⟩ = some (.int .u64 64) := hN.num 1 (by decide)
  go_enter Try.func27, Try.ntmps27
  go_wp2_with (go_at_call 38; (with_reducible refine (isBit_70 _).mono ?_); rintro e W ⟨rfl, rfl⟩)
  go_ret2
  exact ⟨congrArg (fun z => Ending.returned (.tuple #[.int .i64 z, .int .i64 0])) (by decide +kernel), hb⟩
def TW (w : World) (idx : Nat) (ns : List Nat) : World := (w.alloc (.cells (pgCells .u64 idx ns) 30)).alloc (.cells (pgCells .u64 0 (zs kP)) 30)
theorem keptTW (w : World) (idx : Nat) (ns : List Nat) : Kept w [(w.heap.size + 1, .cells (pgCells .u64 0 (zs kP)) 30), (w.heap.size, .cells (pgCells .u64 idx ns) 30)] (TW w idx ns) := by
  have h := ((Kept.start w).alloc (.cells (pgCells .u64 idx ns) 30)).alloc (.cells (pgCells .u64 0 (zs kP)) 30)
  rwa [show (w.alloc (.cells (pgCells .u64 idx ns) 30)).heap.size = w.heap.size + 1 from by simp] at h
theorem Turn_1024 (w : World) : Calls Try.prog 26 #[.agg (pgCells .u64 0 one70), .int .i64 1024] w fun e w' => e = .returned (.tuple #[.agg (pgCells .u64 0 (zs kP)), .int .i64 2]) ∧ Below w.heap.size w w' := by
  have hzv := (zero_of_info infoP).1
  have hi0 := sizeP 0 (zs kP) (zs_length kP)
  have hk := keptTW w 0 one70
  unfold TW at hk
  have hR := hk.at_ List.mem_cons_self
  go_enter Try.func26, Try.ntmps26
  go_wp2_with (first
    | (go_at_call 38; (with_reducible refine (isBit_1024 _).mono ?_); rintro e W ⟨rfl, rfl⟩)
    | (refine wpList_store_row rfl 30 _ _ rfl _ _ rfl rfl _ _ hR hi0 rfl (pgCells_one _ _) ?_))
  exact bodyPost_ret (results_row_tmp rfl _ _ _ _ _ _ _ rfl (setRow_heap _ _ _ _ _ _ hR) Try.underlying30 rfl hi0) rfl ⟨rfl, below_row hk.bel (by omega)⟩

set_option maxHeartbeats 800000 in
theorem Turn_70 (w : World) : Calls Try.prog 26 #[.agg (pgCells .u64 0 (zs kP)), .int .i64 70] w fun e w' => e = .returned (.tuple #[.agg (pgCells .u64 0 one70), .int .i64 0]) ∧ Below w.heap.size w w' := by
  have hzv := (zero_of_info infoP).1
  have hi1 := sizeP 0 one70 one70_length
  have hsz : (pgCells .u64 0 (zs kP)).size = (pgCells .u64 0 one70).size := by rw [pgCells_size, pgCells_size, zs_length, one70_length]
  have hk := keptTW w 0 (zs kP)
  have hP0 : IsPg .u64 30 (TW w 0 (zs kP)) w.heap.size 0 (zs kP) := hk.at_ (List.mem_cons_of_mem _ List.mem_cons_self)
  unfold TW at hk hP0
  go_enter Try.func26, Try.ntmps26
  go_wp2_with (go_at_call 38; (with_reducible refine (isBit_70 _).mono ?_); rintro e W ⟨rfl, rfl⟩; generalize (w.alloc (.cells (pgCells .u64 0 (zs kP)) 30)).alloc (.cells (pgCells .u64 0 (zs kP)) 30) = W at hk hP0 ⊢)
  have hc : W.cell? ⟨w.heap.size, 2, none⟩ = some (.int .u64 0) := hP0.num 1 (by decide)
  have h0 : W.drew.cell? ⟨w.heap.size, 2, none⟩ = some (.int .u64 0) := hc
  have hf : W.drew.frozen? ⟨w.heap.size, 2, none⟩ = false := hP0.frozen 2
  have hP : IsPg .u64 30 (W.drew.setCell ⟨w.heap.size, 2, none⟩ (.int .u64 64)) w.heap.size 0 one70 := by
    have h : IsPg .u64 30 W.drew w.heap.size 0 (zs kP) := hP0
    exact h.setNum 1 64
  have hR : (W.drew.setCell ⟨w.heap.size, 2, none⟩ (.int .u64 64)).heap[w.heap.size + 1]? = some (.cells (pgCells .u64 0 (zs kP)) 30 (0, 0)) := (heap_setCell_other W.drew _ _ _ (show w.heap.size + 1 ≠ w.heap.size by omega)).trans (hk.at_ List.mem_cons_self)
  have hb : Below w.heap.size w (W.drew.setCell ⟨w.heap.size, 2, none⟩ (.int .u64 64)) := hk.bel.drew.setCell (Nat.le_refl _) _
  clear hk
  have w1 : IntKind.i64.wrap 1 = 1 := rfl
  have w6 : IntKind.i64.wrap 6 = 6 := rfl
  have w64 : IntKind.u64.wrap 64 = 64 := rfl
  refine wp_region_still_tail 11 (by kernel_rfl) (by kernel_rfl) ?_
  simp only [List.take_succ_cons, List.take_zero, List.drop_succ_cons, List.drop_zero]
  repeat still_step
  refine wpStill_nil ?_
  change wpList _ _ _ _ _ W.drew
  clear hP0 hc
  generalize W.drew = W1 at h0 hf hP hR hb ⊢
  go_wp2_with (first | (refine wpList_load_row rfl 30 _ rfl w.heap.size rfl _ _ _ _ hP Try.underlying30 rfl hi1 ?_) | (refine wpList_store_row rfl 30 _ _ rfl (w.heap.size + 1) _ rfl rfl _ _ hR hi1 hsz (pgCells_one _ _) ?_))
  exact bodyPost_ret (results_row_tmp rfl _ _ _ _ _ _ _ rfl (setRow_heap _ _ _ _ _ _ hR) Try.underlying30 rfl hi1) rfl ⟨rfl, below_row hb (by omega)⟩

end Go.Proofs.Ytkkeemjgeeillaa.Tal
