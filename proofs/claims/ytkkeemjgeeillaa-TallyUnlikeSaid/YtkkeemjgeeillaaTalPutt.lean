/-
  The walks of tally.Put and tally.PutPick.
-/
import Derived.Test.YtkkeemjgeeillaaTalPut
import Derived.Test.YtkkeemjgeeillaaKept
import Derived.Test.YtkkeemjgeeillaaRowBlocks
import Derived.Test.YtkkeemjgeeillaaFldHead
namespace Go.Proofs.Ytkkeemjgeeillaa.Tal
open Go.RowKit RowLaw Crc Fld
set_option maxRecDepth 100000

set_option maxHeartbeats 1600000 in
theorem Put_anyT (idx : Nat) (ns : List Nat) (hn : ns.length = kT.n) (hs : ∀ j (hj : j < ns.length), ns[j] < 256 ^ kT.wd) (w : World) :
    Calls Try.prog 6 #[.agg (pgCells .u16 idx ns)] w fun e w' => e = .returned (.tuple #[.agg (cellsOf (putB kT idx ns)), .int .i64 (putE kT idx)]) ∧ Below w.heap.size w w' := by
  have hzv := (zero_of_info infoBlock).1
  have hlen := putB_length fT idx hn
  have hi := sizeBlock _ hlen
  have hzz : (cellsOf zeros).size = (cellsOf (putB kT idx ns)).size := by rw [cellsOf_size, cellsOf_size, hlen, zeros_length]
  have hk : Kept w [(w.heap.size + 1, .cells (cellsOf zeros) 32), (w.heap.size, .cells (pgCells .u16 idx ns) 26)] ((w.alloc (.cells (pgCells .u16 idx ns) 26)).alloc (.cells (cellsOf zeros) 32)) := by
    have h := ((Kept.start w).alloc (.cells (pgCells .u16 idx ns) 26)).alloc (.cells (cellsOf zeros) 32)
    rwa [show (w.alloc (.cells (pgCells .u16 idx ns) 26)).heap.size = w.heap.size + 1 from by simp] at h
  have hput := fun W (hW : IsPg .u16 26 W w.heap.size idx ns) => put_anyT w.heap.size idx ns hn hs W hW
  generalize putB kT idx ns = B at hi hzz hput ⊢
  generalize putE kT idx = E at hput ⊢
  have HPT := Lib.hid hput
  clear hput hlen hn hs
  go_enter Try.func6, Try.ntmps6
  go_wp2_with fail
  refine wp_region_noPanic ?_
  refine wp_region_held_drew (S := fun W => Kept w [(w.heap.size, .cells (pgCells .u16 idx ns) 26)] W) (by kernel_rfl) (hk.less (fun x hx => List.mem_cons_of_mem _ hx)).drew ?_
  intro hS
  replace hk := hk.drew
  generalize ((w.alloc (.cells (pgCells .u16 idx ns) 26)).alloc (.cells (cellsOf zeros) 32)).drew = W0 at hk hS ⊢
  refine wpAnyH_take (i := 0) (v := .agg #[.int .u8 84, .int .u32 16384]) rfl (by kernel_rfl) (by kernel_rfl) (by kernel_rfl) (fun _ _ _ h => (h : False).elim) (Or.inl ⟨by rfl, fun _ _ => by go_simp⟩) hS ?_
  change wpAnyH _ _ _ _ _ _ _ (Act.put _ (some 4) _) _
  simp only [Act.put, List.setIfInBounds_toArray, List.set_cons_succ, List.set_cons_zero]
  refine wpAnyH_take (i := 1) (v := .pointer (some ⟨w.heap.size, 0, none⟩)) rfl (by kernel_rfl) (by kernel_rfl) (by kernel_rfl) (fun _ _ _ h => (h : False).elim) (Or.inl ⟨by rfl, fun _ _ => by go_simp⟩) hS ?_
  change wpAnyH _ _ _ _ _ _ _ (Act.put _ (some 5) _) _
  simp only [Act.put, List.setIfInBounds_toArray, List.set_cons_succ, List.set_cons_zero]
  refine wpAnyH_take (i := 2) (v := .int .u32 (idx : Int)) rfl (by kernel_rfl) (by kernel_rfl) (by kernel_rfl) (fun _ _ _ h => (h : False).elim) (Or.inl ⟨by rfl, fun W hW => by have c := IsPg.index (hW.at_ List.mem_cons_self); go_simp⟩) hS ?_
  change wpAnyH _ _ _ _ _ _ _ (Act.put _ (some 6) _) _
  simp only [Act.put, List.setIfInBounds_toArray, List.set_cons_succ, List.set_cons_zero]
  refine wpAnyH_take (i := 3) (v := .pointer (some ⟨w.heap.size, 1, none⟩)) rfl (by kernel_rfl) (by kernel_rfl) (by kernel_rfl) (fun _ _ _ h => (h : False).elim) (Or.inl ⟨by rfl, fun _ _ => by go_simp⟩) hS ?_
  change wpAnyH _ _ _ _ _ _ _ (Act.put _ (some 7) _) _
  simp only [Act.put, List.setIfInBounds_toArray, List.set_cons_succ, List.set_cons_zero]
  refine wpAnyH_take (i := 4) (v := .slice (some ⟨w.heap.size, 1, none⟩) 64 64) rfl (by kernel_rfl) (by kernel_rfl) (by kernel_rfl) (fun _ _ _ h => (h : False).elim) (Or.inl ⟨by rfl, fun _ _ => by go_simp⟩) hS ?_
  change wpAnyH _ _ _ _ _ _ _ (Act.put _ (some 8) _) _
  simp only [Act.put, List.setIfInBounds_toArray, List.set_cons_succ, List.set_cons_zero]
  refine wpAnyH_ready (rs := [5]) (by kernel_rfl) (by simp) ?_
  refine AllReadyH.cons rfl (fun K hK => ?_) AllReadyH.nil
  rw [if_pos (by rfl)]
  go_simp
  refine (HPT.out _ (hk.at_ (List.mem_cons_of_mem _ List.mem_cons_self))).mono ?_
  rintro e W1 ⟨rfl, hx⟩
  replace hS := hS.below hx
  replace hk := hk.below hx
  clear hx
  dsimp only
  refine hK.out _ _ hS (fun hS => ?_)
  clear hK K
  refine wpAnyH_take (i := 6) (v := .agg (cellsOf B)) rfl (by kernel_rfl) (by kernel_rfl) (by kernel_rfl) (fun _ _ _ h => (h : False).elim) (Or.inl ⟨by rfl, fun _ _ => by go_simp⟩) hS ?_
  change wpAnyH _ _ _ _ _ _ _ (Act.put _ (some 10) _) _
  simp only [Act.put, List.setIfInBounds_toArray, List.set_cons_succ, List.set_cons_zero]
  refine wpAnyH_take (i := 7) (v := .int .i64 E) rfl (by kernel_rfl) (by kernel_rfl) (by kernel_rfl) (fun _ _ _ h => (h : False).elim) (Or.inl ⟨by rfl, fun _ _ => by go_simp⟩) hS ?_
  change wpAnyH _ _ _ _ _ _ _ (Act.put _ (some 11) _) _
  simp only [Act.put, List.setIfInBounds_toArray, List.set_cons_succ, List.set_cons_zero]
  refine wpAnyH_ready (rs := [8]) (by kernel_rfl) (by simp) ?_
  refine AllReadyH.cons rfl (fun K hK => ?_) AllReadyH.nil
  rw [if_pos (by rfl)]
  refine wp_store_row 32 _ _ rfl (w.heap.size + 1) (cellsOf B) rfl rfl _ _ (hk.at_ List.mem_cons_self) hi hzz (cellsOf_one _) ?_
  replace hk := hk.setRow (cs' := cellsOf B) (by simp)
  replace hS := hk.less (K' := [(w.heap.size, .cells (pgCells .u16 idx ns) 26)]) (fun x hx => List.mem_cons_of_mem _ hx)
  generalize W1.setRow (w.heap.size + 1) (cellsOf B) = W2 at hk hS ⊢
  refine hK.out _ _ hS (fun hS => ?_)
  clear hK K
  change wpAnyH _ _ _ _ _ _ _ (Act.put _ none _) _
  simp only [Act.put]
  refine wpAnyH_take (i := 9) (v := .int .i64 E) rfl (by kernel_rfl) (by kernel_rfl) (by kernel_rfl) (fun _ _ _ h => (h : False).elim) (Or.inl ⟨by rfl, fun _ _ => by go_simp⟩) hS ?_
  change wpAnyH _ _ _ _ _ _ _ (Act.put _ (some 3) _) _
  simp only [Act.put, List.setIfInBounds_toArray, List.set_cons_succ, List.set_cons_zero]
  refine wpAnyH_done (by kernel_rfl) ?_ _
  refine NoPanic.normal ?_
  go_wp2_with fail
  exact bodyPost_ret (results_row_tmp rfl _ _ _ _ _ _ _ rfl (hk.at_ List.mem_cons_self) Try.underlying32 rfl hi) rfl ⟨rfl, hk.bel⟩

set_option maxHeartbeats 1600000 in
theorem Put_anyP (idx : Nat) (ns : List Nat) (hn : ns.length = kP.n) (hs : ∀ j (hj : j < ns.length), ns[j] < 256 ^ kP.wd) (w : World) :
    Calls Try.prog 8 #[.agg (pgCells .u64 idx ns)] w fun e w' => e = .returned (.tuple #[.agg (cellsOf (putB kP idx ns)), .int .i64 (putE kP idx)]) ∧ Below w.heap.size w w' := by
  have hzv := (zero_of_info infoBlock).1
  have hlen := putB_length fP idx hn
  have hi := sizeBlock _ hlen
  have hzz : (cellsOf zeros).size = (cellsOf (putB kP idx ns)).size := by rw [cellsOf_size, cellsOf_size, hlen, zeros_length]
  have hk : Kept w [(w.heap.size + 1, .cells (cellsOf zeros) 32), (w.heap.size, .cells (pgCells .u64 idx ns) 30)] ((w.alloc (.cells (pgCells .u64 idx ns) 30)).alloc (.cells (cellsOf zeros) 32)) := by
    have h := ((Kept.start w).alloc (.cells (pgCells .u64 idx ns) 30)).alloc (.cells (cellsOf zeros) 32)
    rwa [show (w.alloc (.cells (pgCells .u64 idx ns) 30)).heap.size = w.heap.size + 1 from by simp] at h
  have hput := fun W (hW : IsPg .u64 30 W w.heap.size idx ns) => put_anyP w.heap.size idx ns hn hs W hW
  generalize putB kP idx ns = B at hi hzz hput ⊢
  generalize putE kP idx = E at hput ⊢
  have HPT := Lib.hid hput
  clear hput hlen hn hs
  go_enter Try.func8, Try.ntmps8
  go_wp2_with fail
  refine wp_region_noPanic ?_
  refine wp_region_held_drew (S := fun W => Kept w [(w.heap.size, .cells (pgCells .u64 idx ns) 30)] W) (by kernel_rfl) (hk.less (fun x hx => List.mem_cons_of_mem _ hx)).drew ?_
  intro hS
  replace hk := hk.drew
  generalize ((w.alloc (.cells (pgCells .u64 idx ns) 30)).alloc (.cells (cellsOf zeros) 32)).drew = W0 at hk hS ⊢
  refine wpAnyH_take (i := 0) (v := .agg #[.int .u8 80, .int .u32 16]) rfl (by kernel_rfl) (by kernel_rfl) (by kernel_rfl) (fun _ _ _ h => (h : False).elim) (Or.inl ⟨by rfl, fun _ _ => by go_simp⟩) hS ?_
  change wpAnyH _ _ _ _ _ _ _ (Act.put _ (some 4) _) _
  simp only [Act.put, List.setIfInBounds_toArray, List.set_cons_succ, List.set_cons_zero]
  refine wpAnyH_take (i := 1) (v := .pointer (some ⟨w.heap.size, 0, none⟩)) rfl (by kernel_rfl) (by kernel_rfl) (by kernel_rfl) (fun _ _ _ h => (h : False).elim) (Or.inl ⟨by rfl, fun _ _ => by go_simp⟩) hS ?_
  change wpAnyH _ _ _ _ _ _ _ (Act.put _ (some 5) _) _
  simp only [Act.put, List.setIfInBounds_toArray, List.set_cons_succ, List.set_cons_zero]
  refine wpAnyH_take (i := 2) (v := .int .u32 (idx : Int)) rfl (by kernel_rfl) (by kernel_rfl) (by kernel_rfl) (fun _ _ _ h => (h : False).elim) (Or.inl ⟨by rfl, fun W hW => by have c := IsPg.index (hW.at_ List.mem_cons_self); go_simp⟩) hS ?_
  change wpAnyH _ _ _ _ _ _ _ (Act.put _ (some 6) _) _
  simp only [Act.put, List.setIfInBounds_toArray, List.set_cons_succ, List.set_cons_zero]
  refine wpAnyH_take (i := 3) (v := .pointer (some ⟨w.heap.size, 1, none⟩)) rfl (by kernel_rfl) (by kernel_rfl) (by kernel_rfl) (fun _ _ _ h => (h : False).elim) (Or.inl ⟨by rfl, fun _ _ => by go_simp⟩) hS ?_
  change wpAnyH _ _ _ _ _ _ _ (Act.put _ (some 7) _) _
  simp only [Act.put, List.setIfInBounds_toArray, List.set_cons_succ, List.set_cons_zero]
  refine wpAnyH_take (i := 4) (v := .slice (some ⟨w.heap.size, 1, none⟩) 16 16) rfl (by kernel_rfl) (by kernel_rfl) (by kernel_rfl) (fun _ _ _ h => (h : False).elim) (Or.inl ⟨by rfl, fun _ _ => by go_simp⟩) hS ?_
  change wpAnyH _ _ _ _ _ _ _ (Act.put _ (some 8) _) _
  simp only [Act.put, List.setIfInBounds_toArray, List.set_cons_succ, List.set_cons_zero]
  refine wpAnyH_ready (rs := [5]) (by kernel_rfl) (by simp) ?_
  refine AllReadyH.cons rfl (fun K hK => ?_) AllReadyH.nil
  rw [if_pos (by rfl)]
  go_simp
  refine (HPT.out _ (hk.at_ (List.mem_cons_of_mem _ List.mem_cons_self))).mono ?_
  rintro e W1 ⟨rfl, hx⟩
  replace hS := hS.below hx
  replace hk := hk.below hx
  clear hx
  dsimp only
  refine hK.out _ _ hS (fun hS => ?_)
  clear hK K
  refine wpAnyH_take (i := 6) (v := .agg (cellsOf B)) rfl (by kernel_rfl) (by kernel_rfl) (by kernel_rfl) (fun _ _ _ h => (h : False).elim) (Or.inl ⟨by rfl, fun _ _ => by go_simp⟩) hS ?_
  change wpAnyH _ _ _ _ _ _ _ (Act.put _ (some 10) _) _
  simp only [Act.put, List.setIfInBounds_toArray, List.set_cons_succ, List.set_cons_zero]
  refine wpAnyH_take (i := 7) (v := .int .i64 E) rfl (by kernel_rfl) (by kernel_rfl) (by kernel_rfl) (fun _ _ _ h => (h : False).elim) (Or.inl ⟨by rfl, fun _ _ => by go_simp⟩) hS ?_
  change wpAnyH _ _ _ _ _ _ _ (Act.put _ (some 11) _) _
  simp only [Act.put, List.setIfInBounds_toArray, List.set_cons_succ, List.set_cons_zero]
  refine wpAnyH_ready (rs := [8]) (by kernel_rfl) (by simp) ?_
  refine AllReadyH.cons rfl (fun K hK => ?_) AllReadyH.nil
  rw [if_pos (by rfl)]
  refine wp_store_row 32 _ _ rfl (w.heap.size + 1) (cellsOf B) rfl rfl _ _ (hk.at_ List.mem_cons_self) hi hzz (cellsOf_one _) ?_
  replace hk := hk.setRow (cs' := cellsOf B) (by simp)
  replace hS := hk.less (K' := [(w.heap.size, .cells (pgCells .u64 idx ns) 30)]) (fun x hx => List.mem_cons_of_mem _ hx)
  generalize W1.setRow (w.heap.size + 1) (cellsOf B) = W2 at hk hS ⊢
  refine hK.out _ _ hS (fun hS => ?_)
  clear hK K
  change wpAnyH _ _ _ _ _ _ _ (Act.put _ none _) _
  simp only [Act.put]
  refine wpAnyH_take (i := 9) (v := .int .i64 E) rfl (by kernel_rfl) (by kernel_rfl) (by kernel_rfl) (fun _ _ _ h => (h : False).elim) (Or.inl ⟨by rfl, fun _ _ => by go_simp⟩) hS ?_
  change wpAnyH _ _ _ _ _ _ _ (Act.put _ (some 3) _) _
  simp only [Act.put, List.setIfInBounds_toArray, List.set_cons_succ, List.set_cons_zero]
  refine wpAnyH_done (by kernel_rfl) ?_ _
  refine NoPanic.normal ?_
  go_wp2_with fail
  exact bodyPost_ret (results_row_tmp rfl _ _ _ _ _ _ _ rfl (hk.at_ List.mem_cons_self) Try.underlying32 rfl hi) rfl ⟨rfl, hk.bel⟩


end Go.Proofs.Ytkkeemjgeeillaa.Tal
