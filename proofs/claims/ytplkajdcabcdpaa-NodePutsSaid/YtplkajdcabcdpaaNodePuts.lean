/-
  The walk of the law NodePuts.
-/
import Derived.Test.YtplkajdcabcdpaaNodeHeadW
import Derived.Test.YtplkajdcabcdpaaFldHead
import Derived.Deep.RegionHeld3
namespace Go.Proofs.Ytplkajdcabcdpaa.Node
open Go.RowKit RowLaw Crc Fld

set_option maxRecDepth 100000 in
set_option maxHeartbeats 3200000 in
theorem puts_any (lv : Nat) (ps : List Nat) (hp : ps.length = 32) (w : World) :
    Calls Try.prog 3 #[.agg (nodeCells lv ps)] w fun e w' => e = .returned (.bool true) ∧ Below w.heap.size w w' := by
  have hzv := (zero_of_info infoBlock).1
  have hzn := (zero_of_info infoNode).1
  have hPl := putB_length lv ps hp
  have hiP := sizeBlock _ hPl
  have hzP : (cellsOf zeros).size = (cellsOf (putB lv ps)).size := by rw [cellsOf_size, cellsOf_size, hPl, zeros_length]
  have hin := sizeNode lv ps hp
  have hszn : (nodeCells 0 zeros32).size = (nodeCells lv ps).size := by rw [nodeCells_size, nodeCells_size, hp, zeros32_length]
  have heq := fun W : World => run_eqBlock W (putB lv ps) (putB lv ps) hPl hPl
  rw [decide_eq_true rfl] at heq
  have heqn := fun W : World => run_eqNode W lv lv ps ps hp hp
  rw [decide_eq_true ⟨rfl, rfl⟩] at heqn
  have hg := fun (W : World) (op : BinOp) (x y : Operand) (xs ys : Array Value) => run_eqGuard_agg (P := Try.prog) W op 27 x y xs ys noGuard
  have hgn := fun (W : World) (op : BinOp) (x y : Operand) (xs ys : Array Value) => run_eqGuard_agg (P := Try.prog) W op 25 x y xs ys noGuardN
  have hput := fun W => Put_any lv ps hp W
  have hrput := fun W => refPut_any lv ps hp W
  have hkids := fun W => Kids_any lv ps hp W
  have hrkids := fun W => refKids_any lv ps hp W
  have hsame := fun v u W hx hy => Same_any (kidsOf ps) (kidsOf ps) v u W hx hy (by have := kids_le ps; omega)
  simp only [decide_true] at hsame
  have hback := fun (h : putE lv ps = 0) => (show okN lv ps = true from by
    unfold putE at h
    split at h
    · assumption
    · cases h)
  have hgetb := fun (h : okN lv ps = true) W => (by
    have hh := Get_any (putB lv ps) hPl W
    rw [(back hp h).1, (back hp h).2.1, (back hp h).2.2] at hh
    exact hh : Calls Try.prog 13 #[.agg (cellsOf (putB lv ps))] W fun e w' => e = .returned (.tuple #[.agg (nodeCells lv ps), .int .i64 0]) ∧ Below W.heap.size W w')
  generalize putB lv ps = P at hiP hzP heq hput hrput hgetb
  generalize putE lv ps = E at hput hrput hback
  have HP := Lib.hid hput
  have HRP := Lib.hid hrput
  have HK := Lib.hid hkids
  have HRK := Lib.hid hrkids
  have HSM := Lib.hid hsame
  have HGB := Lib.hid (fun h => hgetb (hback h))
  clear hput hrput hkids hrkids hsame hback hgetb hPl hp
  have h1 := (Kept.start w).alloc (.cells (nodeCells lv ps) 25)
  go_enter Try.func3, Try.ntmps3
  go_wp2_with (refine wpList_load_row rfl 25 _ rfl w.heap.size rfl _ _ _ _ (h1.at_ List.mem_cons_self) Try.underlying25 rfl hin ?_)
  refine (HP.out _).mono ?_
  rintro e W2 ⟨rfl, hx⟩
  generalize w.heap.size = q1 at h1 ⊢
  have h2 := (h1.below hx).alloc (.cells (cellsOf P) 27)
  clear h1 hx
  have tok : True := trivial
  go_wp2_with (first
    | (have _t := tok; refine wpList_store_new rfl 27 _ _ rfl (cellsOf P) _ _ rfl rfl hiP hzP (cellsOf_one _) ?_; generalize W2.heap.size = q3 at h2 ⊢; generalize W2.alloc (.cells (cellsOf P) 27) = W3 at h2 ⊢; clear _t tok)
    | (refine wpList_load_row rfl 25 _ rfl q1 rfl _ _ _ _ (h2.at_ (List.mem_cons_of_mem _ List.mem_cons_self)) Try.underlying25 rfl hin ?_))
  refine (HRP.out _).mono ?_
  rintro e W4 ⟨rfl, hx⟩
  have h3 := (h2.below hx).alloc (.cells (cellsOf P) 27)
  clear h2 hx
  have tok : True := trivial
  go_wp2_with (have _t := tok; refine wpList_store_new rfl 27 _ _ rfl (cellsOf P) _ _ rfl rfl hiP hzP (cellsOf_one _) ?_; generalize W4.heap.size = q5 at h3 ⊢; generalize W4.alloc (.cells (cellsOf P) 27) = W5 at h3 ⊢; clear _t tok)
  have h5 := h3
  clear h3
  by_cases hE : E = 0
  · have hE0 : (E != 0) = false := by rw [hE]; rfl
    have hE1 : (E == 0) = true := by rw [hE]; rfl
    have hEE : (E != E) = false := by simp
    have HGB2 := Lib.hid (HGB.out hE)
    clear HGB
    have HE := Lib.hid hE; clear hE
    refine wp_region_noPanic ?_
    refine wp_region_held_drew (S := fun W => Kept w [(q5, .cells (cellsOf P) 27), (q3, .cells (cellsOf P) 27), (q1, .cells (nodeCells lv ps) 25)] W) (by kernel_rfl) h5.drew ?_
    intro hS
    clear h5
    refine wpAnyH_take (i := 0) (v := .agg (cellsOf P)) rfl (by kernel_rfl) (by kernel_rfl) (by kernel_rfl) (fun _ _ _ h => (h : False).elim) (yieldsIf_load_row (by rfl) 27 _ rfl q3 rfl _ _ _ _ (fun W hW => hW.at_ (List.mem_cons_of_mem _ List.mem_cons_self)) Try.underlying27 rfl hiP) hS ?_
    change wpAnyH _ _ _ _ _ _ _ (Act.put _ (some 19) _) _
    simp only [Act.put, List.setIfInBounds_toArray, List.set_cons_succ, List.set_cons_zero]
    refine wpAnyH_take (i := 1) (v := .agg (cellsOf P)) rfl (by kernel_rfl) (by kernel_rfl) (by kernel_rfl) (fun _ _ _ h => (h : False).elim) (yieldsIf_load_row (by rfl) 27 _ rfl q5 rfl _ _ _ _ (fun W hW => hW.at_ List.mem_cons_self) Try.underlying27 rfl hiP) hS ?_
    change wpAnyH _ _ _ _ _ _ _ (Act.put _ (some 20) _) _
    simp only [Act.put, List.setIfInBounds_toArray, List.set_cons_succ, List.set_cons_zero]
    refine wpAnyH_take (i := 2) (v := .bool false) rfl (by kernel_rfl) (by kernel_rfl) (by kernel_rfl) (fun _ _ _ h => (h : False).elim) (Or.inl ⟨by rfl, fun _ _ => by go_simp⟩) hS ?_
    change wpAnyH _ _ _ _ _ _ _ (Act.put _ (some 21) _) _
    simp only [Act.put, List.setIfInBounds_toArray, List.set_cons_succ, List.set_cons_zero]
    refine wpAnyH_take (i := 3) (v := .bool false) rfl (by kernel_rfl) (by kernel_rfl) (by kernel_rfl) (fun _ _ _ h => (h : False).elim) (Or.inl ⟨by rfl, fun _ _ => by go_simp⟩) hS ?_
    change wpAnyH _ _ _ _ _ _ _ (Act.put _ (some 22) _) _
    simp only [Act.put, List.setIfInBounds_toArray, List.set_cons_succ, List.set_cons_zero]
    refine wpAnyH_take (i := 4) (v := .int .i64 E) rfl (by kernel_rfl) (by kernel_rfl) (by kernel_rfl) (fun _ _ _ h => (h : False).elim) (Or.inl ⟨by rfl, fun _ _ => by go_simp⟩) hS ?_
    change wpAnyH _ _ _ _ _ _ _ (Act.put _ (some 23) _) _
    simp only [Act.put, List.setIfInBounds_toArray, List.set_cons_succ, List.set_cons_zero]
    refine wpAnyH_take (i := 5) (v := .int .i64 E) rfl (by kernel_rfl) (by kernel_rfl) (by kernel_rfl) (fun _ _ _ h => (h : False).elim) (Or.inl ⟨by rfl, fun _ _ => by go_simp⟩) hS ?_
    change wpAnyH _ _ _ _ _ _ _ (Act.put _ (some 24) _) _
    simp only [Act.put, List.setIfInBounds_toArray, List.set_cons_succ, List.set_cons_zero]
    refine wpAnyH_take (i := 6) (v := .bool false) rfl (by kernel_rfl) (by kernel_rfl) (by kernel_rfl) (fun _ _ _ h => (h : False).elim) (Or.inl ⟨by rfl, fun _ _ => by go_simp⟩) hS ?_
    change wpAnyH _ _ _ _ _ _ _ (Act.put _ (some 25) _) _
    simp only [Act.put, List.setIfInBounds_toArray, List.set_cons_succ, List.set_cons_zero]
    refine wpAnyH_take (i := 7) (v := .bool false) rfl (by kernel_rfl) (by kernel_rfl) (by kernel_rfl) (fun _ _ _ h => (h : False).elim) (Or.inl ⟨by rfl, fun _ _ => by go_simp⟩) hS ?_
    change wpAnyH _ _ _ _ _ _ _ (Act.put _ (some 26) _) _
    simp only [Act.put, List.setIfInBounds_toArray, List.set_cons_succ, List.set_cons_zero]
    refine wpAnyH_take (i := 8) (v := .bool false) rfl (by kernel_rfl) (by kernel_rfl) (by kernel_rfl) (fun _ _ _ h => (h : False).elim) (Or.inl ⟨by rfl, fun _ _ => by go_simp⟩) hS ?_
    change wpAnyH _ _ _ _ _ _ _ (Act.put _ (some 27) _) _
    simp only [Act.put, List.setIfInBounds_toArray, List.set_cons_succ, List.set_cons_zero]
    refine wpAnyH_take (i := 9) (v := .agg (nodeCells lv ps)) rfl (by kernel_rfl) (by kernel_rfl) (by kernel_rfl) (fun _ _ _ h => (h : False).elim) (yieldsIf_load_row (by rfl) 25 _ rfl q1 rfl _ _ _ _ (fun W hW => hW.at_ (List.mem_cons_of_mem _ (List.mem_cons_of_mem _ List.mem_cons_self))) Try.underlying25 rfl hin) hS ?_
    change wpAnyH _ _ _ _ _ _ _ (Act.put _ (some 28) _) _
    simp only [Act.put, List.setIfInBounds_toArray, List.set_cons_succ, List.set_cons_zero]
    refine wpAnyH_take (i := 11) (v := .agg (nodeCells lv ps)) rfl (by kernel_rfl) (by kernel_rfl) (by kernel_rfl) (fun _ _ _ h => (h : False).elim) (yieldsIf_load_row (by rfl) 25 _ rfl q1 rfl _ _ _ _ (fun W hW => hW.at_ (List.mem_cons_of_mem _ (List.mem_cons_of_mem _ List.mem_cons_self))) Try.underlying25 rfl hin) hS ?_
    change wpAnyH _ _ _ _ _ _ _ (Act.put _ (some 30) _) _
    simp only [Act.put, List.setIfInBounds_toArray, List.set_cons_succ, List.set_cons_zero]
    refine wpAnyH_ready (rs := [10]) (by kernel_rfl) (by simp) ?_
    refine AllReadyH.cons rfl (fun K hK => ?_) AllReadyH.nil
    rw [if_pos (by rfl)]
    go_simp
    refine (HK.out _).mono ?_
    rintro e W5 ⟨v1, rfl, ho1, hx1⟩
    replace hS := hS.below hx1
    have hr1 := ho1.row
    clear hx1 ho1
    dsimp only
    refine hK.out _ _ hS (fun hS => ?_)
    clear hK K
    refine wpAnyH_ready (rs := [12]) (by kernel_rfl) (by simp) ?_
    refine AllReadyH.cons rfl (fun K hK => ?_) AllReadyH.nil
    rw [if_pos (by rfl)]
    go_simp
    refine (HRK.out _).mono ?_
    rintro e W6 ⟨v2, rfl, ho2, hx2⟩
    replace hS := hS.below hx2
    replace hr1 := hr1.below hx2
    have hr2 := ho2.row
    clear hx2 ho2
    dsimp only
    refine hK.out _ _ hS (fun hS => ?_)
    clear hK K
    refine wpAnyH_ready (rs := [13]) (by kernel_rfl) (by simp) ?_
    refine AllReadyH.cons rfl (fun K hK => ?_) AllReadyH.nil
    rw [if_pos (by rfl)]
    go_simp
    refine (HSM.out v1 v2 _ hr1 hr2).mono ?_
    rintro e W7 ⟨rfl, hx3⟩
    replace hS := hS.below hx3
    clear hr1 hr2 hx3
    dsimp only
    refine hK.out _ _ hS (fun hS => ?_)
    clear hK K
    refine wpAnyH_take (i := 14) (v := .bool false) rfl (by kernel_rfl) (by kernel_rfl) (by kernel_rfl) (fun _ _ _ h => (h : False).elim) (Or.inl ⟨by rfl, fun _ _ => by go_simp⟩) hS ?_
    change wpAnyH _ _ _ _ _ _ _ (Act.put _ (some 33) _) _
    simp only [Act.put, List.setIfInBounds_toArray, List.set_cons_succ, List.set_cons_zero]
    refine wpAnyH_take (i := 15) (v := .bool false) rfl (by kernel_rfl) (by kernel_rfl) (by kernel_rfl) (fun _ _ _ h => (h : False).elim) (Or.inl ⟨by rfl, fun _ _ => by go_simp⟩) hS ?_
    change wpAnyH _ _ _ _ _ _ _ (Act.put _ (some 34) _) _
    simp only [Act.put, List.setIfInBounds_toArray, List.set_cons_succ, List.set_cons_zero]
    refine wpAnyH_done (by kernel_rfl) ?_ _
    refine NoPanic.normal ?_
    have h6 := hS
    clear hS
    go_wp2_with (refine wpList_load_row rfl 27 _ rfl q3 rfl _ _ _ _ (h6.at_ (List.mem_cons_of_mem _ List.mem_cons_self)) Try.underlying27 rfl hiP ?_)
    refine (HGB2.out _).mono ?_
    rintro e W8 ⟨rfl, hx⟩
    have h7 := (h6.below hx).alloc (.cells (nodeCells lv ps) 25)
    clear h6 hx
    have tok : True := trivial
    go_wp2_with (first
      | (have _t := tok; refine wpList_store_new rfl 25 _ _ rfl (nodeCells lv ps) _ _ rfl rfl hin hszn (nodeCells_one _ _) ?_; generalize W8.heap.size = q7 at h7 ⊢; generalize W8.alloc (.cells (nodeCells lv ps) 25) = W9 at h7 ⊢; clear _t tok)
      | (refine wpList_load_row rfl 25 _ rfl q7 rfl _ _ _ _ (h7.at_ List.mem_cons_self) Try.underlying25 rfl hin ?_)
      | (refine wpList_load_row rfl 25 _ rfl q1 rfl _ _ _ _ (h7.at_ (List.mem_cons_of_mem _ (List.mem_cons_of_mem _ (List.mem_cons_of_mem _ List.mem_cons_self)))) Try.underlying25 rfl hin ?_)
      | (go_at_call 12; (with_reducible refine (head_any _).mono ?_); rintro e WH ⟨rfl, hx⟩; have hbel := h7.bel.trans (hx.mono h7.bel.size)))
    go_ret
    exact ⟨rfl, hbel⟩
  · have hE0 : (E != 0) = true := by simp [hE]
    have hE1 : (E == 0) = false := by simp [hE]
    have hEE : (E != E) = false := by simp
    have HE := Lib.hid hE; clear hE
    refine wp_region_noPanic ?_
    refine wp_region_held_drew (S := fun W => Kept w [(q5, .cells (cellsOf P) 27), (q3, .cells (cellsOf P) 27), (q1, .cells (nodeCells lv ps) 25)] W) (by kernel_rfl) h5.drew ?_
    intro hS
    clear h5
    refine wpAnyH_take (i := 0) (v := .agg (cellsOf P)) rfl (by kernel_rfl) (by kernel_rfl) (by kernel_rfl) (fun _ _ _ h => (h : False).elim) (yieldsIf_load_row (by rfl) 27 _ rfl q3 rfl _ _ _ _ (fun W hW => hW.at_ (List.mem_cons_of_mem _ List.mem_cons_self)) Try.underlying27 rfl hiP) hS ?_
    change wpAnyH _ _ _ _ _ _ _ (Act.put _ (some 19) _) _
    simp only [Act.put, List.setIfInBounds_toArray, List.set_cons_succ, List.set_cons_zero]
    refine wpAnyH_take (i := 1) (v := .agg (cellsOf P)) rfl (by kernel_rfl) (by kernel_rfl) (by kernel_rfl) (fun _ _ _ h => (h : False).elim) (yieldsIf_load_row (by rfl) 27 _ rfl q5 rfl _ _ _ _ (fun W hW => hW.at_ List.mem_cons_self) Try.underlying27 rfl hiP) hS ?_
    change wpAnyH _ _ _ _ _ _ _ (Act.put _ (some 20) _) _
    simp only [Act.put, List.setIfInBounds_toArray, List.set_cons_succ, List.set_cons_zero]
    refine wpAnyH_take (i := 2) (v := .bool false) rfl (by kernel_rfl) (by kernel_rfl) (by kernel_rfl) (fun _ _ _ h => (h : False).elim) (Or.inl ⟨by rfl, fun _ _ => by go_simp⟩) hS ?_
    change wpAnyH _ _ _ _ _ _ _ (Act.put _ (some 21) _) _
    simp only [Act.put, List.setIfInBounds_toArray, List.set_cons_succ, List.set_cons_zero]
    refine wpAnyH_take (i := 3) (v := .bool false) rfl (by kernel_rfl) (by kernel_rfl) (by kernel_rfl) (fun _ _ _ h => (h : False).elim) (Or.inl ⟨by rfl, fun _ _ => by go_simp⟩) hS ?_
    change wpAnyH _ _ _ _ _ _ _ (Act.put _ (some 22) _) _
    simp only [Act.put, List.setIfInBounds_toArray, List.set_cons_succ, List.set_cons_zero]
    refine wpAnyH_take (i := 4) (v := .int .i64 E) rfl (by kernel_rfl) (by kernel_rfl) (by kernel_rfl) (fun _ _ _ h => (h : False).elim) (Or.inl ⟨by rfl, fun _ _ => by go_simp⟩) hS ?_
    change wpAnyH _ _ _ _ _ _ _ (Act.put _ (some 23) _) _
    simp only [Act.put, List.setIfInBounds_toArray, List.set_cons_succ, List.set_cons_zero]
    refine wpAnyH_take (i := 5) (v := .int .i64 E) rfl (by kernel_rfl) (by kernel_rfl) (by kernel_rfl) (fun _ _ _ h => (h : False).elim) (Or.inl ⟨by rfl, fun _ _ => by go_simp⟩) hS ?_
    change wpAnyH _ _ _ _ _ _ _ (Act.put _ (some 24) _) _
    simp only [Act.put, List.setIfInBounds_toArray, List.set_cons_succ, List.set_cons_zero]
    refine wpAnyH_take (i := 6) (v := .bool false) rfl (by kernel_rfl) (by kernel_rfl) (by kernel_rfl) (fun _ _ _ h => (h : False).elim) (Or.inl ⟨by rfl, fun _ _ => by go_simp⟩) hS ?_
    change wpAnyH _ _ _ _ _ _ _ (Act.put _ (some 25) _) _
    simp only [Act.put, List.setIfInBounds_toArray, List.set_cons_succ, List.set_cons_zero]
    refine wpAnyH_take (i := 7) (v := .bool false) rfl (by kernel_rfl) (by kernel_rfl) (by kernel_rfl) (fun _ _ _ h => (h : False).elim) (Or.inl ⟨by rfl, fun _ _ => by go_simp⟩) hS ?_
    change wpAnyH _ _ _ _ _ _ _ (Act.put _ (some 26) _) _
    simp only [Act.put, List.setIfInBounds_toArray, List.set_cons_succ, List.set_cons_zero]
    refine wpAnyH_take (i := 8) (v := .bool false) rfl (by kernel_rfl) (by kernel_rfl) (by kernel_rfl) (fun _ _ _ h => (h : False).elim) (Or.inl ⟨by rfl, fun _ _ => by go_simp⟩) hS ?_
    change wpAnyH _ _ _ _ _ _ _ (Act.put _ (some 27) _) _
    simp only [Act.put, List.setIfInBounds_toArray, List.set_cons_succ, List.set_cons_zero]
    refine wpAnyH_take (i := 9) (v := .agg (nodeCells lv ps)) rfl (by kernel_rfl) (by kernel_rfl) (by kernel_rfl) (fun _ _ _ h => (h : False).elim) (yieldsIf_load_row (by rfl) 25 _ rfl q1 rfl _ _ _ _ (fun W hW => hW.at_ (List.mem_cons_of_mem _ (List.mem_cons_of_mem _ List.mem_cons_self))) Try.underlying25 rfl hin) hS ?_
    change wpAnyH _ _ _ _ _ _ _ (Act.put _ (some 28) _) _
    simp only [Act.put, List.setIfInBounds_toArray, List.set_cons_succ, List.set_cons_zero]
    refine wpAnyH_take (i := 11) (v := .agg (nodeCells lv ps)) rfl (by kernel_rfl) (by kernel_rfl) (by kernel_rfl) (fun _ _ _ h => (h : False).elim) (yieldsIf_load_row (by rfl) 25 _ rfl q1 rfl _ _ _ _ (fun W hW => hW.at_ (List.mem_cons_of_mem _ (List.mem_cons_of_mem _ List.mem_cons_self))) Try.underlying25 rfl hin) hS ?_
    change wpAnyH _ _ _ _ _ _ _ (Act.put _ (some 30) _) _
    simp only [Act.put, List.setIfInBounds_toArray, List.set_cons_succ, List.set_cons_zero]
    refine wpAnyH_ready (rs := [10]) (by kernel_rfl) (by simp) ?_
    refine AllReadyH.cons rfl (fun K hK => ?_) AllReadyH.nil
    rw [if_pos (by rfl)]
    go_simp
    refine (HK.out _).mono ?_
    rintro e W5 ⟨v1, rfl, ho1, hx1⟩
    replace hS := hS.below hx1
    have hr1 := ho1.row
    clear hx1 ho1
    dsimp only
    refine hK.out _ _ hS (fun hS => ?_)
    clear hK K
    refine wpAnyH_ready (rs := [12]) (by kernel_rfl) (by simp) ?_
    refine AllReadyH.cons rfl (fun K hK => ?_) AllReadyH.nil
    rw [if_pos (by rfl)]
    go_simp
    refine (HRK.out _).mono ?_
    rintro e W6 ⟨v2, rfl, ho2, hx2⟩
    replace hS := hS.below hx2
    replace hr1 := hr1.below hx2
    have hr2 := ho2.row
    clear hx2 ho2
    dsimp only
    refine hK.out _ _ hS (fun hS => ?_)
    clear hK K
    refine wpAnyH_ready (rs := [13]) (by kernel_rfl) (by simp) ?_
    refine AllReadyH.cons rfl (fun K hK => ?_) AllReadyH.nil
    rw [if_pos (by rfl)]
    go_simp
    refine (HSM.out v1 v2 _ hr1 hr2).mono ?_
    rintro e W7 ⟨rfl, hx3⟩
    replace hS := hS.below hx3
    clear hr1 hr2 hx3
    dsimp only
    refine hK.out _ _ hS (fun hS => ?_)
    clear hK K
    refine wpAnyH_take (i := 14) (v := .bool false) rfl (by kernel_rfl) (by kernel_rfl) (by kernel_rfl) (fun _ _ _ h => (h : False).elim) (Or.inl ⟨by rfl, fun _ _ => by go_simp⟩) hS ?_
    change wpAnyH _ _ _ _ _ _ _ (Act.put _ (some 33) _) _
    simp only [Act.put, List.setIfInBounds_toArray, List.set_cons_succ, List.set_cons_zero]
    refine wpAnyH_take (i := 15) (v := .bool false) rfl (by kernel_rfl) (by kernel_rfl) (by kernel_rfl) (fun _ _ _ h => (h : False).elim) (Or.inl ⟨by rfl, fun _ _ => by go_simp⟩) hS ?_
    change wpAnyH _ _ _ _ _ _ _ (Act.put _ (some 34) _) _
    simp only [Act.put, List.setIfInBounds_toArray, List.set_cons_succ, List.set_cons_zero]
    refine wpAnyH_done (by kernel_rfl) ?_ _
    refine NoPanic.normal ?_
    have h6 := hS
    clear hS
    go_wp2_with (go_at_call 12; (with_reducible refine (head_any _).mono ?_); rintro e WH ⟨rfl, hx⟩; have hbel := h6.bel.trans (hx.mono h6.bel.size))
    go_ret
    exact ⟨rfl, hbel⟩

end Go.Proofs.Ytplkajdcabcdpaa.Node
