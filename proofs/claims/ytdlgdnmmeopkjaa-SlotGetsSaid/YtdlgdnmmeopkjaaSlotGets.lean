/-
  The walk of the law SlotGets.
-/
import Derived.Test.YtdlgdnmmeopkjaaSltHead
import Derived.Test.YtdlgdnmmeopkjaaSltRefGet
import Derived.Test.YtdlgdnmmeopkjaaFld2
import Derived.Test.YtdlgdnmmeopkjaaBoxes1
namespace Go.Proofs.Ytdlgdnmmeopkjaa.Slt
open Go.RowKit RowLaw Crc Fld

set_option maxRecDepth 100000 in
set_option maxHeartbeats 6400000 in
theorem gets_any (l : List UInt8) (hl : l.length = 256) (w : World) :
    Calls Try.prog 4 #[.agg (cellsOf l)] w fun e w' => e = .returned (.bool true) ∧ Below w.heap.size w w' := by
  have hzv := (zero_of_info infoBlock).1
  have hzn := (zero_of_info infoR).1
  have hi := sizeBlock l hl
  obtain ⟨m, hm⟩ : ∃ m, m = sealB l := ⟨_, rfl⟩
  have hml : m.length = 256 := by rw [hm]; exact sealB_length hl
  have hseal := fun W => refSeal_any l hl W
  simp only [← hm] at hseal
  have HSL := Lib.hid hseal
  have HL := Lib.hid hl
  have HM := Lib.hid hml
  clear hseal hl hml hm
  have hg := fun (W : World) (op : BinOp) (x y : Operand) (xs ys : Array Value) => run_eqGuard_agg (P := Try.prog) W op 27 x y xs ys noGuard
  have hgn := fun (W : World) (op : BinOp) (x y : Operand) (xs ys : Array Value) => run_eqGuard_agg (P := Try.prog) W op 25 x y xs ys noGuardR
  have h1 := (Kept.start w).alloc (.cells (cellsOf l) 27)
  go_enter Try.func4, Try.ntmps4
  go_wp2_with fail
  refine wp_region_noPanic ?_
  refine wp_region_held_drew (S := fun W => Kept w [(w.heap.size, .cells (cellsOf l) 27)] W) (by kernel_rfl) h1.drew ?_
  intro hS
  clear h1
  refine wpAnyH_take (i := 0) (v := .agg (cellsOf l)) rfl (by kernel_rfl) (by kernel_rfl) (by kernel_rfl) (fun _ _ _ h => (h : False).elim) (yieldsIf_load_row (by rfl) 27 _ rfl w.heap.size rfl _ _ _ _ (fun W hW => hW.at_ List.mem_cons_self) Try.underlying27 rfl hi) hS ?_
  change wpAnyH _ _ _ _ _ _ _ (Act.put _ (some 11) _) _
  simp only [Act.put, List.setIfInBounds_toArray, List.set_cons_succ, List.set_cons_zero]
  refine wpAnyH_take (i := 1) (v := .agg (cellsOf l)) rfl (by kernel_rfl) (by kernel_rfl) (by kernel_rfl) (fun _ _ _ h => (h : False).elim) (yieldsIf_load_row (by rfl) 27 _ rfl w.heap.size rfl _ _ _ _ (fun W hW => hW.at_ List.mem_cons_self) Try.underlying27 rfl hi) hS ?_
  change wpAnyH _ _ _ _ _ _ _ (Act.put _ (some 12) _) _
  simp only [Act.put, List.setIfInBounds_toArray, List.set_cons_succ, List.set_cons_zero]
  refine wpAnyH_ready (rs := [2]) (by kernel_rfl) (by simp) ?_
  refine AllReadyH.cons rfl (fun K hK => ?_) AllReadyH.nil
  rw [if_pos (by rfl)]
  go_simp
  refine (HSL.out _).mono ?_
  rintro e W1 ⟨rfl, hx⟩
  replace hS := hS.below hx
  clear hx
  dsimp only
  refine hK.out _ _ hS (fun hS => ?_)
  clear hK K
  refine wpAnyH_ready (rs := [3]) (by kernel_rfl) (by simp) ?_
  refine AllReadyH.cons rfl (fun K hK => ?_) AllReadyH.nil
  rw [if_pos (by rfl)]
  refine wp_build2 11 13 rfl l m HL.out HM.out rfl rfl ?_
  have h2 := hS.alloc (pairO l m)
  generalize W1.heap.size = g at h2 ⊢
  generalize W1.alloc (pairO l m) = W2 at h2 ⊢
  clear hS
  refine hK.out _ _ (h2.less (fun x hx => List.mem_cons_of_mem _ hx)) (fun hS => ?_)
  clear hK K
  change wpAnyH _ _ _ _ _ _ _ (Act.put _ (some 14) _) _
  simp only [Act.put, List.setIfInBounds_toArray, List.set_cons_succ, List.set_cons_zero]
  refine wpAnyH_take (i := 4) (v := .slice (some ⟨g, 0, none⟩) 2 2) rfl (by kernel_rfl) (by kernel_rfl) (by kernel_rfl) (fun _ _ _ h => (h : False).elim) (Or.inl ⟨by rfl, fun _ _ => by go_simp⟩) hS ?_
  change wpAnyH _ _ _ _ _ _ _ (Act.put _ (some 3) _) _
  simp only [Act.put, List.setIfInBounds_toArray, List.set_cons_succ, List.set_cons_zero]
  refine wpAnyH_done (by kernel_rfl) ?_ _
  refine NoPanic.normal ?_
  clear hS
  go_wp2_with fail
  go_loopw [4] (fun i wr => ∃ k : Nat, k ≤ 2 ∧ i = .int .i64 k ∧ Kept w [(g, pairO l m)] wr) (fun i _ => 2 - (intOf i).toNat)
  case atStart => exact ⟨0, by omega, rfl, h2.less (by simp)⟩
  case round =>
    obtain ⟨k, hk, rfl, h⟩ := hrel
    clear h2
    by_cases hlt : k < 2
    · obtain ⟨C, hC⟩ : ∃ C, C = nth2 l m k := ⟨_, rfl⟩
      have hCl : C.length = 256 := by rw [hC]; exact nth2_length HL.out HM.out k
      have hrange := fun (W : World) (hW : W.heap[g]? = some (pairO l m)) => pair_range HL.out hW k hlt
      rw [← hC] at hrange
      have hiC := sizeBlock C hCl
      have hzC : (cellsOf zeros).size = (cellsOf C).size := by rw [cellsOf_size, cellsOf_size, hCl, zeros_length]
      have HRG := Lib.hid hrange
      have HC := Lib.hid hCl
      have hget := fun W => Get_any C hCl W
      have hrget := fun W => refGet_any C hCl W
      have hforth := fun (h : getE C = 0) => forth h
      have hcases := getE_cases C
      have hpl := getR_fits hCl
      have heq := fun W : World => run_eqBlock W C C hCl hCl
      rw [decide_eq_true rfl] at heq
      have hputl := putB_length (getR C)
      clear hrange hCl hC
      generalize getR C = R at hget hrget hforth hputl hpl
      generalize getE C = E at hget hrget hforth hcases
      have hin := sizeR R
      have hszn : (cells nil).size = (cells R).size := rfl
      have heqn := fun W : World => run_eqRoot W R R
      rw [eqB_iff.2 rfl] at heqn
      have hput := fun W => Put_any R hpl W
      have HGT := Lib.hid hget
      have HRGT := Lib.hid hrget
      have HF := Lib.hid hforth
      have HPT := Lib.hid hput
      have HPL := Lib.hid hputl
      have hEE : (E != E) = false := by simp
      clear hget hrget hforth hput hputl hpl
      go_wp2_with (refine wpList_load_blk rfl _ rfl rfl (HRG.out _ (h.at_ List.mem_cons_self)) HC.out ?_)
      refine (HGT.out _).mono ?_
      rintro e W3 ⟨rfl, hx⟩
      have h3 := (h.below hx).alloc (.cells (cells R) 25)
      clear h hx
      have tok : True := trivial
      go_wp2_with (first
        | (have _t := tok; refine wpList_store_new rfl 25 _ _ rfl (cells R) _ _ rfl rfl hin hszn (cells_one _) ?_; generalize W3.heap.size = b5 at h3 ⊢; generalize W3.alloc (.cells (cells R) 25) = W4 at h3 ⊢; clear _t tok)
        | (refine wpList_load_blk rfl _ rfl rfl (HRG.out _ (h3.at_ (List.mem_cons_of_mem _ List.mem_cons_self))) HC.out ?_))
      refine (HRGT.out _).mono ?_
      rintro e W5 ⟨rfl, hx⟩
      have h4 := (h3.below hx).alloc (.cells (cells R) 25)
      clear h3 hx
      have tok : True := trivial
      go_wp2_with (first
        | (have _t := tok; refine wpList_store_new rfl 25 _ _ rfl (cells R) _ _ rfl rfl hin hszn (cells_one _) ?_; generalize W5.heap.size = b7 at h4 ⊢; generalize W5.alloc (.cells (cells R) 25) = W6 at h4 ⊢; clear _t tok)
        | (refine wpList_load_row rfl 25 _ rfl b5 rfl _ _ _ _ (h4.at_ (List.mem_cons_of_mem _ List.mem_cons_self)) Try.underlying25 rfl hin ?_)
        | (refine wpList_load_row rfl 25 _ rfl b7 rfl _ _ _ _ (h4.at_ List.mem_cons_self) Try.underlying25 rfl hin ?_))
      refine (HPT.out _).mono ?_
      rintro e W7 ⟨rfl, hx⟩
      rcases hcases with hE | hE
      · obtain ⟨f1, f2⟩ := HF.out hE
        rw [f1, f2]
        subst hE
        clear f1 f2 HF HPT HPL
        have h5 := (h4.below hx).alloc (.cells (cellsOf C) 27)
        clear h4 hx
        have tok : True := trivial
        go_wp2_with (have _t := tok; refine wpList_store_new rfl 27 _ _ rfl (cellsOf C) _ _ rfl rfl hiC hzC (cellsOf_one _) ?_; generalize W7.heap.size = b9 at h5 ⊢; generalize W7.alloc (.cells (cellsOf C) 27) = W8 at h5 ⊢; clear _t tok)
        have h6 := h5.less (K' := [(b9, .cells (cellsOf C) 27), (g, pairO l m)]) (by simp)
        clear h5
        refine wp_region_noPanic ?_
        refine wp_region_held_drew (S := fun W => Kept w [(b9, .cells (cellsOf C) 27), (g, pairO l m)] W) (by kernel_rfl) h6.drew ?_
        intro hS
        clear h6
        refine wpAnyH_take (i := 0) (v := .int .i64 0) rfl (by kernel_rfl) (by kernel_rfl) (by kernel_rfl) (fun _ _ _ h => (h : False).elim) (Or.inl ⟨by rfl, fun _ _ => by go_simp⟩) hS ?_
        change wpAnyH _ _ _ _ _ _ _ (Act.put _ (some 48) _) _
        simp only [Act.put, List.setIfInBounds_toArray, List.set_cons_succ, List.set_cons_zero]
        refine wpAnyH_take (i := 1) (v := .bool true) rfl (by kernel_rfl) (by kernel_rfl) (by kernel_rfl) (fun _ _ _ h => (h : False).elim) (Or.inl ⟨by rfl, fun _ _ => by go_simp⟩) hS ?_
        change wpAnyH _ _ _ _ _ _ _ (Act.put _ (some 49) _) _
        simp only [Act.put, List.setIfInBounds_toArray, List.set_cons_succ, List.set_cons_zero]
        refine wpAnyH_take (i := 2) (v := .bool true) rfl (by kernel_rfl) (by kernel_rfl) (by kernel_rfl) (fun _ _ _ h => (h : False).elim) (Or.inl ⟨by rfl, fun _ _ => by go_simp⟩) hS ?_
        change wpAnyH _ _ _ _ _ _ _ (Act.put _ (some 50) _) _
        simp only [Act.put, List.setIfInBounds_toArray, List.set_cons_succ, List.set_cons_zero]
        refine wpAnyH_take (i := 3) (v := .agg (cellsOf C)) rfl (by kernel_rfl) (by kernel_rfl) (by kernel_rfl) (fun _ _ _ h => (h : False).elim) (yieldsIf_load_row (by rfl) 27 _ rfl b9 rfl _ _ _ _ (fun W hW => hW.at_ List.mem_cons_self) Try.underlying27 rfl hiC) hS ?_
        change wpAnyH _ _ _ _ _ _ _ (Act.put _ (some 51) _) _
        simp only [Act.put, List.setIfInBounds_toArray, List.set_cons_succ, List.set_cons_zero]
        refine wpAnyH_take (i := 4) (v := .slice (some ⟨g, 0, none⟩) 2 2) rfl (by kernel_rfl) (by kernel_rfl) (by kernel_rfl) (fun _ _ _ h => (h : False).elim) (Or.inl ⟨by rfl, fun _ _ => by go_simp⟩) hS ?_
        change wpAnyH _ _ _ _ _ _ _ (Act.put _ (some 52) _) _
        simp only [Act.put, List.setIfInBounds_toArray, List.set_cons_succ, List.set_cons_zero]
        refine wpAnyH_take (i := 5) (v := .int .i64 (k : Int)) rfl (by kernel_rfl) (by kernel_rfl) (by kernel_rfl) (fun _ _ _ h => (h : False).elim) (Or.inl ⟨by rfl, fun _ _ => by go_simp⟩) hS ?_
        change wpAnyH _ _ _ _ _ _ _ (Act.put _ (some 53) _) _
        simp only [Act.put, List.setIfInBounds_toArray, List.set_cons_succ, List.set_cons_zero]
        refine wpAnyH_take (i := 6) (v := .pointer (some ⟨g, k * 256, none⟩)) rfl (by kernel_rfl) (by kernel_rfl) (by kernel_rfl) (fun _ _ _ h => (h : False).elim) (Or.inl ⟨by rfl, fun _ _ => by go_simp⟩) hS ?_
        change wpAnyH _ _ _ _ _ _ _ (Act.put _ (some 54) _) _
        simp only [Act.put, List.setIfInBounds_toArray, List.set_cons_succ, List.set_cons_zero]
        refine wpAnyH_take (i := 7) (v := .agg (cellsOf C)) rfl (by kernel_rfl) (by kernel_rfl) (by kernel_rfl) (fun _ _ _ h => (h : False).elim) (yieldsIf_load_blk (by rfl) _ rfl rfl (fun W hW => HRG.out W (hW.at_ (List.mem_cons_of_mem _ List.mem_cons_self))) HC.out) hS ?_
        change wpAnyH _ _ _ _ _ _ _ (Act.put _ (some 55) _) _
        simp only [Act.put, List.setIfInBounds_toArray, List.set_cons_succ, List.set_cons_zero]
        refine wpAnyH_take (i := 8) (v := .bool false) rfl (by kernel_rfl) (by kernel_rfl) (by kernel_rfl) (fun _ _ _ h => (h : False).elim) (Or.inl ⟨by rfl, fun _ _ => by go_simp⟩) hS ?_
        change wpAnyH _ _ _ _ _ _ _ (Act.put _ (some 56) _) _
        simp only [Act.put, List.setIfInBounds_toArray, List.set_cons_succ, List.set_cons_zero]
        refine wpAnyH_take (i := 9) (v := .bool false) rfl (by kernel_rfl) (by kernel_rfl) (by kernel_rfl) (fun _ _ _ h => (h : False).elim) (Or.inl ⟨by rfl, fun _ _ => by go_simp⟩) hS ?_
        change wpAnyH _ _ _ _ _ _ _ (Act.put _ (some 57) _) _
        simp only [Act.put, List.setIfInBounds_toArray, List.set_cons_succ, List.set_cons_zero]
        refine wpAnyH_take (i := 10) (v := .int .i64 0) rfl (by kernel_rfl) (by kernel_rfl) (by kernel_rfl) (fun _ _ _ h => (h : False).elim) (Or.inl ⟨by rfl, fun _ _ => by go_simp⟩) hS ?_
        change wpAnyH _ _ _ _ _ _ _ (Act.put _ (some 58) _) _
        simp only [Act.put, List.setIfInBounds_toArray, List.set_cons_succ, List.set_cons_zero]
        refine wpAnyH_take (i := 11) (v := .bool false) rfl (by kernel_rfl) (by kernel_rfl) (by kernel_rfl) (fun _ _ _ h => (h : False).elim) (Or.inl ⟨by rfl, fun _ _ => by go_simp⟩) hS ?_
        change wpAnyH _ _ _ _ _ _ _ (Act.put _ (some 59) _) _
        simp only [Act.put, List.setIfInBounds_toArray, List.set_cons_succ, List.set_cons_zero]
        refine wpAnyH_take (i := 12) (v := .bool false) rfl (by kernel_rfl) (by kernel_rfl) (by kernel_rfl) (fun _ _ _ h => (h : False).elim) (Or.inl ⟨by rfl, fun _ _ => by go_simp⟩) hS ?_
        change wpAnyH _ _ _ _ _ _ _ (Act.put _ (some 60) _) _
        simp only [Act.put, List.setIfInBounds_toArray, List.set_cons_succ, List.set_cons_zero]
        refine wpAnyH_take (i := 13) (v := .bool false) rfl (by kernel_rfl) (by kernel_rfl) (by kernel_rfl) (fun _ _ _ h => (h : False).elim) (Or.inl ⟨by rfl, fun _ _ => by go_simp⟩) hS ?_
        change wpAnyH _ _ _ _ _ _ _ (Act.put _ (some 61) _) _
        simp only [Act.put, List.setIfInBounds_toArray, List.set_cons_succ, List.set_cons_zero]
        refine wpAnyH_done (by kernel_rfl) ?_ _
        refine NoPanic.normal ?_
        have h7 := hS.less (K' := [(g, pairO l m)]) (fun x hx => List.mem_cons_of_mem _ hx)
        clear hS
        go_wp2_with fail
        go_roundw
        case rel => exact ⟨k + 1, by omega, by go_num, h7⟩
        case measure => simp [intOf]; omega
      · subst hE
        have hPl := HPL.out
        generalize putB R = D at hPl ⊢
        have hiD := sizeBlock D hPl
        have hzD : (cellsOf zeros).size = (cellsOf D).size := by rw [cellsOf_size, cellsOf_size, hPl, zeros_length]
        clear hPl HPL HF HPT heq
        have h5 := (h4.below hx).alloc (.cells (cellsOf D) 27)
        clear h4 hx
        have tok : True := trivial
        go_wp2_with (have _t := tok; refine wpList_store_new rfl 27 _ _ rfl (cellsOf D) _ _ rfl rfl hiD hzD (cellsOf_one _) ?_; generalize W7.heap.size = b9 at h5 ⊢; generalize W7.alloc (.cells (cellsOf D) 27) = W8 at h5 ⊢; clear _t tok)
        have h6 := h5.less (K' := [(b9, .cells (cellsOf D) 27), (g, pairO l m)]) (by simp)
        clear h5
        refine wp_region_noPanic ?_
        refine wp_region_held_drew (S := fun W => Kept w [(b9, .cells (cellsOf D) 27), (g, pairO l m)] W) (by kernel_rfl) h6.drew ?_
        intro hS
        clear h6
        refine wpAnyH_take (i := 0) (v := .int .i64 250) rfl (by kernel_rfl) (by kernel_rfl) (by kernel_rfl) (fun _ _ _ h => (h : False).elim) (Or.inl ⟨by rfl, fun _ _ => by go_simp⟩) hS ?_
        change wpAnyH _ _ _ _ _ _ _ (Act.put _ (some 48) _) _
        simp only [Act.put, List.setIfInBounds_toArray, List.set_cons_succ, List.set_cons_zero]
        refine wpAnyH_take (i := 1) (v := .bool false) rfl (by kernel_rfl) (by kernel_rfl) (by kernel_rfl) (fun _ _ _ h => (h : False).elim) (Or.inl ⟨by rfl, fun _ _ => by go_simp⟩) hS ?_
        change wpAnyH _ _ _ _ _ _ _ (Act.put _ (some 49) _) _
        simp only [Act.put, List.setIfInBounds_toArray, List.set_cons_succ, List.set_cons_zero]
        refine wpAnyH_take (i := 2) (v := .bool false) rfl (by kernel_rfl) (by kernel_rfl) (by kernel_rfl) (fun _ _ _ h => (h : False).elim) (Or.inl ⟨by rfl, fun _ _ => by go_simp⟩) hS ?_
        change wpAnyH _ _ _ _ _ _ _ (Act.put _ (some 50) _) _
        simp only [Act.put, List.setIfInBounds_toArray, List.set_cons_succ, List.set_cons_zero]
        refine wpAnyH_take (i := 3) (v := undef) rfl (by kernel_rfl) (by kernel_rfl) (by kernel_rfl) (fun _ _ _ h => (h : False).elim) (Or.inr ⟨by rfl, rfl⟩) hS ?_
        change wpAnyH _ _ _ _ _ _ _ (Act.put _ (some 51) _) _
        simp only [Act.put, List.setIfInBounds_toArray, List.set_cons_succ, List.set_cons_zero]
        refine wpAnyH_take (i := 4) (v := undef) rfl (by kernel_rfl) (by kernel_rfl) (by kernel_rfl) (fun _ _ _ h => (h : False).elim) (Or.inr ⟨by rfl, rfl⟩) hS ?_
        change wpAnyH _ _ _ _ _ _ _ (Act.put _ (some 52) _) _
        simp only [Act.put, List.setIfInBounds_toArray, List.set_cons_succ, List.set_cons_zero]
        refine wpAnyH_take (i := 5) (v := undef) rfl (by kernel_rfl) (by kernel_rfl) (by kernel_rfl) (fun _ _ _ h => (h : False).elim) (Or.inr ⟨by rfl, rfl⟩) hS ?_
        change wpAnyH _ _ _ _ _ _ _ (Act.put _ (some 53) _) _
        simp only [Act.put, List.setIfInBounds_toArray, List.set_cons_succ, List.set_cons_zero]
        refine wpAnyH_take (i := 6) (v := undef) rfl (by kernel_rfl) (by kernel_rfl) (by kernel_rfl) (fun _ _ _ h => (h : False).elim) (Or.inr ⟨by rfl, rfl⟩) hS ?_
        change wpAnyH _ _ _ _ _ _ _ (Act.put _ (some 54) _) _
        simp only [Act.put, List.setIfInBounds_toArray, List.set_cons_succ, List.set_cons_zero]
        refine wpAnyH_take (i := 7) (v := undef) rfl (by kernel_rfl) (by kernel_rfl) (by kernel_rfl) (fun _ _ _ h => (h : False).elim) (Or.inr ⟨by rfl, rfl⟩) hS ?_
        change wpAnyH _ _ _ _ _ _ _ (Act.put _ (some 55) _) _
        simp only [Act.put, List.setIfInBounds_toArray, List.set_cons_succ, List.set_cons_zero]
        refine wpAnyH_take (i := 8) (v := undef) rfl (by kernel_rfl) (by kernel_rfl) (by kernel_rfl) (fun _ _ _ h => (h : False).elim) (Or.inr ⟨by rfl, rfl⟩) hS ?_
        change wpAnyH _ _ _ _ _ _ _ (Act.put _ (some 56) _) _
        simp only [Act.put, List.setIfInBounds_toArray, List.set_cons_succ, List.set_cons_zero]
        refine wpAnyH_take (i := 9) (v := undef) rfl (by kernel_rfl) (by kernel_rfl) (by kernel_rfl) (fun _ _ _ h => (h : False).elim) (Or.inr ⟨by rfl, rfl⟩) hS ?_
        change wpAnyH _ _ _ _ _ _ _ (Act.put _ (some 57) _) _
        simp only [Act.put, List.setIfInBounds_toArray, List.set_cons_succ, List.set_cons_zero]
        refine wpAnyH_take (i := 10) (v := undef) rfl (by kernel_rfl) (by kernel_rfl) (by kernel_rfl) (fun _ _ _ h => (h : False).elim) (Or.inr ⟨by rfl, rfl⟩) hS ?_
        change wpAnyH _ _ _ _ _ _ _ (Act.put _ (some 58) _) _
        simp only [Act.put, List.setIfInBounds_toArray, List.set_cons_succ, List.set_cons_zero]
        refine wpAnyH_take (i := 11) (v := undef) rfl (by kernel_rfl) (by kernel_rfl) (by kernel_rfl) (fun _ _ _ h => (h : False).elim) (Or.inr ⟨by rfl, rfl⟩) hS ?_
        change wpAnyH _ _ _ _ _ _ _ (Act.put _ (some 59) _) _
        simp only [Act.put, List.setIfInBounds_toArray, List.set_cons_succ, List.set_cons_zero]
        refine wpAnyH_take (i := 12) (v := undef) rfl (by kernel_rfl) (by kernel_rfl) (by kernel_rfl) (fun _ _ _ h => (h : False).elim) (Or.inr ⟨by rfl, rfl⟩) hS ?_
        change wpAnyH _ _ _ _ _ _ _ (Act.put _ (some 60) _) _
        simp only [Act.put, List.setIfInBounds_toArray, List.set_cons_succ, List.set_cons_zero]
        refine wpAnyH_take (i := 13) (v := .bool false) rfl (by kernel_rfl) (by kernel_rfl) (by kernel_rfl) (fun _ _ _ h => (h : False).elim) (Or.inl ⟨by rfl, fun _ _ => by go_simp⟩) hS ?_
        change wpAnyH _ _ _ _ _ _ _ (Act.put _ (some 61) _) _
        simp only [Act.put, List.setIfInBounds_toArray, List.set_cons_succ, List.set_cons_zero]
        refine wpAnyH_done (by kernel_rfl) ?_ _
        refine NoPanic.normal ?_
        have h7 := hS.less (K' := [(g, pairO l m)]) (fun x hx => List.mem_cons_of_mem _ hx)
        clear hS
        go_wp2_with fail
        go_roundw
        case rel => exact ⟨k + 1, by omega, by go_num, h7⟩
        case measure => simp [intOf]; omega
    · obtain rfl : k = 2 := by omega
      go_wp2_with (go_at_call 10; (with_reducible refine (head_any _).mono ?_); rintro e WH ⟨rfl, hx⟩; have hbel := h.bel.trans (hx.mono h.bel.size))
      go_ret
      exact ⟨rfl, hbel⟩

end Go.Proofs.Ytdlgdnmmeopkjaa.Slt
