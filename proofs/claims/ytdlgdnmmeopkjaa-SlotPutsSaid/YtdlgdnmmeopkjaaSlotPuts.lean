/-
  The walk of the law SlotPuts.
-/
import Derived.Test.YtdlgdnmmeopkjaaSltHead
import Derived.Test.YtdlgdnmmeopkjaaSltRefPut
import Derived.Deep.RegionHeld3
namespace Go.Proofs.Ytdlgdnmmeopkjaa.Slt
open Go.RowKit RowLaw Crc Fld
set_option maxRecDepth 100000

/-- the root, and the two blocks -/
def PB (w : World) (q3 q5 : Nat) (r : Rt) (X : List UInt8) (W : World) : Prop := Kept w [(q5, .cells (cellsOf X) 27 (0, 0)), (q3, .cells (cellsOf X) 27 (0, 0)), (w.heap.size, .cells (cells r) 25 (0, 0))] W

set_option maxHeartbeats 6400000 in
theorem puts_any (r : Rt) (hf : r.Fits) (w : World) :
    Calls Try.prog 3 #[.agg (cells r)] w fun e w' => e = .returned (.bool true) ∧ Below w.heap.size w w' := by
  have hk : Kept w [(w.heap.size, .cells (cells r) 25 (0, 0))] (w.alloc (.cells (cells r) 25)) := (Kept.start w).alloc _
  have hXl := putB_length r
  have hzc := (zero_of_info infoR).1
  have hzb := (zero_of_info infoBlock).1
  have hi := sizeBlock (putB r) hXl
  have hz : (cellsOf zeros).size = (cellsOf (putB r)).size := by rw [cellsOf_size, cellsOf_size, hXl, zeros_length]
  have hp := fun W => Put_any r hf W
  have hrp := fun W => refPut_any r hf W
  have hm := fun W => May_any r W
  have hrm := fun W => refMay_any r W
  have hgt := fun W => Get_any (putB r) hXl W
  have hE : (putE r = 0 ∧ getR (putB r) = r ∧ getE (putB r) = 0) ∨ putE r = 2 := by
    by_cases h : mayB r = true
    · exact .inl ⟨putE_yes h, by rw [putB_yes h]; exact (back h hf).1, by rw [putB_yes h]; exact (back h hf).2⟩
    · exact .inr (putE_no h)
  have heqB := fun W : World => run_eqBlock W (putB r) (putB r) hXl hXl
  rw [decide_eq_true rfl] at heqB
  generalize getR (putB r) = G at hgt hE
  generalize getE (putB r) = GE at hgt hE
  generalize putB r = X at hXl hi hz hp hrp hgt heqB
  generalize putE r = E at hp hrp hE
  generalize mayB r = mb at hm hrm
  have heqR := fun W : World => run_eqRoot W r r
  rw [eqB_iff.2 rfl] at heqR
  have hgb := fun (W : World) (op : BinOp) (x y : Operand) (xs ys : Array Value) => run_eqGuard_agg (P := Try.prog) W op 27 x y xs ys noGuard
  have hgc := fun (W : World) (op : BinOp) (x y : Operand) (xs ys : Array Value) => run_eqGuard_agg (P := Try.prog) W op 25 x y xs ys noGuardR
  have hEE : (E != E) = false := by simp
  have hMM : (mb != mb) = false := by simp
  have HP := Lib.hid hp
  have HRP := Lib.hid hrp
  have HM := Lib.hid hm
  have HRM := Lib.hid hrm
  have HGT := Lib.hid hgt
  have HEE := Lib.hid hE
  clear hp hrp hm hrm hgt hXl hE hf
  go_enter Try.func3, Try.ntmps3
  go_wp2_with (refine wpList_load_row rfl 25 _ rfl w.heap.size rfl _ _ _ _ (hk.at_ (q := w.heap.size) (o := (.cells (cells r) 25 (0, 0))) (by simp)) Try.underlying25 rfl (sizeR r) ?_)
  refine (HP.out _).mono ?_
  rintro e W1 ⟨rfl, hx⟩
  have h3 := (hk.below hx).alloc (.cells (cellsOf X) 27)
  clear hk hx
  have tok : True := trivial
  go_wp2_with (first | (have _t := tok; refine wpList_store_new rfl 27 _ _ rfl (cellsOf X) _ _ rfl rfl hi hz (cellsOf_one _) ?_; generalize W1.heap.size = q3 at h3 ⊢; generalize W1.alloc (.cells (cellsOf X) 27) = W1n at h3 ⊢; clear _t tok) | (refine wpList_load_row rfl 25 _ rfl w.heap.size rfl _ _ _ _ (h3.at_ (q := w.heap.size) (o := (.cells (cells r) 25 (0, 0))) (by simp)) Try.underlying25 rfl (sizeR r) ?_))
  refine (HRP.out _).mono ?_
  rintro e W3 ⟨rfl, hx⟩
  have h5 := (h3.below hx).alloc (.cells (cellsOf X) 27)
  clear h3 hx
  have tok : True := trivial
  go_upto_region 3 with (have _t := tok; refine wpList_store_new rfl 27 _ _ rfl (cellsOf X) _ _ rfl rfl hi hz (cellsOf_one _) ?_; generalize W3.heap.size = q5 at h5 ⊢; generalize W3.alloc (.cells (cellsOf X) 27) = W3n at h5 ⊢; clear _t tok)
  refine wp_region_noPanic ?_
  refine wp_region_held_drew (S := fun W => PB w q3 q5 r X W) (by kernel_rfl) (Kept.drew h5) ?_
  intro hS
  clear h5
  refine wpAnyH_take (i := 0) (v := .agg (cellsOf X)) rfl (by kernel_rfl) (by kernel_rfl) (by kernel_rfl) (fun _ _ _ h => (h : False).elim) (yieldsIf_load_row (by rfl) 27 _ rfl q3 rfl _ _ _ _ (fun W hW => hW.at_ (q := q3) (o := (.cells (cellsOf X) 27 (0, 0))) (by simp)) Try.underlying27 rfl hi) hS ?_
  change wpAnyH _ _ _ _ _ _ _ (Act.put _ (some 19) _) _
  simp only [Act.put, List.setIfInBounds_toArray, List.set_cons_succ, List.set_cons_zero]
  refine wpAnyH_take (i := 1) (v := .agg (cellsOf X)) rfl (by kernel_rfl) (by kernel_rfl) (by kernel_rfl) (fun _ _ _ h => (h : False).elim) (yieldsIf_load_row (by rfl) 27 _ rfl q5 rfl _ _ _ _ (fun W hW => hW.at_ (q := q5) (o := (.cells (cellsOf X) 27 (0, 0))) (by simp)) Try.underlying27 rfl hi) hS ?_
  change wpAnyH _ _ _ _ _ _ _ (Act.put _ (some 20) _) _
  simp only [Act.put, List.setIfInBounds_toArray, List.set_cons_succ, List.set_cons_zero]
  refine wpAnyH_take (i := 2) (v := .bool false) rfl (by kernel_rfl) (by kernel_rfl) (by kernel_rfl) (fun _ _ _ h => (h : False).elim) (Or.inl ⟨by rfl, fun _ _ => by go_simp⟩) hS ?_
  change wpAnyH _ _ _ _ _ _ _ (Act.put _ (some 21) _) _
  simp only [Act.put, List.setIfInBounds_toArray, List.set_cons_succ, List.set_cons_zero]
  refine wpAnyH_take (i := 3) (v := .bool false) rfl (by kernel_rfl) (by kernel_rfl) (by kernel_rfl) (fun _ _ _ h => (h : False).elim) (Or.inl ⟨by rfl, fun _ _ => by go_simp⟩) hS ?_
  change wpAnyH _ _ _ _ _ _ _ (Act.put _ (some 22) _) _
  simp only [Act.put, List.setIfInBounds_toArray, List.set_cons_succ, List.set_cons_zero]
  refine wpAnyH_take (i := 4) (v := .int .i64 E) rfl (by kernel_rfl) (by kernel_rfl) (by kernel_rfl) (fun _ _ _ h => (h : False).elim) (Or.inl ⟨by rfl, fun _ _ => by go_simp⟩) hS ?_
  change wpAnyH _ _ _ _ _ _ _ (Act.put _ (some 23) _) _
  simp only [Act.put, List.setIfInBounds_toArray, List.set_cons_succ, List.set_cons_zero]
  refine wpAnyH_take (i := 5) (v := .int .i64 E) rfl (by kernel_rfl) (by kernel_rfl) (by kernel_rfl) (fun _ _ _ h => (h : False).elim) (Or.inl ⟨by rfl, fun _ _ => by go_simp⟩) hS ?_
  change wpAnyH _ _ _ _ _ _ _ (Act.put _ (some 24) _) _
  simp only [Act.put, List.setIfInBounds_toArray, List.set_cons_succ, List.set_cons_zero]
  refine wpAnyH_take (i := 6) (v := .bool false) rfl (by kernel_rfl) (by kernel_rfl) (by kernel_rfl) (fun _ _ _ h => (h : False).elim) (Or.inl ⟨by rfl, fun _ _ => by go_simp⟩) hS ?_
  change wpAnyH _ _ _ _ _ _ _ (Act.put _ (some 25) _) _
  simp only [Act.put, List.setIfInBounds_toArray, List.set_cons_succ, List.set_cons_zero]
  refine wpAnyH_take (i := 7) (v := .bool false) rfl (by kernel_rfl) (by kernel_rfl) (by kernel_rfl) (fun _ _ _ h => (h : False).elim) (Or.inl ⟨by rfl, fun _ _ => by go_simp⟩) hS ?_
  change wpAnyH _ _ _ _ _ _ _ (Act.put _ (some 26) _) _
  simp only [Act.put, List.setIfInBounds_toArray, List.set_cons_succ, List.set_cons_zero]
  refine wpAnyH_take (i := 8) (v := .bool false) rfl (by kernel_rfl) (by kernel_rfl) (by kernel_rfl) (fun _ _ _ h => (h : False).elim) (Or.inl ⟨by rfl, fun _ _ => by go_simp⟩) hS ?_
  change wpAnyH _ _ _ _ _ _ _ (Act.put _ (some 27) _) _
  simp only [Act.put, List.setIfInBounds_toArray, List.set_cons_succ, List.set_cons_zero]
  refine wpAnyH_take (i := 9) (v := .agg (cells r)) rfl (by kernel_rfl) (by kernel_rfl) (by kernel_rfl) (fun _ _ _ h => (h : False).elim) (yieldsIf_load_row (by rfl) 25 _ rfl w.heap.size rfl _ _ _ _ (fun W hW => hW.at_ (q := w.heap.size) (o := (.cells (cells r) 25 (0, 0))) (by simp)) Try.underlying25 rfl (sizeR r)) hS ?_
  change wpAnyH _ _ _ _ _ _ _ (Act.put _ (some 28) _) _
  simp only [Act.put, List.setIfInBounds_toArray, List.set_cons_succ, List.set_cons_zero]
  refine wpAnyH_take (i := 11) (v := .agg (cells r)) rfl (by kernel_rfl) (by kernel_rfl) (by kernel_rfl) (fun _ _ _ h => (h : False).elim) (yieldsIf_load_row (by rfl) 25 _ rfl w.heap.size rfl _ _ _ _ (fun W hW => hW.at_ (q := w.heap.size) (o := (.cells (cells r) 25 (0, 0))) (by simp)) Try.underlying25 rfl (sizeR r)) hS ?_
  change wpAnyH _ _ _ _ _ _ _ (Act.put _ (some 30) _) _
  simp only [Act.put, List.setIfInBounds_toArray, List.set_cons_succ, List.set_cons_zero]
  refine wpAnyH_ready (rs := [10]) (by kernel_rfl) (by simp) ?_
  refine AllReadyH.cons rfl (fun K hK => ?_) AllReadyH.nil
  rw [if_pos (by rfl)]
  go_simp
  refine (HM.out _).mono ?_
  rintro e WN ⟨rfl, hx⟩
  replace hS := Kept.below hS hx
  clear hx
  dsimp only
  refine hK.out _ _ hS (fun hS => ?_)
  clear hK K
  refine wpAnyH_ready (rs := [12]) (by kernel_rfl) (by simp) ?_
  refine AllReadyH.cons rfl (fun K hK => ?_) AllReadyH.nil
  rw [if_pos (by rfl)]
  go_simp
  refine (HRM.out _).mono ?_
  rintro e WN ⟨rfl, hx⟩
  replace hS := Kept.below hS hx
  clear hx
  dsimp only
  refine hK.out _ _ hS (fun hS => ?_)
  clear hK K
  refine wpAnyH_take (i := 13) (v := .bool false) rfl (by kernel_rfl) (by kernel_rfl) (by kernel_rfl) (fun _ _ _ h => (h : False).elim) (Or.inl ⟨by rfl, fun _ _ => by go_simp⟩) hS ?_
  change wpAnyH _ _ _ _ _ _ _ (Act.put _ (some 32) _) _
  simp only [Act.put, List.setIfInBounds_toArray, List.set_cons_succ, List.set_cons_zero]
  refine wpAnyH_take (i := 14) (v := .bool false) rfl (by kernel_rfl) (by kernel_rfl) (by kernel_rfl) (fun _ _ _ h => (h : False).elim) (Or.inl ⟨by rfl, fun _ _ => by go_simp⟩) hS ?_
  change wpAnyH _ _ _ _ _ _ _ (Act.put _ (some 33) _) _
  simp only [Act.put, List.setIfInBounds_toArray, List.set_cons_succ, List.set_cons_zero]
  refine wpAnyH_done (by kernel_rfl) ?_ _
  refine NoPanic.normal ?_
  have h6 : Kept w _ _ := hS
  clear hS
  rcases HEE.out with ⟨rfl, rfl, rfl⟩ | rfl
  · go_wp2_with (refine wpList_load_row rfl 27 _ rfl q3 rfl _ _ _ _ (h6.at_ (q := q3) (o := (.cells (cellsOf X) 27 (0, 0))) (by simp)) Try.underlying27 rfl hi ?_)
    refine (HGT.out _).mono ?_
    rintro e W8 ⟨rfl, hx⟩
    have h7 := (h6.below hx).alloc (.cells (cells G) 25)
    clear h6 hx
    have tok : True := trivial
    go_wp2_with (first | (have _t := tok; refine wpList_store_new rfl 25 _ _ rfl (cells G) _ _ rfl rfl (sizeR G) rfl (cells_one _) ?_; generalize W8.heap.size = q7 at h7 ⊢; generalize W8.alloc (.cells (cells G) 25) = W8n at h7 ⊢; clear _t tok) | (refine wpList_load_row rfl 25 _ rfl q7 rfl _ _ _ _ (h7.at_ (q := q7) (o := (.cells (cells G) 25 (0, 0))) (by simp)) Try.underlying25 rfl (sizeR G) ?_) | (refine wpList_load_row rfl 25 _ rfl w.heap.size rfl _ _ _ _ (h7.at_ (q := w.heap.size) (o := (.cells (cells G) 25 (0, 0))) (by simp)) Try.underlying25 rfl (sizeR G) ?_) | (go_at_call 10; (with_reducible refine (head_any _).mono ?_); rintro e WZ ⟨rfl, hx⟩; have hbel := h7.bel.trans (hx.mono h7.bel.size)))
    go_ret
    exact ⟨rfl, hbel⟩
  · go_wp2_with (go_at_call 10; (with_reducible refine (head_any _).mono ?_); rintro e WZ ⟨rfl, hx⟩; have hbel := h6.bel.trans (hx.mono h6.bel.size))
    go_ret
    exact ⟨rfl, hbel⟩

end Go.Proofs.Ytdlgdnmmeopkjaa.Slt
