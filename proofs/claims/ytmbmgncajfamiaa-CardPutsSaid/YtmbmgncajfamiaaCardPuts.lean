/-
  The walk of the law CardPuts.
-/
import Derived.Test.YtmbmgncajfamiaaCrdHeadW
import Derived.Test.YtmbmgncajfamiaaCrdGet
import Derived.Test.YtmbmgncajfamiaaCrdRefPut
import Derived.Test.YtmbmgncajfamiaaCrdEq
import Derived.Deep.RegionHeld3
import Derived.Deep.Cut
namespace Go.Proofs.Ytmbmgncajfamiaa.Crd
open Go.RowKit RowLaw Crc Fld
open Go.Proofs.Ytmbmgncajfamiaa.R32 (Own32 RowAns Row32)
open Go.Proofs.Ytmbmgncajfamiaa.Node (kidsOf kids_le)
set_option maxRecDepth 100000

/-- the card, and the two blocks -/
def PB (w : World) (q3 q5 : Nat) (c : Cd) (X : List UInt8) (W : World) : Prop := Kept w [(q5, .cells (cellsOf X) 29 (0, 0)), (q3, .cells (cellsOf X) 29 (0, 0)), (w.heap.size, .cells (cells c) 26 (0, 0))] W

set_option maxHeartbeats 6400000 in
theorem puts_any (c : Cd) (hc : c.Fits) (w : World) :
    Calls Try.prog 3 #[.agg (cells c)] w fun e w' => e = .returned (.bool true) ∧ Below w.heap.size w w' := by
  have hk : Kept w [(w.heap.size, .cells (cells c) 26 (0, 0))] (w.alloc (.cells (cells c) 26)) := (Kept.start w).alloc _
  have c0 := IsCd.name (hk.at_ (q := w.heap.size) (o := .cells (cells c) 26 (0, 0)) (by simp))
  by_cases hlen : 200 < c.s.size
  · have d0 : (200 : Int) < (c.s.size : Int) := by omega
    go_enter Try.func3, Try.ntmps3
    go_wp2_with (go_at_call 7; (with_reducible refine (head_any _).mono ?_); rintro e WZ ⟨rfl, hx⟩; have hbel := hk.bel.trans (hx.mono hk.bel.size))
    go_ret
    exact ⟨rfl, hbel⟩
  have d0 : ¬ (200 : Int) < (c.s.size : Int) := by omega
  clear hlen
  have hXl := putB_length c
  have hzc := (zero_of_info infoC).1
  have hzb := (zero_of_info infoBlock).1
  have hi := sizeBlock (putB c) hXl
  have hi0 := sizeBlock zeros zeros_length
  have hz : (cellsOf zeros).size = (cellsOf (putB c)).size := by rw [cellsOf_size, cellsOf_size, hXl, zeros_length]
  have hp := fun W => Put_any c hc W
  have hrp := fun W => refPut_any c hc W
  have hm := fun W => May_any c W
  have hrm := fun W => refMay_any c W
  have hkd := fun W => Kids_any c W
  have hrk := fun W => refKids_any c W
  have hle : (kidsOf (leads c)).length ≤ 1000 := Nat.le_trans (kids_le _) (by show 3 ≤ 1000; omega)
  have hsm := fun v u W hx hy => same_any (kidsOf (leads c)) (kidsOf (leads c)) v u W hx hy hle
  simp only [decide_true] at hsm
  have hgt := fun W => Get_any (putB c) hXl W
  have hE : (putE c = 0 ∧ getC (putB c) = c ∧ getE (putB c) = 0) ∨ (putE c = 5 ∧ putB c = zeros) := by
    by_cases h : mayB c = true
    · exact .inl ⟨putE_yes h, by rw [putB_yes h]; exact (back h hc).1, by rw [putB_yes h]; exact (back h hc).2⟩
    · exact .inr ⟨putE_no h, putB_no h⟩
  have heqB := fun W : World => run_eqBlock W (putB c) (putB c) hXl hXl
  rw [decide_eq_true rfl] at heqB
  generalize getC (putB c) = G at hgt hE
  generalize getE (putB c) = GE at hgt hE
  have hXz := hXl
  generalize putB c = X at hXl hi hz hp hrp hgt hE heqB
  generalize putE c = E at hp hrp hE
  generalize mayB c = mb at hm hrm
  generalize kidsOf (leads c) = ks at hkd hrk hle hsm
  have heqC := fun W : World => run_eqCard W c c
  rw [eqB_iff.2 rfl] at heqC
  have hgb := fun (W : World) (op : BinOp) (x y : Operand) (xs ys : Array Value) => run_eqGuard_agg (P := Try.prog) W op 29 x y xs ys noGuard
  have hgc := fun (W : World) (op : BinOp) (x y : Operand) (xs ys : Array Value) => run_eqGuard_agg (P := Try.prog) W op 26 x y xs ys noGuardC
  have hEE : (E != E) = false := by simp
  have hMM : (mb != mb) = false := by simp
  have HP := Lib.hid hp
  have HRP := Lib.hid hrp
  have HM := Lib.hid hm
  have HRM := Lib.hid hrm
  have HKD := Lib.hid hkd
  have HRK := Lib.hid hrk
  have HGT := Lib.hid hgt
  have HSM := Lib.hid hsm
  have HXZ := Lib.hid hXl
  have HEE := Lib.hid hE
  clear hp hrp hm hrm hkd hrk hgt hsm hXl hXz hE hc
  go_enter Try.func3, Try.ntmps3
  go_wp2_with (refine wpList_load_row rfl 26 _ rfl w.heap.size rfl _ _ _ _ (hk.at_ (q := w.heap.size) (o := .cells (cells c) 26 (0, 0)) (by simp)) Try.underlying26 rfl (sizeC c) ?_)
  clear c0
  refine (HP.out _).mono ?_
  rintro e W1 ⟨rfl, hx⟩
  have h3 := (hk.below hx).alloc (.cells (cellsOf X) 29)
  clear hk hx
  have tok : True := trivial
  go_wp2_with (first | (have _t := tok; refine wpList_store_new rfl 29 _ _ rfl (cellsOf X) _ _ rfl rfl hi hz (cellsOf_one _) ?_; generalize W1.heap.size = q3 at h3 ⊢; generalize W1.alloc (.cells (cellsOf X) 29) = W2 at h3 ⊢; clear _t tok) | (refine wpList_load_row rfl 26 _ rfl w.heap.size rfl _ _ _ _ (h3.at_ (q := w.heap.size) (o := .cells (cells c) 26 (0, 0)) (by simp)) Try.underlying26 rfl (sizeC c) ?_))
  refine (HRP.out _).mono ?_
  rintro e W3 ⟨rfl, hx⟩
  have h5 := (h3.below hx).alloc (.cells (cellsOf X) 29)
  clear h3 hx
  have tok : True := trivial
  go_upto_region 5 with (have _t := tok; refine wpList_store_new rfl 29 _ _ rfl (cellsOf X) _ _ rfl rfl hi hz (cellsOf_one _) ?_; generalize W3.heap.size = q5 at h5 ⊢; generalize W3.alloc (.cells (cellsOf X) 29) = W4 at h5 ⊢; clear _t tok)
  refine wp_region_noPanic ?_
  refine wp_region_held_drew (S := fun W => PB w q3 q5 c X W) (by kernel_rfl) (Kept.drew h5) ?_
  intro hS
  clear h5
  refine wpAnyH_take (i := 0) (v := .agg (cellsOf X)) rfl (by kernel_rfl) (by kernel_rfl) (by kernel_rfl) (fun _ _ _ h => (h : False).elim) (yieldsIf_load_row (by rfl) 29 _ rfl q3 rfl _ _ _ _ (fun W hW => hW.at_ (q := q3) (o := .cells (cellsOf X) 29 (0, 0)) (by simp)) Try.underlying29 rfl hi) hS ?_
  change wpAnyH _ _ _ _ _ _ _ (Act.put _ (some 24) _) _
  simp only [Act.put, List.setIfInBounds_toArray, List.set_cons_succ, List.set_cons_zero]
  refine wpAnyH_take (i := 1) (v := .agg (cellsOf X)) rfl (by kernel_rfl) (by kernel_rfl) (by kernel_rfl) (fun _ _ _ h => (h : False).elim) (yieldsIf_load_row (by rfl) 29 _ rfl q5 rfl _ _ _ _ (fun W hW => hW.at_ (q := q5) (o := .cells (cellsOf X) 29 (0, 0)) (by simp)) Try.underlying29 rfl hi) hS ?_
  change wpAnyH _ _ _ _ _ _ _ (Act.put _ (some 25) _) _
  simp only [Act.put, List.setIfInBounds_toArray, List.set_cons_succ, List.set_cons_zero]
  refine wpAnyH_take (i := 2) (v := .bool false) rfl (by kernel_rfl) (by kernel_rfl) (by kernel_rfl) (fun _ _ _ h => (h : False).elim) (Or.inl ⟨by rfl, fun _ _ => by go_simp⟩) hS ?_
  change wpAnyH _ _ _ _ _ _ _ (Act.put _ (some 26) _) _
  simp only [Act.put, List.setIfInBounds_toArray, List.set_cons_succ, List.set_cons_zero]
  refine wpAnyH_take (i := 3) (v := .bool false) rfl (by kernel_rfl) (by kernel_rfl) (by kernel_rfl) (fun _ _ _ h => (h : False).elim) (Or.inl ⟨by rfl, fun _ _ => by go_simp⟩) hS ?_
  change wpAnyH _ _ _ _ _ _ _ (Act.put _ (some 27) _) _
  simp only [Act.put, List.setIfInBounds_toArray, List.set_cons_succ, List.set_cons_zero]
  refine wpAnyH_take (i := 4) (v := .int .i64 E) rfl (by kernel_rfl) (by kernel_rfl) (by kernel_rfl) (fun _ _ _ h => (h : False).elim) (Or.inl ⟨by rfl, fun _ _ => by go_simp⟩) hS ?_
  change wpAnyH _ _ _ _ _ _ _ (Act.put _ (some 28) _) _
  simp only [Act.put, List.setIfInBounds_toArray, List.set_cons_succ, List.set_cons_zero]
  refine wpAnyH_take (i := 5) (v := .int .i64 E) rfl (by kernel_rfl) (by kernel_rfl) (by kernel_rfl) (fun _ _ _ h => (h : False).elim) (Or.inl ⟨by rfl, fun _ _ => by go_simp⟩) hS ?_
  change wpAnyH _ _ _ _ _ _ _ (Act.put _ (some 29) _) _
  simp only [Act.put, List.setIfInBounds_toArray, List.set_cons_succ, List.set_cons_zero]
  refine wpAnyH_take (i := 6) (v := .bool false) rfl (by kernel_rfl) (by kernel_rfl) (by kernel_rfl) (fun _ _ _ h => (h : False).elim) (Or.inl ⟨by rfl, fun _ _ => by go_simp⟩) hS ?_
  change wpAnyH _ _ _ _ _ _ _ (Act.put _ (some 30) _) _
  simp only [Act.put, List.setIfInBounds_toArray, List.set_cons_succ, List.set_cons_zero]
  refine wpAnyH_take (i := 7) (v := .bool false) rfl (by kernel_rfl) (by kernel_rfl) (by kernel_rfl) (fun _ _ _ h => (h : False).elim) (Or.inl ⟨by rfl, fun _ _ => by go_simp⟩) hS ?_
  change wpAnyH _ _ _ _ _ _ _ (Act.put _ (some 31) _) _
  simp only [Act.put, List.setIfInBounds_toArray, List.set_cons_succ, List.set_cons_zero]
  refine wpAnyH_take (i := 8) (v := .bool false) rfl (by kernel_rfl) (by kernel_rfl) (by kernel_rfl) (fun _ _ _ h => (h : False).elim) (Or.inl ⟨by rfl, fun _ _ => by go_simp⟩) hS ?_
  change wpAnyH _ _ _ _ _ _ _ (Act.put _ (some 32) _) _
  simp only [Act.put, List.setIfInBounds_toArray, List.set_cons_succ, List.set_cons_zero]
  refine wpAnyH_take (i := 9) (v := .agg (cells c)) rfl (by kernel_rfl) (by kernel_rfl) (by kernel_rfl) (fun _ _ _ h => (h : False).elim) (yieldsIf_load_row (by rfl) 26 _ rfl w.heap.size rfl _ _ _ _ (fun W hW => hW.at_ (q := w.heap.size) (o := .cells (cells c) 26 (0, 0)) (by simp)) Try.underlying26 rfl (sizeC c)) hS ?_
  change wpAnyH _ _ _ _ _ _ _ (Act.put _ (some 33) _) _
  simp only [Act.put, List.setIfInBounds_toArray, List.set_cons_succ, List.set_cons_zero]
  refine wpAnyH_take (i := 11) (v := .agg (cells c)) rfl (by kernel_rfl) (by kernel_rfl) (by kernel_rfl) (fun _ _ _ h => (h : False).elim) (yieldsIf_load_row (by rfl) 26 _ rfl w.heap.size rfl _ _ _ _ (fun W hW => hW.at_ (q := w.heap.size) (o := .cells (cells c) 26 (0, 0)) (by simp)) Try.underlying26 rfl (sizeC c)) hS ?_
  change wpAnyH _ _ _ _ _ _ _ (Act.put _ (some 35) _) _
  simp only [Act.put, List.setIfInBounds_toArray, List.set_cons_succ, List.set_cons_zero]
  refine wpAnyH_ready (rs := [10]) (by kernel_rfl) (by simp) ?_
  refine AllReadyH.cons rfl (fun K hK => ?_) AllReadyH.nil
  rw [if_pos (by rfl)]
  go_simp
  refine (HM.out _).mono ?_
  rintro e WN ⟨rfl, hx⟩
  replace hS := Kept.below hS hx
  clear hx
  dsimp only
  refine hK.out _ _ hS (fun hS => ?_)
  clear hK K
  refine wpAnyH_ready (rs := [12]) (by kernel_rfl) (by simp) ?_
  refine AllReadyH.cons rfl (fun K hK => ?_) AllReadyH.nil
  rw [if_pos (by rfl)]
  go_simp
  refine (HRM.out _).mono ?_
  rintro e WN ⟨rfl, hx⟩
  replace hS := Kept.below hS hx
  clear hx
  dsimp only
  refine hK.out _ _ hS (fun hS => ?_)
  clear hK K
  refine wpAnyH_take (i := 13) (v := .bool false) rfl (by kernel_rfl) (by kernel_rfl) (by kernel_rfl) (fun _ _ _ h => (h : False).elim) (Or.inl ⟨by rfl, fun _ _ => by go_simp⟩) hS ?_
  change wpAnyH _ _ _ _ _ _ _ (Act.put _ (some 37) _) _
  simp only [Act.put, List.setIfInBounds_toArray, List.set_cons_succ, List.set_cons_zero]
  refine wpAnyH_take (i := 14) (v := .bool false) rfl (by kernel_rfl) (by kernel_rfl) (by kernel_rfl) (fun _ _ _ h => (h : False).elim) (Or.inl ⟨by rfl, fun _ _ => by go_simp⟩) hS ?_
  change wpAnyH _ _ _ _ _ _ _ (Act.put _ (some 38) _) _
  simp only [Act.put, List.setIfInBounds_toArray, List.set_cons_succ, List.set_cons_zero]
  refine wpAnyH_take (i := 15) (v := .bool false) rfl (by kernel_rfl) (by kernel_rfl) (by kernel_rfl) (fun _ _ _ h => (h : False).elim) (Or.inl ⟨by rfl, fun _ _ => by go_simp⟩) hS ?_
  change wpAnyH _ _ _ _ _ _ _ (Act.put _ (some 39) _) _
  simp only [Act.put, List.setIfInBounds_toArray, List.set_cons_succ, List.set_cons_zero]
  refine wpAnyH_take (i := 16) (v := .agg (cells c)) rfl (by kernel_rfl) (by kernel_rfl) (by kernel_rfl) (fun _ _ _ h => (h : False).elim) (yieldsIf_load_row (by rfl) 26 _ rfl w.heap.size rfl _ _ _ _ (fun W hW => hW.at_ (q := w.heap.size) (o := .cells (cells c) 26 (0, 0)) (by simp)) Try.underlying26 rfl (sizeC c)) hS ?_
  change wpAnyH _ _ _ _ _ _ _ (Act.put _ (some 40) _) _
  simp only [Act.put, List.setIfInBounds_toArray, List.set_cons_succ, List.set_cons_zero]
  refine wpAnyH_take (i := 18) (v := .agg (cells c)) rfl (by kernel_rfl) (by kernel_rfl) (by kernel_rfl) (fun _ _ _ h => (h : False).elim) (yieldsIf_load_row (by rfl) 26 _ rfl w.heap.size rfl _ _ _ _ (fun W hW => hW.at_ (q := w.heap.size) (o := .cells (cells c) 26 (0, 0)) (by simp)) Try.underlying26 rfl (sizeC c)) hS ?_
  change wpAnyH _ _ _ _ _ _ _ (Act.put _ (some 42) _) _
  simp only [Act.put, List.setIfInBounds_toArray, List.set_cons_succ, List.set_cons_zero]
  refine wpAnyH_ready (rs := [17]) (by kernel_rfl) (by simp) ?_
  refine AllReadyH.cons rfl (fun K hK => ?_) AllReadyH.nil
  rw [if_pos (by rfl)]
  go_simp
  refine (HKD.out _).mono ?_
  rintro e W5 ⟨v1, rfl, ho1, hx1⟩
  replace hS := Kept.below hS hx1
  have hr1 := ho1.row
  clear hx1 ho1
  dsimp only
  refine hK.out _ _ hS (fun hS => ?_)
  clear hK K
  refine wpAnyH_ready (rs := [19]) (by kernel_rfl) (by simp) ?_
  refine AllReadyH.cons rfl (fun K hK => ?_) AllReadyH.nil
  rw [if_pos (by rfl)]
  go_simp
  refine (HRK.out _).mono ?_
  rintro e W6 ⟨v2, rfl, ho2, hx2⟩
  replace hS := Kept.below hS hx2
  replace hr1 := hr1.below hx2
  have hr2 := ho2.row
  clear hx2 ho2
  dsimp only
  refine hK.out _ _ hS (fun hS => ?_)
  clear hK K
  refine wpAnyH_ready (rs := [20]) (by kernel_rfl) (by simp) ?_
  refine AllReadyH.cons rfl (fun K hK => ?_) AllReadyH.nil
  rw [if_pos (by rfl)]
  go_simp
  refine (HSM.out v1 v2 _ hr1 hr2).mono ?_
  rintro e W7 ⟨rfl, hx3⟩
  replace hS := Kept.below hS hx3
  clear hr1 hr2 hx3
  dsimp only
  refine hK.out _ _ hS (fun hS => ?_)
  clear hK K
  refine wpAnyH_take (i := 21) (v := .bool false) rfl (by kernel_rfl) (by kernel_rfl) (by kernel_rfl) (fun _ _ _ h => (h : False).elim) (Or.inl ⟨by rfl, fun _ _ => by go_simp⟩) hS ?_
  change wpAnyH _ _ _ _ _ _ _ (Act.put _ (some 45) _) _
  simp only [Act.put, List.setIfInBounds_toArray, List.set_cons_succ, List.set_cons_zero]
  refine wpAnyH_take (i := 22) (v := .bool false) rfl (by kernel_rfl) (by kernel_rfl) (by kernel_rfl) (fun _ _ _ h => (h : False).elim) (Or.inl ⟨by rfl, fun _ _ => by go_simp⟩) hS ?_
  change wpAnyH _ _ _ _ _ _ _ (Act.put _ (some 46) _) _
  simp only [Act.put, List.setIfInBounds_toArray, List.set_cons_succ, List.set_cons_zero]
  refine wpAnyH_done (by kernel_rfl) ?_ _
  refine NoPanic.normal ?_
  have h6 : Kept w _ _ := hS
  clear hS
  rcases HEE.out with ⟨rfl, rfl, rfl⟩ | ⟨rfl, rfl⟩
  · go_wp2_with (refine wpList_load_row rfl 29 _ rfl q3 rfl _ _ _ _ (h6.at_ (q := q3) (o := .cells (cellsOf X) 29 (0, 0)) (by simp)) Try.underlying29 rfl hi ?_)
    refine (HGT.out _).mono ?_
    rintro e W8 ⟨rfl, hx⟩
    have h7 := (h6.below hx).alloc (.cells (cells G) 26)
    clear h6 hx
    have tok : True := trivial
    go_wp2_with (first | (have _t := tok; refine wpList_store_new rfl 26 _ _ rfl (cells G) _ _ rfl rfl (sizeC G) rfl (cells_one _) ?_; generalize W8.heap.size = q7 at h7 ⊢; generalize W8.alloc (.cells (cells G) 26) = W9 at h7 ⊢; clear _t tok) | (refine wpList_load_row rfl 26 _ rfl q7 rfl _ _ _ _ (h7.at_ (q := q7) (o := .cells (cells G) 26 (0, 0)) (by simp)) Try.underlying26 rfl (sizeC G) ?_) | (refine wpList_load_row rfl 26 _ rfl w.heap.size rfl _ _ _ _ (h7.at_ (q := w.heap.size) (o := .cells (cells G) 26 (0, 0)) (by simp)) Try.underlying26 rfl (sizeC G) ?_) | (go_at_call 7; (with_reducible refine (head_any _).mono ?_); rintro e WZ ⟨rfl, hx⟩; have hbel := h7.bel.trans (hx.mono h7.bel.size)))
    go_ret
    exact ⟨rfl, hbel⟩
  · go_wp2_with (first | (refine wpList_load_want (by rfl) 29 _ rfl q3 rfl _ _ _ _ (h6.at_ (q := q3) (o := .cells (cellsOf zeros) 29 (0, 0)) (by simp)) Try.underlying29 rfl hi ?_) | (go_at_call 7; (with_reducible refine (head_any _).mono ?_); rintro e WZ ⟨rfl, hx⟩; have hbel := h6.bel.trans (hx.mono h6.bel.size)))
    go_ret
    exact ⟨rfl, hbel⟩

end Go.Proofs.Ytmbmgncajfamiaa.Crd
