/-
  The walk of the law TallyPuts.
-/
import Derived.Test.YtkkeemjgeeillaaTalHead
import Derived.Test.YtkkeemjgeeillaaTalRefPut
import Derived.Test.YtkkeemjgeeillaaFldHead
import Derived.Deep.Cut
namespace Go.Proofs.Ytkkeemjgeeillaa.Tal
open Go.RowKit RowLaw Crc Fld
set_option maxRecDepth 100000

set_option maxHeartbeats 6400000 in
theorem puts_any (ti : Nat) (tn : List Nat) (htn : tn.length = kT.n) (hts : ∀ j (hj : j < tn.length), tn[j] < 256 ^ kT.wd) (pi : Nat) (pn : List Nat) (hpn : pn.length = kP.n) (hps : ∀ j (hj : j < pn.length), pn[j] < 256 ^ kP.wd) (o : Nat) (hol : o < 4294967296) (w : World) :
    Calls Try.prog 3 #[.agg (pgCells .u16 ti tn), .agg (pgCells .u64 pi pn), .int .u32 (o : Int)] w fun e w' => e = .returned (.bool true) ∧ Below w.heap.size w w' := by
  have hzv := (zero_of_info infoBlock).1
  have hzt := (zero_of_info infoT).1
  have hzp := (zero_of_info infoP).1
  have hit := sizeT ti tn htn
  have hip := sizeP pi pn hpn
  have hXl := putB_length fT ti htn
  have hYl := putB_length fP pi hpn
  have hpt := fun W => Put_anyT ti tn htn hts W
  have hrt := fun W => refPut_anyT ti tn htn hts W
  have hpp := fun W => Put_anyP pi pn hpn hps W
  have hrp := fun W => refPut_anyP pi pn hpn hps W
  have hzT := fun W => Zeros_any ti tn htn W
  have hrzT := fun W => refZeros_any ti tn htn W
  have hbT : putE kT ti = 0 → ∀ W, Calls Try.prog 12 #[.agg (cellsOf (putB kT ti tn)), .int .u32 (ti : Int)] W fun e w' => e = .returned (.tuple #[.agg (pgCells .u16 ti tn), .int .i64 0]) ∧ Below W.heap.size W w' := fun h W => by
    have hi := putE_iff.1 h
    have hh := Get_anyT (putB kT ti tn) hXl ti W
    have hb := back fT htn hts hi
    rw [← putB_yes tn hi] at hb
    rw [hb.1, hb.2.1, hb.2.2] at hh
    exact hh
  have hoT := fun W => Get_anyT (putB kT ti tn) hXl o W
  have hnT : putE kT ti = 0 → o ≠ ti → getE kT (putB kT ti tn) o ≠ 0 := fun h hne => by
    rw [putB_yes tn (putE_iff.1 h)]
    exact back_other fT (by decide) htn (putE_iff.1 h) hol hne
  have hgT := getNs_length kT (putB kT ti tn) o
  have hbP : putE kP pi = 0 → ∀ W, Calls Try.prog 13 #[.agg (cellsOf (putB kP pi pn)), .int .u32 (pi : Int)] W fun e w' => e = .returned (.tuple #[.agg (pgCells .u64 pi pn), .int .i64 0]) ∧ Below W.heap.size W w' := fun h W => by
    have hi := putE_iff.1 h
    have hh := Get_anyP (putB kP pi pn) hYl pi W
    have hb := back fP hpn hps hi
    rw [← putB_yes pn hi] at hb
    rw [hb.1, hb.2.1, hb.2.2] at hh
    exact hh
  have hoP := fun W => Get_anyP (putB kP pi pn) hYl o W
  have hnP : putE kP pi = 0 → o ≠ pi → getE kP (putB kP pi pn) o ≠ 0 := fun h hne => by
    rw [putB_yes pn (putE_iff.1 h)]
    exact back_other fP (by decide) hpn (putE_iff.1 h) hol hne
  have hgP := getNs_length kP (putB kP pi pn) o
  have hsT : (pgCells .u16 0 (zs kT)).size = (pgCells .u16 ti tn).size := by rw [pgCells_size, pgCells_size, htn, zs_length]
  have hsP : (pgCells .u64 0 (zs kP)).size = (pgCells .u64 pi pn).size := by rw [pgCells_size, pgCells_size, hpn, zs_length]
  have heqT := fun W : World => run_eqPgT W ti ti tn tn htn htn
  rw [decide_eq_true ⟨rfl, rfl⟩] at heqT
  have heqP := fun W : World => run_eqPgP W pi pi pn pn hpn hpn
  rw [decide_eq_true ⟨rfl, rfl⟩] at heqP
  have heqX := fun W : World => run_eqBlock W (putB kT ti tn) (putB kT ti tn) hXl hXl
  rw [decide_eq_true rfl] at heqX
  have heqY := fun W : World => run_eqBlock W (putB kP pi pn) (putB kP pi pn) hYl hYl
  rw [decide_eq_true rfl] at heqY
  generalize getI kT (putB kT ti tn) o = gi at hoT
  generalize getNs kT (putB kT ti tn) o = gn at hoT hgT
  generalize getE kT (putB kT ti tn) o = ge at hoT hnT
  generalize getI kP (putB kP pi pn) o = fi at hoP
  generalize getNs kP (putB kP pi pn) o = fn at hoP hgP
  generalize getE kP (putB kP pi pn) o = fe at hoP hnP
  generalize putB kT ti tn = X at hXl hpt hrt hbT hoT heqX
  generalize putB kP pi pn = Y at hYl hpp hrp hbP hoP heqY
  generalize putE kT ti = E at hpt hrt hbT hnT
  generalize putE kP pi = F at hpp hrp hbP hnP
  generalize zerosIn tn = zc at hzT hrzT
  have higT := sizeT gi gn hgT
  have higP := sizeP fi fn hgP
  have hsgT : (pgCells .u16 0 (zs kT)).size = (pgCells .u16 gi gn).size := by rw [pgCells_size, pgCells_size, hgT, zs_length]
  have hsgP : (pgCells .u64 0 (zs kP)).size = (pgCells .u64 fi fn).size := by rw [pgCells_size, pgCells_size, hgP, zs_length]
  have hiX := sizeBlock X hXl
  have hiY := sizeBlock Y hYl
  have hzX : (cellsOf zeros).size = (cellsOf X).size := by rw [cellsOf_size, cellsOf_size, hXl, zeros_length]
  have hzY : (cellsOf zeros).size = (cellsOf Y).size := by rw [cellsOf_size, cellsOf_size, hYl, zeros_length]
  have hg := fun (W : World) (op : BinOp) (x y : Operand) (xs ys : Array Value) => run_eqGuard_agg (P := Try.prog) W op 32 x y xs ys noGuard
  have hgt := fun (W : World) (op : BinOp) (x y : Operand) (xs ys : Array Value) => run_eqGuard_agg (P := Try.prog) W op 26 x y xs ys noGuardT
  have hgp := fun (W : World) (op : BinOp) (x y : Operand) (xs ys : Array Value) => run_eqGuard_agg (P := Try.prog) W op 30 x y xs ys noGuardP
  have hEE : (E != E) = false := by simp
  have hFF : (F != F) = false := by simp
  have hZZ : ((zc : Int) != (zc : Int)) = false := by simp
  have HPT := Lib.hid hpt
  have HRT := Lib.hid hrt
  have HPP := Lib.hid hpp
  have HRP := Lib.hid hrp
  have HZT := Lib.hid hzT
  have HRZT := Lib.hid hrzT
  have HBT := Lib.hid hbT
  have HBP := Lib.hid hbP
  have HOT := Lib.hid hoT
  have HOP := Lib.hid hoP
  have HNT := Lib.hid hnT
  have HNP := Lib.hid hnP
  clear hpt hrt hpp hrp hzT hrzT hbT hbP hoT hoP hnT hnP hgT hgP hXl hYl hts hps htn hpn hol
  have h2 := ((Kept.start w).alloc (.cells (pgCells .u16 ti tn) 26)).alloc (.cells (pgCells .u64 pi pn) 30)
  rw [show (w.alloc (.cells (pgCells .u16 ti tn) 26)).heap.size = w.heap.size + 1 from by simp] at h2
  go_enter Try.func3, Try.ntmps3
  go_wp2_with (refine wpList_load_row rfl 26 _ rfl (w.heap.size) rfl _ _ _ _ (h2.at_ (q := w.heap.size) (o := .cells (pgCells .u16 ti tn) 26) (by simp)) Try.underlying26 rfl hit ?_)
  refine (HPT.out _).mono ?_
  rintro e W2 ⟨rfl, hx⟩
  have h3 := (h2.below hx).alloc (.cells (cellsOf X) 32)
  clear h2 hx
  have tok : True := trivial
  go_wp2_with (first
    | (have _t := tok; refine wpList_store_new rfl 32 _ _ rfl (cellsOf X) _ _ rfl rfl hiX hzX (cellsOf_one _) ?_; generalize W2.heap.size = q7 at h3 ⊢; generalize W2.alloc (.cells (cellsOf X) 32) = W3 at h3 ⊢; clear _t tok)
    | (refine wpList_load_row rfl 26 _ rfl (w.heap.size) rfl _ _ _ _ (h3.at_ (q := w.heap.size) (o := .cells (pgCells .u16 ti tn) 26) (by simp)) Try.underlying26 rfl hit ?_))
  refine (HRT.out _).mono ?_
  rintro e W4 ⟨rfl, hx⟩
  have h4 := (h3.below hx).alloc (.cells (cellsOf X) 32)
  clear h3 hx
  have tok : True := trivial
  go_wp2_with (first
    | (have _t := tok; refine wpList_store_new rfl 32 _ _ rfl (cellsOf X) _ _ rfl rfl hiX hzX (cellsOf_one _) ?_; generalize W4.heap.size = q9 at h4 ⊢; generalize W4.alloc (.cells (cellsOf X) 32) = W5 at h4 ⊢; clear _t tok)
    | (refine wpList_load_row rfl 30 _ rfl (w.heap.size + 1) rfl _ _ _ _ (h4.at_ (q := w.heap.size + 1) (o := .cells (pgCells .u64 pi pn) 30) (by simp)) Try.underlying30 rfl hip ?_))
  refine (HPP.out _).mono ?_
  rintro e W6 ⟨rfl, hx⟩
  have h5 := (h4.below hx).alloc (.cells (cellsOf Y) 32)
  clear h4 hx
  have tok : True := trivial
  go_wp2_with (first
    | (have _t := tok; refine wpList_store_new rfl 32 _ _ rfl (cellsOf Y) _ _ rfl rfl hiY hzY (cellsOf_one _) ?_; generalize W6.heap.size = q11 at h5 ⊢; generalize W6.alloc (.cells (cellsOf Y) 32) = W7 at h5 ⊢; clear _t tok)
    | (refine wpList_load_row rfl 30 _ rfl (w.heap.size + 1) rfl _ _ _ _ (h5.at_ (q := w.heap.size + 1) (o := .cells (pgCells .u64 pi pn) 30) (by simp)) Try.underlying30 rfl hip ?_))
  refine (HRP.out _).mono ?_
  rintro e W8 ⟨rfl, hx⟩
  have h6 := (h5.below hx).alloc (.cells (cellsOf Y) 32)
  clear h5 hx
  have tok : True := trivial
  go_wp2_with (have _t := tok; refine wpList_store_new rfl 32 _ _ rfl (cellsOf Y) _ _ rfl rfl hiY hzY (cellsOf_one _) ?_; generalize W8.heap.size = q13 at h6 ⊢; generalize W8.alloc (.cells (cellsOf Y) 32) = W9 at h6 ⊢; clear _t tok)
  generalize w.heap.size + 1 = q4 at h6 ⊢
  generalize w.heap.size = q3 at h6 ⊢
  refine wp_region_noPanic ?_
  refine wp_region_held_drew (S := fun W => Kept w [(q13, .cells (cellsOf Y) 32), (q11, .cells (cellsOf Y) 32), (q9, .cells (cellsOf X) 32), (q7, .cells (cellsOf X) 32), (q4, .cells (pgCells .u64 pi pn) 30), (q3, .cells (pgCells .u16 ti tn) 26)] W) (by kernel_rfl) h6.drew ?_
  intro hS
  clear h6
  generalize W9.drew = WD at hS ⊢
  refine wpAnyH_take (i := 0) (v := .agg (cellsOf X)) rfl (by kernel_rfl) (by kernel_rfl) (by kernel_rfl) (fun _ _ _ h => (h : False).elim) (yieldsIf_load_row (by rfl) 32 _ rfl q7 rfl _ _ _ _ (fun W hW => hW.at_ (q := q7) (o := .cells (cellsOf X) 32) (by simp)) Try.underlying32 rfl hiX) hS ?_
  change wpAnyH _ _ _ _ _ _ _ (Act.put _ (some 43) _) _
  simp only [Act.put, List.setIfInBounds_toArray, List.set_cons_succ, List.set_cons_zero]
  refine wpAnyH_take (i := 1) (v := .agg (cellsOf X)) rfl (by kernel_rfl) (by kernel_rfl) (by kernel_rfl) (fun _ _ _ h => (h : False).elim) (yieldsIf_load_row (by rfl) 32 _ rfl q9 rfl _ _ _ _ (fun W hW => hW.at_ (q := q9) (o := .cells (cellsOf X) 32) (by simp)) Try.underlying32 rfl hiX) hS ?_
  change wpAnyH _ _ _ _ _ _ _ (Act.put _ (some 44) _) _
  simp only [Act.put, List.setIfInBounds_toArray, List.set_cons_succ, List.set_cons_zero]
  refine wpAnyH_take (i := 2) (v := .bool false) rfl (by kernel_rfl) (by kernel_rfl) (by kernel_rfl) (fun _ _ _ h => (h : False).elim) (Or.inl ⟨by rfl, fun _ _ => by go_simp⟩) hS ?_
  change wpAnyH _ _ _ _ _ _ _ (Act.put _ (some 45) _) _
  simp only [Act.put, List.setIfInBounds_toArray, List.set_cons_succ, List.set_cons_zero]
  refine wpAnyH_take (i := 3) (v := .bool false) rfl (by kernel_rfl) (by kernel_rfl) (by kernel_rfl) (fun _ _ _ h => (h : False).elim) (Or.inl ⟨by rfl, fun _ _ => by go_simp⟩) hS ?_
  change wpAnyH _ _ _ _ _ _ _ (Act.put _ (some 46) _) _
  simp only [Act.put, List.setIfInBounds_toArray, List.set_cons_succ, List.set_cons_zero]
  refine wpAnyH_take (i := 4) (v := .int .i64 E) rfl (by kernel_rfl) (by kernel_rfl) (by kernel_rfl) (fun _ _ _ h => (h : False).elim) (Or.inl ⟨by rfl, fun _ _ => by go_simp⟩) hS ?_
  change wpAnyH _ _ _ _ _ _ _ (Act.put _ (some 47) _) _
  simp only [Act.put, List.setIfInBounds_toArray, List.set_cons_succ, List.set_cons_zero]
  refine wpAnyH_take (i := 5) (v := .int .i64 E) rfl (by kernel_rfl) (by kernel_rfl) (by kernel_rfl) (fun _ _ _ h => (h : False).elim) (Or.inl ⟨by rfl, fun _ _ => by go_simp⟩) hS ?_
  change wpAnyH _ _ _ _ _ _ _ (Act.put _ (some 48) _) _
  simp only [Act.put, List.setIfInBounds_toArray, List.set_cons_succ, List.set_cons_zero]
  refine wpAnyH_take (i := 6) (v := .bool false) rfl (by kernel_rfl) (by kernel_rfl) (by kernel_rfl) (fun _ _ _ h => (h : False).elim) (Or.inl ⟨by rfl, fun _ _ => by go_simp⟩) hS ?_
  change wpAnyH _ _ _ _ _ _ _ (Act.put _ (some 49) _) _
  simp only [Act.put, List.setIfInBounds_toArray, List.set_cons_succ, List.set_cons_zero]
  refine wpAnyH_take (i := 7) (v := .bool false) rfl (by kernel_rfl) (by kernel_rfl) (by kernel_rfl) (fun _ _ _ h => (h : False).elim) (Or.inl ⟨by rfl, fun _ _ => by go_simp⟩) hS ?_
  change wpAnyH _ _ _ _ _ _ _ (Act.put _ (some 50) _) _
  simp only [Act.put, List.setIfInBounds_toArray, List.set_cons_succ, List.set_cons_zero]
  refine wpAnyH_take (i := 8) (v := .bool false) rfl (by kernel_rfl) (by kernel_rfl) (by kernel_rfl) (fun _ _ _ h => (h : False).elim) (Or.inl ⟨by rfl, fun _ _ => by go_simp⟩) hS ?_
  change wpAnyH _ _ _ _ _ _ _ (Act.put _ (some 51) _) _
  simp only [Act.put, List.setIfInBounds_toArray, List.set_cons_succ, List.set_cons_zero]
  refine wpAnyH_take (i := 9) (v := .agg (cellsOf Y)) rfl (by kernel_rfl) (by kernel_rfl) (by kernel_rfl) (fun _ _ _ h => (h : False).elim) (yieldsIf_load_row (by rfl) 32 _ rfl q11 rfl _ _ _ _ (fun W hW => hW.at_ (q := q11) (o := .cells (cellsOf Y) 32) (by simp)) Try.underlying32 rfl hiY) hS ?_
  change wpAnyH _ _ _ _ _ _ _ (Act.put _ (some 52) _) _
  simp only [Act.put, List.setIfInBounds_toArray, List.set_cons_succ, List.set_cons_zero]
  refine wpAnyH_take (i := 10) (v := .agg (cellsOf Y)) rfl (by kernel_rfl) (by kernel_rfl) (by kernel_rfl) (fun _ _ _ h => (h : False).elim) (yieldsIf_load_row (by rfl) 32 _ rfl q13 rfl _ _ _ _ (fun W hW => hW.at_ (q := q13) (o := .cells (cellsOf Y) 32) (by simp)) Try.underlying32 rfl hiY) hS ?_
  change wpAnyH _ _ _ _ _ _ _ (Act.put _ (some 53) _) _
  simp only [Act.put, List.setIfInBounds_toArray, List.set_cons_succ, List.set_cons_zero]
  refine wpAnyH_take (i := 11) (v := .bool false) rfl (by kernel_rfl) (by kernel_rfl) (by kernel_rfl) (fun _ _ _ h => (h : False).elim) (Or.inl ⟨by rfl, fun _ _ => by go_simp⟩) hS ?_
  change wpAnyH _ _ _ _ _ _ _ (Act.put _ (some 54) _) _
  simp only [Act.put, List.setIfInBounds_toArray, List.set_cons_succ, List.set_cons_zero]
  refine wpAnyH_take (i := 12) (v := .bool false) rfl (by kernel_rfl) (by kernel_rfl) (by kernel_rfl) (fun _ _ _ h => (h : False).elim) (Or.inl ⟨by rfl, fun _ _ => by go_simp⟩) hS ?_
  change wpAnyH _ _ _ _ _ _ _ (Act.put _ (some 55) _) _
  simp only [Act.put, List.setIfInBounds_toArray, List.set_cons_succ, List.set_cons_zero]
  refine wpAnyH_take (i := 13) (v := .bool false) rfl (by kernel_rfl) (by kernel_rfl) (by kernel_rfl) (fun _ _ _ h => (h : False).elim) (Or.inl ⟨by rfl, fun _ _ => by go_simp⟩) hS ?_
  change wpAnyH _ _ _ _ _ _ _ (Act.put _ (some 56) _) _
  simp only [Act.put, List.setIfInBounds_toArray, List.set_cons_succ, List.set_cons_zero]
  refine wpAnyH_take (i := 14) (v := .int .i64 F) rfl (by kernel_rfl) (by kernel_rfl) (by kernel_rfl) (fun _ _ _ h => (h : False).elim) (Or.inl ⟨by rfl, fun _ _ => by go_simp⟩) hS ?_
  change wpAnyH _ _ _ _ _ _ _ (Act.put _ (some 57) _) _
  simp only [Act.put, List.setIfInBounds_toArray, List.set_cons_succ, List.set_cons_zero]
  refine wpAnyH_take (i := 15) (v := .int .i64 F) rfl (by kernel_rfl) (by kernel_rfl) (by kernel_rfl) (fun _ _ _ h => (h : False).elim) (Or.inl ⟨by rfl, fun _ _ => by go_simp⟩) hS ?_
  change wpAnyH _ _ _ _ _ _ _ (Act.put _ (some 58) _) _
  simp only [Act.put, List.setIfInBounds_toArray, List.set_cons_succ, List.set_cons_zero]
  refine wpAnyH_take (i := 16) (v := .bool false) rfl (by kernel_rfl) (by kernel_rfl) (by kernel_rfl) (fun _ _ _ h => (h : False).elim) (Or.inl ⟨by rfl, fun _ _ => by go_simp⟩) hS ?_
  change wpAnyH _ _ _ _ _ _ _ (Act.put _ (some 59) _) _
  simp only [Act.put, List.setIfInBounds_toArray, List.set_cons_succ, List.set_cons_zero]
  refine wpAnyH_take (i := 17) (v := .bool false) rfl (by kernel_rfl) (by kernel_rfl) (by kernel_rfl) (fun _ _ _ h => (h : False).elim) (Or.inl ⟨by rfl, fun _ _ => by go_simp⟩) hS ?_
  change wpAnyH _ _ _ _ _ _ _ (Act.put _ (some 60) _) _
  simp only [Act.put, List.setIfInBounds_toArray, List.set_cons_succ, List.set_cons_zero]
  refine wpAnyH_take (i := 18) (v := .bool false) rfl (by kernel_rfl) (by kernel_rfl) (by kernel_rfl) (fun _ _ _ h => (h : False).elim) (Or.inl ⟨by rfl, fun _ _ => by go_simp⟩) hS ?_
  change wpAnyH _ _ _ _ _ _ _ (Act.put _ (some 61) _) _
  simp only [Act.put, List.setIfInBounds_toArray, List.set_cons_succ, List.set_cons_zero]
  refine wpAnyH_take (i := 19) (v := .agg (pgCells .u16 ti tn)) rfl (by kernel_rfl) (by kernel_rfl) (by kernel_rfl) (fun _ _ _ h => (h : False).elim) (yieldsIf_load_row (by rfl) 26 _ rfl q3 rfl _ _ _ _ (fun W hW => hW.at_ (q := q3) (o := .cells (pgCells .u16 ti tn) 26) (by simp)) Try.underlying26 rfl hit) hS ?_
  change wpAnyH _ _ _ _ _ _ _ (Act.put _ (some 62) _) _
  simp only [Act.put, List.setIfInBounds_toArray, List.set_cons_succ, List.set_cons_zero]
  refine wpAnyH_take (i := 21) (v := .agg (pgCells .u16 ti tn)) rfl (by kernel_rfl) (by kernel_rfl) (by kernel_rfl) (fun _ _ _ h => (h : False).elim) (yieldsIf_load_row (by rfl) 26 _ rfl q3 rfl _ _ _ _ (fun W hW => hW.at_ (q := q3) (o := .cells (pgCells .u16 ti tn) 26) (by simp)) Try.underlying26 rfl hit) hS ?_
  change wpAnyH _ _ _ _ _ _ _ (Act.put _ (some 64) _) _
  simp only [Act.put, List.setIfInBounds_toArray, List.set_cons_succ, List.set_cons_zero]
  refine wpAnyH_ready (rs := [20]) (by kernel_rfl) (by simp) ?_
  refine AllReadyH.cons rfl (fun K hK => ?_) AllReadyH.nil
  rw [if_pos (by rfl)]
  go_simp
  refine (HZT.out _).mono ?_
  rintro e WE ⟨rfl, hx⟩
  replace hS := hS.below hx
  clear hx
  dsimp only
  refine hK.out _ _ hS (fun hS => ?_)
  clear hK K
  refine wpAnyH_ready (rs := [22]) (by kernel_rfl) (by simp) ?_
  refine AllReadyH.cons rfl (fun K hK => ?_) AllReadyH.nil
  rw [if_pos (by rfl)]
  go_simp
  refine (HRZT.out _).mono ?_
  rintro e WF ⟨rfl, hx⟩
  replace hS := hS.below hx
  clear hx
  dsimp only
  refine hK.out _ _ hS (fun hS => ?_)
  clear hK K
  refine wpAnyH_take (i := 23) (v := .bool false) rfl (by kernel_rfl) (by kernel_rfl) (by kernel_rfl) (fun _ _ _ h => (h : False).elim) (Or.inl ⟨by rfl, fun _ _ => by go_simp⟩) hS ?_
  change wpAnyH _ _ _ _ _ _ _ (Act.put _ (some 66) _) _
  simp only [Act.put, List.setIfInBounds_toArray, List.set_cons_succ, List.set_cons_zero]
  refine wpAnyH_take (i := 24) (v := .bool false) rfl (by kernel_rfl) (by kernel_rfl) (by kernel_rfl) (fun _ _ _ h => (h : False).elim) (Or.inl ⟨by rfl, fun _ _ => by go_simp⟩) hS ?_
  change wpAnyH _ _ _ _ _ _ _ (Act.put _ (some 67) _) _
  simp only [Act.put, List.setIfInBounds_toArray, List.set_cons_succ, List.set_cons_zero]
  refine wpAnyH_done (by kernel_rfl) ?_ _
  refine NoPanic.normal ?_
  have h7 := hS
  clear hS heqX heqY hEE hFF hZZ HZT HRZT HPT HRT HPP HRP
  go_upto_if 69 with fail
  go_cut [] from 68 (fun wx => Kept w [(q13, .cells (cellsOf Y) 32), (q11, .cells (cellsOf Y) 32), (q9, .cells (cellsOf X) 32), (q7, .cells (cellsOf X) 32), (q4, .cells (pgCells .u64 pi pn) 30), (q3, .cells (pgCells .u16 ti tn) 26)] wx)
  case first =>
    by_cases hE : E = 0
    · have HB := Lib.hid (HBT.out hE)
      have hE1 : (E == 0) = true := by rw [hE]; rfl
      have hNE := HNT.out hE
      clear hE
      by_cases hot : o = ti
      · have hq1 : ((o : Int) != (ti : Int)) = false := by rw [hot]; simp
        have hq2 : ((o : Int) == (ti : Int)) = true := by rw [hot]; simp
        clear hNE hot
        have c3 := IsPg.index (h7.at_ (q := q3) (o := .cells (pgCells .u16 ti tn) 26) (by simp))
        go_wp2_with (refine wpList_load_row rfl 32 _ rfl (q7) rfl _ _ _ _ (h7.at_ (q := q7) (o := .cells (cellsOf X) 32) (by simp)) Try.underlying32 rfl hiX ?_)
        refine (HB.out _).mono ?_
        rintro e WG ⟨rfl, hx⟩
        have ha := (h7.below hx).alloc (.cells (pgCells .u16 ti tn) 26)
        clear hx c3
        have tok : True := trivial
        go_wp2_with (first
          | (have _t := tok; refine wpList_store_new rfl 26 _ _ rfl (pgCells .u16 ti tn) _ _ rfl rfl hit hsT (pgCells_one _ _) ?_; generalize WG.heap.size = q15 at ha ⊢; generalize WG.alloc (.cells (pgCells .u16 ti tn) 26) = WH at ha ⊢; clear _t tok)
          | (refine wpList_load_row rfl 32 _ rfl (q7) rfl _ _ _ _ (ha.at_ (q := q7) (o := .cells (cellsOf X) 32) (by simp)) Try.underlying32 rfl hiX ?_))
        refine (HOT.out _).mono ?_
        rintro e WI ⟨rfl, hx⟩
        have hb := (ha.below hx).alloc (.cells (pgCells .u16 gi gn) 26)
        clear ha hx
        have tok : True := trivial
        go_wp2_with (first
          | (have _t := tok; refine wpList_store_new rfl 26 _ _ rfl (pgCells .u16 gi gn) _ _ rfl rfl higT hsgT (pgCells_one _ _) ?_; generalize WI.heap.size = q17 at hb ⊢; generalize WI.alloc (.cells (pgCells .u16 gi gn) 26) = WJ at hb ⊢; clear _t tok; have c3 := IsPg.index (hb.at_ (q := q3) (o := .cells (pgCells .u16 ti tn) 26) (by simp)); have m15 := (hb.at_ (q := q15) (o := .cells (pgCells .u16 ti tn) 26) (by simp)); have m3 := (hb.at_ (q := q3) (o := .cells (pgCells .u16 ti tn) 26) (by simp)))
          | (refine wpList_load_want (by rfl) 26 _ rfl q15 rfl _ _ _ _ m15 Try.underlying26 rfl hit ?_)
          | (refine wpList_load_want (by rfl) 26 _ rfl q3 rfl _ _ _ _ m3 Try.underlying26 rfl hit ?_))
        go_meet
        case rel => exact hb.less (by simp)
      · have hq1 : ((o : Int) != (ti : Int)) = true := by simp; omega
        have hq2 : ((o : Int) == (ti : Int)) = false := by simp; omega
        have hq3 : (ge == 0) = false := by have := hNE hot; simpa using this
        clear hNE hot
        have c3 := IsPg.index (h7.at_ (q := q3) (o := .cells (pgCells .u16 ti tn) 26) (by simp))
        go_wp2_with (refine wpList_load_row rfl 32 _ rfl (q7) rfl _ _ _ _ (h7.at_ (q := q7) (o := .cells (cellsOf X) 32) (by simp)) Try.underlying32 rfl hiX ?_)
        refine (HB.out _).mono ?_
        rintro e WG ⟨rfl, hx⟩
        have ha := (h7.below hx).alloc (.cells (pgCells .u16 ti tn) 26)
        clear hx c3
        have tok : True := trivial
        go_wp2_with (first
          | (have _t := tok; refine wpList_store_new rfl 26 _ _ rfl (pgCells .u16 ti tn) _ _ rfl rfl hit hsT (pgCells_one _ _) ?_; generalize WG.heap.size = q15 at ha ⊢; generalize WG.alloc (.cells (pgCells .u16 ti tn) 26) = WH at ha ⊢; clear _t tok)
          | (refine wpList_load_row rfl 32 _ rfl (q7) rfl _ _ _ _ (ha.at_ (q := q7) (o := .cells (cellsOf X) 32) (by simp)) Try.underlying32 rfl hiX ?_))
        refine (HOT.out _).mono ?_
        rintro e WI ⟨rfl, hx⟩
        have hb := (ha.below hx).alloc (.cells (pgCells .u16 gi gn) 26)
        clear ha hx
        have tok : True := trivial
        go_wp2_with (first
          | (have _t := tok; refine wpList_store_new rfl 26 _ _ rfl (pgCells .u16 gi gn) _ _ rfl rfl higT hsgT (pgCells_one _ _) ?_; generalize WI.heap.size = q17 at hb ⊢; generalize WI.alloc (.cells (pgCells .u16 gi gn) 26) = WJ at hb ⊢; clear _t tok; have c3 := IsPg.index (hb.at_ (q := q3) (o := .cells (pgCells .u16 ti tn) 26) (by simp)); have m15 := (hb.at_ (q := q15) (o := .cells (pgCells .u16 ti tn) 26) (by simp)); have m3 := (hb.at_ (q := q3) (o := .cells (pgCells .u16 ti tn) 26) (by simp)))
          | (refine wpList_load_want (by rfl) 26 _ rfl q15 rfl _ _ _ _ m15 Try.underlying26 rfl hit ?_)
          | (refine wpList_load_want (by rfl) 26 _ rfl q3 rfl _ _ _ _ m3 Try.underlying26 rfl hit ?_))
        go_meet
        case rel => exact hb.less (by simp)
    · have hE1 : (E == 0) = false := by simpa using hE
      clear hE
      go_wp2_with fail
      go_meet
      case rel => exact h7
  case rest =>
    clear h7
    go_upto_if 101 with fail
    go_cut [] from 100 (fun wx => Kept w [(q13, .cells (cellsOf Y) 32), (q11, .cells (cellsOf Y) 32), (q9, .cells (cellsOf X) 32), (q7, .cells (cellsOf X) 32), (q4, .cells (pgCells .u64 pi pn) 30), (q3, .cells (pgCells .u16 ti tn) 26)] wx)
    case first =>
      by_cases hE : F = 0
      · have HB := Lib.hid (HBP.out hE)
        have hE1 : (F == 0) = true := by rw [hE]; rfl
        have hNE := HNP.out hE
        clear hE
        by_cases hot : o = pi
        · have hq1 : ((o : Int) != (pi : Int)) = false := by rw [hot]; simp
          have hq2 : ((o : Int) == (pi : Int)) = true := by rw [hot]; simp
          clear hNE hot
          have c3 := IsPg.index (hcut.at_ (q := q4) (o := .cells (pgCells .u64 pi pn) 30) (by simp))
          go_wp2_with (refine wpList_load_row rfl 32 _ rfl (q11) rfl _ _ _ _ (hcut.at_ (q := q11) (o := .cells (cellsOf Y) 32) (by simp)) Try.underlying32 rfl hiY ?_)
          refine (HB.out _).mono ?_
          rintro e WG ⟨rfl, hx⟩
          have ha := (hcut.below hx).alloc (.cells (pgCells .u64 pi pn) 30)
          clear hx c3
          have tok : True := trivial
          go_wp2_with (first
            | (have _t := tok; refine wpList_store_new rfl 30 _ _ rfl (pgCells .u64 pi pn) _ _ rfl rfl hip hsP (pgCells_one _ _) ?_; generalize WG.heap.size = q15 at ha ⊢; generalize WG.alloc (.cells (pgCells .u64 pi pn) 30) = WH at ha ⊢; clear _t tok)
            | (refine wpList_load_row rfl 32 _ rfl (q11) rfl _ _ _ _ (ha.at_ (q := q11) (o := .cells (cellsOf Y) 32) (by simp)) Try.underlying32 rfl hiY ?_))
          refine (HOP.out _).mono ?_
          rintro e WI ⟨rfl, hx⟩
          have hb := (ha.below hx).alloc (.cells (pgCells .u64 fi fn) 30)
          clear ha hx
          have tok : True := trivial
          go_wp2_with (first
            | (have _t := tok; refine wpList_store_new rfl 30 _ _ rfl (pgCells .u64 fi fn) _ _ rfl rfl higP hsgP (pgCells_one _ _) ?_; generalize WI.heap.size = q17 at hb ⊢; generalize WI.alloc (.cells (pgCells .u64 fi fn) 30) = WJ at hb ⊢; clear _t tok; have c3 := IsPg.index (hb.at_ (q := q4) (o := .cells (pgCells .u64 pi pn) 30) (by simp)); have m15 := (hb.at_ (q := q15) (o := .cells (pgCells .u64 pi pn) 30) (by simp)); have m3 := (hb.at_ (q := q4) (o := .cells (pgCells .u64 pi pn) 30) (by simp)))
            | (refine wpList_load_want (by rfl) 30 _ rfl q15 rfl _ _ _ _ m15 Try.underlying30 rfl hip ?_)
            | (refine wpList_load_want (by rfl) 30 _ rfl q4 rfl _ _ _ _ m3 Try.underlying30 rfl hip ?_))
          go_meet
          case rel => exact hb.less (by simp)
        · have hq1 : ((o : Int) != (pi : Int)) = true := by simp; omega
          have hq2 : ((o : Int) == (pi : Int)) = false := by simp; omega
          have hq3 : (fe == 0) = false := by have := hNE hot; simpa using this
          clear hNE hot
          have c3 := IsPg.index (hcut.at_ (q := q4) (o := .cells (pgCells .u64 pi pn) 30) (by simp))
          go_wp2_with (refine wpList_load_row rfl 32 _ rfl (q11) rfl _ _ _ _ (hcut.at_ (q := q11) (o := .cells (cellsOf Y) 32) (by simp)) Try.underlying32 rfl hiY ?_)
          refine (HB.out _).mono ?_
          rintro e WG ⟨rfl, hx⟩
          have ha := (hcut.below hx).alloc (.cells (pgCells .u64 pi pn) 30)
          clear hx c3
          have tok : True := trivial
          go_wp2_with (first
            | (have _t := tok; refine wpList_store_new rfl 30 _ _ rfl (pgCells .u64 pi pn) _ _ rfl rfl hip hsP (pgCells_one _ _) ?_; generalize WG.heap.size = q15 at ha ⊢; generalize WG.alloc (.cells (pgCells .u64 pi pn) 30) = WH at ha ⊢; clear _t tok)
            | (refine wpList_load_row rfl 32 _ rfl (q11) rfl _ _ _ _ (ha.at_ (q := q11) (o := .cells (cellsOf Y) 32) (by simp)) Try.underlying32 rfl hiY ?_))
          refine (HOP.out _).mono ?_
          rintro e WI ⟨rfl, hx⟩
          have hb := (ha.below hx).alloc (.cells (pgCells .u64 fi fn) 30)
          clear ha hx
          have tok : True := trivial
          go_wp2_with (first
            | (have _t := tok; refine wpList_store_new rfl 30 _ _ rfl (pgCells .u64 fi fn) _ _ rfl rfl higP hsgP (pgCells_one _ _) ?_; generalize WI.heap.size = q17 at hb ⊢; generalize WI.alloc (.cells (pgCells .u64 fi fn) 30) = WJ at hb ⊢; clear _t tok; have c3 := IsPg.index (hb.at_ (q := q4) (o := .cells (pgCells .u64 pi pn) 30) (by simp)); have m15 := (hb.at_ (q := q15) (o := .cells (pgCells .u64 pi pn) 30) (by simp)); have m3 := (hb.at_ (q := q4) (o := .cells (pgCells .u64 pi pn) 30) (by simp)))
            | (refine wpList_load_want (by rfl) 30 _ rfl q15 rfl _ _ _ _ m15 Try.underlying30 rfl hip ?_)
            | (refine wpList_load_want (by rfl) 30 _ rfl q4 rfl _ _ _ _ m3 Try.underlying30 rfl hip ?_))
          go_meet
          case rel => exact hb.less (by simp)
      · have hE1 : (F == 0) = false := by simpa using hE
        clear hE
        go_wp2_with fail
        go_meet
        case rel => exact hcut
    case rest =>
      have h8 := hcut
      go_wp2_with (go_at_call 14; (with_reducible refine (head_any _).mono ?_); rintro e WZ ⟨rfl, hx⟩; have hbel := h8.bel.trans (hx.mono h8.bel.size))
      go_ret
      exact ⟨rfl, hbel⟩

end Go.Proofs.Ytkkeemjgeeillaa.Tal
