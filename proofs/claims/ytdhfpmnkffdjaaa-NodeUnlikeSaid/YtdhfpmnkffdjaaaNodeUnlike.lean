/-
  The walk of the law NodeUnlike.
-/
import Derived.Test.YtdhfpmnkffdjaaaNodeHeadW
import Derived.Test.YtdhfpmnkffdjaaaNodeDiff
import Derived.Test.YtdhfpmnkffdjaaaFldHead
import Derived.Deep.RegionHeld3
namespace Go.Proofs.Ytdhfpmnkffdjaaa.Node
open Go.RowKit RowLaw Crc Fld

theorem putE_yes {lv : Nat} {ps : List Nat} (h : okN lv ps = true) : putE lv ps = 0 := if_pos h
theorem putE_no {lv : Nat} {ps : List Nat} (h : okN lv ps = false) : putE lv ps = 2 := if_neg (by rw [h]; simp)

set_option maxRecDepth 100000 in
set_option maxHeartbeats 3200000 in
theorem unlike_no (la lb n : Nat) (ps qs : List Nat) (hp : ps.length = 32) (hq : qs.length = 32) (hno : okN la ps = false ∨ okN lb qs = false) (w : World) :
    Calls Try.prog 6 #[.agg (nodeCells la ps), .agg (nodeCells lb qs), .int .u8 (n : Int)] w fun e w' => e = .returned (.bool true) ∧ Below w.heap.size w w' := by
  have hzv := (zero_of_info infoBlock).1
  have hzn := (zero_of_info infoNode).1
  have hina := sizeNode la ps hp
  have hinb := sizeNode lb qs hq
  have hpa := fun W => Put_any la ps hp W
  have hpb := fun W => Put_any lb qs hq W
  have hg := fun (W : World) (op : BinOp) (x y : Operand) (xs ys : Array Value) => run_eqGuard_agg (P := Try.prog) W op 27 x y xs ys noGuard
  have hgn := fun (W : World) (op : BinOp) (x y : Operand) (xs ys : Array Value) => run_eqGuard_agg (P := Try.prog) W op 25 x y xs ys noGuardN
  have hXl := putB_length la ps hp
  have hYl := putB_length lb qs hq
  have hor : ((putE la ps != 0) || (putE lb qs != 0)) = true := by
    rcases hno with h | h
    · rw [putE_no h]; rfl
    · rw [putE_no h]; cases (putE la ps != 0) <;> rfl
  generalize putE la ps = Ea at hpa hor
  generalize putE lb qs = Eb at hpb hor
  generalize putB la ps = X at hpa hXl
  generalize putB lb qs = Y at hpb hYl
  have hiX := sizeBlock X hXl
  have hiY := sizeBlock Y hYl
  have hzX : (cellsOf zeros).size = (cellsOf X).size := by rw [cellsOf_size, cellsOf_size, hXl, zeros_length]
  have hzY : (cellsOf zeros).size = (cellsOf Y).size := by rw [cellsOf_size, cellsOf_size, hYl, zeros_length]
  have HPA := Lib.hid hpa
  have HPB := Lib.hid hpb
  clear hpa hpb hXl hYl hno hp hq
  have h2 := ((Kept.start w).alloc (.cells (nodeCells la ps) 25)).alloc (.cells (nodeCells lb qs) 25)
  rw [show (w.alloc (.cells (nodeCells la ps) 25)).heap.size = w.heap.size + 1 from by simp] at h2
  cases hEa : (Ea != 0) with
  | true =>
    have hEa2 : (Ea == 0) = false := by simpa using hEa
    clear hor
    go_enter Try.func6, Try.ntmps6
    go_wp2_with (refine wpList_load_row rfl 25 _ rfl w.heap.size rfl _ _ _ _ (h2.at_ (List.mem_cons_of_mem _ List.mem_cons_self)) Try.underlying25 rfl hina ?_)
    refine (HPA.out _).mono ?_
    rintro e W2 ⟨rfl, hx⟩
    have h3 := (h2.below hx).alloc (.cells (cellsOf X) 27)
    clear h2 hx
    have tok : True := trivial
    go_wp2_with (first
      | (have _t := tok; refine wpList_store_new rfl 27 _ _ rfl (cellsOf X) _ _ rfl rfl hiX hzX (cellsOf_one _) ?_; generalize W2.heap.size = q7 at h3 ⊢; generalize W2.alloc (.cells (cellsOf X) 27) = W3 at h3 ⊢; clear _t tok)
      | (refine wpList_load_row rfl 25 _ rfl (w.heap.size + 1) rfl _ _ _ _ (h3.at_ (List.mem_cons_of_mem _ List.mem_cons_self)) Try.underlying25 rfl hinb ?_))
    refine (HPB.out _).mono ?_
    rintro e W4 ⟨rfl, hx⟩
    have h4 := (h3.below hx).alloc (.cells (cellsOf Y) 27)
    clear h3 hx
    have tok : True := trivial
    go_wp2_with (first | (have _t := tok; refine wpList_store_new rfl 27 _ _ rfl (cellsOf Y) _ _ rfl rfl hiY hzY (cellsOf_one _) ?_; generalize W4.heap.size = q9 at h4 ⊢; generalize W4.alloc (.cells (cellsOf Y) 27) = W5 at h4 ⊢; clear _t tok) | (go_at_call 12; (with_reducible refine (head_any _).mono ?_); rintro e WH ⟨rfl, hx⟩))
    go_ret
    exact ⟨rfl, h4.bel.trans (hx.mono h4.bel.size)⟩
  | false =>
    have hEa2 : (Ea == 0) = true := by simpa using hEa
    have hEb : (Eb != 0) = true := by rw [hEa] at hor; simpa using hor
    have hEb2 : (Eb == 0) = false := by simpa using hEb
    clear hor
    go_enter Try.func6, Try.ntmps6
    go_wp2_with (refine wpList_load_row rfl 25 _ rfl w.heap.size rfl _ _ _ _ (h2.at_ (List.mem_cons_of_mem _ List.mem_cons_self)) Try.underlying25 rfl hina ?_)
    refine (HPA.out _).mono ?_
    rintro e W2 ⟨rfl, hx⟩
    have h3 := (h2.below hx).alloc (.cells (cellsOf X) 27)
    clear h2 hx
    have tok : True := trivial
    go_wp2_with (first
      | (have _t := tok; refine wpList_store_new rfl 27 _ _ rfl (cellsOf X) _ _ rfl rfl hiX hzX (cellsOf_one _) ?_; generalize W2.heap.size = q7 at h3 ⊢; generalize W2.alloc (.cells (cellsOf X) 27) = W3 at h3 ⊢; clear _t tok)
      | (refine wpList_load_row rfl 25 _ rfl (w.heap.size + 1) rfl _ _ _ _ (h3.at_ (List.mem_cons_of_mem _ List.mem_cons_self)) Try.underlying25 rfl hinb ?_))
    refine (HPB.out _).mono ?_
    rintro e W4 ⟨rfl, hx⟩
    have h4 := (h3.below hx).alloc (.cells (cellsOf Y) 27)
    clear h3 hx
    have tok : True := trivial
    go_wp2_with (first | (have _t := tok; refine wpList_store_new rfl 27 _ _ rfl (cellsOf Y) _ _ rfl rfl hiY hzY (cellsOf_one _) ?_; generalize W4.heap.size = q9 at h4 ⊢; generalize W4.alloc (.cells (cellsOf Y) 27) = W5 at h4 ⊢; clear _t tok) | (go_at_call 12; (with_reducible refine (head_any _).mono ?_); rintro e WH ⟨rfl, hx⟩))
    go_ret
    exact ⟨rfl, h4.bel.trans (hx.mono h4.bel.size)⟩

set_option maxRecDepth 100000 in
set_option maxHeartbeats 6400000 in
theorem unlike_yes (la lb n : Nat) (hn : n < 256) (ps qs : List Nat) (hp : ps.length = 32) (hq : qs.length = 32) (hoa : okN la ps = true) (hob : okN lb qs = true) (w : World) :
    Calls Try.prog 6 #[.agg (nodeCells la ps), .agg (nodeCells lb qs), .int .u8 (n : Int)] w fun e w' => e = .returned (.bool true) ∧ Below w.heap.size w w' := by
  have hzv := (zero_of_info infoBlock).1
  have hzn := (zero_of_info infoNode).1
  have hina := sizeNode la ps hp
  have hinb := sizeNode lb qs hq
  have hpa := fun W => Put_any la ps hp W
  have hpb := fun W => Put_any lb qs hq W
  have hg := fun (W : World) (op : BinOp) (x y : Operand) (xs ys : Array Value) => run_eqGuard_agg (P := Try.prog) W op 27 x y xs ys noGuard
  have hgn := fun (W : World) (op : BinOp) (x y : Operand) (xs ys : Array Value) => run_eqGuard_agg (P := Try.prog) W op 25 x y xs ys noGuardN
  have hXl := putB_length la ps hp
  have hYl := putB_length lb qs hq
  have hXd : putB la ps = fdone (nodeTo la ps 32) 78 := if_pos hoa
  have hd : decide (putB la ps = putB lb qs) = decide (la = lb ∧ ps = qs) := decide_eq_decide.2 ⟨fun h => putB_inj hp hq hoa hob h, fun h => by rw [h.1, h.2]⟩
  obtain ⟨k, hk⟩ : ∃ k, k = n % 32 := ⟨_, rfl⟩
  have hk32 : k < 32 := by omega
  have hkq : k < qs.length := by omega
  have hoc := okN_set hoa hob k hkq
  have hcl : (ps.set k qs[k]).length = 32 := by rw [List.length_set, hp]
  have hpc := fun W => Put_any la (ps.set k qs[k]) hcl W
  have hZl := putB_length la (ps.set k qs[k]) hcl
  have hZd : putB la (ps.set k qs[k]) = fdone (nodeTo la (ps.set k qs[k]) 32) 78 := if_pos hoc
  rw [putE_yes hoa] at hpa
  rw [putE_yes hob] at hpb
  rw [putE_yes hoc] at hpc
  have hinc := sizeNode la (ps.set k qs[k]) hcl
  have hdiff : ∀ i, i < 252 → (putB la ps)[i]? = (putB la (ps.set k qs[k]))[i]? ∨ (2 + 4 * k ≤ i ∧ i < 6 + 4 * k) := fun i hi => by
    rw [hXd, hZd]
    by_cases ho : i < 2 + 4 * k ∨ 6 + 4 * k ≤ i
    · exact .inl (diff_out la ps hp k qs[k] i hi ho)
    · exact .inr (by omega)
  have hkids := fun W => Kids_any la ps hp W
  clear hXd hZd hoa hob hoc hcl
  have heq := fun W : World => run_eqBlock W (putB la ps) (putB lb qs) hXl hYl
  have heqn := fun W : World => run_eqNode W la lb ps qs hp hq
  rw [hd] at heq
  generalize decide (la = lb ∧ ps = qs) = d at heq heqn
  clear hd
  generalize putB la ps = X at hpa hXl heq hdiff
  generalize putB lb qs = Y at hpb hYl heq
  obtain ⟨v, hv⟩ : ∃ v, v = qs[k] := ⟨_, rfl⟩
  rw [← hv] at hpc hZl hinc hdiff
  generalize putB la (ps.set k v) = Z at hpc hZl hdiff
  have hiX := sizeBlock X hXl
  have hiY := sizeBlock Y hYl
  have hiZ := sizeBlock Z hZl
  have hzX : (cellsOf zeros).size = (cellsOf X).size := by rw [cellsOf_size, cellsOf_size, hXl, zeros_length]
  have hzY : (cellsOf zeros).size = (cellsOf Y).size := by rw [cellsOf_size, cellsOf_size, hYl, zeros_length]
  have hzZ : (cellsOf zeros).size = (cellsOf Z).size := by rw [cellsOf_size, cellsOf_size, hZl, zeros_length]
  have hszn : (nodeCells 0 zeros32).size = (nodeCells la ps).size := by rw [nodeCells_size, nodeCells_size, hp, zeros32_length]
  have HPA := Lib.hid hpa
  have HPB := Lib.hid hpb
  have HPC := Lib.hid hpc
  have HKD := Lib.hid hkids
  have HDF := Lib.hid hdiff
  have HP := Lib.hid hp
  have HQ := Lib.hid hq
  have HXL := Lib.hid hXl
  have HZL := Lib.hid hZl
  have HV := Lib.hid hv
  have hrem : (n : Int) % 32 = (k : Int) := by omega
  have hrem2 : Int.tmod (n : Int) 32 = (k : Int) := by rw [Int.tmod_eq_emod_of_nonneg (by omega)]; exact hrem
  have zn : IntKind.i64.wrap (n : Int) = (n : Int) := IntWalk.i64_in _ (by omega)
  clear hpa hpb hpc hkids hdiff hXl hYl hZl hp hq hv hk
  have h2 := ((Kept.start w).alloc (.cells (nodeCells la ps) 25)).alloc (.cells (nodeCells lb qs) 25)
  rw [show (w.alloc (.cells (nodeCells la ps) 25)).heap.size = w.heap.size + 1 from by simp] at h2
  go_enter Try.func6, Try.ntmps6
  go_wp2_with (refine wpList_load_row rfl 25 _ rfl w.heap.size rfl _ _ _ _ (h2.at_ (List.mem_cons_of_mem _ List.mem_cons_self)) Try.underlying25 rfl hina ?_)
  refine (HPA.out _).mono ?_
  rintro e W2 ⟨rfl, hx⟩
  have h3 := (h2.below hx).alloc (.cells (cellsOf X) 27)
  clear h2 hx
  have tok : True := trivial
  go_wp2_with (first
    | (have _t := tok; refine wpList_store_new rfl 27 _ _ rfl (cellsOf X) _ _ rfl rfl hiX hzX (cellsOf_one _) ?_; generalize W2.heap.size = q7 at h3 ⊢; generalize W2.alloc (.cells (cellsOf X) 27) = W3 at h3 ⊢; clear _t tok)
    | (refine wpList_load_row rfl 25 _ rfl (w.heap.size + 1) rfl _ _ _ _ (h3.at_ (List.mem_cons_of_mem _ List.mem_cons_self)) Try.underlying25 rfl hinb ?_))
  refine (HPB.out _).mono ?_
  rintro e W4 ⟨rfl, hx⟩
  have h4 := (h3.below hx).alloc (.cells (cellsOf Y) 27)
  clear h3 hx
  have tok : True := trivial
  go_wp2_with (have _t := tok; refine wpList_store_new rfl 27 _ _ rfl (cellsOf Y) _ _ rfl rfl hiY hzY (cellsOf_one _) ?_; generalize W4.heap.size = q9 at h4 ⊢; generalize W4.alloc (.cells (cellsOf Y) 27) = W5 at h4 ⊢; clear _t tok)
  generalize w.heap.size + 1 = q4 at h4 ⊢
  generalize w.heap.size = q3 at h4 ⊢
  refine wp_region_noPanic ?_
  refine wp_region_held_drew (S := fun W => Kept w [(q9, .cells (cellsOf Y) 27), (q7, .cells (cellsOf X) 27), (q4, .cells (nodeCells lb qs) 25), (q3, .cells (nodeCells la ps) 25)] W) (by kernel_rfl) h4.drew ?_
  intro hS
  clear h4
  refine wpAnyH_take (i := 0) (v := .agg (cellsOf X)) rfl (by kernel_rfl) (by kernel_rfl) (by kernel_rfl) (fun _ _ _ h => (h : False).elim) (yieldsIf_load_row (by rfl) 27 _ rfl q7 rfl _ _ _ _ (fun W hW => hW.at_ (List.mem_cons_of_mem _ List.mem_cons_self)) Try.underlying27 rfl hiX) hS ?_
  change wpAnyH _ _ _ _ _ _ _ (Act.put _ (some 35) _) _
  simp only [Act.put, List.setIfInBounds_toArray, List.set_cons_succ, List.set_cons_zero]
  refine wpAnyH_take (i := 1) (v := .agg (cellsOf Y)) rfl (by kernel_rfl) (by kernel_rfl) (by kernel_rfl) (fun _ _ _ h => (h : False).elim) (yieldsIf_load_row (by rfl) 27 _ rfl q9 rfl _ _ _ _ (fun W hW => hW.at_ List.mem_cons_self) Try.underlying27 rfl hiY) hS ?_
  change wpAnyH _ _ _ _ _ _ _ (Act.put _ (some 36) _) _
  simp only [Act.put, List.setIfInBounds_toArray, List.set_cons_succ, List.set_cons_zero]
  refine wpAnyH_take (i := 2) (v := .bool d) rfl (by kernel_rfl) (by kernel_rfl) (by kernel_rfl) (fun _ _ _ h => (h : False).elim) (Or.inl ⟨by rfl, fun _ _ => by go_simp⟩) hS ?_
  change wpAnyH _ _ _ _ _ _ _ (Act.put _ (some 37) _) _
  simp only [Act.put, List.setIfInBounds_toArray, List.set_cons_succ, List.set_cons_zero]
  refine wpAnyH_take (i := 3) (v := .agg (nodeCells la ps)) rfl (by kernel_rfl) (by kernel_rfl) (by kernel_rfl) (fun _ _ _ h => (h : False).elim) (yieldsIf_load_row (by rfl) 25 _ rfl q3 rfl _ _ _ _ (fun W hW => hW.at_ (List.mem_cons_of_mem _ (List.mem_cons_of_mem _ (List.mem_cons_of_mem _ List.mem_cons_self)))) Try.underlying25 rfl hina) hS ?_
  change wpAnyH _ _ _ _ _ _ _ (Act.put _ (some 38) _) _
  simp only [Act.put, List.setIfInBounds_toArray, List.set_cons_succ, List.set_cons_zero]
  refine wpAnyH_take (i := 4) (v := .agg (nodeCells lb qs)) rfl (by kernel_rfl) (by kernel_rfl) (by kernel_rfl) (fun _ _ _ h => (h : False).elim) (yieldsIf_load_row (by rfl) 25 _ rfl q4 rfl _ _ _ _ (fun W hW => hW.at_ (List.mem_cons_of_mem _ (List.mem_cons_of_mem _ List.mem_cons_self))) Try.underlying25 rfl hinb) hS ?_
  change wpAnyH _ _ _ _ _ _ _ (Act.put _ (some 39) _) _
  simp only [Act.put, List.setIfInBounds_toArray, List.set_cons_succ, List.set_cons_zero]
  refine wpAnyH_take (i := 5) (v := .bool d) rfl (by kernel_rfl) (by kernel_rfl) (by kernel_rfl) (fun _ _ _ h => (h : False).elim) (Or.inl ⟨by rfl, fun _ _ => by go_simp⟩) hS ?_
  change wpAnyH _ _ _ _ _ _ _ (Act.put _ (some 40) _) _
  simp only [Act.put, List.setIfInBounds_toArray, List.set_cons_succ, List.set_cons_zero]
  refine wpAnyH_take (i := 6) (v := .bool false) rfl (by kernel_rfl) (by kernel_rfl) (by kernel_rfl) (fun _ _ _ h => (h : False).elim) (Or.inl ⟨by rfl, fun _ _ => by go_simp⟩) hS ?_
  change wpAnyH _ _ _ _ _ _ _ (Act.put _ (some 41) _) _
  simp only [Act.put, List.setIfInBounds_toArray, List.set_cons_succ, List.set_cons_zero]
  refine wpAnyH_done (by kernel_rfl) ?_ _
  refine NoPanic.normal ?_
  have h5 := hS
  clear hS heq heqn
  generalize W5.drew = W6 at h5 ⊢
  have h6 := h5.alloc (.cells (nodeCells la ps) 25)
  have hne := h5.notin
  have c4 : W6.cell? ⟨q4, 1 + k, none⟩ = some (.int .u32 (v : Int)) := by
    rw [HV.out]
    exact IsNode.ptr (h5.at_ (List.mem_cons_of_mem _ (List.mem_cons_of_mem _ List.mem_cons_self))) k hkq
  have c4' := (((Below.refl W6.heap.size W6).alloc (Nat.le_refl _) (.cells (nodeCells la ps) 25)).cell (p := ⟨q4, 1 + k, none⟩) (h5.lt_ (List.mem_cons_of_mem _ (List.mem_cons_of_mem _ List.mem_cons_self)))).trans c4
  clear c4
  have ik : (k : Int) < 32 := by omega
  have ik0 : (0 : Int) ≤ (k : Int) := by omega
  have tok : True := trivial
  go_wp2_with (first
    | (have _t := tok; refine wpList_store_new rfl 25 _ _ rfl (nodeCells la ps) _ _ rfl rfl hina hszn (nodeCells_one _ _) ?_; generalize W6.heap.size = q11 at h6 hne c4' ⊢; generalize W6.alloc (.cells (nodeCells la ps) 25) = W7 at h6 c4' ⊢; clear _t tok; obtain ⟨v0, c11⟩ : ∃ v0, W7.cell? ⟨q11, 1 + k, none⟩ = some v0 := ⟨_, IsNode.ptr (h6.at_ List.mem_cons_self) k (by have := HP.out; omega)⟩; have f11 := frozen_of_row W7 q11 (1 + k) _ _ (h6.at_ List.mem_cons_self); have h7 := h6.setCell (j := 1 + k) (v := .int .u32 (v : Int)) hne; rw [nodeCells_set] at h7; clear h6 hne h5)
    | (refine wpList_load_row rfl 25 _ rfl q3 rfl _ _ _ _ (h5.at_ (List.mem_cons_of_mem _ (List.mem_cons_of_mem _ (List.mem_cons_of_mem _ List.mem_cons_self)))) Try.underlying25 rfl hina ?_)
    | (refine wpList_load_row rfl 25 _ rfl q11 rfl _ _ _ _ (h7.at_ List.mem_cons_self) Try.underlying25 rfl hinc ?_; generalize W7.setCell ⟨q11, 1 + k, none⟩ (.int .u32 (v : Int)) = W8 at h7 ⊢; clear c11 f11 c4'))
  refine (HPC.out _).mono ?_
  rintro e W9 ⟨rfl, hx⟩
  have h8 := (h7.below hx).alloc (.cells (cellsOf Z) 27)
  clear h7 hx
  have tok : True := trivial
  go_wp2_with (have _t := tok; refine wpList_store_new rfl 27 _ _ rfl (cellsOf Z) _ _ rfl rfl hiZ hzZ (cellsOf_one _) ?_; generalize W9.heap.size = q13 at h8 ⊢; generalize W9.alloc (.cells (cellsOf Z) 27) = WA at h8 ⊢; clear _t tok)
  have h9 := h8.less (K' := [(q13, .cells (cellsOf Z) 27), (q7, .cells (cellsOf X) 27), (q3, .cells (nodeCells la ps) 25)]) (by simp)
  clear h8
  go_loopw [15] (fun x wr => ∃ i : Nat, i ≤ 252 ∧ x = .int .i64 i ∧ Kept w [(q13, .cells (cellsOf Z) 27), (q7, .cells (cellsOf X) 27), (q3, .cells (nodeCells la ps) 25)] wr) (fun x _ => 252 - (intOf x).toNat)
  case atStart => exact ⟨0, by omega, rfl, h9⟩
  case round =>
    obtain ⟨i, hi, rfl, h⟩ := hrel
    clear h9
    by_cases hlt : i < 252
    · have hdf := HDF.out i hlt
      have hxl := HXL.out
      have hzl := HZL.out
      have cX : wr.cell? ⟨q7, i, none⟩ = some (.int .u8 ((X[i]'(by omega)).toNat : Int)) := (cell_of_row wr q7 i _ _ _ (h.at_ (List.mem_cons_of_mem _ List.mem_cons_self))).trans (cellsOf_get X i (by omega))
      have cZ : wr.cell? ⟨q13, i, none⟩ = some (.int .u8 ((Z[i]'(by omega)).toNat : Int)) := (cell_of_row wr q13 i _ _ _ (h.at_ List.mem_cons_self)).trans (cellsOf_get Z i (by omega))
      rw [List.getElem?_eq_getElem (by omega : i < X.length), List.getElem?_eq_getElem (by omega : i < Z.length)] at hdf
      generalize (X[i]'(by omega)) = bx at cX hdf
      generalize (Z[i]'(by omega)) = bz at cZ hdf
      clear hxl hzl
      have i1 : (i : Int) < 256 := by omega
      have i2 : (0 : Int) ≤ (i : Int) := by omega
      have i3 : (i : Int) < 252 := by omega
      by_cases hbz : bx = bz
      · have q1 : ((bx.toNat : Int) != (bz.toNat : Int)) = false := by rw [hbz]; simp
        have q2 : ((bx.toNat : Int) == (bz.toNat : Int)) = true := by rw [hbz]; simp
        clear hdf hbz
        go_wp2
        go_quiet (fail)
        go_wp2
        go_roundw
        case rel => exact ⟨i + 1, by omega, by go_num, h.drewN _⟩
        case measure => simp [intOf]; omega
      · have hr : 2 + 4 * k ≤ i ∧ i < 6 + 4 * k := by
          rcases hdf with h1 | h1
          · exact absurd (Option.some.inj h1) hbz
          · exact h1
        have hne2 : bx.toNat ≠ bz.toNat := fun e => hbz (UInt8.toNat_inj.1 e)
        have q1 : ((bx.toNat : Int) != (bz.toNat : Int)) = true := by simp; omega
        have q2 : ((bx.toNat : Int) == (bz.toNat : Int)) = false := by simp; omega
        have z4 : IntKind.i64.wrap (4 * (k : Int)) = 4 * (k : Int) := IntWalk.i64_in _ (by omega)
        have z2 : IntKind.i64.wrap (2 + 4 * (k : Int)) = 2 + 4 * (k : Int) := IntWalk.i64_in _ (by omega)
        have z6 : IntKind.i64.wrap (6 + 4 * (k : Int)) = 6 + 4 * (k : Int) := IntWalk.i64_in _ (by omega)
        have d1 : decide ((i : Int) < 2 + 4 * (k : Int)) = false := decide_eq_false (by omega)
        have d2 : decide (6 + 4 * (k : Int) ≤ (i : Int)) = false := decide_eq_false (by omega)
        have e1 : ¬ (i : Int) < 2 + 4 * (k : Int) := by omega
        have e2 : ¬ 6 + 4 * (k : Int) ≤ (i : Int) := by omega
        clear hdf hbz hr hne2
        go_wp2
        go_quiet (fail)
        clear z4 z2 z6 d1 d2 q1 q2
        go_wp2
        go_roundw
        case rel => exact ⟨i + 1, by omega, by go_num, h.drewN _⟩
        case measure => simp [intOf]; omega
    · obtain rfl : i = 252 := by omega
      go_wp2
      go_loop [16, 17] (fun c x => ∃ j : Nat, j ≤ 32 ∧ x = .int .i64 j ∧ c = .int .i64 ((kidsOf (ps.take j)).length : Int)) (fun _ x => 32 - (intOf x).toNat)
      case atStart => exact ⟨0, by omega, rfl, rfl⟩
      case round =>
        obtain ⟨j, hj, rfl, rfl⟩ := hrel
        by_cases hlt2 : j < 32
        · have hjl : j < ps.length := by have := HP.out; omega
          have cp := IsNode.ptr (h.at_ (List.mem_cons_of_mem _ (List.mem_cons_of_mem _ List.mem_cons_self))) j hjl
          have hnext := kids_take ps j hjl
          have hle := kids_le (ps.take j)
          rw [List.length_take] at hle
          have hle2 : (kidsOf (ps.take j)).length ≤ 32 := by omega
          clear hle
          generalize kidsOf (ps.take j) = xs at hnext hle2 ⊢
          obtain ⟨x, hx⟩ : ∃ x, x = ps[j] := ⟨_, rfl⟩
          rw [← hx] at cp hnext
          clear hx
          obtain ⟨c, hc⟩ : ∃ c, c = xs.length := ⟨_, rfl⟩
          rw [← hc] at hle2 ⊢
          by_cases h0 : x = 0
          · have d1 : ((x : Int) != 0) = false := by rw [h0]; rfl
            have d2 : ((x : Int) == 0) = true := by rw [h0]; rfl
            rw [if_pos h0] at hnext
            have HNX := Lib.hid hnext
            have HC := Lib.hid hc
            clear h0 hnext hc
            go_wp2
            go_round
            case rel => exact ⟨j + 1, by omega, by go_num, by rw [HNX.out, ← HC.out]⟩
            case measure => simp [intOf]; omega
          · have d1 : ((x : Int) != 0) = true := by simp; omega
            have d2 : ((x : Int) == 0) = false := by simp; omega
            rw [if_neg h0] at hnext
            have HNX := Lib.hid hnext
            have HC := Lib.hid hc
            clear h0 hnext hc
            go_wp2
            go_round
            case rel => exact ⟨j + 1, by omega, by go_num, by rw [HNX.out, List.length_append, ← HC.out]; go_num⟩
            case measure => simp [intOf]; omega
        · obtain rfl : j = 32 := by omega
          have hall : ps.take 32 = ps := List.take_of_length_le (by have := HP.out; omega)
          rw [hall]
          have hle := kids_le ps
          have hp32 := HP.out
          have hle2 : (kidsOf ps).length ≤ 32 := by omega
          clear hall hle hp32
          go_wp2_with (refine wpList_load_row rfl 25 _ rfl q3 rfl _ _ _ _ (h.at_ (List.mem_cons_of_mem _ (List.mem_cons_of_mem _ List.mem_cons_self))) Try.underlying25 rfl hina ?_)
          refine (HKD.out _).mono ?_
          rintro e WB ⟨rv, rfl, ho, hx⟩
          have hb := h.bel.trans (hx.mono h.bel.size)
          obtain ⟨pa, cap, rfl, _⟩ := ho.row
          clear h hx ho
          generalize (kidsOf ps).length = c at hle2 ⊢
          go_wp2_with (go_at_call 12; (with_reducible refine (head_any _).mono ?_); rintro e WH ⟨rfl, hx⟩)
          go_ret
          exact ⟨rfl, hb.trans (hx.mono hb.size)⟩

theorem unlike_any (la lb n : Nat) (hn : n < 256) (ps qs : List Nat) (hp : ps.length = 32) (hq : qs.length = 32) (w : World) :
    Calls Try.prog 6 #[.agg (nodeCells la ps), .agg (nodeCells lb qs), .int .u8 (n : Int)] w fun e w' => e = .returned (.bool true) ∧ Below w.heap.size w w' := by
  cases ha : okN la ps with
  | false => exact unlike_no la lb n ps qs hp hq (.inl ha) w
  | true =>
    cases hb : okN lb qs with
    | false => exact unlike_no la lb n ps qs hp hq (.inr hb) w
    | true => exact unlike_yes la lb n hn ps qs hp hq ha hb w

end Go.Proofs.Ytdhfpmnkffdjaaa.Node
