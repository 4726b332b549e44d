/-
  The walk of the law's head (layer 8).
-/
import Derived.Test.YtdadcengelfmhaaRotHeadM
import Derived.Test.YtdadcengelfmhaaSlt5
import Derived.Test.YtdadcengelfmhaaKit1
namespace Go.Proofs.Ytdadcengelfmhaa.Rot
open Go.RowKit RowLaw Crc
set_option maxRecDepth 100000
open Go.Proofs.Ytdadcengelfmhaa.Fld (blockO)
open Go.Proofs.Ytdadcengelfmhaa.Slt (Rt cells rootO rtB rtB_length infoR sizeR cells_one IsRt eqB eqB_iff run_eqRoot noGuardR)
open Go.Proofs.Ytdadcengelfmhaa.Dev (Dev DS ptr Many Live newS putCells putCells_length putCells_one infoPut sizePut size_of_putCells readB New_more run_buildPut)

set_option linter.unusedSimpArgs false in
set_option maxHeartbeats 12800000 in
theorem head_any (w : World) : Calls Try.prog 5 #[] w fun e w' => e = .returned (.bool true) ∧ Below w.heap.size w w' := by
  have hzp := (zero_of_info infoPlan).1
  have hzr := (zero_of_info infoR).1
  have hzb := (zero_of_info infoBlock).1
  obtain ⟨k, sC, hF, hC, hM, hR, hn, hp, hB1, hB2⟩ := head_math
  have HF := Lib.hid hF
  have HC := Lib.hid hC
  have HM := Lib.hid hM
  have HR := Lib.hid hR
  have HN := Lib.hid hn
  have HP := Lib.hid hp
  have HB1 := Lib.hid hB1
  have HB2 := Lib.hid hB2
  clear hF hC hM hR hn hp hB1 hB2
  have hk := Kept.start w
  go_enter Try.func5, Try.ntmps5
  go_wp2_with fail
  refine (L64 _).mono ?_
  rintro e W1 ⟨rfl, hx⟩
  replace hk := (hk.below hx).alloc (planO 1 1 6)
  clear hx
  have tok : True := trivial
  go_upto_region 2 with (first | (have _t := tok; refine wpList_store_new rfl 51 _ _ rfl (planCells 1 1 6) _ _ rfl rfl (sizePlan 1 1 6) rfl (planCells_one 1 1 6) ?_; change wpList _ _ _ _ _ (W1.alloc (planO 1 1 6)); clear _t tok))
  change Code.wp _ _ _ _ (W1.alloc (planO 1 1 6))
  generalize W1.heap.size = p1 at hk ⊢
  generalize W1.alloc (planO 1 1 6) = V1 at hk ⊢
  go_wp2_with fail
  refine (L65 _).mono ?_
  rintro e W2 ⟨rfl, hx⟩
  replace hk := (hk.below hx).alloc (planO 2 1 8)
  clear hx
  have tok : True := trivial
  go_upto_region 3 with (first | (have _t := tok; refine wpList_store_new rfl 51 _ _ rfl (planCells 2 1 8) _ _ rfl rfl (sizePlan 2 1 8) rfl (planCells_one 2 1 8) ?_; change wpList _ _ _ _ _ (W2.alloc (planO 2 1 8)); clear _t tok))
  change Code.wp _ _ _ _ (W2.alloc (planO 2 1 8))
  generalize W2.heap.size = p2 at hk ⊢
  generalize W2.alloc (planO 2 1 8) = V2 at hk ⊢
  go_wp2_with fail
  refine (LBig _).mono ?_
  rintro e W3 ⟨rfl, hx⟩
  replace hk := (hk.below hx).alloc (planO 16384 16 32802)
  clear hx
  have tok : True := trivial
  go_upto_region 4 with (first | (have _t := tok; refine wpList_store_new rfl 51 _ _ rfl (planCells 16384 16 32802) _ _ rfl rfl (sizePlan 16384 16 32802) rfl (planCells_one 16384 16 32802) ?_; change wpList _ _ _ _ _ (W3.alloc (planO 16384 16 32802)); clear _t tok))
  change Code.wp _ _ _ _ (W3.alloc (planO 16384 16 32802))
  generalize W3.heap.size = p3 at hk ⊢
  generalize W3.alloc (planO 16384 16 32802) = V3 at hk ⊢
  go_wp2_with fail
  refine (L63 _).mono ?_
  rintro e W4 ⟨rfl, hx⟩
  replace hk := (hk.below hx).alloc (planO 0 0 0)
  clear hx
  have tok : True := trivial
  go_upto_region 5 with (first | (have _t := tok; refine wpList_store_new rfl 51 _ _ rfl (planCells 0 0 0) _ _ rfl rfl (sizePlan 0 0 0) rfl (planCells_one 0 0 0) ?_; change wpList _ _ _ _ _ (W4.alloc (planO 0 0 0)); clear _t tok))
  change Code.wp _ _ _ _ (W4.alloc (planO 0 0 0))
  generalize W4.heap.size = p4 at hk ⊢
  generalize W4.alloc (planO 0 0 0) = V4 at hk ⊢
  go_wp2_with fail
  refine (New_more V4 hk.bel (fun x hx => ⟨hk.at_ (q := x.1) (o := x.2) hx, hk.lt_ (q := x.1) (o := x.2) hx⟩) 64 (by omega) (by omega)).mono ?_
  rintro e W5 ⟨p, rfl, hlive⟩
  have hm := Many.of_live_more hlive
  clear hlive hk
  unfold ptr
  go_upto_region 8 with fail
  go_wp2_with fail
  refine (Rot.Many.mount hm (i := 0) rfl (by decide) (by decide) mount_new).mono ?_
  rintro e W6 ⟨rfl, hx⟩
  replace hm := hx.alloc (rootO Slt.nil)
  clear hx
  have tok : True := trivial
  go_upto_region 9 with (first | (have _t := tok; refine wpList_store_new rfl 25 _ _ rfl (cells Slt.nil) _ _ rfl rfl (sizeR Slt.nil) rfl (cells_one Slt.nil) ?_; change wpList _ _ _ _ _ (W6.alloc (rootO Slt.nil)); clear _t tok))
  change Code.wp _ _ _ _ (W6.alloc (rootO Slt.nil))
  generalize W6.heap.size = q11 at hm ⊢
  generalize W6.alloc (rootO Slt.nil) = V6 at hm ⊢
  go_wp2_with fail
  refine (Rot.Many.format hm (i := 0) rfl (by decide) (by decide) HF.out).mono ?_
  rintro e W7 ⟨rfl, hx⟩
  replace hm := hx.alloc (rootO (fresh 64))
  clear hx
  have tok : True := trivial
  go_upto_region 10 with (first | (have _t := tok; refine wpList_store_new rfl 25 _ _ rfl (cells (fresh 64)) _ _ rfl rfl (sizeR _) rfl (cells_one _) ?_; change wpList _ _ _ _ _ (W7.alloc (rootO (fresh 64))); clear _t tok))
  change Code.wp _ _ _ _ (W7.alloc (rootO (fresh 64)))
  generalize W7.heap.size = q13 at hm ⊢
  generalize W7.alloc (rootO (fresh 64)) = V7 at hm ⊢
  go_wp2_with fail
  refine (Rot.Many.mount hm (i := 0) rfl (show planOk 64 = true by decide) (show 0 < 4294967296 by omega) (mount_s64 k)).mono ?_
  rintro e W8 ⟨rfl, hx⟩
  replace hm := hx.alloc (rootO (fresh 64))
  clear hx
  have tok : True := trivial
  go_upto_region 11 with (first | (have _t := tok; refine wpList_store_new rfl 25 _ _ rfl (cells (fresh 64)) _ _ rfl rfl (sizeR _) rfl (cells_one _) ?_; change wpList _ _ _ _ _ (W8.alloc (rootO (fresh 64))); clear _t tok))
  change Code.wp _ _ _ _ (W8.alloc (rootO (fresh 64)))
  generalize W8.heap.size = q15 at hm ⊢
  generalize W8.alloc (rootO (fresh 64)) = V8 at hm ⊢
  have hkd := hm.drewM
  go_wp2_with fail
  refine wp_region_noPanic ?_
  refine wp_region_held_drew (S := fun W => Below V8.drew.heap.size V8.drew W) (by kernel_rfl) (Below.refl _ _) ?_
  intro hS
  clear hm
  generalize V8.drew = V at hS hkd ⊢
  have hSq : ∀ W, Below V.heap.size V W → W.heap[q13]? = some (.cells (cells (fresh 64)) 25 (0, 0)) := fun W h => (hkd.below h).at_ (q := q13) (o := rootO (fresh 64)) (by simp)
  refine wpAnyH_take (i := 0) (v := .agg (cells (fresh 64))) rfl (by kernel_rfl) (by kernel_rfl) (by kernel_rfl) (fun _ _ _ h => (h : False).elim) (yieldsIf_load_row (by rfl) 25 _ rfl q13 rfl _ _ _ _ hSq Try.underlying25 rfl (sizeR _)) hS ?_
  change wpAnyH _ _ _ _ _ _ _ (Act.put _ (some 70) _) _
  simp only [Act.put, List.setIfInBounds_toArray, List.set_cons_succ, List.set_cons_zero]
  refine wpAnyH_take (i := 1) (v := .agg (cells (fresh 64))) rfl (by kernel_rfl) (by kernel_rfl) (by kernel_rfl) (fun _ _ _ h => (h : False).elim) (yieldsIf_load_row (by rfl) 25 _ rfl q13 rfl _ _ _ _ hSq Try.underlying25 rfl (sizeR _)) hS ?_
  change wpAnyH _ _ _ _ _ _ _ (Act.put _ (some 71) _) _
  simp only [Act.put, List.setIfInBounds_toArray, List.set_cons_succ, List.set_cons_zero]
  refine wpAnyH_growS V [(2, 17), (3, 18)] [] (Slt.hfact V.heap.size) 2 186 rfl (by kernel_rfl) rfl (by decide) (Slt.hfact_stays _) (Slt.hfact_lt _) (fun _ h => h) hS ?_ ?_
  · intro i d hid a' W K hbel hold hdep hK
    have hgo : K (a'.put (some d) (.pointer (some ⟨W.heap.size, 0, none⟩))) (W.alloc (.cells (cells Slt.nil) 25)) := hK _ _ ((Below.refl _ _).alloc (Nat.le_refl _) _) ⟨W.heap.size, rfl, hbel.size, heap_alloc_new W _⟩ (fun b hb => by cases hb; exact Nat.le_refl _)
    simp only [List.mem_cons, Prod.mk.injEq, List.not_mem_nil, or_false] at hid
    rcases hid with ⟨rfl, rfl⟩ | ⟨rfl, rfl⟩
    all_goals exact wpOp_alloc _ rfl rfl 25 rfl (cells Slt.nil) hzr hgo
  intro f W hall hG
  obtain ⟨v4, h4⟩ := hall 2 17 (by simp)
  obtain ⟨v5, h5⟩ := hall 3 18 (by simp)
  obtain ⟨q17, rfl, g4, k4⟩ := hG.has 2 v4 h4
  obtain ⟨q18, rfl, g5, k5⟩ := hG.has 3 v5 h5
  have n45 : q18 ≠ q17 := fun e => hG.sep 2 3 _ _ (by decide) h4 h5 q17 rfl (by rw [e]; rfl)
  have hbel := hG.bel
  simp only [putsF, setB, isF, h4, h5, Option.isSome_some, if_true]
  simp only [Act.put, List.setIfInBounds_toArray, List.set_cons_succ, List.set_cons_zero]
  clear hall hG h4 h5 hS hSq
  have hlt : ∀ x ∈ [(q15, rootO (fresh 64)), (q13, rootO (fresh 64)), (q11, rootO Slt.nil), (p4, planO 0 0 0), (p3, planO 16384 16 32802), (p2, planO 2 1 8), (p1, planO 1 1 6)], x.1 < V.heap.size := fun x hx => hkd.lt_ (q := x.1) (o := x.2) hx
  have hwV := hkd.bel.size
  have hm := hkd.two hbel g4 g5 k4 k5
  clear hkd
  generalize hKK : [(q15, rootO (fresh 64)), (q13, rootO (fresh 64)), (q11, rootO Slt.nil), (p4, planO 0 0 0), (p3, planO 16384 16 32802), (p2, planO 2 1 8), (p1, planO 1 1 6)] = KK at hm hlt
  have ne17 : ∀ o, ∀ x ∈ (q18, o) :: KK, x.1 ≠ q17 := fun o x hx => by
    rcases List.mem_cons.1 hx with rfl | hx
    · exact n45
    · have := hlt x hx; omega
  have ne18 : ∀ o, ∀ x ∈ (q17, o) :: KK, x.1 ≠ q18 := fun o x hx => by
    rcases List.mem_cons.1 hx with rfl | hx
    · exact n45.symm
    · have := hlt x hx; omega
  refine wpAnyH_ready (rs := [4]) (by kernel_rfl) (by simp) ?_
  refine AllReadyH.cons rfl (fun K hK => ?_) AllReadyH.nil
  rw [if_pos (by rfl)]
  refine wp_store_row 25 _ _ rfl q17 (cells (fresh 64)) rfl rfl _ _ k4 (sizeR _) rfl (cells_one _) ?_
  replace hm := Many.setRow (cs' := cells (fresh 64)) hm (by omega) (ne17 _)
  replace hbel := below_row (cs := cells (fresh 64)) hbel g4
  have k5' := (setRow_other W q17 q18 (cells (fresh 64)) n45).trans k5
  generalize World.setRow _ q17 (cells (fresh 64)) = S0 at hm hbel k5' ⊢
  refine hK.out _ _ hbel (fun _ => ?_)
  clear hK K
  refine wpAnyH_ready (rs := [5]) (by kernel_rfl) (by simp) ?_
  refine AllReadyH.cons rfl (fun K hK => ?_) AllReadyH.nil
  rw [if_pos (by rfl)]
  refine wp_store_row 25 _ _ rfl q18 (cells (fresh 64)) rfl rfl _ _ k5' (sizeR _) rfl (cells_one _) ?_
  replace hm := Many.setRow (cs' := cells (fresh 64)) hm.swap (by omega) (ne18 _)
  replace hbel := below_row (cs := cells (fresh 64)) hbel g5
  generalize World.setRow _ q18 (cells (fresh 64)) = S1 at hm hbel ⊢
  refine hK.out _ _ hbel (fun _ => ?_)
  clear hK K hbel k4 k5 k5'
  refine wpAnyH_done (by kernel_rfl) ?_ _
  refine NoPanic.normal ?_
  have w17 : w.heap.size ≤ q17 := by omega
  have w18 : w.heap.size ≤ q18 := by omega
  have hr13 : (q13, rootO (fresh 64)) ∈ KK := by rw [← hKK]; simp
  have hr15 : (q15, rootO (fresh 64)) ∈ KK := by rw [← hKK]; simp
  have hr1 : (p1, planO 1 1 6) ∈ KK := by rw [← hKK]; simp
  have hr2 : (p2, planO 2 1 8) ∈ KK := by rw [← hKK]; simp
  have hr3 : (p3, planO 16384 16 32802) ∈ KK := by rw [← hKK]; simp
  have HR13 := Lib.hid hr13
  have HR15 := Lib.hid hr15
  have HP1 := Lib.hid hr1
  have HP2 := Lib.hid hr2
  have HP3 := Lib.hid hr3
  have N17 := Lib.hid ne17
  have N18 := Lib.hid ne18
  clear hr13 hr15 hr1 hr2 hr3 ne17 ne18 hlt hKK g4 g5 n45 hwV
  have hmA := hm.swap
  have cc := IsRt.gen (r := fresh 64) (p := q17) (hmA.at_ (q := q17) (o := .cells (cells (fresh 64)) 25 (0, 0)) List.mem_cons_self)
  have ff := IsRt.frozen (r := fresh 64) (p := q17) (hmA.at_ (q := q17) (o := .cells (cells (fresh 64)) 25 (0, 0)) List.mem_cons_self) 0
  replace hm := Many.setCell (j := 0) (v := .int .u64 2) hmA w17 (N17.out _)
  clear hmA
  rw [show (cells (fresh 64)).setIfInBounds 0 (.int .u64 2) = cells two0 from rfl] at hm
  go_upto_region 13 with fail
  generalize World.setCell _ ⟨q17, 0, none⟩ (.int .u64 2) = X0 at hm ⊢
  clear cc ff
  have hmA := hm.swap
  have cc := IsRt.gen (r := fresh 64) (p := q18) (hmA.at_ (q := q18) (o := .cells (cells (fresh 64)) 25 (0, 0)) List.mem_cons_self)
  have ff := IsRt.frozen (r := fresh 64) (p := q18) (hmA.at_ (q := q18) (o := .cells (cells (fresh 64)) 25 (0, 0)) List.mem_cons_self) 0
  replace hm := Many.setCell (j := 0) (v := .int .u64 0) hmA w18 (N18.out _)
  clear hmA
  rw [show (cells (fresh 64)).setIfInBounds 0 (.int .u64 0) = cells none0 from rfl] at hm
  go_upto_region 14 with fail
  generalize World.setCell _ ⟨q18, 0, none⟩ (.int .u64 0) = X1 at hm ⊢
  clear cc ff w17 w18
  have hzc : Try.zeroCells40.setIfInBounds 0 (.int .u32 9) = (putCells (9, zeros)).toArray := zeroCells_at 9
  have hzq := (zero_of_info infoPut2).1
  have h9 := hm.alloc (.cells (putCells (9, zeros)).toArray 40)
  have n9 := hm.notin
  have hw9 := hm.bel.size
  have tok : True := trivial
  go_upto_region 15 with (first | (have _t := tok; refine wpList_store_new rfl 40 _ _ rfl ((putCells (9, zeros)).toArray) _ _ rfl rfl (sizeP _ zeros_length) rfl (all_oneCell_toArray (putCells_one _)) ?_; change wpList _ _ _ _ _ (X1.alloc (.cells (putCells (9, zeros)).toArray 40)); clear _t tok))
  change Code.wp _ _ _ _ (X1.alloc (.cells (putCells (9, zeros)).toArray 40))
  clear hzc hm
  generalize X1.heap.size = q19 at h9 n9 hw9 ⊢
  generalize X1.alloc (.cells (putCells (9, zeros)).toArray 40) = X2 at h9 ⊢
  have o9 : X2.heap[q19]? = some (.cells (putCells (9, zeros)).toArray 40 (0, 0)) := h9.at_ (q := q19) (o := .cells (putCells (9, zeros)).toArray 40 (0, 0)) List.mem_cons_self
  have cc : X2.cell? ⟨q19, 1, none⟩ = some (.int .u8 0) := (cell_of_row X2 q19 1 _ _ _ o9).trans (by simp [putCells, cellsOf, zeros, List.replicate_succ])
  have ff : X2.frozen? ⟨q19, 1, none⟩ = false := frozen_of_row X2 q19 1 _ _ o9
  have hm := Many.setCell (j := 1) (v := .int .u8 7) h9 hw9 n9
  rw [set_seven] at hm
  clear h9 n9 hw9 o9
  go_upto_region 16 with fail
  generalize World.setCell _ ⟨q19, 1, none⟩ (.int .u8 7) = X3 at hm ⊢
  clear cc ff
  have o9 : X3.heap[q19]? = some (.cells (putCells (9, seven0)).toArray 40 (0, 0)) := hm.at_ (q := q19) (o := .cells (putCells (9, seven0)).toArray 40 (0, 0)) List.mem_cons_self
  have h9 := hm.alloc (.cells (putCells (9, seven0)).toArray 40)
  have HBS := Lib.hid (run_buildPut X3 (9, seven0) seven0_length)
  have o17 : (X3.alloc (.cells (putCells (9, seven0)).toArray 40)).heap[q17]? = some (.cells (cells two0) 25 (0, 0)) := h9.at_ (q := q17) (o := .cells (cells two0) 25 (0, 0)) (by simp)
  have h9p : Puts (X3.alloc (.cells (putCells (9, seven0)).toArray 40)) (some ⟨X3.heap.size, 0, none⟩) [(9, seven0)] := puts_of_block (h9.at_ (q := X3.heap.size) (o := putO (9, seven0)) List.mem_cons_self) (by show 9 < 4294967296; omega) seven0_length
  have HS9 := Lib.hid (sizeP (9, seven0) seven0_length)
  obtain ⟨pc, hpc⟩ : ∃ pc, pc = putCells (9, seven0) := ⟨_, rfl⟩
  rw [← hpc] at o9 HBS h9 h9p o17 hm HS9
  have HPC := Lib.hid hpc
  clear hpc
  go_wp2_with (first
    | (refine wpList_load_row rfl 40 _ rfl q19 rfl _ _ _ _ o9 Try.underlying40 rfl HS9.out ?_)
    | (refine wpList_build_run rfl 26 1 #[(0, .tmp 78)] rfl #[(0, .agg pc.toArray)] (by simp [Act.eval]; rfl) _ HBS.out ?_)
    | (refine wpList_load_row rfl 25 _ rfl q17 rfl _ _ _ _ o17 Try.underlying25 rfl (sizeR two0) ?_))
  clear hm o9 o17 HBS
  generalize X3.heap.size = q20 at h9 h9p ⊢
  generalize X3.alloc (.cells pc.toArray 40) = X4 at h9 h9p ⊢
  refine (Rot.Many.commit h9 (i := 0) rfl (show planOk 64 = true by decide) (n := 1) (xs := [(9, seven0)]) rfl h9p (fun _ a ha => by cases ha; exact .inr ⟨_, List.mem_cons_self⟩) two0_good.1 (by show 0 + 1 < 4294967290; omega) HC.out).mono ?_
  rintro e X5 ⟨rfl, hm⟩
  clear h9 h9p
  replace hm := hm.less (K' := (q19, .cells pc.toArray 40 (0, 0)) :: (q18, .cells (cells none0) 25 (0, 0)) :: (q17, .cells (cells two0) 25 (0, 0)) :: KK) (fun x hx => List.mem_cons_of_mem _ hx)
  replace hm : Many w [(p, sC)] _ X5 := hm
  go_wp2_with fail
  refine (Rot.Many.mount hm (i := 0) rfl (by rw [HN.out]; decide) (by rw [HP.out]; decide) HM.out).mono ?_
  rintro e X6 ⟨rfl, hx⟩
  replace hm := hx.alloc (rootO two0)
  clear hx
  have tok : True := trivial
  go_upto_region 18 with (first | (have _t := tok; refine wpList_store_new rfl 25 _ _ rfl (cells two0) _ _ rfl rfl (sizeR _) rfl (cells_one _) ?_; change wpList _ _ _ _ _ (X6.alloc (rootO two0)); clear _t tok))
  change Code.wp _ _ _ _ (X6.alloc (rootO two0))
  generalize X6.heap.size = q21 at hm ⊢
  generalize X6.alloc (rootO two0) = X7 at hm ⊢
  have hrd := Many.readB_ hm (i := 0) rfl (a := 9) (by rw [HN.out]; omega) (by rw [HP.out]; decide)
  rw [HR.out] at hrd
  replace hrd : Calls Try.prog 11 #[.pointer (some ⟨p, 0, none⟩), .int .u32 9] X7 _ := hrd
  have hi7 := sizeBlock _ seven0_length
  have hz7 : (cellsOf zeros).size = (cellsOf seven0).size := by rw [cellsOf_size, cellsOf_size, seven0_length, zeros_length]
  go_wp2_with fail
  refine hrd.mono ?_
  rintro e X8 ⟨rfl, hx⟩
  clear hrd
  replace hm := hx.alloc (blockO seven0)
  clear hx
  have tok : True := trivial
  go_upto_region 19 with (first | (have _t := tok; refine wpList_store_new rfl 38 _ _ rfl (cellsOf seven0) _ _ rfl rfl hi7 hz7 (cellsOf_one _) ?_; change wpList _ _ _ _ _ (X8.alloc (blockO seven0)); clear _t tok))
  change Code.wp _ _ _ _ (X8.alloc (blockO seven0))
  generalize X8.heap.size = q23 at hm ⊢
  generalize X8.alloc (blockO seven0) = X9 at hm ⊢
  obtain ⟨K9, hK9⟩ : ∃ K9, K9 = (q23, blockO seven0) :: (q21, rootO two0) :: (q19, .cells pc.toArray 40 (0, 0)) :: (q18, .cells (cells none0) 25 (0, 0)) :: (q17, .cells (cells two0) 25 (0, 0)) :: KK := ⟨_, rfl⟩
  have hkd : Many w [(p, sC)] K9 X9.drew := by rw [hK9]; exact hm.drewM
  have m18 : (q18, Obj.cells (cells none0) 25 (0, 0)) ∈ K9 := by rw [hK9]; simp
  have m17 : (q17, Obj.cells (cells two0) 25 (0, 0)) ∈ K9 := by rw [hK9]; simp
  have HK9 := Lib.hid hK9
  clear hK9 hm
  go_wp2_with fail
  refine wp_region_noPanic ?_
  refine wp_region_held_drew (S := Many w [(p, sC)] K9) (by kernel_rfl) hkd ?_
  intro hS
  clear hkd
  generalize X9.drew = V at hS ⊢
  refine wpAnyH_take (i := 0) (v := .pointer (some ⟨p, 0, none⟩)) rfl (by kernel_rfl) (by kernel_rfl) (by kernel_rfl) (fun _ _ _ h => (h : False).elim) (Or.inl ⟨by rfl, fun _ _ => by go_simp⟩) hS ?_
  change wpAnyH _ _ _ _ _ _ _ (Act.put _ (some 92) _) _
  simp only [Act.put, List.setIfInBounds_toArray, List.set_cons_succ, List.set_cons_zero]
  refine wpAnyH_take (i := 1) (v := .agg (cells none0)) rfl (by kernel_rfl) (by kernel_rfl) (by kernel_rfl) (fun _ _ _ h => (h : False).elim) (yieldsIf_load_row (by rfl) 25 _ rfl q18 rfl _ _ _ _ (fun _ h => h.at_ m18) Try.underlying25 rfl (sizeR _)) hS ?_
  change wpAnyH _ _ _ _ _ _ _ (Act.put _ (some 93) _) _
  simp only [Act.put, List.setIfInBounds_toArray, List.set_cons_succ, List.set_cons_zero]
  refine wpAnyH_take (i := 3) (v := .pointer (some ⟨p, 0, none⟩)) rfl (by kernel_rfl) (by kernel_rfl) (by kernel_rfl) (fun _ _ _ h => (h : False).elim) (Or.inl ⟨by rfl, fun _ _ => by go_simp⟩) hS ?_
  change wpAnyH _ _ _ _ _ _ _ (Act.put _ (some 95) _) _
  simp only [Act.put, List.setIfInBounds_toArray, List.set_cons_succ, List.set_cons_zero]
  refine wpAnyH_take (i := 4) (v := .agg (putCells (1, zeros)).toArray) rfl (by kernel_rfl) (by kernel_rfl) (by kernel_rfl) (fun _ _ _ h => (h : False).elim) (Or.inl ⟨by rfl, fun W _ => exec_buildP0 _ rfl 1 rfl W⟩) hS ?_
  change wpAnyH _ _ _ _ _ _ _ (Act.put _ (some 96) _) _
  simp only [Act.put, List.setIfInBounds_toArray, List.set_cons_succ, List.set_cons_zero]
  refine wpAnyH_take (i := 6) (v := .agg (cells two0)) rfl (by kernel_rfl) (by kernel_rfl) (by kernel_rfl) (fun _ _ _ h => (h : False).elim) (yieldsIf_load_row (by rfl) 25 _ rfl q17 rfl _ _ _ _ (fun _ h => h.at_ m17) Try.underlying25 rfl (sizeR _)) hS ?_
  change wpAnyH _ _ _ _ _ _ _ (Act.put _ (some 98) _) _
  simp only [Act.put, List.setIfInBounds_toArray, List.set_cons_succ, List.set_cons_zero]
  refine wpAnyH_moves0 [(7, 99), (5, 97), (2, 94)] [(7, 5), (7, 2)] (HInv w p sC K9) 2 rfl (by kernel_rfl) (fun f W h => h.many) (HInv.start hS) ?_ ?_
  · intro i d hid f W K hfi hdep hI hK
    have hpl : planOk sC.n = true := by rw [HN.out]; decide
    simp only [List.mem_cons, Prod.mk.injEq, List.not_mem_nil, or_false] at hid
    rcases hid with ⟨rfl, rfl⟩ | ⟨rfl, rfl⟩ | ⟨rfl, rfl⟩
    · obtain ⟨v5, h5⟩ := hdep 5 (by simp)
      rcases hI.2.2 with ⟨h, _⟩ | ⟨b, h, hmb⟩
      · rw [h] at h5; cases h5
      have hpu := puts_of_block (hmb.at_ (q := b) (o := putO (1, zeros)) List.mem_cons_self) (by show 1 < 4294967296; omega) zeros_length
      have hc := Rot.Many.commit hmb (i := 0) rfl hpl (n := 1) (c := 1) (xs := [(1, zeros)]) rfl hpu (fun _ a ha => by cases ha; exact .inr ⟨_, List.mem_cons_self⟩) two0_good.1 (by rw [HP.out]; show 0 + 1 < 4294967290; omega) HB2.out
      refine wpOp_row _ rfl rfl (wp_call_fn _ 8 #[.tmp 95, .tmp 97, .tmp 98] _ rfl #[ptr p, .slice (some ⟨b, 0, none⟩) 1 1, .agg (cells two0)] ?_ (by simp [go_sem]) hc ?_)
      · simp only [List.map_toArray, List.map_cons, List.map_nil]
        have key : ∀ (a : Act), a.tmps.size = 186 → (putsF a f [(7, 99), (5, 97), (2, 94)]).eval (.tmp 97) = .slice (some ⟨b, 0, none⟩) 1 1 := fun a ha => putsF_new a f 5 97 _ h (by rw [ha]; omega) _ rfl (by simp)
        rw [putsF_old _ f 95 _ rfl, key _ rfl, putsF_old _ f 98 _ rfl]
        rfl
      · rintro e W' ⟨rfl, hx⟩
        refine ⟨_, rfl, hK _ _ ⟨fun v hv => hI.1 v hv, fun v hv => ?_, .inr ⟨b, h, hx⟩⟩⟩
        have e : updV f 7 (.int .i64 2) 7 = some (.int .i64 2) := if_pos rfl
        rw [e] at hv
        exact (Option.some.inj hv).symm
    · refine wpOp_row _ rfl rfl (wp_slice_row _ 26 1 #[(0, .tmp 96)] rfl #[(0, .agg (putCells (1, zeros)).toArray)] ?_ _ (run_buildPut W (1, zeros) zeros_length) ?_)
      · simp only [List.map_toArray, List.map_cons, List.map_nil]
        rw [putsF_old _ f 96 _ rfl]
        rfl
      · refine hK _ _ ⟨fun v hv => hI.1 v hv, fun v hv => hI.2.1 v hv, .inr ⟨W.heap.size, if_pos rfl, ?_⟩⟩
        exact hI.many.alloc (.cells (putCells (1, zeros)).toArray 40)
    · refine wpOp_row _ rfl rfl (wp_call_fn (post := fun e W' => e = .returned (.int .i64 2) ∧ HInv w p sC K9 f W') _ 8 #[.tmp 92, .const (.slice none 0 0), .tmp 93] _ rfl #[ptr p, .slice none 0 0, .agg (cells none0)] ?_ (by simp [go_sem]) ?_ ?_)
      · simp only [List.map_toArray, List.map_cons, List.map_nil]
        rw [putsF_old _ f 92 _ rfl, putsF_old _ f 93 _ rfl]
        rfl
      · have hnil : ∀ W, Puts W none [] := fun W => ⟨(by simp), .inl rfl⟩
        rcases hI.2.2 with ⟨h, hmb⟩ | ⟨b, h, hmb⟩
        · exact (Rot.Many.commit hmb (i := 0) rfl hpl (n := 0) (c := 0) (xs := []) rfl (hnil W) (fun h => absurd rfl h) none0_fits (by rw [HP.out]; decide) HB1.out).mono fun e W' ⟨he, hx⟩ => ⟨he, hI.1, hI.2.1, .inl ⟨h, hx⟩⟩
        · exact (Rot.Many.commit hmb (i := 0) rfl hpl (n := 0) (c := 0) (xs := []) rfl (hnil W) (fun h => absurd rfl h) none0_fits (by rw [HP.out]; decide) HB1.out).mono fun e W' ⟨he, hx⟩ => ⟨he, hI.1, hI.2.1, .inr ⟨b, h, hx⟩⟩
      · rintro e W' ⟨rfl, hx⟩
        refine ⟨_, rfl, hK _ _ ⟨fun v hv => ?_, fun v hv => hx.2.1 v hv, hx.2.2⟩⟩
        have e : updV f 2 (.int .i64 2) 2 = some (.int .i64 2) := if_pos rfl
        rw [e] at hv
        exact (Option.some.inj hv).symm
  intro f W hall hI
  obtain ⟨v2, h2⟩ := hall 2 94 (by simp)
  obtain ⟨v5, h5⟩ := hall 5 97 (by simp)
  obtain ⟨v7, h7⟩ := hall 7 99 (by simp)
  have hm := hI.many
  obtain rfl := hI.1 v2 h2
  obtain rfl := hI.2.1 v7 h7
  simp only [putsF, setB, isF, h2, h5, h7, Option.isSome_some, if_true]
  simp only [Act.put, List.setIfInBounds_toArray, List.set_cons_succ, List.set_cons_zero]
  clear hall hI h2 h5 h7 hS
  refine wpAnyH_ready (rs := [8]) (by kernel_rfl) (by simp) ?_
  refine AllReadyH.cons rfl (fun K hK => ?_) AllReadyH.nil
  go_simp
  refine hK _ _ hm (fun _ => ?_)
  clear hK K
  refine wpAnyH_ready (rs := [9]) (by kernel_rfl) (by simp) ?_
  refine AllReadyH.cons rfl (fun K hK => ?_) AllReadyH.nil
  go_simp
  refine hK _ _ hm (fun _ => ?_)
  clear hK K
  refine wpAnyH_done (by kernel_rfl) ?_ _
  refine NoPanic.normal ?_
  clear hzp hzb
  go_wp2_with fail
  refine (Mount_nil _).mono ?_
  rintro e Y1 ⟨rfl, hx⟩
  have hz := (hm.below hx).alloc (rootO Slt.nil)
  clear hx hm
  have hbel := hz.bel
  have tok : True := trivial
  go_upto_region 21 with (first
    | (have _t := tok; refine wpList_store_new rfl 25 (.tmp 27) (.tmp 102) rfl (cells Slt.nil) _ _ rfl rfl (sizeR Slt.nil) rfl (cells_one _) ?_; change wpList _ _ _ _ _ (Y1.alloc (rootO Slt.nil)); clear _t tok))
  change Code.wp _ _ _ _ (Y1.alloc (rootO Slt.nil))
  generalize Y1.alloc (rootO Slt.nil) = Y2 at hz hbel ⊢
  have mem : ∀ x ∈ K9, Y2.heap[x.1]? = some x.2 := fun x hx => hz.at_ (q := x.1) (o := x.2) (List.mem_cons_of_mem _ hx)
  have mKK : ∀ x ∈ KK, Y2.heap[x.1]? = some x.2 := fun x hx => mem x (by rw [HK9.out]; simp [hx])
  have R1 : Y2.heap[p1]? = some (.cells (planCells 1 1 6) 51 (0, 0)) := mKK _ HP1.out
  have R2 : Y2.heap[p2]? = some (.cells (planCells 2 1 8) 51 (0, 0)) := mKK _ HP2.out
  have R3 : Y2.heap[p3]? = some (.cells (planCells 16384 16 32802) 51 (0, 0)) := mKK _ HP3.out
  have R13 : Y2.heap[q13]? = some (.cells (cells (fresh 64)) 25 (0, 0)) := mKK _ HR13.out
  have R15 : Y2.heap[q15]? = some (.cells (cells (fresh 64)) 25 (0, 0)) := mKK _ HR15.out
  have R17 : Y2.heap[q17]? = some (.cells (cells two0) 25 (0, 0)) := mem _ m17
  have R21 : Y2.heap[q21]? = some (.cells (cells two0) 25 (0, 0)) := mem (q21, rootO two0) (by rw [HK9.out]; simp)
  have R23 : Y2.heap[q23]? = some (.cells (cellsOf seven0) 38 (0, 0)) := mem (q23, blockO seven0) (by rw [HK9.out]; simp)
  have R19 : Y2.rangeAt q19 1 (cellsOf seven0).toList := fun j v hv => by
    have h := mem (q19, .cells pc.toArray 40 (0, 0)) (by rw [HK9.out]; simp)
    rw [cell_of_row Y2 q19 (1 + j) _ _ _ h, HPC.out, Nat.add_comm 1 j]
    simpa [putCells] using hv
  have hi7L : (Try.prog.info? 38).map (·.size) = some (cellsOf seven0).toList.length := by rw [Array.length_toList]; exact hi7
  have hg1 := fun (W : World) (op : BinOp) (x y : Operand) (xs ys : Array Value) => run_eqGuard_agg (P := Try.prog) W op 51 x y xs ys noGuardP
  have hg2 := fun (W : World) (op : BinOp) (x y : Operand) (xs ys : Array Value) => run_eqGuard_agg (P := Try.prog) W op 25 x y xs ys noGuardR
  have hg3 := fun (W : World) (op : BinOp) (x y : Operand) (xs ys : Array Value) => run_eqGuard_agg (P := Try.prog) W op 38 x y xs ys noGuard
  have e1 : ∀ W, (Op.equalIn 10000 51 (.agg (planCells 1 1 6)) (.agg #[.int .u32 1, .int .u32 1, .int .u32 6])).run Try.prog W = .ok true W := fun W => run_eqPlan W 1 1 6 1 1 6
  have e2 : ∀ W, (Op.equalIn 10000 51 (.agg (planCells 2 1 8)) (.agg #[.int .u32 2, .int .u32 1, .int .u32 8])).run Try.prog W = .ok true W := fun W => run_eqPlan W 2 1 8 2 1 8
  have e3 : ∀ W, (Op.equalIn 10000 51 (.agg (planCells 16384 16 32802)) (.agg #[.int .u32 16384, .int .u32 16, .int .u32 32802])).run Try.prog W = .ok true W := fun W => run_eqPlan W 16384 16 32802 16384 16 32802
  have e4 : ∀ W, (Op.equalIn 10000 25 (.agg (cells (fresh 64))) (.agg (cells (fresh 64)))).run Try.prog W = .ok true W := fun W => by rw [run_eqRoot, eqB_iff.2 rfl]
  have e5 : ∀ W, (Op.equalIn 10000 25 (.agg (cells two0)) (.agg (cells two0))).run Try.prog W = .ok true W := fun W => by rw [run_eqRoot, eqB_iff.2 rfl]
  have e6 : ∀ W, (Op.equalIn 10000 38 (.agg (cellsOf seven0)) (.agg (cellsOf seven0))).run Try.prog W = .ok true W := fun W => by rw [run_eqBlock W _ _ seven0_length seven0_length, decide_eq_true rfl]
  have hrc : (((((cells Slt.nil).setIfInBounds 0 (.int .u64 1)).setIfInBounds 1 (.int .u32 64)).setIfInBounds 4 (.int .u32 58)).setIfInBounds 5 (.int .u32 1)).setIfInBounds 6 (.int .u32 6) = cells (fresh 64) := rfl
  clear mem mKK hz
  refine wp_region_list ?_
  conv => arg 4; simp only [List.append_eq, List.cons_append, List.nil_append, List.toList_toArray]
  go_wp2_with (first
    | (refine wpList_load_row rfl 51 (.tmp 1) rfl p1 rfl _ _ _ _ R1 Try.underlying51 rfl (sizePlan 1 1 6) ?_)
    | (refine wpList_load_want (by rfl) 51 (.tmp 3) rfl p2 rfl _ _ _ _ R2 Try.underlying51 rfl (sizePlan 2 1 8) ?_)
    | (refine wpList_load_want (by rfl) 51 (.tmp 5) rfl p3 rfl _ _ _ _ R3 Try.underlying51 rfl (sizePlan 16384 16 32802) ?_)
    | (refine wpList_load_want (by rfl) 25 (.tmp 13) rfl q13 rfl _ _ _ _ R13 Try.underlying25 rfl (sizeR _) ?_)
    | (refine wpList_load_want (by rfl) 25 (.tmp 15) rfl q15 rfl _ _ _ _ R15 Try.underlying25 rfl (sizeR _) ?_)
    | (refine wpList_load_want (by rfl) 25 (.tmp 21) rfl q21 rfl _ _ _ _ R21 Try.underlying25 rfl (sizeR _) ?_)
    | (refine wpList_load_want (by rfl) 25 (.tmp 17) rfl q17 rfl _ _ _ _ R17 Try.underlying25 rfl (sizeR _) ?_)
    | (refine wpList_load_want (by rfl) 38 (.tmp 23) rfl q23 rfl _ _ _ _ R23 Try.underlying38 rfl (hi7) ?_)
    | (refine wpList_load_mid_want (by rfl) 38 (.tmp 170) rfl q19 1 rfl (cellsOf seven0).toList _ R19 Try.underlying38 rfl hi7L ?_))
  go_ret
  exact ⟨rfl, hbel⟩

end Go.Proofs.Ytdadcengelfmhaa.Rot
