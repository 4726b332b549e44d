/-
  The walk of the law CardUnlike.
-/
import Derived.Test.YtmbmgncajfamiaaCrdHeadW
import Derived.Test.YtmbmgncajfamiaaCrdGet
import Derived.Test.YtmbmgncajfamiaaCrdEq
import Derived.Deep.RegionHeld3
import Derived.Deep.Cut
namespace Go.Proofs.Ytmbmgncajfamiaa.Crd
open Go.RowKit RowLaw Crc Fld
set_option maxRecDepth 100000

set_option maxHeartbeats 12800000 in
theorem unlike_any (c d : Cd) (hc : c.Fits) (hdf : d.Fits) (x0 n : Nat) (hx0 : x0 < 4294967296) (hn : n < 4294967296) (w : World) :
    Calls Try.prog 5 #[.agg (cells c), .agg (cells d), .agg #[.int .u32 (x0 : Int), .int .u32 (n : Int)]] w fun e w' => e = .returned (.bool true) ∧ Below w.heap.size w w' := by
  have hk := (((Kept.start w).alloc (.cells (cells c) 26)).alloc (.cells (cells d) 26)).alloc (.cells #[.int .u32 (x0 : Int), .int .u32 (n : Int)] 45)
  rw [show ((w.alloc (.cells (cells c) 26)).alloc (.cells (cells d) 26)).heap.size = w.heap.size + 1 + 1 from by simp, show (w.alloc (.cells (cells c) 26)).heap.size = w.heap.size + 1 from by simp] at hk
  have hzc := (zero_of_info infoC).1
  have hzb := (zero_of_info infoBlock).1
  have hpc := fun W => Put_any c hc W
  have hpd := fun W => Put_any d hdf W
  have hXl := putB_length c
  have hYl := putB_length d
  have hE : putE c = 0 ∨ putE c = 5 := by unfold putE; split <;> simp
  have hF : putE d = 0 ∨ putE d = 5 := by unfold putE; split <;> simp
  have heq : putE c = 0 → putE d = 0 → decide (putB c = putB d) = eqB c d := fun h1 h2 => by
    rw [putB_yes (putE_iff.1 h1), putB_yes (putE_iff.1 h2), Bool.eq_iff_iff, decide_eq_true_eq, eqB_iff]
    exact ⟨cdB_inj (putE_iff.1 h1) (putE_iff.1 h2) hc hdf, fun h => by rw [h]⟩
  have hbr : putE c = 0 → ∀ q, q ≤ 2016 → n ≠ 0 → getE (burst (putB c) q n 32) = 250 := fun h q hq h0 => by
    rw [putB_yes (putE_iff.1 h)]
    exact burst_none (putE_iff.1 h) hq hn h0
  have hiX := sizeBlock _ hXl
  have hiY := sizeBlock _ hYl
  have hzX : (cellsOf zeros).size = (cellsOf (putB c)).size := by rw [cellsOf_size, cellsOf_size, hXl, zeros_length]
  have hzY : (cellsOf zeros).size = (cellsOf (putB d)).size := by rw [cellsOf_size, cellsOf_size, hYl, zeros_length]
  have heqB := fun W : World => run_eqBlock W (putB c) (putB d) hXl hYl
  have heqC := fun W : World => run_eqCard W c d
  generalize putB c = X at hpc hXl heq hiX hzX heqB hbr
  generalize putB d = Y at hpd hYl heq hiY hzY heqB
  generalize putE c = E at hpc hE heq hbr
  generalize putE d = FE at hpd hF heq
  have hgb := fun (W : World) (op : BinOp) (x y : Operand) (xs ys : Array Value) => run_eqGuard_agg (P := Try.prog) W op 29 x y xs ys noGuard
  have hgc := fun (W : World) (op : BinOp) (x y : Operand) (xs ys : Array Value) => run_eqGuard_agg (P := Try.prog) W op 26 x y xs ys noGuardC
  have HPC := Lib.hid hpc
  have HPD := Lib.hid hpd
  have HXL := Lib.hid hXl
  have HQ := Lib.hid heq
  have HBR := Lib.hid hbr
  have HEB := Lib.hid heqB
  have HEC := Lib.hid heqC
  clear hpc hpd hXl hYl heq hbr heqB heqC hc hdf
  go_enter Try.func5, Try.ntmps5
  go_upto_region 1 with fail
  generalize ((w.alloc (Obj.cells (cells c) 26)).alloc (.cells (cells d) 26)).alloc (Obj.cells #[.int .u32 (x0 : Int), .int .u32 (n : Int)] 45) = W1 at hk ⊢
  generalize w.heap.size + 1 + 1 = p5 at hk ⊢
  generalize w.heap.size + 1 = p4 at hk ⊢
  have c0 := IsCd.name (c := c) (p := w.heap.size) (hk.at_ (q := w.heap.size) (o := .cells (cells c) 26 (0, 0)) (by simp))
  have c1 := IsCd.name (c := d) (p := p4) (hk.at_ (q := p4) (o := .cells (cells d) 26 (0, 0)) (by simp))
  by_cases hlen : 200 < c.s.size
  · have d0 : (200 : Int) < (c.s.size : Int) := by omega
    go_wp2_with (go_at_call 7; (with_reducible refine (head_any _).mono ?_); rintro e WZ ⟨rfl, hx⟩; have hbel := hk.bel.trans (hx.mono hk.bel.size))
    go_ret
    exact ⟨rfl, hbel⟩
  have d0 : ¬ (200 : Int) < (c.s.size : Int) := by omega
  clear hlen
  by_cases hlen : 200 < d.s.size
  · have d1 : (200 : Int) < (d.s.size : Int) := by omega
    go_wp2_with (go_at_call 7; (with_reducible refine (head_any _).mono ?_); rintro e WZ ⟨rfl, hx⟩; have hbel := hk.bel.trans (hx.mono hk.bel.size))
    go_ret
    exact ⟨rfl, hbel⟩
  have d1 : ¬ (200 : Int) < (d.s.size : Int) := by omega
  clear hlen
  go_wp2_with (refine wpList_load_row rfl 26 _ rfl w.heap.size rfl _ _ _ _ (hk.at_ (q := w.heap.size) (o := .cells (cells c) 26 (0, 0)) (by simp)) Try.underlying26 rfl (sizeC c) ?_)
  clear c0 c1 d0 d1
  refine (HPC.out _).mono ?_
  rintro e W5 ⟨rfl, hx⟩
  have h5 := (hk.below hx).alloc (.cells (cellsOf X) 29)
  clear hk hx
  have tok : True := trivial
  go_wp2_with (first | (have _t := tok; refine wpList_store_new rfl 29 _ _ rfl (cellsOf X) _ _ rfl rfl hiX hzX (cellsOf_one _) ?_; generalize W5.heap.size = q7 at h5 ⊢; generalize W5.alloc (.cells (cellsOf X) 29) = W6 at h5 ⊢; clear _t tok) | (refine wpList_load_row rfl 26 _ rfl p4 rfl _ _ _ _ (h5.at_ (q := p4) (o := .cells (cells d) 26 (0, 0)) (by simp)) Try.underlying26 rfl (sizeC d) ?_))
  refine (HPD.out _).mono ?_
  rintro e W7 ⟨rfl, hx⟩
  have h6 := (h5.below hx).alloc (.cells (cellsOf Y) 29)
  clear h5 hx
  have tok : True := trivial
  rcases hE with rfl | rfl
  rotate_left
  · go_wp2_with (first | (have _t := tok; refine wpList_store_new rfl 29 _ _ rfl (cellsOf Y) _ _ rfl rfl hiY hzY (cellsOf_one _) ?_; generalize W7.heap.size = q9 at h6 ⊢; generalize W7.alloc (.cells (cellsOf Y) 29) = W8 at h6 ⊢; clear _t tok) | (go_at_call 7; (with_reducible refine (head_any _).mono ?_); rintro e WZ ⟨rfl, hx⟩; have hbel := h6.bel.trans (hx.mono h6.bel.size)))
    go_ret
    exact ⟨rfl, hbel⟩
  have HBR2 := Lib.hid (HBR.out rfl)
  have HQ2 := Lib.hid (HQ.out rfl)
  clear HBR HQ
  go_upto_region 7 with (have _t := tok; refine wpList_store_new rfl 29 _ _ rfl (cellsOf Y) _ _ rfl rfl hiY hzY (cellsOf_one _) ?_; generalize W7.heap.size = q9 at h6 ⊢; generalize W7.alloc (.cells (cellsOf Y) 29) = W8 at h6 ⊢; clear _t tok)
  replace h6 : Kept w [(q9, Obj.cells (cellsOf Y) 29 (0, 0)), (q7, Obj.cells (cellsOf X) 29 (0, 0)), (p5, Obj.cells #[.int .u32 (x0 : Int), .int .u32 (n : Int)] 45 (0, 0)), (p4, Obj.cells (cells d) 26 (0, 0)), (w.heap.size, Obj.cells (cells c) 26 (0, 0))] W8 := h6
  rcases hF with rfl | rfl
  · skip
    have heqB := HEB.out
    have heqC := HEC.out
    rw [HQ2.out (by trivial)] at heqB
    generalize eqB c d = bq at heqB heqC
    clear HEB HEC HQ2
    refine wp_region_noPanic ?_
    refine wp_region_held_drew (S := fun W => Kept w [(q9, Obj.cells (cellsOf Y) 29 (0, 0)), (q7, Obj.cells (cellsOf X) 29 (0, 0)), (p5, Obj.cells #[.int .u32 (x0 : Int), .int .u32 (n : Int)] 45 (0, 0)), (p4, Obj.cells (cells d) 26 (0, 0)), (w.heap.size, Obj.cells (cells c) 26 (0, 0))] W) (by kernel_rfl) h6.drew ?_
    intro hS
    clear h6
    generalize W8.drew = V0 at hS ⊢
    refine wpAnyH_take (i := 0) (v := .int .i64 0) rfl (by kernel_rfl) (by kernel_rfl) (by kernel_rfl) (fun _ _ _ h => (h : False).elim) (Or.inl ⟨by rfl, fun _ _ => by go_simp⟩) hS ?_
    change wpAnyH _ _ _ _ _ _ _ (Act.put _ (some 40) _) _
    simp only [Act.put, List.setIfInBounds_toArray, List.set_cons_succ, List.set_cons_zero]
    refine wpAnyH_take (i := 1) (v := .bool true) rfl (by kernel_rfl) (by kernel_rfl) (by kernel_rfl) (fun _ _ _ h => (h : False).elim) (Or.inl ⟨by rfl, fun _ _ => by go_simp⟩) hS ?_
    change wpAnyH _ _ _ _ _ _ _ (Act.put _ (some 41) _) _
    simp only [Act.put, List.setIfInBounds_toArray, List.set_cons_succ, List.set_cons_zero]
    refine wpAnyH_take (i := 2) (v := .bool true) rfl (by kernel_rfl) (by kernel_rfl) (by kernel_rfl) (fun _ _ _ h => (h : False).elim) (Or.inl ⟨by rfl, fun _ _ => by go_simp⟩) hS ?_
    change wpAnyH _ _ _ _ _ _ _ (Act.put _ (some 42) _) _
    simp only [Act.put, List.setIfInBounds_toArray, List.set_cons_succ, List.set_cons_zero]
    refine wpAnyH_take (i := 3) (v := .agg (cellsOf X)) rfl (by kernel_rfl) (by kernel_rfl) (by kernel_rfl) (fun _ _ _ h => (h : False).elim) (yieldsIf_load_row (by rfl) 29 _ rfl q7 rfl _ _ _ _ (fun W hW => hW.at_ (q := q7) (o := .cells (cellsOf X) 29 (0, 0)) (by simp)) Try.underlying29 rfl hiX) hS ?_
    change wpAnyH _ _ _ _ _ _ _ (Act.put _ (some 43) _) _
    simp only [Act.put, List.setIfInBounds_toArray, List.set_cons_succ, List.set_cons_zero]
    refine wpAnyH_take (i := 4) (v := .agg (cellsOf Y)) rfl (by kernel_rfl) (by kernel_rfl) (by kernel_rfl) (fun _ _ _ h => (h : False).elim) (yieldsIf_load_row (by rfl) 29 _ rfl q9 rfl _ _ _ _ (fun W hW => hW.at_ (q := q9) (o := .cells (cellsOf Y) 29 (0, 0)) (by simp)) Try.underlying29 rfl hiY) hS ?_
    change wpAnyH _ _ _ _ _ _ _ (Act.put _ (some 44) _) _
    simp only [Act.put, List.setIfInBounds_toArray, List.set_cons_succ, List.set_cons_zero]
    refine wpAnyH_take (i := 5) (v := .bool bq) rfl (by kernel_rfl) (by kernel_rfl) (by kernel_rfl) (fun _ _ _ h => (h : False).elim) (Or.inl ⟨by rfl, fun _ _ => by go_simp⟩) hS ?_
    change wpAnyH _ _ _ _ _ _ _ (Act.put _ (some 45) _) _
    simp only [Act.put, List.setIfInBounds_toArray, List.set_cons_succ, List.set_cons_zero]
    refine wpAnyH_take (i := 6) (v := .agg (cells c)) rfl (by kernel_rfl) (by kernel_rfl) (by kernel_rfl) (fun _ _ _ h => (h : False).elim) (yieldsIf_load_row (by rfl) 26 _ rfl w.heap.size rfl _ _ _ _ (fun W hW => hW.at_ (q := w.heap.size) (o := .cells (cells c) 26 (0, 0)) (by simp)) Try.underlying26 rfl (sizeC c)) hS ?_
    change wpAnyH _ _ _ _ _ _ _ (Act.put _ (some 46) _) _
    simp only [Act.put, List.setIfInBounds_toArray, List.set_cons_succ, List.set_cons_zero]
    refine wpAnyH_take (i := 7) (v := .agg (cells d)) rfl (by kernel_rfl) (by kernel_rfl) (by kernel_rfl) (fun _ _ _ h => (h : False).elim) (yieldsIf_load_row (by rfl) 26 _ rfl p4 rfl _ _ _ _ (fun W hW => hW.at_ (q := p4) (o := .cells (cells d) 26 (0, 0)) (by simp)) Try.underlying26 rfl (sizeC d)) hS ?_
    change wpAnyH _ _ _ _ _ _ _ (Act.put _ (some 47) _) _
    simp only [Act.put, List.setIfInBounds_toArray, List.set_cons_succ, List.set_cons_zero]
    refine wpAnyH_take (i := 8) (v := .bool bq) rfl (by kernel_rfl) (by kernel_rfl) (by kernel_rfl) (fun _ _ _ h => (h : False).elim) (Or.inl ⟨by rfl, fun _ _ => by go_simp⟩) hS ?_
    change wpAnyH _ _ _ _ _ _ _ (Act.put _ (some 48) _) _
    simp only [Act.put, List.setIfInBounds_toArray, List.set_cons_succ, List.set_cons_zero]
    refine wpAnyH_take (i := 9) (v := .bool false) rfl (by kernel_rfl) (by kernel_rfl) (by kernel_rfl) (fun _ _ _ h => (h : False).elim) (Or.inl ⟨by rfl, fun _ _ => by go_simp⟩) hS ?_
    change wpAnyH _ _ _ _ _ _ _ (Act.put _ (some 49) _) _
    simp only [Act.put, List.setIfInBounds_toArray, List.set_cons_succ, List.set_cons_zero]
    refine wpAnyH_take (i := 10) (v := .bool false) rfl (by kernel_rfl) (by kernel_rfl) (by kernel_rfl) (fun _ _ _ h => (h : False).elim) (Or.inl ⟨by rfl, fun _ _ => by go_simp⟩) hS ?_
    change wpAnyH _ _ _ _ _ _ _ (Act.put _ (some 50) _) _
    simp only [Act.put, List.setIfInBounds_toArray, List.set_cons_succ, List.set_cons_zero]
    refine wpAnyH_done (by kernel_rfl) ?_ _
    refine NoPanic.normal ?_
    clear heqB heqC
    have h7 := Kept.alloc hS (.cells (cellsOf X) 29)
    have hn5 := Kept.lt_ hS (q := p5) (o := Obj.cells #[.int .u32 (x0 : Int), .int .u32 (n : Int)] 45 (0, 0)) (by simp)
    have hn7 := Kept.lt_ hS (q := q7) (o := .cells (cellsOf X) 29 (0, 0)) (by simp)
    have hn9 := Kept.lt_ hS (q := q9) (o := .cells (cellsOf Y) 29 (0, 0)) (by simp)
    have hn4 := Kept.lt_ hS (q := p4) (o := .cells (cells d) 26 (0, 0)) (by simp)
    have hn3 := Kept.lt_ hS (q := w.heap.size) (o := .cells (cells c) 26 (0, 0)) (by simp)
    have tok : True := trivial
    go_upto_region 10 with (first | (refine wpList_load_row rfl 29 _ rfl q7 rfl _ _ _ _ (Kept.at_ hS (q := q7) (o := .cells (cellsOf X) 29 (0, 0)) (by simp)) Try.underlying29 rfl hiX ?_) | (have _t := tok; refine wpList_store_new rfl 29 _ _ rfl (cellsOf X) _ _ rfl rfl hiX hzX (cellsOf_one _) ?_; generalize V0.heap.size = q11 at h7 hn3 hn4 hn5 hn7 hn9 ⊢; generalize V0.alloc (.cells (cellsOf X) 29) = V1 at h7 ⊢; clear _t tok))
    clear hS
    have hne : ∀ y ∈ [(q9, Obj.cells (cellsOf Y) 29 (0, 0)), (q7, Obj.cells (cellsOf X) 29 (0, 0)), (p5, Obj.cells #[.int .u32 (x0 : Int), .int .u32 (n : Int)] 45 (0, 0)), (p4, Obj.cells (cells d) 26 (0, 0)), (w.heap.size, Obj.cells (cells c) 26 (0, 0))], y.1 ≠ q11 := by intro y hy; simp only [List.mem_cons, List.not_mem_nil, or_false] at hy; rcases hy with rfl | rfl | rfl | rfl | rfl <;> (simp only; omega)
    clear hn3 hn4 hn5 hn7 hn9
    have x5 : V1.cell? ⟨p5, 0, none⟩ = some (.int .u32 (x0 : Int)) := (cell_of_row V1 p5 0 _ _ _ (h7.at_ (q := p5) (o := Obj.cells #[.int .u32 (x0 : Int), .int .u32 (n : Int)] 45 (0, 0)) (by simp))).trans rfl
    have hq0 : x0 % 2017 < 2017 := Nat.mod_lt _ (by omega)
    go_upto_region 11 with fail
    rw [show ((x0 : Int) % 2017) = ((x0 % 2017 : Nat) : Int) from rfl]
    generalize x0 % 2017 = q at hq0 ⊢
    clear x5
    go_wp2_with fail
    go_loopw [13] (fun i wr => ∃ j : Nat, j ≤ 32 ∧ i = .int .i64 j ∧ Kept w ((q11, .cells (cellsOf (burst X q n j)) 29 (0, 0)) :: [(q9, Obj.cells (cellsOf Y) 29 (0, 0)), (q7, Obj.cells (cellsOf X) 29 (0, 0)), (p5, Obj.cells #[.int .u32 (x0 : Int), .int .u32 (n : Int)] 45 (0, 0)), (p4, Obj.cells (cells d) 26 (0, 0)), (w.heap.size, Obj.cells (cells c) 26 (0, 0))]) wr) (fun i _ => 32 - (intOf i).toNat)
    case atStart => exact ⟨0, by omega, rfl, h7⟩
    case round =>
      obtain ⟨j, hj, rfl, hK⟩ := hrel
      clear h7
      have hlen : (burst X q n j).length = 256 := by rw [burst_length, HXL.out]
      have x5 : wr.cell? ⟨p5, 1, none⟩ = some (.int .u32 (n : Int)) := (cell_of_row wr p5 1 _ _ _ (hK.at_ (q := p5) (o := Obj.cells #[.int .u32 (x0 : Int), .int .u32 (n : Int)] 45 (0, 0)) (by simp))).trans rfl
      by_cases hlt : j < 32
      · cases hbit : n.testBit j with
        | true =>
          have ht : (((n : Int) / 2 ^ j).tmod 2 == 1) = true := by rw [bit_eq]; exact hbit
          have hp : (q + j) / 8 < 256 := by omega
          have qX : Holds wr q11 (burst X q n j) := hK.at_ List.mem_cons_self
          have hc := qX.cell ((q + j) / 8) (by omega)
          have hf := qX.frozen ((q + j) / 8)
          have hbn := burst_yes X q n j hbit
          rw [flip_set _ _ (by omega)] at hbn
          clear hbit
          have h8 : (q + j) % 8 < 8 := Nat.mod_lt _ (by omega)
          have hxp := xor_pow (burst X q n j)[(q + j) / 8] ((q + j) % 8) h8
          generalize UInt8.ofNat ((burst X q n j)[(q + j) / 8].toNat ^^^ 128 / 2 ^ ((q + j) % 8)) = v at hbn hxp
          have HB := Lib.hid hbn; clear hbn
          have hxb := (burst X q n j)[(q + j) / 8].toNat_lt
          have hK2 := hK.setCell (j := (q + j) / 8) (v := .int .u8 (v.toNat : Int)) hne
          rw [cellsOf_set, ← HB.out] at hK2
          have HK2 := Lib.hid hK2
          clear hK2 hK qX HB
          go_wp2_with fail
          go_roundw
          case rel => exact ⟨j + 1, by omega, by go_num, HK2.out⟩
          case measure => simp [intOf]; omega
        | false =>
          have ht : (((n : Int) / 2 ^ j).tmod 2 == 1) = false := by rw [bit_eq]; exact hbit
          have hbn := burst_no X q n j hbit
          have HB := Lib.hid hbn; clear hbn
          clear hbit
          go_wp2_with fail
          go_roundw
          case rel => exact ⟨j + 1, by omega, by go_num, by rw [HB.out]; exact hK⟩
          case measure => simp [intOf]; omega
      · obtain rfl : j = 32 := by omega
        have hge := HBR2.out q (by omega)
        have hget := fun W => Get_any (burst X q n 32) hlen W
        have hiX2 := sizeBlock _ hlen
        generalize burst X q n 32 = y at hK hget hge hiX2
        generalize getC y = G at hget
        generalize getE y = GE at hget hge
        have HGT := Lib.hid hget
        have HGE := Lib.hid hge
        clear hget hge hne hlen x5
        go_wp2_with (refine wpList_load_row rfl 29 _ rfl q11 rfl _ _ _ _ (hK.at_ (q := q11) (o := .cells (cellsOf y) 29 (0, 0)) (by simp)) Try.underlying29 rfl hiX2 ?_)
        refine (HGT.out _).mono ?_
        rintro e W9 ⟨rfl, hx⟩
        have h8 := (hK.below hx).alloc (.cells (cells G) 26)
        clear hK hx
        have tok : True := trivial
        go_upto_region 17 with (have _t := tok; refine wpList_store_new rfl 26 _ _ rfl (cells G) _ _ rfl rfl (sizeC G) rfl (cells_one _) ?_; generalize W9.heap.size = q14 at h8 ⊢; generalize W9.alloc (.cells (cells G) 26) = Z1 at h8 ⊢; clear _t tok)
        have x5 : Z1.cell? ⟨p5, 1, none⟩ = some (.int .u32 (n : Int)) := (cell_of_row Z1 p5 1 _ _ _ (h8.at_ (q := p5) (o := Obj.cells #[.int .u32 (x0 : Int), .int .u32 (n : Int)] 45 (0, 0)) (by simp))).trans rfl
        by_cases h0 : n = 0
        · have e0 : ((n : Int) == 0) = true := by rw [h0]; rfl
          clear h0
          go_wp2_with (go_at_call 7; (with_reducible refine (head_any _).mono ?_); rintro e WZ ⟨rfl, hx⟩; have hbel := h8.bel.trans (hx.mono h8.bel.size))
          go_ret
          exact ⟨rfl, hbel⟩
        · have e0 : ((n : Int) == 0) = false := by simp; omega
          have e1 : (GE == 250) = true := by rw [HGE.out h0]; rfl
          clear h0
          go_wp2_with (go_at_call 7; (with_reducible refine (head_any _).mono ?_); rintro e WZ ⟨rfl, hx⟩; have hbel := h8.bel.trans (hx.mono h8.bel.size))
          go_ret
          exact ⟨rfl, hbel⟩
  · clear HEB HEC HQ2
    refine wp_region_noPanic ?_
    refine wp_region_held_drew (S := fun W => Kept w [(q9, Obj.cells (cellsOf Y) 29 (0, 0)), (q7, Obj.cells (cellsOf X) 29 (0, 0)), (p5, Obj.cells #[.int .u32 (x0 : Int), .int .u32 (n : Int)] 45 (0, 0)), (p4, Obj.cells (cells d) 26 (0, 0)), (w.heap.size, Obj.cells (cells c) 26 (0, 0))] W) (by kernel_rfl) h6.drew ?_
    intro hS
    clear h6
    generalize W8.drew = V0 at hS ⊢
    refine wpAnyH_take (i := 0) (v := .int .i64 5) rfl (by kernel_rfl) (by kernel_rfl) (by kernel_rfl) (fun _ _ _ h => (h : False).elim) (Or.inl ⟨by rfl, fun _ _ => by go_simp⟩) hS ?_
    change wpAnyH _ _ _ _ _ _ _ (Act.put _ (some 40) _) _
    simp only [Act.put, List.setIfInBounds_toArray, List.set_cons_succ, List.set_cons_zero]
    refine wpAnyH_take (i := 1) (v := .bool false) rfl (by kernel_rfl) (by kernel_rfl) (by kernel_rfl) (fun _ _ _ h => (h : False).elim) (Or.inl ⟨by rfl, fun _ _ => by go_simp⟩) hS ?_
    change wpAnyH _ _ _ _ _ _ _ (Act.put _ (some 41) _) _
    simp only [Act.put, List.setIfInBounds_toArray, List.set_cons_succ, List.set_cons_zero]
    refine wpAnyH_take (i := 2) (v := .bool false) rfl (by kernel_rfl) (by kernel_rfl) (by kernel_rfl) (fun _ _ _ h => (h : False).elim) (Or.inl ⟨by rfl, fun _ _ => by go_simp⟩) hS ?_
    change wpAnyH _ _ _ _ _ _ _ (Act.put _ (some 42) _) _
    simp only [Act.put, List.setIfInBounds_toArray, List.set_cons_succ, List.set_cons_zero]
    refine wpAnyH_take (i := 3) (v := undef) rfl (by kernel_rfl) (by kernel_rfl) (by kernel_rfl) (fun _ _ _ h => (h : False).elim) (Or.inr ⟨by rfl, rfl⟩) hS ?_
    change wpAnyH _ _ _ _ _ _ _ (Act.put _ (some 43) _) _
    simp only [Act.put, List.setIfInBounds_toArray, List.set_cons_succ, List.set_cons_zero]
    refine wpAnyH_take (i := 4) (v := undef) rfl (by kernel_rfl) (by kernel_rfl) (by kernel_rfl) (fun _ _ _ h => (h : False).elim) (Or.inr ⟨by rfl, rfl⟩) hS ?_
    change wpAnyH _ _ _ _ _ _ _ (Act.put _ (some 44) _) _
    simp only [Act.put, List.setIfInBounds_toArray, List.set_cons_succ, List.set_cons_zero]
    refine wpAnyH_take (i := 5) (v := undef) rfl (by kernel_rfl) (by kernel_rfl) (by kernel_rfl) (fun _ _ _ h => (h : False).elim) (Or.inr ⟨by rfl, rfl⟩) hS ?_
    change wpAnyH _ _ _ _ _ _ _ (Act.put _ (some 45) _) _
    simp only [Act.put, List.setIfInBounds_toArray, List.set_cons_succ, List.set_cons_zero]
    refine wpAnyH_take (i := 6) (v := undef) rfl (by kernel_rfl) (by kernel_rfl) (by kernel_rfl) (fun _ _ _ h => (h : False).elim) (Or.inr ⟨by rfl, rfl⟩) hS ?_
    change wpAnyH _ _ _ _ _ _ _ (Act.put _ (some 46) _) _
    simp only [Act.put, List.setIfInBounds_toArray, List.set_cons_succ, List.set_cons_zero]
    refine wpAnyH_take (i := 7) (v := undef) rfl (by kernel_rfl) (by kernel_rfl) (by kernel_rfl) (fun _ _ _ h => (h : False).elim) (Or.inr ⟨by rfl, rfl⟩) hS ?_
    change wpAnyH _ _ _ _ _ _ _ (Act.put _ (some 47) _) _
    simp only [Act.put, List.setIfInBounds_toArray, List.set_cons_succ, List.set_cons_zero]
    refine wpAnyH_take (i := 8) (v := undef) rfl (by kernel_rfl) (by kernel_rfl) (by kernel_rfl) (fun _ _ _ h => (h : False).elim) (Or.inr ⟨by rfl, rfl⟩) hS ?_
    change wpAnyH _ _ _ _ _ _ _ (Act.put _ (some 48) _) _
    simp only [Act.put, List.setIfInBounds_toArray, List.set_cons_succ, List.set_cons_zero]
    refine wpAnyH_take (i := 9) (v := undef) rfl (by kernel_rfl) (by kernel_rfl) (by kernel_rfl) (fun _ _ _ h => (h : False).elim) (Or.inr ⟨by rfl, rfl⟩) hS ?_
    change wpAnyH _ _ _ _ _ _ _ (Act.put _ (some 49) _) _
    simp only [Act.put, List.setIfInBounds_toArray, List.set_cons_succ, List.set_cons_zero]
    refine wpAnyH_take (i := 10) (v := .bool false) rfl (by kernel_rfl) (by kernel_rfl) (by kernel_rfl) (fun _ _ _ h => (h : False).elim) (Or.inl ⟨by rfl, fun _ _ => by go_simp⟩) hS ?_
    change wpAnyH _ _ _ _ _ _ _ (Act.put _ (some 50) _) _
    simp only [Act.put, List.setIfInBounds_toArray, List.set_cons_succ, List.set_cons_zero]
    refine wpAnyH_done (by kernel_rfl) ?_ _
    refine NoPanic.normal ?_
    have h7 := Kept.alloc hS (.cells (cellsOf X) 29)
    have hn5 := Kept.lt_ hS (q := p5) (o := Obj.cells #[.int .u32 (x0 : Int), .int .u32 (n : Int)] 45 (0, 0)) (by simp)
    have hn7 := Kept.lt_ hS (q := q7) (o := .cells (cellsOf X) 29 (0, 0)) (by simp)
    have hn9 := Kept.lt_ hS (q := q9) (o := .cells (cellsOf Y) 29 (0, 0)) (by simp)
    have hn4 := Kept.lt_ hS (q := p4) (o := .cells (cells d) 26 (0, 0)) (by simp)
    have hn3 := Kept.lt_ hS (q := w.heap.size) (o := .cells (cells c) 26 (0, 0)) (by simp)
    have tok : True := trivial
    go_upto_region 10 with (first | (refine wpList_load_row rfl 29 _ rfl q7 rfl _ _ _ _ (Kept.at_ hS (q := q7) (o := .cells (cellsOf X) 29 (0, 0)) (by simp)) Try.underlying29 rfl hiX ?_) | (have _t := tok; refine wpList_store_new rfl 29 _ _ rfl (cellsOf X) _ _ rfl rfl hiX hzX (cellsOf_one _) ?_; generalize V0.heap.size = q11 at h7 hn3 hn4 hn5 hn7 hn9 ⊢; generalize V0.alloc (.cells (cellsOf X) 29) = V1 at h7 ⊢; clear _t tok))
    clear hS
    have hne : ∀ y ∈ [(q9, Obj.cells (cellsOf Y) 29 (0, 0)), (q7, Obj.cells (cellsOf X) 29 (0, 0)), (p5, Obj.cells #[.int .u32 (x0 : Int), .int .u32 (n : Int)] 45 (0, 0)), (p4, Obj.cells (cells d) 26 (0, 0)), (w.heap.size, Obj.cells (cells c) 26 (0, 0))], y.1 ≠ q11 := by intro y hy; simp only [List.mem_cons, List.not_mem_nil, or_false] at hy; rcases hy with rfl | rfl | rfl | rfl | rfl <;> (simp only; omega)
    clear hn3 hn4 hn5 hn7 hn9
    have x5 : V1.cell? ⟨p5, 0, none⟩ = some (.int .u32 (x0 : Int)) := (cell_of_row V1 p5 0 _ _ _ (h7.at_ (q := p5) (o := Obj.cells #[.int .u32 (x0 : Int), .int .u32 (n : Int)] 45 (0, 0)) (by simp))).trans rfl
    have hq0 : x0 % 2017 < 2017 := Nat.mod_lt _ (by omega)
    go_upto_region 11 with fail
    rw [show ((x0 : Int) % 2017) = ((x0 % 2017 : Nat) : Int) from rfl]
    generalize x0 % 2017 = q at hq0 ⊢
    clear x5
    go_wp2_with fail
    go_loopw [13] (fun i wr => ∃ j : Nat, j ≤ 32 ∧ i = .int .i64 j ∧ Kept w ((q11, .cells (cellsOf (burst X q n j)) 29 (0, 0)) :: [(q9, Obj.cells (cellsOf Y) 29 (0, 0)), (q7, Obj.cells (cellsOf X) 29 (0, 0)), (p5, Obj.cells #[.int .u32 (x0 : Int), .int .u32 (n : Int)] 45 (0, 0)), (p4, Obj.cells (cells d) 26 (0, 0)), (w.heap.size, Obj.cells (cells c) 26 (0, 0))]) wr) (fun i _ => 32 - (intOf i).toNat)
    case atStart => exact ⟨0, by omega, rfl, h7⟩
    case round =>
      obtain ⟨j, hj, rfl, hK⟩ := hrel
      clear h7
      have hlen : (burst X q n j).length = 256 := by rw [burst_length, HXL.out]
      have x5 : wr.cell? ⟨p5, 1, none⟩ = some (.int .u32 (n : Int)) := (cell_of_row wr p5 1 _ _ _ (hK.at_ (q := p5) (o := Obj.cells #[.int .u32 (x0 : Int), .int .u32 (n : Int)] 45 (0, 0)) (by simp))).trans rfl
      by_cases hlt : j < 32
      · cases hbit : n.testBit j with
        | true =>
          have ht : (((n : Int) / 2 ^ j).tmod 2 == 1) = true := by rw [bit_eq]; exact hbit
          have hp : (q + j) / 8 < 256 := by omega
          have qX : Holds wr q11 (burst X q n j) := hK.at_ List.mem_cons_self
          have hc := qX.cell ((q + j) / 8) (by omega)
          have hf := qX.frozen ((q + j) / 8)
          have hbn := burst_yes X q n j hbit
          rw [flip_set _ _ (by omega)] at hbn
          clear hbit
          have h8 : (q + j) % 8 < 8 := Nat.mod_lt _ (by omega)
          have hxp := xor_pow (burst X q n j)[(q + j) / 8] ((q + j) % 8) h8
          generalize UInt8.ofNat ((burst X q n j)[(q + j) / 8].toNat ^^^ 128 / 2 ^ ((q + j) % 8)) = v at hbn hxp
          have HB := Lib.hid hbn; clear hbn
          have hxb := (burst X q n j)[(q + j) / 8].toNat_lt
          have hK2 := hK.setCell (j := (q + j) / 8) (v := .int .u8 (v.toNat : Int)) hne
          rw [cellsOf_set, ← HB.out] at hK2
          have HK2 := Lib.hid hK2
          clear hK2 hK qX HB
          go_wp2_with fail
          go_roundw
          case rel => exact ⟨j + 1, by omega, by go_num, HK2.out⟩
          case measure => simp [intOf]; omega
        | false =>
          have ht : (((n : Int) / 2 ^ j).tmod 2 == 1) = false := by rw [bit_eq]; exact hbit
          have hbn := burst_no X q n j hbit
          have HB := Lib.hid hbn; clear hbn
          clear hbit
          go_wp2_with fail
          go_roundw
          case rel => exact ⟨j + 1, by omega, by go_num, by rw [HB.out]; exact hK⟩
          case measure => simp [intOf]; omega
      · obtain rfl : j = 32 := by omega
        have hge := HBR2.out q (by omega)
        have hget := fun W => Get_any (burst X q n 32) hlen W
        have hiX2 := sizeBlock _ hlen
        generalize burst X q n 32 = y at hK hget hge hiX2
        generalize getC y = G at hget
        generalize getE y = GE at hget hge
        have HGT := Lib.hid hget
        have HGE := Lib.hid hge
        clear hget hge hne hlen x5
        go_wp2_with (refine wpList_load_row rfl 29 _ rfl q11 rfl _ _ _ _ (hK.at_ (q := q11) (o := .cells (cellsOf y) 29 (0, 0)) (by simp)) Try.underlying29 rfl hiX2 ?_)
        refine (HGT.out _).mono ?_
        rintro e W9 ⟨rfl, hx⟩
        have h8 := (hK.below hx).alloc (.cells (cells G) 26)
        clear hK hx
        have tok : True := trivial
        go_upto_region 17 with (have _t := tok; refine wpList_store_new rfl 26 _ _ rfl (cells G) _ _ rfl rfl (sizeC G) rfl (cells_one _) ?_; generalize W9.heap.size = q14 at h8 ⊢; generalize W9.alloc (.cells (cells G) 26) = Z1 at h8 ⊢; clear _t tok)
        have x5 : Z1.cell? ⟨p5, 1, none⟩ = some (.int .u32 (n : Int)) := (cell_of_row Z1 p5 1 _ _ _ (h8.at_ (q := p5) (o := Obj.cells #[.int .u32 (x0 : Int), .int .u32 (n : Int)] 45 (0, 0)) (by simp))).trans rfl
        by_cases h0 : n = 0
        · have e0 : ((n : Int) == 0) = true := by rw [h0]; rfl
          clear h0
          go_wp2_with (go_at_call 7; (with_reducible refine (head_any _).mono ?_); rintro e WZ ⟨rfl, hx⟩; have hbel := h8.bel.trans (hx.mono h8.bel.size))
          go_ret
          exact ⟨rfl, hbel⟩
        · have e0 : ((n : Int) == 0) = false := by simp; omega
          have e1 : (GE == 250) = true := by rw [HGE.out h0]; rfl
          clear h0
          go_wp2_with (go_at_call 7; (with_reducible refine (head_any _).mono ?_); rintro e WZ ⟨rfl, hx⟩; have hbel := h8.bel.trans (hx.mono h8.bel.size))
          go_ret
          exact ⟨rfl, hbel⟩

end Go.Proofs.Ytmbmgncajfamiaa.Crd
