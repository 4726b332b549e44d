/-
  Which root a device has: entries, the greatest of two, Mount.
-/
import Derived.Test.YtlojhdnahioicaaRotMay
import Derived.Test.YtlojhdnahioicaaSplice
import Derived.Test.YtlojhdnahioicaaSlt3
namespace Go.Proofs.Ytlojhdnahioicaa.Rot
open Go.RowKit RowLaw Crc
set_option maxRecDepth 100000
open Go.Proofs.Ytlojhdnahioicaa.Slt (Rt cells rootO infoR sizeR cells_one IsRt getR getE getR_fits getE_cases Get_any)
open Go.Proofs.Ytlojhdnahioicaa.Dev (Dev DS ptr readB readR readE Read_any below_row)

def cmpZ (a b : Nat) : Int := if a < b then -1 else if b < a then 1 else 0
theorem isNaN_any (a : Nat) (w : World) : Calls Try.prog 77 #[.int .u64 (a : Int)] w fun e w' => e = .returned (.bool false) ∧ w' = w := by
  go_enter Try.func77, Try.ntmps77
  go_wp2
  go_ret
  exact ⟨by simp, rfl⟩
theorem Compare_any (a b : Nat) (w : World) : Calls Try.prog 64 #[.int .u64 (a : Int), .int .u64 (b : Int)] w fun e w' => e = .returned (.int .i64 (cmpZ a b)) ∧ w' = w := by
  obtain ⟨z, hz⟩ : ∃ z, z = cmpZ a b := ⟨_, rfl⟩
  rw [← hz]
  unfold cmpZ at hz
  have HZ := Lib.hid hz
  clear hz
  by_cases h1 : a < b
  · have H1 := Lib.hid h1
    have d1 : (a : Int) < (b : Int) := by omega
    clear h1
    go_enter Try.func64, Try.ntmps64
    go_wp2_with (with_reducible refine (isNaN_any _ _).mono ?_; rintro e W1 ⟨rfl, rfl⟩)
    go_ret
    exact ⟨congrArg (fun z => Ending.returned (Value.int .i64 z)) (HZ.out.trans (if_pos H1.out)).symm, rfl⟩
  · have H1 := Lib.hid h1
    have d1 : ¬ (a : Int) < (b : Int) := by omega
    by_cases h2 : b < a
    · have H2 := Lib.hid h2
      have d2 : (b : Int) < (a : Int) := by omega
      clear h1 h2
      go_enter Try.func64, Try.ntmps64
      go_wp2_with (with_reducible refine (isNaN_any _ _).mono ?_; rintro e W1 ⟨rfl, rfl⟩)
      go_ret
      exact ⟨congrArg (fun z => Ending.returned (Value.int .i64 z)) (HZ.out.trans ((if_neg H1.out).trans (if_pos H2.out))).symm, rfl⟩
    · have H2 := Lib.hid h2
      have d2 : ¬ (b : Int) < (a : Int) := by omega
      clear h1 h2
      go_enter Try.func64, Try.ntmps64
      go_wp2_with (with_reducible refine (isNaN_any _ _).mono ?_; rintro e W1 ⟨rfl, rfl⟩)
      go_ret
      exact ⟨congrArg (fun z => Ending.returned (Value.int .i64 z)) (HZ.out.trans ((if_neg H1.out).trans (if_neg H2.out))).symm, rfl⟩

/-! entries -/
def entC (x y : Rt) : Array Value := cells x ++ cells y
def entryO (r : Rt) : Obj := .cells (cells r) 82
def entsO (x y : Rt) : Obj := .cells (entC x y) 83
theorem infoE : (Try.prog.info? 82).map (fun i => (i.zero, i.size)) = some (some (.agg (cells Slt.nil)), 8) := by kernel_rfl
theorem sizeE (r : Rt) : (Try.prog.info? 82).map (·.size) = some (cells r).size := (zero_of_info infoE).2
theorem sizeEL (r : Rt) : (Try.prog.info? 82).map (·.size) = some (cells r).toList.length := (zero_of_info infoE).2
theorem infoEs : (Try.prog.info? 83).map (fun i => (i.zero, i.size)) = some (some (.agg (entC Slt.nil Slt.nil)), 16) := by kernel_rfl
theorem entC_size (x y : Rt) : (entC x y).size = 16 := rfl
theorem sizeEs (x y : Rt) : (Try.prog.info? 83).map (·.size) = some (entC x y).size := (zero_of_info infoEs).2
theorem entC_one (x y : Rt) : (entC x y).all (·.oneCell') = true := by simp [entC, cells, Value.oneCell']
theorem range0 {W : World} {q : Nat} {x y : Rt} (h : W.heap[q]? = some (.cells (entC x y) 83 (0, 0))) : W.rangeAt q 0 (cells x).toList := by
  have := World.rangeAt_of_block h 0 8
  simpa [entC, cells] using this
theorem range1 {W : World} {q : Nat} {x y : Rt} (h : W.heap[q]? = some (.cells (entC x y) 83 (0, 0))) : W.rangeAt q 8 (cells y).toList := by
  have := World.rangeAt_of_block h 8 8
  simpa [entC, cells] using this
theorem splice0 (x y r : Rt) : spliceA (entC x y) 0 (cells r).toList = entC r y := by simp [spliceA, entC, cells]
theorem splice1 (x y r : Rt) : spliceA (entC x y) 8 (cells r).toList = entC x r := by simp [spliceA, entC, cells]

theorem compare_any (x y : Rt) (w : World) : Calls Try.prog 44 #[.agg (cells x), .agg (cells y)] w fun e w' => e = .returned (.int .i64 (cmpZ x.gen y.gen)) ∧ Below w.heap.size w w' := by
  have hK := ((Kept.start w).alloc (entryO x)).alloc (entryO y)
  have c0 : ((w.alloc (entryO x)).alloc (entryO y)).cell? ⟨w.heap.size, 0, none⟩ = some (.int .u64 (x.gen : Int)) := (cell_of_row _ w.heap.size 0 _ _ _ (hK.at_ (q := w.heap.size) (o := entryO x) (by simp))).trans rfl
  have c1 : ((w.alloc (entryO x)).alloc (entryO y)).cell? ⟨w.heap.size + 1, 0, none⟩ = some (.int .u64 (y.gen : Int)) := (cell_of_row _ (w.heap.size + 1) 0 _ _ _ (hK.at_ (q := w.heap.size + 1) (o := entryO y) (by simp))).trans rfl
  have hb := hK.bel
  clear hK
  go_enter Try.func44, Try.ntmps44
  go_upto_region 1 with fail
  change Code.wp _ _ _ _ ((w.alloc (entryO x)).alloc (entryO y))
  generalize (w.alloc (entryO x)).alloc (entryO y) = W at c0 c1 hb ⊢
  go_wp2_with (with_reducible refine (Compare_any _ _ _).mono ?_; rintro e W1 ⟨rfl, rfl⟩)
  go_ret
  exact ⟨rfl, hb⟩

def cmpF : Value := .func (.func 44) #[] #[]
def maxR (x y : Rt) : Rt := if x.gen < y.gen then y else x

set_option maxHeartbeats 1600000 in
theorem MaxFunc_two {q : Nat} {x y : Rt} (w : World) (hq : w.heap[q]? = some (.cells (entC x y) 83 (0, 0))) :
    Calls Try.prog 43 #[.slice (some ⟨q, 0, none⟩) 2 2, cmpF] w fun e w' => e = .returned (.agg (cells (maxR x y))) ∧ Below w.heap.size w w' := by
  have hze := (zero_of_info infoE).1
  have hlt : q < w.heap.size := (Array.getElem?_eq_some_iff.1 hq).1
  have HR : ∀ (K : List (Nat × Obj)) (W : World), Kept w K W → W.heap[q]? = some (.cells (entC x y) 83 (0, 0)) := fun K W h => (h.bel.block q hlt).trans hq
  have hK0 := (Kept.start w).alloc (entryO Slt.nil)
  have r0 : ((w.alloc (entryO Slt.nil))).rangeAt q 0 (cells x).toList := range0 (HR _ _ hK0)
  have HQ := Lib.hid HR
  clear HR hq
  unfold cmpF
  go_enter Try.func43, Try.ntmps43
  go_upto_region 3 with fail
  change Code.wp _ _ _ _ (w.alloc (entryO Slt.nil))
  have hne : (w.alloc (entryO Slt.nil)).heap.size ≠ w.heap.size := by simp
  generalize w.alloc (entryO Slt.nil) = W0 at hK0 r0 hne ⊢
  have hK := hK0.alloc (entryO x)
  clear hK0
  go_wp2_with (first
    | (refine wpList_load_mid rfl 82 _ rfl q 0 rfl (cells x).toList _ r0 Try.underlying82 rfl (sizeEL x) ?_)
    | (refine wpList_store_new rfl 82 _ _ rfl (cells x) _ _ rfl rfl (sizeE x) rfl (cells_one x) ?_))
  clear r0
  change Code.wp _ _ _ _ (W0.alloc (entryO x))
  generalize W0.heap.size = u at hK hne ⊢
  generalize W0.alloc (entryO x) = W1 at hK ⊢
  go_loopw [6] (fun i wr => ∃ k : Nat, 1 ≤ k ∧ k ≤ 2 ∧ i = .int .i64 k ∧ Kept w [(u, entryO (if k = 1 then x else maxR x y)), (w.heap.size, entryO Slt.nil)] wr) (fun i _ => 2 - (intOf i).toNat)
  case atStart => exact ⟨1, by omega, by omega, rfl, by simpa using hK⟩
  case round =>
    clear hK
    obtain ⟨k, hk1, hk2, rfl, hk⟩ := hrel
    rcases (by omega : k = 1 ∨ k = 2) with rfl | rfl
    · rw [if_pos rfl] at hk
      obtain ⟨z, hz⟩ : ∃ z, z = cmpZ y.gen x.gen := ⟨_, rfl⟩
      have CC : Hid (∀ W, Calls Try.prog 44 #[.agg (cells y), .agg (cells x)] W fun e w' => e = .returned (.int .i64 z) ∧ Below W.heap.size W w') := Lib.hid (by rw [hz]; exact compare_any y x)
      rw [show ((1 : Nat) : Int) = 1 from rfl]
      have hS := hk.drew
      have HI : ∀ W, Kept w [(u, entryO x), (w.heap.size, entryO Slt.nil)] W → W.rangeAt q 8 (cells y).toList := fun W h => range1 (HQ.out _ W h)
      have HX : ∀ W, Kept w [(u, entryO x), (w.heap.size, entryO Slt.nil)] W → W.heap[u]? = some (.cells (cells x) 82 (0, 0)) := fun W h => h.at_ (q := u) (o := entryO x) (by simp)
      have HN := Lib.hid HI
      have HY := Lib.hid HX
      clear HI HX
      by_cases hg : x.gen < y.gen
      · have hz1 : z = 1 := by rw [hz]; unfold cmpZ; rw [if_neg (by omega), if_pos hg]
        subst hz1
        have hmx : maxR x y = y := if_pos hg
        have HM := Lib.hid hmx
        clear hz hg hmx
        go_wp2_with fail
        refine wp_region_class_lit (Kept w [(u, entryO x), (w.heap.size, entryO Slt.nil)]) (by kernel_rfl) (by kernel_rfl) hS ?_
        haveI : Nonempty {w' : World // Kept w [(u, entryO x), (w.heap.size, entryO Slt.nil)] w'} := ⟨⟨_, hS⟩⟩
        clear hS hk
        repeat (first | go_big_quiet_skip | (go_big_quiet_want; first | (refine quiet_load_row 82 _ rfl u rfl _ _ _ _ HY.out Try.underlying82 rfl (sizeE x) ?_; go_big_quiet_on; simp only [Act.put, List.setIfInBounds_toArray, List.set_cons_zero, List.set_cons_succ]) | (refine quiet_load_mid 82 _ rfl q 8 rfl (cells y).toList _ HN.out Try.underlying82 rfl (sizeEL y) ?_; go_big_quiet_on; simp only [Act.put, List.setIfInBounds_toArray, List.set_cons_zero, List.set_cons_succ]) | (go_big_quiet_op; first | go_big_quiet_on | go_big_quiet_call (first | (intro h1; (with_reducible refine (CC.out _).mono ?_); exact fun _ _ ⟨he, hb⟩ => ⟨he, h1.below hb⟩) | (intro _; rfl)))))
        refine wpQuiet_nil ?_
        intro w2 hw2
        have r1 := HN.out w2 hw2
        have hR := HY.out w2 hw2
        go_wp2_with (first
          | (refine wpList_load_mid rfl 82 _ rfl q 8 rfl (cells y).toList _ r1 Try.underlying82 rfl (sizeEL y) ?_)
          | (refine wpList_store_row rfl 82 _ _ rfl (u) _ rfl rfl _ _ hR (sizeE y) rfl (cells_one y) ?_))
        go_roundw
        case rel =>
          refine ⟨2, by omega, by omega, rfl, ?_⟩
          rw [if_neg (by omega), HM.out]
          exact hw2.setRow (by intro u hu; simp only [List.mem_cons, List.not_mem_nil, or_false] at hu; subst hu; exact fun e => hne e.symm)
        case measure => simp [intOf]
      · have hz1 : z ≤ 0 := by rw [hz]; unfold cmpZ; rw [if_neg (show ¬ x.gen < y.gen from hg)]; split <;> omega
        have d1 : ¬ (0 : Int) < z := by omega
        have hmx : maxR x y = x := if_neg hg
        have HM := Lib.hid hmx
        clear hz hg hmx hz1
        go_wp2_with fail
        refine wp_region_class_lit (Kept w [(u, entryO x), (w.heap.size, entryO Slt.nil)]) (by kernel_rfl) (by kernel_rfl) hS ?_
        haveI : Nonempty {w' : World // Kept w [(u, entryO x), (w.heap.size, entryO Slt.nil)] w'} := ⟨⟨_, hS⟩⟩
        clear hS hk
        repeat (first | go_big_quiet_skip | (go_big_quiet_want; first | (refine quiet_load_row 82 _ rfl u rfl _ _ _ _ HY.out Try.underlying82 rfl (sizeE x) ?_; go_big_quiet_on; simp only [Act.put, List.setIfInBounds_toArray, List.set_cons_zero, List.set_cons_succ]) | (refine quiet_load_mid 82 _ rfl q 8 rfl (cells y).toList _ HN.out Try.underlying82 rfl (sizeEL y) ?_; go_big_quiet_on; simp only [Act.put, List.setIfInBounds_toArray, List.set_cons_zero, List.set_cons_succ]) | (go_big_quiet_op; first | go_big_quiet_on | go_big_quiet_call (first | (intro h1; (with_reducible refine (CC.out _).mono ?_); exact fun _ _ ⟨he, hb⟩ => ⟨he, h1.below hb⟩) | (intro _; rfl)))))
        refine wpQuiet_nil ?_
        intro w2 hw2
        go_wp2_with fail
        go_roundw
        case rel =>
          refine ⟨2, by omega, by omega, rfl, ?_⟩
          rw [if_neg (by omega), HM.out]
          exact hw2
        case measure => simp [intOf]
    · rw [if_neg (by omega)] at hk
      obtain ⟨m, hm⟩ : ∃ m, m = maxR x y := ⟨_, rfl⟩
      rw [← hm] at hk
      have HM := Lib.hid hm
      clear hm
      have hX : wr.heap[u]? = some (.cells (cells m) 82 (0, 0)) := hk.at_ (q := u) (o := entryO m) (by simp)
      have hR : wr.heap[w.heap.size]? = some (.cells (cells Slt.nil) 82 (0, 0)) := hk.at_ (q := w.heap.size) (o := entryO Slt.nil) (by simp)
      have hbel := hk.bel
      clear hk
      rw [show ((2 : Nat) : Int) = 2 from rfl]
      go_wp2_with (first
        | (refine wpList_load_row rfl 82 _ rfl (u) rfl _ _ _ _ hX Try.underlying82 rfl (sizeE m) ?_)
        | (refine wpList_store_row rfl 82 _ _ rfl w.heap.size _ rfl rfl _ _ hR (sizeE m) rfl (cells_one m) ?_))
      exact bodyPost_ret (results_cell_row rfl _ _ _ _ _ _ _ rfl (setRow_heap _ _ _ _ _ _ hR) Try.underlying82 rfl (sizeE m)) rfl ⟨by rw [HM.out], below_row hbel (Nat.le_refl _)⟩

end Go.Proofs.Ytlojhdnahioicaa.Rot
