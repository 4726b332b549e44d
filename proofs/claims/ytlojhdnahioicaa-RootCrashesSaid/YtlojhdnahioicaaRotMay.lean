/-
  The walks of root.first and of root.mayBe.
-/
import Derived.Test.YtlojhdnahioicaaRotSmall
import Derived.Test.YtlojhdnahioicaaRotForm
namespace Go.Proofs.Ytlojhdnahioicaa.Rot
open Go.RowKit RowLaw
set_option maxRecDepth 100000
open Go.Proofs.Ytlojhdnahioicaa.Slt (Rt cells rootO infoR sizeR cells_one IsRt mayB May_any)
open Go.Proofs.Ytlojhdnahioicaa.Dev (Dev DS ptr)

theorem run_buildRoot (W : World) (a b c d e : Int) : (Instr.build 34 #[(0, .int .u64 a), (1, .int .u32 b), (4, .int .u32 c), (5, .int .u32 d), (6, .int .u32 e)]).run Try.prog W = .ok (.agg #[.int .u64 a, .int .u32 b, .int .u32 0, .int .u32 0, .int .u32 c, .int .u32 d, .int .u32 e, .int .u8 0]) W := by
  go_simp

set_option maxHeartbeats 800000 in
theorem first_any {n : Nat} (h : planOk n = true) (w : World) : Calls Try.prog 25 #[.int .u32 (n : Int)] w fun e w' => e = .returned (.agg (cells (fresh n))) ∧ Below w.heap.size w w' := by
  have hzp := (zero_of_info infoPlan).1
  have hzr := (zero_of_info infoR).1
  obtain ⟨h64, hbig⟩ : 64 ≤ n ∧ n ≤ 1048576 := by simpa [planOk] using h
  obtain ⟨f1, f2, f3, f4, f5, f6, f7, f8, f9⟩ := plan_facts h64 hbig
  have hL := Layout_yes h
  have hb := fun W => run_buildRoot W 1 n ((n : Int) - fsN n) 1 (fsN n)
  have hc : cells (fresh n) = #[.int .u64 1, .int .u32 (n : Int), .int .u32 0, .int .u32 0, .int .u32 ((n : Int) - (fsN n : Nat)), .int .u32 1, .int .u32 (fsN n : Nat), .int .u8 0] := by
    unfold cells fresh
    rw [show ((n - fsN n : Nat) : Int) = (n : Int) - (fsN n : Nat) from by omega]
    rfl
  rw [hc]
  clear f1 f3 f4 f5 f6 f7 f8 f9 hc
  generalize tlN n = t at *
  generalize pkN n = p at *
  generalize fsN n = f at *
  have hi : (Try.prog.info? 34).map (·.size) = some (#[.int .u64 1, .int .u32 (n : Int), .int .u32 0, .int .u32 0, .int .u32 ((n : Int) - (f : Int)), .int .u32 1, .int .u32 (f : Int), .int .u8 0] : Array Value).size := sizeR Slt.nil
  have hK := (Kept.start w).alloc (rootO Slt.nil)
  go_enter Try.func25, Try.ntmps25
  go_wp2_with fail
  change Calls _ _ _ (w.alloc (rootO Slt.nil)) _
  refine (hL _).mono ?_
  rintro e W1 ⟨rfl, hx⟩
  have hK1 := (hK.below hx).alloc (planO t p f)
  clear hx hK
  have tok : True := trivial
  go_wp2_with (first
    | (have _t := tok; refine wpList_store_new rfl 24 _ _ rfl (planCells t p f) _ _ rfl rfl (sizePlan t p f) rfl (planCells_one t p f) ?_; change wpList _ _ _ _ _ (W1.alloc (planO t p f)); generalize hW2 : W1.alloc (planO t p f) = W2 at hK1 ⊢; clear hW2; have c2 : W2.cell? ⟨W1.heap.size, 2, none⟩ = some (.int .u32 (f : Int)) := (cell_of_row W2 W1.heap.size 2 _ _ _ (hK1.at_ (q := W1.heap.size) (o := planO t p f) (by simp))).trans rfl; have hR : W2.heap[w.heap.size]? = some (.cells (cells Slt.nil) 34 (0, 0)) := hK1.at_ (q := w.heap.size) (o := rootO Slt.nil) (by simp); clear _t tok)
    | (refine wpList_store_row rfl 34 _ _ rfl w.heap.size #[.int .u64 1, .int .u32 (n : Int), .int .u32 0, .int .u32 0, .int .u32 ((n : Int) - (f : Int)), .int .u32 1, .int .u32 (f : Int), .int .u8 0] rfl rfl _ _ hR hi rfl (by simp [Value.oneCell']) ?_))
  exact bodyPost_ret (results_cell_row rfl _ _ _ _ _ _ _ rfl (setRow_heap _ _ _ _ _ _ hR) Try.underlying34 rfl hi) rfl ⟨rfl, Dev.below_row hK1.bel (Nat.le_refl _)⟩

set_option maxHeartbeats 6400000 in
theorem mayBe_any {n : Nat} (h : planOk n = true) (r : Rt) (w : World) : Calls Try.prog 30 #[.agg (cells r), .int .u32 (n : Int)] w fun e w' => e = .returned (.bool (mayR r n)) ∧ Below w.heap.size w w' := by
  have hzp := (zero_of_info infoPlan).1
  obtain ⟨h64, hbig⟩ : 64 ≤ n ∧ n ≤ 1048576 := by simpa [planOk] using h
  obtain ⟨-, f2, -, -, -, f6, -, -, -⟩ := plan_facts h64 hbig
  have hL := Layout_yes h
  have hM := May_any r
  obtain ⟨ans, ha⟩ : ∃ ans, ans = mayR r n := ⟨_, rfl⟩
  rw [← ha]
  unfold mayR at ha
  generalize tlN n = t at *
  generalize pkN n = p at *
  generalize fsN n = f at *
  generalize mayB r = m at *
  have HA := Lib.hid ha
  clear ha
  have hK := (Kept.start w).alloc (rootO r)
  clear h
  go_enter Try.func30, Try.ntmps30
  go_wp2_with fail
  change Calls _ _ _ (w.alloc (rootO r)) _
  refine (hL _).mono ?_
  rintro e W1 ⟨rfl, hx⟩
  have hK1 := (hK.below hx).alloc (planO t p f)
  clear hx hK hL
  have tok : True := trivial
  go_wp2_with (first
    | (have _t := tok; refine wpList_store_new rfl 24 _ _ rfl (planCells t p f) _ _ rfl rfl (sizePlan t p f) rfl (planCells_one t p f) ?_; change wpList _ _ _ _ _ (W1.alloc (planO t p f)); generalize hW2 : W1.alloc (planO t p f) = W2 at hK1 ⊢; clear hW2; have hR : W2.heap[w.heap.size]? = some (.cells (cells r) 34 (0, 0)) := hK1.at_ (q := w.heap.size) (o := rootO r) (by simp); clear _t tok)
    | (refine wpList_load_row rfl 34 _ rfl w.heap.size rfl _ _ _ _ hR Try.underlying34 rfl (sizeR r) ?_)
    | (with_reducible refine (hM _).mono ?_))
  rintro e W3 ⟨rfl, hx⟩
  have hK3 := hK1.below hx
  clear hx hM hR hK1
  have hb := hK3.bel
  have hC : IsRt W3 w.heap.size r := hK3.at_ (q := w.heap.size) (o := rootO r) (by simp)
  have hP : W3.heap[W1.heap.size]? = some (.cells (planCells t p f) 24 (0, 0)) := hK3.at_ (q := W1.heap.size) (o := planO t p f) (by simp)
  have e1 := hC.size
  have e2 := hC.picks
  have e4 := hC.free
  have e6 := hC.hint
  have p1 : W3.cell? ⟨W1.heap.size, 1, none⟩ = some (.int .u32 (p : Int)) := (cell_of_row W3 W1.heap.size 1 _ _ _ hP).trans rfl
  have p2 : W3.cell? ⟨W1.heap.size, 2, none⟩ = some (.int .u32 (f : Int)) := (cell_of_row W3 W1.heap.size 2 _ _ _ hP).trans rfl
  clear hP hC hK3
  have s0 : (0 : Int) ≤ (p : Int) := by omega
  have s1 : (p : Int) ≤ 32 := by omega
  cases m with
  | false =>
    go_wp2
    go_ret
    exact ⟨by rw [HA.out]; rfl, hb⟩
  | true =>
    by_cases hh : r.size = n
    case neg =>
      have d0 : ((((r.size : Int) == (n : Int))) = false) := by rw [beq_eq_false_iff_ne]; omega
      have H0 := Lib.hid hh
      clear hh
      go_wp2
      go_ret
      exact ⟨by rw [HA.out]; simp [H0.out] <;> omega, hb⟩
    case pos =>
      have d0 : ((((r.size : Int) == (n : Int))) = true) := by rw [beq_iff_eq]; omega
      have H0 := Lib.hid hh
      clear hh
      by_cases hh : r.picks / 2 ^ p = 0
      case neg =>
        have d1 : ((((r.picks : Int) / 2 ^ p == 0)) = false) := by
          rw [beq_eq_false_iff_ne]; intro h9; apply hh; exact_mod_cast h9
        have H1 := Lib.hid hh
        clear hh
        go_wp2
        go_ret
        exact ⟨by rw [HA.out]; simp [H0.out, H1.out] <;> omega, hb⟩
      case pos =>
        have d1 : ((((r.picks : Int) / 2 ^ p == 0)) = true) := by
          rw [beq_iff_eq]; exact_mod_cast hh
        have H1 := Lib.hid hh
        clear hh
        by_cases hh : f ≤ r.hint
        case neg =>
          have d2 : ¬ (f : Int) ≤ (r.hint : Int) := by omega
          have H2 := Lib.hid hh
          clear hh
          go_wp2
          go_ret
          exact ⟨by rw [HA.out]; simp [H0.out, H1.out, H2.out] <;> omega, hb⟩
        case pos =>
          have d2 : (f : Int) ≤ (r.hint : Int) := by omega
          have H2 := Lib.hid hh
          clear hh
          by_cases hh : r.free ≤ n - f
          case neg =>
            have d3 : ¬ (r.free : Int) ≤ (n : Int) - (f : Int) := by omega
            have H3 := Lib.hid hh
            clear hh
            go_wp2
            go_ret
            exact ⟨by rw [HA.out]; simp [H0.out, H1.out, H2.out, H3.out] <;> omega, hb⟩
          case pos =>
            have d3 : (r.free : Int) ≤ (n : Int) - (f : Int) := by omega
            have H3 := Lib.hid hh
            clear hh
            go_wp2
            go_ret
            exact ⟨by rw [HA.out]; simp [H0.out, H1.out, H2.out, H3.out] <;> omega, hb⟩

end Go.Proofs.Ytlojhdnahioicaa.Rot
