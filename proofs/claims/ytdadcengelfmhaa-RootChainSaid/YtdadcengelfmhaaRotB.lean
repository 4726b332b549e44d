/-
  RotB: RotSmall, RotMay, Splice, RotMount, RotEnts, RotMnt.
-/
import Derived.Test.YtdadcengelfmhaaPln
import Derived.Test.YtdadcengelfmhaaDev3
import Derived.Test.YtdadcengelfmhaaSlt1
import Derived.Test.YtdadcengelfmhaaRotA
import Derived.Test.YtdadcengelfmhaaKept
import Derived.Test.YtdadcengelfmhaaSlt3
/-
  The small functions of package root: pages, Layout, exists, first, home.
-/
namespace Go.Proofs.Ytdadcengelfmhaa.Rot
open Go.RowKit RowLaw
set_option maxRecDepth 100000
open Go.Proofs.Ytdadcengelfmhaa.Slt (Rt cells rootO infoR sizeR cells_one IsRt)
open Go.Proofs.Ytdadcengelfmhaa.Dev (Dev DS ptr)

theorem pages_any {n k : Nat} (h : n + k < 4294967296) (hk : 0 < k) (w : World) : Calls Try.prog 35 #[.int .u32 (n : Int), .int .u32 (k : Int)] w fun e w' => e = .returned (.int .u32 (((n + k - 1) / k : Nat) : Int)) ∧ w' = w := by
  have hk0 : ((k : Int) == 0) = false := by simp; omega
  have he : ((n : Int) + (k : Int) - 1) / (k : Int) = (((n + k - 1) / k : Nat) : Int) := by
    have h2 : ((n : Int) + (k : Int) - 1) = ((n + k - 1 : Nat) : Int) := by omega
    rw [h2, ← Int.natCast_ediv]
  have HE := Lib.hid he
  clear he
  go_enter Try.func35, Try.ntmps35
  go_wp2
  go_ret
  exact ⟨congrArg (fun z => Ending.returned (Value.int .u32 z)) HE.out, rfl⟩

theorem Layout_no {n : Nat} (hn : n < 4294967296) (h : planOk n = false) (w : World) : Calls Try.prog 12 #[.int .u32 (n : Int)] w fun e w' => e = .returned (.tuple #[.agg (planCells 0 0 0), .int .i64 2]) ∧ Below w.heap.size w w' := by
  have hzp := (zero_of_info infoPlan).1
  have hr : ¬ (64 ≤ n ∧ n ≤ 1048576) := by simpa [planOk] using h
  have hR : ∀ (cs : Array Value), (w.alloc (.cells cs 51)).heap[w.heap.size]? = some (.cells cs 51 (0, 0)) := fun cs => heap_alloc_new w _
  have hbel : ∀ o : Obj, Below w.heap.size w (w.alloc o) := fun o => Below.alloc (Below.refl _ _) (Nat.le_refl _) o
  go_enter Try.func12, Try.ntmps12
  go_wp2_with (refine wpList_store_new rfl 51 _ _ rfl (planCells 0 0 0) _ _ rfl rfl (sizePlan 0 0 0) rfl (planCells_one 0 0 0) ?_)
  all_goals first
    | exact bodyPost_ret (results_row_tmp rfl _ _ _ _ _ _ _ rfl (hR _) Try.underlying51 rfl (sizePlan 0 0 0)) rfl ⟨rfl, hbel _⟩
    | (exfalso; omega)

set_option maxHeartbeats 400000 in
theorem Layout_yes {n : Nat} (h : planOk n = true) (w : World) : Calls Try.prog 12 #[.int .u32 (n : Int)] w fun e w' => e = .returned (.tuple #[.agg (planCells (tlN n) (pkN n) (fsN n)), .int .i64 0]) ∧ Below w.heap.size w w' := by
  have hzp := (zero_of_info infoPlan).1
  obtain ⟨h64, hbig⟩ : 64 ≤ n ∧ n ≤ 1048576 := by simpa [planOk] using h
  obtain ⟨f1, f2, f3, f4, f5, f6, f7, f8, f9⟩ := plan_facts h64 hbig
  have hup1 : ∀ W, Calls Try.prog 35 #[.int .u32 (n : Int), .int .u32 64] W fun e w' => e = .returned (.int .u32 (tlN n : Nat)) ∧ w' = W := fun W => by
    have := pages_any (n := n) (k := 64) (by omega) (by omega) W
    exact this
  have hup2 : ∀ W, Calls Try.prog 35 #[.int .u32 (tlN n : Int), .int .u32 1024] W fun e w' => e = .returned (.int .u32 (pkN n : Nat)) ∧ w' = W := fun W => by
    have := pages_any (n := tlN n) (k := 1024) (by omega) (by omega) W
    exact this
  have hfs : (2 : Int) + 2 * (pkN n : Int) + 2 * (tlN n : Int) = (fsN n : Nat) := by unfold fsN; omega
  have hR : ∀ (cs : Array Value), (w.alloc (.cells cs 51)).heap[w.heap.size]? = some (.cells cs 51 (0, 0)) := fun cs => heap_alloc_new w _
  have hbel : ∀ o : Obj, Below w.heap.size w (w.alloc o) := fun o => Below.alloc (Below.refl _ _) (Nat.le_refl _) o
  go_enter Try.func12, Try.ntmps12
  go_wp2_with (first
    | (with_reducible refine (hup1 _).mono ?_; rintro e W1 ⟨rfl, rfl⟩)
    | (with_reducible refine (hup2 _).mono ?_; rintro e W1 ⟨rfl, rfl⟩)
    | (refine wpList_store_new rfl 51 (.tmp 2) (.tmp 25) rfl #[.int .u32 (tlN n : Int), .int .u32 (pkN n : Int), .int .u32 (2 + 2 * ((pkN n : Int) + (tlN n : Int)))] _ _ rfl rfl (sizePlan 0 0 0) rfl (by simp [Value.oneCell']) ?_))
  have hc : (#[.int .u32 (tlN n : Int), .int .u32 (pkN n : Int), .int .u32 (2 + 2 * ((pkN n : Int) + (tlN n : Int)))] : Array Value) = planCells (tlN n) (pkN n) (fsN n) := by
    unfold planCells
    rw [← hfs]
    congr 5
    omega
  rw [hc]
  exact bodyPost_ret (results_row_tmp rfl _ _ _ _ _ _ _ rfl (hR _) Try.underlying51 rfl (sizePlan _ _ _)) rfl ⟨rfl, hbel _⟩

theorem Layout_any {n : Nat} (hn : n < 4294967296) (w : World) : Calls Try.prog 12 #[.int .u32 (n : Int)] w fun e w' => e = .returned (planV n) ∧ Below w.heap.size w w' := by
  unfold planV
  cases h : planOk n with
  | true => exact Layout_yes h w
  | false => exact Layout_no hn h w

/-! devices -/
section
variable {w : World} {p : Nat} {B : List Nat} {s : DS}
theorem Size_any (h : Dev w p B s) : Calls Try.prog 15 #[ptr p] w fun e w' => e = .returned (.int .u32 (s.n : Int)) ∧ w' = w := by
  obtain ⟨bm, pv, h⟩ := h
  have c0 : w.cell? ⟨p, 0, none⟩ = some (.int .u32 (s.n : Int)) := h.cell 0
  clear h
  have hp : (binOp .eql 30 (.pointer (some ⟨p, 0, none⟩)) (.pointer none)).run Try.prog w = .ok (.bool false) w := by kernel_rfl
  unfold ptr
  go_enter Try.func15, Try.ntmps15
  go_wp2
  go_ret
  exact ⟨rfl, rfl⟩
theorem Size_nil (w : World) : Calls Try.prog 15 #[.pointer none] w fun e w' => e = .returned (.int .u32 0) ∧ w' = w := by
  go_enter Try.func15, Try.ntmps15
  go_wp2
  go_ret
  exact ⟨rfl, rfl⟩
theorem exists_any (h : Dev w p B s) : Calls Try.prog 13 #[ptr p] w fun e w' => e = .returned (.bool true) ∧ w' = w := by
  have hn : ((s.n : Int) != 0) = true := by obtain ⟨_, _, h⟩ := h; have := h.okN; simp; omega
  have hS := Size_any h
  go_enter Try.func13, Try.ntmps13
  go_wp2_with (with_reducible refine hS.mono ?_; rintro e W1 ⟨rfl, rfl⟩)
  go_ret
  exact ⟨rfl, rfl⟩
theorem exists_nil (w : World) : Calls Try.prog 13 #[.pointer none] w fun e w' => e = .returned (.bool false) ∧ w' = w := by
  have hS := Size_nil w
  go_enter Try.func13, Try.ntmps13
  go_wp2_with (with_reducible refine hS.mono ?_; rintro e W1 ⟨rfl, rfl⟩)
  go_ret
  exact ⟨rfl, rfl⟩
end

theorem home_any (r : Rt) (w : World) : Calls Try.prog 42 #[.agg (cells r)] w fun e w' => e = .returned (.int .u32 ((r.gen % 2 : Nat) : Int)) ∧ Below w.heap.size w w' := by
  have hb : Below w.heap.size w (w.alloc (.cells (cells r) 25)) := (Below.refl _ _).alloc (Nat.le_refl _) _
  have c0 := (IsRt.new w r).gen
  have hm : (r.gen : Int) % 2 = ((r.gen % 2 : Nat) : Int) := by omega
  have HM := Lib.hid hm
  clear hm
  go_enter Try.func42, Try.ntmps42
  go_upto_region 1 with fail
  generalize w.alloc (Obj.cells (cells r) 25) = W at c0 hb ⊢
  go_wp2
  go_ret
  exact ⟨congrArg (fun z => Ending.returned (Value.int .u32 z)) HM.out, hb⟩

end Go.Proofs.Ytdadcengelfmhaa.Rot

/-
  The walks of root.first and of root.mayBe.
-/
namespace Go.Proofs.Ytdadcengelfmhaa.Rot
open Go.RowKit RowLaw
set_option maxRecDepth 100000
open Go.Proofs.Ytdadcengelfmhaa.Slt (Rt cells rootO infoR sizeR cells_one IsRt mayB May_any)
open Go.Proofs.Ytdadcengelfmhaa.Dev (Dev DS ptr)

theorem run_buildRoot (W : World) (a b c d e : Int) : (Instr.build 25 #[(0, .int .u64 a), (1, .int .u32 b), (4, .int .u32 c), (5, .int .u32 d), (6, .int .u32 e)]).run Try.prog W = .ok (.agg #[.int .u64 a, .int .u32 b, .int .u32 0, .int .u32 0, .int .u32 c, .int .u32 d, .int .u32 e, .int .u8 0]) W := by
  go_simp

set_option maxHeartbeats 800000 in
theorem first_any {n : Nat} (h : planOk n = true) (w : World) : Calls Try.prog 14 #[.int .u32 (n : Int)] w fun e w' => e = .returned (.agg (cells (fresh n))) ∧ Below w.heap.size w w' := by
  have hzp := (zero_of_info infoPlan).1
  have hzr := (zero_of_info infoR).1
  obtain ⟨h64, hbig⟩ : 64 ≤ n ∧ n ≤ 1048576 := by simpa [planOk] using h
  obtain ⟨f1, f2, f3, f4, f5, f6, f7, f8, f9⟩ := plan_facts h64 hbig
  have hL := Layout_yes h
  have hb := fun W => run_buildRoot W 1 n ((n : Int) - fsN n) 1 (fsN n)
  have hc : cells (fresh n) = #[.int .u64 1, .int .u32 (n : Int), .int .u32 0, .int .u32 0, .int .u32 ((n : Int) - (fsN n : Nat)), .int .u32 1, .int .u32 (fsN n : Nat), .int .u8 0] := by
    unfold cells fresh
    rw [show ((n - fsN n : Nat) : Int) = (n : Int) - (fsN n : Nat) from by omega]
    rfl
  rw [hc]
  clear f1 f3 f4 f5 f6 f7 f8 f9 hc
  generalize tlN n = t at *
  generalize pkN n = p at *
  generalize fsN n = f at *
  have hi : (Try.prog.info? 25).map (·.size) = some (#[.int .u64 1, .int .u32 (n : Int), .int .u32 0, .int .u32 0, .int .u32 ((n : Int) - (f : Int)), .int .u32 1, .int .u32 (f : Int), .int .u8 0] : Array Value).size := sizeR Slt.nil
  have hK := (Kept.start w).alloc (rootO Slt.nil)
  go_enter Try.func14, Try.ntmps14
  go_wp2_with fail
  change Calls _ _ _ (w.alloc (rootO Slt.nil)) _
  refine (hL _).mono ?_
  rintro e W1 ⟨rfl, hx⟩
  have hK1 := (hK.below hx).alloc (planO t p f)
  clear hx hK
  have tok : True := trivial
  go_wp2_with (first
    | (have _t := tok; refine wpList_store_new rfl 51 _ _ rfl (planCells t p f) _ _ rfl rfl (sizePlan t p f) rfl (planCells_one t p f) ?_; change wpList _ _ _ _ _ (W1.alloc (planO t p f)); generalize hW2 : W1.alloc (planO t p f) = W2 at hK1 ⊢; clear hW2; have c2 : W2.cell? ⟨W1.heap.size, 2, none⟩ = some (.int .u32 (f : Int)) := (cell_of_row W2 W1.heap.size 2 _ _ _ (hK1.at_ (q := W1.heap.size) (o := planO t p f) (by simp))).trans rfl; have hR : W2.heap[w.heap.size]? = some (.cells (cells Slt.nil) 25 (0, 0)) := hK1.at_ (q := w.heap.size) (o := rootO Slt.nil) (by simp); clear _t tok)
    | (refine wpList_store_row rfl 25 _ _ rfl w.heap.size #[.int .u64 1, .int .u32 (n : Int), .int .u32 0, .int .u32 0, .int .u32 ((n : Int) - (f : Int)), .int .u32 1, .int .u32 (f : Int), .int .u8 0] rfl rfl _ _ hR hi rfl (by simp [Value.oneCell']) ?_))
  exact bodyPost_ret (results_cell_row rfl _ _ _ _ _ _ _ rfl (setRow_heap _ _ _ _ _ _ hR) Try.underlying25 rfl hi) rfl ⟨rfl, Dev.below_row hK1.bel (Nat.le_refl _)⟩

set_option maxHeartbeats 6400000 in
theorem mayBe_any {n : Nat} (h : planOk n = true) (r : Rt) (w : World) : Calls Try.prog 24 #[.agg (cells r), .int .u32 (n : Int)] w fun e w' => e = .returned (.bool (mayR r n)) ∧ Below w.heap.size w w' := by
  have hzp := (zero_of_info infoPlan).1
  obtain ⟨h64, hbig⟩ : 64 ≤ n ∧ n ≤ 1048576 := by simpa [planOk] using h
  obtain ⟨-, f2, -, -, -, f6, -, -, -⟩ := plan_facts h64 hbig
  have hL := Layout_yes h
  have hM := May_any r
  obtain ⟨ans, ha⟩ : ∃ ans, ans = mayR r n := ⟨_, rfl⟩
  rw [← ha]
  unfold mayR at ha
  generalize tlN n = t at *
  generalize pkN n = p at *
  generalize fsN n = f at *
  generalize mayB r = m at *
  have HA := Lib.hid ha
  clear ha
  have hK := (Kept.start w).alloc (rootO r)
  clear h
  go_enter Try.func24, Try.ntmps24
  go_wp2_with fail
  change Calls _ _ _ (w.alloc (rootO r)) _
  refine (hL _).mono ?_
  rintro e W1 ⟨rfl, hx⟩
  have hK1 := (hK.below hx).alloc (planO t p f)
  clear hx hK hL
  have tok : True := trivial
  go_wp2_with (first
    | (have _t := tok; refine wpList_store_new rfl 51 _ _ rfl (planCells t p f) _ _ rfl rfl (sizePlan t p f) rfl (planCells_one t p f) ?_; change wpList _ _ _ _ _ (W1.alloc (planO t p f)); generalize hW2 : W1.alloc (planO t p f) = W2 at hK1 ⊢; clear hW2; have hR : W2.heap[w.heap.size]? = some (.cells (cells r) 25 (0, 0)) := hK1.at_ (q := w.heap.size) (o := rootO r) (by simp); clear _t tok)
    | (refine wpList_load_row rfl 25 _ rfl w.heap.size rfl _ _ _ _ hR Try.underlying25 rfl (sizeR r) ?_)
    | (with_reducible refine (hM _).mono ?_))
  rintro e W3 ⟨rfl, hx⟩
  have hK3 := hK1.below hx
  clear hx hM hR hK1
  have hb := hK3.bel
  have hC : IsRt W3 w.heap.size r := hK3.at_ (q := w.heap.size) (o := rootO r) (by simp)
  have hP : W3.heap[W1.heap.size]? = some (.cells (planCells t p f) 51 (0, 0)) := hK3.at_ (q := W1.heap.size) (o := planO t p f) (by simp)
  have e1 := hC.size
  have e2 := hC.picks
  have e4 := hC.free
  have e6 := hC.hint
  have p1 : W3.cell? ⟨W1.heap.size, 1, none⟩ = some (.int .u32 (p : Int)) := (cell_of_row W3 W1.heap.size 1 _ _ _ hP).trans rfl
  have p2 : W3.cell? ⟨W1.heap.size, 2, none⟩ = some (.int .u32 (f : Int)) := (cell_of_row W3 W1.heap.size 2 _ _ _ hP).trans rfl
  clear hP hC hK3
  have s0 : (0 : Int) ≤ (p : Int) := by omega
  have s1 : (p : Int) ≤ 32 := by omega
  cases m with
  | false =>
    go_wp2
    go_ret
    exact ⟨by rw [HA.out]; rfl, hb⟩
  | true =>
    by_cases hh : r.size = n
    case neg =>
      have d0 : ((((r.size : Int) == (n : Int))) = false) := by rw [beq_eq_false_iff_ne]; omega
      have H0 := Lib.hid hh
      clear hh
      go_wp2
      go_ret
      exact ⟨by rw [HA.out]; simp [H0.out] <;> omega, hb⟩
    case pos =>
      have d0 : ((((r.size : Int) == (n : Int))) = true) := by rw [beq_iff_eq]; omega
      have H0 := Lib.hid hh
      clear hh
      by_cases hh : r.picks / 2 ^ p = 0
      case neg =>
        have d1 : ((((r.picks : Int) / 2 ^ p == 0)) = false) := by
          rw [beq_eq_false_iff_ne]; intro h9; apply hh; exact_mod_cast h9
        have H1 := Lib.hid hh
        clear hh
        go_wp2
        go_ret
        exact ⟨by rw [HA.out]; simp [H0.out, H1.out] <;> omega, hb⟩
      case pos =>
        have d1 : ((((r.picks : Int) / 2 ^ p == 0)) = true) := by
          rw [beq_iff_eq]; exact_mod_cast hh
        have H1 := Lib.hid hh
        clear hh
        by_cases hh : f ≤ r.hint
        case neg =>
          have d2 : ¬ (f : Int) ≤ (r.hint : Int) := by omega
          have H2 := Lib.hid hh
          clear hh
          go_wp2
          go_ret
          exact ⟨by rw [HA.out]; simp [H0.out, H1.out, H2.out] <;> omega, hb⟩
        case pos =>
          have d2 : (f : Int) ≤ (r.hint : Int) := by omega
          have H2 := Lib.hid hh
          clear hh
          by_cases hh : r.free ≤ n - f
          case neg =>
            have d3 : ¬ (r.free : Int) ≤ (n : Int) - (f : Int) := by omega
            have H3 := Lib.hid hh
            clear hh
            go_wp2
            go_ret
            exact ⟨by rw [HA.out]; simp [H0.out, H1.out, H2.out, H3.out] <;> omega, hb⟩
          case pos =>
            have d3 : (r.free : Int) ≤ (n : Int) - (f : Int) := by omega
            have H3 := Lib.hid hh
            clear hh
            go_wp2
            go_ret
            exact ⟨by rw [HA.out]; simp [H0.out, H1.out, H2.out, H3.out] <;> omega, hb⟩

end Go.Proofs.Ytdadcengelfmhaa.Rot

/-
  A row stored into the middle of a block that is known whole.
-/
namespace Go.Proofs.Ytdadcengelfmhaa.RowLaw
open Go.RowKit

def spliceA (cs : Array Value) (o : Nat) : List Value → Array Value
  | [] => cs
  | v :: vs => spliceA (cs.setIfInBounds o v) (o + 1) vs
theorem splice_size (vs : List Value) : ∀ (cs : Array Value) (o : Nat), (spliceA cs o vs).size = cs.size := by
  induction vs with
  | nil => intro cs o; rfl
  | cons v vs ih => intro cs o; unfold spliceA; rw [ih]; simp
theorem splice_get (vs : List Value) : ∀ (cs : Array Value) (o i : Nat), o + vs.length ≤ cs.size → (spliceA cs o vs)[i]? = if o ≤ i ∧ i < o + vs.length then vs[i - o]? else cs[i]? := by
  induction vs with
  | nil => intro cs o i _; unfold spliceA; rw [if_neg (by simp)]
  | cons v vs ih =>
    intro cs o i h
    simp only [List.length_cons] at h
    unfold spliceA
    rw [ih _ _ _ (by simp; omega)]
    simp only [List.length_cons]
    by_cases h1 : o + 1 ≤ i ∧ i < o + 1 + vs.length
    · rw [if_pos h1, if_pos ⟨by omega, by omega⟩, show i - o = (i - (o + 1)) + 1 from by omega, List.getElem?_cons_succ]
    · rw [if_neg h1]
      by_cases h2 : i = o
      · subst h2
        rw [if_pos ⟨by omega, by omega⟩, Nat.sub_self, List.getElem?_cons_zero, Array.getElem?_setIfInBounds_self_of_lt (by omega)]
      · rw [if_neg (fun h3 => h1 ⟨by omega, by omega⟩), Array.getElem?_setIfInBounds_ne (fun e => h2 e.symm)]
theorem setCells_block (q : Nat) (T : TypeId) (vs : List Value) : ∀ (cs : Array Value) (o : Nat) (W : World), W.heap[q]? = some (.cells cs T (0, 0)) →
    (W.setCells q o vs).heap[q]? = some (.cells (spliceA cs o vs) T (0, 0)) ∧ (∀ k, k ≠ q → (W.setCells q o vs).heap[k]? = W.heap[k]?) ∧ (W.setCells q o vs).os = W.os ∧ (W.setCells q o vs).tape = W.tape ∧ (W.setCells q o vs).output = W.output ∧ (W.setCells q o vs).heap.size = W.heap.size := by
  induction vs with
  | nil => intro cs o W h; exact ⟨h, fun _ _ => rfl, rfl, rfl, rfl, rfl⟩
  | cons v vs ih =>
    intro cs o W h
    have h1 := heap_setCell_same W q o cs T v h
    obtain ⟨i1, i2, i3, i4, i5, i6⟩ := ih (cs.setIfInBounds o v) (o + 1) (W.setCell ⟨q, o, none⟩ v) h1
    refine ⟨i1, fun k hk => (i2 k hk).trans (heap_setCell_other W ⟨q, o, none⟩ k v hk), i3, i4, i5, i6.trans (by simp [World.setCell])⟩
theorem there_block {W : World} {q : Nat} {cs : Array Value} {T : TypeId} (h : W.heap[q]? = some (.cells cs T (0, 0))) (o n : Nat) (hn : o + n ≤ cs.size) : W.there q o n := fun j hj =>
  ⟨by rw [cell_of_row W q (o + j) _ _ _ h, Array.getElem?_eq_getElem (by omega)]; rfl, frozen_of_row W q (o + j) _ _ h⟩
theorem quiet_load_mid {P : Program} {I : World → Prop} {K : Act → Prop} {o : Oper} {a : Act} (ty : TypeId) (x : Operand) (ho : o.op = .load ty x) (b off : Nat) (hx : a.eval x = .pointer (some ⟨b, off, none⟩)) (cs : List Value) (d : TypeDesc) (hc : ∀ w : World, I w → w.rangeAt b off cs)
    (hu : P.underlying ty = some d) (hd : d.isRow = true) (hi : (P.info? ty).map (·.size) = some cs.length)
    (hk : K (a.put o.dst (.agg cs.toArray))) : o.quiet P a (fun w' => ∃ x : {w' : World // I w'}, w' = x.1) K :=
  ⟨.agg cs.toArray, fun w hw => by
    obtain ⟨y, rfl⟩ := hw
    unfold Oper.quietAt execOp
    simp only [ho, hx, Instr.loadAt, Instr.sureAddr, Sem.run_bind, Sem.run_pure, Result.andThen_ok, run_loadVar_mid y.1 b off ty cs d (hc y.1 y.2) hu hd hi]
    exact ⟨rfl, rfl⟩, hk⟩
end Go.Proofs.Ytdadcengelfmhaa.RowLaw
namespace Go.Proofs.Ytdadcengelfmhaa
open Go.RowKit RowLaw
theorem Kept.setCells {w W : World} {K : List (Nat × Obj)} {q o : Nat} {cs : Array Value} {T : TypeId} {vs : List Value} (h : Kept w ((q, .cells cs T (0, 0)) :: K) W) (hne : ∀ x ∈ K, x.1 ≠ q) : Kept w ((q, .cells (spliceA cs o vs) T (0, 0)) :: K) (W.setCells q o vs) := by
  obtain ⟨h1, h2, h3, h4, h5, h6⟩ := setCells_block q T vs cs o W (h.at_ List.mem_cons_self)
  exact h.put hne h1 h3 h4 h5 (by omega) h2
end Go.Proofs.Ytdadcengelfmhaa

/-
  Which root a device has: entries, the greatest of two, Mount.
-/
namespace Go.Proofs.Ytdadcengelfmhaa.Rot
open Go.RowKit RowLaw Crc
set_option maxRecDepth 100000
open Go.Proofs.Ytdadcengelfmhaa.Slt (Rt cells rootO infoR sizeR cells_one IsRt getR getE getR_fits getE_cases Get_any)
open Go.Proofs.Ytdadcengelfmhaa.Dev (Dev DS ptr readB readR readE Read_any below_row)

def cmpZ (a b : Nat) : Int := if a < b then -1 else if b < a then 1 else 0
theorem isNaN_any (a : Nat) (w : World) : Calls Try.prog 62 #[.int .u64 (a : Int)] w fun e w' => e = .returned (.bool false) ∧ w' = w := by
  go_enter Try.func62, Try.ntmps62
  go_wp2
  go_ret
  exact ⟨by simp, rfl⟩
theorem Compare_any (a b : Nat) (w : World) : Calls Try.prog 47 #[.int .u64 (a : Int), .int .u64 (b : Int)] w fun e w' => e = .returned (.int .i64 (cmpZ a b)) ∧ w' = w := by
  obtain ⟨z, hz⟩ : ∃ z, z = cmpZ a b := ⟨_, rfl⟩
  rw [← hz]
  unfold cmpZ at hz
  have HZ := Lib.hid hz
  clear hz
  by_cases h1 : a < b
  · have H1 := Lib.hid h1
    have d1 : (a : Int) < (b : Int) := by omega
    clear h1
    go_enter Try.func47, Try.ntmps47
    go_wp2_with (with_reducible refine (isNaN_any _ _).mono ?_; rintro e W1 ⟨rfl, rfl⟩)
    go_ret
    exact ⟨congrArg (fun z => Ending.returned (Value.int .i64 z)) (HZ.out.trans (if_pos H1.out)).symm, rfl⟩
  · have H1 := Lib.hid h1
    have d1 : ¬ (a : Int) < (b : Int) := by omega
    by_cases h2 : b < a
    · have H2 := Lib.hid h2
      have d2 : (b : Int) < (a : Int) := by omega
      clear h1 h2
      go_enter Try.func47, Try.ntmps47
      go_wp2_with (with_reducible refine (isNaN_any _ _).mono ?_; rintro e W1 ⟨rfl, rfl⟩)
      go_ret
      exact ⟨congrArg (fun z => Ending.returned (Value.int .i64 z)) (HZ.out.trans ((if_neg H1.out).trans (if_pos H2.out))).symm, rfl⟩
    · have H2 := Lib.hid h2
      have d2 : ¬ (b : Int) < (a : Int) := by omega
      clear h1 h2
      go_enter Try.func47, Try.ntmps47
      go_wp2_with (with_reducible refine (isNaN_any _ _).mono ?_; rintro e W1 ⟨rfl, rfl⟩)
      go_ret
      exact ⟨congrArg (fun z => Ending.returned (Value.int .i64 z)) (HZ.out.trans ((if_neg H1.out).trans (if_neg H2.out))).symm, rfl⟩

/-! entries -/
def entC (x y : Rt) : Array Value := cells x ++ cells y
def entryO (r : Rt) : Obj := .cells (cells r) 69
def entsO (x y : Rt) : Obj := .cells (entC x y) 70
theorem infoE : (Try.prog.info? 69).map (fun i => (i.zero, i.size)) = some (some (.agg (cells Slt.nil)), 8) := by kernel_rfl
theorem sizeE (r : Rt) : (Try.prog.info? 69).map (·.size) = some (cells r).size := (zero_of_info infoE).2
theorem sizeEL (r : Rt) : (Try.prog.info? 69).map (·.size) = some (cells r).toList.length := (zero_of_info infoE).2
theorem infoEs : (Try.prog.info? 70).map (fun i => (i.zero, i.size)) = some (some (.agg (entC Slt.nil Slt.nil)), 16) := by kernel_rfl
theorem entC_size (x y : Rt) : (entC x y).size = 16 := rfl
theorem sizeEs (x y : Rt) : (Try.prog.info? 70).map (·.size) = some (entC x y).size := (zero_of_info infoEs).2
theorem entC_one (x y : Rt) : (entC x y).all (·.oneCell') = true := by simp [entC, cells, Value.oneCell']
theorem range0 {W : World} {q : Nat} {x y : Rt} (h : W.heap[q]? = some (.cells (entC x y) 70 (0, 0))) : W.rangeAt q 0 (cells x).toList := by
  have := World.rangeAt_of_block h 0 8
  simpa [entC, cells] using this
theorem range1 {W : World} {q : Nat} {x y : Rt} (h : W.heap[q]? = some (.cells (entC x y) 70 (0, 0))) : W.rangeAt q 8 (cells y).toList := by
  have := World.rangeAt_of_block h 8 8
  simpa [entC, cells] using this
theorem splice0 (x y r : Rt) : spliceA (entC x y) 0 (cells r).toList = entC r y := by simp [spliceA, entC, cells]
theorem splice1 (x y r : Rt) : spliceA (entC x y) 8 (cells r).toList = entC x r := by simp [spliceA, entC, cells]

theorem compare_any (x y : Rt) (w : World) : Calls Try.prog 31 #[.agg (cells x), .agg (cells y)] w fun e w' => e = .returned (.int .i64 (cmpZ x.gen y.gen)) ∧ Below w.heap.size w w' := by
  have hK := ((Kept.start w).alloc (entryO x)).alloc (entryO y)
  have c0 : ((w.alloc (entryO x)).alloc (entryO y)).cell? ⟨w.heap.size, 0, none⟩ = some (.int .u64 (x.gen : Int)) := (cell_of_row _ w.heap.size 0 _ _ _ (hK.at_ (q := w.heap.size) (o := entryO x) (by simp))).trans rfl
  have c1 : ((w.alloc (entryO x)).alloc (entryO y)).cell? ⟨w.heap.size + 1, 0, none⟩ = some (.int .u64 (y.gen : Int)) := (cell_of_row _ (w.heap.size + 1) 0 _ _ _ (hK.at_ (q := w.heap.size + 1) (o := entryO y) (by simp))).trans rfl
  have hb := hK.bel
  clear hK
  go_enter Try.func31, Try.ntmps31
  go_upto_region 1 with fail
  change Code.wp _ _ _ _ ((w.alloc (entryO x)).alloc (entryO y))
  generalize (w.alloc (entryO x)).alloc (entryO y) = W at c0 c1 hb ⊢
  go_wp2_with (with_reducible refine (Compare_any _ _ _).mono ?_; rintro e W1 ⟨rfl, rfl⟩)
  go_ret
  exact ⟨rfl, hb⟩

def cmpF : Value := .func (.func 31) #[] #[]
def maxR (x y : Rt) : Rt := if x.gen < y.gen then y else x

set_option maxHeartbeats 1600000 in
theorem MaxFunc_two {q : Nat} {x y : Rt} (w : World) (hq : w.heap[q]? = some (.cells (entC x y) 70 (0, 0))) :
    Calls Try.prog 30 #[.slice (some ⟨q, 0, none⟩) 2 2, cmpF] w fun e w' => e = .returned (.agg (cells (maxR x y))) ∧ Below w.heap.size w w' := by
  have hze := (zero_of_info infoE).1
  have hlt : q < w.heap.size := (Array.getElem?_eq_some_iff.1 hq).1
  have HR : ∀ (K : List (Nat × Obj)) (W : World), Kept w K W → W.heap[q]? = some (.cells (entC x y) 70 (0, 0)) := fun K W h => (h.bel.block q hlt).trans hq
  have hK0 := (Kept.start w).alloc (entryO Slt.nil)
  have r0 : ((w.alloc (entryO Slt.nil))).rangeAt q 0 (cells x).toList := range0 (HR _ _ hK0)
  have HQ := Lib.hid HR
  clear HR hq
  unfold cmpF
  go_enter Try.func30, Try.ntmps30
  go_upto_region 3 with fail
  change Code.wp _ _ _ _ (w.alloc (entryO Slt.nil))
  have hne : (w.alloc (entryO Slt.nil)).heap.size ≠ w.heap.size := by simp
  generalize w.alloc (entryO Slt.nil) = W0 at hK0 r0 hne ⊢
  have hK := hK0.alloc (entryO x)
  clear hK0
  go_wp2_with (first
    | (refine wpList_load_mid rfl 69 _ rfl q 0 rfl (cells x).toList _ r0 Try.underlying69 rfl (sizeEL x) ?_)
    | (refine wpList_store_new rfl 69 _ _ rfl (cells x) _ _ rfl rfl (sizeE x) rfl (cells_one x) ?_))
  clear r0
  change Code.wp _ _ _ _ (W0.alloc (entryO x))
  generalize W0.heap.size = u at hK hne ⊢
  generalize W0.alloc (entryO x) = W1 at hK ⊢
  go_loopw [6] (fun i wr => ∃ k : Nat, 1 ≤ k ∧ k ≤ 2 ∧ i = .int .i64 k ∧ Kept w [(u, entryO (if k = 1 then x else maxR x y)), (w.heap.size, entryO Slt.nil)] wr) (fun i _ => 2 - (intOf i).toNat)
  case atStart => exact ⟨1, by omega, by omega, rfl, by simpa using hK⟩
  case round =>
    clear hK
    obtain ⟨k, hk1, hk2, rfl, hk⟩ := hrel
    rcases (by omega : k = 1 ∨ k = 2) with rfl | rfl
    · rw [if_pos rfl] at hk
      obtain ⟨z, hz⟩ : ∃ z, z = cmpZ y.gen x.gen := ⟨_, rfl⟩
      have CC : Hid (∀ W, Calls Try.prog 31 #[.agg (cells y), .agg (cells x)] W fun e w' => e = .returned (.int .i64 z) ∧ Below W.heap.size W w') := Lib.hid (by rw [hz]; exact compare_any y x)
      rw [show ((1 : Nat) : Int) = 1 from rfl]
      have hS := hk.drew
      have HI : ∀ W, Kept w [(u, entryO x), (w.heap.size, entryO Slt.nil)] W → W.rangeAt q 8 (cells y).toList := fun W h => range1 (HQ.out _ W h)
      have HX : ∀ W, Kept w [(u, entryO x), (w.heap.size, entryO Slt.nil)] W → W.heap[u]? = some (.cells (cells x) 69 (0, 0)) := fun W h => h.at_ (q := u) (o := entryO x) (by simp)
      have HN := Lib.hid HI
      have HY := Lib.hid HX
      clear HI HX
      by_cases hg : x.gen < y.gen
      · have hz1 : z = 1 := by rw [hz]; unfold cmpZ; rw [if_neg (by omega), if_pos hg]
        subst hz1
        have hmx : maxR x y = y := if_pos hg
        have HM := Lib.hid hmx
        clear hz hg hmx
        go_wp2_with fail
        refine wp_region_class_lit (Kept w [(u, entryO x), (w.heap.size, entryO Slt.nil)]) (by kernel_rfl) (by kernel_rfl) hS ?_
        haveI : Nonempty {w' : World // Kept w [(u, entryO x), (w.heap.size, entryO Slt.nil)] w'} := ⟨⟨_, hS⟩⟩
        clear hS hk
        repeat (first | go_big_quiet_skip | (go_big_quiet_want; first | (refine quiet_load_row 69 _ rfl u rfl _ _ _ _ HY.out Try.underlying69 rfl (sizeE x) ?_; go_big_quiet_on; simp only [Act.put, List.setIfInBounds_toArray, List.set_cons_zero, List.set_cons_succ]) | (refine quiet_load_mid 69 _ rfl q 8 rfl (cells y).toList _ HN.out Try.underlying69 rfl (sizeEL y) ?_; go_big_quiet_on; simp only [Act.put, List.setIfInBounds_toArray, List.set_cons_zero, List.set_cons_succ]) | (go_big_quiet_op; first | go_big_quiet_on | go_big_quiet_call (first | (intro h1; (with_reducible refine (CC.out _).mono ?_); exact fun _ _ ⟨he, hb⟩ => ⟨he, h1.below hb⟩) | (intro _; rfl)))))
        refine wpQuiet_nil ?_
        intro w2 hw2
        have r1 := HN.out w2 hw2
        have hR := HY.out w2 hw2
        go_wp2_with (first
          | (refine wpList_load_mid rfl 69 _ rfl q 8 rfl (cells y).toList _ r1 Try.underlying69 rfl (sizeEL y) ?_)
          | (refine wpList_store_row rfl 69 _ _ rfl (u) _ rfl rfl _ _ hR (sizeE y) rfl (cells_one y) ?_))
        go_roundw
        case rel =>
          refine ⟨2, by omega, by omega, rfl, ?_⟩
          rw [if_neg (by omega), HM.out]
          exact hw2.setRow (by intro u hu; simp only [List.mem_cons, List.not_mem_nil, or_false] at hu; subst hu; exact fun e => hne e.symm)
        case measure => simp [intOf]
      · have hz1 : z ≤ 0 := by rw [hz]; unfold cmpZ; rw [if_neg (show ¬ x.gen < y.gen from hg)]; split <;> omega
        have d1 : ¬ (0 : Int) < z := by omega
        have hmx : maxR x y = x := if_neg hg
        have HM := Lib.hid hmx
        clear hz hg hmx hz1
        go_wp2_with fail
        refine wp_region_class_lit (Kept w [(u, entryO x), (w.heap.size, entryO Slt.nil)]) (by kernel_rfl) (by kernel_rfl) hS ?_
        haveI : Nonempty {w' : World // Kept w [(u, entryO x), (w.heap.size, entryO Slt.nil)] w'} := ⟨⟨_, hS⟩⟩
        clear hS hk
        repeat (first | go_big_quiet_skip | (go_big_quiet_want; first | (refine quiet_load_row 69 _ rfl u rfl _ _ _ _ HY.out Try.underlying69 rfl (sizeE x) ?_; go_big_quiet_on; simp only [Act.put, List.setIfInBounds_toArray, List.set_cons_zero, List.set_cons_succ]) | (refine quiet_load_mid 69 _ rfl q 8 rfl (cells y).toList _ HN.out Try.underlying69 rfl (sizeEL y) ?_; go_big_quiet_on; simp only [Act.put, List.setIfInBounds_toArray, List.set_cons_zero, List.set_cons_succ]) | (go_big_quiet_op; first | go_big_quiet_on | go_big_quiet_call (first | (intro h1; (with_reducible refine (CC.out _).mono ?_); exact fun _ _ ⟨he, hb⟩ => ⟨he, h1.below hb⟩) | (intro _; rfl)))))
        refine wpQuiet_nil ?_
        intro w2 hw2
        go_wp2_with fail
        go_roundw
        case rel =>
          refine ⟨2, by omega, by omega, rfl, ?_⟩
          rw [if_neg (by omega), HM.out]
          exact hw2
        case measure => simp [intOf]
    · rw [if_neg (by omega)] at hk
      obtain ⟨m, hm⟩ : ∃ m, m = maxR x y := ⟨_, rfl⟩
      rw [← hm] at hk
      have HM := Lib.hid hm
      clear hm
      have hX : wr.heap[u]? = some (.cells (cells m) 69 (0, 0)) := hk.at_ (q := u) (o := entryO m) (by simp)
      have hR : wr.heap[w.heap.size]? = some (.cells (cells Slt.nil) 69 (0, 0)) := hk.at_ (q := w.heap.size) (o := entryO Slt.nil) (by simp)
      have hbel := hk.bel
      clear hk
      rw [show ((2 : Nat) : Int) = 2 from rfl]
      go_wp2_with (first
        | (refine wpList_load_row rfl 69 _ rfl (u) rfl _ _ _ _ hX Try.underlying69 rfl (sizeE m) ?_)
        | (refine wpList_store_row rfl 69 _ _ rfl w.heap.size _ rfl rfl _ _ hR (sizeE m) rfl (cells_one m) ?_))
      exact bodyPost_ret (results_cell_row rfl _ _ _ _ _ _ _ rfl (setRow_heap _ _ _ _ _ _ hR) Try.underlying69 rfl (sizeE m)) rfl ⟨by rw [HM.out], below_row hbel (Nat.le_refl _)⟩

end Go.Proofs.Ytdadcengelfmhaa.Rot

/-
  The walks of root.entries and root.Mount.
-/
namespace Go.Proofs.Ytdadcengelfmhaa.Rot
open Go.RowKit RowLaw Crc
set_option maxRecDepth 100000
open Go.Proofs.Ytdadcengelfmhaa.Fld (blockO)
open Go.Proofs.Ytdadcengelfmhaa.Slt (Rt cells rootO infoR sizeR cells_one IsRt getR getE getR_fits getE_cases Get_any)
open Go.Proofs.Ytdadcengelfmhaa.Dev (Dev DS ptr readB readR readE Read_any below_row)

def entR (s : DS) (a : Nat) : Rt := (rootAt s a).getD Slt.nil
def entK (s : DS) (a k : Nat) : Rt := if a < k then entR s a else Slt.nil
theorem entR_no {s : DS} {a : Nat} (h : getE (readB s a) = 250) : entR s a = Slt.nil := by
  unfold entR rootAt
  rw [if_neg (fun h1 => by have := h1.1; rw [h] at this; cases this)]
  rfl
theorem entR_far {s : DS} {a : Nat} (h : (getR (readB s a)).gen % 2 ≠ a) : entR s a = Slt.nil := by
  unfold entR rootAt
  rw [if_neg (fun h1 => h h1.2.1)]
  rfl
theorem entR_bad {s : DS} {a : Nat} (h : mayR (getR (readB s a)) s.n = false) : entR s a = Slt.nil := by
  unfold entR rootAt
  rw [if_neg (fun h1 => by have := h1.2.2; rw [h] at this; cases this)]
  rfl
theorem entR_yes {s : DS} {a : Nat} (h0 : getE (readB s a) = 0) (h1 : (getR (readB s a)).gen % 2 = a) (h2 : mayR (getR (readB s a)) s.n = true) : entR s a = getR (readB s a) := by
  unfold entR rootAt
  rw [if_pos ⟨h0, h1, h2⟩]
  rfl
theorem ne_one {q : Nat} : ∀ x ∈ ([] : List (Nat × Obj)), x.1 ≠ q := fun _ h => by cases h

set_option maxHeartbeats 6400000 in
theorem entries_any {w : World} {p : Nat} {B : List Nat} {s : DS} (hd : Dev w p B s) (hn : planOk s.n = true) (hlen : s.pend.length < 4294967296) :
    Calls Try.prog 29 #[ptr p] w fun e w' => e = .returned (.agg (entC (entR s 0) (entR s 1))) ∧ Below w.heap.size w w' := by
  have hzb := (zero_of_info infoBlock).1
  have hzr := (zero_of_info infoR).1
  have hze := (zero_of_info infoEs).1
  have hn2 : 64 ≤ s.n := by have : 64 ≤ s.n ∧ s.n ≤ 1048576 := by simpa [planOk] using hn
                            exact this.1
  have HB := Lib.hid (fun (r : Rt) (W : World) => mayBe_any hn r W)
  have HRd : Hid (∀ (a : Nat), a < 2 → ∀ W, Below w.heap.size w W → Calls Try.prog 11 #[ptr p, .int .u32 (a : Int)] W fun e w' => e = .returned (.tuple #[.agg (cellsOf (readB s a)), .int .i64 0]) ∧ Below W.heap.size W w') := Lib.hid (fun a ha W hW => by
    have := Read_any (hd.below hW) (a := a) (by omega) hlen
    rw [readR, if_neg (by omega), readE, if_neg (by omega)] at this
    exact this)
  have HSz : Hid (∀ W, Below w.heap.size w W → Calls Try.prog 15 #[ptr p] W fun e w' => e = .returned (.int .u32 (s.n : Int)) ∧ w' = W) := Lib.hid (fun W hW => Size_any (hd.below hW))
  have HL := Lib.hid (fun a => hd.readLen a)
  have hK := (Kept.start w).alloc (entsO Slt.nil Slt.nil)
  clear hd hlen hn
  unfold ptr at HRd HSz ⊢
  go_enter Try.func29, Try.ntmps29
  go_wp2_with fail
  change Code.wp _ _ _ _ (w.alloc (entsO Slt.nil Slt.nil))
  go_loopw [9] (fun i wr => ∃ k : Nat, k ≤ 2 ∧ i = .int .i64 k ∧ Kept w [(w.heap.size, entsO (entK s 0 k) (entK s 1 k))] wr) (fun i _ => 2 - (intOf i).toNat)
  case atStart => exact ⟨0, by omega, rfl, by simpa [entK] using hK⟩
  case round =>
    clear hK
    obtain ⟨k, hk2, rfl, hk⟩ := hrel
    rcases (by omega : k = 0 ∨ k = 1 ∨ k = 2) with rfl | rfl | rfl
    · have hk0 : Kept w [(w.heap.size, .cells (entC Slt.nil Slt.nil) 70 (0, 0))] wr := by simpa [entK, entsO] using hk
      clear hk
      have hlen := HL.out 0
      have hget := Get_any (readB s 0) hlen
      have hcase := getE_cases (readB s 0)
      have hfit := getR_fits hlen
      have hno := entR_no (s := s) (a := 0)
      have hfar := entR_far (s := s) (a := 0)
      have hbad := entR_bad (s := s) (a := 0)
      have hyes := entR_yes (s := s) (a := 0)
      have hrd := HRd.out 0 (by omega)
      generalize readB s 0 = l at hlen hget hcase hfit hno hfar hbad hyes hrd
      generalize getR l = R at hget hfit hfar hbad hyes
      generalize getE l = E at hget hcase hno hyes
      have HNo := Lib.hid hno
      have HFar := Lib.hid hfar
      have HBad := Lib.hid hbad
      have HYes := Lib.hid hyes
      have HG := Lib.hid hget
      have HRD : Hid (∀ W, Below w.heap.size w W → Calls Try.prog 11 #[.pointer (some ⟨p, 0, none⟩), .int .u32 0] W fun e w' => e = .returned (.tuple #[.agg (cellsOf l), .int .i64 0]) ∧ Below W.heap.size W w') := Lib.hid hrd
      clear hno hfar hbad hyes hget hrd hfit
      rw [show ((0 : Nat) : Int) = 0 from rfl]
      go_wp2_with fail
      refine (HRD.out wr hk0.bel).mono ?_
      rintro e W1 ⟨rfl, hx⟩
      have hk1 := (hk0.below hx).alloc (blockO l)
      clear hx hk0
      have hi := sizeBlock l hlen
      have hzz : (cellsOf zeros).size = (cellsOf l).size := by rw [cellsOf_size, cellsOf_size, hlen, zeros_length]
      have tok : True := trivial
      go_wp2_with (first
        | (have _t := tok; refine wpList_store_new rfl 38 _ _ rfl (cellsOf l) _ _ rfl rfl hi hzz (cellsOf_one l) ?_; change wpList _ _ _ _ _ (W1.alloc (blockO l)); generalize W1.heap.size = bB at hk1 ⊢; generalize W1.alloc (blockO l) = W2 at hk1 ⊢; have hgo : W2.heap[bB]? = some (.cells (cellsOf l) 38 (0, 0)) := hk1.at_ (q := bB) (o := blockO l) (by simp); clear _t tok)
        | (refine wpList_load_row rfl 38 _ rfl bB rfl _ _ _ _ hgo Try.underlying38 rfl hi ?_))
      refine (HG.out W2).mono ?_
      rintro e W3 ⟨rfl, hx⟩
      have hk2 := (hk1.below hx).alloc (rootO R)
      clear hx hk1 hgo hi hzz
      have tok : True := trivial
      go_upto_region 7 with (first
        | (have _t := tok; refine wpList_store_new rfl 25 _ _ rfl (cells R) _ _ rfl rfl (sizeR R) rfl (cells_one R) ?_; change wpList _ _ _ _ _ (W3.alloc (rootO R)); clear _t tok))
      change Code.wp _ _ _ _ (W3.alloc (rootO R))
      generalize W3.heap.size = bR at hk2 ⊢
      generalize W3.alloc (rootO R) = W4 at hk2 ⊢
      obtain ⟨KK, hKK⟩ : ∃ KK, KK = [(bR, rootO R), (bB, blockO l), (w.heap.size, Obj.cells (entC Slt.nil Slt.nil) 70 (0, 0))] := ⟨_, rfl⟩
      have hk3 : Kept w KK W4 := by rw [hKK]; exact hk2
      have HX : Hid (∀ W, Kept w KK W → W.heap[bR]? = some (.cells (cells R) 25 (0, 0))) := Lib.hid (fun W h => h.at_ (q := bR) (o := rootO R) (by rw [hKK]; simp))
      have HKK := Lib.hid hKK
      clear hk2 hKK
      have HM := Lib.hid (HB.out R)
      rcases hcase with rfl | rfl
      · have HYes := Lib.hid (HYes.out rfl)
        have hh := fun W => home_any R W
        have hm2 : R.gen % 2 = 0 ∨ R.gen % 2 = 1 := by omega
        generalize hmm : R.gen % 2 = m at hh hm2
        have HMM := Lib.hid hmm
        clear hmm
        rcases hm2 with rfl | rfl
        · have HH : Hid (∀ W, Calls Try.prog 42 #[.agg (cells R)] W fun e w' => e = .returned (.int .u32 0) ∧ Below W.heap.size W w') := Lib.hid hh
          clear hh
          cases hb : mayR R s.n with
          | false =>
            rw [hb] at HM
            have HE := Lib.hid (HBad.out hb)
            clear hb HFar HNo HBad HYes
            go_wp2_with fail
            have hS := hk3.drew
            refine wp_region_class_lit (Kept w KK) (by kernel_rfl) (by kernel_rfl) hS ?_
            haveI : Nonempty {w' : World // Kept w KK w'} := ⟨⟨_, hS⟩⟩
            clear hS hk3
            repeat (first | go_big_quiet_skip | (go_big_quiet_want; first | (refine quiet_load_row 25 _ rfl bR rfl _ _ _ _ HX.out Try.underlying25 rfl (sizeR R) ?_; go_big_quiet_on; simp only [Act.put, List.setIfInBounds_toArray, List.set_cons_zero, List.set_cons_succ]) | (go_big_quiet_op; first | go_big_quiet_on | go_big_quiet_call (first | (intro h1; (with_reducible refine (HH.out _).mono ?_); exact fun _ _ ⟨he, hb⟩ => ⟨he, h1.below hb⟩) | (intro h1; (with_reducible refine (HSz.out _ h1.bel).mono ?_); exact fun _ _ ⟨he, hb⟩ => ⟨he, hb ▸ h1⟩) | (intro h1; (with_reducible refine (HM.out _).mono ?_); exact fun _ _ ⟨he, hb⟩ => ⟨he, h1.below hb⟩) | (intro _; rfl)))))
            refine wpQuiet_nil ?_
            intro w2 hw2
            go_wp2_with fail
            go_roundw
            case rel =>
              refine ⟨1, by omega, rfl, ?_⟩
              have he := HE.out
              have h9 := hw2.less (K' := [(w.heap.size, .cells (entC Slt.nil Slt.nil) 70 (0, 0))]) (by rw [HKK.out]; simp)
              simpa [entK, he, entsO] using h9
            case measure => simp [intOf]
          | true =>
            rw [hb] at HM
            have HE := Lib.hid (HYes.out HMM.out hb)
            clear hb HFar HNo HBad HYes
            go_wp2_with fail
            have hS := hk3.drew
            refine wp_region_class_lit (Kept w KK) (by kernel_rfl) (by kernel_rfl) hS ?_
            haveI : Nonempty {w' : World // Kept w KK w'} := ⟨⟨_, hS⟩⟩
            clear hS hk3
            repeat (first | go_big_quiet_skip | (go_big_quiet_want; first | (refine quiet_load_row 25 _ rfl bR rfl _ _ _ _ HX.out Try.underlying25 rfl (sizeR R) ?_; go_big_quiet_on; simp only [Act.put, List.setIfInBounds_toArray, List.set_cons_zero, List.set_cons_succ]) | (go_big_quiet_op; first | go_big_quiet_on | go_big_quiet_call (first | (intro h1; (with_reducible refine (HH.out _).mono ?_); exact fun _ _ ⟨he, hb⟩ => ⟨he, h1.below hb⟩) | (intro h1; (with_reducible refine (HSz.out _ h1.bel).mono ?_); exact fun _ _ ⟨he, hb⟩ => ⟨he, hb ▸ h1⟩) | (intro h1; (with_reducible refine (HM.out _).mono ?_); exact fun _ _ ⟨he, hb⟩ => ⟨he, h1.below hb⟩) | (intro _; rfl)))))
            refine wpQuiet_nil ?_
            intro w2 hw2
            have hR := HX.out w2 hw2
            have hE : w2.heap[w.heap.size]? = some (.cells (entC Slt.nil Slt.nil) 70 (0, 0)) := hw2.at_ (q := w.heap.size) (o := .cells (entC Slt.nil Slt.nil) 70 (0, 0)) (by rw [HKK.out]; simp)
            have HTH : Hid (w2.there w.heap.size 0 (cells R).size) := Lib.hid (there_block hE 0 8 (by rw [entC_size]; omega))
            have HSE := Lib.hid (sizeE R)
            have HSR := Lib.hid (sizeR R)
            have H1C := Lib.hid (cells_one R)
            obtain ⟨cR, hcR⟩ : ∃ cR, cR = cells R := ⟨_, rfl⟩
            rw [← hcR] at hR HTH HSE HSR H1C
            have HCR := Lib.hid hcR
            clear hcR
            go_wp2_with (first
              | (refine wpList_load_row rfl 25 _ rfl bR rfl _ _ _ _ hR Try.underlying25 rfl HSR.out ?_)
              | (refine wpList_store_mid rfl 69 _ _ rfl w.heap.size 0 cR rfl rfl HTH.out HSE.out H1C.out ?_))
            go_roundw
            case rel =>
              refine ⟨1, by omega, rfl, ?_⟩
              have he := HE.out
              have h9 := Kept.setCells (o := 0) (vs := cR.toList) (hw2.less (K' := [(w.heap.size, .cells (entC Slt.nil Slt.nil) 70 (0, 0))]) (by rw [HKK.out]; simp)) ne_one
              rw [HCR.out, splice0] at h9
              rw [HCR.out]
              simpa [entK, he, entsO] using h9
            case measure => simp [intOf]
        · have HH : Hid (∀ W, Calls Try.prog 42 #[.agg (cells R)] W fun e w' => e = .returned (.int .u32 1) ∧ Below W.heap.size W w') := Lib.hid hh
          clear hh
          have HE := Lib.hid (HFar.out (by rw [HMM.out]; decide))
          clear HFar HNo HBad HYes
          go_wp2_with fail
          have hS := hk3.drew
          refine wp_region_class_lit (Kept w KK) (by kernel_rfl) (by kernel_rfl) hS ?_
          haveI : Nonempty {w' : World // Kept w KK w'} := ⟨⟨_, hS⟩⟩
          clear hS hk3
          repeat (first | go_big_quiet_skip | (go_big_quiet_want; first | (refine quiet_load_row 25 _ rfl bR rfl _ _ _ _ HX.out Try.underlying25 rfl (sizeR R) ?_; go_big_quiet_on; simp only [Act.put, List.setIfInBounds_toArray, List.set_cons_zero, List.set_cons_succ]) | (go_big_quiet_op; first | go_big_quiet_on | go_big_quiet_call (first | (intro h1; (with_reducible refine (HH.out _).mono ?_); exact fun _ _ ⟨he, hb⟩ => ⟨he, h1.below hb⟩) | (intro h1; (with_reducible refine (HSz.out _ h1.bel).mono ?_); exact fun _ _ ⟨he, hb⟩ => ⟨he, hb ▸ h1⟩) | (intro h1; (with_reducible refine (HM.out _).mono ?_); exact fun _ _ ⟨he, hb⟩ => ⟨he, h1.below hb⟩) | (intro _; rfl)))))
          refine wpQuiet_nil ?_
          intro w2 hw2
          go_wp2_with fail
          go_roundw
          case rel =>
            refine ⟨1, by omega, rfl, ?_⟩
            have he := HE.out
            have h9 := hw2.less (K' := [(w.heap.size, .cells (entC Slt.nil Slt.nil) 70 (0, 0))]) (by rw [HKK.out]; simp)
            simpa [entK, he, entsO] using h9
          case measure => simp [intOf]
      · have HE := Lib.hid (HNo.out rfl)
        clear HFar HNo HBad HYes
        have HH : Hid True := Lib.hid trivial
        go_wp2_with fail
        have hS := hk3.drew
        refine wp_region_class_lit (Kept w KK) (by kernel_rfl) (by kernel_rfl) hS ?_
        haveI : Nonempty {w' : World // Kept w KK w'} := ⟨⟨_, hS⟩⟩
        clear hS hk3
        repeat (first | go_big_quiet_skip | (go_big_quiet_want; first | (refine quiet_load_row 25 _ rfl bR rfl _ _ _ _ HX.out Try.underlying25 rfl (sizeR R) ?_; go_big_quiet_on; simp only [Act.put, List.setIfInBounds_toArray, List.set_cons_zero, List.set_cons_succ]) | (go_big_quiet_op; first | go_big_quiet_on | go_big_quiet_call (first | (intro h1; (with_reducible refine (HH.out _).mono ?_); exact fun _ _ ⟨he, hb⟩ => ⟨he, h1.below hb⟩) | (intro h1; (with_reducible refine (HSz.out _ h1.bel).mono ?_); exact fun _ _ ⟨he, hb⟩ => ⟨he, hb ▸ h1⟩) | (intro h1; (with_reducible refine (HM.out _).mono ?_); exact fun _ _ ⟨he, hb⟩ => ⟨he, h1.below hb⟩) | (intro _; rfl)))))
        refine wpQuiet_nil ?_
        intro w2 hw2
        go_wp2_with fail
        go_roundw
        case rel =>
          refine ⟨1, by omega, rfl, ?_⟩
          have he := HE.out
          have h9 := hw2.less (K' := [(w.heap.size, .cells (entC Slt.nil Slt.nil) 70 (0, 0))]) (by rw [HKK.out]; simp)
          simpa [entK, he, entsO] using h9
        case measure => simp [intOf]
    · have hk0 : Kept w [(w.heap.size, .cells (entC (entR s 0) Slt.nil) 70 (0, 0))] wr := by simpa [entK, entsO] using hk
      clear hk
      obtain ⟨x0, hx0⟩ : ∃ x0, x0 = entR s 0 := ⟨_, rfl⟩
      rw [← hx0] at hk0
      have HX0 := Lib.hid hx0
      clear hx0
      have hlen := HL.out 1
      have hget := Get_any (readB s 1) hlen
      have hcase := getE_cases (readB s 1)
      have hfit := getR_fits hlen
      have hno := entR_no (s := s) (a := 1)
      have hfar := entR_far (s := s) (a := 1)
      have hbad := entR_bad (s := s) (a := 1)
      have hyes := entR_yes (s := s) (a := 1)
      have hrd := HRd.out 1 (by omega)
      generalize readB s 1 = l at hlen hget hcase hfit hno hfar hbad hyes hrd
      generalize getR l = R at hget hfit hfar hbad hyes
      generalize getE l = E at hget hcase hno hyes
      have HNo := Lib.hid hno
      have HFar := Lib.hid hfar
      have HBad := Lib.hid hbad
      have HYes := Lib.hid hyes
      have HG := Lib.hid hget
      have HRD : Hid (∀ W, Below w.heap.size w W → Calls Try.prog 11 #[.pointer (some ⟨p, 0, none⟩), .int .u32 1] W fun e w' => e = .returned (.tuple #[.agg (cellsOf l), .int .i64 0]) ∧ Below W.heap.size W w') := Lib.hid hrd
      clear hno hfar hbad hyes hget hrd hfit
      rw [show ((1 : Nat) : Int) = 1 from rfl]
      go_wp2_with fail
      refine (HRD.out wr hk0.bel).mono ?_
      rintro e W1 ⟨rfl, hx⟩
      have hk1 := (hk0.below hx).alloc (blockO l)
      clear hx hk0
      have hi := sizeBlock l hlen
      have hzz : (cellsOf zeros).size = (cellsOf l).size := by rw [cellsOf_size, cellsOf_size, hlen, zeros_length]
      have tok : True := trivial
      go_wp2_with (first
        | (have _t := tok; refine wpList_store_new rfl 38 _ _ rfl (cellsOf l) _ _ rfl rfl hi hzz (cellsOf_one l) ?_; change wpList _ _ _ _ _ (W1.alloc (blockO l)); generalize W1.heap.size = bB at hk1 ⊢; generalize W1.alloc (blockO l) = W2 at hk1 ⊢; have hgo : W2.heap[bB]? = some (.cells (cellsOf l) 38 (0, 0)) := hk1.at_ (q := bB) (o := blockO l) (by simp); clear _t tok)
        | (refine wpList_load_row rfl 38 _ rfl bB rfl _ _ _ _ hgo Try.underlying38 rfl hi ?_))
      refine (HG.out W2).mono ?_
      rintro e W3 ⟨rfl, hx⟩
      have hk2 := (hk1.below hx).alloc (rootO R)
      clear hx hk1 hgo hi hzz
      have tok : True := trivial
      go_upto_region 7 with (first
        | (have _t := tok; refine wpList_store_new rfl 25 _ _ rfl (cells R) _ _ rfl rfl (sizeR R) rfl (cells_one R) ?_; change wpList _ _ _ _ _ (W3.alloc (rootO R)); clear _t tok))
      change Code.wp _ _ _ _ (W3.alloc (rootO R))
      generalize W3.heap.size = bR at hk2 ⊢
      generalize W3.alloc (rootO R) = W4 at hk2 ⊢
      obtain ⟨KK, hKK⟩ : ∃ KK, KK = [(bR, rootO R), (bB, blockO l), (w.heap.size, Obj.cells (entC x0 Slt.nil) 70 (0, 0))] := ⟨_, rfl⟩
      have hk3 : Kept w KK W4 := by rw [hKK]; exact hk2
      have HX : Hid (∀ W, Kept w KK W → W.heap[bR]? = some (.cells (cells R) 25 (0, 0))) := Lib.hid (fun W h => h.at_ (q := bR) (o := rootO R) (by rw [hKK]; simp))
      have HKK := Lib.hid hKK
      clear hk2 hKK
      have HM := Lib.hid (HB.out R)
      rcases hcase with rfl | rfl
      · have HYes := Lib.hid (HYes.out rfl)
        have hh := fun W => home_any R W
        have hm2 : R.gen % 2 = 0 ∨ R.gen % 2 = 1 := by omega
        generalize hmm : R.gen % 2 = m at hh hm2
        have HMM := Lib.hid hmm
        clear hmm
        rcases hm2 with rfl | rfl
        · have HH : Hid (∀ W, Calls Try.prog 42 #[.agg (cells R)] W fun e w' => e = .returned (.int .u32 0) ∧ Below W.heap.size W w') := Lib.hid hh
          clear hh
          have HE := Lib.hid (HFar.out (by rw [HMM.out]; decide))
          clear HFar HNo HBad HYes
          go_wp2_with fail
          have hS := hk3.drew
          refine wp_region_class_lit (Kept w KK) (by kernel_rfl) (by kernel_rfl) hS ?_
          haveI : Nonempty {w' : World // Kept w KK w'} := ⟨⟨_, hS⟩⟩
          clear hS hk3
          repeat (first | go_big_quiet_skip | (go_big_quiet_want; first | (refine quiet_load_row 25 _ rfl bR rfl _ _ _ _ HX.out Try.underlying25 rfl (sizeR R) ?_; go_big_quiet_on; simp only [Act.put, List.setIfInBounds_toArray, List.set_cons_zero, List.set_cons_succ]) | (go_big_quiet_op; first | go_big_quiet_on | go_big_quiet_call (first | (intro h1; (with_reducible refine (HH.out _).mono ?_); exact fun _ _ ⟨he, hb⟩ => ⟨he, h1.below hb⟩) | (intro h1; (with_reducible refine (HSz.out _ h1.bel).mono ?_); exact fun _ _ ⟨he, hb⟩ => ⟨he, hb ▸ h1⟩) | (intro h1; (with_reducible refine (HM.out _).mono ?_); exact fun _ _ ⟨he, hb⟩ => ⟨he, h1.below hb⟩) | (intro _; rfl)))))
          refine wpQuiet_nil ?_
          intro w2 hw2
          go_wp2_with fail
          go_roundw
          case rel =>
            refine ⟨2, by omega, rfl, ?_⟩
            have he := HE.out
            have h9 := hw2.less (K' := [(w.heap.size, .cells (entC x0 Slt.nil) 70 (0, 0))]) (by rw [HKK.out]; simp)
            rw [HX0.out] at h9; simpa [entK, he, entsO] using h9
          case measure => simp [intOf]
        · have HH : Hid (∀ W, Calls Try.prog 42 #[.agg (cells R)] W fun e w' => e = .returned (.int .u32 1) ∧ Below W.heap.size W w') := Lib.hid hh
          clear hh
          cases hb : mayR R s.n with
          | false =>
            rw [hb] at HM
            have HE := Lib.hid (HBad.out hb)
            clear hb HFar HNo HBad HYes
            go_wp2_with fail
            have hS := hk3.drew
            refine wp_region_class_lit (Kept w KK) (by kernel_rfl) (by kernel_rfl) hS ?_
            haveI : Nonempty {w' : World // Kept w KK w'} := ⟨⟨_, hS⟩⟩
            clear hS hk3
            repeat (first | go_big_quiet_skip | (go_big_quiet_want; first | (refine quiet_load_row 25 _ rfl bR rfl _ _ _ _ HX.out Try.underlying25 rfl (sizeR R) ?_; go_big_quiet_on; simp only [Act.put, List.setIfInBounds_toArray, List.set_cons_zero, List.set_cons_succ]) | (go_big_quiet_op; first | go_big_quiet_on | go_big_quiet_call (first | (intro h1; (with_reducible refine (HH.out _).mono ?_); exact fun _ _ ⟨he, hb⟩ => ⟨he, h1.below hb⟩) | (intro h1; (with_reducible refine (HSz.out _ h1.bel).mono ?_); exact fun _ _ ⟨he, hb⟩ => ⟨he, hb ▸ h1⟩) | (intro h1; (with_reducible refine (HM.out _).mono ?_); exact fun _ _ ⟨he, hb⟩ => ⟨he, h1.below hb⟩) | (intro _; rfl)))))
            refine wpQuiet_nil ?_
            intro w2 hw2
            go_wp2_with fail
            go_roundw
            case rel =>
              refine ⟨2, by omega, rfl, ?_⟩
              have he := HE.out
              have h9 := hw2.less (K' := [(w.heap.size, .cells (entC x0 Slt.nil) 70 (0, 0))]) (by rw [HKK.out]; simp)
              rw [HX0.out] at h9; simpa [entK, he, entsO] using h9
            case measure => simp [intOf]
          | true =>
            rw [hb] at HM
            have HE := Lib.hid (HYes.out HMM.out hb)
            clear hb HFar HNo HBad HYes
            go_wp2_with fail
            have hS := hk3.drew
            refine wp_region_class_lit (Kept w KK) (by kernel_rfl) (by kernel_rfl) hS ?_
            haveI : Nonempty {w' : World // Kept w KK w'} := ⟨⟨_, hS⟩⟩
            clear hS hk3
            repeat (first | go_big_quiet_skip | (go_big_quiet_want; first | (refine quiet_load_row 25 _ rfl bR rfl _ _ _ _ HX.out Try.underlying25 rfl (sizeR R) ?_; go_big_quiet_on; simp only [Act.put, List.setIfInBounds_toArray, List.set_cons_zero, List.set_cons_succ]) | (go_big_quiet_op; first | go_big_quiet_on | go_big_quiet_call (first | (intro h1; (with_reducible refine (HH.out _).mono ?_); exact fun _ _ ⟨he, hb⟩ => ⟨he, h1.below hb⟩) | (intro h1; (with_reducible refine (HSz.out _ h1.bel).mono ?_); exact fun _ _ ⟨he, hb⟩ => ⟨he, hb ▸ h1⟩) | (intro h1; (with_reducible refine (HM.out _).mono ?_); exact fun _ _ ⟨he, hb⟩ => ⟨he, h1.below hb⟩) | (intro _; rfl)))))
            refine wpQuiet_nil ?_
            intro w2 hw2
            have hR := HX.out w2 hw2
            have hE : w2.heap[w.heap.size]? = some (.cells (entC x0 Slt.nil) 70 (0, 0)) := hw2.at_ (q := w.heap.size) (o := .cells (entC x0 Slt.nil) 70 (0, 0)) (by rw [HKK.out]; simp)
            have HTH : Hid (w2.there w.heap.size 8 (cells R).size) := Lib.hid (there_block hE 8 8 (by rw [entC_size]; omega))
            have HSE := Lib.hid (sizeE R)
            have HSR := Lib.hid (sizeR R)
            have H1C := Lib.hid (cells_one R)
            obtain ⟨cR, hcR⟩ : ∃ cR, cR = cells R := ⟨_, rfl⟩
            rw [← hcR] at hR HTH HSE HSR H1C
            have HCR := Lib.hid hcR
            clear hcR
            go_wp2_with (first
              | (refine wpList_load_row rfl 25 _ rfl bR rfl _ _ _ _ hR Try.underlying25 rfl HSR.out ?_)
              | (refine wpList_store_mid rfl 69 _ _ rfl w.heap.size 8 cR rfl rfl HTH.out HSE.out H1C.out ?_))
            go_roundw
            case rel =>
              refine ⟨2, by omega, rfl, ?_⟩
              have he := HE.out
              have h9 := Kept.setCells (o := 8) (vs := cR.toList) (hw2.less (K' := [(w.heap.size, .cells (entC x0 Slt.nil) 70 (0, 0))]) (by rw [HKK.out]; simp)) ne_one
              rw [HCR.out, splice1] at h9
              rw [HCR.out]
              rw [HX0.out] at h9; simpa [entK, he, entsO] using h9
            case measure => simp [intOf]
      · have HE := Lib.hid (HNo.out rfl)
        clear HFar HNo HBad HYes
        have HH : Hid True := Lib.hid trivial
        go_wp2_with fail
        have hS := hk3.drew
        refine wp_region_class_lit (Kept w KK) (by kernel_rfl) (by kernel_rfl) hS ?_
        haveI : Nonempty {w' : World // Kept w KK w'} := ⟨⟨_, hS⟩⟩
        clear hS hk3
        repeat (first | go_big_quiet_skip | (go_big_quiet_want; first | (refine quiet_load_row 25 _ rfl bR rfl _ _ _ _ HX.out Try.underlying25 rfl (sizeR R) ?_; go_big_quiet_on; simp only [Act.put, List.setIfInBounds_toArray, List.set_cons_zero, List.set_cons_succ]) | (go_big_quiet_op; first | go_big_quiet_on | go_big_quiet_call (first | (intro h1; (with_reducible refine (HH.out _).mono ?_); exact fun _ _ ⟨he, hb⟩ => ⟨he, h1.below hb⟩) | (intro h1; (with_reducible refine (HSz.out _ h1.bel).mono ?_); exact fun _ _ ⟨he, hb⟩ => ⟨he, hb ▸ h1⟩) | (intro h1; (with_reducible refine (HM.out _).mono ?_); exact fun _ _ ⟨he, hb⟩ => ⟨he, h1.below hb⟩) | (intro _; rfl)))))
        refine wpQuiet_nil ?_
        intro w2 hw2
        go_wp2_with fail
        go_roundw
        case rel =>
          refine ⟨2, by omega, rfl, ?_⟩
          have he := HE.out
          have h9 := hw2.less (K' := [(w.heap.size, .cells (entC x0 Slt.nil) 70 (0, 0))]) (by rw [HKK.out]; simp)
          rw [HX0.out] at h9; simpa [entK, he, entsO] using h9
        case measure => simp [intOf]
    · have hR : wr.heap[w.heap.size]? = some (.cells (entC (entR s 0) (entR s 1)) 70 (0, 0)) := hk.at_ (q := w.heap.size) (o := entsO (entR s 0) (entR s 1)) (by simp [entK])
      have hbel := hk.bel
      clear hk
      obtain ⟨x, hx⟩ : ∃ x, x = entR s 0 := ⟨_, rfl⟩
      obtain ⟨y, hy⟩ : ∃ y, y = entR s 1 := ⟨_, rfl⟩
      rw [← hx, ← hy] at hR
      have HX := Lib.hid hx
      have HY := Lib.hid hy
      clear hx hy
      rw [show ((2 : Nat) : Int) = 2 from rfl]
      go_wp2_with (first
        | (refine wpList_load_row rfl 70 _ rfl w.heap.size rfl _ _ _ _ hR Try.underlying70 rfl (sizeEs x y) ?_)
        | (refine wpList_store_row rfl 70 _ _ rfl w.heap.size _ rfl rfl _ _ hR (sizeEs x y) rfl (entC_one x y) ?_))
      exact bodyPost_ret (results_cell_row rfl _ _ _ _ _ _ _ rfl (setRow_heap _ _ _ _ _ _ hR) Try.underlying70 rfl (sizeEs x y)) rfl ⟨by rw [HX.out, HY.out], below_row hbel (Nat.le_refl _)⟩

end Go.Proofs.Ytdadcengelfmhaa.Rot

/-
  The walk of root.Mount.
-/
namespace Go.Proofs.Ytdadcengelfmhaa.Rot
open Go.RowKit RowLaw Crc
set_option maxRecDepth 100000
open Go.Proofs.Ytdadcengelfmhaa.Slt (Rt cells rootO infoR sizeR cells_one IsRt getR getE getR_fits getE_cases Get_any)
open Go.Proofs.Ytdadcengelfmhaa.Dev (Dev DS ptr readB readR readE Read_any below_row)

/-- which root that is -/
theorem max_mount (s : DS) : (rootAt s 0 = none ∧ rootAt s 1 = none → maxR (entR s 0) (entR s 1) = Slt.nil) ∧ (mountS s).getD Slt.nil = maxR (entR s 0) (entR s 1) := by
  have hpos : ∀ a r, rootAt s a = some r → 1 ≤ r.gen := fun a r h => by
    unfold rootAt at h
    split at h
    · rename_i hc
      obtain ⟨_, _, hm⟩ := hc
      cases h
      unfold mayR at hm
      rw [Bool.and_eq_true] at hm
      exact (Slt.mayB_iff.1 hm.1).1
    · cases h
  refine ⟨fun ⟨h0, h1⟩ => by unfold maxR entR; rw [h0, h1]; rfl, ?_⟩
  unfold mountS entR maxR later
  cases h0 : rootAt s 0 with
  | none =>
    cases h1 : rootAt s 1 with
    | none => rfl
    | some y =>
      have := hpos 1 y h1
      show y = if (0 : Nat) < y.gen then y else Slt.nil
      rw [if_pos (by omega)]
  | some x =>
    cases h1 : rootAt s 1 with
    | none => rfl
    | some y =>
      show (if x.gen < y.gen then some y else some x).getD Slt.nil = if x.gen < y.gen then y else x
      split <;> rfl
theorem mount_pos {s : DS} : ((mountS s).getD Slt.nil).gen = 0 ↔ mountS s = none := by
  have hpos : ∀ a r, rootAt s a = some r → 1 ≤ r.gen := fun a r h => by
    unfold rootAt at h
    split at h
    · rename_i hc
      obtain ⟨_, _, hm⟩ := hc
      cases h
      unfold mayR at hm
      rw [Bool.and_eq_true] at hm
      exact (Slt.mayB_iff.1 hm.1).1
    · cases h
  constructor
  · intro h
    cases hm : mountS s with
    | none => rfl
    | some r =>
      exfalso
      rw [hm] at h
      have h1 : 1 ≤ r.gen := by
        unfold mountS later at hm
        split at hm
        · exact hpos 1 _ hm
        · rename_i h0 h1 e; cases hm; exact hpos 0 _ (by assumption)
        · split at hm
          · cases hm; exact hpos 1 _ (by assumption)
          · cases hm; exact hpos 0 _ (by assumption)
      have h2 : r.gen = 0 := h
      omega
  · intro h; rw [h]; rfl
/-- what Mount answers -/
def mountE (s : DS) : Int := if mountS s = none then 80 else 0

set_option maxHeartbeats 1600000 in
theorem Mount_any {w : World} {p : Nat} {B : List Nat} {s : DS} (hd : Dev w p B s) (hn : planOk s.n = true) (hlen : s.pend.length < 4294967296) :
    Calls Try.prog 10 #[ptr p] w fun e w' => e = .returned (.tuple #[.agg (cells ((mountS s).getD Slt.nil)), .int .i64 (mountE s)]) ∧ Below w.heap.size w w' := by
  have hzr := (zero_of_info infoR).1
  have hze := (zero_of_info infoE).1
  have hzes := (zero_of_info infoEs).1
  have hms := (max_mount s).2
  have hmp := mount_pos (s := s)
  unfold mountE
  generalize hres : (mountS s).getD Slt.nil = R at hms hmp ⊢
  obtain ⟨z, hz⟩ : ∃ z : Int, z = if mountS s = none then 80 else 0 := ⟨_, rfl⟩
  rw [← hz]
  have HZ := Lib.hid hz
  have hnil : R.gen = 0 → R = Slt.nil := fun h => by rw [← hres, hmp.1 h]; rfl
  have HNIL := Lib.hid hnil
  have HP := Lib.hid hmp
  have hEn : ∀ W, Below w.heap.size w W → Calls Try.prog 29 #[ptr p] W fun e w' => e = .returned (.agg (entC (entR s 0) (entR s 1))) ∧ Below W.heap.size W w' := fun W hW => entries_any (hd.below hW) hn hlen
  have HEx : Hid (∀ W, Below w.heap.size w W → Calls Try.prog 13 #[ptr p] W fun e w' => e = .returned (.bool true) ∧ w' = W) := Lib.hid (fun W hW => exists_any (hd.below hW))
  generalize entR s 0 = x at hms hEn
  generalize entR s 1 = y at hms hEn
  have HEn := Lib.hid hEn
  have HM := Lib.hid hms
  clear hd hn hlen hz hmp hres hEn hms hnil
  have hK := (Kept.start w).alloc (rootO Slt.nil)
  unfold ptr at HEn HEx ⊢
  go_enter Try.func10, Try.ntmps10
  go_upto_region 1 with fail
  change Code.wp _ _ _ _ (w.alloc (rootO Slt.nil))
  generalize w.alloc (rootO Slt.nil) = W0 at hK ⊢
  go_wp2_with fail
  refine (HEx.out W0 hK.bel).mono ?_
  rintro e W1 ⟨rfl, rfl⟩
  go_wp2_with fail
  refine (HEn.out _ hK.bel).mono ?_
  rintro e W2 ⟨rfl, hx⟩
  have hK2 := (hK.below hx).alloc (entsO x y)
  clear hx hK
  have tok : True := trivial
  go_wp2_with (first
    | (have _t := tok; refine wpList_store_new rfl 70 _ _ rfl (entC x y) _ _ rfl rfl (sizeEs x y) rfl (entC_one x y) ?_; change wpList _ _ _ _ _ (W2.alloc (entsO x y)); generalize W2.heap.size = bE at hK2 ⊢; generalize W2.alloc (entsO x y) = W3 at hK2 ⊢; clear _t tok))
  have hQ : W3.heap[bE]? = some (.cells (entC x y) 70 (0, 0)) := hK2.at_ (q := bE) (o := entsO x y) (by simp)
  refine (MaxFunc_two W3 hQ).mono ?_
  rw [← HM.out]
  rintro e W4 ⟨rfl, hx⟩
  have hK3 := (hK2.below hx).alloc (entryO R)
  clear hx hK2 hQ
  have tok : True := trivial
  by_cases hg : R.gen = 0
  · have hR := HNIL.out hg
    subst hR
    have hz0 : z = 80 := by rw [HZ.out, if_pos (HP.out.1 rfl)]
    subst hz0
    go_wp2_with (first
      | (have _t := tok; refine wpList_store_new rfl 69 _ _ rfl (cells Slt.nil) _ _ rfl rfl (sizeE Slt.nil) rfl (cells_one Slt.nil) ?_; change wpList _ _ _ _ _ (W4.alloc (entryO Slt.nil)); generalize W4.heap.size = bM at hK3 ⊢; generalize W4.alloc (entryO Slt.nil) = W5 at hK3 ⊢; have c0 : W5.cell? ⟨bM, 0, none⟩ = some (.int .u64 0) := (cell_of_row W5 bM 0 _ _ _ (hK3.at_ (q := bM) (o := entryO Slt.nil) (by simp))).trans rfl; have hT : W5.heap[w.heap.size]? = some (.cells (cells Slt.nil) 25 (0, 0)) := hK3.at_ (q := w.heap.size) (o := rootO Slt.nil) (by simp); clear _t tok)
      | (refine wpList_store_row rfl 25 _ _ rfl w.heap.size (cells Slt.nil) rfl rfl _ _ hT (sizeR Slt.nil) rfl (cells_one Slt.nil) ?_))
    exact bodyPost_ret (results_row_tmp rfl _ _ _ _ _ _ _ rfl (setRow_heap _ _ _ _ _ _ hT) Try.underlying25 rfl (sizeR Slt.nil)) rfl ⟨rfl, below_row hK3.bel (Nat.le_refl _)⟩
  · have hz0 : z = 0 := by rw [HZ.out, if_neg (fun h => hg (HP.out.2 h))]
    subst hz0
    have d0 : ((R.gen : Int) == 0) = false := by rw [beq_eq_false_iff_ne]; omega
    clear hg
    go_wp2_with (first
      | (have _t := tok; refine wpList_store_new rfl 69 _ _ rfl (cells R) _ _ rfl rfl (sizeE R) rfl (cells_one R) ?_; change wpList _ _ _ _ _ (W4.alloc (entryO R)); generalize W4.heap.size = bM at hK3 ⊢; generalize W4.alloc (entryO R) = W5 at hK3 ⊢; have hM : W5.heap[bM]? = some (.cells (cells R) 69 (0, 0)) := hK3.at_ (q := bM) (o := entryO R) (by simp); have c0 : W5.cell? ⟨bM, 0, none⟩ = some (.int .u64 (R.gen : Int)) := (cell_of_row W5 bM 0 _ _ _ hM).trans rfl; have hT : W5.heap[w.heap.size]? = some (.cells (cells Slt.nil) 25 (0, 0)) := hK3.at_ (q := w.heap.size) (o := rootO Slt.nil) (by simp); clear _t tok)
      | (refine wpList_load_row rfl 69 _ rfl bM rfl _ _ _ _ hM Try.underlying69 rfl (sizeE R) ?_)
      | (refine wpList_store_row rfl 25 _ _ rfl w.heap.size (cells R) rfl rfl _ _ hT (sizeR R) rfl (cells_one R) ?_))
    exact bodyPost_ret (results_row_tmp rfl _ _ _ _ _ _ _ rfl (setRow_heap _ _ _ _ _ _ hT) Try.underlying25 rfl (sizeR R)) rfl ⟨rfl, below_row hK3.bel (Nat.le_refl _)⟩

theorem Mount_nil (w : World) : Calls Try.prog 10 #[.pointer none] w fun e w' => e = .returned (.tuple #[.agg (cells Slt.nil), .int .i64 1]) ∧ Below w.heap.size w w' := by
  have hzr := (zero_of_info infoR).1
  have hK := (Kept.start w).alloc (rootO Slt.nil)
  go_enter Try.func10, Try.ntmps10
  go_upto_region 1 with fail
  change Code.wp _ _ _ _ (w.alloc (rootO Slt.nil))
  generalize w.alloc (rootO Slt.nil) = W0 at hK ⊢
  have hT : W0.heap[w.heap.size]? = some (.cells (cells Slt.nil) 25 (0, 0)) := hK.at_ (q := w.heap.size) (o := rootO Slt.nil) (by simp)
  go_wp2_with fail
  refine (exists_nil W0).mono ?_
  rintro e W1 ⟨rfl, rfl⟩
  go_wp2_with (refine wpList_store_row rfl 25 _ _ rfl w.heap.size (cells Slt.nil) rfl rfl _ _ hT (sizeR Slt.nil) rfl (cells_one Slt.nil) ?_)
  exact bodyPost_ret (results_row_tmp rfl _ _ _ _ _ _ _ rfl (setRow_heap _ _ _ _ _ _ hT) Try.underlying25 rfl (sizeR Slt.nil)) rfl ⟨rfl, below_row hK.bel (Nat.le_refl _)⟩

end Go.Proofs.Ytdadcengelfmhaa.Rot

