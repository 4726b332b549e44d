/-
  The reference's device that is none: what its functions answer.
-/
import Derived.Test.YtlgjgobelceheaaDevGreat
import Derived.Test.YtlgjgobelceheaaDevLawNone
namespace Go.Proofs.Ytlgjgobelceheaa.Dev
open Go.RowKit RowLaw

/-- the reference's device, its zero value; and with one write done -/
def rq0 : Array Value := #[.int .u32 0, .slice none 0 0, .slice none 0 0, .bool false, .int .i64 0, .bool false, .int .u64 0]
def rq1 : Array Value := #[.int .u32 0, .slice none 0 0, .slice none 0 0, .bool false, .int .i64 0, .bool false, .int .u64 1]
theorem infoRQ : (Try.prog.info? 36).map (fun i => (i.zero, i.size)) = some (some (.agg rq0), 7) := by kernel_rfl
theorem size0 : (Try.prog.info? 36).map (·.size) = some rq0.size := (zero_of_info infoRQ).2
theorem size1 : (Try.prog.info? 36).map (·.size) = some rq1.size := (zero_of_info infoRQ).2

set_option maxHeartbeats 1600000 in
theorem rWrite_zero (a : Nat) (l : List UInt8) (w : World) :
    Calls Try.prog 23 #[.agg rq0, .int .u32 (a : Int), .agg (cellsOf l)] w fun e w' => e = .returned (.tuple #[.agg rq0, .int .i64 2]) ∧ Below w.heap.size w w' := by
  have hzq := (zero_of_info infoRQ).1
  have hi := size0
  have i0 : (0 : Int) ≤ (a : Int) := by omega
  have hb : Below w.heap.size w (((w.alloc (.cells rq0 36)).alloc (.cells (cellsOf l) 47)).alloc (.cells rq0 36)) := (((Below.refl _ _).alloc (Nat.le_refl _) _).alloc (by simp) _).alloc (by simp; omega) _
  obtain ⟨x0, x1, x2, xs_⟩ := heap3 w (.cells rq0 36) (.cells (cellsOf l) 47) (.cells rq0 36)
  unfold rq0 at *
  have HI := Lib.hid hi
  clear x0 x1 xs_ hi
  have HX := Lib.hid x2; clear x2
  go_enter Try.func23, Try.ntmps23
  go_wp2_with fail
  exact bodyPost_ret (results_row_tmp rfl _ _ _ _ _ _ _ rfl HX.out Try.underlying36 rfl HI.out) rfl ⟨rfl, hb⟩

set_option maxHeartbeats 1600000 in
theorem burn_zero (w : World) :
    Calls Try.prog 42 #[.agg rq0] w fun e w' => e = .returned (.agg rq1) ∧ w' = (w.alloc (.cells rq1 36)).alloc (.cells rq1 36) := by
  have hzq := (zero_of_info infoRQ).1
  have hi := size1
  obtain ⟨x0, x1, xs_⟩ := heap2 w (.cells rq1 36) (.cells rq1 36)
  unfold rq0 at *
  unfold rq1 at *
  have HI := Lib.hid hi
  clear x0 xs_ hi
  have HX := Lib.hid x1; clear x1
  go_enter Try.func42, Try.ntmps42
  go_wp2_with fail
  exact bodyPost_ret (results_cell_row rfl _ _ _ _ _ _ _ rfl HX.out Try.underlying36 rfl HI.out) rfl ⟨rfl, rfl⟩

set_option maxHeartbeats 3200000 in
theorem rFlush_zero (w : World) :
    Calls Try.prog 24 #[.agg rq0] w fun e w' => e = .returned (.tuple #[.agg rq1, .int .i64 0]) ∧ Below w.heap.size w w' := by
  have hzq := (zero_of_info infoRQ).1
  have hi := size1
  have hbz := fun W => burn_zero W
  unfold rq0 at *
  unfold rq1 at *
  have HI := Lib.hid hi
  clear hi
  have HB := Lib.hid hbz; clear hbz
  go_enter Try.func24, Try.ntmps24
  go_wp2_with fail
  refine (HB.out _).mono ?_
  rintro e W3 ⟨rfl, rfl⟩
  go_wp2_with fail
  refine wp_loop_rounds 1 ?_
  rw [rounds_succ]
  go_wp2_with fail
  obtain ⟨x0, x1, x2, x3, xs_⟩ := heap4 w (.cells #[.int .u32 0, .slice none 0 0, .slice none 0 0, .bool false, .int .i64 0, .bool false, .int .u64 1] 36) (.cells #[.int .u32 0, .slice none 0 0, .slice none 0 0, .bool false, .int .i64 0, .bool false, .int .u64 1] 36) (.cells #[.int .u32 0, .slice none 0 0, .slice none 0 0, .bool false, .int .i64 0, .bool false, .int .u64 1] 36) (.cells #[.int .u32 0, .slice none 0 0, .slice none 0 0, .bool false, .int .i64 0, .bool false, .int .u64 1] 36)
  exact bodyPost_ret (results_row_tmp rfl _ _ _ _ _ _ _ rfl x1 Try.underlying36 rfl HI.out) rfl ⟨rfl, ((((Below.refl _ _).alloc (Nat.le_refl _) _).alloc (by simp) _).alloc (by simp; omega) _).alloc (by simp; omega) _⟩

theorem setCell_same {W : World} {q j : Nat} {cs : Array Value} {T : TypeId} {v : Value} (h : W.heap[q]? = some (.cells cs T)) (hj : cs[j]? = some v) : W.setCell ⟨q, j, none⟩ v = W := by
  have hcs : cs.setIfInBounds j v = cs := by
    apply Array.ext_getElem?
    intro i
    rw [Array.getElem?_setIfInBounds]
    by_cases hi : j = i
    · subst hi
      have := (Array.getElem?_eq_some_iff.1 hj).1
      rw [if_pos rfl, if_pos this, hj]
    · rw [if_neg hi]
  have e : (W.setCell ⟨q, j, none⟩ v).heap = W.heap := by
    apply Array.ext_getElem?
    intro i
    by_cases hi : i = q
    · subst hi
      rw [heap_setCell_same W i j _ _ v h, hcs, h]
    · exact heap_setCell_other W ⟨q, j, none⟩ i v hi
  unfold World.setCell at e ⊢
  simp only at e
  rw [e]
theorem quiet_load_u16 {I : World → Prop} {K : Act → Prop} {o : Oper} {a : Act} (x : Operand) (ho : o.op = .load 41 x) (ad : Addr) (hx : a.eval x = .pointer (some ad)) (v : Value) (hc : ∀ w : World, I w → w.cell? ad = some v)
    (hk : K (a.put o.dst v)) : o.quiet Try.prog a (fun w' => ∃ x : {w' : World // I w'}, w' = x.1) K :=
  ⟨v, fun w hw => by
    obtain ⟨y, rfl⟩ := hw
    have h := hc y.1 y.2
    unfold Oper.quietAt execOp
    simp only [ho, hx]
    go_simp, hk⟩
theorem quiet_load_puts {I : World → Prop} {K : Act → Prop} {o : Oper} {a : Act} (x : Operand) (ho : o.op = .load 33 x) (ad : Addr) (hx : a.eval x = .pointer (some ad)) (v : Value) (hc : ∀ w : World, I w → w.cell? ad = some v)
    (hk : K (a.put o.dst v)) : o.quiet Try.prog a (fun w' => ∃ x : {w' : World // I w'}, w' = x.1) K :=
  ⟨v, fun w hw => by
    obtain ⟨y, rfl⟩ := hw
    have h := hc y.1 y.2
    unfold Oper.quietAt execOp
    simp only [ho, hx]
    go_simp, hk⟩

set_option maxHeartbeats 3200000 in
theorem rCrash_zero {w : World} {pa : Option Addr} {cap : Nat} {ks : List (Nat × Nat)} (hkl : ks.length ≤ maxLen) (hk : Keeps w pa ks) :
    Calls Try.prog 25 #[.agg rq0, .slice pa ks.length cap] w fun e w' => e = .returned (.agg rq0) ∧ Below w.heap.size w w' := by
  have hzq := (zero_of_info infoRQ).1
  have hi := size0
  obtain ⟨x0, x1, xs_⟩ := heap2 w (.cells rq0 36) (.cells rq0 36)
  have hb : Below w.heap.size w ((w.alloc (.cells rq0 36)).alloc (.cells rq0 36)) := ((Below.refl _ _).alloc (Nat.le_refl _) _).alloc (by simp) _
  unfold rq0 at *
  have HI := Lib.hid hi
  clear hi xs_
  obtain ⟨m, hm⟩ : ∃ m, m = ks.length := ⟨_, rfl⟩
  rw [← hm] at hkl ⊢
  have hm63 : m ≤ 9223372036854775807 := by unfold maxLen at hkl; omega
  have HM := Lib.hid hm; clear hm hkl
  have HK := Lib.hid hk; clear hk
  have hsz : w.heap.size + 1 < ((w.alloc (.cells #[.int .u32 0, .slice none 0 0, .slice none 0 0, .bool false, .int .i64 0, .bool false, .int .u64 0] 36)).alloc (.cells #[.int .u32 0, .slice none 0 0, .slice none 0 0, .bool false, .int .i64 0, .bool false, .int .u64 0] 36)).heap.size := by simp
  go_enter Try.func25, Try.ntmps25
  go_wp2_with fail
  obtain ⟨q0, hq0⟩ : ∃ q, q = w.heap.size := ⟨_, rfl⟩
  obtain ⟨q1, hq1⟩ : ∃ q, q = q0 + 1 := ⟨_, rfl⟩
  simp only [← hq0, ← hq1] at x0 x1 hsz ⊢
  generalize (w.alloc _).alloc _ = W0 at x0 x1 hb hsz ⊢
  have hge : w.heap.size ≤ q0 ∧ q0 < W0.heap.size ∧ q1 < W0.heap.size ∧ q0 ≠ q1 ∧ w.heap.size ≤ q1 := by omega
  have HQ := Lib.hid hge
  clear hq0 hq1 hsz hge
  go_loopw [5] (fun i wr => ∃ j : Nat, j ≤ m ∧ i = .int .i64 j ∧ Below W0.heap.size W0 wr) (fun i _ => m - (intOf i).toNat)
  case atStart => exact ⟨0, Nat.zero_le _, rfl, Below.refl _ _⟩
  case round =>
    obtain ⟨j, hj, rfl, hbr⟩ := hrel
    by_cases hjm : j < m
    · have hjl : j < ks.length := by have := HM.out; omega
      rcases HK.out with h0 | ⟨b, off, rfl, hbw, hat⟩
      · rw [h0] at hjl; exact absurd hjl (by simp)
      obtain ⟨k1, _, kb, _⟩ := hat j hjl
      clear hat
      generalize ks[j] = kk at k1 kb
      have c1 : ∀ W : World, Below W0.heap.size W0 W → W.cell? ⟨b, off + j * 2, none⟩ = some (.int .u16 (kk.1 : Int)) := fun W hW =>
        (World.cell?_of_block (w := w) (a := ⟨b, off + j * 2, none⟩) ((hb.trans (hW.mono hb.size)).block b hbw)).trans k1
      have c2 : ∀ W : World, Below W0.heap.size W0 W → W.cell? ⟨q0, 2, none⟩ = some (.slice none 0 0) := fun W hW =>
        cell_of_row W q0 2 _ _ _ ((hW.block q0 HQ.out.2.1).trans x0)
      have z2 : IntKind.i64.wrap ((j : Int) + 1) = (j : Int) + 1 := IntWalk.i64_in _ (by omega)
      have z3 : IntKind.i64.wrap (kk.1 : Int) = (kk.1 : Int) := IntWalk.i64_in _ (by omega)
      have i1 : (0 : Int) ≤ (kk.1 : Int) := by omega
      have i2 : decide ((0 : Int) ≤ (kk.1 : Int)) = true := decide_eq_true i1
      clear k1 kb
      have hS : Below W0.heap.size W0 wr.drew := hbr.drew
      clear hbr
      go_wp2_with fail
      refine wp_region_class_lit (fun W => Below W0.heap.size W0 W) (by kernel_rfl) (by kernel_rfl) hS ?_
      haveI : Nonempty {w' : World // Below W0.heap.size W0 w'} := ⟨⟨_, hS⟩⟩
      clear hS
      repeat (first | go_big_quiet_skip | (go_big_quiet_want; first | (refine quiet_load_u16 _ rfl ⟨b, off + j * 2, none⟩ rfl _ c1 ?_; go_big_quiet_on; simp only [Act.put, List.setIfInBounds_toArray, List.set_cons_zero, List.set_cons_succ]) | (refine quiet_load_puts _ rfl ⟨q0, 2, none⟩ rfl _ c2 ?_; go_big_quiet_on; simp only [Act.put, List.setIfInBounds_toArray, List.set_cons_zero, List.set_cons_succ]) | (go_big_quiet_op; first | go_big_quiet_on | go_big_quiet_call (first | (intro _; rfl)))))
      refine wpQuiet_nil ?_
      intro w2 hw2
      go_wp2_with fail
      go_roundw
      case rel => exact ⟨j + 1, by omega, by go_num, hw2⟩
      case measure => simp [intOf]; omega
    · have hjj : j = m := by omega
      subst hjj
      have y0 := (hbr.block q0 HQ.out.2.1).trans x0
      have y1 := (hbr.block q1 HQ.out.2.2.1).trans x1
      have hbb := hb.trans (hbr.mono hb.size)
      clear x0 x1 hb hbr
      have c2 := cell_of_row wr q0 2 _ _ _ y0
      have c3 := cell_of_row wr q0 3 _ _ _ y0
      have c4 := cell_of_row wr q0 4 _ _ _ y0
      have c5 := cell_of_row wr q0 5 _ _ _ y0
      have f2 := frozen_of_row wr q0 2 _ _ y0
      have f3 := frozen_of_row wr q0 3 _ _ y0
      have f4 := frozen_of_row wr q0 4 _ _ y0
      have f5 := frozen_of_row wr q0 5 _ _ y0
      have e2 : wr.setCell ⟨q0, 2, none⟩ (.slice none 0 0) = wr := setCell_same y0 rfl
      have e3 : wr.setCell ⟨q0, 3, none⟩ (.bool false) = wr := setCell_same y0 rfl
      have e4 : wr.setCell ⟨q0, 4, none⟩ (.int .i64 0) = wr := setCell_same y0 rfl
      have e5 : wr.setCell ⟨q0, 5, none⟩ (.bool false) = wr := setCell_same y0 rfl
      have HY := Lib.hid (And.intro y0 y1)
      clear y0 y1
      go_wp2_with (first | (refine wpList_load_want (by rfl) 36 _ rfl q0 rfl _ _ _ _ HY.out.1 Try.underlying36 rfl HI.out ?_) | (refine wpList_store_row rfl 36 _ _ rfl q1 #[.int .u32 0, .slice none 0 0, .slice none 0 0, .bool false, .int .i64 0, .bool false, .int .u64 0] rfl rfl _ _ HY.out.2 HI.out rfl (by simp [Value.oneCell']) ?_))
      try simp only [Exit.noGoto]
      refine bodyPost_ret (v := .agg #[.int .u32 0, .slice none 0 0, .slice none 0 0, .bool false, .int .i64 0, .bool false, .int .u64 0]) ?_ rfl ⟨rfl, below_row hbb (by have := HQ.out; omega)⟩
      exact results_cell_row rfl _ _ _ _ _ _ _ rfl (setRow_heap wr _ _ _ _ _ HY.out.2) Try.underlying36 rfl HI.out

end Go.Proofs.Ytlgjgobelceheaa.Dev
