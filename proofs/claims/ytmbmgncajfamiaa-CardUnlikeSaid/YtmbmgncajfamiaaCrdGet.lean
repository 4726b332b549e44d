/-
  The walk of card's Get.
-/
import Derived.Test.YtmbmgncajfamiaaCrdRead
import Derived.Test.YtmbmgncajfamiaaFldOpen
import Derived.Deep.Cut
import Derived.StillTailTactics
namespace Go.Proofs.Ytmbmgncajfamiaa.Crd
open Go.RowKit RowLaw Crc Fld
set_option maxRecDepth 100000

theorem quiet_load_u8 {I : World → Prop} {K : Act → Prop} {o : Oper} {a : Act} (x : Operand) (ho : o.op = .load 5 x) (ad : Addr) (hx : a.eval x = .pointer (some ad)) (v : Value) (hc : ∀ w : World, I w → w.cell? ad = some v)
    (hk : K (a.put o.dst v)) : o.quiet Try.prog a (fun w' => ∃ x : {w' : World // I w'}, w' = x.1) K :=
  ⟨v, fun w hw => by
    obtain ⟨y, rfl⟩ := hw
    have h := hc y.1 y.2
    unfold Oper.quietAt execOp
    simp only [ho, hx]
    go_simp, hk⟩
theorem quiet_load_bool {I : World → Prop} {K : Act → Prop} {o : Oper} {a : Act} (x : Operand) (ho : o.op = .load 4 x) (ad : Addr) (hx : a.eval x = .pointer (some ad)) (v : Value) (hc : ∀ w : World, I w → w.cell? ad = some v)
    (hk : K (a.put o.dst v)) : o.quiet Try.prog a (fun w' => ∃ x : {w' : World // I w'}, w' = x.1) K :=
  ⟨v, fun w hw => by
    obtain ⟨y, rfl⟩ := hw
    have h := hc y.1 y.2
    unfold Oper.quietAt execOp
    simp only [ho, hx]
    go_simp, hk⟩

set_option maxHeartbeats 3200000 in
theorem Get_any (l : List UInt8) (hl : l.length = 256) (w : World) :
    Calls Try.prog 15 #[.agg (cellsOf l)] w fun e w' => e = .returned (.tuple #[.agg (cells (getC l)), .int .i64 (getE l)]) ∧ Below w.heap.size w w' := by
  have hzc := (zero_of_info infoC).1
  have hi := sizeBlock l hl
  have hK : Kept w [(w.heap.size + 1, cardO nil), (w.heap.size, blockO l)] ((w.alloc (.cells (cellsOf l) 29)).alloc (.cells (cells nil) 26)) := by
    have h := ((Kept.start w).alloc (blockO l)).alloc (cardO nil)
    rw [show (w.alloc (blockO l)).heap.size = w.heap.size + 1 from by simp] at h
    exact h
  have hnm : takeText (openSt l 67) 24 = ((nmT l).1, stN l 0) := rfl
  have hon : takeNum (stN l 7) 1 = ((onT l).1, (onT l).2) := rfl
  have hxl := onT_lt l
  have hraw := prog_all l
  have hcases : (endE (onT l).2 ≠ 0 → getC l = nil ∧ getE l = 250) ∧ (¬ (onT l).1 ≤ 1 → getC l = nil ∧ getE l = 250) ∧ (mayB (rawC l) = false → getC l = nil ∧ getE l = 250) ∧ (endE (onT l).2 = 0 → (onT l).1 ≤ 1 → mayB (rawC l) = true → getC l = rawC l ∧ getE l = 0) := by
    unfold getC getE isC
    refine ⟨fun h => ?_, fun h => ?_, fun h => ?_, fun h1 h2 h3 => ?_⟩
    · rw [decide_eq_false h]; exact ⟨rfl, rfl⟩
    · rw [decide_eq_false h]; simp
    · rw [h]; simp
    · rw [decide_eq_true h1, decide_eq_true h2, h3]; exact ⟨rfl, rfl⟩
  have HCS := Lib.hid hcases; clear hcases
  go_enter Try.func15, Try.ntmps15
  go_wp2_with (refine wpList_load_row rfl 29 _ rfl (w.heap.size) rfl _ _ _ _ (hK.at_ (q := w.heap.size) (o := blockO l) (by simp)) Try.underlying29 rfl hi ?_)
  refine (Open_any l hl 67 _).mono ?_
  rintro e W1 ⟨q, hq, rfl, hr, hx⟩
  have hbox : RBox w _ q (openSt l 67) W1 := ⟨hK.below hx, hr, Nat.le_trans hK.bel.size hq, fun x hx => by have := hK.lt_ (q := x.1) (o := x.2) hx; omega⟩
  clear hK hr hx hq
  go_wp2_with fail
  refine (hbox.text 24 hnm).mono ?_
  clear hbox hnm
  rintro e W2 ⟨rfl, hbox⟩
  unfold cells nil at hzc
  go_wp2_with fail
  have hbA := (hbox.alloc (.cells (cells (prog l 0)) 26)).alloc (.cells #[.int .u8 0] 5)
  rw [show (W2.alloc (.cells (cells (prog l 0)) 26)).heap.size = W2.heap.size + 1 from by simp] at hbA
  have hg1 : w.heap.size + 1 < W2.heap.size := hbox.kept.lt_ (q := w.heap.size + 1) (o := cardO nil) (by simp)
  have hsz : ((W2.alloc (.cells (cells (prog l 0)) 26)).alloc (.cells #[.int .u8 0] 5)).heap.size = W2.heap.size + 2 := by simp
  clear hbox hzc
  refine (numbers_any W2.heap.size _).mono ?_
  rintro e W3 ⟨u, hu, rfl, hpu, hx⟩
  have hb3 := hbA.more hx hu hpu
  have hu2 : W2.heap.size + 2 ≤ u := by
    have hu' : ((W2.alloc (.cells (cells (prog l 0)) 26)).alloc (.cells #[.int .u8 0] 5)).heap.size ≤ u := hu
    omega
  clear hbA hx hu hpu hsz
  generalize W2.heap.size = g at hb3 hg1 hu2 ⊢
  have hb4 : RBox w ((g, .cells (cells (prog l 0)) 26 (0, 0)) :: [(u, ptrsO g), (g + 1, .cells #[.int .u8 0] 5 (0, 0)), (w.heap.size + 1, cardO nil), (w.heap.size, blockO l)]) q (stN l 0) W3 := hb3.less (by intro x hx; simp only [List.mem_cons, List.not_mem_nil, or_false] at hx ⊢; rcases hx with rfl | rfl | rfl | rfl | rfl; exact .inr (.inr (.inl rfl)); exact .inl rfl; exact .inr (.inl rfl); exact .inr (.inr (.inr (.inl rfl))); exact .inr (.inr (.inr (.inr rfl))))
  clear hb3
  go_wp2_with fail
  refine (read32_any w _ g u q l (by intro x hx; simp only [List.mem_cons, List.not_mem_nil, or_false] at hx; rcases hx with rfl | rfl | rfl | rfl <;> simp <;> omega) (by simp) _ hb4).mono ?_
  clear hb4
  rintro e W4 ⟨rfl, hb4⟩
  have hb5 := hb4.alloc (.cells #[.pointer (some ⟨g + 1, 0, none⟩)] 74)
  have hv : g + 1 < W4.heap.size := hb4.kept.lt_ (q := g + 1) (o := .cells #[.int .u8 0] 5 (0, 0)) (by simp)
  clear hb4
  go_wp2_with fail
  generalize W4.heap.size = v at hb5 hv ⊢
  generalize W4.alloc (.cells #[.pointer (some ⟨g + 1, 0, none⟩)] 74) = W4' at hb5 ⊢
  have hb6 : RBox w ((g + 1, .cells #[.int .u8 ((0 : Nat) : Int)] 5 (0, 0)) :: [(v, .cells #[.pointer (some ⟨g + 1, 0, none⟩)] 74 (0, 0)), (g, .cells (cells (prog l 7)) 26 (0, 0)), (w.heap.size + 1, cardO nil), (w.heap.size, blockO l)]) q (stN l 7) W4' := hb5.less (by intro x hx; simp only [List.mem_cons, List.not_mem_nil, or_false] at hx ⊢; rcases hx with rfl | rfl | rfl | rfl | rfl; exact .inr (.inr (.inr (.inl rfl))); exact .inl rfl; exact .inr (.inl rfl); exact .inr (.inr (.inr (.inr (.inl rfl)))); exact .inr (.inr (.inr (.inr (.inr rfl)))))
  clear hb5
  refine (read8_any w _ (g + 1) v q 0 (onT l).1 (stN l 7) (onT l).2 hon hxl (by intro x hx; simp only [List.mem_cons, List.not_mem_nil, or_false] at hx; rcases hx with rfl | rfl | rfl | rfl <;> simp <;> omega) (by simp) _ hb6).mono ?_
  clear hb6 hon
  rintro e W5 ⟨rfl, hb7⟩
  generalize (onT l).1 = x at hb7 hxl hraw HCS
  generalize (onT l).2 = st at hb7 HCS
  obtain ⟨b, hbe⟩ : ∃ b, b = decide (x = 1) := ⟨_, rfl⟩
  have hxb : ((x : Int) == 1) = b := by rw [hbe, Bool.eq_iff_iff, beq_iff_eq, decide_eq_true_eq]; omega
  rw [← hbe] at hraw
  have hfb : (x ≤ 1 → flagN b = x) ∧ (¬ x ≤ 1 → flagN b ≠ x) := by
    rw [hbe]
    unfold flagN
    constructor
    · intro h
      by_cases h1 : x = 1
      · simp [h1]
      · have : x = 0 := by omega
        simp [this]
    · intro h
      have h1 : ¬ x = 1 := by omega
      simp [h1]
      omega
  have HFB := Lib.hid hfb; clear hfb hbe
  have hb8 : RBox w ((g, .cells (cells (prog l 7)) 26 (0, 0)) :: [(g + 1, .cells #[.int .u8 (x : Int)] 5 (0, 0)), (w.heap.size + 1, cardO nil)]) q st W5 := hb7.less (by intro x hx; simp only [List.mem_cons, List.not_mem_nil, or_false] at hx ⊢; rcases hx with rfl | rfl | rfl; exact .inr (.inr (.inl rfl)); exact .inl rfl; exact .inr (.inr (.inr (.inl rfl))))
  clear hb7
  have c6 : W5.cell? ⟨g + 1, 0, none⟩ = some (.int .u8 (x : Int)) := (cell_of_row W5 (g + 1) 0 _ _ _ (hb8.kept.at_ (q := g + 1) (o := .cells #[.int .u8 (x : Int)] 5 (0, 0)) (by simp))).trans rfl
  go_wp2_with fail
  refine wp_region_still_tail 5 (by kernel_rfl) (by kernel_rfl) ?_
  simp only [List.take_succ_cons, List.take_zero, List.drop_succ_cons, List.drop_zero]
  repeat still_step
  still_call (flag_any true _)
  rw [show ((flagN true : Nat) : Int) = 1 from rfl]
  repeat still_step
  refine wpStill_nil ?_
  change wpList _ _ _ _ _ W5.drew
  have hb9 := hb8.drew
  have hset := RBox.setCell (j := 8) (v := .bool b) hb9 (by intro x hx; simp only [List.mem_cons, List.not_mem_nil, or_false] at hx; rcases hx with rfl | rfl <;> simp <;> omega)
  rw [cells_setOnly, hraw] at hset
  have hc9 : W5.drew.heap[g]? = some (.cells (cells (prog l 7)) 26 (0, 0)) := hb9.kept.at_ (by simp)
  have c8 := IsCd.only (c := prog l 7) hc9
  have f8 := IsCd.frozen (c := prog l 7) hc9 8
  clear hb8 hb9 hc9 c6
  generalize W5.drew = W6 at hset c8 f8 ⊢
  go_upto_region 7 with fail
  have hzc := (zero_of_info infoC).1
  generalize W6.setCell ⟨g, 8, none⟩ (.bool b) = W7 at hset ⊢
  have hS := hset.drew
  clear hset c8 f8
  have hend : ∀ W : World, RIs W q st → Calls Try.prog 34 #[.pointer (some ⟨q, 0, none⟩)] W fun e w' => e = .returned (.int .i64 (endE st)) ∧ Below W.heap.size W w' := fun W h => End_any st q W h
  have hmay := fun W : World => May_any (rawC l) W
  have hflag := fun W : World => flag_any b W
  have honly : (rawC l).only = b := congrArg Cd.only hraw.symm
  clear hraw
  generalize endE st = E at hend HCS
  generalize mayB (rawC l) = m at hmay HCS
  generalize rawC l = R at hS hmay HCS honly
  generalize flagN b = y at hflag HFB
  have Hx : ∀ W : World, (RBox w [(g, .cells (cells R) 26 (0, 0)), (g + 1, .cells #[.int .u8 (x : Int)] 5 (0, 0)), (w.heap.size + 1, cardO nil)] q st) W → W.cell? ⟨g + 1, 0, none⟩ = some (.int .u8 (x : Int)) := fun W h => (cell_of_row W (g + 1) 0 _ _ _ (h.kept.at_ (q := g + 1) (o := .cells #[.int .u8 (x : Int)] 5 (0, 0)) (by simp))).trans rfl
  have Hg : ∀ W : World, (RBox w [(g, .cells (cells R) 26 (0, 0)), (g + 1, .cells #[.int .u8 (x : Int)] 5 (0, 0)), (w.heap.size + 1, cardO nil)] q st) W → W.heap[g]? = some (.cells (cells R) 26 (0, 0)) := fun W h => h.kept.at_ (by simp)
  have Hb : ∀ W : World, (RBox w [(g, .cells (cells R) 26 (0, 0)), (g + 1, .cells #[.int .u8 (x : Int)] 5 (0, 0)), (w.heap.size + 1, cardO nil)] q st) W → W.cell? ⟨g, 8, none⟩ = some (.bool b) := fun W h => by
    have := IsCd.only (Hg W h)
    rw [honly] at this
    exact this
  have HEN := Lib.hid hend
  have HFL := Lib.hid hflag
  have HMY := Lib.hid hmay
  clear hend hflag hmay honly
  by_cases h0 : E = 0
  · have d0 : (E != 0) = false := by rw [h0]; rfl
    by_cases h1 : x ≤ 1
    · have h2 := HFB.out.1 h1
      have d1 : ((x : Int) != (y : Int)) = false := by rw [h2]; simp
      cases hm : m with
      | false =>
        have HG := Lib.hid (HCS.out.2.2.1 hm)
        rw [hm] at HMY
        clear h0 h1 h2 hm
        go_wp2_with fail
        refine wp_region_class_lit (RBox w [(g, .cells (cells R) 26 (0, 0)), (g + 1, .cells #[.int .u8 (x : Int)] 5 (0, 0)), (w.heap.size + 1, cardO nil)] q st) (by kernel_rfl) (by kernel_rfl) hS ?_
        haveI : Nonempty {w' : World // (RBox w [(g, .cells (cells R) 26 (0, 0)), (g + 1, .cells #[.int .u8 (x : Int)] 5 (0, 0)), (w.heap.size + 1, cardO nil)] q st) w'} := ⟨⟨_, hS⟩⟩
        clear hS
        repeat (first | go_big_quiet_skip | (go_big_quiet_want; first | (refine quiet_load_u8 _ rfl ⟨g + 1, 0, none⟩ rfl _ Hx ?_; go_big_quiet_on; simp only [Act.put, List.setIfInBounds_toArray, List.set_cons_zero, List.set_cons_succ]) | (refine quiet_load_bool _ rfl ⟨g, 8, none⟩ rfl _ Hb ?_; go_big_quiet_on; simp only [Act.put, List.setIfInBounds_toArray, List.set_cons_zero, List.set_cons_succ]) | (refine quiet_load_row 26 _ rfl g rfl _ _ _ _ Hg Try.underlying26 rfl (sizeC _) ?_; go_big_quiet_on; simp only [Act.put, List.setIfInBounds_toArray, List.set_cons_zero, List.set_cons_succ]) | (go_big_quiet_op; first | go_big_quiet_on | go_big_quiet_call (first | (intro h1; (with_reducible refine (HEN.out _ h1.rd).mono ?_); exact fun _ _ ⟨he, hb⟩ => ⟨he, h1.below hb⟩) | (intro h1; (with_reducible refine (HFL.out _).mono ?_); exact fun _ _ ⟨he, hb⟩ => ⟨he, hb ▸ h1⟩) | (intro h1; (with_reducible refine (HMY.out _).mono ?_); exact fun _ _ ⟨he, hb⟩ => ⟨he, h1.below hb⟩) | (intro _; rfl)))))
        refine wpQuiet_nil ?_
        intro w2 hw2
        have hR := hw2.kept.at_ (q := w.heap.size + 1) (o := cardO nil) (by simp)
        have hbel := hw2.kept.bel
        clear hw2
        go_wp2_with (refine wpList_store_row rfl 26 _ _ rfl (w.heap.size + 1) _ rfl rfl _ _ hR (sizeC nil) rfl (cells_one _) ?_)
        exact bodyPost_ret (results_row_tmp rfl _ _ _ _ _ _ _ rfl (setRow_heap _ _ _ _ _ _ hR) Try.underlying26 rfl (sizeC nil)) rfl ⟨by rw [HG.out.1, HG.out.2]; rfl, below_row hbel (by omega)⟩
      | true =>
        have HG := Lib.hid (HCS.out.2.2.2 h0 h1 hm)
        rw [hm] at HMY
        clear h0 h1 h2 hm
        go_wp2_with fail
        refine wp_region_class_lit (RBox w [(g, .cells (cells R) 26 (0, 0)), (g + 1, .cells #[.int .u8 (x : Int)] 5 (0, 0)), (w.heap.size + 1, cardO nil)] q st) (by kernel_rfl) (by kernel_rfl) hS ?_
        haveI : Nonempty {w' : World // (RBox w [(g, .cells (cells R) 26 (0, 0)), (g + 1, .cells #[.int .u8 (x : Int)] 5 (0, 0)), (w.heap.size + 1, cardO nil)] q st) w'} := ⟨⟨_, hS⟩⟩
        clear hS
        repeat (first | go_big_quiet_skip | (go_big_quiet_want; first | (refine quiet_load_u8 _ rfl ⟨g + 1, 0, none⟩ rfl _ Hx ?_; go_big_quiet_on; simp only [Act.put, List.setIfInBounds_toArray, List.set_cons_zero, List.set_cons_succ]) | (refine quiet_load_bool _ rfl ⟨g, 8, none⟩ rfl _ Hb ?_; go_big_quiet_on; simp only [Act.put, List.setIfInBounds_toArray, List.set_cons_zero, List.set_cons_succ]) | (refine quiet_load_row 26 _ rfl g rfl _ _ _ _ Hg Try.underlying26 rfl (sizeC _) ?_; go_big_quiet_on; simp only [Act.put, List.setIfInBounds_toArray, List.set_cons_zero, List.set_cons_succ]) | (go_big_quiet_op; first | go_big_quiet_on | go_big_quiet_call (first | (intro h1; (with_reducible refine (HEN.out _ h1.rd).mono ?_); exact fun _ _ ⟨he, hb⟩ => ⟨he, h1.below hb⟩) | (intro h1; (with_reducible refine (HFL.out _).mono ?_); exact fun _ _ ⟨he, hb⟩ => ⟨he, hb ▸ h1⟩) | (intro h1; (with_reducible refine (HMY.out _).mono ?_); exact fun _ _ ⟨he, hb⟩ => ⟨he, h1.below hb⟩) | (intro _; rfl)))))
        refine wpQuiet_nil ?_
        intro w2 hw2
        have hR := hw2.kept.at_ (q := w.heap.size + 1) (o := cardO nil) (by simp)
        have hbel := hw2.kept.bel
        have hgo := hw2.kept.at_ (q := g) (o := .cells (cells R) 26 (0, 0)) (by simp)
        clear hw2
        go_wp2_with (first | (refine wpList_load_row rfl 26 _ rfl g rfl _ _ _ _ hgo Try.underlying26 rfl (sizeC R) ?_) | (refine wpList_store_row rfl 26 _ _ rfl (w.heap.size + 1) _ rfl rfl _ _ hR (sizeC R) rfl (cells_one _) ?_))
        exact bodyPost_ret (results_row_tmp rfl _ _ _ _ _ _ _ rfl (setRow_heap _ _ _ _ _ _ hR) Try.underlying26 rfl (sizeC R)) rfl ⟨by rw [HG.out.1, HG.out.2]; rfl, below_row hbel (by omega)⟩
    · have h2 := HFB.out.2 h1
      have d1 : ((x : Int) != (y : Int)) = true := by simp; omega
      have HG := Lib.hid (HCS.out.2.1 h1)
      clear h0 h1 h2
      go_wp2_with fail
      refine wp_region_class_lit (RBox w [(g, .cells (cells R) 26 (0, 0)), (g + 1, .cells #[.int .u8 (x : Int)] 5 (0, 0)), (w.heap.size + 1, cardO nil)] q st) (by kernel_rfl) (by kernel_rfl) hS ?_
      haveI : Nonempty {w' : World // (RBox w [(g, .cells (cells R) 26 (0, 0)), (g + 1, .cells #[.int .u8 (x : Int)] 5 (0, 0)), (w.heap.size + 1, cardO nil)] q st) w'} := ⟨⟨_, hS⟩⟩
      clear hS
      repeat (first | go_big_quiet_skip | (go_big_quiet_want; first | (refine quiet_load_u8 _ rfl ⟨g + 1, 0, none⟩ rfl _ Hx ?_; go_big_quiet_on; simp only [Act.put, List.setIfInBounds_toArray, List.set_cons_zero, List.set_cons_succ]) | (refine quiet_load_bool _ rfl ⟨g, 8, none⟩ rfl _ Hb ?_; go_big_quiet_on; simp only [Act.put, List.setIfInBounds_toArray, List.set_cons_zero, List.set_cons_succ]) | (refine quiet_load_row 26 _ rfl g rfl _ _ _ _ Hg Try.underlying26 rfl (sizeC _) ?_; go_big_quiet_on; simp only [Act.put, List.setIfInBounds_toArray, List.set_cons_zero, List.set_cons_succ]) | (go_big_quiet_op; first | go_big_quiet_on | go_big_quiet_call (first | (intro h1; (with_reducible refine (HEN.out _ h1.rd).mono ?_); exact fun _ _ ⟨he, hb⟩ => ⟨he, h1.below hb⟩) | (intro h1; (with_reducible refine (HFL.out _).mono ?_); exact fun _ _ ⟨he, hb⟩ => ⟨he, hb ▸ h1⟩) | (intro h1; (with_reducible refine (HMY.out _).mono ?_); exact fun _ _ ⟨he, hb⟩ => ⟨he, h1.below hb⟩) | (intro _; rfl)))))
      refine wpQuiet_nil ?_
      intro w2 hw2
      have hR := hw2.kept.at_ (q := w.heap.size + 1) (o := cardO nil) (by simp)
      have hbel := hw2.kept.bel
      clear hw2
      go_wp2_with (refine wpList_store_row rfl 26 _ _ rfl (w.heap.size + 1) _ rfl rfl _ _ hR (sizeC nil) rfl (cells_one _) ?_)
      exact bodyPost_ret (results_row_tmp rfl _ _ _ _ _ _ _ rfl (setRow_heap _ _ _ _ _ _ hR) Try.underlying26 rfl (sizeC nil)) rfl ⟨by rw [HG.out.1, HG.out.2]; rfl, below_row hbel (by omega)⟩
  · have d0 : (E != 0) = true := by simpa using h0
    have HG := Lib.hid (HCS.out.1 h0)
    clear h0
    go_wp2_with fail
    refine wp_region_class_lit (RBox w [(g, .cells (cells R) 26 (0, 0)), (g + 1, .cells #[.int .u8 (x : Int)] 5 (0, 0)), (w.heap.size + 1, cardO nil)] q st) (by kernel_rfl) (by kernel_rfl) hS ?_
    haveI : Nonempty {w' : World // (RBox w [(g, .cells (cells R) 26 (0, 0)), (g + 1, .cells #[.int .u8 (x : Int)] 5 (0, 0)), (w.heap.size + 1, cardO nil)] q st) w'} := ⟨⟨_, hS⟩⟩
    clear hS
    repeat (first | go_big_quiet_skip | (go_big_quiet_want; first | (refine quiet_load_u8 _ rfl ⟨g + 1, 0, none⟩ rfl _ Hx ?_; go_big_quiet_on; simp only [Act.put, List.setIfInBounds_toArray, List.set_cons_zero, List.set_cons_succ]) | (refine quiet_load_bool _ rfl ⟨g, 8, none⟩ rfl _ Hb ?_; go_big_quiet_on; simp only [Act.put, List.setIfInBounds_toArray, List.set_cons_zero, List.set_cons_succ]) | (refine quiet_load_row 26 _ rfl g rfl _ _ _ _ Hg Try.underlying26 rfl (sizeC _) ?_; go_big_quiet_on; simp only [Act.put, List.setIfInBounds_toArray, List.set_cons_zero, List.set_cons_succ]) | (go_big_quiet_op; first | go_big_quiet_on | go_big_quiet_call (first | (intro h1; (with_reducible refine (HEN.out _ h1.rd).mono ?_); exact fun _ _ ⟨he, hb⟩ => ⟨he, h1.below hb⟩) | (intro h1; (with_reducible refine (HFL.out _).mono ?_); exact fun _ _ ⟨he, hb⟩ => ⟨he, hb ▸ h1⟩) | (intro h1; (with_reducible refine (HMY.out _).mono ?_); exact fun _ _ ⟨he, hb⟩ => ⟨he, h1.below hb⟩) | (intro _; rfl)))))
    refine wpQuiet_nil ?_
    intro w2 hw2
    have hR := hw2.kept.at_ (q := w.heap.size + 1) (o := cardO nil) (by simp)
    have hbel := hw2.kept.bel
    clear hw2
    go_wp2_with (refine wpList_store_row rfl 26 _ _ rfl (w.heap.size + 1) _ rfl rfl _ _ hR (sizeC nil) rfl (cells_one _) ?_)
    exact bodyPost_ret (results_row_tmp rfl _ _ _ _ _ _ _ rfl (setRow_heap _ _ _ _ _ _ hR) Try.underlying26 rfl (sizeC nil)) rfl ⟨by rw [HG.out.1, HG.out.2]; rfl, below_row hbel (by omega)⟩

end Go.Proofs.Ytmbmgncajfamiaa.Crd
