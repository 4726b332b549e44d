/-
  The walk of the reference's May.
-/
import Derived.Test.YtmbmgncajfamiaaCrdObj
import Derived.Deep.Cut
namespace Go.Proofs.Ytmbmgncajfamiaa.Crd
open Go.RowKit RowLaw Crc Fld
set_option maxRecDepth 100000

/-- a volume's cells -/
def volL (c : Cd) : List Value := [.int .u32 (c.id : Int), .int .u32 (c.parent : Int), .int .u32 (c.root : Int), .int .u32 (c.used : Int), .int .u32 (c.quota : Int), .bool c.only]
theorem infoV : (Try.prog.info? 24).map (fun i => (i.zero, i.size)) = some (some (.agg (volL nil).toArray), 6) := by kernel_rfl
theorem sizeV (c : Cd) : (Try.prog.info? 24).map (·.size) = some (volL c).toArray.size := (zero_of_info infoV).2
theorem sizeVL (c : Cd) : (Try.prog.info? 24).map (·.size) = some (volL c).length := (zero_of_info infoV).2
theorem volL_one (c : Cd) : (volL c).toArray.all (·.oneCell') = true := by simp [volL, Value.oneCell']
def IsVol (w : World) (p : Nat) (c : Cd) : Prop := w.heap[p]? = some (.cells (volL c).toArray 24 (0, 0))
theorem IsVol.id {w : World} {p : Nat} {c : Cd} (h : IsVol w p c) : w.cell? ⟨p, 0, none⟩ = some (.int .u32 (c.id : Int)) := (cell_of_row w p 0 _ _ _ h).trans rfl
theorem IsVol.parent {w : World} {p : Nat} {c : Cd} (h : IsVol w p c) : w.cell? ⟨p, 1, none⟩ = some (.int .u32 (c.parent : Int)) := (cell_of_row w p 1 _ _ _ h).trans rfl
theorem IsVol.root {w : World} {p : Nat} {c : Cd} (h : IsVol w p c) : w.cell? ⟨p, 2, none⟩ = some (.int .u32 (c.root : Int)) := (cell_of_row w p 2 _ _ _ h).trans rfl
theorem IsVol.used {w : World} {p : Nat} {c : Cd} (h : IsVol w p c) : w.cell? ⟨p, 3, none⟩ = some (.int .u32 (c.used : Int)) := (cell_of_row w p 3 _ _ _ h).trans rfl
theorem IsVol.quota {w : World} {p : Nat} {c : Cd} (h : IsVol w p c) : w.cell? ⟨p, 4, none⟩ = some (.int .u32 (c.quota : Int)) := (cell_of_row w p 4 _ _ _ h).trans rfl
theorem IsVol.only {w : World} {p : Nat} {c : Cd} (h : IsVol w p c) : w.cell? ⟨p, 5, none⟩ = some (.bool c.only) := (cell_of_row w p 5 _ _ _ h).trans rfl
theorem IsCd.vol {w : World} {p : Nat} {c : Cd} (h : IsCd w p c) : w.rangeAt p 3 (volL c) := by
  intro j v hv
  rw [cell_of_row w p (3 + j) _ _ _ h]
  have hj : j < 6 := (List.getElem?_eq_some_iff.1 hv).1
  rcases (by omega : j = 0 ∨ j = 1 ∨ j = 2 ∨ j = 3 ∨ j = 4 ∨ j = 5) with rfl | rfl | rfl | rfl | rfl | rfl
  all_goals exact hv

theorem refRoot (c : Cd) : (((c.root : Int) == 0) == ((c.used : Int) == 0)) = rootB c := by
  unfold rootB
  rw [Bool.eq_iff_iff, beq_iff_eq, Bool.eq_iff_iff, beq_iff_eq, beq_iff_eq, decide_eq_true_eq]
  omega

set_option maxHeartbeats 6400000 in
theorem refMay_any (c : Cd) (w : World) :
    Calls Try.prog 11 #[.agg (cells c)] w fun e w' => e = .returned (.bool (mayB c)) ∧ Below w.heap.size w w' := by
  have hC := IsCd.new w c
  have hv := hC.vol
  have hzv := (zero_of_info infoV).1
  have hb : Below w.heap.size w ((w.alloc (.cells (cells c) 26)).alloc (.cells (volL c).toArray 24)) := ((Below.refl _ _).alloc (Nat.le_refl _) _).alloc (by simp) _
  have hC2 := hC.alloc (.cells (volL c).toArray 24)
  have hV : IsVol ((w.alloc (.cells (cells c) 26)).alloc (.cells (volL c).toArray 24)) (w.heap.size + 1) c := heap_alloc2_new w _ _
  have tok : True := trivial
  go_enter Try.func11, Try.ntmps11
  go_upto_region 2 with (first
    | (refine wpList_load_mid rfl 24 _ rfl w.heap.size 3 rfl (volL c) _ hv Try.underlying24 rfl (sizeVL c) ?_)
    | (have _t := tok; rw [show w.heap.size + 1 = (w.alloc (.cells (cells c) 26)).heap.size from by simp]; refine wpList_store_new rfl 24 _ _ rfl (volL c).toArray _ _ rfl rfl (sizeV c) rfl (volL_one c) ?_; clear _t tok))
  -- branches
  simp only [Act.put]
  rw [show (w.alloc (.cells (cells c) 26)).heap.size = w.heap.size + 1 from by simp]
  generalize (w.alloc (Obj.cells (cells c) 26)).alloc (.cells (volL c).toArray 24) = W at hC2 hV hb ⊢
  have e0 := hC2.name
  have e1 := hC2.left
  have e2 := hC2.right
  have g0 := hV.id
  have g1 := hV.parent
  have g2 := hV.root
  have g3 := hV.used
  have g4 := hV.quota
  have g5 := hV.only
  clear hC2 hV hC hv hzv
  by_cases h0 : c.s.size < 1
  · have d0 : (c.s.size : Int) < 1 := by omega
    have HM : Hid (mayB c = false) := Lib.hid (by rw [Bool.eq_false_iff]; intro h9; have hm := mayB_iff.1 h9; exact absurd hm.1.1 (by omega))
    go_wp2
    go_ret
    exact ⟨by rw [HM.out]; rfl, hb⟩
  · have d0 : ¬ (c.s.size : Int) < 1 := by omega
    have K1 : Hid (1 ≤ c.s.size) := Lib.hid (by omega)
    by_cases h1 : 24 < c.s.size
    · have d1 : (24 : Int) < (c.s.size : Int) := by omega
      have HM : Hid (mayB c = false) := Lib.hid (by rw [Bool.eq_false_iff]; intro h9; have hm := mayB_iff.1 h9; exact absurd hm.1.2 (by omega))
      go_wp2
      go_ret
      exact ⟨by rw [HM.out]; rfl, hb⟩
    · have d1 : ¬ (24 : Int) < (c.s.size : Int) := by omega
      have K2 : Hid (c.s.size ≤ 24) := Lib.hid (by omega)
      by_cases h2 : c.left = c.right
      · have d2 : ((c.left : Int) == (c.right : Int)) = true := by rw [h2]; simp
        by_cases h3 : c.left = 0
        · have d3 : ((c.left : Int) != 0) = false := by rw [h3]; rfl
          have K3 : Hid (c.left ≠ c.right ∨ c.left = 0) := Lib.hid (.inr h3)
          clear h0 h1 h2 h3
          go_upto_region 4 with fail
          by_cases h4 : c.id = 0
          · have d4 : ((c.id : Int) == 0) = true := by rw [h4]; rfl
            have HM : Hid (mayB c = false) := Lib.hid (by rw [Bool.eq_false_iff]; intro h9; have hm := mayB_iff.1 h9; exact hm.2.2.1.1 h4)
            go_wp2
            go_ret
            exact ⟨by rw [HM.out]; rfl, hb⟩
          · have d4 : ((c.id : Int) == 0) = false := by simp; omega
            have K4 : Hid (c.id ≠ 0) := Lib.hid h4
            by_cases h5 : c.parent = c.id
            · have d5 : ((c.parent : Int) == (c.id : Int)) = true := by rw [h5]; simp
              have HM : Hid (mayB c = false) := Lib.hid (by rw [Bool.eq_false_iff]; intro h9; have hm := mayB_iff.1 h9; exact hm.2.2.1.2 h5)
              go_wp2
              go_ret
              exact ⟨by rw [HM.out]; rfl, hb⟩
            · have d5 : ((c.parent : Int) == (c.id : Int)) = false := by simp; omega
              have K5 : Hid (c.parent ≠ c.id) := Lib.hid h5
              cases h6 : c.only with
              | false =>
                rw [h6] at g5
                have K6 : Hid (c.only = true → c.parent ≠ 0) := Lib.hid (fun h => by rw [h6] at h; cases h)
                clear h4 h5 h6
                go_upto_region 6 with fail
                by_cases h7 : c.quota < 1
                · have d7 : (c.quota : Int) < 1 := by omega
                  have HM : Hid (mayB c = false) := Lib.hid (by rw [Bool.eq_false_iff]; intro h9; have hm := mayB_iff.1 h9; exact absurd hm.2.2.2.1.1 (by omega))
                  go_wp2
                  go_ret
                  exact ⟨by rw [HM.out]; rfl, hb⟩
                · have d7 : ¬ (c.quota : Int) < 1 := by omega
                  have K7 : Hid (1 ≤ c.quota) := Lib.hid (by omega)
                  by_cases h8 : 32768 < c.quota
                  · have d8 : (32768 : Int) < (c.quota : Int) := by omega
                    have HM : Hid (mayB c = false) := Lib.hid (by rw [Bool.eq_false_iff]; intro h9; have hm := mayB_iff.1 h9; exact absurd hm.2.2.2.1.2 (by omega))
                    go_wp2
                    go_ret
                    exact ⟨by rw [HM.out]; rfl, hb⟩
                  · have d8 : ¬ (32768 : Int) < (c.quota : Int) := by omega
                    have K8 : Hid (c.quota ≤ 32768) := Lib.hid (by omega)
                    by_cases h9 : c.quota < c.used
                    · have d9 : (c.quota : Int) < (c.used : Int) := by omega
                      have HM : Hid (mayB c = false) := Lib.hid (by rw [Bool.eq_false_iff]; intro h9; have hm := mayB_iff.1 h9; exact absurd hm.2.2.2.2.1 (by omega))
                      go_wp2
                      go_ret
                      exact ⟨by rw [HM.out]; rfl, hb⟩
                    · have d9 : ¬ (c.quota : Int) < (c.used : Int) := by omega
                      have K9 : Hid (c.used ≤ c.quota) := Lib.hid (by omega)
                      have q8 := refRoot c
                      have HM : Hid (mayB c = rootB c) := Lib.hid (by rw [Bool.eq_iff_iff, mayB_iff]; unfold rootB May; rw [decide_eq_true_eq]; constructor; exact fun h => h.2.2.2.2.2.1; intro h; exact ⟨⟨K1.out, K2.out⟩, K3.out, ⟨K4.out, K5.out⟩, ⟨K7.out, K8.out⟩, K9.out, h, K6.out⟩)
                      go_wp2
                      go_ret
                      exact ⟨by rw [HM.out, ← q8]; rfl, hb⟩
              | true =>
                rw [h6] at g5
                by_cases h10 : c.parent = 0
                · have d10 : ((c.parent : Int) == 0) = true := by rw [h10]; rfl
                  have HM : Hid (mayB c = false) := Lib.hid (by rw [Bool.eq_false_iff]; intro h9; have hm := mayB_iff.1 h9; exact hm.2.2.2.2.2.2 h6 h10)
                  go_wp2
                  go_ret
                  exact ⟨by rw [HM.out]; rfl, hb⟩
                · have d10 : ((c.parent : Int) == 0) = false := by simp; omega
                  have K6 : Hid (c.only = true → c.parent ≠ 0) := Lib.hid (fun _ => h10)
                  clear h4 h5 h6 h10
                  go_upto_region 6 with fail
                  by_cases h7 : c.quota < 1
                  · have d7 : (c.quota : Int) < 1 := by omega
                    have HM : Hid (mayB c = false) := Lib.hid (by rw [Bool.eq_false_iff]; intro h9; have hm := mayB_iff.1 h9; exact absurd hm.2.2.2.1.1 (by omega))
                    go_wp2
                    go_ret
                    exact ⟨by rw [HM.out]; rfl, hb⟩
                  · have d7 : ¬ (c.quota : Int) < 1 := by omega
                    have K7 : Hid (1 ≤ c.quota) := Lib.hid (by omega)
                    by_cases h8 : 32768 < c.quota
                    · have d8 : (32768 : Int) < (c.quota : Int) := by omega
                      have HM : Hid (mayB c = false) := Lib.hid (by rw [Bool.eq_false_iff]; intro h9; have hm := mayB_iff.1 h9; exact absurd hm.2.2.2.1.2 (by omega))
                      go_wp2
                      go_ret
                      exact ⟨by rw [HM.out]; rfl, hb⟩
                    · have d8 : ¬ (32768 : Int) < (c.quota : Int) := by omega
                      have K8 : Hid (c.quota ≤ 32768) := Lib.hid (by omega)
                      by_cases h9 : c.quota < c.used
                      · have d9 : (c.quota : Int) < (c.used : Int) := by omega
                        have HM : Hid (mayB c = false) := Lib.hid (by rw [Bool.eq_false_iff]; intro h9; have hm := mayB_iff.1 h9; exact absurd hm.2.2.2.2.1 (by omega))
                        go_wp2
                        go_ret
                        exact ⟨by rw [HM.out]; rfl, hb⟩
                      · have d9 : ¬ (c.quota : Int) < (c.used : Int) := by omega
                        have K9 : Hid (c.used ≤ c.quota) := Lib.hid (by omega)
                        have q8 := refRoot c
                        have HM : Hid (mayB c = rootB c) := Lib.hid (by rw [Bool.eq_iff_iff, mayB_iff]; unfold rootB May; rw [decide_eq_true_eq]; constructor; exact fun h => h.2.2.2.2.2.1; intro h; exact ⟨⟨K1.out, K2.out⟩, K3.out, ⟨K4.out, K5.out⟩, ⟨K7.out, K8.out⟩, K9.out, h, K6.out⟩)
                        go_wp2
                        go_ret
                        exact ⟨by rw [HM.out, ← q8]; rfl, hb⟩
        · have d3 : ((c.left : Int) != 0) = true := by simp; omega
          have HM : Hid (mayB c = false) := Lib.hid (by rw [Bool.eq_false_iff]; intro h9; have hm := mayB_iff.1 h9; exact (by rcases hm.2.1 with h | h; exact h h2; exact h3 h))
          go_wp2
          go_ret
          exact ⟨by rw [HM.out]; rfl, hb⟩
      · have d2 : ((c.left : Int) == (c.right : Int)) = false := by simp; omega
        have K3 : Hid (c.left ≠ c.right ∨ c.left = 0) := Lib.hid (.inl h2)
        clear h0 h1 h2
        go_upto_region 4 with fail
        by_cases h4 : c.id = 0
        · have d4 : ((c.id : Int) == 0) = true := by rw [h4]; rfl
          have HM : Hid (mayB c = false) := Lib.hid (by rw [Bool.eq_false_iff]; intro h9; have hm := mayB_iff.1 h9; exact hm.2.2.1.1 h4)
          go_wp2
          go_ret
          exact ⟨by rw [HM.out]; rfl, hb⟩
        · have d4 : ((c.id : Int) == 0) = false := by simp; omega
          have K4 : Hid (c.id ≠ 0) := Lib.hid h4
          by_cases h5 : c.parent = c.id
          · have d5 : ((c.parent : Int) == (c.id : Int)) = true := by rw [h5]; simp
            have HM : Hid (mayB c = false) := Lib.hid (by rw [Bool.eq_false_iff]; intro h9; have hm := mayB_iff.1 h9; exact hm.2.2.1.2 h5)
            go_wp2
            go_ret
            exact ⟨by rw [HM.out]; rfl, hb⟩
          · have d5 : ((c.parent : Int) == (c.id : Int)) = false := by simp; omega
            have K5 : Hid (c.parent ≠ c.id) := Lib.hid h5
            cases h6 : c.only with
            | false =>
              rw [h6] at g5
              have K6 : Hid (c.only = true → c.parent ≠ 0) := Lib.hid (fun h => by rw [h6] at h; cases h)
              clear h4 h5 h6
              go_upto_region 6 with fail
              by_cases h7 : c.quota < 1
              · have d7 : (c.quota : Int) < 1 := by omega
                have HM : Hid (mayB c = false) := Lib.hid (by rw [Bool.eq_false_iff]; intro h9; have hm := mayB_iff.1 h9; exact absurd hm.2.2.2.1.1 (by omega))
                go_wp2
                go_ret
                exact ⟨by rw [HM.out]; rfl, hb⟩
              · have d7 : ¬ (c.quota : Int) < 1 := by omega
                have K7 : Hid (1 ≤ c.quota) := Lib.hid (by omega)
                by_cases h8 : 32768 < c.quota
                · have d8 : (32768 : Int) < (c.quota : Int) := by omega
                  have HM : Hid (mayB c = false) := Lib.hid (by rw [Bool.eq_false_iff]; intro h9; have hm := mayB_iff.1 h9; exact absurd hm.2.2.2.1.2 (by omega))
                  go_wp2
                  go_ret
                  exact ⟨by rw [HM.out]; rfl, hb⟩
                · have d8 : ¬ (32768 : Int) < (c.quota : Int) := by omega
                  have K8 : Hid (c.quota ≤ 32768) := Lib.hid (by omega)
                  by_cases h9 : c.quota < c.used
                  · have d9 : (c.quota : Int) < (c.used : Int) := by omega
                    have HM : Hid (mayB c = false) := Lib.hid (by rw [Bool.eq_false_iff]; intro h9; have hm := mayB_iff.1 h9; exact absurd hm.2.2.2.2.1 (by omega))
                    go_wp2
                    go_ret
                    exact ⟨by rw [HM.out]; rfl, hb⟩
                  · have d9 : ¬ (c.quota : Int) < (c.used : Int) := by omega
                    have K9 : Hid (c.used ≤ c.quota) := Lib.hid (by omega)
                    have q8 := refRoot c
                    have HM : Hid (mayB c = rootB c) := Lib.hid (by rw [Bool.eq_iff_iff, mayB_iff]; unfold rootB May; rw [decide_eq_true_eq]; constructor; exact fun h => h.2.2.2.2.2.1; intro h; exact ⟨⟨K1.out, K2.out⟩, K3.out, ⟨K4.out, K5.out⟩, ⟨K7.out, K8.out⟩, K9.out, h, K6.out⟩)
                    go_wp2
                    go_ret
                    exact ⟨by rw [HM.out, ← q8]; rfl, hb⟩
            | true =>
              rw [h6] at g5
              by_cases h10 : c.parent = 0
              · have d10 : ((c.parent : Int) == 0) = true := by rw [h10]; rfl
                have HM : Hid (mayB c = false) := Lib.hid (by rw [Bool.eq_false_iff]; intro h9; have hm := mayB_iff.1 h9; exact hm.2.2.2.2.2.2 h6 h10)
                go_wp2
                go_ret
                exact ⟨by rw [HM.out]; rfl, hb⟩
              · have d10 : ((c.parent : Int) == 0) = false := by simp; omega
                have K6 : Hid (c.only = true → c.parent ≠ 0) := Lib.hid (fun _ => h10)
                clear h4 h5 h6 h10
                go_upto_region 6 with fail
                by_cases h7 : c.quota < 1
                · have d7 : (c.quota : Int) < 1 := by omega
                  have HM : Hid (mayB c = false) := Lib.hid (by rw [Bool.eq_false_iff]; intro h9; have hm := mayB_iff.1 h9; exact absurd hm.2.2.2.1.1 (by omega))
                  go_wp2
                  go_ret
                  exact ⟨by rw [HM.out]; rfl, hb⟩
                · have d7 : ¬ (c.quota : Int) < 1 := by omega
                  have K7 : Hid (1 ≤ c.quota) := Lib.hid (by omega)
                  by_cases h8 : 32768 < c.quota
                  · have d8 : (32768 : Int) < (c.quota : Int) := by omega
                    have HM : Hid (mayB c = false) := Lib.hid (by rw [Bool.eq_false_iff]; intro h9; have hm := mayB_iff.1 h9; exact absurd hm.2.2.2.1.2 (by omega))
                    go_wp2
                    go_ret
                    exact ⟨by rw [HM.out]; rfl, hb⟩
                  · have d8 : ¬ (32768 : Int) < (c.quota : Int) := by omega
                    have K8 : Hid (c.quota ≤ 32768) := Lib.hid (by omega)
                    by_cases h9 : c.quota < c.used
                    · have d9 : (c.quota : Int) < (c.used : Int) := by omega
                      have HM : Hid (mayB c = false) := Lib.hid (by rw [Bool.eq_false_iff]; intro h9; have hm := mayB_iff.1 h9; exact absurd hm.2.2.2.2.1 (by omega))
                      go_wp2
                      go_ret
                      exact ⟨by rw [HM.out]; rfl, hb⟩
                    · have d9 : ¬ (c.quota : Int) < (c.used : Int) := by omega
                      have K9 : Hid (c.used ≤ c.quota) := Lib.hid (by omega)
                      have q8 := refRoot c
                      have HM : Hid (mayB c = rootB c) := Lib.hid (by rw [Bool.eq_iff_iff, mayB_iff]; unfold rootB May; rw [decide_eq_true_eq]; constructor; exact fun h => h.2.2.2.2.2.1; intro h; exact ⟨⟨K1.out, K2.out⟩, K3.out, ⟨K4.out, K5.out⟩, ⟨K7.out, K8.out⟩, K9.out, h, K6.out⟩)
                      go_wp2
                      go_ret
                      exact ⟨by rw [HM.out, ← q8]; rfl, hb⟩

end Go.Proofs.Ytmbmgncajfamiaa.Crd
