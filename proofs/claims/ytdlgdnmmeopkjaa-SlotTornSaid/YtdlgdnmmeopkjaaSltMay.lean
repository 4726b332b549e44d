/-
  Roots in memory; the walks of May, the program's and the reference's.
-/
import Derived.Test.YtdlgdnmmeopkjaaSltMath
import Derived.Test.YtdlgdnmmeopkjaaBoxes1
import Derived.Deep.Cut
namespace Go.Proofs.Ytdlgdnmmeopkjaa.Slt
open Go.RowKit RowLaw Crc Fld
set_option maxRecDepth 100000

theorem infoR : (Try.prog.info? 25).map (fun i => (i.zero, i.size)) = some (some (.agg (cells nil)), 8) := by kernel_rfl
theorem sizeR (r : Rt) : (Try.prog.info? 25).map (·.size) = some (cells r).size := (zero_of_info infoR).2
def rootO (r : Rt) : Obj := .cells (cells r) 25
/-- block p is a root -/
def IsRt (w : World) (p : Nat) (r : Rt) : Prop := w.heap[p]? = some (.cells (cells r) 25 (0, 0))
section
variable {w : World} {p : Nat} {r : Rt}
theorem IsRt.gen (h : IsRt w p r) : w.cell? ⟨p, 0, none⟩ = some (.int .u64 (r.gen : Int)) := (cell_of_row w p 0 _ _ _ h).trans rfl
theorem IsRt.size (h : IsRt w p r) : w.cell? ⟨p, 1, none⟩ = some (.int .u32 (r.size : Int)) := (cell_of_row w p 1 _ _ _ h).trans rfl
theorem IsRt.picks (h : IsRt w p r) : w.cell? ⟨p, 2, none⟩ = some (.int .u32 (r.picks : Int)) := (cell_of_row w p 2 _ _ _ h).trans rfl
theorem IsRt.names (h : IsRt w p r) : w.cell? ⟨p, 3, none⟩ = some (.int .u32 (r.names : Int)) := (cell_of_row w p 3 _ _ _ h).trans rfl
theorem IsRt.free (h : IsRt w p r) : w.cell? ⟨p, 4, none⟩ = some (.int .u32 (r.free : Int)) := (cell_of_row w p 4 _ _ _ h).trans rfl
theorem IsRt.next (h : IsRt w p r) : w.cell? ⟨p, 5, none⟩ = some (.int .u32 (r.next : Int)) := (cell_of_row w p 5 _ _ _ h).trans rfl
theorem IsRt.hint (h : IsRt w p r) : w.cell? ⟨p, 6, none⟩ = some (.int .u32 (r.hint : Int)) := (cell_of_row w p 6 _ _ _ h).trans rfl
theorem IsRt.vols (h : IsRt w p r) : w.cell? ⟨p, 7, none⟩ = some (.int .u8 (r.vols : Int)) := (cell_of_row w p 7 _ _ _ h).trans rfl
theorem IsRt.frozen (h : IsRt w p r) (j : Nat) : w.frozen? ⟨p, j, none⟩ = false := frozen_of_row w p j _ _ h
theorem IsRt.new (w : World) (r : Rt) : IsRt (w.alloc (.cells (cells r) 25)) w.heap.size r := heap_alloc_new w _
end
theorem lastB (r : Rt) : (((r.vols : Int) == 0) == ((r.names : Int) == 0)) = decide (r.vols = 0 ↔ r.names = 0) := by
  rw [Bool.eq_iff_iff, beq_iff_eq, Bool.eq_iff_iff, beq_iff_eq, beq_iff_eq, decide_eq_true_eq]
  omega


set_option maxHeartbeats 6400000 in
theorem May_any (r : Rt) (w : World) :
    Calls Try.prog 8 #[.agg (cells r)] w fun e w' => e = .returned (.bool (mayB r)) ∧ Below w.heap.size w w' := by
  have hC := IsRt.new w r
  have hb : Below w.heap.size w (w.alloc (.cells (cells r) 25)) := (Below.refl _ _).alloc (Nat.le_refl _) _
  go_enter Try.func8, Try.ntmps8
  go_upto_region 1 with fail
  generalize w.alloc (Obj.cells (cells r) 25) = W at hC hb ⊢
  have e0 := hC.gen
  have e1 := hC.size
  have e2 := hC.picks
  have e3 := hC.names
  have e4 := hC.free
  have e5 := hC.next
  have e6 := hC.hint
  have e7 := hC.vols
  clear hC
  by_cases hh : r.gen = 0
  · have d0 : ((r.gen : Int) != 0) = false := by rw [hh]; rfl
    have HM : Hid (mayB r = false) := Lib.hid (by rw [Bool.eq_false_iff]; intro h9; have hm := mayB_iff.1 h9; unfold May at hm; omega)
    clear hh
    go_wp2
    go_ret
    exact ⟨by rw [HM.out]; rfl, hb⟩
  · have d0 : ((r.gen : Int) != 0) = true := by simp; omega
    have K0 : Hid (¬ r.gen = 0) := Lib.hid hh
    clear hh
    by_cases hh : r.size < 64
    · have d1 : ¬ (64 : Int) ≤ (r.size : Int) := by omega
      have HM : Hid (mayB r = false) := Lib.hid (by rw [Bool.eq_false_iff]; intro h9; have hm := mayB_iff.1 h9; unfold May at hm; omega)
      clear hh
      go_wp2
      go_ret
      exact ⟨by rw [HM.out]; rfl, hb⟩
    · have d1 : (64 : Int) ≤ (r.size : Int) := by omega
      have K1 : Hid (¬ r.size < 64) := Lib.hid hh
      clear hh
      by_cases hh : 1048576 < r.size
      · have d2 : ¬ (r.size : Int) ≤ 1048576 := by omega
        have HM : Hid (mayB r = false) := Lib.hid (by rw [Bool.eq_false_iff]; intro h9; have hm := mayB_iff.1 h9; unfold May at hm; omega)
        clear hh
        go_wp2
        go_ret
        exact ⟨by rw [HM.out]; rfl, hb⟩
      · have d2 : (r.size : Int) ≤ 1048576 := by omega
        have K2 : Hid (¬ 1048576 < r.size) := Lib.hid hh
        clear hh
        by_cases hh : 65536 ≤ r.picks
        · have d3 : ¬ (r.picks : Int) < 65536 := by omega
          have HM : Hid (mayB r = false) := Lib.hid (by rw [Bool.eq_false_iff]; intro h9; have hm := mayB_iff.1 h9; unfold May at hm; omega)
          clear hh
          go_wp2
          go_ret
          exact ⟨by rw [HM.out]; rfl, hb⟩
        · have d3 : (r.picks : Int) < 65536 := by omega
          have K3 : Hid (¬ 65536 ≤ r.picks) := Lib.hid hh
          clear hh
          by_cases hh : r.size ≤ r.names
          · have d4 : ¬ (r.names : Int) < (r.size : Int) := by omega
            have HM : Hid (mayB r = false) := Lib.hid (by rw [Bool.eq_false_iff]; intro h9; have hm := mayB_iff.1 h9; unfold May at hm; omega)
            clear hh
            go_wp2
            go_ret
            exact ⟨by rw [HM.out]; rfl, hb⟩
          · have d4 : (r.names : Int) < (r.size : Int) := by omega
            have K4 : Hid (¬ r.size ≤ r.names) := Lib.hid hh
            clear hh
            by_cases hh : r.size ≤ r.hint
            · have d5 : ¬ (r.hint : Int) < (r.size : Int) := by omega
              have HM : Hid (mayB r = false) := Lib.hid (by rw [Bool.eq_false_iff]; intro h9; have hm := mayB_iff.1 h9; unfold May at hm; omega)
              clear hh
              go_wp2
              go_ret
              exact ⟨by rw [HM.out]; rfl, hb⟩
            · have d5 : (r.hint : Int) < (r.size : Int) := by omega
              have K5 : Hid (¬ r.size ≤ r.hint) := Lib.hid hh
              clear hh
              by_cases hh : r.size < r.free
              · have d6 : ¬ (r.free : Int) ≤ (r.size : Int) := by omega
                have HM : Hid (mayB r = false) := Lib.hid (by rw [Bool.eq_false_iff]; intro h9; have hm := mayB_iff.1 h9; unfold May at hm; omega)
                clear hh
                go_wp2
                go_ret
                exact ⟨by rw [HM.out]; rfl, hb⟩
              · have d6 : (r.free : Int) ≤ (r.size : Int) := by omega
                have K6 : Hid (¬ r.size < r.free) := Lib.hid hh
                clear hh
                by_cases hh : r.next = 0
                · have d7 : ((r.next : Int) != 0) = false := by rw [hh]; rfl
                  have HM : Hid (mayB r = false) := Lib.hid (by rw [Bool.eq_false_iff]; intro h9; have hm := mayB_iff.1 h9; unfold May at hm; omega)
                  clear hh
                  go_wp2
                  go_ret
                  exact ⟨by rw [HM.out]; rfl, hb⟩
                · have d7 : ((r.next : Int) != 0) = true := by simp; omega
                  have K7 : Hid (¬ r.next = 0) := Lib.hid hh
                  clear hh
                  by_cases hh : 16 < r.vols
                  · have d8 : ¬ (r.vols : Int) ≤ 16 := by omega
                    have HM : Hid (mayB r = false) := Lib.hid (by rw [Bool.eq_false_iff]; intro h9; have hm := mayB_iff.1 h9; unfold May at hm; omega)
                    clear hh
                    go_wp2
                    go_ret
                    exact ⟨by rw [HM.out]; rfl, hb⟩
                  · have d8 : (r.vols : Int) ≤ 16 := by omega
                    have K8 : Hid (¬ 16 < r.vols) := Lib.hid hh
                    clear hh
                    have q9 := lastB r
                    have HM : Hid (mayB r = decide (r.vols = 0 ↔ r.names = 0)) := Lib.hid (by
                      have k0 := K0.out; have k1 := K1.out; have k2 := K2.out; have k3 := K3.out; have k4 := K4.out; have k5 := K5.out; have k6 := K6.out; have k7 := K7.out; have k8 := K8.out
                      rw [Bool.eq_iff_iff, mayB_iff, decide_eq_true_eq]; unfold May; constructor
                      · exact fun h => h.2.2.2.2.2.2.2.2.2
                      · exact fun h => ⟨by omega, by omega, by omega, by omega, by omega, by omega, by omega, by omega, by omega, h⟩)
                    rw [← q9] at HM
                    clear q9
                    go_wp2
                    go_ret
                    exact ⟨by rw [HM.out]; rfl, hb⟩

set_option maxHeartbeats 6400000 in
theorem refMay_any (r : Rt) (w : World) :
    Calls Try.prog 9 #[.agg (cells r)] w fun e w' => e = .returned (.bool (mayB r)) ∧ Below w.heap.size w w' := by
  have hC := IsRt.new w r
  have hb : Below w.heap.size w (w.alloc (.cells (cells r) 25)) := (Below.refl _ _).alloc (Nat.le_refl _) _
  go_enter Try.func9, Try.ntmps9
  go_upto_region 1 with fail
  generalize w.alloc (Obj.cells (cells r) 25) = W at hC hb ⊢
  have e0 := hC.gen
  have e1 := hC.size
  have e2 := hC.picks
  have e3 := hC.names
  have e4 := hC.free
  have e5 := hC.next
  have e6 := hC.hint
  have e7 := hC.vols
  clear hC
  by_cases hh : r.gen = 0
  · have d0 : ¬ (1 : Int) ≤ (r.gen : Int) := by omega
    have HM : Hid (mayB r = false) := Lib.hid (by rw [Bool.eq_false_iff]; intro h9; have hm := mayB_iff.1 h9; unfold May at hm; omega)
    clear hh
    go_wp2
    go_ret
    exact ⟨by rw [HM.out]; rfl, hb⟩
  · have d0 : (1 : Int) ≤ (r.gen : Int) := by omega
    have K0 : Hid (¬ r.gen = 0) := Lib.hid hh
    clear hh
    by_cases hh : r.size < 64
    · have d1 : ¬ (64 : Int) ≤ (r.size : Int) := by omega
      have HM : Hid (mayB r = false) := Lib.hid (by rw [Bool.eq_false_iff]; intro h9; have hm := mayB_iff.1 h9; unfold May at hm; omega)
      clear hh
      go_wp2
      go_ret
      exact ⟨by rw [HM.out]; rfl, hb⟩
    · have d1 : (64 : Int) ≤ (r.size : Int) := by omega
      have K1 : Hid (¬ r.size < 64) := Lib.hid hh
      clear hh
      by_cases hh : 1048576 < r.size
      · have d2 : ¬ (r.size : Int) ≤ 1048576 := by omega
        have HM : Hid (mayB r = false) := Lib.hid (by rw [Bool.eq_false_iff]; intro h9; have hm := mayB_iff.1 h9; unfold May at hm; omega)
        clear hh
        go_wp2
        go_ret
        exact ⟨by rw [HM.out]; rfl, hb⟩
      · have d2 : (r.size : Int) ≤ 1048576 := by omega
        have K2 : Hid (¬ 1048576 < r.size) := Lib.hid hh
        clear hh
        by_cases hh : 65536 ≤ r.picks
        · have d3 : ¬ (r.picks : Int) < 65536 := by omega
          have HM : Hid (mayB r = false) := Lib.hid (by rw [Bool.eq_false_iff]; intro h9; have hm := mayB_iff.1 h9; unfold May at hm; omega)
          clear hh
          go_wp2
          go_ret
          exact ⟨by rw [HM.out]; rfl, hb⟩
        · have d3 : (r.picks : Int) < 65536 := by omega
          have K3 : Hid (¬ 65536 ≤ r.picks) := Lib.hid hh
          clear hh
          by_cases hh : r.size ≤ r.names
          · have d4 : ¬ (r.names : Int) < (r.size : Int) := by omega
            have HM : Hid (mayB r = false) := Lib.hid (by rw [Bool.eq_false_iff]; intro h9; have hm := mayB_iff.1 h9; unfold May at hm; omega)
            clear hh
            go_wp2
            go_ret
            exact ⟨by rw [HM.out]; rfl, hb⟩
          · have d4 : (r.names : Int) < (r.size : Int) := by omega
            have K4 : Hid (¬ r.size ≤ r.names) := Lib.hid hh
            clear hh
            by_cases hh : r.size ≤ r.hint
            · have d5 : ¬ (r.hint : Int) < (r.size : Int) := by omega
              have HM : Hid (mayB r = false) := Lib.hid (by rw [Bool.eq_false_iff]; intro h9; have hm := mayB_iff.1 h9; unfold May at hm; omega)
              clear hh
              go_wp2
              go_ret
              exact ⟨by rw [HM.out]; rfl, hb⟩
            · have d5 : (r.hint : Int) < (r.size : Int) := by omega
              have K5 : Hid (¬ r.size ≤ r.hint) := Lib.hid hh
              clear hh
              by_cases hh : r.size < r.free
              · have d6 : ¬ (r.free : Int) ≤ (r.size : Int) := by omega
                have HM : Hid (mayB r = false) := Lib.hid (by rw [Bool.eq_false_iff]; intro h9; have hm := mayB_iff.1 h9; unfold May at hm; omega)
                clear hh
                go_wp2
                go_ret
                exact ⟨by rw [HM.out]; rfl, hb⟩
              · have d6 : (r.free : Int) ≤ (r.size : Int) := by omega
                have K6 : Hid (¬ r.size < r.free) := Lib.hid hh
                clear hh
                by_cases hh : r.next = 0
                · have d7 : ¬ (1 : Int) ≤ (r.next : Int) := by omega
                  have HM : Hid (mayB r = false) := Lib.hid (by rw [Bool.eq_false_iff]; intro h9; have hm := mayB_iff.1 h9; unfold May at hm; omega)
                  clear hh
                  go_wp2
                  go_ret
                  exact ⟨by rw [HM.out]; rfl, hb⟩
                · have d7 : (1 : Int) ≤ (r.next : Int) := by omega
                  have K7 : Hid (¬ r.next = 0) := Lib.hid hh
                  clear hh
                  by_cases hh : 16 < r.vols
                  · have d8 : ¬ (r.vols : Int) ≤ 16 := by omega
                    have HM : Hid (mayB r = false) := Lib.hid (by rw [Bool.eq_false_iff]; intro h9; have hm := mayB_iff.1 h9; unfold May at hm; omega)
                    clear hh
                    go_wp2
                    go_ret
                    exact ⟨by rw [HM.out]; rfl, hb⟩
                  · have d8 : (r.vols : Int) ≤ 16 := by omega
                    have K8 : Hid (¬ 16 < r.vols) := Lib.hid hh
                    clear hh
                    have q9 := lastB r
                    have HM : Hid (mayB r = decide (r.vols = 0 ↔ r.names = 0)) := Lib.hid (by
                      have k0 := K0.out; have k1 := K1.out; have k2 := K2.out; have k3 := K3.out; have k4 := K4.out; have k5 := K5.out; have k6 := K6.out; have k7 := K7.out; have k8 := K8.out
                      rw [Bool.eq_iff_iff, mayB_iff, decide_eq_true_eq]; unfold May; constructor
                      · exact fun h => h.2.2.2.2.2.2.2.2.2
                      · exact fun h => ⟨by omega, by omega, by omega, by omega, by omega, by omega, by omega, by omega, by omega, h⟩)
                    rw [← q9] at HM
                    clear q9
                    go_wp2
                    go_ret
                    exact ⟨by rw [HM.out]; rfl, hb⟩

end Go.Proofs.Ytdlgdnmmeopkjaa.Slt
