/-
  The walk of the reference's TakeNum where a number stands.
-/
import Derived.Test.YtmbmgncajfamiaaFldTake
namespace Go.Proofs.Ytmbmgncajfamiaa.Fld
open Go.RowKit RowLaw Crc
set_option maxRecDepth 100000

set_option maxRecDepth 100000 in
set_option maxHeartbeats 1600000 in
theorem refTakeNum_yes (l : List UInt8) (k : Nat) (hl : l.length = 256) (width : Int) (hwd : widthB width = true) (hfit : k + numSz width ≤ 252) (w : World) :
    Calls Try.prog 38 #[.agg (rowCells l k true), .int .i64 width] w fun e w' => e = .returned (.tuple #[.int .u64 (leNat (piece l k (numSz width)) : Int), .agg (rowV (some (l, k + numSz width)))]) ∧ Below w.heap.size w w' := by
  have hzr := (zero_of_info infoRow).1
  have hA : IsRow ((w.alloc (.cells (rowCells l k true) 79)).alloc (.cells (rowCells zeros 0 false) 79)) w.heap.size l k true := (IsRow.new w l k true).alloc _
  have hR : IsRow ((w.alloc (.cells (rowCells l k true) 79)).alloc (.cells (rowCells zeros 0 false) 79)) (w.heap.size + 1) zeros 0 false := heap_alloc2_new w _ _
  have hb : Below w.heap.size w ((w.alloc (.cells (rowCells l k true) 79)).alloc (.cells (rowCells zeros 0 false) 79)) := ((Below.refl _ _).alloc (Nat.le_refl _) _).alloc (by simp) _
  have c1 := hA.fine hl
  have c2 := hA.pos hl
  have hwv := widthB_val hwd
  have hsz8 := numSz_le width
  have hplen := piece_length l k (numSz width) (by omega)
  obtain ⟨s, hs⟩ : ∃ s, s = numSz width := ⟨_, rfl⟩
  rw [← hs] at hwv hsz8 hfit hplen ⊢
  have hWa := Width_as width true hwd
  clear hwd hs
  subst hwv
  have hfi : ¬ (252 : Int) < (k : Int) + (s : Int) := by omega
  have HW := Lib.hid hWa; clear hWa
  have hir := sizeRow l (k + s) true hl
  have hzz : (rowCells zeros 0 false).size = (rowCells l (k + s) true).size := by rw [rowCells_size, rowCells_size, hl, zeros_length]
  have HL := Lib.hid hl; clear hl
  have HP := Lib.hid hplen; clear hplen
  go_enter Try.func38, Try.ntmps38
  go_wp2_with (go_at_call 62; (with_reducible refine (HW.out _).mono ?_); rintro e W1 ⟨rfl, rfl⟩)
  generalize (w.alloc (.cells (rowCells l k true) 79)).alloc (.cells (rowCells zeros 0 false) 79) = W at hA hR hb c1 c2 ⊢
  clear c1
  go_loop [6, 7] (fun t i => ∃ (j : Nat) (z : Int), j ≤ s ∧ i = .int .i64 z ∧ z = (j : Int) - 1 ∧ t = .int .u64 (leNat ((piece l k s).drop j) : Int)) (fun _ i => (intOf i + 1).toNat)
  case atStart => exact ⟨s, (s : Int) - 1, Nat.le_refl _, rfl, rfl, by rw [List.drop_of_length_le (by have := HP.out; omega)]; rfl⟩
  case round =>
    obtain ⟨j, z, hj, rfl, hz, rfl⟩ := hrel
    by_cases h0 : j = 0
    · subst h0
      have hz' : z < 0 := by omega
      have HZ := Lib.hid hz; clear hz
      rw [List.drop_zero]
      have hf := hA.frozen 256
      have hA2 := hA.setPos HL.out (k + s)
      have hR2 := hR.other ⟨w.heap.size, 256, none⟩ (.int .i64 ((k + s : Nat) : Int)) (by simp)
      have hb2 := hb.setCell (p := ⟨w.heap.size, 256, none⟩) (Nat.le_refl _) (.int .i64 ((k + s : Nat) : Int))
      rw [show ((k + s : Nat) : Int) = (k : Int) + (s : Int) from by omega] at hA2 hR2 hb2
      go_wp2_with fail
      generalize W.setCell ⟨w.heap.size, 256, none⟩ (.int .i64 ((k : Int) + (s : Int))) = V at hA2 hR2 hb2 ⊢
      refine wp_region_still_tail 3 (by kernel_rfl) (by kernel_rfl) ?_
      simp only [List.take_succ_cons, List.take_zero, List.drop_succ_cons, List.drop_zero]
      still_step
      refine wpStill_step (fun K hK => ?_)
      rw [if_pos (by rfl)]
      refine still_load_row 79 _ rfl w.heap.size rfl _ _ _ _ hA2 Try.underlying79 rfl hir ?_
      refine hK _ ?_
      clear hK K
      still_step
      refine wpStill_nil ?_
      change wpList _ _ _ _ _ V.drew
      replace hR2 : IsRow V.drew (w.heap.size + 1) zeros 0 false := hR2
      replace hb2 := hb2.drew
      generalize V.drew = V2 at hR2 hb2 ⊢
      refine wpList_store_row rfl 79 _ _ rfl _ _ rfl rfl _ _ hR2 hir hzz (rowCells_one _ _ _) ?_
      go_wp2_with fail
      exact bodyPost_ret (results_tmp_row rfl _ _ _ _ _ _ _ rfl (setRow_heap V2 _ _ _ _ _ hR2) Try.underlying79 rfl hir) rfl ⟨rfl, hb2.trans ⟨rfl, rfl, rfl, by simp, fun k hk => setRow_other V2 _ _ _ (by omega)⟩⟩
    · obtain ⟨q, rfl⟩ : ∃ q, j = q + 1 := ⟨j - 1, by omega⟩
      obtain rfl : z = (q : Int) := by omega
      clear hz
      have hkq : k + q < l.length := by have := HL.out; omega
      have hc := hA.byte (k + q) hkq
      have hN := leNat_lt56 ((piece l k s).drop (q + 1)) (by rw [List.length_drop, HP.out]; omega)
      have hstep := leNat_drop (piece l k s) q (by have := HP.out; omega)
      rw [piece_get l k s q (by have := HL.out; omega) (by have := HP.out; omega)] at hstep
      have hu : l[k + q].toNat < 256 := l[k + q].toNat_lt
      generalize l[k + q].toNat = u at hc hstep hu
      generalize leNat ((piece l k s).drop (q + 1)) = N at hN hstep ⊢
      have HM := Lib.hid hstep; clear hstep
      go_wp2_with fail
      go_round
      case rel => exact ⟨q, (q : Int) - 1, by omega, rfl, rfl, by rw [HM.out]; congr 1; omega⟩
      case measure => simp [intOf]

end Go.Proofs.Ytmbmgncajfamiaa.Fld
