/-
  The law of a table that is none.
-/
import Derived.Test.YtdadcengelfmhaaGreatCntHead
namespace Go.Proofs.YtdadcengelfmhaaGreat.Cnt
open Go.RowKit RowLaw Crc
open Go.Proofs.YtdadcengelfmhaaGreat.Dev (ptr)
set_option maxRecDepth 100000
set_option linter.unusedSimpArgs false in
set_option maxHeartbeats 6400000 in
theorem CountNone_any (a n : Nat) (w : World) : Calls Tryz.prog 4 #[.int .u32 (a : Int), .int .u16 (n : Int)] w fun e w' => e = .returned (.bool true) ∧ Below w.heap.size w w' := by
  have HH := Lib.hid (fun W => head_any W)
  have hnOld := fun (W : World) => Old_nilT (w := W) a W rfl
  have hnGet := fun (W : World) => Get_nilT (w := W) a W rfl
  have hnSet := fun (W : World) => Set_nilT (w := W) a n W rfl
  have hnSeal := fun (W : World) => Seal_nilT (w := W) W rfl
  have hnChanged := fun (W : World) => Changed_nilT (w := W) W rfl
  have hnFirst := fun (W : World) => First_nilT W
  have hnSize := fun (W : World) => Size_nilT W
  have hzOld := fun (z : Nat) (W : World) (h : W.cell? ⟨z, 0, none⟩ = some (.pointer none)) => Old_zeroT h a W rfl
  have hzGet := fun (z : Nat) (W : World) (h : W.cell? ⟨z, 0, none⟩ = some (.pointer none)) => Get_zeroT h a W rfl
  have hzSet := fun (z : Nat) (W : World) (h : W.cell? ⟨z, 0, none⟩ = some (.pointer none)) => Set_zeroT h a n W rfl
  have hzSeal := fun (z : Nat) (W : World) (h : W.cell? ⟨z, 0, none⟩ = some (.pointer none)) => Seal_zeroT h W rfl
  have hzChanged := fun (z : Nat) (W : World) (h : W.cell? ⟨z, 0, none⟩ = some (.pointer none)) => Changed_zeroT h W rfl
  have hzFirst := fun (z : Nat) (W : World) (h : W.cell? ⟨z, 0, none⟩ = some (.pointer none)) => First_zeroT h
  have hzSize := fun (z : Nat) (W : World) (h : W.cell? ⟨z, 0, none⟩ = some (.pointer none)) => Size_zeroT h
  unfold ptr at hzOld hzGet hzSet hzSeal hzChanged hzFirst hzSize
  have NOld := Lib.hid hnOld; have ZOld := Lib.hid hzOld
  have NGet := Lib.hid hnGet; have ZGet := Lib.hid hzGet
  have NSet := Lib.hid hnSet; have ZSet := Lib.hid hzSet
  have NSeal := Lib.hid hnSeal; have ZSeal := Lib.hid hzSeal
  have NChanged := Lib.hid hnChanged; have ZChanged := Lib.hid hzChanged
  have NFirst := Lib.hid hnFirst; have ZFirst := Lib.hid hzFirst
  have NSize := Lib.hid hnSize; have ZSize := Lib.hid hzSize
  clear hnOld hzOld hnGet hzGet hnSet hzSet hnSeal hzSeal hnChanged hzChanged hnFirst hzFirst hnSize hzSize
  go_enter Tryz.func4, Tryz.ntmps4
  go_wp2_with fail
  obtain ⟨W1, hW1⟩ : ∃ W1, W1 = (w.alloc (.cells #[.pointer none, .int .u32 0, .int .u32 0, .int .u32 0, .int .u32 0, .map none, .map none, .map none] 57)).alloc (.cells #[.pointer none, .pointer (some ⟨w.heap.size, 0, none⟩)] 34) := ⟨_, rfl⟩
  change Code.wp _ _ _ _ ((w.alloc (.cells #[.pointer none, .int .u32 0, .int .u32 0, .int .u32 0, .int .u32 0, .map none, .map none, .map none] 57)).alloc (.cells #[.pointer none, .pointer (some ⟨w.heap.size, 0, none⟩)] 34))
  rw [← hW1]
  have hb : Below w.heap.size w W1 := by rw [hW1]; exact ((Below.refl _ w).alloc (Nat.le_refl _) _).alloc (by simp) _
  have hl : W1.heap[w.heap.size + 1]? = some (.cells #[.pointer none, .pointer (some ⟨w.heap.size, 0, none⟩)] 34 (0, 0)) := by
    rw [hW1, show w.heap.size + 1 = (w.alloc (.cells #[.pointer none, .int .u32 0, .int .u32 0, .int .u32 0, .int .u32 0, .map none, .map none, .map none] 57)).heap.size from by simp]
    exact heap_alloc_new _ _
  have hz : W1.heap[w.heap.size]? = some (.cells #[.pointer none, .int .u32 0, .int .u32 0, .int .u32 0, .int .u32 0, .map none, .map none, .map none] 57 (0, 0)) := by
    rw [hW1]
    exact (Below.heap_alloc _ _ _ (by simp)).trans (heap_alloc_new w _)
  have c0 : W1.cell? ⟨w.heap.size + 1, 0, none⟩ = some (.pointer none) := (cell_of_row _ _ 0 _ _ _ hl).trans rfl
  have c1 : W1.cell? ⟨w.heap.size + 1, 1, none⟩ = some (.pointer (some ⟨w.heap.size, 0, none⟩)) := (cell_of_row _ _ 1 _ _ _ hl).trans rfl
  have cz : W1.cell? ⟨w.heap.size, 0, none⟩ = some (.pointer none) := (cell_of_row _ _ 0 _ _ _ hz).trans rfl
  have HB := Lib.hid hb
  clear hW1 hl hz hb
  generalize w.heap.size + 1 = q1 at c0 c1 ⊢
  obtain ⟨z, hz⟩ : ∃ z, z = w.heap.size := ⟨_, rfl⟩
  rw [← hz] at c1 cz ⊢
  have HZ := Lib.hid hz
  clear hz
  go_loopw [7] (fun i wr => wr = W1 ∧ (i = .int .i64 0 ∨ i = .int .i64 1 ∨ i = .int .i64 2)) (fun i _ => 2 - (intOf i).toNat)
  case atStart => exact ⟨rfl, .inl rfl⟩
  case round =>
    obtain ⟨rfl, rfl | rfl | rfl⟩ := hrel
    · go_wp2_with (first
        | (go_at_call 16; (with_reducible refine (NOld.out _).mono ?_); rintro e W ⟨rfl, rfl⟩)
        | (go_at_call 15; (with_reducible refine (NGet.out _).mono ?_); rintro e W ⟨rfl, rfl⟩)
        | (go_at_call 10; (with_reducible refine (NSet.out _).mono ?_); rintro e W ⟨rfl, rfl⟩)
        | (go_at_call 12; (with_reducible refine (NSeal.out _).mono ?_); rintro e W ⟨rfl, rfl⟩)
        | (go_at_call 17; (with_reducible refine (NChanged.out _).mono ?_); rintro e W ⟨rfl, rfl⟩)
        | (go_at_call 11; (with_reducible refine (NFirst.out _).mono ?_); rintro e W ⟨rfl, rfl⟩)
        | (go_at_call 18; (with_reducible refine (NSize.out _).mono ?_); rintro e W ⟨rfl, rfl⟩))
      go_roundw
      case rel => exact ⟨trivial, .inr (.inl (by go_num))⟩
      case measure => simp [intOf]
    · go_wp2_with (first
        | (go_at_call 16; (with_reducible refine (ZOld.out z _ cz).mono ?_); rintro e W ⟨rfl, rfl⟩)
        | (go_at_call 15; (with_reducible refine (ZGet.out z _ cz).mono ?_); rintro e W ⟨rfl, rfl⟩)
        | (go_at_call 10; (with_reducible refine (ZSet.out z _ cz).mono ?_); rintro e W ⟨rfl, rfl⟩)
        | (go_at_call 12; (with_reducible refine (ZSeal.out z _ cz).mono ?_); rintro e W ⟨rfl, rfl⟩)
        | (go_at_call 17; (with_reducible refine (ZChanged.out z _ cz).mono ?_); rintro e W ⟨rfl, rfl⟩)
        | (go_at_call 11; (with_reducible refine (ZFirst.out z _ cz).mono ?_); rintro e W ⟨rfl, rfl⟩)
        | (go_at_call 18; (with_reducible refine (ZSize.out z _ cz).mono ?_); rintro e W ⟨rfl, rfl⟩))
      go_roundw
      case rel => exact ⟨trivial, .inr (.inr (by go_num))⟩
      case measure => simp [intOf]
    · go_wp2_with fail
      refine (HH.out _).mono ?_
      rintro e W ⟨rfl, hx⟩
      go_wp2_with fail
      go_ret
      exact ⟨rfl, HB.out.trans (hx.mono HB.out.size)⟩
end Go.Proofs.YtdadcengelfmhaaGreat.Cnt
