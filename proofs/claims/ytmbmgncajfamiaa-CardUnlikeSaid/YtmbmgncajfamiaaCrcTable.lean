/-
  The walk of crc.table: the table of sixteen.
-/
import Derived.Test.YtmbmgncajfamiaaCrcShift
import Derived.Deep.WholeRow
import Derived.Deep.MidRow
namespace Go.Proofs.Ytmbmgncajfamiaa.Crc
open Go.RowKit

def shN (i : Nat) : Nat → BitVec 32
  | 0 => BitVec.ofNat 32 i <<< 28
  | k + 1 => sh (shN i k)
theorem shN_four (i : Nat) : shN i 4 = tab i := rfl

def tcells (k : Nat) : Array Value := ((List.range 16).map fun j => if j < k then Value.int .u32 ((tab j).toNat : Int) else Value.int .u32 0).toArray
theorem tcells_size (k : Nat) : (tcells k).size = 16 := by simp [tcells]
theorem tcells_zero : tcells 0 = #[Value.int .u32 0, Value.int .u32 0, Value.int .u32 0, Value.int .u32 0, Value.int .u32 0, Value.int .u32 0, Value.int .u32 0, Value.int .u32 0, Value.int .u32 0, Value.int .u32 0, Value.int .u32 0, Value.int .u32 0, Value.int .u32 0, Value.int .u32 0, Value.int .u32 0, Value.int .u32 0] := by rfl
theorem tcells_set (k : Nat) (h : k < 16) : (tcells k).setIfInBounds k (Value.int .u32 ((tab k).toNat : Int)) = tcells (k + 1) := by
  apply Array.ext_getElem?
  intro i
  rw [Array.getElem?_setIfInBounds]
  by_cases hi : k = i
  · subst hi
    simp [tcells, h]
  · simp only [hi, if_false]
    by_cases h16 : i < 16
    · simp [tcells, h16]
      by_cases h1 : i < k
      · have h2 : i < k + 1 := by omega
        simp [h1, h2]
      · have h2 : ¬ i < k + 1 := by omega
        simp [h1, h2]
    · rw [Array.getElem?_eq_none (by rw [tcells_size]; omega), Array.getElem?_eq_none (by rw [tcells_size]; omega)]

theorem shN_zero (k : Nat) (h : k < 16) : (k : Int) * 268435456 = ((shN k 0).toNat : Int) := by
  unfold shN
  rw [BitVec.toNat_shiftLeft, BitVec.toNat_ofNat, Nat.shiftLeft_eq]
  omega

set_option maxHeartbeats 400000 in
theorem table_any (w : World) :
    Calls Try.prog 69 #[] w fun e w' => e = .returned (.agg (tcells 16)) ∧ Below w.heap.size w w' := by
  go_enter Try.func69, Try.ntmps69
  go_wp2
  rw [← tcells_zero]
  go_loopw [4] (fun i wr => ∃ k : Nat, k ≤ 16 ∧ i = .int .i64 k ∧ wr = (w.alloc (.cells (tcells 0) 106)).alloc (.cells (tcells k) 106)) (fun i _ => 16 - (intOf i).toNat)
  case atStart => exact ⟨0, by omega, rfl, rfl⟩
  case round =>
    obtain ⟨k, hk, rfl, rfl⟩ := hrel
    have hs := tcells_size k
    by_cases hlt : k < 16
    · have hd : decide ((k : Int) < 16) = true := by simp; omega
      go_wp2_with fail
      rw [shN_zero k hlt]
      go_loop [3, 10] (fun v j => ∃ m : Nat, m ≤ 4 ∧ j = .int .i64 m ∧ v = .int .u32 ((shN k m).toNat : Int)) (fun _ j => 4 - (intOf j).toNat)
      case atStart => exact ⟨0, by omega, rfl, rfl⟩
      case round =>
        obtain ⟨m, hm, rfl, rfl⟩ := hrel
        have hb := (shN k m).isLt
        by_cases hl2 : m < 4
        · go_wp2_with (go_at_call 71; refine (shift_any _ (by omega) (by omega) _).mono ?_; rintro e w' ⟨rfl, rfl⟩)
          go_round
          case rel => exact ⟨m + 1, by omega, by go_num, by rw [wd_toNat]; rfl⟩
          case measure => simp [intOf]; omega
        · obtain rfl : m = 4 := by omega
          rw [shN_four]
          go_wp2_with fail
          go_roundw
          case rel => exact ⟨k + 1, by omega, by go_num, by rw [tcells_set k hlt]⟩
          case measure => simp [intOf]; omega
    · obtain rfl : k = 16 := by omega
      have h1 : ((w.alloc (.cells (tcells 0) 106)).alloc (.cells (tcells 16) 106)).heap[w.heap.size + 1]? = some (.cells (tcells 16) 106 (0, 0)) := heap_alloc2_new w _ _
      have h0 : ((w.alloc (.cells (tcells 0) 106)).alloc (.cells (tcells 16) 106)).heap[w.heap.size]? = some (.cells (tcells 0) 106 (0, 0)) := heap_alloc2_old w _ _
      have hb : Below w.heap.size w ((w.alloc (.cells (tcells 0) 106)).alloc (.cells (tcells 16) 106)) := ((Below.refl _ _).alloc (Nat.le_refl _) _).alloc (by simp) _
      have hz : (tcells 0).size = (tcells 16).size := by rw [tcells_size, tcells_size]
      have h1c : (tcells 16).all (·.oneCell') = true := by decide +kernel
      have hi : (Try.prog.info? 106).map (·.size) = some (tcells 16).size := by rw [tcells_size]; kernel_rfl
      generalize (w.alloc (.cells (tcells 0) 106)).alloc (.cells (tcells 16) 106) = W at *
      go_wp2_with (first | (with_reducible refine wpList_load_row rfl 106 _ rfl _ rfl _ _ _ _ h1 Try.underlying106 rfl hi ?_) | (with_reducible refine wpList_store_row rfl 106 _ _ rfl _ _ rfl rfl _ _ h0 hi hz h1c ?_))
      refine bodyPost_ret (v := .agg (tcells 16)) ?_ rfl ⟨rfl, ?_⟩
      · exact results_cell_row rfl _ _ _ _ _ _ _ rfl (setRow_heap W _ _ _ _ _ h0) Try.underlying106 rfl hi
      · exact Below.trans hb ⟨rfl, rfl, rfl, by simp, fun k hk => setRow_other W _ _ _ (by omega)⟩

end Go.Proofs.Ytmbmgncajfamiaa.Crc
