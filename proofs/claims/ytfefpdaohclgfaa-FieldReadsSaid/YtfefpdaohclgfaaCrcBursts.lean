/-
  The walk of the law CrcBursts: a burst breaks a seal.
-/
import Derived.Test.YtfefpdaohclgfaaCrcHead
namespace Go.Proofs.Ytfefpdaohclgfaa.Crc
open Go.RowKit RowLaw

theorem flip_set (l : List UInt8) (p : Nat) (h : p / 8 < l.length) : flip l p = l.set (p / 8) (UInt8.ofNat (l[p / 8].toNat ^^^ 128 / 2 ^ (p % 8))) := by
  unfold flip
  apply List.ext_getElem?
  intro i
  rw [List.getElem?_modify, List.getElem?_set]
  by_cases hi : p / 8 = i
  · subst hi
    rw [List.getElem?_eq_getElem h]
    simp [h]
  · simp [hi]
theorem burst_yes (l : List UInt8) (k n j : Nat) (h : n.testBit j = true) : burst l k n (j + 1) = flip (burst l k n j) (k + j) := by
  show (if n.testBit j then flip (burst l k n j) (k + j) else burst l k n j) = _
  rw [if_pos h]
theorem burst_no (l : List UInt8) (k n j : Nat) (h : n.testBit j = false) : burst l k n (j + 1) = burst l k n j := by
  show (if n.testBit j then flip (burst l k n j) (k + j) else burst l k n j) = _
  rw [if_neg (by simp [h])]
theorem xor_pow (u : UInt8) (r : Nat) (_h : r < 8) : bits .xor .u8 (u.toNat : Int) (128 / 2 ^ r) = ((UInt8.ofNat (u.toNat ^^^ 128 / 2 ^ r)).toNat : Int) := by
  have hu := u.toNat_lt
  have e : ((128 : Int) / 2 ^ r) = ((128 / 2 ^ r : Nat) : Int) := by rw [Int.natCast_ediv]; congr 1
  have hd : 128 / 2 ^ r < 256 := Nat.lt_of_le_of_lt (Nat.div_le_self _ _) (by omega)
  rw [e, u8_xor_nat _ _ hu hd, UInt8.toNat_ofNat', Nat.mod_eq_of_lt (Nat.xor_lt_two_pow (n := 8) hu hd)]

set_option maxRecDepth 100000 in
set_option maxHeartbeats 1600000 in
theorem bursts_any (l : List UInt8) (hl : l.length = 256) (a : Nat) (ha : a < 65536) (n : Nat) (hn : n < 4294967296) (w : World) :
    Calls Try.prog 5 #[.agg (cellsOf l), .int .u16 (a : Int), .int .u32 (n : Int)] w fun e w' => e = .returned (.bool true) ∧ Below w.heap.size w w' := by
  have hi : (Try.prog.info? 23).map (·.size) = some (cellsOf l).size := by rw [cellsOf_size, hl]; exact (zero_of_info infoBlock).2
  have hiS : (Try.prog.info? 23).map (·.size) = some (cellsOf (sealB l)).size := by rw [cellsOf_size, sealB_length hl]; exact (zero_of_info infoBlock).2
  have hzs : (cellsOf zeros).size = (cellsOf (sealB l)).size := by rw [cellsOf_size, cellsOf_size, sealB_length hl, zeros_length]
  have hzv := (zero_of_info infoBlock).1
  have hb0 := Box.start w l
  go_enter Try.func5, Try.ntmps5
  go_wp2_with (first | (refine wpList_load_row rfl 23 _ rfl _ rfl _ _ _ _ hb0.1 Try.underlying23 rfl hi ?_) | (go_at_call 15; refine (Seal_any l hl _).mono ?_; rintro e W2 ⟨rfl, hb2⟩; replace hb0 := hb0.below hb2; clear hb2) | (refine wpList_store_new rfl 23 _ _ rfl _ _ _ rfl rfl hiS hzs (cellsOf_one _) ?_; have hX := Holds.new W2 (sealB l); have hB := hb0.2.alloc hb0.2.size (.cells (cellsOf (sealB l)) 23); have hsz := hb0.2.size; clear hb0; generalize W2.alloc (.cells (cellsOf (sealB l)) 23) = W3 at *; generalize W2.heap.size = X at *))
  rw [show ((a : Int) % 2017) = ((a % 2017 : Nat) : Int) from rfl]
  have hq : a % 2017 < 2017 := Nat.mod_lt _ (by omega)
  generalize a % 2017 = q at *
  go_loopw [9] (fun i wr => ∃ j : Nat, j ≤ 32 ∧ i = .int .i64 j ∧ Holds wr X (burst (sealB l) q n j) ∧ Below w.heap.size w wr) (fun i _ => 32 - (intOf i).toNat)
  case atStart => exact ⟨0, by omega, rfl, hX, hB⟩
  case round =>
    obtain ⟨j, hj, rfl, qX, qB⟩ := hrel
    have hlen : (burst (sealB l) q n j).length = 256 := by rw [burst_length, sealB_length hl]
    by_cases hlt : j < 32
    · cases hbit : n.testBit j with
      | true =>
        have ht : (((n : Int) / 2 ^ j).tmod 2 == 1) = true := by rw [bit_eq]; exact hbit
        have hp : (q + j) / 8 < 256 := by omega
        have hc := qX.cell ((q + j) / 8) (by omega)
        have hf := qX.frozen ((q + j) / 8)
        have hbn := burst_yes (sealB l) q n j hbit
        rw [flip_set _ _ (by omega)] at hbn
        clear hbit
        have h8 : (q + j) % 8 < 8 := Nat.mod_lt _ (by omega)
        have hxp := xor_pow (burst (sealB l) q n j)[(q + j) / 8] ((q + j) % 8) h8
        generalize UInt8.ofNat ((burst (sealB l) q n j)[(q + j) / 8].toNat ^^^ 128 / 2 ^ ((q + j) % 8)) = v at hbn hxp
        have HB := Lib.hid hbn; clear hbn
        have hxb := (burst (sealB l) q n j)[(q + j) / 8].toNat_lt
        go_wp2_with fail
        go_roundw
        case rel => exact ⟨j + 1, by omega, by go_num, by rw [HB.out]; exact qX.set_ _ _, qB.setCell (by simp; omega) _⟩
        case measure => simp [intOf]; omega
      | false =>
        have ht : (((n : Int) / 2 ^ j).tmod 2 == 1) = false := by rw [bit_eq]; exact hbit
        have hbn := burst_no (sealB l) q n j hbit
        have HB := Lib.hid hbn; clear hbn
        clear hbit
        go_wp2_with fail
        go_roundw
        case rel => exact ⟨j + 1, by omega, by go_num, by rw [HB.out]; exact qX, qB⟩
        case measure => simp [intOf]; omega
    · obtain rfl : j = 32 := by omega
      have cG : ∀ W : World, Calls Try.prog 17 #[.agg (cellsOf (burst (sealB l) q n 32))] W fun e w' => e = .returned (.bool ((n : Int) == 0)) ∧ Below W.heap.size W w' := fun W => by
        have := Good_any _ hlen W
        rw [show decide (sealB (burst (sealB l) q n 32) = burst (sealB l) q n 32) = ((n : Int) == 0) from by
          rw [Bool.eq_iff_iff, decide_eq_true_iff, beq_iff_eq, Int.natCast_eq_zero]
          exact burst_good (sealB_length hl) (sealB_sealB hl) (by omega) hn] at this
        exact this
      have hiX : (Try.prog.info? 23).map (·.size) = some (cellsOf (burst (sealB l) q n 32)).size := by rw [cellsOf_size, hlen]; exact (zero_of_info infoBlock).2
      have CG := Lib.hid cG; clear cG
      clear hi hiS hzs hzv hX hB
      generalize burst (sealB l) q n 32 = y at *
      rw [show ((32 : Nat) : Int) = 32 from rfl]
      go_wp2_with (first | (refine wpList_load_row rfl 23 _ rfl _ rfl _ _ _ _ qX Try.underlying23 rfl hiX ?_) | (go_at_call 17; refine (CG.out _).mono ?_; rintro e W5 ⟨rfl, hb5⟩; replace qB := qB.trans (hb5.mono qB.size); clear hb5 qX) | (go_at_call 12; refine (head_any _).mono ?_; rintro e W6 ⟨rfl, hb6⟩; replace qB := qB.trans (hb6.mono qB.size); clear hb6))
      go_ret
      exact ⟨rfl, qB⟩

theorem bursts_any' (l : List UInt8) (hl : l.length = 256) (a : Int) (ha : (Lit.int .u16 a).wf = true) (n : Int) (hn : (Lit.int .u32 n).wf = true) (w : World) :
    Calls Try.prog 5 #[.agg (cellsOf l), .int .u16 a, .int .u32 n] w fun e w' => e = .returned (.bool true) ∧ Below w.heap.size w w' := by
  have h1 : 0 ≤ a ∧ a ≤ 65535 := by simpa [Lit.wf, IntKind.min, IntKind.max, IntKind.signed, IntKind.bits] using ha
  have h2 : 0 ≤ n ∧ n ≤ 4294967295 := by simpa [Lit.wf, IntKind.min, IntKind.max, IntKind.signed, IntKind.bits] using hn
  obtain ⟨a', rfl⟩ := Int.eq_ofNat_of_zero_le h1.1
  obtain ⟨n', rfl⟩ := Int.eq_ofNat_of_zero_le h2.1
  exact bursts_any l hl a' (by omega) n' (by omega) w

end Go.Proofs.Ytfefpdaohclgfaa.Crc
