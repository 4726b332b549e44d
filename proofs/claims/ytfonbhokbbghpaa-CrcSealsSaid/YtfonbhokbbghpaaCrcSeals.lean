/-
  The walk of the law CrcSeals: what is sealed.
-/
import Derived.Test.YtfonbhokbbghpaaCrcHead
import Derived.Deep.Draws
namespace Go.Proofs.Ytfonbhokbbghpaa.Crc
open Go.RowKit RowLaw

def tailTo (l t : List UInt8) (k : Nat) : List UInt8 := l.take 252 ++ (t.take k ++ l.drop (252 + k))
theorem tailTo_zero (l t : List UInt8) : tailTo l t 0 = l := by simp [tailTo]
theorem tailTo_length {l t : List UInt8} (h : l.length = 256) (ht : t.length = 4) (k : Nat) (hk : k ≤ 4) : (tailTo l t k).length = 256 := by
  simp [tailTo, h, ht]; omega
theorem tailTo_take {l t : List UInt8} (h : l.length = 256) (k : Nat) : (tailTo l t k).take 252 = l.take 252 := by
  unfold tailTo; rw [List.take_append_of_le_length (by simp [h]), List.take_take]; rfl
theorem tailTo_set {l t : List UInt8} (h : l.length = 256) (ht : t.length = 4) (k : Nat) (hk : k < 4) : (tailTo l t k).set (252 + k) (t[k]'(by omega)) = tailTo l t (k + 1) := by
  obtain ⟨a, b, c, d, e⟩ := len4 (l := l.drop 252) (by simp [h])
  have ht' : (l.take 252).length = 252 := by simp [h]
  have hd : ∀ j, l.drop (252 + j) = [a, b, c, d].drop j := by intro j; rw [← e, List.drop_drop]
  obtain ⟨p, q, r, s, rfl⟩ := len4 ht
  unfold tailTo
  rw [List.set_append_right _ _ (by omega), ht', hd, hd]
  congr 1
  have hk' : k = 0 ∨ k = 1 ∨ k = 2 ∨ k = 3 := by omega
  rcases hk' with rfl | rfl | rfl | rfl <;> simp
theorem sealB_tail {l t : List UInt8} (h : l.length = 256) (k : Nat) : sealB (tailTo l t k) = sealB l := sealB_congr (tailTo_take h k)
theorem sealB_get {l : List UInt8} (h : l.length = 256) (k : Nat) (hk : k < 252) : (sealB l)[k]'(by rw [sealB_length h]; omega) = l[k] := by
  have h1 : ((sealB l).take 252)[k]? = (l.take 252)[k]? := by rw [sealB_take h]
  rw [List.getElem?_take_of_lt hk, List.getElem?_take_of_lt hk, List.getElem?_eq_getElem (by rw [sealB_length h]; omega), List.getElem?_eq_getElem (by omega)] at h1
  exact Option.some.inj h1
theorem sealB_not_zero {l : List UInt8} (h : l.length = 256) : sealB l ≠ zeros := by
  intro e
  have := sealB_sealB h
  rw [e] at this
  exact zeros_not this

/-- the three blocks of the law, and what was there before -/
def Three (w : World) (A X Y : Nat) (l x y : List UInt8) (w' : World) : Prop := Holds w' A l ∧ Holds w' X x ∧ Holds w' Y y ∧ Below w.heap.size w w'
theorem Three.drewN {w w' : World} {A X Y : Nat} {l x y : List UInt8} (h : Three w A X Y l x y w') (n : Nat) : Three w A X Y l x y (w'.drewN n) := ⟨h.1, h.2.1, h.2.2.1, ⟨h.2.2.2.os, h.2.2.2.tape, h.2.2.2.output, h.2.2.2.size, h.2.2.2.block⟩⟩
theorem Three.drew {w w' : World} {A X Y : Nat} {l x y : List UInt8} (h : Three w A X Y l x y w') : Three w A X Y l x y w'.drew := ⟨h.1, h.2.1, h.2.2.1, h.2.2.2.drew⟩
theorem Three.below {w w' w'' : World} {A X Y : Nat} {l x y : List UInt8} (h : Three w A X Y l x y w') (hb : Below w'.heap.size w' w'') : Three w A X Y l x y w'' :=
  ⟨h.1.below hb h.1.lt, h.2.1.below hb h.2.1.lt, h.2.2.1.below hb h.2.2.1.lt, h.2.2.2.trans (hb.mono h.2.2.2.size)⟩

/-- one step of the law's memory: a new block of bytes -/
theorem grow_step {w W : World} {l t x : List UInt8} (hA : Holds W w.heap.size l) (hT : W.heap[w.heap.size + 1]? = some (.cells (cellsOf t) 30 (0, 0))) (hb : Below w.heap.size w W) (hs : w.heap.size + 2 ≤ W.heap.size) :
    Holds (W.alloc (.cells (cellsOf x) 23)) W.heap.size x ∧ Holds (W.alloc (.cells (cellsOf x) 23)) w.heap.size l ∧ (W.alloc (.cells (cellsOf x) 23)).heap[w.heap.size + 1]? = some (.cells (cellsOf t) 30 (0, 0)) ∧
      Below w.heap.size w (W.alloc (.cells (cellsOf x) 23)) ∧ W.heap.size < (W.alloc (.cells (cellsOf x) 23)).heap.size :=
  ⟨Holds.new W x, hA.alloc _, (Below.heap_alloc W _ _ (by omega)).trans hT, hb.alloc (by omega) _, by simp⟩

set_option maxRecDepth 100000 in
set_option maxHeartbeats 1600000 in
theorem seals_any (l : List UInt8) (hl : l.length = 256) (t : List UInt8) (ht : t.length = 4) (w : World) :
    Calls Try.prog 4 #[.agg (cellsOf l), .agg (cellsOf t)] w fun e w' => e = .returned (.bool true) ∧ Below w.heap.size w w' := by
  have hi : (Try.prog.info? 23).map (·.size) = some (cellsOf l).size := by rw [cellsOf_size, hl]; exact (zero_of_info infoBlock).2
  have hiS : (Try.prog.info? 23).map (·.size) = some (cellsOf (sealB l)).size := by rw [cellsOf_size, sealB_length hl]; exact (zero_of_info infoBlock).2
  have hzl : (cellsOf zeros).size = (cellsOf l).size := by rw [cellsOf_size, cellsOf_size, hl, zeros_length]
  have hzs : (cellsOf zeros).size = (cellsOf (sealB l)).size := by rw [cellsOf_size, cellsOf_size, sealB_length hl, zeros_length]
  have hzv := (zero_of_info infoBlock).1
  have hA : Holds ((w.alloc (.cells (cellsOf l) 23)).alloc (.cells (cellsOf t) 30)) w.heap.size l := (Holds.new w l).alloc _
  have hT : ((w.alloc (.cells (cellsOf l) 23)).alloc (.cells (cellsOf t) 30)).heap[w.heap.size + 1]? = some (.cells (cellsOf t) 30 (0, 0)) := heap_alloc2_new w _ _
  have hbel : Below w.heap.size w ((w.alloc (.cells (cellsOf l) 23)).alloc (.cells (cellsOf t) 30)) := ((Below.refl _ _).alloc (Nat.le_refl _) _).alloc (by simp) _
  have hsz1 : ((w.alloc (.cells (cellsOf l) 23)).alloc (.cells (cellsOf t) 30)).heap.size = w.heap.size + 2 := by simp
  go_enter Try.func4, Try.ntmps4
  go_wp2_with (first | (refine wpList_load_row rfl 23 _ rfl _ rfl _ _ _ _ hA Try.underlying23 rfl hi ?_) | (go_at_call 10; refine (Seal_any l hl _).mono ?_; rintro e W2 ⟨rfl, hb2⟩; rw [hsz1] at hb2; replace hA := hA.below hb2 (by omega); replace hT := (hb2.block _ (by omega)).trans hT; have hsz2 := hb2.size; rw [hsz1] at hsz2; replace hbel := hbel.trans (hb2.mono (by omega)); clear hb2 hsz1) | (refine wpList_store_new rfl 23 _ _ rfl _ _ _ rfl rfl hiS hzs (cellsOf_one _) ?_; obtain ⟨hX, hA3, hT3, hbel3, hsz3⟩ := grow_step (x := sealB l) hA hT hbel hsz2; clear hA hT hbel; generalize W2.alloc (.cells (cellsOf (sealB l)) 23) = W3 at *; generalize W2.heap.size = X at *) | (refine wpList_load_row rfl 23 _ rfl _ rfl _ _ _ _ hA3 Try.underlying23 rfl hi ?_) | (refine wpList_store_new rfl 23 _ _ rfl _ _ _ rfl rfl hi hzl (cellsOf_one _) ?_; obtain ⟨hY, hA4, hT4, hbel4, hsz4⟩ := grow_step (x := l) hA3 hT3 hbel3 (by omega); replace hX := hX.alloc (.cells (cellsOf l) 23); clear hA3 hT3 hbel3; generalize W3.alloc (.cells (cellsOf l) 23) = W4 at *; generalize W3.heap.size = Y at *))
  clear hi hiS hzl hzs hzv
  go_loopw [7] (fun i wr => ∃ k : Nat, k ≤ 4 ∧ i = .int .i64 k ∧ Holds wr w.heap.size l ∧ Holds wr X (sealB l) ∧ Holds wr Y (tailTo l t k) ∧ wr.heap[w.heap.size + 1]? = some (.cells (cellsOf t) 30 (0, 0)) ∧ Below w.heap.size w wr) (fun i _ => 4 - (intOf i).toNat)
  case atStart => exact ⟨0, by omega, rfl, hA4, hX, by rw [tailTo_zero]; exact hY, hT4, hbel4⟩
  case round =>
    obtain ⟨k, hk, rfl, qA, qX, qY, qT, qB⟩ := hrel
    have hyl := tailTo_length hl ht k hk
    by_cases hlt : k < 4
    · have hc := qY.cell (252 + k) (by omega)
      have hf := qY.frozen (252 + k)
      have hct := (cell_of_row wr (w.heap.size + 1) k _ _ _ qT).trans (cellsOf_get t k (by omega))
      go_wp2_with fail
      go_roundw
      case rel =>
        refine ⟨k + 1, by omega, by go_num, qA.other _ _ (by simp; omega), qX.other _ _ (by simp; omega), ?_, (heap_setCell_other _ _ _ _ (by simp; omega)).trans qT, qB.setCell (by simp; omega) _⟩
        rw [← tailTo_set hl ht k hlt]
        exact qY.set_ _ _
      case measure => simp [intOf]; omega
    · obtain rfl : k = 4 := by omega
      have q3 : Three w w.heap.size X Y l (sealB l) (tailTo l t 4) wr := ⟨qA, qX, qY, qB⟩
      have hyt := sealB_tail (t := t) hl 4
      clear qA qX qY qT qB hA4 hX hY hT4 hbel4
      have HLY := Lib.hid hyl; clear hyl
      generalize tailTo l t 4 = y at *
      have HY := Lib.hid hyt; clear hyt
      rw [show ((4 : Nat) : Int) = 4 from rfl]
      go_wp2_with fail
      go_loopw [8] (fun i wr => ∃ k : Nat, k ≤ 252 ∧ i = .int .i64 k ∧ Three w w.heap.size X Y l (sealB l) y wr) (fun i _ => 252 - (intOf i).toNat)
      case atStart => exact ⟨0, by omega, rfl, q3⟩
      case round =>
        obtain ⟨k, hk2, rfl, q4⟩ := hrel
        by_cases hl2 : k < 252
        · have hcx := q4.2.1.cell k (by rw [sealB_length hl]; omega)
          rw [sealB_get hl k hl2] at hcx
          have hca := q4.1.cell k (by omega)
          have hu := l[k].toNat_lt
          generalize l[k] = u at *
          have hd : decide ((k : Int) < 252) = true := by simp; omega
          go_wp2_with fail
          go_quiet (fail)
          go_wp2_with fail
          go_roundw
          case rel => exact ⟨k + 1, by omega, by go_num, q4.drewN _⟩
          case measure => simp [intOf]; omega
        · obtain rfl : k = 252 := by omega
          rw [show ((252 : Nat) : Int) = 252 from rfl]
          have hly : y.length = 256 := by have := HLY.out; exact this
          have cGx : ∀ W : World, Calls Try.prog 12 #[.agg (cellsOf (sealB l))] W fun e w' => e = .returned (.bool true) ∧ Below W.heap.size W w' := fun W => by
            have := Good_any (sealB l) (sealB_length hl) W
            rw [show decide (sealB (sealB l) = sealB l) = true from decide_eq_true (sealB_sealB hl)] at this
            exact this
          have cSy : ∀ W : World, Calls Try.prog 10 #[.agg (cellsOf y)] W fun e w' => e = .returned (.agg (cellsOf (sealB l))) ∧ Below W.heap.size W w' := fun W => by
            have := Seal_any y hly W
            rw [HY.out] at this
            exact this
          have cSx : ∀ W : World, Calls Try.prog 10 #[.agg (cellsOf (sealB l))] W fun e w' => e = .returned (.agg (cellsOf (sealB l))) ∧ Below W.heap.size W w' := fun W => by
            have := Seal_any (sealB l) (sealB_length hl) W
            rw [sealB_sealB hl] at this
            exact this
          have cZx : ∀ W : World, Calls Try.prog 14 #[.agg (cellsOf (sealB l))] W fun e w' => e = .returned (.bool false) ∧ Below W.heap.size W w' := fun W => by
            have := Zero_any (sealB l) (sealB_length hl) W
            rw [show decide (sealB l = zeros) = false from decide_eq_false (sealB_not_zero hl)] at this
            exact this
          have cGy : ∀ W : World, Calls Try.prog 12 #[.agg (cellsOf y)] W fun e w' => e = .returned (.bool (decide (y = sealB l))) ∧ Below W.heap.size W w' := fun W => by
            have := Good_any y hly W
            rw [HY.out, show decide (sealB l = y) = decide (y = sealB l) from by rw [Bool.eq_iff_iff]; simp [eq_comm]] at this
            exact this
          have eXX : ∀ W : World, (Op.equalIn 10000 23 (.agg (cellsOf (sealB l))) (.agg (cellsOf (sealB l)))).run Try.prog W = .ok true W := fun W => by
            rw [run_eqBlock W _ _ (sealB_length hl) (sealB_length hl)]; simp
          have eYX : ∀ W : World, (Op.equalIn 10000 23 (.agg (cellsOf y)) (.agg (cellsOf (sealB l)))).run Try.prog W = .ok (decide (y = sealB l)) W := fun W =>
            run_eqBlock W _ _ hly (sealB_length hl)
          have hiX : (Try.prog.info? 23).map (·.size) = some (cellsOf (sealB l)).size := by rw [cellsOf_size, sealB_length hl]; exact (zero_of_info infoBlock).2
          have hiY : (Try.prog.info? 23).map (·.size) = some (cellsOf y).size := by rw [cellsOf_size, hly]; exact (zero_of_info infoBlock).2
          have hg := fun (W : World) (op : BinOp) (x y : Operand) (xs ys : Array Value) => run_eqGuard_agg (P := Try.prog) W op 23 x y xs ys noGuard
          have CGx := Lib.hid cGx; clear cGx
          have CSy := Lib.hid cSy; clear cSy
          have CSx := Lib.hid cSx; clear cSx
          have CZx := Lib.hid cZx; clear cZx
          have CGy := Lib.hid cGy; clear cGy
          clear hly
          have q5 := q4.drew
          generalize sealB l = x at *
          go_wp2_with fail
          refine wp_region_class_lit (Three w w.heap.size X Y l x y) (by kernel_rfl) (by kernel_rfl) q5 ?_
          haveI : Nonempty {w' : World // Three w w.heap.size X Y l x y w'} := ⟨⟨_, q5⟩⟩
          clear q4 q5
          repeat (first | go_big_quiet_skip | (go_big_quiet_want; first | (refine quiet_load_row 23 _ rfl X rfl _ _ _ _ (fun _ h => h.2.1) Try.underlying23 rfl hiX ?_; go_big_quiet_on; simp only [Act.put, List.setIfInBounds_toArray, List.set_cons_zero, List.set_cons_succ]) | (refine quiet_load_row 23 _ rfl Y rfl _ _ _ _ (fun _ h => h.2.2.1) Try.underlying23 rfl hiY ?_; go_big_quiet_on; simp only [Act.put, List.setIfInBounds_toArray, List.set_cons_zero, List.set_cons_succ]) | (go_big_quiet_op; first | go_big_quiet_on | go_big_quiet_call (first | (intro h1; (with_reducible refine (CGx.out _).mono ?_); exact fun _ _ ⟨he, hb⟩ => ⟨he, h1.below hb⟩) | (intro h1; (with_reducible refine (CSy.out _).mono ?_); exact fun _ _ ⟨he, hb⟩ => ⟨he, h1.below hb⟩) | (intro h1; (with_reducible refine (CSx.out _).mono ?_); exact fun _ _ ⟨he, hb⟩ => ⟨he, h1.below hb⟩) | (intro h1; (with_reducible refine (CZx.out _).mono ?_); exact fun _ _ ⟨he, hb⟩ => ⟨he, h1.below hb⟩) | (intro h1; (with_reducible refine (CGy.out _).mono ?_); exact fun _ _ ⟨he, hb⟩ => ⟨he, h1.below hb⟩) | (intro h1; (with_reducible refine (head_any _).mono ?_); exact fun _ _ ⟨he, hb⟩ => ⟨he, h1.below hb⟩) | (intro _; rfl)))))
          refine wpQuiet_nil ?_
          intro w2 hw2
          go_wp2_with fail
          go_ret
          exact ⟨rfl, hw2.2.2.2⟩

end Go.Proofs.Ytfonbhokbbghpaa.Crc
