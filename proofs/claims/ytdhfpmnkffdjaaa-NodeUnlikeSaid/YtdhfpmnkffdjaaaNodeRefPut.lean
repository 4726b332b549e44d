/-
  The walks of the reference's May and Put.
-/
import Derived.Test.YtdhfpmnkffdjaaaNodePut
namespace Go.Proofs.Ytdhfpmnkffdjaaa.Node
open Go.RowKit RowLaw Crc Fld

set_option maxHeartbeats 800000 in
theorem May_any (lv : Nat) (ps : List Nat) (hp : ps.length = 32) (w : World) :
    Calls Try.prog 22 #[.agg (nodeCells lv ps)] w fun e w' => e = .returned (.bool (okN lv ps)) ∧ Below w.heap.size w w' := by
  have hN := IsNode.new w lv ps
  have hb : Below w.heap.size w (w.alloc (.cells (nodeCells lv ps) 25)) := (Below.refl _ _).alloc (Nat.le_refl _) _
  have HP := Lib.hid hp; clear hp
  go_enter Try.func22, Try.ntmps22
  go_wp2
  generalize w.alloc (.cells (nodeCells lv ps) 25) = W at hN hb ⊢
  have hcl := hN.level
  go_loop [3] (fun i => ∃ k : Nat, k ≤ 32 ∧ i = .int .i64 k ∧ Hid (∀ j (hj : j < ps.length), j < k → ps[j] < 1048576)) (fun i => 32 - (intOf i).toNat)
  case atStart => exact ⟨0, by omega, rfl, Lib.hid (fun _ _ h => absurd h (by omega))⟩
  case round =>
    obtain ⟨k, hk, rfl, hall⟩ := hrel
    by_cases hlt : k < 32
    · have hkl : k < ps.length := by have := HP.out; omega
      have hc := hN.ptr k hkl
      obtain ⟨x, hx⟩ : ∃ x, x = ps[k] := ⟨_, rfl⟩
      rw [← hx] at hc
      have HX := Lib.hid hx; clear hx
      by_cases hb1 : x < 1048576
      · have hb2 : ¬ (1048576 : Int) ≤ (x : Int) := by omega
        go_wp2
        go_round
        case rel =>
          refine ⟨k + 1, by omega, by go_num, Lib.hid (fun j hj h => ?_)⟩
          by_cases e : j = k
          · subst e; have := HX.out; omega
          · exact hall.out j hj (by omega)
        case measure => simp [intOf]; omega
      · have hb2 : (1048576 : Int) ≤ (x : Int) := by omega
        go_wp2
        go_ret
        have hno : okN lv ps = false := by
          unfold okN
          rw [okPs_no k hkl (by have := HX.out; omega)]
          rfl
        exact ⟨by rw [hno]; rfl, hb⟩
    · have hyes : okPs ps = true := okPs_yes (fun j hj => hall.out j hj (by have := HP.out; omega))
      have hok : okN lv ps = lvB lv := by unfold okN; rw [hyes]; rfl
      have HO := Lib.hid hok; clear hok hyes
      by_cases h1 : 1 ≤ lv
      · have d1 : decide ((1 : Int) ≤ (lv : Int)) = true := decide_eq_true (by omega)
        go_wp2
        go_ret
        exact ⟨ret_bool (by rw [HO.out]; exact decide_eq_decide.2 (by omega)), hb⟩
      · have d1 : decide ((1 : Int) ≤ (lv : Int)) = false := decide_eq_false (by omega)
        go_wp2
        go_ret
        exact ⟨by rw [HO.out, show lvB lv = false from decide_eq_false (by omega)]; rfl, hb⟩

theorem May_as (lv : Nat) (ps : List Nat) (hp : ps.length = 32) (b : Bool) (hb : okN lv ps = b) (w : World) :
    Calls Try.prog 22 #[.agg (nodeCells lv ps)] w fun e w' => e = .returned (.bool b) ∧ Below w.heap.size w w' := hb ▸ May_any lv ps hp w

set_option maxRecDepth 100000 in
set_option maxHeartbeats 1600000 in
theorem refPut_no (lv : Nat) (ps : List Nat) (hp : ps.length = 32) (ho : okN lv ps = false) (w : World) :
    Calls Try.prog 8 #[.agg (nodeCells lv ps)] w fun e w' => e = .returned (.tuple #[.agg (cellsOf zeros), .int .i64 2]) ∧ Below w.heap.size w w' := by
  have hzv := (zero_of_info infoBlock).1
  have hi := sizeBlock zeros zeros_length
  have hin := sizeNode lv ps hp
  have hN : IsNode ((w.alloc (.cells (nodeCells lv ps) 25)).alloc (.cells (cellsOf zeros) 27)) w.heap.size lv ps := (IsNode.new w lv ps).alloc _
  have hR : Holds ((w.alloc (.cells (nodeCells lv ps) 25)).alloc (.cells (cellsOf zeros) 27)) (w.heap.size + 1) zeros := heap_alloc2_new w _ _
  have hb : Below w.heap.size w ((w.alloc (.cells (nodeCells lv ps) 25)).alloc (.cells (cellsOf zeros) 27)) := ((Below.refl _ _).alloc (Nat.le_refl _) _).alloc (by simp) _
  have HO := Lib.hid ho; clear ho
  have HP := Lib.hid hp; clear hp
  go_enter Try.func8, Try.ntmps8
  go_wp2_with (first
    | (refine wpList_load_row rfl 25 _ rfl _ rfl _ _ _ _ hN Try.underlying25 rfl hin ?_)
    | (go_at_call 22; (with_reducible refine (May_as lv ps HP.out false HO.out _).mono ?_); rintro e W ⟨rfl, hx⟩; replace hR := hR.below hx hR.lt; replace hb := hb.trans (hx.mono hb.size); clear hx hN)
    | (refine wpList_store_row rfl 27 _ _ rfl _ _ rfl rfl _ _ hR hi rfl (cellsOf_one _) ?_))
  exact bodyPost_ret (results_row_tmp rfl _ _ _ _ _ _ _ rfl (setRow_heap W _ _ _ _ _ hR) Try.underlying27 rfl hi) rfl ⟨rfl, below_row hb (by omega)⟩

theorem str_app (a b : List UInt8) : ((⟨a.toArray⟩ : ByteArray) ++ ⟨b.toArray⟩) = ⟨(a ++ b).toArray⟩ := by
  apply ByteArray.ext
  simp

set_option maxRecDepth 100000 in
set_option maxHeartbeats 1600000 in
theorem refPut_yes (lv : Nat) (ps : List Nat) (hp : ps.length = 32) (ho : okN lv ps = true) (w : World) :
    Calls Try.prog 8 #[.agg (nodeCells lv ps)] w fun e w' => e = .returned (.tuple #[.agg (cellsOf (fdone (nodeTo lv ps 32) 78)), .int .i64 0]) ∧ Below w.heap.size w w' := by
  have hzv := (zero_of_info infoBlock).1
  have hn32 := nodeTo_length lv ps 32 (by omega)
  have hlen := fdone_length (nodeTo lv ps 32) 78 (by omega)
  have hi := sizeBlock _ hlen
  have hzz : (cellsOf zeros).size = (cellsOf (fdone (nodeTo lv ps 32) 78)).size := by rw [cellsOf_size, cellsOf_size, hlen, zeros_length]
  have hin := sizeNode lv ps hp
  have hN : IsNode ((w.alloc (.cells (nodeCells lv ps) 25)).alloc (.cells (cellsOf zeros) 27)) w.heap.size lv ps := (IsNode.new w lv ps).alloc _
  have hR : Holds ((w.alloc (.cells (nodeCells lv ps) 25)).alloc (.cells (cellsOf zeros) 27)) (w.heap.size + 1) zeros := heap_alloc2_new w _ _
  have hb : Below w.heap.size w ((w.alloc (.cells (nodeCells lv ps) 25)).alloc (.cells (cellsOf zeros) 27)) := ((Below.refl _ _).alloc (Nat.le_refl _) _).alloc (by simp) _
  obtain ⟨l1, l2⟩ := okN_lt ho
  have hdone := fun W => refDone_short ⟨(nodeTo lv ps 32).toArray⟩ (nodeTo lv ps 32) (by simp) 78 (by omega) W
  have HD := Lib.hid hdone; clear hdone
  have hnext := fun k hk => nodeTo_succ lv ps k hk
  have HN := Lib.hid hnext; clear hnext
  have HO := Lib.hid ho; clear ho
  have HP := Lib.hid hp; clear hp
  have HL := Lib.hid l2; clear l2 hlen hn32
  obtain ⟨B, hB⟩ : ∃ B, B = fdone (nodeTo lv ps 32) 78 := ⟨_, rfl⟩
  rw [← hB] at hi hzz HD ⊢
  have HB := Lib.hid hB; clear hB
  have z1 : IntKind.u64.wrap (lv : Int) = (lv : Int) := IntWalk.u64_in _ (by omega)
  go_enter Try.func8, Try.ntmps8
  go_wp2_with (refine wpList_load_row rfl 25 _ rfl _ rfl _ _ _ _ hN Try.underlying25 rfl hin ?_)
  refine (May_as lv ps HP.out true HO.out _).mono ?_
  rintro e W ⟨rfl, hx⟩
  replace hR := hR.below hx hR.lt
  replace hN := hN.below hx hN.lt
  replace hb := hb.trans (hx.mono hb.size)
  clear hx
  have cl := hN.level
  go_wp2_with fail
  refine (refNum_any 1 lv _ (by omega) (by omega)).mono ?_
  rintro e W1 ⟨rfl, hx⟩
  replace hR := hR.below hx hR.lt
  replace hN := hN.below hx hN.lt
  replace hb := hb.trans (hx.mono hb.size)
  clear hx cl
  go_wp2_with fail
  go_loopw [4, 5] (fun s i wr => ∃ k : Nat, k ≤ 32 ∧ i = .int .i64 k ∧ s = .string ⟨(nodeTo lv ps k).toArray⟩ ∧ IsNode wr w.heap.size lv ps ∧ Holds wr (w.heap.size + 1) zeros ∧ Below w.heap.size w wr) (fun _ i _ => 32 - (intOf i).toNat)
  case atStart => exact ⟨0, by omega, rfl, by rw [nodeTo_zero], hN, hR, hb⟩
  case round =>
    clear hN hR hb
    obtain ⟨k, hk, rfl, rfl, hN, hR, hb⟩ := hrel
    by_cases hlt : k < 32
    · have hkl : k < ps.length := by have := HP.out; omega
      have hc := hN.ptr k hkl
      have hnx := HN.out k hkl
      have hxl := HL.out k hkl
      obtain ⟨x, hx⟩ : ∃ x, x = ps[k] := ⟨_, rfl⟩
      rw [← hx] at hc hnx hxl
      clear hx
      have HNX := Lib.hid hnx; clear hnx
      have z2 : IntKind.u64.wrap (x : Int) = (x : Int) := IntWalk.u64_in _ (by omega)
      have s1 : (nodeTo lv ps k).length ≤ 129 := by rw [nodeTo_length _ _ _ (by omega)]; omega
      have s2 : (leB x 4).length ≤ 4 := by rw [leB_length]; omega
      go_wp2_with fail
      refine (refNum_any 4 x _ (by omega) (by omega)).mono ?_
      rintro e W2 ⟨rfl, hx⟩
      replace hR := hR.below hx hR.lt
      replace hN := hN.below hx hN.lt
      replace hb := hb.trans (hx.mono hb.size)
      clear hx hc
      go_wp2_with fail
      go_roundw
      case rel => exact ⟨k + 1, by omega, by go_num, by rw [HNX.out, ← str_app], hN, hR, hb⟩
      case measure => simp [intOf]; omega
    · obtain rfl : k = 32 := by omega
      go_wp2_with fail
      refine (HD.out _).mono ?_
      rintro e W3 ⟨rfl, hx⟩
      replace hR := hR.below hx hR.lt
      replace hb := hb.trans (hx.mono hb.size)
      clear hx hN
      have hA : Holds (W3.alloc (.cells (cellsOf B) 27)) W3.heap.size B := Holds.new W3 B
      have hR2 := hR.alloc (.cells (cellsOf B) 27)
      have hb2 := hb.alloc hb.size (.cells (cellsOf B) 27)
      clear hR hb
      go_wp2_with (first
        | (refine wpList_store_new rfl 27 _ _ rfl (cellsOf B) _ _ rfl rfl hi hzz (cellsOf_one _) ?_; generalize W3.heap.size = q6 at hA ⊢; generalize W3.alloc (.cells (cellsOf B) 27) = W4 at hA hR2 hb2 ⊢)
        | (refine wpList_load_row rfl 27 _ rfl _ rfl _ _ _ _ hA Try.underlying27 rfl hi ?_)
        | (refine wpList_store_row rfl 27 _ _ rfl _ _ rfl rfl _ _ hR2 hi hzz (cellsOf_one _) ?_))
      exact bodyPost_ret (results_row_tmp rfl _ _ _ _ _ _ _ rfl (setRow_heap W4 _ _ _ _ _ hR2) Try.underlying27 rfl hi) rfl ⟨rfl, below_row hb2 (by omega)⟩

theorem refPut_any (lv : Nat) (ps : List Nat) (hp : ps.length = 32) (w : World) :
    Calls Try.prog 8 #[.agg (nodeCells lv ps)] w fun e w' => e = .returned (.tuple #[.agg (cellsOf (putB lv ps)), .int .i64 (putE lv ps)]) ∧ Below w.heap.size w w' := by
  unfold putB putE
  cases ho : okN lv ps with
  | true => simpa using refPut_yes lv ps hp ho w
  | false => simpa using refPut_no lv ps hp ho w

end Go.Proofs.Ytdhfpmnkffdjaaa.Node
