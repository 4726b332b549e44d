/-
  The walks of the reference's Put and PutPick.
-/
import Derived.Test.YtkkeemjgeeillaaTalObj
namespace Go.Proofs.Ytkkeemjgeeillaa.Tal
open Go.RowKit RowLaw Crc Fld
set_option maxRecDepth 100000

theorem str_app (a b : List UInt8) : ((⟨a.toArray⟩ : ByteArray) ++ ⟨b.toArray⟩) = ⟨(a ++ b).toArray⟩ := by
  apply ByteArray.ext
  simp

set_option maxHeartbeats 1600000 in
theorem refPut_noT (idx : Nat) (ns : List Nat) (ho : ¬ idx < kT.lim) (w : World) :
    Calls Try.prog 7 #[.agg (pgCells .u16 idx ns)] w fun e w' => e = .returned (.tuple #[.agg (cellsOf zeros), .int .i64 2]) ∧ Below w.heap.size w w' := by
  have hzv := (zero_of_info infoBlock).1
  have hi := sizeBlock zeros zeros_length
  have hN : IsPg .u16 26 ((w.alloc (.cells (pgCells .u16 idx ns) 26)).alloc (.cells (cellsOf zeros) 32)) w.heap.size idx ns := (IsPg.new .u16 26 w idx ns).alloc _
  have hR : Holds ((w.alloc (.cells (pgCells .u16 idx ns) 26)).alloc (.cells (cellsOf zeros) 32)) (w.heap.size + 1) zeros := heap_alloc2_new w _ _
  have hb : Below w.heap.size w ((w.alloc (.cells (pgCells .u16 idx ns) 26)).alloc (.cells (cellsOf zeros) 32)) := ((Below.refl _ _).alloc (Nat.le_refl _) _).alloc (by simp) _
  have ci := hN.index
  have d1 : (16384 : Int) ≤ (idx : Int) := by have : ¬ idx < 16384 := ho; omega
  clear ho hN
  go_enter Try.func7, Try.ntmps7
  go_wp2_with (refine wpList_store_row rfl 32 _ _ rfl _ _ rfl rfl _ _ hR hi rfl (cellsOf_one _) ?_)
  exact bodyPost_ret (results_row_tmp rfl _ _ _ _ _ _ _ rfl (setRow_heap _ _ _ _ _ _ hR) Try.underlying32 rfl hi) rfl ⟨rfl, below_row hb (by omega)⟩

set_option maxHeartbeats 1600000 in
theorem refPut_yesT (idx : Nat) (ns : List Nat) (hn : ns.length = kT.n) (hs : ∀ j (hj : j < ns.length), ns[j] < 256 ^ kT.wd) (ho : idx < kT.lim) (w : World) :
    Calls Try.prog 7 #[.agg (pgCells .u16 idx ns)] w fun e w' => e = .returned (.tuple #[.agg (cellsOf (pgB kT idx ns)), .int .i64 0]) ∧ Below w.heap.size w w' := by
  have hzv := (zero_of_info infoBlock).1
  have hpl := page_length fT idx hn
  have hlen := pgB_length fT idx hn
  have hi := sizeBlock _ hlen
  have hzz : (cellsOf zeros).size = (cellsOf (pgB kT idx ns)).size := by rw [cellsOf_size, cellsOf_size, hlen, zeros_length]
  have hN : IsPg .u16 26 ((w.alloc (.cells (pgCells .u16 idx ns) 26)).alloc (.cells (cellsOf zeros) 32)) w.heap.size idx ns := (IsPg.new .u16 26 w idx ns).alloc _
  have hR : Holds ((w.alloc (.cells (pgCells .u16 idx ns) 26)).alloc (.cells (cellsOf zeros) 32)) (w.heap.size + 1) zeros := heap_alloc2_new w _ _
  have hb : Below w.heap.size w ((w.alloc (.cells (pgCells .u16 idx ns) 26)).alloc (.cells (cellsOf zeros) 32)) := ((Below.refl _ _).alloc (Nat.le_refl _) _).alloc (by simp) _
  have ci := hN.index
  have hlim : idx < 16384 := ho
  have d1 : ¬ (16384 : Int) ≤ (idx : Int) := by omega
  have hdone := fun W => refDone_short ⟨(page kT idx ns).toArray⟩ (page kT idx ns) (by simp) 84 (by omega) W
  rw [show fdone (page kT idx ns) 84 = pgB kT idx ns from rfl] at hdone
  have HD := Lib.hid hdone
  have HN := Lib.hid (fun j hj => pgTo_succ kT idx ns j hj)
  have HL := Lib.hid hs
  have HP := Lib.hid hn
  have HT := Lib.hid (pgTo_length kT idx ns)
  clear hdone hs hn hlen hpl ho
  obtain ⟨B, hB⟩ : ∃ B, B = pgB kT idx ns := ⟨_, rfl⟩
  rw [← hB] at hi hzz HD ⊢
  clear hB
  have z1 : IntKind.u64.wrap (idx : Int) = (idx : Int) := IntWalk.u64_in _ (by omega)
  go_enter Try.func7, Try.ntmps7
  go_wp2_with fail
  refine (refNum_any 4 idx _ (by omega) (by omega)).mono ?_
  rintro e W1 ⟨rfl, hx⟩
  replace hR := hR.below hx hR.lt
  replace hN := hN.below hx hN.lt
  replace hb := hb.trans (hx.mono hb.size)
  clear hx ci
  go_wp2_with fail
  go_loopw [4, 5] (fun s i wr => ∃ j : Nat, j ≤ 64 ∧ i = .int .i64 j ∧ s = .string ⟨(pgTo kT idx ns j).toArray⟩ ∧ IsPg .u16 26 wr w.heap.size idx ns ∧ Holds wr (w.heap.size + 1) zeros ∧ Below w.heap.size w wr) (fun _ i _ => 64 - (intOf i).toNat)
  case atStart => exact ⟨0, by omega, rfl, by rw [pgTo_zero], hN, hR, hb⟩
  case round =>
    clear hN hR hb
    obtain ⟨j, hj, rfl, rfl, hN, hR, hb⟩ := hrel
    by_cases hlt : j < 64
    · have hjl : j < ns.length := by have : ns.length = 64 := HP.out; omega
      have hc := hN.num j hjl
      have hnx := HN.out j hjl
      have hxl : ns[j] < 65536 := HL.out j hjl
      obtain ⟨x, hx⟩ : ∃ x, x = ns[j] := ⟨_, rfl⟩
      rw [← hx] at hc hnx hxl
      clear hx
      have HNX := Lib.hid hnx; clear hnx
      have z2 : IntKind.u64.wrap (x : Int) = (x : Int) := IntWalk.u64_in _ (by omega)
      have s1 : (pgTo kT idx ns j).length ≤ 132 := by rw [HT.out j (by omega)]; show 4 + 2 * j ≤ 132; omega
      have s2 : (leB x 2).length ≤ 2 := by rw [leB_length]; omega
      go_wp2_with fail
      refine (refNum_any 2 x _ (by omega) (by omega)).mono ?_
      rintro e W2 ⟨rfl, hx⟩
      replace hR := hR.below hx hR.lt
      replace hN := hN.below hx hN.lt
      replace hb := hb.trans (hx.mono hb.size)
      clear hx hc
      go_wp2_with fail
      go_roundw
      case rel => exact ⟨j + 1, by omega, by go_num, by rw [HNX.out, ← str_app]; rfl, hN, hR, hb⟩
      case measure => simp [intOf]; omega
    · obtain rfl : j = 64 := by omega
      go_wp2_with fail
      refine (HD.out _).mono ?_
      rintro e W3 ⟨rfl, hx⟩
      replace hR := hR.below hx hR.lt
      replace hb := hb.trans (hx.mono hb.size)
      clear hx hN
      have hA : Holds (W3.alloc (.cells (cellsOf B) 32)) W3.heap.size B := Holds.new W3 B
      have hR2 := hR.alloc (.cells (cellsOf B) 32)
      have hb2 := hb.alloc hb.size (.cells (cellsOf B) 32)
      clear hR hb
      go_wp2_with (first
        | (refine wpList_store_new rfl 32 _ _ rfl (cellsOf B) _ _ rfl rfl hi hzz (cellsOf_one _) ?_; generalize W3.heap.size = q6 at hA ⊢; generalize W3.alloc (.cells (cellsOf B) 32) = W4 at hA hR2 hb2 ⊢)
        | (refine wpList_load_row rfl 32 _ rfl _ rfl _ _ _ _ hA Try.underlying32 rfl hi ?_)
        | (refine wpList_store_row rfl 32 _ _ rfl _ _ rfl rfl _ _ hR2 hi hzz (cellsOf_one _) ?_))
      exact bodyPost_ret (results_row_tmp rfl _ _ _ _ _ _ _ rfl (setRow_heap W4 _ _ _ _ _ hR2) Try.underlying32 rfl hi) rfl ⟨rfl, below_row hb2 (by omega)⟩

theorem refPut_anyT (idx : Nat) (ns : List Nat) (hn : ns.length = kT.n) (hs : ∀ j (hj : j < ns.length), ns[j] < 256 ^ kT.wd) (w : World) :
    Calls Try.prog 7 #[.agg (pgCells .u16 idx ns)] w fun e w' => e = .returned (.tuple #[.agg (cellsOf (putB kT idx ns)), .int .i64 (putE kT idx)]) ∧ Below w.heap.size w w' := by
  by_cases ho : idx < kT.lim
  · rw [putB_yes ns ho, putE_yes ho]; exact refPut_yesT idx ns hn hs ho w
  · rw [show putB kT idx ns = zeros from if_neg ho, putE_no ho]; exact refPut_noT idx ns ho w

set_option maxHeartbeats 1600000 in
theorem refPut_noP (idx : Nat) (ns : List Nat) (ho : ¬ idx < kP.lim) (w : World) :
    Calls Try.prog 9 #[.agg (pgCells .u64 idx ns)] w fun e w' => e = .returned (.tuple #[.agg (cellsOf zeros), .int .i64 2]) ∧ Below w.heap.size w w' := by
  have hzv := (zero_of_info infoBlock).1
  have hi := sizeBlock zeros zeros_length
  have hN : IsPg .u64 30 ((w.alloc (.cells (pgCells .u64 idx ns) 30)).alloc (.cells (cellsOf zeros) 32)) w.heap.size idx ns := (IsPg.new .u64 30 w idx ns).alloc _
  have hR : Holds ((w.alloc (.cells (pgCells .u64 idx ns) 30)).alloc (.cells (cellsOf zeros) 32)) (w.heap.size + 1) zeros := heap_alloc2_new w _ _
  have hb : Below w.heap.size w ((w.alloc (.cells (pgCells .u64 idx ns) 30)).alloc (.cells (cellsOf zeros) 32)) := ((Below.refl _ _).alloc (Nat.le_refl _) _).alloc (by simp) _
  have ci := hN.index
  have d1 : (16 : Int) ≤ (idx : Int) := by have : ¬ idx < 16 := ho; omega
  clear ho hN
  go_enter Try.func9, Try.ntmps9
  go_wp2_with (refine wpList_store_row rfl 32 _ _ rfl _ _ rfl rfl _ _ hR hi rfl (cellsOf_one _) ?_)
  exact bodyPost_ret (results_row_tmp rfl _ _ _ _ _ _ _ rfl (setRow_heap _ _ _ _ _ _ hR) Try.underlying32 rfl hi) rfl ⟨rfl, below_row hb (by omega)⟩

set_option maxHeartbeats 1600000 in
theorem refPut_yesP (idx : Nat) (ns : List Nat) (hn : ns.length = kP.n) (hs : ∀ j (hj : j < ns.length), ns[j] < 256 ^ kP.wd) (ho : idx < kP.lim) (w : World) :
    Calls Try.prog 9 #[.agg (pgCells .u64 idx ns)] w fun e w' => e = .returned (.tuple #[.agg (cellsOf (pgB kP idx ns)), .int .i64 0]) ∧ Below w.heap.size w w' := by
  have hzv := (zero_of_info infoBlock).1
  have hpl := page_length fP idx hn
  have hlen := pgB_length fP idx hn
  have hi := sizeBlock _ hlen
  have hzz : (cellsOf zeros).size = (cellsOf (pgB kP idx ns)).size := by rw [cellsOf_size, cellsOf_size, hlen, zeros_length]
  have hN : IsPg .u64 30 ((w.alloc (.cells (pgCells .u64 idx ns) 30)).alloc (.cells (cellsOf zeros) 32)) w.heap.size idx ns := (IsPg.new .u64 30 w idx ns).alloc _
  have hR : Holds ((w.alloc (.cells (pgCells .u64 idx ns) 30)).alloc (.cells (cellsOf zeros) 32)) (w.heap.size + 1) zeros := heap_alloc2_new w _ _
  have hb : Below w.heap.size w ((w.alloc (.cells (pgCells .u64 idx ns) 30)).alloc (.cells (cellsOf zeros) 32)) := ((Below.refl _ _).alloc (Nat.le_refl _) _).alloc (by simp) _
  have ci := hN.index
  have hlim : idx < 16 := ho
  have d1 : ¬ (16 : Int) ≤ (idx : Int) := by omega
  have hdone := fun W => refDone_short ⟨(page kP idx ns).toArray⟩ (page kP idx ns) (by simp) 80 (by omega) W
  rw [show fdone (page kP idx ns) 80 = pgB kP idx ns from rfl] at hdone
  have HD := Lib.hid hdone
  have HN := Lib.hid (fun j hj => pgTo_succ kP idx ns j hj)
  have HL := Lib.hid hs
  have HP := Lib.hid hn
  have HT := Lib.hid (pgTo_length kP idx ns)
  clear hdone hs hn hlen hpl ho
  obtain ⟨B, hB⟩ : ∃ B, B = pgB kP idx ns := ⟨_, rfl⟩
  rw [← hB] at hi hzz HD ⊢
  clear hB
  have z1 : IntKind.u64.wrap (idx : Int) = (idx : Int) := IntWalk.u64_in _ (by omega)
  go_enter Try.func9, Try.ntmps9
  go_wp2_with fail
  refine (refNum_any 4 idx _ (by omega) (by omega)).mono ?_
  rintro e W1 ⟨rfl, hx⟩
  replace hR := hR.below hx hR.lt
  replace hN := hN.below hx hN.lt
  replace hb := hb.trans (hx.mono hb.size)
  clear hx ci
  go_wp2_with fail
  go_loopw [4, 5] (fun s i wr => ∃ j : Nat, j ≤ 16 ∧ i = .int .i64 j ∧ s = .string ⟨(pgTo kP idx ns j).toArray⟩ ∧ IsPg .u64 30 wr w.heap.size idx ns ∧ Holds wr (w.heap.size + 1) zeros ∧ Below w.heap.size w wr) (fun _ i _ => 16 - (intOf i).toNat)
  case atStart => exact ⟨0, by omega, rfl, by rw [pgTo_zero], hN, hR, hb⟩
  case round =>
    clear hN hR hb
    obtain ⟨j, hj, rfl, rfl, hN, hR, hb⟩ := hrel
    by_cases hlt : j < 16
    · have hjl : j < ns.length := by have : ns.length = 16 := HP.out; omega
      have hc := hN.num j hjl
      have hnx := HN.out j hjl
      have hxl : ns[j] < 18446744073709551616 := HL.out j hjl
      obtain ⟨x, hx⟩ : ∃ x, x = ns[j] := ⟨_, rfl⟩
      rw [← hx] at hc hnx hxl
      clear hx
      have HNX := Lib.hid hnx; clear hnx
      have z2 : IntKind.u64.wrap (x : Int) = (x : Int) := IntWalk.u64_in _ (by omega)
      have s1 : (pgTo kP idx ns j).length ≤ 132 := by rw [HT.out j (by omega)]; show 4 + 8 * j ≤ 132; omega
      have s2 : (leB x 8).length ≤ 8 := by rw [leB_length]; omega
      go_wp2_with fail
      refine (refNum_any 8 x _ (by omega) (by omega)).mono ?_
      rintro e W2 ⟨rfl, hx⟩
      replace hR := hR.below hx hR.lt
      replace hN := hN.below hx hN.lt
      replace hb := hb.trans (hx.mono hb.size)
      clear hx hc
      go_wp2_with fail
      go_roundw
      case rel => exact ⟨j + 1, by omega, by go_num, by rw [HNX.out, ← str_app]; rfl, hN, hR, hb⟩
      case measure => simp [intOf]; omega
    · obtain rfl : j = 16 := by omega
      go_wp2_with fail
      refine (HD.out _).mono ?_
      rintro e W3 ⟨rfl, hx⟩
      replace hR := hR.below hx hR.lt
      replace hb := hb.trans (hx.mono hb.size)
      clear hx hN
      have hA : Holds (W3.alloc (.cells (cellsOf B) 32)) W3.heap.size B := Holds.new W3 B
      have hR2 := hR.alloc (.cells (cellsOf B) 32)
      have hb2 := hb.alloc hb.size (.cells (cellsOf B) 32)
      clear hR hb
      go_wp2_with (first
        | (refine wpList_store_new rfl 32 _ _ rfl (cellsOf B) _ _ rfl rfl hi hzz (cellsOf_one _) ?_; generalize W3.heap.size = q6 at hA ⊢; generalize W3.alloc (.cells (cellsOf B) 32) = W4 at hA hR2 hb2 ⊢)
        | (refine wpList_load_row rfl 32 _ rfl _ rfl _ _ _ _ hA Try.underlying32 rfl hi ?_)
        | (refine wpList_store_row rfl 32 _ _ rfl _ _ rfl rfl _ _ hR2 hi hzz (cellsOf_one _) ?_))
      exact bodyPost_ret (results_row_tmp rfl _ _ _ _ _ _ _ rfl (setRow_heap W4 _ _ _ _ _ hR2) Try.underlying32 rfl hi) rfl ⟨rfl, below_row hb2 (by omega)⟩

theorem refPut_anyP (idx : Nat) (ns : List Nat) (hn : ns.length = kP.n) (hs : ∀ j (hj : j < ns.length), ns[j] < 256 ^ kP.wd) (w : World) :
    Calls Try.prog 9 #[.agg (pgCells .u64 idx ns)] w fun e w' => e = .returned (.tuple #[.agg (cellsOf (putB kP idx ns)), .int .i64 (putE kP idx)]) ∧ Below w.heap.size w w' := by
  by_cases ho : idx < kP.lim
  · rw [putB_yes ns ho, putE_yes ho]; exact refPut_yesP idx ns hn hs ho w
  · rw [show putB kP idx ns = zeros from if_neg ho, putE_no ho]; exact refPut_noP idx ns ho w


end Go.Proofs.Ytkkeemjgeeillaa.Tal
