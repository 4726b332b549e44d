/-
  The walk of the law FieldNone: writers and readers that are none.
-/
import Derived.Test.YtfefpdaohclgfaaFldHead
namespace Go.Proofs.Ytfefpdaohclgfaa.Fld
open Go.RowKit RowLaw Crc

/-- what the law has in memory: a writer and a reader that have failed, and the two slices that name them -/
structure NoneBox (w0 W : World) : Prop where
  wr : WIs W w0.heap.size none
  sl : W.heap[w0.heap.size + 1]? = some (.cells #[.pointer none, .pointer (some ⟨w0.heap.size, 0, none⟩)] 39 (0, 0))
  rd : RIs W (w0.heap.size + 1 + 1) none
  sk : W.heap[w0.heap.size + 1 + 1 + 1]? = some (.cells #[.pointer none, .pointer (some ⟨w0.heap.size + 1 + 1, 0, none⟩)] 52 (0, 0))
  size : w0.heap.size + 4 ≤ W.heap.size
  bel : Below w0.heap.size w0 W
theorem NoneBox.below {w0 W W' : World} (h : NoneBox w0 W) (hb : Below W.heap.size W W') : NoneBox w0 W' :=
  have hs := h.size
  ⟨h.wr.below hb, (hb.block _ (by omega)).trans h.sl, h.rd.below hb, (hb.block _ (by omega)).trans h.sk, Nat.le_trans hs hb.size, h.bel.trans (hb.mono (by omega))⟩
theorem NoneBox.atW {w0 W W' : World} (h : NoneBox w0 W) (hw : WIs W' w0.heap.size none) (ha : Apart w0.heap.size W W') : NoneBox w0 W' :=
  have hs := h.size
  ⟨hw, (ha.block _ (by omega) (by omega)).trans h.sl, h.rd.apart ha (by omega), (ha.block _ (by omega) (by omega)).trans h.sk, Nat.le_trans hs ha.size, h.bel.trans (ha.below (by omega) (by omega))⟩
theorem NoneBox.atR {w0 W W' : World} (h : NoneBox w0 W) (hr : RIs W' (w0.heap.size + 1 + 1) none) (ha : Apart (w0.heap.size + 1 + 1) W W') : NoneBox w0 W' :=
  have hs := h.size
  ⟨h.wr.apart ha (by omega), (ha.block _ (by omega) (by omega)).trans h.sl, hr, (ha.block _ (by omega) (by omega)).trans h.sk, Nat.le_trans hs ha.size, h.bel.trans (ha.below (by omega) (by omega))⟩
theorem NoneBox.cells {w0 W : World} (h : NoneBox w0 W) : W.cell? ⟨w0.heap.size + 1, 0, none⟩ = some (.pointer none) ∧ W.cell? ⟨w0.heap.size + 1, 1, none⟩ = some (.pointer (some ⟨w0.heap.size, 0, none⟩)) ∧
    W.cell? ⟨w0.heap.size + 1 + 1 + 1, 0, none⟩ = some (.pointer none) ∧ W.cell? ⟨w0.heap.size + 1 + 1 + 1, 1, none⟩ = some (.pointer (some ⟨w0.heap.size + 1 + 1, 0, none⟩)) :=
  ⟨cell_of_row W _ 0 _ _ _ h.sl, cell_of_row W _ 1 _ _ _ h.sl, cell_of_row W _ 0 _ _ _ h.sk, cell_of_row W _ 1 _ _ _ h.sk⟩
theorem NoneBox.start (w : World) : NoneBox w ((((w.alloc (.cells (objCells zeros 0) 69)).alloc (.cells #[.pointer none, .pointer (some ⟨w.heap.size, 0, none⟩)] 39)).alloc (.cells (objCells zeros 0) 71)).alloc (.cells #[.pointer none, .pointer (some ⟨w.heap.size + 1 + 1, 0, none⟩)] 52)) := by
  have e (u : World) (o : Obj) (k : Nat) (h : k < u.heap.size) : (u.alloc o).heap[k]? = u.heap[k]? := Below.heap_alloc u o k h
  refine ⟨⟨zeros, zeros_length, ?_⟩, ?_, ⟨zeros, zeros_length, ?_⟩, ?_, ?_, ?_⟩
  · unfold IsObj
    rw [e _ _ _ (by simp; omega), e _ _ _ (by simp; omega), e _ _ _ (by simp)]
    exact heap_alloc_new _ _
  · rw [e _ _ _ (by simp), e _ _ _ (by simp)]
    exact heap_alloc2_new _ _ _
  · unfold IsObj
    rw [e _ _ _ (by simp)]
    have := heap_alloc_new ((w.alloc (.cells (objCells zeros 0) 69)).alloc (.cells #[.pointer none, .pointer (some ⟨w.heap.size, 0, none⟩)] 39)) (.cells (objCells zeros 0) 71)
    simpa using this
  · have := heap_alloc_new (((w.alloc (.cells (objCells zeros 0) 69)).alloc (.cells #[.pointer none, .pointer (some ⟨w.heap.size, 0, none⟩)] 39)).alloc (.cells (objCells zeros 0) 71)) (.cells #[.pointer none, .pointer (some ⟨w.heap.size + 1 + 1, 0, none⟩)] 52)
    simpa using this
  · simp
  · exact ((((Below.refl _ _).alloc (Nat.le_refl _) _).alloc (by simp) _).alloc (by simp; omega) _).alloc (by simp; omega) _

theorem W_none_num (p n : Nat) (width : Int) (w : World) (hw : WIs w p none) : Calls Try.prog 37 #[.pointer (some ⟨p, 0, none⟩), .int .u64 (n : Int), .int .i64 width] w fun e w' => e = .returned (.tuple #[]) ∧ WIs w' p none ∧ Apart p w w' := Num_any none p n width w hw
theorem W_none_text (p : Nat) (s : ByteArray) (room : Int) (w : World) (hw : WIs w p none) : Calls Try.prog 38 #[.pointer (some ⟨p, 0, none⟩), .string s, .int .i64 room] w fun e w' => e = .returned (.tuple #[]) ∧ WIs w' p none ∧ Apart p w w' := Text_any none p s room w hw
theorem R_none_num (p : Nat) (width : Int) (w : World) (hw : RIs w p none) : Calls Try.prog 32 #[.pointer (some ⟨p, 0, none⟩), .int .i64 width] w fun e w' => e = .returned (.int .u64 0) ∧ RIs w' p none ∧ Apart p w w' := RNum_any none p width w hw
theorem R_none_text (p : Nat) (room : Int) (w : World) (hw : RIs w p none) : Calls Try.prog 30 #[.pointer (some ⟨p, 0, none⟩), .int .i64 room] w fun e w' => e = .returned (.string ⟨#[]⟩) ∧ RIs w' p none ∧ Apart p w w' := RText_any none p room w hw
theorem R_none_end (p : Nat) (w : World) (hw : RIs w p none) : Calls Try.prog 34 #[.pointer (some ⟨p, 0, none⟩)] w fun e w' => e = .returned (.int .i64 250) ∧ Below w.heap.size w w' := End_any none p w hw

set_option maxRecDepth 100000 in
set_option maxHeartbeats 3200000 in
theorem none_any (n : Nat) (s : ByteArray) (size : Int) (w : World) :
    Calls Try.prog 10 #[.int .u64 (n : Int), .string s, .int .i64 size] w fun e w' => e = .returned (.bool true) ∧ Below w.heap.size w w' := by
  have hzw := (zero_of_info infoWriter).1
  have hzr := (zero_of_info infoReader).1
  have hzv := (zero_of_info infoBlock).1
  have hiz := sizeBlock zeros zeros_length
  have hb0 := NoneBox.start w
  go_enter Try.func10, Try.ntmps10
  go_wp2_with fail
  generalize (((w.alloc (.cells (objCells zeros 0) 69)).alloc (.cells #[.pointer none, .pointer (some ⟨w.heap.size, 0, none⟩)] 39)).alloc (.cells (objCells zeros 0) 71)).alloc (.cells #[.pointer none, .pointer (some ⟨w.heap.size + 1 + 1, 0, none⟩)] 52) = W0 at hb0 ⊢
  clear hzw hzr
  go_loopw [11] (fun i wr => ∃ k : Nat, k ≤ 2 ∧ i = .int .i64 k ∧ NoneBox w wr) (fun i _ => 2 - (intOf i).toNat)
  case atStart => exact ⟨0, by omega, rfl, hb0⟩
  case round =>
    obtain ⟨k, hk, rfl, hb⟩ := hrel
    clear hb0
    have hk' : k = 0 ∨ k = 1 ∨ k = 2 := by omega
    have hg := fun (W : World) (op : BinOp) (x y : Operand) (xs ys : Array Value) => run_eqGuard_agg (P := Try.prog) W op 23 x y xs ys noGuard
    have he : ∀ W : World, (Op.equalIn 10000 23 (.agg (cellsOf zeros)) (.agg (cellsOf zeros))).run Try.prog W = .ok true W := fun W => by
      rw [run_eqBlock W zeros zeros zeros_length zeros_length]; simp
    rcases hk' with rfl | rfl | rfl
    · rw [show ((0 : Nat) : Int) = 0 from rfl]
      obtain ⟨c0, c1, c2, c3⟩ := hb.cells
      go_wp2_with fail
      refine (Num_nil n size _).mono ?_
      rintro e W ⟨rfl, hx⟩
      replace hb := hb.below hx
      clear c0 c1 c2 c3
      obtain ⟨c0, c1, c2, c3⟩ := hb.cells
      go_wp2_with fail
      refine (Text_nil s size _).mono ?_
      rintro e W ⟨rfl, hx⟩
      replace hb := hb.below hx
      clear c0 c1 c2 c3
      obtain ⟨c0, c1, c2, c3⟩ := hb.cells
      go_wp2_with fail
      refine (Done_nil 1 _).mono ?_
      rintro e W3 ⟨rfl, hx⟩
      replace hb := (hb.below hx).below ((Below.refl _ _).alloc (Nat.le_refl _) (.cells (cellsOf zeros) 23))
      have hH := Holds.new W3 zeros
      clear c0 c1 c2 c3 hx
      obtain ⟨c0, c1, c2, c3⟩ := hb.cells
      go_wp2_with (first | (refine wpList_store_new rfl 23 _ _ rfl _ _ _ rfl rfl hiz rfl (cellsOf_one _) ?_; generalize W3.heap.size = b2 at hH ⊢; generalize W3.alloc (.cells (cellsOf zeros) 23) = W4 at hb hH c0 c1 c2 c3 ⊢) | (refine wpList_load_row rfl 23 _ rfl _ rfl _ _ _ _ hH Try.underlying23 rfl hiz ?_))
      clear hH
      refine (RNum_nil size _).mono ?_
      rintro e W ⟨rfl, hx⟩
      replace hb := hb.below hx
      clear c0 c1 c2 c3
      obtain ⟨c0, c1, c2, c3⟩ := hb.cells
      go_wp2_with fail
      refine (RText_nil size _).mono ?_
      rintro e W ⟨rfl, hx⟩
      replace hb := hb.below hx
      clear c0 c1 c2 c3
      obtain ⟨c0, c1, c2, c3⟩ := hb.cells
      go_wp2_with fail
      refine (Fine_nil _).mono ?_
      rintro e W ⟨rfl, rfl⟩
      go_wp2_with fail
      refine (End_nil _).mono ?_
      rintro e W ⟨rfl, hx⟩
      replace hb := hb.below hx
      go_wp2_with fail
      go_roundw
      case rel => exact ⟨1, by omega, rfl, hb⟩
      case measure => simp [intOf]
    · rw [show ((1 : Nat) : Int) = 1 from rfl]
      obtain ⟨c0, c1, c2, c3⟩ := hb.cells
      go_wp2_with fail
      refine (W_none_num _ n size _ hb.wr).mono ?_
      rintro e W ⟨rfl, hx, ha⟩
      replace hb := hb.atW hx ha
      clear c0 c1 c2 c3
      obtain ⟨c0, c1, c2, c3⟩ := hb.cells
      go_wp2_with fail
      refine (W_none_text _ s size _ hb.wr).mono ?_
      rintro e W ⟨rfl, hx, ha⟩
      replace hb := hb.atW hx ha
      clear c0 c1 c2 c3
      obtain ⟨c0, c1, c2, c3⟩ := hb.cells
      go_wp2_with fail
      refine (Done_none _ 1 _ hb.wr).mono ?_
      rintro e W3 ⟨rfl, hx⟩
      replace hb := (hb.below hx).below ((Below.refl _ _).alloc (Nat.le_refl _) (.cells (cellsOf zeros) 23))
      have hH := Holds.new W3 zeros
      clear c0 c1 c2 c3 hx
      obtain ⟨c0, c1, c2, c3⟩ := hb.cells
      go_wp2_with (first | (refine wpList_store_new rfl 23 _ _ rfl _ _ _ rfl rfl hiz rfl (cellsOf_one _) ?_; generalize W3.heap.size = b2 at hH ⊢; generalize W3.alloc (.cells (cellsOf zeros) 23) = W4 at hb hH c0 c1 c2 c3 ⊢) | (refine wpList_load_row rfl 23 _ rfl _ rfl _ _ _ _ hH Try.underlying23 rfl hiz ?_))
      clear hH
      refine (R_none_num _ size _ hb.rd).mono ?_
      rintro e W ⟨rfl, hx, ha⟩
      replace hb := hb.atR hx ha
      clear c0 c1 c2 c3
      obtain ⟨c0, c1, c2, c3⟩ := hb.cells
      go_wp2_with fail
      refine (R_none_text _ size _ hb.rd).mono ?_
      rintro e W ⟨rfl, hx, ha⟩
      replace hb := hb.atR hx ha
      clear c0 c1 c2 c3
      obtain ⟨c0, c1, c2, c3⟩ := hb.cells
      go_wp2_with fail
      refine (R_none _ _ hb.rd).mono ?_
      rintro e W ⟨rfl, rfl⟩
      go_wp2_with fail
      refine (R_none_end _ _ hb.rd).mono ?_
      rintro e W ⟨rfl, hx⟩
      replace hb := hb.below hx
      go_wp2_with fail
      go_roundw
      case rel => exact ⟨2, by omega, rfl, hb⟩
      case measure => simp [intOf]
    · rw [show ((2 : Nat) : Int) = 2 from rfl]
      go_wp2_with fail
      refine (head_any _).mono ?_
      rintro e W ⟨rfl, hx⟩
      go_wp2_with fail
      go_ret
      exact ⟨rfl, (hb.below hx).bel⟩

end Go.Proofs.Ytfefpdaohclgfaa.Fld
