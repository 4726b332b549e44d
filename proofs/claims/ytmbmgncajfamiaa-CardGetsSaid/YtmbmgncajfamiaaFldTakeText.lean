/-
  The walk of the reference's TakeText.
-/
import Derived.Test.YtmbmgncajfamiaaFldTakeNum
import Derived.Test.YtmbmgncajfamiaaFldItems
namespace Go.Proofs.Ytmbmgncajfamiaa.Fld
open Go.RowKit RowLaw Crc
set_option maxRecDepth 100000

theorem conv_row (W : World) (h k n c : Nat) (l : List UInt8) (p : Nat) (b : Bool) (hl : l.length = 256) (hr : IsRow W h l p b) (hk : k + n ≤ 256) :
    (convert 50 9 (.slice (some ⟨h, k, none⟩) n c)).run Try.prog W = .ok (.string ⟨(piece l k n).toArray⟩) W := by
  have hp := piece_length l k n (by omega)
  have := run_convert_bytes_back (P := Try.prog) W 50 9 5 ⟨h, k, none⟩ c (piece l k n) Try.underlying50 Try.underlying5 Try.underlying9 (fun j hj => by
    rw [Addr.add_mid, hr.byte (k + j) (by rw [hp] at hj; omega), piece_get l k n j (by omega) hj])
  rw [hp] at this
  exact this

set_option maxRecDepth 100000 in
set_option maxHeartbeats 1600000 in
theorem refTakeText_no (l : List UInt8) (k : Nat) (fine : Bool) (hl : l.length = 256) (hk : k ≤ 252) (room : Int) (hno : fine = false ∨ room < 0 ∨ 200 < room ∨ 252 < (k : Int) + 1 + room) (w : World) :
    Calls Try.prog 36 #[.agg (rowCells l k fine), .int .i64 room] w fun e w' => e = .returned (.tuple #[.string ⟨#[]⟩, .agg (rowV none)]) ∧ Below w.heap.size w w' := by
  have hzr := (zero_of_info infoRow).1
  have hiz := sizeRow zeros 0 false zeros_length
  have hA : IsRow ((w.alloc (.cells (rowCells l k fine) 79)).alloc (.cells (rowCells zeros 0 false) 79)) w.heap.size l k fine := (IsRow.new w l k fine).alloc _
  have hR : IsRow ((w.alloc (.cells (rowCells l k fine) 79)).alloc (.cells (rowCells zeros 0 false) 79)) (w.heap.size + 1) zeros 0 false := heap_alloc2_new w _ _
  have hb : Below w.heap.size w ((w.alloc (.cells (rowCells l k fine) 79)).alloc (.cells (rowCells zeros 0 false) 79)) := ((Below.refl _ _).alloc (Nat.le_refl _) _).alloc (by simp) _
  have c1 := hA.fine hl
  have c2 := hA.pos hl
  cases fine
  · go_enter Try.func36, Try.ntmps36
    go_wp2_with (refine wpList_store_row rfl 79 _ _ rfl _ _ rfl rfl _ _ hR hiz rfl (rowCells_one _ _ _) ?_)
    exact bodyPost_ret (results_tmp_row rfl _ _ _ _ _ _ _ rfl (setRow_heap _ _ _ _ _ _ hR) Try.underlying79 rfl hiz) rfl ⟨rfl, hb.trans ⟨rfl, rfl, rfl, by simp, fun k hk => setRow_other _ _ _ _ (by omega)⟩⟩
  · by_cases h1 : room < 0
    · clear hno
      go_enter Try.func36, Try.ntmps36
      go_wp2_with (refine wpList_store_row rfl 79 _ _ rfl _ _ rfl rfl _ _ hR hiz rfl (rowCells_one _ _ _) ?_)
      exact bodyPost_ret (results_tmp_row rfl _ _ _ _ _ _ _ rfl (setRow_heap _ _ _ _ _ _ hR) Try.underlying79 rfl hiz) rfl ⟨rfl, hb.trans ⟨rfl, rfl, rfl, by simp, fun k hk => setRow_other _ _ _ _ (by omega)⟩⟩
    · by_cases h2 : 200 < room
      · clear hno
        go_enter Try.func36, Try.ntmps36
        go_wp2_with (refine wpList_store_row rfl 79 _ _ rfl _ _ rfl rfl _ _ hR hiz rfl (rowCells_one _ _ _) ?_)
        exact bodyPost_ret (results_tmp_row rfl _ _ _ _ _ _ _ rfl (setRow_heap _ _ _ _ _ _ hR) Try.underlying79 rfl hiz) rfl ⟨rfl, hb.trans ⟨rfl, rfl, rfl, by simp, fun k hk => setRow_other _ _ _ _ (by omega)⟩⟩
      · have h3 : (252 : Int) < (k : Int) + 1 + room := by rcases hno with h | h | h | h <;> first | (cases h; done) | omega
        have h4 : 0 ≤ room := by omega
        have h5 : room ≤ 200 := by omega
        clear hno
        go_enter Try.func36, Try.ntmps36
        go_wp2_with (refine wpList_store_row rfl 79 _ _ rfl _ _ rfl rfl _ _ hR hiz rfl (rowCells_one _ _ _) ?_)
        exact bodyPost_ret (results_tmp_row rfl _ _ _ _ _ _ _ rfl (setRow_heap _ _ _ _ _ _ hR) Try.underlying79 rfl hiz) rfl ⟨rfl, hb.trans ⟨rfl, rfl, rfl, by simp, fun k hk => setRow_other _ _ _ _ (by omega)⟩⟩

set_option maxRecDepth 100000 in
set_option maxHeartbeats 1600000 in
theorem refTakeText_long (l : List UInt8) (k room : Nat) (hl : l.length = 256) (hr : room ≤ 200) (hk : k + 1 + room ≤ 252) (hlong : room < (l.getD k 0).toNat) (w : World) :
    Calls Try.prog 36 #[.agg (rowCells l k true), .int .i64 (room : Int)] w fun e w' => e = .returned (.tuple #[.string ⟨#[]⟩, .agg (rowV none)]) ∧ Below w.heap.size w w' := by
  have hzr := (zero_of_info infoRow).1
  have hiz := sizeRow zeros 0 false zeros_length
  have hA : IsRow ((w.alloc (.cells (rowCells l k true) 79)).alloc (.cells (rowCells zeros 0 false) 79)) w.heap.size l k true := (IsRow.new w l k true).alloc _
  have hR : IsRow ((w.alloc (.cells (rowCells l k true) 79)).alloc (.cells (rowCells zeros 0 false) 79)) (w.heap.size + 1) zeros 0 false := heap_alloc2_new w _ _
  have hb : Below w.heap.size w ((w.alloc (.cells (rowCells l k true) 79)).alloc (.cells (rowCells zeros 0 false) 79)) := ((Below.refl _ _).alloc (Nat.le_refl _) _).alloc (by simp) _
  have c1 := hA.fine hl
  have c2 := hA.pos hl
  have c3 := hA.byte k (by omega)
  have hg : l.getD k 0 = l[k] := by rw [List.getD_eq_getElem?_getD, List.getElem?_eq_getElem (by omega)]; rfl
  rw [hg] at hlong
  have hu := l[k].toNat_lt
  generalize l[k].toNat = u at c3 hlong hu
  clear hg
  go_enter Try.func36, Try.ntmps36
  go_wp2_with (refine wpList_store_row rfl 79 _ _ rfl _ _ rfl rfl _ _ hR hiz rfl (rowCells_one _ _ _) ?_)
  exact bodyPost_ret (results_tmp_row rfl _ _ _ _ _ _ _ rfl (setRow_heap _ _ _ _ _ _ hR) Try.underlying79 rfl hiz) rfl ⟨rfl, hb.trans ⟨rfl, rfl, rfl, by simp, fun k hk => setRow_other _ _ _ _ (by omega)⟩⟩

set_option maxRecDepth 100000 in
set_option maxHeartbeats 1600000 in
theorem refTakeText_some (l : List UInt8) (k room u : Nat) (hl : l.length = 256) (hr : room ≤ 200) (hk : k + 1 + room ≤ 252) (hu : (l.getD k 0).toNat = u) (hshort : u ≤ room) (same : Bool)
    (hsame : (textField ⟨(piece l (k + 1) u).toArray⟩ (room : Int) == piece l k (k + 1 + room - k)) = same) (w : World) :
    Calls Try.prog 36 #[.agg (rowCells l k true), .int .i64 (room : Int)] w fun e w' => e = .returned (.tuple #[.string (if same = true then ⟨(piece l (k + 1) u).toArray⟩ else ⟨#[]⟩), .agg (rowV (if same = true then some (l, k + 1 + room) else none))]) ∧ Below w.heap.size w w' := by
  have hzr := (zero_of_info infoRow).1
  have hiz := sizeRow zeros 0 false zeros_length
  have hir := sizeRow l (k + 1 + room) true hl
  have hzz : (rowCells zeros 0 false).size = (rowCells l (k + 1 + room) true).size := by rw [rowCells_size, rowCells_size, hl, zeros_length]
  have hA : IsRow ((w.alloc (.cells (rowCells l k true) 79)).alloc (.cells (rowCells zeros 0 false) 79)) w.heap.size l k true := (IsRow.new w l k true).alloc _
  have hR : IsRow ((w.alloc (.cells (rowCells l k true) 79)).alloc (.cells (rowCells zeros 0 false) 79)) (w.heap.size + 1) zeros 0 false := heap_alloc2_new w _ _
  have hb : Below w.heap.size w ((w.alloc (.cells (rowCells l k true) 79)).alloc (.cells (rowCells zeros 0 false) 79)) := ((Below.refl _ _).alloc (Nat.le_refl _) _).alloc (by simp) _
  have c1 := hA.fine hl
  have c2 := hA.pos hl
  have c3 := hA.byte k (by omega)
  have hg : l.getD k 0 = l[k] := by rw [List.getD_eq_getElem?_getD, List.getElem?_eq_getElem (by omega)]; rfl
  rw [hg] at hu
  rw [hu] at c3
  clear hg hu
  have f1 := fun c => conv_row ((w.alloc (.cells (rowCells l k true) 79)).alloc (.cells (rowCells zeros 0 false) 79)) w.heap.size (k + 1) u c l k true hl hA (by omega)
  have f2 := fun W c => conv_row W w.heap.size k (k + 1 + room - k) c l k true hl
  have ht := refText_yes ⟨(piece l (k + 1) u).toArray⟩ room hr (by show (piece l (k + 1) u).toArray.size ≤ room; rw [List.size_toArray, piece_length l (k + 1) u (by omega)]; exact hshort)
  have hsm : ((⟨(textField ⟨(piece l (k + 1) u).toArray⟩ (room : Int)).toArray⟩ : ByteArray).toList == (⟨(piece l k (k + 1 + room - k)).toArray⟩ : ByteArray).toList) = same := by rw [ByteArray.toList_eq, ByteArray.toList_eq]; exact hsame
  clear hsame
  generalize (⟨(textField ⟨(piece l (k + 1) u).toArray⟩ (room : Int)).toArray⟩ : ByteArray) = S1 at hsm ht
  generalize (⟨(piece l k (k + 1 + room - k)).toArray⟩ : ByteArray) = S2 at hsm f2
  generalize (⟨(piece l (k + 1) u).toArray⟩ : ByteArray) = S at f1 ht ⊢
  have HT := Lib.hid ht; clear ht
  have HF2 := Lib.hid f2; clear f2
  have HL := Lib.hid hl; clear hl
  have z1 : (0 : Int) ≤ (k : Int) + 1 := by omega
  have z2 : (k : Int) + 1 ≤ (k : Int) + 1 + (u : Int) := by omega
  have z3 : (k : Int) + 1 + (u : Int) ≤ 256 := by omega
  have z4 : ((k : Int) + 1).toNat = k + 1 := by omega
  have z5 : ((k : Int) + 1 + (u : Int)).toNat = k + 1 + u := by omega
  have z6 : ¬ 256 = k + 1 := by omega
  have z7 : (k : Int) ≤ (k : Int) + 1 + (room : Int) := by omega
  have z8 : (k : Int) + 1 + (room : Int) ≤ 256 := by omega
  have z9 : ((k : Int) + 1 + (room : Int)).toNat = k + 1 + room := by omega
  have z10 : ¬ 256 = k := by omega
  have z11 : IntKind.i64.wrap ((k : Int) + 1) = (k : Int) + 1 := IntWalk.i64_in _ (by omega)
  have z12 : IntKind.i64.wrap ((k : Int) + 1 + (u : Int)) = (k : Int) + 1 + (u : Int) := IntWalk.i64_in _ (by omega)
  have z13 : IntKind.i64.wrap ((k : Int) + 1 + (room : Int)) = (k : Int) + 1 + (room : Int) := IntWalk.i64_in _ (by omega)
  have z14 : k + 1 + u - (k + 1) = u := by omega
  have z15 : (k : Int) + 1 + (room : Int) ≤ 252 := by omega
  have hlt := hA.lt
  have hlt2 := hR.lt
  cases same
  · go_enter Try.func36, Try.ntmps36
    go_wp2_with (first | (go_at_call 25; (with_reducible refine (HT.out _).mono ?_); rintro e W1 ⟨rfl, hbT⟩; have hA1 : IsRow W1 w.heap.size l k true := (hbT.block _ hlt).trans hA; have hR1 : IsRow W1 (w.heap.size + 1) zeros 0 false := (hbT.block _ hlt2).trans hR; have hb1 := hb.trans (hbT.mono (Nat.le_of_lt hlt)); clear hbT c1 c2 c3 f1; have d2 := hA1.pos HL.out; have f2 := fun c => HF2.out W1 c hA1 (by omega); have d3 := hA1.frozen 256; clear hA hR hb) | (refine wpList_store_row rfl 79 _ _ rfl _ _ rfl rfl _ _ hR1 hiz rfl (rowCells_one _ _ _) ?_))
    exact bodyPost_ret (results_tmp_row rfl _ _ _ _ _ _ _ rfl (setRow_heap _ _ _ _ _ _ hR1) Try.underlying79 rfl hiz) rfl ⟨rfl, hb1.trans ⟨rfl, rfl, rfl, by simp, fun k hk => setRow_other _ _ _ _ (by omega)⟩⟩
  · go_enter Try.func36, Try.ntmps36
    go_wp2_with (go_at_call 25; (with_reducible refine (HT.out _).mono ?_); rintro e W1 ⟨rfl, hbT⟩; have hA1 : IsRow W1 w.heap.size l k true := (hbT.block _ hlt).trans hA; have hR1 : IsRow W1 (w.heap.size + 1) zeros 0 false := (hbT.block _ hlt2).trans hR; have hb1 := hb.trans (hbT.mono (Nat.le_of_lt hlt)); clear hbT c1 c2 c3 f1; have d2 := hA1.pos HL.out; have f2 := fun c => HF2.out W1 c hA1 (by omega); have d3 := hA1.frozen 256; clear hA hR hb)
    have hA2 := hA1.setPos HL.out (k + 1 + room)
    have hR2 := hR1.other ⟨w.heap.size, 256, none⟩ (.int .i64 ((k + 1 + room : Nat) : Int)) (by simp)
    have hb2 := hb1.setCell (p := ⟨w.heap.size, 256, none⟩) (Nat.le_refl _) (.int .i64 ((k + 1 + room : Nat) : Int))
    rw [show ((k + 1 + room : Nat) : Int) = (k : Int) + 1 + (room : Int) from by omega] at hA2 hR2 hb2
    generalize W1.setCell ⟨w.heap.size, 256, none⟩ (.int .i64 ((k : Int) + 1 + (room : Int))) = V at hA2 hR2 hb2 ⊢
    refine wp_region_still_tail 3 (by kernel_rfl) (by kernel_rfl) ?_
    simp only [List.take_succ_cons, List.take_zero, List.drop_succ_cons, List.drop_zero]
    still_step
    refine wpStill_step (fun K hK => ?_)
    rw [if_pos (by rfl)]
    refine still_load_row 79 _ rfl w.heap.size rfl _ _ _ _ hA2 Try.underlying79 rfl hir ?_
    refine hK _ ?_
    clear hK K
    still_step
    refine wpStill_nil ?_
    change wpList _ _ _ _ _ V.drew
    replace hR2 : IsRow V.drew (w.heap.size + 1) zeros 0 false := hR2
    replace hb2 := hb2.drew
    generalize V.drew = V2 at hR2 hb2 ⊢
    refine wpList_store_row rfl 79 _ _ rfl _ _ rfl rfl _ _ hR2 hir hzz (rowCells_one _ _ _) ?_
    go_wp2_with fail
    exact bodyPost_ret (results_tmp_row rfl _ _ _ _ _ _ _ rfl (setRow_heap V2 _ _ _ _ _ hR2) Try.underlying79 rfl hir) rfl ⟨rfl, hb2.trans ⟨rfl, rfl, rfl, by simp, fun k hk => setRow_other V2 _ _ _ (by omega)⟩⟩

end Go.Proofs.Ytmbmgncajfamiaa.Fld
