/-
  The walks of the reference's Open and TakeNum.
-/
import Derived.Test.YtmbmgncajfamiaaFldRow
import Derived.Test.YtmbmgncajfamiaaFldBackMath
namespace Go.Proofs.Ytmbmgncajfamiaa.Fld
open Go.RowKit RowLaw Crc
set_option maxRecDepth 100000

theorem rowCells_setFine (l : List UInt8) (k : Nat) (b b' : Bool) (h : l.length = 256) : (rowCells l k b).setIfInBounds 257 (.bool b') = rowCells l k b' := by
  unfold rowCells
  rw [Array.setIfInBounds_append_right (by rw [cellsOf_size]; omega), cellsOf_size, h]; rfl
theorem fill_row (l : List UInt8) (hl : l.length = 256) : Array.foldl (fun cs x => cs.setIfInBounds x.snd x.fst) (rowCells zeros 0 false) (cellsOf l).zipIdx 0 256 = rowCells l 0 false := by
  have e : Array.foldl (fun (cs : Array Value) (x : Value × Nat) => cs.setIfInBounds x.snd x.fst) (rowCells zeros 0 false) (cellsOf l).zipIdx 0 256 = ((cellsOf l).toList.zipIdx 0).foldl (fun cs x => cs.setIfInBounds x.snd x.fst) (rowCells zeros 0 false) := by
    have := Array.foldl_toList (fun (cs : Array Value) (x : Value × Nat) => cs.setIfInBounds x.snd x.fst) (init := rowCells zeros 0 false) (xs := (cellsOf l).zipIdx)
    rw [Array.toList_zipIdx] at this
    rw [this]
    congr 1
    simp [cellsOf_size, hl]
  rw [e]
  apply Array.ext_getElem?
  intro i
  rw [foldl_set, rowCells_size, zeros_length]
  have hlen : (cellsOf l).toList.length = 256 := by simp [cellsOf, hl]
  rw [hlen]
  by_cases h : i < 256
  · rw [if_pos (by omega), rowCells_byte l 0 false i (by omega)]
    simp [cellsOf, h, hl]
  · rw [if_neg (by omega)]
    by_cases h6 : i = 256
    · subst h6
      rw [rowCells_at zeros 0 false zeros_length, rowCells_at l 0 false hl]
    · by_cases h7 : i = 257
      · subst h7
        rw [rowCells_fine zeros 0 false zeros_length, rowCells_fine l 0 false hl]
      · rw [Array.getElem?_eq_none (by rw [rowCells_size, zeros_length]; omega), Array.getElem?_eq_none (by rw [rowCells_size, hl]; omega)]

set_option maxRecDepth 100000 in
set_option maxHeartbeats 1600000 in
theorem refOpen_any (l : List UInt8) (hl : l.length = 256) (m : UInt8) (w : World) :
    Calls Try.prog 37 #[.agg (cellsOf l), .int .u8 (m.toNat : Int)] w fun e w' => e = .returned (.agg (rowV (openSt l m))) ∧ Below w.heap.size w w' := by
  have hzr := (zero_of_info infoRow).1
  have hi := sizeBlock l hl
  have hiz := sizeRow zeros 0 false zeros_length
  have hir := sizeRow l 1 true hl
  have hA : Holds ((w.alloc (.cells (cellsOf l) 29)).alloc (.cells (rowCells zeros 0 false) 79)) w.heap.size l := (Holds.new w l).alloc _
  have hR : IsRow ((w.alloc (.cells (cellsOf l) 29)).alloc (.cells (rowCells zeros 0 false) 79)) (w.heap.size + 1) zeros 0 false := heap_alloc2_new w _ _
  have hb : Below w.heap.size w ((w.alloc (.cells (cellsOf l) 29)).alloc (.cells (rowCells zeros 0 false) 79)) := ((Below.refl _ _).alloc (Nat.le_refl _) _).alloc (by simp) _
  have hsz : (cellsOf l).size = 256 := by rw [cellsOf_size, hl]
  have hoz : (rowCells zeros 0 false).size = 258 := by rw [rowCells_size, zeros_length]
  have hff : ((Array.foldl (fun (cs : Array Value) (x : Value × Nat) => cs.setIfInBounds x.snd x.fst) (rowCells zeros 0 false) (cellsOf l).zipIdx 0 256).setIfInBounds 256 (.int .i64 1)).setIfInBounds 257 (.bool true) = rowCells l 1 true := by
    rw [fill_row l hl]
    have e1 : (rowCells l 0 false).setIfInBounds 256 (.int .i64 1) = rowCells l 1 false := rowCells_setAt l 0 1 false hl
    rw [e1, rowCells_setFine l 1 false true hl]
  have hfz : (Array.foldl (fun (cs : Array Value) (x : Value × Nat) => cs.setIfInBounds x.snd x.fst) (rowCells zeros 0 false) (cellsOf l).zipIdx 0 256).size = 258 := by rw [fill_row l hl, rowCells_size, hl]
  have hgo := refGood_any l hl
  obtain ⟨g, hg⟩ : ∃ g, g = decide (sealB l = l) := ⟨_, rfl⟩
  rw [← hg] at hgo
  have HGO := Lib.hid hgo; clear hgo
  have hzz : (rowCells zeros 0 false).size = (rowCells l 1 true).size := by rw [rowCells_size, rowCells_size, hl, zeros_length]
  have HF := Lib.hid hff; clear hff
  cases g
  · have hO : openSt l m = none := if_neg (fun h => by have := h.2; simp [this] at hg)
    rw [hO]
    clear hg hO
    go_enter Try.func37, Try.ntmps37
    go_wp2_with (first | (refine wpList_load_row rfl 29 _ rfl w.heap.size rfl _ _ _ _ hA Try.underlying29 rfl hi ?_) | (go_at_call 61; (with_reducible refine (HGO.out _).mono ?_); rintro e W1 ⟨rfl, hb1⟩; replace hA := hA.below hb1 hA.lt; replace hR := hR.below hb1 hR.lt; replace hb := hb.trans (hb1.mono hb.size); have cb := hA.cell 0 (by omega)) | (refine wpList_store_row rfl 79 _ _ rfl _ _ rfl rfl _ _ hR hiz rfl (rowCells_one _ _ _) ?_))
    exact bodyPost_ret (results_cell_row rfl _ _ _ _ _ _ _ rfl (setRow_heap W1 _ _ _ _ _ hR) Try.underlying79 rfl hiz) rfl ⟨rfl, hb.trans ⟨rfl, rfl, rfl, by simp, fun k hk => setRow_other W1 _ _ _ (by omega)⟩⟩
  · have hgood : sealB l = l := of_decide_eq_true hg.symm
    have hg0 : l.getD 0 0 = l[0] := by rw [List.getD_eq_getElem?_getD, List.getElem?_eq_getElem (by omega)]; rfl
    clear hg
    by_cases hm : l[0] = m
    · have hO : openSt l m = some (l, 1) := if_pos ⟨hg0.trans hm, hgood⟩
      rw [hO]
      have hne : (((l[0].toNat : Int)) != (m.toNat : Int)) = false := by rw [hm]; simp
      clear hO hgood hg0 hm
      generalize hub : l[0].toNat = u at hne
      have HU := Lib.hid hub; clear hub
      go_enter Try.func37, Try.ntmps37
      go_wp2_with (first | (refine wpList_load_row rfl 29 _ rfl w.heap.size rfl _ _ _ _ hA Try.underlying29 rfl hi ?_) | (go_at_call 61; (with_reducible refine (HGO.out _).mono ?_); rintro e W1 ⟨rfl, hb1⟩; replace hA := hA.below hb1 hA.lt; replace hR := hR.below hb1 hR.lt; replace hb := hb.trans (hb1.mono hb.size); have cb := hA.cell 0 (by omega); rw [HU.out] at cb) | (rw [HF.out]; refine wpList_store_row rfl 79 _ _ rfl _ _ rfl rfl _ _ hR hir hzz (rowCells_one _ _ _) ?_))
      exact bodyPost_ret (results_cell_row rfl _ _ _ _ _ _ _ rfl (setRow_heap W1 _ _ _ _ _ hR) Try.underlying79 rfl hir) rfl ⟨rfl, hb.trans ⟨rfl, rfl, rfl, by simp, fun k hk => setRow_other W1 _ _ _ (by omega)⟩⟩
    · have hO : openSt l m = none := if_neg (fun h => hm (hg0.symm.trans h.1))
      rw [hO]
      have hne : (((l[0].toNat : Int)) != (m.toNat : Int)) = true := by
        simp only [bne_iff_ne, ne_eq]
        exact fun h => hm (UInt8.toNat_inj.1 (by exact_mod_cast h))
      clear hO hgood hg0 hm
      generalize hub : l[0].toNat = u at hne
      have HU := Lib.hid hub; clear hub
      go_enter Try.func37, Try.ntmps37
      go_wp2_with (first | (refine wpList_load_row rfl 29 _ rfl w.heap.size rfl _ _ _ _ hA Try.underlying29 rfl hi ?_) | (go_at_call 61; (with_reducible refine (HGO.out _).mono ?_); rintro e W1 ⟨rfl, hb1⟩; replace hA := hA.below hb1 hA.lt; replace hR := hR.below hb1 hR.lt; replace hb := hb.trans (hb1.mono hb.size); have cb := hA.cell 0 (by omega); rw [HU.out] at cb) | (refine wpList_store_row rfl 79 _ _ rfl _ _ rfl rfl _ _ hR hiz rfl (rowCells_one _ _ _) ?_))
      exact bodyPost_ret (results_cell_row rfl _ _ _ _ _ _ _ rfl (setRow_heap W1 _ _ _ _ _ hR) Try.underlying79 rfl hiz) rfl ⟨rfl, hb.trans ⟨rfl, rfl, rfl, by simp, fun k hk => setRow_other W1 _ _ _ (by omega)⟩⟩

/-! TakeNum -/
theorem results_tmp_row {P : Program} {fn : Func} {p u : Tmp} {ty : TypeId} (h : fn.results = #[.tmp u, .cell p ty]) (tmps : Array Value) (w : World) (g : Nat) (t : TypeId) (cs : Array Value) (fr : Nat × Nat) (d : TypeDesc)
    (hp : tmps.getD p undef = .pointer (some ⟨g, 0, none⟩)) (hg : w.heap[g]? = some (.cells cs t fr))
    (hu : P.underlying ty = some d) (hd : (match d with | .struct _ | .array _ _ => true | _ => false) = true) (hi : (P.info? ty).map (·.size) = some cs.size) :
    (results fn tmps).run P w = .ok (.tuple #[tmps.getD u undef, .agg cs]) w := by
  have hp' : tmps[p]?.getD undef = .pointer (some ⟨g, 0, none⟩) := by simpa using hp
  simp [results, h, hp', asAddr, run_loadVar_row w g t ty cs fr d hg hu hd hi]
/-- a load of a whole struct as a step of a still walk -/
theorem still_load_row {P : Program} {o : Oper} {a : Act} {w : World} {K : Act → Prop} (ty : TypeId) (x : Operand) (ho : o.op = .load ty x) (g : Nat) (hx : a.eval x = .pointer (some ⟨g, 0, none⟩))
    (t : TypeId) (cs : Array Value) (fr : Nat × Nat) (d : TypeDesc) (hg : w.heap[g]? = some (.cells cs t fr)) (hu : P.underlying ty = some d) (hd : (match d with | .struct _ | .array _ _ => true | _ => false) = true) (hi : (P.info? ty).map (·.size) = some cs.size)
    (hk : K (a.put o.dst (.agg cs))) : o.still P a w K := by
  have hrun : (execOp a.eval o).run P w = .ok (.value (.agg cs)) w := by
    unfold execOp
    simp only [ho, hx, Instr.loadAt, Instr.sureAddr, Sem.run_bind, Sem.run_pure, Result.andThen_ok, run_loadVar_row w g t ty cs fr d hg hu hd hi]
  unfold Oper.still
  rw [hrun, Oper.stillUpon_value]
  exact hk

theorem Width_as (width : Int) (b : Bool) (hb : widthB width = b) (w : World) : Calls Try.prog 62 #[.int .i64 width] w fun e w' => e = .returned (.bool b) ∧ w = w' := by
  subst hb; exact Width_any width w

set_option maxRecDepth 100000 in
set_option maxHeartbeats 1600000 in
theorem refTakeNum_no (l : List UInt8) (k : Nat) (fine : Bool) (hl : l.length = 256) (hk : k ≤ 252) (width : Int) (hno : fine = false ∨ widthB width = false ∨ 252 < k + numSz width) (w : World) :
    Calls Try.prog 38 #[.agg (rowCells l k fine), .int .i64 width] w fun e w' => e = .returned (.tuple #[.int .u64 0, .agg (rowV none)]) ∧ Below w.heap.size w w' := by
  have hzr := (zero_of_info infoRow).1
  have hiz := sizeRow zeros 0 false zeros_length
  have hA : IsRow ((w.alloc (.cells (rowCells l k fine) 79)).alloc (.cells (rowCells zeros 0 false) 79)) w.heap.size l k fine := (IsRow.new w l k fine).alloc _
  have hR : IsRow ((w.alloc (.cells (rowCells l k fine) 79)).alloc (.cells (rowCells zeros 0 false) 79)) (w.heap.size + 1) zeros 0 false := heap_alloc2_new w _ _
  have hb : Below w.heap.size w ((w.alloc (.cells (rowCells l k fine) 79)).alloc (.cells (rowCells zeros 0 false) 79)) := ((Below.refl _ _).alloc (Nat.le_refl _) _).alloc (by simp) _
  have c1 := hA.fine hl
  have c2 := hA.pos hl
  cases fine
  · go_enter Try.func38, Try.ntmps38
    go_wp2_with (refine wpList_store_row rfl 79 _ _ rfl _ _ rfl rfl _ _ hR hiz rfl (rowCells_one _ _ _) ?_)
    exact bodyPost_ret (results_tmp_row rfl _ _ _ _ _ _ _ rfl (setRow_heap _ _ _ _ _ _ hR) Try.underlying79 rfl hiz) rfl ⟨rfl, hb.trans ⟨rfl, rfl, rfl, by simp, fun k hk => setRow_other _ _ _ _ (by omega)⟩⟩
  · cases hwd : widthB width
    · go_enter Try.func38, Try.ntmps38
      go_wp2_with (first | (go_at_call 62; (with_reducible refine (Width_as width false hwd _).mono ?_); rintro e W1 ⟨rfl, rfl⟩) | (refine wpList_store_row rfl 79 _ _ rfl _ _ rfl rfl _ _ hR hiz rfl (rowCells_one _ _ _) ?_))
      exact bodyPost_ret (results_tmp_row rfl _ _ _ _ _ _ _ rfl (setRow_heap _ _ _ _ _ _ hR) Try.underlying79 rfl hiz) rfl ⟨rfl, hb.trans ⟨rfl, rfl, rfl, by simp, fun k hk => setRow_other _ _ _ _ (by omega)⟩⟩
    · have hwv := widthB_val hwd
      have hbig : (252 : Int) < (k : Int) + width := by rcases hno with h | h | h <;> first | (simp at h; done) | (rw [hwd] at h; cases h) | omega
      have hws : width ≤ 8 := by have := numSz_le width; omega
      have hw0 : 0 ≤ width := by omega
      clear hno hwv
      go_enter Try.func38, Try.ntmps38
      go_wp2_with (first | (go_at_call 62; (with_reducible refine (Width_as width true hwd _).mono ?_); rintro e W1 ⟨rfl, rfl⟩) | (refine wpList_store_row rfl 79 _ _ rfl _ _ rfl rfl _ _ hR hiz rfl (rowCells_one _ _ _) ?_))
      exact bodyPost_ret (results_tmp_row rfl _ _ _ _ _ _ _ rfl (setRow_heap _ _ _ _ _ _ hR) Try.underlying79 rfl hiz) rfl ⟨rfl, hb.trans ⟨rfl, rfl, rfl, by simp, fun k hk => setRow_other _ _ _ _ (by omega)⟩⟩

end Go.Proofs.Ytmbmgncajfamiaa.Fld
