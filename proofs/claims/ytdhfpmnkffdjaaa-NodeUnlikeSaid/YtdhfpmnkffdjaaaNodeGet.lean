/-
  The walk of package node's Get.
-/
import Derived.Test.YtdhfpmnkffdjaaaNodeRefPut
namespace Go.Proofs.Ytdhfpmnkffdjaaa.Node
open Go.RowKit RowLaw Crc Fld

/-- the reader behind k pointers; the level; the k-th pointer; the pointers so far -/
def stK (ok : Bool) (l : List UInt8) (k : Nat) : Option (List UInt8 × Nat) := if ok = true then some (l, 2 + 4 * k) else none
def lvK (ok : Bool) (l : List UInt8) : Nat := if ok = true then lvOf l else 0
def valK (ok : Bool) (l : List UInt8) (k : Nat) : Nat := if ok = true then leNat (piece l (2 + 4 * k) 4) else 0
def psK (ok : Bool) (l : List UInt8) (k : Nat) : List Nat := if ok = true then psTo l k ++ List.replicate (32 - k) 0 else zeros32
theorem lvK_lt (ok : Bool) (l : List UInt8) (hl : l.length = 256) : lvK ok l < 256 := by
  unfold lvK lvOf
  split
  · have := leNat_lt (piece l 1 1)
    rw [piece_length l 1 1 (by omega)] at this
    omega
  · omega
theorem valK_lt (ok : Bool) (l : List UInt8) (hl : l.length = 256) (k : Nat) (hk : k < 32) : valK ok l k < 4294967296 := by
  unfold valK
  split
  · have := leNat_lt (piece l (2 + 4 * k) 4)
    rw [piece_length l _ 4 (by omega)] at this
    omega
  · omega
theorem psK_length (ok : Bool) (l : List UInt8) (k : Nat) (hk : k ≤ 32) : (psK ok l k).length = 32 := by
  unfold psK
  split
  · rw [List.length_append, psTo_length, List.length_replicate]; omega
  · exact zeros32_length
theorem psK_zero (ok : Bool) (l : List UInt8) : psK ok l 0 = zeros32 := by
  unfold psK
  split
  · rfl
  · rfl
theorem psK_set (ok : Bool) (l : List UInt8) (k : Nat) (hk : k < 32) : (psK ok l k).set k (valK ok l k) = psK ok l (k + 1) := by
  unfold psK valK
  split
  · have e : psTo l (k + 1) = psTo l k ++ [leNat (piece l (2 + 4 * k) 4)] := by simp [psTo, List.range_succ]
    rw [List.set_append_right _ _ (by rw [psTo_length]; omega), psTo_length, Nat.sub_self, show 32 - k = (32 - (k + 1)) + 1 from by omega, List.replicate_succ, List.set_cons_zero, e, List.append_assoc]
    rfl
  · apply List.ext_getElem
    · simp
    · intro j h1 h2
      rw [List.getElem_set]
      split
      · exact (List.getElem_replicate (n := 32) (a := 0) (by rw [List.length_replicate]; rw [zeros32_length] at h2; exact h2)).symm
      · rfl
theorem psK_all (l : List UInt8) : psK true l 32 = psOf l := by
  unfold psK psOf
  rw [if_pos rfl]
  simp
theorem takeLv (ok : Bool) (l : List UInt8) : takeNum (if ok = true then some (l, 1) else none) 1 = (lvK ok l, stK ok l 0) := by
  cases ok <;> rfl
theorem takeK (ok : Bool) (l : List UInt8) (k : Nat) (hk : k < 32) : takeNum (stK ok l k) 4 = (valK ok l k, stK ok l (k + 1)) := by
  unfold stK valK
  cases ok with
  | false => rfl
  | true =>
    simp only [if_true]
    show (if fitB (2 + 4 * k) 4 = true then (leNat (piece l (2 + 4 * k) 4), some (l, 2 + 4 * k + 4)) else (0, none)) = _
    rw [show fitB (2 + 4 * k) 4 = true from decide_eq_true (by omega), if_pos rfl]
    rfl
def endsB (ok : Bool) (l : List UInt8) : Bool := ok && blankB (piece l 130 122)
theorem endK (ok : Bool) (l : List UInt8) : endE (stK ok l 32) = if endsB ok l = true then 0 else 250 := by
  unfold stK endE endsB
  cases ok with
  | false => rfl
  | true => rfl
theorem nodeCells_setLv (lv n : Nat) (ps : List Nat) : (nodeCells lv ps).setIfInBounds 0 (.int .u8 (n : Int)) = nodeCells n ps := by
  unfold nodeCells
  rw [List.setIfInBounds_toArray, List.set_cons_zero]

/-- what Get has in memory: the result r, the node n, the reader q -/
structure GetBox (w : World) (r n q lv : Nat) (ps : List Nat) (st : Option (List UInt8 × Nat)) (W : World) : Prop where
  node : IsNode W n lv ps
  res : IsNode W r 0 zeros32
  rd : RIs W q st
  bel : Below w.heap.size w W
  ne : n ≠ q ∧ r ≠ q ∧ n ≠ r ∧ w.heap.size ≤ q ∧ w.heap.size ≤ n ∧ w.heap.size ≤ r
section
variable {w W W' : World} {r n q lv : Nat} {ps : List Nat} {st st' : Option (List UInt8 × Nat)}
theorem GetBox.step (h : GetBox w r n q lv ps st W) (hw : RIs W' q st') (ha : Apart q W W') : GetBox w r n q lv ps st' W' :=
  ⟨h.node.apart ha h.ne.1, h.res.apart ha h.ne.2.1, hw, h.bel.trans (ha.below h.ne.2.2.2.1 h.bel.size), h.ne⟩
theorem GetBox.below (h : GetBox w r n q lv ps st W) (hb : Below W.heap.size W W') : GetBox w r n q lv ps st W' :=
  ⟨h.node.below hb h.node.lt, h.res.below hb h.res.lt, h.rd.below hb, h.bel.trans (hb.mono h.bel.size), h.ne⟩
theorem GetBox.num (h : GetBox w r n q lv ps st W) (width : Int) {x : Nat} (hf : takeNum st width = (x, st')) :
    Calls Try.prog 28 #[.pointer (some ⟨q, 0, none⟩), .int .i64 width] W fun e W' => e = .returned (.int .u64 (x : Int)) ∧ GetBox w r n q lv ps st' W' := by
  have := RNum_any st q width W h.rd
  rw [hf] at this
  exact this.mono fun _ _ ⟨he, h1, h2⟩ => ⟨he, h.step h1 h2⟩
theorem GetBox.setPtr (h : GetBox w r n q lv ps st W) (j x : Nat) : GetBox w r n q lv (ps.set j x) st (W.setCell ⟨n, 1 + j, none⟩ (.int .u32 (x : Int))) :=
  ⟨h.node.setPtr j x, h.res.other _ _ (fun e => h.ne.2.2.1 e.symm), h.rd.of_block (heap_setCell_other W _ q _ (fun e => h.ne.1 e.symm)), h.bel.setCell h.ne.2.2.2.2.1 _, h.ne⟩
theorem GetBox.end_ (h : GetBox w r n q lv ps st W) {e0 : Int} (he : endE st = e0) :
    Calls Try.prog 29 #[.pointer (some ⟨q, 0, none⟩)] W fun e W' => e = .returned (.int .i64 e0) ∧ GetBox w r n q lv ps st W' := by
  subst he
  exact (End_any st q W h.rd).mono fun _ _ ⟨he, hb⟩ => ⟨he, h.below hb⟩
end

/-- what Get answers -/
def GetAns (ok : Bool) (l : List UInt8) (e : Ending) : Prop :=
  e = .returned (.tuple #[.agg (if (endsB ok l && okN (lvK ok l) (psK ok l 32)) = true then nodeCells (lvK ok l) (psK ok l 32) else nodeCells 0 zeros32), .int .i64 (if (endsB ok l && okN (lvK ok l) (psK ok l 32)) = true then 0 else 250)])

set_option maxRecDepth 100000 in
set_option maxHeartbeats 3200000 in
theorem Get_core (l : List UInt8) (hl : l.length = 256) (ok : Bool) (hok : openSt l 78 = if ok = true then some (l, 1) else none) (w : World) :
    Calls Try.prog 13 #[.agg (cellsOf l)] w fun e w' => GetAns ok l e ∧ Below w.heap.size w w' := by
  have hzv := (zero_of_info infoNode).1
  have hi := sizeBlock l hl
  have hH : Holds ((w.alloc (.cells (cellsOf l) 27)).alloc (.cells (nodeCells 0 zeros32) 25)) w.heap.size l := (Holds.new w l).alloc _
  have hR : IsNode ((w.alloc (.cells (cellsOf l) 27)).alloc (.cells (nodeCells 0 zeros32) 25)) (w.heap.size + 1) 0 zeros32 := heap_alloc2_new w _ _
  have hb : Below w.heap.size w ((w.alloc (.cells (cellsOf l) 27)).alloc (.cells (nodeCells 0 zeros32) 25)) := ((Below.refl _ _).alloc (Nat.le_refl _) _).alloc (by simp) _
  have hopen := fun W => Open_any l hl 78 W
  rw [hok] at hopen
  have hlv := lvK_lt ok l hl
  have htl := takeLv ok l
  have htk := takeK ok l
  have hvk := valK_lt ok l hl
  have hend := endK ok l
  have hset := psK_set ok l
  have hplen := psK_length ok l
  have HO := Lib.hid hopen; clear hopen hok
  have HTL := Lib.hid htl; clear htl
  have HTK := Lib.hid htk; clear htk
  have HVK := Lib.hid hvk; clear hvk
  have HE := Lib.hid hend; clear hend
  have HS := Lib.hid hset; clear hset
  have HPL := Lib.hid hplen; clear hplen
  have HL := Lib.hid hl; clear hl
  have hsz1 : (nodeCells 0 zeros32).size = (nodeCells (lvK ok l) zeros32).size := by rw [nodeCells_size, nodeCells_size]
  have hin1 := sizeNode (lvK ok l) zeros32 zeros32_length
  have hin0 := sizeNode 0 zeros32 zeros32_length
  obtain ⟨lv, hlvd⟩ : ∃ lv, lv = lvK ok l := ⟨_, rfl⟩
  unfold GetAns
  rw [← hlvd] at hlv HTL hsz1 hin1 ⊢
  have hset0 := nodeCells_setLv 0 lv zeros32
  have HLV := Lib.hid hlvd; clear hlvd
  obtain ⟨b, hbd⟩ : ∃ b, b = endsB ok l := ⟨_, rfl⟩
  obtain ⟨v, hvd⟩ : ∃ v, v = okN lv (psK ok l 32) := ⟨_, rfl⟩
  rw [← hbd] at HE ⊢
  rw [← hvd]
  have HBD := Lib.hid hbd; clear hbd
  have HVD := Lib.hid hvd; clear hvd
  have z1 : IntKind.u8.wrap (lv : Int) = (lv : Int) := IntWalk.u8_in _ (by omega)
  go_enter Try.func13, Try.ntmps13
  go_wp2_with (refine wpList_load_row rfl 27 _ rfl _ rfl _ _ _ _ hH Try.underlying27 rfl hi ?_)
  refine (HO.out _).mono ?_
  clear HO hH hi
  rintro e W ⟨q, hq, rfl, hrd, hbx⟩
  have hqw : w.heap.size + 2 ≤ q := by simpa using hq
  clear hq
  have hr := hR.below hbx hR.lt
  have hbw := hb.trans (hbx.mono hb.size)
  clear hR hb hbx
  go_wp2_with fail
  have hnum := RNum_any (if ok = true then some (l, 1) else none) q 1 W hrd
  rw [HTL.out] at hnum
  refine hnum.mono ?_
  clear hnum
  rintro e W1 ⟨rfl, hrd1, ha1⟩
  dsimp only at hrd1
  clear hrd
  have hr1 := hr.apart ha1 (by omega)
  have hb1 := hbw.trans (ha1.below (by omega) hbw.size)
  clear hr hbw ha1
  have hq1 := hrd1.lt
  have hN : IsNode (W1.alloc (.cells (nodeCells lv zeros32) 25)) W1.heap.size lv zeros32 := IsNode.new W1 lv zeros32
  have hbox : GetBox w (w.heap.size + 1) W1.heap.size q lv (psK ok l 0) (stK ok l 0) (W1.alloc (.cells (nodeCells lv zeros32) 25)) := by
    have h0 := hr1.lt
    have h1 := hb1.size
    rw [psK_zero]
    exact ⟨hN, hr1.alloc _, hrd1.of_block (Below.heap_alloc W1 _ q hq1), hb1.alloc h1 _, by omega⟩
  clear hN hr1 hb1 hrd1 hq1 hqw
  go_wp2_with (refine wpList_store_new rfl 25 _ _ rfl (nodeCells lv zeros32) _ _ rfl rfl hin1 hsz1 (nodeCells_one _ _) ?_; generalize W1.heap.size = n at hbox ⊢; generalize W1.alloc (.cells (nodeCells lv zeros32) 25) = W2 at hbox ⊢)
  go_loopw [13] (fun i wr => ∃ k : Nat, k ≤ 32 ∧ i = .int .i64 k ∧ GetBox w (w.heap.size + 1) n q lv (psK ok l k) (stK ok l k) wr) (fun i _ => 32 - (intOf i).toNat)
  case atStart => exact ⟨0, by omega, rfl, hbox⟩
  case round =>
    obtain ⟨k, hk, rfl, hbk⟩ := hrel
    clear hbox
    by_cases hlt : k < 32
    · have hx := HVK.out k hlt
      have htk := HTK.out k hlt
      have hst := HS.out k hlt
      generalize valK ok l k = x at hx htk hst
      have HT := Lib.hid htk; clear htk
      have HST := Lib.hid hst; clear hst
      have z2 : IntKind.u32.wrap (x : Int) = (x : Int) := IntWalk.u32_in _ (by omega)
      go_wp2_with fail
      refine (hbk.num 4 HT.out).mono ?_
      clear hbk
      rintro e W3 ⟨rfl, hbk⟩
      have hpl := HPL.out k (by omega)
      obtain ⟨v0, hc⟩ : ∃ v0, W3.cell? ⟨n, 1 + k, none⟩ = some v0 := ⟨_, hbk.node.ptr k (by omega)⟩
      have hf := hbk.node.frozen (1 + k)
      have hn := hbk.setPtr k x
      rw [HST.out] at hn
      clear hbk hpl
      go_wp2_with fail
      go_roundw
      case rel => exact ⟨k + 1, by omega, by go_num, hn⟩
      case measure => simp [intOf]; omega
    · obtain rfl : k = 32 := by omega
      have hend := HE.out
      have hpl := HPL.out 32 (by omega)
      have hin := sizeNode lv (psK ok l 32) hpl
      have hvv := fun W hW => valid_any n lv (psK ok l 32) hpl W hW
      clear hpl
      simp only [← HVD.out] at hvv
      clear HVD HBD HE
      have HV := Lib.hid hvv; clear hvv
      have hsz2 : (nodeCells 0 zeros32).size = (nodeCells lv (psK ok l 32)).size := by rw [nodeCells_size, nodeCells_size, zeros32_length, HPL.out 32 (by omega)]
      cases b with
      | false =>
        have HE2 : Hid (endE (stK ok l 32) = 250) := Lib.hid (by rw [hend]; rfl)
        clear hend
        go_wp2_with fail
        refine (hbk.end_ HE2.out).mono ?_
        clear hbk
        rintro e W3 ⟨rfl, hbk⟩
        have hR := hbk.res
        have hb := hbk.bel
        clear hbk
        go_wp2_with (refine wpList_store_row rfl 25 _ _ rfl _ _ rfl rfl _ _ hR hin0 rfl (nodeCells_one _ _) ?_)
        exact bodyPost_ret (results_row_tmp rfl _ _ _ _ _ _ _ rfl (setRow_heap W3 _ _ _ _ _ hR) Try.underlying25 rfl hin0) rfl ⟨rfl, below_row hb (by omega)⟩
      | true =>
        have HE2 : Hid (endE (stK ok l 32) = 0) := Lib.hid (by rw [hend]; rfl)
        clear hend
        go_wp2_with fail
        refine (hbk.end_ HE2.out).mono ?_
        clear hbk
        rintro e W3 ⟨rfl, hbk⟩
        go_wp2_with fail
        refine (HV.out W3 hbk.node).mono ?_
        rintro e W4 ⟨rfl, rfl⟩
        have hR := hbk.res
        have hNn := hbk.node
        have hb := hbk.bel
        clear hbk
        cases v with
        | false =>
          go_wp2_with (refine wpList_store_row rfl 25 _ _ rfl _ _ rfl rfl _ _ hR hin0 rfl (nodeCells_one _ _) ?_)
          exact bodyPost_ret (results_row_tmp rfl _ _ _ _ _ _ _ rfl (setRow_heap W4 _ _ _ _ _ hR) Try.underlying25 rfl hin0) rfl ⟨rfl, below_row hb (by omega)⟩
        | true =>
          go_wp2_with (first
            | (refine wpList_load_row rfl 25 _ rfl _ rfl _ _ _ _ hNn Try.underlying25 rfl hin ?_)
            | (refine wpList_store_row rfl 25 _ _ rfl _ _ rfl rfl _ _ hR hin hsz2 (nodeCells_one _ _) ?_))
          exact bodyPost_ret (results_row_tmp rfl _ _ _ _ _ _ _ rfl (setRow_heap W4 _ _ _ _ _ hR) Try.underlying25 rfl hin) rfl ⟨rfl, below_row hb (by omega)⟩

theorem Get_any (l : List UInt8) (hl : l.length = 256) (w : World) :
    Calls Try.prog 13 #[.agg (cellsOf l)] w fun e w' => e = .returned (.tuple #[.agg (nodeCells (getLv l) (getPs l)), .int .i64 (getE l)]) ∧ Below w.heap.size w w' := by
  have hiN := isN_eq l hl
  rcases openSt_cases l 78 with h | h
  · refine (Get_core l hl true (by rw [h]; rfl) w).mono fun e w' ⟨he, hb⟩ => ⟨?_, hb⟩
    have e1 : (endsB true l && okN (lvK true l) (psK true l 32)) = isN l := by
      rw [hiN, h, psK_all]
      unfold endsB lvK
      simp [Bool.and_comm]
    unfold GetAns at he
    rw [e1, psK_all, show lvK true l = lvOf l from rfl] at he
    rw [he]
    unfold getLv getPs getE
    cases isN l <;> rfl
  · refine (Get_core l hl false (by rw [h]; rfl) w).mono fun e w' ⟨he, hb⟩ => ⟨?_, hb⟩
    have e1 : isN l = false := by rw [hiN, h]; simp
    unfold GetAns at he
    rw [he]
    unfold getLv getPs getE
    rw [e1]
    rfl

end Go.Proofs.Ytdhfpmnkffdjaaa.Node
