/-
  The walk of the field laws' own head: the blocks that the document fixes.
-/
import Derived.Test.YtfefpdaohclgfaaFldOpen
import Derived.Deep.RegionHeld
namespace Go.Proofs.Ytfefpdaohclgfaa.Fld
open Go.RowKit RowLaw Crc

/-- A load of a whole array yields in every world that holds it. -/
theorem yieldsIf_load_row {P : Program} {ops : Array Oper} {S : World → Prop} {op : Oper} {a : Act} (hw : Region.wanted op (yielded ops a.tmps) = true) (ty : TypeId) (x : Operand) (ho : op.op = .load ty x)
    (g : Nat) (hx : a.eval x = .pointer (some ⟨g, 0, none⟩)) (t : TypeId) (cs : Array Value) (fr : Nat × Nat) (d : TypeDesc) (hS : ∀ w, S w → w.heap[g]? = some (.cells cs t fr))
    (hu : P.underlying ty = some d) (hd : (match d with | .struct _ | .array _ _ => true | _ => false) = true) (hi : (P.info? ty).map (·.size) = some cs.size) : YieldsIf P ops S op (.agg cs) a :=
  .inl ⟨hw, fun w hw' => by
    unfold execOp
    simp only [ho, hx, Instr.loadAt, Instr.sureAddr, Sem.run_bind, Sem.run_pure, Result.andThen_ok, run_loadVar_row w g t ty cs fr d (hS w hw') hu hd hi]⟩

def hB : List UInt8 := fdone [44, 1, 5] 7
theorem hB_len : hB.length = 256 := sealB_length (by rw [List.length_set, fblk_length _ (by decide)])
theorem hB_open7 : openSt hB 7 = some (hB, 1) := by decide +kernel
theorem hB_open8 : openSt hB 8 = none := by decide +kernel
theorem hB_num2 : takeNum (some (hB, 1)) 2 = (300, some (hB, 3)) := by decide +kernel
theorem hB_num1 : takeNum (some (hB, 3)) 1 = (5, some (hB, 4)) := by decide +kernel
theorem hB_num3 : takeNum (some (hB, 1)) 3 = (0, none) := by decide +kernel
theorem hB_end4 : endE (some (hB, 4)) = 0 := by decide +kernel
theorem hB_end3 : endE (some (hB, 3)) = 250 := by decide +kernel
theorem hB_at0 : hB.getD 0 0 = 7 ∧ hB.getD 1 0 = 44 ∧ hB.getD 2 0 = 1 ∧ hB.getD 3 0 = 5 := by decide +kernel

theorem hB_cells (w : World) (b : Nat) (h : Holds w b hB) : w.cell? ⟨b, 0, none⟩ = some (.int .u8 7) ∧ w.cell? ⟨b, 1, none⟩ = some (.int .u8 44) ∧ w.cell? ⟨b, 2, none⟩ = some (.int .u8 1) ∧ w.cell? ⟨b, 3, none⟩ = some (.int .u8 5) := by
  have hl := hB_len
  have g : ∀ j (hj : j < hB.length), hB[j] = hB.getD j 0 := fun j hj => by rw [List.getD_eq_getElem?_getD, List.getElem?_eq_getElem hj]; rfl
  obtain ⟨e0, e1, e2, e3⟩ := hB_at0
  refine ⟨?_, ?_, ?_, ?_⟩
  · rw [h.cell 0 (by omega), g, e0]; rfl
  · rw [h.cell 1 (by omega), g, e1]; rfl
  · rw [h.cell 2 (by omega), g, e2]; rfl
  · rw [h.cell 3 (by omega), g, e3]; rfl
theorem W_300 (p : Nat) (w : World) (hw : WIs w p (some [])) : Calls Try.prog 37 #[.pointer (some ⟨p, 0, none⟩), .int .u64 300, .int .i64 2] w fun e w' => e = .returned (.tuple #[]) ∧ WIs w' p (some [44, 1]) ∧ Apart p w w' :=
  (show app (some []) (numBytes 300 2) = some [44, 1] from by decide) ▸ Num_any (some []) p 300 2 w hw
theorem W_5 (p : Nat) (w : World) (hw : WIs w p (some [44, 1])) : Calls Try.prog 37 #[.pointer (some ⟨p, 0, none⟩), .int .u64 5, .int .i64 1] w fun e w' => e = .returned (.tuple #[]) ∧ WIs w' p (some [44, 1, 5]) ∧ Apart p w w' :=
  (show app (some [44, 1]) (numBytes 5 1) = some [44, 1, 5] from by decide) ▸ Num_any (some [44, 1]) p 5 1 w hw
theorem W_abc (p : Nat) (w : World) (hw : WIs w p (some [44, 1, 5])) : Calls Try.prog 38 #[.pointer (some ⟨p, 0, none⟩), .string ⟨#[97, 98, 99]⟩, .int .i64 2] w fun e w' => e = .returned (.tuple #[]) ∧ WIs w' p none ∧ Apart p w w' :=
  (show app (some [44, 1, 5]) (textBytes ⟨#[97, 98, 99]⟩ 2) = none from by decide) ▸ Text_any (some [44, 1, 5]) p ⟨#[97, 98, 99]⟩ 2 w hw
theorem W_done (p : Nat) (w : World) (hw : WIs w p (some [44, 1, 5])) : Calls Try.prog 25 #[.pointer (some ⟨p, 0, none⟩), .int .u8 7] w fun e w' => e = .returned (.tuple #[.agg (cellsOf hB), .int .i64 0]) ∧ Below w.heap.size w w' :=
  Done_some p [44, 1, 5] 7 w hw
theorem W_fail (p : Nat) (w : World) (hw : WIs w p none) : Calls Try.prog 25 #[.pointer (some ⟨p, 0, none⟩), .int .u8 7] w fun e w' => e = .returned (.tuple #[.agg (cellsOf zeros), .int .i64 3]) ∧ Below w.heap.size w w' :=
  Done_none p 7 w hw
theorem R_open7 (w : World) : Calls Try.prog 27 #[.agg (cellsOf hB), .int .u8 7] w fun e w' => NewReader w (some (hB, 1)) e w' := hB_open7 ▸ Open_any hB hB_len 7 w
theorem R_open8 (w : World) : Calls Try.prog 27 #[.agg (cellsOf hB), .int .u8 8] w fun e w' => NewReader w none e w' := hB_open8 ▸ Open_any hB hB_len 8 w
theorem R_2 (p : Nat) (w : World) (hw : RIs w p (some (hB, 1))) : Calls Try.prog 32 #[.pointer (some ⟨p, 0, none⟩), .int .i64 2] w fun e w' => e = .returned (.int .u64 300) ∧ RIs w' p (some (hB, 3)) ∧ Apart p w w' := by
  have := RNum_any (some (hB, 1)) p 2 w hw
  rw [hB_num2] at this
  exact this
theorem R_1 (p : Nat) (w : World) (hw : RIs w p (some (hB, 3))) : Calls Try.prog 32 #[.pointer (some ⟨p, 0, none⟩), .int .i64 1] w fun e w' => e = .returned (.int .u64 5) ∧ RIs w' p (some (hB, 4)) ∧ Apart p w w' := by
  have := RNum_any (some (hB, 3)) p 1 w hw
  rw [hB_num1] at this
  exact this
theorem R_3 (p : Nat) (w : World) (hw : RIs w p (some (hB, 1))) : Calls Try.prog 32 #[.pointer (some ⟨p, 0, none⟩), .int .i64 3] w fun e w' => e = .returned (.int .u64 0) ∧ RIs w' p none ∧ Apart p w w' := by
  have := RNum_any (some (hB, 1)) p 3 w hw
  rw [hB_num3] at this
  exact this
theorem R_end4 (p : Nat) (w : World) (hw : RIs w p (some (hB, 4))) : Calls Try.prog 34 #[.pointer (some ⟨p, 0, none⟩)] w fun e w' => e = .returned (.int .i64 0) ∧ Below w.heap.size w w' := hB_end4 ▸ End_any (some (hB, 4)) p w hw
theorem R_end3 (p : Nat) (w : World) (hw : RIs w p (some (hB, 3))) : Calls Try.prog 34 #[.pointer (some ⟨p, 0, none⟩)] w fun e w' => e = .returned (.int .i64 250) ∧ Below w.heap.size w w' := hB_end3 ▸ End_any (some (hB, 3)) p w hw
theorem R_none (p : Nat) (w : World) (hw : RIs w p none) : Calls Try.prog 33 #[.pointer (some ⟨p, 0, none⟩)] w fun e w' => e = .returned (.bool false) ∧ w = w' := Fine_any none p w hw

set_option maxRecDepth 100000 in
set_option maxHeartbeats 1600000 in
theorem head_any (w : World) : Calls Try.prog 22 #[] w fun e w' => e = .returned (.bool true) ∧ Below w.heap.size w w' := by
  have hzv := (zero_of_info infoBlock).1
  have hi := sizeBlock hB hB_len
  have hz0 : (cellsOf zeros).size = (cellsOf hB).size := by rw [cellsOf_size, cellsOf_size, hB_len, zeros_length]
  go_enter Try.func22, Try.ntmps22
  go_wp2_with fail
  refine (New_any w).mono ?_
  rintro e W1 ⟨rfl, hw1, hb1⟩
  go_wp2_with fail
  refine (W_300 _ _ hw1).mono ?_
  rintro e W2 ⟨rfl, hw2, ha2⟩
  go_wp2_with fail
  refine (W_5 _ _ hw2).mono ?_
  rintro e W3 ⟨rfl, hw3, ha3⟩
  go_wp2_with fail
  refine (W_done _ _ hw3).mono ?_
  rintro e W4 ⟨rfl, hb4⟩
  go_wp2_with (refine wpList_store_new rfl 23 _ _ rfl _ _ _ rfl rfl hi hz0 (cellsOf_one _) ?_)
  have hH := Holds.new W4 hB
  have hw4 := (hw3.below hb4).of_block (Below.heap_alloc W4 (.cells (cellsOf hB) 23) _ (hw3.below hb4).lt)
  have hbel : Below w.heap.size w (W4.alloc (.cells (cellsOf hB) 23)) := ((hb1.trans ((ha2.trans ha3).below (Nat.le_refl _) hb1.size)).trans (hb4.mono (Nat.le_trans hb1.size (Nat.le_trans ha2.size ha3.size)))).alloc (Nat.le_trans hb1.size (Nat.le_trans ha2.size (Nat.le_trans ha3.size hb4.size))) _
  have hp : w.heap.size < W4.heap.size := (hw3.below hb4).lt
  clear hw1 hw2 hw3 ha2 ha3 hb1 hb4
  generalize hb2e : W4.heap.size = b2 at hH hp ⊢
  clear hb2e
  generalize W4.alloc (.cells (cellsOf hB) 23) = W5 at hH hw4 hbel ⊢
  refine wp_region_held_drew (S := fun w' => Holds w' b2 hB) (by kernel_rfl) hH ?_
  intro hS
  replace hw4 : WIs W5.drew w.heap.size (some [44, 1, 5]) := hw4
  replace hbel := hbel.drew
  clear hH
  generalize W5.drew = W6 at hS hw4 hbel ⊢
  have hbq : b2 < W6.heap.size := hS.lt
  refine wpAnyH_take (i := 0) (v := .agg (cellsOf hB)) rfl (by kernel_rfl) (by kernel_rfl) (by kernel_rfl) (fun _ _ _ h => h) (yieldsIf_load_row (by rfl) 23 _ rfl b2 rfl _ _ _ _ (fun _ h => h) Try.underlying23 rfl hi) hS ?_
  simp only [Act.put]
  refine wpAnyH_take (i := 2) (v := .agg (cellsOf hB)) rfl (by kernel_rfl) (by kernel_rfl) (by kernel_rfl) (fun _ _ _ h => h) (yieldsIf_load_row (by rfl) 23 _ rfl b2 rfl _ _ _ _ (fun _ h => h) Try.underlying23 rfl hi) hS ?_
  simp only [Act.put]
  refine wpAnyH_take (i := 4) (v := .agg (cellsOf hB)) rfl (by kernel_rfl) (by kernel_rfl) (by kernel_rfl) (fun _ _ _ h => h) (yieldsIf_load_row (by rfl) 23 _ rfl b2 rfl _ _ _ _ (fun _ h => h) Try.underlying23 rfl hi) hS ?_
  simp only [Act.put]
  refine wpAnyH_take (i := 6) (v := .agg (cellsOf hB)) rfl (by kernel_rfl) (by kernel_rfl) (by kernel_rfl) (fun _ _ _ h => h) (yieldsIf_load_row (by rfl) 23 _ rfl b2 rfl _ _ _ _ (fun _ h => h) Try.underlying23 rfl hi) hS ?_
  simp only [Act.put]
  refine wpAnyH_ready (rs := [1]) (by kernel_rfl) (by simp) ?_
  refine AllReadyH.cons rfl (fun K hK => ?_) AllReadyH.nil
  go_simp
  refine (R_open7 _).mono ?_
  rintro e W ⟨q1, hq1, rfl, hr1, hb⟩
  have hz1 : q1 < W.heap.size := hr1.lt
  replace hS := hS.below hb hS.lt
  replace hw4 := hw4.below hb
  replace hbel := hbel.trans (hb.mono hbel.size)
  skip
  have hs1 := hb.size
  dsimp only
  refine hK.out _ _ hS (fun _ => ?_)
  clear hK K hb
  refine wpAnyH_ready (rs := [3]) (by kernel_rfl) (by simp) ?_
  refine AllReadyH.cons rfl (fun K hK => ?_) AllReadyH.nil
  go_simp
  refine (R_open8 _).mono ?_
  rintro e W ⟨q2, hq2, rfl, hr2, hb⟩
  have hz2 : q2 < W.heap.size := hr2.lt
  replace hS := hS.below hb hS.lt
  replace hw4 := hw4.below hb
  replace hbel := hbel.trans (hb.mono hbel.size)
  replace hr1 := hr1.below hb
  have hs2 := hb.size
  dsimp only
  refine hK.out _ _ hS (fun _ => ?_)
  clear hK K hb
  refine wpAnyH_ready (rs := [5]) (by kernel_rfl) (by simp) ?_
  refine AllReadyH.cons rfl (fun K hK => ?_) AllReadyH.nil
  go_simp
  refine (R_open7 _).mono ?_
  rintro e W ⟨q3, hq3, rfl, hr3, hb⟩
  have hz3 : q3 < W.heap.size := hr3.lt
  replace hS := hS.below hb hS.lt
  replace hw4 := hw4.below hb
  replace hbel := hbel.trans (hb.mono hbel.size)
  replace hr1 := hr1.below hb; replace hr2 := hr2.below hb
  have hs3 := hb.size
  dsimp only
  refine hK.out _ _ hS (fun _ => ?_)
  clear hK K hb
  refine wpAnyH_ready (rs := [7]) (by kernel_rfl) (by simp) ?_
  refine AllReadyH.cons rfl (fun K hK => ?_) AllReadyH.nil
  go_simp
  refine (R_open7 _).mono ?_
  rintro e W ⟨q4, hq4, rfl, hr4, hb⟩
  have hz4 : q4 < W.heap.size := hr4.lt
  replace hS := hS.below hb hS.lt
  replace hw4 := hw4.below hb
  replace hbel := hbel.trans (hb.mono hbel.size)
  replace hr1 := hr1.below hb; replace hr2 := hr2.below hb; replace hr3 := hr3.below hb
  have hs4 := hb.size
  dsimp only
  refine hK.out _ _ hS (fun _ => ?_)
  clear hK K hb
  refine wpAnyH_take (i := 8) (v := .pointer (some ⟨q1, 0, none⟩)) rfl (by kernel_rfl) (by kernel_rfl) (by kernel_rfl) (fun _ _ _ h => h) (Or.inl ⟨by rfl, fun w _ => by go_simp⟩) hS ?_
  simp only [Act.put]
  refine wpAnyH_take (i := 9) (v := .pointer (some ⟨q2, 0, none⟩)) rfl (by kernel_rfl) (by kernel_rfl) (by kernel_rfl) (fun _ _ _ h => h) (Or.inl ⟨by rfl, fun w _ => by go_simp⟩) hS ?_
  simp only [Act.put]
  refine wpAnyH_take (i := 10) (v := .pointer (some ⟨q3, 0, none⟩)) rfl (by kernel_rfl) (by kernel_rfl) (by kernel_rfl) (fun _ _ _ h => h) (Or.inl ⟨by rfl, fun w _ => by go_simp⟩) hS ?_
  simp only [Act.put]
  refine wpAnyH_take (i := 11) (v := .pointer (some ⟨q4, 0, none⟩)) rfl (by kernel_rfl) (by kernel_rfl) (by kernel_rfl) (fun _ _ _ h => h) (Or.inl ⟨by rfl, fun w _ => by go_simp⟩) hS ?_
  simp only [Act.put]
  refine wpAnyH_done (by kernel_rfl) ?_ _
  have n0 : w.heap.size < b2 := hp
  have n1 : b2 < q1 := by omega
  have n2 : q1 < q2 := by omega
  have n3 : q2 < q3 := by omega
  have n4 : q3 < q4 := by omega
  clear hq1 hq2 hq3 hq4 hz1 hz2 hz3 hz4 hs1 hs2 hs3 hs4 hp hbq
  go_wp2_with fail
  refine (R_2 q1 _ hr1).mono ?_
  rintro e W ⟨rfl, hr1, ha⟩
  replace hr2 := hr2.apart ha (by omega)
  replace hr3 := hr3.apart ha (by omega)
  replace hr4 := hr4.apart ha (by omega)
  replace hw4 := hw4.apart ha (by omega)
  replace hS := holds_apart hS ha (by omega)
  replace hbel := hbel.trans (ha.below (by omega) hbel.size)
  clear ha
  go_wp2_with fail
  refine (R_1 q1 _ hr1).mono ?_
  rintro e W ⟨rfl, hr1, ha⟩
  replace hr2 := hr2.apart ha (by omega)
  replace hr3 := hr3.apart ha (by omega)
  replace hr4 := hr4.apart ha (by omega)
  replace hw4 := hw4.apart ha (by omega)
  replace hS := holds_apart hS ha (by omega)
  replace hbel := hbel.trans (ha.below (by omega) hbel.size)
  clear ha
  go_wp2_with fail
  refine (R_end4 q1 _ hr1).mono ?_
  rintro e W ⟨rfl, hb⟩
  replace hr1 := hr1.below hb
  replace hr2 := hr2.below hb
  replace hr3 := hr3.below hb
  replace hr4 := hr4.below hb
  replace hw4 := hw4.below hb
  replace hS := hS.below hb hS.lt
  replace hbel := hbel.trans (hb.mono hbel.size)
  clear hb
  go_wp2_with fail
  refine (R_3 q3 _ hr3).mono ?_
  rintro e W ⟨rfl, hr3, ha⟩
  replace hr1 := hr1.apart ha (by omega)
  replace hr2 := hr2.apart ha (by omega)
  replace hr4 := hr4.apart ha (by omega)
  replace hw4 := hw4.apart ha (by omega)
  replace hS := holds_apart hS ha (by omega)
  replace hbel := hbel.trans (ha.below (by omega) hbel.size)
  clear ha
  go_wp2_with fail
  refine (R_2 q4 _ hr4).mono ?_
  rintro e W ⟨rfl, hr4, ha⟩
  replace hr1 := hr1.apart ha (by omega)
  replace hr2 := hr2.apart ha (by omega)
  replace hr3 := hr3.apart ha (by omega)
  replace hw4 := hw4.apart ha (by omega)
  replace hS := holds_apart hS ha (by omega)
  replace hbel := hbel.trans (ha.below (by omega) hbel.size)
  clear ha
  go_wp2_with fail
  refine (R_end3 q4 _ hr4).mono ?_
  rintro e W ⟨rfl, hb⟩
  replace hr1 := hr1.below hb
  replace hr2 := hr2.below hb
  replace hr3 := hr3.below hb
  replace hr4 := hr4.below hb
  replace hw4 := hw4.below hb
  replace hS := hS.below hb hS.lt
  replace hbel := hbel.trans (hb.mono hbel.size)
  clear hb
  go_wp2_with fail
  refine (W_abc _ _ hw4).mono ?_
  rintro e W ⟨rfl, hw4, ha⟩
  replace hr1 := hr1.apart ha (by omega)
  replace hr2 := hr2.apart ha (by omega)
  replace hr3 := hr3.apart ha (by omega)
  replace hr4 := hr4.apart ha (by omega)
  replace hS := holds_apart hS ha (by omega)
  replace hbel := hbel.trans (ha.below (by omega) hbel.size)
  clear ha
  go_wp2_with fail
  refine (W_fail _ _ hw4).mono ?_
  rintro e W ⟨rfl, hb⟩
  replace hr1 := hr1.below hb
  replace hr2 := hr2.below hb
  replace hr3 := hr3.below hb
  replace hr4 := hr4.below hb
  replace hw4 := hw4.below hb
  replace hS := hS.below hb hS.lt
  replace hbel := hbel.trans (hb.mono hbel.size)
  clear hb
  have hS2 := hS.alloc (.cells (cellsOf zeros) 23)
  have h2 := hr2.of_block (w' := W.alloc (.cells (cellsOf zeros) 23)) (Below.heap_alloc W _ _ hr2.lt)
  have h3 := hr3.of_block (w' := W.alloc (.cells (cellsOf zeros) 23)) (Below.heap_alloc W _ _ hr3.lt)
  replace hbel := hbel.alloc hbel.size (.cells (cellsOf zeros) 23)
  have hiz := sizeBlock zeros zeros_length
  go_wp2_with (refine wpList_store_new rfl 23 _ _ rfl _ _ _ rfl rfl hiz rfl (cellsOf_one _) ?_; generalize W.alloc (.cells (cellsOf zeros) 23) = W2 at hS2 h2 h3 hbel ⊢; obtain ⟨c0, c1, c2, c3⟩ := hB_cells _ _ hS2)
  refine (R_none q2 _ h2).mono ?_
  rintro e W ⟨rfl, rfl⟩
  go_wp2_with fail
  refine (R_none q3 _ h3).mono ?_
  rintro e W ⟨rfl, rfl⟩
  go_wp2_with fail
  go_ret
  exact ⟨rfl, hbel⟩

end Go.Proofs.Ytfefpdaohclgfaa.Fld
