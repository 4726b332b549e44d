/-
  The walks of card's May.
-/
import Derived.Test.YtmbmgncajfamiaaCrdObj
namespace Go.Proofs.Ytmbmgncajfamiaa.Crd
open Go.RowKit RowLaw Crc Fld
set_option maxRecDepth 100000

/-- the seven closures: a captures where the card's pointer lies, v where its volume's does -/
def condV (a v : Nat) : Array Value :=
  #[.func (.func 47) #[] #[.pointer (some ⟨a, 0, none⟩)], .func (.func 48) #[] #[.pointer (some ⟨a, 0, none⟩)],
    .func (.func 49) #[] #[.pointer (some ⟨v, 0, none⟩)], .func (.func 50) #[] #[.pointer (some ⟨v, 0, none⟩)], .func (.func 51) #[] #[.pointer (some ⟨v, 0, none⟩)],
    .func (.func 52) #[] #[.pointer (some ⟨v, 0, none⟩)], .func (.func 53) #[] #[.pointer (some ⟨v, 0, none⟩)]]
def noFuncs : Array Value := #[.nilFunc, .nilFunc, .nilFunc, .nilFunc, .nilFunc, .nilFunc, .nilFunc]

def ptrO (p k : Nat) (t : TypeId) : Obj := .cells #[.pointer (some ⟨p, k, none⟩)] t
/-- what conditions leaves -/
def CondsAns (p : Nat) (w : World) (e : Ending) (w' : World) : Prop :=
  e = .returned (.agg (condV w.heap.size (w.heap.size + 2))) ∧ w'.cell? ⟨w.heap.size, 0, none⟩ = some (.pointer (some ⟨p, 0, none⟩)) ∧ w'.cell? ⟨w.heap.size + 2, 0, none⟩ = some (.pointer (some ⟨p, 3, none⟩)) ∧ Below w.heap.size w w' ∧ w.heap.size + 2 < w'.heap.size

theorem infoConds : (Try.prog.info? 66).map (fun i => (i.zero, i.size)) = some (some (.agg noFuncs), 7) := by kernel_rfl
theorem condV_one (a v : Nat) : (condV a v).all (·.oneCell') = true := by simp [condV, Value.oneCell']

set_option maxHeartbeats 1600000 in
theorem conditions_any (p : Nat) (w : World) :
    Calls Try.prog 29 #[.pointer (some ⟨p, 0, none⟩)] w fun e w' => CondsAns p w e w' := by
  have hmf : ∀ (fn : Fn) (first cap : Array Value) (w : World), (Instr.makeFunc fn first cap).run Try.prog w = .ok (.func fn first cap) w := fun _ _ _ _ => rfl
  have hzc := (zero_of_info infoConds).1
  have hi : (Try.prog.info? 66).map (·.size) = some (condV w.heap.size (w.heap.size + 2)).size := (zero_of_info infoConds).2
  have hR : (((w.alloc (ptrO p 0 56)).alloc (.cells noFuncs 66)).alloc (ptrO p 3 92)).heap[w.heap.size + 1]? = some (.cells noFuncs 66 (0, 0)) := (Below.heap_alloc _ _ _ (by simp)).trans (heap_alloc2_new w _ _)
  have hA : (((w.alloc (ptrO p 0 56)).alloc (.cells noFuncs 66)).alloc (ptrO p 3 92)).heap[w.heap.size]? = some (ptrO p 0 56) := (Below.heap_alloc _ _ _ (by simp; omega)).trans (heap_alloc2_old w _ _)
  have hV : (((w.alloc (ptrO p 0 56)).alloc (.cells noFuncs 66)).alloc (ptrO p 3 92)).heap[w.heap.size + 2]? = some (ptrO p 3 92) := by
    have h := heap_alloc_new ((w.alloc (ptrO p 0 56)).alloc (.cells noFuncs 66)) (ptrO p 3 92)
    rw [show ((w.alloc (ptrO p 0 56)).alloc (.cells noFuncs 66)).heap.size = w.heap.size + 2 from by simp] at h
    exact h
  have hb : Below w.heap.size w (((w.alloc (ptrO p 0 56)).alloc (.cells noFuncs 66)).alloc (ptrO p 3 92)) := (((Below.refl _ _).alloc (Nat.le_refl _) _).alloc (by simp) _).alloc (by simp; omega) _
  have hsz : (((w.alloc (ptrO p 0 56)).alloc (.cells noFuncs 66)).alloc (ptrO p 3 92)).heap.size = w.heap.size + 3 := by simp
  unfold ptrO at hR hA hV hb hsz
  unfold noFuncs at hzc hR hA hV hb hsz
  unfold condV at hi
  go_enter Try.func29, Try.ntmps29
  go_wp2_with (refine wpList_store_row rfl 66 _ _ rfl (w.heap.size + 1) _ rfl rfl _ _ hR hi rfl (condV_one _ _) ?_)
  generalize ((w.alloc (Obj.cells #[.pointer (some ⟨p, 0, none⟩)] 56)).alloc (Obj.cells #[.nilFunc, .nilFunc, .nilFunc, .nilFunc, .nilFunc, .nilFunc, .nilFunc] 66)).alloc (Obj.cells #[.pointer (some ⟨p, 3, none⟩)] 92) = W3 at hR hA hV hb hsz ⊢
  have k1 := (setRow_other W3 (w.heap.size + 1) w.heap.size (condV w.heap.size (w.heap.size + 2)) (by omega)).trans hA
  have k2 := (setRow_other W3 (w.heap.size + 1) (w.heap.size + 2) (condV w.heap.size (w.heap.size + 2)) (by omega)).trans hV
  refine bodyPost_ret (v := .agg (condV w.heap.size (w.heap.size + 2))) (results_cell_row rfl _ _ _ _ _ _ _ rfl (setRow_heap _ _ _ _ _ _ hR) Try.underlying66 rfl hi) rfl ⟨rfl, ?_, ?_, ?_, ?_⟩
  · exact (cell_of_row _ _ 0 _ _ _ k1).trans rfl
  · exact (cell_of_row _ _ 0 _ _ _ k2).trans rfl
  · exact hb.trans ⟨rfl, rfl, rfl, by simp, fun k hk => setRow_other W3 _ _ _ (by omega)⟩
  · simp
    omega

/-- the k-th of seven closures -/
theorem run_index7 (w : World) (cs : Array Value) (k : Nat) (hk : k < 7) (v : Value) (hv : cs[k]? = some v) : (Instr.index 66 (.agg cs) (.int .i64 (k : Int))).run Try.prog w = .ok v w := by
  have hs : (sizeOf 27).run Try.prog w = .ok 1 w := by
    have : (Try.prog.info? 27).map (·.size) = some 1 := by kernel_rfl
    cases hq : Try.prog.info? 27 with
    | none => rw [hq] at this; cases this
    | some q =>
      rw [hq] at this
      have h2 : q.size = 1 := by simpa using this
      simp [sizeOf, typeInfo, hq, h2]
  unfold Instr.index
  simp [asIntOf, run_underlying Try.underlying66, hs, part, isAgg, run_underlying Try.underlying27, hv]
  omega
theorem wpList_index7 {w : World} {ops : Array Oper} {rest : List Oper} {o : Oper} {a : Act} {Q : Exit → Act → World → Prop} (hgd : o.guard = none) (x i : Operand) (ho : o.op = .index 66 x i) (cs : Array Value) (k : Nat) (hk : k < 7) (v : Value)
    (hx : a.eval x = .agg cs) (hi : a.eval i = .int .i64 (k : Int)) (hv : cs[k]? = some v) (h : wpList Try.prog ops Q rest (a.put o.dst v) w) : wpList Try.prog ops Q (o :: rest) a w := by
  refine wpList_plain hgd fun K hK => ?_
  unfold Oper.wp execOp
  simp only [ho, hx, hi, run_index7 w cs k hk v hv, Sem.run_bind, Sem.run_pure, Result.andThen_ok]
  exact hK _ _ h

/-- the card, the two captured pointers -/
structure MayBox (w : World) (p a v : Nat) (c : Cd) (W : World) : Prop where
  cd : IsCd W p c
  ca : W.cell? ⟨a, 0, none⟩ = some (.pointer (some ⟨p, 0, none⟩))
  cv : W.cell? ⟨v, 0, none⟩ = some (.pointer (some ⟨p, 3, none⟩))
  bel : Below w.heap.size w W
theorem MayBox.drewN {w W : World} {p a v : Nat} {c : Cd} (h : MayBox w p a v c W) (n : Nat) : MayBox w p a v c (W.drewN n) := ⟨h.cd, h.ca, h.cv, h.bel.os, h.bel.tape, h.bel.output, h.bel.size, h.bel.block⟩
def condsB (c : Cd) : List Bool := [sizeOkB c, sidesB c, idB c, quotaB c, usedB c, rootB c, onlyB c]
theorem may_no {c : Cd} (k : Nat) (h : (condsB c)[k]? = some false) : mayB c = false := by
  rcases (by omega : k = 0 ∨ k = 1 ∨ k = 2 ∨ k = 3 ∨ k = 4 ∨ k = 5 ∨ k = 6 ∨ 7 ≤ k) with rfl | rfl | rfl | rfl | rfl | rfl | rfl | hk
  all_goals first
    | (have h2 := Option.some.inj h; unfold mayB; simp [h2]; done)
    | (rw [List.getElem?_eq_none (show (condsB c).length ≤ k from hk)] at h; cases h)
theorem may_yes {c : Cd} (h : ((condsB c).take 7).all id = true) : mayB c = true := by
  unfold mayB
  simpa [condsB] using h
theorem conds_next {c : Cd} (k : Nat) (h : ((condsB c).take k).all id = true) (hk : (condsB c)[k]? = some true) : ((condsB c).take (k + 1)).all id = true := by
  obtain ⟨hl, he⟩ := List.getElem?_eq_some_iff.1 hk
  rw [List.take_succ_eq_append_getElem hl, List.all_append, h, he]
  rfl

set_option maxHeartbeats 6400000 in
theorem May_any (c : Cd) (w : World) :
    Calls Try.prog 10 #[.agg (cells c)] w fun e w' => e = .returned (.bool (mayB c)) ∧ Below w.heap.size w w' := by
  have hC := IsCd.new w c
  have hb : Below w.heap.size w (w.alloc (.cells (cells c) 26)) := (Below.refl _ _).alloc (Nat.le_refl _) _
  go_enter Try.func10, Try.ntmps10
  go_wp2_with fail
  refine (conditions_any w.heap.size _).mono ?_
  rintro e W1 ⟨rfl, ha, hv, hb1, hs⟩
  have hbox : MayBox w w.heap.size _ _ c W1 := ⟨hC.below hb1 hC.lt, ha, hv, hb.trans (hb1.mono hb.size)⟩
  clear hC hb ha hv hb1 hs
  generalize (w.alloc (.cells (cells c) 26)).heap.size = a at hbox ⊢
  generalize a + 2 = v at hbox ⊢
  unfold condV
  go_wp2_with fail
  go_loopw [6] (fun i wr => ∃ k : Nat, k ≤ 7 ∧ i = .int .i64 k ∧ MayBox w w.heap.size a v c wr ∧ Hid (((condsB c).take k).all id = true)) (fun i _ => 7 - (intOf i).toNat)
  case atStart => exact ⟨0, by omega, rfl, hbox, rfl⟩
  case round =>
    obtain ⟨k, hk, rfl, hbk, hh⟩ := hrel
    clear hbox
    rcases (by omega : k = 0 ∨ k = 1 ∨ k = 2 ∨ k = 3 ∨ k = 4 ∨ k = 5 ∨ k = 6 ∨ k = 7) with rfl | rfl | rfl | rfl | rfl | rfl | rfl | rfl
    · have hc := cond1 ⟨a, 0, none⟩ w.heap.size c wr hbk.ca hbk.cd
      obtain ⟨b, hB⟩ : ∃ b, b = sizeOkB c := ⟨_, rfl⟩
      rw [← hB] at hc
      have HB := Lib.hid hB; clear hB
      cases b
      · go_wp2_with (first | (refine wpList_index7 rfl _ _ rfl _ 0 (by omega) _ rfl rfl rfl ?_) | go_at_call 47; (with_reducible refine hc.mono ?_); rintro e W2 ⟨rfl, n, rfl⟩; clear hc)
        go_ret
        exact ⟨by rw [may_no 0 (show (condsB c)[0]? = some false from congrArg some HB.out.symm)]; rfl, (hbk.drewN n).bel⟩
      · go_wp2_with (first | (refine wpList_index7 rfl _ _ rfl _ 0 (by omega) _ rfl rfl rfl ?_) | go_at_call 47; (with_reducible refine hc.mono ?_); rintro e W2 ⟨rfl, n, rfl⟩; clear hc)
        go_roundw
        case rel => exact ⟨1, by omega, by go_num, hbk.drewN n, conds_next 0 hh.out (show (condsB c)[0]? = some true from congrArg some HB.out.symm)⟩
        case measure => simp [intOf]
    · have hc := cond2 ⟨a, 0, none⟩ w.heap.size c wr hbk.ca hbk.cd
      obtain ⟨b, hB⟩ : ∃ b, b = sidesB c := ⟨_, rfl⟩
      rw [← hB] at hc
      have HB := Lib.hid hB; clear hB
      cases b
      · go_wp2_with (first | (refine wpList_index7 rfl _ _ rfl _ 1 (by omega) _ rfl rfl rfl ?_) | go_at_call 48; (with_reducible refine hc.mono ?_); rintro e W2 ⟨rfl, n, rfl⟩; clear hc)
        go_ret
        exact ⟨by rw [may_no 1 (show (condsB c)[1]? = some false from congrArg some HB.out.symm)]; rfl, (hbk.drewN n).bel⟩
      · go_wp2_with (first | (refine wpList_index7 rfl _ _ rfl _ 1 (by omega) _ rfl rfl rfl ?_) | go_at_call 48; (with_reducible refine hc.mono ?_); rintro e W2 ⟨rfl, n, rfl⟩; clear hc)
        go_roundw
        case rel => exact ⟨2, by omega, by go_num, hbk.drewN n, conds_next 1 hh.out (show (condsB c)[1]? = some true from congrArg some HB.out.symm)⟩
        case measure => simp [intOf]
    · have hc := cond3 ⟨v, 0, none⟩ w.heap.size c wr hbk.cv hbk.cd
      obtain ⟨b, hB⟩ : ∃ b, b = idB c := ⟨_, rfl⟩
      rw [← hB] at hc
      have HB := Lib.hid hB; clear hB
      cases b
      · go_wp2_with (first | (refine wpList_index7 rfl _ _ rfl _ 2 (by omega) _ rfl rfl rfl ?_) | go_at_call 49; (with_reducible refine hc.mono ?_); rintro e W2 ⟨rfl, n, rfl⟩; clear hc)
        go_ret
        exact ⟨by rw [may_no 2 (show (condsB c)[2]? = some false from congrArg some HB.out.symm)]; rfl, (hbk.drewN n).bel⟩
      · go_wp2_with (first | (refine wpList_index7 rfl _ _ rfl _ 2 (by omega) _ rfl rfl rfl ?_) | go_at_call 49; (with_reducible refine hc.mono ?_); rintro e W2 ⟨rfl, n, rfl⟩; clear hc)
        go_roundw
        case rel => exact ⟨3, by omega, by go_num, hbk.drewN n, conds_next 2 hh.out (show (condsB c)[2]? = some true from congrArg some HB.out.symm)⟩
        case measure => simp [intOf]
    · have hc := cond4 ⟨v, 0, none⟩ w.heap.size c wr hbk.cv hbk.cd
      obtain ⟨b, hB⟩ : ∃ b, b = quotaB c := ⟨_, rfl⟩
      rw [← hB] at hc
      have HB := Lib.hid hB; clear hB
      cases b
      · go_wp2_with (first | (refine wpList_index7 rfl _ _ rfl _ 3 (by omega) _ rfl rfl rfl ?_) | go_at_call 50; (with_reducible refine hc.mono ?_); rintro e W2 ⟨rfl, n, rfl⟩; clear hc)
        go_ret
        exact ⟨by rw [may_no 3 (show (condsB c)[3]? = some false from congrArg some HB.out.symm)]; rfl, (hbk.drewN n).bel⟩
      · go_wp2_with (first | (refine wpList_index7 rfl _ _ rfl _ 3 (by omega) _ rfl rfl rfl ?_) | go_at_call 50; (with_reducible refine hc.mono ?_); rintro e W2 ⟨rfl, n, rfl⟩; clear hc)
        go_roundw
        case rel => exact ⟨4, by omega, by go_num, hbk.drewN n, conds_next 3 hh.out (show (condsB c)[3]? = some true from congrArg some HB.out.symm)⟩
        case measure => simp [intOf]
    · have hc := cond5 ⟨v, 0, none⟩ w.heap.size c wr hbk.cv hbk.cd
      obtain ⟨b, hB⟩ : ∃ b, b = usedB c := ⟨_, rfl⟩
      rw [← hB] at hc
      have HB := Lib.hid hB; clear hB
      cases b
      · go_wp2_with (first | (refine wpList_index7 rfl _ _ rfl _ 4 (by omega) _ rfl rfl rfl ?_) | go_at_call 51; (with_reducible refine hc.mono ?_); rintro e W2 ⟨rfl, n, rfl⟩; clear hc)
        go_ret
        exact ⟨by rw [may_no 4 (show (condsB c)[4]? = some false from congrArg some HB.out.symm)]; rfl, (hbk.drewN n).bel⟩
      · go_wp2_with (first | (refine wpList_index7 rfl _ _ rfl _ 4 (by omega) _ rfl rfl rfl ?_) | go_at_call 51; (with_reducible refine hc.mono ?_); rintro e W2 ⟨rfl, n, rfl⟩; clear hc)
        go_roundw
        case rel => exact ⟨5, by omega, by go_num, hbk.drewN n, conds_next 4 hh.out (show (condsB c)[4]? = some true from congrArg some HB.out.symm)⟩
        case measure => simp [intOf]
    · have hc := cond6 ⟨v, 0, none⟩ w.heap.size c wr hbk.cv hbk.cd
      obtain ⟨b, hB⟩ : ∃ b, b = rootB c := ⟨_, rfl⟩
      rw [← hB] at hc
      have HB := Lib.hid hB; clear hB
      cases b
      · go_wp2_with (first | (refine wpList_index7 rfl _ _ rfl _ 5 (by omega) _ rfl rfl rfl ?_) | go_at_call 52; (with_reducible refine hc.mono ?_); rintro e W2 ⟨rfl, n, rfl⟩; clear hc)
        go_ret
        exact ⟨by rw [may_no 5 (show (condsB c)[5]? = some false from congrArg some HB.out.symm)]; rfl, (hbk.drewN n).bel⟩
      · go_wp2_with (first | (refine wpList_index7 rfl _ _ rfl _ 5 (by omega) _ rfl rfl rfl ?_) | go_at_call 52; (with_reducible refine hc.mono ?_); rintro e W2 ⟨rfl, n, rfl⟩; clear hc)
        go_roundw
        case rel => exact ⟨6, by omega, by go_num, hbk.drewN n, conds_next 5 hh.out (show (condsB c)[5]? = some true from congrArg some HB.out.symm)⟩
        case measure => simp [intOf]
    · have hc := cond7 ⟨v, 0, none⟩ w.heap.size c wr hbk.cv hbk.cd
      obtain ⟨b, hB⟩ : ∃ b, b = onlyB c := ⟨_, rfl⟩
      rw [← hB] at hc
      have HB := Lib.hid hB; clear hB
      cases b
      · go_wp2_with (first | (refine wpList_index7 rfl _ _ rfl _ 6 (by omega) _ rfl rfl rfl ?_) | go_at_call 53; (with_reducible refine hc.mono ?_); rintro e W2 ⟨rfl, n, rfl⟩; clear hc)
        go_ret
        exact ⟨by rw [may_no 6 (show (condsB c)[6]? = some false from congrArg some HB.out.symm)]; rfl, (hbk.drewN n).bel⟩
      · go_wp2_with (first | (refine wpList_index7 rfl _ _ rfl _ 6 (by omega) _ rfl rfl rfl ?_) | go_at_call 53; (with_reducible refine hc.mono ?_); rintro e W2 ⟨rfl, n, rfl⟩; clear hc)
        go_roundw
        case rel => exact ⟨7, by omega, by go_num, hbk.drewN n, conds_next 6 hh.out (show (condsB c)[6]? = some true from congrArg some HB.out.symm)⟩
        case measure => simp [intOf]
    · go_wp2
      go_ret
      exact ⟨by rw [may_yes hh.out]; rfl, hbk.bel⟩

end Go.Proofs.Ytmbmgncajfamiaa.Crd
