/-
  How many counts are 0: the walks of tally.Zeros and of the reference's.
-/
import Derived.Test.YtkkeemjgeeillaaTalObj
import Derived.Test.YtkkeemjgeeillaaKept
import Derived.Test.YtkkeemjgeeillaaRowBlocks
namespace Go.Proofs.Ytkkeemjgeeillaa.Tal
open Go.RowKit RowLaw Crc Fld
set_option maxRecDepth 100000

set_option maxHeartbeats 1600000 in
theorem refZeros_any (idx : Nat) (ns : List Nat) (hn : ns.length = kT.n) (w : World) :
    Calls Try.prog 11 #[.agg (pgCells .u16 idx ns)] w fun e w' => e = .returned (.int .i64 (zerosIn ns : Int)) ∧ Below w.heap.size w w' := by
  have hN := IsPg.new .u16 26 w idx ns
  have hb : Below w.heap.size w (w.alloc (.cells (pgCells .u16 idx ns) 26)) := (Below.refl _ _).alloc (Nat.le_refl _) _
  have HZ := Lib.hid (zerosIn_take ns)
  have HZL := Lib.hid (fun j => Nat.le_trans (zerosIn_le (ns.take j)) (List.length_take_le' j ns))
  have HA := Lib.hid (show zerosIn (ns.take 64) = zerosIn ns by rw [List.take_of_length_le (by rw [hn]; decide)])
  have HP := Lib.hid (show ns.length = 64 from hn)
  clear hn
  go_enter Try.func11, Try.ntmps11
  go_wp2_with fail
  generalize w.alloc (.cells (pgCells .u16 idx ns) 26) = W at hN hb ⊢
  go_loop [3, 4] (fun z i => ∃ j : Nat, j ≤ 64 ∧ i = .int .i64 j ∧ z = .int .i64 (zerosIn (ns.take j) : Int)) (fun _ i => 64 - (intOf i).toNat)
  case atStart => exact ⟨0, by omega, rfl, rfl⟩
  case round =>
    obtain ⟨j, hj, rfl, rfl⟩ := hrel
    by_cases hlt : j < 64
    · have hjl : j < ns.length := by have := HP.out; omega
      have hc := hN.num j hjl
      have hz := HZ.out j hjl
      have hzl := HZL.out j
      rw [HP.out] at hzl
      obtain ⟨x, hx⟩ : ∃ x, x = ns[j] := ⟨_, rfl⟩
      rw [← hx] at hc hz
      clear hx
      generalize zerosIn (ns.take j) = z at hz hzl ⊢
      by_cases h0 : x = 0
      · subst h0
        rw [if_pos rfl] at hz
        have HZZ := Lib.hid hz; clear hz
        go_wp2
        go_round
        case rel => exact ⟨j + 1, by omega, by go_num, by rw [HZZ.out]; go_num⟩
        case measure => simp [intOf]; omega
      · rw [if_neg h0] at hz
        have HZZ := Lib.hid hz; clear hz
        have d1 : ¬ (x : Int) = 0 := by omega
        go_wp2
        go_round
        case rel => exact ⟨j + 1, by omega, by go_num, by rw [HZZ.out]; rfl⟩
        case measure => simp [intOf]; omega
    · obtain rfl : j = 64 := by omega
      go_wp2
      go_ret
      exact ⟨by rw [HA.out]; rfl, hb⟩

/-- the numbers of a page, as an array by value -/
def numCells (K : IntKind) (ns : List Nat) : Array Value := (ns.map fun n : Nat => Value.int K (n : Int)).toArray
theorem numCells_get (K : IntKind) (ns : List Nat) (j : Nat) (h : j < ns.length) : (numCells K ns)[j]? = some (.int K (ns[j] : Int)) := by simp [numCells, h]
theorem numCells_size (K : IntKind) (ns : List Nat) : (numCells K ns).size = ns.length := by simp [numCells]
theorem run_index16 (w : World) (ns : List Nat) (hn : ns.length = 64) (i : Nat) (h : i < ns.length) : (Instr.index 24 (.agg (numCells .u16 ns)) (.int .i64 (i : Int))).run Try.prog w = .ok (.int .u16 (ns[i] : Int)) w := by
  have hg := numCells_get .u16 ns i h
  have hs : (sizeOf 23).run Try.prog w = .ok 1 w := by
    have : (Try.prog.info? 23).map (·.size) = some 1 := by kernel_rfl
    cases hq : Try.prog.info? 23 with
    | none => rw [hq] at this; cases this
    | some q =>
      rw [hq] at this
      have h2 : q.size = 1 := by simpa using this
      simp [sizeOf, typeInfo, hq, h2]
  unfold Instr.index
  simp [asIntOf, run_underlying Try.underlying24, hs, part, isAgg, run_underlying Try.underlying23, hg]
  omega
theorem wpList_index16 {ops : Array Oper} {rest : List Oper} {op : Oper} {a : Act} {w : World} {Q : Exit → Act → World → Prop} (hgd : op.guard = none) (x i : Operand) (ho : op.op = .index 24 x i) (ns : List Nat) (hn : ns.length = 64) (j : Nat) (hj : j < ns.length)
    (hx : a.eval x = .agg (numCells .u16 ns)) (hi : a.eval i = .int .i64 (j : Int)) (h : wpList Try.prog ops Q rest (a.put op.dst (.int .u16 (ns[j] : Int))) w) : wpList Try.prog ops Q (op :: rest) a w :=
  wpList_plain hgd fun _ hK => by
    unfold Oper.wp execOp
    simp only [ho, hx, hi, run_index16 w ns hn j hj, Sem.run_bind, Sem.run_pure, Result.andThen_ok]
    exact hK _ _ h
theorem pg_range (K : IntKind) (t : TypeId) {W : World} {p idx : Nat} {ns : List Nat} (h : IsPg K t W p idx ns) : W.rangeAt p 1 (numCells K ns).toList := by
  intro j v hv
  have hl : j < (numCells K ns).toList.length := (List.getElem?_eq_some_iff.1 hv).1
  rw [Array.length_toList, numCells_size] at hl
  rw [h.num j hl]
  rw [Array.getElem?_toList, numCells_get K ns j hl] at hv
  exact hv
theorem sizeNums : (Try.prog.info? 24).map (·.size) = some 64 := by kernel_rfl

theorem wpList_load_nums {ops : Array Oper} {rest : List Oper} {op : Oper} {a : Act} {w : World} {Q : Exit → Act → World → Prop} (hgd : op.guard = none) (x : Operand) (ho : op.op = .load 24 x) (p idx : Nat) (ns : List Nat) (hn : ns.length = 64)
    (hx : a.eval x = .pointer (some ⟨p, 1, none⟩)) (hw : IsPg .u16 26 w p idx ns) (h : wpList Try.prog ops Q rest (a.put op.dst (.agg (numCells .u16 ns))) w) : wpList Try.prog ops Q (op :: rest) a w :=
  wpList_load_mid hgd 24 x ho p 1 hx (numCells .u16 ns).toList _ (pg_range .u16 _ hw) Try.underlying24 rfl (by rw [Array.length_toList, numCells_size, hn]; exact sizeNums) (by rw [Array.toArray_toList]; exact h)

def cntO (z : Nat) : Obj := .cells #[.int .i64 (z : Int)] 3
set_option maxHeartbeats 800000 in
/-- the closure: one more, if the count is 0 -/
theorem note_any {w W : World} {K : List (Nat × Obj)} (c x z : Nat) (hk : Kept w ((c, cntO z) :: K) W) (hne : ∀ x ∈ K, x.1 ≠ c) (hz : z ≤ 64) :
    Calls Try.prog 23 #[.int .u16 (x : Int), .pointer (some ⟨c, 0, none⟩)] W fun e W' => e = .returned (.tuple #[]) ∧ Kept w ((c, cntO (z + if x = 0 then 1 else 0)) :: K) W' := by
  have hB := hk.at_ List.mem_cons_self
  have hc : W.cell? ⟨c, 0, none⟩ = some (.int .i64 (z : Int)) := (cell_of_row W c 0 _ _ _ hB).trans rfl
  have hf : W.frozen? ⟨c, 0, none⟩ = false := frozen_of_row W c 0 _ _ hB
  by_cases h0 : x = 0
  · subst h0
    have hn := hk.setCell (j := 0) (v := .int .i64 ((z : Int) + 1)) hne
    rw [if_pos rfl]
    clear hk hB
    go_enter Try.func23, Try.ntmps23
    go_wp2
    go_end0
    exact ⟨rfl, hn⟩
  · rw [if_neg h0]
    have d1 : ¬ (x : Int) = 0 := by omega
    clear hB h0
    go_enter Try.func23, Try.ntmps23
    go_wp2
    go_end0
    exact ⟨rfl, hk⟩
theorem enterNote : ∀ (args : Array Value) (W : World), (callFunc 23 args).run Try.prog W = .ok (.enter 23 args) W := fun _ _ => by simp [go_sem]

set_option maxHeartbeats 1600000 in
theorem Zeros_any (idx : Nat) (ns : List Nat) (hn : ns.length = kT.n) (w : World) :
    Calls Try.prog 10 #[.agg (pgCells .u16 idx ns)] w fun e w' => e = .returned (.int .i64 (zerosIn ns : Int)) ∧ Below w.heap.size w w' := by
  have hN : IsPg .u16 26 ((w.alloc (.cells (pgCells .u16 idx ns) 26)).alloc (cntO 0)) w.heap.size idx ns := (IsPg.new .u16 26 w idx ns).alloc _
  have hk : Kept w [(w.heap.size + 1, cntO 0)] ((w.alloc (.cells (pgCells .u16 idx ns) 26)).alloc (cntO 0)) := by
    have h := ((Kept.start w).alloc (.cells (pgCells .u16 idx ns) 26)).alloc (cntO 0)
    rw [show (w.alloc (.cells (pgCells .u16 idx ns) 26)).heap.size = w.heap.size + 1 from by simp] at h
    exact h.less (by simp)
  have HZ := Lib.hid (zerosIn_take ns)
  have HZL := Lib.hid (fun j => Nat.le_trans (zerosIn_le (ns.take j)) (List.length_take_le' j ns))
  have HA := Lib.hid (show zerosIn (ns.take 64) = zerosIn ns by rw [List.take_of_length_le (by rw [hn]; decide)])
  have HP := Lib.hid (show ns.length = 64 from hn)
  have hen := enterNote
  clear hn
  unfold cntO at hN hk
  go_enter Try.func10, Try.ntmps10
  go_wp2_with (refine wpList_load_nums rfl _ rfl w.heap.size idx ns HP.out rfl hN ?_)
  have hk0 : Kept w [(w.heap.size + 1, cntO (zerosIn (ns.take 0)))] ((w.alloc (.cells (pgCells .u16 idx ns) 26)).alloc (.cells #[.int .i64 0] 3)) := hk
  clear hk hN
  generalize (w.alloc (.cells (pgCells .u16 idx ns) 26)).alloc (.cells #[.int .i64 0] 3) = W at hk0 ⊢
  go_loopw [10] (fun i wr => ∃ j : Nat, j ≤ 64 ∧ i = .int .i64 j ∧ Kept w [(w.heap.size + 1, cntO (zerosIn (ns.take j)))] wr) (fun i _ => 64 - (intOf i).toNat)
  case atStart => exact ⟨0, by omega, rfl, hk0⟩
  case round =>
    clear hk0
    obtain ⟨j, hj, rfl, hk⟩ := hrel
    by_cases hlt : j < 64
    · have hjl : j < ns.length := by have := HP.out; omega
      have hz := HZ.out j hjl
      have hzl := HZL.out j
      rw [HP.out] at hzl
      obtain ⟨x, hx⟩ : ∃ x, x = ns[j] := ⟨_, rfl⟩
      rw [← hx] at hz
      have HX := Lib.hid hx; clear hx
      generalize zerosIn (ns.take j) = z at hz hzl hk
      have HZZ := Lib.hid hz; clear hz
      go_wp2_with (refine wpList_index16 rfl _ _ rfl ns HP.out j hjl rfl rfl ?_; rw [← HX.out])
      refine (note_any (w.heap.size + 1) x z hk (by simp) hzl).mono ?_
      rintro e W2 ⟨rfl, hk⟩
      go_wp2_with fail
      go_roundw
      case rel => exact ⟨j + 1, by omega, by go_num, by rw [HZZ.out]; exact hk⟩
      case measure => simp [intOf]; omega
    · obtain rfl : j = 64 := by omega
      have hB := hk.at_ List.mem_cons_self
      have hc : wr.cell? ⟨w.heap.size + 1, 0, none⟩ = some (.int .i64 (zerosIn (ns.take 64) : Int)) := (cell_of_row wr (w.heap.size + 1) 0 _ _ _ hB).trans rfl
      rw [HA.out] at hc
      have hb := hk.bel
      clear hB hk
      go_wp2
      go_ret
      exact ⟨rfl, hb⟩

end Go.Proofs.Ytkkeemjgeeillaa.Tal
