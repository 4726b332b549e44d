/-
  Nodes compared by '=='.
-/
import Derived.Test.YtdhfpmnkffdjaaaNodeKids
import Derived.Laws.StructEq
import Derived.ChangeKeysEq
namespace Go.Proofs.Ytdhfpmnkffdjaaa.Node
open Go.RowKit RowLaw Crc Fld

def ptrCells (ps : List Nat) : Array Value := (ps.map fun n : Nat => Value.int .u32 (n : Int)).toArray
theorem ptrCells_get (ps : List Nat) (j : Nat) (h : j < ps.length) : (ptrCells ps)[j]? = some (.int .u32 (ps[j] : Int)) := by simp [ptrCells, h]
theorem cellsOf32 : Try.prog.cellsOf 22 = 1 := by kernel_rfl
theorem noGuardN : Try.prog.eqGuardType Try.prog.depth 25 = false := by kernel_rfl
theorem infoPtrs : (Try.prog.info? 23).map (·.size) = some 32 := by kernel_rfl
theorem nodeFields : Try.prog.underlying 25 = some (.struct (Try.prog.fieldsOf 25)) := by kernel_rfl
theorem nodeFieldsAre : ((Try.prog.fieldsOf 25).toList.map fun f => (decide (f.name ≠ "_"), f.type, f.offset)) = [(true, 5, 0), (true, 23, 1)] := by kernel_rfl
theorem nodeStood : Try.prog.stoodInHeld 25 = false := by kernel_rfl

theorem run_part32 (w : World) (ps : List Nat) (i : Nat) (h : i < ps.length) : (part 22 (ptrCells ps) i).run Try.prog w = .ok (.int .u32 (ps[i] : Int)) w := by
  have hg := ptrCells_get ps i h
  simp [part, isAgg, run_underlying Try.underlying22, hg]
theorem run_partLv (w : World) (lv : Nat) (ps : List Nat) : (part 5 (nodeCells lv ps) 0).run Try.prog w = .ok (.int .u8 (lv : Int)) w := by
  have hg := nodeCells_lv lv ps
  simp [part, isAgg, run_underlying Try.underlying5, hg]
theorem run_partPtr (w : World) (lv : Nat) (ps : List Nat) (hp : ps.length = 32) : (part 23 (nodeCells lv ps) 1).run Try.prog w = .ok (.agg (ptrCells ps)) w := by
  have he : (nodeCells lv ps).extract 1 33 = ptrCells ps := by
    unfold nodeCells ptrCells
    apply Array.toList_inj.1
    rw [Array.toList_extract]
    show ((Value.int .u8 (lv : Int) :: ps.map fun n : Nat => Value.int .u32 (n : Int)).drop 1).take (33 - 1) = _
    rw [List.drop_one, List.tail_cons, List.take_of_length_le (by rw [List.length_map]; omega)]
  simp [part, isAgg, run_underlying Try.underlying23, he]

theorem run_eqItems32 (w : World) (d : Nat) (l m : List Nat) (hl : l.length = 32) (hm : m.length = 32) : ∀ is : List Nat, (∀ i ∈ is, i < 32) →
    (Op.eqItems (d + 1) 22 1 (ptrCells l) (ptrCells m) is).run Try.prog w = .ok (is.all fun i => l[i]? == m[i]?) w
  | [], _ => by simp [Op.eqItems]
  | i :: is, h => by
    have hi : i < 32 := h i (by simp)
    have ih := run_eqItems32 w d l m hl hm is (fun j hj => h j (by simp [hj]))
    have e1 := run_part32 w l i (by omega)
    have e2 := run_part32 w m i (by omega)
    have e3 := run_equalIn_int (P := Try.prog) w d 22 .u32 .u32 (l[i] : Int) (m[i] : Int) Try.underlying22
    have e4 : (((l[i] : Int) == (m[i] : Int)) = (l[i]? == m[i]?)) := by
      rw [List.getElem?_eq_getElem (by omega), List.getElem?_eq_getElem (by omega), Bool.eq_iff_iff]
      simp
      exact ⟨fun h => by exact_mod_cast h, fun h => by rw [h]⟩
    simp only [Op.eqItems, Sem.run_bind, Nat.mul_one, e1, e2, e3, Result.andThen_ok, List.all_cons, e4]
    cases hb : (l[i]? == m[i]?)
    · simp
    · simpa using ih

theorem run_eqPtrs (w : World) (d : Nat) (l m : List Nat) (hl : l.length = 32) (hm : m.length = 32) :
    (Op.equalIn (d + 1 + 1) 23 (.agg (ptrCells l)) (.agg (ptrCells m))).run Try.prog w = .ok (decide (l = m)) w := by
  obtain ⟨i, hi⟩ : ∃ i, Try.prog.info? 22 = some i := Option.isSome_iff_exists.1 (by kernel_rfl)
  rw [run_equalIn_array w (d + 1) (ptrCells l) (ptrCells m) Try.underlying23 hi, cellsOf32, run_eqItems32 w d l m hl hm _ (by simp)]
  congr 1
  rw [Bool.eq_iff_iff]
  simp only [List.all_eq_true, List.mem_range, beq_iff_eq, decide_eq_true_eq]
  constructor
  · intro h
    apply List.ext_getElem?
    intro i
    by_cases hi : i < 32
    · exact h i hi
    · rw [List.getElem?_eq_none (by omega), List.getElem?_eq_none (by omega)]
  · intro h i _
    rw [h]

theorem two_of {α : Type} : ∀ {l : List α}, l.length = 2 → ∃ a b, l = [a, b]
  | [a, b], _ => ⟨a, b, rfl⟩
  | [], h => by simp at h
  | [_], h => by simp at h
  | _ :: _ :: _ :: _, h => by simp at h

theorem run_eqNode' (w : World) (d lv lv' : Nat) (ps ps' : List Nat) (hp : ps.length = 32) (hp' : ps'.length = 32) :
    (Op.equalIn (d + 1 + 1 + 1) 25 (.agg (nodeCells lv ps)) (.agg (nodeCells lv' ps'))).run Try.prog w = .ok (decide (lv = lv' ∧ ps = ps')) w := by
  rw [run_equalIn_struct w (d + 1 + 1) 25 _ _ nodeFields nodeStood]
  have hf := nodeFieldsAre
  generalize (Try.prog.fieldsOf 25).toList = fs at hf ⊢
  obtain ⟨f, g, rfl⟩ : ∃ f g, fs = [f, g] := two_of (by have := congrArg List.length hf; rw [List.length_map] at this; exact this)
  simp only [List.map_cons, List.map_nil, List.cons.injEq, Prod.mk.injEq, decide_eq_true_eq, and_true] at hf
  obtain ⟨⟨f1, f2, f3⟩, g1, g2, g3⟩ := hf
  have e1 := run_equalIn_int (P := Try.prog) w (d + 1) 5 .u8 .u8 (lv : Int) (lv' : Int) Try.underlying5
  have q1 := run_partPtr w lv ps hp
  have q2 := run_partPtr w lv' ps' hp'
  have q3 := run_eqPtrs w d ps ps' hp hp'
  rw [Op.eqFields, if_pos f1, f2, f3, Sem.run_bind, run_partLv, Result.andThen_ok, Sem.run_bind, run_partLv, Result.andThen_ok, Sem.run_bind, e1, Result.andThen_ok]
  cases hb : ((lv : Int) == (lv' : Int)) with
  | false =>
    have h1 : ¬ lv = lv' := fun h => by rw [h] at hb; simp at hb
    rw [decide_eq_false (fun h => h1 h.1), if_pos (by simp)]
    rfl
  | true =>
    have h1 : lv = lv' := by have := eq_of_beq hb; omega
    rw [if_neg (by simp), Op.eqFields, if_pos g1, g2, g3, Sem.run_bind, q1, Result.andThen_ok, Sem.run_bind, q2, Result.andThen_ok, Sem.run_bind, q3, Result.andThen_ok]
    by_cases h2 : ps = ps'
    · rw [decide_eq_true h2, decide_eq_true ⟨h1, h2⟩, if_neg (by simp)]
      rfl
    · rw [decide_eq_false h2, decide_eq_false (fun h => h2 h.2), if_pos (by simp)]
      rfl
theorem run_eqNode (w : World) (lv lv' : Nat) (ps ps' : List Nat) (hp : ps.length = 32) (hp' : ps'.length = 32) :
    (Op.equalIn 10000 25 (.agg (nodeCells lv ps)) (.agg (nodeCells lv' ps'))).run Try.prog w = .ok (decide (lv = lv' ∧ ps = ps')) w := by
  rw [show (10000 : Nat) = 9997 + 1 + 1 + 1 from rfl]
  exact run_eqNode' w 9997 lv lv' ps ps' hp hp'

end Go.Proofs.Ytdhfpmnkffdjaaa.Node
