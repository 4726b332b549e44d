/-
  Pages compared by '=='.
-/
import Derived.Test.YtkkeemjgeeillaaTalZeros
import Derived.Laws.StructEq
import Derived.ChangeKeysEq
namespace Go.Proofs.Ytkkeemjgeeillaa.Tal
open Go.RowKit RowLaw Crc Fld
set_option maxRecDepth 100000

theorem two_of {α : Type} : ∀ {l : List α}, l.length = 2 → ∃ a b, l = [a, b]
  | [a, b], _ => ⟨a, b, rfl⟩
  | [], h => by simp at h
  | [_], h => by simp at h
  | _ :: _ :: _ :: _, h => by simp at h
theorem run_partIdx (w : World) (K : IntKind) (idx : Nat) (ns : List Nat) : (part 22 (pgCells K idx ns) 0).run Try.prog w = .ok (.int .u32 (idx : Int)) w := by
  have hg := pgCells_idx (K := K) idx ns
  simp [part, isAgg, run_underlying Try.underlying22, hg]
theorem pg_extract (K : IntKind) (idx : Nat) (ns : List Nat) (n : Nat) (hn : ns.length + 1 = n) : (pgCells K idx ns).extract 1 n = numCells K ns := by
  unfold pgCells numCells
  apply Array.toList_inj.1
  rw [Array.toList_extract]
  show ((Value.int .u32 (idx : Int) :: ns.map fun n : Nat => Value.int K (n : Int)).drop 1).take (n - 1) = _
  rw [List.drop_one, List.tail_cons, List.take_of_length_le (by rw [List.length_map]; omega)]

theorem cellsOfT : Try.prog.cellsOf 23 = 1 := by kernel_rfl
theorem noGuardT : Try.prog.eqGuardType Try.prog.depth 26 = false := by kernel_rfl
theorem fieldsT : Try.prog.underlying 26 = some (.struct (Try.prog.fieldsOf 26)) := by kernel_rfl
theorem fieldsAreT : ((Try.prog.fieldsOf 26).toList.map fun f => (decide (f.name ≠ "_"), f.type, f.offset)) = [(true, 22, 0), (true, 24, 1)] := by kernel_rfl
theorem stoodT : Try.prog.stoodInHeld 26 = false := by kernel_rfl
theorem infoNumsT : (Try.prog.info? 24).map (·.size) = some 64 := by kernel_rfl
theorem run_partT (w : World) (ns : List Nat) (i : Nat) (h : i < ns.length) : (part 23 (numCells .u16 ns) i).run Try.prog w = .ok (.int .u16 (ns[i] : Int)) w := by
  have hg := numCells_get .u16 ns i h
  simp [part, isAgg, run_underlying Try.underlying23, hg]
theorem run_partNumsT (w : World) (idx : Nat) (ns : List Nat) (hn : ns.length = 64) : (part 24 (pgCells .u16 idx ns) 1).run Try.prog w = .ok (.agg (numCells .u16 ns)) w := by
  have he := pg_extract .u16 idx ns 65 (by omega)
  simp [part, isAgg, run_underlying Try.underlying24, he]
theorem run_eqItemsT (w : World) (d : Nat) (l m : List Nat) (hl : l.length = 64) (hm : m.length = 64) : ∀ is : List Nat, (∀ i ∈ is, i < 64) →
    (Op.eqItems (d + 1) 23 1 (numCells .u16 l) (numCells .u16 m) is).run Try.prog w = .ok (is.all fun i => l[i]? == m[i]?) w
  | [], _ => by simp [Op.eqItems]
  | i :: is, h => by
    have hi : i < 64 := h i (by simp)
    have ih := run_eqItemsT w d l m hl hm is (fun j hj => h j (by simp [hj]))
    have e1 := run_partT w l i (by omega)
    have e2 := run_partT w m i (by omega)
    have e3 := run_equalIn_int (P := Try.prog) w d 23 .u16 .u16 (l[i] : Int) (m[i] : Int) Try.underlying23
    have e4 : (((l[i] : Int) == (m[i] : Int)) = (l[i]? == m[i]?)) := by
      rw [List.getElem?_eq_getElem (by omega), List.getElem?_eq_getElem (by omega), Bool.eq_iff_iff]
      simp
      exact ⟨fun h => by exact_mod_cast h, fun h => by rw [h]⟩
    simp only [Op.eqItems, Sem.run_bind, Nat.mul_one, e1, e2, e3, Result.andThen_ok, List.all_cons, e4]
    cases hb : (l[i]? == m[i]?)
    · simp
    · simpa using ih
theorem run_eqNumsT (w : World) (d : Nat) (l m : List Nat) (hl : l.length = 64) (hm : m.length = 64) :
    (Op.equalIn (d + 1 + 1) 24 (.agg (numCells .u16 l)) (.agg (numCells .u16 m))).run Try.prog w = .ok (decide (l = m)) w := by
  obtain ⟨i, hi⟩ : ∃ i, Try.prog.info? 23 = some i := Option.isSome_iff_exists.1 (by kernel_rfl)
  rw [run_equalIn_array w (d + 1) (numCells .u16 l) (numCells .u16 m) Try.underlying24 hi, cellsOfT, run_eqItemsT w d l m hl hm _ (by simp)]
  congr 1
  rw [Bool.eq_iff_iff]
  simp only [List.all_eq_true, List.mem_range, beq_iff_eq, decide_eq_true_eq]
  constructor
  · intro h
    apply List.ext_getElem?
    intro i
    by_cases hi : i < 64
    · exact h i hi
    · rw [List.getElem?_eq_none (by omega), List.getElem?_eq_none (by omega)]
  · intro h i _
    rw [h]
theorem run_eqPgT' (w : World) (d idx idx' : Nat) (ns ns' : List Nat) (hn : ns.length = 64) (hn' : ns'.length = 64) :
    (Op.equalIn (d + 1 + 1 + 1) 26 (.agg (pgCells .u16 idx ns)) (.agg (pgCells .u16 idx' ns'))).run Try.prog w = .ok (decide (idx = idx' ∧ ns = ns')) w := by
  rw [run_equalIn_struct w (d + 1 + 1) 26 _ _ fieldsT stoodT]
  have hf := fieldsAreT
  generalize (Try.prog.fieldsOf 26).toList = fs at hf ⊢
  obtain ⟨f, g, rfl⟩ : ∃ f g, fs = [f, g] := two_of (by have := congrArg List.length hf; rw [List.length_map] at this; exact this)
  simp only [List.map_cons, List.map_nil, List.cons.injEq, Prod.mk.injEq, decide_eq_true_eq, and_true] at hf
  obtain ⟨⟨f1, f2, f3⟩, g1, g2, g3⟩ := hf
  have e1 := run_equalIn_int (P := Try.prog) w (d + 1) 22 .u32 .u32 (idx : Int) (idx' : Int) Try.underlying22
  have q1 := run_partNumsT w idx ns hn
  have q2 := run_partNumsT w idx' ns' hn'
  have q3 := run_eqNumsT w d ns ns' hn hn'
  rw [Op.eqFields, if_pos f1, f2, f3, Sem.run_bind, run_partIdx, Result.andThen_ok, Sem.run_bind, run_partIdx, Result.andThen_ok, Sem.run_bind, e1, Result.andThen_ok]
  cases hb : ((idx : Int) == (idx' : Int)) with
  | false =>
    have h1 : ¬ idx = idx' := fun h => by rw [h] at hb; simp at hb
    rw [decide_eq_false (fun h => h1 h.1), if_pos (by simp)]
    rfl
  | true =>
    have h1 : idx = idx' := by have := eq_of_beq hb; omega
    rw [if_neg (by simp), Op.eqFields, if_pos g1, g2, g3, Sem.run_bind, q1, Result.andThen_ok, Sem.run_bind, q2, Result.andThen_ok, Sem.run_bind, q3, Result.andThen_ok]
    by_cases h2 : ns = ns'
    · rw [decide_eq_true h2, decide_eq_true ⟨h1, h2⟩, if_neg (by simp)]
      rfl
    · rw [decide_eq_false h2, decide_eq_false (fun h => h2 h.2), if_pos (by simp)]
      rfl
theorem run_eqPgT (w : World) (idx idx' : Nat) (ns ns' : List Nat) (hn : ns.length = 64) (hn' : ns'.length = 64) :
    (Op.equalIn 10000 26 (.agg (pgCells .u16 idx ns)) (.agg (pgCells .u16 idx' ns'))).run Try.prog w = .ok (decide (idx = idx' ∧ ns = ns')) w := by
  rw [show (10000 : Nat) = 9997 + 1 + 1 + 1 from rfl]
  exact run_eqPgT' w 9997 idx idx' ns ns' hn hn'

theorem cellsOfP : Try.prog.cellsOf 27 = 1 := by kernel_rfl
theorem noGuardP : Try.prog.eqGuardType Try.prog.depth 30 = false := by kernel_rfl
theorem fieldsP : Try.prog.underlying 30 = some (.struct (Try.prog.fieldsOf 30)) := by kernel_rfl
theorem fieldsAreP : ((Try.prog.fieldsOf 30).toList.map fun f => (decide (f.name ≠ "_"), f.type, f.offset)) = [(true, 22, 0), (true, 28, 1)] := by kernel_rfl
theorem stoodP : Try.prog.stoodInHeld 30 = false := by kernel_rfl
theorem infoNumsP : (Try.prog.info? 28).map (·.size) = some 16 := by kernel_rfl
theorem run_partP (w : World) (ns : List Nat) (i : Nat) (h : i < ns.length) : (part 27 (numCells .u64 ns) i).run Try.prog w = .ok (.int .u64 (ns[i] : Int)) w := by
  have hg := numCells_get .u64 ns i h
  simp [part, isAgg, run_underlying Try.underlying27, hg]
theorem run_partNumsP (w : World) (idx : Nat) (ns : List Nat) (hn : ns.length = 16) : (part 28 (pgCells .u64 idx ns) 1).run Try.prog w = .ok (.agg (numCells .u64 ns)) w := by
  have he := pg_extract .u64 idx ns 17 (by omega)
  simp [part, isAgg, run_underlying Try.underlying28, he]
theorem run_eqItemsP (w : World) (d : Nat) (l m : List Nat) (hl : l.length = 16) (hm : m.length = 16) : ∀ is : List Nat, (∀ i ∈ is, i < 16) →
    (Op.eqItems (d + 1) 27 1 (numCells .u64 l) (numCells .u64 m) is).run Try.prog w = .ok (is.all fun i => l[i]? == m[i]?) w
  | [], _ => by simp [Op.eqItems]
  | i :: is, h => by
    have hi : i < 16 := h i (by simp)
    have ih := run_eqItemsP w d l m hl hm is (fun j hj => h j (by simp [hj]))
    have e1 := run_partP w l i (by omega)
    have e2 := run_partP w m i (by omega)
    have e3 := run_equalIn_int (P := Try.prog) w d 27 .u64 .u64 (l[i] : Int) (m[i] : Int) Try.underlying27
    have e4 : (((l[i] : Int) == (m[i] : Int)) = (l[i]? == m[i]?)) := by
      rw [List.getElem?_eq_getElem (by omega), List.getElem?_eq_getElem (by omega), Bool.eq_iff_iff]
      simp
      exact ⟨fun h => by exact_mod_cast h, fun h => by rw [h]⟩
    simp only [Op.eqItems, Sem.run_bind, Nat.mul_one, e1, e2, e3, Result.andThen_ok, List.all_cons, e4]
    cases hb : (l[i]? == m[i]?)
    · simp
    · simpa using ih
theorem run_eqNumsP (w : World) (d : Nat) (l m : List Nat) (hl : l.length = 16) (hm : m.length = 16) :
    (Op.equalIn (d + 1 + 1) 28 (.agg (numCells .u64 l)) (.agg (numCells .u64 m))).run Try.prog w = .ok (decide (l = m)) w := by
  obtain ⟨i, hi⟩ : ∃ i, Try.prog.info? 27 = some i := Option.isSome_iff_exists.1 (by kernel_rfl)
  rw [run_equalIn_array w (d + 1) (numCells .u64 l) (numCells .u64 m) Try.underlying28 hi, cellsOfP, run_eqItemsP w d l m hl hm _ (by simp)]
  congr 1
  rw [Bool.eq_iff_iff]
  simp only [List.all_eq_true, List.mem_range, beq_iff_eq, decide_eq_true_eq]
  constructor
  · intro h
    apply List.ext_getElem?
    intro i
    by_cases hi : i < 16
    · exact h i hi
    · rw [List.getElem?_eq_none (by omega), List.getElem?_eq_none (by omega)]
  · intro h i _
    rw [h]
theorem run_eqPgP' (w : World) (d idx idx' : Nat) (ns ns' : List Nat) (hn : ns.length = 16) (hn' : ns'.length = 16) :
    (Op.equalIn (d + 1 + 1 + 1) 30 (.agg (pgCells .u64 idx ns)) (.agg (pgCells .u64 idx' ns'))).run Try.prog w = .ok (decide (idx = idx' ∧ ns = ns')) w := by
  rw [run_equalIn_struct w (d + 1 + 1) 30 _ _ fieldsP stoodP]
  have hf := fieldsAreP
  generalize (Try.prog.fieldsOf 30).toList = fs at hf ⊢
  obtain ⟨f, g, rfl⟩ : ∃ f g, fs = [f, g] := two_of (by have := congrArg List.length hf; rw [List.length_map] at this; exact this)
  simp only [List.map_cons, List.map_nil, List.cons.injEq, Prod.mk.injEq, decide_eq_true_eq, and_true] at hf
  obtain ⟨⟨f1, f2, f3⟩, g1, g2, g3⟩ := hf
  have e1 := run_equalIn_int (P := Try.prog) w (d + 1) 22 .u32 .u32 (idx : Int) (idx' : Int) Try.underlying22
  have q1 := run_partNumsP w idx ns hn
  have q2 := run_partNumsP w idx' ns' hn'
  have q3 := run_eqNumsP w d ns ns' hn hn'
  rw [Op.eqFields, if_pos f1, f2, f3, Sem.run_bind, run_partIdx, Result.andThen_ok, Sem.run_bind, run_partIdx, Result.andThen_ok, Sem.run_bind, e1, Result.andThen_ok]
  cases hb : ((idx : Int) == (idx' : Int)) with
  | false =>
    have h1 : ¬ idx = idx' := fun h => by rw [h] at hb; simp at hb
    rw [decide_eq_false (fun h => h1 h.1), if_pos (by simp)]
    rfl
  | true =>
    have h1 : idx = idx' := by have := eq_of_beq hb; omega
    rw [if_neg (by simp), Op.eqFields, if_pos g1, g2, g3, Sem.run_bind, q1, Result.andThen_ok, Sem.run_bind, q2, Result.andThen_ok, Sem.run_bind, q3, Result.andThen_ok]
    by_cases h2 : ns = ns'
    · rw [decide_eq_true h2, decide_eq_true ⟨h1, h2⟩, if_neg (by simp)]
      rfl
    · rw [decide_eq_false h2, decide_eq_false (fun h => h2 h.2), if_pos (by simp)]
      rfl
theorem run_eqPgP (w : World) (idx idx' : Nat) (ns ns' : List Nat) (hn : ns.length = 16) (hn' : ns'.length = 16) :
    (Op.equalIn 10000 30 (.agg (pgCells .u64 idx ns)) (.agg (pgCells .u64 idx' ns'))).run Try.prog w = .ok (decide (idx = idx' ∧ ns = ns')) w := by
  rw [show (10000 : Nat) = 9997 + 1 + 1 + 1 from rfl]
  exact run_eqPgP' w 9997 idx idx' ns ns' hn hn'


end Go.Proofs.Ytkkeemjgeeillaa.Tal
