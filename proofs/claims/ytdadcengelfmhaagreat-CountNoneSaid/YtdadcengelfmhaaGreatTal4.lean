/-
  Tal4: TalZeros, TalEq, TalBits, TalHead.
-/
import Derived.Test.YtdadcengelfmhaaGreatTal1
import Derived.Test.YtdadcengelfmhaaGreatKept
import Derived.Test.YtdadcengelfmhaaGreatBoxes1
import Derived.Laws.StructEq
import Derived.ChangeKeysEq
import Derived.StillTailTactics
import Derived.Test.YtdadcengelfmhaaGreatTal2
import Derived.Deep.Cut
/-
  How many counts are 0: the walks of tally.Zeros and of the reference's.
-/
namespace Go.Proofs.YtdadcengelfmhaaGreat.Tal
open Go.RowKit RowLaw Crc Fld
set_option maxRecDepth 100000

/-- the numbers of a page, as an array by value -/
def numCells (K : IntKind) (ns : List Nat) : Array Value := (ns.map fun n : Nat => Value.int K (n : Int)).toArray
theorem numCells_get (K : IntKind) (ns : List Nat) (j : Nat) (h : j < ns.length) : (numCells K ns)[j]? = some (.int K (ns[j] : Int)) := by simp [numCells, h]
theorem numCells_size (K : IntKind) (ns : List Nat) : (numCells K ns).size = ns.length := by simp [numCells]
theorem run_index16 (w : World) (ns : List Nat) (hn : ns.length = 64) (i : Nat) (h : i < ns.length) : (Instr.index 66 (.agg (numCells .u16 ns)) (.int .i64 (i : Int))).run Tryz.prog w = .ok (.int .u16 (ns[i] : Int)) w := by
  have hg := numCells_get .u16 ns i h
  have hs : (sizeOf 37).run Tryz.prog w = .ok 1 w := by
    have : (Tryz.prog.info? 37).map (·.size) = some 1 := by kernel_rfl
    cases hq : Tryz.prog.info? 37 with
    | none => rw [hq] at this; cases this
    | some q =>
      rw [hq] at this
      have h2 : q.size = 1 := by simpa using this
      simp [sizeOf, typeInfo, hq, h2]
  unfold Instr.index
  simp [asIntOf, run_underlying Tryz.underlying66, hs, part, isAgg, run_underlying Tryz.underlying37, hg]
  omega
theorem wpList_index16 {ops : Array Oper} {rest : List Oper} {op : Oper} {a : Act} {w : World} {Q : Exit → Act → World → Prop} (hgd : op.guard = none) (x i : Operand) (ho : op.op = .index 66 x i) (ns : List Nat) (hn : ns.length = 64) (j : Nat) (hj : j < ns.length)
    (hx : a.eval x = .agg (numCells .u16 ns)) (hi : a.eval i = .int .i64 (j : Int)) (h : wpList Tryz.prog ops Q rest (a.put op.dst (.int .u16 (ns[j] : Int))) w) : wpList Tryz.prog ops Q (op :: rest) a w :=
  wpList_plain hgd fun _ hK => by
    unfold Oper.wp execOp
    simp only [ho, hx, hi, run_index16 w ns hn j hj, Sem.run_bind, Sem.run_pure, Result.andThen_ok]
    exact hK _ _ h
theorem pg_range (K : IntKind) (t : TypeId) {W : World} {p idx : Nat} {ns : List Nat} (h : IsPg K t W p idx ns) : W.rangeAt p 1 (numCells K ns).toList := by
  intro j v hv
  have hl : j < (numCells K ns).toList.length := (List.getElem?_eq_some_iff.1 hv).1
  rw [Array.length_toList, numCells_size] at hl
  rw [h.num j hl]
  rw [Array.getElem?_toList, numCells_get K ns j hl] at hv
  exact hv
theorem sizeNums : (Tryz.prog.info? 66).map (·.size) = some 64 := by kernel_rfl

theorem wpList_load_nums {ops : Array Oper} {rest : List Oper} {op : Oper} {a : Act} {w : World} {Q : Exit → Act → World → Prop} (hgd : op.guard = none) (x : Operand) (ho : op.op = .load 66 x) (p idx : Nat) (ns : List Nat) (hn : ns.length = 64)
    (hx : a.eval x = .pointer (some ⟨p, 1, none⟩)) (hw : IsPg .u16 68 w p idx ns) (h : wpList Tryz.prog ops Q rest (a.put op.dst (.agg (numCells .u16 ns))) w) : wpList Tryz.prog ops Q (op :: rest) a w :=
  wpList_load_mid hgd 66 x ho p 1 hx (numCells .u16 ns).toList _ (pg_range .u16 _ hw) Tryz.underlying66 rfl (by rw [Array.length_toList, numCells_size, hn]; exact sizeNums) (by rw [Array.toArray_toList]; exact h)

def cntO (z : Nat) : Obj := .cells #[.int .i64 (z : Int)] 3
end Go.Proofs.YtdadcengelfmhaaGreat.Tal

/-
  Pages compared by '=='.
-/
namespace Go.Proofs.YtdadcengelfmhaaGreat.Tal
open Go.RowKit RowLaw Crc Fld
set_option maxRecDepth 100000

theorem two_of {α : Type} : ∀ {l : List α}, l.length = 2 → ∃ a b, l = [a, b]
  | [a, b], _ => ⟨a, b, rfl⟩
  | [], h => by simp at h
  | [_], h => by simp at h
  | _ :: _ :: _ :: _, h => by simp at h
theorem run_partIdx (w : World) (K : IntKind) (idx : Nat) (ns : List Nat) : (part 22 (pgCells K idx ns) 0).run Tryz.prog w = .ok (.int .u32 (idx : Int)) w := by
  have hg := pgCells_idx (K := K) idx ns
  simp [part, isAgg, run_underlying Tryz.underlying22, hg]
theorem pg_extract (K : IntKind) (idx : Nat) (ns : List Nat) (n : Nat) (hn : ns.length + 1 = n) : (pgCells K idx ns).extract 1 n = numCells K ns := by
  unfold pgCells numCells
  apply Array.toList_inj.1
  rw [Array.toList_extract]
  show ((Value.int .u32 (idx : Int) :: ns.map fun n : Nat => Value.int K (n : Int)).drop 1).take (n - 1) = _
  rw [List.drop_one, List.tail_cons, List.take_of_length_le (by rw [List.length_map]; omega)]

theorem cellsOfT : Tryz.prog.cellsOf 37 = 1 := by kernel_rfl
theorem noGuardT : Tryz.prog.eqGuardType Tryz.prog.depth 68 = false := by kernel_rfl
theorem fieldsT : Tryz.prog.underlying 68 = some (.struct (Tryz.prog.fieldsOf 68)) := by kernel_rfl
theorem fieldsAreT : ((Tryz.prog.fieldsOf 68).toList.map fun f => (decide (f.name ≠ "_"), f.type, f.offset)) = [(true, 22, 0), (true, 66, 1)] := by kernel_rfl
theorem stoodT : Tryz.prog.stoodInHeld 68 = false := by kernel_rfl
theorem infoNumsT : (Tryz.prog.info? 66).map (·.size) = some 64 := by kernel_rfl
theorem run_partT (w : World) (ns : List Nat) (i : Nat) (h : i < ns.length) : (part 37 (numCells .u16 ns) i).run Tryz.prog w = .ok (.int .u16 (ns[i] : Int)) w := by
  have hg := numCells_get .u16 ns i h
  simp [part, isAgg, run_underlying Tryz.underlying37, hg]
theorem run_partNumsT (w : World) (idx : Nat) (ns : List Nat) (hn : ns.length = 64) : (part 66 (pgCells .u16 idx ns) 1).run Tryz.prog w = .ok (.agg (numCells .u16 ns)) w := by
  have he := pg_extract .u16 idx ns 65 (by omega)
  simp [part, isAgg, run_underlying Tryz.underlying66, he]
theorem run_eqItemsT (w : World) (d : Nat) (l m : List Nat) (hl : l.length = 64) (hm : m.length = 64) : ∀ is : List Nat, (∀ i ∈ is, i < 64) →
    (Op.eqItems (d + 1) 37 1 (numCells .u16 l) (numCells .u16 m) is).run Tryz.prog w = .ok (is.all fun i => l[i]? == m[i]?) w
  | [], _ => by simp [Op.eqItems]
  | i :: is, h => by
    have hi : i < 64 := h i (by simp)
    have ih := run_eqItemsT w d l m hl hm is (fun j hj => h j (by simp [hj]))
    have e1 := run_partT w l i (by omega)
    have e2 := run_partT w m i (by omega)
    have e3 := run_equalIn_int (P := Tryz.prog) w d 37 .u16 .u16 (l[i] : Int) (m[i] : Int) Tryz.underlying37
    have e4 : (((l[i] : Int) == (m[i] : Int)) = (l[i]? == m[i]?)) := by
      rw [List.getElem?_eq_getElem (by omega), List.getElem?_eq_getElem (by omega), Bool.eq_iff_iff]
      simp
      exact ⟨fun h => by exact_mod_cast h, fun h => by rw [h]⟩
    simp only [Op.eqItems, Sem.run_bind, Nat.mul_one, e1, e2, e3, Result.andThen_ok, List.all_cons, e4]
    cases hb : (l[i]? == m[i]?)
    · simp
    · simpa using ih
theorem run_eqNumsT (w : World) (d : Nat) (l m : List Nat) (hl : l.length = 64) (hm : m.length = 64) :
    (Op.equalIn (d + 1 + 1) 66 (.agg (numCells .u16 l)) (.agg (numCells .u16 m))).run Tryz.prog w = .ok (decide (l = m)) w := by
  obtain ⟨i, hi⟩ : ∃ i, Tryz.prog.info? 37 = some i := Option.isSome_iff_exists.1 (by kernel_rfl)
  rw [run_equalIn_array w (d + 1) (numCells .u16 l) (numCells .u16 m) Tryz.underlying66 hi, cellsOfT, run_eqItemsT w d l m hl hm _ (by simp)]
  congr 1
  rw [Bool.eq_iff_iff]
  simp only [List.all_eq_true, List.mem_range, beq_iff_eq, decide_eq_true_eq]
  constructor
  · intro h
    apply List.ext_getElem?
    intro i
    by_cases hi : i < 64
    · exact h i hi
    · rw [List.getElem?_eq_none (by omega), List.getElem?_eq_none (by omega)]
  · intro h i _
    rw [h]
theorem run_eqPgT' (w : World) (d idx idx' : Nat) (ns ns' : List Nat) (hn : ns.length = 64) (hn' : ns'.length = 64) :
    (Op.equalIn (d + 1 + 1 + 1) 68 (.agg (pgCells .u16 idx ns)) (.agg (pgCells .u16 idx' ns'))).run Tryz.prog w = .ok (decide (idx = idx' ∧ ns = ns')) w := by
  rw [run_equalIn_struct w (d + 1 + 1) 68 _ _ fieldsT stoodT]
  have hf := fieldsAreT
  generalize (Tryz.prog.fieldsOf 68).toList = fs at hf ⊢
  obtain ⟨f, g, rfl⟩ : ∃ f g, fs = [f, g] := two_of (by have := congrArg List.length hf; rw [List.length_map] at this; exact this)
  simp only [List.map_cons, List.map_nil, List.cons.injEq, Prod.mk.injEq, decide_eq_true_eq, and_true] at hf
  obtain ⟨⟨f1, f2, f3⟩, g1, g2, g3⟩ := hf
  have e1 := run_equalIn_int (P := Tryz.prog) w (d + 1) 22 .u32 .u32 (idx : Int) (idx' : Int) Tryz.underlying22
  have q1 := run_partNumsT w idx ns hn
  have q2 := run_partNumsT w idx' ns' hn'
  have q3 := run_eqNumsT w d ns ns' hn hn'
  rw [Op.eqFields, if_pos f1, f2, f3, Sem.run_bind, run_partIdx, Result.andThen_ok, Sem.run_bind, run_partIdx, Result.andThen_ok, Sem.run_bind, e1, Result.andThen_ok]
  cases hb : ((idx : Int) == (idx' : Int)) with
  | false =>
    have h1 : ¬ idx = idx' := fun h => by rw [h] at hb; simp at hb
    rw [decide_eq_false (fun h => h1 h.1), if_pos (by simp)]
    rfl
  | true =>
    have h1 : idx = idx' := by have := eq_of_beq hb; omega
    rw [if_neg (by simp), Op.eqFields, if_pos g1, g2, g3, Sem.run_bind, q1, Result.andThen_ok, Sem.run_bind, q2, Result.andThen_ok, Sem.run_bind, q3, Result.andThen_ok]
    by_cases h2 : ns = ns'
    · rw [decide_eq_true h2, decide_eq_true ⟨h1, h2⟩, if_neg (by simp)]
      rfl
    · rw [decide_eq_false h2, decide_eq_false (fun h => h2 h.2), if_pos (by simp)]
      rfl
theorem run_eqPgT (w : World) (idx idx' : Nat) (ns ns' : List Nat) (hn : ns.length = 64) (hn' : ns'.length = 64) :
    (Op.equalIn 10000 68 (.agg (pgCells .u16 idx ns)) (.agg (pgCells .u16 idx' ns'))).run Tryz.prog w = .ok (decide (idx = idx' ∧ ns = ns')) w := by
  rw [show (10000 : Nat) = 9997 + 1 + 1 + 1 from rfl]
  exact run_eqPgT' w 9997 idx idx' ns ns' hn hn'

theorem cellsOfP : Tryz.prog.cellsOf 29 = 1 := by kernel_rfl
theorem noGuardP : Tryz.prog.eqGuardType Tryz.prog.depth 73 = false := by kernel_rfl
theorem fieldsP : Tryz.prog.underlying 73 = some (.struct (Tryz.prog.fieldsOf 73)) := by kernel_rfl
theorem fieldsAreP : ((Tryz.prog.fieldsOf 73).toList.map fun f => (decide (f.name ≠ "_"), f.type, f.offset)) = [(true, 22, 0), (true, 71, 1)] := by kernel_rfl
theorem stoodP : Tryz.prog.stoodInHeld 73 = false := by kernel_rfl
theorem infoNumsP : (Tryz.prog.info? 71).map (·.size) = some 16 := by kernel_rfl
theorem run_partP (w : World) (ns : List Nat) (i : Nat) (h : i < ns.length) : (part 29 (numCells .u64 ns) i).run Tryz.prog w = .ok (.int .u64 (ns[i] : Int)) w := by
  have hg := numCells_get .u64 ns i h
  simp [part, isAgg, run_underlying Tryz.underlying29, hg]
theorem run_partNumsP (w : World) (idx : Nat) (ns : List Nat) (hn : ns.length = 16) : (part 71 (pgCells .u64 idx ns) 1).run Tryz.prog w = .ok (.agg (numCells .u64 ns)) w := by
  have he := pg_extract .u64 idx ns 17 (by omega)
  simp [part, isAgg, run_underlying Tryz.underlying71, he]
theorem run_eqItemsP (w : World) (d : Nat) (l m : List Nat) (hl : l.length = 16) (hm : m.length = 16) : ∀ is : List Nat, (∀ i ∈ is, i < 16) →
    (Op.eqItems (d + 1) 29 1 (numCells .u64 l) (numCells .u64 m) is).run Tryz.prog w = .ok (is.all fun i => l[i]? == m[i]?) w
  | [], _ => by simp [Op.eqItems]
  | i :: is, h => by
    have hi : i < 16 := h i (by simp)
    have ih := run_eqItemsP w d l m hl hm is (fun j hj => h j (by simp [hj]))
    have e1 := run_partP w l i (by omega)
    have e2 := run_partP w m i (by omega)
    have e3 := run_equalIn_int (P := Tryz.prog) w d 29 .u64 .u64 (l[i] : Int) (m[i] : Int) Tryz.underlying29
    have e4 : (((l[i] : Int) == (m[i] : Int)) = (l[i]? == m[i]?)) := by
      rw [List.getElem?_eq_getElem (by omega), List.getElem?_eq_getElem (by omega), Bool.eq_iff_iff]
      simp
      exact ⟨fun h => by exact_mod_cast h, fun h => by rw [h]⟩
    simp only [Op.eqItems, Sem.run_bind, Nat.mul_one, e1, e2, e3, Result.andThen_ok, List.all_cons, e4]
    cases hb : (l[i]? == m[i]?)
    · simp
    · simpa using ih
theorem run_eqNumsP (w : World) (d : Nat) (l m : List Nat) (hl : l.length = 16) (hm : m.length = 16) :
    (Op.equalIn (d + 1 + 1) 71 (.agg (numCells .u64 l)) (.agg (numCells .u64 m))).run Tryz.prog w = .ok (decide (l = m)) w := by
  obtain ⟨i, hi⟩ : ∃ i, Tryz.prog.info? 29 = some i := Option.isSome_iff_exists.1 (by kernel_rfl)
  rw [run_equalIn_array w (d + 1) (numCells .u64 l) (numCells .u64 m) Tryz.underlying71 hi, cellsOfP, run_eqItemsP w d l m hl hm _ (by simp)]
  congr 1
  rw [Bool.eq_iff_iff]
  simp only [List.all_eq_true, List.mem_range, beq_iff_eq, decide_eq_true_eq]
  constructor
  · intro h
    apply List.ext_getElem?
    intro i
    by_cases hi : i < 16
    · exact h i hi
    · rw [List.getElem?_eq_none (by omega), List.getElem?_eq_none (by omega)]
  · intro h i _
    rw [h]
theorem run_eqPgP' (w : World) (d idx idx' : Nat) (ns ns' : List Nat) (hn : ns.length = 16) (hn' : ns'.length = 16) :
    (Op.equalIn (d + 1 + 1 + 1) 73 (.agg (pgCells .u64 idx ns)) (.agg (pgCells .u64 idx' ns'))).run Tryz.prog w = .ok (decide (idx = idx' ∧ ns = ns')) w := by
  rw [run_equalIn_struct w (d + 1 + 1) 73 _ _ fieldsP stoodP]
  have hf := fieldsAreP
  generalize (Tryz.prog.fieldsOf 73).toList = fs at hf ⊢
  obtain ⟨f, g, rfl⟩ : ∃ f g, fs = [f, g] := two_of (by have := congrArg List.length hf; rw [List.length_map] at this; exact this)
  simp only [List.map_cons, List.map_nil, List.cons.injEq, Prod.mk.injEq, decide_eq_true_eq, and_true] at hf
  obtain ⟨⟨f1, f2, f3⟩, g1, g2, g3⟩ := hf
  have e1 := run_equalIn_int (P := Tryz.prog) w (d + 1) 22 .u32 .u32 (idx : Int) (idx' : Int) Tryz.underlying22
  have q1 := run_partNumsP w idx ns hn
  have q2 := run_partNumsP w idx' ns' hn'
  have q3 := run_eqNumsP w d ns ns' hn hn'
  rw [Op.eqFields, if_pos f1, f2, f3, Sem.run_bind, run_partIdx, Result.andThen_ok, Sem.run_bind, run_partIdx, Result.andThen_ok, Sem.run_bind, e1, Result.andThen_ok]
  cases hb : ((idx : Int) == (idx' : Int)) with
  | false =>
    have h1 : ¬ idx = idx' := fun h => by rw [h] at hb; simp at hb
    rw [decide_eq_false (fun h => h1 h.1), if_pos (by simp)]
    rfl
  | true =>
    have h1 : idx = idx' := by have := eq_of_beq hb; omega
    rw [if_neg (by simp), Op.eqFields, if_pos g1, g2, g3, Sem.run_bind, q1, Result.andThen_ok, Sem.run_bind, q2, Result.andThen_ok, Sem.run_bind, q3, Result.andThen_ok]
    by_cases h2 : ns = ns'
    · rw [decide_eq_true h2, decide_eq_true ⟨h1, h2⟩, if_neg (by simp)]
      rfl
    · rw [decide_eq_false h2, decide_eq_false (fun h => h2 h.2), if_pos (by simp)]
      rfl
theorem run_eqPgP (w : World) (idx idx' : Nat) (ns ns' : List Nat) (hn : ns.length = 16) (hn' : ns'.length = 16) :
    (Op.equalIn 10000 73 (.agg (pgCells .u64 idx ns)) (.agg (pgCells .u64 idx' ns'))).run Tryz.prog w = .ok (decide (idx = idx' ∧ ns = ns')) w := by
  rw [show (10000 : Nat) = 9997 + 1 + 1 + 1 from rfl]
  exact run_eqPgP' w 9997 idx idx' ns ns' hn hn'


end Go.Proofs.YtdadcengelfmhaaGreat.Tal

/-
  Bits of picks, at the numbers that the statements' head names.
-/
namespace Go.Proofs.YtdadcengelfmhaaGreat.Tal
open Go.RowKit RowLaw Crc Fld
set_option maxRecDepth 100000

theorem isBit_70 (w : World) : Calls Tryz.prog 93 #[.int .i64 70] w fun e w' => e = .returned (.bool true) ∧ w' = w := by
  go_enter Tryz.func93, Tryz.ntmps93
  go_wp2
  go_ret
  exact ⟨rfl, rfl⟩
theorem isBit_1024 (w : World) : Calls Tryz.prog 93 #[.int .i64 1024] w fun e w' => e = .returned (.bool false) ∧ w' = w := by
  go_enter Tryz.func93, Tryz.ntmps93
  go_wp2
  go_ret
  exact ⟨rfl, rfl⟩
def one70 : List Nat := (zs kP).set 1 64
theorem one70_length : one70.length = kP.n := rfl

theorem Bit_70 (w : World) : Calls Tryz.prog 64 #[.agg (pgCells .u64 0 one70), .int .i64 70] w fun e w' => e = .returned (.tuple #[.int .i64 1, .int .i64 0]) ∧ Below w.heap.size w w' := by
  have hN := IsPg.new .u64 73 w 0 one70
  have hb : Below w.heap.size w (w.alloc (.cells (pgCells .u64 0 one70) 73)) := (Below.refl _ _).alloc (Nat.le_refl _) _
  have hc : (w.alloc (.cells (pgCells .u64 0 one70) 73)).cell? ⟨w.heap.size, 2, none⟩ = some (.int .u64 64) := hN.num 1 (by decide)
  go_enter Tryz.func64, Tryz.ntmps64
  go_wp2_with (go_at_call 93; (with_reducible refine (isBit_70 _).mono ?_); rintro e W ⟨rfl, rfl⟩)
  go_ret2
  exact ⟨congrArg (fun z => Ending.returned (.tuple #[.int .i64 z, .int .i64 0])) (by decide +kernel), hb⟩
def TW (w : World) (idx : Nat) (ns : List Nat) : World := (w.alloc (.cells (pgCells .u64 idx ns) 73)).alloc (.cells (pgCells .u64 0 (zs kP)) 73)
theorem keptTW (w : World) (idx : Nat) (ns : List Nat) : Kept w [(w.heap.size + 1, .cells (pgCells .u64 0 (zs kP)) 73), (w.heap.size, .cells (pgCells .u64 idx ns) 73)] (TW w idx ns) := by
  have h := ((Kept.start w).alloc (.cells (pgCells .u64 idx ns) 73)).alloc (.cells (pgCells .u64 0 (zs kP)) 73)
  rwa [show (w.alloc (.cells (pgCells .u64 idx ns) 73)).heap.size = w.heap.size + 1 from by simp] at h
theorem Turn_1024 (w : World) : Calls Tryz.prog 66 #[.agg (pgCells .u64 0 one70), .int .i64 1024] w fun e w' => e = .returned (.tuple #[.agg (pgCells .u64 0 (zs kP)), .int .i64 2]) ∧ Below w.heap.size w w' := by
  have hzv := (zero_of_info infoP).1
  have hi0 := sizeP 0 (zs kP) (zs_length kP)
  have hk := keptTW w 0 one70
  unfold TW at hk
  have hR := hk.at_ List.mem_cons_self
  go_enter Tryz.func66, Tryz.ntmps66
  go_wp2_with (first
    | (go_at_call 93; (with_reducible refine (isBit_1024 _).mono ?_); rintro e W ⟨rfl, rfl⟩)
    | (refine wpList_store_row rfl 73 _ _ rfl _ _ rfl rfl _ _ hR hi0 rfl (pgCells_one _ _) ?_))
  exact bodyPost_ret (results_row_tmp rfl _ _ _ _ _ _ _ rfl (setRow_heap _ _ _ _ _ _ hR) Tryz.underlying73 rfl hi0) rfl ⟨rfl, below_row hk.bel (by omega)⟩

set_option maxHeartbeats 800000 in
theorem Turn_70 (w : World) : Calls Tryz.prog 66 #[.agg (pgCells .u64 0 (zs kP)), .int .i64 70] w fun e w' => e = .returned (.tuple #[.agg (pgCells .u64 0 one70), .int .i64 0]) ∧ Below w.heap.size w w' := by
  have hzv := (zero_of_info infoP).1
  have hi1 := sizeP 0 one70 one70_length
  have hsz : (pgCells .u64 0 (zs kP)).size = (pgCells .u64 0 one70).size := by rw [pgCells_size, pgCells_size, zs_length, one70_length]
  have hk := keptTW w 0 (zs kP)
  have hP0 : IsPg .u64 73 (TW w 0 (zs kP)) w.heap.size 0 (zs kP) := hk.at_ (List.mem_cons_of_mem _ List.mem_cons_self)
  unfold TW at hk hP0
  go_enter Tryz.func66, Tryz.ntmps66
  go_wp2_with (go_at_call 93; (with_reducible refine (isBit_70 _).mono ?_); rintro e W ⟨rfl, rfl⟩; generalize (w.alloc (.cells (pgCells .u64 0 (zs kP)) 73)).alloc (.cells (pgCells .u64 0 (zs kP)) 73) = W at hk hP0 ⊢)
  have hc : W.cell? ⟨w.heap.size, 2, none⟩ = some (.int .u64 0) := hP0.num 1 (by decide)
  have h0 : W.drew.cell? ⟨w.heap.size, 2, none⟩ = some (.int .u64 0) := hc
  have hf : W.drew.frozen? ⟨w.heap.size, 2, none⟩ = false := hP0.frozen 2
  have hP : IsPg .u64 73 (W.drew.setCell ⟨w.heap.size, 2, none⟩ (.int .u64 64)) w.heap.size 0 one70 := by
    have h : IsPg .u64 73 W.drew w.heap.size 0 (zs kP) := hP0
    exact h.setNum 1 64
  have hR : (W.drew.setCell ⟨w.heap.size, 2, none⟩ (.int .u64 64)).heap[w.heap.size + 1]? = some (.cells (pgCells .u64 0 (zs kP)) 73 (0, 0)) := (heap_setCell_other W.drew _ _ _ (show w.heap.size + 1 ≠ w.heap.size by omega)).trans (hk.at_ List.mem_cons_self)
  have hb : Below w.heap.size w (W.drew.setCell ⟨w.heap.size, 2, none⟩ (.int .u64 64)) := hk.bel.drew.setCell (Nat.le_refl _) _
  clear hk
  have w1 : IntKind.i64.wrap 1 = 1 := rfl
  have w6 : IntKind.i64.wrap 6 = 6 := rfl
  have w64 : IntKind.u64.wrap 64 = 64 := rfl
  refine wp_region_still_tail 11 (by kernel_rfl) (by kernel_rfl) ?_
  simp only [List.take_succ_cons, List.take_zero, List.drop_succ_cons, List.drop_zero]
  repeat still_step
  refine wpStill_nil ?_
  change wpList _ _ _ _ _ W.drew
  clear hP0 hc
  generalize W.drew = W1 at h0 hf hP hR hb ⊢
  go_wp2_with (first | (refine wpList_load_row rfl 73 _ rfl w.heap.size rfl _ _ _ _ hP Tryz.underlying73 rfl hi1 ?_) | (refine wpList_store_row rfl 73 _ _ rfl (w.heap.size + 1) _ rfl rfl _ _ hR hi1 hsz (pgCells_one _ _) ?_))
  exact bodyPost_ret (results_row_tmp rfl _ _ _ _ _ _ _ rfl (setRow_heap _ _ _ _ _ _ hR) Tryz.underlying73 rfl hi1) rfl ⟨rfl, below_row hb (by omega)⟩

end Go.Proofs.YtdadcengelfmhaaGreat.Tal

/-
  The statements' known answers of pages, and the walk of their head.
-/
namespace Go.Proofs.YtdadcengelfmhaaGreat.Tal
open Go.RowKit RowLaw Crc Fld
set_option maxRecDepth 100000

def T300 : List Nat := (zs kT).set 0 300
theorem T300_length : T300.length = kT.n := rfl
theorem T300_lt : ∀ j (hj : j < T300.length), T300[j] < 256 ^ kT.wd := fun j hj => by
  have : ∀ x ∈ T300, x < 256 ^ kT.wd := by decide +kernel
  exact this _ (List.getElem_mem hj)
theorem T300_zeros : zerosIn T300 = 63 := by decide +kernel
def B1 : List UInt8 := pgB kT 1 T300
theorem B1_len : B1.length = 256 := pgB_length fT 1 T300_length
theorem B1_eight : B1.take 8 = [84, 1, 0, 0, 0, 44, 1, 0] := by decide +kernel
theorem getE_bad {k : PK} {l : List UInt8} {idx : Nat} (hi : idx < k.lim) (h : getE k l idx ≠ 0) : getE k l idx = 250 := by
  unfold getE at h ⊢
  rw [if_pos hi] at h ⊢
  split
  · rename_i hg; rw [if_pos hg] at h; exact absurd rfl h
  · rfl
theorem got_no {k : PK} {l : List UInt8} {idx : Nat} (h : getE k l idx ≠ 0) : getI k l idx = 0 ∧ getNs k l idx = zs k := ⟨if_neg h, if_neg h⟩
theorem Put_300 (w : World) : Calls Tryz.prog 34 #[.agg (pgCells .u16 1 T300)] w fun e w' => e = .returned (.tuple #[.agg (cellsOf B1), .int .i64 0]) ∧ Below w.heap.size w w' := Put_anyT 1 T300 T300_length T300_lt w
theorem Get_5 (w : World) : Calls Tryz.prog 72 #[.agg (cellsOf zeros), .int .u32 5] w fun e w' => e = .returned (.tuple #[.agg (pgCells .u16 5 (zs kT)), .int .i64 0]) ∧ Below w.heap.size w w' := by
  have h := Get_anyT zeros zeros_length 5 w
  have hE : getE kT zeros 5 = 0 := getE_zero.2 ⟨by decide, .inl rfl⟩
  rw [show getI kT zeros 5 = 5 from if_pos hE, show getNs kT zeros 5 = nsOf kT zeros from if_pos hE, hE, nsOf_zerosT] at h
  exact h
theorem Get_far (w : World) : Calls Tryz.prog 72 #[.agg (cellsOf zeros), .int .u32 16384] w fun e w' => e = .returned (.tuple #[.agg (pgCells .u16 0 (zs kT)), .int .i64 2]) ∧ Below w.heap.size w w' := by
  have h := Get_anyT zeros zeros_length 16384 w
  have hE : getE kT zeros 16384 = 2 := if_neg (by decide)
  have hg := got_no (k := kT) (l := zeros) (idx := 16384) (by rw [hE]; decide)
  rw [hg.1, hg.2, hE] at h
  exact h
theorem Get_2 (w : World) : Calls Tryz.prog 72 #[.agg (cellsOf B1), .int .u32 2] w fun e w' => e = .returned (.tuple #[.agg (pgCells .u16 0 (zs kT)), .int .i64 250]) ∧ Below w.heap.size w w' := by
  have h := Get_anyT B1 B1_len 2 w
  have h0 : getE kT B1 2 ≠ 0 := back_other fT (by decide) T300_length (by decide) (by decide) (by decide)
  have hE : getE kT B1 2 = 250 := getE_bad (by decide) h0
  have hg := got_no h0
  rw [hg.1, hg.2, hE] at h
  exact h
theorem conv_eight (W : World) (b : Nat) (B l : List UInt8) (hB : B.length = 256) (ht : B.take 8 = l) (h : Holds W b B) :
    (convert 168 9 (.slice (some ⟨b, 0, none⟩) 8 256)).run Tryz.prog W = .ok (.string ⟨l.toArray⟩) W := by
  have hl : l.length = 8 := by rw [← ht, List.length_take]; omega
  have := run_convert_bytes_back (P := Tryz.prog) W 168 9 5 ⟨b, 0, none⟩ 256 l Tryz.underlying168 Tryz.underlying5 Tryz.underlying9 (fun j hj => by
    have hj2 : j < B.length := by omega
    rw [Addr.add_mid, Nat.zero_add, h.cell j hj2]
    subst ht
    simp)
  rw [hl] at this
  exact this

end Go.Proofs.YtdadcengelfmhaaGreat.Tal

