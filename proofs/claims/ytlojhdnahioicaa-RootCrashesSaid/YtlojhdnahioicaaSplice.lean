/-
  A row stored into the middle of a block that is known whole.
-/
import Derived.Test.YtlojhdnahioicaaKept
namespace Go.Proofs.Ytlojhdnahioicaa.RowLaw
open Go.RowKit

def spliceA (cs : Array Value) (o : Nat) : List Value → Array Value
  | [] => cs
  | v :: vs => spliceA (cs.setIfInBounds o v) (o + 1) vs
theorem splice_size (vs : List Value) : ∀ (cs : Array Value) (o : Nat), (spliceA cs o vs).size = cs.size := by
  induction vs with
  | nil => intro cs o; rfl
  | cons v vs ih => intro cs o; unfold spliceA; rw [ih]; simp
theorem splice_get (vs : List Value) : ∀ (cs : Array Value) (o i : Nat), o + vs.length ≤ cs.size → (spliceA cs o vs)[i]? = if o ≤ i ∧ i < o + vs.length then vs[i - o]? else cs[i]? := by
  induction vs with
  | nil => intro cs o i _; unfold spliceA; rw [if_neg (by simp)]
  | cons v vs ih =>
    intro cs o i h
    simp only [List.length_cons] at h
    unfold spliceA
    rw [ih _ _ _ (by simp; omega)]
    simp only [List.length_cons]
    by_cases h1 : o + 1 ≤ i ∧ i < o + 1 + vs.length
    · rw [if_pos h1, if_pos ⟨by omega, by omega⟩, show i - o = (i - (o + 1)) + 1 from by omega, List.getElem?_cons_succ]
    · rw [if_neg h1]
      by_cases h2 : i = o
      · subst h2
        rw [if_pos ⟨by omega, by omega⟩, Nat.sub_self, List.getElem?_cons_zero, Array.getElem?_setIfInBounds_self_of_lt (by omega)]
      · rw [if_neg (fun h3 => h1 ⟨by omega, by omega⟩), Array.getElem?_setIfInBounds_ne (fun e => h2 e.symm)]
theorem setCells_block (q : Nat) (T : TypeId) (vs : List Value) : ∀ (cs : Array Value) (o : Nat) (W : World), W.heap[q]? = some (.cells cs T (0, 0)) →
    (W.setCells q o vs).heap[q]? = some (.cells (spliceA cs o vs) T (0, 0)) ∧ (∀ k, k ≠ q → (W.setCells q o vs).heap[k]? = W.heap[k]?) ∧ (W.setCells q o vs).os = W.os ∧ (W.setCells q o vs).tape = W.tape ∧ (W.setCells q o vs).output = W.output ∧ (W.setCells q o vs).heap.size = W.heap.size := by
  induction vs with
  | nil => intro cs o W h; exact ⟨h, fun _ _ => rfl, rfl, rfl, rfl, rfl⟩
  | cons v vs ih =>
    intro cs o W h
    have h1 := heap_setCell_same W q o cs T v h
    obtain ⟨i1, i2, i3, i4, i5, i6⟩ := ih (cs.setIfInBounds o v) (o + 1) (W.setCell ⟨q, o, none⟩ v) h1
    refine ⟨i1, fun k hk => (i2 k hk).trans (heap_setCell_other W ⟨q, o, none⟩ k v hk), i3, i4, i5, i6.trans (by simp [World.setCell])⟩
theorem there_block {W : World} {q : Nat} {cs : Array Value} {T : TypeId} (h : W.heap[q]? = some (.cells cs T (0, 0))) (o n : Nat) (hn : o + n ≤ cs.size) : W.there q o n := fun j hj =>
  ⟨by rw [cell_of_row W q (o + j) _ _ _ h, Array.getElem?_eq_getElem (by omega)]; rfl, frozen_of_row W q (o + j) _ _ h⟩
theorem quiet_load_mid {P : Program} {I : World → Prop} {K : Act → Prop} {o : Oper} {a : Act} (ty : TypeId) (x : Operand) (ho : o.op = .load ty x) (b off : Nat) (hx : a.eval x = .pointer (some ⟨b, off, none⟩)) (cs : List Value) (d : TypeDesc) (hc : ∀ w : World, I w → w.rangeAt b off cs)
    (hu : P.underlying ty = some d) (hd : d.isRow = true) (hi : (P.info? ty).map (·.size) = some cs.length)
    (hk : K (a.put o.dst (.agg cs.toArray))) : o.quiet P a (fun w' => ∃ x : {w' : World // I w'}, w' = x.1) K :=
  ⟨.agg cs.toArray, fun w hw => by
    obtain ⟨y, rfl⟩ := hw
    unfold Oper.quietAt execOp
    simp only [ho, hx, Instr.loadAt, Instr.sureAddr, Sem.run_bind, Sem.run_pure, Result.andThen_ok, run_loadVar_mid y.1 b off ty cs d (hc y.1 y.2) hu hd hi]
    exact ⟨rfl, rfl⟩, hk⟩
end Go.Proofs.Ytlojhdnahioicaa.RowLaw
namespace Go.Proofs.Ytlojhdnahioicaa
open Go.RowKit RowLaw
theorem Kept.setCells {w W : World} {K : List (Nat × Obj)} {q o : Nat} {cs : Array Value} {T : TypeId} {vs : List Value} (h : Kept w ((q, .cells cs T (0, 0)) :: K) W) (hne : ∀ x ∈ K, x.1 ≠ q) : Kept w ((q, .cells (spliceA cs o vs) T (0, 0)) :: K) (W.setCells q o vs) := by
  obtain ⟨h1, h2, h3, h4, h5, h6⟩ := setCells_block q T vs cs o W (h.at_ List.mem_cons_self)
  exact h.put hne h1 h3 h4 h5 (by omega) h2
end Go.Proofs.Ytlojhdnahioicaa
