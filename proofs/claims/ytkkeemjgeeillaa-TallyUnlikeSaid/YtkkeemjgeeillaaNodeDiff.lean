/-
  Nodes of which one pointer is another: where their blocks are not alike. Plain mathematics.
-/
import Derived.Test.YtkkeemjgeeillaaNodeMath
namespace Go.Proofs.Ytkkeemjgeeillaa.Node
open Go.RowKit RowLaw Crc Fld
set_option maxRecDepth 100000

theorem flat_get : ∀ (ps : List Nat) (j : Nat) (h : j / 4 < ps.length), (ps.flatMap fun n => leB n 4)[j]? = (leB ps[j / 4] 4)[j % 4]?
  | [], j, h => by simp at h
  | p :: ps, j, h => by
    rw [List.flatMap_cons]
    by_cases hj : j < 4
    · rw [List.getElem?_append_left (by rw [leB_length]; omega), Nat.mod_eq_of_lt hj]
      have e : j / 4 = 0 := by omega
      simp only [e, List.getElem_cons_zero]
    · have hl : (j - 4) / 4 < ps.length := by rw [List.length_cons] at h; omega
      rw [List.getElem?_append_right (by rw [leB_length]; omega), leB_length, flat_get ps (j - 4) hl, show (j - 4) % 4 = j % 4 from by omega]
      have e : j / 4 = (j - 4) / 4 + 1 := by omega
      simp only [e, List.getElem_cons_succ]
theorem fdone_get (f : List UInt8) (m : UInt8) (i : Nat) (h1 : 1 ≤ i) (h2 : i < 252) (h3 : i ≤ f.length) : (fdone f m)[i]? = f[i - 1]? := by
  obtain ⟨j, rfl⟩ : ∃ j, i = j + 1 := ⟨i - 1, by omega⟩
  rw [fdone_eq, List.getElem?_append_left (by rw [List.length_take, List.length_cons, List.length_append, List.length_replicate]; omega), List.getElem?_take, if_pos h2, List.getElem?_cons_succ, List.getElem?_append_left (by omega), Nat.add_sub_cancel]
theorem fdone_at0 (f : List UInt8) (m : UInt8) : (fdone f m)[0]? = some m := by rw [fdone_eq]; rfl
/-- but for the four bytes of that pointer (and the sum) the blocks are alike -/
theorem diff_out (lv : Nat) (ps : List Nat) (hp : ps.length = 32) (k v i : Nat) (hi : i < 252) (ho : i < 2 + 4 * k ∨ 6 + 4 * k ≤ i) :
    (fdone (nodeTo lv ps 32) 78)[i]? = (fdone (nodeTo lv (ps.set k v) 32) 78)[i]? := by
  have h1 := nodeTo_length lv ps 32 (by omega)
  have h2 := nodeTo_length lv (ps.set k v) 32 (by rw [List.length_set]; omega)
  by_cases h0 : i = 0
  · subst h0; rw [fdone_at0, fdone_at0]
  · by_cases h3 : i ≤ 129
    · rw [fdone_get _ _ i (by omega) hi (by omega), fdone_get _ _ i (by omega) hi (by omega)]
      unfold nodeTo
      by_cases h4 : i = 1
      · subst h4
        rw [List.getElem?_append_left (by rw [leB_length]; omega), List.getElem?_append_left (by rw [leB_length]; omega)]
      · have hj : (i - 1 - 1) / 4 < ps.length := by omega
        have hne : ¬ k = (i - 1 - 1) / 4 := by omega
        rw [List.getElem?_append_right (by rw [leB_length]; omega), List.getElem?_append_right (by rw [leB_length]; omega), leB_length, List.take_of_length_le (by omega), List.take_of_length_le (by rw [List.length_set]; omega),
          flat_get ps _ hj, flat_get (ps.set k v) _ (by rw [List.length_set]; exact hj), List.getElem_set, if_neg hne]
    · rw [fdone_zero _ _ i (by omega) hi, fdone_zero _ _ i (by omega) hi]
theorem okN_set {lv lv' : Nat} {ps qs : List Nat} (h : okN lv ps = true) (h' : okN lv' qs = true) (k : Nat) (hk : k < qs.length) : okN lv (ps.set k qs[k]) = true := by
  unfold okN at *
  rw [Bool.and_eq_true] at h h'
  rw [Bool.and_eq_true]
  refine ⟨okPs_yes (fun j hj => ?_), h.2⟩
  rw [List.length_set] at hj
  rw [List.getElem_set]
  split
  · exact okPs_at h'.1 k hk
  · exact okPs_at h.1 j hj

end Go.Proofs.Ytkkeemjgeeillaa.Node
