/-
  Pages of which one count is another: where their blocks are not alike, how many are 0. Plain mathematics.
-/
import Derived.Test.YtkkeemjgeeillaaTalMath
import Derived.Test.YtkkeemjgeeillaaNodeDiff
namespace Go.Proofs.Ytkkeemjgeeillaa.Tal
open Go.RowKit RowLaw Crc Fld
set_option maxRecDepth 100000

theorem flat_get2 : ∀ (ps : List Nat) (j : Nat) (h : j / 2 < ps.length), (ps.flatMap fun n => leB n 2)[j]? = (leB ps[j / 2] 2)[j % 2]?
  | [], j, h => by simp at h
  | p :: ps, j, h => by
    rw [List.flatMap_cons]
    by_cases hj : j < 2
    · rw [List.getElem?_append_left (by rw [leB_length]; omega), Nat.mod_eq_of_lt hj]
      have e : j / 2 = 0 := by omega
      simp only [e, List.getElem_cons_zero]
    · have hl : (j - 2) / 2 < ps.length := by rw [List.length_cons] at h; omega
      rw [List.getElem?_append_right (by rw [leB_length]; omega), leB_length, flat_get2 ps (j - 2) hl, show (j - 2) % 2 = j % 2 from by omega]
      have e : j / 2 = (j - 2) / 2 + 1 := by omega
      simp only [e, List.getElem_cons_succ]
theorem pageT (idx : Nat) (ns : List Nat) (h : ns.length = kT.n) : page kT idx ns = leB idx 4 ++ ns.flatMap fun n => leB n 2 := by
  unfold page pgTo
  rw [List.take_of_length_le (by omega)]
  rfl
/-- but for the two bytes of that count (and the sum) the blocks are alike -/
theorem diff_out (idx : Nat) (tn : List Nat) (h : tn.length = kT.n) (k v i : Nat) (hi : i < 252) (ho : i ≠ 5 + 2 * k ∧ i ≠ 6 + 2 * k) : (pgB kT idx tn)[i]? = (pgB kT idx (tn.set k v))[i]? := by
  have h' : (tn.set k v).length = kT.n := by rw [List.length_set]; exact h
  have h64 : kT.n = 64 := rfl
  unfold pgB
  have h1 := page_length fT idx h
  have h2 := page_length fT idx h'
  by_cases h0 : i = 0
  · subst h0; rw [Node.fdone_at0, Node.fdone_at0]
  · by_cases h3 : i ≤ 132
    · rw [Node.fdone_get _ _ i (by omega) hi (by omega), Node.fdone_get _ _ i (by omega) hi (by omega), pageT idx tn h, pageT idx _ h']
      by_cases h4 : i - 1 < 4
      · rw [List.getElem?_append_left (by rw [leB_length]; omega), List.getElem?_append_left (by rw [leB_length]; omega)]
      · have hj : (i - 1 - 4) / 2 < tn.length := by omega
        have hne : ¬ k = (i - 1 - 4) / 2 := by omega
        rw [List.getElem?_append_right (by rw [leB_length]; omega), List.getElem?_append_right (by rw [leB_length]; omega), leB_length,
          flat_get2 tn _ hj, flat_get2 (tn.set k v) _ (by rw [List.length_set]; exact hj), List.getElem_set, if_neg hne]
    · rw [fdone_zero _ _ i (by omega) hi, fdone_zero _ _ i (by omega) hi]
theorem zerosIn_cons (n : Nat) (ns : List Nat) : zerosIn (n :: ns) = (if n = 0 then 1 else 0) + zerosIn ns := by
  unfold zerosIn
  rw [List.filter_cons]
  by_cases h : n = 0
  · simp [h]; omega
  · simp [h]
theorem zerosIn_set : ∀ (ns : List Nat) (k v : Nat) (h : k < ns.length), zerosIn (ns.set k v) + (if ns[k] = 0 then 1 else 0) = zerosIn ns + if v = 0 then 1 else 0
  | [], _, _, h => by simp at h
  | n :: ns, 0, v, _ => by
    rw [List.set_cons_zero, zerosIn_cons, zerosIn_cons, List.getElem_cons_zero]
    generalize (if n = 0 then 1 else 0) = a
    generalize (if v = 0 then 1 else 0) = b
    omega
  | n :: ns, k + 1, v, h => by
    have hk : k < ns.length := by simpa using h
    have ih := zerosIn_set ns k v hk
    rw [List.set_cons_succ, zerosIn_cons, zerosIn_cons, List.getElem_cons_succ]
    generalize (if n = 0 then 1 else 0) = a
    generalize (if v = 0 then 1 else 0) = b at ih ⊢
    generalize (if ns[k] = 0 then 1 else 0) = c at ih ⊢
    omega
theorem set_lt {b : Nat} {ns : List Nat} (hs : ∀ j (hj : j < ns.length), ns[j] < b) (k v : Nat) (hv : v < b) : ∀ j (hj : j < (ns.set k v).length), (ns.set k v)[j] < b := fun j hj => by
  rw [List.getElem_set]
  split
  · exact hv
  · exact hs j (by rw [List.length_set] at hj; exact hj)

end Go.Proofs.Ytkkeemjgeeillaa.Tal
