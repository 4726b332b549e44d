/-
  A block that is a card's, by its card; the bytes of cards that differ; a burst. Plain mathematics.
-/
import Derived.Test.YtmbmgncajfamiaaCrdMath
namespace Go.Proofs.Ytmbmgncajfamiaa.Crd
open Go.RowKit RowLaw Crc Fld
open Go.Proofs.Ytmbmgncajfamiaa.Node (piece_add leB_leNat blank_replicate fset openSt_cases)

theorem num_some {l : List UInt8} (hl : l.length = 256) (j : Nat) (hj : j < 7) (h : stN l j = some (l, 26 + 4 * j)) (hs : stN l (j + 1) ≠ none) : stN l (j + 1) = some (l, 26 + 4 * (j + 1)) ∧ leB (nAt l j) 4 = piece l (26 + 4 * j) 4 := by
  have hn : numSz 4 = 4 := rfl
  have e : takeNum (some (l, 26 + 4 * j)) 4 = (nAt l j, stN l (j + 1)) := by unfold nAt; rw [stN, h]
  obtain ⟨h1, h2, h3⟩ := takeNum_some e hs
  rw [hn] at h1 h2 h3
  refine ⟨by rw [h3, Nat.mul_add, Nat.mul_one, Nat.add_assoc], ?_⟩
  have hb := leB_leNat (piece l (26 + 4 * j) 4)
  rw [piece_length l _ 4 (by omega)] at hb
  rw [h2]
  exact hb
theorem stN_some {l : List UInt8} (hl : l.length = 256) (h7 : stN l 7 ≠ none) : ∀ j, j ≤ 7 → stN l j = some (l, 26 + 4 * j)
  | 0, _ => (name_some hl (stN_keep 0 7 h7)).2.1
  | j + 1, hj => (num_some hl j (by omega) (stN_some hl h7 j (by omega)) (stN_keep (j + 1) (7 - (j + 1)) (by rw [show j + 1 + (7 - (j + 1)) = 7 from by omega]; exact h7))).1
theorem nAt_some {l : List UInt8} (hl : l.length = 256) (h7 : stN l 7 ≠ none) (j : Nat) (hj : j < 7) : leB (nAt l j) 4 = piece l (26 + 4 * j) 4 :=
  (num_some hl j hj (stN_some hl h7 j (by omega)) (stN_keep (j + 1) (7 - (j + 1)) (by rw [show j + 1 + (7 - (j + 1)) = 7 from by omega]; exact h7))).2
theorem nums_raw (l : List UInt8) : nums (rawC l) = [nAt l 0, nAt l 1, nAt l 2, nAt l 3, nAt l 4, nAt l 5, nAt l 6] := rfl
theorem cdF_raw {l : List UInt8} (hl : l.length = 256) (hs : (onT l).2 ≠ none) (ho : (onT l).1 ≤ 1) : cdF (rawC l) = piece l 1 54 ∧ (onT l).2 = some (l, 55) := by
  have h7 := onT_keep hs
  have e7 := stN_some hl h7 7 (by omega)
  have hn : numSz 1 = 1 := rfl
  have eo : takeNum (some (l, 54)) 1 = ((onT l).1, (onT l).2) := by unfold onT; rw [e7]
  obtain ⟨h1, h2, h3⟩ := takeNum_some eo hs
  rw [hn] at h2 h3
  have hf : flagN (rawC l).only = (onT l).1 := by
    unfold rawC flagN
    by_cases h : (onT l).1 = 1
    · simp [h]
    · have : (onT l).1 = 0 := by omega
      simp [this]
  have hb := leB_leNat (piece l 54 1)
  rw [piece_length l _ 1 (by omega), ← h2, ← hf] at hb
  refine ⟨?_, h3⟩
  unfold cdF cdTo
  rw [hb, (name_some hl (stN_keep 0 7 h7)).2.2, nums_raw]
  simp only [List.take_succ_cons, List.take_zero, List.flatMap_cons, List.flatMap_nil, List.append_nil]
  rw [nAt_some hl h7 0 (by omega), nAt_some hl h7 1 (by omega), nAt_some hl h7 2 (by omega), nAt_some hl h7 3 (by omega), nAt_some hl h7 4 (by omega), nAt_some hl h7 5 (by omega), nAt_some hl h7 6 (by omega)]
  have e : ∀ (k a b : Nat), piece l k a ++ piece l (k + a) b = piece l k (a + b) := fun k a b => (piece_add l k a b).symm
  have e1 := e 46 4 4
  have e2 := e 42 4 8
  have e3 := e 38 4 12
  have e4 := e 34 4 16
  have e5 := e 30 4 20
  have e6 := e 26 4 24
  have e7 := e 1 25 28
  have e8 := e 1 53 1
  simp only [Nat.reduceMul, Nat.reduceAdd] at e1 e2 e3 e4 e5 e6 e7 e8 ⊢
  rw [e1, e2, e3, e4, e5, e6, e7, e8]

theorem take_pieces (l : List UInt8) (hl : l.length = 256) : l.take 252 = l.getD 0 0 :: (piece l 1 54 ++ piece l 55 197) := by
  have h : piece l 0 (1 + (54 + 197)) = l.take 252 := by simp [piece]
  rw [← h, piece_add, piece_add]
  have h0 : piece l 0 1 = [l.getD 0 0] := by
    unfold piece
    rw [List.drop_zero, show (1 : Nat) = 0 + 1 from rfl, List.take_succ_eq_append_getElem (by omega), List.getD_eq_getElem?_getD, List.getElem?_eq_getElem (by omega)]
    rfl
  rw [h0]; rfl
theorem whole {l : List UInt8} (hl : l.length = 256) {m : UInt8} (ho : openSt l m = some (l, 1)) (hb : blankB (piece l 55 197) = true) : fdone (piece l 1 54) m = l := by
  have hp := piece_length l 1 54 (by omega)
  unfold openSt at ho
  split at ho
  · rename_i hc
    have hq := blank_replicate hb
    rw [piece_length l 55 197 (by omega)] at hq
    unfold fdone
    refine Eq.trans (sealB_congr ?_) hc.2
    rw [take_pieces l hl, hq, hc.1, fset, hp, List.take_succ_cons, List.take_append, hp, List.take_of_length_le (by omega), List.take_replicate]
    rfl
  · cases ho
/-- what is got, put again, is the block -/
theorem forth {l : List UInt8} (hl : l.length = 256) (h : getE l = 0) : putB (getC l) = l ∧ putE (getC l) = 0 := by
  have hi := getE_iff.1 h
  have hg : getC l = rawC l := if_pos hi
  rw [hg]
  unfold isC at hi
  rw [Bool.and_eq_true, Bool.and_eq_true, decide_eq_true_eq, decide_eq_true_eq] at hi
  obtain ⟨he, ho, hm⟩ := hi
  have hs := endE_some he
  obtain ⟨hc, h3⟩ := cdF_raw hl hs ho
  have hop := (name_some hl (stN_keep 0 7 (onT_keep hs))).1
  rw [h3] at he
  have hb : blankB (piece l 55 197) = true := by
    have e : endE (some (l, 55)) = if blankB (piece l 55 197) = true then 0 else 250 := rfl
    rw [e] at he
    split at he
    · rename_i hbb; exact hbb
    · cases he
  exact ⟨by rw [putB_yes hm]; unfold cdB; rw [hc]; exact whole hl hop hb, putE_yes hm⟩

/-! A burst of a card's block. -/
theorem burst_none {c : Cd} (hm : mayB c = true) {k n : Nat} (hk : k ≤ 2016) (hn : n < 4294967296) (h0 : n ≠ 0) : getE (burst (cdB c) k n 32) = 250 := by
  have h := (mayB_iff.1 hm).1.2
  refine getE_none (if_neg fun hc => ?_)
  exact h0 ((burst_good (cdB_length h) (fdone_good _ _ (cdF_le h)) (by omega) hn).1 hc.2)

/-! Where a card's things stand. -/
theorem fdone_get (f : List UInt8) (m : UInt8) (hf : f.length = 54) (i : Nat) (h : i < 252) : (fdone f m)[i]? = if i = 0 then some m else if i < 55 then f[i - 1]? else some 0 := by
  by_cases h0 : i = 0
  · subst h0
    rw [if_pos rfl, fdone_eq]
    rfl
  · rw [if_neg h0]
    by_cases h1 : i < 55
    · rw [if_pos h1]
      have ht := fdone_take f m 54 (by omega) (by omega)
      have : (fdone f m)[i]? = ((fdone f m).take (1 + 54))[i]? := (List.getElem?_take_of_lt (by omega)).symm
      rw [this, ht, List.take_of_length_le (by omega)]
      obtain ⟨j, rfl⟩ : ∃ j, i = j + 1 := ⟨i - 1, by omega⟩
      rw [List.getElem?_cons_succ]
      rfl
    · rw [if_neg h1, fdone_zero f m i (by omega) h]
/-- the name, the two sides, the rest, the last byte -/
def midF (c : Cd) : List UInt8 := leB c.id 4 ++ (leB c.parent 4 ++ (leB c.root 4 ++ (leB c.used 4 ++ leB c.quota 4)))
theorem cdF_parts (c : Cd) : cdF c = textField c.s 24 ++ ((leB c.left 4 ++ leB c.right 4) ++ (midF c ++ leB (flagN c.only) 1)) := by
  unfold cdF cdTo midF nums
  simp only [List.take_succ_cons, List.take_zero, List.flatMap_cons, List.flatMap_nil, List.append_nil, List.append_assoc]
theorem midF_length (c : Cd) : (midF c).length = 20 := by
  unfold midF
  simp only [List.length_append, leB_length]
theorem tail_same (T A B R : List UInt8) (h : A.length = B.length) (j : Nat) (hj : T.length + A.length ≤ j) : (T ++ (A ++ R))[j]? = (T ++ (B ++ R))[j]? := by
  rw [List.getElem?_append_right (l₁ := T) (l₂ := A ++ R) (by omega), List.getElem?_append_right (l₁ := T) (l₂ := B ++ R) (by omega), List.getElem?_append_right (l₁ := A) (l₂ := R) (by omega), List.getElem?_append_right (l₁ := B) (l₂ := R) (by omega), h]
theorem head_same (T A B : List UInt8) (j : Nat) (hj : j < T.length) : (T ++ A)[j]? = (T ++ B)[j]? := by
  rw [List.getElem?_append_left (l₁ := T) (l₂ := A) hj, List.getElem?_append_left (l₁ := T) (l₂ := B) hj]
theorem sides_same {c : Cd} (h : c.s.size ≤ 24) (a b i : Nat) (hi : i < 252) (ho : i < 26 ∨ 34 ≤ i) : (cdB c)[i]? = (cdB { c with left := a, right := b })[i]? := by
  have h2 : ({ c with left := a, right := b } : Cd).s.size ≤ 24 := h
  unfold cdB
  rw [fdone_get _ _ (cdF_length h) i hi, fdone_get _ _ (cdF_length h2) i hi]
  by_cases h0 : i = 0
  · rw [if_pos h0, if_pos h0]
  · rw [if_neg h0, if_neg h0]
    by_cases h1 : i < 55
    · rw [if_pos h1, if_pos h1, cdF_parts, cdF_parts]
      have hT := name_length h
      show (textField c.s 24 ++ ((leB c.left 4 ++ leB c.right 4) ++ (midF c ++ leB (flagN c.only) 1)))[i - 1]? = (textField c.s 24 ++ ((leB a 4 ++ leB b 4) ++ (midF c ++ leB (flagN c.only) 1)))[i - 1]?
      rcases ho with ho | ho
      · exact head_same _ _ _ _ (by omega)
      · exact tail_same _ _ _ _ (by simp only [List.length_append, leB_length]) _ (by simp only [List.length_append, leB_length]; omega)
    · rw [if_neg h1, if_neg h1]
theorem only_turn {c : Cd} (h : c.s.size ≤ 24) (i : Nat) (hi : i < 252) : ((cdB c)[i]? = (cdB { c with only := !c.only })[i]?) ↔ i ≠ 54 := by
  have h2 : ({ c with only := !c.only } : Cd).s.size ≤ 24 := h
  unfold cdB
  rw [fdone_get _ _ (cdF_length h) i hi, fdone_get _ _ (cdF_length h2) i hi]
  by_cases h0 : i = 0
  · rw [if_pos h0, if_pos h0]
    simp [h0]
  · rw [if_neg h0, if_neg h0]
    by_cases h1 : i < 55
    · rw [if_pos h1, if_pos h1]
      have e : cdF c = cdTo c 7 ++ leB (flagN c.only) 1 := rfl
      have e2 : cdF { c with only := !c.only } = cdTo c 7 ++ leB (flagN !c.only) 1 := rfl
      have hT := cdTo_length h 7 (by omega)
      rw [e, e2]
      by_cases h3 : i = 54
      · subst h3
        rw [List.getElem?_append_right (by omega), List.getElem?_append_right (by omega), hT]
        cases c.only <;> simp [flagN] <;> decide
      · rw [List.getElem?_append_left (by omega), List.getElem?_append_left (by omega)]
        simp [h3]
    · rw [if_neg h1, if_neg h1]
      simp
      omega

end Go.Proofs.Ytmbmgncajfamiaa.Crd
