/-
  Of a crash: with everything kept it is what was pending, put down; each byte is an old one or a pending write's.
-/
import Derived.Test.YtlgjgobelceheaaDevDoes
import Derived.Test.YtlgjgobelceheaaDevApartMath
namespace Go.Proofs.Ytlgjgobelceheaa.Dev
open Go.RowKit RowLaw

/-- every index, all sectors -/
def wholeK (n : Nat) : List (Nat × Nat) := (List.range n).map fun i => (i, 15)
theorem wholeK_length (n : Nat) : (wholeK n).length = n := by simp [wholeK]
theorem wholeK_succ (n : Nat) : wholeK (n + 1) = wholeK n ++ [(n, 15)] := by simp [wholeK, List.range_succ]
theorem applyP_length {g : Nat → List UInt8} : ∀ (l : List (Nat × List UInt8)), (∀ a, (g a).length = 256) → (∀ x ∈ l, x.2.length = 256) → ∀ a, (applyP g l a).length = 256 := fun _ hg hl a => applyP_len hg hl a
theorem keepG_whole {pend : List (Nat × List UInt8)} {g : Nat → List UInt8} {i : Nat} (hi : i < pend.length) (hg : ∀ a, (g a).length = 256) (hp : ∀ x ∈ pend, x.2.length = 256) : keepG pend g (i, 15) = upd g pend[i].1 pend[i].2 := by
  unfold keepG
  simp only [List.getElem?_eq_getElem hi]
  rw [keep_all (hg _) (hp _ (List.getElem_mem hi))]
theorem crashG_app (pend : List (Nat × List UInt8)) (g : Nat → List UInt8) (xs : List (Nat × Nat)) (k : Nat × Nat) : crashG pend g (xs ++ [k]) = keepG pend (crashG pend g xs) k := by
  unfold crashG
  rw [List.foldl_append]
  rfl
theorem crashG_whole_to {pend : List (Nat × List UInt8)} {g : Nat → List UInt8} (hg : ∀ a, (g a).length = 256) (hp : ∀ x ∈ pend, x.2.length = 256) : ∀ n, n ≤ pend.length → crashG pend g (wholeK n) = applyP g (pend.take n)
  | 0, _ => rfl
  | n + 1, h => by
    rw [wholeK_succ, crashG_app, crashG_whole_to hg hp n (by omega), applyP_snoc g pend n (by omega), keepG_whole (by omega) (applyP_length _ hg (fun x hx => hp x (List.mem_of_mem_take hx))) hp]
theorem crashG_whole {pend : List (Nat × List UInt8)} {g : Nat → List UInt8} (hg : ∀ a, (g a).length = 256) (hp : ∀ x ∈ pend, x.2.length = 256) : crashG pend g (wholeK pend.length) = applyP g pend := by
  rw [crashG_whole_to hg hp _ (Nat.le_refl _), List.take_length]

/-- each byte behind a crash -/
theorem crashG_from {pend : List (Nat × List UInt8)} (hp : ∀ x ∈ pend, x.2.length = 256) (a j : Nat) (hj : j < 256) : ∀ (ks : List (Nat × Nat)) (g : Nat → List UInt8), (∀ a, (g a).length = 256) →
    (crashG pend g ks a)[j]? = (g a)[j]? ∨ ∃ y ∈ pend, y.1 = a ∧ (crashG pend g ks a)[j]? = y.2[j]?
  | [], _, _ => .inl rfl
  | k :: ks, g, hg => by
    have e : crashG pend g (k :: ks) = crashG pend (keepG pend g k) ks := rfl
    rw [e]
    rcases crashG_from hp a j hj ks (keepG pend g k) (keepG_length hp hg k) with h | h
    · rw [h]
      unfold keepG
      cases h1 : pend[k.1]? with
      | none => exact .inl (by first | rfl | trivial)
      | some x =>
        have hx := List.mem_of_getElem? h1
        by_cases ha : x.1 = a
        · have e2 : upd g x.1 (keepB (g x.1) x.2 k.2) a = keepB (g x.1) x.2 k.2 := by unfold upd; rw [if_pos ha.symm]
          simp only [e2]
          rw [keepB_get (hg _) (hp x hx) k.2 j hj]
          by_cases hb : k.2.testBit (j / 64) = true
          · rw [if_pos hb]; exact .inr ⟨x, hx, ha, rfl⟩
          · rw [if_neg hb, ha]; exact .inl (by first | rfl | trivial)
        · have e2 : upd g x.1 (keepB (g x.1) x.2 k.2) a = g a := by unfold upd; rw [if_neg (fun e => ha e.symm)]
          simp only [e2]
          exact .inl (by first | rfl | trivial)
    · exact .inr h

/-- the device behind i acts of the row xs, no fuse among them -/
structure CP (xs : List Ac) (i : Nat) (s : DS) : Prop where
  n : s.n = 64
  left : s.left = -1
  down : s.down = false
  len : s.pend.length ≤ i
  from_ : ∀ y ∈ s.pend, ∃ (j : Nat) (hj : j < xs.length), xs[j].a = y.1 ∧ y.2 = blockB xs[j].c
theorem CP.new (xs : List Ac) : CP xs 0 (newS 64) := ⟨rfl, rfl, rfl, Nat.le_refl _, fun y hy => by cases hy⟩
theorem CP.skip {xs : List Ac} {i : Nat} {s : DS} (h : CP xs i s) : CP xs (i + 1) s := ⟨h.n, h.left, h.down, by have := h.len; omega, h.from_⟩
theorem CP.succ {xs : List Ac} {i : Nat} {s : DS} (h : CP xs i s) : succS s = { s with left := -1, writes := s.writes + 1 } := by
  rw [succS, if_neg (by rw [h.left]; omega), if_pos h.left]
theorem CP.flush {xs : List Ac} {i : Nat} {s : DS} (h : CP xs i s) : CP xs i (flushS s) ∧ (flushS s).g = applyP s.g s.pend ∧ (flushS s).pend = [] ∧ flushE s = 0 := by
  have e : flushS s = flushed (succS s) := by rw [flushS, if_neg (by rw [h.down]; simp), if_neg (by rw [h.left]; omega)]
  rw [e, h.succ]
  exact ⟨⟨h.n, rfl, h.down, Nat.zero_le _, fun y hy => by cases hy⟩, rfl, rfl, by rw [flushE, if_neg (by rw [h.down, h.left]; simp)]⟩
theorem CP.act {xs : List Ac} {i : Nat} {s : DS} (h : CP xs i s) (hi : i < xs.length) : CP xs (i + 1) (actK xs[i].what xs[i].a xs[i].c s xs[i].keep) := by
  unfold actK
  by_cases h2 : xs[i].what % 5 = 2
  · rw [if_pos h2]; exact h.flush.1.skip
  · rw [if_neg h2]
    by_cases h3 : xs[i].what % 5 = 3
    · rw [if_pos h3]
      exact ⟨h.n, rfl, rfl, Nat.zero_le _, fun y hy => by cases hy⟩
    · rw [if_neg h3]
      unfold writeS
      by_cases h4 : s.n ≤ xs[i].a
      · rw [if_pos h4]; exact h.skip
      · rw [if_neg h4, if_neg (by rw [h.down]; simp)]
        have h' : (pushS s xs[i].a (blockB xs[i].c)).left = -1 := h.left
        rw [succS, if_neg (by rw [h']; omega), if_pos h']
        refine ⟨h.n, rfl, h.down, ?_, ?_⟩
        · show (s.pend ++ [(xs[i].a, blockB xs[i].c)]).length ≤ i + 1
          have := h.len; simp; omega
        · intro y hy
          rcases List.mem_append.1 hy with hy | hy
          · exact h.from_ y hy
          · simp only [List.mem_singleton] at hy
            subst hy
            exact ⟨i, hi, rfl, rfl⟩

end Go.Proofs.Ytlgjgobelceheaa.Dev
