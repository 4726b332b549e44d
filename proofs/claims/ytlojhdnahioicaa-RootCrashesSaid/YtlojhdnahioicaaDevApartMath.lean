/-
  Of a crash the order of what is kept does not count, if no address is pending twice.
-/
import Derived.Test.YtlojhdnahioicaaDev3
namespace Go.Proofs.Ytlojhdnahioicaa.Dev
open Go.RowKit RowLaw
set_option maxRecDepth 100000

def hit (ks : List (Nat × Nat)) (i j : Nat) : Bool := ks.any fun k => k.1 == i && k.2.testBit (j / 64)
theorem hit_reverse (ks : List (Nat × Nat)) (i j : Nat) : hit ks.reverse i j = hit ks i j := by simp [hit]

theorem keepG_length {pend : List (Nat × List UInt8)} {g : Nat → List UInt8} (hp : ∀ x ∈ pend, x.2.length = 256) (hg : ∀ a, (g a).length = 256) (k : Nat × Nat) : ∀ a, (keepG pend g k a).length = 256 := fun a => by
  unfold keepG
  cases h : pend[k.1]? with
  | none => exact hg a
  | some x => exact upd_length hg (keepB_length (hg x.1) (hp x (List.mem_of_getElem? h)) k.2) x.1 a

theorem crashG_at {pend : List (Nat × List UInt8)} (hp : ∀ x ∈ pend, x.2.length = 256) (hd : pend.Pairwise (fun x y => x.1 ≠ y.1)) {i : Nat} (hi : i < pend.length) (j : Nat) (hj : j < 256) :
    ∀ (ks : List (Nat × Nat)) (g : Nat → List UInt8), (∀ a, (g a).length = 256) → (crashG pend g ks pend[i].1)[j]? = if hit ks i j = true then pend[i].2[j]? else (g pend[i].1)[j]?
  | [], g, _ => by simp [crashG, hit]
  | k :: ks, g, hg => by
    have ih := crashG_at hp hd hi j hj ks (keepG pend g k) (keepG_length hp hg k)
    have e : crashG pend g (k :: ks) = crashG pend (keepG pend g k) ks := rfl
    rw [e, ih]
    have e2 : hit (k :: ks) i j = ((k.1 == i && k.2.testBit (j / 64)) || hit ks i j) := by simp [hit]
    rw [e2]
    have hpi := hp _ (List.getElem_mem hi)
    by_cases hk : k.1 = i
    · have h1 : pend[k.1]? = some pend[i] := by rw [hk]; exact List.getElem?_eq_getElem hi
      have e3 : keepG pend g k pend[i].1 = keepB (g pend[i].1) pend[i].2 k.2 := by
        unfold keepG
        simp only [h1]
        exact if_pos rfl
      rw [e3, keepB_get (hg _) hpi k.2 j hj]
      by_cases h2 : hit ks i j = true
      · simp [h2]
      · by_cases h3 : k.2.testBit (j / 64) = true
        · simp [h2, h3, hk]
        · simp [h2, h3]
    · have e3 : keepG pend g k pend[i].1 = g pend[i].1 := by
        unfold keepG
        cases h1 : pend[k.1]? with
        | none => rfl
        | some x =>
          obtain ⟨hk2, rfl⟩ := List.getElem?_eq_some_iff.1 h1
          refine if_neg (fun e => ?_)
          rcases Nat.lt_or_gt_of_ne hk with h | h
          · exact List.pairwise_iff_getElem.1 hd _ _ hk2 hi h e.symm
          · exact List.pairwise_iff_getElem.1 hd _ _ hi hk2 h e
      rw [e3]
      simp [hk]

theorem crashG_off {pend : List (Nat × List UInt8)} {a : Nat} (ha : ∀ x ∈ pend, x.1 ≠ a) : ∀ (ks : List (Nat × Nat)) (g : Nat → List UInt8), crashG pend g ks a = g a
  | [], _ => rfl
  | k :: ks, g => by
    have e : crashG pend g (k :: ks) = crashG pend (keepG pend g k) ks := rfl
    rw [e, crashG_off ha ks]
    unfold keepG
    cases h1 : pend[k.1]? with
    | none => rfl
    | some x => exact if_neg (fun e => ha x (List.mem_of_getElem? h1) e.symm)

theorem crashG_length {pend : List (Nat × List UInt8)} (hp : ∀ x ∈ pend, x.2.length = 256) : ∀ (ks : List (Nat × Nat)) (g : Nat → List UInt8), (∀ a, (g a).length = 256) → ∀ a, (crashG pend g ks a).length = 256
  | [], _, hg => hg
  | k :: ks, _, hg => crashG_length hp ks _ (keepG_length hp hg k)

theorem crashG_turned {pend : List (Nat × List UInt8)} (hp : ∀ x ∈ pend, x.2.length = 256) (hd : pend.Pairwise (fun x y => x.1 ≠ y.1)) (ks : List (Nat × Nat)) (g : Nat → List UInt8) (hg : ∀ a, (g a).length = 256) (a : Nat) :
    crashG pend g ks.reverse a = crashG pend g ks a := by
  by_cases h : ∃ x ∈ pend, x.1 = a
  · obtain ⟨x, hx, rfl⟩ := h
    obtain ⟨i, hi, rfl⟩ := List.mem_iff_getElem.1 hx
    apply List.ext_getElem?
    intro j
    by_cases hj : j < 256
    · rw [crashG_at hp hd hi j hj _ g hg, crashG_at hp hd hi j hj _ g hg, hit_reverse]
    · rw [List.getElem?_eq_none (by rw [crashG_length hp _ g hg]; omega), List.getElem?_eq_none (by rw [crashG_length hp _ g hg]; omega)]
  · have h' : ∀ x ∈ pend, x.1 ≠ a := fun x hx e => h ⟨x, hx, e⟩
    rw [crashG_off h', crashG_off h']

end Go.Proofs.Ytlojhdnahioicaa.Dev
