/-
  An argument that is a slice of items, opened.
-/
import Derived.Test.YtfefpdaohclgfaaFldItems
import Derived.Test.YtfefpdaohclgfaaLawKit
import Derived.Deep.Slices
import Derived.Deep.Fields
import Derived.ChangeSame
namespace Go.Proofs.Ytfefpdaohclgfaa.Fld
open Go.RowKit Go.ChangeShapes Go.WideShapes Go.Deep

instance : Inhabited It := ⟨⟨false, 0, ⟨#[]⟩, 0⟩⟩

theorem itemFields : Try.prog.cellsOf 45 = 4 := by kernel_rfl

theorem cellsBool : Try.prog.cellsOf 4 = 1 := by kernel_rfl
theorem cellsU64 : Try.prog.cellsOf 43 = 1 := by kernel_rfl
theorem cellsStr : Try.prog.cellsOf 9 = 1 := by kernel_rfl
theorem cellsInt : Try.prog.cellsOf 3 = 1 := by kernel_rfl

theorem open_items {H : Type} {enc : TypeId × Value → H} {W : World} {base b0 : Nat} {sp : Nat → Bool} {held : Bool} {v : Value} {d : DataW H} {ps : List MemPlace}
    (hval : Value.okWide Try.prog W .any b0 37 v) (h : DataW.Trod enc Try.prog W base sp held 37 v d ps) :
    ∃ (pa : Option Addr) (cap : Nat) (xs : List It), v = .slice pa xs.length cap ∧ xs.length ≤ maxLen ∧ Items W pa xs := by
  obtain ⟨a0, len, cap, rfl⟩ := okWide_slice Try.underlying37 hval
  obtain ⟨fuel, hf⟩ := h
  rcases open_slice Try.underlying37 hf with ⟨hcs, _⟩ | ⟨a, len', cap', m, nf, D, Pl, hcs, hbase, hl, hm, hmm, hx, hi⟩
  · simp only [Value.cells, List.cons.injEq, Value.slice.injEq, and_true] at hcs
    obtain ⟨rfl, rfl, rfl⟩ := hcs
    exact ⟨none, 0, [], rfl, by unfold maxLen; simp, .inl rfl⟩
  · simp only [Value.cells, List.cons.injEq, Value.slice.injEq, and_true] at hcs
    obtain ⟨rfl, rfl, rfl⟩ := hcs
    have hlm : len ≤ m := by rw [hmm]; split <;> omega
    by_cases h0 : len = 0
    · subst h0
      exact ⟨some a, cap, [], rfl, by unfold maxLen; simp, .inl rfl⟩
    · have key : ∀ i, i < len → ∃ x : It, (W.cell? (a.add (i * 4)) = some (.bool x.is) ∧ W.cell? (a.add (i * 4 + 1)) = some (.int .u64 (x.n : Int)) ∧ W.cell? (a.add (i * 4 + 2)) = some (.string x.s) ∧ W.cell? (a.add (i * 4 + 3)) = some (.int .i64 x.size)) ∧
          x.n < 18446744073709551616 ∧ x.s.size ≤ maxLen := by
        intro i hil
        obtain ⟨cs, hc, ht⟩ := hi i (by omega)
        rw [itemFields] at hc
        obtain ⟨ys, n', _, _, _, hylen, hfs⟩ := DataW.trod_struct Try.underlying45 ht
        obtain ⟨_, hcl, hat⟩ := World.cells?_some hc
        obtain ⟨v0, v1, v2, v3, rfl⟩ : ∃ v0 v1 v2 v3, cs = [v0, v1, v2, v3] := by
          match cs, hcl with
          | [v0, v1, v2, v3], _ => exact ⟨v0, v1, v2, v3, rfl⟩
        have at_ : ∀ j, (a.add (i * 4)).add j = a.add (i * 4 + j) := fun j => Go.Deep.add_add a (i * 4) j
        have c0 := hat 0 (by omega)
        have c1 := hat 1 (by omega)
        have c2 := hat 2 (by omega)
        have c3 := hat 3 (by omega)
        rw [at_] at c0 c1 c2 c3
        have hyl : ys.length = 4 := hylen
        have t0 : DataW.trod enc Try.prog W base sp held n' 4 (([v0, v1, v2, v3].drop 0).take (Try.prog.cellsOf 4)) = ys[0]? := hfs 0 _ rfl
        rw [cellsBool, List.getElem?_eq_getElem (by omega)] at t0
        replace t0 : DataW.trod enc Try.prog W base sp held n' 4 [v0] = some (ys[0]'(by omega)) := t0
        have t1 : DataW.trod enc Try.prog W base sp held n' 43 (([v0, v1, v2, v3].drop 1).take (Try.prog.cellsOf 43)) = ys[1]? := hfs 1 _ rfl
        rw [cellsU64, List.getElem?_eq_getElem (by omega)] at t1
        replace t1 : DataW.trod enc Try.prog W base sp held n' 43 [v1] = some (ys[1]'(by omega)) := t1
        have t2 : DataW.trod enc Try.prog W base sp held n' 9 (([v0, v1, v2, v3].drop 2).take (Try.prog.cellsOf 9)) = ys[2]? := hfs 2 _ rfl
        rw [cellsStr, List.getElem?_eq_getElem (by omega)] at t2
        replace t2 : DataW.trod enc Try.prog W base sp held n' 9 [v2] = some (ys[2]'(by omega)) := t2
        have t3 : DataW.trod enc Try.prog W base sp held n' 3 (([v0, v1, v2, v3].drop 3).take (Try.prog.cellsOf 3)) = ys[3]? := hfs 3 _ rfl
        rw [cellsInt, List.getElem?_eq_getElem (by omega)] at t3
        replace t3 : DataW.trod enc Try.prog W base sp held n' 3 [v3] = some (ys[3]'(by omega)) := t3
        obtain ⟨b, e0, _⟩ := DataW.trod_bool Try.underlying4 t0
        obtain ⟨z, e1, _, hz⟩ := DataW.trod_int Try.underlying43 t1
        obtain ⟨s, e2, _, hs⟩ := DataW.trod_string Try.underlying9 t2
        obtain ⟨q, e3, _, _⟩ := DataW.trod_int Try.underlying3 t3
        obtain ⟨k, rfl, hk⟩ := LawKit.nat_of_u64 hz
        simp only [List.cons.injEq, and_true] at e0 e1 e2 e3
        subst e0 e1 e2 e3
        exact ⟨⟨b, k, s, q⟩, ⟨c0, c1, c2, c3⟩, hk, hs⟩
      obtain ⟨V, hV⟩ := choose_lt (α := It) (p := fun i x => (W.cell? (a.add (i * 4)) = some (.bool x.is) ∧ W.cell? (a.add (i * 4 + 1)) = some (.int .u64 (x.n : Int)) ∧ W.cell? (a.add (i * 4 + 2)) = some (.string x.s) ∧ W.cell? (a.add (i * 4 + 3)) = some (.int .i64 x.size)) ∧
          x.n < 18446744073709551616 ∧ x.s.size ≤ maxLen) key
      have hsp : a.spot = none := by
        have := (hV 0 (by omega)).1.1
        have e : a.add (0 * 4) = a := by simp [Addr.add]
        rw [e] at this
        cases hq : a.spot with
        | none => rfl
        | some q =>
          exfalso
          unfold World.cell? at this
          rw [hq] at this
          split at this <;> simp at this
      obtain ⟨ab, ao, asp⟩ := a
      simp only at hsp
      subst hsp
      refine ⟨some ⟨ab, ao, none⟩, cap, (List.range len).map V, by simp, by simp; omega, .inr ⟨ab, ao, rfl, ?_, ?_⟩⟩
      · have := (hV 0 (by omega)).1.1
        rcases Nat.lt_or_ge ab W.heap.size with hlt | hge
        · exact hlt
        · exfalso
          have e : (⟨ab, ao, none⟩ : Addr).add (0 * 4) = ⟨ab, ao, none⟩ := by simp [Addr.add]
          rw [e] at this
          unfold World.cell? at this
          rw [Array.getElem?_eq_none hge] at this
          simp at this
      · intro i hil
        have hil' : i < len := by simpa using hil
        obtain ⟨⟨c0, c1, c2, c3⟩, hn, hs⟩ := hV i hil'
        rw [Addr.add_mid] at c0 c1 c2 c3
        have hg : ((List.range len).map V)[i] = V i := by simp
        rw [hg]
        exact ⟨⟨c0, c1, c2, c3⟩, hn, hs⟩

end Go.Proofs.Ytfefpdaohclgfaa.Fld
