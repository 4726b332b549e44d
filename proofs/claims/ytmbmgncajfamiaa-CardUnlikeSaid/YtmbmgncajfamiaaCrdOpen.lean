/-
  Arguments that are cards by value, or two words, opened.
-/
import Derived.Test.YtmbmgncajfamiaaCrdRefMay
import Derived.Test.YtmbmgncajfamiaaLawKit
import Derived.ChangeSame
namespace Go.Proofs.Ytmbmgncajfamiaa.Crd
open Go.RowKit Go.ChangeShapes Go.WideShapes
set_option maxRecDepth 100000

theorem cellsCard : Try.prog.cellsOf 26 = 9 := by kernel_rfl
theorem cellsVol : Try.prog.cellsOf 24 = 6 := by kernel_rfl
theorem cells1S : Try.prog.cellsOf 9 = 1 := by kernel_rfl
theorem cells1U : Try.prog.cellsOf 22 = 1 := by kernel_rfl
theorem cells1B : Try.prog.cellsOf 4 = 1 := by kernel_rfl
section
variable {H : Type} {enc : TypeId × Value → H} {W : World} {base : Nat} {sp : Nat → Bool} {held : Bool}
theorem open_vol {n : Nat} {v0 v1 v2 v3 v4 v5 : Value} {y : DataW H × List MemPlace} (h : DataW.trod enc Try.prog W base sp held n 24 [v0, v1, v2, v3, v4, v5] = some y) :
    ∃ (i p r u q : Nat) (b : Bool), v0 = .int .u32 (i : Int) ∧ v1 = .int .u32 (p : Int) ∧ v2 = .int .u32 (r : Int) ∧ v3 = .int .u32 (u : Int) ∧ v4 = .int .u32 (q : Int) ∧ v5 = .bool b ∧ i < 4294967296 ∧ p < 4294967296 ∧ r < 4294967296 ∧ u < 4294967296 ∧ q < 4294967296 := by
  obtain ⟨ys, n', _, _, _, hylen, hfs⟩ := DataW.trod_struct Try.underlying24 h
  have hyl : ys.length = 6 := hylen
  have t0 : DataW.trod enc Try.prog W base sp held n' 22 (([v0, v1, v2, v3, v4, v5].drop 0).take (Try.prog.cellsOf 22)) = ys[0]? := hfs 0 _ rfl
  have t1 : DataW.trod enc Try.prog W base sp held n' 22 (([v0, v1, v2, v3, v4, v5].drop 1).take (Try.prog.cellsOf 22)) = ys[1]? := hfs 1 _ rfl
  have t2 : DataW.trod enc Try.prog W base sp held n' 22 (([v0, v1, v2, v3, v4, v5].drop 2).take (Try.prog.cellsOf 22)) = ys[2]? := hfs 2 _ rfl
  have t3 : DataW.trod enc Try.prog W base sp held n' 22 (([v0, v1, v2, v3, v4, v5].drop 3).take (Try.prog.cellsOf 22)) = ys[3]? := hfs 3 _ rfl
  have t4 : DataW.trod enc Try.prog W base sp held n' 22 (([v0, v1, v2, v3, v4, v5].drop 4).take (Try.prog.cellsOf 22)) = ys[4]? := hfs 4 _ rfl
  have t5 : DataW.trod enc Try.prog W base sp held n' 4 (([v0, v1, v2, v3, v4, v5].drop 5).take (Try.prog.cellsOf 4)) = ys[5]? := hfs 5 _ rfl
  rw [cells1U, List.getElem?_eq_getElem (by omega)] at t0 t1 t2 t3 t4
  rw [cells1B, List.getElem?_eq_getElem (by omega)] at t5
  replace t0 : DataW.trod enc Try.prog W base sp held n' 22 [v0] = some (ys[0]'(by omega)) := t0
  replace t1 : DataW.trod enc Try.prog W base sp held n' 22 [v1] = some (ys[1]'(by omega)) := t1
  replace t2 : DataW.trod enc Try.prog W base sp held n' 22 [v2] = some (ys[2]'(by omega)) := t2
  replace t3 : DataW.trod enc Try.prog W base sp held n' 22 [v3] = some (ys[3]'(by omega)) := t3
  replace t4 : DataW.trod enc Try.prog W base sp held n' 22 [v4] = some (ys[4]'(by omega)) := t4
  replace t5 : DataW.trod enc Try.prog W base sp held n' 4 [v5] = some (ys[5]'(by omega)) := t5
  obtain ⟨z0, e0, _, w0⟩ := DataW.trod_int Try.underlying22 t0
  obtain ⟨z1, e1, _, w1⟩ := DataW.trod_int Try.underlying22 t1
  obtain ⟨z2, e2, _, w2⟩ := DataW.trod_int Try.underlying22 t2
  obtain ⟨z3, e3, _, w3⟩ := DataW.trod_int Try.underlying22 t3
  obtain ⟨z4, e4, _, w4⟩ := DataW.trod_int Try.underlying22 t4
  obtain ⟨b, e5, _⟩ := DataW.trod_bool Try.underlying4 t5
  simp only [List.cons.injEq, and_true] at e0 e1 e2 e3 e4 e5
  obtain ⟨i, rfl, hi⟩ := LawKit.nat_of_u32 w0
  obtain ⟨p, rfl, hp⟩ := LawKit.nat_of_u32 w1
  obtain ⟨r, rfl, hr⟩ := LawKit.nat_of_u32 w2
  obtain ⟨u, rfl, hu⟩ := LawKit.nat_of_u32 w3
  obtain ⟨q, rfl, hq⟩ := LawKit.nat_of_u32 w4
  exact ⟨i, p, r, u, q, b, e0, e1, e2, e3, e4, e5, hi, hp, hr, hu, hq⟩
theorem open_card {b0 : Nat} {v : Value} {d : DataW H} {pl : List MemPlace} (hval : Value.okWide Try.prog W .any b0 26 v) (h : DataW.Trod enc Try.prog W base sp held 26 v d pl) :
    ∃ c : Cd, v = .agg (cells c) ∧ c.Fits := by
  simp only [Value.okWide, Try.underlying26] at hval
  obtain ⟨cs, rfl, hsz, _⟩ := hval
  obtain ⟨fuel, hf⟩ := h
  have hcl : cs.toList.length = 9 := by
    rw [Array.length_toList, hsz]; exact cellsCard
  have hcs : (Value.agg cs).cells.toList = cs.toList := rfl
  rw [hcs] at hf
  obtain ⟨v0, v1, v2, v3, v4, v5, v6, v7, v8, hl⟩ : ∃ v0 v1 v2 v3 v4 v5 v6 v7 v8, cs.toList = [v0, v1, v2, v3, v4, v5, v6, v7, v8] := by
    match cs.toList, hcl with
    | [v0, v1, v2, v3, v4, v5, v6, v7, v8], _ => exact ⟨v0, v1, v2, v3, v4, v5, v6, v7, v8, rfl⟩
  rw [hl] at hf
  obtain ⟨ys, n', _, _, _, hylen, hfs⟩ := DataW.trod_struct Try.underlying26 hf
  have hyl : ys.length = 4 := hylen
  have t0 : DataW.trod enc Try.prog W base sp held n' 9 (([v0, v1, v2, v3, v4, v5, v6, v7, v8].drop 0).take (Try.prog.cellsOf 9)) = ys[0]? := hfs 0 _ rfl
  have t1 : DataW.trod enc Try.prog W base sp held n' 22 (([v0, v1, v2, v3, v4, v5, v6, v7, v8].drop 1).take (Try.prog.cellsOf 22)) = ys[1]? := hfs 1 _ rfl
  have t2 : DataW.trod enc Try.prog W base sp held n' 22 (([v0, v1, v2, v3, v4, v5, v6, v7, v8].drop 2).take (Try.prog.cellsOf 22)) = ys[2]? := hfs 2 _ rfl
  have t3 : DataW.trod enc Try.prog W base sp held n' 24 (([v0, v1, v2, v3, v4, v5, v6, v7, v8].drop 3).take (Try.prog.cellsOf 24)) = ys[3]? := hfs 3 _ rfl
  rw [cells1S, List.getElem?_eq_getElem (by omega)] at t0
  rw [cells1U, List.getElem?_eq_getElem (by omega)] at t1 t2
  rw [cellsVol, List.getElem?_eq_getElem (by omega)] at t3
  replace t0 : DataW.trod enc Try.prog W base sp held n' 9 [v0] = some (ys[0]'(by omega)) := t0
  replace t1 : DataW.trod enc Try.prog W base sp held n' 22 [v1] = some (ys[1]'(by omega)) := t1
  replace t2 : DataW.trod enc Try.prog W base sp held n' 22 [v2] = some (ys[2]'(by omega)) := t2
  replace t3 : DataW.trod enc Try.prog W base sp held n' 24 [v3, v4, v5, v6, v7, v8] = some (ys[3]'(by omega)) := t3
  obtain ⟨s, e0, _, _⟩ := DataW.trod_string Try.underlying9 t0
  obtain ⟨z1, e1, _, w1⟩ := DataW.trod_int Try.underlying22 t1
  obtain ⟨z2, e2, _, w2⟩ := DataW.trod_int Try.underlying22 t2
  simp only [List.cons.injEq, and_true] at e0 e1 e2
  obtain ⟨x, rfl, hx⟩ := LawKit.nat_of_u32 w1
  obtain ⟨y, rfl, hy⟩ := LawKit.nat_of_u32 w2
  obtain ⟨i, p, r, u, q, b, e3, e4, e5, e6, e7, e8, hi, hp, hr, hu, hq⟩ := open_vol t3
  refine ⟨⟨s, x, y, i, p, r, u, q, b⟩, ?_, hx, hy, hi, hp, hr, hu, hq⟩
  have : cs = cs.toList.toArray := by simp
  rw [this, hl, e0, e1, e2, e3, e4, e5, e6, e7, e8]
  rfl

theorem cells2 : Try.prog.cellsOf 45 = 2 := by kernel_rfl
theorem open_two {b0 : Nat} {v : Value} {d : DataW H} {pl : List MemPlace} (hval : Value.okWide Try.prog W .any b0 45 v) (h : DataW.Trod enc Try.prog W base sp held 45 v d pl) :
    ∃ x y : Nat, v = .agg #[.int .u32 (x : Int), .int .u32 (y : Int)] ∧ x < 4294967296 ∧ y < 4294967296 := by
  simp only [Value.okWide, Try.underlying45] at hval
  obtain ⟨cs, rfl, hsz, _⟩ := hval
  obtain ⟨fuel, hf⟩ := h
  have hcl : cs.toList.length = 2 := by
    rw [Array.length_toList, hsz]; exact cells2
  have hcs : (Value.agg cs).cells.toList = cs.toList := rfl
  rw [hcs] at hf
  obtain ⟨v0, v1, hl⟩ : ∃ v0 v1, cs.toList = [v0, v1] := by
    match cs.toList, hcl with
    | [v0, v1], _ => exact ⟨v0, v1, rfl⟩
  rw [hl] at hf
  obtain ⟨xs, m, rfl, hx, hlx, hxl, hi⟩ := DataW.trod_array Try.underlying45 hf
  have t0 := hi 0 (by omega)
  have t1 := hi 1 (by omega)
  rw [cells1U, List.getElem?_eq_getElem (by omega)] at t0 t1
  replace t0 : DataW.trod enc Try.prog W base sp held m 22 [v0] = some (xs[0]'(by omega)) := t0
  replace t1 : DataW.trod enc Try.prog W base sp held m 22 [v1] = some (xs[1]'(by omega)) := t1
  obtain ⟨z0, e0, _, w0⟩ := DataW.trod_int Try.underlying22 t0
  obtain ⟨z1, e1, _, w1⟩ := DataW.trod_int Try.underlying22 t1
  simp only [List.cons.injEq, and_true] at e0 e1
  obtain ⟨x, rfl, hx⟩ := LawKit.nat_of_u32 w0
  obtain ⟨y, rfl, hy⟩ := LawKit.nat_of_u32 w1
  refine ⟨x, y, ?_, hx, hy⟩
  have : cs = cs.toList.toArray := by simp
  rw [this, hl, e0, e1]
end

end Go.Proofs.Ytmbmgncajfamiaa.Crd
