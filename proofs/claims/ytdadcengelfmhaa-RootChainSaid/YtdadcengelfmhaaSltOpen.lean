/-
  Arguments that are roots by value, opened.
-/
import Derived.Test.YtdadcengelfmhaaSlt1
import Derived.Test.YtdadcengelfmhaaLawKit
import Derived.ChangeSame
namespace Go.Proofs.Ytdadcengelfmhaa.Slt
open Go.RowKit Go.ChangeShapes Go.WideShapes
set_option maxRecDepth 100000

theorem cellsRoot : Try.prog.cellsOf 25 = 8 := by kernel_rfl
theorem cells1Q : Try.prog.cellsOf 22 = 1 := by kernel_rfl
theorem cells1U : Try.prog.cellsOf 23 = 1 := by kernel_rfl
theorem cells1B : Try.prog.cellsOf 5 = 1 := by kernel_rfl
section
variable {H : Type} {enc : TypeId × Value → H} {W : World} {base : Nat} {sp : Nat → Bool} {held : Bool}
theorem open_root {b0 : Nat} {v : Value} {d : DataW H} {pl : List MemPlace} (hval : Value.okWide Try.prog W .any b0 25 v) (h : DataW.Trod enc Try.prog W base sp held 25 v d pl) :
    ∃ r : Rt, v = .agg (cells r) ∧ r.Fits := by
  simp only [Value.okWide, Try.underlying25] at hval
  obtain ⟨cs, rfl, hsz, _⟩ := hval
  obtain ⟨fuel, hf⟩ := h
  have hcl : cs.toList.length = 8 := by
    rw [Array.length_toList, hsz]; exact cellsRoot
  have hcs : (Value.agg cs).cells.toList = cs.toList := rfl
  rw [hcs] at hf
  obtain ⟨v0, v1, v2, v3, v4, v5, v6, v7, hl⟩ : ∃ v0 v1 v2 v3 v4 v5 v6 v7, cs.toList = [v0, v1, v2, v3, v4, v5, v6, v7] := by
    match cs.toList, hcl with
    | [v0, v1, v2, v3, v4, v5, v6, v7], _ => exact ⟨v0, v1, v2, v3, v4, v5, v6, v7, rfl⟩
  rw [hl] at hf
  obtain ⟨ys, n', _, _, _, hylen, hfs⟩ := DataW.trod_struct Try.underlying25 hf
  have hyl : ys.length = 8 := hylen
  have t0 : DataW.trod enc Try.prog W base sp held n' 22 (([v0, v1, v2, v3, v4, v5, v6, v7].drop 0).take (Try.prog.cellsOf 22)) = ys[0]? := hfs 0 _ rfl
  rw [cells1Q, List.getElem?_eq_getElem (by omega)] at t0
  replace t0 : DataW.trod enc Try.prog W base sp held n' 22 [v0] = some (ys[0]'(by omega)) := t0
  obtain ⟨z0, e0, _, w0⟩ := DataW.trod_int Try.underlying22 t0
  have t1 : DataW.trod enc Try.prog W base sp held n' 23 (([v0, v1, v2, v3, v4, v5, v6, v7].drop 1).take (Try.prog.cellsOf 23)) = ys[1]? := hfs 1 _ rfl
  rw [cells1U, List.getElem?_eq_getElem (by omega)] at t1
  replace t1 : DataW.trod enc Try.prog W base sp held n' 23 [v1] = some (ys[1]'(by omega)) := t1
  obtain ⟨z1, e1, _, w1⟩ := DataW.trod_int Try.underlying23 t1
  have t2 : DataW.trod enc Try.prog W base sp held n' 23 (([v0, v1, v2, v3, v4, v5, v6, v7].drop 2).take (Try.prog.cellsOf 23)) = ys[2]? := hfs 2 _ rfl
  rw [cells1U, List.getElem?_eq_getElem (by omega)] at t2
  replace t2 : DataW.trod enc Try.prog W base sp held n' 23 [v2] = some (ys[2]'(by omega)) := t2
  obtain ⟨z2, e2, _, w2⟩ := DataW.trod_int Try.underlying23 t2
  have t3 : DataW.trod enc Try.prog W base sp held n' 23 (([v0, v1, v2, v3, v4, v5, v6, v7].drop 3).take (Try.prog.cellsOf 23)) = ys[3]? := hfs 3 _ rfl
  rw [cells1U, List.getElem?_eq_getElem (by omega)] at t3
  replace t3 : DataW.trod enc Try.prog W base sp held n' 23 [v3] = some (ys[3]'(by omega)) := t3
  obtain ⟨z3, e3, _, w3⟩ := DataW.trod_int Try.underlying23 t3
  have t4 : DataW.trod enc Try.prog W base sp held n' 23 (([v0, v1, v2, v3, v4, v5, v6, v7].drop 4).take (Try.prog.cellsOf 23)) = ys[4]? := hfs 4 _ rfl
  rw [cells1U, List.getElem?_eq_getElem (by omega)] at t4
  replace t4 : DataW.trod enc Try.prog W base sp held n' 23 [v4] = some (ys[4]'(by omega)) := t4
  obtain ⟨z4, e4, _, w4⟩ := DataW.trod_int Try.underlying23 t4
  have t5 : DataW.trod enc Try.prog W base sp held n' 23 (([v0, v1, v2, v3, v4, v5, v6, v7].drop 5).take (Try.prog.cellsOf 23)) = ys[5]? := hfs 5 _ rfl
  rw [cells1U, List.getElem?_eq_getElem (by omega)] at t5
  replace t5 : DataW.trod enc Try.prog W base sp held n' 23 [v5] = some (ys[5]'(by omega)) := t5
  obtain ⟨z5, e5, _, w5⟩ := DataW.trod_int Try.underlying23 t5
  have t6 : DataW.trod enc Try.prog W base sp held n' 23 (([v0, v1, v2, v3, v4, v5, v6, v7].drop 6).take (Try.prog.cellsOf 23)) = ys[6]? := hfs 6 _ rfl
  rw [cells1U, List.getElem?_eq_getElem (by omega)] at t6
  replace t6 : DataW.trod enc Try.prog W base sp held n' 23 [v6] = some (ys[6]'(by omega)) := t6
  obtain ⟨z6, e6, _, w6⟩ := DataW.trod_int Try.underlying23 t6
  have t7 : DataW.trod enc Try.prog W base sp held n' 5 (([v0, v1, v2, v3, v4, v5, v6, v7].drop 7).take (Try.prog.cellsOf 5)) = ys[7]? := hfs 7 _ rfl
  rw [cells1B, List.getElem?_eq_getElem (by omega)] at t7
  replace t7 : DataW.trod enc Try.prog W base sp held n' 5 [v7] = some (ys[7]'(by omega)) := t7
  obtain ⟨z7, e7, _, w7⟩ := DataW.trod_int Try.underlying5 t7
  simp only [List.cons.injEq, and_true] at e0 e1 e2 e3 e4 e5 e6 e7
  obtain ⟨x0, rfl, h0⟩ := LawKit.nat_of_u64 w0
  obtain ⟨x1, rfl, h1⟩ := LawKit.nat_of_u32 w1
  obtain ⟨x2, rfl, h2⟩ := LawKit.nat_of_u32 w2
  obtain ⟨x3, rfl, h3⟩ := LawKit.nat_of_u32 w3
  obtain ⟨x4, rfl, h4⟩ := LawKit.nat_of_u32 w4
  obtain ⟨x5, rfl, h5⟩ := LawKit.nat_of_u32 w5
  obtain ⟨x6, rfl, h6⟩ := LawKit.nat_of_u32 w6
  obtain ⟨x7, rfl, h7⟩ := LawKit.nat_of_u8 w7
  refine ⟨⟨x0, x1, x2, x3, x4, x5, x6, x7⟩, ?_, h0, h1, h2, h3, h4, h5, h6, h7⟩
  have : cs = cs.toList.toArray := by simp
  rw [this, hl, e0, e1, e2, e3, e4, e5, e6, e7]
  rfl
end

end Go.Proofs.Ytdadcengelfmhaa.Slt
