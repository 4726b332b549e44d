/-
  Arguments opened: a crash (a fuse, what is kept), by value.
-/
import Derived.Test.YtlojhdnahioicaaDevOpen
namespace Go.Proofs.Ytlojhdnahioicaa.Rot
open Go.RowKit Go.ChangeShapes Go.WideShapes Go.Deep
open Go.Proofs.Ytlojhdnahioicaa.Dev (Keeps)
set_option maxRecDepth 100000

theorem cellsCrashing : Try.prog.cellsOf 38 = 2 := by kernel_rfl
theorem cellsKeeps : Try.prog.cellsOf 36 = 1 := by kernel_rfl
theorem cellsU8 : Try.prog.cellsOf 5 = 1 := by kernel_rfl

section
variable {H : Type} {enc : TypeId × Value → H} {W : World} {base : Nat} {sp : Nat → Bool} {held : Bool}
/-- a crash, by value -/
theorem open_crashing {b0 : Nat} {v : Value} {d : DataW H} {ps : List MemPlace} (hval : Value.okWide Try.prog W .any b0 38 v) (h : DataW.Trod enc Try.prog W base sp held 38 v d ps) :
    ∃ (f : Nat) (pa : Option Addr) (cap : Nat) (xs : List (Nat × Nat)), v = .agg #[.int .u8 (f : Int), .slice pa xs.length cap] ∧ f < 256 ∧ xs.length ≤ maxLen ∧ Keeps W pa xs ∧ (xs ≠ [] → ∀ a, pa = some a → a.block < W.heap.size) := by
  simp only [Value.okWide, Try.underlying38] at hval
  obtain ⟨cs, rfl, hsz, _⟩ := hval
  obtain ⟨fuel, hf⟩ := h
  have hcl : cs.toList.length = 2 := by
    rw [Array.length_toList, hsz]; exact cellsCrashing
  have hcs : (Value.agg cs).cells.toList = cs.toList := rfl
  rw [hcs] at hf
  obtain ⟨ys, n', _, _, _, hylen, hfs⟩ := DataW.trod_struct Try.underlying38 hf
  obtain ⟨v0, v1, hcons⟩ : ∃ v0 v1, cs.toList = [v0, v1] := by
    match cs.toList, hcl with
    | [v0, v1], _ => exact ⟨v0, v1, rfl⟩
  rw [hcons] at hfs
  have hyl : ys.length = 2 := hylen
  have t0 : DataW.trod enc Try.prog W base sp held n' 5 (([v0, v1].drop 0).take (Try.prog.cellsOf 5)) = ys[0]? := hfs 0 _ rfl
  rw [cellsU8, List.getElem?_eq_getElem (by omega)] at t0
  replace t0 : DataW.trod enc Try.prog W base sp held n' 5 [v0] = some (ys[0]'(by omega)) := t0
  have t1 : DataW.trod enc Try.prog W base sp held n' 36 (([v0, v1].drop 1).take (Try.prog.cellsOf 36)) = ys[1]? := hfs 1 _ rfl
  rw [cellsKeeps, List.getElem?_eq_getElem (by omega)] at t1
  replace t1 : DataW.trod enc Try.prog W base sp held n' 36 [v1] = some (ys[1]'(by omega)) := t1
  obtain ⟨z0, e0, _, w0⟩ := DataW.trod_int Try.underlying5 t0
  obtain ⟨pa, cap, xs, e1, hlen, hk, hold⟩ := Dev.open_keeps t1
  obtain ⟨f, rfl, hf'⟩ := Dev.nat_u8 w0
  simp only [List.cons.injEq, and_true] at e0
  subst e0 e1
  refine ⟨f, pa, cap, xs, ?_, hf', hlen, hk, hold⟩
  congr 1
  rw [← Array.toList_inj, hcons]
end

end Go.Proofs.Ytlojhdnahioicaa.Rot
