/-
  Arguments opened: a node, by value.
-/
import Derived.Test.YtdhfpmnkffdjaaaNodeMath
import Derived.Test.YtdhfpmnkffdjaaaLawKit
import Derived.Deep.Slices
import Derived.Deep.Fields
import Derived.ChangeSame
namespace Go.Proofs.Ytdhfpmnkffdjaaa.Node
open Go.RowKit Go.ChangeShapes Go.WideShapes Go.Deep

theorem cellsNode : Try.prog.cellsOf 25 = 33 := by kernel_rfl
theorem cellsPtrs : Try.prog.cellsOf 23 = 32 := by kernel_rfl
theorem cellsU8 : Try.prog.cellsOf 5 = 1 := by kernel_rfl
theorem cellsU32 : Try.prog.cellsOf 22 = 1 := by kernel_rfl

def u32At : Option Value → Nat
  | some (Value.int _ z) => z.toNat
  | _ => 0

section
variable {H : Type} {enc : TypeId × Value → H} {W : World} {base : Nat} {sp : Nat → Bool} {held : Bool}

/-- the cells of an array of 32 pointers -/
theorem open_ptrs {fuel : Nat} {cs : List Value} (hcl : cs.length = 32) {y : DataW H × List MemPlace} (hf : DataW.trod enc Try.prog W base sp held fuel 23 cs = some y) :
    ∃ ps : List Nat, cs = (ps.map fun n : Nat => Value.int .u32 (n : Int)) ∧ ps.length = 32 ∧ ∀ j (hj : j < ps.length), ps[j] < 4294967296 := by
  obtain ⟨yd, yp⟩ := y
  obtain ⟨xs, m, rfl, hx, hl, hxl, hi⟩ := DataW.trod_array Try.underlying23 hf
  have key : ∀ i, i < 32 → ∃ n : Nat, cs[i]? = some (.int .u32 (n : Int)) ∧ n < 4294967296 := by
    intro i hin
    have h1 := hi i hin
    rw [cellsU32, Nat.mul_one] at h1
    have hil : i < cs.length := by omega
    have hd : (cs.drop i).take 1 = [cs[i]] := by
      rw [List.drop_eq_getElem_cons hil, List.take_succ_cons, List.take_zero]
    rw [hd, List.getElem?_eq_getElem (by omega)] at h1
    obtain ⟨z, hz, _, hwf⟩ := DataW.trod_int Try.underlying22 h1
    have hz' : cs[i] = .int .u32 z := by simpa using hz
    obtain ⟨n, rfl, hn⟩ := LawKit.nat_of_u32 hwf
    exact ⟨n, by rw [List.getElem?_eq_getElem hil, hz'], hn⟩
  refine ⟨(List.range 32).map fun i => u32At cs[i]?, ?_, by simp, fun j hj => ?_⟩
  · apply List.ext_getElem?
    intro i
    by_cases hin : i < 32
    · obtain ⟨n, hn, _⟩ := key i hin
      simp [hin, hn, u32At]
    · rw [List.getElem?_eq_none (by omega), List.getElem?_eq_none (by simp; omega)]
  · have hj32 : j < 32 := by simpa using hj
    obtain ⟨n, hn, hlt⟩ := key j hj32
    simp [hn, u32At]
    omega

theorem open_node {b0 : Nat} {v : Value} {d : DataW H} {pl : List MemPlace} (hval : Value.okWide Try.prog W .any b0 25 v) (h : DataW.Trod enc Try.prog W base sp held 25 v d pl) :
    ∃ (lv : Nat) (ps : List Nat), v = .agg (nodeCells lv ps) ∧ lv < 256 ∧ ps.length = 32 ∧ ∀ j (hj : j < ps.length), ps[j] < 4294967296 := by
  simp only [Value.okWide, Try.underlying25] at hval
  obtain ⟨cs, rfl, hsz, _⟩ := hval
  obtain ⟨fuel, hf⟩ := h
  have hcl : cs.toList.length = 33 := by
    rw [Array.length_toList, hsz]; exact cellsNode
  have hcs : (Value.agg cs).cells.toList = cs.toList := rfl
  rw [hcs] at hf
  obtain ⟨ys, n', _, _, _, hylen, hfs⟩ := DataW.trod_struct Try.underlying25 hf
  obtain ⟨v0, rest, hcons⟩ : ∃ v0 rest, cs.toList = v0 :: rest := by
    cases hh : cs.toList with
    | nil => rw [hh] at hcl; cases hcl
    | cons a l => exact ⟨a, l, rfl⟩
  have hrl : rest.length = 32 := by rw [hcons] at hcl; simpa using hcl
  rw [hcons] at hfs
  have hyl : ys.length = 2 := hylen
  have t0 : DataW.trod enc Try.prog W base sp held n' 5 (((v0 :: rest).drop 0).take (Try.prog.cellsOf 5)) = ys[0]? := hfs 0 _ rfl
  rw [cellsU8, List.getElem?_eq_getElem (by omega)] at t0
  replace t0 : DataW.trod enc Try.prog W base sp held n' 5 [v0] = some (ys[0]'(by omega)) := t0
  have t1 : DataW.trod enc Try.prog W base sp held n' 23 (((v0 :: rest).drop 1).take (Try.prog.cellsOf 23)) = ys[1]? := hfs 1 _ rfl
  rw [cellsPtrs, List.getElem?_eq_getElem (by omega), List.drop_one, List.tail_cons, List.take_of_length_le (by omega)] at t1
  obtain ⟨z0, e0, _, w0⟩ := DataW.trod_int Try.underlying5 t0
  simp only [List.cons.injEq, and_true] at e0
  subst e0
  obtain ⟨lv, rfl, hlv⟩ := LawKit.nat_of_u8 w0
  obtain ⟨ps, rfl, hp, hn⟩ := open_ptrs hrl t1
  refine ⟨lv, ps, ?_, hlv, hp, hn⟩
  unfold nodeCells
  rw [← hcons]
end

end Go.Proofs.Ytdhfpmnkffdjaaa.Node
