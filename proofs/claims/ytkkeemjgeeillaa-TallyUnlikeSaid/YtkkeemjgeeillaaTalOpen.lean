/-
  Arguments opened: pages, by value.
-/
import Derived.Test.YtkkeemjgeeillaaTalMath
import Derived.Test.YtkkeemjgeeillaaLawKit
import Derived.Deep.Slices
import Derived.Deep.Fields
import Derived.ChangeSame
namespace Go.Proofs.Ytkkeemjgeeillaa.Tal
open Go.RowKit Go.ChangeShapes Go.WideShapes Go.Deep
set_option maxRecDepth 100000

def numAtV : Option Value → Nat
  | some (Value.int _ z) => z.toNat
  | _ => 0
theorem cellsIdx : Try.prog.cellsOf 22 = 1 := by kernel_rfl

theorem cellsPgT : Try.prog.cellsOf 26 = 65 := by kernel_rfl
theorem cellsNsT : Try.prog.cellsOf 24 = 64 := by kernel_rfl
theorem cellsNT : Try.prog.cellsOf 23 = 1 := by kernel_rfl
section
variable {H : Type} {enc : TypeId × Value → H} {W : World} {base : Nat} {sp : Nat → Bool} {held : Bool}
/-- the cells of a page's numbers -/
theorem open_numsT {fuel : Nat} {cs : List Value} (hcl : cs.length = 64) {y : DataW H × List MemPlace} (hf : DataW.trod enc Try.prog W base sp held fuel 24 cs = some y) :
    ∃ ns : List Nat, cs = (ns.map fun n : Nat => Value.int .u16 (n : Int)) ∧ ns.length = 64 ∧ ∀ j (hj : j < ns.length), ns[j] < 65536 := by
  obtain ⟨yd, yp⟩ := y
  obtain ⟨xs, m, rfl, hx, hl, hxl, hi⟩ := DataW.trod_array Try.underlying24 hf
  have key : ∀ i, i < 64 → ∃ n : Nat, cs[i]? = some (.int .u16 (n : Int)) ∧ n < 65536 := by
    intro i hin
    have h1 := hi i hin
    rw [cellsNT, Nat.mul_one] at h1
    have hil : i < cs.length := by omega
    have hd : (cs.drop i).take 1 = [cs[i]] := by
      rw [List.drop_eq_getElem_cons hil, List.take_succ_cons, List.take_zero]
    rw [hd, List.getElem?_eq_getElem (by omega)] at h1
    obtain ⟨z, hz, _, hwf⟩ := DataW.trod_int Try.underlying23 h1
    have hz' : cs[i] = .int .u16 z := by simpa using hz
    obtain ⟨n, rfl, hn⟩ := LawKit.nat_of_u16 hwf
    exact ⟨n, by rw [List.getElem?_eq_getElem hil, hz'], hn⟩
  refine ⟨(List.range 64).map fun i => numAtV cs[i]?, ?_, by simp, fun j hj => ?_⟩
  · apply List.ext_getElem?
    intro i
    by_cases hin : i < 64
    · obtain ⟨n, hn, _⟩ := key i hin
      simp [hin, hn, numAtV]
    · rw [List.getElem?_eq_none (by omega), List.getElem?_eq_none (by simp; omega)]
  · have hj32 : j < 64 := by simpa using hj
    obtain ⟨n, hn, hlt⟩ := key j hj32
    simp [hn, numAtV]
    omega
theorem open_pgT {b0 : Nat} {v : Value} {d : DataW H} {pl : List MemPlace} (hval : Value.okWide Try.prog W .any b0 26 v) (h : DataW.Trod enc Try.prog W base sp held 26 v d pl) :
    ∃ (idx : Nat) (ns : List Nat), v = .agg (pgCells .u16 idx ns) ∧ idx < 4294967296 ∧ ns.length = kT.n ∧ ∀ j (hj : j < ns.length), ns[j] < 256 ^ kT.wd := by
  simp only [Value.okWide, Try.underlying26] at hval
  obtain ⟨cs, rfl, hsz, _⟩ := hval
  obtain ⟨fuel, hf⟩ := h
  have hcl : cs.toList.length = 65 := by
    rw [Array.length_toList, hsz]; exact cellsPgT
  have hcs : (Value.agg cs).cells.toList = cs.toList := rfl
  rw [hcs] at hf
  obtain ⟨ys, n', _, _, _, hylen, hfs⟩ := DataW.trod_struct Try.underlying26 hf
  obtain ⟨v0, rest, hcons⟩ : ∃ v0 rest, cs.toList = v0 :: rest := by
    cases hh : cs.toList with
    | nil => rw [hh] at hcl; cases hcl
    | cons a l => exact ⟨a, l, rfl⟩
  have hrl : rest.length = 64 := by rw [hcons] at hcl; simpa using hcl
  rw [hcons] at hfs
  have hyl : ys.length = 2 := hylen
  have t0 : DataW.trod enc Try.prog W base sp held n' 22 (((v0 :: rest).drop 0).take (Try.prog.cellsOf 22)) = ys[0]? := hfs 0 _ rfl
  rw [cellsIdx, List.getElem?_eq_getElem (by omega)] at t0
  replace t0 : DataW.trod enc Try.prog W base sp held n' 22 [v0] = some (ys[0]'(by omega)) := t0
  have t1 : DataW.trod enc Try.prog W base sp held n' 24 (((v0 :: rest).drop 1).take (Try.prog.cellsOf 24)) = ys[1]? := hfs 1 _ rfl
  rw [cellsNsT, List.getElem?_eq_getElem (by omega), List.drop_one, List.tail_cons, List.take_of_length_le (by omega)] at t1
  obtain ⟨z0, e0, _, w0⟩ := DataW.trod_int Try.underlying22 t0
  simp only [List.cons.injEq, and_true] at e0
  subst e0
  obtain ⟨idx, rfl, hidx⟩ := LawKit.nat_of_u32 w0
  obtain ⟨ns, rfl, hp, hn⟩ := open_numsT hrl t1
  refine ⟨idx, ns, ?_, hidx, hp, hn⟩
  unfold pgCells
  rw [← hcons]
end

theorem cellsPgP : Try.prog.cellsOf 30 = 17 := by kernel_rfl
theorem cellsNsP : Try.prog.cellsOf 28 = 16 := by kernel_rfl
theorem cellsNP : Try.prog.cellsOf 27 = 1 := by kernel_rfl
section
variable {H : Type} {enc : TypeId × Value → H} {W : World} {base : Nat} {sp : Nat → Bool} {held : Bool}
/-- the cells of a page's numbers -/
theorem open_numsP {fuel : Nat} {cs : List Value} (hcl : cs.length = 16) {y : DataW H × List MemPlace} (hf : DataW.trod enc Try.prog W base sp held fuel 28 cs = some y) :
    ∃ ns : List Nat, cs = (ns.map fun n : Nat => Value.int .u64 (n : Int)) ∧ ns.length = 16 ∧ ∀ j (hj : j < ns.length), ns[j] < 18446744073709551616 := by
  obtain ⟨yd, yp⟩ := y
  obtain ⟨xs, m, rfl, hx, hl, hxl, hi⟩ := DataW.trod_array Try.underlying28 hf
  have key : ∀ i, i < 16 → ∃ n : Nat, cs[i]? = some (.int .u64 (n : Int)) ∧ n < 18446744073709551616 := by
    intro i hin
    have h1 := hi i hin
    rw [cellsNP, Nat.mul_one] at h1
    have hil : i < cs.length := by omega
    have hd : (cs.drop i).take 1 = [cs[i]] := by
      rw [List.drop_eq_getElem_cons hil, List.take_succ_cons, List.take_zero]
    rw [hd, List.getElem?_eq_getElem (by omega)] at h1
    obtain ⟨z, hz, _, hwf⟩ := DataW.trod_int Try.underlying27 h1
    have hz' : cs[i] = .int .u64 z := by simpa using hz
    obtain ⟨n, rfl, hn⟩ := LawKit.nat_of_u64 hwf
    exact ⟨n, by rw [List.getElem?_eq_getElem hil, hz'], hn⟩
  refine ⟨(List.range 16).map fun i => numAtV cs[i]?, ?_, by simp, fun j hj => ?_⟩
  · apply List.ext_getElem?
    intro i
    by_cases hin : i < 16
    · obtain ⟨n, hn, _⟩ := key i hin
      simp [hin, hn, numAtV]
    · rw [List.getElem?_eq_none (by omega), List.getElem?_eq_none (by simp; omega)]
  · have hj32 : j < 16 := by simpa using hj
    obtain ⟨n, hn, hlt⟩ := key j hj32
    simp [hn, numAtV]
    omega
theorem open_pgP {b0 : Nat} {v : Value} {d : DataW H} {pl : List MemPlace} (hval : Value.okWide Try.prog W .any b0 30 v) (h : DataW.Trod enc Try.prog W base sp held 30 v d pl) :
    ∃ (idx : Nat) (ns : List Nat), v = .agg (pgCells .u64 idx ns) ∧ idx < 4294967296 ∧ ns.length = kP.n ∧ ∀ j (hj : j < ns.length), ns[j] < 256 ^ kP.wd := by
  simp only [Value.okWide, Try.underlying30] at hval
  obtain ⟨cs, rfl, hsz, _⟩ := hval
  obtain ⟨fuel, hf⟩ := h
  have hcl : cs.toList.length = 17 := by
    rw [Array.length_toList, hsz]; exact cellsPgP
  have hcs : (Value.agg cs).cells.toList = cs.toList := rfl
  rw [hcs] at hf
  obtain ⟨ys, n', _, _, _, hylen, hfs⟩ := DataW.trod_struct Try.underlying30 hf
  obtain ⟨v0, rest, hcons⟩ : ∃ v0 rest, cs.toList = v0 :: rest := by
    cases hh : cs.toList with
    | nil => rw [hh] at hcl; cases hcl
    | cons a l => exact ⟨a, l, rfl⟩
  have hrl : rest.length = 16 := by rw [hcons] at hcl; simpa using hcl
  rw [hcons] at hfs
  have hyl : ys.length = 2 := hylen
  have t0 : DataW.trod enc Try.prog W base sp held n' 22 (((v0 :: rest).drop 0).take (Try.prog.cellsOf 22)) = ys[0]? := hfs 0 _ rfl
  rw [cellsIdx, List.getElem?_eq_getElem (by omega)] at t0
  replace t0 : DataW.trod enc Try.prog W base sp held n' 22 [v0] = some (ys[0]'(by omega)) := t0
  have t1 : DataW.trod enc Try.prog W base sp held n' 28 (((v0 :: rest).drop 1).take (Try.prog.cellsOf 28)) = ys[1]? := hfs 1 _ rfl
  rw [cellsNsP, List.getElem?_eq_getElem (by omega), List.drop_one, List.tail_cons, List.take_of_length_le (by omega)] at t1
  obtain ⟨z0, e0, _, w0⟩ := DataW.trod_int Try.underlying22 t0
  simp only [List.cons.injEq, and_true] at e0
  subst e0
  obtain ⟨idx, rfl, hidx⟩ := LawKit.nat_of_u32 w0
  obtain ⟨ns, rfl, hp, hn⟩ := open_numsP hrl t1
  refine ⟨idx, ns, ?_, hidx, hp, hn⟩
  unfold pgCells
  rw [← hcons]
end


end Go.Proofs.Ytkkeemjgeeillaa.Tal
