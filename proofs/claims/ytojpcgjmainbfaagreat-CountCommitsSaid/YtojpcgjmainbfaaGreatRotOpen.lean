/-
  Arguments opened: a slice of api.Put (257 cells each), as rows.
-/
import Derived.Test.YtojpcgjmainbfaaGreatDev1
import Derived.Test.YtojpcgjmainbfaaGreatLawKit
import Derived.Deep.Slices
import Derived.Deep.Fields
import Derived.ChangeSame
namespace Go.Proofs.YtojpcgjmainbfaaGreat.Rot
open Go.RowKit Go.ChangeShapes Go.WideShapes Go.Deep
open Go.Proofs.YtojpcgjmainbfaaGreat.Dev (putCells pendCells putCells_length pendCells_get)
set_option maxRecDepth 100000

theorem cellsBlk : Tryz.prog.cellsOf 39 = 256 := by kernel_rfl
theorem cellsAt : Tryz.prog.cellsOf 22 = 1 := by kernel_rfl
theorem cellsB : Tryz.prog.cellsOf 5 = 1 := by kernel_rfl

/-- rows in memory: nothing, or a block of the heap that holds them from some place on -/
structure PutsAt (W : World) (b off : Nat) (xs : List (Nat × List UInt8)) : Prop where
  old : b < W.heap.size
  at_ : ∀ i (hi : i < xs.length), W.rangeAt b (off + i * 257) (putCells xs[i])
def Puts (W : World) (pa : Option Addr) (xs : List (Nat × List UInt8)) : Prop :=
  (∀ x ∈ xs, x.1 < 4294967296 ∧ x.2.length = 256) ∧ (xs = [] ∨ ∃ b off, pa = some ⟨b, off, none⟩ ∧ PutsAt W b off xs)

section
variable {H : Type} {enc : TypeId × Value → H} {W : World} {base : Nat} {sp : Nat → Bool} {held : Bool}

/-- the cells of a block -/
theorem open_blk {fuel : Nat} {cs : List Value} (hcl : cs.length = 256) {y : DataW H × List MemPlace} (hf : DataW.trod enc Tryz.prog W base sp held fuel 39 cs = some y) :
    ∃ l : List UInt8, cs = (LawKit.bytesOf l).toList ∧ l.length = 256 := by
  obtain ⟨yd, yp⟩ := y
  obtain ⟨xs, m, rfl, hx, hl, hxl, hi⟩ := DataW.trod_array Tryz.underlying39 hf
  have key : ∀ i, i < 256 → ∃ u : UInt8, cs[i]? = some (.int .u8 (u.toNat : Int)) := by
    intro i hin
    have h1 := hi i hin
    rw [cellsB, Nat.mul_one] at h1
    have hil : i < cs.length := by omega
    have hd : (cs.drop i).take 1 = [cs[i]] := by
      rw [List.drop_eq_getElem_cons hil, List.take_succ_cons, List.take_zero]
    rw [hd, List.getElem?_eq_getElem (by omega)] at h1
    obtain ⟨z, hz, _, hwf⟩ := DataW.trod_int Tryz.underlying5 h1
    have hz' : cs[i] = .int .u8 z := by simpa using hz
    obtain ⟨u, rfl⟩ := LawKit.byte_of_u8 hwf
    exact ⟨u, by rw [List.getElem?_eq_getElem hil, hz']⟩
  refine ⟨(List.range 256).map fun i => LawKit.byteAt cs[i]?, ?_, by simp⟩
  apply List.ext_getElem?
  intro i
  by_cases hin : i < 256
  · obtain ⟨u, hu⟩ := key i hin
    simp [LawKit.bytesOf, hin, hu, LawKit.byteAt]
  · rw [List.getElem?_eq_none (by omega), List.getElem?_eq_none (by simp [LawKit.bytesOf]; omega)]

end

end Go.Proofs.YtojpcgjmainbfaaGreat.Rot
