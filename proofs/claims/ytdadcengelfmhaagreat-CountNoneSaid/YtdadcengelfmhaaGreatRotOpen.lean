/-
  Arguments opened: a slice of api.Put (257 cells each), as rows.
-/
import Derived.Test.YtdadcengelfmhaaGreatDev1
import Derived.Test.YtdadcengelfmhaaGreatLawKit
import Derived.Deep.Slices
import Derived.Deep.Fields
import Derived.ChangeSame
namespace Go.Proofs.YtdadcengelfmhaaGreat.Rot
open Go.RowKit Go.ChangeShapes Go.WideShapes Go.Deep
open Go.Proofs.YtdadcengelfmhaaGreat.Dev (putCells pendCells putCells_length pendCells_length pendCells_get)
set_option maxRecDepth 100000

theorem cellsPut : Tryz.prog.cellsOf 65 = 257 := by kernel_rfl
theorem cellsBlk : Tryz.prog.cellsOf 39 = 256 := by kernel_rfl
theorem cellsAt : Tryz.prog.cellsOf 22 = 1 := by kernel_rfl
theorem cellsB : Tryz.prog.cellsOf 5 = 1 := by kernel_rfl

/-- rows in memory: nothing, or a block of the heap that holds them from some place on -/
structure PutsAt (W : World) (b off : Nat) (xs : List (Nat × List UInt8)) : Prop where
  old : b < W.heap.size
  at_ : ∀ i (hi : i < xs.length), W.rangeAt b (off + i * 257) (putCells xs[i])
def Puts (W : World) (pa : Option Addr) (xs : List (Nat × List UInt8)) : Prop :=
  (∀ x ∈ xs, x.1 < 4294967296 ∧ x.2.length = 256) ∧ (xs = [] ∨ ∃ b off, pa = some ⟨b, off, none⟩ ∧ PutsAt W b off xs)

section
variable {H : Type} {enc : TypeId × Value → H} {W : World} {base : Nat} {sp : Nat → Bool} {held : Bool}

/-- the cells of a block -/
theorem open_blk {fuel : Nat} {cs : List Value} (hcl : cs.length = 256) {y : DataW H × List MemPlace} (hf : DataW.trod enc Tryz.prog W base sp held fuel 39 cs = some y) :
    ∃ l : List UInt8, cs = (LawKit.bytesOf l).toList ∧ l.length = 256 := by
  obtain ⟨yd, yp⟩ := y
  obtain ⟨xs, m, rfl, hx, hl, hxl, hi⟩ := DataW.trod_array Tryz.underlying39 hf
  have key : ∀ i, i < 256 → ∃ u : UInt8, cs[i]? = some (.int .u8 (u.toNat : Int)) := by
    intro i hin
    have h1 := hi i hin
    rw [cellsB, Nat.mul_one] at h1
    have hil : i < cs.length := by omega
    have hd : (cs.drop i).take 1 = [cs[i]] := by
      rw [List.drop_eq_getElem_cons hil, List.take_succ_cons, List.take_zero]
    rw [hd, List.getElem?_eq_getElem (by omega)] at h1
    obtain ⟨z, hz, _, hwf⟩ := DataW.trod_int Tryz.underlying5 h1
    have hz' : cs[i] = .int .u8 z := by simpa using hz
    obtain ⟨u, rfl⟩ := LawKit.byte_of_u8 hwf
    exact ⟨u, by rw [List.getElem?_eq_getElem hil, hz']⟩
  refine ⟨(List.range 256).map fun i => LawKit.byteAt cs[i]?, ?_, by simp⟩
  apply List.ext_getElem?
  intro i
  by_cases hin : i < 256
  · obtain ⟨u, hu⟩ := key i hin
    simp [LawKit.bytesOf, hin, hu, LawKit.byteAt]
  · rw [List.getElem?_eq_none (by omega), List.getElem?_eq_none (by simp [LawKit.bytesOf]; omega)]

/-- the cells of a put -/
theorem open_put_cells {fuel : Nat} {cs : List Value} {y : DataW H × List MemPlace} (hcl : cs.length = 257) (ht : DataW.trod enc Tryz.prog W base sp held fuel 65 cs = some y) :
    ∃ x : Nat × List UInt8, cs = putCells x ∧ x.1 < 4294967296 ∧ x.2.length = 256 := by
  obtain ⟨ys, n', _, _, _, hylen, hfs⟩ := DataW.trod_struct Tryz.underlying65 ht
  obtain ⟨v0, rest, rfl⟩ : ∃ v0 rest, cs = v0 :: rest := by
    cases cs with
    | nil => cases hcl
    | cons a l => exact ⟨a, l, rfl⟩
  have hrl : rest.length = 256 := by simpa using hcl
  have hyl : ys.length = 2 := hylen
  have t0 : DataW.trod enc Tryz.prog W base sp held n' 22 (((v0 :: rest).drop 0).take (Tryz.prog.cellsOf 22)) = ys[0]? := hfs 0 _ rfl
  rw [cellsAt, List.getElem?_eq_getElem (by omega)] at t0
  replace t0 : DataW.trod enc Tryz.prog W base sp held n' 22 [v0] = some (ys[0]'(by omega)) := t0
  have t1 : DataW.trod enc Tryz.prog W base sp held n' 39 (((v0 :: rest).drop 1).take (Tryz.prog.cellsOf 39)) = ys[1]? := hfs 1 _ rfl
  rw [cellsBlk, List.getElem?_eq_getElem (by omega), List.drop_one, List.tail_cons, List.take_of_length_le (by omega)] at t1
  obtain ⟨z0, e0, _, w0⟩ := DataW.trod_int Tryz.underlying22 t0
  simp only [List.cons.injEq, and_true] at e0
  subst e0
  obtain ⟨k, rfl, hk⟩ := LawKit.nat_of_u32 w0
  obtain ⟨l, rfl, hl⟩ := open_blk hrl t1
  exact ⟨(k, l), rfl, hk, hl⟩

theorem open_puts {b0 : Nat} {v : Value} {d : DataW H} {ps : List MemPlace} (hval : Value.okWide Tryz.prog W .any b0 44 v) (h : DataW.Trod enc Tryz.prog W base sp held 44 v d ps) :
    ∃ (pa : Option Addr) (cap : Nat) (xs : List (Nat × List UInt8)), v = .slice pa xs.length cap ∧ xs.length ≤ maxLen ∧ Puts W pa xs := by
  obtain ⟨a0, len, cap, rfl⟩ := okWide_slice Tryz.underlying44 hval
  obtain ⟨fuel, hf⟩ := h
  rcases open_slice Tryz.underlying44 hf with ⟨hcs, _⟩ | ⟨a, len', cap', m, nf, D, Pl, hcs, hbase, hl, hm, hmm, hx, hi⟩
  · simp only [Value.cells, List.cons.injEq, Value.slice.injEq, and_true] at hcs
    obtain ⟨rfl, rfl, rfl⟩ := hcs
    exact ⟨none, 0, [], rfl, by unfold maxLen; simp, by simp, .inl rfl⟩
  · simp only [Value.cells, List.cons.injEq, Value.slice.injEq, and_true] at hcs
    obtain ⟨rfl, rfl, rfl⟩ := hcs
    have hlm : len ≤ m := by rw [hmm]; split <;> omega
    by_cases h0 : len = 0
    · subst h0
      exact ⟨some a, cap, [], rfl, by unfold maxLen; simp, by simp, .inl rfl⟩
    · have key : ∀ i, i < len → ∃ x : Nat × List UInt8, (x.1 < 4294967296 ∧ x.2.length = 256) ∧ ∀ j, j < 257 → W.cell? (a.add (i * 257 + j)) = (putCells x)[j]? := by
        intro i hil
        obtain ⟨cs, hc, ht⟩ := hi i (by omega)
        rw [cellsPut] at hc
        obtain ⟨_, hcl, hat⟩ := World.cells?_some hc
        obtain ⟨x, rfl, hok⟩ := open_put_cells hcl ht
        refine ⟨x, hok, fun j hj => ?_⟩
        have h1 := hat j (by omega)
        rw [Go.Deep.add_add a (i * 257) j] at h1
        rw [h1]
      obtain ⟨V, hV⟩ := choose_lt (α := Nat × List UInt8) (p := fun i x => (x.1 < 4294967296 ∧ x.2.length = 256) ∧ ∀ j, j < 257 → W.cell? (a.add (i * 257 + j)) = (putCells x)[j]?) key
      have h00 := (hV 0 (by omega)).2 0 (by omega)
      have ea : a.add (0 * 257 + 0) = a := by simp [Addr.add]
      rw [ea] at h00
      replace h00 : W.cell? a = some (.int .u32 ((V 0).1 : Int)) := h00
      have hsp : a.spot = none := by
        cases hq : a.spot with
        | none => rfl
        | some q =>
          exfalso
          unfold World.cell? at h00
          rw [hq] at h00
          split at h00 <;> simp at h00
      have hlt := World.block_lt_of_cell? W _ h00
      obtain ⟨ab, ao, asp⟩ := a
      simp only at hsp hlt
      subst hsp
      refine ⟨some ⟨ab, ao, none⟩, cap, (List.range len).map V, by simp, by simp; omega, ?_, .inr ⟨ab, ao, rfl, hlt, ?_⟩⟩
      · intro x hx
        obtain ⟨i, hi', rfl⟩ := List.mem_map.1 hx
        exact (hV i (by simpa using hi')).1
      · intro i hil j v hv
        have hil' : i < len := by simpa using hil
        have hg : ((List.range len).map V)[i] = V i := by simp
        rw [hg] at hv
        have hj : j < 257 := by
          have := (List.getElem?_eq_some_iff.1 hv).1
          rw [putCells_length (hV i hil').1.2] at this
          exact this
        have h1 := (hV i hil').2 j hj
        rw [Addr.add_mid, hv] at h1
        rw [Nat.add_assoc]
        exact h1
end

end Go.Proofs.YtdadcengelfmhaaGreat.Rot
