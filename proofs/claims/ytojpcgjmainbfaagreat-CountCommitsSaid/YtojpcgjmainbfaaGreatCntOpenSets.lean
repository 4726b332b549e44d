/-
  Arguments opened: a slice of pantilelaw09.Set (260 cells each), as rows.
-/
import Derived.Test.YtojpcgjmainbfaaGreatRotOpen
import Derived.Test.YtojpcgjmainbfaaGreatCntA
namespace Go.Proofs.YtojpcgjmainbfaaGreat.Cnt
open Go.RowKit Go.ChangeShapes Go.WideShapes Go.Deep
open Go.Proofs.YtojpcgjmainbfaaGreat.Rot (cellsBlk cellsAt open_blk)
set_option maxRecDepth 100000

/-- a set, by value: the block, the count, 'Seal', 'Raw', the block's bytes -/
structure St where
  a : Nat
  n : Nat
  s : Bool
  r : Bool
  b : List UInt8
instance : Inhabited St := ⟨⟨0, 0, false, false, []⟩⟩
def St.Fits (x : St) : Prop := x.a < 4294967296 ∧ x.n < 65536 ∧ x.b.length = 256
def stCells (x : St) : List Value := .int .u32 (x.a : Int) :: .int .u16 (x.n : Int) :: .bool x.s :: .bool x.r :: (LawKit.bytesOf x.b).toList
theorem stCells_length {x : St} (h : x.b.length = 256) : (stCells x).length = 260 := by simp [stCells, LawKit.bytesOf, h]
theorem cellsSet : Tryz.prog.cellsOf 41 = 260 := by kernel_rfl
theorem cellsU16 : Tryz.prog.cellsOf 37 = 1 := by kernel_rfl
theorem cellsBool : Tryz.prog.cellsOf 4 = 1 := by kernel_rfl
/-- rows in memory: nothing, or a block of the heap that holds them from some place on -/
structure StsAt (W : World) (b off : Nat) (xs : List St) : Prop where
  old : b < W.heap.size
  at_ : ∀ i (hi : i < xs.length), W.rangeAt b (off + i * 260) (stCells xs[i])
def Sts (W : World) (pa : Option Addr) (xs : List St) : Prop := (∀ x ∈ xs, x.Fits) ∧ (xs = [] ∨ ∃ b off, pa = some ⟨b, off, none⟩ ∧ StsAt W b off xs)

section
variable {H : Type} {enc : TypeId × Value → H} {W : World} {base : Nat} {sp : Nat → Bool} {held : Bool}
theorem open_set_cells {fuel : Nat} {cs : List Value} {y : DataW H × List MemPlace} (hcl : cs.length = 260) (ht : DataW.trod enc Tryz.prog W base sp held fuel 41 cs = some y) :
    ∃ x : St, cs = stCells x ∧ x.Fits := by
  obtain ⟨ys, n', _, _, _, hylen, hfs⟩ := DataW.trod_struct Tryz.underlying41 ht
  obtain ⟨v0, v1, v2, v3, rest, rfl⟩ : ∃ v0 v1 v2 v3 rest, cs = v0 :: v1 :: v2 :: v3 :: rest := by
    match cs, hcl with
    | a :: b :: c :: d :: l, _ => exact ⟨a, b, c, d, l, rfl⟩
  have hrl : rest.length = 256 := by simpa using hcl
  have hyl : ys.length = 5 := hylen
  have t0 : DataW.trod enc Tryz.prog W base sp held n' 22 (((v0 :: v1 :: v2 :: v3 :: rest).drop 0).take (Tryz.prog.cellsOf 22)) = ys[0]? := hfs 0 _ rfl
  rw [cellsAt, List.getElem?_eq_getElem (by omega)] at t0
  replace t0 : DataW.trod enc Tryz.prog W base sp held n' 22 [v0] = some (ys[0]'(by omega)) := t0
  have t1 : DataW.trod enc Tryz.prog W base sp held n' 37 (((v0 :: v1 :: v2 :: v3 :: rest).drop 1).take (Tryz.prog.cellsOf 37)) = ys[1]? := hfs 1 _ rfl
  rw [cellsU16, List.getElem?_eq_getElem (by omega)] at t1
  replace t1 : DataW.trod enc Tryz.prog W base sp held n' 37 [v1] = some (ys[1]'(by omega)) := t1
  have t2 : DataW.trod enc Tryz.prog W base sp held n' 4 (((v0 :: v1 :: v2 :: v3 :: rest).drop 2).take (Tryz.prog.cellsOf 4)) = ys[2]? := hfs 2 _ rfl
  rw [cellsBool, List.getElem?_eq_getElem (by omega)] at t2
  replace t2 : DataW.trod enc Tryz.prog W base sp held n' 4 [v2] = some (ys[2]'(by omega)) := t2
  have t3 : DataW.trod enc Tryz.prog W base sp held n' 4 (((v0 :: v1 :: v2 :: v3 :: rest).drop 3).take (Tryz.prog.cellsOf 4)) = ys[3]? := hfs 3 _ rfl
  rw [cellsBool, List.getElem?_eq_getElem (by omega)] at t3
  replace t3 : DataW.trod enc Tryz.prog W base sp held n' 4 [v3] = some (ys[3]'(by omega)) := t3
  have t4 : DataW.trod enc Tryz.prog W base sp held n' 39 (((v0 :: v1 :: v2 :: v3 :: rest).drop 4).take (Tryz.prog.cellsOf 39)) = ys[4]? := hfs 4 _ rfl
  rw [cellsBlk, List.getElem?_eq_getElem (by omega), show (v0 :: v1 :: v2 :: v3 :: rest).drop 4 = rest from rfl, List.take_of_length_le (by omega)] at t4
  obtain ⟨z0, e0, _, w0⟩ := DataW.trod_int Tryz.underlying22 t0
  obtain ⟨z1, e1, _, w1⟩ := DataW.trod_int Tryz.underlying37 t1
  obtain ⟨b2, e2, _⟩ := DataW.trod_bool Tryz.underlying4 t2
  obtain ⟨b3, e3, _⟩ := DataW.trod_bool Tryz.underlying4 t3
  simp only [List.cons.injEq, and_true] at e0 e1 e2 e3
  subst e0 e1 e2 e3
  obtain ⟨k, rfl, hk⟩ := LawKit.nat_of_u32 w0
  obtain ⟨m, rfl, hm⟩ := LawKit.nat_of_u16 w1
  obtain ⟨l, rfl, hl⟩ := open_blk hrl t4
  exact ⟨⟨k, m, b2, b3, l⟩, rfl, hk, hm, hl⟩

theorem open_sets {b0 : Nat} {v : Value} {d : DataW H} {ps : List MemPlace} (hval : Value.okWide Tryz.prog W .any b0 23 v) (h : DataW.Trod enc Tryz.prog W base sp held 23 v d ps) :
    ∃ (pa : Option Addr) (cap : Nat) (xs : List St), v = .slice pa xs.length cap ∧ xs.length ≤ maxLen ∧ Sts W pa xs := by
  obtain ⟨a0, len, cap, rfl⟩ := okWide_slice Tryz.underlying23 hval
  obtain ⟨fuel, hf⟩ := h
  rcases open_slice Tryz.underlying23 hf with ⟨hcs, _⟩ | ⟨a, len', cap', m, nf, D, Pl, hcs, hbase, hl, hm, hmm, hx, hi⟩
  · simp only [Value.cells, List.cons.injEq, Value.slice.injEq, and_true] at hcs
    obtain ⟨rfl, rfl, rfl⟩ := hcs
    exact ⟨none, 0, [], rfl, by unfold maxLen; simp, by simp, .inl rfl⟩
  · simp only [Value.cells, List.cons.injEq, Value.slice.injEq, and_true] at hcs
    obtain ⟨rfl, rfl, rfl⟩ := hcs
    have hlm : len ≤ m := by rw [hmm]; split <;> omega
    by_cases h0 : len = 0
    · subst h0
      exact ⟨some a, cap, [], rfl, by unfold maxLen; simp, by simp, .inl rfl⟩
    · have key : ∀ i, i < len → ∃ x : St, x.Fits ∧ ∀ j, j < 260 → W.cell? (a.add (i * 260 + j)) = (stCells x)[j]? := by
        intro i hil
        obtain ⟨cs, hc, ht⟩ := hi i (by omega)
        rw [cellsSet] at hc
        obtain ⟨_, hcl, hat⟩ := World.cells?_some hc
        obtain ⟨x, rfl, hok⟩ := open_set_cells hcl ht
        refine ⟨x, hok, fun j hj => ?_⟩
        have h1 := hat j (by omega)
        rw [Go.Deep.add_add a (i * 260) j] at h1
        rw [h1]
      obtain ⟨V, hV⟩ := choose_lt (α := St) (p := fun i x => x.Fits ∧ ∀ j, j < 260 → W.cell? (a.add (i * 260 + j)) = (stCells x)[j]?) key
      have h00 := (hV 0 (by omega)).2 0 (by omega)
      have ea : a.add (0 * 260 + 0) = a := by simp [Addr.add]
      rw [ea] at h00
      replace h00 : W.cell? a = some (.int .u32 ((V 0).a : Int)) := h00
      have hsp : a.spot = none := by
        cases hq : a.spot with
        | none => rfl
        | some q =>
          exfalso
          unfold World.cell? at h00
          rw [hq] at h00
          split at h00 <;> simp at h00
      have hlt := World.block_lt_of_cell? W _ h00
      obtain ⟨ab, ao, asp⟩ := a
      simp only at hsp hlt
      subst hsp
      refine ⟨some ⟨ab, ao, none⟩, cap, (List.range len).map V, by simp, by simp; omega, ?_, .inr ⟨ab, ao, rfl, hlt, ?_⟩⟩
      · intro x hx
        obtain ⟨i, hi', rfl⟩ := List.mem_map.1 hx
        exact (hV i (by simpa using hi')).1
      · intro i hil j v hv
        have hil' : i < len := by simpa using hil
        have hg : ((List.range len).map V)[i] = V i := by simp
        rw [hg] at hv
        have hj : j < 260 := by
          have := (List.getElem?_eq_some_iff.1 hv).1
          rw [stCells_length (hV i hil').1.2.2] at this
          exact this
        have h1 := (hV i hil').2 j hj
        rw [Addr.add_mid, hv] at h1
        rw [Nat.add_assoc]
        exact h1
end
end Go.Proofs.YtojpcgjmainbfaaGreat.Cnt
