/-
  Arguments opened: an act, by value; a slice of acts; a slice of keeps.
-/
import Derived.Test.YtdadcengelfmhaaDev3
import Derived.Test.YtdadcengelfmhaaLawKit
import Derived.Deep.Slices
import Derived.Deep.Fields
import Derived.ChangeSame
namespace Go.Proofs.Ytdadcengelfmhaa.Dev
open Go.RowKit Go.ChangeShapes Go.WideShapes Go.Deep
set_option maxRecDepth 100000

theorem cellsKeep : Try.prog.cellsOf 88 = 2 := by kernel_rfl
theorem cellsKeeps : Try.prog.cellsOf 27 = 1 := by kernel_rfl
theorem cellsU8 : Try.prog.cellsOf 5 = 1 := by kernel_rfl
theorem cellsU16 : Try.prog.cellsOf 86 = 1 := by kernel_rfl
theorem cellsU32 : Try.prog.cellsOf 23 = 1 := by kernel_rfl
theorem cellsInt : Try.prog.cellsOf 3 = 1 := by kernel_rfl

theorem nat_u32 {z : Int} (h : (Lit.int .u32 z).wf = true) : ∃ n : Nat, z = (n : Int) ∧ n < 4294967296 := by
  have hb : 0 ≤ z ∧ z ≤ 4294967295 := by simpa [Lit.wf, IntKind.min, IntKind.max, IntKind.signed, IntKind.bits] using h
  exact ⟨z.toNat, by omega, by omega⟩
theorem nat_u16 {z : Int} (h : (Lit.int .u16 z).wf = true) : ∃ n : Nat, z = (n : Int) ∧ n < 65536 := by
  have hb : 0 ≤ z ∧ z ≤ 65535 := by simpa [Lit.wf, IntKind.min, IntKind.max, IntKind.signed, IntKind.bits] using h
  exact ⟨z.toNat, by omega, by omega⟩
theorem nat_u8 {z : Int} (h : (Lit.int .u8 z).wf = true) : ∃ n : Nat, z = (n : Int) ∧ n < 256 := by
  have hb : 0 ≤ z ∧ z ≤ 255 := by simpa [Lit.wf, IntKind.min, IntKind.max, IntKind.signed, IntKind.bits] using h
  exact ⟨z.toNat, by omega, by omega⟩
theorem int_i64 {z : Int} (h : (Lit.int .i64 z).wf = true) : -9223372036854775808 ≤ z ∧ z < 9223372036854775808 := by
  have hb : -9223372036854775808 ≤ z ∧ z ≤ 9223372036854775807 := by simpa [Lit.wf, IntKind.min, IntKind.max, IntKind.signed, IntKind.bits] using h
  exact ⟨hb.1, by omega⟩

section
variable {H : Type} {enc : TypeId × Value → H} {W : World} {base : Nat} {sp : Nat → Bool} {held : Bool}

/-- a slice of keeps, by its one cell -/
theorem open_keeps {fuel : Nat} {v : Value} {y : DataW H × List MemPlace} (hf : DataW.trod enc Try.prog W base sp held fuel 27 [v] = some y) :
    ∃ (pa : Option Addr) (cap : Nat) (xs : List (Nat × Nat)), v = .slice pa xs.length cap ∧ xs.length ≤ maxLen ∧ Keeps W pa xs ∧ (xs ≠ [] → ∀ a, pa = some a → a.block < W.heap.size) := by
  obtain ⟨yd, yp⟩ := y
  rcases open_slice Try.underlying27 hf with ⟨hcs, _⟩ | ⟨a, len, cap, m, nf, D, Pl, hcs, hbase, hl, hm, hmm, hx, hi⟩
  · simp only [List.cons.injEq, and_true] at hcs
    subst hcs
    exact ⟨none, 0, [], rfl, by unfold maxLen; simp, .inl rfl, fun h => absurd rfl h⟩
  · simp only [List.cons.injEq, and_true] at hcs
    subst hcs
    have hlm : len ≤ m := by rw [hmm]; split <;> omega
    by_cases h0 : len = 0
    · subst h0
      exact ⟨some a, cap, [], rfl, by unfold maxLen; simp, .inl rfl, fun h => absurd rfl h⟩
    · have key : ∀ i, i < len → ∃ x : Nat × Nat, W.cell? (a.add (i * 2)) = some (.int .u16 (x.1 : Int)) ∧ W.cell? (a.add (i * 2 + 1)) = some (.int .u8 (x.2 : Int)) ∧ x.1 < 65536 ∧ x.2 < 256 := by
        intro i hil
        obtain ⟨cs, hc, ht⟩ := hi i (by omega)
        rw [cellsKeep] at hc
        obtain ⟨ys, n', _, _, _, hylen, hfs⟩ := DataW.trod_struct Try.underlying88 ht
        obtain ⟨_, hcl, hat⟩ := World.cells?_some hc
        obtain ⟨v0, v1, rfl⟩ : ∃ v0 v1, cs = [v0, v1] := by
          match cs, hcl with
          | [v0, v1], _ => exact ⟨v0, v1, rfl⟩
        have c0 := hat 0 (by omega)
        have c1 := hat 1 (by omega)
        rw [Go.Deep.add_add a (i * 2)] at c0 c1
        have hyl : ys.length = 2 := hylen
        have t0 : DataW.trod enc Try.prog W base sp held n' 86 (([v0, v1].drop 0).take (Try.prog.cellsOf 86)) = ys[0]? := hfs 0 _ rfl
        rw [cellsU16, List.getElem?_eq_getElem (by omega)] at t0
        replace t0 : DataW.trod enc Try.prog W base sp held n' 86 [v0] = some (ys[0]'(by omega)) := t0
        have t1 : DataW.trod enc Try.prog W base sp held n' 5 (([v0, v1].drop 1).take (Try.prog.cellsOf 5)) = ys[1]? := hfs 1 _ rfl
        rw [cellsU8, List.getElem?_eq_getElem (by omega)] at t1
        replace t1 : DataW.trod enc Try.prog W base sp held n' 5 [v1] = some (ys[1]'(by omega)) := t1
        obtain ⟨z0, e0, _, w0⟩ := DataW.trod_int Try.underlying86 t0
        obtain ⟨z1, e1, _, w1⟩ := DataW.trod_int Try.underlying5 t1
        obtain ⟨n0, rfl, b0⟩ := nat_u16 w0
        obtain ⟨n1, rfl, b1⟩ := nat_u8 w1
        simp only [List.cons.injEq, and_true] at e0 e1
        subst e0 e1
        exact ⟨(n0, n1), c0, c1, b0, b1⟩
      obtain ⟨V, hV⟩ := choose_lt (α := Nat × Nat) (p := fun i x => W.cell? (a.add (i * 2)) = some (.int .u16 (x.1 : Int)) ∧ W.cell? (a.add (i * 2 + 1)) = some (.int .u8 (x.2 : Int)) ∧ x.1 < 65536 ∧ x.2 < 256) key
      have h00 := (hV 0 (by omega)).1
      have ea : a.add (0 * 2) = a := by simp [Addr.add]
      rw [ea] at h00
      have hsp : a.spot = none := by
        cases hq : a.spot with
        | none => rfl
        | some q =>
          exfalso
          unfold World.cell? at h00
          rw [hq] at h00
          split at h00 <;> simp at h00
      have hlt := World.block_lt_of_cell? W _ h00
      obtain ⟨ab, ao, asp⟩ := a
      simp only at hsp hlt
      subst hsp
      refine ⟨some ⟨ab, ao, none⟩, cap, (List.range len).map V, by simp, by simp; omega, .inr ⟨ab, ao, rfl, hlt, ?_⟩, fun _ a ha => by cases ha; exact hlt⟩
      intro i hil
      have hil' : i < len := by simpa using hil
      obtain ⟨c0, c1, b0, b1⟩ := hV i hil'
      rw [Addr.add_mid] at c0 c1
      have hg : ((List.range len).map V)[i] = V i := by simp
      rw [hg]
      exact ⟨c0, c1, b0, b1⟩

/-- an act -/
structure Ac where
  what : Nat
  a : Nat
  c : UInt8
  pa : Option Addr
  cap : Nat
  keep : List (Nat × Nat)
  z : Int
instance : Inhabited Ac := ⟨⟨0, 0, 0, none, 0, [], 0⟩⟩
def Ac.val (x : Ac) : List Value := [.int .u8 (x.what : Int), .int .u32 (x.a : Int), .int .u8 (x.c.toNat : Int), .slice x.pa x.keep.length x.cap, .int .i64 x.z]
structure AcOk (W : World) (x : Ac) : Prop where
  what : x.what < 256
  a : x.a < 4294967296
  len : x.keep.length ≤ maxLen
  keep : Keeps W x.pa x.keep
  old : x.keep ≠ [] → ∀ q, x.pa = some q → q.block < W.heap.size
  z : -9223372036854775808 ≤ x.z ∧ x.z < 9223372036854775808

theorem open_keeps_arg {b0 : Nat} {v : Value} {d : DataW H} {ps : List MemPlace} (hval : Value.okWide Try.prog W .any b0 27 v) (h : DataW.Trod enc Try.prog W base sp held 27 v d ps) :
    ∃ (pa : Option Addr) (cap : Nat) (xs : List (Nat × Nat)), v = .slice pa xs.length cap ∧ xs.length ≤ maxLen ∧ Keeps W pa xs ∧ (xs ≠ [] → ∀ a, pa = some a → a.block < W.heap.size) := by
  obtain ⟨a0, len, cap, rfl⟩ := okWide_slice Try.underlying27 hval
  obtain ⟨fuel, hf⟩ := h
  exact open_keeps hf

/-- acts, in memory -/
def ActsAt (W : World) (b off : Nat) (xs : List Ac) : Prop := ∀ i (hi : i < xs.length), W.rangeAt b (off + i * 5) xs[i].val
def Acts (W : World) (pa : Option Addr) (xs : List Ac) : Prop := (∀ x ∈ xs, AcOk W x) ∧ (xs = [] ∨ ∃ b off, pa = some ⟨b, off, none⟩ ∧ b < W.heap.size ∧ ActsAt W b off xs)

end

end Go.Proofs.Ytdadcengelfmhaa.Dev
