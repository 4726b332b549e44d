/-
  Arguments opened: an act, by value; a slice of acts; a slice of keeps.
-/
import Derived.Test.YtdadcengelfmhaaGreatDev3
import Derived.Test.YtdadcengelfmhaaGreatLawKit
import Derived.Deep.Slices
import Derived.Deep.Fields
import Derived.ChangeSame
namespace Go.Proofs.YtdadcengelfmhaaGreat.Dev
open Go.RowKit Go.ChangeShapes Go.WideShapes Go.Deep
set_option maxRecDepth 100000

theorem cellsU8 : Tryz.prog.cellsOf 5 = 1 := by kernel_rfl
theorem cellsU16 : Tryz.prog.cellsOf 37 = 1 := by kernel_rfl
theorem cellsU32 : Tryz.prog.cellsOf 22 = 1 := by kernel_rfl
theorem cellsInt : Tryz.prog.cellsOf 3 = 1 := by kernel_rfl

theorem nat_u32 {z : Int} (h : (Lit.int .u32 z).wf = true) : ∃ n : Nat, z = (n : Int) ∧ n < 4294967296 := by
  have hb : 0 ≤ z ∧ z ≤ 4294967295 := by simpa [Lit.wf, IntKind.min, IntKind.max, IntKind.signed, IntKind.bits] using h
  exact ⟨z.toNat, by omega, by omega⟩
theorem nat_u16 {z : Int} (h : (Lit.int .u16 z).wf = true) : ∃ n : Nat, z = (n : Int) ∧ n < 65536 := by
  have hb : 0 ≤ z ∧ z ≤ 65535 := by simpa [Lit.wf, IntKind.min, IntKind.max, IntKind.signed, IntKind.bits] using h
  exact ⟨z.toNat, by omega, by omega⟩
theorem nat_u8 {z : Int} (h : (Lit.int .u8 z).wf = true) : ∃ n : Nat, z = (n : Int) ∧ n < 256 := by
  have hb : 0 ≤ z ∧ z ≤ 255 := by simpa [Lit.wf, IntKind.min, IntKind.max, IntKind.signed, IntKind.bits] using h
  exact ⟨z.toNat, by omega, by omega⟩
theorem int_i64 {z : Int} (h : (Lit.int .i64 z).wf = true) : -9223372036854775808 ≤ z ∧ z < 9223372036854775808 := by
  have hb : -9223372036854775808 ≤ z ∧ z ≤ 9223372036854775807 := by simpa [Lit.wf, IntKind.min, IntKind.max, IntKind.signed, IntKind.bits] using h
  exact ⟨hb.1, by omega⟩

section
variable {H : Type} {enc : TypeId × Value → H} {W : World} {base : Nat} {sp : Nat → Bool} {held : Bool}

/-- an act -/
structure Ac where
  what : Nat
  a : Nat
  c : UInt8
  pa : Option Addr
  cap : Nat
  keep : List (Nat × Nat)
  z : Int
instance : Inhabited Ac := ⟨⟨0, 0, 0, none, 0, [], 0⟩⟩
def Ac.val (x : Ac) : List Value := [.int .u8 (x.what : Int), .int .u32 (x.a : Int), .int .u8 (x.c.toNat : Int), .slice x.pa x.keep.length x.cap, .int .i64 x.z]
structure AcOk (W : World) (x : Ac) : Prop where
  what : x.what < 256
  a : x.a < 4294967296
  len : x.keep.length ≤ maxLen
  keep : Keeps W x.pa x.keep
  old : x.keep ≠ [] → ∀ q, x.pa = some q → q.block < W.heap.size
  z : -9223372036854775808 ≤ x.z ∧ x.z < 9223372036854775808

/-- acts, in memory -/
def ActsAt (W : World) (b off : Nat) (xs : List Ac) : Prop := ∀ i (hi : i < xs.length), W.rangeAt b (off + i * 5) xs[i].val
def Acts (W : World) (pa : Option Addr) (xs : List Ac) : Prop := (∀ x ∈ xs, AcOk W x) ∧ (xs = [] ∨ ∃ b off, pa = some ⟨b, off, none⟩ ∧ b < W.heap.size ∧ ActsAt W b off xs)

end

end Go.Proofs.YtdadcengelfmhaaGreat.Dev
