/-
  Arguments opened: an act, by value; a slice of acts; a slice of keeps.
-/
import Derived.Test.YtojpcgjmainbfaaGreatDev3
import Derived.Test.YtojpcgjmainbfaaGreatLawKit
import Derived.Deep.Slices
import Derived.Deep.Fields
import Derived.ChangeSame
namespace Go.Proofs.YtojpcgjmainbfaaGreat.Dev
open Go.RowKit Go.ChangeShapes Go.WideShapes Go.Deep
set_option maxRecDepth 100000

theorem cellsU16 : Tryz.prog.cellsOf 37 = 1 := by kernel_rfl
section
variable {H : Type} {enc : TypeId × Value → H} {W : World} {base : Nat} {sp : Nat → Bool} {held : Bool}

/-- an act -/
structure Ac where
  what : Nat
  a : Nat
  c : UInt8
  pa : Option Addr
  cap : Nat
  keep : List (Nat × Nat)
  z : Int
instance : Inhabited Ac := ⟨⟨0, 0, 0, none, 0, [], 0⟩⟩
def Ac.val (x : Ac) : List Value := [.int .u8 (x.what : Int), .int .u32 (x.a : Int), .int .u8 (x.c.toNat : Int), .slice x.pa x.keep.length x.cap, .int .i64 x.z]
end

end Go.Proofs.YtojpcgjmainbfaaGreat.Dev
