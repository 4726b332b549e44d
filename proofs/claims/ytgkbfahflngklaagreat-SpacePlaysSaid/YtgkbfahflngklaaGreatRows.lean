/-
  No cell of these rows narrows 'for every input' (looked for: loops, veiled, ifaces, maps, wideKeys, modest, calm, conditions, laid).
  DERIVED. THE GIVEN ROWS OF THIS SEAT. 10 by the template 'for every input the law returns true; each argument reads behind the call as it read before'; 0 by the template 'total and deterministic' (their statements: YtgkbfahflngklaaGreatTotals.lean).
  GIVEN WITH THE SEED: the statements are not yours to turn. If you find one false, say at which input.
  Laid BY PROGRAM, IN A SANDBOX (cutbox-rows.mjs): the forced cells as the released guide's own fill.sh prints them over the translation 64ca324b1324c72d… (all of the seat's roots in one cut). By AI agents, Wed Nov 11 2026. No macro, syntax, notation, axiom, sorry.
-/
import Derived.Test.YtgkbfahflngklaaGreatChecked
import GoSem.Claim
import GoSem.ClaimJoined
import GoSem.ClaimMapViews
import Derived.JoinedTies
import Derived.KernelRfl
namespace Go.Proofs.YtgkbfahflngklaaGreat
/- THE CELL 'sum', in the pinned program and in every row, IS THE sha256 OF THE DUMP (.gsa) THAT YtgkbfahflngklaaGreatProg.lean LOADS. Nothing in Lean hashes anything: it is a label: what it is worth is what the hold of that sum in a sandbox is worth. -/
noncomputable def Tryz.pinned : Pinned := { name := "ytgkbfahflngklaagreat", sum := "64ca324b1324c72d3dfc83f2501baf69c3578fd1ff85955a4380664eef746e5f", checked := Tryz.checked }
namespace Rows
def none {H : Type} : Left H := { results := [], args := [] }

/-- 'pantilelaw09.CountCommits': WHATEVER THE INPUT: true; the input reads as it did. -/
def countCommitsSpec : ChangeSpec := { name := "countCommits", fn := fun _ => fun
  | [d1, d2] => { results := [.lit (.bool true)], args := [d1, d2] }
  | _ => none }
def countCommitsRow : OpenClaim := { program := "ytgkbfahflngklaagreat", sum := "64ca324b1324c72d3dfc83f2501baf69c3578fd1ff85955a4380664eef746e5f", func := "pantile/pantilelaw09.CountCommits", spec := "countCommits", inPlace := ["maps.clone"], unfollowed := true, recurses := true, apart := false }
def CountCommitsSaid : Prop := countCommitsRow.holds Tryz.pinned (OpenSpec.ofChange countCommitsSpec)

/-- ITS FALSE NEIGHBOUR: 'it returns false'. Refute it at one input. -/
def countCommitsWrong : ChangeSpec := { name := "countCommits", fn := fun _ => fun
  | [d1, d2] => { results := [.lit (.bool false)], args := [d1, d2] }
  | _ => none }
def CountCommitsWrongFalsely : Prop := countCommitsRow.holds Tryz.pinned (OpenSpec.ofChange countCommitsWrong)

/-- 'pantilelaw09.CountApart': WHATEVER THE INPUT: true; the input reads as it did. -/
def countApartSpec : ChangeSpec := { name := "countApart", fn := fun _ => fun
  | [d1, d2] => { results := [.lit (.bool true)], args := [d1, d2] }
  | _ => none }
def countApartRow : OpenClaim := { program := "ytgkbfahflngklaagreat", sum := "64ca324b1324c72d3dfc83f2501baf69c3578fd1ff85955a4380664eef746e5f", func := "pantile/pantilelaw09.CountApart", spec := "countApart", unfollowed := true, recurses := true, apart := false }
def CountApartSaid : Prop := countApartRow.holds Tryz.pinned (OpenSpec.ofChange countApartSpec)

/-- ITS FALSE NEIGHBOUR: 'it returns false'. Refute it at one input. -/
def countApartWrong : ChangeSpec := { name := "countApart", fn := fun _ => fun
  | [d1, d2] => { results := [.lit (.bool false)], args := [d1, d2] }
  | _ => none }
def CountApartWrongFalsely : Prop := countApartRow.holds Tryz.pinned (OpenSpec.ofChange countApartWrong)

/-- 'pantilelaw10.SpacePlays': WHATEVER THE INPUT: true; the input reads as it did. -/
def spacePlaysSpec : ChangeSpec := { name := "spacePlays", fn := fun _ => fun
  | [d1, d2, d3] => { results := [.lit (.bool true)], args := [d1, d2, d3] }
  | _ => none }
def spacePlaysRow : OpenClaim := { program := "ytgkbfahflngklaagreat", sum := "64ca324b1324c72d3dfc83f2501baf69c3578fd1ff85955a4380664eef746e5f", func := "pantile/pantilelaw10.SpacePlays", spec := "spacePlays", unfollowed := true, recurses := true, apart := false }
def SpacePlaysSaid : Prop := spacePlaysRow.holds Tryz.pinned (OpenSpec.ofChange spacePlaysSpec)

/-- ITS FALSE NEIGHBOUR: 'it returns false'. Refute it at one input. -/
def spacePlaysWrong : ChangeSpec := { name := "spacePlays", fn := fun _ => fun
  | [d1, d2, d3] => { results := [.lit (.bool false)], args := [d1, d2, d3] }
  | _ => none }
def SpacePlaysWrongFalsely : Prop := spacePlaysRow.holds Tryz.pinned (OpenSpec.ofChange spacePlaysWrong)

/-- 'pantilelaw10.SpaceReckons': WHATEVER THE INPUT: true; the input reads as it did. -/
def spaceReckonsSpec : ChangeSpec := { name := "spaceReckons", fn := fun _ => fun
  | [d1, d2, d3] => { results := [.lit (.bool true)], args := [d1, d2, d3] }
  | _ => none }
def spaceReckonsRow : OpenClaim := { program := "ytgkbfahflngklaagreat", sum := "64ca324b1324c72d3dfc83f2501baf69c3578fd1ff85955a4380664eef746e5f", func := "pantile/pantilelaw10.SpaceReckons", spec := "spaceReckons", unfollowed := true, recurses := true, apart := false }
def SpaceReckonsSaid : Prop := spaceReckonsRow.holds Tryz.pinned (OpenSpec.ofChange spaceReckonsSpec)

/-- ITS FALSE NEIGHBOUR: 'it returns false'. Refute it at one input. -/
def spaceReckonsWrong : ChangeSpec := { name := "spaceReckons", fn := fun _ => fun
  | [d1, d2, d3] => { results := [.lit (.bool false)], args := [d1, d2, d3] }
  | _ => none }
def SpaceReckonsWrongFalsely : Prop := spaceReckonsRow.holds Tryz.pinned (OpenSpec.ofChange spaceReckonsWrong)

/-- 'pantilelaw10.SpaceNone': WHATEVER THE INPUT: true; the input reads as it did. -/
def spaceNoneSpec : ChangeSpec := { name := "spaceNone", fn := fun _ => fun
  | [d1, d2] => { results := [.lit (.bool true)], args := [d1, d2] }
  | _ => none }
def spaceNoneRow : OpenClaim := { program := "ytgkbfahflngklaagreat", sum := "64ca324b1324c72d3dfc83f2501baf69c3578fd1ff85955a4380664eef746e5f", func := "pantile/pantilelaw10.SpaceNone", spec := "spaceNone", unfollowed := true, recurses := true, apart := false }
def SpaceNoneSaid : Prop := spaceNoneRow.holds Tryz.pinned (OpenSpec.ofChange spaceNoneSpec)

/-- ITS FALSE NEIGHBOUR: 'it returns false'. Refute it at one input. -/
def spaceNoneWrong : ChangeSpec := { name := "spaceNone", fn := fun _ => fun
  | [d1, d2] => { results := [.lit (.bool false)], args := [d1, d2] }
  | _ => none }
def SpaceNoneWrongFalsely : Prop := spaceNoneRow.holds Tryz.pinned (OpenSpec.ofChange spaceNoneWrong)

/-- 'pantilelaw10.SpaceOrder': WHATEVER THE INPUT: true; the input reads as it did. -/
def spaceOrderSpec : ChangeSpec := { name := "spaceOrder", fn := fun _ => fun
  | [d1, d2, d3] => { results := [.lit (.bool true)], args := [d1, d2, d3] }
  | _ => none }
def spaceOrderRow : OpenClaim := { program := "ytgkbfahflngklaagreat", sum := "64ca324b1324c72d3dfc83f2501baf69c3578fd1ff85955a4380664eef746e5f", func := "pantile/pantilelaw10.SpaceOrder", spec := "spaceOrder", unfollowed := true, recurses := true, apart := false }
def SpaceOrderSaid : Prop := spaceOrderRow.holds Tryz.pinned (OpenSpec.ofChange spaceOrderSpec)

/-- ITS FALSE NEIGHBOUR: 'it returns false'. Refute it at one input. -/
def spaceOrderWrong : ChangeSpec := { name := "spaceOrder", fn := fun _ => fun
  | [d1, d2, d3] => { results := [.lit (.bool false)], args := [d1, d2, d3] }
  | _ => none }
def SpaceOrderWrongFalsely : Prop := spaceOrderRow.holds Tryz.pinned (OpenSpec.ofChange spaceOrderWrong)

/-- 'pantilelaw11.StagePlays': WHATEVER THE INPUT: true; the input reads as it did. -/
def stagePlaysSpec : ChangeSpec := { name := "stagePlays", fn := fun _ => fun
  | [d1, d2] => { results := [.lit (.bool true)], args := [d1, d2] }
  | _ => none }
def stagePlaysRow : OpenClaim := { program := "ytgkbfahflngklaagreat", sum := "64ca324b1324c72d3dfc83f2501baf69c3578fd1ff85955a4380664eef746e5f", func := "pantile/pantilelaw11.StagePlays", spec := "stagePlays", unfollowed := true, recurses := true, apart := false }
def StagePlaysSaid : Prop := stagePlaysRow.holds Tryz.pinned (OpenSpec.ofChange stagePlaysSpec)

/-- ITS FALSE NEIGHBOUR: 'it returns false'. Refute it at one input. -/
def stagePlaysWrong : ChangeSpec := { name := "stagePlays", fn := fun _ => fun
  | [d1, d2] => { results := [.lit (.bool false)], args := [d1, d2] }
  | _ => none }
def StagePlaysWrongFalsely : Prop := stagePlaysRow.holds Tryz.pinned (OpenSpec.ofChange stagePlaysWrong)

/-- 'pantilelaw11.StageHolds': WHATEVER THE INPUT: true; the input reads as it did. -/
def stageHoldsSpec : ChangeSpec := { name := "stageHolds", fn := fun _ => fun
  | [d1, d2, d3] => { results := [.lit (.bool true)], args := [d1, d2, d3] }
  | _ => none }
def stageHoldsRow : OpenClaim := { program := "ytgkbfahflngklaagreat", sum := "64ca324b1324c72d3dfc83f2501baf69c3578fd1ff85955a4380664eef746e5f", func := "pantile/pantilelaw11.StageHolds", spec := "stageHolds", inPlace := ["maps.clone"], unfollowed := true, recurses := true, apart := false }
def StageHoldsSaid : Prop := stageHoldsRow.holds Tryz.pinned (OpenSpec.ofChange stageHoldsSpec)

/-- ITS FALSE NEIGHBOUR: 'it returns false'. Refute it at one input. -/
def stageHoldsWrong : ChangeSpec := { name := "stageHolds", fn := fun _ => fun
  | [d1, d2, d3] => { results := [.lit (.bool false)], args := [d1, d2, d3] }
  | _ => none }
def StageHoldsWrongFalsely : Prop := stageHoldsRow.holds Tryz.pinned (OpenSpec.ofChange stageHoldsWrong)

/-- 'pantilelaw11.StageNone': WHATEVER THE INPUT: true; the input reads as it did. -/
def stageNoneSpec : ChangeSpec := { name := "stageNone", fn := fun _ => fun
  | [d1, d2, d3] => { results := [.lit (.bool true)], args := [d1, d2, d3] }
  | _ => none }
def stageNoneRow : OpenClaim := { program := "ytgkbfahflngklaagreat", sum := "64ca324b1324c72d3dfc83f2501baf69c3578fd1ff85955a4380664eef746e5f", func := "pantile/pantilelaw11.StageNone", spec := "stageNone", unfollowed := true, recurses := true, apart := false }
def StageNoneSaid : Prop := stageNoneRow.holds Tryz.pinned (OpenSpec.ofChange stageNoneSpec)

/-- ITS FALSE NEIGHBOUR: 'it returns false'. Refute it at one input. -/
def stageNoneWrong : ChangeSpec := { name := "stageNone", fn := fun _ => fun
  | [d1, d2, d3] => { results := [.lit (.bool false)], args := [d1, d2, d3] }
  | _ => none }
def StageNoneWrongFalsely : Prop := stageNoneRow.holds Tryz.pinned (OpenSpec.ofChange stageNoneWrong)

/-- 'pantilelaw11.StageDrops': WHATEVER THE INPUT: true; the input reads as it did. -/
def stageDropsSpec : ChangeSpec := { name := "stageDrops", fn := fun _ => fun
  | [d1, d2, d3] => { results := [.lit (.bool true)], args := [d1, d2, d3] }
  | _ => none }
def stageDropsRow : OpenClaim := { program := "ytgkbfahflngklaagreat", sum := "64ca324b1324c72d3dfc83f2501baf69c3578fd1ff85955a4380664eef746e5f", func := "pantile/pantilelaw11.StageDrops", spec := "stageDrops", unfollowed := true, recurses := true, apart := false }
def StageDropsSaid : Prop := stageDropsRow.holds Tryz.pinned (OpenSpec.ofChange stageDropsSpec)

/-- ITS FALSE NEIGHBOUR: 'it returns false'. Refute it at one input. -/
def stageDropsWrong : ChangeSpec := { name := "stageDrops", fn := fun _ => fun
  | [d1, d2, d3] => { results := [.lit (.bool false)], args := [d1, d2, d3] }
  | _ => none }
def StageDropsWrongFalsely : Prop := stageDropsRow.holds Tryz.pinned (OpenSpec.ofChange stageDropsWrong)

/- THE SECOND FORM. 'bulk': how many values and letters a reading holds, each counted each time it is reached (what is shared counts as often as it is met; a slice's spare places count too). A statement '..UptoSaid' is the law's where the arguments, and the package variables that the reading takes, are together of bulk at most 1048576: NARROWER than '..Said'. Prove '..Said' where nothing that the law and all that it calls make is longer than what came in: it says more and counts as full. Else prove '..UptoSaid'. A law counts once. -/
mutual
def uptoBulk {H : Type} : DataW H → Nat
  | .lit (.string bytes) => bytes.length + 1
  | .lit _ => 1
  | .nil => 1
  | .ptr d => uptoBulk d + 1
  | .slice elems spare => uptoBulkAll elems + uptoBulkAll spare + 1
  | .agg parts => uptoBulkAll parts + 1
  | .iface _ d => uptoBulk d + 1
  | .map entries => uptoBulkEntries entries + 1
  | .held _ => 1
def uptoBulkAll {H : Type} : List (DataW H) → Nat
  | [] => 0
  | d :: r => uptoBulk d + uptoBulkAll r
def uptoBulkEntries {H : Type} : List (Lit × DataW H) → Nat
  | [] => 0
  | x :: r => uptoBulkEntry x + uptoBulkEntries r
def uptoBulkEntry {H : Type} : Lit × DataW H → Nat
  | (.string bytes, d) => bytes.length + uptoBulk d + 1
  | (_, d) => uptoBulk d + 1
 end
def uptoSmall : (H : Type) → List (DataW H) → Bool := fun _ ds => decide (uptoBulkAll ds ≤ 1048576)
def OpenSpec.upto (s : _root_.Go.ChangeSpec) : _root_.Go.OpenSpec := { _root_.Go.OpenSpec.ofChange s with cond := some uptoSmall }

/-- 'pantilelaw09.CountCommits', WHERE WHAT IT READS IS OF BULK AT MOST 1048576: true; the input reads as it did. -/
def countCommitsUptoRow : OpenClaim := { program := "ytgkbfahflngklaagreat", sum := "64ca324b1324c72d3dfc83f2501baf69c3578fd1ff85955a4380664eef746e5f", func := "pantile/pantilelaw09.CountCommits", spec := "countCommits", inPlace := ["maps.clone"], unfollowed := true, recurses := true, apart := false, narrowed := true }
def CountCommitsUptoSaid : Prop := countCommitsUptoRow.holds Tryz.pinned (OpenSpec.upto countCommitsSpec)

/-- 'pantilelaw09.CountApart', WHERE WHAT IT READS IS OF BULK AT MOST 1048576: true; the input reads as it did. -/
def countApartUptoRow : OpenClaim := { program := "ytgkbfahflngklaagreat", sum := "64ca324b1324c72d3dfc83f2501baf69c3578fd1ff85955a4380664eef746e5f", func := "pantile/pantilelaw09.CountApart", spec := "countApart", unfollowed := true, recurses := true, apart := false, narrowed := true }
def CountApartUptoSaid : Prop := countApartUptoRow.holds Tryz.pinned (OpenSpec.upto countApartSpec)

/-- 'pantilelaw10.SpacePlays', WHERE WHAT IT READS IS OF BULK AT MOST 1048576: true; the input reads as it did. -/
def spacePlaysUptoRow : OpenClaim := { program := "ytgkbfahflngklaagreat", sum := "64ca324b1324c72d3dfc83f2501baf69c3578fd1ff85955a4380664eef746e5f", func := "pantile/pantilelaw10.SpacePlays", spec := "spacePlays", unfollowed := true, recurses := true, apart := false, narrowed := true }
def SpacePlaysUptoSaid : Prop := spacePlaysUptoRow.holds Tryz.pinned (OpenSpec.upto spacePlaysSpec)

/-- 'pantilelaw10.SpaceReckons', WHERE WHAT IT READS IS OF BULK AT MOST 1048576: true; the input reads as it did. -/
def spaceReckonsUptoRow : OpenClaim := { program := "ytgkbfahflngklaagreat", sum := "64ca324b1324c72d3dfc83f2501baf69c3578fd1ff85955a4380664eef746e5f", func := "pantile/pantilelaw10.SpaceReckons", spec := "spaceReckons", unfollowed := true, recurses := true, apart := false, narrowed := true }
def SpaceReckonsUptoSaid : Prop := spaceReckonsUptoRow.holds Tryz.pinned (OpenSpec.upto spaceReckonsSpec)

/-- 'pantilelaw10.SpaceNone', WHERE WHAT IT READS IS OF BULK AT MOST 1048576: true; the input reads as it did. -/
def spaceNoneUptoRow : OpenClaim := { program := "ytgkbfahflngklaagreat", sum := "64ca324b1324c72d3dfc83f2501baf69c3578fd1ff85955a4380664eef746e5f", func := "pantile/pantilelaw10.SpaceNone", spec := "spaceNone", unfollowed := true, recurses := true, apart := false, narrowed := true }
def SpaceNoneUptoSaid : Prop := spaceNoneUptoRow.holds Tryz.pinned (OpenSpec.upto spaceNoneSpec)

/-- 'pantilelaw10.SpaceOrder', WHERE WHAT IT READS IS OF BULK AT MOST 1048576: true; the input reads as it did. -/
def spaceOrderUptoRow : OpenClaim := { program := "ytgkbfahflngklaagreat", sum := "64ca324b1324c72d3dfc83f2501baf69c3578fd1ff85955a4380664eef746e5f", func := "pantile/pantilelaw10.SpaceOrder", spec := "spaceOrder", unfollowed := true, recurses := true, apart := false, narrowed := true }
def SpaceOrderUptoSaid : Prop := spaceOrderUptoRow.holds Tryz.pinned (OpenSpec.upto spaceOrderSpec)

/-- 'pantilelaw11.StagePlays', WHERE WHAT IT READS IS OF BULK AT MOST 1048576: true; the input reads as it did. -/
def stagePlaysUptoRow : OpenClaim := { program := "ytgkbfahflngklaagreat", sum := "64ca324b1324c72d3dfc83f2501baf69c3578fd1ff85955a4380664eef746e5f", func := "pantile/pantilelaw11.StagePlays", spec := "stagePlays", unfollowed := true, recurses := true, apart := false, narrowed := true }
def StagePlaysUptoSaid : Prop := stagePlaysUptoRow.holds Tryz.pinned (OpenSpec.upto stagePlaysSpec)

/-- 'pantilelaw11.StageHolds', WHERE WHAT IT READS IS OF BULK AT MOST 1048576: true; the input reads as it did. -/
def stageHoldsUptoRow : OpenClaim := { program := "ytgkbfahflngklaagreat", sum := "64ca324b1324c72d3dfc83f2501baf69c3578fd1ff85955a4380664eef746e5f", func := "pantile/pantilelaw11.StageHolds", spec := "stageHolds", inPlace := ["maps.clone"], unfollowed := true, recurses := true, apart := false, narrowed := true }
def StageHoldsUptoSaid : Prop := stageHoldsUptoRow.holds Tryz.pinned (OpenSpec.upto stageHoldsSpec)

/-- 'pantilelaw11.StageNone', WHERE WHAT IT READS IS OF BULK AT MOST 1048576: true; the input reads as it did. -/
def stageNoneUptoRow : OpenClaim := { program := "ytgkbfahflngklaagreat", sum := "64ca324b1324c72d3dfc83f2501baf69c3578fd1ff85955a4380664eef746e5f", func := "pantile/pantilelaw11.StageNone", spec := "stageNone", unfollowed := true, recurses := true, apart := false, narrowed := true }
def StageNoneUptoSaid : Prop := stageNoneUptoRow.holds Tryz.pinned (OpenSpec.upto stageNoneSpec)

/-- 'pantilelaw11.StageDrops', WHERE WHAT IT READS IS OF BULK AT MOST 1048576: true; the input reads as it did. -/
def stageDropsUptoRow : OpenClaim := { program := "ytgkbfahflngklaagreat", sum := "64ca324b1324c72d3dfc83f2501baf69c3578fd1ff85955a4380664eef746e5f", func := "pantile/pantilelaw11.StageDrops", spec := "stageDrops", unfollowed := true, recurses := true, apart := false, narrowed := true }
def StageDropsUptoSaid : Prop := stageDropsUptoRow.holds Tryz.pinned (OpenSpec.upto stageDropsSpec)

end Rows
end Go.Proofs.YtgkbfahflngklaaGreat
