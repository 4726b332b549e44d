/-
  No cell of these rows narrows 'for every input' (looked for: loops, veiled, ifaces, maps, wideKeys, modest, calm, conditions, laid).
  DERIVED. THE GIVEN ROWS OF THIS SEAT. 4 by the template 'for every input the law returns true; each argument reads behind the call as it read before'; 0 by the template 'total and deterministic' (their statements: YtlojhdnahioicaaTotals.lean).
  GIVEN WITH THE SEED: the statements are not yours to turn. If you find one false, say at which input.
  Laid BY PROGRAM, IN A SANDBOX (cutbox-rows.mjs): the forced cells as the released guide's own fill.sh prints them over the translation d80bd50f62c4c9b1… (all of the seat's roots in one cut). By AI agents, Wed Nov 11 2026. No macro, syntax, notation, axiom, sorry.
-/
import Derived.Test.YtlojhdnahioicaaChecked
import GoSem.Claim
import GoSem.ClaimJoined
import GoSem.ClaimMapViews
import Derived.JoinedTies
import Derived.KernelRfl
namespace Go.Proofs.Ytlojhdnahioicaa
/- THE CELL 'sum', in the pinned program and in every row, IS THE sha256 OF THE DUMP (.gsa) THAT YtlojhdnahioicaaProg.lean LOADS. Nothing in Lean hashes anything: it is a label: what it is worth is what the hold of that sum in a sandbox is worth. -/
noncomputable def Try.pinned : Pinned := { name := "ytlojhdnahioicaa", sum := "d80bd50f62c4c9b1bbd051e825714edcadaae62b35a73d7b05075768831668cc", checked := Try.checked }
namespace Rows
def none {H : Type} : Left H := { results := [], args := [] }

/-- 'pantilelaw08.RootPlans': WHATEVER THE INPUT: true; the input reads as it did. -/
def rootPlansSpec : ChangeSpec := { name := "rootPlans", fn := fun _ => fun
  | [d] => { results := [.lit (.bool true)], args := [d] }
  | _ => none }
def rootPlansRow : OpenClaim := { program := "ytlojhdnahioicaa", sum := "d80bd50f62c4c9b1bbd051e825714edcadaae62b35a73d7b05075768831668cc", func := "pantile/pantilelaw08.RootPlans", spec := "rootPlans", unfollowed := true, recurses := true, apart := false }
def RootPlansSaid : Prop := rootPlansRow.holds Try.pinned (OpenSpec.ofChange rootPlansSpec)

/-- ITS FALSE NEIGHBOUR: 'it returns false'. Refute it at one input. -/
def rootPlansWrong : ChangeSpec := { name := "rootPlans", fn := fun _ => fun
  | [d] => { results := [.lit (.bool false)], args := [d] }
  | _ => none }
def RootPlansWrongFalsely : Prop := rootPlansRow.holds Try.pinned (OpenSpec.ofChange rootPlansWrong)

/-- 'pantilelaw08.RootCrashes': WHATEVER THE INPUT: true; the input reads as it did. -/
def rootCrashesSpec : ChangeSpec := { name := "rootCrashes", fn := fun _ => fun
  | [d1, d2, d3] => { results := [.lit (.bool true)], args := [d1, d2, d3] }
  | _ => none }
def rootCrashesRow : OpenClaim := { program := "ytlojhdnahioicaa", sum := "d80bd50f62c4c9b1bbd051e825714edcadaae62b35a73d7b05075768831668cc", func := "pantile/pantilelaw08.RootCrashes", spec := "rootCrashes", inPlace := ["maps.clone"], unfollowed := true, recurses := true, apart := false }
def RootCrashesSaid : Prop := rootCrashesRow.holds Try.pinned (OpenSpec.ofChange rootCrashesSpec)

/-- ITS FALSE NEIGHBOUR: 'it returns false'. Refute it at one input. -/
def rootCrashesWrong : ChangeSpec := { name := "rootCrashes", fn := fun _ => fun
  | [d1, d2, d3] => { results := [.lit (.bool false)], args := [d1, d2, d3] }
  | _ => none }
def RootCrashesWrongFalsely : Prop := rootCrashesRow.holds Try.pinned (OpenSpec.ofChange rootCrashesWrong)

/-- 'pantilelaw08.RootFormats': WHATEVER THE INPUT: true; the input reads as it did. -/
def rootFormatsSpec : ChangeSpec := { name := "rootFormats", fn := fun _ => fun
  | [d1, d2] => { results := [.lit (.bool true)], args := [d1, d2] }
  | _ => none }
def rootFormatsRow : OpenClaim := { program := "ytlojhdnahioicaa", sum := "d80bd50f62c4c9b1bbd051e825714edcadaae62b35a73d7b05075768831668cc", func := "pantile/pantilelaw08.RootFormats", spec := "rootFormats", inPlace := ["maps.clone"], unfollowed := true, recurses := true, apart := false }
def RootFormatsSaid : Prop := rootFormatsRow.holds Try.pinned (OpenSpec.ofChange rootFormatsSpec)

/-- ITS FALSE NEIGHBOUR: 'it returns false'. Refute it at one input. -/
def rootFormatsWrong : ChangeSpec := { name := "rootFormats", fn := fun _ => fun
  | [d1, d2] => { results := [.lit (.bool false)], args := [d1, d2] }
  | _ => none }
def RootFormatsWrongFalsely : Prop := rootFormatsRow.holds Try.pinned (OpenSpec.ofChange rootFormatsWrong)

/-- 'pantilelaw08.RootChain': WHATEVER THE INPUT: true; the input reads as it did. -/
def rootChainSpec : ChangeSpec := { name := "rootChain", fn := fun _ => fun
  | [d1, d2, d3] => { results := [.lit (.bool true)], args := [d1, d2, d3] }
  | _ => none }
def rootChainRow : OpenClaim := { program := "ytlojhdnahioicaa", sum := "d80bd50f62c4c9b1bbd051e825714edcadaae62b35a73d7b05075768831668cc", func := "pantile/pantilelaw08.RootChain", spec := "rootChain", unfollowed := true, recurses := true, apart := false }
def RootChainSaid : Prop := rootChainRow.holds Try.pinned (OpenSpec.ofChange rootChainSpec)

/-- ITS FALSE NEIGHBOUR: 'it returns false'. Refute it at one input. -/
def rootChainWrong : ChangeSpec := { name := "rootChain", fn := fun _ => fun
  | [d1, d2, d3] => { results := [.lit (.bool false)], args := [d1, d2, d3] }
  | _ => none }
def RootChainWrongFalsely : Prop := rootChainRow.holds Try.pinned (OpenSpec.ofChange rootChainWrong)

/- THE SECOND FORM. 'bulk': how many values and letters a reading holds, each counted each time it is reached (what is shared counts as often as it is met; a slice's spare places count too). A statement '..UptoSaid' is the law's where the arguments, and the package variables that the reading takes, are together of bulk at most 1048576: NARROWER than '..Said'. Prove '..Said' where nothing that the law and all that it calls make is longer than what came in: it says more and counts as full. Else prove '..UptoSaid'. A law counts once. -/
mutual
def uptoBulk {H : Type} : DataW H → Nat
  | .lit (.string bytes) => bytes.length + 1
  | .lit _ => 1
  | .nil => 1
  | .ptr d => uptoBulk d + 1
  | .slice elems spare => uptoBulkAll elems + uptoBulkAll spare + 1
  | .agg parts => uptoBulkAll parts + 1
  | .iface _ d => uptoBulk d + 1
  | .map entries => uptoBulkEntries entries + 1
  | .held _ => 1
def uptoBulkAll {H : Type} : List (DataW H) → Nat
  | [] => 0
  | d :: r => uptoBulk d + uptoBulkAll r
def uptoBulkEntries {H : Type} : List (Lit × DataW H) → Nat
  | [] => 0
  | x :: r => uptoBulkEntry x + uptoBulkEntries r
def uptoBulkEntry {H : Type} : Lit × DataW H → Nat
  | (.string bytes, d) => bytes.length + uptoBulk d + 1
  | (_, d) => uptoBulk d + 1
 end
def uptoSmall : (H : Type) → List (DataW H) → Bool := fun _ ds => decide (uptoBulkAll ds ≤ 1048576)
def OpenSpec.upto (s : _root_.Go.ChangeSpec) : _root_.Go.OpenSpec := { _root_.Go.OpenSpec.ofChange s with cond := some uptoSmall }

/-- 'pantilelaw08.RootPlans', WHERE WHAT IT READS IS OF BULK AT MOST 1048576: true; the input reads as it did. -/
def rootPlansUptoRow : OpenClaim := { program := "ytlojhdnahioicaa", sum := "d80bd50f62c4c9b1bbd051e825714edcadaae62b35a73d7b05075768831668cc", func := "pantile/pantilelaw08.RootPlans", spec := "rootPlans", unfollowed := true, recurses := true, apart := false, narrowed := true }
def RootPlansUptoSaid : Prop := rootPlansUptoRow.holds Try.pinned (OpenSpec.upto rootPlansSpec)

/-- 'pantilelaw08.RootCrashes', WHERE WHAT IT READS IS OF BULK AT MOST 1048576: true; the input reads as it did. -/
def rootCrashesUptoRow : OpenClaim := { program := "ytlojhdnahioicaa", sum := "d80bd50f62c4c9b1bbd051e825714edcadaae62b35a73d7b05075768831668cc", func := "pantile/pantilelaw08.RootCrashes", spec := "rootCrashes", inPlace := ["maps.clone"], unfollowed := true, recurses := true, apart := false, narrowed := true }
def RootCrashesUptoSaid : Prop := rootCrashesUptoRow.holds Try.pinned (OpenSpec.upto rootCrashesSpec)

/-- 'pantilelaw08.RootFormats', WHERE WHAT IT READS IS OF BULK AT MOST 1048576: true; the input reads as it did. -/
def rootFormatsUptoRow : OpenClaim := { program := "ytlojhdnahioicaa", sum := "d80bd50f62c4c9b1bbd051e825714edcadaae62b35a73d7b05075768831668cc", func := "pantile/pantilelaw08.RootFormats", spec := "rootFormats", inPlace := ["maps.clone"], unfollowed := true, recurses := true, apart := false, narrowed := true }
def RootFormatsUptoSaid : Prop := rootFormatsUptoRow.holds Try.pinned (OpenSpec.upto rootFormatsSpec)

/-- 'pantilelaw08.RootChain', WHERE WHAT IT READS IS OF BULK AT MOST 1048576: true; the input reads as it did. -/
def rootChainUptoRow : OpenClaim := { program := "ytlojhdnahioicaa", sum := "d80bd50f62c4c9b1bbd051e825714edcadaae62b35a73d7b05075768831668cc", func := "pantile/pantilelaw08.RootChain", spec := "rootChain", unfollowed := true, recurses := true, apart := false, narrowed := true }
def RootChainUptoSaid : Prop := rootChainUptoRow.holds Try.pinned (OpenSpec.upto rootChainSpec)

end Rows
end Go.Proofs.Ytlojhdnahioicaa
