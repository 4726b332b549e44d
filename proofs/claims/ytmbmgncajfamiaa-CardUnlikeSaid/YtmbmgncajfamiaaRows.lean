/-
  No cell of these rows narrows 'for every input' (looked for: loops, veiled, ifaces, maps, wideKeys, modest, calm, conditions, laid).
  DERIVED. THE GIVEN ROWS OF THIS SEAT. 4 by the template 'for every input the law returns true; each argument reads behind the call as it read before'; 0 by the template 'total and deterministic' (their statements: YtmbmgncajfamiaaTotals.lean).
  GIVEN WITH THE SEED: the statements are not yours to turn. If you find one false, say at which input.
  Laid BY PROGRAM, IN A SANDBOX (cutbox-rows.mjs): the forced cells as the released guide's own fill.sh prints them over the translation b21eed4734528fbb… (all of the seat's roots in one cut). By AI agents, Wed Nov 11 2026. No macro, syntax, notation, axiom, sorry.
-/
import Derived.Test.YtmbmgncajfamiaaChecked
import GoSem.Claim
import GoSem.ClaimJoined
import GoSem.ClaimMapViews
import Derived.JoinedTies
import Derived.KernelRfl
namespace Go.Proofs.Ytmbmgncajfamiaa
/- THE CELL 'sum', in the pinned program and in every row, IS THE sha256 OF THE DUMP (.gsa) THAT YtmbmgncajfamiaaProg.lean LOADS. Nothing in Lean hashes anything: it is a label: what it is worth is what the hold of that sum in a sandbox is worth. -/
noncomputable def Try.pinned : Pinned := { name := "ytmbmgncajfamiaa", sum := "b21eed4734528fbbd8ec5b340e1a2e33d567c27caa2e6b10a739e35419841845", checked := Try.checked }
namespace Rows
def none {H : Type} : Left H := { results := [], args := [] }

/-- 'pantilelaw06.CardPuts': WHATEVER THE INPUT: true; the input reads as it did. -/
def cardPutsSpec : ChangeSpec := { name := "cardPuts", fn := fun _ => fun
  | [d] => { results := [.lit (.bool true)], args := [d] }
  | _ => none }
def cardPutsRow : OpenClaim := { program := "ytmbmgncajfamiaa", sum := "b21eed4734528fbbd8ec5b340e1a2e33d567c27caa2e6b10a739e35419841845", func := "pantile/pantilelaw06.CardPuts", spec := "cardPuts", unfollowed := true, recurses := true, apart := false }
def CardPutsSaid : Prop := cardPutsRow.holds Try.pinned (OpenSpec.ofChange cardPutsSpec)

/-- ITS FALSE NEIGHBOUR: 'it returns false'. Refute it at one input. -/
def cardPutsWrong : ChangeSpec := { name := "cardPuts", fn := fun _ => fun
  | [d] => { results := [.lit (.bool false)], args := [d] }
  | _ => none }
def CardPutsWrongFalsely : Prop := cardPutsRow.holds Try.pinned (OpenSpec.ofChange cardPutsWrong)

/-- 'pantilelaw06.CardGets': WHATEVER THE INPUT: true; the input reads as it did. -/
def cardGetsSpec : ChangeSpec := { name := "cardGets", fn := fun _ => fun
  | [d1, d2] => { results := [.lit (.bool true)], args := [d1, d2] }
  | _ => none }
def cardGetsRow : OpenClaim := { program := "ytmbmgncajfamiaa", sum := "b21eed4734528fbbd8ec5b340e1a2e33d567c27caa2e6b10a739e35419841845", func := "pantile/pantilelaw06.CardGets", spec := "cardGets", unfollowed := true, recurses := true, apart := false }
def CardGetsSaid : Prop := cardGetsRow.holds Try.pinned (OpenSpec.ofChange cardGetsSpec)

/-- ITS FALSE NEIGHBOUR: 'it returns false'. Refute it at one input. -/
def cardGetsWrong : ChangeSpec := { name := "cardGets", fn := fun _ => fun
  | [d1, d2] => { results := [.lit (.bool false)], args := [d1, d2] }
  | _ => none }
def CardGetsWrongFalsely : Prop := cardGetsRow.holds Try.pinned (OpenSpec.ofChange cardGetsWrong)

/-- 'pantilelaw06.CardUnlike': WHATEVER THE INPUT: true; the input reads as it did. -/
def cardUnlikeSpec : ChangeSpec := { name := "cardUnlike", fn := fun _ => fun
  | [d1, d2, d3] => { results := [.lit (.bool true)], args := [d1, d2, d3] }
  | _ => none }
def cardUnlikeRow : OpenClaim := { program := "ytmbmgncajfamiaa", sum := "b21eed4734528fbbd8ec5b340e1a2e33d567c27caa2e6b10a739e35419841845", func := "pantile/pantilelaw06.CardUnlike", spec := "cardUnlike", unfollowed := true, recurses := true, apart := false }
def CardUnlikeSaid : Prop := cardUnlikeRow.holds Try.pinned (OpenSpec.ofChange cardUnlikeSpec)

/-- ITS FALSE NEIGHBOUR: 'it returns false'. Refute it at one input. -/
def cardUnlikeWrong : ChangeSpec := { name := "cardUnlike", fn := fun _ => fun
  | [d1, d2, d3] => { results := [.lit (.bool false)], args := [d1, d2, d3] }
  | _ => none }
def CardUnlikeWrongFalsely : Prop := cardUnlikeRow.holds Try.pinned (OpenSpec.ofChange cardUnlikeWrong)

/-- 'pantilelaw06.CardTurns': WHATEVER THE INPUT: true; the input reads as it did. -/
def cardTurnsSpec : ChangeSpec := { name := "cardTurns", fn := fun _ => fun
  | [d1, d2, d3] => { results := [.lit (.bool true)], args := [d1, d2, d3] }
  | _ => none }
def cardTurnsRow : OpenClaim := { program := "ytmbmgncajfamiaa", sum := "b21eed4734528fbbd8ec5b340e1a2e33d567c27caa2e6b10a739e35419841845", func := "pantile/pantilelaw06.CardTurns", spec := "cardTurns", unfollowed := true, recurses := true, apart := false }
def CardTurnsSaid : Prop := cardTurnsRow.holds Try.pinned (OpenSpec.ofChange cardTurnsSpec)

/-- ITS FALSE NEIGHBOUR: 'it returns false'. Refute it at one input. -/
def cardTurnsWrong : ChangeSpec := { name := "cardTurns", fn := fun _ => fun
  | [d1, d2, d3] => { results := [.lit (.bool false)], args := [d1, d2, d3] }
  | _ => none }
def CardTurnsWrongFalsely : Prop := cardTurnsRow.holds Try.pinned (OpenSpec.ofChange cardTurnsWrong)

/- THE SECOND FORM. 'bulk': how many values and letters a reading holds, each counted each time it is reached (what is shared counts as often as it is met; a slice's spare places count too). A statement '..UptoSaid' is the law's where the arguments, and the package variables that the reading takes, are together of bulk at most 1048576: NARROWER than '..Said'. Prove '..Said' where nothing that the law and all that it calls make is longer than what came in: it says more and counts as full. Else prove '..UptoSaid'. A law counts once. -/
mutual
def uptoBulk {H : Type} : DataW H → Nat
  | .lit (.string bytes) => bytes.length + 1
  | .lit _ => 1
  | .nil => 1
  | .ptr d => uptoBulk d + 1
  | .slice elems spare => uptoBulkAll elems + uptoBulkAll spare + 1
  | .agg parts => uptoBulkAll parts + 1
  | .iface _ d => uptoBulk d + 1
  | .map entries => uptoBulkEntries entries + 1
  | .held _ => 1
def uptoBulkAll {H : Type} : List (DataW H) → Nat
  | [] => 0
  | d :: r => uptoBulk d + uptoBulkAll r
def uptoBulkEntries {H : Type} : List (Lit × DataW H) → Nat
  | [] => 0
  | x :: r => uptoBulkEntry x + uptoBulkEntries r
def uptoBulkEntry {H : Type} : Lit × DataW H → Nat
  | (.string bytes, d) => bytes.length + uptoBulk d + 1
  | (_, d) => uptoBulk d + 1
 end
def uptoSmall : (H : Type) → List (DataW H) → Bool := fun _ ds => decide (uptoBulkAll ds ≤ 1048576)
def OpenSpec.upto (s : _root_.Go.ChangeSpec) : _root_.Go.OpenSpec := { _root_.Go.OpenSpec.ofChange s with cond := some uptoSmall }

/-- 'pantilelaw06.CardPuts', WHERE WHAT IT READS IS OF BULK AT MOST 1048576: true; the input reads as it did. -/
def cardPutsUptoRow : OpenClaim := { program := "ytmbmgncajfamiaa", sum := "b21eed4734528fbbd8ec5b340e1a2e33d567c27caa2e6b10a739e35419841845", func := "pantile/pantilelaw06.CardPuts", spec := "cardPuts", unfollowed := true, recurses := true, apart := false, narrowed := true }
def CardPutsUptoSaid : Prop := cardPutsUptoRow.holds Try.pinned (OpenSpec.upto cardPutsSpec)

/-- 'pantilelaw06.CardGets', WHERE WHAT IT READS IS OF BULK AT MOST 1048576: true; the input reads as it did. -/
def cardGetsUptoRow : OpenClaim := { program := "ytmbmgncajfamiaa", sum := "b21eed4734528fbbd8ec5b340e1a2e33d567c27caa2e6b10a739e35419841845", func := "pantile/pantilelaw06.CardGets", spec := "cardGets", unfollowed := true, recurses := true, apart := false, narrowed := true }
def CardGetsUptoSaid : Prop := cardGetsUptoRow.holds Try.pinned (OpenSpec.upto cardGetsSpec)

/-- 'pantilelaw06.CardUnlike', WHERE WHAT IT READS IS OF BULK AT MOST 1048576: true; the input reads as it did. -/
def cardUnlikeUptoRow : OpenClaim := { program := "ytmbmgncajfamiaa", sum := "b21eed4734528fbbd8ec5b340e1a2e33d567c27caa2e6b10a739e35419841845", func := "pantile/pantilelaw06.CardUnlike", spec := "cardUnlike", unfollowed := true, recurses := true, apart := false, narrowed := true }
def CardUnlikeUptoSaid : Prop := cardUnlikeUptoRow.holds Try.pinned (OpenSpec.upto cardUnlikeSpec)

/-- 'pantilelaw06.CardTurns', WHERE WHAT IT READS IS OF BULK AT MOST 1048576: true; the input reads as it did. -/
def cardTurnsUptoRow : OpenClaim := { program := "ytmbmgncajfamiaa", sum := "b21eed4734528fbbd8ec5b340e1a2e33d567c27caa2e6b10a739e35419841845", func := "pantile/pantilelaw06.CardTurns", spec := "cardTurns", unfollowed := true, recurses := true, apart := false, narrowed := true }
def CardTurnsUptoSaid : Prop := cardTurnsUptoRow.holds Try.pinned (OpenSpec.upto cardTurnsSpec)

end Rows
end Go.Proofs.Ytmbmgncajfamiaa
