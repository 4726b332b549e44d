/-
  Tal4: TalZeros, TalEq, TalBits, TalHead.
-/
import Derived.Test.YtojpcgjmainbfaaGreatTal1
import Derived.Test.YtojpcgjmainbfaaGreatKept
import Derived.Test.YtojpcgjmainbfaaGreatBoxes1
import Derived.Laws.StructEq
import Derived.ChangeKeysEq
import Derived.StillTailTactics
import Derived.Test.YtojpcgjmainbfaaGreatTal2
import Derived.Deep.Cut
/-
  How many counts are 0: the walks of tally.Zeros and of the reference's.
-/
namespace Go.Proofs.YtojpcgjmainbfaaGreat.Tal
open Go.RowKit RowLaw Crc Fld
set_option maxRecDepth 100000

end Go.Proofs.YtojpcgjmainbfaaGreat.Tal

/-
  Pages compared by '=='.
-/
namespace Go.Proofs.YtojpcgjmainbfaaGreat.Tal
open Go.RowKit RowLaw Crc Fld
set_option maxRecDepth 100000

end Go.Proofs.YtojpcgjmainbfaaGreat.Tal

/-
  Bits of picks, at the numbers that the statements' head names.
-/
namespace Go.Proofs.YtojpcgjmainbfaaGreat.Tal
open Go.RowKit RowLaw Crc Fld
set_option maxRecDepth 100000

end Go.Proofs.YtojpcgjmainbfaaGreat.Tal

/-
  The statements' known answers of pages, and the walk of their head.
-/
namespace Go.Proofs.YtojpcgjmainbfaaGreat.Tal
open Go.RowKit RowLaw Crc Fld
set_option maxRecDepth 100000

def T300 : List Nat := (zs kT).set 0 300
def B1 : List UInt8 := pgB kT 1 T300
end Go.Proofs.YtojpcgjmainbfaaGreat.Tal

