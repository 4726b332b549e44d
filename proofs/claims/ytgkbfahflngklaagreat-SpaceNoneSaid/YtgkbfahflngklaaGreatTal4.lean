import Derived.Test.YtgkbfahflngklaaGreatTal1
import Derived.Test.YtgkbfahflngklaaGreatBlk
import Derived.Test.YtgkbfahflngklaaGreatPln
import Derived.Laws.StructEq
import Derived.ChangeKeysEq
import Derived.StillTailTactics
import Derived.Test.YtgkbfahflngklaaGreatTal2
import Derived.Deep.Cut
namespace Go.Proofs.YtgkbfahflngklaaGreat.Tal
open Go.RowKit RowLaw Crc Fld
set_option maxRecDepth 100000
end Go.Proofs.YtgkbfahflngklaaGreat.Tal
namespace Go.Proofs.YtgkbfahflngklaaGreat.Tal
open Go.RowKit RowLaw Crc Fld
set_option maxRecDepth 100000
end Go.Proofs.YtgkbfahflngklaaGreat.Tal
namespace Go.Proofs.YtgkbfahflngklaaGreat.Tal
open Go.RowKit RowLaw Crc Fld
set_option maxRecDepth 100000
end Go.Proofs.YtgkbfahflngklaaGreat.Tal
namespace Go.Proofs.YtgkbfahflngklaaGreat.Tal
open Go.RowKit RowLaw Crc Fld
set_option maxRecDepth 100000
def T300:List Nat:=(zs kT).set 0 300
def B1:List UInt8:=pgB kT 1 T300
end Go.Proofs.YtgkbfahflngklaaGreat.Tal
