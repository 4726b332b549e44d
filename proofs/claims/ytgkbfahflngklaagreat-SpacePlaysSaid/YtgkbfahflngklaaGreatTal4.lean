import Derived.Test.YtgkbfahflngklaaGreatTal1
import Derived.Test.YtgkbfahflngklaaGreatPln
import Derived.Laws.StructEq
import Derived.ChangeKeysEq
import Derived.StillTailTactics
import Derived.Test.YtgkbfahflngklaaGreatTal2
import Derived.Deep.Cut
set_option maxRecDepth 100000
namespace Go.Proofs.YtgkbfahflngklaaGreat
namespace Tal
open Go.RowKit RowLaw Crc Fld
end Tal
namespace Tal
open Go.RowKit RowLaw Crc Fld
end Tal
namespace Tal
open Go.RowKit RowLaw Crc Fld
end Tal
namespace Tal
open Go.RowKit RowLaw Crc Fld
def T300:List Nat:=(zs kT).set 0 300
def B1:List UInt8:=pgB kT 1 T300
end Tal

end Go.Proofs.YtgkbfahflngklaaGreat
