/-
  great; acts out of the argument.
-/
import Derived.Test.YtojpcgjmainbfaaGreatDev3
import Derived.Test.YtojpcgjmainbfaaGreatDevOpen
namespace Go.Proofs.YtojpcgjmainbfaaGreat.Dev
open Go.RowKit RowLaw
set_option maxRecDepth 100000

end Go.Proofs.YtojpcgjmainbfaaGreat.Dev
