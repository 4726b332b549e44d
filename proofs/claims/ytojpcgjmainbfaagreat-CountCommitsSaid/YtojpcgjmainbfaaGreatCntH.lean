/-
  CntH: CntAp1, CntAp2, CntAp3.
-/
import Derived.Test.YtojpcgjmainbfaaGreatCntG
import Derived.BigRegion
import Derived.BigQuiet
/-
  CountApart's first loop: the counts are set, and kept in a row.
-/
namespace Go.Proofs.YtojpcgjmainbfaaGreat.Cnt
open Go.RowKit Go.Maps Go.MapKept RowLaw Crc
open Go.Proofs.YtojpcgjmainbfaaGreat.Dev (Dev DS ptr)
open Go.Proofs.YtojpcgjmainbfaaGreat.Rot (planOk tlN pkN fsN)
set_option maxRecDepth 100000
end Go.Proofs.YtojpcgjmainbfaaGreat.Cnt

/-
  CountApart's second loop: the counts are read, the pages that are touched counted.
-/
namespace Go.Proofs.YtojpcgjmainbfaaGreat.Cnt
open Go.RowKit Go.Maps Go.MapKept RowLaw Crc
open Go.Proofs.YtojpcgjmainbfaaGreat.Dev (Dev DS ptr)
open Go.Proofs.YtojpcgjmainbfaaGreat.Rot (planOk tlN pkN fsN)
set_option maxRecDepth 100000
end Go.Proofs.YtojpcgjmainbfaaGreat.Cnt

/-
  CountApart's third loop (where the pages are put) and its fourth (all counts are set back).
-/
namespace Go.Proofs.YtojpcgjmainbfaaGreat.Cnt
open Go.RowKit Go.Maps Go.MapKept RowLaw Crc
open Go.Proofs.YtojpcgjmainbfaaGreat.Dev (Dev DS ptr)
open Go.Proofs.YtojpcgjmainbfaaGreat.Rot (planOk tlN pkN fsN)
set_option maxRecDepth 100000
set_option pp.deepTerms true
set_option pp.maxSteps 1000000
end Go.Proofs.YtojpcgjmainbfaaGreat.Cnt

