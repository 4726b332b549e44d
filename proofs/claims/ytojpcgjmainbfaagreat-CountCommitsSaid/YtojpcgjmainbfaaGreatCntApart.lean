/-
  The law CountApart, walked.
-/
import Derived.Test.YtojpcgjmainbfaaGreatCntH
import Derived.Test.YtojpcgjmainbfaaGreatSrtD
import Derived.Deep.CutRange
namespace Go.Proofs.YtojpcgjmainbfaaGreat.Cnt
open Go.RowKit Go.Maps Go.MapKept RowLaw Crc
open Go.Proofs.YtojpcgjmainbfaaGreat.Dev (Dev DS ptr newS)
open Go.Proofs.YtojpcgjmainbfaaGreat.Slt (Rt cells rootO cells_one)
open Go.Proofs.YtojpcgjmainbfaaGreat.Rot (planOk tlN pkN fsN plan_facts)
open Go.Proofs.YtojpcgjmainbfaaGreat.Tal (kT kP zs)
set_option maxRecDepth 100000

section
variable {w W : World} {l : List Thing} {K : List (Nat × Obj)} {i t : Nat} {T : TD}
theorem Hall.first (h : Hall w l K W) (hi : l[i]? = some (.tab t T)) : Calls Tryz.prog 14 #[ptr t] W fun e W' => e = .returned (.int .u32 (fsN T.n : Int)) ∧ W' = W := by
  obtain ⟨_, f, h2, _⟩ := h
  obtain ⟨bp, bt, bc, fp, ft, fc, hT⟩ := (h2 i _ hi).1
  exact First_anyT hT
end
end Go.Proofs.YtojpcgjmainbfaaGreat.Cnt
