/- RootChain answers true for every root, every slice of puts and every crash, in whatever memory and on every schedule; no condition. -/
import Derived.Test.YtdadcengelfmhaaRotE
import Derived.Test.YtdadcengelfmhaaRotOpen
import Derived.Test.YtdadcengelfmhaaSltOpen
import Derived.Test.YtdadcengelfmhaaLawKit
namespace Go.Proofs.Ytdadcengelfmhaa.lawRootChain
open Go.ChangeShapes Go.WideShapes Go.ChangeAt Go.RowKit LawKit
open Go.ChangeMaps (open_string)

set_option maxRecDepth 100000 in
set_option maxHeartbeats 1600000 in
theorem lifted (os : Os) (started : os.Started) (H : Type) (enc : TypeId × Value → H) :
    ReturnsInHanded {} Try.checked os 3 .any (Rows.rootChainSpec.pre6 enc Try.prog Try.f3 Rows.rootChainRow.domain false) (Rows.rootChainSpec.post enc Try.prog Try.f3 false true false false) := by
  refine returnsInHanded_of_change (C := Try.checked) own started (by kernel_rfl) Try.func3
    (ChangeSpec.witness6 (enc := enc) (C := Try.checked) false ⟨#[], #[.agg (Slt.cells Slt.nil), .slice none 0 0, .agg #[.int .u8 0, .slice none 0 0]], []⟩ 300 (by kernel_rfl) (by kernel_rfl) (by kernel_rfl) (by kernel_rfl)) ?_
  intro W base args ds gs before hval0 hW _ _
  have hval : ∀ (j : Nat) t v, Try.f3.params[j]? = some t → args[j]? = some v → Value.okWide Try.prog W .any base t v := hval0
  have hW' := hW
  obtain ⟨p, q, hA0, _, _, _, _⟩ := hW
  have hA : DataW.TrodAll enc Try.prog W 0 (fun _ => true) true Try.f3.params.toList args.toList ds p := hA0
  rw [Try.params3] at hA hval
  obtain ⟨v0, vs0, d0, ds0, p0, q0, hargs, rfl, rfl, h0, r0⟩ := trodAll_cons hA
  obtain ⟨v1, vs1, d1, ds1, p1, q1, rfl, rfl, rfl, h1, r1⟩ := trodAll_cons r0
  obtain ⟨v2, vs2, d2, ds2, p2, q2, rfl, rfl, rfl, h2, r2⟩ := trodAll_cons r1
  obtain ⟨rfl, rfl, rfl⟩ := trodAll_nil r2
  obtain rfl : args = #[v0, v1, v2] := by cases args; simp_all
  obtain ⟨rt0, rfl, hf0⟩ := Slt.open_root (hval 0 25 v0 rfl rfl) h0
  obtain ⟨pa1, cap1, xs1, rfl, hl1, hx1⟩ := Rot.open_puts (hval 1 26 v1 rfl rfl) h1
  obtain ⟨f2, pa2, cap2, xs2, rfl, hf2, hl2, hx2, ho2⟩ := Rot.open_crashing (hval 2 29 v2 rfl rfl) h2
  clear hA hA0 hval0
  refine (Rot.chain_w hf0 hx1 hl1 hf2 hx2 ho2 hl2).mono fun e W' ⟨he, hb⟩ => ?_
  subst he
  exact ⟨_, rfl, law_post (tb := 4) rfl (by kernel_rfl) Try.underlying4 (by rw [Try.params3]; decide +kernel) (fun ds hd => by
    rw [show Try.f3.params.size = 3 from by kernel_rfl] at hd
    match ds, hd with
    | [_, _, _], _ => exact ⟨rfl, rfl, rfl⟩) hW' hb⟩

theorem holds : Rows.RootChainSaid :=
  OpenClaim.holds_of_wide 3 Try.f3 rfl rfl rfl rfl rfl rfl rfl ⟨rfl, rfl, rfl, rfl, rfl⟩ rfl rfl rfl rfl rfl (by kernel_rfl) Try.func3 (by kernel_rfl)
    (of_decide_eq_true (by kernel_rfl)) (by unfold Func.isWrapper; rw [if_neg (of_decide_eq_false (by kernel_rfl))]; exact ⟨rfl, rfl⟩)
    (fun os started H enc _ => lifted os started H enc)

end Go.Proofs.Ytdadcengelfmhaa.lawRootChain
