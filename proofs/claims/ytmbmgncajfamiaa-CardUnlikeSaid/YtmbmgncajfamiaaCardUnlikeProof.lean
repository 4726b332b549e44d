/- For every two cards and every two numbers, CardUnlike returns true and leaves all as they were; no condition. -/
import Derived.Test.YtmbmgncajfamiaaCardUnlike
import Derived.Test.YtmbmgncajfamiaaCrdOpen
import Derived.Test.YtmbmgncajfamiaaLawKit
namespace Go.Proofs.Ytmbmgncajfamiaa.lawCardUnlike
open Go.ChangeShapes Go.WideShapes Go.ChangeAt Go.RowKit LawKit
open Go.ChangeMaps (open_string)

set_option maxRecDepth 100000 in
theorem lifted (os : Os) (started : os.Started) (H : Type) (enc : TypeId × Value → H) :
    ReturnsInHanded {} Try.checked os 5 .any (Rows.cardUnlikeSpec.pre6 enc Try.prog Try.f5 Rows.cardUnlikeRow.domain false) (Rows.cardUnlikeSpec.post enc Try.prog Try.f5 false true false false) := by
  refine returnsInHanded_of_change (C := Try.checked) own started (by kernel_rfl) Try.func5
    (ChangeSpec.witness6 (enc := enc) (C := Try.checked) false ⟨#[], #[.agg (Crd.cells Crd.nil), .agg (Crd.cells Crd.nil), .agg #[.int .u32 0, .int .u32 0]], []⟩ 300 (by kernel_rfl) (by kernel_rfl) (by kernel_rfl) (by kernel_rfl)) ?_
  intro W base args ds gs before hval0 hW _ _
  have hval : ∀ (j : Nat) t v, Try.f5.params[j]? = some t → args[j]? = some v → Value.okWide Try.prog W .any base t v := hval0
  have hW' := hW
  obtain ⟨p, q, hA0, _, _, _, _⟩ := hW
  have hA : DataW.TrodAll enc Try.prog W 0 (fun _ => true) true Try.f5.params.toList args.toList ds p := hA0
  rw [Try.params5] at hA hval
  obtain ⟨v0, vs0, d0, ds0, p0, q0, hargs, rfl, rfl, h0, r0⟩ := trodAll_cons hA
  obtain ⟨v1, vs1, d1, ds1, p1, q1, rfl, rfl, rfl, h1, r1⟩ := trodAll_cons r0
  obtain ⟨v2, vs2, d2, ds2, p2, q2, rfl, rfl, rfl, h2, r2⟩ := trodAll_cons r1
  obtain ⟨rfl, rfl, rfl⟩ := trodAll_nil r2
  obtain rfl : args = #[v0, v1, v2] := by cases args; simp_all
  obtain ⟨c0, rfl, hf0⟩ := Crd.open_card (hval 0 26 v0 rfl rfl) h0
  obtain ⟨c1, rfl, hf1⟩ := Crd.open_card (hval 1 26 v1 rfl rfl) h1
  obtain ⟨x2, y2, rfl, hx2, hy2⟩ := Crd.open_two (hval 2 45 v2 rfl rfl) h2
  clear hA hA0 hval0
  refine (Crd.unlike_any c0 c1 hf0 hf1 x2 y2 hx2 hy2 W).mono fun e W' ⟨he, hb⟩ => ?_
  subst he
  exact ⟨_, rfl, law_post (tb := 4) rfl (by kernel_rfl) Try.underlying4 (by rw [Try.params5]; decide +kernel) (fun ds hd => by
    rw [show Try.f5.params.size = 3 from by kernel_rfl] at hd
    match ds, hd with
    | [_, _, _], _ => exact ⟨rfl, rfl, rfl⟩) hW' hb⟩

theorem holds : Rows.CardUnlikeSaid :=
  OpenClaim.holds_of_wide 5 Try.f5 rfl rfl rfl rfl rfl rfl rfl ⟨rfl, rfl, rfl, rfl, rfl⟩ rfl rfl rfl rfl rfl (by kernel_rfl) Try.func5 (by kernel_rfl)
    (of_decide_eq_true (by kernel_rfl)) (by unfold Func.isWrapper; rw [if_neg (of_decide_eq_false (by kernel_rfl))]; exact ⟨rfl, rfl⟩)
    (fun os started H enc _ => lifted os started H enc)

end Go.Proofs.Ytmbmgncajfamiaa.lawCardUnlike
