/- For every root, whatever its numbers, SlotPuts returns true and leaves it as it was; no condition. -/
import Derived.Test.YtdlgdnmmeopkjaaSlotPuts
import Derived.Test.YtdlgdnmmeopkjaaSltOpen
import Derived.Test.YtdlgdnmmeopkjaaLawKit
namespace Go.Proofs.Ytdlgdnmmeopkjaa.lawSlotPuts
open Go.ChangeShapes Go.WideShapes Go.ChangeAt Go.RowKit LawKit
open Go.ChangeMaps (open_string)

set_option maxRecDepth 100000 in
theorem lifted (os : Os) (started : os.Started) (H : Type) (enc : TypeId × Value → H) :
    ReturnsInHanded {} Try.checked os 3 .any (Rows.slotPutsSpec.pre6 enc Try.prog Try.f3 Rows.slotPutsRow.domain false) (Rows.slotPutsSpec.post enc Try.prog Try.f3 false true false false) := by
  refine returnsInHanded_of_change (C := Try.checked) own started (by kernel_rfl) Try.func3
    (ChangeSpec.witness6 (enc := enc) (C := Try.checked) false ⟨#[], #[.agg (Slt.cells Slt.nil)], []⟩ 300 (by kernel_rfl) (by kernel_rfl) (by kernel_rfl) (by kernel_rfl)) ?_
  intro W base args ds gs before hval0 hW _ _
  have hval : ∀ (j : Nat) t v, Try.f3.params[j]? = some t → args[j]? = some v → Value.okWide Try.prog W .any base t v := hval0
  have hW' := hW
  obtain ⟨p, q, hA0, _, _, _, _⟩ := hW
  have hA : DataW.TrodAll enc Try.prog W 0 (fun _ => true) true Try.f3.params.toList args.toList ds p := hA0
  rw [Try.params3] at hA hval
  obtain ⟨v0, vs0, d0, ds0, p0, q0, hargs, rfl, rfl, h0, r0⟩ := trodAll_cons hA
  obtain ⟨rfl, rfl, rfl⟩ := trodAll_nil r0
  obtain rfl : args = #[v0] := by cases args; simp_all
  obtain ⟨r0, rfl, hf0⟩ := Slt.open_root (hval 0 25 v0 rfl rfl) h0
  clear hA hA0 hval0
  refine (Slt.puts_any r0 hf0 W).mono fun e W' ⟨he, hb⟩ => ?_
  subst he
  exact ⟨_, rfl, law_post (tb := 4) rfl (by kernel_rfl) Try.underlying4 (by rw [Try.params3]; decide +kernel) (fun ds hd => by
    rw [show Try.f3.params.size = 1 from by kernel_rfl] at hd
    match ds, hd with
    | [_], _ => exact ⟨rfl, rfl, rfl⟩) hW' hb⟩

theorem holds : Rows.SlotPutsSaid :=
  OpenClaim.holds_of_wide 3 Try.f3 rfl rfl rfl rfl rfl rfl rfl ⟨rfl, rfl, rfl, rfl, rfl⟩ rfl rfl rfl rfl rfl (by kernel_rfl) Try.func3 (by kernel_rfl)
    (of_decide_eq_true (by kernel_rfl)) (by unfold Func.isWrapper; rw [if_neg (of_decide_eq_false (by kernel_rfl))]; exact ⟨rfl, rfl⟩)
    (fun os started H enc _ => lifted os started H enc)

end Go.Proofs.Ytdlgdnmmeopkjaa.lawSlotPuts
