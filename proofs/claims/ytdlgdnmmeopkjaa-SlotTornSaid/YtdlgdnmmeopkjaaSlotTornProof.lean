/- For all roots and every number of sectors SlotTorn returns true and leaves its arguments as they were; no condition. -/
import Derived.Test.YtdlgdnmmeopkjaaSlotTorn
import Derived.Test.YtdlgdnmmeopkjaaSltOpen
import Derived.Test.YtdlgdnmmeopkjaaLawKit
namespace Go.Proofs.Ytdlgdnmmeopkjaa.lawSlotTorn
open Go.ChangeShapes Go.WideShapes Go.ChangeAt Go.RowKit LawKit
open Go.ChangeMaps (open_string)

set_option maxRecDepth 100000 in
set_option maxHeartbeats 1600000 in
theorem lifted (os : Os) (started : os.Started) (H : Type) (enc : TypeId × Value → H) :
    ReturnsInHanded {} Try.checked os 5 .any (Rows.slotTornSpec.pre6 enc Try.prog Try.f5 Rows.slotTornRow.domain false) (Rows.slotTornSpec.post enc Try.prog Try.f5 false true false false) := by
  refine returnsInHanded_of_change (C := Try.checked) own started (by kernel_rfl) Try.func5
    (ChangeSpec.witness6 (enc := enc) (C := Try.checked) false ⟨#[], #[.agg (Slt.cells Slt.nil), .agg (Slt.cells Slt.nil), .int .u8 0], []⟩ 300 (by kernel_rfl) (by kernel_rfl) (by kernel_rfl) (by kernel_rfl)) ?_
  intro W base args ds gs before hval0 hW _ _
  have hval : ∀ (j : Nat) t v, Try.f5.params[j]? = some t → args[j]? = some v → Value.okWide Try.prog W .any base t v := hval0
  have hW' := hW
  obtain ⟨p, q, hA0, _, _, _, _⟩ := hW
  have hA : DataW.TrodAll enc Try.prog W 0 (fun _ => true) true Try.f5.params.toList args.toList ds p := hA0
  rw [Try.params5] at hA hval
  obtain ⟨v0, vs0, d0, ds0, p0, q0, hargs, rfl, rfl, h0, r0⟩ := trodAll_cons hA
  obtain ⟨v1, vs1, d1, ds1, p1, q1, rfl, rfl, rfl, h1, r1⟩ := trodAll_cons r0
  obtain ⟨v2, vs2, d2, ds2, p2, q2, rfl, rfl, rfl, h2, r2⟩ := trodAll_cons r1
  obtain ⟨rfl, rfl, rfl⟩ := trodAll_nil r2
  obtain rfl : args = #[v0, v1, v2] := by cases args; simp_all
  obtain ⟨rt0, rfl, hf0⟩ := Slt.open_root (hval 0 25 v0 rfl rfl) h0
  obtain ⟨rt1, rfl, hf1⟩ := Slt.open_root (hval 1 25 v1 rfl rfl) h1
  obtain ⟨z2, rfl, _, _, hz2⟩ := open_int Try.underlying5 (hval 2 5 v2 rfl rfl) h2
  obtain ⟨n2, rfl, hn2⟩ := nat_of_u8 hz2
  clear hA hA0 hval0
  refine (Slt.torn_any rt0 rt1 hf0 hf1 n2 hn2 W).mono fun e W' ⟨he, hb⟩ => ?_
  subst he
  exact ⟨_, rfl, law_post (tb := 4) rfl (by kernel_rfl) Try.underlying4 (by rw [Try.params5]; decide +kernel) (fun ds hd => by
    rw [show Try.f5.params.size = 3 from by kernel_rfl] at hd
    match ds, hd with
    | [_, _, _], _ => exact ⟨rfl, rfl, rfl⟩) hW' hb⟩

theorem holds : Rows.SlotTornSaid :=
  OpenClaim.holds_of_wide 5 Try.f5 rfl rfl rfl rfl rfl rfl rfl ⟨rfl, rfl, rfl, rfl, rfl⟩ rfl rfl rfl rfl rfl (by kernel_rfl) Try.func5 (by kernel_rfl)
    (of_decide_eq_true (by kernel_rfl)) (by unfold Func.isWrapper; rw [if_neg (of_decide_eq_false (by kernel_rfl))]; exact ⟨rfl, rfl⟩)
    (fun os started H enc _ => lifted os started H enc)

end Go.Proofs.Ytdlgdnmmeopkjaa.lawSlotTorn
