/- For every block and either kind of call,SpaceNone returns true; no condition. -/
import Derived.Test.YtgkbfahflngklaaGreatSpcLawNone
import Derived.Test.YtgkbfahflngklaaGreatDevGreat
namespace Go.Proofs.YtgkbfahflngklaaGreat.lawSpaceNone
open Go.ChangeShapes Go.WideShapes Go.ChangeAt Go.RowKit LawKit
open Go.ChangeMaps (open_string)
set_option maxRecDepth 100000 in
set_option maxHeartbeats 1600000 in
theorem lifted (os:Os) (started:os.Started) (H:Type) (enc:TypeId×Value→H) :
  ReturnsInHanded {} Tryz.checked os 7 .any (Rows.spaceNoneSpec.pre6 enc Tryz.prog Tryz.f7 Rows.spaceNoneRow.domain false) (Rows.spaceNoneSpec.post enc Tryz.prog Tryz.f7 false true false false):=by
 refine returnsInHanded_of_change (C:=Tryz.checked) own started (by kernel_rfl) Tryz.func7
  (ChangeSpec.witness6 (enc:=enc) (C:=Tryz.checked) false ⟨#[],#[.int .u32 0,.bool false],[]⟩ 300 (by kernel_rfl) (by kernel_rfl) (by kernel_rfl) (by kernel_rfl)) ?_
 intro W base args ds gs before hval0 hW _ _
 have hval:∀ (j:Nat) t v,Tryz.f7.params[j]? = some t→args[j]? = some v→Value.okWide Tryz.prog W .any base t v:=hval0
 have hW':=hW
 obtain ⟨p,q,hA0,_,_,_,_⟩:=hW
 have hA:DataW.TrodAll enc Tryz.prog W 0 (fun _=>true) true Tryz.f7.params.toList args.toList ds p:=hA0
 rw [Tryz.params7] at hA hval
 obtain ⟨v0,vs0,d0,ds0,p0,q0,hargs,rfl,rfl,h0,r0⟩:=trodAll_cons hA
 obtain ⟨v1,vs1,d1,ds1,p1,q1,rfl,rfl,rfl,h1,r1⟩:=trodAll_cons r0
 obtain ⟨rfl,rfl,rfl⟩:=trodAll_nil r1
 obtain rfl:args=#[v0,v1]:=by cases args; simp_all
 obtain ⟨z0,rfl,_,_,hz0⟩:=open_int Tryz.underlying22 (hval 0 22 v0 rfl rfl) h0
 obtain ⟨n0,rfl,hn0⟩:=nat_of_u32 hz0
 obtain ⟨b1,rfl,_,_⟩:=open_bool Tryz.underlying4 (hval 1 4 v1 rfl rfl) h1
 clear hA hA0 hval0
 refine (Spc.SpaceNone_any n0 b1 W).mono fun e W' ⟨he,hb⟩=>?_
 subst he
 exact ⟨_,rfl,law_post (tb:=4) rfl (by kernel_rfl) Tryz.underlying4 (by rw [Tryz.params7]; decide +kernel) (fun ds hd=>by
  rw [show Tryz.f7.params.size=2 from by kernel_rfl] at hd
  match ds,hd with
  | [_,_],_=>exact ⟨rfl,rfl,rfl⟩) hW' hb⟩
theorem c_in_place:(Rows.spaceNoneRow.inPlace == Tryz.prog.inPlace 7)=true:=by kernel_rfl
theorem c_unfollowed:(Rows.spaceNoneRow.unfollowed == Tryz.prog.unfollowed 7)=true:=by kernel_rfl
theorem c_recurses:(Rows.spaceNoneRow.recurses == Tryz.prog.recurses 7)=true:=by kernel_rfl
theorem c_named:(Rows.spaceNoneRow.named == Tryz.prog.varsNamed 7)=true:=by kernel_rfl
theorem closed:joinedFacts Tryz.prog 7 Tryz.f7 Rows.spaceNoneSpec Rows.spaceNoneRow=true:=by
 unfold joinedFacts
 rw [c_in_place,c_unfollowed,c_recurses,c_named]
 kernel_rfl
theorem holds:Rows.SpaceNoneSaid:=
 OpenClaim.holds_of_wide 7 Tryz.f7 rfl rfl rfl rfl rfl rfl rfl ⟨rfl,rfl,rfl,rfl,rfl⟩ rfl rfl rfl rfl rfl (by kernel_rfl) Tryz.func7 closed
  (of_decide_eq_true (by kernel_rfl)) (by unfold Func.isWrapper; rw [if_neg (of_decide_eq_false (by kernel_rfl))]; exact ⟨rfl,rfl⟩)
  (fun os started H enc _=>lifted os started H enc)
end Go.Proofs.YtgkbfahflngklaaGreat.lawSpaceNone
