/- For every number of blocks,every row of old counts and every row of acts,SpacePlays returns true; no condition. -/
import Derived.Test.YtgkbfahflngklaaGreatSpcLawPlays
import Derived.Test.YtgkbfahflngklaaGreatRotBox
namespace Go.Proofs.YtgkbfahflngklaaGreat.lawSpacePlays
open Go.ChangeShapes Go.WideShapes Go.ChangeAt Go.RowKit LawKit
open Go.ChangeMaps (open_string)
set_option maxRecDepth 100000 in
set_option maxHeartbeats 1600000 in
theorem lifted (os:Os) (started:os.Started) (H:Type) (enc:TypeId×Value→H) :
  ReturnsInHanded {} Tryz.checked os 5 .any (Rows.spacePlaysSpec.pre6 enc Tryz.prog Tryz.f5 Rows.spacePlaysRow.domain false) (Rows.spacePlaysSpec.post enc Tryz.prog Tryz.f5 false true false false):=by
 refine returnsInHanded_of_change (C:=Tryz.checked) own started (by kernel_rfl) Tryz.func5
  (ChangeSpec.witness6 (enc:=enc) (C:=Tryz.checked) false ⟨#[],#[.int .u32 0,.slice none 0 0,.slice none 0 0],[]⟩ 300 (by kernel_rfl) (by kernel_rfl) (by kernel_rfl) (by kernel_rfl)) ?_
 intro W base args ds gs before hval0 hW _ _
 have hval:∀ (j:Nat) t v,Tryz.f5.params[j]? = some t→args[j]? = some v→Value.okWide Tryz.prog W .any base t v:=hval0
 have hW':=hW
 obtain ⟨p,q,hA0,_,_,_,_⟩:=hW
 have hA:DataW.TrodAll enc Tryz.prog W 0 (fun _=>true) true Tryz.f5.params.toList args.toList ds p:=hA0
 rw [Tryz.params5] at hA hval
 obtain ⟨v0,vs0,d0,ds0,p0,q0,hargs,rfl,rfl,h0,r0⟩:=trodAll_cons hA
 obtain ⟨v1,vs1,d1,ds1,p1,q1,rfl,rfl,rfl,h1,r1⟩:=trodAll_cons r0
 obtain ⟨v2,vs2,d2,ds2,p2,q2,rfl,rfl,rfl,h2,r2⟩:=trodAll_cons r1
 obtain ⟨rfl,rfl,rfl⟩:=trodAll_nil r2
 obtain rfl:args=#[v0,v1,v2]:=by cases args; simp_all
 obtain ⟨z0,rfl,_,_,hz0⟩:=open_int Tryz.underlying22 (hval 0 22 v0 rfl rfl) h0
 obtain ⟨n0,rfl,hn0⟩:=nat_of_u32 hz0
 obtain ⟨pa1,cap1,xs1,rfl,hl1,hx1⟩:=Spc.open_olds (hval 1 58 v1 rfl rfl) h1
 obtain ⟨pa2,cap2,xs2,rfl,hl2,hx2⟩:=Spc.open_acts (hval 2 59 v2 rfl rfl) h2
 clear hA hA0 hval0
 refine (Spc.SpacePlays_any (w:=W) rfl hx1 hn0 rfl hx2).mono fun e W' ⟨he,hb⟩=>?_
 subst he
 exact ⟨_,rfl,law_post (tb:=4) rfl (by kernel_rfl) Tryz.underlying4 (by rw [Tryz.params5]; decide +kernel) (fun ds hd=>by
  rw [show Tryz.f5.params.size=3 from by kernel_rfl] at hd
  match ds,hd with
  | [_,_,_],_=>exact ⟨rfl,rfl,rfl⟩) hW' hb⟩
theorem c_in_place:(Rows.spacePlaysRow.inPlace == Tryz.prog.inPlace 5)=true:=by kernel_rfl
theorem c_unfollowed:(Rows.spacePlaysRow.unfollowed == Tryz.prog.unfollowed 5)=true:=by kernel_rfl
theorem c_recurses:(Rows.spacePlaysRow.recurses == Tryz.prog.recurses 5)=true:=by kernel_rfl
theorem c_named:(Rows.spacePlaysRow.named == Tryz.prog.varsNamed 5)=true:=by kernel_rfl
theorem closed:joinedFacts Tryz.prog 5 Tryz.f5 Rows.spacePlaysSpec Rows.spacePlaysRow=true:=by
 unfold joinedFacts
 rw [c_in_place,c_unfollowed,c_recurses,c_named]
 kernel_rfl
theorem holds:Rows.SpacePlaysSaid:=
 OpenClaim.holds_of_wide 5 Tryz.f5 rfl rfl rfl rfl rfl rfl rfl ⟨rfl,rfl,rfl,rfl,rfl⟩ rfl rfl rfl rfl rfl (by kernel_rfl) Tryz.func5 closed
  (of_decide_eq_true (by kernel_rfl)) (by unfold Func.isWrapper; rw [if_neg (of_decide_eq_false (by kernel_rfl))]; exact ⟨rfl,rfl⟩)
  (fun os started H enc _=>lifted os started H enc)
end Go.Proofs.YtgkbfahflngklaaGreat.lawSpacePlays
