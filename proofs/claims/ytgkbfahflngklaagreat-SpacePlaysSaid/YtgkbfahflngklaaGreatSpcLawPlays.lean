import Derived.Test.YtgkbfahflngklaaGreatSpcP7
import Derived.Deep.CutRange
set_option maxRecDepth 100000
set_option maxHeartbeats 25600000
set_option linter.unusedSimpArgs false
set_option linter.unusedVariables false
namespace Go.Proofs.YtgkbfahflngklaaGreat
namespace Spc
open Go.RowKit RowLaw
open Dev (Dev DS ptr)
open Cnt (Thing Hall TD loopsOf)
open Slt (Rt cells cells_one rootO infoR sizeR)
open Rot (fsN)
noncomputable def bodyP1:Code:=((Tryz.f5.body.bind fun c=>(loopsOf c)[0]?).getD .skip)
theorem quietL_u32 {I:World→Prop} {K:Act→Prop} {o:Oper} {a:Act} (x:Operand) (ho:o.op=.load 22 x) (ad:Addr) (hx:a.eval x=.pointer (some ad)) (v:Value) (hc:∀ w:World,I w→w.cell? ad=some v)
  (hk:K (a.put o.dst v)):o.quiet Tryz.prog a (fun w'=>∃ x:{w':World // I w'},w'=x.1) K:=
 ⟨v,fun w hw=>by
  obtain ⟨y,rfl⟩:=hw
  have h:=hc y.1 y.2
  unfold Oper.quietAt execOp
  simp only [ho,hx]
  go_simp,hk⟩
theorem quietL_sp {I:World→Prop} {K:Act→Prop} {o:Oper} {a:Act} (x:Operand) (ho:o.op=.load 60 x) (ad:Addr) (hx:a.eval x=.pointer (some ad)) (v:Value) (hc:∀ w:World,I w→w.cell? ad=some v)
  (hk:K (a.put o.dst v)):o.quiet Tryz.prog a (fun w'=>∃ x:{w':World // I w'},w'=x.1) K:=
 ⟨v,fun w hw=>by
  obtain ⟨y,rfl⟩:=hw
  have h:=hc y.1 y.2
  unfold Oper.quietAt execOp
  simp only [ho,hx]
  go_simp,hk⟩
def Lp (w:World) (q n gB:Nat) (s:DS) (k:Nat) (W:World):Prop:=
 ∃ S d vg vw vl,Pk w q n [(gB,.cells (bD q d vg vw vl) 69 (0,0))] [(.agg (qD d vg vw vl),d)] S W∧Sync s S d∧d.L.length≤k
def Lq (w:World) (q n gB:Nat) (d:QD) (vg vw vl:Value) (S:SS) (W:World):Prop:=Pk w q n [(gB,.cells (bD q d vg vw vl) 69 (0,0))] [(.agg (qD d vg vw vl),d)] S W
section
variable {w W:World} {q n gB:Nat} {d:QD} {vg vw vl:Value} {S:SS} {s:DS}
theorem Lq.free (x:Lq w q n gB d vg vw vl S W):Calls Tryz.prog 30 #[.pointer (some ⟨q,0,none⟩)] W fun e W'=>e=.returned (.int .u32 (pos S.f:Int))∧Lq w q n gB d vg vw vl S W':=
 (Pk.sk x).free.mono fun _ _ ⟨h1,h2⟩=>⟨h1,h2 ▸ x⟩
theorem Lq.room (x:Lq w q n gB d vg vw vl S W) (sp:Bool):Calls Tryz.prog 32 #[.pointer (some ⟨q,0,none⟩),.bool sp] W fun e W'=>e=.returned (.int .u32 (roomV S.r sp:Int))∧Lq w q n gB d vg vw vl S W':=
 ((Pk.sk x).room sp).mono fun _ _ ⟨h1,h2⟩=>⟨h1,h2 ▸ x⟩
theorem Lq.hint (x:Lq w q n gB d vg vw vl S W):Calls Tryz.prog 34 #[.pointer (some ⟨q,0,none⟩)] W fun e W'=>e=.returned (.int .u32 (S.h:Int))∧Lq w q n gB d vg vw vl S W':=
 (Pk.sk x).hint.mono fun _ _ ⟨h1,h2⟩=>⟨h1,h2 ▸ x⟩
theorem Lq.dfree (x:Lq w q n gB d vg vw vl S W) (y:Sync s S d):Calls Tryz.prog 31 #[.agg (qD d vg vw vl)] W fun e W'=>e=.returned (.int .u32 (pos S.f:Int))∧Lq w q n gB d vg vw vl S W':=by
 obtain ⟨A,h⟩:=Pk.qv x List.mem_cons_self
 have:=Free10_any h y.had y.bounds.1 y.bounds.2
 rw [←y.f] at this
 exact this.mono fun _ _ ⟨h1,h2⟩=>⟨h1,Pk.below x h2⟩
theorem Lq.droom (x:Lq w q n gB d vg vw vl S W) (y:Sync s S d) (sp:Bool):Calls Tryz.prog 33 #[.agg (qD d vg vw vl),.bool sp] W fun e W'=>e=.returned (.int .u32 (roomV S.r sp:Int))∧Lq w q n gB d vg vw vl S W':=by
 obtain ⟨A,h⟩:=Pk.qv x List.mem_cons_self
 have:=Room10_any h y.had y.bounds.1 sp
 rw [←y.r] at this
 exact this.mono fun _ _ ⟨h1,h2⟩=>⟨h1,Pk.below x h2⟩
theorem Lq.dcount (x:Lq w q n gB d vg vw vl S W) (y:Sync s S d) (hL:d.L.length < 1000000) {a:Nat}:Calls Tryz.prog 29 #[.agg (qD d vg vw vl),.int .u32 (a:Int)] W fun e W'=>e=.returned (.tuple #[.int .u16 (if askV S.T a 0=0 then (S.T.nowC a:Int) else 0),.int .i64 (askV S.T a 0)])∧Lq w q n gB d vg vw vl S W':=by
 obtain ⟨A,h⟩:=Pk.qv x List.mem_cons_self
 exact (Count10_any h y hL).mono fun _ _ ⟨h1,h2⟩=>⟨h1,Pk.below x h2⟩
end
theorem plays_acts {w:World} {q n gB mA capA:Nat} {s:DS} {xs:List (Nat×Nat)} {pA:Option Addr} (hmA:mA=xs.length) (hA:Acts w pA xs) (hg:w.heap.size≤gB)
  {Q0:Exit→Act→World→Prop} {c0 c1 c3 c4 c5 c6 c9 BD BE BF BG BI BJ A1 A2 A3 A4 A5 A6 A7 A8 A9 AA AB AC AD AE AF AG AI AJ AK AL AM AN BK BL BM BN BO BP BQ BR BS BT BU BV BW BX BY BZ Ba Bb Bc Bd Be Bf Bg Bi Bj Bk Bl Bm Bn Bo Bp Bq Br Bs Bt Bu Bv Bw Bx By Bz C0 C1 C2 C3 C4 C5 C6 C7 C8 C9 CA CB CC CD CE CF CG CI CJ CK CL AO AP AQ AR AS AT AU AV AW AX AY AZ Aa Ab Ac Ad Ae Af Ag Ai Aj Ak Al Am An A0:Value} {W0:World} (hx0:Lp w q n gB s 0 W0)
  (hexit: ∀ (u6 u8 u9 CM CN CO CP CQ CR CS CT CU CV CW CX CY CZ Ca Cb Cc Cd Ce Cf Cg Ci Cj Ck Cl Cm Cn Co Cp Cq Cr Cs Ct Cu Cv Cw Cx Cy Cz D0 D1 D2 D3 D4 D5 D6 D7 D8 D9 DA DB DC DD DE DF DG DI DJ DK DL DM DN DO DP DQ DR DT DU Ao Ap Aq Ar As At Au Av Aw Ax Ay Az B0 B1 B2 B3 B4 B5 B6 B7 B8 B9 BA BB BC: Value) (W: World) ,Below w.heap.size w W→Q0 (.exit 0) ⟨List.toArray (c0::c1::.slice pA mA capA::c3::c4::c5::u6::.pointer (some ⟨gB,0,none⟩)::u8::u9::CM::CN::CO::CP::CQ::CR::A1::A2::A3::A4::A5::A6::A7::A8::A9::AA::AB::AC::AD::AE::AF::AG::AI::AJ::AK::AL::AM::AN::CS::CT::CU::CV::CW::CX::CY::CZ::Ca::Cb::Cc::Cd::Ce::Cf::Cg::Ci::Cj::Ck::Cl::Cm::Cn::Co::Cp::Cq::Cr::Cs::Ct::Cu::Cv::Cw::Cx::Cy::Cz::D0::D1::D2::D3::D4::D5::D6::D7::D8::D9::DA::DB::DC::DD::DE::DF::DG::DI::DJ::DK::DL::DM::DN::DO::DP::DQ::DR::DT::DU::Ao::Ap::Aq::Ar::As::At::Au::Av::Aw::Ax::Ay::Az::B0::B1::B2::B3::B4::B5::B6::B7::B8::B9::BA::BB::BC::A0::[]),[]⟩ W) :
  Code.wp Tryz.prog (.loop bodyP1) Q0 ⟨List.toArray (c0::c1::.slice pA mA capA::c3::c4::c5::c6::.pointer (some ⟨gB,0,none⟩)::.int .i64 0::c9::BD::BE::BF::BG::BI::BJ::A1::A2::A3::A4::A5::A6::A7::A8::A9::AA::AB::AC::AD::AE::AF::AG::AI::AJ::AK::AL::AM::AN::BK::BL::BM::BN::BO::BP::BQ::BR::BS::BT::BU::BV::BW::BX::BY::BZ::Ba::Bb::Bc::Bd::Be::Bf::Bg::Bi::Bj::Bk::Bl::Bm::Bn::Bo::Bp::Bq::Br::Bs::Bt::Bu::Bv::Bw::Bx::By::Bz::C0::C1::C2::C3::C4::C5::C6::C7::C8::C9::CA::CB::CC::CD::CE::CF::CG::CI::CJ::CK::CL::AO::AP::AQ::AR::AS::AT::AU::AV::AW::AX::AY::AZ::Aa::Ab::Ac::Ad::Ae::Af::Ag::Ai::Aj::Ak::Al::Am::An::A0::[]),[]⟩ W0:=by
 have HEX:=Lib.hid hexit; clear hexit
 have HM0:=Lib.hid hx0; clear hx0
 have HA:=Lib.hid hA; have HLEN:=Lib.hid hmA; have HG:=Lib.hid hg
 clear hA hmA hg
 have hzb:=(zero_of_info infoBoth).1
 conv=>arg 2; arg 1; whnf
 go_loopw [8] (fun v8 W=>∃ k:Nat,k≤mA∧k≤40∧v8=.int .i64 (k:Int)∧Hid (Lp w q n gB s k W)) (fun v8 _=>40 - (intOf v8).toNat)
 case atStart=>exact ⟨0,by omega,by omega,rfl,HM0⟩
 case round=>
  clear HM0
  obtain ⟨k,hk1,hk2,rfl,HM⟩:=hrel
  by_cases hlt:k < mA∧k < 40
  ·obtain ⟨hl1,hl2⟩:=hlt
   have hkl:k < xs.length:=by have:=HLEN.out; omega
   obtain ⟨b,off,hpa,hat⟩:∃ b off,pA=some ⟨b,off,none⟩∧ActsAt w b off xs:=by
    rcases HA.out.2 with h | h
    ·rw [h] at hkl; exact absurd hkl (by simp)
    ·exact h
   subst hpa
   have hyf:=HA.out.1 _ (List.getElem_mem hkl)
   obtain ⟨hc0,hc1⟩:=hat.at_ k hkl
   have hblt:=hat.old
   generalize xs[k]=y at hc0 hc1 hyf
   obtain ⟨S,d,vg,vw,vl,hp,hy,hL⟩:=HM.out
   have HC0:=Lib.hid (fun (W:World) (hb:Below w.heap.size w W)=>(hb.cell (p:=⟨b,off+k * 2,none⟩) hblt).trans hc0)
   have HC1:=Lib.hid (fun (W:World) (hb:Below w.heap.size w W)=>(hb.cell (p:=⟨b,off+k * 2+1,none⟩) hblt).trans hc1)
   have i0:(0:Int)≤(k:Int):=by omega
   have i1:(k:Int) < (mA:Int):=by omega
   have i2:(k:Int) < 40:=by omega
   have z1:IntKind.i64.wrap ((k:Int)+1)=(k:Int)+1:=IntWalk.i64_in _ (by omega)
   have HD:=Lib.hid (fun (E:List (Nat×Obj)) (W:World) (x:Pk w q n E [(.agg (qD d vg vw vl),d)] S W)=>does_any x hy (by omega) hyf.1 hyf.2)
   have HYF:=Lib.hid hyf
   have hib:=sizeBD q d vg vw vl
   have HP:=Lib.hid hp
   have HL:=Lib.hid hL
   have HK:=Lib.hid (And.intro hl1 hl2)
   clear HM hc0 hc1 hblt hat hyf hp hy hL hkl hk1 hk2 hl1 hl2
   go_wp2_with fail
   refine wp_region_noPanic ?_
   refine wp_region_held_drew (S:=fun W=>Below w.heap.size w W∧W.heap[gB]? = some (.cells (bD q d vg vw vl) 69 (0,0))) (by kernel_rfl) ((fun (x:Pk w q n [(gB,.cells (bD q d vg vw vl) 69 (0,0))] [(.agg (qD d vg vw vl),d)] S wr.drew)=>⟨x.sk.bel,x.sk.at_ List.mem_cons_self⟩) (HP.out.below ⟨rfl,rfl,rfl,Nat.le_refl _,fun _ _=>rfl⟩)) ?_
   intro hS
   have hp0:Pk w q n [(gB,.cells (bD q d vg vw vl) 69 (0,0))] [(.agg (qD d vg vw vl),d)] S wr.drew:=HP.out.below ⟨rfl,rfl,rfl,Nat.le_refl _,fun _ _=>rfl⟩
   clear HP
   generalize wr.drew=V0 at hS hp0 ⊢
   refine RowLaw.tkV 0 49 (.agg (bD q d vg vw vl)) hS ?_ (hy:=(yieldsIf_load_row (by rfl) 69 _ rfl gB rfl _ _ _ _ (fun W hW=>hW.2) Tryz.underlying69 rfl hib))
   simp only [RowLaw.lset]
   refine RowLaw.tkV 1 50 (.slice (some ⟨b,off,none⟩) mA capA) hS ?_
   simp only [RowLaw.lset]
   refine RowLaw.tkV 2 51 (.int .i64 (k:Int)) hS ?_
   simp only [RowLaw.lset]
   refine RowLaw.tkV 3 52 (.pointer (some ⟨b,off+k * 2,none⟩)) hS ?_
   simp only [RowLaw.lset]
   refine RowLaw.tkV 4 53 (.agg #[.int .u8 (y.1:Int),.int .u32 (y.2:Int)]) hS ?_ (hy:=(Or.inl ⟨by rfl,fun W hW=>by have c:=HC0.out W hW.1; have c':=HC1.out W hW.1; go_simp⟩))
   simp only [RowLaw.lset]
   refine wpAnyH_ready (rs:=[5,9]) (by kernel_rfl) (by simp) ?_
   refine AllReadyH.cons rfl (fun K hK=>?one) (AllReadyH.cons rfl (fun K hK=>?two) AllReadyH.nil)
   case' one=>
    rw [if_pos (by rfl)]
    go_simp
    refine (HD.out _ _ hp0).mono ?_
    clear HD
    rintro e V1 ⟨S1,d1,ug,uw,ul,rfl,hx,hy,hl⟩
    dsimp only
    have hs1:Below w.heap.size w V1∧V1.heap[gB]? = some (.cells (bD q d vg vw vl) 69 (0,0)):=⟨hx.sk.bel,hx.sk.at_ List.mem_cons_self⟩
    refine hK _ _ hs1 (fun _=>?_)
    clear hK K
    try simp only [Act.put,List.setIfInBounds_toArray,RowLaw.lset]
    clear hp0 hS
    refine RowLaw.tkV 6 48 (.tuple #[.agg (bD q d1 ug uw ul),.bool true]) hs1 ?_
    simp only [RowLaw.lset]
    refine RowLaw.tkV 7 55 (.agg (bD q d1 ug uw ul)) hs1 ?_
    simp only [RowLaw.lset]
    refine RowLaw.tkV 8 56 (.bool true) hs1 ?_
    simp only [RowLaw.lset]
    refine wpAnyH_ready (rs:=[9]) (by kernel_rfl) (by simp) ?_
    refine AllReadyH.cons rfl (fun K hK=>?_) AllReadyH.nil
    rw [if_pos (by rfl)]
    go_simp
    have hxa:=hx.alloc (.cells bothZ 69)
    have hs2:Below w.heap.size w (V1.alloc (.cells bothZ 69))∧(V1.alloc (.cells bothZ 69)).heap[gB]? = some (.cells (bD q d vg vw vl) 69 (0,0)):=⟨hxa.sk.bel,hxa.sk.at_ (List.mem_cons_of_mem _ List.mem_cons_self)⟩
    refine hK _ _ hs2 (fun _=>?_)
    clear hK K
    try simp only [Act.put,List.setIfInBounds_toArray,RowLaw.lset]
    obtain ⟨g9,hg9⟩:∃ g,g=V1.heap.size:=⟨_,rfl⟩
    have HG9:Hid (gB < g9∧w.heap.size≤g9):=Lib.hid ⟨by rw [hg9]; exact hx.sk.lt_ List.mem_cons_self,by rw [hg9]; exact hx.sk.bel.size⟩
    rw [←hg9] at hxa ⊢
    clear hg9
    generalize V1.alloc (.cells bothZ 69)=VY at hxa hs2 ⊢
    clear hx hs1
   case' two=>
    rw [if_pos (by rfl)]
    go_simp
    have hxz:=hp0.alloc (.cells bothZ 69)
    have hs3:Below w.heap.size w (V0.alloc (.cells bothZ 69))∧(V0.alloc (.cells bothZ 69)).heap[gB]? = some (.cells (bD q d vg vw vl) 69 (0,0)):=⟨hxz.sk.bel,hxz.sk.at_ (List.mem_cons_of_mem _ List.mem_cons_self)⟩
    refine hK _ _ hs3 (fun _=>?_)
    clear hK K
    try simp only [Act.put,List.setIfInBounds_toArray,RowLaw.lset]
    obtain ⟨g9,hg9⟩:∃ g,g=V0.heap.size:=⟨_,rfl⟩
    have HG9:Hid (gB < g9∧w.heap.size≤g9):=Lib.hid ⟨by rw [hg9]; exact hp0.sk.lt_ List.mem_cons_self,by rw [hg9]; exact hp0.sk.bel.size⟩
    rw [←hg9] at hxz ⊢
    clear hg9
    generalize V0.alloc (.cells bothZ 69)=VZ at hxz hs3 ⊢
    clear hp0 hS
    refine wpAnyH_ready (rs:=[5]) (by kernel_rfl) (by simp) ?_
    refine AllReadyH.cons rfl (fun K hK=>?_) AllReadyH.nil
    rw [if_pos (by rfl)]
    go_simp
    refine (HD.out _ _ hxz).mono ?_
    clear HD
    rintro e VY ⟨S1,d1,ug,uw,ul,rfl,hxa,hy,hl⟩
    dsimp only
    have hs2:Below w.heap.size w VY∧VY.heap[gB]? = some (.cells (bD q d vg vw vl) 69 (0,0)):=⟨hxa.sk.bel,hxa.sk.at_ (List.mem_cons_of_mem _ List.mem_cons_self)⟩
    refine hK _ _ hs2 (fun _=>?_)
    clear hK K
    try simp only [Act.put,List.setIfInBounds_toArray,RowLaw.lset]
    clear hxz hs3
    refine RowLaw.tkV 6 48 (.tuple #[.agg (bD q d1 ug uw ul),.bool true]) hs2 ?_
    simp only [RowLaw.lset]
    refine RowLaw.tkV 7 55 (.agg (bD q d1 ug uw ul)) hs2 ?_
    simp only [RowLaw.lset]
    refine RowLaw.tkV 8 56 (.bool true) hs2 ?_
    simp only [RowLaw.lset]
   all_goals
    refine wpAnyH_ready (rs:=[10]) (by kernel_rfl) (by simp) ?_
    refine AllReadyH.cons rfl (fun K hK=>?_) AllReadyH.nil
    rw [if_pos (by rfl)]
    have hsz:=sizeBD q d1 ug uw ul
    obtain ⟨vgx,vwx,vlx,hve,o1,o2,o3⟩:=hxa.shape List.mem_cons_self
    simp only [qC,Value.agg.injEq,Array.mk.injEq,List.cons.injEq] at hve
    obtain ⟨-,ve1,ve2,-,-,-,-,-,-,-,-,-,-,-,-,ve3,-⟩:=hve
    subst ve1 ve2 ve3
    have h1b:=bothC_one q d1.x.n d1.x.wr d1.r d1.had d1.hint d1.first d1.taken d1.gone o1 o2 o3
    have hgz:=hxa.sk.at_ (g:=g9) (o:=.cells bothZ 69 (0,0)) List.mem_cons_self
    refine wp_store_row 69 _ _ rfl g9 (bD q d1 ug uw ul) rfl rfl _ _ hgz hsz (by first | rfl | simp) h1b ?_
    have hx3:=hxa.setR (cs2:=bD q d1 ug uw ul) List.mem_cons_self HG9.out.2 (by decide) (by decide) (by decide)
    have hm3: (gB,Obj.cells (bD q d vg vw vl) 69 (0,0))∈(g9,Obj.cells (bD q d1 ug uw ul) 69 (0,0))::but g9 ((g9,Obj.cells bothZ 69 (0,0))::[(gB,Obj.cells (bD q d vg vw vl) 69 (0,0))]):=List.mem_cons_of_mem _ (but_mem.2 ⟨List.mem_cons_of_mem _ List.mem_cons_self,by show gB≠g9; have:=HG9.out; omega⟩)
    have hs9:Below w.heap.size w (VY.setRow g9 (bD q d1 ug uw ul))∧(VY.setRow g9 (bD q d1 ug uw ul)).heap[gB]? = some (.cells (bD q d vg vw vl) 69 (0,0)):=⟨hx3.sk.bel,hx3.sk.at_ hm3⟩
    refine hK _ _ hs9 (fun _=>?_)
    clear hK K
    try simp only [Act.put,List.setIfInBounds_toArray,RowLaw.lset]
    have HX3:=Lib.hid (hx3.less (E':=[(g9,.cells (bD q d1 ug uw ul) 69 (0,0)),(gB,.cells (bD q d vg vw vl) 69 (0,0))]) (V':=[(.agg (qD d1 ug uw ul),d1)]) (fun y hy=>by
     rcases List.mem_cons.1 hy with rfl | hy
     ·exact List.mem_cons_self
     ·simp only [List.mem_singleton] at hy
      subst hy
      exact hm3) (fun y hy=>by
     simp only [List.mem_singleton] at hy
     subst hy
     exact List.mem_cons_self))
    have H1B:=Lib.hid h1b
    clear hx3 hm3 h1b hgz o1 o2 o3
    refine RowLaw.tkV 11 10 (.bool true) hs9 ?_
    simp only [RowLaw.lset]
    refine wpAnyH_done (by kernel_rfl) ?_ _
    refine NoPanic.normal ?_
    clear hs9
    generalize VY.setRow g9 (bD q d1 ug uw ul)=V3 at HX3 ⊢
    have HY:=Lib.hid (And.intro hy hl)
    clear hxa hs2 hy hl hsz
    have a1:=HX3.out.sk.at_ (g:=g9) (o:=.cells (bD q d1 ug uw ul) 69 (0,0)) List.mem_cons_self
    have a2:=HX3.out.sk.at_ (g:=gB) (o:=.cells (bD q d vg vw vl) 69 (0,0)) (List.mem_cons_of_mem _ List.mem_cons_self)
    have hx4:=HX3.out.setR (cs2:=bD q d1 ug uw ul) (g:=gB) (List.mem_cons_of_mem _ List.mem_cons_self) HG.out (by decide) (by decide) (by decide)
    have HX4:Hid (Lq w q n gB d1 ug uw ul S1 (V3.setRow gB (bD q d1 ug uw ul))):=Lib.hid (hx4.less (fun y hy=>by
     simp only [List.mem_singleton] at hy
     subst hy
     exact List.mem_cons_self) (fun y hy=>hy))
    have hsz:=sizeBD q d1 ug uw ul
    have h1b:=H1B.out
    clear hx4 HX3
    go_upto_region 11 with (first | (refine wpList_load_row rfl 69 _ rfl g9 rfl _ _ _ _ a1 Tryz.underlying69 rfl hsz ?_) | (refine wpList_store_row rfl 69 _ _ rfl gB _ rfl rfl _ _ a2 hsz rfl h1b ?_))
    generalize V3.setRow gB (bD q d1 ug uw ul)=V4 at HX4 ⊢
    clear a1 a2 h1b hsz H1B
    have c1:=HC1.out V4 HX4.out.sk.bel
    have b0:=HX4.out.sk.cell (g:=gB) (cs:=bD q d1 ug uw ul) (T:=69) (j:=0) (v:=.pointer (some ⟨q,0,none⟩)) List.mem_cons_self rfl
    have HT:Hid _:=Lib.hid (HX4.out.ask (a:=y.2) HYF.out.2)
    have HD1:=Lib.hid (fun W (x:Lq w q n gB d1 ug uw ul S1 W)=>x.dcount (a:=y.2) HY.out.1 (by have:=HY.out.2; have:=HL.out; have:=HK.out; omega))
    generalize (if askV S1.T y.2 0=0 then (S1.T.nowC y.2:Int) else 0)=rN at HT HD1
    generalize askV S1.T y.2 0=rE at HT HD1
    clear HX4
    go_wp2_with fail
    refine HT.out.mono ?_
    clear HT c1 b0
    rintro e V5 ⟨rfl,hx⟩
    have HB:=Lib.hid (range_q (hx.sk.at_ (g:=gB) (o:=.cells (bD q d1 ug uw ul) 69 (0,0)) List.mem_cons_self))
    have HD2:=Lib.hid (HD1.out _ hx)
    have hiq:=sizeQD d1 ug uw ul
    clear HD1 hx
    go_wp2_with (refine Dev.wpList_load_sub rfl 67 _ rfl gB 1 rfl (qD d1 ug uw ul) _ HB.out Tryz.underlying67 rfl hiq ?_)
    refine HD2.out.mono ?_
    clear HD2 HB
    rintro e V6 ⟨rfl,hx⟩
    have hS6:Lq w q n gB d1 ug uw ul S1 V6.drew:=Pk.below hx ⟨rfl,rfl,rfl,Nat.le_refl _,fun _ _=>rfl⟩
    clear hx
    have Hsp:∀ W,Lq w q n gB d1 ug uw ul S1 W→W.cell? ⟨gB,0,none⟩=some (.pointer (some ⟨q,0,none⟩)):=fun W h=>h.sk.cell (g:=gB) (cs:=bD q d1 ug uw ul) (T:=69) (j:=0) List.mem_cons_self rfl
    have Hhi:∀ W,Lq w q n gB d1 ug uw ul S1 W→W.cell? ⟨gB,18,none⟩=some (.int .u32 (S1.h:Int)):=fun W h=>h.sk.cell (g:=gB) (cs:=bD q d1 ug uw ul) (T:=69) (j:=18) List.mem_cons_self (by rw [←HY.out.1.h]; rfl)
    have Hq:∀ W,Lq w q n gB d1 ug uw ul S1 W→W.rangeAt gB 1 (qD d1 ug uw ul).toList:=fun W h=>range_q (h.sk.at_ (g:=gB) (o:=.cells (bD q d1 ug uw ul) 69 (0,0)) List.mem_cons_self)
    have HSP:=Lib.hid Hsp; have HHI:=Lib.hid Hhi; have HQ:=Lib.hid Hq
    have hiq':(Tryz.prog.info? 67).map (·.size)=some (qD d1 ug uw ul).toList.length:=sizeQD d1 ug uw ul
    have HF1:=Lib.hid (fun W (h:Lq w q n gB d1 ug uw ul S1 W)=>h.free)
    have HF2:=Lib.hid (fun W (h:Lq w q n gB d1 ug uw ul S1 W)=>h.dfree HY.out.1)
    have HR1:=Lib.hid (fun sp W (h:Lq w q n gB d1 ug uw ul S1 W)=>h.room sp)
    have HR2:=Lib.hid (fun sp W (h:Lq w q n gB d1 ug uw ul S1 W)=>h.droom HY.out.1 sp)
    have HHT:=Lib.hid (fun W (h:Lq w q n gB d1 ug uw ul S1 W)=>h.hint)
    clear Hsp Hhi Hq
    go_wp2_with fail
    refine wp_region_class_lit (Lq w q n gB d1 ug uw ul S1) (by kernel_rfl) (by kernel_rfl) hS6 ?_
    haveI:Nonempty {w':World // Lq w q n gB d1 ug uw ul S1 w'}:=⟨⟨_,hS6⟩⟩
    clear hS6
    repeat (first | go_big_quiet_skip | (go_big_quiet_want; first | (refine quietL_sp _ rfl ⟨gB,0,none⟩ rfl _ HSP.out ?_; go_big_quiet_on; simp only [Act.put,List.setIfInBounds_toArray,RowLaw.lset]) | (refine quietL_u32 _ rfl ⟨gB,18,none⟩ rfl _ HHI.out ?_; go_big_quiet_on; simp only [Act.put,List.setIfInBounds_toArray,RowLaw.lset]) | (refine quiet_load_mid 67 _ rfl gB 1 rfl (qD d1 ug uw ul).toList _ HQ.out Tryz.underlying67 rfl hiq' ?_; go_big_quiet_on; simp only [Act.put,List.setIfInBounds_toArray,RowLaw.lset]) | (go_big_quiet_op; first | go_big_quiet_on | go_big_quiet_call (first | (intro h1; (with_reducible refine (HF1.out _ h1).mono ?_); exact fun _ _ ⟨he,hb⟩=>⟨he,hb⟩) | (intro h1; (with_reducible refine (HF2.out _ h1).mono ?_); exact fun _ _ ⟨he,hb⟩=>⟨he,hb⟩) | (intro h1; (with_reducible refine (HR1.out _ _ h1).mono ?_); exact fun _ _ ⟨he,hb⟩=>⟨he,hb⟩) | (intro h1; (with_reducible refine (HR2.out _ _ h1).mono ?_); exact fun _ _ ⟨he,hb⟩=>⟨he,hb⟩) | (intro h1; (with_reducible refine (HHT.out _ h1).mono ?_); exact fun _ _ ⟨he,hb⟩=>⟨he,hb⟩) | (intro _; rfl)))))
    refine wpQuiet_nil ?_
    intro V7 hx7
    have HX7:Hid (Lp w q n gB s (k+1) V7):=Lib.hid ⟨S1,d1,ug,uw,ul,hx7,HY.out.1,by have:=HY.out.2; have:=HL.out; omega⟩
    clear hx7 HF1 HF2 HR1 HR2 HHT HSP HHI HQ hiq' hiq
    go_wp2_with fail
    go_roundw
    case rel=>exact ⟨k+1,by have:=HK.out; omega,by have:=HK.out; omega,by go_num,HX7⟩
    case measure=>have:=HK.out; simp [intOf]; omega
  ·have HB:Hid (Below w.heap.size w wr):=Lib.hid (by obtain ⟨S,d,vg,vw,vl,hp,_⟩:=HM.out; exact hp.sk.bel)
   by_cases hm:k < mA
   ·have i1:(k:Int) < (mA:Int):=by omega
    have i2:¬ (k:Int) < 40:=by omega
    clear hlt
    go_wp2_with fail
    exact HEX.out _ _ _ _ _ _ _ _ _ _ _ _ _ _ _ _ _ _ _ _ _ _ _ _ _ _ _ _ _ _ _ _ _ _ _ _ _ _ _ _ _ _ _ _ _ _ _ _ _ _ _ _ _ _ _ _ _ _ _ _ _ _ _ _ _ _ _ _ _ _ _ _ _ _ _ _ _ _ _ _ _ _ _ _ _ _ _ _ _ _ _ _ _ _ _ _ _ HB.out
   ·have i1:¬ (k:Int) < (mA:Int):=by omega
    clear hlt
    go_wp2_with fail
    exact HEX.out _ _ _ _ _ _ _ _ _ _ _ _ _ _ _ _ _ _ _ _ _ _ _ _ _ _ _ _ _ _ _ _ _ _ _ _ _ _ _ _ _ _ _ _ _ _ _ _ _ _ _ _ _ _ _ _ _ _ _ _ _ _ _ _ _ _ _ _ _ _ _ _ _ _ _ _ _ _ _ _ _ _ _ _ _ _ _ _ _ _ _ _ _ _ _ _ _ HB.out
end Spc
namespace Spc
open Go.RowKit RowLaw
open Dev (Dev DS ptr)
open Cnt (Thing Hall TD loopsOf)
open Slt (Rt cells cells_one rootO infoR sizeR)
open Rot (fsN)
theorem SpacePlays_any {w:World} {n m cap mA capA:Nat} {xs ys:List (Nat×Nat)} {pa pA:Option Addr} (hm:m=xs.length) (hx:Olds w pa xs) (hn32:n < 4294967296) (hmA:mA=ys.length) (hA:Acts w pA ys) :
  Calls Tryz.prog 5 #[.int .u32 (n:Int),.slice pa m cap,.slice pA mA capA] w fun e w'=>e=.returned (.bool true)∧Below w.heap.size w w':=by
 have HH:=Lib.hid (head_any w)
 have HA:=Lib.hid hA; have HMA:=Lib.hid hmA
 clear hA hmA
 by_cases hin:64≤n∧n≤200∧m≤40
 ·have HX:=Lib.hid hx; have HM:=Lib.hid hm
  clear hx hm HH
  obtain ⟨h64,h200,hm40⟩:=hin
  obtain ⟨m1,hm1⟩:∃ z,z=mA % 4294967296:=⟨_,rfl⟩
  obtain ⟨hi,hhi⟩:∃ z,z=m1 * 7 % 4294967296:=⟨_,rfl⟩
  have zm:IntKind.u32.wrap (mA:Int)=(m1:Int):=by rw [IntKind.wrap_u32]; omega
  have zm7:IntKind.u32.wrap ((m1:Int) * 7)=(hi:Int):=by rw [IntKind.wrap_u32]; omega
  have hbg:=begun_any (w:=w) (cap:=cap) HM.out (show m≤1000 by omega) HX.out h64 (show n≤700 by omega) (show hi < 4294967296 by omega)
  have HBG:=Lib.hid hbg
  have hzb:=(zero_of_info infoBoth).1
  have hz1:¬ (n:Int) < 64:=by omega
  have hz2:¬ (200:Int) < (n:Int):=by omega
  have hz3:¬ (40:Int) < (m:Int):=by omega
  clear hbg hm1 hhi
  go_enter Tryz.func5,Tryz.ntmps5
  go_wp2_with fail
  refine HBG.out.mono ?_
  clear HBG
  rintro e W1 ⟨bx,t1,t,p,q,T1,s,S,K,x,r,vg,vw,vl,rfl,hb⟩
  have hsl:=hb.qt
  obtain ⟨vg',vw',vl',he,hr0,hl0⟩:=hsl
  simp only [qC,Value.agg.injEq,Array.mk.injEq,List.cons.injEq] at he
  obtain ⟨-,hvg,hvw,-,-,-,-,-,-,-,-,-,-,-,-,hvl,-⟩:=he
  subst hvg hvw hvl
  have hb1c:=bothC_one q x.n x.wr r r.free r.hint (fsN n) 0 0 hr0.slices.1 hr0.slices.2 hl0.slice
  have hib:=sizeBoth (.pointer (some ⟨q,0,none⟩)) x.n vg vw x.wr r vl r.free r.hint (fsN n) 0 0
  have hst:=heap_alloc_new W1 (.cells bothZ 69)
  have HSY:=Lib.hid hb.sync
  have hpk:=hb.pk.alloc (.cells (bothC (.pointer (some ⟨q,0,none⟩)) x.n vg vw x.wr r vl r.free r.hint (fsN n) 0 0) 69)
  have HGB:=Lib.hid hb.pk.sk.bel.size
  clear hb hr0 hl0
  go_upto_region 4 with (refine wpList_store_row rfl 69 _ _ rfl W1.heap.size (bothC (.pointer (some ⟨q,0,none⟩)) x.n vg vw x.wr r vl r.free r.hint (fsN n) 0 0) rfl rfl _ _ hst hib rfl hb1c ?_)
  change Code.wp _ _ _ _ ((W1.alloc (.cells bothZ 69)).setRow W1.heap.size (bothC (.pointer (some ⟨q,0,none⟩)) x.n vg vw x.wr r vl r.free r.hint (fsN n) 0 0))
  rw [World.setRow_alloc_new]
  clear hst hb1c hib
  have HLP:Hid (Lp w q n W1.heap.size s 0 (W1.alloc (.cells (bothC (.pointer (some ⟨q,0,none⟩)) x.n vg vw x.wr r vl r.free r.hint (fsN n) 0 0) 69))):=Lib.hid ⟨S,⟨x,r,[],r.free,r.hint,fsN n,0,0⟩,vg,vw,vl,hpk,HSY.out,Nat.le_refl _⟩
  have c0:=hpk.sk.cell (g:=W1.heap.size) (cs:=bothC (.pointer (some ⟨q,0,none⟩)) x.n vg vw x.wr r vl r.free r.hint (fsN n) 0 0) (T:=69) (j:=0) (v:=.pointer (some ⟨q,0,none⟩)) List.mem_cons_self rfl
  clear hpk HSY
  generalize W1.alloc (.cells (bothC (.pointer (some ⟨q,0,none⟩)) x.n vg vw x.wr r vl r.free r.hint (fsN n) 0 0) 69)=W2 at HLP c0 ⊢
  generalize W1.heap.size=gB at HLP HGB c0 ⊢
  have heq:=eqSp q
  clear zm zm7 hz1 hz2 hz3
  go_wp2_with fail
  refine plays_acts HMA.out HA.out HGB.out HLP.out ?_
  intro _ _ _ _ _ _ _ _ _ _ _ _ _ _ _ _ _ _ _ _ _ _ _ _ _ _ _ _ _ _ _ _ _ _ _ _ _ _ _ _ _ _ _ _ _ _ _ _ _ _ _ _ _ _ _ _ _ _ _ _ _ _ _ _ _ _ _ _ _ _ _ _ _ _ _ _ _ _ _ _ _ _ _ _ _ _ _ _ _ _ _ _ _ _ _ _ V4 hb4
  have HB4:=Lib.hid hb4
  have HC:=Lib.hid (head_any V4)
  clear hb4 c0 heq HLP
  go_wp2_with fail
  refine HC.out.mono ?_
  clear HC
  rintro e V5 ⟨rfl,hb5⟩
  have HB5:=Lib.hid (HB4.out.trans (hb5.mono HB4.out.size))
  clear hb5 HB4
  go_wp2_with fail
  go_ret
  exact ⟨rfl,HB5.out⟩
 ·have HB:Hid (n < 64∨200 < n∨(64≤n∧n≤200∧40 < m)):=Lib.hid (by omega)
  clear hx hm
  rcases HB.out with hlt | hgt | ⟨h1,h2,h3⟩
  ·have hz1:(n:Int) < 64:=by omega
   go_enter Tryz.func5,Tryz.ntmps5
   go_wp2_with fail
   refine HH.out.mono ?_
   rintro e W1 ⟨rfl,hb⟩
   go_wp2_with fail
   go_ret
   exact ⟨rfl,hb⟩
  ·have hz1:¬ (n:Int) < 64:=by omega
   have hz2:(200:Int) < (n:Int):=by omega
   go_enter Tryz.func5,Tryz.ntmps5
   go_wp2_with fail
   refine HH.out.mono ?_
   rintro e W1 ⟨rfl,hb⟩
   go_wp2_with fail
   go_ret
   exact ⟨rfl,hb⟩
  ·have hz1:¬ (n:Int) < 64:=by omega
   have hz2:¬ (200:Int) < (n:Int):=by omega
   have hz3:(40:Int) < (m:Int):=by omega
   clear h1 h2 h3
   go_enter Tryz.func5,Tryz.ntmps5
   go_wp2_with fail
   refine HH.out.mono ?_
   rintro e W1 ⟨rfl,hb⟩
   go_wp2_with fail
   go_ret
   exact ⟨rfl,hb⟩
end Spc

end Go.Proofs.YtgkbfahflngklaaGreat
