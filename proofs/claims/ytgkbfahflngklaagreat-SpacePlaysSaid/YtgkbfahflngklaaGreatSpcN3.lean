import Derived.Test.YtgkbfahflngklaaGreatSpcV1
import Derived.Test.YtgkbfahflngklaaGreatCntF
import Derived.Test.YtgkbfahflngklaaGreatSpcK
set_option maxRecDepth 100000
set_option maxHeartbeats 12800000
set_option linter.unusedSimpArgs false
namespace Go.Proofs.YtgkbfahflngklaaGreat
namespace Spc
open Go.RowKit RowLaw
open Dev (ptr DS)
open Cnt (own_slice own_kept own_base own_ne Thing Hall TD cntE)
open Slt (Rt cells rootO)
open Rot (planOk tlN pkN fsN)
def freeTo (s:DS) (r:Rt) (L:List (Nat×Nat)):Nat→Nat
 | 0=>0
 | k+1=>freeTo s r L k+if getS s r L (fsN s.n+k)=0 then 1 else 0
theorem freeTo_le (s:DS) (r:Rt) (L:List (Nat×Nat)):∀ k,freeTo s r L k≤k
 | 0=>Nat.le_refl _
 | k+1=>by
  have:=freeTo_le s r L k
  unfold freeTo
  split <;> omega
structure Fg (w:World) (l:List Thing) (KL:List (Nat×Obj)) (x:RS) (r r2:Rt) (L:List (Nat×Nat)) (cs:Array Value) (gr gt f:Nat) (W:World):Prop where
 hall: Hall w l ((gr,rootO { r2 with free:=f })::KL) W
 gt_:(gt,Obj.cells cs 65 (0,0))∈KL
 ne:∀ y∈KL,y.1≠gr
 dt:DT (inK KL) W (.agg cs) x r L
theorem Fg.below {w W W':World} {l:List Thing} {KL:List (Nat×Obj)} {x:RS} {r r2:Rt} {L:List (Nat×Nat)} {cs:Array Value} {gr gt f:Nat} (h:Fg w l KL x r r2 L cs gr gt f W) (hb:Below W.heap.size W W'):Fg w l KL x r r2 L cs gr gt f W':=
 ⟨h.hall.below hb,h.gt_,h.ne,h.dt.kept hb⟩
theorem Fg.put {w W:World} {l:List Thing} {KL:List (Nat×Obj)} {x:RS} {r r2:Rt} {L:List (Nat×Nat)} {cs:Array Value} {gr gt f:Nat} (h:Fg w l KL x r r2 L cs gr gt f W) (hw:w.heap.size≤gr) (f':Nat):Fg w l KL x r r2 L cs gr gt f' (W.setCell ⟨gr,4,none⟩ (.int .u32 (f':Int))):=
 ⟨Cnt.Hall.setCell (j:=4) (v:=.int .u32 (f':Int)) h.hall hw h.ne,h.gt_,h.ne,h.dt.over (fun b ⟨_,hb⟩=>heap_setCell_other W ⟨gr,4,none⟩ b _ (h.ne _ hb))⟩
theorem begun_free {w:World} {l:List Thing} {KL:List (Nat×Obj)} {gr gt:Nat} {s:DS} {x:RS} {r r2:Rt} {L:List (Nat×Nat)} {cs:Array Value} (hL:L.length < 1000000) (hS:Sees x r s) (hgr:w.heap.size≤gr)
  {Q0:Exit→Act→World→Prop} {c1 c2 c3 c4 c5 c6 c7 c8 Bl Bm Bn Bo Bp Bq Br Bs Bt Bu Bv Bw Bx By Bz C0 C1 C2 Dm Dn C3 C4 C5 C6 C7 C8 C9 CA CB CC CD CE CF CG CI CJ CK CL CM CN CO CP CQ CR CS CT CU CV CW CX CY CZ Ca Cb Cc Cd Ce Cf Cg Ci Cj Ck Cl Cm Cn Co Cp Cq Cr Cs Ct Cu Cv Cw Cx Cy Cz D0 D1 D2 D3 D4 D5 D6 D7 D8 D9 DA A1 A2 A3 A4 A5 A6 A7 A8 A9 AA AB AC AD AE AF AG AI AJ AK AL AM AN AO AP AQ AR AS AT AU AV AW AX AY AZ Aa Ab Ac Ad Ae Af Ag Ai Aj Ak Al Am An Ao Ap Aq Ar As At Au Av DB DC DD DE DF DG DI DJ DK DL DM DN DO DP DQ DR DT Aw Ax Ay Az B0 B1 B2 B3 B4 B5 B6 B7 B8 B9 BA BB BC BD BE BF BG BI BJ BK BL BM BN BO BP BQ BR BS BT BU BV BW BX BY BZ Ba Bb Bc Bd Be Bf Bg Bi Bj Bk:Value} {W0:World} (h0:Fg w l KL x r r2 L cs gr gt 0 W0)
  (hexit: ∀ (Do Dp Dq DU DV DW DX DY DZ Da Db Dc Dd De Df Dg Di Dj Dk Dl: Value) (W: World) ,Fg w l KL x r r2 L cs gr gt (freeTo s r L (s.n - fsN s.n)) W→Q0 (.exit 2) ⟨List.toArray (.int .u32 (s.n: Int)::c1::c2::c3::c4::c5::c6::c7::c8::.pointer (some ⟨gr,0,none⟩)::Bl::Bm::Bn::Bo::Bp::Bq::Br::Bs::.pointer (some ⟨gt,0,none⟩)::Bt::Bu::Bv::Bw::Bx::By::Bz::C0::C1::C2::Do::Dp::Dq::C3::C4::C5::C6::C7::C8::C9::CA::CB::CC::CD::CE::CF::CG::CI::CJ::CK::CL::CM::CN::CO::CP::CQ::CR::CS::CT::CU::CV::CW::CX::CY::CZ::Ca::Cb::Cc::Cd::Ce::Cf::Cg::Ci::Cj::Ck::Cl::Cm::Cn::Co::Cp::Cq::Cr::Cs::Ct::Cu::Cv::Cw::Cx::Cy::Cz::D0::D1::D2::D3::D4::D5::D6::D7::D8::D9::DA::A1::A2::A3::A4::A5::A6::A7::A8::A9::AA::AB::AC::AD::AE::AF::AG::AI::AJ::AK::AL::AM::AN::AO::AP::AQ::AR::AS::AT::AU::AV::AW::AX::AY::AZ::Aa::Ab::Ac::Ad::Ae::Af::Ag::Ai::Aj::Ak::Al::Am::An::Ao::Ap::Aq::Ar::As::At::Au::Av::DU::DV::DW::DX::DY::DZ::Da::Db::Dc::Dd::De::Df::Dg::Di::Dj::Dk::Dl::Aw::Ax::Ay::Az::B0::B1::B2::B3::B4::B5::B6::B7::B8::B9::BA::BB::BC::BD::BE::BF::BG::BI::BJ::BK::BL::BM::BN::BO::BP::BQ::BR::BS::BT::BU::BV::BW::BX::BY::BZ::Ba::Bb::Bc::Bd::Be::Bf::Bg::Bi::Bj::Bk::[]),[]⟩ W) :
  Code.wp Tryz.prog (.loop bodyV2) Q0 ⟨List.toArray (.int .u32 (s.n: Int)::c1::c2::c3::c4::c5::c6::c7::c8::.pointer (some ⟨gr,0,none⟩)::Bl::Bm::Bn::Bo::Bp::Bq::Br::Bs::.pointer (some ⟨gt,0,none⟩)::Bt::Bu::Bv::Bw::Bx::By::Bz::C0::C1::C2::.int .u32 (fsN s.n: Int)::Dm::Dn::C3::C4::C5::C6::C7::C8::C9::CA::CB::CC::CD::CE::CF::CG::CI::CJ::CK::CL::CM::CN::CO::CP::CQ::CR::CS::CT::CU::CV::CW::CX::CY::CZ::Ca::Cb::Cc::Cd::Ce::Cf::Cg::Ci::Cj::Ck::Cl::Cm::Cn::Co::Cp::Cq::Cr::Cs::Ct::Cu::Cv::Cw::Cx::Cy::Cz::D0::D1::D2::D3::D4::D5::D6::D7::D8::D9::DA::A1::A2::A3::A4::A5::A6::A7::A8::A9::AA::AB::AC::AD::AE::AF::AG::AI::AJ::AK::AL::AM::AN::AO::AP::AQ::AR::AS::AT::AU::AV::AW::AX::AY::AZ::Aa::Ab::Ac::Ad::Ae::Af::Ag::Ai::Aj::Ak::Al::Am::An::Ao::Ap::Aq::Ar::As::At::Au::Av::DB::DC::DD::DE::DF::DG::DI::DJ::DK::DL::DM::DN::DO::DP::DQ::DR::DT::Aw::Ax::Ay::Az::B0::B1::B2::B3::B4::B5::B6::B7::B8::B9::BA::BB::BC::BD::BE::BF::BG::BI::BJ::BK::BL::BM::BN::BO::BP::BQ::BR::BS::BT::BU::BV::BW::BX::BY::BZ::Ba::Bb::Bc::Bd::Be::Bf::Bg::Bi::Bj::Bk::[]),[]⟩ W0:=by
 have HEX:=Lib.hid hexit; clear hexit
 have HM0:=Lib.hid h0; clear h0
 have HSS:=Lib.hid hS
 have hsm:=hS.small
 clear hS
 obtain ⟨fs,hfs⟩:∃ fs,fs=fsN s.n:=⟨_,rfl⟩
 have HFS:=Lib.hid hfs
 rw [←hfs] at HEX hsm ⊢
 clear hfs
 conv=>arg 2; arg 1; whnf
 go_loopw [29] (fun v29 W=>∃ k:Nat,k≤s.n - fs∧v29=.int .u32 ((fs+k:Nat):Int)∧Hid (Fg w l KL x r r2 L cs gr gt (freeTo s r L k) W)) (fun v29 _=>s.n - (intOf v29).toNat)
 case atStart=>exact ⟨0,by omega,rfl,HM0⟩
 case round=>
  clear HM0
  obtain ⟨k,hk,rfl,HM⟩:=hrel
  by_cases hlt:k < s.n - fs
  ·obtain ⟨a,ha⟩:∃ a,a=fs+k:=⟨_,rfl⟩
   rw [←ha]
   have han:a < s.n:=by omega
   have i1:(a:Int) < (s.n:Int):=by omega
   have z1:IntKind.u32.wrap ((a:Int)+1)=(a:Int)+1:=IntWalk.u32_in _ (by omega)
   have hg0:=HM.out.hall.at_ (q:=gt) (o:=.cells cs 65 (0,0)) (List.mem_cons_of_mem _ HM.out.gt_)
   have hidt:=(dt_size HM.out.dt).1
   have HG:=Lib.hid (Get9_any (a:=a) HM.out.dt HSS.out hL)
   have ec:cntE s.n a=0:=if_neg (by omega)
   rw [ec] at HG
   have hft:freeTo s r L (k+1)=freeTo s r L k+if getS s r L a=0 then 1 else 0:=by
    show freeTo s r L k+(if getS s r L (fsN s.n+k)=0 then 1 else 0)=_
    rw [←HFS.out,←ha]
   have hfl:=freeTo_le s r L k
   generalize getS s r L a=c at HG hft
   have HFT:=Lib.hid hft
   have HA:=Lib.hid ha
   clear ec hft ha
   go_wp2_with (refine wpList_load_row rfl 65 _ rfl gt rfl _ _ _ _ hg0 Tryz.underlying65 rfl hidt ?_)
   refine HG.out.mono ?_
   clear HG hg0
   rintro e W2 ⟨rfl,hx⟩
   have HM2:=Lib.hid (HM.out.below hx)
   clear hx HM
   by_cases hc:c=0
   ·have d1:((c:Int) == 0)=true:=by simp [hc]
    have hq:=HM2.out.hall.at_ (q:=gr) (o:=rootO { r2 with free:=freeTo s r L k }) List.mem_cons_self
    have c4:W2.cell? ⟨gr,4,none⟩=some (.int .u32 ((freeTo s r L k:Nat):Int)):=(cell_of_row W2 gr 4 _ _ _ hq).trans rfl
    have f4:=frozen_of_row W2 gr 4 _ _ hq
    have HF:=Lib.hid (show Fg w l KL x r r2 L cs gr gt (freeTo s r L (k+1)) (W2.setCell ⟨gr,4,none⟩ (.int .u32 (((freeTo s r L k+1:Nat)):Int))) from by
     rw [HFT.out,if_pos hc]
     exact HM2.out.put hgr _)
    generalize freeTo s r L k=f at c4 HF hfl
    have z2:IntKind.u32.wrap ((f:Int)+1)=(f:Int)+1:=IntWalk.u32_in _ (by omega)
    have z3:((f+1:Nat):Int)=(f:Int)+1:=by omega
    rw [z3] at HF
    clear hc HM2 hq z3
    go_wp2_with fail
    go_roundw
    case rel=>exact ⟨k+1,by omega,by have:=HA.out; rw [show fs+(k+1)=a+1 by omega]; go_num,HF⟩
    case measure=>simp [intOf]; omega
   ·have d1:((c:Int) == 0)=false:=by simp; omega
    have HF:=Lib.hid (show Fg w l KL x r r2 L cs gr gt (freeTo s r L (k+1)) W2 from by
     rw [HFT.out,if_neg hc,Nat.add_zero]
     exact HM2.out)
    clear hc HM2
    go_wp2_with fail
    go_roundw
    case rel=>exact ⟨k+1,by omega,by have:=HA.out; rw [show fs+(k+1)=a+1 by omega]; go_num,HF⟩
    case measure=>simp [intOf]; omega
  ·have hkn:k=s.n - fs:=by omega
   have i1:¬ ((fs+k:Nat):Int) < (s.n:Int):=by omega
   have HE:=Lib.hid (show Fg w l KL x r r2 L cs gr gt (freeTo s r L (s.n - fs)) wr from by rw [←hkn]; exact HM.out)
   generalize fs+k=a at i1
   clear hkn
   go_wp2_with fail
   exact HEX.out _ _ _ _ _ _ _ _ _ _ _ _ _ _ _ _ _ _ _ _ _ HE.out
end Spc
namespace Spc
open Go.RowKit RowLaw
open Dev (DS readB applyP)
open Cnt (TD TOk tdOf tdOf_ok Sound Of sealL sealCh seal_commit other)
open Slt (Rt)
open Rot (planOk tlN pkN fsN fresh fresh_good commitOk commitF mayR commit_calm read_commit readB_nil plan_facts)
def rootB (n ch h f:Nat):Rt:={ fresh n with gen:=2,picks:=ch,hint:=h,free:=f }
theorem other_zero:other 0=1:=rfl
theorem sealD_at {x:RS} {r:Rt} {s:DS} (hS:Sees x r s) (L:List (Nat×Nat)):∀ y∈sealD s r L,2≤y.1∧y.1 < s.n:=fun y hy=>by
 have hok:=tdOf_ok (d:=0) hS.sound.plan hS.sound.chl
 have hsm:=hS.small
 have hone:=hS.one
 obtain ⟨h1,h2⟩:=Cnt.plan_of hS.sound.plan
 have hpf:=plan_facts h1 h2
 unfold sealD at hy
 rcases List.mem_append.1 hy with hy | hy
 ·obtain ⟨p,hp,rfl⟩:=List.mem_map.1 hy
  have h3:=chP_lt hS L p hp
  have h4:Cnt.tlAt (tdOf 0 s r.picks) p=2+2 * (pkN s.n+p)+Cnt.bitAt ((tdOf 0 s r.picks).PV (p / 1024)) (p % 1024):=rfl
  have h5:=Cnt.bitAt_lt ((tdOf 0 s r.picks).PV (p / 1024)) (p % 1024)
  show 2≤oth (Cnt.tlAt (tdOf 0 s r.picks) p)∧oth (Cnt.tlAt (tdOf 0 s r.picks) p) < s.n
  unfold oth
  split <;> omega
 ·split at hy
  ·cases hy
  ·simp only [List.mem_singleton] at hy
   subst hy
   have h4:Cnt.pkAt (tdOf 0 s r.picks) 0=2+2 * 0+r.picks / 2 ^ 0 % 2:=rfl
   have h5:r.picks / 2 ^ 0 % 2 < 2:=Nat.mod_lt _ (by omega)
   show 2≤oth (Cnt.pkAt (tdOf 0 s r.picks) 0)∧oth (Cnt.pkAt (tdOf 0 s r.picks) 0) < s.n
   unfold oth
   split <;> omega
theorem rootB_ok {n ch h f:Nat} (h1:64≤n) (h2:n≤65536) (hone:pkN n=1) (hc:ch < 2) (hh1:fsN n≤h) (hh2:h < n) (hf:f≤n - fsN n):Rot.Good (rootB n ch h f) n:=by
 have hfr:=fresh_good h1 (show n≤1048576 by omega)
 obtain ⟨_,f2,_⟩:=plan_facts h1 (show n≤1048576 by omega)
 obtain ⟨g1,g2,g3,g4,g5,g6,g7,g8⟩:=hfr.fits
 refine ⟨⟨by show (2:Nat) < _; omega,g2,by show ch < _; omega,g4,by show f < _; omega,g6,by show h < _; omega,g8⟩,?_⟩
 unfold mayR
 have hm:Slt.mayB (rootB n ch h f)=true:=by
  rw [Slt.mayB_iff]
  unfold Slt.May rootB fresh
  simp only
  exact ⟨by omega,h1,by omega,by omega,by omega,hh2,by omega,Nat.le_refl _,by omega,by simp⟩
 rw [hm]
 have e1:(rootB n ch h f).size=n:=rfl
 have e2:(rootB n ch h f).picks / 2 ^ pkN n=0:=by rw [hone]; show ch / 2 ^ 1=0; omega
 have e3:fsN n≤(rootB n ch h f).hint:=hh1
 have e4:(rootB n ch h f).free≤n - fsN n:=hf
 rw [decide_eq_true e1,decide_eq_true e2,decide_eq_true e3,decide_eq_true e4]
 rfl
theorem rootB_commit {x:RS} {r:Rt} {s:DS} (hS:Sees x r s) (L:List (Nat×Nat)) {ch h f:Nat} (hc:ch < 2) (hh1:fsN s.n≤h) (hh2:h < s.n) (hf:f≤s.n - fsN s.n):commitOk s.n (sealD s r L) (rootB s.n ch h f)=true:=by
 have hsm:=hS.small
 unfold commitOk
 rw [Bool.and_eq_true]
 refine ⟨(rootB_ok hsm.1 hsm.2.1 hS.one hc hh1 hh2 hf).may,List.all_eq_true.2 fun y hy=>?_⟩
 have:=sealD_at hS L y hy
 simp [this]
theorem Sees.next {x:RS} {r:Rt} {s:DS} (hS:Sees x r s) (hr0:r.picks=0) {T:TD} {L:List (Nat×Nat)} (hT:Same9 s r T L) (hok:TOk T) {ks:List Nat} (hks:ks.Pairwise (· < ·)) (hk:∀ a,a∈ks↔(T.C a).isSome=true)
  {h f:Nat} (hh1:fsN s.n≤h) (hh2:h < s.n) (hf:f≤s.n - fsN s.n) :
  sealCh T ks < 2∧∃ s',commitF s (sealD s r L) (rootB s.n (sealCh T ks) h f)=(s',0)∧s'.n=s.n∧Sees (commitX x (sealD s r L) (rootB s.n (sealCh T ks) h f)) (rootB s.n (sealCh T ks) h f) s'∧
   ∀ a,oldS s' (rootB s.n (sealCh T ks) h f) a=if fsN s.n≤a∧a < s.n then getS s r L a else 0:=by
 have hsm:=hS.small
 have hc2:sealCh T ks < 2:=by
  unfold sealCh
  rw [hT.ch,hr0]
  split
  ·omega
  ·rw [other_zero]; omega
 refine ⟨hc2,?_⟩
 have hco:=rootB_commit hS L hc2 hh1 hh2 hf
 obtain ⟨k,e⟩:=commit_calm hS.like.calm hco (show 2≤s.n by omega)
 have hlc:=hS.like.commit hco (show 2≤s.n by omega) (fun y hy=>(sealD_ok hS L y hy).1)
 obtain ⟨s',hs'⟩:∃ s',s'=(commitF s (sealD s r L) (rootB s.n (sealCh T ks) h f)).1:=⟨_,rfl⟩
 have hn':s'.n=s.n:=by rw [hs',e]
 have hpend:s'.pend=[]:=by rw [hs',e]; exact hS.like.calm.pend
 have hrd:=fun c hc=>read_commit hS.like.calm hco (show 2≤s.n by omega) c hc
 rw [←hs'] at hlc hrd
 have hsl:=hT.sealed hks hk
 have hO:Of s r.picks T:=⟨hT.n,hT.ch,hT.PV,hT.TV⟩
 obtain ⟨_,_,c3,c4⟩:=seal_commit (s':=s') hO hok hS.sound hsm.2.1 hks hk hn' hpend hS.like.calm.pend (fun a ha=>by
  rw [hsl,←hrd a ha,readB_nil hpend])
 have hone':pkN s'.n=1:=by rw [hn']; exact hS.one
 have hg:=rootB_ok hsm.1 hsm.2.1 hS.one hc2 hh1 hh2 hf
 refine ⟨s',by rw [hs',e],hn',⟨hlc,c3,hn'.symm,hone',hg.fits⟩,fun a=>?_⟩
 unfold oldS Cnt.TD.oldC Cnt.cntV
 show (if fsN s'.n≤a∧a < s'.n then ((tdOf 0 s' (sealCh T ks)).TV (a / 64)).getD (a % 64) 0 else 0)=_
 rw [hn']
 split
 ·rename_i hin
  rw [c4 0 (a / 64) (by omega),←hT.nowC hin.1 hin.2]
  unfold Cnt.TD.nowC Cnt.cntV
  rw [hT.n,if_pos hin]
 ·rfl
end Spc
namespace Spc
open Go.RowKit RowLaw
open Dev (DS readB applyP)
open Cnt (TD TOk tdOf tdOf_ok Sound Of)
open Slt (Rt)
open Rot (planOk tlN pkN fsN fresh plan_facts)
theorem begun_zero {n:Nat} (h1:64≤n) (h2:n≤65536):∃ s2,Rot.formatF (Dev.newS n)=(s2,(fresh n,0))∧s2.n=n∧planOk s2.n=true∧Sees (formX n) (fresh n) s2∧s2.pend=[]∧∀ a,oldS s2 (fresh n) a=0:=by
 obtain ⟨s2,hf,hc,hn,hS,_,hTV⟩:=Cnt.format_sound (s:=Dev.newS n) (Rot.Calm.new n) h1 (by show n≤1048576; omega)
 have hl:=Like.format h1 (show n≤1048576 by omega) hf
 have hn':s2.n=n:=hn
 refine ⟨s2,hf,hn',hS.plan,⟨hl,hS,by rw [hn']; rfl,by rw [hn']; exact (Cnt.pkN_one h1 h2).1,(Rot.fresh_good h1 (by omega)).1⟩,hc.pend,fun a=>?_⟩
 unfold oldS Cnt.TD.oldC Cnt.cntV
 show (if fsN s2.n≤a∧a < s2.n then ((tdOf 0 s2 0).TV (a / 64)).getD (a % 64) 0 else 0)=0
 rw [hn']
 split
 ·rename_i hin
  skip
  have hq:a / 64 < tlN n:=by
   unfold tlN
   omega
  rw [hTV 0 (a / 64) hq]
  exact Cnt.zs_getD _
 ·rfl
theorem getS_setLs {s:DS} {r:Rt} (h0:∀ a,oldS s r a=0):∀ (xs:List (Nat×Nat)) (L:List (Nat×Nat)) (a:Nat),fsN s.n≤a→a < s.n→lastS (xs.foldl (fun L y=>setL s.n L y.1 y.2) L) a 0=lastS xs a (lastS L a 0)
 | [],L,a,_,_=>rfl
 | x::xs,L,a,h1,h2=>by
  show lastS (xs.foldl (fun L y=>setL s.n L y.1 y.2) (setL s.n L x.1 x.2)) a 0=lastS xs a (if x.1=a then x.2 else lastS L a 0)
  rw [getS_setLs h0 xs _ a h1 h2]
  congr 1
  unfold setL
  split
  ·rw [lastS_snoc]
  ·rename_i hh
   rw [if_neg (fun e=>hh (by omega))]
theorem getS_begun {s:DS} {r:Rt} (h0:∀ a,oldS s r a=0) (xs:List (Nat×Nat)) {a:Nat} (h1:fsN s.n≤a) (h2:a < s.n):getS s r (setLs s.n xs) a=lastS xs a 0:=by
 unfold getS setLs
 rw [if_neg (by omega),h0]
 exact getS_setLs h0 xs [] a h1 h2
theorem freeTo_cnt {s:DS} {r:Rt} {L:List (Nat×Nat)} {p:Nat→Bool}:∀ k,(∀ a,fsN s.n≤a→a < fsN s.n+k→p a=decide (getS s r L a=0))→freeTo s r L k=cntTo p (fsN s.n) k
 | 0,_=>rfl
 | k+1,h=>by
  rw [cntTo_succ,←freeTo_cnt k (fun a h1 h2=>h a h1 (by omega)),h (fsN s.n+k) (by omega) (by omega)]
  show freeTo s r L k+(if getS s r L (fsN s.n+k)=0 then 1 else 0)=_
  by_cases e:getS s r L (fsN s.n+k)=0 <;> simp [e]
structure Start (S:SS) (n:Nat) (xs:List (Nat×Nat)) (hint:Nat):Prop where
 inv:Inv S
 en:S.T.n=n
 eh:S.h=fsN n+hint % (n - fsN n)
 old:∀ a,fsN n≤a→a < n→S.T.oldC a=lastS xs a 0
 now:∀ a,S.T.nowC a=S.T.oldC a
 fr:S.f=S.r
theorem start_of {s s':DS} {r:Rt} {xs:List (Nat×Nat)} {ch hint d:Nat} (h64:64≤s.n) (h65:s.n≤65536) (h0:∀ a,oldS s r a=0) (hn:s'.n=s.n) (hpl:planOk s'.n=true) (hch:ch < 2)
  (ho:∀ a,(tdOf d s' ch).oldC a=if fsN s.n≤a∧a < s.n then getS s r (setLs s.n xs) a else 0) :
  Start ⟨tdOf d s' ch,(freeTo s r (setLs s.n xs) (s.n - fsN s.n):Nat),(freeTo s r (setLs s.n xs) (s.n - fsN s.n):Nat),fsN s.n+hint % (s.n - fsN s.n)⟩ s.n xs hint:=by
 have hok:=tdOf_ok (d:=d) hpl (show ch < 4294967296 by omega)
 obtain ⟨_,f2,_⟩:=plan_facts h64 (show s.n≤1048576 by omega)
 have en:(tdOf d s' ch).n=s.n:=hn
 have hnow:∀ a,(tdOf d s' ch).nowC a=(tdOf d s' ch).oldC a:=fun a=>by
  unfold Cnt.TD.nowC Cnt.TD.oldC Cnt.cntV
  rw [Cnt.now_none rfl]
 have hm:=Nat.mod_lt hint (show 0 < s.n - fsN s.n by omega)
 refine ⟨⟨hok,by show (tdOf d s' ch).n≤65536; rw [en]; exact h65,?_,?_,by show fsN (tdOf d s' ch).n≤_; rw [en]; show fsN s.n≤fsN s.n+hint % (s.n - fsN s.n); omega,by show _ < (tdOf d s' ch).n; rw [en]; show fsN s.n+hint % (s.n - fsN s.n) < s.n; omega⟩,en,rfl,fun a h1 h2=>?_,hnow,rfl⟩
 ·show ((freeTo s r (setLs s.n xs) (s.n - fsN s.n):Nat):Int)=((cntTo (isZ (tdOf d s' ch)) (fsN (tdOf d s' ch).n) ((tdOf d s' ch).n - fsN (tdOf d s' ch).n):Nat):Int)
  rw [en,freeTo_cnt (p:=isZ (tdOf d s' ch)) _ (fun a h1 h2=>by
   unfold isZ
   rw [hnow,ho,if_pos ⟨h1,by omega⟩])]
 ·show ((freeTo s r (setLs s.n xs) (s.n - fsN s.n):Nat):Int)=((cntTo (avB (tdOf d s' ch)) (fsN (tdOf d s' ch).n) ((tdOf d s' ch).n - fsN (tdOf d s' ch).n):Nat):Int)
  rw [en,freeTo_cnt (p:=avB (tdOf d s' ch)) _ (fun a h1 h2=>by
   unfold avB
   rw [hnow,ho,if_pos ⟨h1,by omega⟩]
   simp)]
 ·show (tdOf d s' ch).oldC a=_
  rw [ho,if_pos ⟨h1,h2⟩,getS_begun h0 xs h1 h2]
theorem Start.flat {S:SS} (x:Start S 64 [] 0):Flat S (fun _=>0) 58 6:=by
 have ho:∀ a,S.T.oldC a=0:=fun a=>by
  by_cases h:6≤a∧a < 64
  ·exact x.old a (by rw [fs64]; exact h.1) h.2
  ·unfold Cnt.TD.oldC Cnt.cntV
   rw [x.en,fs64,if_neg h]
 have hz:cntTo (isZ S.T) (fsN S.T.n) (S.T.n - fsN S.T.n)=58:=by
  rw [cntTo_all _ (fun a _ _=>by
   unfold isZ
   rw [x.now,ho]
   rfl),x.en,fs64]
 have hf:S.f=((58:Nat):Int):=by rw [x.inv.f,hz]
 refine ⟨x.inv.ok,x.en,ho,fun a _ _=>(x.now a).trans (ho a),hf,by rw [←x.fr]; exact hf,?_⟩
 rw [x.eh,fs64]
end Spc

end Go.Proofs.YtgkbfahflngklaaGreat
