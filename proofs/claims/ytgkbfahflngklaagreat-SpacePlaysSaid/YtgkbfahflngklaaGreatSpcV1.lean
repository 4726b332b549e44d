import Derived.Test.YtgkbfahflngklaaGreatSpcN1
import Derived.Test.YtgkbfahflngklaaGreatSpcU2
set_option maxRecDepth 100000
set_option maxHeartbeats 12800000
set_option linter.unusedSimpArgs false
namespace Go.Proofs.YtgkbfahflngklaaGreat
namespace Spc
open Go.RowKit RowLaw
open Dev (ptr DS yieldsIf_load_row Turn)
open Cnt (own_slice own_kept own_base own_ne Thing Hall TD TOk tdOf tdOf_ok Sound Reads setS setS_ok setS_same setE loopsOf)
open Slt (Rt cells)
open Rot (planOk tlN pkN fsN)
noncomputable def bodyV1:Code:=((Tryz.f26.body.bind fun c=>(loopsOf c)[0]?).getD .skip)
noncomputable def bodyV2:Code:=((Tryz.f26.body.bind fun c=>(loopsOf c)[1]?).getD .skip)
structure OldsAt (W:World) (b off:Nat) (xs:List (Nat×Nat)):Prop where
 old:b < W.heap.size
 at_:∀ i (hi:i < xs.length),W.cell? ⟨b,off+i * 2,none⟩=some (.int .u32 (xs[i].1:Int))∧W.cell? ⟨b,off+i * 2+1,none⟩=some (.int .u16 (xs[i].2:Int))
def Olds (W:World) (pa:Option Addr) (xs:List (Nat×Nat)):Prop:=(∀ x∈xs,x.1 < 4294967296∧x.2 < 65536)∧(xs=[]∨∃ b off,pa=some ⟨b,off,none⟩∧OldsAt W b off xs)
def setLs (n:Nat) (xs:List (Nat×Nat)):List (Nat×Nat):=xs.foldl (fun L y=>setL n L y.1 y.2) []
theorem setLs_take (n:Nat) (xs:List (Nat×Nat)) (k:Nat) (hk:k < xs.length):setLs n (xs.take (k+1))=setL n (setLs n (xs.take k)) xs[k].1 xs[k].2:=by
 unfold setLs
 rw [List.take_add_one,List.getElem?_eq_getElem hk,List.foldl_append]
 rfl
theorem setLs_len (n:Nat) (xs:List (Nat×Nat)):∀ k,(setLs n (xs.take k)).length≤k
 | 0=>by rw [List.take_zero]; exact Nat.le_refl _
 | k+1=>by
  have ih:=setLs_len n xs k
  by_cases hk:k < xs.length
  ·rw [setLs_take n xs k hk]
   unfold setL
   split
   ·simp only [List.length_append,List.length_cons,List.length_nil]; omega
   ·omega
  ·rw [List.take_of_length_le (by omega)] at ih ⊢
   omega
theorem Hall.setRow {w W: World} {l: List Thing} {K: List (Nat×Obj)} {q: Nat} {cs cs2: Array Value} {T: TypeId} (h: Hall w l ((q,.cells cs T (0,0))::K) W) (hw: w.heap.size≤q) (hne: ∀ x∈K,x.1≠q): Hall w l ((q,.cells cs2 T (0,0))::K) (W.setRow q cs2):=by
 obtain ⟨h1,f,h2,h3,h4⟩:=h
 have h0:=h4 _ List.mem_cons_self
 have ht:Turn [q] W (W.setRow q cs2):=⟨rfl,rfl,rfl,by simp [World.setRow],fun k _ hk=>setRow_other W q k _ (fun e=>hk (by simp [e]))⟩
 refine ⟨h1.trans (ht.below (by simpa using hw) h1.size),f,fun i x hi=>⟨(h2 i x hi).1.turn ht (fun k hk=>?_),(h2 i x hi).2⟩,h3,fun x hx=>?_⟩
 ·have:=h0.2 i (List.getElem?_eq_some_iff.1 hi).1
  simp only [List.mem_singleton]
  rintro rfl
  exact this hk
 ·rcases List.mem_cons.1 hx with rfl | hx
  ·exact ⟨setRow_heap W q _ _ _ _ h0.1,h0.2⟩
  ·have h5:=h4 x (List.mem_cons_of_mem _ hx)
   exact ⟨(setRow_other W q x.1 _ (hne x hx)).trans h5.1,h5.2⟩
def Bg (w:World) (s:DS) (x:RS) (r:Rt) (p t gt:Nat) (K0:List (Nat×Obj)) (L:List (Nat×Nat)) (W:World):Prop:=
 ∃ (T: TD) (K: List (Nat×Obj)) (cs: Array Value),Hall w [.dev p s,.tab t T] ((gt,.cells cs 65 (0,0))::K) W∧(∀ y∈K0,y∈K)∧(∀ y∈K,y.1≠gt)∧DT (inK K) W (.agg cs) x r L∧Same9 s r T L∧TOk T∧Reads s T∧T.d=p
theorem dt_size {A:Nat→Prop} {W:World} {cs:Array Value} {x:RS} {r:Rt} {L:List (Nat×Nat)} (h:DT A W (.agg cs) x r L):(Tryz.prog.info? 65).map (·.size)=some cs.size∧cs.all (·.oneCell')=true∧cs.size=16:=by
 obtain ⟨vg,vw,vl,e,h1,h2⟩:=h
 injection e with e
 subst e
 exact ⟨sizeDT _ _ _ _ _ _,dtC_one _ _ _ h1.slices.1 h1.slices.2 h2.slice,rfl⟩
theorem begun_sets {w:World} {m cap t gt p:Nat} {s:DS} {x:RS} {r:Rt} {xs:List (Nat×Nat)} {pa:Option Addr} {K0:List (Nat×Obj)} (hm:m=xs.length) (hm40:m≤1000) (hx:Olds w pa xs) (hS:Sees x r s) (hgt:w.heap.size≤gt)
  {Q0:Exit→Act→World→Prop} {c0 c2 c3 c4 c5 c6 c7 c8 c9 Bp Bq Br Bs Bt Bu Bv Bw Bx By Bz C0 C1 C2 C3 C4 C5 C6 C7 C8 C9 CA CB CC CD CE CF CG CI CJ CK CL CM CN CO CP CQ CR CS CT CU CV CW CX CY CZ Ca Cb Cc Cd Ce Cf Cg Ci Cj Ck Cl Cm Cn Co Cp Cq Cr Cs Ct Cu Cv DN DO DP DQ DR DU DV DW DX DY DZ Da Db Dc Dd De Df Dg Di Dj Cw Cx Cy Cz D0 D1 D2 D3 D4 D5 D6 D7 D8 A0 A1 A2 A3 A4 A5 A6 A7 A8 A9 AA AB AC AD AE AF AG AI AJ AK AL AM AN AO AP AQ AR AS AT AU AV AW AX AY AZ Aa Ab Ac Ad Ae Af Ag Ai Aj Ak Al Am An Ao Ap Aq Ar As At Au Av Aw Ax Ay Az B0 B1 B2 B3 B4 B5 B6 B7 B8 B9 BA BB BC BD BE BF BG BI BJ BK BL BM BN BO BP BQ BR BS BT BU BV BW BX BY BZ Ba Bb Bc Bd Be Bf Bi Bj Bk Bl Bm Bn Bo:Value} {W0:World} (h0:Bg w s x r p t gt K0 [] W0)
  (hexit: ∀ (Dk Dl Dm Dn Do Dp Dq Dr Ds Dt Du Dv Dw Dx Dy Dz E0 E1 E2 E3 E4 D9 DA DB DC DD DE DF DG DI DJ DK DL DM: Value) (W: World) ,Bg w s x r p t gt K0 (setLs s.n xs) W→Q0 (.exit 0) ⟨List.toArray (c0::.slice pa m cap::c2::c3::c4::c5::c6::c7::c8::c9::Bp::.pointer (some ⟨t,0,none⟩)::Bq::Br::Bs::Bt::Bu::Bv::.pointer (some ⟨gt,0,none⟩)::Bw::Dk::Bx::By::Bz::C0::C1::C2::C3::C4::C5::C6::C7::C8::C9::CA::CB::CC::CD::CE::CF::CG::CI::CJ::CK::CL::CM::CN::CO::CP::CQ::CR::CS::CT::CU::CV::CW::CX::CY::CZ::Ca::Cb::Cc::Cd::Ce::Cf::Cg::Ci::Cj::Ck::Cl::Cm::Cn::Co::Cp::Cq::Cr::Cs::Ct::Cu::Cv::Dl::Dm::Dn::Do::Dp::Dq::Dr::Ds::Dt::Du::Dv::Dw::Dx::Dy::Dz::E0::E1::E2::E3::E4::D9::DA::DB::DC::DD::DE::DF::DG::DI::DJ::DK::DL::DM::A0::A1::A2::A3::A4::A5::A6::A7::A8::A9::AA::AB::AC::AD::AE::AF::AG::AI::AJ::AK::AL::AM::AN::AO::AP::AQ::AR::AS::AT::AU::AV::AW::AX::AY::AZ::Aa::Ab::Ac::Ad::Ae::Af::Ag::Ai::Aj::Ak::Al::Am::An::Ao::Ap::Aq::Ar::As::At::Au::Av::Aw::Ax::Ay::Az::B0::B1::B2::B3::B4::B5::B6::B7::B8::B9::BA::BB::BC::BD::BE::BF::BG::BI::BJ::BK::BL::BM::BN::BO::BP::BQ::BR::BS::BT::BU::BV::BW::BX::BY::BZ::Ba::Bb::Bc::Bd::Be::Bf::Bi::Bj::Bk::Bl::Bm::Bn::Bo::[]),[]⟩ W) :
  Code.wp Tryz.prog (.loop bodyV1) Q0 ⟨List.toArray (c0::.slice pa m cap::c2::c3::c4::c5::c6::c7::c8::c9::Bp::.pointer (some ⟨t,0,none⟩)::Bq::Br::Bs::Bt::Bu::Bv::.pointer (some ⟨gt,0,none⟩)::Bw::.int .i64 0::Bx::By::Bz::C0::C1::C2::C3::C4::C5::C6::C7::C8::C9::CA::CB::CC::CD::CE::CF::CG::CI::CJ::CK::CL::CM::CN::CO::CP::CQ::CR::CS::CT::CU::CV::CW::CX::CY::CZ::Ca::Cb::Cc::Cd::Ce::Cf::Cg::Ci::Cj::Ck::Cl::Cm::Cn::Co::Cp::Cq::Cr::Cs::Ct::Cu::Cv::DN::DO::DP::DQ::DR::DU::DV::DW::DX::DY::DZ::Da::Db::Dc::Dd::De::Df::Dg::Di::Dj::Cw::Cx::Cy::Cz::D0::D1::D2::D3::D4::D5::D6::D7::D8::A0::A1::A2::A3::A4::A5::A6::A7::A8::A9::AA::AB::AC::AD::AE::AF::AG::AI::AJ::AK::AL::AM::AN::AO::AP::AQ::AR::AS::AT::AU::AV::AW::AX::AY::AZ::Aa::Ab::Ac::Ad::Ae::Af::Ag::Ai::Aj::Ak::Al::Am::An::Ao::Ap::Aq::Ar::As::At::Au::Av::Aw::Ax::Ay::Az::B0::B1::B2::B3::B4::B5::B6::B7::B8::B9::BA::BB::BC::BD::BE::BF::BG::BI::BJ::BK::BL::BM::BN::BO::BP::BQ::BR::BS::BT::BU::BV::BW::BX::BY::BZ::Ba::Bb::Bc::Bd::Be::Bf::Bi::Bj::Bk::Bl::Bm::Bn::Bo::[]),[]⟩ W0:=by
 have HEX:=Lib.hid hexit; clear hexit
 have HM0:=Lib.hid h0; clear h0
 have HX:=Lib.hid hx; clear hx
 have HLEN:=Lib.hid hm; clear hm
 have HSS:=Lib.hid hS; clear hS
 conv=>arg 2; arg 1; whnf
 go_loopw [20] (fun v20 W=>∃ k:Nat,v20=.int .i64 (k:Int)∧k≤m∧Hid (Bg w s x r p t gt K0 (setLs s.n (xs.take k)) W)) (fun v20 _=>m - (intOf v20).toNat)
 case atStart=>exact ⟨0,rfl,by omega,HM0⟩
 case round=>
  clear HM0
  obtain ⟨k,rfl,hk,HM⟩:=hrel
  by_cases hlt:k < m
  ·have hkl:k < xs.length:=by have:=HLEN.out; omega
   obtain ⟨b,off,hpa,hat⟩:∃ b off,pa=some ⟨b,off,none⟩∧OldsAt w b off xs:=by
    rcases HX.out.2 with h | h
    ·rw [h] at hkl; exact absurd hkl (by simp)
    ·exact h
   subst hpa
   have hok:=HX.out.1 _ (List.getElem_mem hkl)
   obtain ⟨hc0,hc1⟩:=hat.at_ k hkl
   have hblt:=hat.old
   have htk:=setLs_take s.n xs k hkl
   generalize xs[k]=y at hok hc0 hc1 htk
   have HTK:=Lib.hid htk; clear htk hat
   have hlen:=setLs_len s.n xs k
   obtain ⟨L,hLe⟩:∃ L,L=setLs s.n (xs.take k):=⟨_,rfl⟩
   rw [←hLe] at HM HTK hlen
   clear hLe
   obtain ⟨T,KL,cs,hh,hK0,hKgt,hdt,hsame,htok,hrd,hTd⟩:=HM.out
   clear HM
   have HC0:=Lib.hid (fun (W:World) (hb:Below w.heap.size w W)=>(hb.cell (p:=⟨b,off+k * 2,none⟩) hblt).trans hc0)
   have HC1:=Lib.hid (fun (W:World) (hb:Below w.heap.size w W)=>(hb.cell (p:=⟨b,off+k * 2+1,none⟩) hblt).trans hc1)
   have i0:(0:Int)≤(k:Int):=by omega
   have i1:(k:Int) < (m:Int):=by omega
   have z1:IntKind.i64.wrap ((k:Int)+1)=(k:Int)+1:=IntWalk.i64_in _ (by omega)
   have HH:=Lib.hid (And.intro hK0 (And.intro hKgt (And.intro hsame (And.intro htok (And.intro hrd hTd)))))
   have HDT:=Lib.hid hdt
   have HHA:=Lib.hid hh
   clear hc0 hc1 hblt hh hK0 hKgt hdt hsame htok hrd hTd
   go_wp2_with fail
   refine wp_region_noPanic ?_
   refine wp_region_held_drew (S:=fun W=>Below w.heap.size w W) (by kernel_rfl) HHA.out.drew.bel ?_
   intro hS
   have hh0: Hall w [.dev p s,.tab t T] ((gt,.cells cs 65 (0,0))::KL) wr.drew:=HHA.out.drew
   have hd0:DT (inK KL) wr.drew (.agg cs) x r L:=HDT.out.over (fun b _=>rfl)
   clear HHA HDT
   generalize wr.drew=V0 at hS hh0 hd0 ⊢
   refine RowLaw.tkV 0 86 (.pointer (some ⟨t,0,none⟩)) hS ?_
   simp only [RowLaw.lset]
   refine RowLaw.tkV 1 87 (.slice (some ⟨b,off,none⟩) m cap) hS ?_
   simp only [RowLaw.lset]
   refine RowLaw.tkV 2 88 (.int .i64 (k:Int)) hS ?_
   simp only [RowLaw.lset]
   refine RowLaw.tkV 3 89 (.pointer (some ⟨b,off+k * 2,none⟩)) hS ?_
   simp only [RowLaw.lset]
   refine RowLaw.tkV 4 90 (.pointer (some ⟨b,off+k * 2,none⟩)) hS ?_
   simp only [RowLaw.lset]
   refine RowLaw.tkV 5 91 (.int .u32 (y.1:Int)) hS ?_ (hy:=(Or.inl ⟨by rfl,fun W hW=>by have c:=HC0.out W hW; go_simp⟩))
   simp only [RowLaw.lset]
   refine RowLaw.tkV 6 92 (.slice (some ⟨b,off,none⟩) m cap) hS ?_
   simp only [RowLaw.lset]
   refine RowLaw.tkV 7 93 (.int .i64 (k:Int)) hS ?_
   simp only [RowLaw.lset]
   refine RowLaw.tkV 8 94 (.pointer (some ⟨b,off+k * 2,none⟩)) hS ?_
   simp only [RowLaw.lset]
   refine RowLaw.tkV 9 95 (.pointer (some ⟨b,off+k * 2+1,none⟩)) hS ?_
   simp only [RowLaw.lset]
   refine RowLaw.tkV 10 96 (.int .u16 (y.2:Int)) hS ?_ (hy:=(Or.inl ⟨by rfl,fun W hW=>by have c:=HC1.out W hW; go_simp⟩))
   simp only [RowLaw.lset]
   refine wpAnyH_ready (rs:=[11]) (by kernel_rfl) (by simp) ?_
   refine AllReadyH.cons rfl (fun K hK=>?_) AllReadyH.nil
   rw [if_pos (by rfl)]
   go_simp
   have hcs:=Cnt.Hall.set_ hh0 (i:=1) (j:=0) (t:=t) (T:=T) (s:=s) rfl (by rw [HH.out.2.2.2.2.2]; rfl) (by decide) HH.out.2.2.2.2.1 (a:=y.1) (v:=y.2) hok.1 hok.2
   unfold ptr at hcs
   refine hcs.mono ?_
   clear hcs
   rintro e V1 ⟨rfl,hh1⟩
   replace hh1: Hall w [.dev p s,.tab t (setS T y.1 y.2)] ((gt,.cells cs 65 (0,0))::KL) V1:=hh1
   dsimp only
   have hd1:DT (inK KL) V1 (.agg cs) x r L:=hd0.over (fun b hb=>Hall.same (hh0.less (fun y hy=>List.mem_cons_of_mem _ hy)) (hh1.less (fun y hy=>List.mem_cons_of_mem _ hy)) b hb)
   have hS1:=hh1.bel
   refine hK _ _ hS1 (fun _=>?_)
   clear hK K hS hh0 hd0
   try simp only [Act.put,List.setIfInBounds_toArray,RowLaw.lset]
   refine wpAnyH_done (by kernel_rfl) ?_ _
   refine NoPanic.normal ?_
   have HHB:=Lib.hid hh1
   have HDB:=Lib.hid hd1
   clear hh1 hd1 hS1
   go_wp2_with fail
   refine wp_region_noPanic ?_
   refine wp_region_held_drew (S:=fun W=>Below w.heap.size w W) (by kernel_rfl) HHB.out.drew.bel ?_
   intro hS
   have hh0: Hall w [.dev p s,.tab t (setS T y.1 y.2)] ((gt,.cells cs 65 (0,0))::KL) V1.drew:=HHB.out.drew
   have hd0:DT (inK KL) V1.drew (.agg cs) x r L:=HDB.out.over (fun b _=>rfl)
   clear HHB HDB
   generalize V1.drew=V2 at hS hh0 hd0 ⊢
   refine RowLaw.tkV 1 100 (.slice (some ⟨b,off,none⟩) m cap) hS ?_
   simp only [RowLaw.lset]
   refine RowLaw.tkV 2 101 (.int .i64 (k:Int)) hS ?_
   simp only [RowLaw.lset]
   refine RowLaw.tkV 3 102 (.pointer (some ⟨b,off+k * 2,none⟩)) hS ?_
   simp only [RowLaw.lset]
   refine RowLaw.tkV 4 103 (.pointer (some ⟨b,off+k * 2,none⟩)) hS ?_
   simp only [RowLaw.lset]
   refine RowLaw.tkV 5 104 (.int .u32 (y.1:Int)) hS ?_ (hy:=(Or.inl ⟨by rfl,fun W hW=>by have c:=HC0.out W hW; go_simp⟩))
   simp only [RowLaw.lset]
   refine RowLaw.tkV 6 105 (.slice (some ⟨b,off,none⟩) m cap) hS ?_
   simp only [RowLaw.lset]
   refine RowLaw.tkV 7 106 (.int .i64 (k:Int)) hS ?_
   simp only [RowLaw.lset]
   refine RowLaw.tkV 8 107 (.pointer (some ⟨b,off+k * 2,none⟩)) hS ?_
   simp only [RowLaw.lset]
   refine RowLaw.tkV 9 108 (.pointer (some ⟨b,off+k * 2+1,none⟩)) hS ?_
   simp only [RowLaw.lset]
   refine RowLaw.tkV 10 109 (.int .u16 (y.2:Int)) hS ?_ (hy:=(Or.inl ⟨by rfl,fun W hW=>by have c:=HC1.out W hW; go_simp⟩))
   simp only [RowLaw.lset]
   have hg0:=hh0.at_ (q:=gt) (o:=.cells cs 65 (0,0)) List.mem_cons_self
   have hsz:=dt_size hd0
   refine wpAnyH_ready (rs:=[0]) (by kernel_rfl) (by simp) ?_
   refine AllReadyH.cons rfl (fun K hK=>?_) AllReadyH.nil
   rw [if_pos (by rfl)]
   refine wp_load_row 65 _ rfl gt rfl _ _ _ _ hg0 Tryz.underlying65 rfl hsz.1 ?_
   refine hK _ _ hS (fun _=>?_)
   clear hK K
   try simp only [Act.put,List.setIfInBounds_toArray,RowLaw.lset]
   refine wpAnyH_ready (rs:=[11]) (by kernel_rfl) (by simp) ?_
   refine AllReadyH.cons rfl (fun K hK=>?_) AllReadyH.nil
   rw [if_pos (by rfl)]
   go_simp
   refine (SetTo9_any (A:=inN KL V2.heap.size) (hd0.mono (fun _ hb=>.inl hb)) HSS.out (by omega) hok.1 hok.2 (inN_new _ _)).mono ?_
   rintro e V3 ⟨v',rfl,hd3,hb3⟩
   dsimp only
   obtain ⟨Ks,hk3,hd4⟩:=DT.told hd3
   have hh3:=Hall.mores hh0 hb3 hk3
   have hS3:=hh3.bel
   have hg3:=hh3.at_ (q:=gt) (o:=.cells cs 65 (0,0)) (List.mem_append_right _ List.mem_cons_self)
   have hgl:=hh0.lt_ (q:=gt) (o:=.cells cs 65 (0,0)) List.mem_cons_self
   have hKs:∀ z∈Ks ++ KL,z.1≠gt:=fun z hz=>by
    rcases List.mem_append.1 hz with hz | hz
    ·have:=(hk3 z hz).2; omega
    ·exact HH.out.2.1 z hz
   obtain ⟨cs',hv'⟩:∃ cs',v'=.agg cs':=by
    obtain ⟨vg,vw,vl,e,_⟩:=hd4
    exact ⟨_,e⟩
   subst hv'
   refine hK _ _ hS3 (fun _=>?_)
   clear hK K hS hd3
   try simp only [Act.put,List.setIfInBounds_toArray,RowLaw.lset]
   refine RowLaw.tkV 12 98 (.tuple #[.agg cs',.int .i64 (setE s.n y.1)]) hS3 ?_
   simp only [RowLaw.lset]
   refine RowLaw.tkV 13 111 (.agg cs') hS3 ?_
   simp only [RowLaw.lset]
   refine RowLaw.tkV 14 112 (.int .i64 (setE s.n y.1)) hS3 ?_
   simp only [RowLaw.lset]
   refine wpAnyH_ready (rs:=[15]) (by kernel_rfl) (by simp) ?_
   refine AllReadyH.cons rfl (fun K hK=>?_) AllReadyH.nil
   rw [if_pos (by rfl)]
   have hsz':=dt_size hd4
   refine wp_store_row 65 _ _ rfl gt cs' rfl rfl _ _ hg3 hsz'.1 (by rw [hsz.2.2,hsz'.2.2]) hsz'.2.1 ?_
   have hh4: Hall w [.dev p s,.tab t (setS T y.1 y.2)] ((gt,.cells cs 65 (0,0))::(Ks ++ KL)) V3:=hh3.less (fun z hz=>by
    rcases List.mem_cons.1 hz with rfl | hz
    ·exact List.mem_append_right _ List.mem_cons_self
    ·rcases List.mem_append.1 hz with hz | hz
     ·exact List.mem_append_left _ hz
     ·exact List.mem_append_right _ (List.mem_cons_of_mem _ hz))
   have hh5:=Hall.setRow (cs2:=cs') hh4 hgt hKs
   have hd5:DT (inK (Ks ++ KL)) (V3.setRow gt cs') (.agg cs') x r (setL s.n L y.1 y.2):=hd4.other hg3 (by decide) (by decide) (fun j hj=>setRow_other _ _ _ _ hj)
   have HFIN:Hid (Bg w s x r p t gt K0 (setLs s.n (xs.take (k+1))) (V3.setRow gt cs')):=Lib.hid (by
    rw [HTK.out]
    exact ⟨setS T y.1 y.2,Ks ++ KL,cs',hh5,fun z hz=>List.mem_append_right _ (HH.out.1 z hz),hKs,hd5,HH.out.2.2.1.set_ y.1 y.2,setS_ok HH.out.2.2.2.1 hok.2,HH.out.2.2.2.2.1.setS y.1 y.2,(setS_same T y.1 y.2).2.1.trans HH.out.2.2.2.2.2⟩)
   refine hK _ _ hh5.bel (fun _=>?_)
   clear hK K hS3 hh3 hh4 hh5 hd4 hd5 hg3
   try simp only [Act.put,List.setIfInBounds_toArray,RowLaw.lset]
   refine wpAnyH_done (by kernel_rfl) ?_ _
   refine NoPanic.normal ?_
   generalize V3.setRow gt cs'=V4 at HFIN ⊢
   go_wp2_with fail
   go_roundw
   case rel=>exact ⟨k+1,by go_num,by omega,HFIN⟩
   case measure=>simp [intOf]; omega
  ·have hkn:k=xs.length:=by have:=HLEN.out; omega
   have i1:¬ (k:Int) < (m:Int):=by omega
   have HE:=Lib.hid (show Bg w s x r p t gt K0 (setLs s.n xs) wr from by have:=HM.out; rwa [hkn,List.take_length] at this)
   clear hkn
   go_wp2_with fail
   exact HEX.out _ _ _ _ _ _ _ _ _ _ _ _ _ _ _ _ _ _ _ _ _ _ _ _ _ _ _ _ _ _ _ _ _ _ _ HE.out
end Spc

end Go.Proofs.YtgkbfahflngklaaGreat
