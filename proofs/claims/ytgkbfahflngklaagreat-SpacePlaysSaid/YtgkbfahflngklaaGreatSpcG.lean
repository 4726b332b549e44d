import Derived.Test.YtgkbfahflngklaaGreatSpcF
import Derived.Test.YtgkbfahflngklaaGreatTal3
set_option maxRecDepth 100000
set_option maxHeartbeats 12800000
set_option linter.unusedSimpArgs false
namespace Go.Proofs.YtgkbfahflngklaaGreat
namespace Spc
open Go.RowKit RowLaw
open Dev (ptr DS pendCells)
open Cnt (own_slice own_kept own_base own_ne TD tdOf tdOf_ok Sound cntV cntE loopsOf)
open Slt (Rt cells cells_one infoR sizeR)
open Tal (pgCells pgCells_size pgCells_one IsPg kT kP infoP infoT zs zs_length sizeP sizeT)
open Rot (planOk tlN pkN fsN)
variable {A:Nat→Prop}
noncomputable def bodyS1:Code:=((Tryz.f97.body.bind fun c=>(loopsOf c)[0]?).getD .skip)
noncomputable def bodyS2:Code:=((loopsOf bodyS1)[0]?).getD .skip
noncomputable def bodyS3:Code:=((Tryz.f97.body.bind fun c=>(loopsOf c)[1]?).getD .skip)
noncomputable def bodyS4:Code:=((loopsOf bodyS3)[0]?).getD .skip
def nowTo (s:DS) (r:Rt) (L:List (Nat×Nat)) (p k:Nat):List Nat:=(List.range 64).map fun j=>if j < k∧fsN s.n≤64 * p+j∧64 * p+j < s.n then getS s r L (64 * p+j) else ((tdOf 0 s r.picks).TV p).getD j 0
theorem nowTo_len (s:DS) (r:Rt) (L:List (Nat×Nat)) (p k:Nat):(nowTo s r L p k).length=64:=by simp [nowTo]
theorem nowTo_get (s:DS) (r:Rt) (L:List (Nat×Nat)) (p k j:Nat) (h:j < (nowTo s r L p k).length):(nowTo s r L p k)[j]=if j < k∧fsN s.n≤64 * p+j∧64 * p+j < s.n then getS s r L (64 * p+j) else ((tdOf 0 s r.picks).TV p).getD j 0:=by
 simp only [nowTo,List.getElem_map,List.getElem_range]
theorem nowTo_zero (s:DS) (r:Rt) (L:List (Nat×Nat)) (p:Nat) (h:((tdOf 0 s r.picks).TV p).length=64):nowTo s r L p 0=(tdOf 0 s r.picks).TV p:=by
 refine List.ext_getElem (by rw [nowTo_len,h]) fun j h1 h2=>?_
 rw [nowTo_get,if_neg (by omega),List.getD_eq_getElem?_getD,List.getElem?_eq_getElem h2]
 rfl
theorem nowTo_in {s:DS} {r:Rt} {L:List (Nat×Nat)} {p k:Nat} (h:fsN s.n≤64 * p+k∧64 * p+k < s.n):nowTo s r L p (k+1)=(nowTo s r L p k).set k (getS s r L (64 * p+k)):=by
 refine List.ext_getElem (by rw [List.length_set,nowTo_len,nowTo_len]) fun j h1 h2=>?_
 rw [List.getElem_set,nowTo_get,nowTo_get]
 by_cases hj:k=j
 ·subst hj
  rw [if_pos rfl,if_pos ⟨by omega,h.1,h.2⟩]
 ·rw [if_neg hj]
  by_cases hjk:j < k
  ·by_cases hin:fsN s.n≤64 * p+j∧64 * p+j < s.n
   ·rw [if_pos ⟨by omega,hin.1,hin.2⟩,if_pos ⟨hjk,hin.1,hin.2⟩]
   ·rw [if_neg (fun h=>hin h.2),if_neg (fun h=>hin h.2)]
  ·rw [if_neg (by omega),if_neg (by omega)]
theorem nowTo_out {s:DS} {r:Rt} {L:List (Nat×Nat)} {p k:Nat} (h:¬ (fsN s.n≤64 * p+k∧64 * p+k < s.n)):nowTo s r L p (k+1)=nowTo s r L p k:=by
 refine List.ext_getElem (by rw [nowTo_len,nowTo_len]) fun j h1 h2=>?_
 rw [nowTo_get,nowTo_get]
 by_cases hj:j=k
 ·subst hj
  rw [if_neg (fun h2=>h h2.2),if_neg (by omega)]
 ·by_cases hin:fsN s.n≤64 * p+j∧64 * p+j < s.n
  ·by_cases hjk:j < k
   ·rw [if_pos ⟨by omega,hin.1,hin.2⟩,if_pos ⟨hjk,hin.1,hin.2⟩]
   ·rw [if_neg (by omega),if_neg (by omega)]
  ·rw [if_neg (fun h=>hin h.2),if_neg (fun h=>hin h.2)]
structure SlB (A:Nat→Prop) (w:World) (x:RS) (r:Rt) (L:List (Nat×Nat)) (cs:Array Value) (q:Nat) (v6:Value) (ch:List Nat) (v5:Value) (out:List (Nat×List UInt8)) (W:World):Prop where
 dt:DT A W (.agg cs) x r L
 r0:W.heap[q]? = some (.cells cs 65 (0,0))
 c6:U32V W (q+1) v6 ch.length ch
 c5:W.ownsRow (q+1) 55 257 v5 out.length (pendCells out)
 bel:Below w.heap.size w W
 ge:w.heap.size≤q
 dw:DT A w (.agg cs) x r L
section
variable {w W W':World} {x:RS} {r:Rt} {L:List (Nat×Nat)} {cs:Array Value} {q:Nat} {v6 v5:Value} {ch:List Nat} {out:List (Nat×List UInt8)}
theorem SlB.below (h:SlB A w x r L cs q v6 ch v5 out W) (hb:Below W.heap.size W W'):SlB A w x r L cs q v6 ch v5 out W':=
 ⟨h.dt.kept hb,(hb.block _ (Array.getElem?_eq_some_iff.1 h.r0).1).trans h.r0,h.c6.kept hb,own_kept h.c5 hb,h.bel.trans (hb.mono h.bel.size),h.ge,h.dw⟩
theorem SlB.other (h:SlB A w x r L cs q v6 ch v5 out W) {g:Nat} {cs':Array Value} {t:TypeId} (hg:W.heap[g]? = some (.cells cs' t (0,0))) (hqg:q < g) (h1:t≠55) (h2:t≠277) (h3:t≠22) (hh:∀ k,k≠g→W'.heap[k]? = W.heap[k]?)
  (ho:W'.os=W.os) (ht:W'.tape=W.tape) (hu:W'.output=W.output) (hs:W'.heap.size=W.heap.size):SlB A w x r L cs q v6 ch v5 out W':=by
 have hbel:Below w.heap.size w W':=h.bel.trans ⟨ho,ht,hu,by omega,fun k hk=>hh k (by have:=h.ge; omega)⟩
 refine ⟨h.dt.other hg h1 h2 hh,(hh q (by omega)).trans h.r0,⟨h.c6.len,?_⟩,?_,hbel,h.ge,h.dw⟩
 ·exact Dev.ownsRow_block h.c6.row (fun b hb=>hh b (fun e=>own_ne h.c6.row hg h3 (by rw [hb,e])))
 ·exact Dev.ownsRow_block h.c5 (fun b hb=>hh b (fun e=>own_ne h.c5 hg h1 (by rw [hb,e])))
theorem SlB.cell (h:SlB A w x r L cs q v6 ch v5 out W) {g:Nat} {cs':Array Value} {t:TypeId} (hg:W.heap[g]? = some (.cells cs' t (0,0))) (hqg:q < g) (h1:t≠55) (h2:t≠277) (h3:t≠22) (j:Nat) (v:Value):SlB A w x r L cs q v6 ch v5 out (W.setCell ⟨g,j,none⟩ v):=
 h.other hg hqg h1 h2 h3 (fun k hk=>heap_setCell_other W ⟨g,j,none⟩ k _ hk) rfl rfl rfl (by simp)
theorem SlB.row (h:SlB A w x r L cs q v6 ch v5 out W) {g:Nat} {cs' cs2:Array Value} {t:TypeId} (hg:W.heap[g]? = some (.cells cs' t (0,0))) (hqg:q < g) (h1:t≠55) (h2:t≠277) (h3:t≠22):SlB A w x r L cs q v6 ch v5 out (W.setRow g cs2):=
 h.other hg hqg h1 h2 h3 (fun k hk=>setRow_other _ _ _ _ hk) rfl rfl rfl (by simp [World.setRow])
theorem SlB.push (h:SlB A w x r L cs q v6 ch v5 out W) {v8:Value} {y:Nat×List UInt8} (hown:W'.ownsRow (q+1) 55 257 v8 (out.length+1) (pendCells out ++ Dev.putCells y)) (hg:W.grownBy W' v5.ownBlock):SlB A w x r L cs q v6 ch v8 (out ++ [y]) W':=by
 have hbel:Below w.heap.size w W':=h.bel.grown hg h.bel.size (fun b e=>by have:=(h.c5.lt b e).1; have:=h.ge; omega)
 refine ⟨h.dw.kept hbel,(hg.block q (Array.getElem?_eq_some_iff.1 h.r0).1 (fun e=>by have:=(h.c5.lt q e.symm).1; omega)).trans h.r0,⟨h.c6.len,Cnt.own_grown h.c6.row h.c5 (by decide) hg⟩,?_,hbel,h.ge,h.dw⟩
 rw [List.length_append,Dev.pendCells_append,show pendCells [y]=Dev.putCells y from by simp [pendCells]]
 exact hown
theorem lastS_lt:∀ (L:List (Nat×Nat)) (a d:Nat),(∀ y∈L,y.2 < 65536)→d < 65536→lastS L a d < 65536
 | [],_,_,_,h=>h
 | y::L,a,d,hL,h=>by
  show lastS L a (if y.1=a then y.2 else d) < 65536
  refine lastS_lt L a _ (fun z hz=>hL z (List.mem_cons_of_mem _ hz)) ?_
  split
  ·exact hL y List.mem_cons_self
  ·exact h
theorem getD_ltB {l:List Nat} {B:Nat} (h:∀ y∈l,y < B) (hB:0 < B) (j:Nat):l.getD j 0 < B:=by
 rw [List.getD_eq_getElem?_getD]
 cases hj:l[j]? with
 | none=>exact hB
 | some y=>exact h y (List.mem_of_getElem? hj)
theorem oldS_lt {x:RS} {r:Rt} {s:DS} (hS:Sees x r s) (a:Nat):oldS s r a < 65536:=by
 unfold oldS Cnt.TD.oldC Cnt.cntV
 split
 ·exact getD_ltB ((tdOf_ok (d:=0) hS.sound.plan hS.sound.chl).tn _) (by omega) _
 ·omega
theorem getS_lt {x:RS} {r:Rt} {s:DS} (hS:Sees x r s) {L:List (Nat×Nat)} (hL:∀ y∈L,y.2 < 65536) (a:Nat):getS s r L a < 65536:=by
 unfold getS
 split
 ·omega
 ·exact lastS_lt L a _ hL (oldS_lt hS a)
theorem nowTo_lt {x:RS} {r:Rt} {s:DS} (hS:Sees x r s) {L:List (Nat×Nat)} (hL:∀ y∈L,y.2 < 65536) (p k j:Nat) (h:j < (nowTo s r L p k).length):(nowTo s r L p k)[j] < 65536:=by
 rw [nowTo_get]
 split
 ·exact getS_lt hS hL _
 ·exact getD_ltB ((tdOf_ok (d:=0) hS.sound.plan hS.sound.chl).tn _) (by omega) _
end
theorem seal_counts {w:World} {x:RS} {r:Rt} {L:List (Nat×Nat)} {s:DS} {cs:Array Value} {q p gx:Nat} {v5 v6:Value} {ch:List Nat} {out:List (Nat×List UInt8)} (hS:Sees x r s) (hL:L.length < 1000000) (hidt:(Tryz.prog.info? 65).map (·.size)=some cs.size) (hsz:cs[8]? = some (.int .u32 (s.n:Int))) (hp:p < tlN s.n) (hqg:q < gx)
  {Q0:Exit→Act→World→Prop} {c0 c2 c3 c4 c5 c6 c7 B2 B3 B4 B5 B6 B7 B8 B9 BA BB BC BD BE BF BG BI BJ BK BL BM BN BO BP BQ BR BS BT BU BV BW BX BY BZ By Bz C0 C1 C2 C3 C4 C5 C6 C7 C8 C9 CA CB CC CD CE CF CG CI CJ CK CL CM CN CO CP CQ CR CS CT CU CV Ba Bb Bc Bd Be Bf Bg Bi Bj Bk Bl Bm Bn Bo Bp Bq Br Bs Bt Bu Bv Bw Bx A2 A3 A4 A5 A6 A7 A8 A9 AA AB AC AD AE AF AG AI AJ AK AL AM AN AO AP AQ AR AS AT AU AV AW AX AY AZ Aa Ab Ac Ad Ae Af Ag Ai Aj Ak Al Am An Ao Ap Aq Ar As At Au Av Aw Ax Ay Az B0 B1:Value} {W0:World} (h0:SlB A w x r L cs q v6 ch v5 out W0) (hx0:IsPg .u16 137 W0 gx p (nowTo s r L p 0))
  (hexit: ∀ (CW CX CY CZ Ca Cb Cc Cd Ce Cf Cg Ci Cj Ck Cl Cm Cn Co Cp Cq Cr Cs Ct Cu Cv Cw Cx Cy Cz D0 D1 D2 D3 D4: Value) (W: World) ,SlB A w x r L cs q v6 ch v5 out W→IsPg .u16 137 W gx p (nowTo s r L p 64)→Q0 (.exit 2) ⟨List.toArray (c0::.pointer (some ⟨q,0,none⟩)::c2::c3::c4::c5::c6::c7::.int .u32 (p: Int)::.pointer (some ⟨gx,0,none⟩)::B2::CW::B3::B4::B5::B6::B7::B8::B9::BA::BB::BC::BD::BE::BF::BG::BI::BJ::BK::BL::BM::BN::BO::BP::BQ::BR::BS::BT::BU::BV::BW::BX::BY::BZ::CX::CY::CZ::Ca::Cb::Cc::Cd::Ce::Cf::Cg::Ci::Cj::Ck::Cl::Cm::Cn::Co::Cp::Cq::Cr::Cs::Ct::Cu::Cv::Cw::Cx::Cy::Cz::D0::D1::D2::D3::D4::Ba::Bb::Bc::Bd::Be::Bf::Bg::Bi::Bj::Bk::Bl::Bm::Bn::Bo::Bp::Bq::Br::Bs::Bt::Bu::Bv::Bw::Bx::A2::A3::A4::A5::A6::A7::A8::A9::AA::AB::AC::AD::AE::AF::AG::AI::AJ::AK::AL::AM::AN::AO::AP::AQ::AR::AS::AT::AU::AV::AW::AX::AY::AZ::Aa::Ab::Ac::Ad::Ae::Af::Ag::Ai::Aj::Ak::Al::Am::An::Ao::Ap::Aq::Ar::As::At::Au::Av::Aw::Ax::Ay::Az::B0::B1::[]),[]⟩ W) :
  Code.wp Tryz.prog (.loop bodyS2) Q0 ⟨List.toArray (c0::.pointer (some ⟨q,0,none⟩)::c2::c3::c4::c5::c6::c7::.int .u32 (p: Int)::.pointer (some ⟨gx,0,none⟩)::B2::.int .u32 0::B3::B4::B5::B6::B7::B8::B9::BA::BB::BC::BD::BE::BF::BG::BI::BJ::BK::BL::BM::BN::BO::BP::BQ::BR::BS::BT::BU::BV::BW::BX::BY::BZ::By::Bz::C0::C1::C2::C3::C4::C5::C6::C7::C8::C9::CA::CB::CC::CD::CE::CF::CG::CI::CJ::CK::CL::CM::CN::CO::CP::CQ::CR::CS::CT::CU::CV::Ba::Bb::Bc::Bd::Be::Bf::Bg::Bi::Bj::Bk::Bl::Bm::Bn::Bo::Bp::Bq::Br::Bs::Bt::Bu::Bv::Bw::Bx::A2::A3::A4::A5::A6::A7::A8::A9::AA::AB::AC::AD::AE::AF::AG::AI::AJ::AK::AL::AM::AN::AO::AP::AQ::AR::AS::AT::AU::AV::AW::AX::AY::AZ::Aa::Ab::Ac::Ad::Ae::Af::Ag::Ai::Aj::Ak::Al::Am::An::Ao::Ap::Aq::Ar::As::At::Au::Av::Aw::Ax::Ay::Az::B0::B1::[]),[]⟩ W0:=by
 have HEX:=Lib.hid hexit; clear hexit
 have HM0:=Lib.hid (And.intro h0 hx0); clear h0 hx0
 have HSS:=Lib.hid hS
 have hsm:=hS.small
 obtain ⟨fs,hfs⟩:∃ fs,fs=fsN s.n:=⟨_,rfl⟩
 have HFS:=Lib.hid hfs
 have hlen:=nowTo_len s r L p
 clear hS hfs
 conv=>arg 2; arg 1; whnf
 go_loopw [11] (fun v11 W=>∃ k:Nat,k≤64∧v11=.int .u32 (k:Int)∧Hid (SlB A w x r L cs q v6 ch v5 out W∧IsPg .u16 137 W gx p (nowTo s r L p k))) (fun v11 _=>64 - (intOf v11).toNat)
 case atStart=>exact ⟨0,by omega,rfl,HM0⟩
 case round=>
  clear HM0
  obtain ⟨k,hk,rfl,HM⟩:=hrel
  by_cases hlt:k < 64
  ·have i1:(k:Int) < 64:=by omega
   have r0:=HM.out.1.r0
   have hp1024:p < 1024:=by omega
   have z0:IntKind.u32.wrap (64 * (p:Int))=64 * (p:Int):=IntWalk.u32_in _ (by omega)
   have z1:IntKind.u32.wrap (64 * (p:Int)+(k:Int))=64 * (p:Int)+(k:Int):=IntWalk.u32_in _ (by omega)
   have z2:IntKind.u32.wrap ((k:Int)+1)=(k:Int)+1:=IntWalk.u32_in _ (by omega)
   have c8:∀ W:World,W.heap[q]? = some (.cells cs 65 (0,0))→W.cell? ⟨q,8,none⟩=some (.int .u32 (s.n:Int)):=fun W hq=>(cell_of_row _ q 8 _ _ _ hq).trans hsz
   have HF:=Lib.hid (first9_any HM.out.1.dt HSS.out)
   rw [←HFS.out] at HF
   go_wp2_with (refine wpList_load_row rfl 65 _ rfl q rfl _ _ _ _ r0 Tryz.underlying65 rfl hidt ?_)
   refine HF.out.mono ?_
   clear HF
   rintro e W2 ⟨rfl,hx⟩
   have HM2:=Lib.hid (And.intro (HM.out.1.below hx) (HM.out.2.below hx HM.out.2.lt))
   clear hx HM r0
   have r2:=HM2.out.1.r0
   have cc:=c8 W2 r2
   by_cases hin:fs≤64 * p+k∧64 * p+k < s.n
   ·have j1:(fs:Int)≤64 * (p:Int)+(k:Int):=by omega
    have j2:64 * (p:Int)+(k:Int) < (s.n:Int):=by omega
    have HG:=Lib.hid (Get9_any (a:=64 * p+k) HM2.out.1.dt HSS.out hL)
    have ec:cntE s.n (64 * p+k)=0:=if_neg (by omega)
    rw [ec,show ((64 * p+k:Nat):Int)=64 * (p:Int)+(k:Int) from by push_cast; rfl] at HG
    have HNX:=Lib.hid (nowTo_in (s:=s) (r:=r) (L:=L) (by rw [←HFS.out]; exact hin))
    generalize getS s r L (64 * p+k)=y at HG HNX
    have k0:(0:Int)≤(k:Int):=by omega
    clear ec hin
    go_wp2_with (refine wpList_load_row rfl 65 _ rfl q rfl _ _ _ _ r2 Tryz.underlying65 rfl hidt ?_)
    refine HG.out.mono ?_
    clear HG cc r2
    rintro e W3 ⟨rfl,hx⟩
    have HM3:=Lib.hid (And.intro (HM2.out.1.below hx) (HM2.out.2.below hx HM2.out.2.lt))
    clear hx HM2
    have c3:=HM3.out.2.num k (by rw [hlen]; exact hlt)
    have f3:=HM3.out.2.frozen (1+k)
    generalize (nowTo s r L p k)[k]'(by rw [hlen]; exact hlt)=y0 at c3
    have HFIN:=Lib.hid (show SlB A w x r L cs q v6 ch v5 out (W3.setCell ⟨gx,1+k,none⟩ (.int .u16 (y:Int)))∧IsPg .u16 137 (W3.setCell ⟨gx,1+k,none⟩ (.int .u16 (y:Int))) gx p (nowTo s r L p (k+1)) from ⟨HM3.out.1.cell HM3.out.2 hqg (by decide) (by decide) (by decide) _ _,by rw [HNX.out]; exact HM3.out.2.setNum k y⟩)
    clear HM3
    go_wp2_with fail
    go_roundw
    case rel=>exact ⟨k+1,by omega,by go_num,HFIN⟩
    case measure=>simp [intOf]; omega
   ·have HFIN:=Lib.hid (show SlB A w x r L cs q v6 ch v5 out W2∧IsPg .u16 137 W2 gx p (nowTo s r L p (k+1)) from ⟨HM2.out.1,by rw [nowTo_out (by rw [←HFS.out]; exact hin)]; exact HM2.out.2⟩)
    clear HM2
    by_cases hge:fs≤64 * p+k
    ·have j1:(fs:Int)≤64 * (p:Int)+(k:Int):=by omega
     have j2:¬ 64 * (p:Int)+(k:Int) < (s.n:Int):=by omega
     clear hin
     go_wp2_with fail
     go_roundw
     case rel=>exact ⟨k+1,by omega,by go_num,HFIN⟩
     case measure=>simp [intOf]; omega
    ·have j1:¬ (fs:Int)≤64 * (p:Int)+(k:Int):=by omega
     clear hin
     go_wp2_with fail
     go_roundw
     case rel=>exact ⟨k+1,by omega,by go_num,HFIN⟩
     case measure=>simp [intOf]; omega
  ·obtain rfl:k=64:=by omega
   go_wp2_with fail
   exact HEX.out _ _ _ _ _ _ _ _ _ _ _ _ _ _ _ _ _ _ _ _ _ _ _ _ _ _ _ _ _ _ _ _ _ _ _ HM.out.1 HM.out.2
end Spc
namespace Spc
open Go.RowKit RowLaw
open Dev (ptr DS pendCells yieldsIf_load_row)
open Cnt (own_slice own_kept own_base own_ne TD tdOf tdOf_ok Sound turnBit turnAll turnAll_length turnAll_lt turnBit_length)
open Slt (Rt cells cells_one infoR sizeR)
open Tal (pgCells pgCells_size pgCells_one IsPg kT kP infoP infoT zs zs_length sizeP sizeT)
open Rot (planOk tlN pkN fsN)
variable {A:Nat→Prop}
theorem turnAll_take (ns:List Nat) (ps:List Nat) (k:Nat) (hk:k < ps.length):turnAll ns (ps.take (k+1))=turnBit (turnAll ns (ps.take k)) ps[k]:=by
 unfold turnAll
 rw [List.take_add_one,List.getElem?_eq_getElem hk,List.foldl_append]
 rfl
theorem seal_turns {w:World} {x:RS} {r:Rt} {L:List (Nat×Nat)} {cs:Array Value} {q gk c6:Nat} {p6:Option Addr} {v5:Value} {ch ns:List Nat} {out:List (Nat×List UInt8)} (hl:ch.length < 1000000) (hch:∀ y∈ch,y < 1024) (hnl:ns.length=16) (hnn:∀ y∈ns,y < 18446744073709551616) (hqg:q < gk)
  {Q0:Exit→Act→World→Prop} {c0 c2 c3 c4 c5 c7 c8 c9 Ad Ae Af Ag Ai Aj Ak Al Am An Ao Ap Aq Ar As At Au Av Aw Ax Ay Az B0 B1 B2 B3 B4 B5 B6 B7 B8 B9 BA BB BC BD BE BF BG BI BJ BK BL BM BN BO BP BQ BR BS BT BU BV BW BX BY BZ Ba Bb Bc Bd Be Bf Bg Bi Bj Bk Bl Bm Bn Bo Bp Bq Br Bs Bt Bu Bv Bw Bx By Bz C0 C1 C2 C3 C4 A2 A3 A4 A5 A6 A7 A8 A9 AA AB AC AD AE AF AG AI C5 C6 C7 C8 C9 CA CB CC CD CE CF CG CI CJ CK CL CM CN CO CP CQ CR CS CT AJ AK AL AM AN AO AP AQ AR AS AT AU AV AW AX AY AZ Aa Ab Ac:Value} {W0:World} (h0:SlB A w x r L cs q (.slice p6 ch.length c6) ch v5 out W0) (hx0:IsPg .u64 142 W0 gk 0 ns)
  (hexit: ∀ (Ct CU CV CW CX CY CZ Ca Cb Cc Cd Ce Cf Cg Ci Cj Ck Cl Cm Cn Co Cp Cq Cr Cs: Value) (W: World) ,SlB A w x r L cs q (.slice p6 ch.length c6) ch v5 out W→IsPg .u64 142 W gk 0 (turnAll ns ch)→Q0 (.exit 6) ⟨List.toArray (c0::.pointer (some ⟨q,0,none⟩)::c2::c3::c4::c5::.slice p6 ch.length c6::c7::c8::c9::Ad::Ae::Af::Ag::Ai::Aj::Ak::Al::Am::.int .u32 0::.pointer (some ⟨gk,0,none⟩)::An::Ct::Ao::Ap::Aq::Ar::As::At::Au::Av::Aw::Ax::Ay::Az::B0::B1::B2::B3::B4::B5::B6::B7::B8::B9::BA::BB::BC::BD::BE::BF::BG::BI::BJ::BK::BL::BM::BN::BO::BP::BQ::BR::BS::BT::BU::BV::BW::BX::BY::BZ::Ba::Bb::Bc::Bd::Be::Bf::Bg::Bi::Bj::Bk::Bl::Bm::Bn::Bo::Bp::Bq::Br::Bs::Bt::Bu::Bv::Bw::Bx::By::Bz::C0::C1::C2::C3::C4::A2::A3::A4::A5::A6::A7::A8::A9::AA::AB::AC::AD::AE::AF::AG::AI::CU::CV::CW::CX::CY::CZ::Ca::Cb::Cc::Cd::Ce::Cf::Cg::Ci::Cj::Ck::Cl::Cm::Cn::Co::Cp::Cq::Cr::Cs::AJ::AK::AL::AM::AN::AO::AP::AQ::AR::AS::AT::AU::AV::AW::AX::AY::AZ::Aa::Ab::Ac::[]),[]⟩ W) :
  Code.wp Tryz.prog (.loop bodyS4) Q0 ⟨List.toArray (c0::.pointer (some ⟨q,0,none⟩)::c2::c3::c4::c5::.slice p6 ch.length c6::c7::c8::c9::Ad::Ae::Af::Ag::Ai::Aj::Ak::Al::Am::.int .u32 0::.pointer (some ⟨gk,0,none⟩)::An::.int .i64 0::Ao::Ap::Aq::Ar::As::At::Au::Av::Aw::Ax::Ay::Az::B0::B1::B2::B3::B4::B5::B6::B7::B8::B9::BA::BB::BC::BD::BE::BF::BG::BI::BJ::BK::BL::BM::BN::BO::BP::BQ::BR::BS::BT::BU::BV::BW::BX::BY::BZ::Ba::Bb::Bc::Bd::Be::Bf::Bg::Bi::Bj::Bk::Bl::Bm::Bn::Bo::Bp::Bq::Br::Bs::Bt::Bu::Bv::Bw::Bx::By::Bz::C0::C1::C2::C3::C4::A2::A3::A4::A5::A6::A7::A8::A9::AA::AB::AC::AD::AE::AF::AG::AI::C5::C6::C7::C8::C9::CA::CB::CC::CD::CE::CF::CG::CI::CJ::CK::CL::CM::CN::CO::CP::CQ::CR::CS::CT::AJ::AK::AL::AM::AN::AO::AP::AQ::AR::AS::AT::AU::AV::AW::AX::AY::AZ::Aa::Ab::Ac::[]),[]⟩ W0:=by
 have HEX:=Lib.hid hexit; clear hexit
 have HM0:=Lib.hid (And.intro h0 hx0); clear h0 hx0
 have HCH:=Lib.hid hch; clear hch
 have HNS:=Lib.hid (And.intro hnl hnn); clear hnl hnn
 conv=>arg 2; arg 1; whnf
 go_loopw [22] (fun v22 W=>∃ k:Nat,k≤ch.length∧v22=.int .i64 (k:Int)∧Hid (SlB A w x r L cs q (.slice p6 ch.length c6) ch v5 out W∧IsPg .u64 142 W gk 0 (turnAll ns (ch.take k)))) (fun v22 _=>ch.length - (intOf v22).toNat)
 case atStart=>exact ⟨0,by omega,rfl,Lib.hid ⟨HM0.out.1,by rw [List.take_zero]; exact HM0.out.2⟩⟩
 case round=>
  clear HM0
  obtain ⟨k,hk,rfl,HM⟩:=hrel
  by_cases hlt:k < ch.length
  ·obtain ⟨g,c,he,hc0⟩:=HM.out.1.c6.at_ hlt
   cases he
   have hy:=HCH.out _ (List.getElem_mem hlt)
   have htk:=turnAll_take ns ch k hlt
   have HCC:=Lib.hid (fun (W:World) (h:U32V W (q+1) (.slice (some ⟨g,0,none⟩) ch.length c6) ch.length ch)=>(show W.cell? ⟨g,k,none⟩=some (.int .u32 (ch[k]:Int)) from by
    obtain ⟨g',c',he',h'⟩:=h.at_ hlt
    cases he'
    exact h'))
   generalize ch[k]=y at hc0 hy htk HCC
   have HTK:=Lib.hid htk; clear htk
   have htl:(turnAll ns (ch.take k)).length=16:=(turnAll_length _ _).trans HNS.out.1
   have htn:∀ z∈turnAll ns (ch.take k),z < 18446744073709551616:=turnAll_lt _ _ HNS.out.2
   have HTU:=Lib.hid (fun W=>refTurn_any (k:=0) (i:=y) htl htn hy W)
   rw [←HTK.out] at HTU
   have hip:=sizeP 0 _ htl
   have hip2:=sizeP 0 (turnAll ns (ch.take (k+1))) ((turnAll_length _ _).trans HNS.out.1)
   have hsz2:(pgCells .u64 0 (turnAll ns (ch.take k))).size=(pgCells .u64 0 (turnAll ns (ch.take (k+1)))).size:=by rw [pgCells_size,pgCells_size,htl,(turnAll_length _ _).trans HNS.out.1]
   generalize turnAll ns (ch.take k)=n0 at HM HTU hip hsz2
   obtain ⟨n1,hn1⟩:∃ n1,n1=turnAll ns (ch.take (k+1)):=⟨_,rfl⟩
   rw [←hn1] at HTU hip2 hsz2
   have HN1:=Lib.hid hn1
   have i0:(0:Int)≤(k:Int):=by omega
   have i1:(k:Int) < (ch.length:Int):=by omega
   have d1:Int.tdiv (y:Int) 1024=0:=by rw [Int.tdiv_eq_ediv_of_nonneg (by omega)]; omega
   have d2:(y:Int) / 1024=0:=by omega
   have d3:Int.tmod (y:Int) 1024=(y:Int):=by rw [Int.tmod_eq_emod_of_nonneg (by omega)]; omega
   have d4:(y:Int) % 1024=(y:Int):=by omega
   have z1:IntKind.i64.wrap ((k:Int)+1)=(k:Int)+1:=IntWalk.i64_in _ (by omega)
   have z3:IntKind.i64.wrap (y:Int)=(y:Int):=IntWalk.i64_in _ (by omega)
   clear htl htn hn1 HTK
   go_wp2_with fail
   clear hc0 d1 d2
   have HSI:=Lib.hid (fun W (hW:Below wr.heap.size wr W)=>(show Below w.heap.size w W∧U32V W (q+1) (.slice (some ⟨g,0,none⟩) ch.length c6) ch.length ch from ⟨(HM.out.1.below hW).bel,(HM.out.1.below hW).c6⟩))
   refine wp_region_noPanic ?_
   refine wp_region_held_drew (S:=fun W=>Below w.heap.size w W∧U32V W (q+1) (.slice (some ⟨g,0,none⟩) ch.length c6) ch.length ch) (by kernel_rfl) (HSI.out _ (Below.refl _ _).drew) ?_
   intro hS
   refine RowLaw.tkV 1 131 (.slice (some ⟨g,0,none⟩) ch.length c6) hS ?_
   simp only [RowLaw.lset]
   refine RowLaw.tkV 2 132 (.int .i64 (k:Int)) hS ?_
   simp only [RowLaw.lset]
   refine RowLaw.tkV 3 133 (.pointer (some ⟨g,k,none⟩)) hS ?_
   simp only [RowLaw.lset]
   refine RowLaw.tkV 4 134 (.int .u32 (y:Int)) hS ?_ (hy:=(Or.inl ⟨by rfl,fun W hW=>by have c:=HCC.out W hW.2; go_simp⟩))
   simp only [RowLaw.lset]
   refine RowLaw.tkV 5 135 (.int .u32 (y:Int)) hS ?_
   simp only [RowLaw.lset]
   refine RowLaw.tkV 6 136 (.int .i64 (y:Int)) hS ?_
   simp only [RowLaw.lset]
   have hq0:IsPg .u64 142 wr.drew gk 0 n0:=HM.out.2
   have hm0:SlB A w x r L cs q (.slice (some ⟨g,0,none⟩) ch.length c6) ch v5 out wr.drew:=HM.out.1.below (Below.refl _ _).drew
   clear HM HSI
   generalize wr.drew=V0 at hS hq0 hm0 ⊢
   refine wpAnyH_ready (rs:=[0]) (by kernel_rfl) (by simp) ?_
   refine AllReadyH.cons rfl (fun K hK=>?_) AllReadyH.nil
   rw [if_pos (by rfl)]
   refine wp_load_row 142 _ rfl gk rfl _ _ _ _ hq0 Tryz.underlying142 rfl hip ?_
   refine hK _ _ hS (fun _=>?_)
   clear hK K
   try simp only [Act.put,List.setIfInBounds_toArray,RowLaw.lset]
   refine wpAnyH_ready (rs:=[7]) (by kernel_rfl) (by simp) ?_
   refine AllReadyH.cons rfl (fun K hK=>?_) AllReadyH.nil
   rw [if_pos (by rfl)]
   go_simp
   refine (HTU.out V0).mono ?_
   clear HTU
   rintro e V1 ⟨rfl,hx⟩
   dsimp only
   have hq1:IsPg .u64 142 V1 gk 0 n0:=hq0.below hx hq0.lt
   have hm1:=hm0.below hx
   have hS1:=And.intro hm1.bel hm1.c6
   refine hK _ _ hS1 (fun _=>?_)
   clear hK K hS hq0 hm0 hx
   try simp only [Act.put,List.setIfInBounds_toArray,RowLaw.lset]
   refine RowLaw.tkV 8 129 (.tuple #[.agg (pgCells .u64 0 n1),.int .i64 0]) hS1 ?_
   simp only [RowLaw.lset]
   refine RowLaw.tkV 9 138 (.agg (pgCells .u64 0 n1)) hS1 ?_
   simp only [RowLaw.lset]
   refine RowLaw.tkV 10 139 (.int .i64 0) hS1 ?_
   simp only [RowLaw.lset]
   refine wpAnyH_ready (rs:=[11]) (by kernel_rfl) (by simp) ?_
   refine AllReadyH.cons rfl (fun K hK=>?_) AllReadyH.nil
   rw [if_pos (by rfl)]
   refine wp_store_row 142 _ _ rfl gk (pgCells .u64 0 n1) rfl rfl _ _ hq1 hip2 hsz2 (pgCells_one _ _) ?_
   have hm2:=hm1.row (cs2:=pgCells .u64 0 n1) hq1 hqg (by decide) (by decide) (by decide)
   have hq2:IsPg .u64 142 (V1.setRow gk (pgCells .u64 0 n1)) gk 0 n1:=setRow_heap _ _ _ _ _ _ hq1
   refine hK _ _ ⟨hm2.bel,hm2.c6⟩ (fun _=>?_)
   clear hK K hS1 hm1 hq1
   try simp only [Act.put,List.setIfInBounds_toArray,RowLaw.lset]
   have HFIN:=Lib.hid (And.intro hm2 (show IsPg .u64 142 _ gk 0 (turnAll ns (ch.take (k+1))) from by rw [←HN1.out]; exact hq2))
   generalize V1.setRow gk (pgCells .u64 0 n1)=V2 at HFIN ⊢
   clear hm2 hq2
   refine wpAnyH_done (by kernel_rfl) ?_ _
   refine NoPanic.normal ?_
   go_wp2_with fail
   go_roundw
   case rel=>exact ⟨k+1,by omega,by go_num,HFIN⟩
   case measure=>simp [intOf]; omega
  ·have hkn:k=ch.length:=by omega
   have i1:¬ (k:Int) < (ch.length:Int):=by omega
   have HE:=Lib.hid (show IsPg .u64 142 wr gk 0 (turnAll ns ch) from by have:=HM.out.2; rwa [hkn,List.take_length] at this)
   clear hkn
   go_wp2_with fail
   exact HEX.out _ _ _ _ _ _ _ _ _ _ _ _ _ _ _ _ _ _ _ _ _ _ _ _ _ _ HM.out.1 HE.out
end Spc
namespace Spc
open Go.RowKit RowLaw
open Dev (ptr DS pendCells putCells putCells_one putCells_length infoPut run_buildPut exec_build yieldsIf_load_row)
open Cnt (own_slice own_kept own_base own_ne TD tdOf tdOf_ok Sound tlAt)
open Slt (Rt cells cells_one infoR sizeR)
open Tal (pgCells pgCells_size pgCells_one IsPg kT kP fT infoP infoT zs zs_length sizeP sizeT putB putE putB_length putE_yes refPut_anyT)
open Rot (planOk tlN pkN fsN)
variable {A:Nat→Prop}
def tlD (s:DS) (r:Rt) (L:List (Nat×Nat)) (p:Nat):Nat×List UInt8:=(oth (tlAt (tdOf 0 s r.picks) p),putB kT p (nowTo s r L p 64))
theorem seal_tallies {w:World} {x:RS} {r:Rt} {L:List (Nat×Nat)} {s:DS} {cs:Array Value} {q c6:Nat} {p6:Option Addr} {ch:List Nat} (hS:Sees x r s) (hL:L.length < 1000000) (hLv:∀ y∈L,y.2 < 65536) (hidt:(Tryz.prog.info? 65).map (·.size)=some cs.size) (hsz:cs[8]? = some (.int .u32 (s.n:Int))) (hl:ch.length < 1000000) (hch:∀ y∈ch,y < tlN s.n)
  {Q0:Exit→Act→World→Prop} {c0 c2 c3 c4 c8 c9 BK BL BM BN BO BP B2 B3 B4 B5 B6 B7 B8 B9 BA BB BC BD BQ BR BS BT BU BV BW BX BY BZ Ba Bb Bc Bd Be Bf Bg Bi Bj Bk Bl Bm Bn Bo Bp Bq Br Bs Bt Bu Bv Bw Bx By Bz C0 C1 C2 C3 C4 C5 C6 C7 C8 C9 CA CB CC CD CE CF CG CI CJ CK CL CM CN CO CP CQ CR CS CT CU CV CW BE BF BG BI BJ A1 A2 A3 A4 A5 A6 A7 A8 A9 AA AB AC AD AE AF AG AI AJ AK AL AM AN AO AP AQ AR AS AT AU AV AW AX AY AZ Aa Ab Ac Ad Ae Af Ag Ai Aj Ak Al Am An Ao Ap Aq Ar As At Au Av Aw Ax Ay Az B0:Value} {W0:World} (h0:SlB A w x r L cs q (.slice p6 ch.length c6) ch (.slice none 0 0) [] W0)
  (hexit: ∀ (u5 u7 u8 u9 CX CY CZ Ca Cb Cc Cd Ce Cf Cg A0 Ci Cj Ck Cl Cm Cn Co Cp Cq Cr Cs Ct Cu Cv Cw Cx Cy Cz D0 D1 D2 D3 D4 D5 D6 D7 D8 D9 DA DB DC DD DE DF DG DI DJ DK DL DM DN DO DP DQ DR DT DU DV DW DX DY DZ Da Db Dc Dd De Df Dg Di Dj Dk: Value) (W: World) ,SlB A w x r L cs q (.slice p6 ch.length c6) ch u5 (ch.map (tlD s r L)) W→Q0 (.exit 0) ⟨List.toArray (c0::.pointer (some ⟨q,0,none⟩)::c2::c3::c4::u5::.slice p6 ch.length c6::u7::u8::u9::CX::CY::CZ::Ca::Cb::Cc::B2::B3::B4::B5::B6::B7::B8::B9::BA::BB::BC::BD::Cd::Ce::Cf::Cg::A0::Ci::Cj::Ck::Cl::Cm::Cn::Co::Cp::Cq::Cr::Cs::Ct::Cu::Cv::Cw::Cx::Cy::Cz::D0::D1::D2::D3::D4::D5::D6::D7::D8::D9::DA::DB::DC::DD::DE::DF::DG::DI::DJ::DK::DL::DM::DN::DO::DP::DQ::DR::DT::DU::DV::DW::DX::DY::DZ::Da::Db::Dc::Dd::De::Df::Dg::Di::Dj::Dk::BE::BF::BG::BI::BJ::A1::A2::A3::A4::A5::A6::A7::A8::A9::AA::AB::AC::AD::AE::AF::AG::AI::AJ::AK::AL::AM::AN::AO::AP::AQ::AR::AS::AT::AU::AV::AW::AX::AY::AZ::Aa::Ab::Ac::Ad::Ae::Af::Ag::Ai::Aj::Ak::Al::Am::An::Ao::Ap::Aq::Ar::As::At::Au::Av::Aw::Ax::Ay::Az::B0::[]),[]⟩ W) :
  Code.wp Tryz.prog (.loop bodyS1) Q0 ⟨List.toArray (c0::.pointer (some ⟨q,0,none⟩)::c2::c3::c4::.slice none 0 0::.slice p6 ch.length c6::.int .i64 0::c8::c9::BK::BL::BM::BN::BO::BP::B2::B3::B4::B5::B6::B7::B8::B9::BA::BB::BC::BD::BQ::BR::BS::BT::BU::BV::BW::BX::BY::BZ::Ba::Bb::Bc::Bd::Be::Bf::Bg::Bi::Bj::Bk::Bl::Bm::Bn::Bo::Bp::Bq::Br::Bs::Bt::Bu::Bv::Bw::Bx::By::Bz::C0::C1::C2::C3::C4::C5::C6::C7::C8::C9::CA::CB::CC::CD::CE::CF::CG::CI::CJ::CK::CL::CM::CN::CO::CP::CQ::CR::CS::CT::CU::CV::CW::BE::BF::BG::BI::BJ::A1::A2::A3::A4::A5::A6::A7::A8::A9::AA::AB::AC::AD::AE::AF::AG::AI::AJ::AK::AL::AM::AN::AO::AP::AQ::AR::AS::AT::AU::AV::AW::AX::AY::AZ::Aa::Ab::Ac::Ad::Ae::Af::Ag::Ai::Aj::Ak::Al::Am::An::Ao::Ap::Aq::Ar::As::At::Au::Av::Aw::Ax::Ay::Az::B0::[]),[]⟩ W0:=by
 have HEX:=Lib.hid hexit; clear hexit
 have HM0:=Lib.hid h0; clear h0
 have HCH:=Lib.hid hch; clear hch
 have HSS:=Lib.hid hS
 have HLV:=Lib.hid hLv; clear hLv
 have hsm:=hS.small
 clear hS
 have hzt:=(zero_of_info infoT).1
 have hzb:=(zero_of_info infoBlock).1
 obtain ⟨ik,hik0,hik1,hik2,hik3⟩:=info_parts infoPut
 have HIK:=Lib.hid (And.intro hik0 (And.intro hik1 (And.intro hik2 hik3)))
 clear hik0 hik1 hik2 hik3
 conv=>arg 2; arg 1; whnf
 go_loopw [5,7] (fun v5 v7 W=>∃ k:Nat,k≤ch.length∧v7=.int .i64 (k:Int)∧Hid (SlB A w x r L cs q (.slice p6 ch.length c6) ch v5 ((ch.take k).map (tlD s r L)) W)) (fun _ v7 _=>ch.length - (intOf v7).toNat)
 case atStart=>exact ⟨0,by omega,rfl,HM0⟩
 case round=>
  clear HM0
  obtain ⟨k,hk,rfl,HM⟩:=hrel
  by_cases hlt:k < ch.length
  ·obtain ⟨g,c,he,hc0⟩:=HM.out.c6.at_ hlt
   cases he
   have hp:=HCH.out _ (List.getElem_mem hlt)
   have htk:(ch.take (k+1)).map (tlD s r L)=(ch.take k).map (tlD s r L) ++ [tlD s r L ch[k]]:=by rw [List.take_succ_eq_append_getElem hlt,List.map_append]; rfl
   generalize ch[k]=p at hc0 hp htk
   have HTK:=Lib.hid htk; clear htk
   have hol:((ch.take k).map (tlD s r L)).length≤k:=by rw [List.length_map,List.length_take]; omega
   obtain ⟨out,hout⟩:∃ out,out=(ch.take k).map (tlD s r L):=⟨_,rfl⟩
   rw [←hout] at HM HTK hol
   clear hout
   have hp1024:p < 1024:=by omega
   have i0:(0:Int)≤(k:Int):=by omega
   have i1:(k:Int) < (ch.length:Int):=by omega
   have z1:IntKind.i64.wrap ((k:Int)+1)=(k:Int)+1:=IntWalk.i64_in _ (by omega)
   have r0:=HM.out.r0
   have htl:((tdOf 0 s r.picks).TV p).length=64:=(tdOf_ok (d:=0) HSS.out.sound.plan HSS.out.sound.chl).tl p
   have HT:=Lib.hid (tally9_any HM.out.dt HSS.out hp)
   rw [←nowTo_zero s r L p htl] at HT
   have hit:=sizeT p (nowTo s r L p 0) (nowTo_len _ _ _ _ _)
   have hit2:=sizeT p (nowTo s r L p 64) (nowTo_len _ _ _ _ _)
   clear htl
   go_wp2_with (refine wpList_load_row rfl 65 _ rfl q rfl _ _ _ _ r0 Tryz.underlying65 rfl hidt ?_)
   refine HT.out.mono ?_
   clear HT hc0 r0
   rintro e W2 ⟨rfl,hx⟩
   have HM2:=Lib.hid ((HM.out.below hx).below ((Below.refl W2.heap.size W2).alloc (Nat.le_refl _) (.cells (pgCells .u16 p (nowTo s r L p 0)) 137)))
   have HX2:=Lib.hid (IsPg.new .u16 137 W2 p (nowTo s r L p 0))
   have hqg:q < W2.heap.size:=(Array.getElem?_eq_some_iff.1 ((HM.out.below hx).r0)).1
   clear HM hx
   have tok:True:=trivial
   go_upto_region 8 with (have _t:=tok; refine wpList_store_new rfl 137 _ _ rfl (pgCells .u16 p (nowTo s r L p 0)) _ _ (by simp [Act.eval]) rfl hit (by rw [pgCells_size,pgCells_size,zs_length,nowTo_len]; rfl) (pgCells_one _ _) ?_; clear _t tok)
   generalize W2.heap.size=gx at HX2 hqg ⊢
   generalize W2.alloc (.cells (pgCells .u16 p (nowTo s r L p 0)) 137)=W3 at HM2 HX2 ⊢
   go_wp2_with fail
   refine seal_counts HSS.out hL hidt hsz hp hqg HM2.out HX2.out ?_
   intro _ _ _ _ _ _ _ _ _ _ _ _ _ _ _ _ _ _ _ _ _ _ _ _ _ _ _ _ _ _ _ _ _ _ W4 hm4 hx4
   have HM4:=Lib.hid hm4
   have HX4:=Lib.hid hx4
   clear hm4 hx4 HM2 HX2 hit
   have r4:=HM4.out.r0
   have HA:=Lib.hid (tallyAt9_any HM4.out.dt HSS.out hp)
   have hat:tlAt (tdOf 0 s r.picks) p < 4294967295:=by
    have:=Cnt.tlAt_lt (tdOf_ok (d:=0) HSS.out.sound.plan HSS.out.sound.chl) hp
    have h2:(tdOf 0 s r.picks).n=s.n:=rfl
    omega
   obtain ⟨at_,hate⟩:∃ z,z=tlAt (tdOf 0 s r.picks) p:=⟨_,rfl⟩
   have HAT:=Lib.hid hate
   rw [←hate] at HA hat
   clear hate
   go_wp2_with (refine wpList_load_row rfl 65 _ rfl q rfl _ _ _ _ r4 Tryz.underlying65 rfl hidt ?_)
   refine HA.out.mono ?_
   clear HA r4
   rintro e W5 ⟨rfl,hx⟩
   have HM5:=Lib.hid (HM4.out.below hx)
   have HX5:=Lib.hid (HX4.out.below hx HX4.out.lt)
   clear HM4 HX4 hx
   have x5:=HX5.out
   unfold IsPg at x5
   have hlim:p < kT.lim:=by show p < 16384; omega
   have HPU:=Lib.hid (refPut_anyT p (nowTo s r L p 64) (nowTo_len _ _ _ _ _) (fun j hj=>nowTo_lt HSS.out HLV.out p 64 j hj) W5)
   rw [putE_yes hlim] at HPU
   have hbl:(putB kT p (nowTo s r L p 64)).length=256:=putB_length fT p (nowTo_len _ _ _ _ _)
   obtain ⟨bl,hble⟩:∃ z,z=putB kT p (nowTo s r L p 64):=⟨_,rfl⟩
   have HBL:=Lib.hid hble
   rw [←hble] at HPU hbl
   clear hble
   have hsb:=sizeBlock bl hbl
   go_wp2_with (refine wpList_load_row rfl 137 _ rfl gx rfl _ _ _ _ x5 Tryz.underlying137 rfl hit2 ?_)
   refine HPU.out.mono ?_
   clear HPU x5 HX5
   rintro e W6 ⟨rfl,hx⟩
   have HM6:=Lib.hid ((HM5.out.below hx).below ((Below.refl W6.heap.size W6).alloc (Nat.le_refl _) (.cells (cellsOf bl) 39)))
   have h6:Holds (W6.alloc (.cells (cellsOf bl) 39)) W6.heap.size bl:=Holds.new W6 bl
   clear HM5 hx
   have tok:True:=trivial
   go_upto_region 15 with (have _t:=tok; refine wpList_store_new rfl 39 _ _ rfl (cellsOf bl) _ _ (by simp [Act.eval]) rfl hsb (by rw [cellsOf_size,cellsOf_size,hbl,zeros_length]) (cellsOf_one _) ?_; clear _t tok)
   generalize W6.heap.size=gb at h6 ⊢
   generalize W6.alloc (.cells (cellsOf bl) 39)=W7 at h6 HM6 ⊢
   obtain ⟨p5,c5,hv5,_⟩:=own_slice HM6.out.c5
   subst hv5
   refine wp_region_noPanic ?_
   refine wp_region_held_drew (S:=fun W=>Below w.heap.size w W∧Holds W gb bl) (by kernel_rfl) ⟨(HM6.out.below (Below.refl _ _).drew).bel,h6⟩ ?_
   intro hS
   have HM7:=Lib.hid (HM6.out.below (W':=W7.drew) (Below.refl _ _).drew)
   clear HM6 h6
   generalize W7.drew=V0 at hS HM7 ⊢
   obtain ⟨pc,hpc⟩:∃ z,z=putCells (oth at_,bl):=⟨_,rfl⟩
   have HPC:=Lib.hid hpc
   have hpl:pc.length=257:=by rw [hpc]; exact putCells_length hbl
   have HBU:=Lib.hid (fun W=>run_buildPut W (oth at_,bl) hbl)
   rw [←hpc] at HBU
   clear hpc
   refine RowLaw.tkV 0 88 (.slice p5 out.length c5) hS ?_
   simp only [RowLaw.lset]
   refine RowLaw.tkV 1 89 (.int .u32 (at_:Int)) hS ?_
   simp only [RowLaw.lset]
   refine RowLaw.tkV 3 91 (.agg (cellsOf bl)) hS ?_ (hy:=(yieldsIf_load_row (by rfl) 39 _ rfl gb rfl _ _ _ _ (fun W hW=>hW.2) Tryz.underlying39 rfl hsb))
   simp only [RowLaw.lset]
   refine wpAnyH_ready (rs:=[2]) (by kernel_rfl) (by simp) ?_
   refine AllReadyH.cons rfl (fun K hK=>?_) AllReadyH.nil
   rw [if_pos (by rfl)]
   go_simp
   refine (other_any at_ hat V0).mono ?_
   rintro e V1 ⟨rfl,rfl⟩
   dsimp only
   refine hK _ _ hS (fun _=>?_)
   clear hK K
   try simp only [Act.put,List.setIfInBounds_toArray,RowLaw.lset]
   refine RowLaw.tkV 4 92 (.agg pc.toArray) hS ?_ (hy:=(Or.inl ⟨by rfl,fun W _=>by rw [HPC.out]; exact exec_build 90 91 rfl (oth at_) bl hbl rfl rfl W⟩))
   simp only [RowLaw.lset]
   refine wpAnyH_ready (rs:=[5]) (by kernel_rfl) (by simp) ?_
   refine AllReadyH.cons rfl (fun K hK=>?_) AllReadyH.nil
   rw [if_pos (by rfl)]
   refine wp_slice_row _ 44 1 #[(0,.tmp 92)] rfl #[(0,.agg pc.toArray)] (by first | rfl | (simp [Act.eval]; done) | (simp [Act.eval]; rfl)) _ (HBU.out _) ?_
   have hab:=(Below.refl V1.heap.size V1).alloc (Nat.le_refl _) (.cells pc.toArray 55)
   have HM8:=Lib.hid (HM7.out.below hab)
   have hS8:Below w.heap.size w (V1.alloc (.cells pc.toArray 55))∧Holds (V1.alloc (.cells pc.toArray 55)) gb bl:=⟨HM8.out.bel,hS.2.alloc _⟩
   refine hK _ _ hS8 (fun _=>?_)
   clear hK K HM7 hab
   try simp only [Act.put,List.setIfInBounds_toArray,RowLaw.lset]
   refine wpAnyH_ready (rs:=[6]) (by kernel_rfl) (by simp) ?_
   refine AllReadyH.cons rfl (fun K hK=>?_) AllReadyH.nil
   rw [if_pos (by rfl)]
   refine wp_append_own _ _ _ 44 rfl (q+1) 55 ik (.agg (putCells (0,zeros)).toArray) 257 260 Tryz.underlying44 HIK.out.1 HIK.out.2.1 HIK.out.2.2.1 HIK.out.2.2.2 (putCells_length zeros_length) (by decide) _ out.length (pendCells out) rfl HM8.out.c5 ⟨V1.heap.size,0,none⟩ 1 1 pc rfl (by rw [hpl]) (Dev.new_cells V1 pc 55) (by rw [HPC.out]; exact putCells_one _) (Nat.le_trans (show out.length+1≤1000001 by omega) (by decide)) (by omega) (by have:=(Array.getElem?_eq_some_iff.1 HM8.out.r0).1; omega) ?_
   intro v8 V8 hown hgr _
   rw [HPC.out] at hown
   have HM9:=Lib.hid (HM8.out.push (y:=(oth at_,bl)) hown hgr)
   have hS9:Below w.heap.size w V8∧Holds V8 gb bl:=⟨HM9.out.bel,(hgr.block gb (hS8.2.lt) (own_ne HM8.out.c5 hS8.2 (by decide))).trans hS8.2⟩
   refine hK _ _ hS9 (fun _=>?_)
   clear hK K HM8 hown hgr hS8
   try simp only [Act.put,List.setIfInBounds_toArray,RowLaw.lset]
   refine wpAnyH_take (i:=7) (v:=v8) rfl (by kernel_rfl) (by kernel_rfl) (by kernel_rfl) (fun _ _ _ h=>(h:False).elim) (Or.inl ⟨by rfl,fun _ _=>by go_simp⟩) hS9 ?_
   change wpAnyH _ _ _ _ _ _ _ (Act.put _ (some 5) _) _
   simp only [Act.put,List.setIfInBounds_toArray,RowLaw.lset]
   have HFIN:=Lib.hid (show SlB A w x r L cs q (.slice (some ⟨g,0,none⟩) ch.length c6) ch v8 ((ch.take (k+1)).map (tlD s r L)) V8 from by
    have e:tlD s r L p=(oth at_,bl):=by unfold tlD; rw [←HAT.out,←HBL.out]
    rw [HTK.out,e]
    exact HM9.out)
   clear HM9 hS9 hS
   refine wpAnyH_done (by kernel_rfl) ?_ _
   refine NoPanic.normal ?_
   go_wp2_with fail
   go_roundw
   case rel=>exact ⟨k+1,by omega,by go_num,HFIN⟩
   case measure=>simp [intOf]; omega
  ·have hkn:k=ch.length:=by omega
   have i1:¬ (k:Int) < (ch.length:Int):=by omega
   have HE:=Lib.hid (show SlB A w x r L cs q (.slice p6 ch.length c6) ch _ (ch.map (tlD s r L)) wr from by have:=HM.out; rwa [hkn,List.take_length] at this)
   clear hkn
   go_wp2_with fail
   exact HEX.out _ _ _ _ _ _ _ _ _ _ _ _ _ _ _ _ _ _ _ _ _ _ _ _ _ _ _ _ _ _ _ _ _ _ _ _ _ _ _ _ _ _ _ _ _ _ _ _ _ _ _ _ _ _ _ _ _ _ _ _ _ _ _ _ _ _ _ _ _ _ _ _ _ _ _ _ _ _ HE.out
end Spc
namespace Spc
open Go.RowKit RowLaw
open Dev (ptr DS pendCells putCells putCells_one putCells_length infoPut run_buildPut exec_build yieldsIf_load_row)
open Cnt (own_slice own_kept own_base own_ne TD tdOf tdOf_ok Sound pkAt turnAll turnAll_length turnAll_lt)
open Slt (Rt cells cells_one infoR sizeR)
open Tal (pgCells pgCells_size pgCells_one IsPg kT kP fP infoP infoT zs zs_length sizeP sizeT putB putE putB_length putE_yes refPut_anyP)
open Rot (planOk tlN pkN fsN)
variable {A:Nat→Prop}
def pkD (s:DS) (r:Rt) (ch:List Nat):Nat×List UInt8:=(oth (pkAt (tdOf 0 s r.picks) 0),putB kP 0 (turnAll ((tdOf 0 s r.picks).PV 0) ch))
theorem seal_picks {w:World} {x:RS} {r:Rt} {L:List (Nat×Nat)} {s:DS} {cs:Array Value} {q c6 A0:Nat} {p6 p17:Option Addr} {v5:Value} {ch tn:List Nat} {out:List (Nat×List UInt8)} (hS:Sees x r s) (hidt:(Tryz.prog.info? 65).map (·.size)=some cs.size) (hl:ch.length < 1000000) (hol:out.length < 1000000) (hch:∀ y∈ch,y < 1024) (ht1:tn.length≤1) (ht0:∀ y∈tn,y=0)
  {Q0:Exit→Act→World→Prop} {c0 c2 c3 c4 c7 c8 c9 A5 A6 A7 A8 A9 AA DO DP DQ DR DU DV AB AC AD AE AF AG AI AJ AK AL AM AN AO AP AQ AR AS AT AU AV AW AX AY AZ Aa Ab Ac Ad Ae Af Ag Ai Aj Ak Al Am An Ao Ap Aq Ar As At Au Av Aw Ax Ay Az B0 B1 B2 B3 B4 B5 B6 B7 B8 B9 BA BB BC BD BE BF BG BI BJ BK BL BM BN BO BP BQ BS BT BU BV BW BX BY BZ Ba Bb Bc Bd Be Bf Bg Bi Bj Bk Bl Bm Bn Bo Bp Bq Br Bs Bt Bu Bv Bw Bx By Bz C0 C1 C2 C3 C4 C5 C6 C7 C8 C9 CA CB CC CD CE CF CG CI CJ CK CL CM CN CO CP A2 A3:Value} {W0:World} (h0:SlB A w x r L cs q (.slice p6 ch.length c6) ch v5 out W0) (h17:U32V W0 (q+1) (.slice p17 tn.length A0) tn.length tn)
  (hexit: ∀ (u5 BR DW DX DY DZ Da Db Dc CQ CR CS CT CU CV CW CX CY CZ Ca Cb Cc Cd Ce Cf Cg Ci Cj Ck Cl Cm Cn Co Cp Cq Cr Cs Ct Cu Cv Cw Cx Cy Cz D0 D1 D2 D3 D4 D5 D6 D7 D8 D9 DA DB DC DD DE DF DG DI DJ DK DL DM DN: Value) (W: World) ,(∃ z: Int,BR=.int .u32 z)→SlB A w x r L cs q (.slice p6 ch.length c6) ch u5 (out ++ List.replicate tn.length (pkD s r ch)) W→Q0 (.exit 4) ⟨List.toArray (c0::.pointer (some ⟨q,0,none⟩)::c2::c3::c4::u5::.slice p6 ch.length c6::c7::c8::c9::A5::A6::A7::A8::A9::AA::BR::.slice p17 tn.length A0::DW::DX::DY::DZ::Da::Db::Dc::AB::AC::AD::AE::AF::AG::AI::AJ::AK::AL::AM::AN::AO::AP::AQ::AR::AS::AT::AU::AV::AW::AX::AY::AZ::Aa::Ab::Ac::Ad::Ae::Af::Ag::Ai::Aj::Ak::Al::Am::An::Ao::Ap::Aq::Ar::As::At::Au::Av::Aw::Ax::Ay::Az::B0::B1::B2::B3::B4::B5::B6::B7::B8::B9::BA::BB::BC::BD::BE::BF::BG::BI::BJ::BK::BL::BM::BN::BO::BP::BQ::CQ::CR::CS::CT::CU::CV::CW::CX::CY::CZ::Ca::Cb::Cc::Cd::Ce::Cf::Cg::Ci::Cj::Ck::Cl::Cm::Cn::Co::Cp::Cq::Cr::Cs::Ct::Cu::Cv::Cw::Cx::Cy::Cz::D0::D1::D2::D3::D4::D5::D6::D7::D8::D9::DA::DB::DC::DD::DE::DF::DG::DI::DJ::DK::DL::DM::DN::A2::A3::[]),[]⟩ W) :
  Code.wp Tryz.prog (.loop bodyS3) Q0 ⟨List.toArray (c0::.pointer (some ⟨q,0,none⟩)::c2::c3::c4::v5::.slice p6 ch.length c6::c7::c8::c9::A5::A6::A7::A8::A9::AA::.int .u32 (r.picks: Int)::.slice p17 tn.length A0::.int .i64 0::DO::DP::DQ::DR::DU::DV::AB::AC::AD::AE::AF::AG::AI::AJ::AK::AL::AM::AN::AO::AP::AQ::AR::AS::AT::AU::AV::AW::AX::AY::AZ::Aa::Ab::Ac::Ad::Ae::Af::Ag::Ai::Aj::Ak::Al::Am::An::Ao::Ap::Aq::Ar::As::At::Au::Av::Aw::Ax::Ay::Az::B0::B1::B2::B3::B4::B5::B6::B7::B8::B9::BA::BB::BC::BD::BE::BF::BG::BI::BJ::BK::BL::BM::BN::BO::BP::BQ::BS::BT::BU::BV::BW::BX::BY::BZ::Ba::Bb::Bc::Bd::Be::Bf::Bg::Bi::Bj::Bk::Bl::Bm::Bn::Bo::Bp::Bq::Br::Bs::Bt::Bu::Bv::Bw::Bx::By::Bz::C0::C1::C2::C3::C4::C5::C6::C7::C8::C9::CA::CB::CC::CD::CE::CF::CG::CI::CJ::CK::CL::CM::CN::CO::CP::A2::A3::[]),[]⟩ W0:=by
 have HEX:=Lib.hid hexit; clear hexit
 have HM0:=Lib.hid h0; clear h0
 have HCH:=Lib.hid hch; clear hch
 have H17:=Lib.hid h17; clear h17
 have HSS:=Lib.hid hS
 have HT0:=Lib.hid ht0; clear ht0
 clear hS
 have hzk:=(zero_of_info infoP).1
 have hzb:=(zero_of_info infoBlock).1
 obtain ⟨ik,hik0,hik1,hik2,hik3⟩:=info_parts infoPut
 have HIK:=Lib.hid (And.intro hik0 (And.intro hik1 (And.intro hik2 hik3)))
 clear hik0 hik1 hik2 hik3
 conv=>arg 2; arg 1; whnf
 go_loopw [5,16,18] (fun v5 v16 v18 W=>∃ (k:Nat) (z:Int),k≤tn.length∧v16=.int .u32 z∧v18=.int .i64 (k:Int)∧Hid (k=0→U32V W (q+1) (.slice p17 tn.length A0) tn.length tn)∧Hid (SlB A w x r L cs q (.slice p6 ch.length c6) ch v5 (out ++ List.replicate k (pkD s r ch)) W)) (fun _ _ v18 _=>tn.length - (intOf v18).toNat)
 case atStart=>exact ⟨0,_,by omega,rfl,rfl,Lib.hid (fun _=>H17.out),Lib.hid (by rw [List.replicate_zero,List.append_nil]; exact HM0.out)⟩
 case round=>
  clear HM0 H17
  obtain ⟨k,z,hk,rfl,rfl,HU,HM⟩:=hrel
  by_cases hlt:k < tn.length
  ·have hk0:k=0:=by omega
   subst hk0
   have hm:=HM.out
   rw [List.replicate_zero,List.append_nil] at hm
   have HM:=Lib.hid hm
   clear hm
   obtain ⟨g,c,he,hc0⟩:=(HU.out rfl).at_ hlt
   cases he
   have hs0:=HT0.out _ (List.getElem_mem hlt)
   rw [hs0] at hc0
   have i1:(0:Int) < (tn.length:Int):=by omega
   have r0:=HM.out.r0
   have hpl:((tdOf 0 s r.picks).PV 0).length=16:=(tdOf_ok (d:=0) HSS.out.sound.plan HSS.out.sound.chl).pl 0
   have hpn:=(tdOf_ok (d:=0) HSS.out.sound.plan HSS.out.sound.chl).pn 0
   have HT:=Lib.hid (pick9_any HM.out.dt HSS.out)
   have HPK:=Lib.hid (show pkD s r ch=(oth (pkAt (tdOf 0 s r.picks) 0),putB kP 0 (turnAll ((tdOf 0 s r.picks).PV 0) ch)) from rfl)
   have hat:pkAt (tdOf 0 s r.picks) 0 < 4294967295:=by
    have h1:=Cnt.pkAt_lt (tdOf_ok (d:=0) HSS.out.sound.plan HSS.out.sound.chl) (show 0 < pkN s.n by rw [HSS.out.one]; omega)
    have h2:(tdOf 0 s r.picks).n=s.n:=rfl
    have h3:=HSS.out.small
    omega
   have HPA:=Lib.hid (fun (W:World) (h:DT A W (.agg cs) x r L)=>pickAt9_any (s:=s) h)
   generalize (tdOf 0 s r.picks).PV 0=ns at HT HPK hpl hpn
   generalize pkAt (tdOf 0 s r.picks) 0=at_ at HPK hat HPA
   have hip:=sizeP 0 ns hpl
   have hip2:=sizeP 0 (turnAll ns ch) ((turnAll_length _ _).trans hpl)
   have HNN:=Lib.hid hpn
   clear hpn hs0 HU
   go_wp2_with (refine wpList_load_row rfl 65 _ rfl q rfl _ _ _ _ r0 Tryz.underlying65 rfl hidt ?_)
   refine HT.out.mono ?_
   clear HT hc0 r0
   rintro e W2 ⟨rfl,hx⟩
   have HM2:=Lib.hid ((HM.out.below hx).below ((Below.refl W2.heap.size W2).alloc (Nat.le_refl _) (.cells (pgCells .u64 0 ns) 142)))
   have HX2:=Lib.hid (IsPg.new .u64 142 W2 0 ns)
   have hqg:q < W2.heap.size:=(Array.getElem?_eq_some_iff.1 ((HM.out.below hx).r0)).1
   clear HM hx
   have tok:True:=trivial
   go_upto_region 23 with (have _t:=tok; refine wpList_store_new rfl 142 _ _ rfl (pgCells .u64 0 ns) _ _ (by simp [Act.eval]) rfl hip (by rw [pgCells_size,pgCells_size,zs_length,hpl]; rfl) (pgCells_one _ _) ?_; clear _t tok)
   generalize W2.heap.size=gk at HX2 hqg ⊢
   generalize W2.alloc (.cells (pgCells .u64 0 ns) 142)=W3 at HM2 HX2 ⊢
   go_wp2_with fail
   refine seal_turns hl HCH.out hpl HNN.out hqg HM2.out HX2.out ?_
   intro _ _ _ _ _ _ _ _ _ _ _ _ _ _ _ _ _ _ _ _ _ _ _ _ _ W4 hm4 hx4
   have HM4:=Lib.hid hm4
   have x4:W4.heap[gk]? = some (.cells (pgCells .u64 0 (turnAll ns ch)) 142 (0,0)):=hx4
   clear hm4 hx4 HM2 HX2 hip
   have htl:(turnAll ns ch).length=16:=(turnAll_length _ _).trans hpl
   have HPU:=Lib.hid (refPut_anyP 0 (turnAll ns ch) htl (fun j hj=>turnAll_lt _ _ HNN.out _ (List.getElem_mem hj)) W4)
   rw [putE_yes (show 0 < kP.lim by decide)] at HPU
   have hbl:(putB kP 0 (turnAll ns ch)).length=256:=putB_length fP 0 htl
   obtain ⟨bl,hble⟩:∃ z,z=putB kP 0 (turnAll ns ch):=⟨_,rfl⟩
   have HBL:=Lib.hid hble
   rw [←hble] at HPU hbl
   clear hble
   have hsb:=sizeBlock bl hbl
   go_wp2_with (refine wpList_load_row rfl 142 _ rfl gk rfl _ _ _ _ x4 Tryz.underlying142 rfl hip2 ?_)
   refine HPU.out.mono ?_
   clear HPU x4
   rintro e W6 ⟨rfl,hx⟩
   have HM6:=Lib.hid ((HM4.out.below hx).below ((Below.refl W6.heap.size W6).alloc (Nat.le_refl _) (.cells (cellsOf bl) 39)))
   have h6:Holds (W6.alloc (.cells (cellsOf bl) 39)) W6.heap.size bl:=Holds.new W6 bl
   clear HM4 hx
   have tok:True:=trivial
   go_upto_region 29 with (have _t:=tok; refine wpList_store_new rfl 39 _ _ rfl (cellsOf bl) _ _ (by simp [Act.eval]) rfl hsb (by rw [cellsOf_size,cellsOf_size,hbl,zeros_length]) (cellsOf_one _) ?_; clear _t tok)
   generalize W6.heap.size=gb at h6 ⊢
   generalize W6.alloc (.cells (cellsOf bl) 39)=W7 at h6 HM6 ⊢
   obtain ⟨p5,c5,hv5,_⟩:=own_slice HM6.out.c5
   subst hv5
   refine wp_region_noPanic ?_
   refine wp_region_held_drew (S:=fun W=>Below w.heap.size w W∧Holds W gb bl∧W.heap[q]? = some (.cells cs 65 (0,0))) (by kernel_rfl) ⟨(HM6.out.below (Below.refl _ _).drew).bel,h6,HM6.out.r0⟩ ?_
   intro hS
   have HM7:=Lib.hid (HM6.out.below (W':=W7.drew) (Below.refl _ _).drew)
   clear HM6 h6
   generalize W7.drew=V0 at hS HM7 ⊢
   obtain ⟨pc,hpc⟩:∃ z,z=putCells (oth at_,bl):=⟨_,rfl⟩
   have HPC:=Lib.hid hpc
   have hpl2:pc.length=257:=by rw [hpc]; exact putCells_length hbl
   have HBU:=Lib.hid (fun W=>run_buildPut W (oth at_,bl) hbl)
   rw [←hpc] at HBU
   clear hpc
   refine RowLaw.tkV 0 145 (.slice p5 out.length c5) hS ?_
   simp only [RowLaw.lset]
   refine RowLaw.tkV 1 146 (.agg cs) hS ?_ (hy:=(yieldsIf_load_row (by rfl) 65 _ rfl q rfl _ _ _ _ (fun W hW=>hW.2.2) Tryz.underlying65 rfl hidt))
   simp only [RowLaw.lset]
   refine RowLaw.tkV 2 147 (.int .u32 0) hS ?_
   simp only [RowLaw.lset]
   refine RowLaw.tkV 5 150 (.agg (cellsOf bl)) hS ?_ (hy:=(yieldsIf_load_row (by rfl) 39 _ rfl gb rfl _ _ _ _ (fun W hW=>hW.2.1) Tryz.underlying39 rfl hsb))
   simp only [RowLaw.lset]
   refine wpAnyH_ready (rs:=[3]) (by kernel_rfl) (by simp) ?_
   refine AllReadyH.cons rfl (fun K hK=>?_) AllReadyH.nil
   rw [if_pos (by rfl)]
   go_simp
   refine (HPA.out V0 HM7.out.dt).mono ?_
   clear HPA
   rintro e V2 ⟨rfl,hx⟩
   dsimp only
   have HMx:=Lib.hid (HM7.out.below hx)
   have hSx:Below w.heap.size w V2∧Holds V2 gb bl∧V2.heap[q]? = some (.cells cs 65 (0,0)):=⟨HMx.out.bel,hS.2.1.below hx hS.2.1.lt,HMx.out.r0⟩
   refine hK _ _ hSx (fun _=>?_)
   clear hK K HM7 hx hS
   try simp only [Act.put,List.setIfInBounds_toArray,RowLaw.lset]
   refine wpAnyH_ready (rs:=[4]) (by kernel_rfl) (by simp) ?_
   refine AllReadyH.cons rfl (fun K hK=>?_) AllReadyH.nil
   rw [if_pos (by rfl)]
   go_simp
   refine (other_any at_ hat V2).mono ?_
   rintro e V1 ⟨rfl,rfl⟩
   dsimp only
   refine hK _ _ hSx (fun _=>?_)
   clear hK K
   try simp only [Act.put,List.setIfInBounds_toArray,RowLaw.lset]
   refine RowLaw.tkV 6 151 (.agg pc.toArray) hSx ?_ (hy:=(Or.inl ⟨by rfl,fun W _=>by rw [HPC.out]; exact exec_build 149 150 rfl (oth at_) bl hbl rfl rfl W⟩))
   simp only [RowLaw.lset]
   refine wpAnyH_ready (rs:=[7]) (by kernel_rfl) (by simp) ?_
   refine AllReadyH.cons rfl (fun K hK=>?_) AllReadyH.nil
   rw [if_pos (by rfl)]
   refine wp_slice_row _ 44 1 #[(0,.tmp 151)] rfl #[(0,.agg pc.toArray)] (by first | rfl | (simp [Act.eval]; done) | (simp [Act.eval]; rfl)) _ (HBU.out _) ?_
   have hab:=(Below.refl V1.heap.size V1).alloc (Nat.le_refl _) (.cells pc.toArray 55)
   have HM8:=Lib.hid (HMx.out.below hab)
   have hS8:Below w.heap.size w (V1.alloc (.cells pc.toArray 55))∧Holds (V1.alloc (.cells pc.toArray 55)) gb bl∧(V1.alloc (.cells pc.toArray 55)).heap[q]? = some (.cells cs 65 (0,0)):=⟨HM8.out.bel,hSx.2.1.alloc _,HM8.out.r0⟩
   refine hK _ _ hS8 (fun _=>?_)
   clear hK K HMx hab hSx
   try simp only [Act.put,List.setIfInBounds_toArray,RowLaw.lset]
   refine wpAnyH_ready (rs:=[8]) (by kernel_rfl) (by simp) ?_
   refine AllReadyH.cons rfl (fun K hK=>?_) AllReadyH.nil
   rw [if_pos (by rfl)]
   refine wp_append_own _ _ _ 44 rfl (q+1) 55 ik (.agg (putCells (0,zeros)).toArray) 257 260 Tryz.underlying44 HIK.out.1 HIK.out.2.1 HIK.out.2.2.1 HIK.out.2.2.2 (putCells_length zeros_length) (by decide) _ out.length (pendCells out) rfl HM8.out.c5 ⟨V1.heap.size,0,none⟩ 1 1 pc rfl (by rw [hpl2]) (Dev.new_cells V1 pc 55) (by rw [HPC.out]; exact putCells_one _) (Nat.le_trans (show out.length+1≤1000001 by omega) (by decide)) (by omega) (by have:=(Array.getElem?_eq_some_iff.1 HM8.out.r0).1; omega) ?_
   intro v8 V8 hown hgr _
   rw [HPC.out] at hown
   have HM9:=Lib.hid (HM8.out.push (y:=(oth at_,bl)) hown hgr)
   have hS9:Below w.heap.size w V8∧Holds V8 gb bl∧V8.heap[q]? = some (.cells cs 65 (0,0)):=⟨HM9.out.bel,(hgr.block gb (hS8.2.1.lt) (own_ne HM8.out.c5 hS8.2.1 (by decide))).trans hS8.2.1,HM9.out.r0⟩
   refine hK _ _ hS9 (fun _=>?_)
   clear hK K HM8 hown hgr hS8
   try simp only [Act.put,List.setIfInBounds_toArray,RowLaw.lset]
   refine wpAnyH_take (i:=9) (v:=v8) rfl (by kernel_rfl) (by kernel_rfl) (by kernel_rfl) (fun _ _ _ h=>(h:False).elim) (Or.inl ⟨by rfl,fun _ _=>by go_simp⟩) hS9 ?_
   change wpAnyH _ _ _ _ _ _ _ (Act.put _ (some 5) _) _
   simp only [Act.put,List.setIfInBounds_toArray,RowLaw.lset]
   have HFIN:=Lib.hid (show SlB A w x r L cs q (.slice p6 ch.length c6) ch v8 (out ++ List.replicate 1 (pkD s r ch)) V8 from by
    rw [HPK.out,←HBL.out]
    exact HM9.out)
   clear HM9 hS9
   refine wpAnyH_done (by kernel_rfl) ?_ _
   refine NoPanic.normal ?_
   go_wp2_with fail
   go_roundw
   case rel=>exact ⟨1,_,by omega,rfl,by go_num,Lib.hid (fun h=>by cases h),HFIN⟩
   case measure=>simp [intOf]; omega
  ·have hkn:k=tn.length:=by omega
   have i1:¬ (k:Int) < (tn.length:Int):=by omega
   have HE:=Lib.hid (show SlB A w x r L cs q (.slice p6 ch.length c6) ch _ (out ++ List.replicate tn.length (pkD s r ch)) wr from by have:=HM.out; rwa [hkn] at this)
   clear hkn
   go_wp2_with fail
   exact HEX.out _ _ _ _ _ _ _ _ _ _ _ _ _ _ _ _ _ _ _ _ _ _ _ _ _ _ _ _ _ _ _ _ _ _ _ _ _ _ _ _ _ _ _ _ _ _ _ _ _ _ _ _ _ _ _ _ _ _ _ _ _ _ _ _ _ _ _ _ ⟨_,rfl⟩ HE.out
end Spc
namespace Spc
open Go.RowKit RowLaw
open Dev (ptr DS pendCells)
open Cnt (own_slice own_kept own_base own_ne TD tdOf tdOf_ok Sound pkAt tlAt)
open Slt (Rt cells cells_one infoR sizeR)
open Tal (kT kP fT fP putB putB_length)
open Rot (planOk tlN pkN fsN)
variable {A:Nat→Prop}
theorem insD_mem {a y:Nat} {l:List Nat} (h:y∈insD a l):y=a∨y∈l:=by
 unfold insD at h
 split at h
 ·exact .inr h
 ·rcases List.mem_append.1 h with h | h
  ·rcases List.mem_append.1 h with h | h
   ·exact .inr (List.mem_of_mem_take h)
   ·exact .inl (by simpa using h)
  ·exact .inr (List.mem_of_mem_drop h)
theorem chg_fold (s:DS) (r:Rt) (L:List (Nat×Nat)):∀ (M:List (Nat×Nat)) (acc:List Nat),(∀ y∈acc,y < s.n)→∀ y∈M.foldl (fun l x=>if oldS s r x.1=getS s r L x.1 then l else insD x.1 l) acc,y < s.n
 | [],_,h,y,hy=>h y hy
 | x::M,acc,h,y,hy=>by
  refine chg_fold s r L M _ (fun z hz=>?_) y hy
  simp only at hz
  split at hz
  ·exact h z hz
  ·rename_i hne
   rcases insD_mem hz with rfl | hz
   ·refine Classical.byContradiction fun hn=>hne ?_
    rw [oldS_out (by omega)]
    unfold getS
    rw [if_pos (by omega)]
   ·exact h z hz
theorem chgD_lt {s:DS} {r:Rt} {L M:List (Nat×Nat)}:∀ y∈chgD s r L M,y < s.n:=chg_fold s r L M [] (fun y hy=>by cases hy)
theorem chgD_length (s:DS) (r:Rt) (L:List (Nat×Nat)):(chgD s r L L).length≤L.length:=by
 have:=chgD_len s r L L L.length
 rwa [List.take_length] at this
theorem pages_fold (per:Nat):∀ (xs acc:List Nat) (P:Nat→Prop),(∀ y∈acc,P y)→(∀ a∈xs,P (a / per))→∀ y∈xs.foldl (fun out a=>if out.getLast? = some (a / per) then out else out ++ [a / per]) acc,P y
 | [],_,_,h,_,y,hy=>h y hy
 | a::xs,acc,P,h,hx,y,hy=>by
  refine pages_fold per xs _ P (fun z hz=>?_) (fun b hb=>hx b (List.mem_cons_of_mem _ hb)) y hy
  simp only at hz
  split at hz
  ·exact h z hz
  ·rcases List.mem_append.1 hz with hz | hz
   ·exact h z hz
   ·simp only [List.mem_singleton] at hz
    subst hz
    exact hx a List.mem_cons_self
theorem pagesD_all {per:Nat} {xs:List Nat} (P:Nat→Prop) (h:∀ a∈xs,P (a / per)):∀ y∈pagesD per xs,P y:=pages_fold per xs [] P (fun y hy=>by cases hy) h
theorem pages_zero (per:Nat):∀ xs:List Nat,(∀ a∈xs,a / per=0)→xs.foldl (fun out a=>if out.getLast? = some (a / per) then out else out ++ [a / per]) [0]=[0]
 | [],_=>rfl
 | a::xs,h=>by
  rw [List.foldl_cons,h a List.mem_cons_self,if_pos (show [0].getLast? = some 0 from rfl)]
  exact pages_zero per xs (fun b hb=>h b (List.mem_cons_of_mem _ hb))
theorem pagesD_zero (per:Nat):∀ xs:List Nat,(∀ a∈xs,a / per=0)→pagesD per xs=if xs=[] then [] else [0]
 | [],_=>rfl
 | a::xs,h=>by
  rw [if_neg (by simp)]
  unfold pagesD
  rw [List.foldl_cons,h a List.mem_cons_self,if_neg (by simp)]
  exact pages_zero per xs (fun b hb=>h b (List.mem_cons_of_mem _ hb))
theorem pagesD_length (per:Nat) (xs:List Nat):(pagesD per xs).length≤xs.length:=by
 have:=pagesD_len per xs xs.length
 rwa [List.take_length] at this
def chP (s:DS) (r:Rt) (L:List (Nat×Nat)):List Nat:=pagesD 64 (chgD s r L L)
def sealD (s:DS) (r:Rt) (L:List (Nat×Nat)):List (Nat×List UInt8):=(chP s r L).map (tlD s r L) ++ (if chP s r L=[] then [] else [pkD s r (chP s r L)])
theorem chP_lt {x:RS} {r:Rt} {s:DS} (hS:Sees x r s) (L:List (Nat×Nat)):∀ y∈chP s r L,y < tlN s.n:=pagesD_all _ fun a ha=>by
 have h1:=chgD_lt a ha
 have h2:=hS.small
 omega
theorem oth_lt {a b:Nat} (h:a < b) (hb:b < 4294967295):oth a < 4294967296:=by
 unfold oth
 split <;> omega
theorem sealD_ok {x:RS} {r:Rt} {s:DS} (hS:Sees x r s) (L:List (Nat×Nat)):∀ y∈sealD s r L,y.2.length=256∧y.1 < 4294967296:=fun y hy=>by
 have hok:=tdOf_ok (d:=0) hS.sound.plan hS.sound.chl
 have hn:(tdOf 0 s r.picks).n=s.n:=rfl
 have hsm:=hS.small
 unfold sealD at hy
 rcases List.mem_append.1 hy with hy | hy
 ·obtain ⟨p,hp,rfl⟩:=List.mem_map.1 hy
  have h1:=Cnt.tlAt_lt hok (chP_lt hS L p hp)
  exact ⟨putB_length fT p (nowTo_len _ _ _ _ _),oth_lt h1 (by omega)⟩
 ·split at hy
  ·cases hy
  ·simp only [List.mem_singleton] at hy
   subst hy
   have h1:=Cnt.pkAt_lt hok (show 0 < pkN s.n by rw [hS.one]; omega)
   exact ⟨putB_length fP 0 ((Cnt.turnAll_length _ _).trans (hok.pl 0)),oth_lt h1 (by omega)⟩
theorem Seal9_any {w:World} {v:Value} {x:RS} {r:Rt} {L:List (Nat×Nat)} {s:DS} (h:DT A w v x r L) (hS:Sees x r s) (hL:L.length < 1000000) (hAA:∀ b,w.heap.size≤b→A b):Calls Tryz.prog 97 #[v] w fun e w'=>∃ (v':Value) (z:Int),e=.returned (.tuple #[v',.int .u32 z,.int .i64 0])∧PutsV A w' v' (sealD s r L).length (sealD s r L)∧Below w.heap.size w w':=by
 have h0:=h
 obtain ⟨vg,vw,vl,rfl,h2,h3⟩:=h
 have hLv:∀ y∈L,y.2 < 65536:=fun y hy=>(h3.ok y hy).2
 have HLV:=Lib.hid hLv; clear hLv
 have hidt:=sizeDT x.n vg vw x.wr r vl
 have hsz:=hS.size
 have hc8:(dtC x.n vg vw x.wr r vl)[8]? = some (.int .u32 (s.n:Int)):=by rw [←hsz]; rfl
 have hc9:(dtC x.n vg vw x.wr r vl)[9]? = some (.int .u32 (r.picks:Int)):=rfl
 have hq:=heap_alloc_new w (.cells (dtC x.n vg vw x.wr r vl) 65)
 have hb:Below w.heap.size w (w.alloc (.cells (dtC x.n vg vw x.wr r vl) 65)):=(Below.refl _ _).alloc (Nat.le_refl _) _
 have hsw:(w.alloc (.cells (dtC x.n vg vw x.wr r vl) 65)).heap.size=w.heap.size+1:=World.size_alloc _ _
 have HC:=Lib.hid (Changed9_any (h0.kept hb) hS hL)
 have HDW:=Lib.hid h0
 have HSS:=Lib.hid hS
 have hcl:=chgD_length s r L
 have hclt:=Lib.hid (fun y (hy:y∈chgD s r L L)=>(show y < 4294967296 from by have h1:=chgD_lt y hy; have h2:=hS.small; omega))
 have hchl:(chP s r L).length < 1000000:=by
  have:=pagesD_length 64 (chgD s r L L)
  unfold chP
  omega
 have HCP:=Lib.hid (chP_lt hS L)
 have HSM:=Lib.hid hS.small
 have HOK:=Lib.hid (sealD_ok hS L)
 have htn:=pagesD_zero 1024 (chP s r L) (fun a ha=>by have h1:=chP_lt hS L a ha; have h2:=hS.small; omega)
 obtain ⟨R,hR⟩:∃ R,R=sealD s r L:=⟨_,rfl⟩
 have HR:=Lib.hid (show R=(chP s r L).map (tlD s r L) ++ (if chP s r L=[] then [] else [pkD s r (chP s r L)]) from hR)
 rw [←hR] at HOK ⊢
 have HCH:=Lib.hid (show chP s r L=pagesD 64 (chgD s r L L) from rfl)
 clear hR h2 h3 hS hsz
 generalize chgD s r L L=cg at HC hcl hclt HCH
 generalize chP s r L=ch at HR HCP HCH htn hchl
 have HTN:=Lib.hid htn
 have htl:(pagesD 1024 ch).length≤1:=by rw [htn]; split <;> simp
 have HT0:=Lib.hid (show ∀ y∈pagesD 1024 ch,y=0 from fun y hy=>by
  rw [htn] at hy
  split at hy
  ·cases hy
  ·simpa using hy)
 clear htn
 obtain ⟨cs,hcs⟩:∃ cs,cs=dtC x.n vg vw x.wr r vl:=⟨_,rfl⟩
 go_enter Tryz.func97,Tryz.ntmps97
 go_upto_region 1 with fail
 change Code.wp _ _ _ _ (w.alloc (.cells (dtC x.n vg vw x.wr r vl) 65))
 rw [←hcs] at hidt hc8 hc9 hq hb hsw HC HDW ⊢
 clear hcs
 obtain ⟨q,hqq⟩:∃ q,q=w.heap.size:=⟨_,rfl⟩
 rw [←hqq] at hq hsw ⊢
 have HQ:=Lib.hid hqq
 clear hqq
 generalize w.alloc (.cells cs 65)=W1 at hb hq hsw HC ⊢
 go_wp2_with (refine wpList_load_row rfl 65 _ rfl q rfl _ _ _ _ hq Tryz.underlying65 rfl hidt ?_)
 refine HC.out.mono ?_
 clear HC
 rintro e W2 ⟨v1,rfl,hu,hx⟩
 have hq2:=(hx.block q (Array.getElem?_eq_some_iff.1 hq).1).trans hq
 have b2:=hb.trans (hx.mono hb.size)
 have hs2:=hx.size
 clear hx hb hq
 have HPG:=Lib.hid (pages9_any (per:=64) hu (by omega) hclt.out (by omega) (by omega))
 rw [←HCH.out] at HPG
 obtain ⟨pv1,cv1,hv1,_⟩:=own_slice hu.row
 subst hv1
 clear hu
 go_wp2_with fail
 refine HPG.out.mono ?_
 clear HPG
 rintro e W3 ⟨v6,rfl,hu,hx⟩
 have HM3:Hid (SlB A w x r L cs q v6 ch (.slice none 0 0) [] W3):=Lib.hid ⟨HDW.out.kept (b2.trans (hx.mono b2.size)),(hx.block q (Array.getElem?_eq_some_iff.1 hq2).1).trans hq2,⟨hu.len,own_base hu.row (by omega)⟩,World.ownsRow_nil _ _ _ _,b2.trans (hx.mono b2.size),by have:=HQ.out; omega,HDW.out⟩
 obtain ⟨p6,c6,hv6,_⟩:=own_slice hu.row
 subst hv6
 clear hu hx hq2 b2 hs2 hsw
 go_wp2_with fail
 refine seal_tallies HSS.out hL HLV.out hidt hc8 hchl HCP.out HM3.out ?_
 intro u5 _ _ _ _ _ _ _ _ _ _ _ _ _ _ _ _ _ _ _ _ _ _ _ _ _ _ _ _ _ _ _ _ _ _ _ _ _ _ _ _ _ _ _ _ _ _ _ _ _ _ _ _ _ _ _ _ _ _ _ _ _ _ _ _ _ _ _ _ _ _ _ _ _ _ _ _ W4 hm4
 have HM4:=Lib.hid hm4
 clear hm4 HM3
 have c9:W4.cell? ⟨q,9,none⟩=some (.int .u32 (r.picks:Int)):=(cell_of_row W4 q 9 _ _ _ HM4.out.r0).trans hc9
 have HPG:=Lib.hid (pages9_any (per:=1024) HM4.out.c6 hchl (fun y hy=>by have h1:=HCP.out y hy; have h2:=HSM.out; omega) (by omega) (by omega))
 go_wp2_with fail
 refine HPG.out.mono ?_
 clear HPG c9
 rintro e W5 ⟨v17,rfl,hu,hx⟩
 have HM5:=Lib.hid (HM4.out.below hx)
 have hqs:=(Array.getElem?_eq_some_iff.1 HM4.out.r0).1
 have HU:Hid (U32V W5 (q+1) v17 (pagesD 1024 ch).length (pagesD 1024 ch)):=Lib.hid ⟨hu.len,own_base hu.row (by omega)⟩
 obtain ⟨p17,c17,hv17,_⟩:=own_slice hu.row
 subst hv17
 clear hu hx HM4 hqs
 go_wp2_with fail
 refine seal_picks HSS.out hidt hchl (by rw [List.length_map]; exact hchl) (fun y hy=>by have h1:=HCP.out y hy; have h2:=HSM.out; omega) htl HT0.out HM5.out HU.out ?_
 intro u5 u16 _ _ _ _ _ _ _ _ _ _ _ _ _ _ _ _ _ _ _ _ _ _ _ _ _ _ _ _ _ _ _ _ _ _ _ _ _ _ _ _ _ _ _ _ _ _ _ _ _ _ _ _ _ _ _ _ _ _ _ _ _ _ _ _ _ W6 hz hm6
 obtain ⟨z,rfl⟩:=hz
 have HE:Hid (PutsV A W6 u5 R.length R∧Below w.heap.size w W6):=Lib.hid (by
  have hrep:List.replicate (pagesD 1024 ch).length (pkD s r ch)=if ch=[] then [] else [pkD s r ch]:=by
   rw [HTN.out]
   split <;> rfl
  have h5:=hm6.c5
  rw [hrep,←HR.out] at h5
  exact ⟨⟨rfl,own_base h5 (Nat.zero_le _),HOK.out,fun b e=>hAA b (Nat.le_trans hm6.ge (Nat.le_trans (Nat.le_succ q) (h5.lt b e).1))⟩,hm6.bel⟩)
 clear hm6 HM5 HU
 go_wp2_with fail
 go_ret3
 exact ⟨_,_,rfl,HE.out.1,HE.out.2⟩
end Spc

end Go.Proofs.YtgkbfahflngklaaGreat
