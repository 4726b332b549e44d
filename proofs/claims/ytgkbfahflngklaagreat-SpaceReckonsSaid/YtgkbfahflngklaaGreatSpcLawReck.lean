import Derived.Test.YtgkbfahflngklaaGreatSpcW2
import Derived.Test.YtgkbfahflngklaaGreatSpcO2
set_option maxRecDepth 100000
set_option maxHeartbeats 12800000
namespace Go.Proofs.YtgkbfahflngklaaGreat
namespace Spc
open Go.RowKit RowLaw
open Go.Proofs.YtgkbfahflngklaaGreat.Dev (Dev DS ptr)
open Go.Proofs.YtgkbfahflngklaaGreat.Cnt (Thing Hall TD loopsOf nowO nowCs nowCs_get nowCs_set make_16)
open Go.Proofs.YtgkbfahflngklaaGreat.Slt (Rt cells cells_one rootO infoR sizeR)
open Go.Proofs.YtgkbfahflngklaaGreat.Rot (fsN tlN pkN planOk plan_facts planCells planCells_one sizePlan infoPlan refLayout_yes)
set_option linter.unusedVariables false
set_option linter.unusedSimpArgs false
theorem Sk.made {w W W': World} {q n g: Nat} {E: List (Nat×Obj)} {S: SS} {o: Obj} (x: Sk w q n E S W) (hb: Below W.heap.size W W') (hg: g=W.heap.size) (hr: W'.heap[g]? = some o): Sk w q n ((g,o)::E) S W':=
 x.more (Ks:=[(g,o)]) hb (fun y hy=>by
  simp only [List.mem_singleton] at hy
  subst hy
  exact ⟨hr,by omega⟩)
theorem SpaceReckons_any {w:World} {n m cap mA capA:Nat} {xs ys:List (Nat×Nat)} {pa pA:Option Addr} (hm:m=xs.length) (hx:Olds w pa xs) (hn32:n < 4294967296) (hmA:mA=ys.length) (hA:Acts w pA ys) :
  Calls Tryz.prog 6 #[.int .u32 (n:Int),.slice pa m cap,.slice pA mA capA] w fun e w'=>e=.returned (.bool true)∧Below w.heap.size w w':=by
 have HH:=Lib.hid (head_any w)
 have HA:=Lib.hid hA; have HMA:=Lib.hid hmA
 clear hA hmA
 by_cases hin:64≤n∧n≤200∧m≤40
 ·have HX:=Lib.hid hx; have HM:=Lib.hid hm
  clear hx hm HH
  obtain ⟨h64,h200,hm40⟩:=hin
  have hpl:planOk n=true:=by show decide _=true; exact decide_eq_true (by omega)
  obtain ⟨-,hfs1,-⟩:=plan_facts h64 (show n≤1048576 by omega)
  have hbg:=begun_any (w:=w) (cap:=cap) HM.out (show m≤1000 by omega) HX.out h64 (show n≤700 by omega) (show m * 5 < 4294967296 by omega)
  have hly:=fun W=>refLayout_yes hpl W
  obtain ⟨cp,hcp⟩:∃ c,c=planCells (tlN n) (pkN n) (fsN n):=⟨_,rfl⟩
  have hzp1:(Tryz.prog.info? 82).map (·.size)=some cp.size∧cp.size=3∧cp.all (·.oneCell')=true:=by rw [hcp]; exact ⟨sizePlan _ _ _,rfl,planCells_one _ _ _⟩
  have HCP:Hid (cp[2]? = some (.int .u32 (fsN n:Int))):=Lib.hid (by rw [hcp]; rfl)
  rw [←hcp] at hly
  obtain ⟨fs,hfs⟩:∃ z,z=fsN n:=⟨_,rfl⟩
  rw [←hfs] at hbg hfs1
  rw [show ((m * 5:Nat):Int)=(m:Int) * 5 by omega] at hbg
  have zm:IntKind.u32.wrap (m:Int)=(m:Int):=IntWalk.u32_in _ (by omega)
  have zm5:IntKind.u32.wrap ((m:Int) * 5)=(m:Int) * 5:=IntWalk.u32_in _ (by omega)
  have HFS:=Lib.hid hfs
  have HBG:=Lib.hid hbg; have HLY:=Lib.hid hly
  have hzb:=(zero_of_info infoBoth).1
  have hzp:=(zero_of_info infoPlan).1
  have hz1:¬ (n:Int) < 64:=by omega
  have hz2:¬ (200:Int) < (n:Int):=by omega
  have hz3:¬ (40:Int) < (m:Int):=by omega
  clear hpl hbg hly hcp hfs
  go_enter Tryz.func6,Tryz.ntmps6
  go_wp2_with fail
  refine HBG.out.mono ?_
  clear HBG
  rintro e W1 ⟨bx,t1,t,p,q,T1,s,S,K,x,r,vg,vw,vl,rfl,hb⟩
  have hsl:=hb.qt
  obtain ⟨vg',vw',vl',he,hr0,hl0⟩:=hsl
  simp only [qC,Value.agg.injEq,Array.mk.injEq,List.cons.injEq] at he
  obtain ⟨-,hvg,hvw,-,-,-,-,-,-,-,-,-,-,-,-,hvl,-⟩:=he
  subst hvg hvw hvl
  have hb1c:=bothC_one q x.n x.wr r r.free r.hint fs 0 0 hr0.slices.1 hr0.slices.2 hl0.slice
  have hib:=sizeBoth (.pointer (some ⟨q,0,none⟩)) x.n vg vw x.wr r vl r.free r.hint fs 0 0
  have HBB:=Lib.hid hb
  have hst:=heap_alloc_new W1 (.cells bothZ 69)
  clear hb hr0 hl0
  go_upto_region 4 with (refine wpList_store_row rfl 69 _ _ rfl W1.heap.size (bothC (.pointer (some ⟨q,0,none⟩)) x.n vg vw x.wr r vl r.free r.hint fs 0 0) rfl rfl _ _ hst hib rfl hb1c ?_)
  change Code.wp _ _ _ _ ((W1.alloc (.cells bothZ 69)).setRow W1.heap.size (bothC (.pointer (some ⟨q,0,none⟩)) x.n vg vw x.wr r vl r.free r.hint fs 0 0))
  rw [World.setRow_alloc_new]
  have o1:=heap_alloc_new W1 (.cells (bothC (.pointer (some ⟨q,0,none⟩)) x.n vg vw x.wr r vl r.free r.hint fs 0 0) 69)
  have hbe:Below W1.heap.size W1 (W1.alloc (.cells (bothC (.pointer (some ⟨q,0,none⟩)) x.n vg vw x.wr r vl r.free r.hint fs 0 0) 69)):=(Below.refl _ _).alloc (Nat.le_refl _) _
  have c0:(W1.alloc (.cells (bothC (.pointer (some ⟨q,0,none⟩)) x.n vg vw x.wr r vl r.free r.hint fs 0 0) 69)).cell? ⟨W1.heap.size,0,none⟩=some (.pointer (some ⟨q,0,none⟩)):=(cell_of_row _ W1.heap.size 0 _ _ _ o1).trans rfl
  have HBE:=Lib.hid hbe
  clear hst hb1c hib hbe o1
  generalize W1.alloc (.cells (bothC (.pointer (some ⟨q,0,none⟩)) x.n vg vw x.wr r vl r.free r.hint fs 0 0) 69)=W2 at HBE c0 ⊢
  generalize hgB:W1.heap.size=gB at HBE c0 ⊢
  have HGB:=Lib.hid hgB
  clear hgB
  have heq:=eqSp q
  go_wp2_with fail
  refine (HLY.out W2).mono ?_
  clear HLY c0 heq
  rintro e W3 ⟨rfl,hb3⟩
  have hb13:Below W1.heap.size W1 W3:=by
   have h1:=HBE.out
   rw [←HGB.out] at h1
   exact h1.trans (hb3.mono h1.size)
  have HSV:=Lib.hid ((HBB.out.sk.below hb13).alloc (.cells cp 82))
  have HGP:=Lib.hid (Nat.le_trans HBB.out.sk.bel.size hb13.size)
  have HST:=Lib.hid HBB.out.start
  have hst:=heap_alloc_new W3 (.cells #[.int .u32 0,.int .u32 0,.int .u32 0] 82)
  clear HBB HBE HGB hb3 hb13
  go_upto_region 8 with (refine wpList_store_row rfl 82 _ _ rfl W3.heap.size cp rfl rfl _ _ hst hzp1.1 (by rw [hzp1.2.1]; first | done | rfl) hzp1.2.2 ?_)
  change Code.wp _ _ _ _ ((W3.alloc (.cells #[.int .u32 0,.int .u32 0,.int .u32 0] 82)).setRow W3.heap.size cp)
  rw [World.setRow_alloc_new]
  clear hst
  generalize W3.alloc (.cells cp 82)=W4 at HSV ⊢
  generalize W3.heap.size=gp at HSV HGP ⊢
  clear hzp1 hzb hzp hz1 hz2 hz3 zm zm5
  refine wp_region_noPanic ?_
  refine wp_region_held_drew (S:=fun W=>Sk w q n [(gp,Obj.cells cp 82 (0,0))] S W) (by kernel_rfl) (HSV.out.below ⟨rfl,rfl,rfl,Nat.le_refl _,fun _ _=>rfl⟩) ?_
  intro hS
  have hlp:=hS.lt_ (g:=gp) (o:=Obj.cells cp 82 (0,0)) List.mem_cons_self
  have hsz:=hS.bel.size
  clear HSV
  generalize W4.drew=V0 at hS hlp hsz ⊢
  refine RowLaw.tkV 0 57 (.int .u32 (n:Int)) hS ?_
  simp only [RowLaw.lset]
  refine RowLaw.tkV 2 59 (.int .u32 (n:Int)) hS ?_
  simp only [RowLaw.lset]
  refine wpAnyH_ready (rs:=[1,3]) (by kernel_rfl) (by simp) ?_
  refine AllReadyH.cons rfl (fun K hK=>?_) (AllReadyH.cons rfl (fun K hK=>?_) AllReadyH.nil)
  ·have hx0:=hS
   rw [if_pos (by rfl)]
   obtain ⟨V1,go,ca,hmk,hg,hrow,hb⟩:=make_16 V0 n (by omega)
   have hx1:=hx0.made hb hg hrow
   have HLTgo:=Lib.hid hg
   clear hrow hg
   go_simp
   refine hK _ _ (Sk.less hx1 (fun z hz=>List.mem_cons_of_mem _ hz)) (fun hfz=>?_)
   clear hfz hK K hmk
   try simp only [Act.put,List.setIfInBounds_toArray,RowLaw.lset]
   have HSZ1:Hid (V0.heap.size≤V1.heap.size):=Lib.hid hb.size
   have HS1:=Lib.hid (hx1.lt_ (g:=go) (o:=nowO (List.replicate n 0)) List.mem_cons_self)
   clear hb
   have hSA:=Sk.less hx1 (E':=[(gp,Obj.cells cp 82 (0,0))]) (fun z hz=>List.mem_cons_of_mem _ hz)
   refine RowLaw.tkV 4 11 (.slice (some ⟨go,0,none⟩) n ca) hSA ?_
   simp only [RowLaw.lset]
   refine wpAnyH_ready (rs:=[3]) (by kernel_rfl) (by simp) ?_
   refine AllReadyH.cons rfl (fun K hK=>?_) AllReadyH.nil
   rw [if_pos (by rfl)]
   obtain ⟨V2,gn,cb,hmk,hg,hrow,hb⟩:=make_16 V1 n (by omega)
   have hx2:=hx1.made hb hg hrow
   have HLTgn:=Lib.hid hg
   clear hrow hg
   go_simp
   refine hK _ _ (Sk.less hx2 (fun z hz=>List.mem_cons_of_mem _ (List.mem_cons_of_mem _ hz))) (fun hfz=>?_)
   clear hfz hK K hmk
   try simp only [Act.put,List.setIfInBounds_toArray,RowLaw.lset]
   have hSB:=Sk.less hx2 (E':=[(gp,Obj.cells cp 82 (0,0))]) (fun z hz=>List.mem_cons_of_mem _ (List.mem_cons_of_mem _ hz))
   have HNE:Hid (go≠gn∧gp≠go∧gp≠gn∧w.heap.size≤go∧w.heap.size≤gn):=Lib.hid (by
    have h1:=HLTgo.out; have h2:=HLTgn.out; have h3:=HSZ1.out; have h4:=HS1.out
    omega)
   have HK:=Lib.hid (Sk.less hx2 (E':=[(gn,nowO (List.replicate n 0)),(go,nowO (List.replicate n 0)),(gp,Obj.cells cp 82 (0,0))]) (fun z hz=>by
    simp only [List.mem_cons,List.not_mem_nil,or_false] at hz ⊢
    rcases hz with hz | hz | hz
    ·exact .inl hz
    ·exact .inr (.inl hz)
    ·exact .inr (.inr hz)))
   clear hb hx0 hx1 hx2 hSA hlp hsz HSZ1 HS1 HLTgo HLTgn hS
   refine RowLaw.tkV 5 12 (.slice (some ⟨gn,0,none⟩) n cb) hSB ?_
   simp only [RowLaw.lset]
   refine wpAnyH_done (by kernel_rfl) ?_ _
   refine NoPanic.normal ?_
   clear hSB
   have kp:=HK.out.cell (g:=gp) (cs:=cp) (T:=82) (j:=2) (by simp) HCP.out
   rw [←HFS.out] at kp
   go_wp2_with fail
   clear kp
   refine reck_first (op:=Obj.cells cp 82 (0,0)) HFS.out hfs1 (by omega) HNE.out.1 HNE.out.2.1 HNE.out.2.2.1 HNE.out.2.2.2.1 HNE.out.2.2.2.2 (by rw [ini_zero]; exact HK.out) ?_
   intro _ _ _ _ _ _ _ _ _ _ _ _ _ _ _ _ _ _ _ _ _ _ V3 hx3
   have HWK:Hid (Wk w q gp go gn n fs (Obj.cells cp 82 (0,0)) (ini S.T.nowC fs n n) S.T.oldC V3):=Lib.hid ⟨S,ini S.T.nowC fs n n,hx3,ini_len _ _ _ _,(fun b b1 b2=>by rw [ini_get b2,if_pos ⟨b1,b2⟩]),fun b=>rfl⟩
   have HOL2:=Lib.hid (ini_len S.T.nowC fs n n)
   have HOG2:Hid (∀ b,fs≤b→b < n→(ini S.T.nowC fs n n).getD b 0=S.T.oldC b):=Lib.hid (fun b b1 b2=>by rw [ini_get b2,if_pos ⟨b1,b2⟩]; exact HST.out.now b)
   clear hx3 HK HST
   generalize ini S.T.nowC fs n n=O at HWK HOL2 HOG2
   go_wp2_with fail
   refine reck_acts HCP.out HMA.out HA.out HFS.out hfs1 (by omega) HNE.out.1 HNE.out.2.2.1 HNE.out.2.2.2.2 HOL2.out HOG2.out HWK.out ?_
   intro _ _ _ _ _ _ _ _ _ _ _ _ _ _ _ _ _ _ _ _ _ _ _ _ _ _ _ _ _ _ _ _ _ _ _ _ _ _ _ _ _ _ _ _ _ _ _ _ _ _ _ _ _ _ _ _ _ _ _ _ _ _ _ _ _ _ _ _ _ _ _ _ _ _ _ _ _ _ _ _ _ _ _ _ _ _ _ _ _ _ _ _ _ _ _ _ _ _ _ _ _ _ _ _ _ _ _ _ _ _ _ _ _ _ _ _ _ _ _ _ _ _ _ _ _ _ _ _ _ _ _ _ _ _ _ _ _ _ _ _ _ _ _ _ _ _ _ _ _ _ _ _ _ _ _ _ _ _ _ _ _ _ _ _ _ _ _ _ _ _ _ _ _ _ _ _ V4 hb4
   have HB4:=Lib.hid hb4
   have HC:=Lib.hid (head_any V4)
   clear hb4 HWK HOL2 HOG2 HNE
   go_wp2_with fail
   refine HC.out.mono ?_
   clear HC
   rintro e V5 ⟨rfl,hb5⟩
   have HB5:=Lib.hid (HB4.out.trans (hb5.mono HB4.out.size))
   clear hb5 HB4
   go_wp2_with fail
   go_ret
   exact ⟨rfl,HB5.out⟩
  ·have hx0:=hS
   rw [if_pos (by rfl)]
   obtain ⟨V1,gn,ca,hmk,hg,hrow,hb⟩:=make_16 V0 n (by omega)
   have hx1:=hx0.made hb hg hrow
   have HLTgn:=Lib.hid hg
   clear hrow hg
   go_simp
   refine hK _ _ (Sk.less hx1 (fun z hz=>List.mem_cons_of_mem _ hz)) (fun hfz=>?_)
   clear hfz hK K hmk
   try simp only [Act.put,List.setIfInBounds_toArray,RowLaw.lset]
   have HSZ1:Hid (V0.heap.size≤V1.heap.size):=Lib.hid hb.size
   have HS1:=Lib.hid (hx1.lt_ (g:=gn) (o:=nowO (List.replicate n 0)) List.mem_cons_self)
   clear hb
   have hSA:=Sk.less hx1 (E':=[(gp,Obj.cells cp 82 (0,0))]) (fun z hz=>List.mem_cons_of_mem _ hz)
   refine wpAnyH_ready (rs:=[1]) (by kernel_rfl) (by simp) ?_
   refine AllReadyH.cons rfl (fun K hK=>?_) AllReadyH.nil
   rw [if_pos (by rfl)]
   obtain ⟨V2,go,cb,hmk,hg,hrow,hb⟩:=make_16 V1 n (by omega)
   have hx2:=hx1.made hb hg hrow
   have HLTgo:=Lib.hid hg
   clear hrow hg
   go_simp
   refine hK _ _ (Sk.less hx2 (fun z hz=>List.mem_cons_of_mem _ (List.mem_cons_of_mem _ hz))) (fun hfz=>?_)
   clear hfz hK K hmk
   try simp only [Act.put,List.setIfInBounds_toArray,RowLaw.lset]
   have hSB:=Sk.less hx2 (E':=[(gp,Obj.cells cp 82 (0,0))]) (fun z hz=>List.mem_cons_of_mem _ (List.mem_cons_of_mem _ hz))
   have HNE:Hid (go≠gn∧gp≠go∧gp≠gn∧w.heap.size≤go∧w.heap.size≤gn):=Lib.hid (by
    have h1:=HLTgo.out; have h2:=HLTgn.out; have h3:=HSZ1.out; have h4:=HS1.out
    omega)
   have HK:=Lib.hid (Sk.less hx2 (E':=[(gn,nowO (List.replicate n 0)),(go,nowO (List.replicate n 0)),(gp,Obj.cells cp 82 (0,0))]) (fun z hz=>by
    simp only [List.mem_cons,List.not_mem_nil,or_false] at hz ⊢
    rcases hz with hz | hz | hz
    ·exact .inr (.inl hz)
    ·exact .inl hz
    ·exact .inr (.inr hz)))
   clear hb hx0 hx1 hx2 hSA hlp hsz HSZ1 HS1 HLTgo HLTgn hS
   refine RowLaw.tkV 4 11 (.slice (some ⟨go,0,none⟩) n cb) hSB ?_
   simp only [RowLaw.lset]
   refine RowLaw.tkV 5 12 (.slice (some ⟨gn,0,none⟩) n ca) hSB ?_
   simp only [RowLaw.lset]
   refine wpAnyH_done (by kernel_rfl) ?_ _
   refine NoPanic.normal ?_
   clear hSB
   have kp:=HK.out.cell (g:=gp) (cs:=cp) (T:=82) (j:=2) (by simp) HCP.out
   rw [←HFS.out] at kp
   go_wp2_with fail
   clear kp
   refine reck_first (op:=Obj.cells cp 82 (0,0)) HFS.out hfs1 (by omega) HNE.out.1 HNE.out.2.1 HNE.out.2.2.1 HNE.out.2.2.2.1 HNE.out.2.2.2.2 (by rw [ini_zero]; exact HK.out) ?_
   intro _ _ _ _ _ _ _ _ _ _ _ _ _ _ _ _ _ _ _ _ _ _ V3 hx3
   have HWK:Hid (Wk w q gp go gn n fs (Obj.cells cp 82 (0,0)) (ini S.T.nowC fs n n) S.T.oldC V3):=Lib.hid ⟨S,ini S.T.nowC fs n n,hx3,ini_len _ _ _ _,(fun b b1 b2=>by rw [ini_get b2,if_pos ⟨b1,b2⟩]),fun b=>rfl⟩
   have HOL2:=Lib.hid (ini_len S.T.nowC fs n n)
   have HOG2:Hid (∀ b,fs≤b→b < n→(ini S.T.nowC fs n n).getD b 0=S.T.oldC b):=Lib.hid (fun b b1 b2=>by rw [ini_get b2,if_pos ⟨b1,b2⟩]; exact HST.out.now b)
   clear hx3 HK HST
   generalize ini S.T.nowC fs n n=O at HWK HOL2 HOG2
   go_wp2_with fail
   refine reck_acts HCP.out HMA.out HA.out HFS.out hfs1 (by omega) HNE.out.1 HNE.out.2.2.1 HNE.out.2.2.2.2 HOL2.out HOG2.out HWK.out ?_
   intro _ _ _ _ _ _ _ _ _ _ _ _ _ _ _ _ _ _ _ _ _ _ _ _ _ _ _ _ _ _ _ _ _ _ _ _ _ _ _ _ _ _ _ _ _ _ _ _ _ _ _ _ _ _ _ _ _ _ _ _ _ _ _ _ _ _ _ _ _ _ _ _ _ _ _ _ _ _ _ _ _ _ _ _ _ _ _ _ _ _ _ _ _ _ _ _ _ _ _ _ _ _ _ _ _ _ _ _ _ _ _ _ _ _ _ _ _ _ _ _ _ _ _ _ _ _ _ _ _ _ _ _ _ _ _ _ _ _ _ _ _ _ _ _ _ _ _ _ _ _ _ _ _ _ _ _ _ _ _ _ _ _ _ _ _ _ _ _ _ _ _ _ _ _ _ _ V4 hb4
   have HB4:=Lib.hid hb4
   have HC:=Lib.hid (head_any V4)
   clear hb4 HWK HOL2 HOG2 HNE
   go_wp2_with fail
   refine HC.out.mono ?_
   clear HC
   rintro e V5 ⟨rfl,hb5⟩
   have HB5:=Lib.hid (HB4.out.trans (hb5.mono HB4.out.size))
   clear hb5 HB4
   go_wp2_with fail
   go_ret
   exact ⟨rfl,HB5.out⟩
 ·have HB:Hid (n < 64∨200 < n∨(64≤n∧n≤200∧40 < m)):=Lib.hid (by omega)
  clear hx hm
  rcases HB.out with hlt | hgt | ⟨h1,h2,h3⟩
  ·have hz1:(n:Int) < 64:=by omega
   go_enter Tryz.func6,Tryz.ntmps6
   go_wp2_with fail
   refine HH.out.mono ?_
   rintro e W1 ⟨rfl,hb⟩
   go_wp2_with fail
   go_ret
   exact ⟨rfl,hb⟩
  ·have hz1:¬ (n:Int) < 64:=by omega
   have hz2:(200:Int) < (n:Int):=by omega
   go_enter Tryz.func6,Tryz.ntmps6
   go_wp2_with fail
   refine HH.out.mono ?_
   rintro e W1 ⟨rfl,hb⟩
   go_wp2_with fail
   go_ret
   exact ⟨rfl,hb⟩
  ·have hz1:¬ (n:Int) < 64:=by omega
   have hz2:¬ (200:Int) < (n:Int):=by omega
   have hz3:(40:Int) < (m:Int):=by omega
   clear h1 h2 h3
   go_enter Tryz.func6,Tryz.ntmps6
   go_wp2_with fail
   refine HH.out.mono ?_
   rintro e W1 ⟨rfl,hb⟩
   go_wp2_with fail
   go_ret
   exact ⟨rfl,hb⟩
end Spc

end Go.Proofs.YtgkbfahflngklaaGreat
