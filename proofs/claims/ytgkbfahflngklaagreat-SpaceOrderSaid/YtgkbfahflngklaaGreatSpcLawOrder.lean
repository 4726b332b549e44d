import Derived.Test.YtgkbfahflngklaaGreatSpcO2
import Derived.BigQuiet
set_option maxRecDepth 100000
set_option maxHeartbeats 12800000
namespace Go.Proofs.YtgkbfahflngklaaGreat
namespace Spc
open Go.RowKit RowLaw
open Go.Proofs.YtgkbfahflngklaaGreat.Dev (Dev DS ptr)
open Go.Proofs.YtgkbfahflngklaaGreat.Cnt (Thing Hall TD loopsOf)
open Go.Proofs.YtgkbfahflngklaaGreat.Slt (Rt cells cells_one rootO infoR sizeR)
open Go.Proofs.YtgkbfahflngklaaGreat.Rot (fsN tlN pkN planOk plan_facts planCells planCells_one sizePlan infoPlan refLayout_yes)
set_option linter.unusedVariables false
set_option linter.unusedSimpArgs false
theorem SpaceOrder_any {w:World} {n m cap hint:Nat} {xs:List (Nat×Nat)} {pa:Option Addr} (hm:m=xs.length) (hx:Olds w pa xs) (hn32:n < 4294967296) (hh:hint < 4294967296) :
  Calls Tryz.prog 8 #[.int .u32 (n:Int),.slice pa m cap,.int .u32 (hint:Int)] w fun e w'=>e=.returned (.bool true)∧Below w.heap.size w w':=by
 have HH:=Lib.hid (head_any w)
 by_cases hin:64≤n∧n≤200∧m≤40
 ·have HX:=Lib.hid hx; have HM:=Lib.hid hm
  clear hx hm HH
  obtain ⟨h64,h200,hm40⟩:=hin
  have hpl:planOk n=true:=by show decide _=true; exact decide_eq_true (by omega)
  obtain ⟨-,hfs1,-⟩:=plan_facts h64 (show n≤1048576 by omega)
  have hbg:=begun_any (w:=w) (cap:=cap) HM.out (show m≤1000 by omega) HX.out h64 (show n≤700 by omega) hh
  have hly:=fun W=>refLayout_yes hpl W
  obtain ⟨cp,hcp⟩:∃ c,c=planCells (tlN n) (pkN n) (fsN n):=⟨_,rfl⟩
  have hzp1:(Tryz.prog.info? 82).map (·.size)=some cp.size∧cp.size=3∧cp.all (·.oneCell')=true:=by rw [hcp]; exact ⟨sizePlan _ _ _,rfl,planCells_one _ _ _⟩
  have HCP:Hid (cp[2]? = some (.int .u32 (fsN n:Int))):=Lib.hid (by rw [hcp]; rfl)
  rw [←hcp] at hly
  obtain ⟨fs,hfs⟩:∃ z,z=fsN n:=⟨_,rfl⟩
  rw [←hfs] at hbg hfs1
  have HFS:=Lib.hid hfs
  have HBG:=Lib.hid hbg; have HLY:=Lib.hid hly
  have hzb:=(zero_of_info infoBoth).1
  have hzp:=(zero_of_info infoPlan).1
  have hz1:¬ (n:Int) < 64:=by omega
  have hz2:¬ (200:Int) < (n:Int):=by omega
  have hz3:¬ (40:Int) < (m:Int):=by omega
  clear hpl hbg hly hcp hfs
  go_enter Tryz.func8,Tryz.ntmps8
  go_wp2_with fail
  refine HBG.out.mono ?_
  clear HBG
  rintro e W1 ⟨bx,t1,t,p,q,T1,s,S,K,x,r,vg,vw,vl,rfl,hb⟩
  have hsl:=hb.qt
  obtain ⟨vg',vw',vl',he,hr0,hl0⟩:=hsl
  simp only [qC,Value.agg.injEq,Array.mk.injEq,List.cons.injEq] at he
  obtain ⟨-,hvg,hvw,-,-,-,-,-,-,-,-,-,-,-,-,hvl,-⟩:=he
  subst hvg hvw hvl
  have hb1c:=bothC_one q x.n x.wr r r.free r.hint fs 0 0 hr0.slices.1 hr0.slices.2 hl0.slice
  have hib:=sizeBoth (.pointer (some ⟨q,0,none⟩)) x.n vg vw x.wr r vl r.free r.hint fs 0 0
  have HBB:=Lib.hid hb
  have hst:=heap_alloc_new W1 (.cells bothZ 69)
  clear hb hr0 hl0
  go_upto_region 4 with (refine wpList_store_row rfl 69 _ _ rfl W1.heap.size (bothC (.pointer (some ⟨q,0,none⟩)) x.n vg vw x.wr r vl r.free r.hint fs 0 0) rfl rfl _ _ hst hib rfl hb1c ?_)
  change Code.wp _ _ _ _ ((W1.alloc (.cells bothZ 69)).setRow W1.heap.size (bothC (.pointer (some ⟨q,0,none⟩)) x.n vg vw x.wr r vl r.free r.hint fs 0 0))
  rw [World.setRow_alloc_new]
  have o1:=heap_alloc_new W1 (.cells (bothC (.pointer (some ⟨q,0,none⟩)) x.n vg vw x.wr r vl r.free r.hint fs 0 0) 69)
  have hbe:Below W1.heap.size W1 (W1.alloc (.cells (bothC (.pointer (some ⟨q,0,none⟩)) x.n vg vw x.wr r vl r.free r.hint fs 0 0) 69)):=(Below.refl _ _).alloc (Nat.le_refl _) _
  have c0:(W1.alloc (.cells (bothC (.pointer (some ⟨q,0,none⟩)) x.n vg vw x.wr r vl r.free r.hint fs 0 0) 69)).cell? ⟨W1.heap.size,0,none⟩=some (.pointer (some ⟨q,0,none⟩)):=(cell_of_row _ W1.heap.size 0 _ _ _ o1).trans rfl
  have HBE:=Lib.hid hbe
  clear hst hb1c hib hbe o1
  generalize W1.alloc (.cells (bothC (.pointer (some ⟨q,0,none⟩)) x.n vg vw x.wr r vl r.free r.hint fs 0 0) 69)=W2 at HBE c0 ⊢
  generalize hgB:W1.heap.size=gB at HBE c0 ⊢
  have HGB:=Lib.hid hgB
  clear hgB
  have heq:=eqSp q
  go_wp2_with fail
  refine (HLY.out W2).mono ?_
  clear HLY c0 heq
  rintro e W3 ⟨rfl,hb3⟩
  have hb13:Below W1.heap.size W1 W3:=by
   have h1:=HBE.out
   rw [←HGB.out] at h1
   exact h1.trans (hb3.mono h1.size)
  have HSV:=Lib.hid (HBB.out.sv HCP.out hb13)
  have HST:=Lib.hid HBB.out.start
  have hst:=heap_alloc_new W3 (.cells #[.int .u32 0,.int .u32 0,.int .u32 0] 82)
  clear HBB HBE HGB hb3 hb13
  go_upto_region 8 with (refine wpList_store_row rfl 82 _ _ rfl W3.heap.size cp rfl rfl _ _ hst hzp1.1 (by rw [hzp1.2.1]; first | done | rfl) hzp1.2.2 ?_)
  change Code.wp _ _ _ _ ((W3.alloc (.cells #[.int .u32 0,.int .u32 0,.int .u32 0] 82)).setRow W3.heap.size cp)
  rw [World.setRow_alloc_new]
  clear hst
  generalize W3.alloc (.cells cp 82)=W4 at HSV ⊢
  generalize W3.heap.size=gp at HSV ⊢
  clear hzp1 hzb hzp hz1 hz2 hz3
  have c27:=HSV.out.plan
  rw [←HFS.out] at c27
  obtain ⟨wd,hwd⟩:∃ d,d=n - fs:=⟨_,rfl⟩
  obtain ⟨h0,hh0⟩:∃ h,h=S.h:=⟨_,rfl⟩
  have hi1:=HSV.out.inv.h1
  have hi2:=HSV.out.inv.h2
  rw [HSV.out.en,←HFS.out,←hh0] at hi1
  rw [HSV.out.en,←hh0] at hi2
  obtain ⟨fr,hfr⟩:∃ f,f=h0 - fs:=⟨_,rfl⟩
  have hri:=HSV.out.inv.rr
  have hr0:=HSV.out.inv.r0
  have hrr:=HSV.out.inv.r
  rw [HSV.out.en] at hrr
  have hrle:=cntTo_le (avB S.T) (fsN n) (n - fsN n)
  obtain ⟨R,hR⟩:∃ R,R=roomV S.r true:=⟨_,rfl⟩
  have hRS:S.r=(R:Int):=by rw [hR]; unfold roomV pos; simp only [if_true]; omega
  have hR1:R≤1000:=by omega
  have e1:(n:Int) - (fs:Int)=(wd:Int):=by omega
  have e2:(h0:Int) - (fs:Int)=(fr:Int):=by omega
  have z1:IntKind.u32.wrap (wd:Int)=(wd:Int):=IntWalk.u32_in _ (by omega)
  have z2:IntKind.u32.wrap (fr:Int)=(fr:Int):=IntWalk.u32_in _ (by omega)
  have HHI:=Lib.hid (fun (W:World) (x:Sv w q gp n S W)=>x.hint)
  have HRO:=Lib.hid (fun (W:World) (x:Sv w q gp n S W)=>x.room true)
  rw [←hh0] at HHI
  rw [←hR] at HRO
  have HNUM:=Lib.hid (And.intro hwd (And.intro hfr (And.intro hi1 (And.intro hi2 (And.intro hR1 (And.intro hRS hh0))))))
  clear hwd hh0 hi1 hi2 hfr hri hr0 hrr hrle hR hRS hR1
  go_upto_region 9 with fail
  have hbN:∀ k,Sv w q gp n S (W4.drewN k):=fun k=>HSV.out.below ⟨rfl,rfl,rfl,Nat.le_refl _,fun _ _=>rfl⟩
  go_big_quiet (first | (go_at_call 34; exact Calls.quiet_of_same (HHI.out _ (hbN _))) | (go_at_call 32; exact Calls.quiet_of_same (HRO.out _ (hbN _))))
  have hsv:=hbN nq
  clear hbN c27 e1 e2 z1 z2
  have HSV2:=Lib.hid hsv
  clear hsv HSV HHI HRO
  generalize W4.drewN nq=W5 at HSV2 ⊢
  go_wp2_with fail
  refine order_takes (g:=S.T.oldC) (h0:=h0) (wd:=wd) (fr:=fr) (R:=R) (by rw [←HFS.out]; exact HNUM.out.1) (by rw [←HFS.out]; exact HNUM.out.2.1) (by rw [←HFS.out]; exact HNUM.out.2.2.1) HNUM.out.2.2.2.1 (by omega) HNUM.out.2.2.2.2.1 ⟨S,0,HSV2.out,by rw [HNUM.out.2.2.2.2.2.2]; exact Ord.start HSV2.out.inv,by rw [HNUM.out.2.2.2.2.2.1]; rfl,fun h=>absurd h (Nat.lt_irrefl 0),fun a=>rfl⟩ ?_
  intro _ _ _ _ _ _ _ _ _ _ _ _ _ _ _ _ _ _ _ _ _ _ _ _ _ _ _ _ _ _ _ _ _ _ _ _ _ _ _ _ _ _ _ W6 last hx
  obtain ⟨S2,c,sv2,ord2,hr2,htk,hold⟩:=hx
  rw [Nat.sub_self] at hr2
  have hr2':S2.r=0:=hr2
  have hz0:roomV S2.r true=0:=(roomV_zero _ (by omega)).2 hr2'
  have ht:=sv2.take true
  rw [take_none hz0] at ht
  have HC:=Lib.hid ht
  have HRO:=Lib.hid (fun (W:World) (x:Sv w q gp n S2 W)=>x.room true)
  rw [hz0] at HRO
  have HR2:=Lib.hid hr2'
  have HTK:=Lib.hid htk
  have HOL:Hid (∀ a,fsN n≤a→a < n→S2.T.oldC a=lastS xs a 0):=Lib.hid (fun a h1 h2=>(hold a).trans (HST.out.old a h1 h2))
  clear sv2 ord2 hr2 hr2' hz0 ht htk hold HSV2 HST
  unfold ansV at HC
  go_wp2_with fail
  refine HC.out.mono ?_
  clear HC
  rintro e W7 ⟨rfl,hsv⟩
  replace hsv:Sv w q gp n S2 W7:=hsv
  have HC:=Lib.hid (HRO.out _ hsv)
  have c27:=hsv.plan
  rw [←HFS.out] at c27
  have HSV:=Lib.hid hsv
  clear hsv HRO
  go_wp2_with ((with_reducible refine HC.out.mono ?_); rintro e _ ⟨rfl,rfl⟩)
  clear HC c27
  refine order_back HM.out (by omega) HX.out HFS.out (by omega) hfs1 HR2.out HOL.out HSV.out ?_ ?_
  ·intro _ _ _ _ _ _ _ _ _ _ _ _ _ _ _ _ _ _ _ _ _ _ _ _ _ _ _ _ _ _ _ _ _ _ _ _ _ _ _ _ _ _ _ _ _ _ _ _ _ _ _ _ _ _ _ _ _ _ _ _ _ _ _ _ _ _ _ _ _ _ _ _ _ _ W8 hsv hno
   have hR0:R=0:=by
    by_cases h:R=0
    ·exact h
    ·obtain ⟨_,a,a1,a2,a3,a4⟩:=HTK.out (by omega)
     exact absurd ⟨a3,a4⟩ (hno a a1 a2)
   have HB:=Lib.hid hsv.bel
   have HC:=Lib.hid (head_any W8)
   clear hsv hno HTK HNUM HSV HR2 HOL
   subst hR0
   go_wp2_with fail
   refine HC.out.mono ?_
   clear HC
   rintro e W9 ⟨rfl,hb⟩
   have HB2:=Lib.hid (HB.out.trans (hb.mono HB.out.size))
   clear hb HB
   go_wp2_with fail
   go_ret
   exact ⟨rfl,HB2.out⟩
  ·intro _ _ _ _ _ _ _ _ _ _ _ _ _ _ _ _ _ _ _ _ _ _ _ _ _ _ _ _ _ _ _ _ _ _ _ _ _ _ _ _ _ _ _ _ _ _ _ _ _ _ _ _ _ _ _ _ _ _ _ _ _ _ _ _ _ _ _ _ _ _ _ _ _ W8 hb
   go_ret
   exact ⟨rfl,hb⟩
 ·have HB:Hid (n < 64∨200 < n∨(64≤n∧n≤200∧40 < m)):=Lib.hid (by omega)
  clear hx hm
  rcases HB.out with hlt | hgt | ⟨h1,h2,h3⟩
  ·have hz1:(n:Int) < 64:=by omega
   go_enter Tryz.func8,Tryz.ntmps8
   go_wp2_with fail
   refine HH.out.mono ?_
   rintro e W1 ⟨rfl,hb⟩
   go_wp2_with fail
   go_ret
   exact ⟨rfl,hb⟩
  ·have hz1:¬ (n:Int) < 64:=by omega
   have hz2:(200:Int) < (n:Int):=by omega
   go_enter Tryz.func8,Tryz.ntmps8
   go_wp2_with fail
   refine HH.out.mono ?_
   rintro e W1 ⟨rfl,hb⟩
   go_wp2_with fail
   go_ret
   exact ⟨rfl,hb⟩
  ·have hz1:¬ (n:Int) < 64:=by omega
   have hz2:¬ (200:Int) < (n:Int):=by omega
   have hz3:(40:Int) < (m:Int):=by omega
   clear h1 h2 h3
   go_enter Tryz.func8,Tryz.ntmps8
   go_wp2_with fail
   refine HH.out.mono ?_
   rintro e W1 ⟨rfl,hb⟩
   go_wp2_with fail
   go_ret
   exact ⟨rfl,hb⟩
end Spc

end Go.Proofs.YtgkbfahflngklaaGreat
