import Derived.Test.YtgkbfahflngklaaGreatSpcK
import Derived.Test.YtgkbfahflngklaaGreatSpcV3
set_option maxRecDepth 100000
set_option maxHeartbeats 12800000
namespace Go.Proofs.YtgkbfahflngklaaGreat
namespace Spc
open Go.RowKit RowLaw
open Go.Proofs.YtgkbfahflngklaaGreat.Dev (Dev DS ptr Turn)
open Go.Proofs.YtgkbfahflngklaaGreat.Rot (fsN planOk plan_facts)
open Go.Proofs.YtgkbfahflngklaaGreat.Cnt
def Sg (w:World) (l:List Thing) (K:List (Nat×Obj)) (i j q t bx:Nat) (s:DS) (g:Nat→Nat) (k h:Nat) (W:World):Prop:=∃ S,Rs w l K i j q t bx s S W∧Flat S g k h
section
variable {w W W':World} {l:List Thing} {K:List (Nat×Obj)} {i j q t bx:Nat} {s:DS} {g:Nat→Nat} {k h:Nat}
theorem Sg.bel (x:Sg w l K i j q t bx s g k h W):Below w.heap.size w W:=by
 obtain ⟨S,x,_⟩:=x
 exact Cnt.Hall.bel x.hall
theorem Sg.below (x:Sg w l K i j q t bx s g k h W) (hb:Below W.heap.size W W'):Sg w l K i j q t bx s g k h W':=by
 obtain ⟨S,x,f⟩:=x
 exact ⟨S,Rm.below x hb,f⟩
theorem Sg.take (x:Sg w l K i j q t bx s g (k+1) h W) (hk:k < 1000) (h1:6≤h) (h2:h+1 < 64) (hg:g h=0) {sp:Bool} (hr:roomV ((k+1:Nat):Int) sp≠0) :
  Calls Tryz.prog 36 #[.pointer (some ⟨q,0,none⟩),.bool sp] W fun e W'=>e=.returned (.tuple #[.int .u32 (h:Int),.int .i64 0])∧Sg w l K i j q t bx s (updN g h 1) k (h+1) W':=by
 obtain ⟨S,x,f⟩:=x
 obtain ⟨f1,f2⟩:=f.take h1 h2 hg hr
 have h3:fsN S.T.n≤S.h:=by rw [f.n,fs64,f.h]; exact h1
 have h4:S.h < S.T.n:=by rw [f.n,f.h]; omega
 have hc:=Take_any x h3 h4 (by rw [f.f]; unfold inI; omega) (by rw [f.r]; unfold inI; omega) sp
 rw [f1] at hc
 exact hc.mono fun e W' ⟨he,hx⟩=>⟨he,_,hx,f2⟩
theorem Sg.full (x:Sg w l K i j q t bx s g k h W) (hk:k < 1000) (h1:6≤h) (h2:h < 64) {sp:Bool} (hr:roomV (k:Int) sp=0) :
  Calls Tryz.prog 36 #[.pointer (some ⟨q,0,none⟩),.bool sp] W fun e W'=>e=.returned (.tuple #[.int .u32 0,.int .i64 100])∧Sg w l K i j q t bx s g k h W':=by
 obtain ⟨S,x,f⟩:=x
 have f1:=f.full hr
 have h3:fsN S.T.n≤S.h:=by rw [f.n,fs64,f.h]; exact h1
 have h4:S.h < S.T.n:=by rw [f.n,f.h]; omega
 have hc:=Take_any x h3 h4 (by rw [f.f]; unfold inI; omega) (by rw [f.r]; unfold inI; omega) sp
 rw [f1] at hc
 exact hc.mono fun e W' ⟨he,hx⟩=>⟨he,_,hx,f⟩
theorem Sg.more (x:Sg w l K i j q t bx s g k h W) (hk:k < 1000) {a m:Nat} (h1:6≤a) (h2:a < 64) (hg:g a=m+1) (hm:m < 60000) :
  Calls Tryz.prog 37 #[.pointer (some ⟨q,0,none⟩),.int .u32 (a:Int)] W fun e W'=>e=.returned (.int .i64 0)∧Sg w l K i j q t bx s (updN g a (m+2)) k h W':=by
 obtain ⟨S,x,f⟩:=x
 have hc:=More_any x (a:=a) (by omega) (by rw [f.f]; unfold inI; omega) (by rw [f.r]; unfold inI; omega)
 have ha:askV S.T a 2=0:=by
  rw [f.ask h1 h2,hg,if_neg (by omega),if_neg (by omega)]
 rw [ha,if_pos rfl,f.now a h1 h2,hg] at hc
 exact hc.mono fun e W' ⟨he,hx⟩=>⟨he,_,hx,f.put h1 h2 (by omega) (by
  rw [hg]
  unfold zr
  simp)⟩
theorem Sg.less (x:Sg w l K i j q t bx s g k h W) (hk:k < 1000) {a m:Nat} (h1:6≤a) (h2:a < 64) (hg:g a=m+1) (hm:m < 60000) :
  Calls Tryz.prog 38 #[.pointer (some ⟨q,0,none⟩),.int .u32 (a:Int)] W fun e W'=>e=.returned (.tuple #[.int .u16 (m:Int),.int .i64 0])∧Sg w l K i j q t bx s (updN g a m) (if m=0 then k+1 else k) h W':=by
 obtain ⟨S,x,f⟩:=x
 have hc:=Less_any x (a:=a) (by omega) (by rw [f.f]; unfold inI; omega) (by rw [f.r]; unfold inI; omega)
 have ha:askV S.T a 1=0:=by
  rw [f.ask h1 h2,hg,if_neg (by omega),if_neg (by omega)]
 rw [ha,if_pos rfl,if_pos rfl,f.now a h1 h2,hg,Nat.add_sub_cancel] at hc
 exact hc.mono fun e W' ⟨he,hx⟩=>⟨he,_,hx,f.put h1 h2 (by omega) (by
  rw [hg]
  unfold zr
  by_cases e:m=0
  ·simp [e]
  ·simp [e])⟩
theorem Sg.less0 (x:Sg w l K i j q t bx s g k h W) (hk:k < 1000) {a:Nat} (h1:6≤a) (h2:a < 64) (hg:g a=0) :
  Calls Tryz.prog 38 #[.pointer (some ⟨q,0,none⟩),.int .u32 (a:Int)] W fun e W'=>e=.returned (.tuple #[.int .u16 0,.int .i64 9])∧Sg w l K i j q t bx s g k h W':=by
 obtain ⟨S,x,f⟩:=x
 have hc:=Less_any x (a:=a) (by omega) (by rw [f.f]; unfold inI; omega) (by rw [f.r]; unfold inI; omega)
 have ha:askV S.T a 1=9:=by
  rw [f.ask h1 h2,hg,if_pos ⟨by omega,rfl⟩]
 rw [ha,if_neg (by omega),if_neg (by omega)] at hc
 exact hc.mono fun e W' ⟨he,hx⟩=>⟨he,_,hx,f⟩
theorem Sg.free (x:Sg w l K i j q t bx s g k h W) (hk:k < 1000):Calls Tryz.prog 30 #[.pointer (some ⟨q,0,none⟩)] W fun e W'=>e=.returned (.int .u32 (k:Int))∧W'=W:=by
 obtain ⟨S,x,f⟩:=x
 have hc:=Free_any x.sp (by rw [f.f]; omega) (by rw [f.f]; omega)
 rw [f.f,show pos (k:Int)=k from by unfold pos; omega] at hc
 exact hc
theorem Sg.room (x:Sg w l K i j q t bx s g k h W) (hk:k < 1000) (sp:Bool):Calls Tryz.prog 32 #[.pointer (some ⟨q,0,none⟩),.bool sp] W fun e W'=>e=.returned (.int .u32 (roomV (k:Int) sp:Int))∧W'=W:=by
 obtain ⟨S,x,f⟩:=x
 have hc:=Room_any x.sp (by rw [f.r]; omega) (by rw [f.r]; omega) sp
 rw [f.r] at hc
 exact hc
theorem Sg.hint (x:Sg w l K i j q t bx s g k h W):Calls Tryz.prog 34 #[.pointer (some ⟨q,0,none⟩)] W fun e W'=>e=.returned (.int .u32 (h:Int))∧W'=W:=by
 obtain ⟨S,x,f⟩:=x
 have hc:=Hint_any x.sp
 rw [f.h] at hc
 exact hc
end
end Spc
namespace Spc
open Go.RowKit RowLaw
open Go.Proofs.YtgkbfahflngklaaGreat.Dev (Dev DS ptr)
open Go.Proofs.YtgkbfahflngklaaGreat.Cnt (Thing Hall TD)
open Go.Proofs.YtgkbfahflngklaaGreat.Slt (Rt cells cells_one rootO infoR sizeR)
theorem eqSp (q:Nat) (W:World):(binOp .eql 60 (.pointer (some ⟨q,0,none⟩)) (.pointer none)).run Tryz.prog W=.ok (.bool false) W:=by kernel_rfl
theorem room_some {k:Nat} {sp:Bool} (h:24 < k∨(sp=true∧0 < k)):roomV (k:Int) sp≠0:=by
 unfold roomV pos
 cases sp
 ·have:24 < k:=h.resolve_right (fun e=>by cases e.1)
  simp
  omega
 ·have:0 < k:=h.elim (fun e=>by omega) (fun e=>e.2)
  simp
  omega
theorem room_full {k:Nat} (h:k≤24):roomV (k:Int) false=0:=by
 unfold roomV pos
 simp; omega
set_option linter.unusedSimpArgs false in
theorem head_any (w:World):Calls Tryz.prog 25 #[] w fun e w'=>e=.returned (.bool true)∧Below w.heap.size w w':=by
 have HB:Hid _:=Lib.hid (begun_any (w:=w) (n:=64) (m:=0) (cap:=0) (hint:=0) (xs:=[]) (pa:=none) rfl (by omega) ⟨(fun x hx=>by cases hx),.inl rfl⟩ (by omega) (by omega) (by omega))
 have hzb:=(zero_of_info infoBoth).1
 have hzr:=(zero_of_info infoR).1
 go_enter Tryz.func25,Tryz.ntmps25
 go_wp2_with fail
 refine HB.out.mono ?_
 clear HB
 rintro e W1 ⟨bx,t1,t,p,q,T1,s,S,K,x,r,vg,vw,vl,rfl,hb⟩
 have hsl:=hb.qt
 obtain ⟨vg',vw',vl',he,hr0,hl0⟩:=hsl
 simp only [qC,Value.agg.injEq,Array.mk.injEq,List.cons.injEq] at he
 obtain ⟨_,hvg,hvw,_,_,_,_,_,_,_,_,_,_,_,_,hvl,_⟩:=he
 subst hvg hvw hvl
 have hb1c:=bothC_one q x.n x.wr r r.free r.hint (Rot.fsN 64) 0 0 hr0.slices.1 hr0.slices.2 hl0.slice
 have hib:=sizeBoth (.pointer (some ⟨q,0,none⟩)) x.n vg vw x.wr r vl r.free r.hint (Rot.fsN 64) 0 0
 have hsg:Sg w [.dev p s,.tab t1 T1,.tab t S.T] K 2 0 q t bx s (fun _=>0) 58 6 W1:=⟨S,hb.rs,hb.start.flat⟩
 generalize [Thing.dev p s,.tab t1 T1,.tab t S.T]=l at hsg
 have hbe:Below W1.heap.size W1 (W1.alloc (.cells (bothC (.pointer (some ⟨q,0,none⟩)) x.n vg vw x.wr r vl r.free r.hint (Rot.fsN 64) 0 0) 69)):=(Below.refl _ _).alloc (Nat.le_refl _) _
 have hs2:=hsg.below hbe
 have o1:=heap_alloc_new W1 (.cells (bothC (.pointer (some ⟨q,0,none⟩)) x.n vg vw x.wr r vl r.free r.hint (Rot.fsN 64) 0 0) 69)
 have tok:True:=trivial
 clear hb hr0 hl0 hbe hsg
 go_upto_region 2 with (have _t:=tok; refine wpList_store_new rfl 69 _ _ rfl (bothC (.pointer (some ⟨q,0,none⟩)) x.n vg vw x.wr r vl r.free r.hint (Rot.fsN 64) 0 0) _ _ rfl rfl hib rfl hb1c ?_; clear _t tok)
 change Code.wp _ _ _ _ (W1.alloc (.cells (bothC (.pointer (some ⟨q,0,none⟩)) x.n vg vw x.wr r vl r.free r.hint (Rot.fsN 64) 0 0) 69))
 generalize W1.alloc (.cells (bothC (.pointer (some ⟨q,0,none⟩)) x.n vg vw x.wr r vl r.free r.hint (Rot.fsN 64) 0 0) 69)=W2 at hs2 o1 ⊢
 generalize W1.heap.size=g1 at o1 ⊢
 have c0:W2.cell? ⟨g1,0,none⟩=some (.pointer (some ⟨q,0,none⟩)):=(cell_of_row W2 g1 0 _ _ _ o1).trans rfl
 have heq:=eqSp q
 have HC:=Lib.hid (hs2.take (by omega) (by omega) (by omega) rfl (sp:=false) (room_some (.inl (by omega))))
 clear hs2 o1 hb1c hib
 go_wp2_with fail
 refine HC.out.mono ?_
 clear HC c0 heq
 rintro e W3 ⟨rfl,x3⟩
 have HC:=Lib.hid (x3.take (by omega) (by omega) (by omega) (by decide) (sp:=false) (room_some (.inl (by omega))))
 clear x3
 go_wp2_with fail
 refine HC.out.mono ?_
 clear HC
 rintro e W4 ⟨rfl,x4⟩
 have H1:=Lib.hid (x4.free (by omega))
 have H2:=Lib.hid (x4.room (by omega) false)
 have H3:=Lib.hid (x4.room (by omega) true)
 have H4:=Lib.hid x4.hint
 rw [show roomV ((56:Nat):Int) false=32 from by decide] at H2
 rw [show roomV ((56:Nat):Int) true=56 from by decide] at H3
 have HC:=Lib.hid (x4.more (a:=6) (m:=0) (by omega) (by omega) (by omega) (by decide) (by omega))
 clear x4
 go_wp2_with (first | ((with_reducible refine H1.out.mono ?_); rintro e _ ⟨rfl,rfl⟩) | ((with_reducible refine H2.out.mono ?_); rintro e _ ⟨rfl,rfl⟩) | ((with_reducible refine H3.out.mono ?_); rintro e _ ⟨rfl,rfl⟩) | ((with_reducible refine H4.out.mono ?_); rintro e _ ⟨rfl,rfl⟩))
 refine HC.out.mono ?_
 clear HC H1 H2 H3 H4
 rintro e W5 ⟨rfl,x5⟩
 have HC:=Lib.hid (x5.less (a:=6) (m:=1) (by omega) (by omega) (by omega) (by decide) (by omega))
 clear x5
 go_wp2_with fail
 refine HC.out.mono ?_
 clear HC
 rintro e W6 ⟨rfl,x6⟩
 rw [if_neg (show ¬ (1:Nat)=0 by omega)] at x6
 have HC:=Lib.hid (x6.less (a:=6) (m:=0) (by omega) (by omega) (by omega) (by decide) (by omega))
 clear x6
 go_wp2_with fail
 refine HC.out.mono ?_
 clear HC
 rintro e W7 ⟨rfl,x7⟩
 rw [if_pos trivial] at x7
 have HC:=Lib.hid (x7.less0 (a:=6) (by omega) (by omega) (by omega) (by decide))
 clear x7
 go_wp2_with fail
 refine HC.out.mono ?_
 clear HC
 rintro e W8 ⟨rfl,x8⟩
 have HX:Hid (∃ g,Sg w l K 2 0 q t bx s g 57 8 W8∧∀ a,8≤a→g a=0):=Lib.hid ⟨_,x8,fun a ha=>by
  unfold updN
  rw [if_neg (by omega),if_neg (by omega),if_neg (by omega),if_neg (by omega),if_neg (by omega)]⟩
 clear x8
 go_wp2_with fail
 go_loopw [15] (fun v15 W=>∃ i:Nat,v15=.int .u32 (i:Int)∧i≤33∧Hid (∃ g,Sg w l K 2 0 q t bx s g (57 - i) (8+i) W∧∀ a,8+i≤a→g a=0)) (fun v15 _=>33 - (intOf v15).toNat)
 case atStart=>exact ⟨0,rfl,by omega,HX⟩
 case round=>
  clear HX
  obtain ⟨i,rfl,hi,HX⟩:=hrel
  by_cases hlt:i < 33
  ·have i1:(i:Int) < 33:=by omega
   have z1:IntKind.u32.wrap ((i:Int)+1)=(i:Int)+1:=IntWalk.u32_in _ (by omega)
   have z2:IntKind.u32.wrap (8+(i:Int))=8+(i:Int):=IntWalk.u32_in _ (by omega)
   have HC:Hid (Calls Tryz.prog 36 #[.pointer (some ⟨q,0,none⟩),.bool false] wr fun e W'=>e=.returned (.tuple #[.int .u32 (8+(i:Int)),.int .i64 0])∧∃ g,Sg w l K 2 0 q t bx s g (57 - (i+1)) (8+(i+1)) W'∧∀ a,8+(i+1)≤a→g a=0):=Lib.hid (by
    obtain ⟨g,x,hg⟩:=HX.out
    rw [show 57 - i=(57 - (i+1))+1 by omega] at x
    refine (x.take (by omega) (by omega) (by omega) (hg _ (Nat.le_refl _)) (sp:=false) (room_some (.inl (by omega)))).mono fun e W' ⟨he,hx⟩=>⟨?_,_,hx,fun a ha=>?_⟩
    ·rw [he,show ((8+i:Nat):Int)=8+(i:Int) by omega]
    ·unfold updN
     rw [if_neg (by omega)]
     exact hg a (by omega))
   have d1:((8+(i:Int)) != (8+(i:Int)))=false:=by simp
   clear HX
   go_wp2_with fail
   refine HC.out.mono ?_
   clear HC
   rintro e W9 ⟨rfl,hx⟩
   have HX:=Lib.hid hx
   clear hx
   go_wp2_with fail
   go_roundw
   case rel=>exact ⟨i+1,by go_num,by omega,HX⟩
   case measure=>simp [intOf]; omega
  ·have hi33:i=33:=by omega
   subst hi33
   have HC:Hid (Calls Tryz.prog 36 #[.pointer (some ⟨q,0,none⟩),.bool false] wr fun e W'=>e=.returned (.tuple #[.int .u32 0,.int .i64 100])∧∃ g,Sg w l K 2 0 q t bx s g 24 41 W'∧∀ a,41≤a→g a=0):=Lib.hid (by
    obtain ⟨g,x,hg⟩:=HX.out
    exact (x.full (by omega) (by omega) (by omega) (sp:=false) (room_full (by omega))).mono fun e W' ⟨he,hx⟩=>⟨he,g,hx,hg⟩)
   clear HX
   go_wp2_with fail
   refine HC.out.mono ?_
   clear HC
   rintro e W9 ⟨rfl,g,x9,hg⟩
   have HC:=Lib.hid (x9.take (by omega) (by omega) (by omega) (hg _ (Nat.le_refl _)) (sp:=true) (room_some (.inr ⟨rfl,by omega⟩)))
   clear x9 hg
   go_wp2_with fail
   refine HC.out.mono ?_
   clear HC
   rintro e W10 ⟨rfl,x10⟩
   have HBE:=Lib.hid x10.bel
   have HC:=Lib.hid (New_nil Slt.nil W10)
   clear x10
   go_wp2_with fail
   refine HC.out.mono ?_
   clear HC
   rintro e W11 ⟨rfl,hb⟩
   have HBE2:=Lib.hid (HBE.out.trans (hb.mono HBE.out.size))
   clear hb HBE
   go_wp2_with fail
   go_ret
   exact ⟨rfl,HBE2.out⟩
end Spc
namespace Spc
open Go.RowKit RowLaw
open Go.Proofs.YtgkbfahflngklaaGreat.Dev (Dev DS ptr Turn)
open Go.Proofs.YtgkbfahflngklaaGreat.Rot (fsN planOk plan_facts)
open Go.Proofs.YtgkbfahflngklaaGreat.Cnt
set_option linter.unusedVariables false
theorem Rm.alloc {w W: World} {l: List Thing} {K: List (Nat×Obj)} {i j q t bx: Nat} {T: TD} {s: DS} {f r: Int} {h: Nat} (x: Rm w l K i j q t bx T s f r h W) (o: Obj): Rm w l ((W.heap.size,o)::K) i j q t bx T s f r h (W.alloc o):=
 Rm.more (Ks:=[(W.heap.size,o)]) x ((Below.refl _ _).alloc (Nat.le_refl _) o) (fun y hy=>by
  simp only [List.mem_singleton] at hy
  subst hy
  exact ⟨heap_alloc_new W o,Nat.le_refl _⟩)
def Sv (w:World) (q gp n:Nat) (S:SS) (W:World):Prop:=
 ∃ l K i j t bx s cp,Rs w l K i j q t bx s S W∧(gp,Obj.cells cp 82 (0,0))∈K∧cp[2]? = some (.int .u32 (fsN n:Int))∧Inv S∧S.T.n=n
section
variable {w W W':World} {q gp n:Nat} {S:SS}
theorem Sv.bel (x:Sv w q gp n S W):Below w.heap.size w W:=by
 obtain ⟨l,K,i,j,t,bx,s,cp,x,_⟩:=x
 exact Cnt.Hall.bel x.hall
theorem Sv.below (x:Sv w q gp n S W) (hb:Below W.heap.size W W'):Sv w q gp n S W':=by
 obtain ⟨l,K,i,j,t,bx,s,cp,x,hr⟩:=x
 exact ⟨l,K,i,j,t,bx,s,cp,Rm.below x hb,hr⟩
theorem Sv.inv (x:Sv w q gp n S W):Inv S:=by
 obtain ⟨l,K,i,j,t,bx,s,cp,x,_,_,h,_⟩:=x
 exact h
theorem Sv.en (x:Sv w q gp n S W):S.T.n=n:=by
 obtain ⟨l,K,i,j,t,bx,s,cp,x,_,_,_,h⟩:=x
 exact h
theorem Sv.plan (x:Sv w q gp n S W):W.cell? ⟨gp,2,none⟩=some (.int .u32 (fsN n:Int)):=by
 obtain ⟨l,K,i,j,t,bx,s,cp,x,hm,hc,_⟩:=x
 exact (cell_of_row W gp 2 _ _ _ (Cnt.Hall.at_ x.hall (List.mem_cons_of_mem _ hm))).trans hc
theorem takes_n (S:SS) (o:Option Nat):(S.takes o).T.n=S.T.n:=by
 cases o with
 | none=>rfl
 | some a=>exact (setS_same S.T a 1).1
theorem Inv.takes (x:Inv S) (sp:Bool):Inv (S.takes (takeR S sp)):=by
 cases h:takeR S sp with
 | none=>exact x
 | some a=>exact (x.take h).2.2.2
theorem Sv.take (x:Sv w q gp n S W) (sp:Bool):Calls Tryz.prog 36 #[.pointer (some ⟨q,0,none⟩),.bool sp] W fun e W'=>e=.returned (ansV (takeR S sp))∧Sv w q gp n (S.takes (takeR S sp)) W':=by
 obtain ⟨l,K,i,j,t,bx,s,cp,x,hm,hc,h,hn⟩:=x
 exact (Take_any x h.h1 h.h2 h.ff h.rr sp).mono fun e W' ⟨he,hx⟩=>⟨he,l,K,i,j,t,bx,s,cp,hx,hm,hc,h.takes sp,(takes_n _ _).trans hn⟩
theorem Sv.room (x:Sv w q gp n S W) (sp:Bool):Calls Tryz.prog 32 #[.pointer (some ⟨q,0,none⟩),.bool sp] W fun e W'=>e=.returned (.int .u32 (roomV S.r sp:Int))∧W'=W:=by
 obtain ⟨l,K,i,j,t,bx,s,cp,x,hm,hc,h,hn⟩:=x
 have:=h.rr
 exact Room_any x.sp (by unfold inI at this; omega) (by unfold inI at this; omega) sp
theorem Sv.hint (x:Sv w q gp n S W):Calls Tryz.prog 34 #[.pointer (some ⟨q,0,none⟩)] W fun e W'=>e=.returned (.int .u32 (S.h:Int))∧W'=W:=by
 obtain ⟨l,K,i,j,t,bx,s,cp,x,_⟩:=x
 exact Hint_any x.sp
theorem askV_in {T:TD} {a c:Nat} (h1:fsN T.n≤a) (h2:a < T.n):askV T a c=if 1≤c∧T.nowC a=0 then 9 else if c=2∧T.nowC a=65535 then 6 else 0:=by
 unfold askV fltE cntE
 rw [if_neg (show ¬ a < fsN T.n from by omega),if_neg (show ¬ T.n≤a from by omega),if_neg (show ¬ (0:Int)=2 from by decide)]
theorem askV_out {T:TD} {a c:Nat} (h:¬ (fsN T.n≤a∧a < T.n)):askV T a c=2:=by
 unfold askV fltE cntE
 by_cases h1:a < fsN T.n
 ·rw [if_pos h1]
 ·rw [if_neg h1,if_pos (show T.n≤a from by omega),if_pos rfl]
theorem Sv.count (x:Sv w q gp n S W) {a:Nat} (h1:fsN n≤a) (h2:a < n):Calls Tryz.prog 28 #[.pointer (some ⟨q,0,none⟩),.int .u32 (a:Int)] W fun e W'=>e=.returned (.tuple #[.int .u16 (S.T.nowC a:Int),.int .i64 0])∧Sv w q gp n S W':=by
 obtain ⟨l,K,i,j,t,bx,s,cp,x,hm,hc,h,hn⟩:=x
 have hs:=h.small
 have hcc:=Count_any x (a:=a) (by omega)
 have ha:askV S.T a 0=0:=by
  rw [askV_in (by rw [hn]; exact h1) (by rw [hn]; exact h2),if_neg (by omega),if_neg (by omega)]
 rw [ha,if_pos rfl] at hcc
 exact hcc.mono fun e W' ⟨he,hx⟩=>⟨he,l,K,i,j,t,bx,s,cp,hx,hm,hc,h,hn⟩
theorem Sv.less (x:Sv w q gp n S W) {a:Nat} (ha:a < 4294967296):Calls Tryz.prog 38 #[.pointer (some ⟨q,0,none⟩),.int .u32 (a:Int)] W fun e W'=>e=.returned (.tuple #[.int .u16 ((if askV S.T a 1=0 then S.T.nowC a - 1 else 0:Nat):Int),.int .i64 (askV S.T a 1)])∧Sv w q gp n (if askV S.T a 1=0 then S.put a (S.T.nowC a - 1) else S) W':=by
 obtain ⟨l,K,i,j,t,bx,s,cp,x,hm,hc,h,hn⟩:=x
 refine (Less_any x ha h.ff h.rr).mono fun e W' ⟨he,hx⟩=>⟨he,l,K,i,j,t,bx,s,cp,hx,hm,hc,?_⟩
 by_cases hz:askV S.T a 1=0
 ·rw [if_pos hz]
  have hin:fsN S.T.n≤a∧a < S.T.n:=by
   by_cases hin:fsN S.T.n≤a∧a < S.T.n
   ·exact hin
   ·rw [askV_out hin] at hz; omega
  exact ⟨h.put hin.1 hin.2 (by have:=nowC_lt h.ok a; omega),(setS_same S.T a _).1.trans hn⟩
 ·rw [if_neg hz]
  exact ⟨h,hn⟩
theorem Begun.sv {xs:List (Nat×Nat)} {hint bx t1 t p:Nat} {T1:TD} {s:DS} {K:List (Nat×Obj)} {x:RS} {r:Slt.Rt} {cs:Array Value} (b:Begun w n xs hint bx t1 t p q T1 s S K x r cs W) {cp:Array Value} (hcp:cp[2]? = some (.int .u32 (fsN n:Int))) (hb:Below W.heap.size W W') :
  Sv w q W'.heap.size n S (W'.alloc (.cells cp 82)):=
 ⟨_,_,2,0,t,bx,s,cp,Rm.alloc (Rm.below b.rs hb) _,List.mem_cons_self,hcp,b.start.inv,b.start.en⟩
end
def O1 (w:World) (q gp n h0 R k last:Nat) (g:Nat→Nat) (W:World):Prop:=
 ∃ S c,Sv w q gp n S W∧Ord h0 S c∧S.r=((R - k:Nat):Int)∧(0 < k→c=last+1∧∃ a,fsN n≤a∧a < n∧S.T.nowC a=1∧S.T.oldC a=0)∧∀ a,S.T.oldC a=g a
theorem O1.plan {w W:World} {q gp n h0 R k last:Nat} {g:Nat→Nat} (x:O1 w q gp n h0 R k last g W):W.cell? ⟨gp,2,none⟩=some (.int .u32 (fsN n:Int)):=by
 obtain ⟨S,c,x,_⟩:=x
 exact x.plan
theorem O1.take {w W:World} {q gp n h0 R k last:Nat} {g:Nat→Nat} (x:O1 w q gp n h0 R k last g W) (hk:k < R) :
  Calls Tryz.prog 36 #[.pointer (some ⟨q,0,none⟩),.bool true] W fun e W'=>∃ a j:Nat,e=.returned (.tuple #[.int .u32 (a:Int),.int .i64 0])∧(fsN n≤a∧a < n)∧j=(a - fsN n+(n - fsN n) - (h0 - fsN n)) % (n - fsN n)∧(0 < k→last < j)∧O1 w q gp n h0 R (k+1) j g W':=by
 obtain ⟨S,c,x,ho,hr,hl,hg⟩:=x
 obtain ⟨a,j,ht,a1,a2,a3,hcj,hjN,hd,ho2,hr2⟩:=ho.take (by rw [hr]; omega)
 have hn:=x.en
 have hc:=x.take true
 rw [ht] at hc
 have hrr:(S.take a).r=((R - (k+1):Nat):Int):=by
  rw [hr2,hr]
  clear hl
  omega
 refine hc.mono fun e W' ⟨he,hx⟩=>⟨a,j,he,⟨by rw [←hn]; exact a1,by rw [←hn]; exact a2⟩,by rw [←hd,←hn]; rfl,fun h=>by have:=(hl h).1; omega,S.take a,j+1,hx,ho2,hrr,fun _=>⟨rfl,a,by rw [←hn]; exact a1,by rw [←hn]; exact a2,?_,(oldC_setS S.T a 1 a).trans a3⟩,fun b=>(oldC_setS S.T a 1 b).trans (hg b)⟩
 show (setS S.T a 1).nowC a=1
 rw [nowC_in x.inv.ok a1 a2,if_pos rfl]
theorem put_back {S:SS} (x:Inv S) (hr:S.r=0) {a:Nat} (h1:fsN S.T.n≤a) (h2:a < S.T.n) (hn:S.T.nowC a=1) (ho:S.T.oldC a=0):takeR (S.put a 0) true=some a:=by
 have hp:=x.put (v:=0) h1 h2 (by omega)
 have hr1:(S.put a 0).r=1:=by
  show (if S.T.oldC a=0 then S.r+stp S.T a 0 else S.r)=1
  rw [if_pos ho,hr]
  unfold stp
  rw [hn]
  rfl
 obtain ⟨b,hb⟩:=hp.found (sp:=true) (fun e=>by
  have:=(roomV_zero _ (by rw [hr1]; omega)).1 e
  omega)
 obtain ⟨b1,b2,b3,_⟩:=hp.take hb
 have en:(S.put a 0).T.n=S.T.n:=(setS_same S.T a 0).1
 rw [en] at b1 b2
 by_cases e:a=b
 ·rw [hb,e]
 ·exfalso
  have hz:cntTo (avB S.T) (fsN S.T.n) (S.T.n - fsN S.T.n)=0:=by have:=x.r; omega
  have:=cntTo_zero _ hz b b1 (by omega)
  have b3':avB (setS S.T a 0) b=true:=b3
  unfold avB at this b3'
  rw [nowC_in x.ok h1 h2,if_neg e,oldC_setS] at b3'
  rw [b3'] at this
  cases this
end Spc
namespace Spc
open Go.RowKit RowLaw
open Go.Proofs.YtgkbfahflngklaaGreat.Dev (Dev DS ptr)
open Go.Proofs.YtgkbfahflngklaaGreat.Cnt (Thing Hall TD loopsOf)
open Go.Proofs.YtgkbfahflngklaaGreat.Slt (Rt cells cells_one rootO infoR sizeR)
open Go.Proofs.YtgkbfahflngklaaGreat.Rot (fsN tlN pkN planOk plan_facts planCells planCells_one sizePlan infoPlan refLayout_yes)
set_option linter.unusedVariables false
set_option linter.unusedSimpArgs false
noncomputable def bodyO1:Code:=((Tryz.f8.body.bind fun c=>(loopsOf c)[0]?).getD .skip)
noncomputable def bodyO2:Code:=((Tryz.f8.body.bind fun c=>(loopsOf c)[1]?).getD .skip)
noncomputable def bodyO3:Code:=((loopsOf bodyO2)[0]?).getD .skip
theorem order_takes {w:World} {q gp n wd fr h0 R:Nat} {g:Nat→Nat} (hwd:wd=n - fsN n) (hfr:fr=h0 - fsN n) (h1:fsN n≤h0) (h2:h0 < n) (h3:n≤1000) (hR:R≤1000)
  {Q0:Exit→Act→World→Prop} {c0 c1 c2 c3 c4 c5 c6 c7 c10 c17 c18 c19 c20 c21 c22 c23 c24 c25 c26 c27 c28 c29 c30 c31 c32 c33 c34 c35 c36 c37 c38 c39 c40 c41 c42 c43 c44 c45 c46 c47 c48 c49 c50 c51 c52 c53 c54 c55 c56 c57 c58 c59 c60 c61 c62 c63 c64 c65 c66 c67 c68 c69 c70 c71 c72 c73 c74 c75 c76 c77 c78 c79 c80 c81 c82 c83 c84 c85 c86 c87 c88 c89 c90 c91 c92 c93 c94 c95 c96 c97 c98 c99 c100 c101 c102 c103 c104 c105 c106 c107 c108 c109 c110 c111 c112 c113 c114 c115 c116 c117 c118 c119 c120 c121 c122 c123 c124 c125 c126 c127 c128 c129 c130 c131 c132 c133 c134 c135 c136 c137 c138 c139 c140 c141 c142 c143 c144 c145 c146 c147 c148 c149 c150 c151 c152 c153 c154 c155 c156 c157 c158 c159 c160 c161 c162 c163 c164 c165 c166 c167 c168 c169 c170 c171 c172 c173 c174 c175 c176 c177 c178 c179 c180 c181 c182 c183 c184 c185 c186 c187 c188 c189 c190 c191 c192:Value} {W0:World} (hx0:O1 w q gp n h0 R 0 0 g W0)
  (hexit: ∀ (u6 u16 u17 u18 u19 u67 u68 u69 u70 u71 u72 u73 u74 u75 u76 u77 u78 u79 u80 u81 u82 u83 u84 u85 u86 u87 u88 u89 u90 u91 u92 u93 u94 u95 u96 u97 u98 u99 u100 u101 u102 u103 u104: Value) (W: World) (last: Nat),O1 w q gp n h0 R R last g W→Q0 (.exit 0) ⟨List.toArray (c0::c1::c2::c3::c4::c5::u6::c7::.pointer (some ⟨q,0,none⟩)::.pointer (some ⟨gp,0,none⟩)::c10::.int .u32 (wd: Int)::.int .u32 (fr: Int)::.int .u32 (R: Int)::.int .u32 (R: Int)::.int .u32 (last: Int)::u16::u17::u18::u19::c20::c21::c22::c23::c24::c25::c26::c27::c28::c29::c30::c31::c32::c33::c34::c35::c36::c37::c38::c39::c40::c41::c42::c43::c44::c45::c46::c47::c48::c49::c50::c51::c52::c53::c54::c55::c56::c57::c58::c59::c60::c61::c62::c63::c64::c65::c66::u67::u68::u69::u70::u71::u72::u73::u74::u75::u76::u77::u78::u79::u80::u81::u82::u83::u84::u85::u86::u87::u88::u89::u90::u91::u92::u93::u94::u95::u96::u97::u98::u99::u100::u101::u102::u103::u104::c105::c106::c107::c108::c109::c110::c111::c112::c113::c114::c115::c116::c117::c118::c119::c120::c121::c122::c123::c124::c125::c126::c127::c128::c129::c130::c131::c132::c133::c134::c135::c136::c137::c138::c139::c140::c141::c142::c143::c144::c145::c146::c147::c148::c149::c150::c151::c152::c153::c154::c155::c156::c157::c158::c159::c160::c161::c162::c163::c164::c165::c166::c167::c168::c169::c170::c171::c172::c173::c174::c175::c176::c177::c178::c179::c180::c181::c182::c183::c184::c185::c186::c187::c188::c189::c190::c191::c192::[]),[]⟩ W) :
  Code.wp Tryz.prog (.loop bodyO1) Q0 ⟨List.toArray (c0::c1::c2::c3::c4::c5::c6::c7::.pointer (some ⟨q,0,none⟩)::.pointer (some ⟨gp,0,none⟩)::c10::.int .u32 (wd: Int)::.int .u32 (fr: Int)::.int .u32 0::.int .u32 (R: Int)::.int .u32 0::.int .u32 0::c17::c18::c19::c20::c21::c22::c23::c24::c25::c26::c27::c28::c29::c30::c31::c32::c33::c34::c35::c36::c37::c38::c39::c40::c41::c42::c43::c44::c45::c46::c47::c48::c49::c50::c51::c52::c53::c54::c55::c56::c57::c58::c59::c60::c61::c62::c63::c64::c65::c66::c67::c68::c69::c70::c71::c72::c73::c74::c75::c76::c77::c78::c79::c80::c81::c82::c83::c84::c85::c86::c87::c88::c89::c90::c91::c92::c93::c94::c95::c96::c97::c98::c99::c100::c101::c102::c103::c104::c105::c106::c107::c108::c109::c110::c111::c112::c113::c114::c115::c116::c117::c118::c119::c120::c121::c122::c123::c124::c125::c126::c127::c128::c129::c130::c131::c132::c133::c134::c135::c136::c137::c138::c139::c140::c141::c142::c143::c144::c145::c146::c147::c148::c149::c150::c151::c152::c153::c154::c155::c156::c157::c158::c159::c160::c161::c162::c163::c164::c165::c166::c167::c168::c169::c170::c171::c172::c173::c174::c175::c176::c177::c178::c179::c180::c181::c182::c183::c184::c185::c186::c187::c188::c189::c190::c191::c192::[]),[]⟩ W0:=by
 have HEX:=Lib.hid hexit; clear hexit
 have HM0:=Lib.hid hx0; clear hx0
 obtain ⟨fs,hfs⟩:∃ z,z=fsN n:=⟨_,rfl⟩
 have HFS:=Lib.hid hfs
 rw [←hfs] at hwd hfr h1
 have HWD:=Lib.hid (And.intro hwd hfr)
 clear hfs hwd hfr
 conv=>arg 2; arg 1; whnf
 go_loopw [13,15,16] (fun v13 v15 v16 W=>∃ k last:Nat,k≤R∧v13=.int .u32 (k:Int)∧v15=.int .u32 (last:Int)∧v16=.int .u32 (k:Int)∧Hid (O1 w q gp n h0 R k last g W)) (fun _ _ v16 _=>R - (intOf v16).toNat)
 case atStart=>exact ⟨0,0,by omega,rfl,rfl,rfl,HM0⟩
 case round=>
  clear HM0
  obtain ⟨k,last,hk,rfl,rfl,rfl,HM⟩:=hrel
  by_cases hlt:k < R
  ·have i1:(k:Int) < (R:Int):=by omega
   have z1:IntKind.u32.wrap ((k:Int)+1)=(k:Int)+1:=IntWalk.u32_in _ (by omega)
   have HC:=Lib.hid (HM.out.take hlt)
   clear HM
   go_wp2_with fail
   refine HC.out.mono ?_
   clear HC
   rintro e W2 ⟨a,j,rfl,ha,hj,hl,hx⟩
   rw [←HFS.out] at ha hj
   obtain ⟨hwd,hfr⟩:=HWD.out
   obtain ⟨A,hA⟩:∃ A,A=a - fs:=⟨_,rfl⟩
   obtain ⟨B,hB⟩:∃ B,B=A+wd:=⟨_,rfl⟩
   obtain ⟨C,hC⟩:∃ C,C=B - fr:=⟨_,rfl⟩
   have hj':j=C % wd:=by rw [hj,hC,hB,hA,hwd,hfr]
   have hjw:j < wd:=by rw [hj']; exact Nat.mod_lt _ (by omega)
   have c2:=hx.plan
   rw [←HFS.out] at c2
   have e0:¬ (a:Int) < (fs:Int):=by omega
   have e1:(a:Int) - (fs:Int)=(A:Int):=by omega
   have e2:(A:Int)+(wd:Int)=(B:Int):=by omega
   have e3:(B:Int) - (fr:Int)=(C:Int):=by omega
   have e4:(C:Int) % (wd:Int)=(j:Int):=by rw [hj']; omega
   have e5:(C:Int).tmod (wd:Int)=(j:Int):=by rw [Int.tmod_eq_emod_of_nonneg (by omega)]; exact e4
   have e6:¬ (wd:Int)=0:=by omega
   have e7:¬ wd=0:=by omega
   have z2:IntKind.u32.wrap (A:Int)=(A:Int):=IntWalk.u32_in _ (by omega)
   have z3:IntKind.u32.wrap (B:Int)=(B:Int):=IntWalk.u32_in _ (by omega)
   have z4:IntKind.u32.wrap (C:Int)=(C:Int):=IntWalk.u32_in _ (by omega)
   have z5:IntKind.u32.wrap (j:Int)=(j:Int):=IntWalk.u32_in _ (by omega)
   have HX:=Lib.hid hx
   have HL:=Lib.hid hl
   clear hx hl hj hj' hA hB hC hwd hfr ha hjw
   by_cases h0:k=0
   ·subst h0
    go_wp2_with fail
    go_roundw
    case rel=>exact ⟨0+1,j,by omega,by go_num,rfl,by go_num,HX⟩
    case measure=>simp [intOf]; omega
   ·have hlj:=HL.out (by omega)
    have g1:¬ (j:Int)≤(last:Int):=by omega
    have g2:(0:Int) < (k:Int):=by omega
    have g3:decide (j≤last)=false:=decide_eq_false (by omega)
    clear hlj
    go_wp2_with fail
    go_roundw
    case rel=>exact ⟨k+1,j,by omega,by go_num,rfl,by go_num,HX⟩
    case measure=>simp [intOf]; omega
  ·have hkR:k=R:=by omega
   subst hkR
   have i1:¬ (k:Int) < (k:Int):=by omega
   go_wp2_with fail
   exact HEX.out _ _ _ _ _ _ _ _ _ _ _ _ _ _ _ _ _ _ _ _ _ _ _ _ _ _ _ _ _ _ _ _ _ _ _ _ _ _ _ _ _ _ _ _ _ HM.out
end Spc

end Go.Proofs.YtgkbfahflngklaaGreat
