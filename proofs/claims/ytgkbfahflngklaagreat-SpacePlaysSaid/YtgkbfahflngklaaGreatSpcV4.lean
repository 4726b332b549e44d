import Derived.Test.YtgkbfahflngklaaGreatSpcK
import Derived.Test.YtgkbfahflngklaaGreatSpcV3
set_option maxRecDepth 100000
set_option maxHeartbeats 6400000
set_option linter.unusedSimpArgs false
namespace Go.Proofs.YtgkbfahflngklaaGreat
namespace Spc
open Go.RowKit RowLaw
open Dev (Dev DS ptr Turn)
open Rot (fsN planOk plan_facts)
open Go.Proofs.YtgkbfahflngklaaGreat.Cnt
def Sg (w:World) (l:List Thing) (K:List (Nat×Obj)) (i j q t bx:Nat) (s:DS) (g:Nat→Nat) (k h:Nat) (W:World):Prop:=∃ S,Rs w l K i j q t bx s S W∧Flat S g k h
section
variable {w W W':World} {l:List Thing} {K:List (Nat×Obj)} {i j q t bx:Nat} {s:DS} {g:Nat→Nat} {k h:Nat}
theorem Sg.bel (x:Sg w l K i j q t bx s g k h W):Below w.heap.size w W:=by
 obtain ⟨S,x,_⟩:=x
 exact Cnt.Hall.bel x.hall
theorem Sg.below (x:Sg w l K i j q t bx s g k h W) (hb:Below W.heap.size W W'):Sg w l K i j q t bx s g k h W':=by
 obtain ⟨S,x,f⟩:=x
 exact ⟨S,Rm.below x hb,f⟩
theorem Sg.take (x:Sg w l K i j q t bx s g (k+1) h W) (hk:k < 1000) (h1:6≤h) (h2:h+1 < 64) (hg:g h=0) {sp:Bool} (hr:roomV ((k+1:Nat):Int) sp≠0) :
  Calls Tryz.prog 36 #[.pointer (some ⟨q,0,none⟩),.bool sp] W fun e W'=>e=.returned (.tuple #[.int .u32 (h:Int),.int .i64 0])∧Sg w l K i j q t bx s (updN g h 1) k (h+1) W':=by
 obtain ⟨S,x,f⟩:=x
 obtain ⟨f1,f2⟩:=f.take h1 h2 hg hr
 have h3:fsN S.T.n≤S.h:=by rw [f.n,fs64,f.h]; exact h1
 have h4:S.h < S.T.n:=by rw [f.n,f.h]; omega
 have hc:=Take_any x h3 h4 (by rw [f.f]; unfold inI; omega) (by rw [f.r]; unfold inI; omega) sp
 rw [f1] at hc
 exact hc.mono fun e W' ⟨he,hx⟩=>⟨he,_,hx,f2⟩
theorem Sg.full (x:Sg w l K i j q t bx s g k h W) (hk:k < 1000) (h1:6≤h) (h2:h < 64) {sp:Bool} (hr:roomV (k:Int) sp=0) :
  Calls Tryz.prog 36 #[.pointer (some ⟨q,0,none⟩),.bool sp] W fun e W'=>e=.returned (.tuple #[.int .u32 0,.int .i64 100])∧Sg w l K i j q t bx s g k h W':=by
 obtain ⟨S,x,f⟩:=x
 have f1:=f.full hr
 have h3:fsN S.T.n≤S.h:=by rw [f.n,fs64,f.h]; exact h1
 have h4:S.h < S.T.n:=by rw [f.n,f.h]; omega
 have hc:=Take_any x h3 h4 (by rw [f.f]; unfold inI; omega) (by rw [f.r]; unfold inI; omega) sp
 rw [f1] at hc
 exact hc.mono fun e W' ⟨he,hx⟩=>⟨he,_,hx,f⟩
theorem Sg.more (x:Sg w l K i j q t bx s g k h W) (hk:k < 1000) {a m:Nat} (h1:6≤a) (h2:a < 64) (hg:g a=m+1) (hm:m < 60000) :
  Calls Tryz.prog 37 #[.pointer (some ⟨q,0,none⟩),.int .u32 (a:Int)] W fun e W'=>e=.returned (.int .i64 0)∧Sg w l K i j q t bx s (updN g a (m+2)) k h W':=by
 obtain ⟨S,x,f⟩:=x
 have hc:=More_any x (a:=a) (by omega) (by rw [f.f]; unfold inI; omega) (by rw [f.r]; unfold inI; omega)
 have ha:askV S.T a 2=0:=by
  rw [f.ask h1 h2,hg,if_neg (by omega),if_neg (by omega)]
 rw [ha,if_pos rfl,f.now a h1 h2,hg] at hc
 exact hc.mono fun e W' ⟨he,hx⟩=>⟨he,_,hx,f.put h1 h2 (by omega) (by
  rw [hg]
  unfold zr
  simp)⟩
theorem Sg.less (x:Sg w l K i j q t bx s g k h W) (hk:k < 1000) {a m:Nat} (h1:6≤a) (h2:a < 64) (hg:g a=m+1) (hm:m < 60000) :
  Calls Tryz.prog 38 #[.pointer (some ⟨q,0,none⟩),.int .u32 (a:Int)] W fun e W'=>e=.returned (.tuple #[.int .u16 (m:Int),.int .i64 0])∧Sg w l K i j q t bx s (updN g a m) (if m=0 then k+1 else k) h W':=by
 obtain ⟨S,x,f⟩:=x
 have hc:=Less_any x (a:=a) (by omega) (by rw [f.f]; unfold inI; omega) (by rw [f.r]; unfold inI; omega)
 have ha:askV S.T a 1=0:=by
  rw [f.ask h1 h2,hg,if_neg (by omega),if_neg (by omega)]
 rw [ha,if_pos rfl,if_pos rfl,f.now a h1 h2,hg,Nat.add_sub_cancel] at hc
 exact hc.mono fun e W' ⟨he,hx⟩=>⟨he,_,hx,f.put h1 h2 (by omega) (by
  rw [hg]
  unfold zr
  by_cases e:m=0
  ·simp [e]
  ·simp [e])⟩
theorem Sg.less0 (x:Sg w l K i j q t bx s g k h W) (hk:k < 1000) {a:Nat} (h1:6≤a) (h2:a < 64) (hg:g a=0) :
  Calls Tryz.prog 38 #[.pointer (some ⟨q,0,none⟩),.int .u32 (a:Int)] W fun e W'=>e=.returned (.tuple #[.int .u16 0,.int .i64 9])∧Sg w l K i j q t bx s g k h W':=by
 obtain ⟨S,x,f⟩:=x
 have hc:=Less_any x (a:=a) (by omega) (by rw [f.f]; unfold inI; omega) (by rw [f.r]; unfold inI; omega)
 have ha:askV S.T a 1=9:=by
  rw [f.ask h1 h2,hg,if_pos ⟨by omega,rfl⟩]
 rw [ha,if_neg (by omega),if_neg (by omega)] at hc
 exact hc.mono fun e W' ⟨he,hx⟩=>⟨he,_,hx,f⟩
theorem Sg.free (x:Sg w l K i j q t bx s g k h W) (hk:k < 1000):Calls Tryz.prog 30 #[.pointer (some ⟨q,0,none⟩)] W fun e W'=>e=.returned (.int .u32 (k:Int))∧W'=W:=by
 obtain ⟨S,x,f⟩:=x
 have hc:=Free_any x.sp (by rw [f.f]; omega) (by rw [f.f]; omega)
 rw [f.f,show pos (k:Int)=k from by unfold pos; omega] at hc
 exact hc
theorem Sg.room (x:Sg w l K i j q t bx s g k h W) (hk:k < 1000) (sp:Bool):Calls Tryz.prog 32 #[.pointer (some ⟨q,0,none⟩),.bool sp] W fun e W'=>e=.returned (.int .u32 (roomV (k:Int) sp:Int))∧W'=W:=by
 obtain ⟨S,x,f⟩:=x
 have hc:=Room_any x.sp (by rw [f.r]; omega) (by rw [f.r]; omega) sp
 rw [f.r] at hc
 exact hc
theorem Sg.hint (x:Sg w l K i j q t bx s g k h W):Calls Tryz.prog 34 #[.pointer (some ⟨q,0,none⟩)] W fun e W'=>e=.returned (.int .u32 (h:Int))∧W'=W:=by
 obtain ⟨S,x,f⟩:=x
 have hc:=Hint_any x.sp
 rw [f.h] at hc
 exact hc
end
end Spc
namespace Spc
open Go.RowKit RowLaw
open Dev (Dev DS ptr)
open Cnt (Thing Hall TD)
open Slt (Rt cells cells_one rootO infoR sizeR)
theorem eqSp (q:Nat) (W:World):(binOp .eql 60 (.pointer (some ⟨q,0,none⟩)) (.pointer none)).run Tryz.prog W=.ok (.bool false) W:=by kernel_rfl
theorem room_some {k:Nat} {sp:Bool} (h:24 < k∨(sp=true∧0 < k)):roomV (k:Int) sp≠0:=by
 unfold roomV pos
 cases sp
 ·have:24 < k:=h.resolve_right (fun e=>by cases e.1)
  simp
  omega
 ·have:0 < k:=h.elim (fun e=>by omega) (fun e=>e.2)
  simp
  omega
theorem room_full {k:Nat} (h:k≤24):roomV (k:Int) false=0:=by
 unfold roomV pos
 simp; omega
theorem head_any (w:World):Calls Tryz.prog 25 #[] w fun e w'=>e=.returned (.bool true)∧Below w.heap.size w w':=by
 have HB:Hid _:=Lib.hid (begun_any (w:=w) (n:=64) (m:=0) (cap:=0) (hint:=0) (xs:=[]) (pa:=none) rfl (by omega) ⟨(fun x hx=>by cases hx),.inl rfl⟩ (by omega) (by omega) (by omega))
 have hzb:=(zero_of_info infoBoth).1
 have hzr:=(zero_of_info infoR).1
 go_enter Tryz.func25,Tryz.ntmps25
 go_wp2_with fail
 refine HB.out.mono ?_
 clear HB
 rintro e W1 ⟨bx,t1,t,p,q,T1,s,S,K,x,r,vg,vw,vl,rfl,hb⟩
 have hsl:=hb.qt
 obtain ⟨vg',vw',vl',he,hr0,hl0⟩:=hsl
 simp only [qC,Value.agg.injEq,Array.mk.injEq,List.cons.injEq] at he
 obtain ⟨_,hvg,hvw,_,_,_,_,_,_,_,_,_,_,_,_,hvl,_⟩:=he
 subst hvg hvw hvl
 have hb1c:=bothC_one q x.n x.wr r r.free r.hint (Rot.fsN 64) 0 0 hr0.slices.1 hr0.slices.2 hl0.slice
 have hib:=sizeBoth (.pointer (some ⟨q,0,none⟩)) x.n vg vw x.wr r vl r.free r.hint (Rot.fsN 64) 0 0
 have hsg:Sg w [.dev p s,.tab t1 T1,.tab t S.T] K 2 0 q t bx s (fun _=>0) 58 6 W1:=⟨S,hb.rs,hb.start.flat⟩
 generalize [Thing.dev p s,.tab t1 T1,.tab t S.T]=l at hsg
 have hbe:Below W1.heap.size W1 (W1.alloc (.cells (bothC (.pointer (some ⟨q,0,none⟩)) x.n vg vw x.wr r vl r.free r.hint (Rot.fsN 64) 0 0) 69)):=(Below.refl _ _).alloc (Nat.le_refl _) _
 have hs2:=hsg.below hbe
 have o1:=heap_alloc_new W1 (.cells (bothC (.pointer (some ⟨q,0,none⟩)) x.n vg vw x.wr r vl r.free r.hint (Rot.fsN 64) 0 0) 69)
 have tok:True:=trivial
 clear hb hr0 hl0 hbe hsg
 go_upto_region 2 with (have _t:=tok; refine wpList_store_new rfl 69 _ _ rfl (bothC (.pointer (some ⟨q,0,none⟩)) x.n vg vw x.wr r vl r.free r.hint (Rot.fsN 64) 0 0) _ _ rfl rfl hib rfl hb1c ?_; clear _t tok)
 change Code.wp _ _ _ _ (W1.alloc (.cells (bothC (.pointer (some ⟨q,0,none⟩)) x.n vg vw x.wr r vl r.free r.hint (Rot.fsN 64) 0 0) 69))
 generalize W1.alloc (.cells (bothC (.pointer (some ⟨q,0,none⟩)) x.n vg vw x.wr r vl r.free r.hint (Rot.fsN 64) 0 0) 69)=W2 at hs2 o1 ⊢
 generalize W1.heap.size=g1 at o1 ⊢
 have c0:W2.cell? ⟨g1,0,none⟩=some (.pointer (some ⟨q,0,none⟩)):=(cell_of_row W2 g1 0 _ _ _ o1).trans rfl
 have heq:=eqSp q
 have HC:=Lib.hid (hs2.take (by omega) (by omega) (by omega) rfl (sp:=false) (room_some (.inl (by omega))))
 clear hs2 o1 hb1c hib
 go_wp2_with fail
 refine HC.out.mono ?_
 clear HC c0 heq
 rintro e W3 ⟨rfl,x3⟩
 have HC:=Lib.hid (x3.take (by omega) (by omega) (by omega) (by decide) (sp:=false) (room_some (.inl (by omega))))
 clear x3
 go_wp2_with fail
 refine HC.out.mono ?_
 clear HC
 rintro e W4 ⟨rfl,x4⟩
 have H1:=Lib.hid (x4.free (by omega))
 have H2:=Lib.hid (x4.room (by omega) false)
 have H3:=Lib.hid (x4.room (by omega) true)
 have H4:=Lib.hid x4.hint
 rw [show roomV ((56:Nat):Int) false=32 from by decide] at H2
 rw [show roomV ((56:Nat):Int) true=56 from by decide] at H3
 have HC:=Lib.hid (x4.more (a:=6) (m:=0) (by omega) (by omega) (by omega) (by decide) (by omega))
 clear x4
 go_wp2_with (first | ((with_reducible refine H1.out.mono ?_); rintro e _ ⟨rfl,rfl⟩) | ((with_reducible refine H2.out.mono ?_); rintro e _ ⟨rfl,rfl⟩) | ((with_reducible refine H3.out.mono ?_); rintro e _ ⟨rfl,rfl⟩) | ((with_reducible refine H4.out.mono ?_); rintro e _ ⟨rfl,rfl⟩))
 refine HC.out.mono ?_
 clear HC H1 H2 H3 H4
 rintro e W5 ⟨rfl,x5⟩
 have HC:=Lib.hid (x5.less (a:=6) (m:=1) (by omega) (by omega) (by omega) (by decide) (by omega))
 clear x5
 go_wp2_with fail
 refine HC.out.mono ?_
 clear HC
 rintro e W6 ⟨rfl,x6⟩
 rw [if_neg (show ¬ (1:Nat)=0 by omega)] at x6
 have HC:=Lib.hid (x6.less (a:=6) (m:=0) (by omega) (by omega) (by omega) (by decide) (by omega))
 clear x6
 go_wp2_with fail
 refine HC.out.mono ?_
 clear HC
 rintro e W7 ⟨rfl,x7⟩
 rw [if_pos trivial] at x7
 have HC:=Lib.hid (x7.less0 (a:=6) (by omega) (by omega) (by omega) (by decide))
 clear x7
 go_wp2_with fail
 refine HC.out.mono ?_
 clear HC
 rintro e W8 ⟨rfl,x8⟩
 have HX:Hid (∃ g,Sg w l K 2 0 q t bx s g 57 8 W8∧∀ a,8≤a→g a=0):=Lib.hid ⟨_,x8,fun a ha=>by
  unfold updN
  rw [if_neg (by omega),if_neg (by omega),if_neg (by omega),if_neg (by omega),if_neg (by omega)]⟩
 clear x8
 go_wp2_with fail
 go_loopw [15] (fun v15 W=>∃ i:Nat,v15=.int .u32 (i:Int)∧i≤33∧Hid (∃ g,Sg w l K 2 0 q t bx s g (57 - i) (8+i) W∧∀ a,8+i≤a→g a=0)) (fun v15 _=>33 - (intOf v15).toNat)
 case atStart=>exact ⟨0,rfl,by omega,HX⟩
 case round=>
  clear HX
  obtain ⟨i,rfl,hi,HX⟩:=hrel
  by_cases hlt:i < 33
  ·have i1:(i:Int) < 33:=by omega
   have z1:IntKind.u32.wrap ((i:Int)+1)=(i:Int)+1:=IntWalk.u32_in _ (by omega)
   have z2:IntKind.u32.wrap (8+(i:Int))=8+(i:Int):=IntWalk.u32_in _ (by omega)
   have HC:Hid (Calls Tryz.prog 36 #[.pointer (some ⟨q,0,none⟩),.bool false] wr fun e W'=>e=.returned (.tuple #[.int .u32 (8+(i:Int)),.int .i64 0])∧∃ g,Sg w l K 2 0 q t bx s g (57 - (i+1)) (8+(i+1)) W'∧∀ a,8+(i+1)≤a→g a=0):=Lib.hid (by
    obtain ⟨g,x,hg⟩:=HX.out
    rw [show 57 - i=(57 - (i+1))+1 by omega] at x
    refine (x.take (by omega) (by omega) (by omega) (hg _ (Nat.le_refl _)) (sp:=false) (room_some (.inl (by omega)))).mono fun e W' ⟨he,hx⟩=>⟨?_,_,hx,fun a ha=>?_⟩
    ·rw [he,show ((8+i:Nat):Int)=8+(i:Int) by omega]
    ·unfold updN
     rw [if_neg (by omega)]
     exact hg a (by omega))
   have d1:((8+(i:Int)) != (8+(i:Int)))=false:=by simp
   clear HX
   go_wp2_with fail
   refine HC.out.mono ?_
   clear HC
   rintro e W9 ⟨rfl,hx⟩
   have HX:=Lib.hid hx
   clear hx
   go_wp2_with fail
   go_roundw
   case rel=>exact ⟨i+1,by go_num,by omega,HX⟩
   case measure=>simp [intOf]; omega
  ·have hi33:i=33:=by omega
   subst hi33
   have HC:Hid (Calls Tryz.prog 36 #[.pointer (some ⟨q,0,none⟩),.bool false] wr fun e W'=>e=.returned (.tuple #[.int .u32 0,.int .i64 100])∧∃ g,Sg w l K 2 0 q t bx s g 24 41 W'∧∀ a,41≤a→g a=0):=Lib.hid (by
    obtain ⟨g,x,hg⟩:=HX.out
    exact (x.full (by omega) (by omega) (by omega) (sp:=false) (room_full (by omega))).mono fun e W' ⟨he,hx⟩=>⟨he,g,hx,hg⟩)
   clear HX
   go_wp2_with fail
   refine HC.out.mono ?_
   clear HC
   rintro e W9 ⟨rfl,g,x9,hg⟩
   have HC:=Lib.hid (x9.take (by omega) (by omega) (by omega) (hg _ (Nat.le_refl _)) (sp:=true) (room_some (.inr ⟨rfl,by omega⟩)))
   clear x9 hg
   go_wp2_with fail
   refine HC.out.mono ?_
   clear HC
   rintro e W10 ⟨rfl,x10⟩
   have HBE:=Lib.hid x10.bel
   have HC:=Lib.hid (New_nil Slt.nil W10)
   clear x10
   go_wp2_with fail
   refine HC.out.mono ?_
   clear HC
   rintro e W11 ⟨rfl,hb⟩
   have HBE2:=Lib.hid (HBE.out.trans (hb.mono HBE.out.size))
   clear hb HBE
   go_wp2_with fail
   go_ret
   exact ⟨rfl,HBE2.out⟩
end Spc

end Go.Proofs.YtgkbfahflngklaaGreat
