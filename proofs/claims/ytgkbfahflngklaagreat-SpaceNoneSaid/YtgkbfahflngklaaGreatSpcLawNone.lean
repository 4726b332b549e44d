import Derived.Test.YtgkbfahflngklaaGreatSpcV3
import Derived.Test.YtgkbfahflngklaaGreatSpcH
namespace Go.Proofs.YtgkbfahflngklaaGreat.Spc
open Go.RowKit RowLaw
open Go.Proofs.YtgkbfahflngklaaGreat.Dev (Dev DS ptr)
open Go.Proofs.YtgkbfahflngklaaGreat.Cnt (Thing Hall TD)
open Go.Proofs.YtgkbfahflngklaaGreat.Slt (Rt cells cells_one rootO infoR sizeR)
set_option maxRecDepth 100000
theorem eqSp (q:Nat) (W:World):(binOp .eql 60 (.pointer (some ⟨q,0,none⟩)) (.pointer none)).run Tryz.prog W=.ok (.bool false) W:=by kernel_rfl
theorem room_some {k:Nat} {sp:Bool} (h:24 < k∨(sp=true∧0 < k)):roomV (k:Int) sp≠0:=by
 unfold roomV pos
 cases sp
 ·have:24 < k:=h.resolve_right (fun e=>by cases e.1)
  simp
  omega
 ·have:0 < k:=h.elim (fun e=>by omega) (fun e=>e.2)
  simp
  omega
theorem room_full {k:Nat} (h:k≤24):roomV (k:Int) false=0:=by
 unfold roomV pos
 simp; omega
set_option linter.unusedSimpArgs false in
set_option maxHeartbeats 6400000 in
theorem head_any (w:World):Calls Tryz.prog 25 #[] w fun e w'=>e=.returned (.bool true)∧Below w.heap.size w w':=by
 have HB:Hid _:=Lib.hid (begun_any (w:=w) (n:=64) (m:=0) (cap:=0) (hint:=0) (xs:=[]) (pa:=none) rfl (by omega) ⟨(fun x hx=>by cases hx),.inl rfl⟩ (by omega) (by omega) (by omega))
 have hzb:=(zero_of_info infoBoth).1
 have hzr:=(zero_of_info infoR).1
 go_enter Tryz.func25,Tryz.ntmps25
 go_wp2_with fail
 refine HB.out.mono ?_
 clear HB
 rintro e W1 ⟨bx,t1,t,p,q,T1,s,S,K,x,r,vg,vw,vl,rfl,hb⟩
 have hsl:=hb.qt
 obtain ⟨vg',vw',vl',he,hr0,hl0⟩:=hsl
 simp only [qC,Value.agg.injEq,Array.mk.injEq,List.cons.injEq] at he
 obtain ⟨_,hvg,hvw,_,_,_,_,_,_,_,_,_,_,_,_,hvl,_⟩:=he
 subst hvg hvw hvl
 have hb1c:=bothC_one q x.n x.wr r r.free r.hint (Rot.fsN 64) 0 0 hr0.slices.1 hr0.slices.2 hl0.slice
 have hib:=sizeBoth (.pointer (some ⟨q,0,none⟩)) x.n vg vw x.wr r vl r.free r.hint (Rot.fsN 64) 0 0
 have hsg:Sg w [.dev p s,.tab t1 T1,.tab t S.T] K 2 0 q t bx s (fun _=>0) 58 6 W1:=⟨S,hb.rs,hb.start.flat⟩
 generalize [Thing.dev p s,.tab t1 T1,.tab t S.T]=l at hsg
 have hbe:Below W1.heap.size W1 (W1.alloc (.cells (bothC (.pointer (some ⟨q,0,none⟩)) x.n vg vw x.wr r vl r.free r.hint (Rot.fsN 64) 0 0) 69)):=(Below.refl _ _).alloc (Nat.le_refl _) _
 have hs2:=hsg.below hbe
 have o1:=heap_alloc_new W1 (.cells (bothC (.pointer (some ⟨q,0,none⟩)) x.n vg vw x.wr r vl r.free r.hint (Rot.fsN 64) 0 0) 69)
 have tok:True:=trivial
 clear hb hr0 hl0 hbe hsg
 go_upto_region 2 with (have _t:=tok; refine wpList_store_new rfl 69 _ _ rfl (bothC (.pointer (some ⟨q,0,none⟩)) x.n vg vw x.wr r vl r.free r.hint (Rot.fsN 64) 0 0) _ _ rfl rfl hib rfl hb1c ?_; clear _t tok)
 change Code.wp _ _ _ _ (W1.alloc (.cells (bothC (.pointer (some ⟨q,0,none⟩)) x.n vg vw x.wr r vl r.free r.hint (Rot.fsN 64) 0 0) 69))
 generalize W1.alloc (.cells (bothC (.pointer (some ⟨q,0,none⟩)) x.n vg vw x.wr r vl r.free r.hint (Rot.fsN 64) 0 0) 69)=W2 at hs2 o1 ⊢
 generalize W1.heap.size=g1 at o1 ⊢
 have c0:W2.cell? ⟨g1,0,none⟩=some (.pointer (some ⟨q,0,none⟩)):=(cell_of_row W2 g1 0 _ _ _ o1).trans rfl
 have heq:=eqSp q
 have HC:=Lib.hid (hs2.take (by omega) (by omega) (by omega) rfl (sp:=false) (room_some (.inl (by omega))))
 clear hs2 o1 hb1c hib
 go_wp2_with fail
 refine HC.out.mono ?_
 clear HC c0 heq
 rintro e W3 ⟨rfl,x3⟩
 have HC:=Lib.hid (x3.take (by omega) (by omega) (by omega) (by decide) (sp:=false) (room_some (.inl (by omega))))
 clear x3
 go_wp2_with fail
 refine HC.out.mono ?_
 clear HC
 rintro e W4 ⟨rfl,x4⟩
 have H1:=Lib.hid (x4.free (by omega))
 have H2:=Lib.hid (x4.room (by omega) false)
 have H3:=Lib.hid (x4.room (by omega) true)
 have H4:=Lib.hid x4.hint
 rw [show roomV ((56:Nat):Int) false=32 from by decide] at H2
 rw [show roomV ((56:Nat):Int) true=56 from by decide] at H3
 have HC:=Lib.hid (x4.more (a:=6) (m:=0) (by omega) (by omega) (by omega) (by decide) (by omega))
 clear x4
 go_wp2_with (first | ((with_reducible refine H1.out.mono ?_); rintro e _ ⟨rfl,rfl⟩) | ((with_reducible refine H2.out.mono ?_); rintro e _ ⟨rfl,rfl⟩) | ((with_reducible refine H3.out.mono ?_); rintro e _ ⟨rfl,rfl⟩) | ((with_reducible refine H4.out.mono ?_); rintro e _ ⟨rfl,rfl⟩))
 refine HC.out.mono ?_
 clear HC H1 H2 H3 H4
 rintro e W5 ⟨rfl,x5⟩
 have HC:=Lib.hid (x5.less (a:=6) (m:=1) (by omega) (by omega) (by omega) (by decide) (by omega))
 clear x5
 go_wp2_with fail
 refine HC.out.mono ?_
 clear HC
 rintro e W6 ⟨rfl,x6⟩
 rw [if_neg (show ¬ (1:Nat)=0 by omega)] at x6
 have HC:=Lib.hid (x6.less (a:=6) (m:=0) (by omega) (by omega) (by omega) (by decide) (by omega))
 clear x6
 go_wp2_with fail
 refine HC.out.mono ?_
 clear HC
 rintro e W7 ⟨rfl,x7⟩
 rw [if_pos trivial] at x7
 have HC:=Lib.hid (x7.less0 (a:=6) (by omega) (by omega) (by omega) (by decide))
 clear x7
 go_wp2_with fail
 refine HC.out.mono ?_
 clear HC
 rintro e W8 ⟨rfl,x8⟩
 have HX:Hid (∃ g,Sg w l K 2 0 q t bx s g 57 8 W8∧∀ a,8≤a→g a=0):=Lib.hid ⟨_,x8,fun a ha=>by
  unfold updN
  rw [if_neg (by omega),if_neg (by omega),if_neg (by omega),if_neg (by omega),if_neg (by omega)]⟩
 clear x8
 go_wp2_with fail
 go_loopw [15] (fun v15 W=>∃ i:Nat,v15=.int .u32 (i:Int)∧i≤33∧Hid (∃ g,Sg w l K 2 0 q t bx s g (57 - i) (8+i) W∧∀ a,8+i≤a→g a=0)) (fun v15 _=>33 - (intOf v15).toNat)
 case atStart=>exact ⟨0,rfl,by omega,HX⟩
 case round=>
  clear HX
  obtain ⟨i,rfl,hi,HX⟩:=hrel
  by_cases hlt:i < 33
  ·have i1:(i:Int) < 33:=by omega
   have z1:IntKind.u32.wrap ((i:Int)+1)=(i:Int)+1:=IntWalk.u32_in _ (by omega)
   have z2:IntKind.u32.wrap (8+(i:Int))=8+(i:Int):=IntWalk.u32_in _ (by omega)
   have HC:Hid (Calls Tryz.prog 36 #[.pointer (some ⟨q,0,none⟩),.bool false] wr fun e W'=>e=.returned (.tuple #[.int .u32 (8+(i:Int)),.int .i64 0])∧∃ g,Sg w l K 2 0 q t bx s g (57 - (i+1)) (8+(i+1)) W'∧∀ a,8+(i+1)≤a→g a=0):=Lib.hid (by
    obtain ⟨g,x,hg⟩:=HX.out
    rw [show 57 - i=(57 - (i+1))+1 by omega] at x
    refine (x.take (by omega) (by omega) (by omega) (hg _ (Nat.le_refl _)) (sp:=false) (room_some (.inl (by omega)))).mono fun e W' ⟨he,hx⟩=>⟨?_,_,hx,fun a ha=>?_⟩
    ·rw [he,show ((8+i:Nat):Int)=8+(i:Int) by omega]
    ·unfold updN
     rw [if_neg (by omega)]
     exact hg a (by omega))
   have d1:((8+(i:Int)) != (8+(i:Int)))=false:=by simp
   clear HX
   go_wp2_with fail
   refine HC.out.mono ?_
   clear HC
   rintro e W9 ⟨rfl,hx⟩
   have HX:=Lib.hid hx
   clear hx
   go_wp2_with fail
   go_roundw
   case rel=>exact ⟨i+1,by go_num,by omega,HX⟩
   case measure=>simp [intOf]; omega
  ·have hi33:i=33:=by omega
   subst hi33
   have HC:Hid (Calls Tryz.prog 36 #[.pointer (some ⟨q,0,none⟩),.bool false] wr fun e W'=>e=.returned (.tuple #[.int .u32 0,.int .i64 100])∧∃ g,Sg w l K 2 0 q t bx s g 24 41 W'∧∀ a,41≤a→g a=0):=Lib.hid (by
    obtain ⟨g,x,hg⟩:=HX.out
    exact (x.full (by omega) (by omega) (by omega) (sp:=false) (room_full (by omega))).mono fun e W' ⟨he,hx⟩=>⟨he,g,hx,hg⟩)
   clear HX
   go_wp2_with fail
   refine HC.out.mono ?_
   clear HC
   rintro e W9 ⟨rfl,g,x9,hg⟩
   have HC:=Lib.hid (x9.take (by omega) (by omega) (by omega) (hg _ (Nat.le_refl _)) (sp:=true) (room_some (.inr ⟨rfl,by omega⟩)))
   clear x9 hg
   go_wp2_with fail
   refine HC.out.mono ?_
   clear HC
   rintro e W10 ⟨rfl,x10⟩
   have HBE:=Lib.hid x10.bel
   have HC:=Lib.hid (New_nil Slt.nil W10)
   clear x10
   go_wp2_with fail
   refine HC.out.mono ?_
   clear HC
   rintro e W11 ⟨rfl,hb⟩
   have HBE2:=Lib.hid (HBE.out.trans (hb.mono HBE.out.size))
   clear hb HBE
   go_wp2_with fail
   go_ret
   exact ⟨rfl,HBE2.out⟩
end Go.Proofs.YtgkbfahflngklaaGreat.Spc
namespace Go.Proofs.YtgkbfahflngklaaGreat.Spc
open Go.RowKit RowLaw
open Go.Proofs.YtgkbfahflngklaaGreat.Dev (ptr)
set_option maxRecDepth 100000
set_option linter.unusedSimpArgs false in
set_option maxHeartbeats 6400000 in
theorem SpaceNone_any (a:Nat) (sp:Bool) (w:World):Calls Tryz.prog 7 #[.int .u32 (a:Int),.bool sp] w fun e w'=>e=.returned (.bool true)∧Below w.heap.size w w':=by
  have HH:=Lib.hid (fun W=>head_any W)
  have TN:=Lib.hid (fun (W:World) (v:Value) (x:NoSp W v)=>Take_none x sp)
  have LN:=Lib.hid (fun (W:World) (v:Value) (x:NoSp W v)=>Less_none x a)
  have CN:=Lib.hid (fun (W:World) (v:Value) (x:NoSp W v)=>Count_none x a)
  have MN:=Lib.hid (fun (W:World) (v:Value) (x:NoSp W v)=>More_none x a)
  have FN:=Lib.hid (fun (W:World) (v:Value) (x:NoSp W v)=>Free_none x)
  have RN:=Lib.hid (fun (W:World) (v:Value) (x:NoSp W v)=>Room_none x sp)
  have HN:=Lib.hid (fun (W:World) (v:Value) (x:NoSp W v)=>Hint_none x)
  go_enter Tryz.func7,Tryz.ntmps7
  go_wp2_with fail
  obtain ⟨W1,hW1⟩:∃ W1,W1=(w.alloc (.cells #[.pointer none,.nilFunc,.int .i64 0,.int .i64 0,.int .u32 0] 90)).alloc (.cells #[.pointer none,.pointer (some ⟨w.heap.size,0,none⟩)] 60):=⟨_,rfl⟩
  change Code.wp _ _ _ _ ((w.alloc (.cells #[.pointer none,.nilFunc,.int .i64 0,.int .i64 0,.int .u32 0] 90)).alloc (.cells #[.pointer none,.pointer (some ⟨w.heap.size,0,none⟩)] 60))
  rw [←hW1]
  have hb:Below w.heap.size w W1:=by rw [hW1]; exact ((Below.refl _ w).alloc (Nat.le_refl _) _).alloc (by simp) _
  have hl:W1.heap[w.heap.size+1]? = some (.cells #[.pointer none,.pointer (some ⟨w.heap.size,0,none⟩)] 60 (0,0)):=by
    rw [hW1,show w.heap.size+1=(w.alloc (.cells #[.pointer none,.nilFunc,.int .i64 0,.int .i64 0,.int .u32 0] 90)).heap.size from by simp]
    exact heap_alloc_new _ _
  have hz:W1.heap[w.heap.size]? = some (.cells #[.pointer none,.nilFunc,.int .i64 0,.int .i64 0,.int .u32 0] 90 (0,0)):=by
    rw [hW1]
    exact (Below.heap_alloc _ _ _ (by simp)).trans (heap_alloc_new w _)
  have c0:W1.cell? ⟨w.heap.size+1,0,none⟩=some (.pointer none):=(cell_of_row _ _ 0 _ _ _ hl).trans rfl
  have c1:W1.cell? ⟨w.heap.size+1,1,none⟩=some (.pointer (some ⟨w.heap.size,0,none⟩)):=(cell_of_row _ _ 1 _ _ _ hl).trans rfl
  have cz:W1.cell? ⟨w.heap.size,0,none⟩=some (.pointer none):=(cell_of_row _ _ 0 _ _ _ hz).trans rfl
  have HB:=Lib.hid hb
  clear hW1 hl hz hb
  generalize w.heap.size+1=q1 at c0 c1 ⊢
  obtain ⟨z,hz⟩:∃ z,z=w.heap.size:=⟨_,rfl⟩
  rw [←hz] at c1 cz ⊢
  have HZ:=Lib.hid hz
  have n0:Hid (NoSp W1 (.pointer none)):=Lib.hid (.inl rfl)
  have n1:Hid (NoSp W1 (.pointer (some ⟨z,0,none⟩))):=Lib.hid (.inr ⟨z,rfl,cz⟩)
  clear hz
  go_loopw [7] (fun i wr=>wr=W1∧(i=.int .i64 0∨i=.int .i64 1∨i=.int .i64 2)) (fun i _=>2 - (intOf i).toNat)
  case atStart=>exact ⟨rfl,.inl rfl⟩
  case round=>
    obtain ⟨rfl,rfl | rfl | rfl⟩:=hrel
    · go_wp2_with (first
        | (go_at_call 36; (with_reducible refine (TN.out _ _ n0.out).mono ?_); rintro e W ⟨rfl,rfl⟩)
        | (go_at_call 38; (with_reducible refine (LN.out _ _ n0.out).mono ?_); rintro e W ⟨rfl,rfl⟩)
        | (go_at_call 28; (with_reducible refine (CN.out _ _ n0.out).mono ?_); rintro e W ⟨rfl,rfl⟩)
        | (go_at_call 37; (with_reducible refine (MN.out _ _ n0.out).mono ?_); rintro e W ⟨rfl,rfl⟩)
        | (go_at_call 30; (with_reducible refine (FN.out _ _ n0.out).mono ?_); rintro e W ⟨rfl,rfl⟩)
        | (go_at_call 32; (with_reducible refine (RN.out _ _ n0.out).mono ?_); rintro e W ⟨rfl,rfl⟩)
        | (go_at_call 34; (with_reducible refine (HN.out _ _ n0.out).mono ?_); rintro e W ⟨rfl,rfl⟩))
      go_roundw
      case rel=>exact ⟨trivial,.inr (.inl (by go_num))⟩
      case measure=>simp [intOf]
    · go_wp2_with (first
        | (go_at_call 36; (with_reducible refine (TN.out _ _ n1.out).mono ?_); rintro e W ⟨rfl,rfl⟩)
        | (go_at_call 38; (with_reducible refine (LN.out _ _ n1.out).mono ?_); rintro e W ⟨rfl,rfl⟩)
        | (go_at_call 28; (with_reducible refine (CN.out _ _ n1.out).mono ?_); rintro e W ⟨rfl,rfl⟩)
        | (go_at_call 37; (with_reducible refine (MN.out _ _ n1.out).mono ?_); rintro e W ⟨rfl,rfl⟩)
        | (go_at_call 30; (with_reducible refine (FN.out _ _ n1.out).mono ?_); rintro e W ⟨rfl,rfl⟩)
        | (go_at_call 32; (with_reducible refine (RN.out _ _ n1.out).mono ?_); rintro e W ⟨rfl,rfl⟩)
        | (go_at_call 34; (with_reducible refine (HN.out _ _ n1.out).mono ?_); rintro e W ⟨rfl,rfl⟩))
      go_roundw
      case rel=>exact ⟨trivial,.inr (.inr (by go_num))⟩
      case measure=>simp [intOf]
    · go_wp2_with fail
      refine (HH.out _).mono ?_
      rintro e W ⟨rfl,hx⟩
      go_wp2_with fail
      go_ret
      exact ⟨rfl,HB.out.trans (hx.mono HB.out.size)⟩
end Go.Proofs.YtgkbfahflngklaaGreat.Spc
