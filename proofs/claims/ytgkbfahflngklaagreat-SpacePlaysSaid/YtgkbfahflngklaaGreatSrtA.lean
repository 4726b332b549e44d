import Derived.Test.YtgkbfahflngklaaGreatBlk
import Derived.Test.YtgkbfahflngklaaGreatDev1
import Derived.Sort.Defs
import Derived.Deep.RegionHeld3
import Derived.Deep.Cut
import Derived.StillTailTactics
import Derived.Sort.LotD1
import Derived.Test.YtgkbfahflngklaaGreatCntC
import Derived.Sort.LotA
set_option maxRecDepth 100000
set_option maxHeartbeats 3200000
set_option linter.unusedSimpArgs false
namespace Go.Proofs.YtgkbfahflngklaaGreat
namespace Srt
open Go.RowKit RowLaw
theorem isNaN_any (x:Nat) (w:World):Calls Tryz.prog 281 #[.int .u32 (x:Int)] w fun e w'=>e=.returned (.bool false)∧w'=w:=by
 go_enter Tryz.func281,Tryz.ntmps281
 go_wp2_with fail
 go_ret
 exact ⟨by simp,rfl⟩
theorem Less_any (x y:Nat) (w:World):Calls Tryz.prog 268 #[.int .u32 (x:Int),.int .u32 (y:Int)] w fun e w'=>e=.returned (.bool (decide (x < y)))∧w'=w:=by
  have hx:=fun W=>isNaN_any x W
  have hy:=fun W=>isNaN_any y W
  by_cases h:x < y
  · have h1:(x:Int) < (y:Int):=by omega
    rw [decide_eq_true h]
    clear h
    go_enter Tryz.func268,Tryz.ntmps268
    go_wp2_with (first
      | ((with_reducible refine (hx _).mono ?_); rintro e W ⟨rfl,rfl⟩)
      | ((with_reducible refine (hy _).mono ?_); rintro e W ⟨rfl,rfl⟩))
    go_ret
    exact ⟨by simp,rfl⟩
  · have h1:¬ (x:Int) < (y:Int):=by omega
    rw [decide_eq_false h]
    clear h
    go_enter Tryz.func268,Tryz.ntmps268
    go_wp2_with (first
      | ((with_reducible refine (hx _).mono ?_); rintro e W ⟨rfl,rfl⟩)
      | ((with_reducible refine (hy _).mono ?_); rintro e W ⟨rfl,rfl⟩))
    go_ret
    exact ⟨by simp; omega,rfl⟩
end Srt
namespace Srt
open Go.RowKit RowLaw
open Dev (Turn)
def ltN (x y:Nat):Bool:=decide (x < y)
def Rw (W:World) (g c:Nat) (d:Array Nat):Prop:=W.ownsRow 0 22 1 (.slice (some ⟨g,0,none⟩) d.size c) d.size (d.toList.map fun n:Nat=>.int .u32 (n:Int))
theorem Rw.cell {W:World} {g c:Nat} {d:Array Nat} (h:Rw W g c d) {i:Nat} (hi:i < d.size):W.cell? ⟨g,i,none⟩=some (.int .u32 (d[i]! :Int)):=by
 have:=h.cellAt i (by omega)
 rw [this,List.getElem?_map,Array.getElem?_toList,Array.getElem?_eq_getElem hi,getElem!_pos d i hi]
 rfl
theorem Rw.block {W W':World} {g c:Nat} {d:Array Nat} (h:Rw W g c d) (hb:W'.heap[g]? = W.heap[g]?):Rw W' g c d:=Dev.ownsRow_block h (fun k hk=>by
 simp only [Value.ownBlock,Option.some.injEq] at hk
 subst hk
 exact hb)
def Cnt1 (W:World) (q:Nat) (s:Nat):Prop:=W.heap[q]? = some (.cells #[.int .i64 (s:Int)] 3 (0,0))
theorem Rw.ne {W:World} {g c q s:Nat} {d:Array Nat} (h:Rw W g c d) (hq:Cnt1 W q s):g≠q:=fun e=>by
 subst e
 rcases h.2 with ⟨h1,_⟩ | ⟨g',cap,cur,h1,_,h2,_⟩
 ·cases h1
 ·cases h1
  unfold Cnt1 at hq
  rw [hq] at h2
  injection h2 with h2
  injection h2 with _ h2
  exact absurd h2 (by decide)
end Srt
namespace Srt
open Go.RowKit RowLaw
open Dev (Turn)
theorem Rw.put {W:World} {g c:Nat} {d:Array Nat} (h:Rw W g c d) {i:Nat} (hi:i < d.size) (v:Nat):Rw (W.setCell ⟨g,i,none⟩ (.int .u32 (v:Int))) g c (d.setIfInBounds i v):=by
 obtain ⟨hl,h2⟩:=h
 rcases h2 with ⟨h1,_⟩ | ⟨g',cap,cur,h1,h3,h4,h5,h6,h7,h8⟩
 ·cases h1
 ·cases h1
  refine ⟨by simp,.inr ⟨g,c,cur.setIfInBounds i (.int .u32 (v:Int)),by simp,Nat.zero_le _,heap_setCell_same W g i _ _ _ h4,by simpa using h5,h6,by simpa using h7,?_⟩⟩
  refine List.ext_getElem? fun k=>?_
  have hk:=congrArg (fun l=>l[k]?) h8
  simp only [List.getElem?_take,List.getElem?_map,Array.getElem?_toList] at hk ⊢
  rw [Array.size_setIfInBounds]
  by_cases hki:k=i
  ·subst hki
   rw [if_pos (by omega),Array.getElem?_setIfInBounds_self_of_lt (by omega),Array.getElem?_setIfInBounds_self_of_lt hi]
   rfl
  ·rw [Array.getElem?_setIfInBounds_ne (fun e=>hki e.symm),Array.getElem?_setIfInBounds_ne (fun e=>hki e.symm)]
   exact hk
theorem swp_size (d:Array Nat) (i j:Nat):(Sort.swp d i j).size=d.size:=by unfold Sort.swp; simp
theorem Rw.frozen {W:World} {g c:Nat} {d:Array Nat} (h:Rw W g c d) (i:Nat):W.frozen? ⟨g,i,none⟩=false:=by
 rcases h.2 with ⟨h1,_⟩ | ⟨g',cap,cur,h1,_,h2,_⟩
 ·cases h1
 ·cases h1
  exact frozen_of_row W g i _ _ h2
theorem insInner_size (a:Nat):∀ (j:Nat) (d:Array Nat),(Sort.insInner ltN a j d).size=d.size
 | 0,_=>rfl
 | j+1,d=>by
  unfold Sort.insInner
  split
  ·rw [insInner_size a j,swp_size]
  ·rfl
theorem insertion_any {w:World} {g c a b:Nat} {d:Array Nat} (hr:Rw w g c d) (hab:a≤b) (hb:b≤d.size) (hd:d.size≤1000000) :
  Calls Tryz.prog 262 #[.slice (some ⟨g,0,none⟩) d.size c,.int .i64 (a:Int),.int .i64 (b:Int)] w fun e w'=>
   e=.returned (.tuple #[])∧Turn [g] w w'∧Rw w' g c (Sort.insertionSort ltN d a b):=by
 obtain ⟨m,hm⟩:∃ m,m=d.size:=⟨_,rfl⟩
 have HM:Hid (d.size=m):=Lib.hid hm.symm
 have HO:Hid (∀ i d',i < b→Sort.insOuter ltN a b i d'=Sort.insOuter ltN a b (i+1) (Sort.insInner ltN a i d')):=Lib.hid (fun i d' h=>by conv=>lhs; unfold Sort.insOuter; rw [if_pos h])
 have HE:Hid (∀ i d',¬ i < b→Sort.insOuter ltN a b i d'=d'):=Lib.hid (fun i d' h=>by unfold Sort.insOuter; rw [if_neg h])
 obtain ⟨R,hR⟩:∃ R,R=Sort.insertionSort ltN d a b:=⟨_,rfl⟩
 have HR:Hid (R=Sort.insOuter ltN a b (a+1) d):=Lib.hid hR
 have HRW:=Lib.hid hr
 rw [←hR,←hm]
 rw [←hm] at hb hd
 have z0:IntKind.i64.wrap ((a:Int)+1)=(a:Int)+1:=IntWalk.i64_in _ (by omega)
 clear hR hm hr
 go_enter Tryz.func262,Tryz.ntmps262
 go_wp2_with fail
 go_loopw [6] (fun v6 wr=>∃ (i:Nat) (d':Array Nat),v6=.int .i64 (i:Int)∧i≤1000002∧d'.size=m∧Turn [g] w wr∧Hid (Rw wr g c d'∧Sort.insOuter ltN a b i d'=R)) (fun v6 _=>1000003 - (intOf v6).toNat)
 case atStart=>exact ⟨a+1,d,by go_num,by omega,HM.out,Turn.refl _ _,Lib.hid ⟨HRW.out,HR.out.symm⟩⟩
 case round=>
  clear z0 HR HRW
  obtain ⟨i,d',rfl,hi,hsz,ht,hh⟩:=hrel
  by_cases hib:i < b
  ·have i1:(i:Int) < (b:Int):=by omega
   obtain ⟨h1,h2⟩:=hh.out
   rw [HO.out i d' hib] at h2
   obtain ⟨D,hD⟩:∃ D,D=Sort.insInner ltN a i d':=⟨_,rfl⟩
   rw [←hD] at h2
   have hDs:D.size=m:=by rw [hD,insInner_size,hsz]
   have H2:=Lib.hid h2; have HDD:=Lib.hid hD; have HDS:=Lib.hid hDs; have HT:=Lib.hid ht; have HSZ:=Lib.hid hsz; have H1:=Lib.hid h1
   clear hh h1 h2 hD hDs ht hsz
   go_wp2_with fail
   go_loopw [7] (fun v7 W=>∃ (j:Nat) (dd:Array Nat),v7=.int .i64 (j:Int)∧j≤i∧dd.size=m∧Turn [g] w W∧Hid (Rw W g c dd∧Sort.insInner ltN a j dd=D)) (fun v7 _=>(intOf v7).toNat)
   case atStart=>exact ⟨i,d',rfl,Nat.le_refl _,HSZ.out,HT.out,Lib.hid ⟨H1.out,HDD.out.symm⟩⟩
   case round=>
    clear H1 HT HSZ HDD
    obtain ⟨j,dd,rfl,hj,hsz,ht,hh⟩:=hrel
    have HSZ:=Lib.hid hsz
    by_cases hja:a < j
    ·obtain ⟨k,hk⟩:∃ k,j=k+1:=⟨j - 1,by omega⟩
     have hjm:j < m:=by omega
     have hkm:k < m:=by omega
     obtain ⟨h1,h2⟩:=hh.out
     have cj:=h1.cell (i:=j) (by omega)
     have ck:=h1.cell (i:=k) (by omega)
     have HIN:Hid (Sort.insInner ltN a j dd=if dd[j]! < dd[k]! then Sort.insInner ltN a k (Sort.swp dd j k) else dd):=Lib.hid (by
      subst hk
      conv=>lhs; unfold Sort.insInner
      have e1:decide (k+1 > a)=true:=decide_eq_true hja
      unfold ltN
      by_cases hlt:dd[k+1]! < dd[k]!
      ·rw [if_pos hlt,if_pos (by rw [e1,decide_eq_true hlt]; rfl)]
      ·rw [if_neg hlt,if_neg (by rw [e1,decide_eq_false hlt]; simp)])
     have HSW:Hid (Sort.swp dd j k=(dd.setIfInBounds j dd[k]!).setIfInBounds k dd[j]!):=Lib.hid rfl
     rw [HIN.out] at h2
     obtain ⟨x,hx⟩:∃ x,x=dd[j]!:=⟨_,rfl⟩
     obtain ⟨y,hy⟩:∃ y,y=dd[k]!:=⟨_,rfl⟩
     rw [←hx] at cj h2 HSW
     rw [←hy] at ck h2 HSW
     have HRD:=Lib.hid h1; have H2':=Lib.hid h2; have HT:=Lib.hid ht
     have HL:=Lib.hid (fun W=>Less_any x y W)
     have j0:(0:Int)≤(j:Int):=by omega
     have j1:(j:Int) < (m:Int):=by omega
     have k0:(0:Int)≤(k:Int):=by omega
     have k1:(k:Int) < (m:Int):=by omega
     have z1:IntKind.i64.wrap ((j:Int) - 1)=(k:Int):=by rw [IntWalk.i64_in _ (by omega)]; omega
     have ja:(a:Int) < (j:Int):=by omega
     have hS:wr.drew.cell? ⟨g,j,none⟩=some (.int .u32 (x:Int))∧wr.drew.cell? ⟨g,k,none⟩=some (.int .u32 (y:Int)):=⟨cj,ck⟩
     have HK:=Lib.hid hk
     clear hh h1 h2 hx hy HIN ht cj ck hk hsz
     go_upto_region 4 with fail
     refine wp_region_noPanic ?_
     refine wp_region_held_drew (S:=fun W=>W.cell? ⟨g,j,none⟩=some (.int .u32 (x:Int))∧W.cell? ⟨g,k,none⟩=some (.int .u32 (y:Int))) (by kernel_rfl) hS ?_
     intro hS
     have HRW:Hid (Rw wr.drew g c dd):=Lib.hid (HRD.out.block rfl)
     have HTW:Hid (Turn [g] w wr.drew):=Lib.hid HT.out.drew
     generalize wr.drew=W1 at hS HRW HTW ⊢
     refine RowLaw.tkV 0 16 (.int .i64 (j:Int)) hS ?_
     simp only [RowLaw.lset]
     refine RowLaw.tkV 1 17 (.int .i64 (a:Int)) hS ?_
     simp only [RowLaw.lset]
     refine RowLaw.tkV 2 18 (.bool true) hS ?_
     simp only [RowLaw.lset]
     refine RowLaw.tkV 3 19 (.bool true) hS ?_
     simp only [RowLaw.lset]
     refine RowLaw.tkV 4 20 (.slice (some ⟨g,0,none⟩) m c) hS ?_
     simp only [RowLaw.lset]
     refine RowLaw.tkV 5 21 (.int .i64 (j:Int)) hS ?_
     simp only [RowLaw.lset]
     refine RowLaw.tkV 6 22 (.pointer (some ⟨g,j,none⟩)) hS ?_
     simp only [RowLaw.lset]
     refine RowLaw.tkV 7 23 (.int .u32 (x:Int)) hS ?_ (hy:=(Or.inl ⟨by rfl,fun w hw=>by have c:=hw.1; go_simp⟩))
     simp only [RowLaw.lset]
     refine RowLaw.tkV 8 24 (.slice (some ⟨g,0,none⟩) m c) hS ?_
     simp only [RowLaw.lset]
     refine RowLaw.tkV 9 25 (.int .i64 (j:Int)) hS ?_
     simp only [RowLaw.lset]
     refine RowLaw.tkV 10 26 (.int .i64 (k:Int)) hS ?_
     simp only [RowLaw.lset]
     refine RowLaw.tkV 11 27 (.pointer (some ⟨g,k,none⟩)) hS ?_
     simp only [RowLaw.lset]
     refine RowLaw.tkV 12 28 (.int .u32 (y:Int)) hS ?_ (hy:=(Or.inl ⟨by rfl,fun w hw=>by have c:=hw.2; go_simp⟩))
     simp only [RowLaw.lset]
     refine wpAnyH_ready (rs:=[13]) (by kernel_rfl) (by simp) ?_
     refine AllReadyH.cons rfl (fun K hK=>?_) AllReadyH.nil
     rw [if_pos (by rfl)]
     go_simp
     refine (HL.out _).mono ?_
     clear HL
     rintro e W ⟨rfl,hW⟩
     subst hW
     dsimp only
     refine hK _ _ hS (fun _=>?_)
     clear hK K
     try simp only [Act.put,List.setIfInBounds_toArray,RowLaw.lset]
     refine RowLaw.tkV 14 30 (.bool (decide (x < y))) hS ?_
     simp only [RowLaw.lset]
     refine wpAnyH_done (by kernel_rfl) ?_ _
     refine NoPanic.normal ?_
     by_cases hlt:x < y
     ·have hdec:decide (x < y)=true:=decide_eq_true hlt
      rw [hdec]
      have HN:Hid (Sort.insInner ltN a k (Sort.swp dd j k)=D):=Lib.hid (by have:=H2'.out; rwa [if_pos hlt] at this)
      clear hdec hlt H2'
      go_upto_region 6 with fail
      have HRV:Hid (Rw W.drew g c dd):=Lib.hid (HRW.out.block rfl)
      have HTV:Hid (Turn [g] w W.drew):=Lib.hid HTW.out.drew
      have cj:W.drew.cell? ⟨g,j,none⟩=some (.int .u32 (x:Int)):=hS.1
      have ck:W.drew.cell? ⟨g,k,none⟩=some (.int .u32 (y:Int)):=hS.2
      have fj:W.drew.frozen? ⟨g,j,none⟩=false:=HRV.out.frozen j
      have fk:W.drew.frozen? ⟨g,k,none⟩=false:=HRV.out.frozen k
      clear HRW HTW hS
      refine wp_region_noPanic ?_
      refine wp_region_held_drew (S:=fun _=>True) (by kernel_rfl) trivial ?_
      intro hS
      generalize W.drew=V at cj ck fj fk HRV HTV ⊢
      refine RowLaw.tkV 0 33 (.slice (some ⟨g,0,none⟩) m c) hS ?_
      simp only [RowLaw.lset]
      refine RowLaw.tkV 1 34 (.int .i64 (j:Int)) hS ?_
      simp only [RowLaw.lset]
      refine RowLaw.tkV 2 35 (.slice (some ⟨g,0,none⟩) m c) hS ?_
      simp only [RowLaw.lset]
      refine RowLaw.tkV 3 36 (.int .i64 (j:Int)) hS ?_
      simp only [RowLaw.lset]
      refine RowLaw.tkV 4 37 (.int .i64 (k:Int)) hS ?_
      simp only [RowLaw.lset]
      refine RowLaw.tkV 5 38 (.slice (some ⟨g,0,none⟩) m c) hS ?_
      simp only [RowLaw.lset]
      refine RowLaw.tkV 6 39 (.int .i64 (j:Int)) hS ?_
      simp only [RowLaw.lset]
      refine RowLaw.tkV 7 40 (.int .i64 (k:Int)) hS ?_
      simp only [RowLaw.lset]
      refine RowLaw.tkV 8 41 (.pointer (some ⟨g,k,none⟩)) hS ?_
      simp only [RowLaw.lset]
      refine RowLaw.tkV 10 43 (.slice (some ⟨g,0,none⟩) m c) hS ?_
      simp only [RowLaw.lset]
      refine RowLaw.tkV 11 44 (.int .i64 (j:Int)) hS ?_
      simp only [RowLaw.lset]
      refine RowLaw.tkV 12 45 (.pointer (some ⟨g,j,none⟩)) hS ?_
      simp only [RowLaw.lset]
      refine wpAnyH_ready (rs:=[9,13]) (by kernel_rfl) (by simp) ?_
      refine AllReadyH.cons rfl (fun K hK=>?_) (AllReadyH.cons rfl (fun K hK=>?_) AllReadyH.nil)
      ·rw [if_pos (by rfl)]
       go_simp
       refine hK _ _ trivial (fun _=>?_)
       clear hK K
       try simp only [Act.put,List.setIfInBounds_toArray,RowLaw.lset]
       refine wpAnyH_ready (rs:=[13]) (by kernel_rfl) (by simp) ?_
       refine AllReadyH.cons rfl (fun K hK=>?_) AllReadyH.nil
       rw [if_pos (by rfl)]
       go_simp
       refine hK _ _ trivial (fun _=>?_)
       clear hK K
       try simp only [Act.put,List.setIfInBounds_toArray,RowLaw.lset]
       refine RowLaw.tkV 14 47 (.pointer (some ⟨g,j,none⟩)) hS ?_
       simp only [RowLaw.lset]
       refine wpAnyH_ready (rs:=[15]) (by kernel_rfl) (by simp) ?_
       refine AllReadyH.cons rfl (fun K hK=>?_) AllReadyH.nil
       rw [if_pos (by rfl)]
       go_simp
       refine hK _ _ trivial (fun _=>?_)
       clear hK K
       try simp only [Act.put,List.setIfInBounds_toArray,RowLaw.lset]
       refine RowLaw.tkV 16 48 (.pointer (some ⟨g,k,none⟩)) hS ?_
       simp only [RowLaw.lset]
       have hp1:=HRV.out.put (i:=j) (by have:=HSZ.out; omega) y
       have hk1:k < (dd.setIfInBounds j y).size:=by rw [Array.size_setIfInBounds]; have:=HSZ.out; omega
       have ck2:=hp1.frozen k
       have ck3:=hp1.cell hk1
       have HT1:=Lib.hid (HTV.out.setCell ⟨g,j,none⟩ (.int .u32 (y:Int)) (.inl (by simp)))
       have HP1:=Lib.hid hp1
       clear hp1 cj ck fj fk HRV HTV
       generalize V.setCell ⟨g,j,none⟩ (.int .u32 (y:Int))=V1 at ck2 ck3 HT1 HP1 ⊢
       refine wpAnyH_ready (rs:=[17]) (by kernel_rfl) (by simp) ?_
       refine AllReadyH.cons rfl (fun K hK=>?_) AllReadyH.nil
       rw [if_pos (by rfl)]
       go_simp
       refine hK _ _ trivial (fun _=>?_)
       clear hK K ck2 ck3
       have HP2:=Lib.hid (HP1.out.put hk1 x)
       have HT2:=Lib.hid (HT1.out.setCell ⟨g,k,none⟩ (.int .u32 (x:Int)) (.inl (by simp)))
       clear HP1 HT1 hk1
       generalize V1.setCell ⟨g,k,none⟩ (.int .u32 (x:Int))=V2 at HP2 HT2 ⊢
       try simp only [Act.put,List.setIfInBounds_toArray,RowLaw.lset]
       refine wpAnyH_done (by kernel_rfl) ?_ _
       refine NoPanic.normal ?_
       go_wp2_with fail
       go_roundw
       case rel=>exact ⟨k,Sort.swp dd j k,by go_num,by have:=HK.out; omega,by rw [swp_size]; exact HSZ.out,HT2.out,Lib.hid ⟨by rw [HSW.out]; exact HP2.out,HN.out⟩⟩
       case measure=>have:=HK.out; simp [intOf]; omega
      ·rw [if_pos (by rfl)]
       go_simp
       refine hK _ _ trivial (fun _=>?_)
       clear hK K
       try simp only [Act.put,List.setIfInBounds_toArray,RowLaw.lset]
       refine wpAnyH_ready (rs:=[9]) (by kernel_rfl) (by simp) ?_
       refine AllReadyH.cons rfl (fun K hK=>?_) AllReadyH.nil
       rw [if_pos (by rfl)]
       go_simp
       refine hK _ _ trivial (fun _=>?_)
       clear hK K
       try simp only [Act.put,List.setIfInBounds_toArray,RowLaw.lset]
       refine RowLaw.tkV 14 47 (.pointer (some ⟨g,j,none⟩)) hS ?_
       simp only [RowLaw.lset]
       refine wpAnyH_ready (rs:=[15]) (by kernel_rfl) (by simp) ?_
       refine AllReadyH.cons rfl (fun K hK=>?_) AllReadyH.nil
       rw [if_pos (by rfl)]
       go_simp
       refine hK _ _ trivial (fun _=>?_)
       clear hK K
       try simp only [Act.put,List.setIfInBounds_toArray,RowLaw.lset]
       refine RowLaw.tkV 16 48 (.pointer (some ⟨g,k,none⟩)) hS ?_
       simp only [RowLaw.lset]
       have hp1:=HRV.out.put (i:=j) (by have:=HSZ.out; omega) y
       have hk1:k < (dd.setIfInBounds j y).size:=by rw [Array.size_setIfInBounds]; have:=HSZ.out; omega
       have ck2:=hp1.frozen k
       have ck3:=hp1.cell hk1
       have HT1:=Lib.hid (HTV.out.setCell ⟨g,j,none⟩ (.int .u32 (y:Int)) (.inl (by simp)))
       have HP1:=Lib.hid hp1
       clear hp1 cj ck fj fk HRV HTV
       generalize V.setCell ⟨g,j,none⟩ (.int .u32 (y:Int))=V1 at ck2 ck3 HT1 HP1 ⊢
       refine wpAnyH_ready (rs:=[17]) (by kernel_rfl) (by simp) ?_
       refine AllReadyH.cons rfl (fun K hK=>?_) AllReadyH.nil
       rw [if_pos (by rfl)]
       go_simp
       refine hK _ _ trivial (fun _=>?_)
       clear hK K ck2 ck3
       have HP2:=Lib.hid (HP1.out.put hk1 x)
       have HT2:=Lib.hid (HT1.out.setCell ⟨g,k,none⟩ (.int .u32 (x:Int)) (.inl (by simp)))
       clear HP1 HT1 hk1
       generalize V1.setCell ⟨g,k,none⟩ (.int .u32 (x:Int))=V2 at HP2 HT2 ⊢
       try simp only [Act.put,List.setIfInBounds_toArray,RowLaw.lset]
       refine wpAnyH_done (by kernel_rfl) ?_ _
       refine NoPanic.normal ?_
       go_wp2_with fail
       go_roundw
       case rel=>exact ⟨k,Sort.swp dd j k,by go_num,by have:=HK.out; omega,by rw [swp_size]; exact HSZ.out,HT2.out,Lib.hid ⟨by rw [HSW.out]; exact HP2.out,HN.out⟩⟩
       case measure=>have:=HK.out; simp [intOf]; omega
     ·have hdec:decide (x < y)=false:=decide_eq_false hlt
      rw [hdec]
      have HN:Hid (dd=D):=Lib.hid (by have:=H2'.out; rwa [if_neg hlt] at this)
      clear hdec hlt H2' hS
      go_wp2_with fail
      exact ⟨⟨i+1,D,by go_num,by omega,HDS.out,HTW.out,Lib.hid ⟨by rw [←HN.out]; exact HRW.out,H2.out⟩⟩,by simp [intOf]; omega⟩
    ·have HN:Hid (dd=D):=Lib.hid (by
      have h2:=hh.out.2
      cases j with
      | zero=>exact h2
      | succ k=>
       unfold Sort.insInner at h2
       rw [if_neg (by rw [decide_eq_false (by omega)]; simp)] at h2
       exact h2)
     have HRD:Hid (Rw wr.drew g c dd):=Lib.hid (hh.out.1.block rfl)
     have HT:=Lib.hid ht.drew
     have ja:¬ (a:Int) < (j:Int):=by omega
     clear hh ht hsz hja
     go_upto_region 4 with fail
     refine wp_region_noPanic ?_
     refine wp_region_held_drew (S:=fun _=>True) (by kernel_rfl) trivial ?_
     intro hS
     generalize wr.drew=W at HRD HT ⊢
     refine RowLaw.tkV 0 16 (.int .i64 (j:Int)) hS ?_
     simp only [RowLaw.lset]
     refine RowLaw.tkV 1 17 (.int .i64 (a:Int)) hS ?_
     simp only [RowLaw.lset]
     refine RowLaw.tkV 2 18 (.bool false) hS ?_
     simp only [RowLaw.lset]
     refine RowLaw.tkV 3 19 (.bool false) hS ?_
     simp only [RowLaw.lset]
     refine RowLaw.tkV 4 20 (undef) hS ?_ (hy:=(Or.inr ⟨by rfl,rfl⟩))
     simp only [RowLaw.lset]
     refine RowLaw.tkV 5 21 (undef) hS ?_ (hy:=(Or.inr ⟨by rfl,rfl⟩))
     simp only [RowLaw.lset]
     refine RowLaw.tkV 6 22 (undef) hS ?_ (hy:=(Or.inr ⟨by rfl,rfl⟩))
     simp only [RowLaw.lset]
     refine RowLaw.tkV 7 23 (undef) hS ?_ (hy:=(Or.inr ⟨by rfl,rfl⟩))
     simp only [RowLaw.lset]
     refine RowLaw.tkV 8 24 (undef) hS ?_ (hy:=(Or.inr ⟨by rfl,rfl⟩))
     simp only [RowLaw.lset]
     refine RowLaw.tkV 9 25 (undef) hS ?_ (hy:=(Or.inr ⟨by rfl,rfl⟩))
     simp only [RowLaw.lset]
     refine RowLaw.tkV 10 26 (undef) hS ?_ (hy:=(Or.inr ⟨by rfl,rfl⟩))
     simp only [RowLaw.lset]
     refine RowLaw.tkV 11 27 (undef) hS ?_ (hy:=(Or.inr ⟨by rfl,rfl⟩))
     simp only [RowLaw.lset]
     refine RowLaw.tkV 12 28 (undef) hS ?_ (hy:=(Or.inr ⟨by rfl,rfl⟩))
     simp only [RowLaw.lset]
     refine RowLaw.tkV 13 29 (undef) hS ?_ (hy:=(Or.inr ⟨by rfl,rfl⟩))
     simp only [RowLaw.lset]
     refine RowLaw.tkV 14 30 (.bool false) hS ?_
     simp only [RowLaw.lset]
     refine wpAnyH_done (by kernel_rfl) ?_ _
     refine NoPanic.normal ?_
     go_wp2_with fail
     exact ⟨⟨i+1,D,by go_num,by omega,HDS.out,HT.out,Lib.hid ⟨by rw [←HN.out]; exact HRD.out,H2.out⟩⟩,by simp [intOf]; omega⟩
  ·have i1:¬ (i:Int) < (b:Int):=by omega
   have HF:Hid (Rw wr g c R):=Lib.hid (by obtain ⟨h1,h2⟩:=hh.out; rw [HE.out i d' hib] at h2; rw [←h2]; exact h1)
   have HT:=Lib.hid ht
   clear hh ht
   go_wp2_with fail
   go_end0
   exact ⟨rfl,HT.out,HF.out⟩
end Srt
namespace Srt
open Go.RowKit RowLaw
open Dev (Turn)
end Srt
namespace Srt
open Go.RowKit RowLaw
open Dev (Turn)
theorem len_any (n:Nat) (hn:n≤255) (w:World):Calls Tryz.prog 245 #[.int .u64 (n:Int)] w fun e w'=>e=.returned (.int .i64 (Sort.bitsLen n:Int))∧w'=w:=by
 have h1:¬ 4294967296≤(n:Int):=by omega
 have h2:¬ 65536≤(n:Int):=by omega
 have h3:¬ 256≤(n:Int):=by omega
 have h4:(n:Int) < 256:=by omega
 go_enter Tryz.func245,Tryz.ntmps245
 go_wp2
 go_ret
 refine ⟨congrArg (fun z=>Ending.returned (.int .i64 z)) ?_,rfl⟩
 rw [←getElem!_pos]
 clear h1 h2 h3 h4 w
 revert n
 decide +kernel
end Srt
namespace Srt
open Go.RowKit RowLaw
open Dev (Turn)
theorem swoN:Sort.SWO ltN where
 irrefl:=fun x=>by simp [ltN]
 trans:=fun x y z h1 h2=>by simp [ltN] at h1 h2 ⊢; omega
 ntrans:=fun x y z h1 h2=>by simp [ltN] at h1 h2 ⊢; omega
def Post (w:World) (g c a b:Nat) (d:Array Nat) (W:World):Prop:=∃ d':Array Nat,Sort.PermIn a b d d'∧Sort.SortedIn ltN a b d'∧Turn [g] w W∧Rw W g c d'
theorem pdq_few {w:World} {g c lim:Nat} {d:Array Nat} (h12:d.size≤12) (hr:Rw w g c d) :
  Calls Tryz.prog 244 #[.slice (some ⟨g,0,none⟩) d.size c,.int .i64 0,.int .i64 (d.size:Int),.int .i64 (lim:Int)] w fun e w'=>e=.returned (.tuple #[])∧Post w g c 0 d.size d w':=by
 obtain ⟨s1,s2⟩:=Sort.insertionSort_holds swoN d 0 d.size (Nat.zero_le _) (Nat.le_refl _)
 have HI:Hid (Calls Tryz.prog 262 #[.slice (some ⟨g,0,none⟩) d.size c,.int .i64 0,.int .i64 (d.size:Int)] w fun e w'=>e=.returned (.tuple #[])∧Post w g c 0 d.size d w'):=
  Lib.hid ((insertion_any hr (Nat.zero_le _) (Nat.le_refl _) (by omega)).mono fun e w' ⟨e1,e2,e3⟩=>⟨e1,_,s1,s2,e2,e3⟩)
 clear s1 s2 hr
 obtain ⟨m,hm⟩:∃ m,m=d.size:=⟨_,rfl⟩
 rw [←hm] at h12 HI ⊢
 clear hm
 have h1:(m:Int)≤12:=by omega
 go_enter Tryz.func244,Tryz.ntmps244
 go_wp2
 go_loopw [1,2,3] (fun a b c wr=>a=.int .i64 0∧b=.int .i64 (m:Int)∧wr=w) (fun _ _ _ _=>0)
 case atStart=>exact ⟨rfl,rfl,rfl⟩
 case round=>
  obtain ⟨rfl,rfl,rfl⟩:=hrel
  go_wp2_with (with_reducible refine HI.out.mono ?_)
  rintro e W1 ⟨rfl,hp⟩
  go_wp2
  exact bodyPost_ret (results_none rfl _ _ _) rfl ⟨rfl,hp⟩
end Srt
namespace Cnt
open Go.RowKit RowLaw
open Dev (Turn)
open Srt (Rw pdq_few Post len_any swoN ltN)
theorem sortOkFew:SortOk 12:=fun base v ss W hown hlen hlt=>by
 rcases hown.2 with ⟨rfl,hz⟩ | ⟨g,cap,cur,rfl,hbg,hcell,hsz,hcap,hfz,htk⟩
 ·have he:ss=[]:=List.eq_nil_of_length_eq_zero hz
  subst he
  exact sortOk1 base _ [] W hown (by simp) hlt
 ·obtain ⟨d,hd⟩:∃ d:Array Nat,d=ss.toArray:=⟨_,rfl⟩
  have hds:d.size=ss.length:=by rw [hd]; simp
  have hdl:d.toList=ss:=by rw [hd]
  have hR:Rw W g cap d:=by
   unfold Rw
   rw [hdl,hds]
   exact ⟨hown.1,.inr ⟨g,cap,cur,rfl,Nat.zero_le _,hcell,hsz,hcap,hfz,htk⟩⟩
  have HP:=Lib.hid (fun W (h:Rw W g cap d)=>pdq_few (w:=W) (g:=g) (c:=cap) (lim:=Sort.bitsLen d.size) (d:=d) (by omega) h)
  have HL:=Lib.hid (len_any d.size (by omega))
  have HR:=Lib.hid hR
  obtain ⟨m,hm⟩:∃ m,m=d.size:=⟨_,rfl⟩
  have hm255:m≤255:=by omega
  have hc:Calls Tryz.prog 208 #[.slice (some ⟨g,0,none⟩) m cap] W fun e w'=>e=.returned (.tuple #[])∧Post W g cap 0 d.size d w':=by
   rw [←hm] at HP HL ⊢
   have HP2:Hid (Calls Tryz.prog 244 #[.slice (some ⟨g,0,none⟩) m cap,.int .i64 0,.int .i64 (m:Int),.int .i64 (Sort.bitsLen m:Int)] W fun e w'=>e=.returned (.tuple #[])∧Post W g cap 0 m d w'):=Lib.hid (HP.out W HR.out)
   clear hown hcell hsz hcap hfz htk hlen hlt hd hds hdl hR HP HR hm
   have z1:IntKind.u64.wrap (m:Int)=(m:Int):=IntWalk.u64_in _ (by omega)
   go_enter Tryz.func208,Tryz.ntmps208
   go_wp2_with (first | ((with_reducible refine (HL.out _).mono ?_); rintro e W1 ⟨rfl,rfl⟩) | ((with_reducible refine HP2.out.mono ?_); rintro e W2 ⟨rfl,hp⟩))
   go_end0
   exact ⟨rfl,hp⟩
  rw [hm,hds] at hc
  refine hc.mono fun e w' ⟨he,d',hp,hs,ht,hr⟩=>⟨he,d'.toList,?_,?_,?_,?_⟩
  ·have h2:=hp.2.2
   rw [←hds,Array.extract_eq_self_of_le (Nat.le_refl _),hdl] at h2
   rw [←hp.1,Array.extract_eq_self_of_le (Nat.le_refl _)] at h2
   exact h2
  ·rw [List.pairwise_iff_getElem]
   intro i j hi hj hij
   have h3:=hs i j (Nat.zero_le _) hij (by rw [←hds,←hp.1]; simpa using hj)
   rw [getElem!_pos d' i (by simpa using hi),getElem!_pos d' j (by simpa using hj)] at h3
   have h4:¬ d'[j]'(by simpa using hj) < d'[i]'(by simpa using hi):=of_decide_eq_false h3
   simp only [Array.getElem_toList]
   omega
  ·have hsz2:d'.toList.length=ss.length:=by rw [Array.length_toList,hp.1,hds]
   have hr':=hr
   unfold Rw at hr'
   rw [show d'.size=ss.length from hp.1.trans hds] at hr'
   rcases hr'.2 with ⟨h1,_⟩ | ⟨g',c',cur',h1,_,k3,k4,k5,k6,k7⟩
   ·cases h1
   ·cases h1
    rw [hsz2]
    exact ⟨by simpa using hsz2,.inr ⟨g,cap,cur',rfl,hbg,k3,k4,k5,k6,k7⟩⟩
  ·exact ht
end Cnt

end Go.Proofs.YtgkbfahflngklaaGreat
