import Derived.Test.YtgkbfahflngklaaGreatCntF
import Derived.Test.YtgkbfahflngklaaGreatCntE
set_option maxRecDepth 100000
namespace Go.Proofs.YtgkbfahflngklaaGreat
namespace Cnt
open Go.RowKit Go.Maps Go.MapKept RowLaw Crc
open Dev (Dev DS ptr Turn Step readB)
open Rot (planOk tlN pkN fsN formatF commitF Puts Apart Here)
open Slt (Rt cells)
section
variable {w W W':World} {l:List Thing} {K:List (Nat×Obj)} {i j p t:Nat} {s s':DS} {T:TD}
theorem Hall.commit (h:Hall w l K W) (hi:l[i]? = some (.dev p s)) (hpl:planOk s.n=true) {pa:Option Addr} {n c:Nat} {xs:List (Nat×List UInt8)} {r:Rt} (hn:n=xs.length) (hpu:Puts W pa xs) (hh:Here w K pa xs) (hf:r.Fits) (hlen:s.pend.length+xs.length < 4294967290) {z:Int} (hc:commitF s xs r=(s',z)) :
  Calls Tryz.prog 21 #[ptr p,.slice pa n c,.agg (cells r)] W fun e W'=>e=.returned (.int .i64 z)∧Hall w (l.set i (.dev p s')) K W':=by
 subst hn
 exact h.act hi fun C hd hK hw=>by
  have hap:Apart pa xs C:=fun hne a ha hm=>by
   rcases hh hne a ha with h1 | ⟨o,h1⟩
   ·have:=hw _ hm; omega
   ·exact hK _ h1 hm
  have:=Rot.Commit_any (c:=c) (show Dev W p C s from hd) hpl hpu hap hf hlen
  rw [hc] at this
  exact this
end
end Cnt
namespace Cnt
open Go.RowKit Go.Maps Go.MapKept RowLaw Crc
open Dev (Dev DS ptr Turn Step pendCells)
open Rot (planOk tlN pkN fsN plan_facts Puts Here commitF)
open Slt (Rt cells rootO cells_one)
def loopsOf:Code→List Code
 | .loop c=>[c]
 | .seq a b=>loopsOf a ++ loopsOf b
 | .block _ c=>loopsOf c
 | .scope c=>loopsOf c
 | .cond _ a b=>loopsOf a ++ loopsOf b
 | _=>[]
section
variable {w W W':World} {l:List Thing} {K:List (Nat×Obj)}
theorem Hall.setCell {q j: Nat} {cs: Array Value} {T: TypeId} {v: Value} (h: Hall w l ((q,.cells cs T (0,0))::K) W) (hw: w.heap.size≤q) (hne: ∀ x∈K,x.1≠q): Hall w l ((q,.cells (cs.setIfInBounds j v) T (0,0))::K) (W.setCell ⟨q,j,none⟩ v):=by
 obtain ⟨h1,f,h2,h3,h4⟩:=h
 have h0:=h4 _ List.mem_cons_self
 have ht:Turn [q] W (W.setCell ⟨q,j,none⟩ v):=(Turn.refl _ _).setCell _ _ (.inl (by simp))
 refine ⟨h1.trans (ht.below (by simpa using hw) h1.size),f,fun i x hi=>⟨(h2 i x hi).1.turn ht (fun k hk=>?_),(h2 i x hi).2⟩,h3,fun x hx=>?_⟩
 ·have:=h0.2 i (List.getElem?_eq_some_iff.1 hi).1
  simp only [List.mem_singleton]
  rintro rfl
  exact this hk
 ·rcases List.mem_cons.1 hx with rfl | hx
  ·exact ⟨heap_setCell_same W q j _ _ _ h0.1,h0.2⟩
  ·have h5:=h4 x (List.mem_cons_of_mem _ hx)
   exact ⟨(heap_setCell_other W ⟨q,j,none⟩ x.1 v (hne x hx)).trans h5.1,h5.2⟩
theorem Hall.size (h:Hall w l K W):w.heap.size≤W.heap.size:=h.1.size
end
section
variable {w W:World} {l:List Thing} {K:List (Nat×Obj)} {i t:Nat} {T:TD}
theorem Hall.first (h:Hall w l K W) (hi:l[i]? = some (.tab t T)):Calls Tryz.prog 18 #[ptr t] W fun e W'=>e=.returned (.int .u32 (fsN T.n:Int))∧W'=W:=by
 obtain ⟨_,f,h2,_⟩:=h
 obtain ⟨bp,bt,bc,fp,ft,fc,hT⟩:=(h2 i _ hi).1
 exact First_anyT hT
end
section
variable {w W:World} {l m:List Thing} {K:List (Nat×Obj)}
end
end Cnt
namespace Cnt
open Go.RowKit Go.Maps Go.MapKept RowLaw Crc
open Dev (Dev DS readB)
open Tal (kT kP fT fP getE getNs getI zs zs_length putB putB_length)
open Rot (planOk tlN pkN fsN plan_facts)
section
variable {s:DS} {ch:Nat} {T:TD}
theorem setC_now (T:TD) (p:Nat) (ns:List Nat) (q:Nat):(setC T p ns).now q=if q=p then ns else T.now q:=by
 unfold TD.now setC
 simp only
 split <;> rfl
theorem setS_same (T:TD) (a v:Nat):(setS T a v).n=T.n∧(setS T a v).d=T.d∧(setS T a v).ch=T.ch∧(setS T a v).PV=T.PV∧(setS T a v).TV=T.TV:=by
 unfold setS
 split <;> exact ⟨rfl,rfl,rfl,rfl,rfl⟩
theorem setS_ok (h:TOk T) {a v:Nat} (hv:v < 65536):TOk (setS T a v):=by
 unfold setS
 split
 ·rename_i hr
  obtain ⟨h1,h2⟩:=plan_of h.plan
  have hp:=plan_facts h1 h2
  refine h.setC (by rw [List.length_set]; exact (h.now _).1) (fun x hx=>?_) (by unfold tlN; omega)
  rcases List.mem_or_eq_of_mem_set hx with hx | rfl
  ·exact (h.now _).2 x hx
  ·exact hv
 ·exact h
theorem Of.setS (h:Of s ch T) (a v:Nat):Of s ch (Cnt.setS T a v):=by
 obtain ⟨h1,h2,h3,h4,h5⟩:=setS_same T a v
 exact ⟨h1.trans h.n,h3.trans h.chE,by rw [h4,h2]; exact h.PV,by rw [h5,h2]; exact h.TV⟩
theorem Reads.setS (h:Reads s T) (a v:Nat):Reads s (Cnt.setS T a v):=by
 unfold Cnt.setS
 split
 ·exact ⟨h.n,h.pend,h.pick,h.tally⟩
 ·exact h
theorem nowC_setS (h:TOk T) (a v b:Nat):(setS T a v).nowC b=if fsN T.n≤a∧a < T.n∧a=b then v else T.nowC b:=by
 unfold TD.nowC cntV
 rw [(setS_same T a v).1]
 by_cases hr:fsN T.n≤a∧a < T.n
 ·have e:setS T a v=setC T (a / 64) ((T.now (a / 64)).set (a % 64) v):=by unfold setS; rw [if_pos hr]
  rw [e,setC_now]
  by_cases hb:fsN T.n≤b∧b < T.n
  ·rw [if_pos hb,if_pos hb]
   by_cases h1:b / 64=a / 64
   ·rw [if_pos h1,getD_set _ _ _ _ (by rw [(h.now _).1]; omega)]
    by_cases h2:a % 64=b % 64
    ·rw [if_pos h2,if_pos ⟨hr.1,hr.2,by omega⟩]
    ·rw [if_neg h2,if_neg (fun hh=>h2 (by rw [hh.2.2])),h1]
   ·rw [if_neg h1,if_neg (fun hh=>h1 (by rw [hh.2.2]))]
  ·rw [if_neg hb,if_neg hb,if_neg (show ¬ (fsN T.n≤a∧a < T.n∧a=b) from fun hh=>hb (hh.2.2 ▸ hr))]
 ·have e:setS T a v=T:=by unfold setS; rw [if_neg hr]
  rw [e,if_neg (show ¬ (fsN T.n≤a∧a < T.n∧a=b) from fun hh=>hr ⟨hh.1,hh.2.1⟩)]
def Clean (T:TD):Prop:=∀ p i,p < tlN T.n→i < 64→¬ (fsN T.n≤p * 64+i∧p * 64+i < T.n)→(T.now p).getD i 0=0
theorem Clean.setS (h:Clean T) (hok:TOk T) (a v:Nat):Clean (Cnt.setS T a v):=by
 intro p i hp hi hn
 rw [(setS_same T a v).1] at hp hn
 by_cases hr:fsN T.n≤a∧a < T.n
 ·have e:Cnt.setS T a v=setC T (a / 64) ((T.now (a / 64)).set (a % 64) v):=by unfold Cnt.setS; rw [if_pos hr]
  rw [e,setC_now]
  by_cases h1:p=a / 64
  ·rw [if_pos h1,getD_set _ _ _ _ (by rw [(hok.now _).1]; omega),if_neg (fun h2=>hn (by omega)),←h1]
   exact h p i hp hi hn
  ·rw [if_neg h1]
   exact h p i hp hi hn
 ·have e:Cnt.setS T a v=T:=by unfold Cnt.setS; rw [if_neg hr]
  rw [e]
  exact h p i hp hi hn
structure Good (s:DS) (T:TD):Prop where
 of_:Of s 0 T
 ok:TOk T
 reads:Reads s T
 clean:Clean T
 pz:T.PV 0=zs kP
 tz:∀ p,p < tlN T.n→T.TV p=zs kT
theorem Good.setS (h:Good s T) (a:Nat) {v:Nat} (hv:v < 65536):Good s (Cnt.setS T a v):=by
 obtain ⟨h1,h2,h3,h4,h5⟩:=setS_same T a v
 exact ⟨h.of_.setS a v,setS_ok h.ok hv,h.reads.setS a v,h.clean.setS h.ok a v,by rw [h4]; exact h.pz,by rw [h1,h5]; exact h.tz⟩
def tch (A:List Nat) (k p:Nat):Bool:=(List.range k).any fun a=>decide (a / 64=p∧A.getD a 0≠0)
def cnt (A:List Nat) (k m:Nat):Nat:=((List.range m).filter (tch A k)).length
structure NowIs (T:TD) (A:List Nat):Prop where
 len:A.length=T.n
 at_:∀ a,a < T.n→A.getD a 0=T.nowC a
theorem NowIs.setS {A:List Nat} (h:NowIs T A) (hok:TOk T) {a v:Nat} (ha:fsN T.n≤a∧a < T.n):NowIs (Cnt.setS T a v) (A.set a v):=by
 refine ⟨by rw [List.length_set,(setS_same T a v).1]; exact h.len,fun b hb=>?_⟩
 rw [(setS_same T a v).1] at hb
 rw [getD_set _ _ _ _ (by rw [h.len]; exact ha.2),nowC_setS hok]
 by_cases e:a=b
 ·rw [if_pos e,if_pos ⟨ha.1,ha.2,e⟩]
 ·rw [if_neg e,if_neg (fun hh=>e hh.2.2)]
  exact h.at_ b hb
theorem zs_getD (i:Nat):(zs kT).getD i 0=0:=by
 unfold zs
 rw [List.getD_eq_getElem?_getD,List.getElem?_replicate]
 split <;> rfl
end
end Cnt

end Go.Proofs.YtgkbfahflngklaaGreat
