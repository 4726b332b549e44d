import Derived.Test.YtgkbfahflngklaaGreatSpcP6
import Derived.Test.YtgkbfahflngklaaGreatSpcOpen
set_option maxRecDepth 100000
set_option maxHeartbeats 25600000
set_option linter.unusedSimpArgs false
set_option linter.unusedVariables false
namespace Go.Proofs.YtgkbfahflngklaaGreat
namespace Spc
open Go.RowKit RowLaw
open Dev (DS)
open Rot (fsN)
open Go.Proofs.YtgkbfahflngklaaGreat.Cnt
open Slt (Rt)
abbrev qD (d:QD) (vg vw vl:Value):Array Value:=qC d.x.n vg vw d.x.wr d.r vl d.had d.hint d.first d.taken d.gone
abbrev bD (q:Nat) (d:QD) (vg vw vl:Value):Array Value:=bothC (.pointer (some ⟨q,0,none⟩)) d.x.n vg vw d.x.wr d.r vl d.had d.hint d.first d.taken d.gone
theorem splice_q (q:Nat) (d e:QD) (vg vw vl ug uw ul:Value):spliceA (bD q d vg vw vl) 1 (qD e ug uw ul).toList=bD q e ug uw ul:=by simp [spliceA]
theorem Pk.splice {w:World} {q n g:Nat} {V:List (Value×QD)} {S:SS} {T:TypeId} (hg:w.heap.size≤g) (hT:T≠60) (h1:T≠55) (h2:T≠277) :
  ∀ (vs: List Value) (cs: Array Value) (o: Nat) (E: List (Nat×Obj)) (W: World),Pk w q n E V S W→(g,Obj.cells cs T (0,0))∈E→Pk w q n ((g,.cells (spliceA cs o vs) T (0,0))::but g E) V S (W.setCells g o vs)
 | [],cs,o,E,W,x,hm=>x.less (fun y hy=>by
   rcases List.mem_cons.1 hy with rfl | hy
   ·exact hm
   ·exact (but_mem.1 hy).1) (fun y hy=>hy)
 | v::vs,cs,o,E,W,x,hm=>(Pk.splice hg hT h1 h2 vs (cs.setIfInBounds o v) (o+1) _ _ (x.put (j:=o) (v:=v) hm hg hT h1 h2) List.mem_cons_self).less (fun y hy=>by
   rcases List.mem_cons.1 hy with rfl | hy
   ·exact List.mem_cons_self
   ·exact List.mem_cons_of_mem _ (but_mem.2 ⟨List.mem_cons_of_mem _ hy,(but_mem.1 hy).2⟩)) (fun y hy=>hy)
theorem Pk.shape {w W:World} {q n:Nat} {E:List (Nat×Obj)} {V:List (Value×QD)} {S:SS} (x:Pk w q n E V S W) {v:Value} {d:QD} (hm:(v,d)∈V):∃ vg vw vl,v=.agg (qD d vg vw vl)∧vg.oneCell'=true∧vw.oneCell'=true∧vl.oneCell'=true:=by
 obtain ⟨l,K,i,j,t,bx,s,x,he,h,hn,hv⟩:=x
 obtain ⟨vg,vw,vl,e,h1,h2⟩:=hv _ hm
 exact ⟨vg,vw,vl,e,h1.slices.1,h1.slices.2,h2.slice⟩
theorem Pk.qv {w W:World} {q n:Nat} {E:List (Nat×Obj)} {V:List (Value×QD)} {S:SS} (x:Pk w q n E V S W) {v:Value} {d:QD} (hm:(v,d)∈V):∃ A,QV A W v d:=by
 obtain ⟨l,K,i,j,t,bx,s,x,he,h,hn,hv⟩:=x
 exact ⟨_,hv _ hm⟩
theorem Pk.dtake {w W:World} {q n:Nat} {E:List (Nat×Obj)} {V:List (Value×QD)} {S S':SS} {s:DS} {v:Value} {d:QD} (x:Pk w q n E V S' W) (hm:(v,d)∈V) (y:Sync s S d) (hL:d.L.length < 1000000) (sp:Bool) :
  Calls Tryz.prog 102 #[v,.bool sp] W fun e W'=>∃ v',e=.returned (.tuple #[v',.int .u32 (((takeR S sp).getD 0: Nat): Int),.int .i64 (if (takeR S sp).isSome then 0 else 100)])∧Pk w q n E ((v',d.takes s.n (takeR S sp))::V) S' W':=
 x.call (P:=fun e v'=>e=.returned (.tuple #[v',.int .u32 (((takeR S sp).getD 0:Nat):Int),.int .i64 (if (takeR S sp).isSome then 0 else 100)])) hm (fun A hA hq=>Take10_any hq y hL sp hA)
theorem Pk.dmore {w W:World} {q n:Nat} {E:List (Nat×Obj)} {V:List (Value×QD)} {S S':SS} {s:DS} {v:Value} {d:QD} (x:Pk w q n E V S' W) (hm:(v,d)∈V) (y:Sync s S d) (hL:d.L.length < 1000000) {a:Nat} (ha:a < 4294967296) :
  Calls Tryz.prog 103 #[v,.int .u32 (a: Int)] W fun e W'=>∃ v',e=.returned (.tuple #[v',.int .i64 (askV S.T a 2)])∧Pk w q n E ((v',d.more S a)::V) S' W':=
 x.call (P:=fun e v'=>e=.returned (.tuple #[v',.int .i64 (askV S.T a 2)])) hm (fun A hA hq=>More10_any hq y hL ha hA)
theorem Pk.dlow {w W:World} {q n:Nat} {E:List (Nat×Obj)} {V:List (Value×QD)} {S S':SS} {s:DS} {v:Value} {d:QD} (x:Pk w q n E V S' W) (hm:(v,d)∈V) (y:Sync s S d) (hL:d.L.length < 1000000) {a:Nat} (ha:a < 4294967296) :
  Calls Tryz.prog 104 #[v,.int .u32 (a: Int)] W fun e W'=>∃ v',e=.returned (.tuple #[v',.int .u16 ((if askV S.T a 1=0 then S.T.nowC a - 1 else 0: Nat): Int),.int .i64 (askV S.T a 1)])∧Pk w q n E ((v',d.low S a)::V) S' W':=
 x.call (P:=fun e v'=>e=.returned (.tuple #[v',.int .u16 ((if askV S.T a 1=0 then S.T.nowC a - 1 else 0:Nat):Int),.int .i64 (askV S.T a 1)])) hm (fun A hA hq=>Less10_any hq y hL ha hA)
theorem takes_len (d:QD) (n:Nat) (o:Option Nat):(d.takes n o).L.length≤d.L.length+1:=by
 cases o with
 | none=>exact Nat.le_succ _
 | some a=>show (d.L ++ [(a,1)]).length≤_; simp
theorem more_len (S:SS) (d:QD) (a:Nat):(d.more S a).L.length≤d.L.length+1:=by
 unfold QD.more
 split
 ·show (d.L ++ [(a,_)]).length≤_; simp
 ·exact Nat.le_succ _
theorem low_len (S:SS) (d:QD) (a:Nat):(d.low S a).L.length≤d.L.length+1:=by
 unfold QD.low
 split
 ·show (d.L ++ [(a,_)]).length≤_; simp
 ·exact Nat.le_succ _
theorem sizeQD (d:QD) (vg vw vl:Value):(Tryz.prog.info? 67).map (·.size)=some (qD d vg vw vl).size:=sizeQ _ _ _ _ _ _ _ _ _ _ _
theorem sizeBD (q:Nat) (d:QD) (vg vw vl:Value):(Tryz.prog.info? 69).map (·.size)=some (bD q d vg vw vl).size:=sizeBoth _ _ _ _ _ _ _ _ _ _ _ _
def IsDone (w:World) (q n:Nat) (E:List (Nat×Obj)) (V:List (Value×QD)) (s:DS) (m:Nat) (e:Ending) (W:World):Prop:=
 ∃ S d vg vw vl,e=.returned (.tuple #[.agg (bD q d vg vw vl),.bool true])∧Pk w q n E ((.agg (qD d vg vw vl),d)::V) S W∧Sync s S d∧d.L.length≤m+1
theorem does_any {w W: World} {q n: Nat} {E: List (Nat×Obj)} {V: List (Value×QD)} {S: SS} {s: DS} {d: QD} {vg vw vl: Value} (x: Pk w q n E ((.agg (qD d vg vw vl),d)::V) S W) (y: Sync s S d) (hL: d.L.length < 1000000) {what a: Nat} (hw: what < 256) (ha: a < 4294967296) :
  Calls Tryz.prog 27 #[.agg (bD q d vg vw vl),.agg #[.int .u8 (what:Int),.int .u32 (a:Int)]] W (IsDone w q n E V s d.L.length):=by
 have hge:=x.sk.bel.size
 have hlt:∀ y∈E,y.1 < W.heap.size:=fun y hy=>x.sk.lt_ (g:=y.1) (o:=y.2) hy
 have x1:=((x.alloc (.cells (bD q d vg vw vl) 69)).alloc (.cells #[.int .u8 (what:Int),.int .u32 (a:Int)] 74)).alloc (.cells bothZ 69)
 rw [World.size_alloc,World.size_alloc] at x1
 have hzb:=(zero_of_info infoBoth).1
 have hzq:=(zero_of_info infoQ).1
 obtain ⟨r6,hr6⟩:∃ r,r=what % 6:=⟨_,rfl⟩
 have hr66:r6 < 6:=by omega
 have e1:(what:Int) % 6=(r6:Int):=by omega
 have e2:(what:Int).tmod 6=(r6:Int):=by rw [Int.tmod_eq_emod_of_nonneg (by omega)]; exact e1
 have z6:IntKind.u8.wrap (r6:Int)=(r6:Int):=IntWalk.u8_in _ (by omega)
 go_enter Tryz.func27,Tryz.ntmps27
 go_upto_region 1 with fail
 change Code.wp _ _ _ _ (((W.alloc (.cells (bD q d vg vw vl) 69)).alloc (.cells #[.int .u8 (what:Int),.int .u32 (a:Int)] 74)).alloc (.cells bothZ 69))
 generalize ((W.alloc (.cells (bD q d vg vw vl) 69)).alloc (.cells #[.int .u8 (what:Int),.int .u32 (a:Int)] 74)).alloc (.cells bothZ 69)=W1 at x1 ⊢
 obtain ⟨g,hg⟩:∃ g,g=W.heap.size:=⟨_,rfl⟩
 rw [←hg] at x1 hge hlt ⊢
 have hm: ∃ E1: List (Nat×Obj),Pk w q n E1 ((.agg (qD d vg vw vl),d)::V) S W1∧(g,Obj.cells (bD q d vg vw vl) 69 (0,0))∈E1∧(g+1,Obj.cells #[.int .u8 (what: Int),.int .u32 (a: Int)] 74 (0,0))∈E1∧(g+1+1,Obj.cells bothZ 69 (0,0))∈E1∧∀ y∈E,y∈E1∧y.1 < g:=
  ⟨_,x1,List.mem_cons_of_mem _ (List.mem_cons_of_mem _ List.mem_cons_self),List.mem_cons_of_mem _ List.mem_cons_self,List.mem_cons_self,fun y hy=>⟨List.mem_cons_of_mem _ (List.mem_cons_of_mem _ (List.mem_cons_of_mem _ hy)),hlt y hy⟩⟩
 obtain ⟨E1,hx,hng,hnx,hnz,hne⟩:=hm
 have c0:=hx.sk.cell hnx (j:=0) (v:=.int .u8 (what:Int)) rfl
 have c1:=hx.sk.cell hnx (j:=1) (v:=.int .u32 (a:Int)) rfl
 have b0:=hx.sk.cell hng (j:=0) (v:=.pointer (some ⟨q,0,none⟩)) rfl
 have HNG:=Lib.hid hng; have HNX:=Lib.hid hnx; have HNZ:=Lib.hid hnz; have HNE:=Lib.hid hne; have HGE:=Lib.hid hge
 have hr:(∃ sp,r6=0∧sp=false∨r6=1∧sp=false∨r6=2∧sp=true)∨r6=3∨r6=4∨r6=5:=by
  have h:r6=0∨r6=1∨r6=2∨r6=3∨r6=4∨r6=5:=by omega
  rcases h with h | h | h | h
  ·exact .inl ⟨false,.inl ⟨h,rfl⟩⟩
  ·exact .inl ⟨false,.inr (.inl ⟨h,rfl⟩)⟩
  ·exact .inl ⟨true,.inr (.inr ⟨h,rfl⟩)⟩
  ·exact .inr h
 clear hg x x1 hng hnx hnz hne hge hlt hr6 hr66 hw
 rcases hr with ⟨sp,hr⟩ | rfl | hr
 ·have HT:=Lib.hid (hx.take sp)
  have HD:=Lib.hid (fun (W2: World) (x2: Pk w q n E1 ((.agg (qD d vg vw vl),d)::V) (S.takes (takeR S sp)) W2)=>x2.dtake List.mem_cons_self y hL sp)
  have HN:=Lib.hid (And.intro (y.takes sp) (takes_len d s.n (takeR S sp)))
  generalize S.takes (takeR S sp)=S2 at HT HD HN
  generalize d.takes s.n (takeR S sp)=d2 at HD HN
  unfold ansV at HT
  generalize (takeR S sp).getD 0=rA at HT HD
  obtain ⟨rE,hrE⟩:∃ z:Int,z=(if (takeR S sp).isSome then 0 else 100):=⟨_,rfl⟩
  rw [←hrE] at HT HD
  clear hrE hx y hL
  rcases hr with ⟨rfl,rfl⟩ | ⟨rfl,rfl⟩ | ⟨rfl,rfl⟩
  all_goals
   go_wp2_with fail
   refine HT.out.mono ?_
   clear HT c0 c1 b0
   rintro e W2 ⟨rfl,x2⟩
   have HB:=Lib.hid (range_q (x2.sk.at_ HNG.out))
   have c0:=x2.sk.cell HNX.out (j:=0) (v:=.int .u8 (what:Int)) rfl
   have c1:=x2.sk.cell HNX.out (j:=1) (v:=.int .u32 (a:Int)) rfl
   have HD2:=Lib.hid (HD.out _ x2)
   have hiq:=sizeQD d vg vw vl
   clear HD x2
   go_wp2_with (refine Dev.wpList_load_sub rfl 67 _ rfl g 1 rfl (qD d vg vw vl) _ HB.out Tryz.underlying67 rfl hiq ?_)
   refine HD2.out.mono ?_
   clear HD2 HB c0 c1 hiq
   rintro e W3 ⟨v',rfl,x3⟩
   obtain ⟨ug,uw,ul,rfl,o1,o2,o3⟩:=x3.shape List.mem_cons_self
   have hiq:=sizeQD d2 ug uw ul
   have h1q:(qD d2 ug uw ul).all (·.oneCell')=true:=qC_one _ _ _ _ _ _ _ _ o1 o2 o3
   have h1b:(bD q d2 ug uw ul).all (·.oneCell')=true:=bothC_one _ _ _ _ _ _ _ _ _ o1 o2 o3
   have x4:=x3.alloc (.cells (qD d2 ug uw ul) 67)
   have hst:=heap_alloc_new W3 (.cells (qD d2 ug uw ul) 67)
   have hst0:=heap_alloc_new W3 (.cells (qC 0 (.slice none 0 0) (.slice none 0 0) 0 Slt.nil (.slice none 0 0) 0 0 0 0 0) 67)
   clear x3 o1 o2 o3
   go_upto_region 7 with (refine wpList_store_row rfl 67 _ _ rfl W3.heap.size (qD d2 ug uw ul) rfl rfl _ _ hst0 hiq rfl h1q ?_)
   change Code.wp _ _ _ _ ((W3.alloc (.cells (qC 0 (.slice none 0 0) (.slice none 0 0) 0 Slt.nil (.slice none 0 0) 0 0 0 0 0) 67)).setRow W3.heap.size (qD d2 ug uw ul))
   rw [World.setRow_alloc_new]
   clear hst0
   generalize W3.alloc (.cells (qD d2 ug uw ul) 67)=W4 at hst x4 ⊢
   generalize W3.heap.size=g8 at hst x4 ⊢
   have HTH:Hid (W4.there g 1 (qD d2 ug uw ul).size):=Lib.hid (there_block (x4.sk.at_ (List.mem_cons_of_mem _ HNG.out)) 1 21 (by simp))
   have x5:=Pk.splice HGE.out (by decide) (by decide) (by decide) (qD d2 ug uw ul).toList _ 1 _ _ x4 (List.mem_cons_of_mem _ HNG.out)
   rw [splice_q] at x5
   have x5:=x5.less (E':=(g,Obj.cells (bD q d2 ug uw ul) 69 (0,0))::(g+1+1,Obj.cells bothZ 69 (0,0))::E) (V':=(.agg (qD d2 ug uw ul),d2)::V) (fun y hy=>by
    rcases List.mem_cons.1 hy with rfl | hy
    ·exact List.mem_cons_self
    ·refine List.mem_cons_of_mem _ (but_mem.2 ?_)
     rcases List.mem_cons.1 hy with rfl | hy
     ·exact ⟨List.mem_cons_of_mem _ HNZ.out,by show g+1+1≠g; omega⟩
     ·exact ⟨List.mem_cons_of_mem _ (HNE.out y hy).1,by have:=(HNE.out y hy).2; omega⟩) (fun y hy=>by
    rcases List.mem_cons.1 hy with rfl | hy
    ·exact List.mem_cons_self
    ·exact List.mem_cons_of_mem _ (List.mem_cons_of_mem _ hy))
   obtain ⟨cT,hcT⟩:∃ cT,cT=qD d2 ug uw ul:=⟨_,rfl⟩
   have HX5: Hid (∀ W5,W5=W4.setCells g 1 cT.toList→Pk w q n ((g,Obj.cells (bD q d2 ug uw ul) 69 (0,0))::(g+1+1,Obj.cells bothZ 69 (0,0))::E) ((.agg (qD d2 ug uw ul),d2)::V) S2 W5):=Lib.hid (fun W5 h=>by rw [h,hcT]; exact x5)
   rw [←hcT] at hiq h1q hst HTH
   clear hcT x4 x5
   go_upto_region 8 with (first | (refine wpList_load_row rfl 67 _ rfl g8 rfl _ _ _ _ hst Tryz.underlying67 rfl hiq ?_) | (refine wpList_store_mid rfl 67 _ _ rfl g 1 cT rfl rfl HTH.out hiq h1q ?_))
   obtain ⟨W5,hW5⟩:∃ W5,W5=W4.setCells g 1 cT.toList:=⟨_,rfl⟩
   rw [←hW5]
   have hx5:=HX5.out W5 hW5
   clear hW5 HX5 hst HTH hiq h1q
   have a1:=hx5.sk.at_ List.mem_cons_self
   have a2:=hx5.sk.at_ (List.mem_cons_of_mem _ List.mem_cons_self)
   have x6:=hx5.setR (cs2:=bD q d2 ug uw ul) (List.mem_cons_of_mem _ List.mem_cons_self) (by have:=HGE.out; omega) (by decide) (by decide) (by decide)
   have HX7:=Lib.hid (x6.less (E':=E) (V':=(.agg (qD d2 ug uw ul),d2)::V) (fun y hy=>List.mem_cons_of_mem _ (but_mem.2 ⟨List.mem_cons_of_mem _ (List.mem_cons_of_mem _ hy),by have:=(HNE.out y hy).2; omega⟩)) (fun y hy=>hy))
   have hib:=sizeBD q d2 ug uw ul
   clear x6 hx5
   go_wp2_with (first | (refine wpList_load_row rfl 69 _ rfl g rfl _ _ _ _ a1 Tryz.underlying69 rfl hib ?_) | (refine wpList_store_row rfl 69 _ _ rfl (g+1+1) _ rfl rfl _ _ a2 hib rfl h1b ?_))
   exact bodyPost_ret (results_row_tmp rfl _ _ _ _ _ _ _ rfl (setRow_heap _ _ _ _ _ _ a2) Tryz.underlying69 rfl hib) rfl ⟨S2,d2,ug,uw,ul,rfl,HX7.out,HN.out.1,HN.out.2⟩
 ·have HT:=Lib.hid (hx.raise ha)
  have HD:=Lib.hid (fun (W2: World) (x2: Pk w q n E1 ((.agg (qD d vg vw vl),d)::V) (S.more a) W2)=>x2.dmore List.mem_cons_self y hL ha)
  have HN:=Lib.hid (And.intro (y.more a) (more_len S d a))
  generalize S.more a=S2 at HT HD HN
  generalize d.more S a=d2 at HD HN
  generalize askV S.T a 2=rE at HT HD
  clear hx y hL
  go_wp2_with fail
  refine HT.out.mono ?_
  clear HT c0 c1 b0
  rintro e W2 ⟨rfl,x2⟩
  have HB:=Lib.hid (range_q (x2.sk.at_ HNG.out))
  have c0:=x2.sk.cell HNX.out (j:=0) (v:=.int .u8 (what:Int)) rfl
  have c1:=x2.sk.cell HNX.out (j:=1) (v:=.int .u32 (a:Int)) rfl
  have HD2:=Lib.hid (HD.out _ x2)
  have hiq:=sizeQD d vg vw vl
  clear HD x2
  go_wp2_with (refine Dev.wpList_load_sub rfl 67 _ rfl g 1 rfl (qD d vg vw vl) _ HB.out Tryz.underlying67 rfl hiq ?_)
  refine HD2.out.mono ?_
  clear HD2 HB c0 c1 hiq
  rintro e W3 ⟨v',rfl,x3⟩
  obtain ⟨ug,uw,ul,rfl,o1,o2,o3⟩:=x3.shape List.mem_cons_self
  have hiq:=sizeQD d2 ug uw ul
  have h1q:(qD d2 ug uw ul).all (·.oneCell')=true:=qC_one _ _ _ _ _ _ _ _ o1 o2 o3
  have h1b:(bD q d2 ug uw ul).all (·.oneCell')=true:=bothC_one _ _ _ _ _ _ _ _ _ o1 o2 o3
  have x4:=x3.alloc (.cells (qD d2 ug uw ul) 67)
  have hst:=heap_alloc_new W3 (.cells (qD d2 ug uw ul) 67)
  have hst0:=heap_alloc_new W3 (.cells (qC 0 (.slice none 0 0) (.slice none 0 0) 0 Slt.nil (.slice none 0 0) 0 0 0 0 0) 67)
  clear x3 o1 o2 o3
  go_upto_region 12 with (refine wpList_store_row rfl 67 _ _ rfl W3.heap.size (qD d2 ug uw ul) rfl rfl _ _ hst0 hiq rfl h1q ?_)
  change Code.wp _ _ _ _ ((W3.alloc (.cells (qC 0 (.slice none 0 0) (.slice none 0 0) 0 Slt.nil (.slice none 0 0) 0 0 0 0 0) 67)).setRow W3.heap.size (qD d2 ug uw ul))
  rw [World.setRow_alloc_new]
  clear hst0
  generalize W3.alloc (.cells (qD d2 ug uw ul) 67)=W4 at hst x4 ⊢
  generalize W3.heap.size=g8 at hst x4 ⊢
  have HTH:Hid (W4.there g 1 (qD d2 ug uw ul).size):=Lib.hid (there_block (x4.sk.at_ (List.mem_cons_of_mem _ HNG.out)) 1 21 (by simp))
  have x5:=Pk.splice HGE.out (by decide) (by decide) (by decide) (qD d2 ug uw ul).toList _ 1 _ _ x4 (List.mem_cons_of_mem _ HNG.out)
  rw [splice_q] at x5
  have x5:=x5.less (E':=(g,Obj.cells (bD q d2 ug uw ul) 69 (0,0))::(g+1+1,Obj.cells bothZ 69 (0,0))::E) (V':=(.agg (qD d2 ug uw ul),d2)::V) (fun y hy=>by
   rcases List.mem_cons.1 hy with rfl | hy
   ·exact List.mem_cons_self
   ·refine List.mem_cons_of_mem _ (but_mem.2 ?_)
    rcases List.mem_cons.1 hy with rfl | hy
    ·exact ⟨List.mem_cons_of_mem _ HNZ.out,by show g+1+1≠g; omega⟩
    ·exact ⟨List.mem_cons_of_mem _ (HNE.out y hy).1,by have:=(HNE.out y hy).2; omega⟩) (fun y hy=>by
   rcases List.mem_cons.1 hy with rfl | hy
   ·exact List.mem_cons_self
   ·exact List.mem_cons_of_mem _ (List.mem_cons_of_mem _ hy))
  obtain ⟨cT,hcT⟩:∃ cT,cT=qD d2 ug uw ul:=⟨_,rfl⟩
  have HX5: Hid (∀ W5,W5=W4.setCells g 1 cT.toList→Pk w q n ((g,Obj.cells (bD q d2 ug uw ul) 69 (0,0))::(g+1+1,Obj.cells bothZ 69 (0,0))::E) ((.agg (qD d2 ug uw ul),d2)::V) S2 W5):=Lib.hid (fun W5 h=>by rw [h,hcT]; exact x5)
  rw [←hcT] at hiq h1q hst HTH
  clear hcT x4 x5
  go_upto_region 13 with (first | (refine wpList_load_row rfl 67 _ rfl g8 rfl _ _ _ _ hst Tryz.underlying67 rfl hiq ?_) | (refine wpList_store_mid rfl 67 _ _ rfl g 1 cT rfl rfl HTH.out hiq h1q ?_))
  obtain ⟨W5,hW5⟩:∃ W5,W5=W4.setCells g 1 cT.toList:=⟨_,rfl⟩
  rw [←hW5]
  have hx5:=HX5.out W5 hW5
  clear hW5 HX5 hst HTH hiq h1q
  have a1:=hx5.sk.at_ List.mem_cons_self
  have a2:=hx5.sk.at_ (List.mem_cons_of_mem _ List.mem_cons_self)
  have x6:=hx5.setR (cs2:=bD q d2 ug uw ul) (List.mem_cons_of_mem _ List.mem_cons_self) (by have:=HGE.out; omega) (by decide) (by decide) (by decide)
  have HX7:=Lib.hid (x6.less (E':=E) (V':=(.agg (qD d2 ug uw ul),d2)::V) (fun y hy=>List.mem_cons_of_mem _ (but_mem.2 ⟨List.mem_cons_of_mem _ (List.mem_cons_of_mem _ hy),by have:=(HNE.out y hy).2; omega⟩)) (fun y hy=>hy))
  have hib:=sizeBD q d2 ug uw ul
  clear x6 hx5
  go_wp2_with (first | (refine wpList_load_row rfl 69 _ rfl g rfl _ _ _ _ a1 Tryz.underlying69 rfl hib ?_) | (refine wpList_store_row rfl 69 _ _ rfl (g+1+1) _ rfl rfl _ _ a2 hib rfl h1b ?_))
  exact bodyPost_ret (results_row_tmp rfl _ _ _ _ _ _ _ rfl (setRow_heap _ _ _ _ _ _ a2) Tryz.underlying69 rfl hib) rfl ⟨S2,d2,ug,uw,ul,rfl,HX7.out,HN.out.1,HN.out.2⟩
 ·have HT:=Lib.hid (hx.lower ha)
  have HD:=Lib.hid (fun (W2: World) (x2: Pk w q n E1 ((.agg (qD d vg vw vl),d)::V) (S.low a) W2)=>x2.dlow List.mem_cons_self y hL ha)
  have HN:=Lib.hid (And.intro (y.low a) (low_len S d a))
  generalize S.low a=S2 at HT HD HN
  generalize d.low S a=d2 at HD HN
  generalize (if askV S.T a 1=0 then S.T.nowC a - 1 else 0:Nat)=rA at HT HD
  generalize askV S.T a 1=rE at HT HD
  clear hx y hL
  rcases hr with rfl | rfl
  all_goals
   go_wp2_with fail
   refine HT.out.mono ?_
   clear HT c0 c1 b0
   rintro e W2 ⟨rfl,x2⟩
   have HB:=Lib.hid (range_q (x2.sk.at_ HNG.out))
   have c0:=x2.sk.cell HNX.out (j:=0) (v:=.int .u8 (what:Int)) rfl
   have c1:=x2.sk.cell HNX.out (j:=1) (v:=.int .u32 (a:Int)) rfl
   have HD2:=Lib.hid (HD.out _ x2)
   have hiq:=sizeQD d vg vw vl
   clear HD x2
   go_wp2_with (refine Dev.wpList_load_sub rfl 67 _ rfl g 1 rfl (qD d vg vw vl) _ HB.out Tryz.underlying67 rfl hiq ?_)
   refine HD2.out.mono ?_
   clear HD2 HB c0 c1 hiq
   rintro e W3 ⟨v',rfl,x3⟩
   obtain ⟨ug,uw,ul,rfl,o1,o2,o3⟩:=x3.shape List.mem_cons_self
   have hiq:=sizeQD d2 ug uw ul
   have h1q:(qD d2 ug uw ul).all (·.oneCell')=true:=qC_one _ _ _ _ _ _ _ _ o1 o2 o3
   have h1b:(bD q d2 ug uw ul).all (·.oneCell')=true:=bothC_one _ _ _ _ _ _ _ _ _ o1 o2 o3
   have x4:=x3.alloc (.cells (qD d2 ug uw ul) 67)
   have hst:=heap_alloc_new W3 (.cells (qD d2 ug uw ul) 67)
   have hst0:=heap_alloc_new W3 (.cells (qC 0 (.slice none 0 0) (.slice none 0 0) 0 Slt.nil (.slice none 0 0) 0 0 0 0 0) 67)
   clear x3 o1 o2 o3
   go_upto_region 16 with (refine wpList_store_row rfl 67 _ _ rfl W3.heap.size (qD d2 ug uw ul) rfl rfl _ _ hst0 hiq rfl h1q ?_)
   change Code.wp _ _ _ _ ((W3.alloc (.cells (qC 0 (.slice none 0 0) (.slice none 0 0) 0 Slt.nil (.slice none 0 0) 0 0 0 0 0) 67)).setRow W3.heap.size (qD d2 ug uw ul))
   rw [World.setRow_alloc_new]
   clear hst0
   generalize W3.alloc (.cells (qD d2 ug uw ul) 67)=W4 at hst x4 ⊢
   generalize W3.heap.size=g8 at hst x4 ⊢
   have HTH:Hid (W4.there g 1 (qD d2 ug uw ul).size):=Lib.hid (there_block (x4.sk.at_ (List.mem_cons_of_mem _ HNG.out)) 1 21 (by simp))
   have x5:=Pk.splice HGE.out (by decide) (by decide) (by decide) (qD d2 ug uw ul).toList _ 1 _ _ x4 (List.mem_cons_of_mem _ HNG.out)
   rw [splice_q] at x5
   have x5:=x5.less (E':=(g,Obj.cells (bD q d2 ug uw ul) 69 (0,0))::(g+1+1,Obj.cells bothZ 69 (0,0))::E) (V':=(.agg (qD d2 ug uw ul),d2)::V) (fun y hy=>by
    rcases List.mem_cons.1 hy with rfl | hy
    ·exact List.mem_cons_self
    ·refine List.mem_cons_of_mem _ (but_mem.2 ?_)
     rcases List.mem_cons.1 hy with rfl | hy
     ·exact ⟨List.mem_cons_of_mem _ HNZ.out,by show g+1+1≠g; omega⟩
     ·exact ⟨List.mem_cons_of_mem _ (HNE.out y hy).1,by have:=(HNE.out y hy).2; omega⟩) (fun y hy=>by
    rcases List.mem_cons.1 hy with rfl | hy
    ·exact List.mem_cons_self
    ·exact List.mem_cons_of_mem _ (List.mem_cons_of_mem _ hy))
   obtain ⟨cT,hcT⟩:∃ cT,cT=qD d2 ug uw ul:=⟨_,rfl⟩
   have HX5: Hid (∀ W5,W5=W4.setCells g 1 cT.toList→Pk w q n ((g,Obj.cells (bD q d2 ug uw ul) 69 (0,0))::(g+1+1,Obj.cells bothZ 69 (0,0))::E) ((.agg (qD d2 ug uw ul),d2)::V) S2 W5):=Lib.hid (fun W5 h=>by rw [h,hcT]; exact x5)
   rw [←hcT] at hiq h1q hst HTH
   clear hcT x4 x5
   go_upto_region 17 with (first | (refine wpList_load_row rfl 67 _ rfl g8 rfl _ _ _ _ hst Tryz.underlying67 rfl hiq ?_) | (refine wpList_store_mid rfl 67 _ _ rfl g 1 cT rfl rfl HTH.out hiq h1q ?_))
   obtain ⟨W5,hW5⟩:∃ W5,W5=W4.setCells g 1 cT.toList:=⟨_,rfl⟩
   rw [←hW5]
   have hx5:=HX5.out W5 hW5
   clear hW5 HX5 hst HTH hiq h1q
   have a1:=hx5.sk.at_ List.mem_cons_self
   have a2:=hx5.sk.at_ (List.mem_cons_of_mem _ List.mem_cons_self)
   have x6:=hx5.setR (cs2:=bD q d2 ug uw ul) (List.mem_cons_of_mem _ List.mem_cons_self) (by have:=HGE.out; omega) (by decide) (by decide) (by decide)
   have HX7:=Lib.hid (x6.less (E':=E) (V':=(.agg (qD d2 ug uw ul),d2)::V) (fun y hy=>List.mem_cons_of_mem _ (but_mem.2 ⟨List.mem_cons_of_mem _ (List.mem_cons_of_mem _ hy),by have:=(HNE.out y hy).2; omega⟩)) (fun y hy=>hy))
   have hib:=sizeBD q d2 ug uw ul
   clear x6 hx5
   go_wp2_with (first | (refine wpList_load_row rfl 69 _ rfl g rfl _ _ _ _ a1 Tryz.underlying69 rfl hib ?_) | (refine wpList_store_row rfl 69 _ _ rfl (g+1+1) _ rfl rfl _ _ a2 hib rfl h1b ?_))
   exact bodyPost_ret (results_row_tmp rfl _ _ _ _ _ _ _ rfl (setRow_heap _ _ _ _ _ _ a2) Tryz.underlying69 rfl hib) rfl ⟨S2,d2,ug,uw,ul,rfl,HX7.out,HN.out.1,HN.out.2⟩
end Spc

end Go.Proofs.YtgkbfahflngklaaGreat
