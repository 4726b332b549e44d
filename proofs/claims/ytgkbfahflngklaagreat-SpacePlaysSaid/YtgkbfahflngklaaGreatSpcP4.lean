import Derived.Test.YtgkbfahflngklaaGreatSpcP3
import Derived.Test.YtgkbfahflngklaaGreatSpcP2
set_option maxRecDepth 100000
set_option maxHeartbeats 12800000
set_option linter.unusedSimpArgs false
set_option linter.unusedVariables false
namespace Go.Proofs.YtgkbfahflngklaaGreat
namespace Spc
open Go.RowKit RowLaw
open Dev (DS)
open Rot (fsN)
open Go.Proofs.YtgkbfahflngklaaGreat.Cnt
open Slt (Rt)
variable {A:Nat→Prop}
theorem results_row_tmp2 {P:Program} {fn:Func} {p u u2:Tmp} {ty:TypeId} (h:fn.results=#[.cell p ty,.tmp u,.tmp u2]) (tmps:Array Value) (w:World) (g:Nat) (t:TypeId) (cs:Array Value) (fr:Nat×Nat) (d:TypeDesc)
  (hp:tmps.getD p undef=.pointer (some ⟨g,0,none⟩)) (hg:w.heap[g]? = some (.cells cs t fr))
  (hu:P.underlying ty=some d) (hd:(match d with | .struct _ | .array _ _=>true | _=>false)=true) (hi:(P.info? ty).map (·.size)=some cs.size) :
  (results fn tmps).run P w=.ok (.tuple #[.agg cs,tmps.getD u undef,tmps.getD u2 undef]) w:=by
 have hp':tmps[p]?.getD undef=.pointer (some ⟨g,0,none⟩):=by simpa using hp
 simp [results,h,hp',asAddr,run_loadVar_row w g t ty cs fr d hg hu hd hi]
theorem QT.other {W W':World} {v:Value} {x:RS} {r:Rt} {L:List (Nat×Nat)} {had hint first:Nat} {taken gone:Int} (h:QT A W v x r L had hint first taken gone) {q:Nat} {cs:Array Value} {t:TypeId} (hq:W.heap[q]? = some (.cells cs t (0,0))) (h1:t≠55) (h2:t≠277) (hh:∀ k,k≠q→W'.heap[k]? = W.heap[k]?):QT A W' v x r L had hint first taken gone:=by
 obtain ⟨vg,vw,vl,e,h3,h4⟩:=h
 have:=(DT.other (v:=.agg (dtC x.n vg vw x.wr r vl)) ⟨⟨vg,vw,vl,rfl,h3,h4⟩⟩ hq h1 h2 hh).parts
 exact ⟨⟨vg,vw,vl,e,this.1,this.2⟩⟩
def QD.more (S:SS) (d:QD) (a:Nat):QD:=if askV S.T a 2=0 then d.put a (S.T.nowC a+1) (S.T.nowC a) (S.T.oldC a) else d
def QD.low (S:SS) (d:QD) (a:Nat):QD:=if askV S.T a 1=0 then d.put a (S.T.nowC a - 1) (S.T.nowC a) (S.T.oldC a) else d
theorem Sync.more {s:DS} {S:SS} {d:QD} (y:Sync s S d) (a:Nat):Sync s (S.more a) (d.more S a):=by
 unfold SS.more QD.more
 by_cases hz:askV S.T a 2=0
 ·rw [if_pos hz,if_pos hz]
  obtain ⟨i1,i2⟩:=ask_in hz
  have hne:S.T.nowC a≠65535:=fun e=>by
   rw [askV_in i1 i2,if_neg (by omega),if_pos ⟨rfl,e⟩] at hz
   omega
  exact y.put (by rw [←y.n]; exact i1) (by rw [←y.n]; exact i2) (by have:=nowC_lt y.inv.ok a; omega)
 ·rw [if_neg hz,if_neg hz]
  exact y
theorem Sync.low {s:DS} {S:SS} {d:QD} (y:Sync s S d) (a:Nat):Sync s (S.low a) (d.low S a):=by
 unfold SS.low QD.low
 by_cases hz:askV S.T a 1=0
 ·rw [if_pos hz,if_pos hz]
  obtain ⟨i1,i2⟩:=ask_in hz
  exact y.put (by rw [←y.n]; exact i1) (by rw [←y.n]; exact i2) (by have:=nowC_lt y.inv.ok a; omega)
 ·rw [if_neg hz,if_neg hz]
  exact y
theorem Sync.set_ {s:DS} {S:SS} {d:QD} (y:Sync s S d) {w:World} {v:Value} (h:QV A w v d) (hL:d.L.length < 1000000) {a m:Nat} (h1:fsN s.n≤a) (h2:a < s.n) (hm:m < 65536) (hAA:∀ b,w.heap.size≤b→A b) :
  Calls Tryz.prog 178 #[v,.int .u32 (a:Int),.int .u16 (m:Int)] w fun e w'=>∃ v',e=.returned (.tuple #[v',.int .i64 0])∧QV A w' v' (d.put a m (S.T.nowC a) (S.T.oldC a))∧Below w.heap.size w w':=by
 have:=set10_any h y.sees hL h1 h2 hm y.bounds.1 y.bounds.2 hAA
 rw [y.now a h1 h2,y.old a] at this
 exact this
theorem More10_any {w:World} {v:Value} {d:QD} {s:DS} {S:SS} (h:QV A w v d) (y:Sync s S d) (hL:d.L.length < 1000000) {a:Nat} (ha:a < 4294967296) (hAA:∀ b,w.heap.size≤b→A b) :
  Calls Tryz.prog 103 #[v,.int .u32 (a:Int)] w fun e w'=>∃ v',e=.returned (.tuple #[v',.int .i64 (askV S.T a 2)])∧QV A w' v' (d.more S a)∧Below w.heap.size w w':=by
 have HC:=Lib.hid (fun W (hb:Below w.heap.size w W)=>Count10_any (a:=a) (h.kept hb) y hL)
 have HS:=Lib.hid (fun m W (hm:m < 65536) (hb:Below w.heap.size w W) (hin:fsN s.n≤a∧a < s.n)=>y.set_ (a:=a) (m:=m) (h.kept hb) hL hin.1 hin.2 hm (fun b hb'=>hAA b (Nat.le_trans hb.size hb')))
 have hlt:=nowC_lt y.inv.ok a
 obtain ⟨o,ho⟩:∃ o,o=S.T.oldC a:=⟨_,rfl⟩
 have cse:∃ (n0 e0 z:Int) (rn:Nat) (dd:QD),n0=(if askV S.T a 0=0 then (S.T.nowC a:Int) else 0)∧e0=askV S.T a 0∧z=askV S.T a 2∧rn=(if askV S.T a 2=0 then S.T.nowC a - 1 else 0)∧dd=d.more S a∧
   (((e0=2∧z=2∨e0=0∧n0=0∧z=9∨e0=0∧n0=65535∧z=6)∧dd=d)∨∃ c:Nat,S.T.nowC a=c∧e0=0∧n0=(c:Int)∧z=0∧c≠0∧c≠65535∧rn=c - 1∧dd=d.put a (c+1) c o∧fsN s.n≤a∧a < s.n):=by
  refine ⟨_,_,_,_,_,rfl,rfl,rfl,rfl,rfl,?_⟩
  unfold QD.more
  by_cases hin:fsN s.n≤a∧a < s.n
  ·have ei:=fun c=>askV_in (T:=S.T) (a:=a) (c:=c) (by rw [y.n]; exact hin.1) (by rw [y.n]; exact hin.2)
   have e0:askV S.T a 0=0:=by rw [ei,if_neg (by omega),if_neg (by omega)]
   have e2:=ei 2
   rw [e0,if_pos rfl]
   by_cases hc0:S.T.nowC a=0
   ·rw [if_pos ⟨by omega,hc0⟩] at e2
    rw [e2,hc0]
    exact .inl (by simp)
   ·rw [if_neg (fun h=>hc0 h.2)] at e2
    by_cases hc1:S.T.nowC a=65535
    ·rw [if_pos ⟨rfl,hc1⟩] at e2
     rw [e2,hc1]
     exact .inl (by simp)
    ·rw [if_neg (fun h=>hc1 h.2)] at e2
     rw [e2,if_pos rfl,if_pos rfl,←ho]
     exact .inr ⟨_,rfl,rfl,rfl,rfl,hc0,hc1,rfl,rfl,hin⟩
  ·have ei:=fun c=>askV_out (T:=S.T) (a:=a) (c:=c) (by rw [y.n]; exact hin)
   rw [ei 0,ei 2]
   exact .inl (by simp)
 obtain ⟨n0,e0,z,rn,dd,h1,h2,h3,h4,h5,cse⟩:=cse
 rw [←h1,←h2] at HC
 rw [←h3,←h5]
 rw [←ho] at HS
 clear h1 h2 h3 h4 h5 ho y hAA
 obtain ⟨x,r,L,had,hint,first,taken,gone⟩:=d
 obtain ⟨vg,vw,vl,rfl,hrd,hsv⟩:=h
 dsimp only at hL ⊢
 have hQ:QT A w (.agg (qC x.n vg vw x.wr r vl had hint first taken gone)) x r L had hint first taken gone:=⟨⟨vg,vw,vl,rfl,hrd,hsv⟩⟩
 have hiq:=sizeQ x.n vg vw x.wr r vl had hint first taken gone
 have hzq:=(zero_of_info infoQ).1
 have h1q:=qC_one x.n x.wr r had hint first taken gone hrd.slices.1 hrd.slices.2 hsv.slice
 have b2:Below w.heap.size w ((w.alloc (.cells (qC x.n vg vw x.wr r vl had hint first taken gone) 67)).alloc (.cells (qC 0 (.slice none 0 0) (.slice none 0 0) 0 Slt.nil (.slice none 0 0) 0 0 0 0 0) 67)):=((Below.refl _ _).alloc (Nat.le_refl _) _).alloc (by rw [World.size_alloc]; omega) _
 have q1:((w.alloc (.cells (qC x.n vg vw x.wr r vl had hint first taken gone) 67)).alloc (.cells (qC 0 (.slice none 0 0) (.slice none 0 0) 0 Slt.nil (.slice none 0 0) 0 0 0 0 0) 67)).heap[w.heap.size]? = some (.cells (qC x.n vg vw x.wr r vl had hint first taken gone) 67 (0,0)):=(Below.heap_alloc _ _ _ (by rw [World.size_alloc]; omega)).trans (heap_alloc_new w _)
 have q2:((w.alloc (.cells (qC x.n vg vw x.wr r vl had hint first taken gone) 67)).alloc (.cells (qC 0 (.slice none 0 0) (.slice none 0 0) 0 Slt.nil (.slice none 0 0) 0 0 0 0 0) 67)).heap[w.heap.size+1]? = some (.cells (qC 0 (.slice none 0 0) (.slice none 0 0) 0 Slt.nil (.slice none 0 0) 0 0 0 0 0) 67 (0,0)):=heap_alloc2_new w _ _
 have HQT:=Lib.hid (fun W (hb:Below w.heap.size w W)=>hQ.kept hb)
 clear hQ hrd hsv
 have HLT:=Lib.hid hlt
 have HCS:=Lib.hid cse
 clear hlt cse
 go_enter Tryz.func103,Tryz.ntmps103
 go_upto_region 1 with fail
 change Code.wp _ _ _ _ ((w.alloc (.cells (qC x.n vg vw x.wr r vl had hint first taken gone) 67)).alloc (.cells (qC 0 (.slice none 0 0) (.slice none 0 0) 0 Slt.nil (.slice none 0 0) 0 0 0 0 0) 67))
 generalize ((w.alloc (.cells (qC x.n vg vw x.wr r vl had hint first taken gone) 67)).alloc (.cells (qC 0 (.slice none 0 0) (.slice none 0 0) 0 Slt.nil (.slice none 0 0) 0 0 0 0 0) 67))=W1 at b2 q1 q2 ⊢
 obtain ⟨q,hqq⟩:∃ q,q=w.heap.size:=⟨_,rfl⟩
 rw [←hqq] at q1 q2 ⊢
 have HQ:=Lib.hid hqq
 clear hqq
 have HC1:=Lib.hid (HC.out W1 b2)
 clear HC
 go_wp2_with (refine wpList_load_row rfl 67 _ rfl q rfl _ _ _ _ q1 Tryz.underlying67 rfl hiq ?_)
 refine HC1.out.mono ?_
 clear HC1
 rintro e W2 ⟨rfl,hx⟩
 have q1':=(hx.block q (Array.getElem?_eq_some_iff.1 q1).1).trans q1
 have q2':=(hx.block (q+1) (Array.getElem?_eq_some_iff.1 q2).1).trans q2
 have b2':=b2.trans (hx.mono b2.size)
 clear hx q1 q2 b2
 have q1:=q1'; have q2:=q2'; have b2:=b2'
 clear q1' q2' b2'
 rcases HCS.out with ⟨h,rfl⟩ | ⟨c,hcc,rfl,rfl,rfl,hc0,hc1,-,rfl,hin⟩
 ·clear HCS HS HLT
  rcases h with ⟨rfl,rfl⟩ | ⟨rfl,rfl,rfl⟩ | ⟨rfl,rfl,rfl⟩
  all_goals
   have HEND:=Lib.hid ((HQT.out _ b2).other (W':=W2.setRow (q+1) (qC x.n vg vw x.wr r vl had hint first taken gone)) q2 (by decide) (by decide) (fun k hk=>setRow_other _ _ _ _ hk))
   go_wp2_with (first | (refine wpList_load_row rfl 67 _ rfl q rfl _ _ _ _ q1 Tryz.underlying67 rfl hiq ?_) | (refine wpList_store_row rfl 67 _ _ rfl (q+1) _ rfl rfl _ _ q2 hiq rfl h1q ?_))
   exact bodyPost_ret (results_row_tmp rfl _ _ _ _ _ _ _ rfl (setRow_heap _ _ _ _ _ _ q2) Tryz.underlying67 rfl hiq) rfl ⟨_,rfl,HEND.out,Dev.below_row b2 (by have:=HQ.out; omega)⟩
 ·have i0:((c:Int) == 0)=false:=by simp; omega
  have i0':¬ (c:Int)=0:=by omega
  have i1:((c:Int) == 65535)=false:=by simp; omega
  have i1':¬ (c:Int)=65535:=by omega
  have zw:IntKind.u16.wrap ((c:Int)+1)=(c:Int)+1:=IntWalk.u16_in _ (by have:=HLT.out; omega)
  have HS:=Lib.hid (HS.out (c+1) W2 (by have:=HLT.out; omega) b2 hin)
  rw [show ((c+1:Nat):Int)=(c:Int)+1 by omega] at HS
  rw [hcc] at HS
  obtain ⟨T',hT⟩:∃ t,t=taken - (if o=0 then zr (c+1) - zr c else 0):=⟨_,rfl⟩
  obtain ⟨G',hG⟩:∃ t,t=gone+(if o=0 then 0 else zr (c+1) - zr c):=⟨_,rfl⟩
  have HPU:Hid (QD.put ⟨x,r,L,had,hint,first,taken,gone⟩ a (c+1) c o=⟨x,r,L ++ [(a,c+1)],had,hint,first,T',G'⟩):=Lib.hid (by rw [hT,hG]; rfl)
  rw [HPU.out] at HS
  dsimp only [QV] at HS
  clear hT hG hcc hc0 hc1 hin HQT HCS
  go_wp2_with (refine wpList_load_row rfl 67 _ rfl q rfl _ _ _ _ q1 Tryz.underlying67 rfl hiq ?_)
  refine HS.out.mono ?_
  clear HS
  rintro e W3 ⟨v',rfl,hq,hx⟩
  have q2:=(hx.block (q+1) (Array.getElem?_eq_some_iff.1 q2).1).trans q2
  have b2:=b2.trans (hx.mono b2.size)
  clear hx q1 hiq h1q
  have hq0:=hq
  obtain ⟨ug,uw,ul,rfl,hr',hs'⟩:=hq
  have hiq:=sizeQ x.n ug uw x.wr r ul had hint first T' G'
  have h1q:=qC_one x.n x.wr r had hint first T' G' hr'.slices.1 hr'.slices.2 hs'.slice
  clear hr' hs'
  have HEND:=Lib.hid (hq0.other (W':=W3.setRow (q+1) (qC x.n ug uw x.wr r ul had hint first T' G')) q2 (by decide) (by decide) (fun k hk=>setRow_other _ _ _ _ hk))
  clear hq0
  go_wp2_with (first | (refine wpList_store_row rfl 67 _ _ rfl (q+1) _ rfl rfl _ _ q2 hiq rfl h1q ?_))
  refine bodyPost_ret (results_row_tmp rfl _ _ _ _ _ _ _ rfl (setRow_heap _ _ _ _ _ _ q2) Tryz.underlying67 rfl hiq) rfl ⟨_,rfl,?_,Dev.below_row b2 (by have:=HQ.out; omega)⟩
  rw [HPU.out]
  exact HEND.out
theorem Less10_any {w:World} {v:Value} {d:QD} {s:DS} {S:SS} (h:QV A w v d) (y:Sync s S d) (hL:d.L.length < 1000000) {a:Nat} (ha:a < 4294967296) (hAA:∀ b,w.heap.size≤b→A b) :
  Calls Tryz.prog 104 #[v,.int .u32 (a:Int)] w fun e w'=>∃ v',e=.returned (.tuple #[v',.int .u16 ((if askV S.T a 1=0 then S.T.nowC a - 1 else 0:Nat):Int),.int .i64 (askV S.T a 1)])∧QV A w' v' (d.low S a)∧Below w.heap.size w w':=by
 have HC:=Lib.hid (fun W (hb:Below w.heap.size w W)=>Count10_any (a:=a) (h.kept hb) y hL)
 have HS:=Lib.hid (fun m W (hm:m < 65536) (hb:Below w.heap.size w W) (hin:fsN s.n≤a∧a < s.n)=>y.set_ (a:=a) (m:=m) (h.kept hb) hL hin.1 hin.2 hm (fun b hb'=>hAA b (Nat.le_trans hb.size hb')))
 have hlt:=nowC_lt y.inv.ok a
 obtain ⟨o,ho⟩:∃ o,o=S.T.oldC a:=⟨_,rfl⟩
 have cse:∃ (n0 e0 z:Int) (rn:Nat) (dd:QD),n0=(if askV S.T a 0=0 then (S.T.nowC a:Int) else 0)∧e0=askV S.T a 0∧z=askV S.T a 1∧rn=(if askV S.T a 1=0 then S.T.nowC a - 1 else 0)∧dd=d.low S a∧
   (((e0=2∧z=2∨e0=0∧n0=0∧z=9)∧rn=0∧dd=d)∨∃ c:Nat,S.T.nowC a=c∧e0=0∧n0=(c:Int)∧z=0∧c≠0∧c≠65536∧rn=c - 1∧dd=d.put a (c - 1) c o∧fsN s.n≤a∧a < s.n):=by
  refine ⟨_,_,_,_,_,rfl,rfl,rfl,rfl,rfl,?_⟩
  unfold QD.low
  by_cases hin:fsN s.n≤a∧a < s.n
  ·have ei:=fun c=>askV_in (T:=S.T) (a:=a) (c:=c) (by rw [y.n]; exact hin.1) (by rw [y.n]; exact hin.2)
   have e0:askV S.T a 0=0:=by rw [ei,if_neg (by omega),if_neg (by omega)]
   have e2:=ei 1
   rw [e0,if_pos rfl]
   by_cases hc0:S.T.nowC a=0
   ·rw [if_pos ⟨by omega,hc0⟩] at e2
    rw [e2,hc0]
    exact .inl (by simp)
   ·rw [if_neg (fun h=>hc0 h.2)] at e2
    rw [if_neg (by omega)] at e2
    rw [e2,if_pos rfl,if_pos rfl,←ho]
    exact .inr ⟨_,rfl,rfl,rfl,rfl,hc0,by omega,rfl,rfl,hin⟩
  ·have ei:=fun c=>askV_out (T:=S.T) (a:=a) (c:=c) (by rw [y.n]; exact hin)
   rw [ei 0,ei 1]
   exact .inl (by simp)
 obtain ⟨n0,e0,z,rn,dd,h1,h2,h3,h4,h5,cse⟩:=cse
 rw [←h1,←h2] at HC
 rw [←h4,←h3,←h5]
 rw [←ho] at HS
 clear h1 h2 h3 h4 h5 ho y hAA
 obtain ⟨x,r,L,had,hint,first,taken,gone⟩:=d
 obtain ⟨vg,vw,vl,rfl,hrd,hsv⟩:=h
 dsimp only at hL ⊢
 have hQ:QT A w (.agg (qC x.n vg vw x.wr r vl had hint first taken gone)) x r L had hint first taken gone:=⟨⟨vg,vw,vl,rfl,hrd,hsv⟩⟩
 have hiq:=sizeQ x.n vg vw x.wr r vl had hint first taken gone
 have hzq:=(zero_of_info infoQ).1
 have h1q:=qC_one x.n x.wr r had hint first taken gone hrd.slices.1 hrd.slices.2 hsv.slice
 have b2:Below w.heap.size w ((w.alloc (.cells (qC x.n vg vw x.wr r vl had hint first taken gone) 67)).alloc (.cells (qC 0 (.slice none 0 0) (.slice none 0 0) 0 Slt.nil (.slice none 0 0) 0 0 0 0 0) 67)):=((Below.refl _ _).alloc (Nat.le_refl _) _).alloc (by rw [World.size_alloc]; omega) _
 have q1:((w.alloc (.cells (qC x.n vg vw x.wr r vl had hint first taken gone) 67)).alloc (.cells (qC 0 (.slice none 0 0) (.slice none 0 0) 0 Slt.nil (.slice none 0 0) 0 0 0 0 0) 67)).heap[w.heap.size]? = some (.cells (qC x.n vg vw x.wr r vl had hint first taken gone) 67 (0,0)):=(Below.heap_alloc _ _ _ (by rw [World.size_alloc]; omega)).trans (heap_alloc_new w _)
 have q2:((w.alloc (.cells (qC x.n vg vw x.wr r vl had hint first taken gone) 67)).alloc (.cells (qC 0 (.slice none 0 0) (.slice none 0 0) 0 Slt.nil (.slice none 0 0) 0 0 0 0 0) 67)).heap[w.heap.size+1]? = some (.cells (qC 0 (.slice none 0 0) (.slice none 0 0) 0 Slt.nil (.slice none 0 0) 0 0 0 0 0) 67 (0,0)):=heap_alloc2_new w _ _
 have HQT:=Lib.hid (fun W (hb:Below w.heap.size w W)=>hQ.kept hb)
 clear hQ hrd hsv
 have HLT:=Lib.hid hlt
 have HCS:=Lib.hid cse
 clear hlt cse
 go_enter Tryz.func104,Tryz.ntmps104
 go_upto_region 1 with fail
 change Code.wp _ _ _ _ ((w.alloc (.cells (qC x.n vg vw x.wr r vl had hint first taken gone) 67)).alloc (.cells (qC 0 (.slice none 0 0) (.slice none 0 0) 0 Slt.nil (.slice none 0 0) 0 0 0 0 0) 67))
 generalize ((w.alloc (.cells (qC x.n vg vw x.wr r vl had hint first taken gone) 67)).alloc (.cells (qC 0 (.slice none 0 0) (.slice none 0 0) 0 Slt.nil (.slice none 0 0) 0 0 0 0 0) 67))=W1 at b2 q1 q2 ⊢
 obtain ⟨q,hqq⟩:∃ q,q=w.heap.size:=⟨_,rfl⟩
 rw [←hqq] at q1 q2 ⊢
 have HQ:=Lib.hid hqq
 clear hqq
 have HC1:=Lib.hid (HC.out W1 b2)
 clear HC
 go_wp2_with (refine wpList_load_row rfl 67 _ rfl q rfl _ _ _ _ q1 Tryz.underlying67 rfl hiq ?_)
 refine HC1.out.mono ?_
 clear HC1
 rintro e W2 ⟨rfl,hx⟩
 have q1':=(hx.block q (Array.getElem?_eq_some_iff.1 q1).1).trans q1
 have q2':=(hx.block (q+1) (Array.getElem?_eq_some_iff.1 q2).1).trans q2
 have b2':=b2.trans (hx.mono b2.size)
 clear hx q1 q2 b2
 have q1:=q1'; have q2:=q2'; have b2:=b2'
 clear q1' q2' b2'
 rcases HCS.out with ⟨h,rfl,rfl⟩ | ⟨c,hcc,rfl,rfl,rfl,hc0,hc1,rfl,rfl,hin⟩
 ·clear HCS HS HLT
  rcases h with ⟨rfl,rfl⟩ | ⟨rfl,rfl,rfl⟩
  all_goals
   have HEND:=Lib.hid ((HQT.out _ b2).other (W':=W2.setRow (q+1) (qC x.n vg vw x.wr r vl had hint first taken gone)) q2 (by decide) (by decide) (fun k hk=>setRow_other _ _ _ _ hk))
   go_wp2_with (first | (refine wpList_load_row rfl 67 _ rfl q rfl _ _ _ _ q1 Tryz.underlying67 rfl hiq ?_) | (refine wpList_store_row rfl 67 _ _ rfl (q+1) _ rfl rfl _ _ q2 hiq rfl h1q ?_))
   exact bodyPost_ret (results_row_tmp2 rfl _ _ _ _ _ _ _ rfl (setRow_heap _ _ _ _ _ _ q2) Tryz.underlying67 rfl hiq) rfl ⟨_,rfl,HEND.out,Dev.below_row b2 (by have:=HQ.out; omega)⟩
 ·have i0:((c:Int) == 0)=false:=by simp; omega
  have i0':¬ (c:Int)=0:=by omega
  have zw:IntKind.u16.wrap ((c:Int) - 1)=(c:Int) - 1:=IntWalk.u16_in _ (by have:=HLT.out; omega)
  have HS:=Lib.hid (HS.out (c - 1) W2 (by have:=HLT.out; omega) b2 hin)
  have HCI:Hid (((c - 1:Nat):Int)=(c:Int) - 1):=Lib.hid (by omega)
  rw [HCI.out] at HS
  rw [hcc] at HS
  obtain ⟨T',hT⟩:∃ t,t=taken - (if o=0 then zr (c - 1) - zr c else 0):=⟨_,rfl⟩
  obtain ⟨G',hG⟩:∃ t,t=gone+(if o=0 then 0 else zr (c - 1) - zr c):=⟨_,rfl⟩
  have HPU:Hid (QD.put ⟨x,r,L,had,hint,first,taken,gone⟩ a (c - 1) c o=⟨x,r,L ++ [(a,c - 1)],had,hint,first,T',G'⟩):=Lib.hid (by rw [hT,hG]; rfl)
  rw [HPU.out] at HS
  dsimp only [QV] at HS
  clear hT hG hcc hc0 hc1 hin HQT HCS
  go_wp2_with (refine wpList_load_row rfl 67 _ rfl q rfl _ _ _ _ q1 Tryz.underlying67 rfl hiq ?_)
  refine HS.out.mono ?_
  clear HS
  rintro e W3 ⟨v',rfl,hq,hx⟩
  have q2:=(hx.block (q+1) (Array.getElem?_eq_some_iff.1 q2).1).trans q2
  have b2:=b2.trans (hx.mono b2.size)
  clear hx q1 hiq h1q
  have hq0:=hq
  obtain ⟨ug,uw,ul,rfl,hr',hs'⟩:=hq
  have hiq:=sizeQ x.n ug uw x.wr r ul had hint first T' G'
  have h1q:=qC_one x.n x.wr r had hint first T' G' hr'.slices.1 hr'.slices.2 hs'.slice
  clear hr' hs'
  have hst:=heap_alloc_new W3 (.cells (qC x.n ug uw x.wr r ul had hint first T' G') 67)
  have hbA:Below W3.heap.size W3 (W3.alloc (.cells (qC x.n ug uw x.wr r ul had hint first T' G') 67)):=(Below.refl _ _).alloc (Nat.le_refl _) _
  have t2:=(hbA.block (q+1) (Array.getElem?_eq_some_iff.1 q2).1).trans q2
  have b3:=b2.trans (hbA.mono b2.size)
  have hq5:=hq0.kept hbA
  clear hbA q2 b2 hq0
  have tok:True:=trivial
  go_upto_region 7 with (have _t:=tok; refine wpList_store_new rfl 67 _ _ rfl (qC x.n ug uw x.wr r ul had hint first T' G') _ _ rfl rfl hiq rfl h1q ?_; clear _t tok)
  generalize W3.alloc (.cells (qC x.n ug uw x.wr r ul had hint first T' G') 67)=W5 at hst t2 b3 hq5 ⊢
  generalize W3.heap.size=g at hst ⊢
  have HEND:=Lib.hid (hq5.other (W':=W5.setRow (q+1) (qC x.n ug uw x.wr r ul had hint first T' G')) t2 (by decide) (by decide) (fun k hk=>setRow_other _ _ _ _ hk))
  clear hq5
  go_wp2_with (first | (refine wpList_load_row rfl 67 _ rfl g rfl _ _ _ _ hst Tryz.underlying67 rfl hiq ?_) | (refine wpList_store_row rfl 67 _ _ rfl (q+1) _ rfl rfl _ _ t2 hiq rfl h1q ?_))
  refine bodyPost_ret (results_row_tmp2 rfl _ _ _ _ _ _ _ rfl (setRow_heap _ _ _ _ _ _ t2) Tryz.underlying67 rfl hiq) rfl ⟨_,by rw [HCI.out]; rfl,?_,Dev.below_row b3 (by have:=HQ.out; omega)⟩
  rw [HPU.out]
  exact HEND.out
end Spc

end Go.Proofs.YtgkbfahflngklaaGreat
