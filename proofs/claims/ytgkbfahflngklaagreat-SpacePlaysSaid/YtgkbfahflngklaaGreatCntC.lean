import Derived.Test.YtgkbfahflngklaaGreatCntA
import Derived.RangeFuncBox
import Derived.RangeFuncLeaves
import Derived.RangeFuncNested
import Derived.RangeFuncBound
import Derived.RangeFuncCalls
import Derived.Shelf.Abstract
import Derived.WalkKit
import Derived.OwnWalkIn
import Derived.TacticsInMore
import Derived.RegionIn
import Derived.LoopNIn
import Derived.LoopIn
import Derived.Maps.AppendAt
import Derived.Sort.MapsRangeIn
import Derived.Sort.KeysCollected
import Derived.Test.YtgkbfahflngklaaGreatDev1
set_option maxRecDepth 100000
set_option maxHeartbeats 3200000
set_option linter.unusedSimpArgs false
namespace Go.Proofs.YtgkbfahflngklaaGreat
namespace Cnt
open Go.RowKit Go.Shelf RowLaw
open Go.Maps Go.MapKept
open Go.WideShapes (sorted_perm)
open Go.WideElems (Fit rd rg rg_of rd_mk)
open Dev (wfU32)
attribute [local go_sem] Oper.semAt_some
theorem nodup_len:∀ (n:Nat) (l:List Nat),l.Nodup→(∀ x∈l,x < n)→l.length≤n
 | 0,l,_,h=>by
  cases l with
  | nil=>exact Nat.le_refl _
  | cons x l=>exact absurd (h x List.mem_cons_self) (by omega)
 | n+1,l,hd,h=>by
  have h1:=nodup_len n (l.erase n) (hd.erase n) (fun x hx=>by
   have h2:=h x (List.mem_of_mem_erase hx)
   have h3:x≠n:=fun e=>by
    subst e
    exact (List.Nodup.mem_erase_iff hd).1 hx |>.1 rfl
   omega)
  have h2:=List.length_erase (a:=n) (l:=l)
  split at h2 <;> omega
def anyR:Value→Option (DataW Unit×List MemPlace):=fun _=>some (.lit (.bool true),[])
abbrev encN (a:Nat):Value:=.int .u32 (a:Int)
theorem key32 {P:Program} {k:TypeId} (hk:P.underlying k=some (.int .u32)) {key:Value} {kl:Lit} (h:keyOf P k key=some kl):∃ a:Nat,key=encN a∧kl=.int .u32 (a:Int)∧a < 4294967296:=by
 cases key <;> simp [keyOf,hk,mapKey] at h
 rename_i q a
 obtain ⟨⟨rfl,hw⟩,rfl⟩:=h
 have:0≤a∧a≤4294967295:=by
  simp [Lit.wf,IntKind.min,IntKind.max,IntKind.signed,IntKind.bits] at hw
  omega
 exact ⟨a.toNat,by unfold encN; rw [Int.toNat_of_nonneg this.1],by rw [Int.toNat_of_nonneg this.1],by omega⟩
section
variable {P:Program} {k:TypeId} {w:World} {b:Nat} {f:Nat→Option Nat}
theorem PMap.owns (hk:P.underlying k=some (.int .u32)) (h:PMap w b f):∃ D0:DataW Unit,w.ownsMap P k anyR b 4294967296 D0∧(∀ a:Nat,has D0 (.int .u32 (a:Int))=true↔(f a).isSome=true)∧size D0≤4294967296:=by
 obtain ⟨es,clock,hb,hs,hr,hc⟩:=h
 have hrd:∀ x∈es.toList,∃ a q:Nat,a < 4294967296∧f a=some q∧x.key=.int .u32 (a:Int)∧rd P k anyR x=some (.int .u32 (a:Int),.lit (.bool true)):=fun x hx=>by
  obtain ⟨a,q,ha,he,hf,_⟩:=hr x hx
  refine ⟨a,q,ha,hf,he,?_⟩
  have:=rd_mk (P:=P) (k:=k) (R:=anyR) (key:=x.key) (val:=x.val) (born:=x.born) (kl:=.int .u32 (a:Int)) (yv:=(.lit (.bool true),[])) (by rw [he]; exact keyOf_int_mk hk (wfU32 ha)) rfl
  exact this
 have hlen:es.size≤4294967296:=by
  have hp:=((stamped_iff es clock).1 hs).2.2
  let g:MapEntry→Nat:=fun x=>match x.key with
   | .int _ a=>a.toNat
   | _=>0
  have hg:∀ x∈es.toList,x.key=.int .u32 (g x:Int)∧g x < 4294967296:=fun x hx=>by
   obtain ⟨a,_,ha,_,he,_⟩:=hrd x hx
   have:g x=a:=by show (match x.key with | .int _ a=>a.toNat | _=>0)=a; rw [he]; simp
   rw [this]; exact ⟨he,ha⟩
  have h1:=nodup_len 4294967296 (es.toList.map g) (by
   refine List.pairwise_map.2 (hp.imp_of_mem fun {x y} hx hy hne e=>hne ?_)
   rw [(hg x hx).1,(hg y hy).1,e]) (fun x hx=>by
   obtain ⟨y,hy,rfl⟩:=List.mem_map.1 hx
   exact (hg y hy).2)
  simpa using h1
 have F:Fit P k anyR es clock:=⟨Nat.le_trans hlen (by decide),hs,fun x hx=>by obtain ⟨a,_,_,_,_,h⟩:=hrd x hx; exact ⟨_,h⟩⟩
 refine ⟨_,⟨es,clock,hb,F,hlen,rfl⟩,fun a=>?_,?_⟩
 ·rw [has_eq,List.any_eq_true]
  constructor
  ·rintro ⟨p,hp,hsk⟩
   obtain ⟨x,hx,rfl⟩:=List.mem_map.1 (mem_sorted.1 hp)
   obtain ⟨a',q,_,hf,_,hrx⟩:=hrd x hx
   rw [rg_of hrx] at hsk
   have:a'=a:=by
    simp [Lit.sameKey] at hsk
    omega
   rw [←this,hf]; rfl
  ·intro hs
   obtain ⟨q,hq⟩:=Option.isSome_iff_exists.1 hs
   obtain ⟨x,hx,he⟩:=hc a q hq
   refine ⟨_,mem_sorted.2 (List.mem_map.2 ⟨x,hx,rfl⟩),?_⟩
   obtain ⟨a',_,_,_,he',hrx⟩:=hrd x hx
   rw [he] at he'
   injection he' with _ he'
   rw [rg_of hrx]
   simp [Lit.sameKey,he']
 ·rw [size_eq,(sorted_perm _).length_eq,List.length_map]
  simpa using hlen
end
def Coll (D0:DataW Unit) (left:Lit→Bool) (ss:List Nat):Prop:=ss.Nodup∧∀ a:Nat,a∈ss↔(has D0 (.int .u32 (a:Int))=true∧left (.int .u32 (a:Int))=false)
theorem Coll.start (D0:DataW Unit):Coll D0 (has D0) []:=⟨List.nodup_nil,fun a=>by cases has D0 (.int .u32 (a:Int)) <;> simp⟩
theorem Coll.step {D0:DataW Unit} {left:Lit→Bool} {ss:List Nat} (h:Coll D0 left ss) {x:Nat} {y:DataW Unit} (hlk:left (.int .u32 (x:Int))=true) (hat:∀ zd,D0.atKey (.int .u32 (x:Int)) zd=y) :
  Coll D0 (fun z=>left z && !z.sameKey (.int .u32 (x:Int))) (ss ++ [x]):=by
 have hhas:has D0 (.int .u32 (x:Int))=true:=has_true_of_atKey hat
 have hnew:x∉ss:=fun hx=>by have:=((h.2 x).1 hx).2; rw [hlk] at this; cases this
 refine ⟨List.nodup_append.2 ⟨h.1,by simp,fun a ha b hb=>by simp at hb; subst hb; exact fun e=>hnew (e ▸ ha)⟩,fun y=>?_⟩
 by_cases hy:y=x
 ·subst hy; simp [hhas,Lit.sameKey]
 ·have:¬ (y:Int)=(x:Int):=by omega
  simp [h.2 y,hy,Lit.sameKey,this]
def keysF (q:Nat):Value:=.func (.func 209) #[] #[.pointer (some ⟨q,0,none⟩)]
theorem Keys_in (n:Nat) (mb:Nat) (W:World):CallsIn Fence.wide n Tryz.prog 152 #[.map (some mb)] W fun e w'=>e=.returned (keysF W.heap.size)∧w'=W.alloc (.cells #[.map (some mb)] 157):=by
 refine callsIn_of_wp Tryz.func152 rfl trivial ?_ rfl
 simp only [Tryz.ntmps152,List.size_toArray,List.length_cons,List.length_nil,Nat.reduceAdd,Nat.reduceSub,Array.replicate_succ,Array.replicate_zero,List.push_toArray,List.append_toArray,List.nil_append,List.cons_append]
 gi_wp2
 go_ret
 exact ⟨rfl,rfl⟩
theorem keys_stops (n:Nat) (hn:1≤n) {w:World} {b q:Nat} {f:Nat→Option Nat} (hm:PMap w b f) (hq:w.cell? ⟨q,0,none⟩=some (.map (some b))) (hql:q < w.heap.size) :
    SeqStops Fence.wide n Tryz.prog 209 #[.pointer (some ⟨q,0,none⟩)] encN (fun ss=>ss.Nodup∧∀ a,a∈ss↔(f a).isSome=true) (fun _=>True) 4294967296 w:=fun l J Jx W hW hJ _ hY h0=>by
  have hm':PMap W b f:=hm.kept (hW.block b hm.lt)
  obtain ⟨D0,hown,hhas,hsz⟩:=hm'.owns (P:=Tryz.prog) (k:=22) Tryz.underlying22
  have hqW:W.cell? ⟨q,0,none⟩=some (.map (some b)):=(hW.cell (p:=⟨q,0,none⟩) hql).trans hq
  refine callsIn_of_wp Tryz.func209 rfl trivial ?_ rfl
  simp only [Tryz.ntmps209,List.size_toArray,List.length_cons,List.length_nil,Nat.reduceAdd,Nat.reduceSub,Array.replicate_succ,Array.replicate_zero,List.push_toArray,List.append_toArray,List.nil_append,List.cons_append]
  gi_wp2_with (first
    | (gi_at_range; refine wpListIn_range_own _ rfl _ 157 rfl 22 160 (int_keyed Tryz.underlying22) Tryz.underlying157 anyR b 4294967296 _ rfl hown ?_; intro w0 hrg0 hg0 hs0)
    | gi_in)
  go_frame
  gi_loopw [3] (fun _ wr=>∃ (left:Lit→Bool) (cnt:Nat) (ss:List Nat),wr.ranges Tryz.prog 22 anyR b W.heap.size 4294967296 D0 left cnt∧ss.length+cnt≤size D0∧Coll D0 left ss∧J ss wr)
    (fun _ wr=>wr.rangeLeft b W.heap.size)
  case atStart=>
    exact ⟨_,_,[],hrg0,by simp,Coll.start D0,hJ [] W w0 none h0 hg0 (fun r e=>by cases e)⟩
  case round=>
    obtain ⟨left,cnt,ss,hrg,hcs,hC,hJs⟩:=hrel
    gi_wp2_with (first
      | (gi_at_next; refine wpListIn_next_ranges _ rfl _ rfl 22 (int_keyed Tryz.underlying22) anyR encN id (fun key kl hk=>by obtain ⟨x,hx,_⟩:=key32 Tryz.underlying22 hk; exact ⟨x,hx⟩) (fun v _ _=>⟨v,rfl⟩) b W.heap.size 4294967296 _ _ _ rfl hrg ?_ ?_)
      | gi_in)
    · intro hc0 hl0
      gi_wp2
      go_end0
      exact ⟨⟨_,rfl⟩,.inl ⟨ss,⟨hC.1,fun a=>by rw [hC.2 a,hl0,hhas a]; simp⟩,hJs⟩⟩
    · intro x c kl yd yp w2 cnt2 hkey hlk hv hat hrg2 hlt hg2 hs2 hen
      obtain ⟨x',ex,rfl,_⟩:=key32 Tryz.underlying22 hkey
      obtain rfl:x=x':=by unfold encN at ex; injection ex with _ ex; omega
      have hJ2:J ss w2:=hJ ss wr w2 (some W.heap.size) hJs hg2 (fun r e=>by cases e; exact ⟨Nat.le_refl _,hrg.iter_walk⟩)
      obtain ⟨fn,tmps,assign,body,hy,hR⟩:=hY ss x w2 hJ2 (by omega)
      have hC2:=hC.step hlk hat
      clear hs2
      gi_wp2
      refine hR.mono ?_
      rintro e W3 (⟨rfl,hJ3,hk3⟩ | ⟨rfl,hJx3⟩)
      · gi_wp2
        have hrg3:=hrg2.of_walks hk3
        go_roundw
        case rel=>exact ⟨_,cnt2,ss ++ [x],hrg3,by simp; omega,hC2,hJ3⟩
        case measure=>rw [hrg3.left_eq,hrg.left_eq]; exact hlt
      · gi_wp2
        refine bodyPost_ret (results_none rfl _ _ _) rfl ?_
        exact ⟨⟨_,rfl⟩,.inr ⟨ss ++ [x],trivial,hJx3⟩⟩
end Cnt
namespace Cnt
open Go.RowKit Go.Shelf RowLaw
open Go.Maps Go.MapKept
attribute [local go_sem] Oper.semAt_some
theorem info32:(Tryz.prog.info? 22).map (fun i=>(i.zero,i.size,i.bytes))=some (some (.int .u32 0),1,4):=by kernel_rfl
theorem enterKeys1:∀ (args:Array Value) (W:World),(callFunc 209 args).run Tryz.prog W=.ok (.enter 209 args) W:=fun _ _=>by simp [go_sem]
theorem AppendSeq_in (n:Nat) (hn:3≤n) {w:World} {q:Nat} {S Sp:List Nat→Prop}
  (hseq:SeqStops Fence.wide (n - 1) Tryz.prog 209 #[.pointer (some ⟨q,0,none⟩)] encN S Sp 4294967296 w) :
  CallsIn Fence.wide n Tryz.prog 243 #[.slice none 0 0,keysF q] w fun e w'=>∃ v ss,e=.returned v∧S ss∧w'.ownsRow w.heap.size 22 1 v ss.length (ss.map encN)∧(v=.slice none 0 0↔ss=[])∧Below w.heap.size w w':=by
 have h1:1≤n:=by omega
 obtain ⟨i0,hi,hz0,hz1,hz2⟩:=info_parts info32
 refine callsIn_of_wp_marks Tryz.func243 rfl trivial ?_ rfl
 simp only [Tryz.ntmps243,List.size_toArray,List.length_cons,List.length_nil,Nat.reduceAdd,Nat.reduceSub,Array.replicate_succ,Array.replicate_zero,List.push_toArray,List.append_toArray,List.nil_append,List.cons_append]
 gi_wp2
 have bO:=Boxed.new w 56 (.slice none 0 0)
 have hB0:Below w.heap.size w (w.alloc (.cells #[.slice none 0 0] 56)):=(Below.refl _ w).alloc (Nat.le_refl _) _
 refine wpIn_rangeFunc_ownG rfl h1 (gf:=209) (lb:=#[.pointer (some ⟨q,0,none⟩)]) rfl trivial enterKeys1
  hseq walksK_t walksK_b hB0 (fun _=>rfl)
  (fun pre W=>(∃ v,Boxed W w.heap.size 56 v∧W.ownsRow w.heap.size 22 1 v pre.length (pre.map encN)∧(v=.slice none 0 0↔pre=[]))∧Below w.heap.size w W)
  (fun _ _ _=>False)
  (OwnFrom.and (Own.from (holdsRow_own w.heap.size w.heap.size 56 22 1 (fun pre=>pre.length) (fun pre=>pre.map encN) (fun pre v=>v=.slice none 0 0↔pre=[])) _) (ownFrom_below (Nat.le_refl _) (by simp)))
  (fun _ _ _ _ _ hs _ _=>hs)
  ⟨⟨_,bO,World.ownsRow_nil _ _ _ _,by simp⟩,hB0⟩
  (fun x=>{ tmps:=#[.slice none 0 0,keysF q,.pointer (some ⟨w.heap.size,0,none⟩),undef,.slice none 0 0,.int .u32 (x:Int),keysF q,.int .u32 (x:Int),undef,undef,undef,undef,undef],defers:=[] }) ?assign ?body ?done ?stop
 case assign=>
  intro l x W K hK
  gi_wp2
  exact hK
 case body=>
  rintro l pre x W ⟨⟨v,hv,hrow,hnil⟩,hB⟩ hlt
  have hc:=hv.cell
  gi_wp2_with (gi_at_builtin; refine wpListIn_append_own _ rfl _ _ 56 rfl w.heap.size 22 i0 (.int .u32 0) 1 4 Tryz.underlying56 hi hz0 hz1 hz2 rfl (by decide) _ _ _ rfl (hrow.alloc _) ⟨W.heap.size,0,none⟩ 1 1 [.int .u32 (x:Int)] rfl rfl (cell_one_new _ _ _) (by simp [Value.oneCell']) (Nat.le_trans (show pre.length+1≤4294967296 by omega) (by decide)) (by omega) (by have:=hB.size; simp; omega) ?_; intro v' w1 hown' hgrow _; obtain ⟨g',cap',rfl⟩:=ownsRow_succ hown'; obtain ⟨hv1,hv2,hr2,hk2,hb2⟩:=hv.appended (by decide) hrow hB.size (Nat.le_refl _) hown' hgrow; have hc1:=hv1.cell; have hf1:=hv1.frozen)
  exact ⟨hk2.from _,hk2.walks,⟨_,hv2,by simpa using hr2,by simp⟩,hB.trans hb2⟩
 case done=>
  rintro D ys W hD hS ⟨⟨v,hv,hrow,hnil⟩,hB⟩ hK
  have hc:=hv.cell
  gi_wp2
  refine ⟨by simp,.inl ⟨_,_,rfl,run_takeDeferred hK,?_⟩⟩
  exact ⟨_,results_tmp rfl _ _ _,v,ys,rfl,hS,ownsRow_putObj hrow _ hK rfl,hnil,hB.trans (belowK_b (w:=w) (Nat.le_refl _) W D _ _ (by simp at hD; omega) hK rfl rfl)⟩
 case stop=>
  rintro D c pre W _ _ h _
  exact h.elim
theorem Collect_in (n:Nat) (hn:4≤n) {w:World} {q:Nat} {S Sp:List Nat→Prop}
  (hseq:SeqStops Fence.wide (n - 1 - 1) Tryz.prog 209 #[.pointer (some ⟨q,0,none⟩)] encN S Sp 4294967296 w) :
  CallsIn Fence.wide n Tryz.prog 207 #[keysF q] w fun e w'=>∃ v ss,e=.returned v∧S ss∧w'.ownsRow w.heap.size 22 1 v ss.length (ss.map encN)∧(v=.slice none 0 0↔ss=[])∧Below w.heap.size w w':=by
 have h1:1≤n:=by omega
 refine callsIn_of_wp Tryz.func207 rfl trivial ?_ rfl
 simp only [Tryz.ntmps207,List.size_toArray,List.length_cons,List.length_nil,Nat.reduceAdd,Nat.reduceSub,Array.replicate_succ,Array.replicate_zero,List.push_toArray,List.append_toArray,List.nil_append,List.cons_append]
 have hfA:Fence.wide.fn 243:=trivial
 gi_wp2_with (gi_at_call 243; refine (AppendSeq_in (n - 1) (by omega) hseq).mono ?_; rintro e w' ⟨v,ss,rfl,hS,hrow,hnil,hb⟩)
 go_ret
 exact ⟨v,ss,rfl,hS,hrow,hnil,hb⟩
end Cnt
namespace Cnt
open Go.RowKit RowLaw
open Dev (Turn)
def SortOk (N:Nat):Prop:=∀ (base:Nat) (v:Value) (ss:List Nat) (W:World),W.ownsRow base 22 1 v ss.length (ss.map encN)→ss.length≤N→(∀ x∈ss,x < 4294967296)→
 Calls Tryz.prog 208 #[v] W fun e w'=>e=.returned (.tuple #[])∧∃ ss':List Nat,ss'.Perm ss∧ss'.Pairwise (· ≤ ·)∧w'.ownsRow base 22 1 v ss'.length (ss'.map encN)∧Turn v.ownBlock.toList W w'
theorem len0 (w:World):Calls Tryz.prog 245 #[.int .u64 0] w fun e w'=>e=.returned (.int .i64 0)∧w'=w:=by
 go_enter Tryz.func245,Tryz.ntmps245
 go_wp2
 go_ret
 exact ⟨congrArg (fun z=>Ending.returned (.int .i64 z)) (by decide +kernel),rfl⟩
theorem len1 (w:World):Calls Tryz.prog 245 #[.int .u64 1] w fun e w'=>e=.returned (.int .i64 1)∧w'=w:=by
 go_enter Tryz.func245,Tryz.ntmps245
 go_wp2
 go_ret
 exact ⟨congrArg (fun z=>Ending.returned (.int .i64 z)) (by decide +kernel),rfl⟩
theorem insertion1 (v:Value) (n:Int) (hn:n≤1) (w:World):Calls Tryz.prog 262 #[v,.int .i64 0,.int .i64 n] w fun e w'=>e=.returned (.tuple #[])∧w'=w:=by
 have h1:¬ 1 < n:=by omega
 go_enter Tryz.func262,Tryz.ntmps262
 go_wp2
 go_loopw [6] (fun i wr=>i=.int .i64 1∧wr=w) (fun _ _=>0)
 case atStart=>exact ⟨rfl,rfl⟩
 case round=>
  obtain ⟨rfl,rfl⟩:=hrel
  go_wp2
  go_end0
  exact ⟨rfl,rfl⟩
theorem pdq1 (v:Value) (n z:Int) (h0:0≤n) (hn:n≤1) (w:World):Calls Tryz.prog 244 #[v,.int .i64 0,.int .i64 n,.int .i64 z] w fun e w'=>e=.returned (.tuple #[])∧w'=w:=by
 have h1:n≤12:=by omega
 have hI:=insertion1 v n hn w
 have HI:=Lib.hid hI
 clear hI hn
 go_enter Tryz.func244,Tryz.ntmps244
 go_wp2
 go_loopw [1,2,3] (fun a b c wr=>a=.int .i64 0∧b=.int .i64 n∧wr=w) (fun _ _ _ _=>0)
 case atStart=>exact ⟨rfl,rfl,rfl⟩
 case round=>
  obtain ⟨rfl,rfl,rfl⟩:=hrel
  go_wp2_with (with_reducible refine HI.out.mono ?_)
  rintro e W1 ⟨rfl,rfl⟩
  go_wp2
  exact bodyPost_ret (results_none rfl _ _ _) rfl ⟨rfl,rfl⟩
theorem sortOk1:SortOk 1:=fun base v ss W hown hlen _=>by
 have hp:Calls Tryz.prog 208 #[v] W fun e w'=>e=.returned (.tuple #[])∧w'=W:=by
  rcases hown.2 with ⟨rfl,hz⟩ | ⟨g,cap,cur,rfl,_⟩
  ·have hP:=pdq1 (.slice none 0 0) 0 0 (by omega) (by omega) W
   have hL:=len0 W
   clear hown hz
   go_enter Tryz.func208,Tryz.ntmps208
   go_wp2_with (first | ((with_reducible refine hL.mono ?_); rintro e W1 ⟨rfl,rfl⟩) | ((with_reducible refine hP.mono ?_); rintro e W1 ⟨rfl,rfl⟩))
   go_end0
   exact ⟨rfl,rfl⟩
  ·clear hown
   obtain ⟨m,hm⟩:∃ m,m=ss.length:=⟨_,rfl⟩
   rw [←hm] at hlen ⊢
   clear hm
   obtain rfl | rfl:m=0∨m=1:=by omega
   ·have hP:=pdq1 (.slice (some ⟨g,0,none⟩) 0 cap) 0 0 (by omega) (by omega) W
    have hL:=len0 W
    go_enter Tryz.func208,Tryz.ntmps208
    go_wp2_with (first | ((with_reducible refine hL.mono ?_); rintro e W1 ⟨rfl,rfl⟩) | ((with_reducible refine hP.mono ?_); rintro e W1 ⟨rfl,rfl⟩))
    go_end0
    exact ⟨rfl,rfl⟩
   ·have hP:=pdq1 (.slice (some ⟨g,0,none⟩) 1 cap) 1 1 (by omega) (by omega) W
    have hL:=len1 W
    go_enter Tryz.func208,Tryz.ntmps208
    go_wp2_with (first | ((with_reducible refine hL.mono ?_); rintro e W1 ⟨rfl,rfl⟩) | ((with_reducible refine hP.mono ?_); rintro e W1 ⟨rfl,rfl⟩))
    go_end0
    exact ⟨rfl,rfl⟩
 refine hp.mono fun e w' ⟨he,hw⟩=>⟨he,ss,List.Perm.refl _,?_,by rw [hw]; exact hown,by rw [hw]; exact Turn.refl _ _⟩
 cases ss with
 | nil=>exact List.Pairwise.nil
 | cons x r=>
  cases r with
  | nil=>exact List.pairwise_singleton _ _
  | cons y r=>simp at hlen
end Cnt
namespace Cnt
open Go.RowKit Go.Shelf RowLaw
open Dev (Turn)
theorem keys_any (mb:Nat) (W:World):Calls Tryz.prog 152 #[.map (some mb)] W fun e w'=>e=.returned (keysF W.heap.size)∧w'=W.alloc (.cells #[.map (some mb)] 157):=
 (callsIn_wide (n:=1)).1 (Keys_in 1 mb W)
theorem Sorted_any {N:Nat} (hS:SortOk N) {w:World} {b q:Nat} {f:Nat→Option Nat} (hm:PMap w b f) (hq:w.cell? ⟨q,0,none⟩=some (.map (some b))) (hql:q < w.heap.size) (hN:∀ ss:List Nat,ss.Nodup→(∀ a,a∈ss↔(f a).isSome=true)→ss.length≤N) :
  Calls Tryz.prog 151 #[keysF q] w fun e w'=>∃ (v:Value) (ks:List Nat),e=.returned v∧ks.Pairwise (· < ·)∧(∀ a,a∈ks↔(f a).isSome=true)∧w'.ownsRow w.heap.size 22 1 v ks.length (ks.map encN)∧Below w.heap.size w w':=by
 have hC:Calls Tryz.prog 207 #[keysF q] w fun e w'=>∃ (v:Value) (ss:List Nat),e=.returned v∧(ss.Nodup∧∀ a,a∈ss↔(f a).isSome=true)∧w'.ownsRow w.heap.size 22 1 v ss.length (ss.map encN)∧(v=.slice none 0 0↔ss=[])∧Below w.heap.size w w':=
  (callsIn_wide (n:=4)).1 (Collect_in 4 (by omega) (keys_stops 2 (by omega) hm hq hql))
 have HC:=Lib.hid hC
 have hlt:∀ a,(f a).isSome=true→a < 4294967296:=fun a ha=>by
  obtain ⟨x,hx⟩:=Option.isSome_iff_exists.1 ha
  exact hm.key_lt hx
 clear hC hm hq hql
 go_enter Tryz.func151,Tryz.ntmps151
 go_wp2_with fail
 refine HC.out.mono ?_
 clear HC
 rintro e W1 ⟨v,ss,rfl,⟨hnd,hmem⟩,hrow,_,hb⟩
 have hSo:=hS w.heap.size v ss W1 hrow (hN ss hnd hmem) (fun x hx=>hlt x ((hmem x).1 hx))
 have HSO:=Lib.hid hSo
 have hge:∀ k∈v.ownBlock.toList,w.heap.size≤k:=fun k hk=>(hrow.lt k (by simpa using hk)).1
 clear hSo hS hN
 go_wp2_with fail
 refine HSO.out.mono ?_
 clear HSO
 rintro e W2 ⟨rfl,ks,hp,hpw,hrow2,ht⟩
 go_wp2_with fail
 go_ret
 refine ⟨v,ks,rfl,?_,fun a=>by rw [hp.mem_iff,hmem],hrow2,hb.trans (ht.below hge hb.size)⟩
 exact (hpw.and (hp.nodup_iff.2 hnd)).imp fun {a b} h=>by
  obtain ⟨h1,h2⟩:=h
  exact Nat.lt_of_le_of_ne h1 h2
end Cnt

end Go.Proofs.YtgkbfahflngklaaGreat
