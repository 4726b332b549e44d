import Derived.Test.YtgkbfahflngklaaGreatKit1
import Derived.Deep.AppendSrc
import Derived.Laws.OwnMore
import Derived.Test.YtgkbfahflngklaaGreatSpcB
set_option maxRecDepth 100000
set_option maxHeartbeats 6400000
set_option linter.unusedSimpArgs false
namespace Go.Proofs.YtgkbfahflngklaaGreat
namespace RowLaw
open Go.RowKit
theorem run_build_none {P:Program} (w:World) {t e:TypeId} {i:TypeInfo} (ht:P.underlying t=some (.slice e)) (hi:P.info? e=some i) :
  (Instr.buildSlice t 0 #[]).run P w=.ok (.slice (some ⟨w.heap.size,0,none⟩) 0 0) (w.alloc (.cells #[] e)):=by
 have hz:(Array.range 0).map (fun _:Nat=>(default:Value))=#[]:=Array.eq_empty_of_size_eq_zero (by simp)
 simp [Instr.buildSlice,run_underlying ht,sizeOf,typeInfo,hi,Instr.fill,newRow]
 rw [hz]
theorem run_append_copy {P:Program} {W:World} {t ty e:TypeId} {i:TypeInfo} {z:Value} {size bytes:Nat} (ht:P.underlying t=some (.slice e)) (hi:P.info? e=some i) (hz:i.zero=some z)
  (hsize:i.size=size) (hby:i.bytes=bytes) (hzs:z.cells.size=size) {g:Nat} (hg:W.heap[g]? = some (.cells #[] e (0,0))) {b0:Nat} {v:Value} {n:Nat} {xs:List Value} (hown:W.ownsRow b0 e size v n xs) (h1:∀ u∈xs,u.oneCell'=true)
  (h63:n≤maxLen) (hb:n * bytes≤140737488355328) :
  ∃ v' W',(Builtin.append_ #[t,t] ty #[.slice (some ⟨g,0,none⟩) 0 0,v]).run P W=.ok v' W'∧W'.ownsRow g e size v' n xs∧Below W.heap.size W W':=by
 subst hsize
 subst hby
 have hlt:g < W.heap.size:=(Array.getElem?_eq_some_iff.1 hg).1
 have hsmall:n≤9223372036854775807:=by simp only [maxLen] at h63; omega
 have hsrc:Src P i.size t v n xs W:=by
  rcases hown.2 with ⟨rfl,rfl⟩ | ⟨g',cap,cur,rfl,_⟩
  ·have:xs=[]:=List.eq_nil_of_length_eq_zero (by simpa using hown.1)
   subst this
   exact Src.ofNil W ht 0
  ·exact Src.ofSlice W ht ⟨g',0,none⟩ n cap xs hown.1 (hown.cells (g:=g') rfl) h1
 by_cases hn:n=0
 ·subst hn
  have hx:xs=[]:=List.eq_nil_of_length_eq_zero (by simpa using hown.1)
  subst hx
  have hr:=run_append_room_src (P:=P) W t t ty e i ht hi g 0 0 0 v 0 [] hsrc (Nat.le_refl _) (fun j hj=>by simp at hj) (fun j hj=>by simp at hj)
  refine ⟨_,_,hr,⟨hown.1,.inr ⟨g,0,#[],rfl,Nat.le_refl _,hg,Nat.le_refl _,by simp [maxLen],by simp,by simp⟩⟩,Below.refl _ _⟩
 ·have hold:(Builtin.firstCells i.size 0 (.slice (some ⟨g,0,none⟩) 0 0)).run P W.drew=.ok ([]:List Value).toArray W.drew:=run_firstCells_some (P:=P) W.drew i.size 0 ⟨g,0,none⟩ 0 0 [] (by simp) (fun j u hu=>by simp at hu)
  have hr:=run_append_grow_src (P:=P) W t t ty e i z ht hi hz (some ⟨g,0,none⟩) 0 0 [] hold v n xs hsrc (by omega) (by omega) (growslice_fits (by omega) (by simpa using hb))
  have hge:=grownCap_ge W (0+n) 0 e
  have hcm:grownCap W (0+n) 0 e≤maxLen:=grownCap_le_maxLen W (0+n) 0 e (by omega)
  refine ⟨_,_,hr,⟨hown.1,.inr ⟨W.heap.size,_,_,by rw [Nat.zero_add],Nat.le_of_lt hlt,heap_alloc_new W.drew _,by omega,hcm,?_,?_⟩⟩,?_⟩
  ·simp only [List.nil_append,Array.size_append,List.size_toArray,size_zeroCells,hzs,hown.1]
   rw [←Nat.add_mul]
   congr 1
   omega
  ·simp only [List.nil_append,Array.toList_append]
   rw [←hown.1]
   exact List.take_left
  ·exact ⟨rfl,rfl,rfl,by simp,fun k hk=>Below.heap_alloc W.drew _ k hk⟩
theorem wp_append_copy {P:Program} {W:World} {o:Oper} {a:Act} {K:Act→World→Prop} {Q:Exit→Act→World→Prop} (s x:Operand) (t:TypeId)
  (ho:o.op=.call { callee:=.builtin .append,args:=#[s,x],argTypes:=#[t,t] }) {e:TypeId} {i:TypeInfo} {z:Value} {size bytes:Nat} (ht:P.underlying t=some (.slice e)) (hi:P.info? e=some i) (hz:i.zero=some z)
  (hsize:i.size=size) (hby:i.bytes=bytes) (hzs:z.cells.size=size) {g:Nat} (hg:W.heap[g]? = some (.cells #[] e (0,0))) (hs:a.eval s=.slice (some ⟨g,0,none⟩) 0 0) {b0:Nat} {v:Value} {n:Nat} {xs:List Value} (hx:a.eval x=v) (hown:W.ownsRow b0 e size v n xs) (h1:∀ u∈xs,u.oneCell'=true)
  (h63:n≤maxLen) (hb:n * bytes≤140737488355328) (h:∀ v' W',W'.ownsRow g e size v' n xs→Below W.heap.size W W'→K (a.put o.dst v') W'):o.wp P a W K Q:=by
 obtain ⟨v',W',hr,h2,h3⟩:=run_append_copy (P:=P) (ty:=o.type) ht hi hz hsize hby hzs hg hown h1 h63 hb
 unfold Oper.wp execOp
 simp only [ho,resolve,invoke,builtin,Sem.run_bind,Sem.run_pure,Result.andThen_ok,List.map_toArray,List.map_cons,List.map_nil,hs,hx,hr]
 exact h v' W' h2 h3
theorem wpList_append_copy {P:Program} {W:World} {ops:Array Oper} {rest:List Oper} {o:Oper} {a:Act} {Q:Exit→Act→World→Prop} (hgd:o.guard=none) (s x:Operand) (t:TypeId)
  (ho:o.op=.call { callee:=.builtin .append,args:=#[s,x],argTypes:=#[t,t] }) {e:TypeId} {i:TypeInfo} {z:Value} {size bytes:Nat} (ht:P.underlying t=some (.slice e)) (hi:P.info? e=some i) (hz:i.zero=some z)
  (hsize:i.size=size) (hby:i.bytes=bytes) (hzs:z.cells.size=size) {g:Nat} (hg:W.heap[g]? = some (.cells #[] e (0,0))) (hs:a.eval s=.slice (some ⟨g,0,none⟩) 0 0) {b0:Nat} {v:Value} {n:Nat} {xs:List Value} (hx:a.eval x=v) (hown:W.ownsRow b0 e size v n xs) (h1:∀ u∈xs,u.oneCell'=true)
  (h63: n≤maxLen) (hb: n * bytes≤140737488355328) (h: ∀ v' W',W'.ownsRow g e size v' n xs→Below W.heap.size W W'→wpList P ops Q rest (a.put o.dst v') W'): wpList P ops Q (o::rest) a W:=
 wpList_plain hgd fun _ hK=>wp_append_copy s x t ho ht hi hz hsize hby hzs hg hs hx hown h1 h63 hb fun v' W' h1 h2=>hK _ _ (h v' W' h1 h2)
theorem wp_append_none {P:Program} {w:World} {o:Oper} {a:Act} {K:Act→World→Prop} {Q:Exit→Act→World→Prop} (s x:Operand) (t:TypeId)
  (ho:o.op=.call { callee:=.builtin .append,args:=#[s,x],argTypes:=#[t,t] }) (base:Nat) (e:TypeId) (i:TypeInfo) (size:Nat) (ht:P.underlying t=some (.slice e)) (hi:P.info? e=some i)
  (v:Value) (n:Nat) (xs:List Value) (hs:a.eval s=v) (hown:w.ownsRow base e size v n xs) (hx:a.eval x=.slice none 0 0) (h:K (a.put o.dst v) w):o.wp P a w K Q:=by
 have hr:=run_append_owned_none (P:=P) (w:=w) base t o.type e i size ht hi v n xs hown
 unfold Oper.wp execOp
 simp only [ho,resolve,invoke,builtin,Sem.run_bind,Sem.run_pure,Result.andThen_ok,List.map_toArray,List.map_cons,List.map_nil,hs,hx,hr]
 exact h
theorem ownsRow_pre {w:World} {base:Nat} {e:TypeId} {g n c:Nat} {xs:List Value} (h:w.ownsRow base e 1 (.slice (some ⟨g,0,none⟩) n c) n xs) {m:Nat} (hm:m≤n):w.ownsRow base e 1 (.slice (some ⟨g,0,none⟩) m c) m (xs.take m):=by
 obtain ⟨hl,h2⟩:=h
 rcases h2 with ⟨h2,_⟩ | ⟨g',cap,cur,h2,h3,h4,h5,h6,h7,h8⟩
 ·cases h2
 ·cases h2
  refine ⟨by rw [List.length_take,hl]; omega,.inr ⟨g,c,cur,rfl,h3,h4,by omega,h6,h7,?_⟩⟩
  rw [←h8,List.take_take]
  congr 1
  omega
theorem ownsRow_cap {w:World} {base:Nat} {e:TypeId} {size:Nat} {g n c:Nat} {xs:List Value} (h:w.ownsRow base e size (.slice (some ⟨g,0,none⟩) n c) n xs):n≤c:=by
 rcases h.2 with ⟨h2,_⟩ | ⟨g',cap,cur,h2,h3,h4,h5,_⟩
 ·cases h2
 ·cases h2
  exact h5
theorem wp_yieldsR {P:Program} {Q:Exit→Act→World→Prop} {K:Act→World→Prop} {a:Act} {W:World} (o:Oper) (v:Value) (h:(execOp a.eval o).run P W=.ok (.value v) W) (hk:K (a.put o.dst v) W):o.wp P a W K Q:=by
 unfold Oper.wp
 rw [h]
 exact hk
end RowLaw
namespace Spc
open Go.RowKit RowLaw
def oth (a:Nat):Nat:=if a % 2=0 then a+1 else a - 1
theorem oth_eq (a:Nat):oth a=Cnt.other a:=by
 unfold oth Cnt.other
 have h1:(a ^^^ 1) / 2=a / 2:=by rw [Nat.xor_div_two]; simp
 have h2:(a ^^^ 1) % 2=(a % 2+1) % 2:=by
  have h:=Nat.xor_mod_two_pow (a:=a) (b:=1) (n:=1)
  rw [show (2:Nat) ^ 1=2 from rfl] at h
  rw [h]
  rcases Nat.mod_two_eq_zero_or_one a with e | e <;> rw [e] <;> rfl
 split <;> omega
theorem other_any (a:Nat) (ha:a < 4294967295) (w:World):Calls Tryz.prog 173 #[.int .u32 (a:Int)] w fun e w'=>e=.returned (.int .u32 (oth a:Int))∧w'=w:=by
 have h1:IntKind.u32.wrap ((a:Int)+1)=(a:Int)+1:=IntWalk.u32_in _ (by omega)
 by_cases h0:a % 2=0
 ·have e:(oth a:Int)=(a:Int)+1:=by unfold oth; rw [if_pos h0]; omega
  have e0:(a:Int) % 2=0:=by omega
  rw [e]
  clear e h0
  go_enter Tryz.func173,Tryz.ntmps173
  go_wp2_with fail
  go_ret
  exact ⟨rfl,rfl⟩
 ·have e:(oth a:Int)=(a:Int) - 1:=by unfold oth; rw [if_neg h0]; omega
  have e0:(a:Int) % 2=1:=by omega
  have h2:IntKind.u32.wrap ((a:Int) - 1)=(a:Int) - 1:=IntWalk.u32_in _ (by omega)
  rw [e]
  clear e h0
  go_enter Tryz.func173,Tryz.ntmps173
  go_wp2_with fail
  go_ret
  exact ⟨rfl,rfl⟩
end Spc
namespace Spc
open Go.RowKit RowLaw Crc
open Dev (DS newS readB applyP applyP_none applyP_append)
open Slt (Rt rtB rtB_length)
open Rot (planOk tlN pkN fsN plan_facts commitF formatF fresh commitOk toZero_none format_calm commit_calm read_commit calm_upd readB_nil)
theorem applyP_at {a:Nat}:∀ (l:List (Nat×List UInt8)) (g g':Nat→List UInt8),g a=g' a→applyP g l a=applyP g' l a
 | [],_,_,h=>h
 | x::l,g,g',h=>applyP_at l (Dev.upd g x.1 x.2) (Dev.upd g' x.1 x.2) (by unfold Dev.upd; split <;> simp [h])
theorem applyP_flt {a c:Nat} (hac:a≠c):∀ (l:List (Nat×List UInt8)) (g g':Nat→List UInt8),g a=g' a→applyP g (fltP l c) a=applyP g' l a
 | [],_,_,h=>h
 | x::l,g,g',h=>by
  unfold fltP
  rw [List.filter_cons]
  by_cases hx:x.1=c
  ·rw [if_neg (by simp [hx])]
   refine applyP_flt hac l g (Dev.upd g' x.1 x.2) ?_
   unfold Dev.upd
   rw [if_neg (by omega)]
   exact h
  ·rw [if_pos (by simp [hx])]
   refine applyP_flt hac l (Dev.upd g x.1 x.2) (Dev.upd g' x.1 x.2) ?_
   unfold Dev.upd
   split <;> simp [h]
theorem lastB_with (xs:List (Nat×List UInt8)) (x:Nat×List UInt8):lastB (withP xs x)=Dev.upd (lastB xs) x.1 x.2:=funext fun a=>by
 unfold lastB withP
 rw [applyP_append]
 show Dev.upd (applyP (fun _=>zeros) (fltP xs x.1)) x.1 x.2 a=Dev.upd (applyP (fun _=>zeros) xs) x.1 x.2 a
 unfold Dev.upd
 split
 ·rfl
 ·rename_i h
  exact applyP_flt h xs _ _ rfl
theorem lastB_flush:∀ (l g:List (Nat×List UInt8)),lastB (flushL g l)=applyP (lastB g) l
 | [],_=>rfl
 | x::l,g=>by
  show lastB (flushL (withP g x) l)=applyP (Dev.upd (lastB g) x.1 x.2) l
  rw [lastB_flush l (withP g x),lastB_with]
def commitX (x:RS) (l:List (Nat×List UInt8)) (r:Rt):RS:=⟨x.n,flushL (flushL x.good l) [(r.gen % 2,rtB r)],[],x.wr+l.length+1+1+1⟩
def formX (n:Nat):RS:=⟨n,[(1,rtB (fresh n))],[],3⟩
structure Like (x:RS) (s:DS):Prop where
 n:s.n=x.n
 at_:∀ a,2≤a→a < x.n→x.at_ a=readB s a
 calm:Rot.Calm s
 wait:x.wait=[]
theorem at_calm {x:RS} (h:x.wait=[]) {a:Nat} (ha:a < x.n):x.at_ a=lastB x.good a:=by
 unfold RS.at_
 rw [if_neg (by omega),h]
 rfl
theorem Like.format {n:Nat} (h1:64≤n) (h2:n≤1048576) {s2:DS} {r:Rt} {z:Int} (hf:formatF (newS n)=(s2,(r,z))):Like (formX n) s2:=by
 obtain ⟨k,e⟩:=format_calm (s:=newS n) (Rot.Calm.new n) h1 h2
 rw [hf] at e
 injection e with e _
 subst e
 rw [toZero_none (g:=(newS n).g) (fun _=>rfl)]
 refine ⟨rfl,fun a ha hn=>?_,calm_upd (l:=[]) (Rot.Calm.new n) (fun x hx=>by cases hx) 1 _ (rtB_length _) k,rfl⟩
 rw [at_calm rfl hn,readB_nil rfl]
 show lastB [(1,rtB (fresh n))] a=Dev.upd (fun _=>zeros) 1 (rtB (fresh n)) a
 rfl
theorem Like.commit {x:RS} {s:DS} (h:Like x s) {l:List (Nat×List UInt8)} {r:Rt} (ok:commitOk s.n l r=true) (hn:2≤s.n) (hl:∀ y∈l,y.2.length=256):Like (commitX x l r) (commitF s l r).1:=by
 obtain ⟨k,e⟩:=commit_calm h.calm ok hn
 refine ⟨?_,fun a ha hx=>?_,?_,rfl⟩
 ·rw [e]
  exact h.n
 ·rw [read_commit h.calm ok hn a ha,at_calm rfl hx]
  show lastB (flushL (flushL x.good l) [(r.gen % 2,rtB r)]) a=_
  rw [lastB_flush,lastB_flush]
  show Dev.upd (applyP (lastB x.good) l) (r.gen % 2) (rtB r) a=_
  unfold Dev.upd
  rw [if_neg (by omega)]
  refine applyP_at l _ _ ?_
  have:=h.at_ a ha hx
  rw [at_calm h.wait hx,readB_nil h.calm.pend] at this
  exact this
 ·rw [e]
  exact calm_upd h.calm hl _ _ (rtB_length _) k
end Spc
namespace Spc
open Go.RowKit RowLaw
open Dev (ptr pendCells putCells putCells_one putCells_length pendCells_append pendCells_get infoPut sizePut run_buildPut new_cells exec_build yieldsIf_load_row)
open Cnt (own_slice own_kept own_base own_ne)
variable {A:Nat→Prop}
def cpFact (e:TypeId) (size i0 i1 i2 i4:Nat) (vs:Value) (B n:Nat) (xs:List Value) (pc:Array Value) (i:Nat) (v:Value) (W:World):Prop:=
 if i=i0 then ∃ g,v=.slice (some ⟨g,0,none⟩) 0 0∧W.heap[g]? = some (.cells #[] e (0,0))∧B≤g
 else if i=i1 then W.ownsRow B e size v n xs
 else if i=i2 then ∃ g,v=.slice (some ⟨g,0,none⟩) 1 1∧W.heap[g]? = some (.cells pc e (0,0))
 else if i=i4 then v=vs
 else True
theorem cpFact_stays (e:TypeId) (size i0 i1 i2 i4:Nat) (vs:Value) (B n:Nat) (xs:List Value) (pc:Array Value):∀ i v W W',cpFact e size i0 i1 i2 i4 vs B n xs pc i v W→Below W.heap.size W W'→cpFact e size i0 i1 i2 i4 vs B n xs pc i v W':=fun i v W W' h hb=>by
 unfold cpFact at h ⊢
 split at h
 ·rename_i hi
  rw [if_pos hi]
  obtain ⟨g,h1,h2,h3⟩:=h
  exact ⟨g,h1,(hb.block g (Array.getElem?_eq_some_iff.1 h2).1).trans h2,h3⟩
 ·rename_i hi
  rw [if_neg hi]
  split at h
  ·rename_i hi1
   rw [if_pos hi1]
   exact own_kept h hb
  ·rename_i hi1
   rw [if_neg hi1]
   split at h
   ·rename_i hi2
    rw [if_pos hi2]
    obtain ⟨g,h1,h2⟩:=h
    exact ⟨g,h1,(hb.block g (Array.getElem?_eq_some_iff.1 h2).1).trans h2⟩
   ·rename_i hi2
    rw [if_neg hi2]
    exact h
theorem pend_one {xs:List (Nat×List UInt8)}:∀ u∈pendCells xs,u.oneCell'=true:=fun u hu=>by
 unfold pendCells at hu
 obtain ⟨x,_,hx⟩:=List.mem_flatMap.1 hu
 exact putCells_one x u hx
structure WrS (A:Nat→Prop) (w:World) (x:RS) (vg vw:Value) (q:Nat) (b:List UInt8) (W:World):Prop where
 bel:Below w.heap.size w W
 ge:w.heap.size≤q
 r0:W.heap[q]? = some (.cells (rdC x.n vg vw (x.wr+1)) 62 (0,0))
 r1:Holds W (q+1) b
 r2:W.heap[q+2]? = some (.cells (rdC 0 (.slice none 0 0) (.slice none 0 0) 0) 62 (0,0))
 pg:PutsV A W vg x.good.length x.good
 pw:PutsV A W vw x.wait.length x.wait
theorem WrS.below {w W W':World} {x:RS} {vg vw:Value} {q:Nat} {b:List UInt8} (h:WrS A w x vg vw q b W) (hb:Below W.heap.size W W'):WrS A w x vg vw q b W':=
 ⟨h.bel.trans (hb.mono h.bel.size),h.ge,(hb.block q (Array.getElem?_eq_some_iff.1 h.r0).1).trans h.r0,h.r1.below hb h.r1.lt,(hb.block _ (Array.getElem?_eq_some_iff.1 h.r2).1).trans h.r2,h.pg.kept hb,h.pw.kept hb⟩
theorem Write3_any {w:World} {v:Value} {x:RS} (h:RD A w v x) {a:Nat} {b:List UInt8} (hbl:b.length=256) (ha:a < x.n) (hwr:x.wr < 1000000000) (hww:x.wait.length+1 < 1000000) (hAA:∀ b,w.heap.size≤b→A b) :
  Calls Tryz.prog 218 #[v,.int .u32 (a:Int),.agg (cellsOf b)] w fun e w'=>∃ v',e=.returned (.tuple #[v',.int .i64 0])∧RD A w' v' ⟨x.n,x.good,x.wait ++ [(a,b)],x.wr+1⟩∧Below w.heap.size w w':=by
 have h0:=h
 obtain ⟨⟨vg,vw,rfl,hg,hw⟩,n32,g32,w32⟩:=h
 have hzv:=(zero_of_info infoRD).1
 have hid:=sizeRD x.n vg vw x.wr
 obtain ⟨W1,hW1⟩:∃ W,W=((w.alloc (.cells (rdC x.n vg vw x.wr) 62)).alloc (.cells (cellsOf b) 39)).alloc (.cells (rdC 0 (.slice none 0 0) (.slice none 0 0) 0) 62):=⟨_,rfl⟩
 have b2:Below w.heap.size w W1:=by
  rw [hW1]
  exact (((Below.refl _ _).alloc (Nat.le_refl _) _).alloc (by simp only [World.size_alloc]; omega) _).alloc (by simp only [World.size_alloc]; omega) _
 have q1:W1.heap[w.heap.size]? = some (.cells (rdC x.n vg vw x.wr) 62 (0,0)):=by
  rw [hW1]
  exact (Below.heap_alloc _ _ _ (by simp only [World.size_alloc]; omega)).trans ((Below.heap_alloc _ _ _ (by simp only [World.size_alloc]; omega)).trans (heap_alloc_new w _))
 have q2:Holds W1 (w.heap.size+1) b:=by
  rw [hW1]
  exact (Below.heap_alloc _ _ _ (by simp only [World.size_alloc]; omega)).trans (heap_alloc2_new w _ _)
 have q3:W1.heap[w.heap.size+2]? = some (.cells (rdC 0 (.slice none 0 0) (.slice none 0 0) 0) 62 (0,0)):=by
  rw [hW1]
  have:=heap_alloc_new ((w.alloc (.cells (rdC x.n vg vw x.wr) 62)).alloc (.cells (cellsOf b) 39)) (.cells (rdC 0 (.slice none 0 0) (.slice none 0 0) 0) 62)
  simpa only [World.size_alloc] using this
 have HD:=Lib.hid (h0.kept b2)
 have HNN:=Lib.hid (And.intro n32 (And.intro g32 w32))
 have ha':¬ (x.n:Int)≤(a:Int):=by omega
 have HA:=Lib.hid (And.intro ha (And.intro hbl hww))
 have hsb:=sizeBlock b hbl
 clear hg hw h0 n32 g32 w32 ha hbl
 go_enter Tryz.func218,Tryz.ntmps218
 go_upto_region 1 with fail
 change Code.wp _ _ _ _ (((w.alloc (.cells (rdC x.n vg vw x.wr) 62)).alloc (.cells (cellsOf b) 39)).alloc (.cells (rdC 0 (.slice none 0 0) (.slice none 0 0) 0) 62))
 rw [←hW1]
 clear hW1
 obtain ⟨q,hq⟩:∃ q,q=w.heap.size:=⟨_,rfl⟩
 rw [←hq] at q1 q2 q3 ⊢
 have HQ:=Lib.hid hq
 clear hq
 have c0:W1.cell? ⟨q,0,none⟩=some (.int .u32 (x.n:Int)):=(cell_of_row W1 q 0 _ _ _ q1).trans rfl
 have c5:W1.cell? ⟨q,5,none⟩=some (.bool false):=(cell_of_row W1 q 5 _ _ _ q1).trans rfl
 have HB:=Lib.hid (burn_any HD.out hwr)
 go_wp2_with (refine wpList_load_row rfl 62 _ rfl q rfl _ _ _ _ q1 Tryz.underlying62 rfl hid ?_)
 refine HB.out.mono ?_
 clear HB HD c0 c5
 rintro e W2 ⟨v',rfl,hD,hx⟩
 obtain ⟨⟨vg',vw',rfl,hg,hw⟩,_,_,_⟩:=hD
 have p1:=(hx.block q (Array.getElem?_eq_some_iff.1 q1).1).trans q1
 have p2:=q2.below hx q2.lt
 have p3:=(hx.block (q+2) (Array.getElem?_eq_some_iff.1 q3).1).trans q3
 have b3:=b2.trans (hx.mono b2.size)
 have hid':=sizeRD x.n vg' vw' (x.wr+1)
 have h1c:=rdC_one x.n (x.wr+1) hg.slice hw.slice
 have hoth:∀ k,k≠q→(W2.setRow q (rdC x.n vg' vw' (x.wr+1))).heap[k]? = W2.heap[k]?:=fun k hk=>setRow_other _ _ _ _ hk
 have hwrs:WrS A w x vg' vw' q b (W2.setRow q (rdC x.n vg' vw' (x.wr+1))):=⟨Dev.below_row b3 (by have:=HQ.out; omega),by have:=HQ.out; omega,setRow_heap _ _ _ _ _ _ p1,(hoth _ (by omega)).trans p2,(hoth _ (by omega)).trans p3,hg.other p1 hoth,hw.other p1 hoth⟩
 go_upto_region 6 with (refine wpList_store_row rfl 62 _ _ rfl q _ rfl rfl _ _ p1 hid' rfl h1c ?_)
 generalize W2.setRow q (rdC x.n vg' vw' (x.wr+1))=W3 at hwrs ⊢
 clear hg hw p1 p2 p3 b3 hid' h1c hoth hx q1 q2 q3 b2 hid
 have HW:=Lib.hid hwrs
 have HI:=Lib.hid (fun W (hb:Below W3.heap.size W3 W)=>hwrs.below hb)
 clear hwrs
 obtain ⟨ik,hik0,hik1,hik2,hik3⟩:=info_parts infoPut
 have hz0:(putCells (0,zeros)).length=257:=putCells_length zeros_length
 obtain ⟨pc,hpc⟩:∃ z,z=putCells (a,b):=⟨_,rfl⟩
 have HPC:=Lib.hid hpc
 have hpl:pc.length=257:=by rw [hpc]; exact putCells_length HA.out.2.1
 have HBU:∀ W,(Instr.buildSlice 44 1 #[(0,.agg pc.toArray)]).run Tryz.prog W=.ok (.slice (some ⟨W.heap.size,0,none⟩) 1 1) (W.alloc (.cells pc.toArray 55)):=fun W=>by rw [hpc]; exact run_buildPut W (a,b) HA.out.2.1
 have HBU:=Lib.hid HBU
 clear hpc
 have HS0:=Lib.hid (fun W (hb:Below W3.heap.size W3 W)=>(show Below w.heap.size w W∧Holds W (q+1) b from ⟨(HI.out W hb).bel,(HI.out W hb).r1⟩))
 refine wp_region_noPanic ?_
 refine wp_region_held_drew (S:=fun W=>Below w.heap.size w W∧Holds W (q+1) b) (by kernel_rfl) (HS0.out _ (Below.refl _ _).drew) ?_
 intro hS
 have hB0:Below W3.heap.size W3 W3.drew:=(Below.refl _ _).drew
 generalize W3.drew=W0 at hS hB0 ⊢
 refine RowLaw.tkV 1 19 (.pointer (some ⟨q,2,none⟩)) hS ?_
 simp only [RowLaw.lset]
 refine RowLaw.tkV 4 22 (.int .u32 (a:Int)) hS ?_
 simp only [RowLaw.lset]
 refine RowLaw.tkV 5 23 (.agg (cellsOf b)) hS ?_ (hy:=(yieldsIf_load_row (by rfl) 39 _ rfl (q+1) rfl _ _ _ _ (fun W hW=>hW.2) Tryz.underlying39 rfl hsb))
 simp only [RowLaw.lset]
 refine RowLaw.tkV 6 24 (.agg pc.toArray) hS ?_ (hy:=(Or.inl ⟨by rfl,fun W _=>by rw [HPC.out]; exact exec_build 22 23 rfl a b HA.out.2.1 rfl rfl W⟩))
 simp only [RowLaw.lset]
 refine wpAnyH_grow W3 [(3,21),(2,20),(7,25),(0,18)] [(3,0),(3,2)] (cpFact 55 257 0 3 7 2 vw' W3.heap.size x.wait.length (pendCells x.wait) pc.toArray) 3 32 rfl (by kernel_rfl) rfl (by decide) (cpFact_stays _ _ _ _ _ _ _ _ _ _ _) HS0.out hB0 ?_ ?_
 ·intro i d hid a' W K hbel hold hdep hK
  simp only [List.mem_cons,Prod.mk.injEq,List.not_mem_nil,or_false] at hid
  rcases hid with ⟨rfl,rfl⟩ | ⟨rfl,rfl⟩ | ⟨rfl,rfl⟩ | ⟨rfl,rfl⟩
  ·obtain ⟨g,hv,hg,hge⟩:∃ g,a'.eval (.tmp 18)=.slice (some ⟨g,0,none⟩) 0 0∧W.heap[g]? = some (.cells #[] 55 (0,0))∧W3.heap.size≤g:=by
    have:=hdep 0 18 (by simp) (by simp)
    unfold cpFact at this
    rwa [if_pos rfl] at this
   have hv2:a'.eval (.tmp 20)=vw':=by
    have:=hdep 2 20 (by simp) (by simp)
    unfold cpFact at this
    rwa [if_neg (by decide),if_neg (by decide),if_neg (by decide),if_pos rfl] at this
   have hpw:=(HI.out W hbel).pw
   refine wpOp_row _ rfl rfl (wp_append_copy _ _ 44 rfl Tryz.underlying44 hik0 hik1 hik2 hik3 hz0 hg hv hv2 hpw.row pend_one (Nat.le_trans (show x.wait.length≤1000000 by have:=HA.out.2.2; omega) (by decide)) (by have:=HA.out.2.2; omega) (fun v' W' h1 h2=>hK v' W' h2 ?_))
   unfold cpFact
   rw [if_neg (by decide),if_pos rfl]
   exact own_base h1 hge
  ·have hr0:=(HI.out W hbel).r0
   have c:W.cell? ⟨q,2,none⟩=some vw':=(cell_of_row W q 2 _ _ _ hr0).trans rfl
   have h19:a'.eval (.tmp 19)=.pointer (some ⟨q,2,none⟩):=(hold 19 (by decide)).trans rfl
   have h19':a'.tmps[19]?.getD undef=.pointer (some ⟨q,2,none⟩):=by simpa [Act.eval] using h19
   refine wpOp_row _ rfl rfl (wp_yieldsR _ vw' ?_ (hK _ _ (Below.refl _ _) ?_))
   ·clear h19
    simp only [execOp]
    go_simp
   ·unfold cpFact
    rw [if_neg (by decide),if_neg (by decide),if_neg (by decide),if_pos rfl]
  ·refine wpOp_row _ rfl rfl (wp_slice_row _ 44 1 #[(0,.tmp 24)] rfl #[(0,.agg pc.toArray)] (by simp [hold 24 (by decide)]; rfl) _ (HBU.out W) (hK _ _ ((Below.refl _ _).alloc (Nat.le_refl _) _) ?_))
   unfold cpFact
   rw [if_neg (by decide),if_neg (by decide),if_pos rfl]
   exact ⟨_,rfl,heap_alloc_new W _⟩
  ·refine wpOp_row _ rfl rfl (wp_slice_row _ 44 0 #[] rfl #[] (by simp) _ (run_build_none W Tryz.underlying44 hik0) (hK _ _ ((Below.refl _ _).alloc (Nat.le_refl _) _) ?_))
   unfold cpFact
   rw [if_pos rfl]
   exact ⟨_,rfl,heap_alloc_new W _,hbel.size⟩
 ·intro f W hall hbel hfact
  obtain ⟨v0,h0⟩:=hall 0 18 (by simp)
  obtain ⟨v2,h2⟩:=hall 2 20 (by simp)
  obtain ⟨v3,h3⟩:=hall 3 21 (by simp)
  obtain ⟨v7,h7⟩:=hall 7 25 (by simp)
  have o3:W.ownsRow W3.heap.size 55 257 v3 x.wait.length (pendCells x.wait):=by
   have:=hfact 3 v3 h3
   unfold cpFact at this
   rwa [if_neg (by decide),if_pos rfl] at this
  obtain ⟨g7,rfl,o7⟩:∃ g,v7=.slice (some ⟨g,0,none⟩) 1 1∧W.heap[g]? = some (.cells pc.toArray 55 (0,0)):=by
   have:=hfact 7 v7 h7
   unfold cpFact at this
   rwa [if_neg (by decide),if_neg (by decide),if_pos rfl] at this
  simp only [putsF,setB,isF,h0,h2,h3,h7,Option.isSome_some,if_true]
  simp only [Act.put,List.setIfInBounds_toArray,RowLaw.lset]
  clear hall hfact h0 h2 h3 h7 hS
  have hnews:∀ (j:Nat) (u:Value),pc[j]? = some u→W.cell? ((⟨g7,0,none⟩:Addr).add j)=some u:=fun j u hu=>by
   have:(⟨g7,0,none⟩:Addr).add j=⟨g7,j,none⟩:=by unfold Addr.add; split <;> simp_all
   rw [this,cell_of_row W g7 j _ _ _ o7]
   simpa using hu
  have hone:∀ u∈pc,u.oneCell'=true:=by rw [HPC.out]; exact putCells_one (a,b)
  refine wpAnyH_ready (rs:=[8]) (by kernel_rfl) (by simp) ?_
  refine AllReadyH.cons rfl (fun K hK=>?_) AllReadyH.nil
  rw [if_pos (by rfl)]
  refine wp_append_own _ _ _ 44 rfl W3.heap.size 55 ik (.agg (putCells (0,zeros)).toArray) 257 260 Tryz.underlying44 hik0 hik1 hik2 hik3 hz0 (by decide) v3 x.wait.length (pendCells x.wait) rfl o3 ⟨g7,0,none⟩ 1 1 pc rfl (by rw [hpl]) hnews hone (Nat.le_trans (show x.wait.length+1≤1000000 by have:=HA.out.2.2; omega) (by decide)) (by have:=HA.out.2.2; omega) hbel.size ?_
  intro v8 W8 hown hgr _
  have hb8:Below W3.heap.size W3 W8:=hbel.grown hgr hbel.size (fun y e=>(o3.lt y e).1)
  refine hK _ _ (HS0.out _ hb8) (fun hS=>?_)
  clear hK K hnews hone o7
  have HO:=Lib.hid hown
  have HF:=Lib.hid (HI.out _ hb8)
  clear hown hgr o3 hb8
  have hr0:=HF.out.r0
  have c2:W8.cell? ⟨q,2,none⟩=some vw':=(cell_of_row W8 q 2 _ _ _ hr0).trans rfl
  have f2:=frozen_of_row W8 q 2 _ _ hr0
  have h8:v8.oneCell'=true:=by obtain ⟨pk,ck,rfl,_⟩:=own_slice HO.out; rfl
  obtain ⟨pk,ck,rfl,_⟩:=own_slice HO.out
  have HR:=Lib.hid hr0
  clear hr0
  simp only [Act.put,List.setIfInBounds_toArray,RowLaw.lset]
  refine RowLaw.tkV 9 27 (.pointer (some ⟨q,2,none⟩)) hS ?_
  simp only [RowLaw.lset]
  refine wpAnyH_ready (rs:=[10]) (by kernel_rfl) (by simp) ?_
  refine AllReadyH.cons rfl (fun K hK=>?_) AllReadyH.nil
  rw [if_pos (by rfl)]
  go_simp
  have hoth:∀ k,k≠q→(W8.setCell ⟨q,2,none⟩ (.slice pk (x.wait.length+1) ck)).heap[k]? = W8.heap[k]?:=fun k hk=>heap_setCell_other W8 ⟨q,2,none⟩ k _ hk
  have p1:(W8.setCell ⟨q,2,none⟩ (.slice pk (x.wait.length+1) ck)).heap[q]? = some (.cells (rdC x.n vg' (.slice pk (x.wait.length+1) ck) (x.wr+1)) 62 (0,0)):=heap_setCell_same W8 q 2 _ _ _ HR.out
  have p2:=(hoth (q+2) (by omega)).trans HF.out.r2
  have b5:Below w.heap.size w (W8.setCell ⟨q,2,none⟩ (.slice pk (x.wait.length+1) ck)):=HF.out.bel.trans ⟨rfl,rfl,rfl,by simp,fun k hk=>hoth k (by have:=HF.out.ge; omega)⟩
  have pg5:=HF.out.pg.other HR.out hoth
  have pw5:PutsV A (W8.setCell ⟨q,2,none⟩ (.slice pk (x.wait.length+1) ck)) (.slice pk (x.wait.length+1) ck) (x.wait ++ [(a,b)]).length (x.wait ++ [(a,b)]):=by
   refine PutsV.other (q:=q) (W:=W8) ⟨rfl,?_,fun y hy=>?_,fun b e=>hAA b (Nat.le_trans HW.out.bel.size (HO.out.lt b e).1)⟩ HR.out hoth
   ·rw [List.length_append,pendCells_append,show pendCells [(a,b)]=pc from by rw [HPC.out]; simp [pendCells]]
    exact own_base HO.out (Nat.zero_le _)
   ·rcases List.mem_append.1 hy with hy | hy
    ·exact HF.out.pw.ok y hy
    ·simp only [List.mem_singleton] at hy
     subst hy
     exact ⟨HA.out.2.1,by have:=HA.out.1; have:=HNN.out.1; omega⟩
  refine hK _ _ ⟨b5,(hoth _ (by omega)).trans HF.out.r1⟩ (fun _=>?_)
  clear hK K c2 f2 hS
  have hid2:=sizeRD x.n vg' (.slice pk (x.wait.length+1) ck) (x.wr+1)
  have h1c:=rdC_one x.n (vg:=vg') (vw:=.slice pk (x.wait.length+1) ck) (x.wr+1) pg5.slice rfl
  generalize W8.setCell ⟨q,2,none⟩ (.slice pk (x.wait.length+1) ck)=W9 at hoth p1 p2 b5 pg5 pw5 ⊢
  have HP:=Lib.hid (And.intro b5 (And.intro pg5 pw5))
  have c5:W9.cell? ⟨q,5,none⟩=some (.bool false):=(cell_of_row W9 q 5 _ _ _ p1).trans rfl
  clear hoth b5 pg5 pw5 HO HR
  refine wpAnyH_done (by kernel_rfl) ?_ _
  refine NoPanic.normal ?_
  go_wp2_with (first | (refine wpList_load_row rfl 62 _ rfl q rfl _ _ _ _ p1 Tryz.underlying62 rfl hid2 ?_) | (refine wpList_store_row rfl 62 _ _ rfl (q+2) _ rfl rfl _ _ p2 hid2 rfl h1c ?_))
  obtain ⟨b5,pg5,pw5⟩:=HP.out
  have hrow:=fun k (hk:k≠q+2)=>setRow_other W9 (q+2) k (rdC x.n vg' (.slice pk (x.wait.length+1) ck) (x.wr+1)) hk
  refine bodyPost_ret (results_row_tmp rfl _ _ _ _ _ _ _ rfl (setRow_heap _ _ _ _ _ _ p2) Tryz.underlying62 rfl hid2) rfl ⟨_,rfl,?_,Dev.below_row b5 (by have:=HF.out.ge; omega)⟩
  exact ⟨⟨vg',.slice pk (x.wait.length+1) ck,by simp [rdC],pg5.other p2 hrow,pw5.other p2 hrow⟩,HNN.out.1,HNN.out.2.1,by rw [List.length_append]; have:=HA.out.2.2; show x.wait.length+1 < 1000000; omega⟩
end Spc

end Go.Proofs.YtgkbfahflngklaaGreat
