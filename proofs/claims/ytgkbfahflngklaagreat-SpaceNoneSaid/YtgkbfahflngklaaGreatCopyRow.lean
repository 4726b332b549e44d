import Derived.Test.YtgkbfahflngklaaGreatKit1
import Derived.Deep.AppendSrc
import Derived.Laws.OwnMore
namespace Go.Proofs.YtgkbfahflngklaaGreat.RowLaw
open Go.RowKit
theorem run_build_none {P:Program} (w:World) {t e:TypeId} {i:TypeInfo} (ht:P.underlying t=some (.slice e)) (hi:P.info? e=some i) :
  (Instr.buildSlice t 0 #[]).run P w=.ok (.slice (some ⟨w.heap.size,0,none⟩) 0 0) (w.alloc (.cells #[] e)):=by
 have hz:(Array.range 0).map (fun _:Nat=>(default:Value))=#[]:=Array.eq_empty_of_size_eq_zero (by simp)
 simp [Instr.buildSlice,run_underlying ht,sizeOf,typeInfo,hi,Instr.fill,newRow]
 rw [hz]
theorem run_append_copy {P:Program} {W:World} {t ty e:TypeId} {i:TypeInfo} {z:Value} {size bytes:Nat} (ht:P.underlying t=some (.slice e)) (hi:P.info? e=some i) (hz:i.zero=some z)
  (hsize:i.size=size) (hby:i.bytes=bytes) (hzs:z.cells.size=size) {g:Nat} (hg:W.heap[g]? = some (.cells #[] e (0,0))) {b0:Nat} {v:Value} {n:Nat} {xs:List Value} (hown:W.ownsRow b0 e size v n xs) (h1:∀ u∈xs,u.oneCell'=true)
  (h63:n≤maxLen) (hb:n * bytes≤140737488355328) :
  ∃ v' W',(Builtin.append_ #[t,t] ty #[.slice (some ⟨g,0,none⟩) 0 0,v]).run P W=.ok v' W'∧W'.ownsRow g e size v' n xs∧Below W.heap.size W W':=by
 subst hsize
 subst hby
 have hlt:g < W.heap.size:=(Array.getElem?_eq_some_iff.1 hg).1
 have hsmall:n≤9223372036854775807:=by simp only [maxLen] at h63; omega
 have hsrc:Src P i.size t v n xs W:=by
  rcases hown.2 with ⟨rfl,rfl⟩ | ⟨g',cap,cur,rfl,_⟩
  ·have:xs=[]:=List.eq_nil_of_length_eq_zero (by simpa using hown.1)
   subst this
   exact Src.ofNil W ht 0
  ·exact Src.ofSlice W ht ⟨g',0,none⟩ n cap xs hown.1 (hown.cells (g:=g') rfl) h1
 by_cases hn:n=0
 ·subst hn
  have hx:xs=[]:=List.eq_nil_of_length_eq_zero (by simpa using hown.1)
  subst hx
  have hr:=run_append_room_src (P:=P) W t t ty e i ht hi g 0 0 0 v 0 [] hsrc (Nat.le_refl _) (fun j hj=>by simp at hj) (fun j hj=>by simp at hj)
  refine ⟨_,_,hr,⟨hown.1,.inr ⟨g,0,#[],rfl,Nat.le_refl _,hg,Nat.le_refl _,by simp [maxLen],by simp,by simp⟩⟩,Below.refl _ _⟩
 ·have hold:(Builtin.firstCells i.size 0 (.slice (some ⟨g,0,none⟩) 0 0)).run P W.drew=.ok ([]:List Value).toArray W.drew:=run_firstCells_some (P:=P) W.drew i.size 0 ⟨g,0,none⟩ 0 0 [] (by simp) (fun j u hu=>by simp at hu)
  have hr:=run_append_grow_src (P:=P) W t t ty e i z ht hi hz (some ⟨g,0,none⟩) 0 0 [] hold v n xs hsrc (by omega) (by omega) (growslice_fits (by omega) (by simpa using hb))
  have hge:=grownCap_ge W (0+n) 0 e
  have hcm:grownCap W (0+n) 0 e≤maxLen:=grownCap_le_maxLen W (0+n) 0 e (by omega)
  refine ⟨_,_,hr,⟨hown.1,.inr ⟨W.heap.size,_,_,by rw [Nat.zero_add],Nat.le_of_lt hlt,heap_alloc_new W.drew _,by omega,hcm,?_,?_⟩⟩,?_⟩
  ·simp only [List.nil_append,Array.size_append,List.size_toArray,size_zeroCells,hzs,hown.1]
   rw [←Nat.add_mul]
   congr 1
   omega
  ·simp only [List.nil_append,Array.toList_append]
   rw [←hown.1]
   exact List.take_left
  ·exact ⟨rfl,rfl,rfl,by simp,fun k hk=>Below.heap_alloc W.drew _ k hk⟩
theorem wp_append_copy {P:Program} {W:World} {o:Oper} {a:Act} {K:Act→World→Prop} {Q:Exit→Act→World→Prop} (s x:Operand) (t:TypeId)
  (ho:o.op=.call { callee:=.builtin .append,args:=#[s,x],argTypes:=#[t,t] }) {e:TypeId} {i:TypeInfo} {z:Value} {size bytes:Nat} (ht:P.underlying t=some (.slice e)) (hi:P.info? e=some i) (hz:i.zero=some z)
  (hsize:i.size=size) (hby:i.bytes=bytes) (hzs:z.cells.size=size) {g:Nat} (hg:W.heap[g]? = some (.cells #[] e (0,0))) (hs:a.eval s=.slice (some ⟨g,0,none⟩) 0 0) {b0:Nat} {v:Value} {n:Nat} {xs:List Value} (hx:a.eval x=v) (hown:W.ownsRow b0 e size v n xs) (h1:∀ u∈xs,u.oneCell'=true)
  (h63:n≤maxLen) (hb:n * bytes≤140737488355328) (h:∀ v' W',W'.ownsRow g e size v' n xs→Below W.heap.size W W'→K (a.put o.dst v') W'):o.wp P a W K Q:=by
 obtain ⟨v',W',hr,h2,h3⟩:=run_append_copy (P:=P) (ty:=o.type) ht hi hz hsize hby hzs hg hown h1 h63 hb
 unfold Oper.wp execOp
 simp only [ho,resolve,invoke,builtin,Sem.run_bind,Sem.run_pure,Result.andThen_ok,List.map_toArray,List.map_cons,List.map_nil,hs,hx,hr]
 exact h v' W' h2 h3
theorem wpList_append_copy {P:Program} {W:World} {ops:Array Oper} {rest:List Oper} {o:Oper} {a:Act} {Q:Exit→Act→World→Prop} (hgd:o.guard=none) (s x:Operand) (t:TypeId)
  (ho:o.op=.call { callee:=.builtin .append,args:=#[s,x],argTypes:=#[t,t] }) {e:TypeId} {i:TypeInfo} {z:Value} {size bytes:Nat} (ht:P.underlying t=some (.slice e)) (hi:P.info? e=some i) (hz:i.zero=some z)
  (hsize:i.size=size) (hby:i.bytes=bytes) (hzs:z.cells.size=size) {g:Nat} (hg:W.heap[g]? = some (.cells #[] e (0,0))) (hs:a.eval s=.slice (some ⟨g,0,none⟩) 0 0) {b0:Nat} {v:Value} {n:Nat} {xs:List Value} (hx:a.eval x=v) (hown:W.ownsRow b0 e size v n xs) (h1:∀ u∈xs,u.oneCell'=true)
  (h63: n≤maxLen) (hb: n * bytes≤140737488355328) (h: ∀ v' W',W'.ownsRow g e size v' n xs→Below W.heap.size W W'→wpList P ops Q rest (a.put o.dst v') W'): wpList P ops Q (o :: rest) a W:=
 wpList_plain hgd fun _ hK=>wp_append_copy s x t ho ht hi hz hsize hby hzs hg hs hx hown h1 h63 hb fun v' W' h1 h2=>hK _ _ (h v' W' h1 h2)
theorem wp_append_none {P:Program} {w:World} {o:Oper} {a:Act} {K:Act→World→Prop} {Q:Exit→Act→World→Prop} (s x:Operand) (t:TypeId)
  (ho:o.op=.call { callee:=.builtin .append,args:=#[s,x],argTypes:=#[t,t] }) (base:Nat) (e:TypeId) (i:TypeInfo) (size:Nat) (ht:P.underlying t=some (.slice e)) (hi:P.info? e=some i)
  (v:Value) (n:Nat) (xs:List Value) (hs:a.eval s=v) (hown:w.ownsRow base e size v n xs) (hx:a.eval x=.slice none 0 0) (h:K (a.put o.dst v) w):o.wp P a w K Q:=by
 have hr:=run_append_owned_none (P:=P) (w:=w) base t o.type e i size ht hi v n xs hown
 unfold Oper.wp execOp
 simp only [ho,resolve,invoke,builtin,Sem.run_bind,Sem.run_pure,Result.andThen_ok,List.map_toArray,List.map_cons,List.map_nil,hs,hx,hr]
 exact h
theorem ownsRow_pre {w:World} {base:Nat} {e:TypeId} {g n c:Nat} {xs:List Value} (h:w.ownsRow base e 1 (.slice (some ⟨g,0,none⟩) n c) n xs) {m:Nat} (hm:m≤n):w.ownsRow base e 1 (.slice (some ⟨g,0,none⟩) m c) m (xs.take m):=by
 obtain ⟨hl,h2⟩:=h
 rcases h2 with ⟨h2,_⟩ | ⟨g',cap,cur,h2,h3,h4,h5,h6,h7,h8⟩
 ·cases h2
 ·cases h2
  refine ⟨by rw [List.length_take,hl]; omega,.inr ⟨g,c,cur,rfl,h3,h4,by omega,h6,h7,?_⟩⟩
  rw [←h8,List.take_take]
  congr 1
  omega
theorem ownsRow_cap {w:World} {base:Nat} {e:TypeId} {size:Nat} {g n c:Nat} {xs:List Value} (h:w.ownsRow base e size (.slice (some ⟨g,0,none⟩) n c) n xs):n≤c:=by
 rcases h.2 with ⟨h2,_⟩ | ⟨g',cap,cur,h2,h3,h4,h5,_⟩
 ·cases h2
 ·cases h2
  exact h5
theorem wp_yieldsR {P:Program} {Q:Exit→Act→World→Prop} {K:Act→World→Prop} {a:Act} {W:World} (o:Oper) (v:Value) (h:(execOp a.eval o).run P W=.ok (.value v) W) (hk:K (a.put o.dst v) W):o.wp P a W K Q:=by
 unfold Oper.wp
 rw [h]
 exact hk
end Go.Proofs.YtgkbfahflngklaaGreat.RowLaw
