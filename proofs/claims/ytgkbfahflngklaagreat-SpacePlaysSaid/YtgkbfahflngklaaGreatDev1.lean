import Derived.Maps.OwnSet
import Derived.Maps.AppendAt
import Derived.Test.YtgkbfahflngklaaGreatBlk
import Derived.Lib.Hide
import Derived.Test.YtgkbfahflngklaaGreatRows
import Derived.WalkKit
import Derived.WalkSpells
import Derived.WalkLawsBesides
import Derived.ScopeJumps
import Derived.WalkMore
import Derived.ChangeKeysEq
import Derived.StillTail
import Derived.StillTactics
set_option maxRecDepth 100000
set_option maxHeartbeats 1600000
namespace Go.Proofs.YtgkbfahflngklaaGreat
namespace Dev
open Go.RowKit Go.Maps Go.MapKept RowLaw
open Go.ChangeMaps (setBlock heap_setBlock_same heap_setBlock_other modify_eq_set)
def upd (g:Nat→List UInt8) (a:Nat) (l:List UInt8):Nat→List UInt8:=fun x=>if x=a then l else g x
def MapIs (w:World) (b:Nat) (g:Nat→List UInt8):Prop:=
 ∃ es clock,w.heap[b]? = some (.map es clock)∧Stamped es clock∧
  (∀ x∈es.toList,∃ a:Nat,a < 4294967296∧x.key=.int .u32 (a:Int)∧x.val=.agg (cellsOf (g a)))∧
  (∀ a:Nat,a < 4294967296→g a≠zeros→∃ x∈es.toList,x.key=.int .u32 (a:Int))
section
variable {P:Program} {w:World} {b:Nat} {g:Nat→List UInt8} {k e t:TypeId}
theorem wfU32 {a:Nat} (ha:a < 4294967296):(Lit.int .u32 (a:Int)).wf=true:=by
 simp [Lit.wf,IntKind.min,IntKind.max,IntKind.signed,IntKind.bits]; omega
theorem MapIs.lt (h:MapIs w b g):b < w.heap.size:=by
 obtain ⟨es,clock,hb,_⟩:=h
 exact (Array.getElem?_eq_some_iff.1 hb).1
theorem MapIs.made (w:World):MapIs (w.alloc (.map #[] 0)) w.heap.size (fun _=>zeros):=
 ⟨#[],0,(MapKept.heap_alloc w _).1,stamped_empty 0,by simp,fun _ _ h=>absurd rfl h⟩
theorem MapIs.kept {w':World} (h:MapIs w b g) (hb:w'.heap[b]? = w.heap[b]?):MapIs w' b g:=by
 obtain ⟨es,clock,h1,h2⟩:=h
 exact ⟨es,clock,hb.trans h1,h2⟩
theorem MapIs.look (hk:P.underlying k=some (.int .u32)) (ht:P.underlying t=some (.map k e)) (hz:(zeroValue e).run P w=.ok (.agg (cellsOf zeros)) w) (h:MapIs w b g) {a:Nat} (ha:a < 4294967296) :
  (Instr.lookup t (.map (some b)) (.int .u32 (a:Int)) false).run P w=.ok (.agg (cellsOf (g a))) w:=by
 obtain ⟨es,clock,hb,hs,hr,hc⟩:=h
 have K:=int_keyed hk
 have hkey:keyOf P k (.int .u32 (a:Int))=some (.int .u32 a):=keyOf_int_mk hk (wfU32 ha)
 have hks:∀ x∈es.toList,∃ l,keyOf P k x.key=some l:=fun x hx=>by
  obtain ⟨a',ha',he,_⟩:=hr x hx
  exact ⟨_,by rw [he]; exact keyOf_int_mk hk (wfU32 ha')⟩
 rcases K.find w hkey es.toList hks with ⟨h1,h2⟩ | ⟨j,e0,h1,h2,h3⟩
 ·have hg:g a=zeros:=by
   apply Decidable.byContradiction
   intro hne
   obtain ⟨x,hx,he⟩:=hc a ha hne
   exact h2 x hx he
  rw [hg]
  simp [Instr.lookup,run_underlying ht,MapKept.run_getObj_map hb,K.check w _ hkey,h1,hz,Result.andThen]
 ·obtain ⟨a',ha',he,hv⟩:=hr e0 (List.mem_of_getElem? h2)
  have haa:a'=a:=by rw [he] at h3; injection h3 with _ h3; omega
  subst haa
  simp [Instr.lookup,run_underlying ht,MapKept.run_getObj_map hb,K.check w _ hkey,h1,hv,Result.andThen]
theorem apart_of {es:Array MapEntry} {clock:Nat} (hs:Stamped es clock) {i j:Nat} {x y:MapEntry} (hi:es.toList[i]? = some x) (hj:es.toList[j]? = some y) (hne:i≠j):x.key≠y.key:=by
 have hp:=((stamped_iff es clock).1 hs).2.2
 obtain ⟨hi',rfl⟩:=List.getElem?_eq_some_iff.1 hi
 obtain ⟨hj',rfl⟩:=List.getElem?_eq_some_iff.1 hj
 rcases Nat.lt_or_gt_of_ne hne with h | h
 ·exact List.pairwise_iff_getElem.1 hp i j hi' hj' h
 ·exact fun he=>List.pairwise_iff_getElem.1 hp j i hj' hi' h he.symm
theorem grown_setBlock {es:Array MapEntry} {clock:Nat} (hb:w.heap[b]? = some (.map es clock)) (o:Obj):w.grownBy (setBlock w b o) (some b):=
 ⟨rfl,rfl,rfl,by simp [setBlock],fun i _ hi=>heap_setBlock_other hb _ (fun e=>hi (by rw [e]))⟩
theorem MapIs.store (hk:P.underlying k=some (.int .u32)) (ht:P.underlying t=some (.map k e)) (h:MapIs w b g) {a:Nat} (ha:a < 4294967296) (l:List UInt8) :
  ∃ w',(Instr.mapUpdate t (.map (some b)) (.int .u32 (a:Int)) (.agg (cellsOf l))).run P w=.ok () w'∧MapIs w' b (upd g a l)∧w.grownBy w' (some b):=by
 obtain ⟨es,clock,hb,hs,hr,hc⟩:=h
 have K:=int_keyed hk
 have hkey:keyOf P k (.int .u32 (a:Int))=some (.int .u32 a):=keyOf_int_mk hk (wfU32 ha)
 have hks:∀ x∈es.toList,∃ l,keyOf P k x.key=some l:=fun x hx=>by
  obtain ⟨a',ha',he,_⟩:=hr x hx
  exact ⟨_,by rw [he]; exact keyOf_int_mk hk (wfU32 ha')⟩
 have old:∀ x∈es.toList,x.key≠.int .u32 (a:Int)→∃ a':Nat,a' < 4294967296∧x.key=.int .u32 (a':Int)∧x.val=.agg (cellsOf (upd g a l a')):=fun x hx hne=>by
  obtain ⟨a',ha',he,hv⟩:=hr x hx
  refine ⟨a',ha',he,?_⟩
  rw [hv,show upd g a l a'=g a' from if_neg (fun h=>hne (by rw [he,h]))]
 rcases K.find w hkey es.toList hks with ⟨h1,h2⟩ | ⟨j,e0,h1,h2,h3⟩
 ·refine ⟨setBlock w b (.map (es.push ⟨.int .u32 (a:Int),.agg (cellsOf l),clock⟩) (clock+1)),?_,⟨_,_,heap_setBlock_same hb _,stamped_push hs h2,?_,?_⟩,grown_setBlock hb _⟩
  ·simp [Instr.mapUpdate,run_underlying ht,MapKept.run_getObj_map hb,K.check w false hkey,h1,MapKept.run_setObj_map _ hb,Result.andThen,setBlock]
  ·intro x hx
   simp only [Array.toList_push,List.mem_append,List.mem_singleton] at hx
   rcases hx with hx | rfl
   ·exact old x hx (h2 x hx)
   ·exact ⟨a,ha,rfl,by rw [show upd g a l a=l from if_pos rfl]⟩
  ·intro a' ha' hne
   simp only [Array.toList_push,List.mem_append,List.mem_singleton]
   by_cases haa:a'=a
   ·subst haa
    exact ⟨_,.inr rfl,rfl⟩
   ·rw [show upd g a l a'=g a' from if_neg haa] at hne
    obtain ⟨x,hx,he⟩:=hc a' ha' hne
    exact ⟨x,.inl hx,he⟩
 ·have hj:es[j]? = some e0:=by simpa using h2
  have hkeyf:∀ e',es[j]? = some e'→({ e' with key:=.int .u32 (a:Int),val:=.agg (cellsOf l) }:MapEntry).key=e'.key:=fun e' he'=>by rw [hj] at he'; cases he'; exact h3.symm
  have hlist:(es.modify j (fun e'=>{ e' with key:=.int .u32 (a:Int),val:=.agg (cellsOf l) })).toList=es.toList.set j { e0 with key:=.int .u32 (a:Int),val:=.agg (cellsOf l) }:=by rw [Array.toList_modify,modify_eq_set _ _ _ _ h2]
  refine ⟨setBlock w b (.map (es.modify j (fun e'=>{ e' with key:=.int .u32 (a:Int),val:=.agg (cellsOf l) })) clock),?_,⟨_,_,heap_setBlock_same hb _,stamped_modify hs _ _ (fun _ _=>rfl) (fun e' _ he'=>hkeyf e' he'),?_,?_⟩,grown_setBlock hb _⟩
  ·simp [Instr.mapUpdate,run_underlying ht,MapKept.run_getObj_map hb,K.check w false hkey,h1,hj,h3,K.stays w hkey,MapKept.run_setObj_map _ hb,Result.andThen,setBlock]
  ·intro x hx
   rw [hlist] at hx
   obtain ⟨i,hi,ex⟩:=List.getElem_of_mem hx
   have hi':i < es.toList.length:=by simpa using hi
   rw [List.getElem_set] at ex
   split at ex
   ·subst ex
    exact ⟨a,ha,rfl,by rw [show upd g a l a=l from if_pos rfl]⟩
   ·rename_i hne
    subst ex
    exact old _ (List.getElem_mem hi') (fun he=>apart_of hs (List.getElem?_eq_getElem hi') h2 (fun e=>hne e.symm) (he.trans h3.symm))
  ·intro a' ha' hne
   rw [hlist]
   have hjl:j < es.toList.length:=(List.getElem?_eq_some_iff.1 h2).1
   by_cases haa:a'=a
   ·subst haa
    exact ⟨{ e0 with key:=.int .u32 (a':Int),val:=.agg (cellsOf l) },List.mem_iff_getElem.2 ⟨j,by simpa using hjl,by simp⟩,rfl⟩
   ·rw [show upd g a l a'=g a' from if_neg haa] at hne
    obtain ⟨x,hx,he⟩:=hc a' ha' hne
    obtain ⟨i,hi,ex⟩:=List.getElem_of_mem hx
    have hij:i≠j:=by
     intro h
     subst h
     rw [List.getElem?_eq_getElem hi,ex] at h2
     cases h2
     rw [he] at h3
     injection h3 with _ h3
     omega
    exact ⟨x,List.mem_iff_getElem.2 ⟨i,by simpa using hi,by rw [List.getElem_set_ne (fun e=>hij e.symm)]; exact ex⟩,he⟩
theorem MapIs.drop (hk:P.underlying k=some (.int .u32)) (ht:P.underlying t=some (.map k e)) (ty:TypeId) (h:MapIs w b g) {a:Nat} (ha:a < 4294967296) :
  ∃ w',(Builtin.delete_ #[t,k] ty #[.map (some b),.int .u32 (a:Int)]).run P w=.ok (.tuple #[]) w'∧MapIs w' b (upd g a zeros)∧w.grownBy w' (some b):=by
 obtain ⟨es,clock,hb,hs,hr,hc⟩:=h
 have K:=int_keyed hk
 have hkey:keyOf P k (.int .u32 (a:Int))=some (.int .u32 a):=keyOf_int_mk hk (wfU32 ha)
 have hks:∀ x∈es.toList,∃ l,keyOf P k x.key=some l:=fun x hx=>by
  obtain ⟨a',ha',he,_⟩:=hr x hx
  exact ⟨_,by rw [he]; exact keyOf_int_mk hk (wfU32 ha')⟩
 have old:∀ x∈es.toList,x.key≠.int .u32 (a:Int)→∃ a':Nat,a' < 4294967296∧x.key=.int .u32 (a':Int)∧x.val=.agg (cellsOf (upd g a zeros a')):=fun x hx hne=>by
  obtain ⟨a',ha',he,hv⟩:=hr x hx
  refine ⟨a',ha',he,?_⟩
  rw [hv,show upd g a zeros a'=g a' from if_neg (fun h=>hne (by rw [he,h]))]
 rcases K.find w hkey es.toList hks with ⟨h1,h2⟩ | ⟨j,e0,h1,h2,h3⟩
 ·refine ⟨setBlock w b (.map es clock),?_,⟨_,_,heap_setBlock_same hb _,hs,fun x hx=>old x hx (h2 x hx),?_⟩,grown_setBlock hb _⟩
  ·simp [Builtin.delete_,run_underlying ht,MapKept.run_getObj_map hb,K.check w _ hkey,h1,MapKept.run_setObj_map _ hb,Result.andThen,setBlock]
  ·intro a' ha' hne
   by_cases haa:a'=a
   ·exact absurd (if_pos haa) hne
   ·rw [show upd g a zeros a'=g a' from if_neg haa] at hne
    exact hc a' ha' hne
 ·have hjl:j < es.toList.length:=(List.getElem?_eq_some_iff.1 h2).1
  have hjs:j < es.size:=by simpa using hjl
  have hsub:(es.eraseIdxIfInBounds j).toList=es.toList.eraseIdx j:=by
   unfold Array.eraseIdxIfInBounds
   rw [dif_pos hjs]
   simp
  refine ⟨setBlock w b (.map (es.eraseIdxIfInBounds j) clock),?_,⟨_,_,heap_setBlock_same hb _,stamped_erase hs j,?_,?_⟩,grown_setBlock hb _⟩
  ·simp [Builtin.delete_,run_underlying ht,MapKept.run_getObj_map hb,K.check w _ hkey,h1,MapKept.run_setObj_map _ hb,Result.andThen,setBlock]
  ·intro x hx
   rw [hsub] at hx
   obtain ⟨i,hne,hi⟩:=List.mem_eraseIdx_iff_getElem?.1 hx
   exact old x (List.mem_of_getElem? hi) (by rw [←h3]; exact apart_of hs hi h2 hne)
  ·intro a' ha' hne
   by_cases haa:a'=a
   ·exact absurd (if_pos haa) hne
   ·rw [show upd g a zeros a'=g a' from if_neg haa] at hne
    obtain ⟨x,hx,he⟩:=hc a' ha' hne
    obtain ⟨i,hi⟩:=List.getElem?_of_mem hx
    have hij:i≠j:=by
     intro h
     subst h
     rw [hi] at h2
     cases h2
     rw [he] at h3
     injection h3 with _ h3
     omega
    exact ⟨x,by rw [hsub]; exact List.mem_eraseIdx_iff_getElem?.2 ⟨i,hij,hi⟩,he⟩
end
section
variable {P:Program} {w:World} {b:Nat} {g:Nat→List UInt8} {k e t:TypeId} {ops:Array Oper} {rest:List Oper} {o:Oper} {ac:Act} {Q:Exit→Act→World→Prop}
theorem wpList_look (hg:o.guard=none) (m x:Operand) (hop:o.op=Op.lookup t m x false) (hk:P.underlying k=some (.int .u32)) (ht:P.underlying t=some (.map k e)) (hz:(zeroValue e).run P w=.ok (.agg (cellsOf zeros)) w)
  (h: MapIs w b g) {a: Nat} (ha: a < 4294967296) (hm: ac.eval m=.map (some b)) (hx: ac.eval x=.int .u32 (a: Int)) (hK: wpList P ops Q rest (ac.put o.dst (.agg (cellsOf (g a)))) w): wpList P ops Q (o::rest) ac w:=by
 refine wpList_plain hg fun K' hK'=>?_
 have hrun:=h.look hk ht hz ha
 unfold Oper.wp
 simp [execOp,hop,hm,hx,hrun,Result.andThen]
 exact hK' _ _ hK
theorem wpList_put (hg:o.guard=none) (m x v:Operand) (hop:o.op=Op.mapUpdate t m x v) (hk:P.underlying k=some (.int .u32)) (ht:P.underlying t=some (.map k e))
  (h:MapIs w b g) {a:Nat} (ha:a < 4294967296) {l:List UInt8} (hm:ac.eval m=.map (some b)) (hx:ac.eval x=.int .u32 (a:Int)) (hv:ac.eval v=.agg (cellsOf l))
  (hK: ∀ w',MapIs w' b (upd g a l)→w.grownBy w' (some b)→wpList P ops Q rest (ac.put o.dst undef) w'): wpList P ops Q (o::rest) ac w:=by
 refine wpList_plain hg fun K' hK'=>?_
 obtain ⟨w',hrun,r1,r2⟩:=h.store hk ht ha l
 unfold Oper.wp
 simp [execOp,hop,hm,hx,hv,hrun,Result.andThen]
 exact hK' _ _ (hK w' r1 r2)
theorem wpList_drop (hg:o.guard=none) (m x:Operand) (hop:o.op=Op.call { callee:=Callee.builtin Builtin.delete,args:=#[m,x],argTypes:=#[t,k] }) (hk:P.underlying k=some (.int .u32)) (ht:P.underlying t=some (.map k e))
  (h:MapIs w b g) {a:Nat} (ha:a < 4294967296) (hm:ac.eval m=.map (some b)) (hx:ac.eval x=.int .u32 (a:Int))
  (hK: ∀ w',MapIs w' b (upd g a zeros)→w.grownBy w' (some b)→wpList P ops Q rest (ac.put o.dst (.tuple #[])) w'): wpList P ops Q (o::rest) ac w:=by
 refine wpList_plain hg fun K' hK'=>?_
 obtain ⟨w',hrun,r1,r2⟩:=h.drop hk ht o.type ha
 unfold Oper.wp
 simp [execOp,hop,resolve,invoke,builtin,hm,hx,hrun,Result.andThen]
 exact hK' _ _ (hK w' r1 r2)
end
end Dev
namespace Dev
open Go.RowKit Go.Maps Go.MapKept RowLaw
structure DS where
 n:Nat
 g:Nat→List UInt8
 pend:List (Nat×List UInt8)
 left:Int
 down:Bool
 writes:Nat
def devCells (s:DS) (bm:Nat) (pv:Value):Array Value:=
 #[.int .u32 (s.n:Int),.map (some bm),pv,.int .i64 s.left,.bool s.down,.int .u64 ((s.writes % 18446744073709551616:Nat):Int)]
def putCells (x: Nat×List UInt8): List Value:=.int .u32 (x.1: Int)::(cellsOf x.2).toList
def pendCells (l:List (Nat×List UInt8)):List Value:=l.flatMap putCells
theorem putCells_length {x:Nat×List UInt8} (h:x.2.length=256):(putCells x).length=257:=by
 simp [putCells,cellsOf,h]
theorem pendCells_append (l m:List (Nat×List UInt8)):pendCells (l ++ m)=pendCells l ++ pendCells m:=by simp [pendCells]
theorem pendCells_get:∀ {l:List (Nat×List UInt8)},(∀ x∈l,x.2.length=256)→∀ (i:Nat) (hi:i < l.length) (j:Nat),j < 257→(pendCells l)[i * 257+j]? = (putCells l[i])[j]?
 | x::r,h,0,_,j,hj=>by
  have hx:=putCells_length (h x (by simp))
  have e1: pendCells (x::r)=putCells x ++ pendCells r:=rfl
  rw [e1,Nat.zero_mul,Nat.zero_add,List.getElem?_append_left (by rw [hx]; exact hj)]
  rfl
 | x::r,h,i+1,hi,j,hj=>by
  have hx:=putCells_length (h x (by simp))
  have:=pendCells_get (l:=r) (fun y hy=>h y (by simp [hy])) i (by simpa using hi) j hj
  have e1: pendCells (x::r)=putCells x ++ pendCells r:=rfl
  have e2:(i+1) * 257+j=257+(i * 257+j):=by rw [Nat.succ_mul]; omega
  have e3: (x::r)[i+1]=r[i]'(by simpa using hi):=rfl
  rw [e1,e2,e3,List.getElem?_append_right (by rw [hx]; exact Nat.le_add_right _ _),hx,Nat.add_sub_cancel_left]
  exact this
structure DevAt (w:World) (p bm:Nat) (pv:Value) (B:List Nat) (s:DS):Prop where
 obj:w.heap[p]? = some (.cells (devCells s bm pv) 147 (0,0))
 map:MapIs w bm s.g
 row:w.ownsRow 0 55 257 pv s.pend.length (pendCells s.pend)
 inP:p∈B
 inM:bm∈B
 inR:∀ k,pv.ownBlock=some k→k∈B
 ltB:∀ k∈B,k < w.heap.size
 okP:∀ x∈s.pend,x.2.length=256
 okA:∀ x∈s.pend,x.1 < 4294967296
 okG:∀ a,(s.g a).length=256
 okN:0 < s.n∧s.n < 4294967296
 okL: -1≤s.left∧s.left < 9223372036854775808
def Dev (w:World) (p:Nat) (B:List Nat) (s:DS):Prop:=∃ bm pv,DevAt w p bm pv B s
structure Turn (B:List Nat) (w w':World):Prop where
 os:w'.os=w.os
 tape:w'.tape=w.tape
 output:w'.output=w.output
 size:w.heap.size≤w'.heap.size
 block:∀ k,k < w.heap.size→k∉B→w'.heap[k]? = w.heap[k]?
section
variable {B C D:List Nat} {w w':World}
theorem Turn.refl (B:List Nat) (w:World):Turn B w w:=⟨rfl,rfl,rfl,Nat.le_refl _,fun _ _ _=>rfl⟩
theorem Turn.trans {a b c:World} (h:Turn B a b) (k:Turn B b c):Turn B a c:=
 ⟨k.os.trans h.os,k.tape.trans h.tape,k.output.trans h.output,Nat.le_trans h.size k.size,fun i hi hp=>(k.block i (Nat.lt_of_lt_of_le hi h.size) hp).trans (h.block i hi hp)⟩
theorem Turn.of_grown {b:Nat} (h:w.grownBy w' (some b)) (hb:b∈B):Turn B w w':=⟨h.os,h.tape,h.output,h.size,fun k hk hn=>h.block k hk (fun e=>hn (by cases e; exact hb))⟩
theorem Turn.of_grown' {r:Option Nat} (h:w.grownBy w' r) (hb:∀ k,r=some k→k∈B):Turn B w w':=⟨h.os,h.tape,h.output,h.size,fun k hk hn=>h.block k hk (fun e=>hn (hb k e.symm))⟩
theorem Turn.of_below (h:Below w.heap.size w w'):Turn B w w':=⟨h.os,h.tape,h.output,h.size,fun k hk _=>h.block k hk⟩
theorem Turn.nil (h:Turn [] w w'):Below w.heap.size w w':=⟨h.os,h.tape,h.output,h.size,fun k hk=>h.block k hk (by simp)⟩
theorem Turn.below {b:Nat} (h:Turn B w w') (hB:∀ k∈B,b≤k) (hb:b≤w.heap.size):Below b w w':=
 ⟨h.os,h.tape,h.output,h.size,fun k hk=>h.block k (by omega) (fun hm=>by have:=hB k hm; omega)⟩
theorem Turn.mono (h:Turn B w w') (hB:∀ k∈B,k∈C):Turn C w w':=⟨h.os,h.tape,h.output,h.size,fun k hk hn=>h.block k hk (fun hm=>hn (hB k hm))⟩
theorem Turn.drew (h:Turn B w w'):Turn B w w'.drew:=⟨h.os,h.tape,h.output,h.size,h.block⟩
theorem Turn.alloc (h:Turn B w w') (o:Obj):Turn B w (w'.alloc o):=h.trans (Turn.of_below ((Below.refl _ _).alloc (Nat.le_refl _) o))
theorem Turn.setCell (h:Turn B w w') (q:Addr) (v:Value) (hq:q.block∈B∨w.heap.size≤q.block):Turn B w (w'.setCell q v):=
 ⟨h.os,h.tape,h.output,Nat.le_trans h.size (by simp [World.setCell]),fun k hk hn=>(heap_setCell_other w' q k v (fun e=>by
  rcases hq with hq | hq
  ·exact hn (e ▸ hq)
  ·omega)).trans (h.block k hk hn)⟩
theorem Turn.cell (h:Turn B w w') {q:Addr} (hq:q.block < w.heap.size) (hn:q.block∉B):w'.cell? q=w.cell? q:=World.cell?_of_block (w:=w) (h.block q.block hq hn)
structure Step (B:List Nat) (w w':World) (B':List Nat):Prop where
 turn:Turn B w w'
 sub:∀ k∈B',k∈B∨w.heap.size≤k
theorem Step.refl (B:List Nat) (w:World):Step B w w B:=⟨Turn.refl _ _,fun _ h=>.inl h⟩
theorem Step.of_turn (h:Turn B w w'):Step B w w' B:=⟨h,fun _ h=>.inl h⟩
theorem Step.trans {a b c:World} (h:Step B a b C) (k:Step C b c D):Step B a c D:=
  ⟨⟨k.turn.os.trans h.turn.os,k.turn.tape.trans h.turn.tape,k.turn.output.trans h.turn.output,Nat.le_trans h.turn.size k.turn.size,fun i hi hp=>(k.turn.block i (Nat.lt_of_lt_of_le hi h.turn.size) (fun hm=>by
      rcases h.sub i hm with h1 | h1
      · exact hp h1
      · omega)).trans (h.turn.block i hi hp)⟩,
   fun i hi=>by
    rcases k.sub i hi with h1 | h1
    · exact h.sub i h1
    · exact .inr (Nat.le_trans h.turn.size h1)⟩
theorem Step.above {b:Nat} (h:Step B w w' C) (hB:∀ k∈B,b≤k) (hb:b≤w.heap.size):∀ k∈C,b≤k:=fun k hk=>by
 rcases h.sub k hk with h1 | h1
 ·exact hB k h1
 ·omega
theorem Step.below {b:Nat} (h:Step B w w' C) (hB:∀ k∈B,b≤k) (hb:b≤w.heap.size):Below b w w':=h.turn.below hB hb
theorem Step.notIn (h:Step B w w' C) {k:Nat} (hk:k < w.heap.size) (hn:k∉B):k∉C:=fun hm=>by
 rcases h.sub k hm with h1 | h1
 ·exact hn h1
 ·omega
end
theorem MapIs.turn {w w':World} {b:Nat} {g:Nat→List UInt8} {B:List Nat} (h:MapIs w b g) (ht:Turn B w w') (hb:b∉B):MapIs w' b g:=h.kept (ht.block b h.lt hb)
theorem ownsRow_block {w w':World} {base:Nat} {e:TypeId} {size:Nat} {v:Value} {n:Nat} {xs:List Value} (h:w.ownsRow base e size v n xs) (hb:∀ k,v.ownBlock=some k→w'.heap[k]? = w.heap[k]?):w'.ownsRow base e size v n xs:=by
 obtain ⟨h1,h2⟩:=h
 refine ⟨h1,?_⟩
 rcases h2 with h2 | ⟨g,cap,cur,rfl,h3,h4,h5⟩
 ·exact .inl h2
 ·exact .inr ⟨g,cap,cur,rfl,h3,(hb g rfl).trans h4,h5⟩
section
variable {w w':World} {p bm:Nat} {pv:Value} {B C:List Nat} {s:DS}
theorem DevAt.turn (h:DevAt w p bm pv B s) (ht:Turn C w w') (hd:∀ k∈B,k∉C):DevAt w' p bm pv B s:=
 { h with
  obj:=(ht.block p (h.ltB p h.inP) (hd p h.inP)).trans h.obj
  map:=h.map.turn ht (hd bm h.inM)
  row:=ownsRow_block h.row (fun k hk=>ht.block k (h.ltB k (h.inR k hk)) (hd k (h.inR k hk)))
  ltB:=fun k hk=>Nat.lt_of_lt_of_le (h.ltB k hk) ht.size }
theorem DevAt.below (h:DevAt w p bm pv B s) (ht:Below w.heap.size w w'):DevAt w' p bm pv B s:=h.turn (C:=[]) (Turn.of_below ht) (by simp)
theorem DevAt.alloc (h:DevAt w p bm pv B s) (o:Obj):DevAt (w.alloc o) p bm pv B s:=h.below ((Below.refl _ _).alloc (Nat.le_refl _) o)
theorem DevAt.drew (h:DevAt w p bm pv B s):DevAt w.drew p bm pv B s:=h.below ⟨rfl,rfl,rfl,Nat.le_refl _,fun _ _=>rfl⟩
theorem Dev.turn (h:Dev w p B s) (ht:Turn C w w') (hd:∀ k∈B,k∉C):Dev w' p B s:=by
 obtain ⟨bm,pv,h⟩:=h
 exact ⟨bm,pv,h.turn ht hd⟩
theorem Dev.below (h:Dev w p B s) (ht:Below w.heap.size w w'):Dev w' p B s:=h.turn (C:=[]) (Turn.of_below ht) (by simp)
theorem Dev.alloc (h:Dev w p B s) (o:Obj):Dev (w.alloc o) p B s:=h.below ((Below.refl _ _).alloc (Nat.le_refl _) o)
theorem Dev.lt (h:Dev w p B s):p < w.heap.size:=by obtain ⟨_,_,h⟩:=h; exact h.ltB p h.inP
theorem Dev.ltB (h:Dev w p B s):∀ k∈B,k < w.heap.size:=by obtain ⟨_,_,h⟩:=h; exact h.ltB
theorem DevAt.cell (h:DevAt w p bm pv B s) (j:Nat):w.cell? ⟨p,j,none⟩=(devCells s bm pv)[j]?:=cell_of_row w p j _ _ _ h.obj
theorem DevAt.frozen (h:DevAt w p bm pv B s) (j:Nat):w.frozen? ⟨p,j,none⟩=false:=frozen_of_row w p j _ _ h.obj
theorem DevAt.neM (h:DevAt w p bm pv B s):bm≠p:=fun e=>by
 obtain ⟨es,cl,h1,_⟩:=h.map
 rw [e,h.obj] at h1
 cases h1
theorem DevAt.neR (h:DevAt w p bm pv B s):pv.ownBlock≠some p:=fun e=>by
 rcases h.row.2 with ⟨rfl,_⟩ | ⟨g,cap,cur,rfl,h3,h4,_⟩
 ·cases e
 ·simp only [Value.ownBlock,Option.some.injEq] at e
  rw [e,h.obj] at h4
  injection h4 with h4
  injection h4 with h4 h5
  exact absurd h5 (by decide)
theorem DevAt.neMR (h:DevAt w p bm pv B s):pv.ownBlock≠some bm:=fun e=>by
 rcases h.row.2 with ⟨rfl,_⟩ | ⟨g,cap,cur,rfl,h3,h4,_⟩
 ·cases e
 ·simp only [Value.ownBlock,Option.some.injEq] at e
  obtain ⟨es,cl,h1,_⟩:=h.map
  rw [e,h1] at h4
  cases h4
theorem DevAt.setField (h:DevAt w p bm pv B s) (j:Nat) (v:Value) (s':DS) (pv':Value) (hc:(devCells s bm pv).setIfInBounds j v=devCells s' bm pv') (hg:s'.g=s.g) (hn:s'.n=s.n)
  (hrow:(pv'=pv∧s'.pend=s.pend)∨(pv'=.slice none 0 0∧s'.pend=[])) (hl: -1≤s'.left∧s'.left < 9223372036854775808):DevAt (w.setCell ⟨p,j,none⟩ v) p bm pv' B s':=by
 have ho:=heap_setCell_same w p j _ _ v h.obj
 rw [hc] at ho
 refine ⟨ho,?_,?_,h.inP,h.inM,?_,?_,?_,?_,?_,?_,hl⟩
 ·rw [hg]; exact h.map.kept (heap_setCell_other w _ _ v h.neM)
 ·rcases hrow with ⟨rfl,hp⟩ | ⟨rfl,hp⟩
  ·rw [hp]
   exact ownsRow_block h.row (fun k hk=>heap_setCell_other w _ _ v (fun e=>h.neR (by rw [hk,e])))
  ·rw [hp]; exact World.ownsRow_nil _ _ _ _
 ·rcases hrow with ⟨rfl,_⟩ | ⟨rfl,_⟩
  ·exact h.inR
  ·intro k hk; cases hk
 ·intro k hk; have:=h.ltB k hk; simpa [World.setCell] using this
 ·rcases hrow with ⟨_,hp⟩ | ⟨_,hp⟩
  ·rw [hp]; exact h.okP
  ·rw [hp]; simp
 ·rcases hrow with ⟨_,hp⟩ | ⟨_,hp⟩
  ·rw [hp]; exact h.okA
  ·rw [hp]; simp
 ·rw [hg]; exact h.okG
 ·rw [hn]; exact h.okN
end
theorem DevAt.pendAt {w : World} {p bm : Nat} {pv : Value} {B : List Nat} {s : DS} (h : DevAt w p bm pv B s) (i : Nat) (hi : i < s.pend.length) :
    ∃ gr cap, pv = .slice (some ⟨gr, 0, none⟩) s.pend.length cap ∧ ∀ j, j < 257 → w.cell? ⟨gr, i * 257 + j, none⟩ = (putCells s.pend[i])[j]? := by
  rcases h.row.2 with ⟨_, h0⟩ | ⟨gr, cap, cur, he, h3, h4, h5, h6, h7, h8⟩
  · omega
  · refine ⟨gr, cap, he, fun j hj => ?_⟩
    have hr := h.row
    rw [he] at hr
    rw [hr.cellAt (i * 257 + j) (by have : i * 257 + 257 ≤ s.pend.length * 257 := by rw [← Nat.succ_mul]; exact Nat.mul_le_mul_right _ hi
                                    omega)]
    exact pendCells_get h.okP i hi j hj
end Dev
namespace Dev
open Go.RowKit RowLaw
def ptr (p:Nat):Value:=.pointer (some ⟨p,0,none⟩)
section
variable {w:World} {p:Nat} {B:List Nat} {s:DS}
theorem exists_yes (h:Dev w p B s):Calls Tryz.prog 83 #[ptr p] w fun e w'=>e=.returned (.bool true)∧w'=w:=by
 obtain ⟨bm,pv,h⟩:=h
 have c0:w.cell? ⟨p,0,none⟩=some (.int .u32 (s.n:Int)):=h.cell 0
 have hn:((s.n:Int) != 0)=true:=by have:=h.okN; simp; omega
 clear h
 unfold ptr
 go_enter Tryz.func83,Tryz.ntmps83
 go_wp2
 go_ret
 exact ⟨rfl,rfl⟩
theorem isUp_any (h:Dev w p B s):Calls Tryz.prog 132 #[ptr p] w fun e w'=>e=.returned (.bool (!s.down))∧w'=w:=by
 obtain ⟨bm,pv,h⟩:=h
 have c0:w.cell? ⟨p,4,none⟩=some (.bool s.down):=h.cell 4
 clear h
 unfold ptr
 go_enter Tryz.func132,Tryz.ntmps132
 go_wp2
 go_ret
 exact ⟨rfl,rfl⟩
theorem has_any (a:Nat) (w:World):Calls Tryz.prog 181 #[.int .u32 (a:Int)] w fun e w'=>e=.returned (.func (.func 224) #[] #[.pointer (some ⟨w.heap.size,0,none⟩)])∧w'=w.alloc (.cells #[.int .u32 (a:Int)] 22):=by
 have hmf:∀ (fn:Fn) (first cap:Array Value) (w:World),(Instr.makeFunc fn first cap).run Tryz.prog w=.ok (.func fn first cap) w:=fun _ _ _ _=>rfl
 go_enter Tryz.func181,Tryz.ntmps181
 go_wp2
 go_ret
 exact ⟨rfl,rfl⟩
theorem has1_any (h:Dev w p B s) {q a:Nat} (hc:w.cell? ⟨q,0,none⟩=some (.int .u32 (a:Int))):Calls Tryz.prog 224 #[ptr p,.pointer (some ⟨q,0,none⟩)] w fun e w'=>e=.returned (.bool (decide (a < s.n)))∧Below w.heap.size w w':=by
 obtain ⟨bm,pv,h⟩:=h
 have c0:w.cell? ⟨p,0,none⟩=some (.int .u32 (s.n:Int)):=h.cell 0
 clear h
 unfold ptr
 go_enter Tryz.func224,Tryz.ntmps224
 go_wp2
 go_region
 all_goals (try go_wp2)
 all_goals go_ret
 all_goals exact ⟨by simp,(Below.refl _ _).drew⟩
def succB (s:DS):Bool:=decide (s.left≠0)
def succS (s:DS):DS:=if s.left=0 then { s with down:=true } else { s with left:=if s.left = -1 then -1 else s.left - 1,writes:=s.writes+1 }
theorem wrapU64 (x:Nat):IntKind.u64.wrap (((x % 18446744073709551616:Nat):Int)+1)=(((x+1) % 18446744073709551616:Nat):Int):=by
 rw [IntKind.wrap_u64]
 omega
theorem succeed_any (h:Dev w p B s):Calls Tryz.prog 200 #[ptr p] w fun e w'=>e=.returned (.bool (succB s))∧Dev w' p B (succS s)∧Turn B w w':=by
 obtain ⟨bm,pv,h⟩:=h
 have c3:w.cell? ⟨p,3,none⟩=some (.int .i64 s.left):=h.cell 3
 have c4:w.cell? ⟨p,4,none⟩=some (.bool s.down):=h.cell 4
 have c5:w.cell? ⟨p,5,none⟩=some (.int .u64 ((s.writes % 18446744073709551616:Nat):Int)):=h.cell 5
 have f3:=h.frozen 3
 have f4:=h.frozen 4
 have f5:=h.frozen 5
 have hl:=h.okL
 unfold ptr
 by_cases h0:s.left=0
 ·have hs:=h.setField 4 (.bool true) { s with down:=true } pv rfl rfl rfl (.inl ⟨rfl,rfl⟩) hl
  have ht:Turn B w (w.setCell ⟨p,4,none⟩ (.bool true)):=(Turn.refl _ _).setCell _ _ (.inl h.inP)
  have e1:succB s=false:=by simp [succB,h0]
  have e2:succS s={ s with down:=true }:=if_pos h0
  rw [e1,e2]
  rw [h0] at c3
  clear h
  go_enter Tryz.func200,Tryz.ntmps200
  go_wp2
  go_ret
  exact ⟨rfl,⟨bm,pv,hs⟩,ht⟩
 ·have e1:succB s=true:=by simp [succB,h0]
  by_cases h1:s.left = -1
  ·have e2:succS s={ s with left := -1,writes:=s.writes+1 }:=by simp [succS,h1]
   have hs:=h.setField 5 (.int .u64 (((s.writes+1) % 18446744073709551616:Nat):Int)) { s with left := -1,writes:=s.writes+1 } pv (by unfold devCells; rw [h1]; rfl) rfl rfl (.inl ⟨rfl,rfl⟩) ⟨by show (-1:Int) ≤ -1; omega,by show (-1:Int) < _; omega⟩
   have ht:Turn B w (w.setCell ⟨p,5,none⟩ (.int .u64 (((s.writes+1) % 18446744073709551616:Nat):Int))):=(Turn.refl _ _).setCell _ _ (.inl h.inP)
   rw [e1,e2]
   rw [h1] at c3
   rw [←wrapU64] at hs ht
   generalize ((s.writes % 18446744073709551616:Nat):Int)=z at c5 hs ht
   clear h
   go_enter Tryz.func200,Tryz.ntmps200
   go_wp2
   go_ret
   exact ⟨rfl,⟨bm,pv,hs⟩,ht⟩
  ·have e2:succS s={ s with left:=s.left - 1,writes:=s.writes+1 }:=by simp [succS,h0,h1]
   have z1:IntKind.i64.wrap (s.left - 1)=s.left - 1:=IntWalk.i64_in _ (by omega)
   have hs0:=h.setField 3 (.int .i64 (s.left - 1)) { s with left:=s.left - 1 } pv rfl rfl rfl (.inl ⟨rfl,rfl⟩) ⟨by show (-1:Int)≤s.left - 1; omega,by show s.left - 1 < _; omega⟩
   have c5':=hs0.cell 5
   have f5':=hs0.frozen 5
   have hs:=hs0.setField 5 (.int .u64 (((s.writes+1) % 18446744073709551616:Nat):Int)) { s with left:=s.left - 1,writes:=s.writes+1 } pv rfl rfl rfl (.inl ⟨rfl,rfl⟩) ⟨by show (-1:Int)≤s.left - 1; omega,by show s.left - 1 < _; omega⟩
   have ht:Turn B w ((w.setCell ⟨p,3,none⟩ (.int .i64 (s.left - 1))).setCell ⟨p,5,none⟩ (.int .u64 (((s.writes+1) % 18446744073709551616:Nat):Int))):=((Turn.refl _ _).setCell _ _ (.inl h.inP)).setCell _ _ (.inl h.inP)
   rw [e1,e2]
   have c5'':(w.setCell ⟨p,3,none⟩ (.int .i64 (s.left - 1))).cell? ⟨p,5,none⟩=some (.int .u64 ((s.writes % 18446744073709551616:Nat):Int)):=c5'
   rw [←wrapU64] at hs ht
   generalize ((s.writes % 18446744073709551616:Nat):Int)=z at c5 c5'' hs ht
   clear h hs0 c5'
   generalize s.left=L at *
   go_enter Tryz.func200,Tryz.ntmps200
   go_wp2
   go_ret
   exact ⟨rfl,⟨bm,pv,hs⟩,ht⟩
theorem DevAt.pvIs {w:World} {p bm:Nat} {pv:Value} {B:List Nat} {s:DS} (h:DevAt w p bm pv B s):∃ ao cap,pv=.slice ao s.pend.length cap:=by
 rcases h.row.2 with ⟨he,h0⟩ | ⟨gr,cap,cur,he,_⟩
 ·exact ⟨none,0,by rw [h0]; exact he⟩
 ·exact ⟨_,cap,he⟩
end
end Dev
namespace Dev
open Go.RowKit RowLaw
theorem infoStep:(Tryz.prog.info? 235).map (fun i=>(i.zero,i.size))=some (some (.agg #[.nilFunc,.int .i64 0]),2):=by kernel_rfl
def RunEnd (n:Nat) (bs:Nat→Bool) (es:Nat→Int) (m:Nat) (e:Int):Prop:=(m=n∧e=0∧∀ k,k < n→bs k=true)∨(∃ k,k < n∧m=k+1∧e=es k∧bs k=false∧∀ j,j < k→bs j=true)
theorem run_any (d:Value) (sb n:Nat) (hn:n < 1000) (fs:Nat→FuncId) (caps:Nat→Array Value) (es:Nat→Int) (bs:Nat→Bool) (St:Nat→World→Prop) (w:World)
  (hen:∀ k,k < n→∀ (args:Array Value) (W:World),(callFunc (fs k) args).run Tryz.prog W=.ok (.enter (fs k) args) W)
  (hrow:∀ k W,St k W→∀ j,j < n→W.cell? ⟨sb,j * 2,none⟩=some (.func (.func (fs j)) #[] (caps j))∧W.cell? ⟨sb,j * 2+1,none⟩=some (.int .i64 (es j)))
  (hcall:∀ k,k < n→(∀ j,j < k→bs j=true)→∀ W o,St k W→Calls Tryz.prog (fs k) (#[d] ++ caps k) (W.alloc o) fun e W'=>e=.returned (.bool (bs k))∧St (k+1) W'∧W'.heap[W.heap.size]? = some o)
  (h0:St 0 w) :
  Calls Tryz.prog 130 #[d,.slice (some ⟨sb,0,none⟩) n n] w fun e w'=>∃ m z,e=.returned (.int .i64 z)∧RunEnd n bs es m z∧St m w':=by
 have HE:=Lib.hid hen; clear hen
 have HR:=Lib.hid hrow; clear hrow
 have HC:=Lib.hid hcall; clear hcall
 go_enter Tryz.func130,Tryz.ntmps130
 go_wp2
 go_loopw [9] (fun i wr=>∃ k:Nat,k≤n∧i=.int .i64 k∧St k wr∧Hid (∀ j,j < k→bs j=true)) (fun i _=>n - (intOf i).toNat)
 case atStart=>exact ⟨0,Nat.zero_le _,rfl,h0,show ∀ j,j < 0→bs j=true from fun j h=>absurd h (by omega)⟩
 case round=>
  obtain ⟨k,hk,rfl,hst,hb⟩:=hrel
  clear h0
  by_cases hkn:k < n
  ·obtain ⟨hc1,hc2⟩:=HR.out k wr hst k hkn
   have hen:=HE.out k hkn
   have tok:True:=trivial
   have hc:=HC.out k hkn hb.out wr (.cells #[.func (.func (fs k)) #[] (caps k),.int .i64 (es k)] 235) hst
   obtain ⟨b,hbk⟩:∃ b,b=bs k:=⟨_,rfl⟩
   rw [←hbk] at hc
   have HB:=Lib.hid hbk; clear hbk
   clear hst
   cases b
   ·go_wp2_with (first | (have _t:=tok; refine wpList_store_new rfl 235 _ _ rfl #[.func (.func (fs k)) #[] (caps k),.int .i64 (es k)] _ _ rfl rfl (zero_of_info infoStep).2 rfl (by simp [Value.oneCell']) ?_; clear _t tok) | ((with_reducible refine hc.mono ?_); rintro e W2 ⟨rfl,hst3,hx⟩; have c2:W2.cell? ⟨wr.heap.size,1,none⟩=some (.int .i64 (es k)):=cell_of_row W2 wr.heap.size 1 _ _ _ hx))
    go_ret
    exact ⟨k+1,es k,rfl,.inr ⟨k,hkn,rfl,rfl,HB.out.symm,hb.out⟩,hst3⟩
   ·go_wp2_with (first | (have _t:=tok; refine wpList_store_new rfl 235 _ _ rfl #[.func (.func (fs k)) #[] (caps k),.int .i64 (es k)] _ _ rfl rfl (zero_of_info infoStep).2 rfl (by simp [Value.oneCell']) ?_; clear _t tok) | ((with_reducible refine hc.mono ?_); rintro e W2 ⟨rfl,hst3,hx⟩))
    go_roundw
    case rel=>exact ⟨k+1,by omega,by go_num,hst3,show ∀ j,j < k+1→bs j=true from fun j hj=>by
     by_cases h:j=k
     ·subst h; exact HB.out.symm
     ·exact hb.out j (by omega)⟩
    case measure=>simp [intOf]; omega
  ·have hkk:k=n:=by omega
   subst hkk
   go_wp2
   go_ret
   exact ⟨k,0,rfl,.inl ⟨rfl,rfl,hb.out⟩,hst⟩
end Dev
namespace Dev
open Go.RowKit RowLaw
theorem run_eqBlock (w:World) (l m:List UInt8) (hl:l.length=256) (hm:m.length=256) :
  (Op.equalIn 10000 39 (.agg (cellsOf l)) (.agg (cellsOf m))).run Tryz.prog w=.ok (decide (l=m)) w:=by
 obtain ⟨i,hi⟩:∃ i,Tryz.prog.info? 5=some i:=Option.isSome_iff_exists.1 (by kernel_rfl)
 rw [show (10000:Nat)=9998+1+1 from rfl,run_equalIn_array w (9998+1) (cellsOf l) (cellsOf m) Tryz.underlying39 hi,cellsOf8,run_eqItems8 w 9998 l m hl hm _ (by simp)]
 congr 1
 rw [Bool.eq_iff_iff]
 simp only [List.all_eq_true,List.mem_range,beq_iff_eq,decide_eq_true_eq]
 constructor
 ·intro h
  apply List.ext_getElem?
  intro i
  by_cases hi:i < 256
  ·exact h i hi
  ·rw [List.getElem?_eq_none (by omega),List.getElem?_eq_none (by omega)]
 ·intro h i _
  rw [h]
theorem zeroBlock (w:World):(zeroValue 39).run Tryz.prog w=.ok (.agg (cellsOf zeros)) w:=(zero_of_info infoBlock).1 w
theorem still_load_row {P:Program} {o:Oper} {a:Act} {w:World} {K:Act→Prop} (ty:TypeId) (x:Operand) (ho:o.op=.load ty x) (g:Nat) (hx:a.eval x=.pointer (some ⟨g,0,none⟩))
  (t:TypeId) (cs:Array Value) (fr:Nat×Nat) (d:TypeDesc) (hg:w.heap[g]? = some (.cells cs t fr)) (hu:P.underlying ty=some d) (hd:(match d with | .struct _ | .array _ _=>true | _=>false)=true) (hi:(P.info? ty).map (·.size)=some cs.size)
  (hk:K (a.put o.dst (.agg cs))):o.still P a w K:=by
 have hrun:(execOp a.eval o).run P w=.ok (.value (.agg cs)) w:=by
  unfold execOp
  simp only [ho,hx,Instr.loadAt,Instr.sureAddr,Sem.run_bind,Sem.run_pure,Result.andThen_ok,run_loadVar_row w g t ty cs fr d hg hu hd hi]
 unfold Oper.still
 rw [hrun,Oper.stillUpon_value]
 exact hk
end Dev
namespace Dev
open Go.RowKit RowLaw
theorem DevAt.setMap {w w':World} {p bm:Nat} {pv:Value} {B:List Nat} {s:DS} (h:DevAt w p bm pv B s) {g:Nat→List UInt8} (hm:MapIs w' bm g) (hg:w.grownBy w' (some bm)) (hl:∀ a,(g a).length=256):DevAt w' p bm pv B { s with g:=g }:=
 { h with
  obj:=(hg.block p (h.ltB p h.inP) (fun e=>h.neM (by injection e with e; exact e.symm))).trans h.obj
  map:=hm
  row:=ownsRow_block h.row (fun k hk=>hg.block k (h.ltB k (h.inR k hk)) (fun e=>h.neMR (by rw [hk,e])))
  ltB:=fun k hk=>Nat.lt_of_lt_of_le (h.ltB k hk) hg.size
  okG:=hl }
theorem upd_length {g:Nat→List UInt8} (hg:∀ a,(g a).length=256) {l:List UInt8} (hl:l.length=256) (a:Nat):∀ x,(upd g a l x).length=256:=fun x=>by
 unfold upd
 split
 ·exact hl
 ·exact hg x
theorem store_at {w:World} {p bm:Nat} {pv:Value} {B:List Nat} {s:DS} (h:DevAt w p bm pv B s) {a:Nat} (ha:a < 4294967296) {l:List UInt8} (hl:l.length=256) :
  Calls Tryz.prog 227 #[ptr p,.int .u32 (a:Int),.agg (cellsOf l)] w fun e w'=>e=.returned (.tuple #[])∧DevAt w' p bm pv B { s with g:=upd s.g a l }∧Turn B w w':=by
 have hzv:=(zero_of_info infoBlock).1
 have hA:=Holds.new w l
 have hi:=sizeBlock l hl
 have h1:=h.alloc (.cells (cellsOf l) 39)
 have ht1:Turn B w (w.alloc (.cells (cellsOf l) 39)):=(Turn.refl _ _).alloc _
 have hg:=fun (W:World) (op:BinOp) (x y:Operand) (xs ys:Array Value)=>run_eqGuard_agg (P:=Tryz.prog) W op 39 x y xs ys noGuard
 have he:=fun (W:World)=>run_eqBlock W l zeros hl zeros_length
 unfold ptr
 have c1:(w.alloc (.cells (cellsOf l) 39)).cell? ⟨p,1,none⟩=some (.map (some bm)):=h1.cell 1
 by_cases hz:l=zeros
 ·have hd:decide (l=zeros)=true:=decide_eq_true hz
  rw [hd] at he
  have HZ:=Lib.hid hz
  clear hz hd
  go_enter Tryz.func227,Tryz.ntmps227
  go_wp2_with (first | (refine wpList_load_row rfl 39 _ rfl w.heap.size rfl _ _ _ _ hA Tryz.underlying39 rfl hi ?_) | (at_delete; refine wpList_drop rfl _ _ rfl Tryz.underlying22 Tryz.underlying125 h1.map ha rfl rfl ?_; intro w2 hm2 hg2))
  go_end0
  exact ⟨rfl,by rw [HZ.out]; exact h1.setMap hm2 hg2 (upd_length h.okG zeros_length a),ht1.trans (Turn.of_grown hg2 h.inM)⟩
 ·have hd:decide (l=zeros)=false:=decide_eq_false hz
  rw [hd] at he
  have HZ:=Lib.hid hz
  clear hz hd
  go_enter Tryz.func227,Tryz.ntmps227
  go_wp2_with (refine wpList_load_row rfl 39 _ rfl w.heap.size rfl _ _ _ _ hA Tryz.underlying39 rfl hi ?_)
  generalize w.heap.size=b1 at hA ⊢
  generalize w.alloc (.cells (cellsOf l) 39)=W0 at hA h1 ht1 c1 ⊢
  refine wp_region_still_tail 6 (by kernel_rfl) (by kernel_rfl) ?_
  simp only [List.take_succ_cons,List.take_zero,List.drop_succ_cons,List.drop_zero]
  still_step
  still_step
  still_step
  still_step
  still_step
  refine wpStill_step (fun K hK=>?_)
  rw [if_pos (by rfl)]
  refine still_load_row 39 _ rfl b1 rfl _ _ _ _ hA Tryz.underlying39 rfl hi ?_
  refine hK _ ?_
  clear hK K
  refine wpStill_nil ?_
  change wpList _ _ _ _ _ W0.drew
  have h2:=h1.drew
  have ht2:=ht1.drew
  generalize W0.drew=W at h2 ht2 ⊢
  refine wpList_put rfl _ _ _ rfl Tryz.underlying22 Tryz.underlying125 h2.map ha rfl rfl rfl ?_
  intro w2 hm2 hg2
  go_wp2
  go_end0
  exact ⟨rfl,h2.setMap hm2 hg2 (upd_length h.okG hl a),ht2.trans (Turn.of_grown hg2 h.inM)⟩
theorem infoPut:(Tryz.prog.info? 55).map (fun i=>(i.zero,i.size,i.bytes))=some (some (.agg (putCells (0,zeros)).toArray),257,260):=by kernel_rfl
theorem sizePut (x:Nat×List UInt8) (hx:x.2.length=256):(Tryz.prog.info? 55).map (·.size)=some (putCells x).length:=by
 rw [putCells_length hx]
 have h:=congrArg (Option.map fun y=>y.2.1) infoPut
 simpa [Option.map_map,Function.comp_def] using h
theorem zeroPut (w:World):(zeroValue 55).run Tryz.prog w=.ok (.agg (putCells (0,zeros)).toArray) w:=by
 have h:(Tryz.prog.info? 55).map (fun i=>(i.zero,i.size))=some (some (.agg (putCells (0,zeros)).toArray),257):=by
  have h:=congrArg (Option.map fun y=>(y.1,y.2.1)) infoPut
  simpa [Option.map_map,Function.comp_def] using h
 exact (zero_of_info h).1 w
theorem putCells_one (x:Nat×List UInt8):∀ v∈putCells x,v.oneCell'=true:=by
 intro v hv
 simp only [putCells,List.mem_cons,cellsOf,List.mem_map] at hv
 rcases hv with rfl | ⟨u,_,rfl⟩ <;> rfl
theorem DevAt.rangePut {w:World} {p bm:Nat} {pv:Value} {B:List Nat} {s:DS} (h:DevAt w p bm pv B s) {gr cap:Nat} (hpv:pv=.slice (some ⟨gr,0,none⟩) s.pend.length cap) (i:Nat) (hi:i < s.pend.length) :
  w.rangeAt gr (i * 257) (putCells s.pend[i]):=by
 intro j v hv
 obtain ⟨gr',cap',he,hc⟩:=h.pendAt i hi
 rw [hpv] at he
 obtain ⟨rfl,rfl⟩:gr'=gr∧cap'=cap:=by simp at he; exact ⟨he.1.symm,he.2.symm⟩
 have hj:=(List.getElem?_eq_some_iff.1 hv).1
 rw [putCells_length (h.okP _ (List.getElem_mem hi))] at hj
 rw [hc j hj]
 exact hv
theorem range_of_row {w:World} {b:Nat} {x:Nat×List UInt8} {t:TypeId} (h:w.heap[b]? = some (.cells (putCells x).toArray t (0,0))):w.cell? ⟨b,0,none⟩=some (.int .u32 (x.1:Int))∧w.rangeAt b 1 (cellsOf x.2).toList:=by
 refine ⟨cell_of_row w b 0 _ _ _ h,fun j v hv=>?_⟩
 refine (cell_of_row w b (1+j) _ _ _ h).trans ?_
 rw [Nat.add_comm]
 have e:(putCells x).toArray[j+1]? = (cellsOf x.2).toList[j]?:=by simp [putCells]
 rw [e]
 exact hv
def applyP (g:Nat→List UInt8) (l:List (Nat×List UInt8)):Nat→List UInt8:=l.foldl (fun g x=>upd g x.1 x.2) g
theorem applyP_snoc (g:Nat→List UInt8) (l:List (Nat×List UInt8)) (k:Nat) (hk:k < l.length):applyP g (l.take (k+1))=upd (applyP g (l.take k)) l[k].1 l[k].2:=by
 unfold applyP
 rw [List.take_add_one,List.getElem?_eq_getElem hk,List.foldl_append]
 rfl
theorem wpList_load_sub {P:Program} {ops:Array Oper} {rest:List Oper} {op:Oper} {a:Act} {w:World} {Q:Exit→Act→World→Prop} (hgd:op.guard=none) (ty:TypeId) (x:Operand) (ho:op.op=.load ty x)
  (b o:Nat) (hx:a.eval x=.pointer (some ⟨b,o,none⟩)) (cs:Array Value) (d:TypeDesc) (hc:w.rangeAt b o cs.toList)
  (hu:P.underlying ty=some d) (hd:d.isRow=true) (hi:(P.info? ty).map (·.size)=some cs.size)
  (h: wpList P ops Q rest (a.put op.dst (.agg cs)) w): wpList P ops Q (op::rest) a w:=
 wpList_load_mid hgd ty x ho b o hx cs.toList d hc hu hd (by simpa using hi) (by simpa using h)
theorem sizePut' (x:Nat×List UInt8) (hx:x.2.length=256):(Tryz.prog.info? 55).map (·.size)=some (putCells x).toArray.size:=sizePut x hx
theorem wpList_new_put {ops:Array Oper} {rest:List Oper} {o:Oper} {a:Act} {w:World} {Q:Exit→Act→World→Prop} (hgd:o.guard=none) (x y:Operand) (ho:o.op=.store 55 x y)
  (v:Nat×List UInt8) (hv:v.2.length=256) (hx:a.eval x=.pointer (some ⟨w.heap.size,0,none⟩)) (hy:a.eval y=.agg (putCells v).toArray)
  (h: wpList Tryz.prog ops Q rest (a.put o.dst undef) (w.alloc (.cells (putCells v).toArray 55))): wpList Tryz.prog ops Q (o::rest) a (w.alloc (.cells (putCells (0,zeros)).toArray 55)):=
 wpList_store_new hgd 55 x y ho _ _ _ hx hy (sizePut' v hv) (by simp only [List.size_toArray]; rw [putCells_length hv,putCells_length zeros_length]) (all_oneCell_toArray (putCells_one v)) h
def flushed (s:DS):DS:={ s with g:=applyP s.g s.pend,pend:=[] }
theorem flush_any {w:World} {p:Nat} {B:List Nat} {s:DS} (hd:Dev w p B s) (hlen:s.pend.length < 4294967296) :
  Calls Tryz.prog 201 #[ptr p] w fun e w'=>e=.returned (.bool true)∧Dev w' p B (flushed s)∧Turn B w w':=by
 obtain ⟨bm,pv,h⟩:=hd
 obtain ⟨ao,cap,hpv⟩:=h.pvIs
 have c2:w.cell? ⟨p,2,none⟩=some pv:=h.cell 2
 rw [hpv] at c2
 have hzp:=zeroPut
 obtain ⟨n,hn⟩:∃ n,n=s.pend.length:=⟨_,rfl⟩
 rw [←hn] at c2 hlen hpv
 have HN:=Lib.hid hn; clear hn
 have HPV:=Lib.hid hpv; clear hpv
 go_enter Tryz.func201,Tryz.ntmps201
 unfold ptr
 go_wp2
 go_loopw [10] (fun i wr=>∃ k:Nat,k≤n∧i=.int .i64 k∧DevAt wr p bm pv B { s with g:=applyP s.g (s.pend.take k) }∧Turn B w wr) (fun i _=>n - (intOf i).toNat)
 case atStart=>exact ⟨0,Nat.zero_le _,rfl,h,Turn.refl _ _⟩
 case round=>
  obtain ⟨k,hk,rfl,hk2,htk⟩:=hrel
  clear h c2
  by_cases hkn:k < n
  ·have hkl:k < s.pend.length:=by have:=HN.out; omega
   obtain ⟨gr,cap',he,_⟩:=hk2.pendAt k hkl
   obtain rfl:ao=some ⟨gr,0,none⟩:=by have e:=HPV.out; rw [he] at e; injection e with e; exact e.symm
   have hr:=hk2.rangePut he k hkl
   have hxa:=hk2.okA _ (List.getElem_mem hkl)
   have hxl:=hk2.okP _ (List.getElem_mem hkl)
   have hstep:=applyP_snoc s.g s.pend k hkl
   clear he
   simp only at hr hxa hxl
   generalize s.pend[k]=x at hr hxa hxl hstep
   obtain ⟨xa,xl⟩:=x
   simp only at hxa hxl hstep
   have h2:=hk2.alloc (.cells (putCells (xa,xl)).toArray 55)
   have ht2:=htk.alloc (.cells (putCells (xa,xl)).toArray 55)
   obtain ⟨ca,cr⟩:=range_of_row (x:=(xa,xl)) (heap_alloc_new wr (.cells (putCells (xa,xl)).toArray 55))
   have hsp:=sizePut (xa,xl) hxl
   have hsb:=sizeBlock xl hxl
   have tok:True:=trivial
   have HS:=Lib.hid hstep
   clear hk2 htk hstep
   go_wp2_with (first | (refine wpList_load_mid rfl 55 _ rfl gr (k * 257) rfl (putCells (xa,xl)) _ hr Tryz.underlying55 rfl hsp ?_) | (have _t:=tok; refine wpList_new_put rfl _ _ rfl (xa,xl) hxl rfl rfl ?_; generalize hbn:wr.heap.size=b1 at ca cr ⊢; generalize wr.alloc (.cells (putCells (xa,xl)).toArray 55)=W1 at ca cr h2 ht2 ⊢; clear hbn hr _t tok) | (refine wpList_load_sub rfl 39 _ rfl b1 1 rfl (cellsOf xl) _ cr Tryz.underlying39 rfl hsb ?_))
   refine (store_at h2 hxa hxl).mono ?_
   rintro e W2 ⟨rfl,h3,ht3⟩
   have hb3:DevAt W2 p bm pv B { s with g:=applyP s.g (s.pend.take (k+1)) }:=by rw [HS.out]; exact h3
   have htf:=ht2.trans ht3
   clear h3 ht3 h2 ht2 ca cr
   go_wp2
   go_roundw
   case rel=>exact ⟨k+1,by omega,by go_num,hb3,htf⟩
   case measure=>simp [intOf]; omega
  ·have hkk:k=n:=by omega
   subst hkk
   have f2:=hk2.frozen 2
   have c2:=hk2.cell 2
   have e1:s.pend.take k=s.pend:=by rw [HN.out]; exact List.take_length
   rw [e1] at hk2
   have hs:=hk2.setField 2 (.slice none 0 0) (flushed s) (.slice none 0 0) rfl rfl rfl (.inr ⟨rfl,rfl⟩) hk2.okL
   have ht:=htk.setCell ⟨p,2,none⟩ (.slice none 0 0) (.inl hk2.inP)
   clear hk2 htk
   go_wp2
   go_ret
   exact ⟨rfl,⟨bm,_,hs⟩,ht⟩
theorem runEnd_all {n:Nat} {bs:Nat→Bool} {es:Nat→Int} {m:Nat} {e:Int} (h:RunEnd n bs es m e) (hb:∀ k,k < n→bs k=true):m=n∧e=0:=by
 rcases h with ⟨h1,h2,_⟩ | ⟨k,hk,_,_,h3,_⟩
 ·exact ⟨h1,h2⟩
 ·rw [hb k hk] at h3; cases h3
theorem runEnd_stop {n:Nat} {bs:Nat→Bool} {es:Nat→Int} {m:Nat} {e:Int} (h:RunEnd n bs es m e) (j:Nat) (hj:j < n) (hb:∀ k,k < j→bs k=true) (hf:bs j=false):m=j+1∧e=es j:=by
 rcases h with ⟨_,_,h3⟩ | ⟨k,hk,h1,h2,h3,h4⟩
 ·rw [h3 j hj] at hf; cases hf
 ·have:k=j:=by
   rcases Nat.lt_trichotomy k j with hlt | heq | hgt
   ·rw [hb k hlt] at h3; cases h3
   ·exact heq
   ·rw [h4 j hgt] at hf; cases hf
  subst this
  exact ⟨h1,h2⟩
theorem step_same {w w':World} {p:Nat} {B:List Nat} {s:DS} (h:Dev w p B s) (hb:Below w.heap.size w w'):∃ C,Dev w' p C s∧Step B w w' C:=⟨B,h.below hb,Step.of_turn (Turn.of_below hb)⟩
theorem step_eq {w w':World} {p:Nat} {B:List Nat} {s:DS} (h:Dev w p B s) (hb:w'=w):∃ C,Dev w' p C s∧Step B w w' C:=by subst hb; exact ⟨B,h,Step.refl _ _⟩
theorem step_turn {w w':World} {p:Nat} {B:List Nat} {s:DS} (h:Dev w' p B s) (hb:Turn B w w'):∃ C,Dev w' p C s∧Step B w w' C:=⟨B,h,Step.of_turn hb⟩
theorem steps_any {w:World} {p sb n:Nat} (hn:n < 1000) (fs:Nat→FuncId) (caps:Nat→Array Value) (es:Nat→Int) (bs:Nat→Bool) (ss:Nat→DS) {B:List Nat}
  (hd:Dev w p B (ss 0)) (hsb:sb < w.heap.size) (hsn:sb∉B)
  (hrow:∀ j,j < n→w.cell? ⟨sb,j * 2,none⟩=some (.func (.func (fs j)) #[] (caps j))∧w.cell? ⟨sb,j * 2+1,none⟩=some (.int .i64 (es j)))
  (hen:∀ k,k < n→∀ (args:Array Value) (W:World),(callFunc (fs k) args).run Tryz.prog W=.ok (.enter (fs k) args) W)
  (hcall:∀ k,k < n→(∀ j,j < k→bs j=true)→∀ W C,Dev W p C (ss k)→Step B w W C→Calls Tryz.prog (fs k) (#[ptr p] ++ caps k) W fun e W'=>e=.returned (.bool (bs k))∧∃ C',Dev W' p C' (ss (k+1))∧Step C W W' C') :
  Calls Tryz.prog 130 #[ptr p,.slice (some ⟨sb,0,none⟩) n n] w fun e w'=>∃ m z,e=.returned (.int .i64 z)∧RunEnd n bs es m z∧∃ C,Dev w' p C (ss m)∧Step B w w' C:=by
 refine run_any (ptr p) sb n hn fs caps es bs (fun k W=>∃ C,Dev W p C (ss k)∧Step B w W C) w hen ?_ ?_ ⟨B,hd,Step.refl _ _⟩
 ·rintro k W ⟨C,_,hs⟩ j hj
  obtain ⟨h1,h2⟩:=hrow j hj
  exact ⟨(hs.turn.cell (q:=⟨sb,j * 2,none⟩) hsb hsn).trans h1,(hs.turn.cell (q:=⟨sb,j * 2+1,none⟩) hsb hsn).trans h2⟩
 ·rintro k hk hb0 W o ⟨C,hc,hs⟩
  have hb:Below W.heap.size W (W.alloc o):=(Below.refl _ _).alloc (Nat.le_refl _) o
  refine (hcall k hk hb0 (W.alloc o) C (hc.alloc o) ⟨hs.turn.alloc o,hs.sub⟩).mono ?_
  rintro e W' ⟨he,C',h1,h2⟩
  have hs1:Step B w (W.alloc o) C:=⟨hs.turn.alloc o,hs.sub⟩
  refine ⟨he,⟨C',h1,hs1.trans h2⟩,?_⟩
  rw [h2.turn.block W.heap.size (by simp) (fun hm=>by have:=hc.ltB _ hm; omega)]
  exact heap_alloc_new W o
theorem enterExists:∀ (args:Array Value) (W:World),(callFunc 83 args).run Tryz.prog W=.ok (.enter 83 args) W:=fun _ _=>by simp [go_sem]
theorem enterIsUp:∀ (args:Array Value) (W:World),(callFunc 132 args).run Tryz.prog W=.ok (.enter 132 args) W:=fun _ _=>by simp [go_sem]
theorem enterSucceed:∀ (args:Array Value) (W:World),(callFunc 200 args).run Tryz.prog W=.ok (.enter 200 args) W:=fun _ _=>by simp [go_sem]
theorem enterFlush:∀ (args:Array Value) (W:World),(callFunc 201 args).run Tryz.prog W=.ok (.enter 201 args) W:=fun _ _=>by simp [go_sem]
def flushE (s:DS):Int:=if s.down=true∨s.left=0 then 30 else 0
def flushS (s:DS):DS:=if s.down=true then s else if s.left=0 then { s with down:=true } else flushed (succS s)
theorem Flush_any {w : World} {p : Nat} {B : List Nat} {s : DS} (hd : Dev w p B s) (hlen : s.pend.length < 4294967296) :
    Calls Tryz.prog 146 #[ptr p] w fun e w' => e = .returned (.int .i64 (flushE s)) ∧ ∃ C, Dev w' p C (flushS s) ∧ Step B w w' C := by
  have hzs := (zero_of_info infoStep).1
  go_enter Tryz.func146, Tryz.ntmps146
  go_wp2_with fail
  have hx := heap_alloc_new w (.cells #[.func (.func 83) #[] #[], .int .i64 1, .func (.func 132) #[] #[], .int .i64 30, .func (.func 200) #[] #[], .int .i64 30, .func (.func 201) #[] #[], .int .i64 0] 235)
  have hl : w.heap.size < (w.alloc (.cells #[.func (.func 83) #[] #[], .int .i64 1, .func (.func 132) #[] #[], .int .i64 30, .func (.func 200) #[] #[], .int .i64 30, .func (.func 201) #[] #[], .int .i64 0] 235)).heap.size := by simp
  have hs0 : Step B w (w.alloc (.cells #[.func (.func 83) #[] #[], .int .i64 1, .func (.func 132) #[] #[], .int .i64 30, .func (.func 200) #[] #[], .int .i64 30, .func (.func 201) #[] #[], .int .i64 0] 235)) B := Step.of_turn ((Turn.refl _ _).alloc _)
  have hn : w.heap.size ∉ B := fun hm => by have := hd.ltB _ hm; omega
  replace hd := hd.alloc (.cells #[.func (.func 83) #[] #[], .int .i64 1, .func (.func 132) #[] #[], .int .i64 30, .func (.func 200) #[] #[], .int .i64 30, .func (.func 201) #[] #[], .int .i64 0] 235)
  generalize w.alloc (.cells #[.func (.func 83) #[] #[], .int .i64 1, .func (.func 132) #[] #[], .int .i64 30, .func (.func 200) #[] #[], .int .i64 30, .func (.func 201) #[] #[], .int .i64 0] 235) = W1 at hd hx hs0 hl ⊢
  generalize w.heap.size = sb at hx hn hl ⊢
  have hpl : (succS s).pend = s.pend := by unfold succS; split <;> rfl
  refine (steps_any (by omega) (fun k => match k with | 0 => 83 | 1 => 132 | 2 => 200 | _ => 201) (fun _ => #[]) (fun k => match k with | 0 => 1 | 1 => 30 | 2 => 30 | _ => 0)
    (fun k => match k with | 0 => true | 1 => !s.down | 2 => succB s | _ => true) (fun k => match k with | 0 => s | 1 => s | 2 => s | 3 => succS s | _ => flushed (succS s)) hd hl hn
    (fun j hj => match j, hj with
      | 0, _ => ⟨cell_of_row W1 sb 0 _ _ _ hx, cell_of_row W1 sb 1 _ _ _ hx⟩
      | 1, _ => ⟨cell_of_row W1 sb 2 _ _ _ hx, cell_of_row W1 sb 3 _ _ _ hx⟩
      | 2, _ => ⟨cell_of_row W1 sb 4 _ _ _ hx, cell_of_row W1 sb 5 _ _ _ hx⟩
      | 3, _ => ⟨cell_of_row W1 sb 6 _ _ _ hx, cell_of_row W1 sb 7 _ _ _ hx⟩)
    (fun k hk => match k, hk with
      | 0, _ => enterExists
      | 1, _ => enterIsUp
      | 2, _ => enterSucceed
      | 3, _ => enterFlush)
    (fun k hk => match k, hk with
      | 0, _ => fun _ W C hC _ => (exists_yes hC).mono fun _ _ ⟨he, hw⟩ => ⟨he, step_eq hC hw⟩
      | 1, _ => fun _ W C hC _ => (isUp_any hC).mono fun _ _ ⟨he, hw⟩ => ⟨he, step_eq hC hw⟩
      | 2, _ => fun _ W C hC _ => (succeed_any hC).mono fun _ _ ⟨he, h1, h2⟩ => ⟨he, step_turn h1 h2⟩
      | 3, _ => fun _ W C hC _ => (flush_any (s := succS s) hC (by rw [hpl]; exact hlen)).mono fun _ _ ⟨he, h1, h2⟩ => ⟨he, step_turn h1 h2⟩)).mono ?_
  rintro e W2 ⟨m, z, rfl, hend, C, hC, hS⟩
  have key : z = flushE s ∧ Dev W2 p C (flushS s) := by
    by_cases h1 : s.down = true
    · obtain ⟨rfl, rfl⟩ := runEnd_stop hend 1 (by omega) (fun k hk => by obtain rfl : k = 0 := by omega
                                                                         rfl) (by simp [h1])
      exact ⟨by simp [flushE, h1], by rw [show flushS s = s from if_pos h1]; exact hC⟩
    · have h1' : s.down = false := by simpa using h1
      by_cases h2 : s.left = 0
      · obtain ⟨rfl, rfl⟩ := runEnd_stop hend 2 (by omega) (fun k hk => by
          have hk' : k = 0 ∨ k = 1 := by omega
          rcases hk' with rfl | rfl
          · rfl
          · simp [h1']) (by simp [succB, h2])
        exact ⟨by simp [flushE, h2], by rw [show flushS s = succS s from by rw [flushS, if_neg h1, if_pos h2, succS, if_pos h2]]; exact hC⟩
      · obtain ⟨rfl, rfl⟩ := runEnd_all hend (fun k hk => by
          have hk' : k = 0 ∨ k = 1 ∨ k = 2 ∨ k = 3 := by omega
          rcases hk' with rfl | rfl | rfl | rfl
          · rfl
          · simp [h1']
          · simp [succB, h2]
          · rfl)
        exact ⟨by simp [flushE, h1', h2], by rw [show flushS s = flushed (succS s) from by rw [flushS, if_neg h1, if_neg h2]]; exact hC⟩
  obtain ⟨rfl, hC2⟩ := key
  have hS2 := hs0.trans hS
  clear hend hC hd hs0 hS
  go_wp2
  go_ret
  exact ⟨rfl, C, hC2, hS2⟩
end Dev

end Go.Proofs.YtgkbfahflngklaaGreat
