import Derived.Test.YtgkbfahflngklaaGreatDev1
import Derived.Test.YtgkbfahflngklaaGreatRotD
import Derived.Test.YtgkbfahflngklaaGreatTal1
import Derived.Laws.Bits64b
import Derived.Laws.BitsLemmas
import Derived.Test.YtgkbfahflngklaaGreatTal4
import Derived.StillTailTactics
set_option maxRecDepth 100000
set_option maxHeartbeats 1600000
set_option linter.unusedSimpArgs false
namespace Go.Proofs.YtgkbfahflngklaaGreat
namespace Cnt
open Go.RowKit Go.Maps Go.MapKept RowLaw
open Go.ChangeMaps (setBlock heap_setBlock_same heap_setBlock_other modify_eq_set)
open Dev (wfU32 apart_of grown_setBlock Turn)
def setP (f:Nat→Option Nat) (a q:Nat):Nat→Option Nat:=fun x=>if x=a then some q else f x
theorem setP_self (f:Nat→Option Nat) (a q:Nat):setP f a q a=some q:=if_pos rfl
theorem setP_other {f:Nat→Option Nat} {a q x:Nat} (h:x≠a):setP f a q x=f x:=if_neg h
def pv:Option Nat→Value
 | none=>.pointer none
 | some q=>.pointer (some ⟨q,0,none⟩)
def PMap (w:World) (b:Nat) (f:Nat→Option Nat):Prop:=
 ∃ es clock,w.heap[b]? = some (.map es clock)∧Stamped es clock∧
  (∀ x∈es.toList,∃ a q:Nat,a < 4294967296∧x.key=.int .u32 (a:Int)∧f a=some q∧x.val=pv (some q))∧
  (∀ a q:Nat,f a=some q→∃ x∈es.toList,x.key=.int .u32 (a:Int))
section
variable {P:Program} {w:World} {b:Nat} {f:Nat→Option Nat} {k e t:TypeId}
theorem PMap.lt (h:PMap w b f):b < w.heap.size:=by
 obtain ⟨es,clock,hb,_⟩:=h
 exact (Array.getElem?_eq_some_iff.1 hb).1
theorem PMap.made (w:World):PMap (w.alloc (.map #[] 0)) w.heap.size (fun _=>none):=
 ⟨#[],0,(MapKept.heap_alloc w _).1,stamped_empty 0,by simp,fun _ _ h=>by cases h⟩
theorem PMap.kept {w':World} (h:PMap w b f) (hb:w'.heap[b]? = w.heap[b]?):PMap w' b f:=by
 obtain ⟨es,clock,h1,h2⟩:=h
 exact ⟨es,clock,hb.trans h1,h2⟩
theorem PMap.turn {w':World} {B:List Nat} (h:PMap w b f) (ht:Turn B w w') (hb:b∉B):PMap w' b f:=h.kept (ht.block b h.lt hb)
theorem PMap.key_lt (h:PMap w b f) {a q:Nat} (hf:f a=some q):a < 4294967296:=by
 obtain ⟨es,clock,_,_,hr,hc⟩:=h
 obtain ⟨x,hx,he⟩:=hc a q hf
 obtain ⟨a',_,ha',he',_⟩:=hr x hx
 rw [he] at he'
 injection he' with _ he'
 omega
theorem PMap.notCells (h:PMap w b f) {cs:Array Value} {T:TypeId} {fr:Nat×Nat} (hq:w.heap[b]? = some (.cells cs T fr)):False:=by
 obtain ⟨es,clock,h1,_⟩:=h
 rw [h1] at hq
 cases hq
theorem PMap.look (hk:P.underlying k=some (.int .u32)) (ht:P.underlying t=some (.map k e)) (hz:(zeroValue e).run P w=.ok (.pointer none) w) (h:PMap w b f) {a:Nat} (ha:a < 4294967296) :
  (Instr.lookup t (.map (some b)) (.int .u32 (a:Int)) false).run P w=.ok (pv (f a)) w:=by
 obtain ⟨es,clock,hb,hs,hr,hc⟩:=h
 have K:=int_keyed hk
 have hkey:keyOf P k (.int .u32 (a:Int))=some (.int .u32 a):=keyOf_int_mk hk (wfU32 ha)
 have hks:∀ x∈es.toList,∃ l,keyOf P k x.key=some l:=fun x hx=>by
  obtain ⟨a',_,ha',he,_⟩:=hr x hx
  exact ⟨_,by rw [he]; exact keyOf_int_mk hk (wfU32 ha')⟩
 rcases K.find w hkey es.toList hks with ⟨h1,h2⟩ | ⟨j,e0,h1,h2,h3⟩
 ·have hg:f a=none:=by
   cases hf:f a with
   | none=>rfl
   | some q=>
    obtain ⟨x,hx,he⟩:=hc a q hf
    exact absurd he (h2 x hx)
  rw [hg]
  simp [Instr.lookup,run_underlying ht,MapKept.run_getObj_map hb,K.check w _ hkey,h1,hz,Result.andThen,pv]
 ·obtain ⟨a',q,ha',he,hf,hv⟩:=hr e0 (List.mem_of_getElem? h2)
  have haa:a'=a:=by rw [he] at h3; injection h3 with _ h3; omega
  subst haa
  rw [hf]
  simp [Instr.lookup,run_underlying ht,MapKept.run_getObj_map hb,K.check w _ hkey,h1,hv,Result.andThen]
theorem PMap.store (hk:P.underlying k=some (.int .u32)) (ht:P.underlying t=some (.map k e)) (h:PMap w b f) {a:Nat} (ha:a < 4294967296) (q:Nat) :
  ∃ w',(Instr.mapUpdate t (.map (some b)) (.int .u32 (a:Int)) (pv (some q))).run P w=.ok () w'∧PMap w' b (setP f a q)∧w.grownBy w' (some b)∧w'.heap.size=w.heap.size:=by
 obtain ⟨es,clock,hb,hs,hr,hc⟩:=h
 have K:=int_keyed hk
 have hkey:keyOf P k (.int .u32 (a:Int))=some (.int .u32 a):=keyOf_int_mk hk (wfU32 ha)
 have hks:∀ x∈es.toList,∃ l,keyOf P k x.key=some l:=fun x hx=>by
  obtain ⟨a',_,ha',he,_⟩:=hr x hx
  exact ⟨_,by rw [he]; exact keyOf_int_mk hk (wfU32 ha')⟩
 have old:∀ x∈es.toList,x.key≠.int .u32 (a:Int)→∃ a' q':Nat,a' < 4294967296∧x.key=.int .u32 (a':Int)∧setP f a q a'=some q'∧x.val=pv (some q'):=fun x hx hne=>by
  obtain ⟨a',q',ha',he,hf,hv⟩:=hr x hx
  exact ⟨a',q',ha',he,by rw [setP_other (fun h=>hne (by rw [he,h]))]; exact hf,hv⟩
 rcases K.find w hkey es.toList hks with ⟨h1,h2⟩ | ⟨j,e0,h1,h2,h3⟩
 ·refine ⟨setBlock w b (.map (es.push ⟨.int .u32 (a:Int),pv (some q),clock⟩) (clock+1)),?_,⟨_,_,heap_setBlock_same hb _,stamped_push hs h2,?_,?_⟩,grown_setBlock hb _,by simp [setBlock]⟩
  ·simp [Instr.mapUpdate,run_underlying ht,MapKept.run_getObj_map hb,K.check w false hkey,h1,MapKept.run_setObj_map _ hb,Result.andThen,setBlock]
  ·intro x hx
   simp only [Array.toList_push,List.mem_append,List.mem_singleton] at hx
   rcases hx with hx | rfl
   ·exact old x hx (h2 x hx)
   ·exact ⟨a,q,ha,rfl,setP_self _ _ _,rfl⟩
  ·intro a' q' hf
   simp only [Array.toList_push,List.mem_append,List.mem_singleton]
   by_cases haa:a'=a
   ·subst haa
    exact ⟨_,.inr rfl,rfl⟩
   ·rw [setP_other haa] at hf
    obtain ⟨x,hx,he⟩:=hc a' q' hf
    exact ⟨x,.inl hx,he⟩
 ·have hj:es[j]? = some e0:=by simpa using h2
  have hkeyf:∀ e',es[j]? = some e'→({ e' with key:=.int .u32 (a:Int),val:=pv (some q) }:MapEntry).key=e'.key:=fun e' he'=>by rw [hj] at he'; cases he'; exact h3.symm
  have hlist:(es.modify j (fun e'=>{ e' with key:=.int .u32 (a:Int),val:=pv (some q) })).toList=es.toList.set j { e0 with key:=.int .u32 (a:Int),val:=pv (some q) }:=by rw [Array.toList_modify,modify_eq_set _ _ _ _ h2]
  refine ⟨setBlock w b (.map (es.modify j (fun e'=>{ e' with key:=.int .u32 (a:Int),val:=pv (some q) })) clock),?_,⟨_,_,heap_setBlock_same hb _,stamped_modify hs _ _ (fun _ _=>rfl) (fun e' _ he'=>hkeyf e' he'),?_,?_⟩,grown_setBlock hb _,by simp [setBlock]⟩
  ·simp [Instr.mapUpdate,run_underlying ht,MapKept.run_getObj_map hb,K.check w false hkey,h1,hj,h3,K.stays w hkey,MapKept.run_setObj_map _ hb,Result.andThen,setBlock]
  ·intro x hx
   rw [hlist] at hx
   obtain ⟨i,hi,ex⟩:=List.getElem_of_mem hx
   have hi':i < es.toList.length:=by simpa using hi
   rw [List.getElem_set] at ex
   split at ex
   ·subst ex
    exact ⟨a,q,ha,rfl,setP_self _ _ _,rfl⟩
   ·rename_i hne
    subst ex
    exact old _ (List.getElem_mem hi') (fun he=>apart_of hs (List.getElem?_eq_getElem hi') h2 (fun e=>hne e.symm) (he.trans h3.symm))
  ·intro a' q' hf
   rw [hlist]
   have hjl:j < es.toList.length:=(List.getElem?_eq_some_iff.1 h2).1
   by_cases haa:a'=a
   ·subst haa
    exact ⟨{ e0 with key:=.int .u32 (a':Int),val:=pv (some q) },List.mem_iff_getElem.2 ⟨j,by simpa using hjl,by simp⟩,rfl⟩
   ·rw [setP_other haa] at hf
    obtain ⟨x,hx,he⟩:=hc a' q' hf
    obtain ⟨i,hi,ex⟩:=List.getElem_of_mem hx
    have hij:i≠j:=by
     intro h
     subst h
     rw [List.getElem?_eq_getElem hi,ex] at h2
     cases h2
     rw [he] at h3
     injection h3 with _ h3
     omega
    exact ⟨x,List.mem_iff_getElem.2 ⟨i,by simpa using hi,by rw [List.getElem_set_ne (fun e=>hij e.symm)]; exact ex⟩,he⟩
end
section
variable {P:Program} {w:World} {b:Nat} {f:Nat→Option Nat} {k e t:TypeId} {ops:Array Oper} {rest:List Oper} {o:Oper} {ac:Act} {Q:Exit→Act→World→Prop}
theorem wpList_lookP (hg:o.guard=none) (m x:Operand) (hop:o.op=Op.lookup t m x false) (hk:P.underlying k=some (.int .u32)) (ht:P.underlying t=some (.map k e)) (hz:(zeroValue e).run P w=.ok (.pointer none) w)
  (h: PMap w b f) {a: Nat} (ha: a < 4294967296) (hm: ac.eval m=.map (some b)) (hx: ac.eval x=.int .u32 (a: Int)) (hK: wpList P ops Q rest (ac.put o.dst (pv (f a))) w): wpList P ops Q (o::rest) ac w:=by
 refine wpList_plain hg fun K' hK'=>?_
 have hrun:=h.look hk ht hz ha
 unfold Oper.wp
 simp [execOp,hop,hm,hx,hrun,Result.andThen]
 exact hK' _ _ hK
theorem wpList_look_some (hg:o.guard=none) (m x:Operand) (hop:o.op=Op.lookup t m x false) (hk:P.underlying k=some (.int .u32)) (ht:P.underlying t=some (.map k e)) (hz:(zeroValue e).run P w=.ok (.pointer none) w)
  (h: PMap w b f) {a q: Nat} (ha: a < 4294967296) (hf: f a=some q) (hm: ac.eval m=.map (some b)) (hx: ac.eval x=.int .u32 (a: Int)) (hK: wpList P ops Q rest (ac.put o.dst (.pointer (some ⟨q,0,none⟩))) w): wpList P ops Q (o::rest) ac w:=
 wpList_lookP hg m x hop hk ht hz h ha hm hx (by rw [hf]; exact hK)
theorem wpList_look_none (hg:o.guard=none) (m x:Operand) (hop:o.op=Op.lookup t m x false) (hk:P.underlying k=some (.int .u32)) (ht:P.underlying t=some (.map k e)) (hz:(zeroValue e).run P w=.ok (.pointer none) w)
  (h: PMap w b f) {a: Nat} (ha: a < 4294967296) (hf: f a=none) (hm: ac.eval m=.map (some b)) (hx: ac.eval x=.int .u32 (a: Int)) (hK: wpList P ops Q rest (ac.put o.dst (.pointer none)) w): wpList P ops Q (o::rest) ac w:=
 wpList_lookP hg m x hop hk ht hz h ha hm hx (by rw [hf]; exact hK)
theorem wpList_putP (hg:o.guard=none) (m x v:Operand) (hop:o.op=Op.mapUpdate t m x v) (hk:P.underlying k=some (.int .u32)) (ht:P.underlying t=some (.map k e))
  (h:PMap w b f) {a q:Nat} (ha:a < 4294967296) (hm:ac.eval m=.map (some b)) (hx:ac.eval x=.int .u32 (a:Int)) (hv:ac.eval v=.pointer (some ⟨q,0,none⟩))
  (hK: ∀ w',PMap w' b (setP f a q)→w.grownBy w' (some b)→w'.heap.size=w.heap.size→wpList P ops Q rest (ac.put o.dst undef) w'): wpList P ops Q (o::rest) ac w:=by
 refine wpList_plain hg fun K' hK'=>?_
 obtain ⟨w',hrun,r1,r2,r3⟩:=h.store hk ht ha q
 unfold Oper.wp
 unfold pv at hrun
 simp [execOp,hop,hm,hx,hv,hrun,Result.andThen]
 exact hK' _ _ (hK w' r1 r2 r3)
end
end Cnt
namespace Cnt
open Go.RowKit Go.Maps Go.MapKept RowLaw Crc
open Dev (Dev DS ptr Turn Step readB)
open Tal (pgCells IsPg kT kP getE getNs)
open Rot (planOk tlN pkN fsN planCells)
structure TD where
 d:Nat
 n:Nat
 ch:Nat
 PV:Nat→List Nat
 TV:Nat→List Nat
 C:Nat→Option (List Nat)
structure TOk (T:TD):Prop where
 plan:planOk T.n=true
 ch:T.ch < 4294967296
 pl:∀ k,(T.PV k).length=16
 pn:∀ k,∀ x∈T.PV k,x < 18446744073709551616
 tl:∀ p,(T.TV p).length=64
 tn:∀ p,∀ x∈T.TV p,x < 65536
 cl:∀ p ns,T.C p=some ns→ns.length=64∧∀ x∈ns,x < 65536
 ck:∀ p ns,T.C p=some ns→p < tlN T.n
def TD.now (T:TD) (p:Nat):List Nat:=(T.C p).getD (T.TV p)
def bitAt (ns:List Nat) (i:Nat):Nat:=ns.getD (i / 64) 0 / 2 ^ (i % 64) % 2
def pkAt (T:TD) (k:Nat):Nat:=2+2 * k+T.ch / 2 ^ k % 2
def tlAt (T:TD) (p:Nat):Nat:=2+2 * (pkN T.n+p)+bitAt (T.PV (p / 1024)) (p % 1024)
structure Reads (s:DS) (T:TD):Prop where
 n:s.n=T.n
 pend:s.pend.length < 4294967296
 pick:∀ k,k < pkN T.n→getE kP (readB s (pkAt T k)) k=0∧getNs kP (readB s (pkAt T k)) k=T.PV k
 tally:∀ p,p < tlN T.n→getE kT (readB s (tlAt T p)) p=0∧getNs kT (readB s (tlAt T p)) p=T.TV p
theorem plan_of {n:Nat} (h:planOk n=true):64≤n∧n≤1048576:=by
 simpa [planOk] using h
theorem bitAt_lt (ns:List Nat) (i:Nat):bitAt ns i < 2:=Nat.mod_lt _ (by omega)
theorem pkAt_lt {T:TD} (hk:TOk T) {k:Nat} (h:k < pkN T.n):pkAt T k < T.n:=by
 obtain ⟨h1,h2⟩:=plan_of hk.plan
 have:=Rot.plan_facts h1 h2
 have:T.ch / 2 ^ k % 2 < 2:=Nat.mod_lt _ (by omega)
 unfold pkAt
 omega
theorem tlAt_lt {T:TD} (hk:TOk T) {p:Nat} (h:p < tlN T.n):tlAt T p < T.n:=by
 obtain ⟨h1,h2⟩:=plan_of hk.plan
 have:=Rot.plan_facts h1 h2
 have:=bitAt_lt (T.PV (p / 1024)) (p % 1024)
 unfold tlAt
 omega
theorem pick_of_tally {T:TD} (hk:TOk T) {p:Nat} (h:p < tlN T.n):p / 1024 < pkN T.n:=by
 obtain ⟨h1,h2⟩:=plan_of hk.plan
 have:=Rot.plan_facts h1 h2
 omega
def tabCells (T:TD) (bp bt bc:Nat):Array Value:=
 #[ptr T.d,.int .u32 (tlN T.n:Int),.int .u32 (pkN T.n:Int),.int .u32 (fsN T.n:Int),.int .u32 (T.ch:Int),.map (some bp),.map (some bt),.map (some bc)]
structure TabAt (w:World) (t bp bt bc:Nat) (fp ft fc:Nat→Option Nat) (B:List Nat) (T:TD):Prop where
 ok:TOk T
 obj:w.heap[t]? = some (.cells (tabCells T bp bt bc) 159 (0,0))
 mp:PMap w bp fp
 mt:PMap w bt ft
 mc:PMap w bc fc
 pp:∀ k q,fp k=some q→IsPg .u64 142 w q k (T.PV k)∧q∈B
 pt:∀ p q,ft p=some q→IsPg .u16 137 w q p (T.TV p)∧q∈B
 pc:∀ p q,fc p=some q→(∃ ns,T.C p=some ns∧IsPg .u16 137 w q p ns)∧q∈B
 nc:∀ p,fc p=none→T.C p=none
 has:∀ p q,fc p=some q→∃ q',ft p=some q'
 hasP:∀ p q,ft p=some q→∃ q',fp (p / 1024)=some q'
 dis:∀ p p' q,ft p=some q→fc p'=some q→False
 inB:t∈B∧bp∈B∧bt∈B∧bc∈B
 ne:bp≠bt∧bp≠bc∧bt≠bc
 ltB:∀ k∈B,k < w.heap.size
def TabIn (w:World) (t bp bt bc:Nat) (B:List Nat) (T:TD):Prop:=∃ fp ft fc,TabAt w t bp bt bc fp ft fc B T
def Tab (w:World) (t:Nat) (B:List Nat) (T:TD):Prop:=∃ bp bt bc,TabIn w t bp bt bc B T
theorem notPg_of_map {K:IntKind} {ty:TypeId} {w:World} {b q idx:Nat} {ns:List Nat} {f:Nat→Option Nat} (hm:PMap w b f) (h:IsPg K ty w q idx ns):b≠q:=fun e=>by
 subst e
 exact hm.notCells h
section
variable {w w':World} {t bp bt bc:Nat} {fp ft fc:Nat→Option Nat} {B C:List Nat} {T:TD}
theorem TabAt.turn (h:TabAt w t bp bt bc fp ft fc B T) (ht:Turn C w w') (hd:∀ k∈B,k∉C):TabAt w' t bp bt bc fp ft fc B T:=by
 have hb:∀ k∈B,w'.heap[k]? = w.heap[k]?:=fun k hk=>ht.block k (h.ltB k hk) (hd k hk)
 refine ⟨h.ok,(hb t h.inB.1).trans h.obj,h.mp.kept (hb _ h.inB.2.1),h.mt.kept (hb _ h.inB.2.2.1),h.mc.kept (hb _ h.inB.2.2.2),fun k q hq=>?_,fun p q hq=>?_,fun p q hq=>?_,h.nc,h.has,h.hasP,h.dis,h.inB,h.ne,fun k hk=>Nat.lt_of_lt_of_le (h.ltB k hk) ht.size⟩
 ·obtain ⟨h1,h2⟩:=h.pp k q hq
  exact ⟨(hb q h2).trans h1,h2⟩
 ·obtain ⟨h1,h2⟩:=h.pt p q hq
  exact ⟨(hb q h2).trans h1,h2⟩
 ·obtain ⟨⟨ns,h0,h1⟩,h2⟩:=h.pc p q hq
  exact ⟨⟨ns,h0,(hb q h2).trans h1⟩,h2⟩
theorem TabAt.below (h:TabAt w t bp bt bc fp ft fc B T) (ht:Below w.heap.size w w'):TabAt w' t bp bt bc fp ft fc B T:=h.turn (C:=[]) (Turn.of_below ht) (by simp)
theorem TabAt.drew (h:TabAt w t bp bt bc fp ft fc B T):TabAt w.drew t bp bt bc fp ft fc B T:=h.below ⟨rfl,rfl,rfl,Nat.le_refl _,fun _ _=>rfl⟩
theorem TabAt.alloc (h:TabAt w t bp bt bc fp ft fc B T) (o:Obj):TabAt (w.alloc o) t bp bt bc fp ft fc B T:=h.below ((Below.refl _ _).alloc (Nat.le_refl _) o)
theorem TabAt.cell (h:TabAt w t bp bt bc fp ft fc B T) (j:Nat):w.cell? ⟨t,j,none⟩=(tabCells T bp bt bc)[j]?:=cell_of_row w t j _ _ _ h.obj
theorem TabAt.more (h: TabAt w t bp bt bc fp ft fc B T) {q: Nat} (hq: q < w.heap.size): TabAt w t bp bt bc fp ft fc (q::B) T:=
 { h with
  pp:=fun k x hx=>⟨(h.pp k x hx).1,List.mem_cons_of_mem _ (h.pp k x hx).2⟩
  pt:=fun k x hx=>⟨(h.pt k x hx).1,List.mem_cons_of_mem _ (h.pt k x hx).2⟩
  pc:=fun k x hx=>⟨(h.pc k x hx).1,List.mem_cons_of_mem _ (h.pc k x hx).2⟩
  inB:=⟨List.mem_cons_of_mem _ h.inB.1,List.mem_cons_of_mem _ h.inB.2.1,List.mem_cons_of_mem _ h.inB.2.2.1,List.mem_cons_of_mem _ h.inB.2.2.2⟩
  ltB:=fun k hk=>by
   rcases List.mem_cons.1 hk with rfl | hk
   ·exact hq
   ·exact h.ltB k hk }
theorem TabAt.neT (h:TabAt w t bp bt bc fp ft fc B T):bp≠t∧bt≠t∧bc≠t:=⟨fun e=>h.mp.notCells (by rw [e]; exact h.obj),fun e=>h.mt.notCells (by rw [e]; exact h.obj),fun e=>h.mc.notCells (by rw [e]; exact h.obj)⟩
theorem notObj {K:IntKind} {ty:TypeId} {q idx:Nat} {ns:List Nat} (h:TabAt w t bp bt bc fp ft fc B T) (hp:IsPg K ty w q idx ns) (hn:ty≠159):q≠t:=fun e=>by
 subst e
 unfold IsPg at hp
 rw [h.obj] at hp
 injection hp with hp
 injection hp with _ hp
 exact hn hp.symm
theorem sameIdx {K:IntKind} {ty:TypeId} {q idx idx':Nat} {ns ns':List Nat} (h:IsPg K ty w q idx ns) (h':IsPg K ty w q idx' ns'):idx=idx':=by
 have e:=h.index.symm.trans h'.index
 injection e with e
 injection e with _ e
 omega
theorem pick_not_tally {q k p:Nat} {ns ns':List Nat} (h:IsPg .u64 142 w q k ns) (h':IsPg .u16 137 w q p ns'):False:=by
 unfold IsPg at h h'
 rw [h] at h'
 injection h' with e
 injection e with _ e
 exact absurd e (by decide)
theorem hasP_set {f:Nat→Option Nat} {k q j:Nat} (h:∃ x,f j=some x):∃ x,setP f k q j=some x:=by
 obtain ⟨x,hx⟩:=h
 by_cases hk:j=k
 ·exact ⟨q,by rw [hk,setP_self]⟩
 ·exact ⟨x,by rw [setP_other hk]; exact hx⟩
theorem TabAt.addP (h:TabAt w t bp bt bc fp ft fc B T) {k q:Nat} (hq:IsPg .u64 142 w q k (T.PV k)) (hn:q∉B) (hm:PMap w' bp (setP fp k q)) (hg:w.grownBy w' (some bp)) :
  TabAt w' t bp bt bc (setP fp k q) ft fc (q::B) T:=by
 have h':=h.more hq.lt
 have hb: ∀ x∈q::B,x≠bp→w'.heap[x]? = w.heap[x]?:=fun x hx hne=>hg.block x (h'.ltB x hx) (fun e=>hne (by cases e; rfl))
 have nq:q≠bp:=fun e=>hn (e ▸ h.inB.2.1)
 refine ⟨h.ok,(hb t h'.inB.1 h.neT.1.symm).trans h.obj,hm,h.mt.kept (hb _ h'.inB.2.2.1 h.ne.1.symm),h.mc.kept (hb _ h'.inB.2.2.2 h.ne.2.1.symm),fun k' x hx=>?_,fun p x hx=>?_,fun p x hx=>?_,h.nc,h.has,fun p x hx=>hasP_set (h.hasP p x hx),h.dis,h'.inB,h.ne,fun x hx=>Nat.lt_of_lt_of_le (h'.ltB x hx) hg.size⟩
 ·by_cases hk:k'=k
  ·subst hk
   rw [setP_self] at hx
   cases hx
   exact ⟨(hb q List.mem_cons_self nq).trans hq,List.mem_cons_self⟩
  ·rw [setP_other hk] at hx
   obtain ⟨h1,h2⟩:=h'.pp k' x hx
   exact ⟨(hb x h2 (notPg_of_map h.mp h1).symm).trans h1,h2⟩
 ·obtain ⟨h1,h2⟩:=h'.pt p x hx
  exact ⟨(hb x h2 (notPg_of_map h.mp h1).symm).trans h1,h2⟩
 ·obtain ⟨⟨ns,h0,h1⟩,h2⟩:=h'.pc p x hx
  exact ⟨⟨ns,h0,(hb x h2 (notPg_of_map h.mp h1).symm).trans h1⟩,h2⟩
theorem TabAt.addT (h:TabAt w t bp bt bc fp ft fc B T) {k q:Nat} (hqp:∃ x,fp (k / 1024)=some x) (hq:IsPg .u16 137 w q k (T.TV k)) (hn:q∉B) (hm:PMap w' bt (setP ft k q)) (hg:w.grownBy w' (some bt)) :
  TabAt w' t bp bt bc fp (setP ft k q) fc (q::B) T:=by
 have h':=h.more hq.lt
 have hb: ∀ x∈q::B,x≠bt→w'.heap[x]? = w.heap[x]?:=fun x hx hne=>hg.block x (h'.ltB x hx) (fun e=>hne (by cases e; rfl))
 have nq:q≠bt:=fun e=>hn (e ▸ h.inB.2.2.1)
 refine ⟨h.ok,(hb t h'.inB.1 h.neT.2.1.symm).trans h.obj,h.mp.kept (hb _ h'.inB.2.1 h.ne.1),hm,h.mc.kept (hb _ h'.inB.2.2.2 h.ne.2.2.symm),fun p x hx=>?_,fun k' x hx=>?_,fun p x hx=>?_,h.nc,fun p x hx=>?_,fun p x hx=>(if hpk:p=k then hpk ▸ hqp else h.hasP p x (by rwa [setP_other hpk] at hx)),fun p p' x hx hx'=>?_,h'.inB,h.ne,fun x hx=>Nat.lt_of_lt_of_le (h'.ltB x hx) hg.size⟩
 ·obtain ⟨h1,h2⟩:=h'.pp p x hx
  exact ⟨(hb x h2 (notPg_of_map h.mt h1).symm).trans h1,h2⟩
 ·by_cases hk:k'=k
  ·subst hk
   rw [setP_self] at hx
   cases hx
   exact ⟨(hb q List.mem_cons_self nq).trans hq,List.mem_cons_self⟩
  ·rw [setP_other hk] at hx
   obtain ⟨h1,h2⟩:=h'.pt k' x hx
   exact ⟨(hb x h2 (notPg_of_map h.mt h1).symm).trans h1,h2⟩
 ·obtain ⟨⟨ns,h0,h1⟩,h2⟩:=h'.pc p x hx
  exact ⟨⟨ns,h0,(hb x h2 (notPg_of_map h.mt h1).symm).trans h1⟩,h2⟩
 ·obtain ⟨q',hq'⟩:=h.has p x hx
  by_cases hk:p=k
  ·exact ⟨q,by rw [hk,setP_self]⟩
  ·exact ⟨q',by rw [setP_other hk]; exact hq'⟩
 ·by_cases hk:p=k
  ·rw [hk,setP_self] at hx
   cases hx
   exact hn (h.pc p' _ hx').2
  ·rw [setP_other hk] at hx
   exact h.dis p p' x hx hx'
def setC (T:TD) (p:Nat) (ns:List Nat):TD:={ T with C:=fun x=>if x=p then some ns else T.C x }
theorem TOk.setC (h:TOk T) {p:Nat} {ns:List Nat} (hl:ns.length=64) (hn:∀ x∈ns,x < 65536) (hp:p < tlN T.n):TOk (Cnt.setC T p ns):=
 ⟨h.plan,h.ch,h.pl,h.pn,h.tl,h.tn,fun p' ns' he=>by
  unfold Cnt.setC at he
  simp only at he
  split at he
  ·cases he; exact ⟨hl,hn⟩
  ·exact h.cl p' ns' he,fun p' ns' he=>by
  unfold Cnt.setC at he ⊢
  simp only at he ⊢
  split at he
  ·rename_i e; rw [e]; exact hp
  ·exact h.ck p' ns' he⟩
theorem TabAt.addC (h:TabAt w t bp bt bc fp ft fc B T) {p q:Nat} {ns:List Nat} (hl:ns.length=64) (hnn:∀ x∈ns,x < 65536) (hpn:p < tlN T.n) (hq:IsPg .u16 137 w q p ns) (hn:q∉B) (ho:∃ q',ft p=some q') (hm:PMap w' bc (setP fc p q)) (hg:w.grownBy w' (some bc)) :
  TabAt w' t bp bt bc fp ft (setP fc p q) (q::B) (setC T p ns):=by
 have h':=h.more hq.lt
 have hb: ∀ x∈q::B,x≠bc→w'.heap[x]? = w.heap[x]?:=fun x hx hne=>hg.block x (h'.ltB x hx) (fun e=>hne (by cases e; rfl))
 have nq:q≠bc:=fun e=>hn (e ▸ h.inB.2.2.2)
 refine ⟨h.ok.setC hl hnn hpn,(hb t h'.inB.1 h.neT.2.2.symm).trans h.obj,h.mp.kept (hb _ h'.inB.2.1 h.ne.2.1),h.mt.kept (hb _ h'.inB.2.2.1 h.ne.2.2),hm,fun k x hx=>?_,fun k x hx=>?_,fun p' x hx=>?_,fun p' hx=>?_,fun p' x hx=>?_,h.hasP,fun k p' x hx hx'=>?_,h'.inB,h.ne,fun x hx=>Nat.lt_of_lt_of_le (h'.ltB x hx) hg.size⟩
 ·obtain ⟨h1,h2⟩:=h'.pp k x hx
  exact ⟨(hb x h2 (notPg_of_map h.mc h1).symm).trans h1,h2⟩
 ·obtain ⟨h1,h2⟩:=h'.pt k x hx
  exact ⟨(hb x h2 (notPg_of_map h.mc h1).symm).trans h1,h2⟩
 ·by_cases hk:p'=p
  ·subst hk
   rw [setP_self] at hx
   cases hx
   exact ⟨⟨ns,if_pos rfl,(hb q List.mem_cons_self nq).trans hq⟩,List.mem_cons_self⟩
  ·rw [setP_other hk] at hx
   obtain ⟨⟨ns',h0,h1⟩,h2⟩:=h'.pc p' x hx
   exact ⟨⟨ns',(if_neg hk).trans h0,(hb x h2 (notPg_of_map h.mc h1).symm).trans h1⟩,h2⟩
 ·by_cases hk:p'=p
  ·rw [hk,setP_self] at hx
   cases hx
  ·rw [setP_other hk] at hx
   exact (if_neg hk).trans (h.nc p' hx)
 ·by_cases hk:p'=p
  ·rw [hk]; exact ho
  ·rw [setP_other hk] at hx
   exact h.has p' x hx
 ·by_cases hk:p'=p
  ·rw [hk,setP_self] at hx'
   cases hx'
   exact hn (h.pt k _ hx).2
  ·rw [setP_other hk] at hx'
   exact h.dis k p' x hx hx'
theorem TabAt.setNum (h:TabAt w t bp bt bc fp ft fc B T) {p q j n:Nat} {ns:List Nat} (hf:fc p=some q) (hns:T.C p=some ns) (hn:n < 65536) :
  TabAt (w.setCell ⟨q,1+j,none⟩ (.int .u16 (n:Int))) t bp bt bc fp ft fc B (setC T p (ns.set j n))∧Step B w (w.setCell ⟨q,1+j,none⟩ (.int .u16 (n:Int))) B:=by
 obtain ⟨⟨ns1,h0,hq⟩,hqB⟩:=h.pc p q hf
 rw [hns] at h0
 cases h0
 have hcl:=h.ok.cl p ns hns
 have hne:∀ x,x≠q→(w.setCell ⟨q,1+j,none⟩ (.int .u16 (n:Int))).heap[x]? = w.heap[x]?:=fun x hx=>heap_setCell_other w _ x _ hx
 have hsz:(w.setCell ⟨q,1+j,none⟩ (.int .u16 (n:Int))).heap.size=w.heap.size:=by simp [World.setCell]
 refine ⟨⟨h.ok.setC (by rw [List.length_set]; exact hcl.1) (fun x hx=>?_) (h.ok.ck p ns hns),(hne t (notObj h hq (by decide)).symm).trans h.obj,h.mp.kept (hne _ (notPg_of_map h.mp hq)),h.mt.kept (hne _ (notPg_of_map h.mt hq)),h.mc.kept (hne _ (notPg_of_map h.mc hq)),fun k x hx=>?_,fun k x hx=>?_,fun p' x hx=>?_,fun p' hx=>?_,h.has,h.hasP,h.dis,h.inB,h.ne,fun x hx=>by rw [hsz]; exact h.ltB x hx⟩,Step.of_turn ((Turn.refl _ _).setCell _ _ (.inl hqB))⟩
 ·rcases List.mem_or_eq_of_mem_set hx with hx | rfl
  ·exact hcl.2 x hx
  ·exact hn
 ·obtain ⟨h1,h2⟩:=h.pp k x hx
  exact ⟨(hne x (fun e=>pick_not_tally h1 (e ▸ hq))).trans h1,h2⟩
 ·obtain ⟨h1,h2⟩:=h.pt k x hx
  exact ⟨(hne x (fun e=>h.dis k p q (e ▸ hx) hf)).trans h1,h2⟩
 ·by_cases hk:p'=p
  ·subst hk
   rw [hf] at hx
   cases hx
   exact ⟨⟨_,if_pos rfl,hq.setNum j n⟩,hqB⟩
  ·obtain ⟨⟨ns',h0,h1⟩,h2⟩:=h.pc p' x hx
   exact ⟨⟨ns',(if_neg hk).trans h0,(hne x (fun e=>hk (sameIdx (e ▸ h1) hq))).trans h1⟩,h2⟩
 ·by_cases hk:p'=p
  ·rw [hk,hf] at hx
   cases hx
  ·exact (if_neg hk).trans (h.nc p' hx)
end
end Cnt
namespace Cnt
open Go.RowKit RowLaw Crc
open Dev (Dev DS ptr Turn Step readB)
open Rot (planOk tlN pkN fsN)
theorem neTab (p:Nat) (W:World):(binOp .neq 34 (.pointer (some ⟨p,0,none⟩)) (.pointer none)).run Tryz.prog W=.ok (.bool true) W:=by kernel_rfl
theorem neDev (p:Nat) (W:World):(binOp .neq 25 (.pointer (some ⟨p,0,none⟩)) (.pointer none)).run Tryz.prog W=.ok (.bool true) W:=by kernel_rfl
section
variable {w:World} {t bp bt bc:Nat} {fp ft fc:Nat→Option Nat} {B C:List Nat} {T:TD} {s:DS}
theorem exists_nilT (w:World):Calls Tryz.prog 72 #[.pointer none] w fun e w'=>e=.returned (.bool false)∧w'=w:=by
 go_enter Tryz.func72,Tryz.ntmps72
 go_wp2
 go_ret
 exact ⟨rfl,rfl⟩
theorem exists_yesT (h:TabAt w t bp bt bc fp ft fc B T):Calls Tryz.prog 72 #[ptr t] w fun e w'=>e=.returned (.bool true)∧w'=w:=by
 have h1:=neTab t w
 have h2:=neDev T.d w
 have hc:w.cell? ⟨t,0,none⟩=some (ptr T.d):=(h.cell 0).trans rfl
 unfold ptr at hc ⊢
 clear h
 go_enter Tryz.func72,Tryz.ntmps72
 go_wp2
 go_ret
 exact ⟨rfl,rfl⟩
theorem First_anyT (h:TabAt w t bp bt bc fp ft fc B T):Calls Tryz.prog 18 #[ptr t] w fun e w'=>e=.returned (.int .u32 (fsN T.n:Int))∧w'=w:=by
 have hE:=exists_yesT h
 have hc:w.cell? ⟨t,3,none⟩=some (.int .u32 (fsN T.n:Int)):=(h.cell 3).trans rfl
 clear h
 unfold ptr at hE ⊢
 go_enter Tryz.func18,Tryz.ntmps18
 go_wp2_with ((with_reducible refine hE.mono ?_); rintro e W1 ⟨rfl,rfl⟩)
 go_ret
 exact ⟨rfl,rfl⟩
theorem Size_nilT (w:World):Calls Tryz.prog 73 #[.pointer none] w fun e w'=>e=.returned (.int .u32 0)∧w'=w:=by
 go_enter Tryz.func73,Tryz.ntmps73
 go_wp2_with ((with_reducible refine (exists_nilT _).mono ?_); rintro e W1 ⟨rfl,rfl⟩)
 go_ret
 exact ⟨rfl,rfl⟩
theorem Size_anyT (h:TabAt w t bp bt bc fp ft fc B T) (hd:Dev w T.d C s) (hn:s.n=T.n):Calls Tryz.prog 73 #[ptr t] w fun e w'=>e=.returned (.int .u32 (T.n:Int))∧w'=w:=by
  have hE:=exists_yesT h
  have hS:=Rot.Size_any hd
  rw [hn] at hS
  have hc:w.cell? ⟨t,0,none⟩=some (ptr T.d):=(h.cell 0).trans rfl
  clear h
  unfold ptr at hE hS hc ⊢
  go_enter Tryz.func73,Tryz.ntmps73
  go_wp2_with (first
    | ((with_reducible refine hE.mono ?_); rintro e W1 ⟨rfl,rfl⟩)
    | ((with_reducible refine hS.mono ?_); rintro e W1 ⟨rfl,rfl⟩))
  go_ret
  exact ⟨rfl,rfl⟩
theorem and_one32 (x:Nat) (h:x < 4294967296):bits .and .u32 (x:Int) 1=((x % 2:Nat):Int):=by
 have:=(bits_nat .u32 32 (by decide) (fun n h0 h1=>by rw [IntKind.wrap_u32]; omega) x 1 h (by decide)).1
 rw [Nat.and_one_is_mod] at this
 exact this
theorem and_one64 (x:Nat) (h:x < 18446744073709551616):bits .and .u64 (x:Int) 1=((x % 2:Nat):Int):=by
 have:=(bits_nat .u64 64 (by decide) (fun n h0 h1=>by rw [IntKind.wrap_u64]; omega) x 1 h (by decide)).1
 rw [Nat.and_one_is_mod] at this
 exact this
theorem xor_u32 (a b:Nat) (ha:a < 4294967296) (hb:b < 4294967296):bits .xor .u32 (a:Int) (b:Int)=((a ^^^ b:Nat):Int):=by
 have hx:a ^^^ b < 2 ^ 32:=Nat.xor_lt_two_pow (by omega) (by omega)
 have h1:(BitVec.ofInt 32 (a:Int)).toNat=a:=by
  rw [BitVec.ofInt_natCast,BitVec.toNat_ofNat]; exact Nat.mod_eq_of_lt (by omega)
 have h2:(BitVec.ofInt 32 (b:Int)).toNat=b:=by
  rw [BitVec.ofInt_natCast,BitVec.toNat_ofNat]; exact Nat.mod_eq_of_lt (by omega)
 show IntKind.u32.wrap ((BitVec.ofInt 32 (a:Int) ^^^ BitVec.ofInt 32 (b:Int)).toNat:Int)=_
 rw [BitVec.toNat_xor,h1,h2,IntKind.wrap_u32]
 omega
theorem shr_cast (x k:Nat):((x:Int) / 2 ^ k)=((x / 2 ^ k:Nat):Int):=by rw [Int.natCast_ediv]; congr 1
theorem shr_lt {x n:Nat} (k:Nat) (h:x < n):x / 2 ^ k < n:=Nat.lt_of_le_of_lt (Nat.div_le_self _ _) h
theorem pickAt_any (h:TabAt w t bp bt bc fp ft fc B T) {k:Nat} (hk:k < pkN T.n):Calls Tryz.prog 80 #[ptr t,.int .u32 (k:Int)] w fun e w'=>e=.returned (.tuple #[.int .u32 (pkAt T k:Int),.int .i64 0])∧w'=w:=by
 have hc:w.cell? ⟨t,4,none⟩=some (.int .u32 (T.ch:Int)):=(h.cell 4).trans rfl
 have hlt:=pkAt_lt h.ok hk
 obtain ⟨h1,h2⟩:=plan_of h.ok.plan
 have hpl:=Rot.plan_facts h1 h2
 have hk16:k < 16:=by omega
 have hbit:=and_one32 (T.ch / 2 ^ k) (shr_lt k h.ok.ch)
 rw [←shr_cast] at hbit
 have hat:pkAt T k=2+2 * k+T.ch / 2 ^ k % 2:=rfl
 have hb2:T.ch / 2 ^ k % 2 < 2:=Nat.mod_lt _ (by omega)
 generalize T.ch / 2 ^ k % 2=b at hbit hat hb2
 generalize pkAt T k=at' at hat hlt ⊢
 have HA:=Lib.hid hat
 clear h hpl hat
 have e1:(2+2 * (k:Int)+(b:Int)) % 4294967296=2+2 * k+b:=by omega
 unfold ptr
 go_enter Tryz.func80,Tryz.ntmps80
 go_wp2
 go_ret2
 refine ⟨?_,rfl⟩
 rw [HA.out]
 rfl
end
end Cnt
namespace Cnt
open Go.RowKit RowLaw Crc
open Tal (pgCells pgCells_size pgCells_one IsPg kT kP infoP zs zs_length sizeP)
theorem isBit_any {i:Nat} (hi:i < 1024) (w:World):Calls Tryz.prog 212 #[.int .i64 (i:Int)] w fun e w'=>e=.returned (.bool true)∧w'=w:=by
 have h0:(0:Int)≤(i:Int):=by omega
 have h1:(i:Int) < 1024:=by omega
 go_enter Tryz.func212,Tryz.ntmps212
 go_wp2
 go_ret
 exact ⟨rfl,rfl⟩
theorem Bit_any {k i:Nat} {ns:List Nat} (hl:ns.length=16) (hn:∀ x∈ns,x < 18446744073709551616) (hi:i < 1024) (w:World) :
  Calls Tryz.prog 155 #[.agg (pgCells .u64 k ns),.int .i64 (i:Int)] w fun e w'=>e=.returned (.tuple #[.int .i64 (bitAt ns i:Int),.int .i64 0])∧Below w.heap.size w w':=by
 have hN:=IsPg.new .u64 142 w k ns
 have hb:Below w.heap.size w (w.alloc (.cells (pgCells .u64 k ns) 142)):=(Below.refl _ _).alloc (Nat.le_refl _) _
 have hj:i / 64 < ns.length:=by omega
 have hc:(w.alloc (.cells (pgCells .u64 k ns) 142)).cell? ⟨w.heap.size,1+i / 64,none⟩=some (.int .u64 (ns[i / 64]:Int)):=hN.num (i / 64) hj
 have hx:ns[i / 64] < 18446744073709551616:=hn _ (List.getElem_mem hj)
 have hbd:bitAt ns i=ns[i / 64] / 2 ^ (i % 64) % 2:=by
  unfold bitAt
  rw [List.getD_eq_getElem?_getD,List.getElem?_eq_getElem hj]
  rfl
 generalize ns[i / 64]=x at hc hx hbd
 have hbit:=and_one64 (x / 2 ^ (i % 64)) (shr_lt _ hx)
 rw [←shr_cast] at hbit
 have hb2:x / 2 ^ (i % 64) % 2 < 2:=Nat.mod_lt _ (by omega)
 generalize x / 2 ^ (i % 64) % 2=b at hbit hb2 hbd
 rw [hbd]
 clear hbd hN hn
 obtain ⟨q,hq⟩:∃ q,q=i / 64:=⟨_,rfl⟩
 obtain ⟨r,hr⟩:∃ r,r=i % 64:=⟨_,rfl⟩
 rw [←hq] at hc
 rw [←hr] at hbit
 have d1:Int.tdiv (i:Int) 64=(q:Int):=by rw [Int.tdiv_eq_ediv_of_nonneg (by omega)]; omega
 have d2:Int.tmod (i:Int) 64=(r:Int):=by rw [Int.tmod_eq_emod_of_nonneg (by omega)]; omega
 have d3:(i:Int) / 64=(q:Int):=by omega
 have d4:(i:Int) % 64=(r:Int):=by omega
 have hq16:q < 16:=by omega
 have hr64:r < 64:=by omega
 clear hq hr
 go_enter Tryz.func155,Tryz.ntmps155
 go_wp2_with (go_at_call 212; (with_reducible refine (isBit_any hi _).mono ?_); rintro e W ⟨rfl,rfl⟩)
 go_ret2
 exact ⟨rfl,hb⟩
def turnBit (ns:List Nat) (i:Nat):List Nat:=ns.set (i / 64) (ns.getD (i / 64) 0 ^^^ 2 ^ (i % 64))
theorem turnBit_length (ns:List Nat) (i:Nat):(turnBit ns i).length=ns.length:=by simp [turnBit]
theorem Turn_any {k i:Nat} {ns:List Nat} (hl:ns.length=16) (hn:∀ x∈ns,x < 18446744073709551616) (hi:i < 1024) (w:World) :
  Calls Tryz.prog 157 #[.agg (pgCells .u64 k ns),.int .i64 (i:Int)] w fun e w'=>e=.returned (.tuple #[.agg (pgCells .u64 k (turnBit ns i)),.int .i64 0])∧Below w.heap.size w w':=by
 have hzv:=(zero_of_info infoP).1
 have hi1:=sizeP k (turnBit ns i) (by rw [turnBit_length]; exact hl)
 have hsz:(pgCells .u64 0 (zs kP)).size=(pgCells .u64 k (turnBit ns i)).size:=by rw [pgCells_size,pgCells_size,zs_length,turnBit_length,hl]; rfl
 have hk:Kept w [(w.heap.size+1,.cells (pgCells .u64 0 (zs kP)) 142),(w.heap.size,.cells (pgCells .u64 k ns) 142)] ((w.alloc (.cells (pgCells .u64 k ns) 142)).alloc (.cells (pgCells .u64 0 (zs kP)) 142)):=by
  have h:=((Kept.start w).alloc (.cells (pgCells .u64 k ns) 142)).alloc (.cells (pgCells .u64 0 (zs kP)) 142)
  rwa [show (w.alloc (.cells (pgCells .u64 k ns) 142)).heap.size=w.heap.size+1 from by simp] at h
 have hP0:IsPg .u64 142 ((w.alloc (.cells (pgCells .u64 k ns) 142)).alloc (.cells (pgCells .u64 0 (zs kP)) 142)) w.heap.size k ns:=hk.at_ (List.mem_cons_of_mem _ List.mem_cons_self)
 have hB:=Lib.hid (fun W=>isBit_any hi W)
 go_enter Tryz.func157,Tryz.ntmps157
 go_wp2_with (go_at_call 212; (with_reducible refine (hB.out _).mono ?_); rintro e W ⟨rfl,rfl⟩; generalize (w.alloc (.cells (pgCells .u64 k ns) 142)).alloc (.cells (pgCells .u64 0 (zs kP)) 142)=W at hk hP0 ⊢)
 have hj:i / 64 < ns.length:=by omega
 have hx:ns[i / 64] < 18446744073709551616:=hn _ (List.getElem_mem hj)
 have hg:ns.getD (i / 64) 0=ns[i / 64]:=by rw [List.getD_eq_getElem?_getD,List.getElem?_eq_getElem hj]; rfl
 have hc:W.drew.cell? ⟨w.heap.size,1+i / 64,none⟩=some (.int .u64 (ns[i / 64]:Int)):=hP0.num (i / 64) hj
 have hf:W.drew.frozen? ⟨w.heap.size,1+i / 64,none⟩=false:=hP0.frozen (1+i / 64)
 have hpw:2 ^ (i % 64) < 18446744073709551616:=Nat.pow_lt_pow_right (a:=2) (by omega) (show i % 64 < 64 by omega)
 have hP:IsPg .u64 142 (W.drew.setCell ⟨w.heap.size,1+i / 64,none⟩ (.int .u64 ((ns[i / 64] ^^^ 2 ^ (i % 64):Nat):Int))) w.heap.size k (turnBit ns i):=by
  have h:IsPg .u64 142 W.drew w.heap.size k ns:=hP0
  have:=h.setNum (i / 64) (ns[i / 64] ^^^ 2 ^ (i % 64))
  unfold turnBit
  rw [hg]
  exact this
 have hxor:=bits_xor_u64_nat _ _ hx hpw
 have hR:(W.drew.setCell ⟨w.heap.size,1+i / 64,none⟩ (.int .u64 ((ns[i / 64] ^^^ 2 ^ (i % 64):Nat):Int))).heap[w.heap.size+1]? = some (.cells (pgCells .u64 0 (zs kP)) 142 (0,0)):=(heap_setCell_other W.drew _ _ _ (show w.heap.size+1≠w.heap.size by omega)).trans (hk.at_ List.mem_cons_self)
 have hb:Below w.heap.size w (W.drew.setCell ⟨w.heap.size,1+i / 64,none⟩ (.int .u64 ((ns[i / 64] ^^^ 2 ^ (i % 64):Nat):Int))):=hk.bel.drew.setCell (Nat.le_refl _) _
 obtain ⟨ns',hns⟩:∃ n',n'=turnBit ns i:=⟨_,rfl⟩
 rw [←hns] at hP hi1 hsz
 replace hns:=Lib.hid hns
 generalize ns[i / 64] ^^^ 2 ^ (i % 64)=y at hP hR hb hxor
 generalize ns[i / 64]=x at hc hx hxor
 obtain ⟨q,hq⟩:∃ q,q=i / 64:=⟨_,rfl⟩
 obtain ⟨r,hr⟩:∃ r,r=i % 64:=⟨_,rfl⟩
 rw [←hq] at hc hf hP hR hb
 rw [←hr] at hxor hpw
 have d1:Int.tdiv (i:Int) 64=(q:Int):=by rw [Int.tdiv_eq_ediv_of_nonneg (by omega)]; omega
 have d2:Int.tmod (i:Int) 64=(r:Int):=by rw [Int.tmod_eq_emod_of_nonneg (by omega)]; omega
 have d3:(i:Int) / 64=(q:Int):=by omega
 have d4:(i:Int) % 64=(r:Int):=by omega
 have hq16:q < 16:=by omega
 have hr64:r < 64:=by omega
 clear hk hP0 hq hr hj hg hn hl
 have hq0:(0:Int)≤(q:Int):=by omega
 have hq1:(q:Int) < 16:=by omega
 have hr0:(0:Int)≤(r:Int):=by omega
 have hr1:(r:Int) < 64:=by omega
 have wq:IntKind.i64.wrap (q:Int)=q:=IntWalk.i64_in _ (by omega)
 have wr:IntKind.i64.wrap (r:Int)=r:=IntWalk.i64_in _ (by omega)
 have wp2:IntKind.u64.wrap ((2:Int) ^ r)=((2 ^ r:Nat):Int):=by rw [show ((2:Int) ^ r)=((2 ^ r:Nat):Int) from by push_cast; rfl]; exact IntWalk.u64_in _ ⟨Int.natCast_nonneg _,Int.ofNat_le.mpr (Nat.le_of_lt_succ hpw)⟩
 refine wp_region_still_tail 11 (by kernel_rfl) (by kernel_rfl) ?_
 simp only [List.take_succ_cons,List.take_zero,List.drop_succ_cons,List.drop_zero]
 repeat still_step
 refine wpStill_nil ?_
 change wpList _ _ _ _ _ W.drew
 rw [show ((2 ^ r:Nat):Int)=(2:Int) ^ r from by push_cast; rfl] at hxor
 rw [hxor]
 clear hxor wp2 hpw hx
 generalize W.drew=W1 at hc hf hP hR hb ⊢
 go_wp2_with (first | (refine wpList_load_row rfl 142 _ rfl w.heap.size rfl _ _ _ _ hP Tryz.underlying142 rfl hi1 ?_) | (refine wpList_store_row rfl 142 _ _ rfl (w.heap.size+1) _ rfl rfl _ _ hR hi1 hsz (pgCells_one _ _) ?_))
 exact bodyPost_ret (results_row_tmp rfl _ _ _ _ _ _ _ rfl (setRow_heap _ _ _ _ _ _ hR) Tryz.underlying142 rfl hi1) rfl ⟨by rw [←hns.out]; rfl,below_row hb (by omega)⟩
end Cnt

end Go.Proofs.YtgkbfahflngklaaGreat
