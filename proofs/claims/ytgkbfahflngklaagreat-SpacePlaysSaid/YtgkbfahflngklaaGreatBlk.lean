import Derived.WalkKit
import Derived.Deep.WholeRow
import Derived.Deep.MidRow
import Derived.BigQuiet
import Derived.Test.YtgkbfahflngklaaGreatProg
import Derived.ChangeKeysEq
import Derived.OrdersHeld
set_option maxRecDepth 100000
namespace Go.Proofs.YtgkbfahflngklaaGreat
namespace RowLaw
open Go.RowKit
variable {P:Program}
theorem lset: (∀ (x a: Value) (xs: List Value) (n: Nat),(x::xs).set (n+1) a=x::xs.set n a)∧∀ (x a: Value) (xs: List Value),(x::xs).set 0 a=a::xs:=⟨fun _ _ _ _=>List.set_cons_succ,fun _ _ _=>List.set_cons_zero⟩
theorem tkV {md:Region.Mode} {ops:Array Oper} {Q:Exit→Act→World→Prop} {S:World→Prop} {fuel:Nat} {listed:Array Bool} {L:List Value} {ds:List Deferred} {w:World} {oi:Oper} (i d:Nat) (v:Value) (hS:S w)
  (h:wpAnyH P md ops Q S fuel (listed.setIfInBounds i true) ⟨List.toArray (L.set d v),ds⟩ w) (hi:ops[i]? = some oi:=by exact rfl) (hd:oi.dst=some d:=by exact rfl) (hs:Region.noSelect ops=true:=by kernel_rfl) (hf:Region.free md ops listed i=true:=by kernel_rfl)
  (hr:(Region.ready md ops listed).contains i=true:=by kernel_rfl) (hQ:∀ c a w,Q (.panic c) (a.put oi.dst v) w→Q (.panic c) a w:=by exact fun _ _ _ h=>(h:False).elim) (hy:YieldsIf P ops S oi v ⟨List.toArray L,ds⟩:=by exact Or.inl ⟨by rfl,fun _ _=>by go_simp⟩):wpAnyH P md ops Q S (fuel+1) listed ⟨List.toArray L,ds⟩ w:=
 wpAnyH_take hi hs hf hr hQ hy hS (by
  rw [hd]
  have e:(List.toArray L).setIfInBounds d v=List.toArray (L.set d v):=List.setIfInBounds_toArray ..
  show wpAnyH P md ops Q S fuel (listed.setIfInBounds i true) ⟨(List.toArray L).setIfInBounds d v,ds⟩ w
  rw [e]
  exact h)
theorem wpList_store_new {ops:Array Oper} {rest:List Oper} {o:Oper} {a:Act} {w:World} {Q:Exit→Act→World→Prop} (hgd:o.guard=none) (ty:TypeId) (x y:Operand) (ho:o.op=.store ty x y)
  (cells:Array Value) (t:TypeId) (old:Array Value) (hx:a.eval x=.pointer (some ⟨w.heap.size,0,none⟩)) (hy:a.eval y=.agg cells)
  (hi:(P.info? ty).map (·.size)=some cells.size) (hold:old.size=cells.size) (h1:cells.all (·.oneCell')=true)
  (h: wpList P ops Q rest (a.put o.dst undef) (w.alloc (.cells cells t))): wpList P ops Q (o::rest) a (w.alloc (.cells old t)):=
 wpList_store_row hgd ty x y ho w.heap.size cells hx hy t old (heap_alloc_new _ _) hi hold h1 (by rw [World.setRow_alloc_new]; exact h)
theorem wpList_load_want {ops:Array Oper} {rest:List Oper} {o:Oper} {a:Act} {w:World} {Q:Exit→Act→World→Prop} (hw:Region.wanted o (yielded ops a.tmps)=true) (ty:TypeId) (x:Operand) (ho:o.op=.load ty x)
  (g:Nat) (hx:a.eval x=.pointer (some ⟨g,0,none⟩)) (t:TypeId) (cs:Array Value) (fr:Nat×Nat) (d:TypeDesc) (hg:w.heap[g]? = some (.cells cs t fr))
  (hu:P.underlying ty=some d) (hd:(match d with | .struct _ | .array _ _=>true | _=>false)=true) (hi:(P.info? ty).map (·.size)=some cs.size)
  (h: wpList P ops Q rest (a.put o.dst (.agg cs)) w): wpList P ops Q (o::rest) a w:=
 BigFrame.wpList_want hw fun _ hK=>wp_load_row ty x ho g hx t cs fr d hg hu hd hi (hK _ _ h)
theorem wp_region_class_lit (I:World→Prop) {id:Nat} {Q:Exit→Act→World→Prop} {a:Act} {w:World} {l:List Oper} (hm:P.follows .mixedOrders=true) (hB:Region.lexB .any l.toArray=true) (hI:I w.drew)
  (h:wpQuiet P l.toArray (fun w'=>∃ x:{w':World // I w'},w'=x.1) (fun a'=>∀ w',I w'→Q .normal a' w') l a):(Code.region id l.toArray true).wp P Q a w:=by
 refine wp_region_quiet (C:=fun w'=>∃ x:{w':World // I w'},w'=x.1) hm hB ⟨⟨_,hI⟩,rfl⟩ ?_
 have e:∀ (l':List Oper) (a:Act),wpQuiet P l.toArray (fun w'=>∃ x:{w':World // I w'},w'=x.1) (fun a'=>∀ w',I w'→Q .normal a' w') l' a→
   wpQuiet P l.toArray (fun w'=>∃ x:{w':World // I w'},w'=x.1) (fun a'=>∀ w',(∃ x:{w':World // I w'},w'=x.1)→Q .normal a' w') l' a:=by
  intro l'
  induction l' with
  | nil=>intro a h w' hw; obtain ⟨x,rfl⟩:=hw; exact h _ x.2
  | cons o r ih=>
   intro a h
   unfold wpQuiet at h ⊢
   split
   ·rename_i hw
    rw [if_pos hw] at h
    exact Oper.quiet_mono ih h
   ·rename_i hw
    rw [if_neg hw] at h
    exact ih _ h
 exact e l a h
theorem quiet_load_row {I:World→Prop} {K:Act→Prop} {o:Oper} {a:Act} (ty:TypeId) (x:Operand) (ho:o.op=.load ty x) (g:Nat) (hx:a.eval x=.pointer (some ⟨g,0,none⟩))
  (t:TypeId) (cs:Array Value) (fr:Nat×Nat) (d:TypeDesc) (hg:∀ w:World,I w→w.heap[g]? = some (.cells cs t fr))
  (hu:P.underlying ty=some d) (hd:(match d with | .struct _ | .array _ _=>true | _=>false)=true) (hi:(P.info? ty).map (·.size)=some cs.size)
  (hk:K (a.put o.dst (.agg cs))):o.quiet P a (fun w'=>∃ x:{w':World // I w'},w'=x.1) K:=
 ⟨.agg cs,fun w hw=>by
  obtain ⟨y,rfl⟩:=hw
  unfold Oper.quietAt execOp
  simp only [ho,hx,Instr.loadAt,Instr.sureAddr,Sem.run_bind,Sem.run_pure,Result.andThen_ok,run_loadVar_row y.1 g t ty cs fr d (hg y.1 y.2) hu hd hi]
  exact ⟨rfl,rfl⟩,hk⟩
end RowLaw
end Go.Proofs.YtgkbfahflngklaaGreat
namespace Go.Proofs.YtgkbfahflngklaaGreat
open Go.RowKit RowLaw
def cellsOf (l:List UInt8):Array Value:=(l.map fun u=>Value.int .u8 (u.toNat:Int)).toArray
theorem cellsOf_size (l:List UInt8):(cellsOf l).size=l.length:=by simp [cellsOf]
theorem cellsOf_get (l:List UInt8) (j:Nat) (h:j < l.length):(cellsOf l)[j]? = some (.int .u8 (l[j].toNat:Int)):=by simp [cellsOf,h]
theorem cellsOf_one (l:List UInt8):(cellsOf l).all (·.oneCell')=true:=by
 rw [Array.all_eq_true_iff_forall_mem]
 intro v hv
 simp only [cellsOf,List.mem_toArray,List.mem_map] at hv
 obtain ⟨u,_,rfl⟩:=hv
 rfl
theorem cellsOf_set (l:List UInt8) (j:Nat) (u:UInt8):(cellsOf l).setIfInBounds j (.int .u8 (u.toNat:Int))=cellsOf (l.set j u):=by
 simp [cellsOf,List.map_set]
def zeros:List UInt8:=List.replicate 256 0
theorem zeros_length:zeros.length=256:=List.length_replicate
theorem infoBlock:(Tryz.prog.info? 39).map (fun i=>(i.zero,i.size))=some (some (.agg (cellsOf zeros)),256):=by kernel_rfl
def Holds (w:World) (b:Nat) (l:List UInt8):Prop:=w.heap[b]? = some (.cells (cellsOf l) 39 (0,0))
theorem Holds.lt {w:World} {b:Nat} {l:List UInt8} (h:Holds w b l):b < w.heap.size:=by
 rcases Nat.lt_or_ge b w.heap.size with hlt | hge
 ·exact hlt
 ·unfold Holds at h; rw [Array.getElem?_eq_none hge] at h; cases h
theorem Holds.below {w w':World} {b B:Nat} {l:List UInt8} (h:Holds w b l) (hb:Below B w w') (hB:b < B):Holds w' b l:=(hb.block b hB).trans h
theorem Holds.cell {w:World} {b:Nat} {l:List UInt8} (h:Holds w b l) (j:Nat) (hj:j < l.length):w.cell? ⟨b,j,none⟩=some (.int .u8 (l[j].toNat:Int)):=
 (cell_of_row w b j _ _ _ h).trans (cellsOf_get l j hj)
theorem Holds.frozen {w:World} {b:Nat} {l:List UInt8} (h:Holds w b l) (j:Nat):w.frozen? ⟨b,j,none⟩=false:=frozen_of_row w b j _ _ h
theorem Holds.set_ {w:World} {b:Nat} {l:List UInt8} (h:Holds w b l) (j:Nat) (u:UInt8):Holds (w.setCell ⟨b,j,none⟩ (.int .u8 (u.toNat:Int))) b (l.set j u):=by
 unfold Holds
 rw [←cellsOf_set]
 exact heap_setCell_same w b j _ _ _ h
theorem Holds.other {w:World} {b:Nat} {l:List UInt8} (h:Holds w b l) (a:Addr) (v:Value) (ha:b≠a.block):Holds (w.setCell a v) b l:=
 (heap_setCell_other w a b v ha).trans h
theorem Holds.new (w:World) (l:List UInt8):Holds (w.alloc (.cells (cellsOf l) 39)) w.heap.size l:=heap_alloc_new w _
theorem Holds.alloc {w:World} {b:Nat} {l:List UInt8} (h:Holds w b l) (o:Obj):Holds (w.alloc o) b l:=(Below.heap_alloc w o b h.lt).trans h
theorem cellsOf8:Tryz.prog.cellsOf 5=1:=by kernel_rfl
theorem noGuard:Tryz.prog.eqGuardType Tryz.prog.depth 39=false:=by kernel_rfl
theorem run_part8 (w:World) (l:List UInt8) (i:Nat) (h:i < l.length):(part 5 (cellsOf l) i).run Tryz.prog w=.ok (.int .u8 (l[i].toNat:Int)) w:=by
 have hg:=cellsOf_get l i h
 simp [part,isAgg,run_underlying Tryz.underlying5,hg]
theorem run_eqItems8 (w:World) (d:Nat) (l m:List UInt8) (hl:l.length=256) (hm:m.length=256):∀ is:List Nat,(∀ i∈is,i < 256)→
  (Op.eqItems (d+1) 5 1 (cellsOf l) (cellsOf m) is).run Tryz.prog w=.ok (is.all fun i=>l[i]? == m[i]?) w
 | [],_=>by simp [Op.eqItems]
 | i::is,h=>by
  have hi:i < 256:=h i (by simp)
  have ih:=run_eqItems8 w d l m hl hm is (fun j hj=>h j (by simp [hj]))
  have e1:=run_part8 w l i (by omega)
  have e2:=run_part8 w m i (by omega)
  have e3:=run_equalIn_int (P:=Tryz.prog) w d 5 .u8 .u8 (l[i].toNat:Int) (m[i].toNat:Int) Tryz.underlying5
  have e4:(((l[i].toNat:Int) == (m[i].toNat:Int))=(l[i]? == m[i]?)):=by
   rw [List.getElem?_eq_getElem (by omega),List.getElem?_eq_getElem (by omega),Bool.eq_iff_iff]
   simp
   exact ⟨fun h=>UInt8.toNat_inj.1 (by exact_mod_cast h),fun h=>by rw [h]⟩
  simp only [Op.eqItems,Sem.run_bind,Nat.mul_one,e1,e2,e3,Result.andThen_ok,List.all_cons,e4]
  cases hb:(l[i]? == m[i]?)
  ·simp
  ·simpa using ih
theorem run_eqBlock (w:World) (l m:List UInt8) (hl:l.length=256) (hm:m.length=256) :
  (Op.equalIn 10000 39 (.agg (cellsOf l)) (.agg (cellsOf m))).run Tryz.prog w=.ok (decide (l=m)) w:=by
 obtain ⟨i,hi⟩:∃ i,Tryz.prog.info? 5=some i:=Option.isSome_iff_exists.1 (by kernel_rfl)
 rw [show (10000:Nat)=9998+1+1 from rfl,run_equalIn_array w (9998+1) (cellsOf l) (cellsOf m) Tryz.underlying39 hi,cellsOf8,run_eqItems8 w 9998 l m hl hm _ (by simp)]
 refine congrArg (Result.ok · w) ?_
 rw [Bool.eq_iff_iff]
 simp only [List.all_eq_true,List.mem_range,beq_iff_eq,decide_eq_true_eq]
 constructor
 ·intro h
  apply List.ext_getElem?
  intro i
  by_cases hi:i < 256
  ·exact h i hi
  ·rw [List.getElem?_eq_none (by omega),List.getElem?_eq_none (by omega)]
 ·intro h i _
  rw [h]
theorem results_row_tmp {P:Program} {fn:Func} {p u:Tmp} {ty:TypeId} (h:fn.results=#[.cell p ty,.tmp u]) (tmps:Array Value) (w:World) (g:Nat) (t:TypeId) (cs:Array Value) (fr:Nat×Nat) (d:TypeDesc)
  (hp:tmps.getD p undef=.pointer (some ⟨g,0,none⟩)) (hg:w.heap[g]? = some (.cells cs t fr))
  (hu:P.underlying ty=some d) (hd:(match d with | .struct _ | .array _ _=>true | _=>false)=true) (hi:(P.info? ty).map (·.size)=some cs.size) :
  (results fn tmps).run P w=.ok (.tuple #[.agg cs,tmps.getD u undef]) w:=by
 rw [results_cell_tmp h,hp]
 simp only [asAddr,Sem.run_pure,Result.andThen_ok,run_loadVar_row w g t ty cs fr d hg hu hd hi]
theorem sizeBlock (l:List UInt8) (hl:l.length=256):(Tryz.prog.info? 39).map (·.size)=some (cellsOf l).size:=by rw [cellsOf_size,hl]; exact (zero_of_info infoBlock).2
theorem yieldsIf_load_row {P:Program} {ops:Array Oper} {S:World→Prop} {op:Oper} {a:Act} (hw:Region.wanted op (yielded ops a.tmps)=true) (ty:TypeId) (x:Operand) (ho:op.op=.load ty x)
  (g:Nat) (hx:a.eval x=.pointer (some ⟨g,0,none⟩)) (t:TypeId) (cs:Array Value) (fr:Nat×Nat) (d:TypeDesc) (hS:∀ w,S w→w.heap[g]? = some (.cells cs t fr))
  (hu:P.underlying ty=some d) (hd:(match d with | .struct _ | .array _ _=>true | _=>false)=true) (hi:(P.info? ty).map (·.size)=some cs.size):YieldsIf P ops S op (.agg cs) a:=
 .inl ⟨hw,fun w hw'=>by
  unfold execOp
  simp only [ho,hx,Instr.loadAt,Instr.sureAddr,Sem.run_bind,Sem.run_pure,Result.andThen_ok,run_loadVar_row w g t ty cs fr d (hS w hw') hu hd hi]⟩
theorem below_row {w W:World} {B q:Nat} {cs:Array Value} (h:Below B w W) (hq:B≤q):Below B w (W.setRow q cs):=
 h.trans ⟨rfl,rfl,rfl,by simp,fun k hk=>setRow_other W _ _ _ (by omega)⟩
end Go.Proofs.YtgkbfahflngklaaGreat
