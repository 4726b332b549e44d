import Derived.Test.YtgkbfahflngklaaGreatSpcO1
import Derived.Test.YtgkbfahflngklaaGreatCntApK
set_option maxRecDepth 100000
namespace Go.Proofs.YtgkbfahflngklaaGreat
namespace Spc
open Go.RowKit RowLaw
open Go.Proofs.YtgkbfahflngklaaGreat.Dev (Dev DS ptr Turn)
open Go.Proofs.YtgkbfahflngklaaGreat.Rot (fsN planOk plan_facts)
open Go.Proofs.YtgkbfahflngklaaGreat.Cnt
set_option linter.unusedVariables false
def Sk (w:World) (q n:Nat) (E:List (Nat×Obj)) (S:SS) (W:World):Prop:=
 ∃ l K i j t bx s,Rs w l K i j q t bx s S W∧(∀ y∈E,y∈K)∧Inv S∧S.T.n=n
section
variable {w W W':World} {q n:Nat} {E E':List (Nat×Obj)} {S:SS}
theorem Sk.bel (x:Sk w q n E S W):Below w.heap.size w W:=by
 obtain ⟨l,K,i,j,t,bx,s,x,_⟩:=x
 exact Cnt.Hall.bel x.hall
theorem Sk.below (x:Sk w q n E S W) (hb:Below W.heap.size W W'):Sk w q n E S W':=by
 obtain ⟨l,K,i,j,t,bx,s,x,hr⟩:=x
 exact ⟨l,K,i,j,t,bx,s,Rm.below x hb,hr⟩
theorem Sk.less (x:Sk w q n E S W) (hE:∀ y∈E',y∈E):Sk w q n E' S W:=by
 obtain ⟨l,K,i,j,t,bx,s,x,he,hr⟩:=x
 exact ⟨l,K,i,j,t,bx,s,x,fun y hy=>he y (hE y hy),hr⟩
theorem Sk.inv (x:Sk w q n E S W):Inv S:=by
 obtain ⟨l,K,i,j,t,bx,s,x,_,h,_⟩:=x
 exact h
theorem Sk.en (x:Sk w q n E S W):S.T.n=n:=by
 obtain ⟨l,K,i,j,t,bx,s,x,_,_,h⟩:=x
 exact h
theorem Sk.at_ (x:Sk w q n E S W) {g:Nat} {o:Obj} (h:(g,o)∈E):W.heap[g]? = some o:=by
 obtain ⟨l,K,i,j,t,bx,s,x,he,_⟩:=x
 exact Cnt.Hall.at_ x.hall (List.mem_cons_of_mem _ (he _ h))
theorem Sk.lt_ (x:Sk w q n E S W) {g:Nat} {o:Obj} (h:(g,o)∈E):g < W.heap.size:=(Array.getElem?_eq_some_iff.1 (x.at_ h)).1
theorem Sk.cell (x:Sk w q n E S W) {g:Nat} {cs:Array Value} {T:TypeId} (h:(g,Obj.cells cs T (0,0))∈E) {j:Nat} {v:Value} (hv:cs[j]? = some v):W.cell? ⟨g,j,none⟩=some v:=
 (cell_of_row W g j _ _ _ (x.at_ h)).trans hv
theorem Sk.frozen (x:Sk w q n E S W) {g:Nat} {cs:Array Value} {T:TypeId} (h:(g,Obj.cells cs T (0,0))∈E) (j:Nat):W.frozen? ⟨g,j,none⟩=false:=frozen_of_row W g j _ _ (x.at_ h)
theorem Sk.more (x:Sk w q n E S W) {Ks:List (Nat×Obj)} (hb:Below W.heap.size W W') (hK:∀ y∈Ks,W'.heap[y.1]? = some y.2∧W.heap.size≤y.1):Sk w q n (Ks ++ E) S W':=by
 obtain ⟨l,K,i,j,t,bx,s,x,he,hr⟩:=x
 refine ⟨l,Ks ++ K,i,j,t,bx,s,Rm.more x hb hK,fun y hy=>?_,hr⟩
 rcases List.mem_append.1 hy with hy | hy
 ·exact List.mem_append_left _ hy
 ·exact List.mem_append_right _ (he y hy)
theorem Sk.alloc (x: Sk w q n E S W) (o: Obj): Sk w q n ((W.heap.size,o)::E) S (W.alloc o):=
 x.more (Ks:=[(W.heap.size,o)]) ((Below.refl _ _).alloc (Nat.le_refl _) o) (fun y hy=>by
  simp only [List.mem_singleton] at hy
  subst hy
  exact ⟨heap_alloc_new W o,Nat.le_refl _⟩)
theorem Sk.put (x:Sk w q n E S W) {g j:Nat} {cs:Array Value} {v:Value} {T:TypeId} (hm:(g,Obj.cells cs T (0,0))∈E) (hg:w.heap.size≤g) (hT:T≠60) :
  Sk w q n ((g,.cells (cs.setIfInBounds j v) T (0,0))::but g E) S (W.setCell ⟨g,j,none⟩ v):=by
 obtain ⟨l,K,i,j',t,bx,s,x,he,hr⟩:=x
 have hmK:=he _ hm
 have hq:=x.out _ hmK
 have hb:bx≠g:=fun e=>Hall.unlike x.hall (List.mem_cons_of_mem _ hmK) (List.mem_cons_of_mem _ x.bxm) hT e.symm
 have h1:=Cnt.Hall.setCell (j:=j) (v:=v) (x.hall.less (K':=(g,.cells cs T (0,0))::but g ((q,spO t bx S.f S.r S.h)::K)) (fun y hy=>by
  rcases List.mem_cons.1 hy with rfl | hy
  ·exact List.mem_cons_of_mem _ hmK
  ·exact (but_mem.1 hy).1)) hg (fun y hy=>(but_mem.1 hy).2)
 refine ⟨l,(g,.cells (cs.setIfInBounds j v) T (0,0))::but g K,i,j',t,bx,s,{ x with hall:=h1.less (fun y hy=>?_),bxm:=List.mem_cons_of_mem _ (but_mem.2 ⟨x.bxm,hb⟩),out:=fun y hy=>?_ },fun y hy=>?_,hr⟩
 ·rcases List.mem_cons.1 hy with rfl | hy
  ·exact List.mem_cons_of_mem _ (but_mem.2 ⟨List.mem_cons_self,fun e=>hq e.symm⟩)
  ·rcases List.mem_cons.1 hy with rfl | hy
   ·exact List.mem_cons_self
   ·exact List.mem_cons_of_mem _ (but_mem.2 ⟨List.mem_cons_of_mem _ (but_mem.1 hy).1,(but_mem.1 hy).2⟩)
 ·rcases List.mem_cons.1 hy with rfl | hy
  ·exact hq
  ·exact x.out _ (but_mem.1 hy).1
 ·rcases List.mem_cons.1 hy with rfl | hy
  ·exact List.mem_cons_self
  ·exact List.mem_cons_of_mem _ (but_mem.2 ⟨he _ (but_mem.1 hy).1,(but_mem.1 hy).2⟩)
theorem Sk.take (x:Sk w q n E S W) (sp:Bool):Calls Tryz.prog 36 #[.pointer (some ⟨q,0,none⟩),.bool sp] W fun e W'=>e=.returned (ansV (takeR S sp))∧Sk w q n E (S.takes (takeR S sp)) W':=by
 obtain ⟨l,K,i,j,t,bx,s,x,he,h,hn⟩:=x
 exact (Take_any x h.h1 h.h2 h.ff h.rr sp).mono fun e W' ⟨h1,hx⟩=>⟨h1,l,K,i,j,t,bx,s,hx,he,h.takes sp,(takes_n _ _).trans hn⟩
theorem Sk.free (x:Sk w q n E S W):Calls Tryz.prog 30 #[.pointer (some ⟨q,0,none⟩)] W fun e W'=>e=.returned (.int .u32 (pos S.f:Int))∧W'=W:=by
 obtain ⟨l,K,i,j,t,bx,s,x,he,h,hn⟩:=x
 have:=h.ff
 exact Free_any x.sp (by unfold inI at this; omega) (by unfold inI at this; omega)
theorem Sk.room (x:Sk w q n E S W) (sp:Bool):Calls Tryz.prog 32 #[.pointer (some ⟨q,0,none⟩),.bool sp] W fun e W'=>e=.returned (.int .u32 (roomV S.r sp:Int))∧W'=W:=by
 obtain ⟨l,K,i,j,t,bx,s,x,he,h,hn⟩:=x
 have:=h.rr
 exact Room_any x.sp (by unfold inI at this; omega) (by unfold inI at this; omega) sp
theorem Sk.hint (x:Sk w q n E S W):Calls Tryz.prog 34 #[.pointer (some ⟨q,0,none⟩)] W fun e W'=>e=.returned (.int .u32 (S.h:Int))∧W'=W:=by
 obtain ⟨l,K,i,j,t,bx,s,x,_⟩:=x
 exact Hint_any x.sp
theorem Sk.ask (x:Sk w q n E S W) {a:Nat} (ha:a < 4294967296):Calls Tryz.prog 28 #[.pointer (some ⟨q,0,none⟩),.int .u32 (a:Int)] W fun e W'=>e=.returned (.tuple #[.int .u16 (if askV S.T a 0=0 then (S.T.nowC a:Int) else 0),.int .i64 (askV S.T a 0)])∧Sk w q n E S W':=by
 obtain ⟨l,K,i,j,t,bx,s,x,he,h,hn⟩:=x
 exact (Count_any x ha).mono fun e W' ⟨h1,hx⟩=>⟨h1,l,K,i,j,t,bx,s,hx,he,h,hn⟩
theorem Sk.count (x:Sk w q n E S W) {a:Nat} (h1:fsN n≤a) (h2:a < n):Calls Tryz.prog 28 #[.pointer (some ⟨q,0,none⟩),.int .u32 (a:Int)] W fun e W'=>e=.returned (.tuple #[.int .u16 (S.T.nowC a:Int),.int .i64 0])∧Sk w q n E S W':=by
 have hs:=x.inv.small
 have hn:=x.en
 have hcc:=x.ask (a:=a) (by omega)
 have ha:askV S.T a 0=0:=by
  rw [askV_in (by rw [hn]; exact h1) (by rw [hn]; exact h2),if_neg (by omega),if_neg (by omega)]
 rw [ha,if_pos rfl] at hcc
 exact hcc
theorem ask_in {c a:Nat} (h:askV S.T a c=0):fsN S.T.n≤a∧a < S.T.n:=by
 by_cases hin:fsN S.T.n≤a∧a < S.T.n
 ·exact hin
 ·rw [askV_out hin] at h; omega
theorem Sk.lower (x:Sk w q n E S W) {a:Nat} (ha:a < 4294967296):Calls Tryz.prog 38 #[.pointer (some ⟨q,0,none⟩),.int .u32 (a:Int)] W fun e W'=>e=.returned (.tuple #[.int .u16 ((if askV S.T a 1=0 then S.T.nowC a - 1 else 0:Nat):Int),.int .i64 (askV S.T a 1)])∧Sk w q n E (if askV S.T a 1=0 then S.put a (S.T.nowC a - 1) else S) W':=by
 obtain ⟨l,K,i,j,t,bx,s,x,he,h,hn⟩:=x
 refine (Less_any x ha h.ff h.rr).mono fun e W' ⟨h1,hx⟩=>⟨h1,l,K,i,j,t,bx,s,hx,he,?_⟩
 by_cases hz:askV S.T a 1=0
 ·rw [if_pos hz]
  obtain ⟨i1,i2⟩:=ask_in hz
  exact ⟨h.put i1 i2 (by have:=nowC_lt h.ok a; omega),(setS_same S.T a _).1.trans hn⟩
 ·rw [if_neg hz]
  exact ⟨h,hn⟩
theorem Sk.raise (x:Sk w q n E S W) {a:Nat} (ha:a < 4294967296):Calls Tryz.prog 37 #[.pointer (some ⟨q,0,none⟩),.int .u32 (a:Int)] W fun e W'=>e=.returned (.int .i64 (askV S.T a 2))∧Sk w q n E (if askV S.T a 2=0 then S.put a (S.T.nowC a+1) else S) W':=by
 obtain ⟨l,K,i,j,t,bx,s,x,he,h,hn⟩:=x
 refine (More_any x ha h.ff h.rr).mono fun e W' ⟨h1,hx⟩=>⟨h1,l,K,i,j,t,bx,s,hx,he,?_⟩
 by_cases hz:askV S.T a 2=0
 ·rw [if_pos hz]
  obtain ⟨i1,i2⟩:=ask_in hz
  have hne:S.T.nowC a≠65535:=fun e=>by
   rw [askV_in i1 i2,if_neg (by omega),if_pos ⟨rfl,e⟩] at hz
   omega
  exact ⟨h.put i1 i2 (by have:=nowC_lt h.ok a; omega),(setS_same S.T a _).1.trans hn⟩
 ·rw [if_neg hz]
  exact ⟨h,hn⟩
end
theorem Begun.sk {w W:World} {n:Nat} {xs:List (Nat×Nat)} {hint bx t1 t p q:Nat} {T1:TD} {s:DS} {S:SS} {K:List (Nat×Obj)} {x:RS} {r:Slt.Rt} {cs:Array Value} (b:Begun w n xs hint bx t1 t p q T1 s S K x r cs W):Sk w q n [] S W:=
 ⟨_,K,2,0,t,bx,s,b.rs,(fun y hy=>by cases hy),b.start.inv,b.start.en⟩
def ini (f:Nat→Nat) (fs n a:Nat):List Nat:=(List.range n).map fun b=>if fs≤b∧b < a then f b else 0
theorem ini_len (f:Nat→Nat) (fs n a:Nat):(ini f fs n a).length=n:=by simp [ini]
theorem ini_get {f:Nat→Nat} {fs n a b:Nat} (hb:b < n):(ini f fs n a).getD b 0=if fs≤b∧b < a then f b else 0:=by
 unfold ini
 rw [List.getD_eq_getElem?_getD,List.getElem?_map,List.getElem?_range hb]
 rfl
theorem ini_at {f:Nat→Nat} {fs n a i:Nat} (h:i < (ini f fs n a).length):(ini f fs n a)[i]=if fs≤i∧i < a then f i else 0:=by simp [ini]
theorem ini_zero (f:Nat→Nat) (fs n:Nat):ini f fs n fs=List.replicate n 0:=by
 refine List.ext_getElem (by simp [ini]) fun i h1 h2=>?_
 rw [ini_at,List.getElem_replicate,if_neg (by omega)]
theorem ini_set {f:Nat→Nat} {fs n a:Nat} (ha:fs≤a) (han:a < n):(ini f fs n a).set a (f a)=ini f fs n (a+1):=by
 refine List.ext_getElem (by simp [ini]) fun i h1 h2=>?_
 rw [List.getElem_set,ini_at,ini_at]
 by_cases e:a=i
 ·subst e
  rw [if_pos rfl,if_pos ⟨ha,by omega⟩]
 ·rw [if_neg e]
  by_cases h:fs≤i∧i < a
  ·rw [if_pos h,if_pos ⟨h.1,by omega⟩]
  ·rw [if_neg h,if_neg (fun h'=>h ⟨h'.1,by omega⟩)]
end Spc

end Go.Proofs.YtgkbfahflngklaaGreat
