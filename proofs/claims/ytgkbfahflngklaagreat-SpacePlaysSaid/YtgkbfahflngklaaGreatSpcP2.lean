import Derived.Test.YtgkbfahflngklaaGreatSpcOpen
set_option maxRecDepth 100000
set_option maxHeartbeats 3200000
set_option linter.unusedSimpArgs false
set_option linter.unusedVariables false
namespace Go.Proofs.YtgkbfahflngklaaGreat
namespace Spc
open Go.RowKit RowLaw
open Dev (DS)
open Rot (fsN)
open Go.Proofs.YtgkbfahflngklaaGreat.Cnt
open Slt (Rt)
structure QD where
 x:RS
 r:Rt
 L:List (Nat×Nat)
 had:Nat
 hint:Nat
 first:Nat
 taken:Int
 gone:Int
abbrev QV (A:Nat→Prop) (W:World) (v:Value) (d:QD):Prop:=QT A W v d.x d.r d.L d.had d.hint d.first d.taken d.gone
def QD.put (d:QD) (a v was old:Nat):QD:={ d with L:=d.L ++ [(a,v)],taken:=d.taken - (if old=0 then zr v - zr was else 0),gone:=d.gone+(if old=0 then 0 else zr v - zr was) }
def QD.take (d:QD) (n a:Nat):QD:={ d.put a 1 0 0 with hint:=nxt n a }
def QD.takes (d:QD) (n:Nat) (o:Option Nat):QD:=match o with
 | some a=>d.take n a
 | none=>d
structure Sync (s:DS) (S:SS) (d:QD):Prop where
 sees:Sees d.x d.r s
 inv:Inv S
 n:S.T.n=s.n
 old:∀ a,oldS s d.r a=S.T.oldC a
 now:∀ a,fsN s.n≤a→a < s.n→getS s d.r d.L a=S.T.nowC a
 f:S.f=(d.had:Int) - d.taken+d.gone
 r:S.r=(d.had:Int) - d.taken
 h:d.hint=S.h
 first:d.first=fsN s.n
 had:d.had≤1000000
section
variable {s:DS} {S:SS} {d:QD}
theorem Sync.bounds (y:Sync s S d):(-100000≤d.taken∧d.taken≤1000000)∧(-100000≤d.gone∧d.gone≤100000):=by
 have h1:=cntTo_le (isZ S.T) (fsN S.T.n) (S.T.n - fsN S.T.n)
 have h2:=cntTo_le (avB S.T) (fsN S.T.n) (S.T.n - fsN S.T.n)
 have h3:=y.inv.small; have h4:=y.inv.f; have h5:=y.inv.r
 have h6:=y.f; have h7:=y.r; have h8:=y.had
 omega
theorem Sync.fs (y:Sync s S d):fsN s.n < s.n:=y.sees.small.2.2.2.1
theorem Sync.put (y:Sync s S d) {a v:Nat} (h1:fsN s.n≤a) (h2:a < s.n) (hv:v < 65536):Sync s (S.put a v) (d.put a v (S.T.nowC a) (S.T.oldC a)):=by
 have e1:fsN S.T.n≤a:=by rw [y.n]; exact h1
 have e2:a < S.T.n:=by rw [y.n]; exact h2
 have hf:=y.f; have hr:=y.r
 refine ⟨y.sees,y.inv.put e1 e2 hv,(setS_same S.T a v).1.trans y.n,fun b=>(y.old b).trans (oldC_setS S.T a v b).symm,fun b h3 h4=>?_,?_,?_,y.h,y.first,y.had⟩
 ·show getS s d.r (d.L ++ [(a,v)]) b=(setS S.T a v).nowC b
  rw [nowC_in y.inv.ok e1 e2,←y.now b h3 h4]
  unfold getS
  have hb:¬ s.n≤b:=by omega
  rw [if_neg hb,if_neg hb,lastS_snoc]
 ·show S.f+stp S.T a v=(d.had:Int) - (d.taken - (if S.T.oldC a=0 then zr v - zr (S.T.nowC a) else 0))+(d.gone+(if S.T.oldC a=0 then 0 else zr v - zr (S.T.nowC a)))
  unfold stp
  split <;> omega
 ·show (if S.T.oldC a=0 then S.r+stp S.T a v else S.r)=(d.had:Int) - (d.taken - (if S.T.oldC a=0 then zr v - zr (S.T.nowC a) else 0))
  unfold stp
  split <;> omega
theorem Sync.take (y:Sync s S d) {sp:Bool} {a:Nat} (h:takeR S sp=some a):Sync s (S.take a) (d.take s.n a):=by
 obtain ⟨a1,a2,a3,a4⟩:=y.inv.take h
 obtain ⟨o1,o2⟩:=of_decide_eq_true a3
 have hp:=y.put (a:=a) (v:=1) (by rw [←y.n]; exact a1) (by rw [←y.n]; exact a2) (by omega)
 rw [o1,o2] at hp
 exact ⟨hp.sees,a4,hp.n,hp.old,hp.now,hp.f,hp.r,by show nxt s.n a=nxt S.T.n a; rw [y.n],hp.first,hp.had⟩
theorem Sync.takes (y:Sync s S d) (sp:Bool):Sync s (S.takes (takeR S sp)) (d.takes s.n (takeR S sp)):=by
 cases h:takeR S sp with
 | none=>exact y
 | some a=>exact y.take h
end
theorem Begun.sync {w W:World} {n:Nat} {xs:List (Nat×Nat)} {hint bx t1 t p q:Nat} {T1:TD} {s:DS} {S:SS} {K:List (Nat×Obj)} {x:RS} {r:Rt} {cs:Array Value} (b:Begun w n xs hint bx t1 t p q T1 s S K x r cs W):Sync s S ⟨x,r,[],r.free,r.hint,fsN n,0,0⟩:=by
 refine ⟨b.sees,b.start.inv,b.start.en.trans b.en.symm,b.old,fun a h1 h2=>?_,?_,?_,b.eh.symm,by rw [b.en],?_⟩
 ·rw [b.start.now a,←b.old a]
  unfold getS
  rw [if_neg (by omega)]
  rfl
 ·rw [b.ef]
  show (r.free:Int)=(r.free:Int) - 0+0
  omega
 ·rw [←b.start.fr,b.ef]
  show (r.free:Int)=(r.free:Int) - 0
  omega
 ·have h1:=cntTo_le (isZ S.T) (fsN S.T.n) (S.T.n - fsN S.T.n)
  have h2:=b.start.inv.small; have h3:=b.start.inv.f; have h4:=b.ef
  show r.free≤1000000
  omega
end Spc
namespace Spc
open Go.RowKit RowLaw
open Dev (Dev DS ptr Turn)
open Rot (fsN planOk plan_facts)
open Go.Proofs.YtgkbfahflngklaaGreat.Cnt
def Pk (w:World) (q n:Nat) (E:List (Nat×Obj)) (V:List (Value×QD)) (S:SS) (W:World):Prop:=
 ∃ l K i j t bx s,Rs w l K i j q t bx s S W∧(∀ y∈E,y∈K)∧Inv S∧S.T.n=n∧∀ v∈V,QV (inK K) W v.1 v.2
section
variable {w W W':World} {q n:Nat} {E E':List (Nat×Obj)} {V V':List (Value×QD)} {S:SS}
theorem qv_rm {l l':List Thing} {K:List (Nat×Obj)} {i j t bx i' j' t' bx':Nat} {s s':DS} {S':SS} {v:Value} {d:QD} (h:QV (inK K) W v d) (x:Rs w l K i j q t bx s S W) (x':Rs w l' K i' j' q t' bx' s' S' W'):QV (inK K) W' v d:=
 h.over (Hall.same (Rm.hall x |>.less (K':=K) (fun y hy=>List.mem_cons_of_mem _ hy)) (Rm.hall x' |>.less (K':=K) (fun y hy=>List.mem_cons_of_mem _ hy)))
theorem Pk.sk (x:Pk w q n E V S W):Sk w q n E S W:=by
 obtain ⟨l,K,i,j,t,bx,s,x,he,h,hn,_⟩:=x
 exact ⟨l,K,i,j,t,bx,s,x,he,h,hn⟩
theorem Pk.below (x:Pk w q n E V S W) (hb:Below W.heap.size W W'):Pk w q n E V S W':=by
 obtain ⟨l,K,i,j,t,bx,s,x,he,h,hn,hv⟩:=x
 exact ⟨l,K,i,j,t,bx,s,Rm.below x hb,he,h,hn,fun v m=>(hv v m).kept hb⟩
theorem Pk.less (x:Pk w q n E V S W) (hE:∀ y∈E',y∈E) (hV:∀ y∈V',y∈V):Pk w q n E' V' S W:=by
 obtain ⟨l,K,i,j,t,bx,s,x,he,h,hn,hv⟩:=x
 exact ⟨l,K,i,j,t,bx,s,x,fun y hy=>he y (hE y hy),h,hn,fun v m=>hv v (hV v m)⟩
theorem Pk.more (x:Pk w q n E V S W) {Ks:List (Nat×Obj)} (hb:Below W.heap.size W W') (hK:∀ y∈Ks,W'.heap[y.1]? = some y.2∧W.heap.size≤y.1):Pk w q n (Ks ++ E) V S W':=by
 obtain ⟨l,K,i,j,t,bx,s,x,he,h,hn,hv⟩:=x
 refine ⟨l,Ks ++ K,i,j,t,bx,s,Rm.more x hb hK,fun y hy=>?_,h,hn,fun v m=>((hv v m).kept hb).mono (fun b ⟨o,hb⟩=>⟨o,List.mem_append_right _ hb⟩)⟩
 rcases List.mem_append.1 hy with hy | hy
 ·exact List.mem_append_left _ hy
 ·exact List.mem_append_right _ (he y hy)
theorem Pk.alloc (x: Pk w q n E V S W) (o: Obj): Pk w q n ((W.heap.size,o)::E) V S (W.alloc o):=
 x.more (Ks:=[(W.heap.size,o)]) ((Below.refl _ _).alloc (Nat.le_refl _) o) (fun y hy=>by
  simp only [List.mem_singleton] at hy
  subst hy
  exact ⟨heap_alloc_new W o,Nat.le_refl _⟩)
theorem Pk.call (x:Pk w q n E V S W) {v:Value} {d d':QD} (hm:(v,d)∈V) {f:FuncId} {args:Array Value} {P:Ending→Value→Prop}
  (hc:∀ A:Nat→Prop,(∀ b,W.heap.size≤b→A b)→QV A W v d→Calls Tryz.prog f args W fun e W'=>∃ v',P e v'∧QV A W' v' d'∧Below W.heap.size W W') :
  Calls Tryz.prog f args W fun e W'=>∃ v',P e v'∧Pk w q n E ((v',d')::V) S W':=by
 obtain ⟨l,K,i,j,t,bx,s,x,he,h,hn,hv⟩:=x
 refine (hc (inN K W.heap.size) (inN_new K _) ((hv _ hm).mono (fun b hb=>.inl hb))).mono fun e W' ⟨v',hp,hq,hb⟩=>?_
 obtain ⟨Ks,hKs,hq2⟩:=QT.told hq
 refine ⟨v',hp,l,Ks ++ K,i,j,t,bx,s,Rm.more x hb hKs,fun y hy=>List.mem_append_right _ (he y hy),h,hn,fun u m=>?_⟩
 rcases List.mem_cons.1 m with rfl | m
 ·exact hq2
 ·exact ((hv u m).kept hb).mono (fun b ⟨o,hb⟩=>⟨o,List.mem_append_right _ hb⟩)
theorem Pk.put (x:Pk w q n E V S W) {g j:Nat} {cs:Array Value} {v:Value} {T:TypeId} (hm:(g,Obj.cells cs T (0,0))∈E) (hg:w.heap.size≤g) (hT:T≠60) (h1:T≠55) (h2:T≠277) :
  Pk w q n ((g,.cells (cs.setIfInBounds j v) T (0,0))::but g E) V S (W.setCell ⟨g,j,none⟩ v):=by
 obtain ⟨l,K,i,j',t,bx,s,x,he,h,hn,hv⟩:=x
 have hmK:=he _ hm
 have hq:=x.out _ hmK
 have hgo:=Cnt.Hall.at_ x.hall (List.mem_cons_of_mem _ hmK)
 have hb:bx≠g:=fun e=>Hall.unlike x.hall (List.mem_cons_of_mem _ hmK) (List.mem_cons_of_mem _ x.bxm) hT e.symm
 have h3:=Cnt.Hall.setCell (j:=j) (v:=v) (x.hall.less (K':=(g,.cells cs T (0,0))::but g ((q,spO t bx S.f S.r S.h)::K)) (fun y hy=>by
  rcases List.mem_cons.1 hy with rfl | hy
  ·exact List.mem_cons_of_mem _ hmK
  ·exact (but_mem.1 hy).1)) hg (fun y hy=>(but_mem.1 hy).2)
 refine ⟨l,(g,.cells (cs.setIfInBounds j v) T (0,0))::but g K,i,j',t,bx,s,{ x with hall:=h3.less (fun y hy=>?_),bxm:=List.mem_cons_of_mem _ (but_mem.2 ⟨x.bxm,hb⟩),out:=fun y hy=>?_ },fun y hy=>?_,h,hn,fun u m=>?_⟩
 ·rcases List.mem_cons.1 hy with rfl | hy
  ·exact List.mem_cons_of_mem _ (but_mem.2 ⟨List.mem_cons_self,fun e=>hq e.symm⟩)
  ·rcases List.mem_cons.1 hy with rfl | hy
   ·exact List.mem_cons_self
   ·exact List.mem_cons_of_mem _ (but_mem.2 ⟨List.mem_cons_of_mem _ (but_mem.1 hy).1,(but_mem.1 hy).2⟩)
 ·rcases List.mem_cons.1 hy with rfl | hy
  ·exact hq
  ·exact x.out _ (but_mem.1 hy).1
 ·rcases List.mem_cons.1 hy with rfl | hy
  ·exact List.mem_cons_self
  ·exact List.mem_cons_of_mem _ (but_mem.2 ⟨he _ (but_mem.1 hy).1,(but_mem.1 hy).2⟩)
 ·refine (((hv u m).off hgo h1 h2).over (fun b hb=>heap_setCell_other W ⟨g,j,none⟩ b _ hb.2)).mono (fun b hb=>?_)
  obtain ⟨o,ho⟩:=but_in hb
  exact ⟨o,List.mem_cons_of_mem _ ho⟩
theorem Pk.setR (x:Pk w q n E V S W) {g:Nat} {cs cs2:Array Value} {T:TypeId} (hm:(g,Obj.cells cs T (0,0))∈E) (hg:w.heap.size≤g) (hT:T≠60) (h1:T≠55) (h2:T≠277) :
  Pk w q n ((g,.cells cs2 T (0,0))::but g E) V S (W.setRow g cs2):=by
 obtain ⟨l,K,i,j',t,bx,s,x,he,h,hn,hv⟩:=x
 have hmK:=he _ hm
 have hgo:=Cnt.Hall.at_ x.hall (List.mem_cons_of_mem _ hmK)
 refine ⟨l,(g,.cells cs2 T (0,0))::but g K,i,j',t,bx,s,Rm.setR x hmK hg hT,fun y hy=>?_,h,hn,fun u m=>?_⟩
 ·rcases List.mem_cons.1 hy with rfl | hy
  ·exact List.mem_cons_self
  ·exact List.mem_cons_of_mem _ (but_mem.2 ⟨he _ (but_mem.1 hy).1,(but_mem.1 hy).2⟩)
 ·refine (((hv u m).off hgo h1 h2).over (fun b hb=>setRow_other W g b cs2 hb.2)).mono (fun b hb=>?_)
  obtain ⟨o,ho⟩:=but_in hb
  exact ⟨o,List.mem_cons_of_mem _ ho⟩
theorem Pk.take (x:Pk w q n E V S W) (sp:Bool):Calls Tryz.prog 36 #[.pointer (some ⟨q,0,none⟩),.bool sp] W fun e W'=>e=.returned (ansV (takeR S sp))∧Pk w q n E V (S.takes (takeR S sp)) W':=by
 obtain ⟨l,K,i,j,t,bx,s,x,he,h,hn,hv⟩:=x
 exact (Take_any x h.h1 h.h2 h.ff h.rr sp).mono fun e W' ⟨h1,hx⟩=>⟨h1,l,K,i,j,t,bx,s,hx,he,h.takes sp,(takes_n _ _).trans hn,fun v m=>qv_rm (hv v m) x hx⟩
theorem Pk.ask (x:Pk w q n E V S W) {a:Nat} (ha:a < 4294967296):Calls Tryz.prog 28 #[.pointer (some ⟨q,0,none⟩),.int .u32 (a:Int)] W fun e W'=>e=.returned (.tuple #[.int .u16 (if askV S.T a 0=0 then (S.T.nowC a:Int) else 0),.int .i64 (askV S.T a 0)])∧Pk w q n E V S W':=by
 obtain ⟨l,K,i,j,t,bx,s,x,he,h,hn,hv⟩:=x
 exact (Count_any x ha).mono fun e W' ⟨h1,hx⟩=>⟨h1,l,K,i,j,t,bx,s,hx,he,h,hn,fun v m=>qv_rm (hv v m) x hx⟩
def SS.more (S:SS) (a:Nat):SS:=if askV S.T a 2=0 then S.put a (S.T.nowC a+1) else S
def SS.low (S:SS) (a:Nat):SS:=if askV S.T a 1=0 then S.put a (S.T.nowC a - 1) else S
theorem more_inv (h:Inv S) (a:Nat):Inv (S.more a)∧(S.more a).T.n=S.T.n:=by
 unfold SS.more
 by_cases hz:askV S.T a 2=0
 ·rw [if_pos hz]
  obtain ⟨i1,i2⟩:=ask_in hz
  have hne:S.T.nowC a≠65535:=fun e=>by
   rw [askV_in i1 i2,if_neg (by omega),if_pos ⟨rfl,e⟩] at hz
   omega
  exact ⟨h.put i1 i2 (by have:=nowC_lt h.ok a; omega),(setS_same S.T a _).1⟩
 ·rw [if_neg hz]
  exact ⟨h,rfl⟩
theorem low_inv (h:Inv S) (a:Nat):Inv (S.low a)∧(S.low a).T.n=S.T.n:=by
 unfold SS.low
 by_cases hz:askV S.T a 1=0
 ·rw [if_pos hz]
  obtain ⟨i1,i2⟩:=ask_in hz
  exact ⟨h.put i1 i2 (by have:=nowC_lt h.ok a; omega),(setS_same S.T a _).1⟩
 ·rw [if_neg hz]
  exact ⟨h,rfl⟩
theorem Pk.raise (x:Pk w q n E V S W) {a:Nat} (ha:a < 4294967296):Calls Tryz.prog 37 #[.pointer (some ⟨q,0,none⟩),.int .u32 (a:Int)] W fun e W'=>e=.returned (.int .i64 (askV S.T a 2))∧Pk w q n E V (S.more a) W':=by
 obtain ⟨l,K,i,j,t,bx,s,x,he,h,hn,hv⟩:=x
 exact (More_any x ha h.ff h.rr).mono fun e W' ⟨h1,hx⟩=>⟨h1,l,K,i,j,t,bx,s,hx,he,(more_inv h a).1,(more_inv h a).2.trans hn,fun v m=>qv_rm (hv v m) x hx⟩
theorem Pk.lower (x:Pk w q n E V S W) {a:Nat} (ha:a < 4294967296):Calls Tryz.prog 38 #[.pointer (some ⟨q,0,none⟩),.int .u32 (a:Int)] W fun e W'=>e=.returned (.tuple #[.int .u16 ((if askV S.T a 1=0 then S.T.nowC a - 1 else 0:Nat):Int),.int .i64 (askV S.T a 1)])∧Pk w q n E V (S.low a) W':=by
 obtain ⟨l,K,i,j,t,bx,s,x,he,h,hn,hv⟩:=x
 exact (Less_any x ha h.ff h.rr).mono fun e W' ⟨h1,hx⟩=>⟨h1,l,K,i,j,t,bx,s,hx,he,(low_inv h a).1,(low_inv h a).2.trans hn,fun v m=>qv_rm (hv v m) x hx⟩
end
theorem Begun.pk {w W:World} {n:Nat} {xs:List (Nat×Nat)} {hint bx t1 t p q:Nat} {T1:TD} {s:DS} {S:SS} {K:List (Nat×Obj)} {x:RS} {r:Slt.Rt} {cs:Array Value} (b:Begun w n xs hint bx t1 t p q T1 s S K x r cs W):Pk w q n [] [(.agg cs,⟨x,r,[],r.free,r.hint,fsN n,0,0⟩)] S W:=
 ⟨_,K,2,0,t,bx,s,b.rs,(fun y hy=>by cases hy),b.start.inv,b.start.en,fun v m=>by
  simp only [List.mem_singleton] at m
  subst m
  exact b.qt⟩
end Spc
namespace Spc
open Go.RowKit RowLaw
open Dev (DS)
open Rot (fsN)
open Go.Proofs.YtgkbfahflngklaaGreat.Cnt
open Slt (Rt)
variable {A:Nat→Prop}
theorem range_mid {W:World} {b o:Nat} {cs:Array Value} {vs:List Value} {t:TypeId} (h:W.heap[b]? = some (.cells cs t (0,0))) (hv:∀ j v,vs[j]? = some v→cs[o+j]? = some v):W.rangeAt b o vs:=
 fun j v hj=>(cell_of_row W b (o+j) _ _ _ h).trans (hv j v hj)
theorem dt_in_q (n:Nat) (vg vw:Value) (wr:Nat) (r:Rt) (vl:Value) (had hint first:Nat) (taken gone:Int) (j:Nat) (v:Value) (h:(dtC n vg vw wr r vl).toList[j]? = some v):(qC n vg vw wr r vl had hint first taken gone)[0+j]? = some v:=by
 rw [Nat.zero_add]
 match j,h with
 | 0,h=>exact h
 | 1,h=>exact h
 | 2,h=>exact h
 | 3,h=>exact h
 | 4,h=>exact h
 | 5,h=>exact h
 | 6,h=>exact h
 | 7,h=>exact h
 | 8,h=>exact h
 | 9,h=>exact h
 | 10,h=>exact h
 | 11,h=>exact h
 | 12,h=>exact h
 | 13,h=>exact h
 | 14,h=>exact h
 | 15,h=>exact h
 | k+16,h=>simp at h
theorem q_in_both (v0:Value) (n:Nat) (vg vw:Value) (wr:Nat) (r:Rt) (vl:Value) (had hint first:Nat) (taken gone:Int) (j:Nat) (v:Value) (h:(qC n vg vw wr r vl had hint first taken gone).toList[j]? = some v):(bothC v0 n vg vw wr r vl had hint first taken gone)[1+j]? = some v:=by
 rw [Nat.add_comm]
 match j,h with
 | 0,h=>exact h
 | 1,h=>exact h
 | 2,h=>exact h
 | 3,h=>exact h
 | 4,h=>exact h
 | 5,h=>exact h
 | 6,h=>exact h
 | 7,h=>exact h
 | 8,h=>exact h
 | 9,h=>exact h
 | 10,h=>exact h
 | 11,h=>exact h
 | 12,h=>exact h
 | 13,h=>exact h
 | 14,h=>exact h
 | 15,h=>exact h
 | 16,h=>exact h
 | 17,h=>exact h
 | 18,h=>exact h
 | 19,h=>exact h
 | 20,h=>exact h
 | k+21,h=>simp at h
theorem range_dt {W:World} {b:Nat} {n:Nat} {vg vw:Value} {wr:Nat} {r:Rt} {vl:Value} {had hint first:Nat} {taken gone:Int} (h:W.heap[b]? = some (.cells (qC n vg vw wr r vl had hint first taken gone) 67 (0,0))):W.rangeAt b 0 (dtC n vg vw wr r vl).toList:=
 range_mid h (dt_in_q n vg vw wr r vl had hint first taken gone)
theorem range_q {W:World} {b:Nat} {v0:Value} {n:Nat} {vg vw:Value} {wr:Nat} {r:Rt} {vl:Value} {had hint first:Nat} {taken gone:Int} (h:W.heap[b]? = some (.cells (bothC v0 n vg vw wr r vl had hint first taken gone) 69 (0,0))):W.rangeAt b 1 (qC n vg vw wr r vl had hint first taken gone).toList:=
 range_mid h (q_in_both v0 n vg vw wr r vl had hint first taken gone)
theorem Free10_any {w:World} {v:Value} {d:QD} (h:QV A w v d) (hh:d.had≤1000000) (ht: -100000≤d.taken∧d.taken≤1000000) (hg: -100000≤d.gone∧d.gone≤100000) :
  Calls Tryz.prog 31 #[v] w fun e w'=>e=.returned (.int .u32 (pos ((d.had:Int) - d.taken+d.gone):Int))∧Below w.heap.size w w':=by
 obtain ⟨x,r,L,had,hint,first,taken,gone⟩:=d
 obtain ⟨vg,vw,vl,rfl,-,-⟩:=h
 dsimp only at hh ht hg ⊢
 have hq:=heap_alloc_new w (.cells (qC x.n vg vw x.wr r vl had hint first taken gone) 67)
 have hb:Below w.heap.size w (w.alloc (.cells (qC x.n vg vw x.wr r vl had hint first taken gone) 67)):=(Below.refl _ _).alloc (Nat.le_refl _) _
 have c16:(w.alloc (.cells (qC x.n vg vw x.wr r vl had hint first taken gone) 67)).cell? ⟨w.heap.size,16,none⟩=some (.int .u32 (had:Int)):=(cell_of_row _ w.heap.size 16 _ _ _ hq).trans rfl
 have c19:(w.alloc (.cells (qC x.n vg vw x.wr r vl had hint first taken gone) 67)).cell? ⟨w.heap.size,19,none⟩=some (.int .i64 taken):=(cell_of_row _ w.heap.size 19 _ _ _ hq).trans rfl
 have c20:(w.alloc (.cells (qC x.n vg vw x.wr r vl had hint first taken gone) 67)).cell? ⟨w.heap.size,20,none⟩=some (.int .i64 gone):=(cell_of_row _ w.heap.size 20 _ _ _ hq).trans rfl
 obtain ⟨n1,hn1⟩:∃ n,n=(had:Int) - taken:=⟨_,rfl⟩
 obtain ⟨n2,hn2⟩:∃ n,n=n1+gone:=⟨_,rfl⟩
 have z0:IntKind.i64.wrap (had:Int)=(had:Int):=IntWalk.i64_in _ (by omega)
 have z1:IntKind.i64.wrap ((had:Int) - taken)=n1:=by rw [←hn1]; exact IntWalk.i64_in _ (by omega)
 have z2:IntKind.i64.wrap (n1+gone)=n2:=by rw [←hn2]; exact IntWalk.i64_in _ (by omega)
 have hr: -2000000≤n2∧n2≤2000000∧n2 < 4294967296:=by omega
 rw [←hn1,←hn2]
 clear hn1 hn2 hq hh ht hg
 rcases Int.lt_trichotomy n2 0 with h | h | h
 case' inl=>
  have e:(pos n2:Int)=0:=by unfold pos; omega
  have hz:¬ 0≤n2:=by omega
  have hz2:¬ n2≥0:=by omega
  have hz3:n2≤0:=by omega
 case' inr.inl=>
  subst h
  have e:(pos 0:Int)=0:=rfl
 case' inr.inr=>
  have e:(pos n2:Int)=n2:=by unfold pos; omega
  have hz:0≤n2:=by omega
  have hz3:¬ n2≤0:=by omega
  have hw:IntKind.u32.wrap n2=n2:=IntWalk.u32_in _ (by omega)
 all_goals
  rw [e]
  clear e
  go_enter Tryz.func31,Tryz.ntmps31
  go_upto_region 1 with fail
  change Code.wp _ _ _ _ (w.alloc (.cells (qC x.n vg vw x.wr r vl had hint first taken gone) 67))
  generalize w.alloc (.cells (qC x.n vg vw x.wr r vl had hint first taken gone) 67)=W1 at hb c16 c19 c20 ⊢
  go_wp2_with fail
  go_ret
  exact ⟨rfl,hb⟩
theorem Room10_any {w:World} {v:Value} {d:QD} (h:QV A w v d) (hh:d.had≤1000000) (ht: -100000≤d.taken∧d.taken≤1000000) (sp:Bool) :
  Calls Tryz.prog 33 #[v,.bool sp] w fun e w'=>e=.returned (.int .u32 (roomV ((d.had:Int) - d.taken) sp:Int))∧Below w.heap.size w w':=by
 obtain ⟨x,r,L,had,hint,first,taken,gone⟩:=d
 obtain ⟨vg,vw,vl,rfl,-,-⟩:=h
 dsimp only at hh ht ⊢
 have hq:=heap_alloc_new w (.cells (qC x.n vg vw x.wr r vl had hint first taken gone) 67)
 have hb:Below w.heap.size w (w.alloc (.cells (qC x.n vg vw x.wr r vl had hint first taken gone) 67)):=(Below.refl _ _).alloc (Nat.le_refl _) _
 have c16:(w.alloc (.cells (qC x.n vg vw x.wr r vl had hint first taken gone) 67)).cell? ⟨w.heap.size,16,none⟩=some (.int .u32 (had:Int)):=(cell_of_row _ w.heap.size 16 _ _ _ hq).trans rfl
 have c19:(w.alloc (.cells (qC x.n vg vw x.wr r vl had hint first taken gone) 67)).cell? ⟨w.heap.size,19,none⟩=some (.int .i64 taken):=(cell_of_row _ w.heap.size 19 _ _ _ hq).trans rfl
 obtain ⟨n1,hn1⟩:∃ n,n=(had:Int) - taken:=⟨_,rfl⟩
 obtain ⟨n2,hn2⟩:∃ n,n=if sp then n1 else n1 - 24:=⟨_,rfl⟩
 have z0:IntKind.i64.wrap (had:Int)=(had:Int):=IntWalk.i64_in _ (by omega)
 have z1:IntKind.i64.wrap ((had:Int) - taken)=n1:=by rw [←hn1]; exact IntWalk.i64_in _ (by omega)
 have hr: -2000000≤n2∧n2≤2000000∧n2 < 4294967296:=by rw [hn2]; split <;> omega
 have e0:roomV n1 sp=pos n2:=by
  rw [hn2]
  unfold roomV
  split <;> rfl
 rw [←hn1,e0]
 have z2:sp=false→IntKind.i64.wrap (n1 - 24)=n2:=fun e=>by
  subst e
  rw [hn2,if_neg (by decide)]
  exact IntWalk.i64_in _ (by omega)
 have hs:sp=true→n1=n2:=fun e=>by
  subst e
  rw [hn2,if_pos rfl]
 clear hn1 hn2 hq hh ht e0
 cases sp
 case' false=>have z3:=z2 rfl
 case' true=>
  have z3:=(hs rfl).symm
  subst z3
 all_goals
  clear hs z2
  rcases Int.lt_trichotomy n2 0 with h | h | h
  case' inl=>
   have e:(pos n2:Int)=0:=by unfold pos; omega
   have hz:¬ 0≤n2:=by omega
   have hz2:¬ n2≥0:=by omega
   have hz3:n2≤0:=by omega
  case' inr.inl=>
   subst h
   have e:(pos 0:Int)=0:=rfl
  case' inr.inr=>
   have e:(pos n2:Int)=n2:=by unfold pos; omega
   have hz:0≤n2:=by omega
   have hz3:¬ n2≤0:=by omega
   have hw:IntKind.u32.wrap n2=n2:=IntWalk.u32_in _ (by omega)
  all_goals
   rw [e]
   clear e
   go_enter Tryz.func33,Tryz.ntmps33
   go_upto_region 1 with fail
   change Code.wp _ _ _ _ (w.alloc (.cells (qC x.n vg vw x.wr r vl had hint first taken gone) 67))
   generalize w.alloc (.cells (qC x.n vg vw x.wr r vl had hint first taken gone) 67)=W1 at hb c16 c19 ⊢
   go_wp2_with fail
   go_ret
   exact ⟨rfl,hb⟩
theorem Sync.ask {s:DS} {S:SS} {d:QD} (y:Sync s S d) (a:Nat):(if fsN s.n≤a∧a < s.n then getS s d.r d.L a else 0:Nat)=(if askV S.T a 0=0 then S.T.nowC a else 0:Nat)∧(if fsN s.n≤a∧a < s.n then 0 else 2:Int)=askV S.T a 0:=by
 by_cases hin:fsN s.n≤a∧a < s.n
 ·have ea:askV S.T a 0=0:=by rw [askV_in (by rw [y.n]; exact hin.1) (by rw [y.n]; exact hin.2),if_neg (by omega),if_neg (by omega)]
  rw [ea,if_pos hin,if_pos hin,if_pos rfl,y.now a hin.1 hin.2]
  exact ⟨rfl,rfl⟩
 ·have ea:askV S.T a 0=2:=askV_out (by rw [y.n]; exact hin)
  rw [ea,if_neg hin,if_neg hin,if_neg (by decide)]
  exact ⟨rfl,rfl⟩
theorem Count10_any {w:World} {v:Value} {d:QD} {s:DS} {S:SS} (h:QV A w v d) (y:Sync s S d) (hL:d.L.length < 1000000) {a:Nat} :
  Calls Tryz.prog 29 #[v,.int .u32 (a:Int)] w fun e w'=>e=.returned (.tuple #[.int .u16 (if askV S.T a 0=0 then (S.T.nowC a:Int) else 0),.int .i64 (askV S.T a 0)])∧Below w.heap.size w w':=by
 obtain ⟨e1,e2⟩:=y.ask a
 have e3:(if askV S.T a 0=0 then (S.T.nowC a:Int) else 0)=((if fsN s.n≤a∧a < s.n then getS s d.r d.L a else 0:Nat):Int):=by rw [e1]; split <;> rfl
 rw [e3,←e2]
 have hS:=y.sees
 have hfs:=y.first
 clear e1 e2 e3 y
 obtain ⟨x,r,L,had,hint,first,taken,gone⟩:=d
 obtain ⟨vg,vw,vl,rfl,h2,h3⟩:=h
 dsimp only at hS hfs hL ⊢
 have hsz:=hS.size
 have hq:=heap_alloc_new w (.cells (qC x.n vg vw x.wr r vl had hint first taken gone) 67)
 have hb:Below w.heap.size w (w.alloc (.cells (qC x.n vg vw x.wr r vl had hint first taken gone) 67)):=(Below.refl _ _).alloc (Nat.le_refl _) _
 have c18:(w.alloc (.cells (qC x.n vg vw x.wr r vl had hint first taken gone) 67)).cell? ⟨w.heap.size,18,none⟩=some (.int .u32 (first:Int)):=(cell_of_row _ w.heap.size 18 _ _ _ hq).trans rfl
 have c8:(w.alloc (.cells (qC x.n vg vw x.wr r vl had hint first taken gone) 67)).cell? ⟨w.heap.size,8,none⟩=some (.int .u32 (s.n:Int)):=(cell_of_row _ w.heap.size 8 _ _ _ hq).trans (by rw [←hsz]; rfl)
 have HG:Hid _:=Lib.hid (Get9_any (w:=w.alloc (.cells (qC x.n vg vw x.wr r vl had hint first taken gone) 67)) (v:=.agg (dtC x.n vg vw x.wr r vl)) (x:=x) (r:=r) (L:=L) (s:=s) (a:=a) (DT.kept ⟨⟨vg,vw,vl,rfl,h2,h3⟩⟩ hb) hS hL)
 have hid:(Tryz.prog.info? 65).map (·.size)=some (dtC x.n vg vw x.wr r vl).size:=sizeDT x.n vg vw x.wr r vl
 have HSUB:=Lib.hid (range_dt hq)
 rw [←hfs]
 clear hS h2 h3 hL hfs hsz
 by_cases h1:a < first
 ·rw [if_neg (by omega),if_neg (by omega)]
  have i1:(a:Int) < (first:Int):=by omega
  clear HG HSUB hid
  go_enter Tryz.func29,Tryz.ntmps29
  go_upto_region 1 with fail
  change Code.wp _ _ _ _ (w.alloc (.cells (qC x.n vg vw x.wr r vl had hint first taken gone) 67))
  generalize w.alloc (.cells (qC x.n vg vw x.wr r vl had hint first taken gone) 67)=W1 at hb c8 c18 ⊢
  go_wp2_with fail
  go_ret2
  exact ⟨rfl,hb⟩
 ·have i1:¬ (a:Int) < (first:Int):=by omega
  by_cases h2:s.n≤a
  ·rw [if_neg (by omega),if_neg (by omega)]
   have i2:(s.n:Int)≤(a:Int):=by omega
   clear HG HSUB hid
   go_enter Tryz.func29,Tryz.ntmps29
   go_upto_region 1 with fail
   change Code.wp _ _ _ _ (w.alloc (.cells (qC x.n vg vw x.wr r vl had hint first taken gone) 67))
   generalize w.alloc (.cells (qC x.n vg vw x.wr r vl had hint first taken gone) 67)=W1 at hb c8 c18 ⊢
   go_wp2_with fail
   go_ret2
   exact ⟨rfl,hb⟩
  ·rw [if_pos (by omega),if_pos (by omega)]
   have i2:¬ (s.n:Int)≤(a:Int):=by omega
   have ez:cntE s.n a=0:=if_neg h2
   rw [ez] at HG
   generalize getS s r L a=m at HG ⊢
   clear h1 h2 ez
   go_enter Tryz.func29,Tryz.ntmps29
   go_upto_region 1 with fail
   change Code.wp _ _ _ _ (w.alloc (.cells (qC x.n vg vw x.wr r vl had hint first taken gone) 67))
   generalize w.alloc (.cells (qC x.n vg vw x.wr r vl had hint first taken gone) 67)=W1 at hb hq c8 c18 HG HSUB ⊢
   obtain ⟨q,hqq⟩:∃ q,q=w.heap.size:=⟨_,rfl⟩
   rw [←hqq] at hq c8 c18 HSUB ⊢
   clear hqq
   go_wp2_with (refine Dev.wpList_load_sub rfl 65 _ rfl q 0 rfl (dtC x.n vg vw x.wr r vl) _ HSUB.out Tryz.underlying65 rfl hid ?_)
   refine HG.out.mono ?_
   clear HG
   rintro e W2 ⟨rfl,hx⟩
   go_wp2_with fail
   go_ret2
   exact ⟨rfl,hb.trans (hx.mono hb.size)⟩
end Spc

end Go.Proofs.YtgkbfahflngklaaGreat
