import Derived.Test.YtgkbfahflngklaaGreatSpcU2
set_option maxRecDepth 100000
namespace Go.Proofs.YtgkbfahflngklaaGreat
namespace Spc
open Go.RowKit RowLaw
open Dev (DS)
open Cnt (TD TOk tdOf tdOf_ok Sound setS setC chs chg differs tlPut pkPut sealL tlAt pkAt)
open Slt (Rt)
open Tal (kT kP putB)
open Rot (planOk tlN pkN fsN)
structure Same9 (s:DS) (r:Rt) (T:TD) (L:List (Nat×Nat)):Prop where
 n:T.n=s.n
 ch:T.ch=r.picks
 PV:T.PV=(tdOf 0 s r.picks).PV
 TV:T.TV=(tdOf 0 s r.picks).TV
 now:∀ p,T.now p=nowTo s r L p 64
 rng:∀ y∈L,fsN s.n≤y.1∧y.1 < s.n
theorem lastS_snoc (L:List (Nat×Nat)) (a v b d:Nat):lastS (L ++ [(a,v)]) b d=if a=b then v else lastS L b d:=by
 unfold lastS
 rw [List.foldl_append]
 rfl
theorem Same9.start {s:DS} {r:Rt} (hl:∀ p,((tdOf 0 s r.picks).TV p).length=64) (d:Nat):Same9 s r (tdOf d s r.picks) []:=by
 refine ⟨rfl,rfl,rfl,rfl,fun p=>?_,fun y hy=>by cases hy⟩
 rw [Cnt.now_none rfl]
 show (tdOf 0 s r.picks).TV p=_
 refine List.ext_getElem (by rw [hl,nowTo_len]) fun j h1 h2=>?_
 rw [nowTo_get]
 have hj:j < 64:=by rw [hl] at h1; exact h1
 have e:((tdOf 0 s r.picks).TV p).getD j 0=((tdOf 0 s r.picks).TV p)[j]:=by rw [List.getD_eq_getElem?_getD,List.getElem?_eq_getElem h1]; rfl
 split
 ·rename_i h
  unfold getS
  rw [if_neg (by omega)]
  show _=oldS s r (64 * p+j)
  unfold oldS Cnt.TD.oldC Cnt.cntV
  rw [show (tdOf 0 s r.picks).n=s.n from rfl,if_pos (show fsN s.n≤64 * p+j∧64 * p+j < s.n from h.2),show (64 * p+j) / 64=p by omega,show (64 * p+j) % 64=j by omega,e]
 ·rw [e]
theorem Same9.set_ {s:DS} {r:Rt} {T:TD} {L:List (Nat×Nat)} (h:Same9 s r T L) (a v:Nat):Same9 s r (setS T a v) (setL s.n L a v):=by
 unfold setS setL
 rw [h.n]
 by_cases hin:fsN s.n≤a∧a < s.n
 ·rw [if_pos hin,if_pos hin]
  refine ⟨h.n,h.ch,h.PV,h.TV,fun p=>?_,fun y hy=>by
   rcases List.mem_append.1 hy with hy | hy
   ·exact h.rng y hy
   ·simp only [List.mem_singleton] at hy
    subst hy
    exact hin⟩
  have e:(setC T (a / 64) ((T.now (a / 64)).set (a % 64) v)).now p=if p=a / 64 then (T.now (a / 64)).set (a % 64) v else T.now p:=by
   unfold TD.now setC
   simp only
   split <;> rfl
  rw [e]
  by_cases hp:p=a / 64
  ·rw [if_pos hp,h.now]
   refine List.ext_getElem (by rw [List.length_set,nowTo_len,nowTo_len]) fun j h1 h2=>?_
   rw [nowTo_len] at h2
   rw [List.getElem_set,nowTo_get,nowTo_get]
   by_cases hj:a % 64=j
   ·rw [if_pos hj,if_pos ⟨h2,by omega,by omega⟩]
    unfold getS
    rw [if_neg (by omega),lastS_snoc,if_pos (by omega)]
   ·rw [if_neg hj,←hp]
    split
    ·unfold getS
     rw [if_neg (by omega),if_neg (by omega),lastS_snoc,if_neg (by omega)]
    ·rfl
  ·rw [if_neg hp,h.now]
   refine List.ext_getElem (by rw [nowTo_len,nowTo_len]) fun j h1 h2=>?_
   rw [nowTo_len] at h2
   rw [nowTo_get,nowTo_get]
   split
   ·unfold getS
    rw [if_neg (by omega),if_neg (by omega),lastS_snoc,if_neg (by omega)]
   ·rfl
 ·rw [if_neg hin,if_neg hin]
  exact h
theorem Same9.nowC {s:DS} {r:Rt} {T:TD} {L:List (Nat×Nat)} (h:Same9 s r T L) {a:Nat} (h1:fsN s.n≤a) (h2:a < s.n):T.nowC a=getS s r L a:=by
 unfold Cnt.TD.nowC Cnt.cntV
 rw [h.n,if_pos ⟨h1,h2⟩,h.now,List.getD_eq_getElem?_getD,List.getElem?_eq_getElem (by rw [nowTo_len]; omega),Option.getD_some,nowTo_get,if_pos ⟨by omega,by omega,by omega⟩]
 congr 1
 omega
theorem sorted_ext:∀ {l m:List Nat},l.Pairwise (· < ·)→m.Pairwise (· < ·)→(∀ y,y∈l↔y∈m)→l=m
 | [],[],_,_,_=>rfl
 | [],y::m,_,_,h=>absurd ((h y).2 List.mem_cons_self) (by simp)
 | x::l,[],_,_,h=>absurd ((h x).1 List.mem_cons_self) (by simp)
 | x::l,y::m,hl,hm,h=>by
  obtain ⟨h1,h2⟩:=List.pairwise_cons.1 hl
  obtain ⟨h3,h4⟩:=List.pairwise_cons.1 hm
  have hxy:x=y:=by
   rcases List.mem_cons.1 ((h x).1 List.mem_cons_self) with e | e
   ·exact e
   ·rcases List.mem_cons.1 ((h y).2 List.mem_cons_self) with e2 | e2
    ·exact e2.symm
    ·have:=h1 y e2; have:=h3 x e; omega
  subst hxy
  congr 1
  refine sorted_ext h2 h4 fun z=>⟨fun hz=>?_,fun hz=>?_⟩
  ·rcases List.mem_cons.1 ((h z).1 (List.mem_cons_of_mem _ hz)) with e | e
   ·subst e; have:=h1 z hz; omega
   ·exact e
  ·rcases List.mem_cons.1 ((h z).2 (List.mem_cons_of_mem _ hz)) with e | e
   ·subst e; have:=h3 z hz; omega
   ·exact e
theorem idx_facts (a:Nat):∀ l:List Nat,l.Pairwise (· < ·)→idxD a l≤l.length∧(∀ y∈l.take (idxD a l),y < a)∧∀ y∈l.drop (idxD a l),a≤y
 | [],_=>⟨Nat.zero_le _,fun y h=>by simp [idxD] at h,fun y h=>by simp [idxD] at h⟩
 | x::l,hp=>by
  obtain ⟨h1,h2⟩:=List.pairwise_cons.1 hp
  obtain ⟨i1,i2,i3⟩:=idx_facts a l h2
  by_cases hx:x < a
  ·have e: idxD a (x::l)=idxD a l+1:=by unfold idxD; rw [List.takeWhile_cons,if_pos (by simpa using hx),List.length_cons]
   rw [e]
   refine ⟨by simp only [List.length_cons]; omega,fun y hy=>?_,fun y hy=>?_⟩
   ·rw [List.take_succ_cons] at hy
    rcases List.mem_cons.1 hy with rfl | hy
    ·exact hx
    ·exact i2 y hy
   ·rw [List.drop_succ_cons] at hy
    exact i3 y hy
  ·have e: idxD a (x::l)=0:=by unfold idxD; rw [List.takeWhile_cons,if_neg (by simpa using hx)]; rfl
   rw [e]
   refine ⟨Nat.zero_le _,fun y hy=>by simp at hy,fun y hy=>?_⟩
   rw [List.drop_zero] at hy
   rcases List.mem_cons.1 hy with rfl | hy
   ·omega
   ·have:=h1 y hy; omega
theorem insD_facts {a:Nat} {l:List Nat} (h:l.Pairwise (· < ·)):(insD a l).Pairwise (· < ·)∧∀ y,y∈insD a l↔y=a∨y∈l:=by
 obtain ⟨h1,h2,h3⟩:=idx_facts a l h
 have hsplit:l.take (idxD a l) ++ l.drop (idxD a l)=l:=List.take_append_drop _ _
 by_cases he:l[idxD a l]? = some a
 ·have e:insD a l=l:=if_pos he
  rw [e]
  exact ⟨h,fun y=>⟨.inr,fun hy=>by rcases hy with rfl | hy; exact List.mem_of_getElem? he; exact hy⟩⟩
 ·have e:insD a l=l.take (idxD a l) ++ [a] ++ l.drop (idxD a l):=if_neg he
  have hp:=h
  rw [←hsplit] at hp
  obtain ⟨p1,p2,p3⟩:=List.pairwise_append.1 hp
  have h4:∀ y∈l.drop (idxD a l),a < y:=by
   cases hd:l.drop (idxD a l) with
   | nil=>intro y hy; cases hy
   | cons z m=>
    have hz:l[idxD a l]? = some z:=by
     have:=List.getElem?_drop (xs:=l) (i:=idxD a l) (j:=0)
     rw [hd,Nat.add_zero] at this
     exact this.symm
    have hza:z≠a:=fun e=>he (by rw [hz,e])
    have hz2:a≤z:=h3 z (by rw [hd]; exact List.mem_cons_self)
    intro y hy
    rw [hd] at p2
    obtain ⟨q1,_⟩:=List.pairwise_cons.1 p2
    rcases List.mem_cons.1 hy with rfl | hy
    ·omega
    ·have:=q1 y hy; omega
  rw [e]
  refine ⟨?_,fun y=>?_⟩
  ·refine List.pairwise_append.2 ⟨List.pairwise_append.2 ⟨p1,by simp,fun x hx y hy=>?_⟩,p2,fun x hx y hy=>?_⟩
   ·simp only [List.mem_singleton] at hy
    subst hy
    exact h2 x hx
   ·rcases List.mem_append.1 hx with hx | hx
    ·exact p3 x hx y hy
    ·simp only [List.mem_singleton] at hx
     subst hx
     exact h4 y hy
  ·conv=>rhs; rw [←hsplit]
   simp only [List.mem_append,List.mem_singleton]
   constructor
   ·rintro ((h | h) | h)
    ·exact .inr (.inl h)
    ·exact .inl h
    ·exact .inr (.inr h)
   ·rintro (h | h | h)
    ·exact .inl (.inr h)
    ·exact .inl (.inl h)
    ·exact .inr h
theorem chg_facts (s:DS) (r:Rt) (L:List (Nat×Nat)):∀ (M:List (Nat×Nat)) (acc:List Nat),acc.Pairwise (· < ·)→(M.foldl (fun l x=>if oldS s r x.1=getS s r L x.1 then l else insD x.1 l) acc).Pairwise (· < ·)∧
  ∀ y,y∈M.foldl (fun l x=>if oldS s r x.1=getS s r L x.1 then l else insD x.1 l) acc↔y∈acc∨(oldS s r y≠getS s r L y∧∃ x∈M,x.1=y)
 | [],acc,h=>⟨h,fun y=>⟨.inl,fun h=>by rcases h with h | ⟨_,x,hx,_⟩; exact h; cases hx⟩⟩
 | x::M,acc,h=>by
  rw [List.foldl_cons]
  by_cases hx:oldS s r x.1=getS s r L x.1
  ·rw [if_pos hx]
   obtain ⟨h1,h2⟩:=chg_facts s r L M acc h
   refine ⟨h1,fun y=>(h2 y).trans ⟨fun h=>?_,fun h=>?_⟩⟩
   ·rcases h with h | ⟨h3,z,hz,e⟩
    ·exact .inl h
    ·exact .inr ⟨h3,z,List.mem_cons_of_mem _ hz,e⟩
   ·rcases h with h | ⟨h3,z,hz,e⟩
    ·exact .inl h
    ·rcases List.mem_cons.1 hz with rfl | hz
     ·subst e; exact absurd hx h3
     ·exact .inr ⟨h3,z,hz,e⟩
  ·rw [if_neg hx]
   obtain ⟨i1,i2⟩:=insD_facts (a:=x.1) h
   obtain ⟨h1,h2⟩:=chg_facts s r L M (insD x.1 acc) i1
   refine ⟨h1,fun y=>(h2 y).trans ⟨fun h=>?_,fun h=>?_⟩⟩
   ·rcases h with h | ⟨h3,z,hz,e⟩
    ·rcases (i2 y).1 h with rfl | h
     ·exact .inr ⟨hx,x,List.mem_cons_self,rfl⟩
     ·exact .inl h
    ·exact .inr ⟨h3,z,List.mem_cons_of_mem _ hz,e⟩
   ·rcases h with h | ⟨h3,z,hz,e⟩
    ·exact .inl ((i2 y).2 (.inr h))
    ·rcases List.mem_cons.1 hz with rfl | hz
     ·exact .inl ((i2 y).2 (.inl e.symm))
     ·exact .inr ⟨h3,z,hz,e⟩
theorem lastS_none:∀ (L:List (Nat×Nat)) (a d:Nat),(∀ x∈L,x.1≠a)→lastS L a d=d
 | [],_,_,_=>rfl
 | x::L,a,d,h=>by
  show lastS L a (if x.1=a then x.2 else d)=d
  rw [if_neg (h x List.mem_cons_self)]
  exact lastS_none L a d fun y hy=>h y (List.mem_cons_of_mem _ hy)
theorem chgD_facts (s:DS) (r:Rt) (L:List (Nat×Nat)):(chgD s r L L).Pairwise (· < ·)∧∀ y,y∈chgD s r L L↔oldS s r y≠getS s r L y:=by
 obtain ⟨h1,h2⟩:=chg_facts s r L L [] List.Pairwise.nil
 refine ⟨h1,fun y=>(h2 y).trans ⟨fun h=>?_,fun h=>.inr ⟨h,?_⟩⟩⟩
 ·rcases h with h | h
  ·cases h
  ·exact h.1
 ·refine Classical.byContradiction fun hn=>h ?_
  unfold getS
  split
  ·rename_i hy
   exact oldS_out hy
  ·rw [lastS_none L y _ (fun x hx e=>hn ⟨x,hx,e⟩)]
theorem pages_facts (per:Nat):∀ (xs acc:List Nat),acc.Pairwise (· < ·)→xs.Pairwise (· < ·)→(∀ y∈acc,∀ a∈xs,y≤a / per)→
  (xs.foldl (fun out a=>if out.getLast? = some (a / per) then out else out ++ [a / per]) acc).Pairwise (· < ·)∧∀ y,y∈xs.foldl (fun out a=>if out.getLast? = some (a / per) then out else out ++ [a / per]) acc↔y∈acc∨∃ a∈xs,a / per=y
 | [],acc,h,_,_=>⟨h,fun y=>⟨.inl,fun h=>by rcases h with h | ⟨x,hx,_⟩; exact h; cases hx⟩⟩
 | a::xs,acc,h,hx,hle=>by
  obtain ⟨x1,x2⟩:=List.pairwise_cons.1 hx
  rw [List.foldl_cons]
  by_cases hl:acc.getLast? = some (a / per)
  ·rw [if_pos hl]
   obtain ⟨h1,h2⟩:=pages_facts per xs acc h x2 (fun y hy b hb=>hle y hy b (List.mem_cons_of_mem _ hb))
   refine ⟨h1,fun y=>(h2 y).trans ⟨fun h=>?_,fun h=>?_⟩⟩
   ·rcases h with h | ⟨z,hz,e⟩
    ·exact .inl h
    ·exact .inr ⟨z,List.mem_cons_of_mem _ hz,e⟩
   ·rcases h with h | ⟨z,hz,e⟩
    ·exact .inl h
    ·rcases List.mem_cons.1 hz with rfl | hz
     ·exact .inl (e ▸ List.mem_of_getLast? hl)
     ·exact .inr ⟨z,hz,e⟩
  ·rw [if_neg hl]
   have hlt:∀ y∈acc,y < a / per:=fun y hy=>by
    have h0:=hle y hy a List.mem_cons_self
    rcases Nat.lt_or_eq_of_le h0 with h0 | h0
    ·exact h0
    ·exfalso
     refine hl ?_
     obtain ⟨m,z,hm⟩:∃ m z,acc=m ++ [z]:=⟨acc.dropLast,acc.getLast (List.ne_nil_of_mem hy),(List.dropLast_concat_getLast _).symm⟩
     rw [hm,List.getLast?_append,List.getLast?_singleton,Option.some_or]
     rw [hm] at hy h
     have hz:=hle z (by rw [hm]; simp) a List.mem_cons_self
     rcases List.mem_append.1 hy with hy | hy
     ·have:=(List.pairwise_append.1 h).2.2 y hy z (by simp)
      omega
     ·simp only [List.mem_singleton] at hy
      rw [←hy,h0]
   obtain ⟨h1,h2⟩:=pages_facts per xs (acc ++ [a / per]) (List.pairwise_append.2 ⟨h,by simp,fun y hy z hz=>by simp only [List.mem_singleton] at hz; subst hz; exact hlt y hy⟩) x2 (fun y hy b hb=>by
    rcases List.mem_append.1 hy with hy | hy
    ·exact hle y hy b (List.mem_cons_of_mem _ hb)
    ·simp only [List.mem_singleton] at hy
     subst hy
     exact Nat.div_le_div_right (Nat.le_of_lt (x1 b hb)))
   refine ⟨h1,fun y=>(h2 y).trans ⟨fun h=>?_,fun h=>?_⟩⟩
   ·rcases h with h | ⟨z,hz,e⟩
    ·rcases List.mem_append.1 h with h | h
     ·exact .inl h
     ·simp only [List.mem_singleton] at h
      exact .inr ⟨a,List.mem_cons_self,h.symm⟩
    ·exact .inr ⟨z,List.mem_cons_of_mem _ hz,e⟩
   ·rcases h with h | ⟨z,hz,e⟩
    ·exact .inl (List.mem_append_left _ h)
    ·rcases List.mem_cons.1 hz with rfl | hz
     ·exact .inl (List.mem_append_right _ (by simp [e]))
     ·exact .inr ⟨z,hz,e⟩
theorem chP_facts (s:DS) (r:Rt) (L:List (Nat×Nat)):(chP s r L).Pairwise (· < ·)∧∀ p,p∈chP s r L↔∃ a,oldS s r a≠getS s r L a∧a / 64=p:=by
 obtain ⟨c1,c2⟩:=chgD_facts s r L
 obtain ⟨h1,h2⟩:=pages_facts 64 (chgD s r L L) [] List.Pairwise.nil c1 (fun y hy=>by cases hy)
 refine ⟨h1,fun p=>(h2 p).trans ⟨fun h=>?_,fun h=>.inr ?_⟩⟩
 ·rcases h with h | ⟨a,ha,e⟩
  ·cases h
  ·exact ⟨a,(c2 a).1 ha,e⟩
 ·obtain ⟨a,ha,e⟩:=h
  exact ⟨a,(c2 a).2 ha,e⟩
theorem oldS_in {s:DS} {r:Rt} {p j:Nat} (hj:j < 64) (h:fsN s.n≤64 * p+j∧64 * p+j < s.n):oldS s r (64 * p+j)=((tdOf 0 s r.picks).TV p).getD j 0:=by
 unfold oldS Cnt.TD.oldC Cnt.cntV
 rw [show (tdOf 0 s r.picks).n=s.n from rfl,if_pos h,show (64 * p+j) / 64=p by omega,show (64 * p+j) % 64=j by omega]
theorem Same9.chs {s:DS} {r:Rt} {T:TD} {L:List (Nat×Nat)} (h:Same9 s r T L) {ks:List Nat} (hks:ks.Pairwise (· < ·)) (hk:∀ a,a∈ks↔(T.C a).isSome=true):Cnt.chs T ks=chP s r L:=by
 obtain ⟨p1,p2⟩:=chP_facts s r L
 refine sorted_ext (hks.filter _) p1 fun p=>?_
 rw [p2]
 have hmem:p∈Cnt.chs T ks↔∃ i,i < 64∧(T.now p).getD i 0≠(T.TV p).getD i 0:=by
  unfold Cnt.chs
  rw [List.mem_filter,decide_eq_true_eq]
  have hc:chg T p≠[]↔∃ i,i < 64∧(T.now p).getD i 0≠(T.TV p).getD i 0:=by
   constructor
   ·intro hne
    obtain ⟨y,hy⟩:=List.exists_mem_of_ne_nil _ hne
    obtain ⟨i,hi,_⟩:=List.mem_map.1 hy
    obtain ⟨hi1,hi2⟩:=List.mem_filter.1 hi
    exact ⟨i,List.mem_range.1 hi1,by unfold differs at hi2; simpa using hi2⟩
   ·rintro ⟨i,hi,hd⟩ e
    have:p * 64+i∈chg T p:=List.mem_map.2 ⟨i,List.mem_filter.2 ⟨List.mem_range.2 hi,by unfold differs; simpa using hd⟩,rfl⟩
    rw [e] at this
    cases this
  rw [hc]
  refine ⟨fun h=>h.2,fun h2=>⟨(hk p).2 ?_,h2⟩⟩
  obtain ⟨i,_,hd⟩:=h2
  cases hcp:T.C p with
  | none=>exact absurd (by rw [Cnt.now_none hcp]) hd
  | some ns=>rfl
 rw [hmem]
 constructor
 ·rintro ⟨i,hi,hd⟩
  rw [h.now,h.TV,List.getD_eq_getElem?_getD,List.getElem?_eq_getElem (by rw [nowTo_len]; exact hi),Option.getD_some,nowTo_get] at hd
  by_cases hin:fsN s.n≤64 * p+i∧64 * p+i < s.n
  ·rw [if_pos ⟨hi,hin.1,hin.2⟩] at hd
   exact ⟨64 * p+i,by rw [oldS_in hi hin]; exact fun e=>hd e.symm,by omega⟩
  ·rw [if_neg (fun h=>hin h.2)] at hd
   exact absurd rfl hd
 ·rintro ⟨a,ha,rfl⟩
  have hlt:a < s.n:=Classical.byContradiction fun hn=>ha (by rw [oldS_out (by omega)]; unfold getS; rw [if_pos (by omega)])
  have hge:fsN s.n≤a:=Classical.byContradiction fun hn=>ha (by
   unfold getS
   rw [if_neg (by omega),lastS_none L a _ (fun y hy e=>by have:=h.rng y hy; omega)])
  refine ⟨a % 64,by omega,?_⟩
  have e:64 * (a / 64)+a % 64=a:=by omega
  rw [h.now,h.TV,List.getD_eq_getElem?_getD,List.getElem?_eq_getElem (by rw [nowTo_len]; omega),Option.getD_some,nowTo_get,e,if_pos ⟨by omega,hge,hlt⟩]
  have h2:=oldS_in (s:=s) (r:=r) (p:=a / 64) (j:=a % 64) (by omega) (by rw [e]; exact ⟨hge,hlt⟩)
  rw [e] at h2
  rw [←h2]
  exact fun e=>ha e.symm
theorem Same9.sealed {s:DS} {r:Rt} {T:TD} {L:List (Nat×Nat)} (h:Same9 s r T L) {ks:List Nat} (hks:ks.Pairwise (· < ·)) (hk:∀ a,a∈ks↔(T.C a).isSome=true):sealL T ks=sealD s r L:=by
 have hc:=h.chs hks hk
 unfold sealL sealD
 rw [hc]
 have h1:∀ p,tlPut T p=tlD s r L p:=fun p=>by
  unfold tlPut tlD
  rw [oth_eq,h.now]
  congr 1
  unfold tlAt
  rw [h.n,h.PV]
  rfl
 have h2:pkPut T (chP s r L)=pkD s r (chP s r L):=by
  unfold pkPut pkD
  rw [oth_eq,h.PV]
  congr 1
  unfold pkAt
  rw [h.ch]
  rfl
 rw [h2,List.map_congr_left (fun p _=>h1 p)]
end Spc

end Go.Proofs.YtgkbfahflngklaaGreat
