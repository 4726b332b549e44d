import Derived.Test.YtgkbfahflngklaaGreatBlk
import Derived.Test.YtgkbfahflngklaaGreatProg
import Derived.Laws.StructEq
import Derived.ChangeKeysEq
import Derived.OrdersHeld
import Derived.Deep.RegionHeld
set_option maxRecDepth 100000
namespace Go.Proofs.YtgkbfahflngklaaGreat
namespace RowLaw
open Go.RowKit
def FieldsAre (fs : List Field) (l : List (TypeId × Nat)) : Prop := (fs.map fun f => (decide (f.name ≠ "_"), f.type, f.offset)) = l.map fun x => (true, x.1, x.2)
theorem eqF_nil (w:World) (d:Nat) (xs ys:Array Value) (fs:List Field) (h:FieldsAre fs []):(Op.eqFields d xs ys fs).run Tryz.prog w=.ok true w:=by
 obtain rfl:fs=[]:=by
  unfold FieldsAre at h
  simpa using h
 rw [Op.eqFields]; rfl
theorem eqF_cons (w: World) (d: Nat) (xs ys: Array Value) (fs: List Field) (t: TypeId) (o: Nat) (l: List (TypeId×Nat)) (x y: Value) (b r: Bool) (h: FieldsAre fs ((t,o)::l)) (hx: (part t xs o).run Tryz.prog w=.ok x w) (hy: (part t ys o).run Tryz.prog w=.ok y w)
  (he:(Op.equalIn d t x y).run Tryz.prog w=.ok b w) (hr:∀ gs,FieldsAre gs l→(Op.eqFields d xs ys gs).run Tryz.prog w=.ok r w):(Op.eqFields d xs ys fs).run Tryz.prog w=.ok (b&&r) w:=by
 cases fs with
 | nil=>unfold FieldsAre at h; simp at h
 | cons f gs=>
  unfold FieldsAre at h
  simp only [List.map_cons,List.cons.injEq,Prod.mk.injEq,decide_eq_true_eq] at h
  obtain ⟨⟨f1,f2,f3⟩,hg⟩:=h
  rw [Op.eqFields,if_pos f1,f2,f3,Sem.run_bind,hx,Result.andThen_ok,Sem.run_bind,hy,Result.andThen_ok,Sem.run_bind,he,Result.andThen_ok]
  cases b with
  | false=>rw [if_pos (by simp)]; rfl
  | true=>rw [if_neg (by simp),hr gs hg]; rfl
theorem part32 (w:World) (cs:Array Value) (i:Nat) (z:Int) (h:cs[i]? = some (.int .u32 z)):(part 22 cs i).run Tryz.prog w=.ok (.int .u32 z) w:=by
 simp [part,isAgg,run_underlying Tryz.underlying22,h]
end RowLaw
namespace RowLaw
open Go.RowKit
def upd (f:Nat→Option Nat) (i q:Nat):Nat→Option Nat:=fun j=>if j=i then some q else f j
end RowLaw
namespace RowLaw
open Go.RowKit
def updV (f:Nat→Option Value) (i:Nat) (v:Value):Nat→Option Value:=fun j=>if j=i then some v else f j
def putsF (a:Act) (f:Nat→Option Value):List (Nat×Nat)→Act
  | []=>a
  | (i,d)::l=>match f i with
    | none=>putsF a f l
    | some v=>(putsF a f l).put (some d) v
def setB (b:Array Bool) (s:Nat→Bool):List (Nat×Nat)→Array Bool
  | []=>b
  | (i,_)::l=>if s i=true then (setB b s l).setIfInBounds i true else setB b s l
def missF (s:Nat→Bool):List (Nat×Nat)→Nat
  | []=>0
  | (i,_)::l=>(if s i=true then 0 else 1)+missF s l
def isF (f:Nat→Option Value):Nat→Bool:=fun i=>(f i).isSome
def notD (d:Nat):List (Nat×Nat)→Bool
  | []=>true
  | (_,e)::l=>decide (d≠e)&&notD d l
def notI (i:Nat):List (Nat×Nat)→Bool
  | []=>true
  | (j,_)::l=>decide (i≠j)&&notI i l
def apartL:List (Nat×Nat)→Bool
  | []=>true
  | (i,d)::l=>notI i l&&(notD d l&&apartL l)
theorem put_swapV (a:Act) (i j:Nat) (x y:Value) (h:i≠j):(a.put (some i) x).put (some j) y=(a.put (some j) y).put (some i) x:=by
 simp only [Act.put]
 rw [Array.setIfInBounds_comm _ _ h]
theorem putsF_other (a:Act) (f:Nat→Option Value) (i:Nat) (v:Value):∀ l:List (Nat×Nat),notI i l=true→putsF a (updV f i v) l=putsF a f l
  | [],_=>rfl
  | (j,e)::l,h=>by
    unfold notI at h
    rw [Bool.and_eq_true,decide_eq_true_eq] at h
    unfold putsF
    have:updV f i v j=f j:=if_neg (fun e=>h.1 e.symm)
    rw [this,putsF_other a f i v l h.2]
theorem putsF_upd (a:Act) (f:Nat→Option Value) (i d:Nat) (v:Value):∀ l:List (Nat×Nat),apartL l=true→(i,d)∈l→f i=none→putsF a (updV f i v) l=(putsF a f l).put (some d) v
  | [],_,h,_=>by cases h
  | (j,e)::l,ha,h,hf=>by
    unfold apartL at ha
    rw [Bool.and_eq_true,Bool.and_eq_true] at ha
    rcases List.mem_cons.1 h with h | h
    · cases h
      unfold putsF
      have:updV f i v i=some v:=if_pos rfl
      rw [this,hf,putsF_other a f i v l ha.1]
    · have hij:¬ j=i:=by
        rintro rfl
        have:∀ l:List (Nat×Nat),notI j l=true→∀ d,(j,d)∉l:=by
          intro l
          induction l with
          | nil=>intro _ _ h; cases h
          | cons x l ih=>
            intro h d hd
            unfold notI at h
            rw [Bool.and_eq_true,decide_eq_true_eq] at h
            rcases List.mem_cons.1 hd with h2 | h2
            · cases h2; exact h.1 rfl
            · exact ih h.2 d h2
        exact this l ha.1 d h
      have hde:∀ l:List (Nat×Nat),notD e l=true→(i,d)∈l→d≠e:=by
        intro l
        induction l with
        | nil=>intro _ h; cases h
        | cons x l ih=>
          intro h hd
          unfold notD at h
          rw [Bool.and_eq_true,decide_eq_true_eq] at h
          rcases List.mem_cons.1 hd with h2 | h2
          · cases h2; exact fun e=>h.1 e.symm
          · exact ih h.2 h2
      have hne:=hde l ha.2.1 h
      unfold putsF
      have hj:updV f i v j=f j:=if_neg hij
      rw [hj,putsF_upd a f i d v l ha.2.2 h hf]
      cases f j with
      | none=>rfl
      | some u=>exact put_swapV _ d e _ _ hne
theorem isF_upd (f:Nat→Option Value) (i j:Nat) (v:Value):isF (updV f i v) j=(decide (j=i)||isF f j):=by
 unfold isF updV
 by_cases h:j=i
 ·simp [h]
 ·simp [h]
theorem setB_other (b:Array Bool) (f:Nat→Option Value) (i:Nat) (v:Value):∀ l:List (Nat×Nat),notI i l=true→setB b (isF (updV f i v)) l=setB b (isF f) l
  | [],_=>rfl
  | (j,e)::l,h=>by
    unfold notI at h
    rw [Bool.and_eq_true,decide_eq_true_eq] at h
    unfold setB
    have:isF (updV f i v) j=isF f j:=by rw [isF_upd,decide_eq_false (fun e=>h.1 e.symm)]; rfl
    rw [this,setB_other b f i v l h.2]
theorem missF_other (f:Nat→Option Value) (i:Nat) (v:Value):∀ l:List (Nat×Nat),notI i l=true→missF (isF (updV f i v)) l=missF (isF f) l
  | [],_=>rfl
  | (j,e)::l,h=>by
    unfold notI at h
    rw [Bool.and_eq_true,decide_eq_true_eq] at h
    unfold missF
    have:isF (updV f i v) j=isF f j:=by rw [isF_upd,decide_eq_false (fun e=>h.1 e.symm)]; rfl
    rw [this,missF_other f i v l h.2]
theorem notI_of {j d:Nat}:∀ l:List (Nat×Nat),notI j l=true→(j,d)∉l
 | [],_,h=>by cases h
 | x::l,h,hd=>by
  unfold notI at h
  rw [Bool.and_eq_true,decide_eq_true_eq] at h
  rcases List.mem_cons.1 hd with h2 | h2
  ·cases h2; exact h.1 rfl
  ·exact notI_of l h.2 h2
theorem setB_upd (b:Array Bool) (f:Nat→Option Value) (i d:Nat) (v:Value):∀ l:List (Nat×Nat),apartL l=true→(i,d)∈l→f i=none→setB b (isF (updV f i v)) l=(setB b (isF f) l).setIfInBounds i true
  | [],_,h,_=>by cases h
  | (j,e)::l,ha,h,hf=>by
    unfold apartL at ha
    rw [Bool.and_eq_true,Bool.and_eq_true] at ha
    rcases List.mem_cons.1 h with h | h
    · cases h
      unfold setB
      have h1:isF (updV f i v) i=true:=by rw [isF_upd,decide_eq_true rfl]; rfl
      have h2:isF f i=false:=by unfold isF; rw [hf]; rfl
      rw [h1,h2,setB_other b f i v l ha.1,if_pos rfl,if_neg (by simp)]
    · have hij:¬ j=i:=by rintro rfl; exact notI_of l ha.1 h
      unfold setB
      have hj:isF (updV f i v) j=isF f j:=by rw [isF_upd,decide_eq_false hij]; rfl
      rw [hj,setB_upd b f i d v l ha.2.2 h hf]
      split
      · exact Array.setIfInBounds_comm _ _ (fun e=>hij e.symm)
      · rfl
theorem missF_upd (f:Nat→Option Value) (i d:Nat) (v:Value):∀ l:List (Nat×Nat),apartL l=true→(i,d)∈l→f i=none→missF (isF (updV f i v)) l+1=missF (isF f) l
  | [],_,h,_=>by cases h
  | (j,e)::l,ha,h,hf=>by
    unfold apartL at ha
    rw [Bool.and_eq_true,Bool.and_eq_true] at ha
    rcases List.mem_cons.1 h with h | h
    · cases h
      unfold missF
      have h1:isF (updV f i v) i=true:=by rw [isF_upd,decide_eq_true rfl]; rfl
      have h2:isF f i=false:=by unfold isF; rw [hf]; rfl
      rw [h1,h2,missF_other f i v l ha.1,if_pos rfl,if_neg (by simp)]
      omega
    · have hij:¬ j=i:=by rintro rfl; exact notI_of l ha.1 h
      unfold missF
      have hj:isF (updV f i v) j=isF f j:=by rw [isF_upd,decide_eq_false hij]; rfl
      have:=missF_upd f i d v l ha.2.2 h hf
      rw [hj]
      omega
theorem missF_zero {f:Nat→Option Value}:∀ l:List (Nat×Nat),missF (isF f) l=0→∀ i d,(i,d)∈l→∃ v,f i=some v
  | [],_,_,_,h=>by cases h
  | (j,e)::l,hm,i,d,h=>by
    unfold missF at hm
    rcases List.mem_cons.1 h with h | h
    · cases h
      by_cases h1:isF f j=true
      · exact Option.isSome_iff_exists.1 h1
      · rw [if_neg h1] at hm; omega
    · exact missF_zero l (by omega) i d h
def waysB (deps:List (Nat×Nat)):List (Nat×Nat)→List (Nat→Bool)
  | []=>[fun _=>false]
  | (i,_)::l=>(waysB deps l).flatMap fun s=>if (deps.all fun x => !decide (x.1=i)||s x.2)=true then [s,fun j=>decide (j=i)||s j] else [s]
def orderB (deps:List (Nat×Nat)):List (Nat×Nat)→Bool
  | []=>true
  | (i,_)::l=>(deps.all fun x => !decide (x.1=i) || !notI x.2 l)&&orderB deps l
def movesOk (md:Region.Mode) (ops:Array Oper) (b:Array Bool) (l deps:List (Nat×Nat)):Bool:=
 apartL l&&(orderB deps l&&(waysB deps l).all fun s=>decide (missF s l=0) ||
  (!(Region.ready md ops (setB b s l)).isEmpty&&(Region.ready md ops (setB b s l)).all fun i=>(!notI i l&&(!s i&&deps.all fun x => !decide (x.1=i)||s x.2))))
def cutS (s:Nat→Bool):List (Nat×Nat)→Nat→Bool
  | []=>fun _=>false
  | (i,_)::l=>if s i=true then fun j=>decide (j=i)||cutS s l j else cutS s l
theorem cutS_eq (s:Nat→Bool) (j:Nat):∀ l:List (Nat×Nat),cutS s l j=(!notI j l&&s j)
  | []=>rfl
  | (i,d)::l=>by
    have ih:=cutS_eq s j l
    unfold cutS notI
    by_cases h:s i=true
    · rw [if_pos h]
      show (decide (j=i)||cutS s l j)=_
      by_cases hj:j=i
      · subst hj; simp [h]
      · rw [ih]; simp [hj]
    · rw [if_neg h,ih]
      by_cases hj:j=i
      · subst hj; simp [h]
      · simp [hj]
theorem cutS_mem (deps:List (Nat×Nat)) (s:Nat→Bool) (hcl:∀ i j,(i,j)∈deps→s i=true→s j=true):∀ l:List (Nat×Nat),orderB deps l=true→cutS s l∈waysB deps l
  | [],_=>List.mem_cons_self
  | (i,d)::l,ho=>by
    unfold orderB at ho
    rw [Bool.and_eq_true] at ho
    unfold waysB
    rw [List.mem_flatMap]
    refine ⟨_,cutS_mem deps s hcl l ho.2,?_⟩
    by_cases h:s i=true
    · have hd:(deps.all fun x => !decide (x.1=i)||cutS s l x.2)=true:=List.all_eq_true.2 fun x hx=>by
        have h2:=List.all_eq_true.1 ho.1 x hx
        by_cases e:x.1=i
        · have h3:s x.2=true:=hcl x.1 x.2 hx (by rw [e]; exact h)
          rw [decide_eq_true e] at h2 ⊢
          rw [cutS_eq,h3]
          simpa using h2
        · rw [decide_eq_false e]; rfl
      rw [if_pos hd,show cutS s ((i,d)::l)=fun j=>decide (j=i)||cutS s l j from if_pos h]
      exact List.mem_cons_of_mem _ List.mem_cons_self
    · rw [show cutS s ((i,d)::l)=cutS s l from if_neg h]
      split
      · exact List.mem_cons_self
      · exact List.mem_cons_self
theorem setB_congr (b:Array Bool) (s t:Nat→Bool):∀ l:List (Nat×Nat),(∀ i d,(i,d)∈l→s i=t i)→setB b s l=setB b t l
  | [],_=>rfl
  | (i,d)::l,h=>by
    unfold setB
    rw [h i d List.mem_cons_self,setB_congr b s t l fun j e hj=>h j e (List.mem_cons_of_mem _ hj)]
theorem missF_congr (s t:Nat→Bool):∀ l:List (Nat×Nat),(∀ i d,(i,d)∈l→s i=t i)→missF s l=missF t l
  | [],_=>rfl
  | (i,d)::l,h=>by
    unfold missF
    rw [h i d List.mem_cons_self,missF_congr s t l fun j e hj=>h j e (List.mem_cons_of_mem _ hj)]
theorem mem_of_notI {i:Nat}:∀ l:List (Nat×Nat),notI i l=false→∃ d,(i,d)∈l
  | [],h=>by cases h
  | (j,e)::l,h=>by
    unfold notI at h
    rw [Bool.and_eq_false_iff] at h
    rcases h with h | h
    · have:i=j:=by simpa using h
      subst this
      exact ⟨e,List.mem_cons_self⟩
    · obtain ⟨d,hd⟩:=mem_of_notI l h
      exact ⟨d,List.mem_cons_of_mem _ hd⟩
theorem wpAnyH_moves {P:Program} {md:Region.Mode} {ops:Array Oper} {Q:Exit→Act→World→Prop} {S:World→Prop} (l deps:List (Nat×Nat)) (b:Array Bool) (a:Act) (Inv:(Nat→Option Value)→World→Prop) (m:Nat)
  (hok:movesOk md ops b l deps=true)
  (hS:∀ f W,Inv f W→S W)
  (hstep:∀ i d,(i,d)∈l→∀ f W (K:Act→World→Prop),f i=none→(∀ j,(i,j)∈deps→∃ v,f j=some v)→Inv f W→(∀ v W',Inv (updV f i v) W'→K ((putsF a f l).put (some d) v) W')→wpOp P ops Q i K (putsF a f l) W)
  (hend:∀ f W,(∀ i d,(i,d)∈l→∃ v,f i=some v)→Inv f W→wpAnyH P md ops Q S m (setB b (isF f) l) (putsF a f l) W) :
  ∀ k f W,missF (isF f) l=k→(∀ i j,(i,j)∈deps→isF f i=true→isF f j=true)→Inv f W→wpAnyH P md ops Q S (m+k) (setB b (isF f) l) (putsF a f l) W
 | 0,f,W,hc,_,hI=>hend f W (missF_zero l hc) hI
 | k+1,f,W,hc,hcl,hI=>by
  have hok':=hok
  unfold movesOk at hok'
  rw [Bool.and_eq_true,Bool.and_eq_true] at hok'
  obtain ⟨hap,hor,hall⟩:=hok'
  have hw:=List.all_eq_true.1 hall _ (cutS_mem deps (isF f) hcl l hor)
  have hsame:∀ i d,(i,d)∈l→cutS (isF f) l i=isF f i:=fun i d hi=>by
   rw [cutS_eq]
   cases hn:notI i l with
   | false=>simp
   | true=>exact absurd hi (notI_of l hn)
  rw [setB_congr b _ _ l hsame,missF_congr _ _ l hsame,hc] at hw
  rw [decide_eq_false (by omega),Bool.false_or,Bool.and_eq_true] at hw
  obtain ⟨h1,h2⟩:=hw
  refine wpAnyH_all (rs:=Region.ready md ops (setB b (isF f) l)) rfl (fun h=>by rw [h] at h1; cases h1) fun i him=>?_
  have h3:=List.all_eq_true.1 h2 i him
  rw [Bool.and_eq_true,Bool.and_eq_true] at h3
  obtain ⟨h4,h5,h6⟩:=h3
  have hni:notI i l=false:=by simpa using h4
  obtain ⟨d,hd⟩:=mem_of_notI l hni
  have h7:isF f i=false:=by
   rw [hsame i d hd] at h5
   simpa using h5
  have hfi:f i=none:=by
   unfold isF at h7
   cases h:f i with
   | none=>rfl
   | some v=>rw [h] at h7; cases h7
  have hdp:∀ j,(i,j)∈deps→isF f j=true:=fun j hj=>by
   have h8:=List.all_eq_true.1 h6 (i,j) hj
   rw [decide_eq_true rfl] at h8
   have h9:cutS (isF f) l j=true:=by simpa using h8
   rw [cutS_eq,Bool.and_eq_true] at h9
   exact h9.2
  refine hstep i d hd f W _ hfi (fun j hj=>Option.isSome_iff_exists.1 (hdp j hj)) hI fun v W' hI'=>⟨hS _ _ hI',?_⟩
  rw [←setB_upd b f i d v l hap hd hfi,←putsF_upd a f i d v l hap hd hfi]
  refine wpAnyH_moves l deps b a Inv m hok hS hstep hend k (updV f i v) W' (by have:=missF_upd f i d v l hap hd hfi; omega) (fun i' j hij h=>?_) hI'
  rw [isF_upd] at h ⊢
  by_cases e:i'=i
  ·subst e; rw [hdp j hij]; simp
  ·rw [decide_eq_false e,Bool.false_or] at h
   rw [hcl i' j hij h]; simp
theorem wpAnyH_moves0 {P:Program} {md:Region.Mode} {ops:Array Oper} {Q:Exit→Act→World→Prop} {S:World→Prop} (l deps:List (Nat×Nat)) {b:Array Bool} {a:Act} (Inv:(Nat→Option Value)→World→Prop) (m:Nat) {fuel:Nat} {W:World}
  (hfuel:fuel=m+l.length) (hok:movesOk md ops b l deps=true)
  (hS:∀ f W,Inv f W→S W) (hI:Inv (fun _=>none) W)
  (hstep:∀ i d,(i,d)∈l→∀ f W (K:Act→World→Prop),f i=none→(∀ j,(i,j)∈deps→∃ v,f j=some v)→Inv f W→(∀ v W',Inv (updV f i v) W'→K ((putsF a f l).put (some d) v) W')→wpOp P ops Q i K (putsF a f l) W)
  (hend:∀ f W,(∀ i d,(i,d)∈l→∃ v,f i=some v)→Inv f W→wpAnyH P md ops Q S m (setB b (isF f) l) (putsF a f l) W) :
  wpAnyH P md ops Q S fuel b a W:=by
 have e1:∀ l:List (Nat×Nat),missF (isF fun _=>none) l=l.length:=by
  intro l
  induction l with
  | nil=>rfl
  | cons x l ih=>unfold missF; rw [ih]; simp [isF]; omega
 have e2:∀ l:List (Nat×Nat),setB b (isF fun _=>none) l=b:=by
  intro l
  induction l with
  | nil=>rfl
  | cons x l ih=>unfold setB; rw [ih]; simp [isF]
 have e3:∀ l:List (Nat×Nat),putsF a (fun _=>none) l=a:=by
  intro l
  induction l with
  | nil=>rfl
  | cons x l ih=>unfold putsF; exact ih
 have:=wpAnyH_moves l deps b a Inv m hok hS hstep hend l.length (fun _=>none) W (e1 l) (fun _ _ _ h=>by cases h) hI
 rw [e2,e3] at this
 rw [hfuel]
 exact this
theorem putsF_size (a:Act) (f:Nat→Option Value):∀ l:List (Nat×Nat),(putsF a f l).tmps.size=a.tmps.size
  | []=>rfl
  | (i,d)::l=>by
    unfold putsF
    cases f i with
    | none=>exact putsF_size a f l
    | some v=>simp [Act.put,putsF_size a f l]
theorem putsF_old (a:Act) (f:Nat→Option Value) (t:Nat):∀ l:List (Nat×Nat),notD t l=true→(putsF a f l).eval (.tmp t)=a.eval (.tmp t)
  | [],_=>rfl
  | (i,d)::l,h=>by
    unfold notD at h
    rw [Bool.and_eq_true,decide_eq_true_eq] at h
    unfold putsF
    cases f i with
    | none=>exact putsF_old a f t l h.2
    | some v=>
      have hne:d≠t:=fun e=>h.1 e.symm
      have ih:=putsF_old a f t l h.2
      show ((putsF a f l).tmps.setIfInBounds d v).getD t undef=_
      rw [←ih]
      show _=(putsF a f l).tmps.getD t undef
      simp [Array.getElem?_setIfInBounds_ne hne]
theorem putsF_new (a:Act) (f:Nat→Option Value) (i t:Nat) (v:Value) (hf:f i=some v) (ht:t < a.tmps.size):∀ l:List (Nat×Nat),apartL l=true→(i,t)∈l→(putsF a f l).eval (.tmp t)=v
  | [],_,h=>by cases h
  | (j,d)::l,ha,h=>by
    unfold apartL at ha
    rw [Bool.and_eq_true,Bool.and_eq_true] at ha
    rcases List.mem_cons.1 h with h | h
    · cases h
      unfold putsF
      rw [hf]
      show ((putsF a f l).tmps.setIfInBounds t v).getD t undef=v
      have:t < (putsF a f l).tmps.size:=by rw [putsF_size]; exact ht
      simp [this]
    · have ih:=putsF_new a f i t v hf ht l ha.2.2 h
      unfold putsF
      have hne:∀ l:List (Nat×Nat),notD d l=true→(i,t)∈l→d≠t:=by
        intro l
        induction l with
        | nil=>intro _ h; cases h
        | cons x l ih=>
          intro h hd
          unfold notD at h
          rw [Bool.and_eq_true,decide_eq_true_eq] at h
          rcases List.mem_cons.1 hd with h2 | h2
          · cases h2; exact h.1
          · exact ih h.2 h2
      cases f j with
      | none=>exact ih
      | some u=>
        show ((putsF a f l).tmps.setIfInBounds d u).getD t undef=v
        rw [←ih]
        show _=(putsF a f l).tmps.getD t undef
        simp [Array.getElem?_setIfInBounds_ne (hne l ha.2.1 h)]
theorem wpOp_row {P:Program} {ops:Array Oper} {Q:Exit→Act→World→Prop} {i:Nat} {K:Act→World→Prop} {a:Act} {W:World} (o:Oper) (ho:ops[i]? = some o) (hg:o.guard=none) (h:o.wp P a W K Q):wpOp P ops Q i K a W:=by
 refine wpOp_step ho (fun K' hK=>?_)
 rw [if_pos (by unfold Region.wanted; rw [hg])]
 exact Oper.wp_mono (fun a w h=>hK a w h) h
theorem wp_call_fn {P:Program} {Q:Exit→Act→World→Prop} {K:Act→World→Prop} {a:Act} {W:World} (o:Oper) (fid:FuncId) (xs:Array Operand) (ts:Array TypeId) (ho:o.op=.call { callee:=.value (.func fid),args:=xs,argTypes:=ts })
  (vs:Array Value) (hx:xs.map a.eval=vs) (hen:(callFunc fid vs).run P W=.ok (.enter fid vs) W) {post:Ending→World→Prop} (hc:Calls P fid vs W post) (h:∀ e w',post e w'→∃ v,e=.returned v∧K (a.put o.dst v) w'):o.wp P a W K Q:=by
 have e1:(Act.eval a (.func fid))=.func (.func fid) #[] #[]:=rfl
 unfold Oper.wp execOp
 simp only [ho,resolve,e1,hx,Deferred.ofValue,Sem.run_bind,Sem.run_pure,Result.andThen_ok,invoke,Array.empty_append,Array.append_empty,hen,Oper.upon]
 refine Calls.mono hc fun e w' he=>?_
 obtain ⟨v,rfl,hk⟩:=h e w' he
 exact hk
theorem wp_call_iface {P:Program} {Q:Exit→Act→World→Prop} {K:Act→World→Prop} {a:Act} {W:World} (o:Oper) (x:Operand) (name:String) (xs:Array Operand) (ts:Array TypeId) (ho:o.op=.call { callee:=.invoke x name,args:=xs,argTypes:=ts })
  (T:TypeId) (v:Value) (hx:a.eval x=.iface T v) (vs:Array Value) (hxs:xs.map a.eval=vs) (fid:FuncId) (recv:Value) (hm:(method (P.types.size+Made.depth) T v name).run P W=.ok (fid,recv) W)
  (hen:(callFunc fid (#[recv] ++ vs)).run P W=.ok (.enter fid (#[recv] ++ vs)) W) {post:Ending→World→Prop} (hc:Calls P fid (#[recv] ++ vs) W post) (h:∀ e w',post e w'→∃ v,e=.returned v∧K (a.put o.dst v) w'):o.wp P a W K Q:=by
 unfold Oper.wp execOp
 have e2:(#[Value.iface T v] ++ vs).extract 1 (#[Value.iface T v] ++ vs).size=vs:=by simp
 have e3:(#[Value.iface T v] ++ vs)[0]? = some (.iface T v):=by rw [Array.getElem?_append_left (by simp)]; rfl
 simp only [ho,resolve,hx,hxs,Sem.run_bind,Sem.run_pure,Result.andThen_ok,invoke,e2,e3,callMethod,run_program,hm,hen,Oper.upon]
 refine Calls.mono hc fun e w' he=>?_
 obtain ⟨v,rfl,hk⟩:=h e w' he
 exact hk
theorem wp_slice_row {P:Program} {Q:Exit→Act→World→Prop} {K:Act→World→Prop} {a:Act} {W W':World} (o:Oper) (t:TypeId) (n:Nat) (xs:Array (Nat×Operand)) (ho:o.op=.buildSlice t n xs)
  (ps:Array (Nat×Value)) (hx:(xs.map fun x=>(x.1,a.eval x.2))=ps) (v:Value) (hr:(Instr.buildSlice t n ps).run P W=.ok v W') (h:K (a.put o.dst v) W'):o.wp P a W K Q:=by
 unfold Oper.wp execOp
 simp only [ho,hx,Sem.run_bind,hr,Result.andThen_ok]
 exact h
structure Grown (w:World) (Fact:Nat→Value→World→Prop) (f:Nat→Option Value) (W:World):Prop where
 bel:Below w.heap.size w W
 has:∀ i v,f i=some v→Fact i v W
theorem Grown.upd {w W W':World} {Fact:Nat→Value→World→Prop} {f:Nat→Option Value} {i:Nat} {v:Value} (hst:∀ i v W W',Fact i v W→Below W.heap.size W W'→Fact i v W') (h:Grown w Fact f W) (hb:Below W.heap.size W W') (hv:Fact i v W'):Grown w Fact (updV f i v) W':=
 ⟨h.bel.trans (hb.mono h.bel.size),fun j u hj=>by
  unfold updV at hj
  split at hj
  ·rename_i e; cases hj; rw [e]; exact hv
  ·exact hst j u W W' (h.has j u hj) hb⟩
theorem wpAnyH_grow {P:Program} {md:Region.Mode} {ops:Array Oper} {Q:Exit→Act→World→Prop} {S:World→Prop} (w:World) (l deps:List (Nat×Nat)) {b:Array Bool} {a:Act} (Fact:Nat→Value→World→Prop) (m n:Nat) {fuel:Nat} {W:World}
  (hfuel:fuel=m+l.length) (hok:movesOk md ops b l deps=true) (hn:a.tmps.size=n) (hlt:(l.all fun x=>decide (x.2 < n))=true)
  (hst:∀ i v W W',Fact i v W→Below W.heap.size W W'→Fact i v W')
  (hS:∀ W,Below w.heap.size w W→S W) (hI:Below w.heap.size w W)
  (hstep:∀ i d,(i,d)∈l→∀ (a':Act) W (K:Act→World→Prop),Below w.heap.size w W→(∀ t,notD t l=true→a'.eval (.tmp t)=a.eval (.tmp t))→(∀ j e,(i,j)∈deps→(j,e)∈l→Fact j (a'.eval (.tmp e)) W)→
   (∀ v W',Below W.heap.size W W'→Fact i v W'→K (a'.put (some d) v) W')→wpOp P ops Q i K a' W)
  (hend:∀ f W,(∀ i d,(i,d)∈l→∃ v,f i=some v)→Below w.heap.size w W→(∀ i v,f i=some v→Fact i v W)→wpAnyH P md ops Q S m (setB b (isF f) l) (putsF a f l) W) :
  wpAnyH P md ops Q S fuel b a W:=by
 have hap:apartL l=true:=by
  unfold movesOk at hok
  rw [Bool.and_eq_true] at hok
  exact hok.1
 refine wpAnyH_moves0 l deps (Grown w Fact) m hfuel hok (fun f W h=>hS W h.bel) ⟨hI,fun _ _ h=>by cases h⟩ (fun i d hid f W K hfi hdep hG hK=>?_) (fun f W hall hG=>hend f W hall hG.bel hG.has)
 refine hstep i d hid (putsF a f l) W K hG.bel (fun t ht=>putsF_old a f t l ht) (fun j e hij hje=>?_) (fun v W' hb hv=>hK v W' (hG.upd hst hb hv))
 obtain ⟨v,hv⟩:=hdep j hij
 have hlt2:e < a.tmps.size:=by
  have:=List.all_eq_true.1 hlt (j,e) hje
  rw [decide_eq_true_eq] at this
  rw [hn]; exact this
 rw [putsF_new a f j e v hv hlt2 l hap hje]
 exact hG.has j v hv
def blkOf:Value→Option Nat
 | .pointer (some a)=>some a.block
 | .slice (some a) _ _=>some a.block
 | _=>none
structure GrownS (w:World) (Fact:Nat→Value→World→Prop) (f:Nat→Option Value) (W:World):Prop where
 bel:Below w.heap.size w W
 has:∀ i v,f i=some v→Fact i v W
 sep:∀ i j v u,i≠j→f i=some v→f j=some u→∀ b,blkOf v=some b→blkOf u≠some b
theorem GrownS.upd {w W W':World} {Fact:Nat→Value→World→Prop} {f:Nat→Option Value} {i:Nat} {v:Value} (hst:∀ i v W W',Fact i v W→Below W.heap.size W W'→Fact i v W') (hlt:∀ i v W b,Fact i v W→blkOf v=some b→b < W.heap.size)
  (h:GrownS w Fact f W) (hb:Below W.heap.size W W') (hv:Fact i v W') (hnew:∀ b,blkOf v=some b→W.heap.size≤b):GrownS w Fact (updV f i v) W':=
 ⟨h.bel.trans (hb.mono h.bel.size),fun j u hj=>by
  unfold updV at hj
  split at hj
  ·rename_i e; cases hj; rw [e]; exact hv
  ·exact hst j u W W' (h.has j u hj) hb,fun j k u x hjk hu hx b hbu hbx=>by
  unfold updV at hu hx
  split at hu <;> split at hx
  ·rename_i e1 e2; exact hjk (e1.trans e2.symm)
  ·cases hu
   have h1:=hnew b hbu
   have h2:=hlt k x W b (h.has k x hx) hbx
   omega
  ·cases hx
   have h1:=hnew b hbx
   have h2:=hlt j u W b (h.has j u hu) hbu
   omega
  ·exact h.sep j k u x hjk hu hx b hbu hbx⟩
end RowLaw

end Go.Proofs.YtgkbfahflngklaaGreat
