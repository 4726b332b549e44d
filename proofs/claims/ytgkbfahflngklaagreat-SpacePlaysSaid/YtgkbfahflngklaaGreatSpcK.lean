import Derived.Test.YtgkbfahflngklaaGreatSpcA
import Derived.Test.YtgkbfahflngklaaGreatCntG
set_option maxRecDepth 100000
namespace Go.Proofs.YtgkbfahflngklaaGreat
namespace Spc
open Go.RowKit RowLaw
open Rot (fsN planOk plan_facts)
open Go.Proofs.YtgkbfahflngklaaGreat.Cnt
def cntTo (p:Nat→Bool) (fs:Nat):Nat→Nat
 | 0=>0
 | k+1=>cntTo p fs k+if p (fs+k) then 1 else 0
theorem cntTo_succ (p:Nat→Bool) (fs k:Nat):cntTo p fs (k+1)=cntTo p fs k+if p (fs+k) then 1 else 0:=rfl
theorem cntTo_le (p:Nat→Bool) (fs:Nat):∀ k,cntTo p fs k≤k
 | 0=>Nat.le_refl _
 | k+1=>by
  have:=cntTo_le p fs k
  rw [cntTo_succ]
  split <;> omega
theorem cntTo_congr {p q:Nat→Bool} {fs:Nat}:∀ k,(∀ a,fs≤a→a < fs+k→p a=q a)→cntTo p fs k=cntTo q fs k
 | 0,_=>rfl
 | k+1,h=>by
  rw [cntTo_succ,cntTo_succ,cntTo_congr k (fun a h1 h2=>h a h1 (by omega)),h (fs+k) (by omega) (by omega)]
def b2i (b:Bool):Int:=if b then 1 else 0
theorem cntTo_int (p:Nat→Bool) (fs k:Nat):(cntTo p fs (k+1):Int)=cntTo p fs k+b2i (p (fs+k)):=by
 rw [cntTo_succ]
 unfold b2i
 cases p (fs+k) <;> simp
theorem cntTo_upd {p q:Nat→Bool} {fs a:Nat}:∀ k,fs≤a→a < fs+k→(∀ b,b≠a→q b=p b)→(cntTo q fs k:Int)=cntTo p fs k+b2i (q a) - b2i (p a)
 | 0,h1,h2,_=>by omega
 | k+1,h1,h2,h=>by
  rw [cntTo_int,cntTo_int]
  by_cases e:a=fs+k
  ·rw [cntTo_congr (p:=q) (q:=p) k (fun b h3 h4=>h b (by omega)),e]
   omega
  ·rw [h (fs+k) (fun e'=>e e'.symm)]
   have ih:=cntTo_upd k h1 (by omega) h
   omega
theorem cntTo_none {p:Nat→Bool} {fs:Nat}:∀ k,(∀ a,fs≤a→a < fs+k→p a=false)→cntTo p fs k=0
 | 0,_=>rfl
 | k+1,h=>by
  rw [cntTo_succ,cntTo_none k (fun a h1 h2=>h a h1 (by omega)),h (fs+k) (by omega) (by omega)]
  rfl
theorem cntTo_all {p:Nat→Bool} {fs:Nat}:∀ k,(∀ a,fs≤a→a < fs+k→p a=true)→cntTo p fs k=k
 | 0,_=>rfl
 | k+1,h=>by
  rw [cntTo_succ,cntTo_all k (fun a h1 h2=>h a h1 (by omega)),h (fs+k) (by omega) (by omega)]
  rfl
theorem least {p:Nat→Bool}:∀ k c,(∀ i,c≤i→i < c+k→p i=false)∨∃ j,c≤j∧j < c+k∧p j=true∧∀ i,c≤i→i < j→p i=false
 | 0,c=>.inl fun i h1 h2=>by omega
 | k+1,c=>by
  cases hp:p c with
  | true=>exact .inr ⟨c,Nat.le_refl _,by omega,hp,fun i h1 h2=>by omega⟩
  | false=>
   rcases least (p:=p) k (c+1) with h | ⟨j,h1,h2,h3,h4⟩
   ·refine .inl fun i h1 h2=>?_
    by_cases e:i=c
    ·subst e; exact hp
    ·exact h i (by omega) (by omega)
   ·refine .inr ⟨j,by omega,by omega,h3,fun i h5 h6=>?_⟩
    by_cases e:i=c
    ·subst e; exact hp
    ·exact h4 i (by omega) h6
theorem scan_some {T:TD} (h0:fsN T.n < T.n) {h:Nat}:∀ k c j,c≤j→j < c+k→avB T (atN (fsN T.n) (T.n - fsN T.n) h j)=true→(∀ i,c≤i→i < j→avB T (atN (fsN T.n) (T.n - fsN T.n) h i)=false)→
  scan T k (atN (fsN T.n) (T.n - fsN T.n) h c)=some (atN (fsN T.n) (T.n - fsN T.n) h j)
 | 0,c,j,h1,h2,_,_=>by omega
 | k+1,c,j,h1,h2,h3,h4=>by
  by_cases e:c=j
  ·subst e
   rw [scan,if_pos h3]
  ·rw [scan,if_neg (by rw [h4 c (Nat.le_refl _) (by omega)]; simp),at_nxt h0]
   exact scan_some h0 k (c+1) j (by omega) (by omega) h3 (fun i h5 h6=>h4 i (by omega) h6)
theorem at_dist {fs N h y:Nat} (h1:fs≤h) (h2:h < fs+N) (h3:fs≤y) (h4:y < fs+N):atN fs N h (dist fs N h y)=y∧dist fs N h y < N:=by
 refine ⟨?_,Nat.mod_lt _ (by omega)⟩
 unfold dist atN
 by_cases hl:y - fs < h - fs
 ·rw [Nat.mod_eq_of_lt (show y - fs+N - (h - fs) < N from by omega),show h - fs+(y - fs+N - (h - fs))=y - fs+N from by omega,Nat.add_mod_right,Nat.mod_eq_of_lt (by omega)]
  omega
 ·rw [show y - fs+N - (h - fs)=(y - h)+N from by omega,Nat.add_mod_right,Nat.mod_eq_of_lt (show y - h < N from by omega),show h - fs+(y - h)=y - fs from by omega,Nat.mod_eq_of_lt (by omega)]
  omega
def isZ (T:TD) (a:Nat):Bool:=decide (T.nowC a=0)
structure Inv (S:SS):Prop where
 ok:TOk S.T
 small:S.T.n≤65536
 f:S.f=(cntTo (isZ S.T) (fsN S.T.n) (S.T.n - fsN S.T.n):Nat)
 r:S.r=(cntTo (avB S.T) (fsN S.T.n) (S.T.n - fsN S.T.n):Nat)
 h1:fsN S.T.n≤S.h
 h2:S.h < S.T.n
section
variable {S:SS}
theorem Inv.ff (x:Inv S):inI S.f:=by
 have h1:=cntTo_le (isZ S.T) (fsN S.T.n) (S.T.n - fsN S.T.n)
 have h2:=x.small
 rw [x.f]
 unfold inI
 omega
theorem Inv.rr (x:Inv S):inI S.r:=by
 have h1:=cntTo_le (avB S.T) (fsN S.T.n) (S.T.n - fsN S.T.n)
 have h2:=x.small
 rw [x.r]
 unfold inI
 omega
theorem oldC_setS (T:TD) (a v b:Nat):(setS T a v).oldC b=T.oldC b:=by
 obtain ⟨h1,_,_,_,h5⟩:=setS_same T a v
 unfold TD.oldC
 rw [h1,h5]
theorem nowC_in {T:TD} (h:TOk T) {a v:Nat} (h1:fsN T.n≤a) (h2:a < T.n) (b:Nat):(setS T a v).nowC b=if a=b then v else T.nowC b:=by
 rw [nowC_setS h]
 by_cases e:a=b
 ·rw [if_pos ⟨h1,h2,e⟩,if_pos e]
 ·rw [if_neg (fun hh=>e hh.2.2),if_neg e]
theorem zr_b2i (n:Nat):zr n=b2i (decide (n=0)):=by
 unfold zr b2i
 by_cases h:n=0 <;> simp [h]
theorem Inv.put (x:Inv S) {a v:Nat} (h1:fsN S.T.n≤a) (h2:a < S.T.n) (hv:v < 65536):Inv (S.put a v):=by
 have en:(setS S.T a v).n=S.T.n:=(setS_same S.T a v).1
 have hnow:=fun b=>nowC_in x.ok (v:=v) h1 h2 b
 have hz:=cntTo_upd (p:=isZ S.T) (q:=isZ (setS S.T a v)) (fs:=fsN S.T.n) (a:=a) (S.T.n - fsN S.T.n) h1 (by omega) (fun b hb=>by
  unfold isZ
  rw [hnow b,if_neg (fun e=>hb e.symm)])
 have ha:=cntTo_upd (p:=avB S.T) (q:=avB (setS S.T a v)) (fs:=fsN S.T.n) (a:=a) (S.T.n - fsN S.T.n) h1 (by omega) (fun b hb=>by
  unfold avB
  rw [hnow b,if_neg (fun e=>hb e.symm),oldC_setS])
 have e1:b2i (isZ (setS S.T a v) a)=zr v:=by
  unfold isZ
  rw [hnow a,if_pos rfl,zr_b2i]
 have e2:b2i (isZ S.T a)=zr (S.T.nowC a):=by
  unfold isZ
  rw [zr_b2i]
 rw [e1,e2] at hz
 refine ⟨setS_ok x.ok hv,by show (setS S.T a v).n≤65536; rw [en]; exact x.small,?_,?_,by show fsN (setS S.T a v).n≤S.h; rw [en]; exact x.h1,by show S.h < (setS S.T a v).n; rw [en]; exact x.h2⟩
 ·show S.f+stp S.T a v=((cntTo (isZ (setS S.T a v)) (fsN (setS S.T a v).n) ((setS S.T a v).n - fsN (setS S.T a v).n):Nat):Int)
  rw [en,hz,x.f]
  unfold stp
  omega
 ·show (if S.T.oldC a=0 then S.r+stp S.T a v else S.r)=((cntTo (avB (setS S.T a v)) (fsN (setS S.T a v).n) ((setS S.T a v).n - fsN (setS S.T a v).n):Nat):Int)
  rw [en,ha,x.r]
  by_cases ho:S.T.oldC a=0
  ·rw [if_pos ho]
   have e3:b2i (avB (setS S.T a v) a)=zr v:=by
    unfold avB
    rw [hnow a,if_pos rfl,oldC_setS,zr_b2i]
    simp [ho]
   have e4:b2i (avB S.T a)=zr (S.T.nowC a):=by
    unfold avB
    rw [zr_b2i]
    simp [ho]
   rw [e3,e4]
   unfold stp
   omega
  ·rw [if_neg ho]
   have e3:avB (setS S.T a v) a=false:=by
    unfold avB
    rw [oldC_setS]
    simp [ho]
   have e4:avB S.T a=false:=by
    unfold avB
    simp [ho]
   rw [e3,e4]
   omega
theorem Inv.in_ (x:Inv S):fsN S.T.n < S.T.n:=by
 have:=x.h1; have:=x.h2
 omega
theorem Inv.take (x:Inv S) {sp:Bool} {a:Nat} (h:takeR S sp=some a):fsN S.T.n≤a∧a < S.T.n∧avB S.T a=true∧Inv (S.take a):=by
 unfold takeR at h
 split at h
 ·cases h
 have h1:=x.h1; have h2:=x.h2
 obtain ⟨a1,a2,a3⟩:=scan_lt S.T (by omega) _ _ _ h1 h2 h
 have hp:=x.put (v:=1) a1 a2 (by omega)
 refine ⟨a1,a2,a3,⟨hp.ok,hp.small,hp.f,hp.r,?_,?_⟩⟩
 ·have:=hp.in_
  show fsN (setS S.T a 1).n≤nxt S.T.n a
  rw [(setS_same S.T a 1).1]
  unfold nxt
  split <;> omega
 ·show nxt S.T.n a < (setS S.T a 1).n
  rw [(setS_same S.T a 1).1]
  unfold nxt
  split <;> omega
theorem roomV_zero (r:Int) (h:0≤r):roomV r true=0↔r=0:=by
 unfold roomV pos
 simp only [if_true]
 omega
theorem roomV_le {r:Int} {sp:Bool} (h:roomV r sp≠0):0 < r:=by
 unfold roomV pos at h
 split at h <;> omega
theorem Inv.found (x:Inv S) {sp:Bool} (h:roomV S.r sp≠0):∃ a,takeR S sp=some a:=by
 have h0:=roomV_le h
 have hi:=x.in_
 unfold takeR
 rw [if_neg h]
 rcases least (p:=fun j=>avB S.T (atN (fsN S.T.n) (S.T.n - fsN S.T.n) S.h j)) (S.T.n - fsN S.T.n) 0 with hn | ⟨j,_,h2,h3,h4⟩
 ·exfalso
  have:cntTo (avB S.T) (fsN S.T.n) (S.T.n - fsN S.T.n)=0:=cntTo_none _ fun a h1 h2=>by
   obtain ⟨d1,d2⟩:=at_dist (fs:=fsN S.T.n) (N:=S.T.n - fsN S.T.n) (h:=S.h) (y:=a) x.h1 (by have:=x.h2; omega) h1 h2
   have:=hn _ (Nat.zero_le _) (show dist (fsN S.T.n) (S.T.n - fsN S.T.n) S.h a < 0+(S.T.n - fsN S.T.n) from by omega)
   rw [d1] at this
   exact this
  have hr:=x.r
  rw [this] at hr
  omega
 ·have hs:=scan_some hi (h:=S.h) (S.T.n - fsN S.T.n) 0 j (Nat.zero_le _) h2 h3 h4
  rw [at_zero x.h1 (by have:=x.h2; omega)] at hs
  exact ⟨_,hs⟩
theorem take_none {sp:Bool} (h:roomV S.r sp=0):takeR S sp=none:=by
 unfold takeR
 rw [if_pos h]
end
structure Ord (h0:Nat) (S:SS) (c:Nat):Prop where
 inv:Inv S
 h01:fsN S.T.n≤h0
 h02:h0 < S.T.n
 c_le:c≤S.T.n - fsN S.T.n
 h:S.h=atN (fsN S.T.n) (S.T.n - fsN S.T.n) h0 c
 av:∀ j,j < c→avB S.T (atN (fsN S.T.n) (S.T.n - fsN S.T.n) h0 j)=false
theorem Ord.take {h0 c:Nat} {S:SS} (x:Ord h0 S c) (hr:0 < S.r):∃ a j,takeR S true=some a∧fsN S.T.n≤a∧a < S.T.n∧S.T.oldC a=0∧c≤j∧j < S.T.n - fsN S.T.n∧dist (fsN S.T.n) (S.T.n - fsN S.T.n) h0 a=j∧Ord h0 (S.take a) (j+1)∧(S.take a).r=S.r - 1:=by
 have hi:=x.inv.in_
 have h01:=x.h01; have h02:=x.h02
 have hc:=x.c_le
 rcases least (p:=fun j=>avB S.T (atN (fsN S.T.n) (S.T.n - fsN S.T.n) h0 j)) (S.T.n - fsN S.T.n - c) c with hn | ⟨j,h1,h2,h3,h4⟩
 ·exfalso
  have:cntTo (avB S.T) (fsN S.T.n) (S.T.n - fsN S.T.n)=0:=cntTo_none _ fun a h1 h2=>by
   obtain ⟨d1,d2⟩:=at_dist (fs:=fsN S.T.n) (N:=S.T.n - fsN S.T.n) (h:=h0) (y:=a) h01 (by omega) h1 h2
   by_cases e:dist (fsN S.T.n) (S.T.n - fsN S.T.n) h0 a < c
   ·have:=x.av _ e
    rw [d1] at this
    exact this
   ·have:=hn _ (show c≤dist (fsN S.T.n) (S.T.n - fsN S.T.n) h0 a from by omega) (by omega)
    rw [d1] at this
    exact this
  have hr:=x.inv.r
  rw [this] at hr
  omega
 ·have hjN:j < S.T.n - fsN S.T.n:=by omega
  have hs:=scan_some hi (h:=h0) (S.T.n - fsN S.T.n) c j h1 (by omega) h3 h4
  rw [←x.h] at hs
  have ht:takeR S true=some (atN (fsN S.T.n) (S.T.n - fsN S.T.n) h0 j):=by
   unfold takeR
   rw [if_neg (fun e=>by have:=(roomV_zero S.r (by omega)).1 e; omega)]
   exact hs
  obtain ⟨a1,a2,a3,a4⟩:=x.inv.take ht
  have ho:=of_decide_eq_true a3
  have en:(S.take (atN (fsN S.T.n) (S.T.n - fsN S.T.n) h0 j)).T.n=S.T.n:=(setS_same S.T _ 1).1
  refine ⟨_,j,ht,a1,a2,ho.1,h1,hjN,dist_at h01 (by omega) hjN,⟨a4,by rw [en]; exact h01,by rw [en]; exact h02,by rw [en]; omega,?_,fun i hi'=>?_⟩,?_⟩
  ·rw [en]
   exact at_nxt hi
  ·rw [en]
   show avB (setS S.T _ 1) _=false
   unfold avB
   rw [nowC_in x.inv.ok a1 a2,oldC_setS]
   by_cases e:i=j
   ·subst e
    rw [if_pos rfl]
    simp
   ·have hlt:i < j:=by omega
    have hf:avB S.T (atN (fsN S.T.n) (S.T.n - fsN S.T.n) h0 i)=false:=by
     by_cases e2:i < c
     ·exact x.av i e2
     ·exact h4 i (by omega) hlt
    have hd:atN (fsN S.T.n) (S.T.n - fsN S.T.n) h0 j≠atN (fsN S.T.n) (S.T.n - fsN S.T.n) h0 i:=fun e3=>by
     have e4:=dist_at (fs:=fsN S.T.n) (N:=S.T.n - fsN S.T.n) (h:=h0) (j:=j) h01 (by omega) hjN
     have e5:=dist_at (fs:=fsN S.T.n) (N:=S.T.n - fsN S.T.n) (h:=h0) (j:=i) h01 (by omega) (by omega)
     rw [e3,e5] at e4
     exact e e4
    rw [if_neg hd]
    exact hf
  ·show (if S.T.oldC _=0 then S.r+stp S.T _ 1 else S.r)=S.r - 1
   rw [if_pos ho.1]
   unfold stp
   rw [ho.2]
   show S.r+(0 - 1)=S.r - 1
   omega
theorem fs64:fsN 64=6:=by decide
structure Flat (S:SS) (g:Nat→Nat) (k h:Nat):Prop where
 ok:TOk S.T
 n:S.T.n=64
 old:∀ a,S.T.oldC a=0
 now:∀ a,6≤a→a < 64→S.T.nowC a=g a
 f:S.f=(k:Int)
 r:S.r=(k:Int)
 h:S.h=h
def updN (g:Nat→Nat) (a v:Nat):Nat→Nat:=fun b=>if a=b then v else g b
section
variable {S:SS} {g:Nat→Nat} {k h:Nat}
theorem Flat.put (x:Flat S g k h) {a v k':Nat} (h1:6≤a) (h2:a < 64) (hv:v < 65536) (hk:(k:Int)+(zr v - zr (g a))=(k':Int)):Flat (S.put a v) (updN g a v) k' h:=by
 have e1:fsN S.T.n≤a:=by rw [x.n,fs64]; exact h1
 have e2:a < S.T.n:=by rw [x.n]; exact h2
 have e3:stp S.T a v=zr v - zr (g a):=by
  unfold stp
  rw [x.now a h1 h2]
 refine ⟨setS_ok x.ok hv,(setS_same S.T a v).1.trans x.n,fun b=>(oldC_setS S.T a v b).trans (x.old b),fun b h3 h4=>?_,?_,?_,x.h⟩
 ·show (setS S.T a v).nowC b=updN g a v b
  rw [nowC_in x.ok e1 e2]
  unfold updN
  rw [x.now b h3 h4]
 ·show S.f+stp S.T a v=(k':Int)
  rw [e3,x.f]
  exact hk
 ·show (if S.T.oldC a=0 then S.r+stp S.T a v else S.r)=(k':Int)
  rw [if_pos (x.old a),e3,x.r]
  exact hk
theorem Flat.take (x:Flat S g (k+1) h) (h1:6≤h) (h2:h+1 < 64) (hg:g h=0) {sp:Bool} (hr:roomV ((k+1:Nat):Int) sp≠0):takeR S sp=some h∧Flat (S.take h) (updN g h 1) k (h+1):=by
 have hp:=x.put (v:=1) (k':=k) h1 (by omega) (by omega) (by
  rw [hg]
  unfold zr
  simp
  omega)
 refine ⟨?_,⟨hp.ok,hp.n,hp.old,hp.now,hp.f,hp.r,?_⟩⟩
 ·unfold takeR
  rw [x.r,if_neg hr,x.n,fs64,x.h,show (64:Nat) - 6=57+1 from rfl,scan,if_pos]
  unfold avB
  rw [x.old h,x.now h h1 (by omega),hg]
  simp
 ·show nxt S.T.n h=h+1
  unfold nxt
  rw [x.n,if_neg (by omega)]
theorem Flat.full (x:Flat S g k h) {sp:Bool} (hr:roomV (k:Int) sp=0):takeR S sp=none:=by
 unfold takeR
 rw [x.r,if_pos hr]
theorem Flat.ask (x:Flat S g k h) {a c:Nat} (h1:6≤a) (h2:a < 64):askV S.T a c=if 1≤c∧g a=0 then 9 else if c=2∧g a=65535 then 6 else 0:=by
 unfold askV fltE cntE
 rw [x.n,fs64,x.now a h1 h2,if_neg (show ¬ a < 6 from by omega),if_neg (show ¬ 64≤a from by omega),if_neg (by omega)]
end
end Spc

end Go.Proofs.YtgkbfahflngklaaGreat
