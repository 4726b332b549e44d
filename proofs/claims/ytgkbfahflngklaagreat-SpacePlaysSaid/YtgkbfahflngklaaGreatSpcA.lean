import Derived.Test.YtgkbfahflngklaaGreatCntG
import Derived.ScopeJumps
set_option maxRecDepth 100000
set_option maxHeartbeats 6400000
set_option linter.unusedSimpArgs false
namespace Go.Proofs.YtgkbfahflngklaaGreat
namespace Spc
open Go.RowKit RowLaw
open Dev (Dev DS ptr Turn)
open Rot (fsN)
open Go.Proofs.YtgkbfahflngklaaGreat.Cnt
def fnV (bx:Nat):Value:=.func (.func 216) #[] #[ptr bx]
def spCells (t bx:Nat) (f r:Int) (h:Nat):Array Value:=#[ptr t,fnV bx,.int .i64 f,.int .i64 r,.int .u32 (h:Int)]
def spO (t bx:Nat) (f r:Int) (h:Nat):Obj:=.cells (spCells t bx f r h) 90 (0,0)
def bxO (q:Nat):Obj:=.cells #[ptr q] 60 (0,0)
theorem neSp (p:Nat) (W:World):(binOp .neq 60 (.pointer (some ⟨p,0,none⟩)) (.pointer none)).run Tryz.prog W=.ok (.bool true) W:=by kernel_rfl
theorem neTb (p:Nat) (W:World):(binOp .neq 34 (.pointer (some ⟨p,0,none⟩)) (.pointer none)).run Tryz.prog W=.ok (.bool true) W:=by kernel_rfl
def Sp (W:World) (q t bx:Nat) (f r:Int) (h:Nat):Prop:=W.heap[q]? = some (spO t bx f r h)
section
variable {W:World} {q t bx:Nat} {f r:Int} {h:Nat}
theorem Sp.c0 (x:Sp W q t bx f r h):W.cell? ⟨q,0,none⟩=some (.pointer (some ⟨t,0,none⟩)):=(cell_of_row W q 0 _ _ _ x).trans rfl
theorem Sp.c1 (x:Sp W q t bx f r h):W.cell? ⟨q,1,none⟩=some (fnV bx):=(cell_of_row W q 1 _ _ _ x).trans rfl
theorem Sp.c2 (x:Sp W q t bx f r h):W.cell? ⟨q,2,none⟩=some (.int .i64 f):=(cell_of_row W q 2 _ _ _ x).trans rfl
theorem Sp.c3 (x:Sp W q t bx f r h):W.cell? ⟨q,3,none⟩=some (.int .i64 r):=(cell_of_row W q 3 _ _ _ x).trans rfl
theorem Sp.c4 (x:Sp W q t bx f r h):W.cell? ⟨q,4,none⟩=some (.int .u32 (h:Int)):=(cell_of_row W q 4 _ _ _ x).trans rfl
theorem Sp.fr (x:Sp W q t bx f r h) (j:Nat):W.frozen? ⟨q,j,none⟩=false:=frozen_of_row W q j _ _ x
end
theorem exists_any {W:World} {q t bx:Nat} {f r:Int} {h:Nat} (x:Sp W q t bx f r h):Calls Tryz.prog 106 #[ptr q] W fun e w'=>e=.returned (.bool true)∧w'=W:=by
 have hn:=neSp q
 have ht:=neTb t
 have c0:=x.c0
 clear x
 unfold ptr
 go_enter Tryz.func106,Tryz.ntmps106
 go_wp2
 go_ret
 exact ⟨rfl,rfl⟩
def zr (n:Nat):Int:=if n=0 then 1 else 0
theorem zeros_any (n:Nat) (w:World):Calls Tryz.prog 217 #[.int .u16 (n:Int)] w fun e w'=>e=.returned (.int .i64 (zr n))∧w'=w:=by
 unfold zr
 by_cases h:n=0
 ·subst h
  go_enter Tryz.func217,Tryz.ntmps217
  go_wp2
  go_ret
  exact ⟨rfl,rfl⟩
 ·have hz:¬ (n:Int)=0:=by omega
  rw [if_neg h]
  go_enter Tryz.func217,Tryz.ntmps217
  go_wp2
  go_ret
  exact ⟨rfl,rfl⟩
def pos (z:Int):Nat:=(max z 0).toNat
theorem pos_any (z:Int) (h1: -1000000000≤z) (h2:z < 4294967296) (w:World):Calls Tryz.prog 107 #[.int .i64 z] w fun e w'=>e=.returned (.int .u32 (pos z:Int))∧w'=w:=by
 rcases Int.lt_trichotomy z 0 with h | h | h
 ·have e:(pos z:Int)=0:=by unfold pos; omega
  have hz:¬ 0≤z:=by omega
  have hz2:¬ z≥0:=by omega
  have hz3:z≤0:=by omega
  rw [e]
  clear e
  go_enter Tryz.func107,Tryz.ntmps107
  go_wp2
  go_ret
  exact ⟨rfl,rfl⟩
 ·subst h
  have e:(pos 0:Int)=0:=rfl
  rw [e]
  clear e
  go_enter Tryz.func107,Tryz.ntmps107
  go_wp2
  go_ret
  exact ⟨rfl,rfl⟩
 ·have e:(pos z:Int)=z:=by unfold pos; omega
  have hz:0≤z:=by omega
  have hz3:¬ z≤0:=by omega
  have hw:IntKind.u32.wrap z=z:=IntWalk.u32_in _ (by omega)
  rw [e]
  clear e
  go_enter Tryz.func107,Tryz.ntmps107
  go_wp2
  go_ret
  exact ⟨rfl,rfl⟩
section
variable {W:World} {q t bx:Nat} {f r:Int} {h:Nat}
theorem Free_any (x:Sp W q t bx f r h) (h1: -1000000000≤f) (h2:f < 4294967296):Calls Tryz.prog 30 #[ptr q] W fun e w'=>e=.returned (.int .u32 (pos f:Int))∧w'=W:=by
 have he:=exists_any x
 have hp:=pos_any f h1 h2
 have c2:=x.c2
 unfold ptr at he ⊢
 have HE:=Lib.hid he; have HP:=Lib.hid hp
 clear x h1 h2 he hp
 go_enter Tryz.func30,Tryz.ntmps30
 go_wp2_with (first | ((with_reducible refine HE.out.mono ?_); rintro e W1 ⟨rfl,rfl⟩) | ((with_reducible refine (HP.out _).mono ?_); rintro e W1 ⟨rfl,rfl⟩))
 go_ret
 exact ⟨rfl,rfl⟩
theorem Hint_any (x:Sp W q t bx f r h):Calls Tryz.prog 34 #[ptr q] W fun e w'=>e=.returned (.int .u32 (h:Int))∧w'=W:=by
 have he:=exists_any x
 have c4:=x.c4
 unfold ptr at he ⊢
 have HE:=Lib.hid he
 clear x he
 go_enter Tryz.func34,Tryz.ntmps34
 go_wp2_with (first | ((with_reducible refine HE.out.mono ?_); rintro e W1 ⟨rfl,rfl⟩))
 go_ret
 exact ⟨rfl,rfl⟩
def roomV (r:Int) (sp:Bool):Nat:=if sp then pos r else pos (r - 24)
theorem Room_any (x:Sp W q t bx f r h) (h1: -900000000≤r) (h2:r < 4294967296) (sp:Bool):Calls Tryz.prog 32 #[ptr q,.bool sp] W fun e w'=>e=.returned (.int .u32 (roomV r sp:Int))∧w'=W:=by
 have he:=exists_any x
 have c3:=x.c3
 have hw:IntKind.i64.wrap (r - 24)=r - 24:=IntWalk.i64_in _ (by omega)
 unfold ptr at he ⊢
 have HE:=Lib.hid he
 clear x he
 cases sp
 ·have HP:=Lib.hid (pos_any (r - 24) (by omega) (by omega))
  have e:roomV r false=pos (r - 24):=rfl
  rw [e]
  clear e
  go_enter Tryz.func32,Tryz.ntmps32
  go_wp2_with (first | ((with_reducible refine HE.out.mono ?_); rintro e W1 ⟨rfl,rfl⟩) | ((with_reducible refine (HP.out _).mono ?_); rintro e W1 ⟨rfl,rfl⟩))
  go_ret
  exact ⟨rfl,rfl⟩
 ·have HP:=Lib.hid (pos_any r (by omega) (by omega))
  have e:roomV r true=pos r:=rfl
  rw [e]
  clear e
  go_enter Tryz.func32,Tryz.ntmps32
  go_wp2_with (first | ((with_reducible refine HE.out.mono ?_); rintro e W1 ⟨rfl,rfl⟩) | ((with_reducible refine (HP.out _).mono ?_); rintro e W1 ⟨rfl,rfl⟩))
  go_ret
  exact ⟨rfl,rfl⟩
end
end Spc
namespace Spc
open Go.RowKit RowLaw
open Dev (Dev DS ptr Turn)
open Rot (fsN planOk plan_facts)
open Go.Proofs.YtgkbfahflngklaaGreat.Cnt
structure Rm (w:World) (l:List Thing) (K:List (Nat×Obj)) (i j q t bx:Nat) (T:TD) (s:DS) (f r:Int) (h:Nat) (W:World):Prop where
 hall: Hall w l ((q,spO t bx f r h)::K) W
 it:l[i]? = some (.tab t T)
 jd:l[j]? = some (.dev T.d s)
 ne:j≠i
 reads:Reads s T
 ok:TOk T
 bxm:(bx,bxO q)∈K
 new_:w.heap.size≤q
 out:∀ x∈K,x.1≠q
section
variable {w W W':World} {l:List Thing} {K:List (Nat×Obj)} {i j q t bx:Nat} {T:TD} {s:DS} {f r:Int} {h:Nat}
theorem set_same {l:List Thing} {i:Nat} {x:Thing} (h:l[i]? = some x):l.set i x=l:=by
 refine List.ext_getElem? fun k=>?_
 by_cases e:i=k
 ·subst e
  rw [List.getElem?_set_self (List.getElem?_eq_some_iff.1 h).1,h]
 ·rw [List.getElem?_set_ne e]
theorem Rm.sp (x:Rm w l K i j q t bx T s f r h W):Sp W q t bx f r h:=x.hall.at_ List.mem_cons_self
theorem Rm.plan (x:Rm w l K i j q t bx T s f r h W):64≤T.n∧T.n≤1048576:=plan_of x.ok.plan
theorem Rm.below (x:Rm w l K i j q t bx T s f r h W) (hb:Below W.heap.size W W'):Rm w l K i j q t bx T s f r h W':={ x with hall:=x.hall.below hb }
theorem Rm.box (x:Rm w l K i j q t bx T s f r h W):W.cell? ⟨bx,0,none⟩=some (.pointer (some ⟨q,0,none⟩)):=(cell_of_row W bx 0 _ _ _ (x.hall.at_ (q:=bx) (o:=bxO q) (List.mem_cons_of_mem _ x.bxm))).trans rfl
theorem Rm.first (x:Rm w l K i j q t bx T s f r h W):Calls Tryz.prog 18 #[.pointer (some ⟨t,0,none⟩)] W fun e W'=>e=.returned (.int .u32 (fsN T.n:Int))∧W'=W:=x.hall.first x.it
theorem Rm.tsize (x:Rm w l K i j q t bx T s f r h W):Calls Tryz.prog 73 #[.pointer (some ⟨t,0,none⟩)] W fun e W'=>e=.returned (.int .u32 (T.n:Int))∧W'=W:=by
 obtain ⟨_,g,h2,_⟩:=x.hall
 obtain ⟨bp,bt,bc,fp,ft,fc,hT⟩:=(h2 i _ x.it).1
 exact Size_anyT hT (show Dev W T.d (g j) s from (h2 j _ x.jd).1) x.reads.n
theorem Rm.get (x:Rm w l K i j q t bx T s f r h W) {a:Nat} (ha:a < 4294967296):Calls Tryz.prog 22 #[.pointer (some ⟨t,0,none⟩),.int .u32 (a:Int)] W fun e W'=>e=.returned (.tuple #[.int .u16 (T.nowC a:Int),.int .i64 (cntE T.n a)])∧Rm w l K i j q t bx T s f r h W':=
 (Hall.get x.hall x.it x.jd x.ne x.reads ha).mono fun e W' ⟨h1,h2⟩=>⟨h1,{ x with hall:=by rw [set_same x.it] at h2; exact h2 }⟩
theorem Rm.old (x:Rm w l K i j q t bx T s f r h W) {a:Nat} (ha:a < 4294967296):Calls Tryz.prog 23 #[.pointer (some ⟨t,0,none⟩),.int .u32 (a:Int)] W fun e W'=>e=.returned (.tuple #[.int .u16 (T.oldC a:Int),.int .i64 (cntE T.n a)])∧Rm w l K i j q t bx T s f r h W':=
 (Hall.old x.hall x.it x.jd x.ne x.reads ha).mono fun e W' ⟨h1,h2⟩=>⟨h1,{ x with hall:=by rw [set_same x.it] at h2; exact h2 }⟩
theorem Rm.set_ (x:Rm w l K i j q t bx T s f r h W) {a v:Nat} (ha:a < 4294967296) (hv:v < 65536):Calls Tryz.prog 17 #[.pointer (some ⟨t,0,none⟩),.int .u32 (a:Int),.int .u16 (v:Int)] W fun e W'=>e=.returned (.int .i64 (setE T.n a))∧Rm w (l.set i (.tab t (setS T a v))) K i j q t bx (setS T a v) s f r h W':=
 (Hall.set_ x.hall x.it x.jd x.ne x.reads ha hv).mono fun e W' ⟨h1,h2⟩=>⟨h1,⟨h2,List.getElem?_set_self (List.getElem?_eq_some_iff.1 x.it).1,by rw [List.getElem?_set_ne (fun e=>x.ne e.symm),(setS_same T a v).2.1]; exact x.jd,x.ne,x.reads.setS a v,setS_ok x.ok hv,x.bxm,x.new_,x.out⟩⟩
theorem Rm.turn (x:Rm w l K i j q t bx T s f r h W) {f' r':Int} {h' k:Nat} {v:Value} (he:(spCells t bx f r h).setIfInBounds k v=spCells t bx f' r' h'):Rm w l K i j q t bx T s f' r' h' (W.setCell ⟨q,k,none⟩ v):=
 have h1:=x.hall.setCell (j:=k) (v:=v) x.new_ x.out
 { x with hall:=by rw [he] at h1; exact h1 }
def nxt (n a:Nat):Nat:=if a+1=n then fsN n else a+1
theorem after_any (x:Rm w l K i j q t bx T s f r h W) {a:Nat} (ha:a < T.n):Calls Tryz.prog 110 #[.pointer (some ⟨q,0,none⟩),.int .u32 (a:Int)] W fun e W'=>e=.returned (.int .u32 (nxt T.n a:Int))∧W'=W:=by
 have HF:=Lib.hid x.first; have HS:=Lib.hid x.tsize
 have c0:=x.sp.c0
 have hp:=x.plan
 have z1:IntKind.u32.wrap ((a:Int)+1)=(a:Int)+1:=IntWalk.u32_in _ (by omega)
 clear x
 generalize T.n=n at HF HS ha hp ⊢
 unfold nxt
 by_cases he:a+1=n
 ·rw [if_pos he]
  have hz:(a:Int)+1=(n:Int):=by omega
  clear he
  go_enter Tryz.func110,Tryz.ntmps110
  go_wp2_with (first | ((with_reducible refine HF.out.mono ?_); rintro e W1 ⟨rfl,rfl⟩) | ((with_reducible refine HS.out.mono ?_); rintro e W1 ⟨rfl,rfl⟩))
  go_ret
  exact ⟨rfl,rfl⟩
 ·rw [if_neg he]
  have hz:¬ (a:Int)+1=(n:Int):=by omega
  clear he
  go_enter Tryz.func110,Tryz.ntmps110
  go_wp2_with (first | ((with_reducible refine HF.out.mono ?_); rintro e W1 ⟨rfl,rfl⟩) | ((with_reducible refine HS.out.mono ?_); rintro e W1 ⟨rfl,rfl⟩))
  go_ret
  exact ⟨rfl,rfl⟩
def fltE (fs a c n:Nat) (bad:Int):Int:=if a < fs then 2 else if bad=2 then 2 else if 1≤c∧n=0 then 9 else if c=2∧n=65535 then 6 else 0
theorem fault_any (x:Rm w l K i j q t bx T s f r h W) {a c n:Nat} {bad:Int} (hc:c≤2) (hb:bad=0∨bad=2) (hn:n < 65536):Calls Tryz.prog 179 #[.pointer (some ⟨q,0,none⟩),.int .u32 (a:Int),.int .u8 (c:Int),.int .u16 (n:Int),.int .i64 bad] W fun e W'=>e=.returned (.int .i64 (fltE (fsN T.n) a c n bad))∧W'=W:=by
  have HF:=Lib.hid x.first
  have c0:=x.sp.c0
  clear x
  generalize fsN T.n=fs at HF ⊢
  obtain ⟨z,hz⟩:∃ z,z=fltE fs a c n bad:=⟨_,rfl⟩
  rw [←hz]
  have HZ:=Lib.hid hz
  clear hz
  have hcc:c=0∨c=1∨c=2:=by omega
  have hnn:n=0∨n=65535∨(¬ (n:Int)=0∧¬ (n:Int)=65535):=by omega
  have haa:((a:Int) < (fs:Int)∧a < fs)∨(¬ (a:Int) < (fs:Int)∧¬ a < fs):=by omega
  rcases hcc with rfl | rfl | rfl <;> rcases hb with rfl | rfl <;> rcases haa with ⟨h1,h1'⟩ | ⟨h1,h1'⟩ <;> rcases hnn with rfl | rfl | ⟨h2,h3⟩
  all_goals
    have HZ':=Lib.hid HZ.out
    have H1:=Lib.hid h1'
    clear HZ h1'
    go_enter Tryz.func179,Tryz.ntmps179
    go_wp2_with (first | ((with_reducible refine HF.out.mono ?_); rintro e W1 ⟨rfl,rfl⟩))
    go_ret
    refine ⟨?_,rfl⟩
    rw [HZ'.out]
    have h1':=H1.out
    unfold fltE
    first
    | (simp [h1']; done)
    | (have h2':¬ n=0:=by omega
       have h3':¬ n=65535:=by omega
       simp [h1',h2',h3']; done)
end
end Spc
namespace Spc
open Go.RowKit RowLaw
open Dev (Dev DS ptr Turn)
open Rot (fsN planOk plan_facts)
open Go.Proofs.YtgkbfahflngklaaGreat.Cnt
def stp (T:TD) (a v:Nat):Int:=zr v - zr (T.nowC a)
theorem zr_le (n:Nat):0≤zr n∧zr n≤1:=by
 unfold zr
 split <;> omega
theorem stp_le (T:TD) (a v:Nat): -1≤stp T a v∧stp T a v≤1:=by
 have h1:=zr_le v; have h2:=zr_le (T.nowC a)
 unfold stp
 omega
theorem getD_lt {l:List Nat} {m:Nat} (h:∀ x∈l,x < m) (hm:0 < m) (i:Nat):l.getD i 0 < m:=by
 rw [List.getD_eq_getElem?_getD]
 cases hi:l[i]? with
 | none=>simpa using hm
 | some x=>exact h x (List.mem_of_getElem? hi)
theorem nowC_lt {T:TD} (h:TOk T) (a:Nat):T.nowC a < 65536:=by
 unfold TD.nowC Cnt.cntV
 split
 ·refine getD_lt (fun x hx=>?_) (by omega) _
  unfold TD.now at hx
  cases hc:T.C (a / 64) with
  | none=>rw [hc] at hx; exact h.tn _ x hx
  | some ns=>rw [hc] at hx; exact (h.cl _ ns hc).2 x hx
 ·omega
theorem cntE_two (n a:Nat):cntE n a=0∨cntE n a=2:=by
 unfold cntE
 split
 ·exact .inr rfl
 ·exact .inl rfl
def inI (f:Int):Prop := -1000000≤f∧f≤1000000
section
variable {w W W':World} {l:List Thing} {K:List (Nat×Obj)} {i j q t bx:Nat} {T:TD} {s:DS} {f r:Int} {h:Nat}
theorem turn2 (t bx:Nat) (f r:Int) (h:Nat) (f':Int):(spCells t bx f r h).setIfInBounds 2 (.int .i64 f')=spCells t bx f' r h:=rfl
theorem turn3 (t bx:Nat) (f r:Int) (h:Nat) (f':Int):(spCells t bx f r h).setIfInBounds 3 (.int .i64 f')=spCells t bx f f' h:=rfl
theorem turn4 (t bx:Nat) (f r:Int) (h h':Nat):(spCells t bx f r h).setIfInBounds 4 (.int .u32 (h':Int))=spCells t bx f r h':=rfl
theorem keep_any (x:Rm w l K i j q t bx T s f r h W) {a v:Nat} (ha:a < 4294967296) (hv:v < 65536) (hf:inI f) (hr:inI r) :
  Calls Tryz.prog 216 #[.int .u32 (a:Int),.int .u16 (v:Int),.pointer (some ⟨bx,0,none⟩)] W fun e W'=>e=.returned (.tuple #[])∧
   Rm w (l.set i (.tab t (setS T a v))) K i j q t bx (setS T a v) s (f+stp T a v) (if T.oldC a=0 then r+stp T a v else r) h W':=by
 obtain ⟨f1,f2⟩:=hf
 obtain ⟨r1,r2⟩:=hr
 have hz:=stp_le T a v
 have hu:=zr_le v
 have hw:=zr_le (T.nowC a)
 have b0:=x.box
 have c0:=x.sp.c0
 have HX:=Lib.hid x
 have HO:Hid _:=Lib.hid (x.old ha)
 obtain ⟨z,hzz⟩:∃ z,z=stp T a v:=⟨_,rfl⟩
 rw [←hzz] at hz ⊢
 have hzz':zr v - zr (T.nowC a)=z:=hzz.symm
 have HZ:=Lib.hid hzz
 clear hzz
 obtain ⟨z1,hz1⟩:∃ z1,z1=zr v:=⟨_,rfl⟩
 have HZV:Hid (∀ W,Calls Tryz.prog 217 #[.int .u16 (v:Int)] W fun e w'=>e=.returned (.int .i64 z1)∧w'=W):=Lib.hid (fun W=>hz1 ▸ zeros_any v W)
 obtain ⟨o,ho⟩:∃ o,o=T.oldC a:=⟨_,rfl⟩
 rw [←ho] at HO ⊢
 obtain ⟨m,hm⟩:∃ m,m=T.nowC a:=⟨_,rfl⟩
 have HM:=Lib.hid hm
 rw [←hm] at hzz' hw
 obtain ⟨z2,hz2⟩:∃ z2,z2=zr m:=⟨_,rfl⟩
 have HZW:Hid (∀ W,Calls Tryz.prog 217 #[.int .u16 (m:Int)] W fun e w'=>e=.returned (.int .i64 z2)∧w'=W):=Lib.hid (fun W=>hz2 ▸ zeros_any m W)
 rw [←hz1] at hu hzz'
 rw [←hz2] at hw hzz'
 have y0:IntKind.i64.wrap (z1 - z2)=z:=by rw [hzz']; exact IntWalk.i64_in _ (by omega)
 have y1:IntKind.i64.wrap (f+z)=f+z:=IntWalk.i64_in _ (by omega)
 have y2:IntKind.i64.wrap (r+z)=r+z:=IntWalk.i64_in _ (by omega)
 clear x ho hm hz1 hz2 hzz'
 go_enter Tryz.func216,Tryz.ntmps216
 go_wp2_with fail
 refine HO.out.mono ?_
 clear HO
 rintro e W1 ⟨rfl,x1⟩
 have b1:=x1.box
 have c1:=x1.sp.c0
 have HG:Hid _:=Lib.hid (x1.get ha)
 rw [←HM.out] at HG
 have HX:=Lib.hid x1
 clear b0 c0 x1
 go_wp2_with fail
 refine HG.out.mono ?_
 clear HG
 rintro e W2 ⟨rfl,x2⟩
 have b2:=x2.box
 have c2:=x2.sp.c0
 have HS:Hid _:=Lib.hid (x2.set_ ha hv)
 clear b1 c1 x2
 go_wp2_with fail
 refine HS.out.mono ?_
 clear HS
 rintro e W3 ⟨rfl,x3⟩
 have b3:=x3.box
 have c3:=x3.sp.c2
 have c4:=x3.sp.c3
 have hfr:=x3.sp.fr
 have HX:=Lib.hid x3
 clear b2 c2 x3
 have hne:¬ bx=q:=HX.out.out _ HX.out.bxm
 have hne':¬ q=bx:=fun e=>hne e.symm
 have fq2:=hfr 2
 have fq3:=hfr 3
 clear hfr
 by_cases h0:o=0
 ·subst h0
  go_wp2_with (first | ((with_reducible refine (HZV.out _).mono ?_); rintro e _ ⟨rfl,rfl⟩) | ((with_reducible refine (HZW.out _).mono ?_); rintro e _ ⟨rfl,rfl⟩))
  go_end0
  exact ⟨rfl,(HX.out.turn (turn2 _ _ _ _ _ _)).turn (turn3 _ _ _ _ _ _)⟩
 ·have h1:¬ (o:Int)=0:=by omega
  have H0:=Lib.hid h0
  clear h0
  go_wp2_with (first | ((with_reducible refine (HZV.out _).mono ?_); rintro e _ ⟨rfl,rfl⟩) | ((with_reducible refine (HZW.out _).mono ?_); rintro e _ ⟨rfl,rfl⟩))
  go_end0
  exact ⟨rfl,HX.out.turn (turn2 _ _ _ _ _ _)⟩
theorem avail_any (x:Rm w l K i j q t bx T s f r h W) {a:Nat} (ha:a < 4294967296):Calls Tryz.prog 180 #[.pointer (some ⟨q,0,none⟩),.int .u32 (a:Int)] W fun e W'=>
    e=.returned (.tuple #[.bool (decide (T.oldC a=0∧T.nowC a=0)),.int .i64 (cntE T.n a)])∧Rm w l K i j q t bx T s f r h W':=by
  have c0:=x.sp.c0
  have HO:Hid _:=Lib.hid (x.old ha)
  obtain ⟨o,ho⟩:∃ o,o=T.oldC a:=⟨_,rfl⟩
  obtain ⟨m,hm⟩:∃ m,m=T.nowC a:=⟨_,rfl⟩
  rw [←ho] at HO ⊢
  have HM:=Lib.hid hm
  rw [←hm]
  clear x ho hm
  go_enter Tryz.func180,Tryz.ntmps180
  go_wp2_with fail
  refine HO.out.mono ?_
  clear HO
  rintro e W1 ⟨rfl,x1⟩
  have c1:=x1.sp.c0
  have HG:Hid _:=Lib.hid (x1.get ha)
  rw [←HM.out] at HG
  clear c0 x1
  have hoo:o=0∨¬ (o:Int)=0:=by omega
  have hmm:m=0∨¬ (m:Int)=0:=by omega
  rcases hoo with rfl | h0 <;> rcases hmm with rfl | h1
  all_goals
    go_wp2_with ((with_reducible refine HG.out.mono ?_); rintro e W2 ⟨rfl,x2⟩)
    go_ret2
    refine ⟨?_,x2⟩
    first
    | rfl
    | (rw [decide_eq_false (fun h=>h0 (by omega))]; done)
    | (rw [decide_eq_false (fun h=>h0 (by omega))]; rfl)
    | (show Ending.returned (.tuple #[.bool ((m:Int) == 0),.int .i64 (cntE T.n a)])=_
       rw [show ((m:Int) == 0)=false from by simpa using h1]
       first
       | rfl
       | (rw [decide_eq_false (fun h=>h1 (by omega))]))
theorem flt_zero {fs a c n:Nat} {bad:Int} (h:fltE fs a c n bad=0):fs≤a∧bad≠2∧(1≤c→n≠0)∧(c=2→n≠65535):=by
 unfold fltE at h
 by_cases h1:a < fs
 ·rw [if_pos h1] at h; omega
 rw [if_neg h1] at h
 by_cases h2:bad=2
 ·rw [if_pos h2] at h; omega
 rw [if_neg h2] at h
 by_cases h3:1≤c∧n=0
 ·rw [if_pos h3] at h; omega
 rw [if_neg h3] at h
 by_cases h4:c=2∧n=65535
 ·rw [if_pos h4] at h; omega
 exact ⟨by omega,h2,fun h5 h6=>h3 ⟨h5,h6⟩,fun h5 h6=>h4 ⟨h5,h6⟩⟩
def askV (T:TD) (a c:Nat):Int:=fltE (fsN T.n) a c (T.nowC a) (cntE T.n a)
theorem count_any (x:Rm w l K i j q t bx T s f r h W) {a c:Nat} (ha:a < 4294967296) (hc:c≤2):Calls Tryz.prog 105 #[.pointer (some ⟨q,0,none⟩),.int .u32 (a:Int),.int .u8 (c:Int)] W fun e W'=>
  e=.returned (.tuple #[.int .u16 (if askV T a c=0 then (T.nowC a:Int) else 0),.int .i64 (askV T a c)])∧Rm w l K i j q t bx T s f r h W':=by
 have c0:=x.sp.c0
 have HE:=Lib.hid (exists_any x.sp)
 have HG:Hid _:=Lib.hid (x.get ha)
 have hn:T.nowC a < 65536:=nowC_lt x.ok a
 have hb:cntE T.n a=0∨cntE T.n a=2:=cntE_two T.n a
 have HF:Hid (∀ W,Rm w l K i j q t bx T s f r h W→Calls Tryz.prog 179 #[.pointer (some ⟨q,0,none⟩),.int .u32 (a:Int),.int .u8 (c:Int),.int .u16 (T.nowC a:Int),.int .i64 (cntE T.n a)] W fun e W'=>e=.returned (.int .i64 (askV T a c))∧W'=W):=
  Lib.hid (fun W x=>fault_any x hc hb hn)
 unfold ptr at HE
 clear x hn hb
 generalize T.nowC a=m at HG HF ⊢
 generalize askV T a c=z at HF ⊢
 go_enter Tryz.func105,Tryz.ntmps105
 go_wp2_with ((with_reducible refine HE.out.mono ?_); rintro e _ ⟨rfl,rfl⟩)
 refine HG.out.mono ?_
 clear HG c0
 rintro e W1 ⟨rfl,x1⟩
 have HF1:=Lib.hid (HF.out _ x1)
 clear HF
 by_cases h0:z=0
 ·subst h0
  go_wp2_with ((with_reducible refine HF1.out.mono ?_); rintro e _ ⟨rfl,rfl⟩)
  go_ret2
  exact ⟨rfl,x1⟩
 ·go_wp2_with ((with_reducible refine HF1.out.mono ?_); rintro e _ ⟨rfl,rfl⟩)
  go_ret2
  exact ⟨rfl,x1⟩
end
structure SS where
 T:TD
 f:Int
 r:Int
 h:Nat
def SS.put (x:SS) (a v:Nat):SS:=⟨setS x.T a v,x.f+stp x.T a v,if x.T.oldC a=0 then x.r+stp x.T a v else x.r,x.h⟩
def Rs (w:World) (l:List Thing) (K:List (Nat×Obj)) (i j q t bx:Nat) (s:DS) (S:SS) (W:World):Prop:=
 Rm w (l.set i (.tab t S.T)) K i j q t bx S.T s S.f S.r S.h W
section
variable {w W W':World} {l:List Thing} {K:List (Nat×Obj)} {i j q t bx:Nat} {s:DS} {S:SS}
theorem Rs.put_ (x:Rs w l K i j q t bx s S W) {a v:Nat} (ha:a < 4294967296) (hv:v < 65536) (hf:inI S.f) (hr:inI S.r) :
  Calls Tryz.prog 216 #[.int .u32 (a:Int),.int .u16 (v:Int),.pointer (some ⟨bx,0,none⟩)] W fun e W'=>e=.returned (.tuple #[])∧Rs w l K i j q t bx s (S.put a v) W':=
 (keep_any x ha hv hf hr).mono fun e W' ⟨h1,h2⟩=>⟨h1,by rw [List.set_set] at h2; exact h2⟩
theorem More_any (x:Rs w l K i j q t bx s S W) {a:Nat} (ha:a < 4294967296) (hf:inI S.f) (hr:inI S.r) :
  Calls Tryz.prog 37 #[.pointer (some ⟨q,0,none⟩),.int .u32 (a:Int)] W fun e W'=>e=.returned (.int .i64 (askV S.T a 2))∧Rs w l K i j q t bx s (if askV S.T a 2=0 then S.put a (S.T.nowC a+1) else S) W':=by
 have HC:Hid _:=Lib.hid (count_any x (c:=2) ha (by omega))
 have hn:S.T.nowC a < 65536:=nowC_lt x.ok a
 have hz:askV S.T a 2=0→S.T.nowC a≠65535:=fun h=>(flt_zero h).2.2.2 rfl
 obtain ⟨m,hm⟩:∃ m,m=S.T.nowC a:=⟨_,rfl⟩
 obtain ⟨z,hzz⟩:∃ z,z=askV S.T a 2:=⟨_,rfl⟩
 have HP:Hid (∀ W,Rs w l K i j q t bx s S W→m+1 < 65536→Calls Tryz.prog 216 #[.int .u32 (a:Int),.int .u16 ((m:Int)+1),.pointer (some ⟨bx,0,none⟩)] W fun e W'=>e=.returned (.tuple #[])∧Rs w l K i j q t bx s (S.put a (m+1)) W'):=
  Lib.hid (fun W x hm=>x.put_ ha hm hf hr)
 rw [←hm] at HC hn hz ⊢
 rw [←hzz] at HC hz ⊢
 clear x hm hzz hf hr
 by_cases h0:z=0
 ·subst h0
  have hz:=hz rfl
  rw [if_pos rfl] at HC ⊢
  have y1:IntKind.u16.wrap ((m:Int)+1)=(m:Int)+1:=IntWalk.u16_in _ (by omega)
  go_enter Tryz.func37,Tryz.ntmps37
  go_wp2_with fail
  refine HC.out.mono ?_
  clear HC
  rintro e W1 ⟨rfl,x1⟩
  have c1:=x1.sp.c1
  have HP1:Hid _:=Lib.hid (HP.out _ x1 (by omega))
  clear x1 HP
  unfold fnV at c1
  go_wp2_with fail
  refine HP1.out.mono ?_
  rintro e W2 ⟨rfl,x2⟩
  go_wp2_with fail
  go_ret
  exact ⟨rfl,x2⟩
 ·rw [if_neg h0] at HC
  go_enter Tryz.func37,Tryz.ntmps37
  go_wp2_with fail
  refine HC.out.mono ?_
  clear HC
  rintro e W1 ⟨rfl,x1⟩
  go_wp2_with fail
  go_ret
  exact ⟨rfl,x1⟩
theorem Less_any (x:Rs w l K i j q t bx s S W) {a:Nat} (ha:a < 4294967296) (hf:inI S.f) (hr:inI S.r) :
  Calls Tryz.prog 38 #[.pointer (some ⟨q,0,none⟩),.int .u32 (a:Int)] W fun e W'=>e=.returned (.tuple #[.int .u16 ((if askV S.T a 1=0 then S.T.nowC a - 1 else 0:Nat):Int),.int .i64 (askV S.T a 1)])∧
   Rs w l K i j q t bx s (if askV S.T a 1=0 then S.put a (S.T.nowC a - 1) else S) W':=by
 have HC:Hid _:=Lib.hid (count_any x (c:=1) ha (by omega))
 have hn:S.T.nowC a < 65536:=nowC_lt x.ok a
 have hz:askV S.T a 1=0→S.T.nowC a≠0:=fun h=>(flt_zero h).2.2.1 (by omega)
 obtain ⟨m,hm⟩:∃ m,m=S.T.nowC a:=⟨_,rfl⟩
 obtain ⟨z,hzz⟩:∃ z,z=askV S.T a 1:=⟨_,rfl⟩
 have HP:Hid (∀ W,Rs w l K i j q t bx s S W→0 < m→m < 65536→Calls Tryz.prog 216 #[.int .u32 (a:Int),.int .u16 ((m:Int) - 1),.pointer (some ⟨bx,0,none⟩)] W fun e W'=>e=.returned (.tuple #[])∧Rs w l K i j q t bx s (S.put a (m - 1)) W'):=
  Lib.hid (fun W x h0 hm=>by rw [show (m:Int) - 1=((m - 1:Nat):Int) from by omega]; exact x.put_ ha (by omega) hf hr)
 rw [←hm] at HC hn hz ⊢
 rw [←hzz] at HC hz ⊢
 clear x hm hzz hf hr
 by_cases h0:z=0
 ·subst h0
  have hz:=hz rfl
  rw [if_pos rfl] at HC
  rw [if_pos rfl,if_pos rfl]
  have HQ:Hid (((m - 1:Nat):Int)=(m:Int) - 1):=Lib.hid (by omega)
  rw [HQ.out]
  clear HQ
  have y1:IntKind.u16.wrap ((m:Int) - 1)=(m:Int) - 1:=IntWalk.u16_in _ (by omega)
  go_enter Tryz.func38,Tryz.ntmps38
  go_wp2_with fail
  refine HC.out.mono ?_
  clear HC
  rintro e W1 ⟨rfl,x1⟩
  have c1:=x1.sp.c1
  have HP1:Hid _:=Lib.hid (HP.out _ x1 (by omega) hn)
  clear x1 HP
  unfold fnV at c1
  go_wp2_with fail
  refine HP1.out.mono ?_
  rintro e W2 ⟨rfl,x2⟩
  go_wp2_with fail
  go_ret2
  exact ⟨rfl,x2⟩
 ·rw [if_neg h0] at HC
  go_enter Tryz.func38,Tryz.ntmps38
  go_wp2_with fail
  refine HC.out.mono ?_
  clear HC
  rintro e W1 ⟨rfl,x1⟩
  go_wp2_with fail
  go_ret2
  exact ⟨rfl,x1⟩
theorem Count_any (x:Rs w l K i j q t bx s S W) {a:Nat} (ha:a < 4294967296) :
  Calls Tryz.prog 28 #[.pointer (some ⟨q,0,none⟩),.int .u32 (a:Int)] W fun e W'=>e=.returned (.tuple #[.int .u16 (if askV S.T a 0=0 then (S.T.nowC a:Int) else 0),.int .i64 (askV S.T a 0)])∧Rs w l K i j q t bx s S W':=by
 have HC:Hid _:=Lib.hid (count_any x (c:=0) ha (by omega))
 generalize (if askV S.T a 0=0 then (S.T.nowC a:Int) else 0)=m at HC ⊢
 generalize askV S.T a 0=z at HC ⊢
 clear x
 go_enter Tryz.func28,Tryz.ntmps28
 go_wp2_with fail
 refine HC.out.mono ?_
 clear HC
 rintro e W1 ⟨rfl,x1⟩
 go_wp2_with fail
 go_ret2
 exact ⟨rfl,x1⟩
end
end Spc
end Go.Proofs.YtgkbfahflngklaaGreat
namespace Go
def Exit.three (J0 J1 J2:Act→World→Prop) (Q:Exit→Act→World→Prop):Exit→Act→World→Prop
 | .goto 0,a,w=>J0 a w
 | .goto 1,a,w=>J1 a w
 | .goto 2,a,w=>J2 a w
 | .goto _,_,_=>False
 | e,a,w=>Q e a w
theorem wp_scope_three {P:Program} {a:Act} {w:World} {Q:Exit→Act→World→Prop} {c X0 X1 X2:Code} (J0 J1 J2:Act→World→Prop) (μ:Act→World→Nat)
  (f0:findLabel c 0=some (Code.skip.seq X0)) (f1:findLabel c 1=some X1) (f2:findLabel c 2=some X2)
  (first:(∀ a w,J0 a w→X0.wp P (Exit.three J0 J1 J2 Q) a w)→c.wp P (Exit.three J0 J1 J2 Q) a w)
  (pass0:∀ a w,J0 a w→X0.wp P (Exit.three (fun a' w'=>J0 a' w'∧μ a' w' < μ a w) J1 J2 Q) a w)
  (pass1:∀ a w,J1 a w→X1.wp P (Exit.noGoto Q) a w) (pass2:∀ a w,J2 a w→X2.wp P (Exit.noGoto Q) a w):(Code.scope c).wp P Q a w:=by
 intro b k cs
 have h0: gotoIn 0 (.inScope c::k)=some (.code (Code.skip.seq X0)::.inScope c::k):=by simp [gotoIn,f0]
 have h1: gotoIn 1 (.inScope c::k)=some (.code X1::.inScope c::k):=by simp [gotoIn,f1]
 have h2: gotoIn 2 (.inScope c::k)=some (.code X2::.inScope c::k):=by simp [gotoIn,f2]
 have out: ∀ X: Code,∀ a w,X.wp P (Exit.noGoto Q) a w→∃ e a' w',Q e a' w'∧Arrives P (lone (b.at a (.code X::.inScope c::k)) cs w) b k cs e a' w':=by
  intro X a w hX
  obtain ⟨e,a₁,w₁,hq,harr⟩:=hX b (.inScope c::k) cs
  cases e with
  | normal=>exact ⟨.normal,a₁,w₁,hq,Steps.trans harr (.one step_inScope)⟩
  | exit id=>exact ⟨.exit id,a₁,w₁,hq,fun k' hk=>harr k' (by simp [exitTo,hk])⟩
  | goto l'=>exact hq.elim
  | ret=>exact ⟨_,a₁,w₁,hq,harr⟩
  | panic ch=>exact ⟨_,a₁,w₁,hq,harr⟩
  | outgrown=>exact ⟨_,a₁,w₁,hq,harr⟩
 have key: ∀ n a w,μ a w=n→J0 a w→∃ e a' w',Q e a' w'∧Arrives P (lone (b.at a (.code (Code.skip.seq X0)::.inScope c::k)) cs w) b k cs e a' w':=by
  intro n
  induction n using Nat.strongRecOn with
  | _ n ih=>
   intro a w hn hJ
   obtain ⟨e,a₁,w₁,hq,harr⟩:=wp_seq (wp_skip (pass0 a w hJ)) b (.inScope c::k) cs
   cases e with
   | normal=>exact ⟨.normal,a₁,w₁,hq,Steps.trans harr (.one step_inScope)⟩
   | exit id=>exact ⟨.exit id,a₁,w₁,hq,fun k' hk=>harr k' (by simp [exitTo,hk])⟩
   | goto l'=>
    match l',hq,harr with
    | 0,hq,harr=>
     obtain ⟨e₂,a₂,w₂,hq₂,harr₂⟩:=ih _ (by have:=hq.2; omega) a₁ w₁ rfl hq.1
     exact ⟨e₂,a₂,w₂,hq₂,.of_steps (harr _ h0) harr₂⟩
    | 1,hq,harr=>
     obtain ⟨e₂,a₂,w₂,hq₂,harr₂⟩:=out X1 a₁ w₁ (pass1 _ _ hq)
     exact ⟨e₂,a₂,w₂,hq₂,.of_steps (harr _ h1) harr₂⟩
    | 2,hq,harr=>
     obtain ⟨e₂,a₂,w₂,hq₂,harr₂⟩:=out X2 a₁ w₁ (pass2 _ _ hq)
     exact ⟨e₂,a₂,w₂,hq₂,.of_steps (harr _ h2) harr₂⟩
    | _+3,hq,_=>exact hq.elim
   | ret=>exact ⟨_,a₁,w₁,hq,harr⟩
   | panic ch=>exact ⟨_,a₁,w₁,hq,harr⟩
   | outgrown=>exact ⟨_,a₁,w₁,hq,harr⟩
 have hfirst:=first (fun a w h=>Code.wp_mono (fun e a' w' he=>by
  cases e with
  | goto l'=>
   match l',he with
   | 0,he=>exact he.1
   | 1,he=>exact he
   | 2,he=>exact he
   | _+3,he=>exact he
  | _=>exact he) (pass0 a w h))
 obtain ⟨e,a₁,w₁,hq,harr⟩:=hfirst b (.inScope c::k) cs
 cases e with
 | normal=>exact ⟨.normal,a₁,w₁,hq,.head step_scope (Steps.trans harr (.one step_inScope))⟩
 | exit id=>exact ⟨.exit id,a₁,w₁,hq,fun k' hk=>.head step_scope (harr k' (by simp [exitTo,hk]))⟩
 | goto l'=>
  match l',hq,harr with
  | 0,hq,harr=>
   obtain ⟨e₂,a₂,w₂,hq₂,harr₂⟩:=key _ a₁ w₁ rfl hq
   exact ⟨e₂,a₂,w₂,hq₂,.of_steps (.head step_scope (harr _ h0)) harr₂⟩
  | 1,hq,harr=>
   obtain ⟨e₂,a₂,w₂,hq₂,harr₂⟩:=out X1 a₁ w₁ (pass1 _ _ hq)
   exact ⟨e₂,a₂,w₂,hq₂,.of_steps (.head step_scope (harr _ h1)) harr₂⟩
  | 2,hq,harr=>
   obtain ⟨e₂,a₂,w₂,hq₂,harr₂⟩:=out X2 a₁ w₁ (pass2 _ _ hq)
   exact ⟨e₂,a₂,w₂,hq₂,.of_steps (.head step_scope (harr _ h2)) harr₂⟩
  | _+3,hq,_=>exact hq.elim
 | ret=>exact ⟨_,a₁,w₁,hq,.of_steps (.one step_scope) harr⟩
 | panic ch=>exact ⟨_,a₁,w₁,hq,.of_steps (.one step_scope) harr⟩
 | outgrown=>exact ⟨_,a₁,w₁,hq,.of_steps (.one step_scope) harr⟩
end Go
namespace Go.Proofs.YtgkbfahflngklaaGreat
namespace Spc
open Go.RowKit RowLaw
open Dev (Dev DS ptr Turn)
open Rot (fsN planOk plan_facts)
open Go.Proofs.YtgkbfahflngklaaGreat.Cnt
def avB (T:TD) (a:Nat):Bool:=decide (T.oldC a=0∧T.nowC a=0)
def scan (T:TD):Nat→Nat→Option Nat
 | 0,_=>none
 | k+1,a=>if avB T a=true then some a else scan T k (nxt T.n a)
def atN (fs N h j:Nat):Nat:=fs+(h - fs+j) % N
theorem at_zero {fs N h:Nat} (h1:fs≤h) (h2:h < fs+N):atN fs N h 0=h:=by
 unfold atN
 rw [Nat.add_zero,Nat.mod_eq_of_lt (by omega)]
 omega
theorem at_lt {fs N h j:Nat} (h0:0 < N):fs≤atN fs N h j∧atN fs N h j < fs+N:=by
 have:=Nat.mod_lt (h - fs+j) h0
 unfold atN
 omega
theorem at_nxt {n h j:Nat} (h0:fsN n < n):nxt n (atN (fsN n) (n - fsN n) h j)=atN (fsN n) (n - fsN n) h (j+1):=by
 have hm:=Nat.mod_lt (h - fsN n+j) (show 0 < n - fsN n from by omega)
 unfold nxt atN
 rw [←Nat.add_assoc,Nat.add_mod (h - fsN n+j) 1]
 by_cases hN:n - fsN n=1
 ·rw [hN] at hm ⊢
  rw [if_pos (by omega)]
  omega
 ·rw [Nat.mod_eq_of_lt (show 1 < n - fsN n from by omega)]
  by_cases he:(h - fsN n+j) % (n - fsN n)+1=n - fsN n
  ·rw [he,Nat.mod_self,if_pos (by omega)]
   rfl
  ·rw [Nat.mod_eq_of_lt (show (h - fsN n+j) % (n - fsN n)+1 < n - fsN n from by omega),if_neg (by omega)]
   omega
theorem at_back {fs N h j:Nat} (h1:fs≤h) (h2:h < fs+N) (h3:0 < j) (h4:j≤N):atN fs N h j=h↔j=N:=by
 unfold atN
 constructor
 ·intro e
  by_cases hl:h - fs+j < N
  ·rw [Nat.mod_eq_of_lt hl] at e; omega
  ·rw [Nat.mod_eq_sub_mod (by omega),Nat.mod_eq_of_lt (by omega)] at e; omega
 ·rintro rfl
  rw [Nat.add_mod_right,Nat.mod_eq_of_lt (by omega)]
  omega
def dist (fs N h y:Nat):Nat:=(y - fs+N - (h - fs)) % N
theorem dist_at {fs N h j:Nat} (h1:fs≤h) (h2:h < fs+N) (h3:j < N):dist fs N h (atN fs N h j)=j:=by
 unfold dist atN
 by_cases hl:h - fs+j < N
 ·rw [Nat.mod_eq_of_lt hl,show fs+(h - fs+j) - fs+N - (h - fs)=j+N from by omega,Nat.add_mod_right,Nat.mod_eq_of_lt h3]
 ·rw [Nat.mod_eq_sub_mod (show N≤h - fs+j from by omega),Nat.mod_eq_of_lt (show h - fs+j - N < N from by omega),show fs+(h - fs+j - N) - fs+N - (h - fs)=j from by omega,Nat.mod_eq_of_lt h3]
structure Left (T:TD) (h y:Nat):Prop where
 at_:∃ j,j < T.n - fsN T.n∧y=atN (fsN T.n) (T.n - fsN T.n) h j∧scan T (T.n - fsN T.n - j) y=scan T (T.n - fsN T.n) h
theorem Left.start {T:TD} {h:Nat} (h1:fsN T.n≤h) (h2:h < T.n):Left T h h:=
 ⟨0,by omega,(at_zero h1 (by omega)).symm,by rw [Nat.sub_zero]⟩
theorem Left.lt {T:TD} {h y:Nat} (x:Left T h y):fsN T.n≤y∧y < T.n:=by
 obtain ⟨j,h1,rfl,_⟩:=x.at_
 have:=at_lt (fs:=fsN T.n) (N:=T.n - fsN T.n) (h:=h) (j:=j) (by omega)
 omega
theorem Left.found {T:TD} {h y:Nat} (x:Left T h y) (ha:avB T y=true):scan T (T.n - fsN T.n) h=some y:=by
 obtain ⟨j,h1,h2,h3⟩:=x.at_
 rw [←h3,show T.n - fsN T.n - j=(T.n - fsN T.n - j - 1)+1 from by omega,scan,if_pos ha]
theorem Left.go {T:TD} {h y:Nat} (x:Left T h y) (ha:¬ avB T y=true) (h1:fsN T.n≤h) (h2:h < T.n) :
  (nxt T.n y=h→scan T (T.n - fsN T.n) h=none)∧(nxt T.n y≠h→Left T h (nxt T.n y)∧T.n - dist (fsN T.n) (T.n - fsN T.n) h (nxt T.n y) < T.n - dist (fsN T.n) (T.n - fsN T.n) h y):=by
 obtain ⟨j,hj,rfl,h3⟩:=x.at_
 rw [show T.n - fsN T.n - j=(T.n - fsN T.n - (j+1))+1 from by omega,scan,if_neg ha,at_nxt (by omega)] at h3
 rw [at_nxt (by omega)]
 have hb:=at_back (fs:=fsN T.n) (N:=T.n - fsN T.n) (h:=h) (j:=j+1) h1 (by omega) (by omega) (by omega)
 constructor
 ·intro e
  have:=hb.1 e
  rw [←h3,this,Nat.sub_self]
  rfl
 ·intro e
  have hne:j+1≠T.n - fsN T.n:=fun e'=>e (hb.2 e')
  refine ⟨⟨j+1,by omega,rfl,h3⟩,?_⟩
  rw [dist_at h1 (by omega) (by omega),dist_at h1 (by omega) (by omega)]
  omega
def ansV (o:Option Nat):Value:=.tuple #[.int .u32 ((o.getD 0:Nat):Int),.int .i64 (if o.isSome then 0 else 100)]
def SrJ0 (w:World) (l:List Thing) (K:List (Nat×Obj)) (i j q t bx:Nat) (s:DS) (S:SS) (a':Act) (W':World):Prop:=
 ∃ (y:Nat) (u5 u6 u7 u8 u9 u10 u11 u12 u13 u14 u15 u16 u17 u18 u19 u20 u21 u22 u23 u24 u25 u26 u27 u28 u29 u30:Value),
  a'={ tmps:=#[.pointer (some ⟨q,0,none⟩),undef,.int .u32 0,.int .i64 0,.int .u32 (y:Int),u5,u6,u7,u8,u9,u10,u11,u12,u13,u14,u15,u16,u17,u18,u19,u20,u21,u22,u23,u24,u25,u26,u27,u28,u29,u30],defers:=[] }∧Hid (Left S.T S.h y)∧Rs w l K i j q t bx s S W'
def SrJ1 (w:World) (l:List Thing) (K:List (Nat×Obj)) (i j q t bx:Nat) (s:DS) (S:SS) (a':Act) (W':World):Prop:=
 ∃ (y:Nat) (u5 u6 u7 u8 u9 u10 u11 u12 u13 u14 u15 u16 u17 u18 u19 u20 u21 u22 u23 u24 u25 u26 u27 u28 u29 u30:Value),
  a'={ tmps:=#[.pointer (some ⟨q,0,none⟩),undef,.int .u32 0,.int .i64 0,.int .u32 (y:Int),u5,u6,u7,u8,u9,u10,u11,u12,u13,u14,u15,u16,u17,u18,u19,u20,u21,u22,u23,u24,u25,u26,u27,u28,u29,u30],defers:=[] }∧Hid (scan S.T (S.T.n - fsN S.T.n) S.h=some y)∧Rs w l K i j q t bx s S W'
def SrJ2 (w:World) (l:List Thing) (K:List (Nat×Obj)) (i j q t bx:Nat) (s:DS) (S:SS) (a':Act) (W':World):Prop:=
 ∃ (u4 u5 u6 u7 u8 u9 u10 u11 u12 u13 u14 u15 u16 u17 u18 u19 u20 u21 u22 u23 u24 u25 u26 u27 u28 u29 u30:Value),
  a'={ tmps:=#[.pointer (some ⟨q,0,none⟩),undef,.int .u32 0,.int .i64 0,u4,u5,u6,u7,u8,u9,u10,u11,u12,u13,u14,u15,u16,u17,u18,u19,u20,u21,u22,u23,u24,u25,u26,u27,u28,u29,u30],defers:=[] }∧Hid (scan S.T (S.T.n - fsN S.T.n) S.h=none)∧Rs w l K i j q t bx s S W'
section
variable {w W W':World} {l:List Thing} {K:List (Nat×Obj)} {i j q t bx:Nat} {s:DS} {S:SS}
theorem search_any (x:Rs w l K i j q t bx s S W) (h1:fsN S.T.n≤S.h) (h2:S.h < S.T.n) :
  Calls Tryz.prog 109 #[.pointer (some ⟨q,0,none⟩)] W fun e W'=>e=.returned (ansV (scan S.T (S.T.n - fsN S.T.n) S.h))∧Rs w l K i j q t bx s S W':=by
 obtain ⟨n1,n2⟩:=x.plan
 have c4:=x.sp.c4
 have H1:=Lib.hid h1
 have H2:=Lib.hid h2
 have HX:=Lib.hid x
 obtain ⟨R,hR⟩:∃ R,R=scan S.T (S.T.n - fsN S.T.n) S.h:=⟨_,rfl⟩
 have HR:=Lib.hid hR
 rw [←hR]
 clear x hR h1
 go_enter Tryz.func109,Tryz.ntmps109
 go_wp2_with fail
 refine wp_scope_three (SrJ0 w l K i j q t bx s S) (SrJ1 w l K i j q t bx s S) (SrJ2 w l K i j q t bx s S)
  (fun a' _=>S.T.n - dist (fsN S.T.n) (S.T.n - fsN S.T.n) S.h (intOf (a'.tmps.getD 4 undef)).toNat) rfl rfl rfl ?_ ?_ ?_ ?_
 ·intro hpass
  have HPASS:=Lib.hid hpass
  clear hpass
  go_wp2_with fail
  go_step3
  simp only [Exit.then]
  refine (by assumption:∀ (a:Act) (w:World),_→_) _ _ (HPASS.out _ _ ⟨S.h,_,_,_,_,_,_,_,_,_,_,_,_,_,_,_,_,_,_,_,_,_,_,_,_,_,_,rfl,Lib.hid (Left.start H1.out H2.out),HX.out⟩)
 ·rintro a' w1 ⟨y,u5,u6,u7,u8,u9,u10,u11,u12,u13,u14,u15,u16,u17,u18,u19,u20,u21,u22,u23,u24,u25,u26,u27,u28,u29,u30,rfl,hL,x1⟩
  obtain ⟨l1,l2⟩:=hL.out.lt
  have HA:Hid _:=Lib.hid (avail_any x1 (a:=y) (by omega))
  have he:cntE S.T.n y=0:=by unfold cntE; rw [if_neg (by omega)]
  rw [he] at HA
  have hb:avB S.T y=decide (S.T.oldC y=0∧S.T.nowC y=0):=rfl
  rw [←hb] at HA
  have hgo:=hL.out.go (y:=y)
  have hfo:=hL.out.found
  have HAFT:Hid (∀ W,Rs w l K i j q t bx s S W→Calls Tryz.prog 110 #[.pointer (some ⟨q,0,none⟩),.int .u32 (y:Int)] W fun e W'=>e=.returned (.int .u32 (nxt S.T.n y:Int))∧W'=W):=Lib.hid (fun W x=>after_any x l2)
  clear he hb x1 c4 HX l1 l2 hL
  cases hv:avB S.T y with
  | true=>
   rw [hv] at HA
   have HF:=Lib.hid (hfo hv)
   clear hfo hgo hv HAFT
   go_wp2_with fail
   refine HA.out.mono ?_
   clear HA
   rintro e W2 ⟨rfl,x2⟩
   go_wp2_with fail
   go_step3
   exact ⟨y,_,_,_,_,_,_,_,_,_,_,_,_,_,_,_,_,_,_,_,_,_,_,_,_,_,_,rfl,HF,x2⟩
  | false=>
   rw [hv] at HA
   have HG:=Lib.hid (hgo (by rw [hv]; simp) H1.out H2.out)
   clear hfo hgo hv
   go_wp2_with fail
   refine HA.out.mono ?_
   clear HA
   rintro e W2 ⟨rfl,x2⟩
   have HAFT2:Hid _:=Lib.hid (HAFT.out _ x2)
   have c5:=x2.sp.c4
   clear HAFT
   obtain ⟨z,hz⟩:∃ z,z=nxt S.T.n y:=⟨_,rfl⟩
   rw [←hz] at HAFT2 HG
   have HZ:=Lib.hid hz
   clear hz
   by_cases hzh:z=S.h
   ·have hzi:(z:Int)=(S.h:Int):=by omega
    have HF:=Lib.hid (HG.out.1 hzh)
    clear HG hzh
    go_wp2_with fail
    refine HAFT2.out.mono ?_
    clear HAFT2
    rintro e _ ⟨rfl,rfl⟩
    go_wp2_with fail
    go_step3
    exact ⟨_,_,_,_,_,_,_,_,_,_,_,_,_,_,_,_,_,_,_,_,_,_,_,_,_,_,_,rfl,HF,x2⟩
   ·have hzi:¬ (z:Int)=(S.h:Int):=by omega
    have HF:=Lib.hid (HG.out.2 hzh)
    clear HG hzh
    go_wp2_with fail
    refine HAFT2.out.mono ?_
    clear HAFT2
    rintro e _ ⟨rfl,rfl⟩
    go_wp2_with fail
    go_step3
    refine ⟨⟨z,_,_,_,_,_,_,_,_,_,_,_,_,_,_,_,_,_,_,_,_,_,_,_,_,_,_,rfl,Lib.hid HF.out.1,x2⟩,?_⟩
    have:=HF.out.2
    simpa [intOf] using this
 ·rintro a' w1 ⟨y,u5,u6,u7,u8,u9,u10,u11,u12,u13,u14,u15,u16,u17,u18,u19,u20,u21,u22,u23,u24,u25,u26,u27,u28,u29,u30,rfl,hF,x1⟩
  go_wp2_with fail
  simp only [Exit.noGoto]
  go_ret2
  exact ⟨by rw [HR.out,hF.out]; rfl,x1⟩
 ·rintro a' w1 ⟨u4,u5,u6,u7,u8,u9,u10,u11,u12,u13,u14,u15,u16,u17,u18,u19,u20,u21,u22,u23,u24,u25,u26,u27,u28,u29,u30,rfl,hF,x1⟩
  go_wp2_with fail
  simp only [Exit.noGoto]
  go_ret2
  exact ⟨by rw [HR.out,hF.out]; rfl,x1⟩
end
end Spc
namespace Spc
open Go.RowKit RowLaw
open Dev (Dev DS ptr Turn)
open Rot (fsN planOk plan_facts)
open Go.Proofs.YtgkbfahflngklaaGreat.Cnt
def takeR (S:SS) (sp:Bool):Option Nat:=if roomV S.r sp=0 then none else scan S.T (S.T.n - fsN S.T.n) S.h
def SS.take (S:SS) (a:Nat):SS:={ S.put a 1 with h:=nxt S.T.n a }
def SS.takes (S:SS) (o:Option Nat):SS:=match o with
 | some a=>S.take a
 | none=>S
theorem scan_lt (T:TD) (h1:fsN T.n < T.n):∀ k a b,fsN T.n≤a→a < T.n→scan T k a=some b→fsN T.n≤b∧b < T.n∧avB T b=true
 | 0,_,_,_,_,h=>by cases h
 | k+1,a,b,ha,ha2,h=>by
  unfold scan at h
  split at h
  ·next hv=>
   cases h
   exact ⟨ha,ha2,hv⟩
  ·refine scan_lt T h1 k (nxt T.n a) b ?_ ?_ h
   ·unfold nxt; split <;> omega
   ·unfold nxt; split <;> omega
section
variable {w W W':World} {l:List Thing} {K:List (Nat×Obj)} {i j q t bx:Nat} {s:DS} {S:SS}
theorem Rs.hint (x:Rs w l K i j q t bx s S W) (h':Nat):Rs w l K i j q t bx s { S with h:=h' } (W.setCell ⟨q,4,none⟩ (.int .u32 (h':Int))):=Rm.turn x (turn4 _ _ _ _ _ _)
theorem Take_any (x:Rs w l K i j q t bx s S W) (h1:fsN S.T.n≤S.h) (h2:S.h < S.T.n) (hf:inI S.f) (hr:inI S.r) (sp:Bool) :
  Calls Tryz.prog 36 #[.pointer (some ⟨q,0,none⟩),.bool sp] W fun e W'=>e=.returned (ansV (takeR S sp))∧Rs w l K i j q t bx s (S.takes (takeR S sp)) W':=by
 have HE:=Lib.hid (exists_any x.sp)
 have HR:=Lib.hid (Room_any x.sp (by have:=hr.1; omega) (by have:=hr.2; omega) sp)
 have HS:Hid _:=Lib.hid (search_any x h1 h2)
 obtain ⟨n1,n2⟩:=x.plan
 have hx:=fun b h=>scan_lt S.T (by omega) (S.T.n - fsN S.T.n) S.h b h1 h2 h
 unfold ptr at HE HR
 obtain ⟨m,hm⟩:∃ m,m=roomV S.r sp:=⟨_,rfl⟩
 obtain ⟨o,ho⟩:∃ o,o=takeR S sp:=⟨_,rfl⟩
 have ho':o=if m=0 then none else scan S.T (S.T.n - fsN S.T.n) S.h:=by rw [ho,hm]; rfl
 rw [←hm] at HR
 rw [←ho]
 clear ho hm
 by_cases h0:m=0
 ·rw [if_pos h0] at ho'
  subst ho'
  subst h0
  have HX:=Lib.hid x
  clear x HS hx
  go_enter Tryz.func36,Tryz.ntmps36
  go_wp2_with (first | ((with_reducible refine HE.out.mono ?_); rintro e _ ⟨rfl,rfl⟩) | ((with_reducible refine HR.out.mono ?_); rintro e _ ⟨rfl,rfl⟩))
  go_ret2
  exact ⟨rfl,HX.out⟩
 ·rw [if_neg h0] at ho'
  have h0':¬ (m:Int)=0:=by omega
  rw [←ho'] at HS hx
  clear h0 ho'
  cases o with
  | none=>
   clear x hx
   unfold ansV at HS
   go_enter Tryz.func36,Tryz.ntmps36
   go_wp2_with (first | ((with_reducible refine HE.out.mono ?_); rintro e _ ⟨rfl,rfl⟩) | ((with_reducible refine HR.out.mono ?_); rintro e _ ⟨rfl,rfl⟩) | ((with_reducible refine HS.out.mono ?_); rintro e W2 ⟨rfl,x2⟩))
   go_ret2
   exact ⟨rfl,x2⟩
  | some a=>
   obtain ⟨a1,a2,_⟩:=hx a rfl
   have HP:Hid (∀ W,Rs w l K i j q t bx s S W→Calls Tryz.prog 216 #[.int .u32 (a:Int),.int .u16 1,.pointer (some ⟨bx,0,none⟩)] W fun e W'=>e=.returned (.tuple #[])∧Rs w l K i j q t bx s (S.put a 1) W'):=
    Lib.hid (fun W x=>x.put_ (v:=1) (by omega) (by omega) hf hr)
   have HA:Hid (∀ W,Rs w l K i j q t bx s (S.put a 1) W→Calls Tryz.prog 110 #[.pointer (some ⟨q,0,none⟩),.int .u32 (a:Int)] W fun e W'=>e=.returned (.int .u32 (nxt S.T.n a:Int))∧W'=W):=
    Lib.hid (fun W x=>by
     have e:(S.put a 1).T.n=S.T.n:=(setS_same S.T a 1).1
     have:=after_any x (a:=a) (by rw [e]; exact a2)
     rw [e] at this
     exact this)
   clear x hx a1 a2
   unfold ansV at HS
   rw [show ((some a).getD 0:Nat)=a from rfl] at HS
   go_enter Tryz.func36,Tryz.ntmps36
   go_wp2_with (first | ((with_reducible refine HE.out.mono ?_); rintro e _ ⟨rfl,rfl⟩) | ((with_reducible refine HR.out.mono ?_); rintro e _ ⟨rfl,rfl⟩))
   refine HS.out.mono ?_
   rintro e W2 ⟨rfl,x2⟩
   have c1:=x2.sp.c1
   have HP2:Hid _:=Lib.hid (HP.out _ x2)
   unfold fnV at c1
   clear HS x2 HP
   go_wp2_with fail
   refine HP2.out.mono ?_
   rintro e W3 ⟨rfl,x3⟩
   clear HP2
   have HA2:Hid _:=Lib.hid (HA.out _ x3)
   have c4:=x3.sp.c4
   have f4:=x3.sp.fr 4
   have HX:=Lib.hid (x3.hint (nxt S.T.n a))
   clear HA x3
   obtain ⟨z,hz⟩:∃ z,z=nxt S.T.n a:=⟨_,rfl⟩
   rw [←hz] at HA2 HX
   have HZ:=Lib.hid hz
   clear hz
   go_wp2_with ((with_reducible refine HA2.out.mono ?_); rintro e _ ⟨rfl,rfl⟩)
   go_ret2
   refine ⟨rfl,?_⟩
   show Rs w l K i j q t bx s (S.take a) _
   unfold SS.take
   rw [←HZ.out]
   exact HX.out
end
end Spc
namespace Spc
open Go.RowKit RowLaw
open Dev (Dev DS ptr Turn)
open Rot (fsN planOk plan_facts)
open Slt (Rt cells IsRt rootO)
open Go.Proofs.YtgkbfahflngklaaGreat.Cnt
theorem keeper_any (q:Nat) (W:World):Calls Tryz.prog 164 #[.pointer (some ⟨q,0,none⟩)] W fun e W'=>e=.returned (fnV W.heap.size)∧W'=W.alloc (bxO q):=by
 go_enter Tryz.func164,Tryz.ntmps164
 go_wp2_with fail
 go_ret
 exact ⟨rfl,rfl⟩
theorem New_nil (r:Rt) (W:World):Calls Tryz.prog 92 #[.pointer none,.agg (cells r)] W fun e W'=>e=.returned (.tuple #[.pointer none,.int .i64 1])∧Below W.heap.size W W':=by
 have HS:=Lib.hid (fun W=>Size_nilT W)
 have hb:Below W.heap.size W (W.alloc (rootO r)):=(Below.refl _ _).alloc (Nat.le_refl _) _
 go_enter Tryz.func92,Tryz.ntmps92
 go_upto_region 1 with fail
 change Code.wp _ _ _ _ (W.alloc (rootO r))
 generalize W.alloc (rootO r)=W1 at hb ⊢
 go_wp2_with ((with_reducible refine (HS.out _).mono ?_); rintro e _ ⟨rfl,rfl⟩)
 go_ret2
 exact ⟨rfl,hb⟩
def spO0 (t:Nat) (f:Int) (h:Nat):Obj:=.cells #[ptr t,.nilFunc,.int .i64 f,.int .i64 f,.int .u32 (h:Int)] 90 (0,0)
section
variable {w W W':World} {l:List Thing} {K:List (Nat×Obj)} {i j t:Nat} {s:DS} {T:TD}
theorem New_any (x:Hall w l K W) (it:l[i]? = some (.tab t T)) (jd:l[j]? = some (.dev T.d s)) (ne:j≠i) (hR:Reads s T) (ok:TOk T) {r:Rt} (h1:r.size=T.n) (h2:fsN T.n≤r.hint) (h3:r.hint < T.n) (h4:r.free < 1000000) :
  Calls Tryz.prog 92 #[ptr t,.agg (cells r)] W fun e W'=>∃ q bx,e=.returned (.tuple #[ptr q,.int .i64 0])∧Rm w l ((bx,bxO q)::K) i j q t bx T s (r.free: Int) (r.free: Int) r.hint W':=by
 have x1:=(x.alloc (rootO r))
 have hq:IsRt (W.alloc (rootO r)) W.heap.size r:=heap_alloc_new W _
 obtain ⟨n1,n2⟩:=plan_of ok.plan
 have HSZ:Hid (∀ K W,Hall w l K W→Calls Tryz.prog 73 #[.pointer (some ⟨t,0,none⟩)] W fun e W'=>e=.returned (.int .u32 (T.n:Int))∧W'=W):=Lib.hid (fun K W x=>by
  obtain ⟨_,g,g2,_⟩:=x
  obtain ⟨bp,bt,bc,fp,ft,fc,hT⟩:=(g2 i _ it).1
  exact Size_anyT hT (show Dev W T.d (g j) s from (g2 j _ jd).1) hR.n)
 have HFS:Hid (∀ K W,Hall w l K W→Calls Tryz.prog 18 #[.pointer (some ⟨t,0,none⟩)] W fun e W'=>e=.returned (.int .u32 (fsN T.n:Int))∧W'=W):=Lib.hid (fun K W x=>x.first it)
 have HKP:=Lib.hid (fun q W=>keeper_any q W)
 have HX:=Lib.hid x1
 have HW:=Lib.hid (Hall.size x)
 have HKK:=Lib.hid (fun (y:Nat×Obj) (hy:y∈K)=>x.lt_ (q:=y.1) (o:=y.2) hy)
 have HC:=Lib.hid (And.intro it (And.intro jd (And.intro ne (And.intro hR ok))))
 have d0:((r.size:Int) != (T.n:Int))=false:=by rw [h1]; simp
 have d1:((T.n:Int) == 0)=false:=by rw [beq_eq_false_iff_ne]; omega
 have d2:decide (r.hint < fsN T.n)=false:=decide_eq_false (by omega)
 have d3:decide (T.n≤r.hint)=false:=decide_eq_false (by omega)
 have d4:IntKind.i64.wrap (r.free:Int)=(r.free:Int):=IntWalk.i64_in _ (by omega)
 clear x x1 it jd ne hR ok h1 h2 h3 h4
 generalize T.n=n at n1 n2 HSZ HFS d0 d1 d2 d3
 generalize fsN n=fs at HFS d2
 unfold ptr
 go_enter Tryz.func92,Tryz.ntmps92
 go_upto_region 1 with fail
 change Code.wp _ _ _ _ (W.alloc (rootO r))
 obtain ⟨p,hp⟩:∃ p,p=W.heap.size:=⟨_,rfl⟩
 rw [←hp] at HX HW HKK hq ⊢
 have HWS:=Lib.hid (show (W.alloc (rootO r)).heap.size=p+1 from by rw [hp]; exact World.size_alloc _ _)
 clear hp
 generalize W.alloc (rootO r)=W1 at HX hq HWS ⊢
 have hS1:=Lib.hid (HSZ.out _ W1 HX.out)
 go_wp2_with ((with_reducible refine hS1.out.mono ?_); rintro e W2 ⟨rfl,hW⟩; subst hW)
 have c1:=hq.size
 have c6:=hq.hint
 have hbN: ∀ n,Hall w l ((p,rootO r)::K) (W2.drewN n):=fun n=>HX.out.below ⟨rfl,rfl,rfl,Nat.le_refl _,fun _ _=>rfl⟩
 go_big_quiet (first | (go_at_call 73; exact Calls.quiet_of_same (HSZ.out _ _ (hbN _))) | (go_at_call 18; exact Calls.quiet_of_same (HFS.out _ _ (hbN _))))
 have hX2:=hbN nq
 have hq2:IsRt (W2.drewN nq) p r:=hq
 have hS2:p < (W2.drewN nq).heap.size:=by have:=HWS.out; show p < W2.heap.size; omega
 have HX:=Lib.hid hX2
 generalize W2.drewN nq=W3 at HX hq2 hS2 ⊢
 clear hbN hq hX2 c1 c6 hS1 HWS HSZ HFS
 have c6:=hq2.hint
 have c4:=hq2.free
 go_wp2_with fail
 have hA:=HX.out.alloc (spO0 t (r.free:Int) r.hint)
 have hs:(W3.alloc (spO0 t (r.free:Int) r.hint)).heap.size=W3.heap.size+1:=World.size_alloc _ _
 change Calls _ _ _ (W3.alloc (spO0 t (r.free:Int) r.hint)) _
 clear hq2 c6 c4 d0 d1 d2 d3 d4 n1 n2
 generalize W3.alloc (spO0 t (r.free:Int) r.hint)=W4 at hA hs ⊢
 obtain ⟨q,hq⟩:∃ q,q=W3.heap.size:=⟨_,rfl⟩
 rw [←hq] at hA hs hS2 ⊢
 have hB:=hA.alloc (bxO q)
 rw [hs] at hB
 refine (HKP.out q W4).mono ?_
 rintro e W5 ⟨rfl,hW5⟩
 rw [←hW5] at hB
 rw [hs]
 have hC:=hB.less (K':=(q,spO0 t (r.free: Int) r.hint)::(q+1,bxO q)::K) (fun x hx=>by
  simp only [List.mem_cons] at hx ⊢
  rcases hx with hx | hx | hx
  ·exact .inr (.inl hx)
  ·exact .inl hx
  ·exact .inr (.inr (.inr hx)))
 have hat:=hC.at_ (q:=q) List.mem_cons_self
 have c1:W5.cell? ⟨q,1,none⟩=some .nilFunc:=(cell_of_row W5 q 1 _ _ _ hat).trans rfl
 have f1:=frozen_of_row W5 q 1 _ _ hat
 have hne: ∀ x∈(q+1,bxO q)::K,x.1≠q:=fun x hx=>by
  rcases List.mem_cons.1 hx with rfl | hx
  ·exact Nat.succ_ne_self q
  ·have:=HKK.out x hx
   omega
 have HF:=Lib.hid (hC.setCell (j:=1) (v:=fnV (q+1)) (by have:=HW.out; omega) hne)
 have HNE:=Lib.hid hne
 clear hC hA hB hs hW5 hat hne hq
 have hst:(store ⟨q,1,none⟩ (fnV (q+1))).run Tryz.prog W5=.ok () (W5.setCell ⟨q,1,none⟩ (fnV (q+1))):=by
  rw [run_store _ _ _ _ _ rfl,c1,f1]
  rfl
 unfold fnV ptr at hst ⊢
 go_wp2_with fail
 go_ret2
 refine ⟨q,q+1,rfl,HF.out,HC.out.1,HC.out.2.1,HC.out.2.2.1,HC.out.2.2.2.1,HC.out.2.2.2.2,List.mem_cons_self,by have:=HW.out; omega,HNE.out⟩
end
end Spc

end Go.Proofs.YtgkbfahflngklaaGreat
