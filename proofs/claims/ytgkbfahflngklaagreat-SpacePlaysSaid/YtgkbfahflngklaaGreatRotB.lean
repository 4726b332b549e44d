import Derived.Test.YtgkbfahflngklaaGreatSlt2
import Derived.Test.YtgkbfahflngklaaGreatFld4
import Derived.Test.YtgkbfahflngklaaGreatFld2
import Derived.StillTailTactics
import Derived.Deep.QuietTactic
import Derived.BigQuiet
import Derived.Test.YtgkbfahflngklaaGreatSlt1
import Derived.Laws.CopyOwn
import Derived.Test.YtgkbfahflngklaaGreatPln
import Derived.Test.YtgkbfahflngklaaGreatRotBox
import Derived.Test.YtgkbfahflngklaaGreatDev2
set_option maxRecDepth 100000
set_option maxHeartbeats 6400000
namespace Go.Proofs.YtgkbfahflngklaaGreat
namespace Slt
open Go.RowKit RowLaw Crc Fld
theorem Put_yes (r:Rt) (hm:mayB r=true) (hf:r.Fits) (w:World) :
  Calls Tryz.prog 148 #[.agg (cells r)] w fun e w'=>e=.returned (.tuple #[.agg (cellsOf (rtB r)),.int .i64 0])∧Below w.heap.size w w':=by
 have hmf:∀ (fn:Fn) (first cap:Array Value) (w:World),(Instr.makeFunc fn first cap).run Tryz.prog w=.ok (.func fn first cap) w:=fun _ _ _ _=>rfl
 have hlen:=rtB_length r
 have hzv:=(zero_of_info infoBlock).1
 have hi:=sizeBlock _ hlen
 have hzz:(cellsOf zeros).size=(cellsOf (rtB r)).size:=by rw [cellsOf_size,cellsOf_size,hlen,zeros_length]
 have hK:Kept w [(w.heap.size+1,blockO zeros),(w.heap.size,rootO r)] ((w.alloc (.cells (cells r) 31)).alloc (.cells (cellsOf zeros) 39)):=by
  have h:=((Kept.start w).alloc (rootO r)).alloc (blockO zeros)
  rw [show (w.alloc (rootO r)).heap.size=w.heap.size+1 from by simp] at h
  exact h
 have hcall:=fun W=>May_any r W
 rw [hm] at hcall
 have hcd:fdone (rtF r) 82=rtB r:=rfl
 have HB:=Lib.hid hcd
 generalize rtB r=B at hi hzz HB ⊢
 clear hm hlen hcd
 go_enter Tryz.func148,Tryz.ntmps148
 go_wp2_with (refine wpList_load_row rfl 31 _ rfl (w.heap.size) rfl _ _ _ _ (hK.at_ (q:=w.heap.size) (o:=rootO r) (by simp)) Tryz.underlying31 rfl (sizeR r) ?_)
 refine (hcall _).mono ?_
 rintro e W1 ⟨rfl,hx⟩
 replace hK:=hK.below hx
 clear hx hcall
 go_wp2_with fail
 refine (New_any _).mono ?_
 rintro e W2 ⟨rfl,hw,hx⟩
 have hbox:WBox w _ W1.heap.size (some []) W2:=⟨hK.below hx,hw,hK.bel.size,hK.notin⟩
 clear hK hw hx
 generalize W1.heap.size=q at hbox ⊢
 go_wp2_with fail
 refine (fields_any w.heap.size _).mono ?_
 rintro e W3 ⟨v,rfl,ho,hx⟩
 obtain ⟨g,cap,cur,rfl,hg,hcur,hpl⟩:=own_places ho
 have hbox2:=hbox.more hx hg hcur
 clear hbox hx hg hcur ho
 go_wp2_with fail
 refine (write_any w _ q g cap w.heap.size cur r (by simp) (by simp) hpl hf _ hbox2).mono ?_
 clear hbox2 hpl
 rintro e W4 ⟨rfl,hbk⟩
 go_wp2_with fail
 refine (Done_some _ _ 82 _ hbk.wr).mono ?_
 rintro e W6 ⟨rfl,hb6⟩
 rw [HB.out]
 have hK:=hbk.kept.below hb6
 clear hbk hb6
 have hR:=hK.at_ (q:=w.heap.size+1) (o:=blockO zeros) (by simp)
 go_wp2_with (refine wpList_store_row rfl 39 _ _ rfl _ _ rfl rfl _ _ hR hi hzz (cellsOf_one _) ?_)
 exact bodyPost_ret (results_row_tmp rfl _ _ _ _ _ _ _ rfl (setRow_heap _ _ _ _ _ _ hR) Tryz.underlying39 rfl hi) rfl ⟨rfl,below_row hK.bel (by omega)⟩
end Slt
namespace Slt
open Go.RowKit RowLaw Crc Fld
end Slt
namespace Slt
open Go.RowKit RowLaw Crc Fld
def sect (old new:List UInt8) (i:Nat):List UInt8:=old.take (i * 64) ++ ((new.drop (i * 64)).take 64 ++ old.drop (i * 64+64))
def keepTo (old new:List UInt8) (m:Nat):Nat→List UInt8
 | 0=>old
 | k+1=>if m.testBit k then sect (keepTo old new m k) new k else keepTo old new m k
end Slt
namespace Rot
open Go.RowKit Crc Fld
open Slt (Rt mayB getE putB putE rtB rtB_length getD_get)
open Dev (DS applyP upd keepB writeS writeE flushS flushE flushed succS pushS readB newS)
def mayR (r:Rt) (n:Nat):Bool:=mayB r&&(decide (r.size=n)&&(decide (r.picks / 2 ^ pkN n=0)&&(decide (fsN n≤r.hint)&&decide (r.free≤n - fsN n))))
def writeAll:DS→List (Nat×List UInt8)→DS×Int
 | s,[]=>(s,0)
 | s,x::l=>if writeE s x.1=0 then writeAll (writeS s x.1 x.2) l else (writeS s x.1 x.2,writeE s x.1)
def writeF (s:DS) (l:List (Nat×List UInt8)):DS×Int:=if (writeAll s l).2=0 then (flushS (writeAll s l).1,flushE (writeAll s l).1) else writeAll s l
def commitOk (n:Nat) (l:List (Nat×List UInt8)) (r:Rt):Bool:=mayR r n&&l.all fun x=>decide (2≤x.1)&&decide (x.1 < n)
def commitF (s:DS) (l:List (Nat×List UInt8)) (r:Rt):DS×Int:=
 if commitOk s.n l r=true then (if (writeF s l).2=0 then writeF (writeF s l).1 [(r.gen % 2,rtB r)] else writeF s l) else (s,2)
theorem writeAll_ok:∀ (l:List (Nat×List UInt8)) (s:DS),s.down=false→(∀ x∈l,x.1 < s.n)→(s.left = -1∨(l.length:Int)≤s.left)→
  writeAll s l=({ s with pend:=s.pend ++ l,left:=if s.left = -1 then -1 else s.left - l.length,writes:=s.writes+l.length },0)
 | [],s,_,_,_=>by
  unfold writeAll
  simp only [List.append_nil,List.length_nil,Nat.add_zero]
  cases s
  simp
 | x::l,s,hd,ha,hl=>by
  have hx:=ha x List.mem_cons_self
  have hl0:s.left≠0:=by
   simp only [List.length_cons] at hl
   omega
  have hE:writeE s x.1=0:=by unfold writeE; rw [if_neg (by omega),if_neg (by rw [hd]; simp [hl0])]
  have hS:writeS s x.1 x.2={ s with pend:=s.pend ++ [x],left:=if s.left = -1 then -1 else s.left - 1,writes:=s.writes+1 }:=by
   unfold writeS
   rw [if_neg (by omega),if_neg (by rw [hd]; simp)]
   unfold succS pushS
   rw [if_neg hl0]
  have ih:=writeAll_ok l (writeS s x.1 x.2) (by rw [hS]; exact hd) (by rw [hS]; exact fun y hy=>ha y (List.mem_cons_of_mem _ hy)) (by
   rw [hS]
   simp only [List.length_cons] at hl
   rcases hl with h | h
   ·left; exact if_pos h
   ·right
    show (l.length:Int)≤if s.left = -1 then -1 else s.left - 1
    rw [if_neg (by omega)]; omega)
  unfold writeAll
  rw [if_pos hE,ih,hS]
  simp only [List.append_assoc,List.singleton_append,List.length_cons,Prod.mk.injEq,and_true,DS.mk.injEq,true_and]
  refine ⟨?_,by omega⟩
  rcases hl with h | h
  ·rw [if_pos h,if_pos rfl,if_pos h]
  ·simp only [List.length_cons] at h
   rw [if_neg (by omega),if_neg (by omega),if_neg (by omega)]
   omega
theorem applyP_len:∀ (l:List (Nat×List UInt8)) (g:Nat→List UInt8),(∀ a,(g a).length=256)→(∀ x∈l,x.2.length=256)→∀ a,(applyP g l a).length=256
 | [],_,hg,_=>hg
 | x::l,g,hg,hl=>by
  have e: applyP g (x::l)=applyP (upd g x.1 x.2) l:=rfl
  rw [e]
  refine applyP_len l _ (fun a=>?_) (fun y hy=>hl y (List.mem_cons_of_mem _ hy))
  unfold upd
  split
  ·exact hl x List.mem_cons_self
  ·exact hg a
theorem flush_good {s:DS} (hd:s.down=false) (h:s.left≠0):flushS s={ s with g:=applyP s.g s.pend,pend:=[],left:=if s.left = -1 then -1 else s.left - 1,writes:=s.writes+1 }∧flushE s=0:=by
 constructor
 ·unfold flushS
  rw [if_neg (by rw [hd]; simp),if_neg h]
  unfold flushed succS
  rw [if_neg h]
 ·unfold flushE
  rw [if_neg (by rw [hd]; simp [h])]
theorem writeF_ok {s:DS} {l:List (Nat×List UInt8)} (hd:s.down=false) (hp:s.pend=[]) (ha:∀ x∈l,x.1 < s.n) (h:s.left = -1∨(l.length:Int)+1≤s.left) :
  writeF s l=({ s with g:=applyP s.g l,pend:=[],left:=if s.left = -1 then -1 else s.left - l.length - 1,writes:=s.writes+l.length+1 },0):=by
 have e:=writeAll_ok l s hd ha (h.imp id (by omega))
 obtain ⟨q,hq⟩:∃ q:Int,q=if s.left = -1 then -1 else s.left - l.length:=⟨_,rfl⟩
 have hz:q≠0:=by
  rcases h with h | h
  ·rw [hq,if_pos h]; decide
  ·rw [hq,if_neg (by omega)]; omega
 have hq2:(if q = -1 then (-1:Int) else q - 1)=if s.left = -1 then -1 else s.left - l.length - 1:=by
  rcases h with h | h
  ·rw [hq,if_pos h,if_pos rfl,if_pos h]
  ·rw [hq,if_neg (by omega),if_neg (by omega),if_neg (by omega)]
 rw [←hq,hp] at e
 rw [←hq2]
 unfold writeF
 rw [e,if_pos rfl]
 have hf:=flush_good (s:={ s with pend:=[] ++ l,left:=q,writes:=s.writes+l.length }) hd hz
 rw [hf.1,hf.2]
 simp
structure Good (r:Rt) (n:Nat):Prop where
 fits:r.Fits
 may:mayR r n=true
theorem Good.mayB {r:Rt} {n:Nat} (h:Good r n):Slt.mayB r=true:=by
 have:=h.may
 unfold mayR at this
 rw [Bool.and_eq_true] at this
 exact this.1
theorem readB_nil {s:DS} (hp:s.pend=[]) (a:Nat):readB s a=s.g a:=by unfold readB; rw [hp]; rfl
end Rot
namespace Rot
open Go.RowKit Crc Fld
open Slt (Rt mayB getE putB putE rtB rtB_length)
open Dev (DS applyP applyP_snoc upd readB newS)
def fresh (n:Nat):Rt:=⟨1,n,0,0,n - fsN n,1,fsN n,0⟩
theorem fresh_good {n:Nat} (h1:64≤n) (h2:n≤1048576):Good (fresh n) n:=by
 obtain ⟨_,f2,_⟩:=plan_facts h1 h2
 refine ⟨⟨by show (1:Nat) < _; omega,by show n < _; omega,by show (0:Nat) < _; omega,by show (0:Nat) < _; omega,by show n - fsN n < _; omega,by show (1:Nat) < _; omega,by show fsN n < _; omega,by show (0:Nat) < _; omega⟩,?_⟩
 unfold mayR
 have hm:mayB (fresh n)=true:=by
  rw [Slt.mayB_iff]
  unfold Slt.May fresh
  simp only
  exact ⟨Nat.le_refl _,h1,h2,by omega,by omega,f2,by omega,Nat.le_refl _,by omega,by simp⟩
 rw [hm]
 have e1:(fresh n).size=n:=rfl
 have e2:(fresh n).picks / 2 ^ pkN n=0:=Nat.zero_div _
 have e3:fsN n≤(fresh n).hint:=Nat.le_refl _
 have e4:(fresh n).free≤n - fsN n:=Nat.le_refl _
 rw [decide_eq_true e1,decide_eq_true e2,decide_eq_true e3,decide_eq_true e4]
 rfl
def toZero (g:Nat→List UInt8) (k:Nat):List (Nat×List UInt8):=((List.range k).filter fun a=>decide (g a≠zeros)).map fun a=>(a,zeros)
theorem toZero_succ (g:Nat→List UInt8) (k:Nat):toZero g (k+1)=if g k=zeros then toZero g k else toZero g k ++ [(k,zeros)]:=by
 unfold toZero
 rw [List.range_succ,List.filter_append,List.map_append]
 by_cases h:g k=zeros
 ·simp [h]
 ·simp [h]
theorem toZero_mem {g:Nat→List UInt8} {k:Nat} {x:Nat×List UInt8} (h:x∈toZero g k):x.1 < k∧x.2=zeros:=by
 unfold toZero at h
 rw [List.mem_map] at h
 obtain ⟨a,ha,rfl⟩:=h
 have:=(List.mem_filter.1 ha).1
 exact ⟨List.mem_range.1 this,rfl⟩
theorem toZero_length (g:Nat→List UInt8) (k:Nat):(toZero g k).length≤k:=by
 unfold toZero
 rw [List.length_map]
 have:=List.length_filter_le (fun a=>decide (g a≠zeros)) (List.range k)
 rw [List.length_range] at this
 exact this
theorem applyP_app (g:Nat→List UInt8) (l m:List (Nat×List UInt8)):applyP g (l ++ m)=applyP (applyP g l) m:=by
 unfold applyP
 rw [List.foldl_append]
theorem toZero_apply (g:Nat→List UInt8):∀ k a,applyP g (toZero g k) a=if a < k then zeros else g a
 | 0,a=>by rw [if_neg (by omega)]; rfl
 | k+1,a=>by
  rw [toZero_succ]
  by_cases h:g k=zeros
  ·rw [if_pos h,toZero_apply g k a]
   by_cases hak:a=k
   ·subst hak; rw [if_neg (by omega),if_pos (by omega),h]
   ·by_cases h2:a < k
    ·rw [if_pos h2,if_pos (by omega)]
    ·rw [if_neg h2,if_neg (by omega)]
  ·rw [if_neg h,applyP_app]
   show upd (applyP g (toZero g k)) k zeros a=_
   unfold upd
   by_cases hak:a=k
   ·rw [if_pos hak,if_pos (by omega)]
   ·rw [if_neg hak,toZero_apply g k a]
    by_cases h2:a < k
    ·rw [if_pos h2,if_pos (by omega)]
    ·rw [if_neg h2,if_neg (by omega)]
theorem toZero_none {g:Nat→List UInt8} (h:∀ a,g a=zeros) (k:Nat):toZero g k=[]:=by
 induction k with
 | zero=>rfl
 | succ k ih=>rw [toZero_succ,if_pos (h k),ih]
def formatF (s:DS):DS×(Rt×Int):=
  if (writeF s (toZero (readB s) (fsN s.n))).2=0 then
    (if (writeF (writeF s (toZero (readB s) (fsN s.n))).1 [(1,rtB (fresh s.n))]).2=0 then ((writeF (writeF s (toZero (readB s) (fsN s.n))).1 [(1,rtB (fresh s.n))]).1,(fresh s.n,0))
     else ((writeF (writeF s (toZero (readB s) (fsN s.n))).1 [(1,rtB (fresh s.n))]).1,(Slt.nil,(writeF (writeF s (toZero (readB s) (fsN s.n))).1 [(1,rtB (fresh s.n))]).2)))
  else ((writeF s (toZero (readB s) (fsN s.n))).1,(Slt.nil,(writeF s (toZero (readB s) (fsN s.n))).2))
structure Calm (s:DS):Prop where
 down:s.down=false
 left:s.left = -1
 pend:s.pend=[]
 len:∀ a,(s.g a).length=256
theorem Calm.new (n:Nat):Calm (newS n):=⟨rfl,rfl,rfl,fun _=>zeros_length⟩
theorem format_calm {s:DS} (h:Calm s) (h1:64≤s.n) (h2:s.n≤1048576) :
  ∃ k,formatF s=({ s with g:=upd (applyP s.g (toZero s.g (fsN s.n))) 1 (rtB (fresh s.n)),writes:=k },(fresh s.n,0)):=by
 obtain ⟨_,f2,_⟩:=plan_facts h1 h2
 have hr:readB s=s.g:=funext fun a=>readB_nil h.pend a
 have e1:=writeF_ok (l:=toZero s.g (fsN s.n)) h.down h.pend (fun x hx=>by have:=(toZero_mem hx).1; omega) (.inl h.left)
 rw [if_pos h.left] at e1
 have e2:=writeF_ok (s:={ s with g:=applyP s.g (toZero s.g (fsN s.n)),pend:=[],left := -1,writes:=s.writes+(toZero s.g (fsN s.n)).length+1 }) (l:=[(1,rtB (fresh s.n))]) h.down rfl (fun x hx=>by
  simp only [List.mem_singleton] at hx
  subst hx
  show 1 < s.n
  omega) (.inl rfl)
 refine ⟨s.writes+(toZero s.g (fsN s.n)).length+1+1+1,?_⟩
 unfold formatF
 rw [hr,e1,if_pos rfl,e2,if_pos rfl]
 have hl:=h.left
 have hp:=h.pend
 cases s
 simp only at hl hp
 subst hl hp
 rfl
theorem commit_calm {s:DS} (h:Calm s) {l:List (Nat×List UInt8)} {r:Rt} (ok:commitOk s.n l r=true) (hn:2≤s.n) :
  ∃ k,commitF s l r=({ s with g:=upd (applyP s.g l) (r.gen % 2) (rtB r),writes:=k },0):=by
 have ha:∀ x∈l,x.1 < s.n:=fun x hx=>by
  unfold commitOk at ok
  rw [Bool.and_eq_true] at ok
  have:=List.all_eq_true.1 ok.2 x hx
  simp at this
  exact this.2
 have e1:=writeF_ok (l:=l) h.down h.pend ha (.inl h.left)
 rw [if_pos h.left] at e1
 have e2:=writeF_ok (s:={ s with g:=applyP s.g l,pend:=[],left := -1,writes:=s.writes+l.length+1 }) (l:=[(r.gen % 2,rtB r)]) h.down rfl (fun x hx=>by
  simp only [List.mem_singleton] at hx
  subst hx
  show r.gen % 2 < s.n
  have:r.gen % 2 < 2:=Nat.mod_lt _ (by omega)
  omega) (.inl rfl)
 refine ⟨s.writes+l.length+1+1+1,?_⟩
 unfold commitF
 rw [if_pos ok,e1,if_pos rfl,e2]
 have hl:=h.left
 have hp:=h.pend
 cases s
 simp only at hl hp
 subst hl hp
 rfl
theorem calm_upd {s:DS} (h:Calm s) {l:List (Nat×List UInt8)} (hl:∀ x∈l,x.2.length=256) (a:Nat) (b:List UInt8) (hb:b.length=256) (k:Nat):Calm { s with g:=upd (applyP s.g l) a b,writes:=k }:=
 ⟨h.down,h.left,h.pend,fun c=>by
  show (upd (applyP s.g l) a b c).length=256
  unfold upd
  split
  ·exact hb
  ·exact applyP_len _ _ h.len hl c⟩
theorem commit_bad {s:DS} {l:List (Nat×List UInt8)} {r:Rt} (h:commitOk s.n l r=false):commitF s l r=(s,2):=by
 unfold commitF
 rw [if_neg (by rw [h]; simp)]
theorem read_commit {s:DS} (h:Calm s) {l:List (Nat×List UInt8)} {r:Rt} (ok:commitOk s.n l r=true) (hn:2≤s.n) (c:Nat) (hc:2≤c):readB (commitF s l r).1 c=applyP s.g l c:=by
 obtain ⟨k,e⟩:=commit_calm h ok hn
 have hm:r.gen % 2 < 2:=Nat.mod_lt _ (by omega)
 rw [e]
 refine (readB_nil (s:={ s with g:=upd (applyP s.g l) (r.gen % 2) (rtB r),writes:=k }) h.pend c).trans ?_
 show upd (applyP s.g l) (r.gen % 2) (rtB r) c=_
 unfold upd
 rw [if_neg (by omega)]
end Rot
namespace Rot
open Go.RowKit RowLaw
open Slt (Rt cells rootO infoR sizeR cells_one IsRt)
open Dev (Dev DS ptr)
theorem pages_any {n k:Nat} (h:n+k < 4294967296) (hk:0 < k) (w:World):Calls Tryz.prog 150 #[.int .u32 (n:Int),.int .u32 (k:Int)] w fun e w'=>e=.returned (.int .u32 (((n+k - 1) / k:Nat):Int))∧w'=w:=by
 have hk0:((k:Int) == 0)=false:=by simp; omega
 have he:((n:Int)+(k:Int) - 1) / (k:Int)=(((n+k - 1) / k:Nat):Int):=by
  have h2:((n:Int)+(k:Int) - 1)=((n+k - 1:Nat):Int):=by omega
  rw [h2,←Int.natCast_ediv]
 have HE:=Lib.hid he
 clear he
 go_enter Tryz.func150,Tryz.ntmps150
 go_wp2
 go_ret
 exact ⟨congrArg (fun z=>Ending.returned (Value.int .u32 z)) HE.out,rfl⟩
theorem Layout_yes {n:Nat} (h:planOk n=true) (w:World):Calls Tryz.prog 71 #[.int .u32 (n:Int)] w fun e w'=>e=.returned (.tuple #[.agg (planCells (tlN n) (pkN n) (fsN n)),.int .i64 0])∧Below w.heap.size w w':=by
  have hzp:=(zero_of_info infoPlan).1
  obtain ⟨h64,hbig⟩:64≤n∧n≤1048576:=by simpa [planOk] using h
  obtain ⟨f1,f2,f3,f4,f5,f6,f7,f8,f9⟩:=plan_facts h64 hbig
  have hup1:∀ W,Calls Tryz.prog 150 #[.int .u32 (n:Int),.int .u32 64] W fun e w'=>e=.returned (.int .u32 (tlN n:Nat))∧w'=W:=fun W=>by
    have:=pages_any (n:=n) (k:=64) (by omega) (by omega) W
    exact this
  have hup2:∀ W,Calls Tryz.prog 150 #[.int .u32 (tlN n:Int),.int .u32 1024] W fun e w'=>e=.returned (.int .u32 (pkN n:Nat))∧w'=W:=fun W=>by
    have:=pages_any (n:=tlN n) (k:=1024) (by omega) (by omega) W
    exact this
  have hfs:(2:Int)+2 * (pkN n:Int)+2 * (tlN n:Int)=(fsN n:Nat):=by unfold fsN; omega
  have hR:∀ (cs:Array Value),(w.alloc (.cells cs 82)).heap[w.heap.size]? = some (.cells cs 82 (0,0)):=fun cs=>heap_alloc_new w _
  have hbel:∀ o:Obj,Below w.heap.size w (w.alloc o):=fun o=>Below.alloc (Below.refl _ _) (Nat.le_refl _) o
  go_enter Tryz.func71,Tryz.ntmps71
  go_wp2_with (first
    | (with_reducible refine (hup1 _).mono ?_; rintro e W1 ⟨rfl,rfl⟩)
    | (with_reducible refine (hup2 _).mono ?_; rintro e W1 ⟨rfl,rfl⟩)
    | (refine wpList_store_new rfl 82 (.tmp 2) (.tmp 25) rfl #[.int .u32 (tlN n:Int),.int .u32 (pkN n:Int),.int .u32 (2+2 * ((pkN n:Int)+(tlN n:Int)))] _ _ rfl rfl (sizePlan 0 0 0) rfl (by simp [Value.oneCell']) ?_))
  have hc:(#[.int .u32 (tlN n:Int),.int .u32 (pkN n:Int),.int .u32 (2+2 * ((pkN n:Int)+(tlN n:Int)))]:Array Value)=planCells (tlN n) (pkN n) (fsN n):=by
    unfold planCells
    rw [←hfs]
    congr 5
    omega
  rw [hc]
  exact bodyPost_ret (results_row_tmp rfl _ _ _ _ _ _ _ rfl (hR _) Tryz.underlying82 rfl (sizePlan _ _ _)) rfl ⟨rfl,hbel _⟩
section
variable {w:World} {p:Nat} {B:List Nat} {s:DS}
theorem Size_any (h:Dev w p B s):Calls Tryz.prog 67 #[ptr p] w fun e w'=>e=.returned (.int .u32 (s.n:Int))∧w'=w:=by
 obtain ⟨bm,pv,h⟩:=h
 have c0:w.cell? ⟨p,0,none⟩=some (.int .u32 (s.n:Int)):=h.cell 0
 clear h
 have hp:(binOp .eql 25 (.pointer (some ⟨p,0,none⟩)) (.pointer none)).run Tryz.prog w=.ok (.bool false) w:=by kernel_rfl
 unfold ptr
 go_enter Tryz.func67,Tryz.ntmps67
 go_wp2
 go_ret
 exact ⟨rfl,rfl⟩
theorem exists_any (h:Dev w p B s):Calls Tryz.prog 65 #[ptr p] w fun e w'=>e=.returned (.bool true)∧w'=w:=by
 have hn:((s.n:Int) != 0)=true:=by obtain ⟨_,_,h⟩:=h; have:=h.okN; simp; omega
 have hS:=Size_any h
 go_enter Tryz.func65,Tryz.ntmps65
 go_wp2_with (with_reducible refine hS.mono ?_; rintro e W1 ⟨rfl,rfl⟩)
 go_ret
 exact ⟨rfl,rfl⟩
end
theorem home_any (r:Rt) (w:World):Calls Tryz.prog 149 #[.agg (cells r)] w fun e w'=>e=.returned (.int .u32 ((r.gen % 2:Nat):Int))∧Below w.heap.size w w':=by
 have hb:Below w.heap.size w (w.alloc (.cells (cells r) 31)):=(Below.refl _ _).alloc (Nat.le_refl _) _
 have c0:=(IsRt.new w r).gen
 have hm:(r.gen:Int) % 2=((r.gen % 2:Nat):Int):=by omega
 have HM:=Lib.hid hm
 clear hm
 go_enter Tryz.func149,Tryz.ntmps149
 go_upto_region 1 with fail
 generalize w.alloc (Obj.cells (cells r) 31)=W at c0 hb ⊢
 go_wp2
 go_ret
 exact ⟨congrArg (fun z=>Ending.returned (Value.int .u32 z)) HM.out,hb⟩
end Rot
namespace Rot
open Go.RowKit RowLaw
open Slt (Rt cells rootO infoR sizeR cells_one IsRt mayB May_any)
open Dev (Dev DS ptr)
theorem run_buildRoot (W:World) (a b c d e:Int):(Instr.build 31 #[(0,.int .u64 a),(1,.int .u32 b),(4,.int .u32 c),(5,.int .u32 d),(6,.int .u32 e)]).run Tryz.prog W=.ok (.agg #[.int .u64 a,.int .u32 b,.int .u32 0,.int .u32 0,.int .u32 c,.int .u32 d,.int .u32 e,.int .u8 0]) W:=by
 go_simp
theorem first_any {n:Nat} (h:planOk n=true) (w:World):Calls Tryz.prog 66 #[.int .u32 (n:Int)] w fun e w'=>e=.returned (.agg (cells (fresh n)))∧Below w.heap.size w w':=by
  have hzp:=(zero_of_info infoPlan).1
  have hzr:=(zero_of_info infoR).1
  obtain ⟨h64,hbig⟩:64≤n∧n≤1048576:=by simpa [planOk] using h
  obtain ⟨f1,f2,f3,f4,f5,f6,f7,f8,f9⟩:=plan_facts h64 hbig
  have hL:=Layout_yes h
  have hb:=fun W=>run_buildRoot W 1 n ((n:Int) - fsN n) 1 (fsN n)
  have hc:cells (fresh n)=#[.int .u64 1,.int .u32 (n:Int),.int .u32 0,.int .u32 0,.int .u32 ((n:Int) - (fsN n:Nat)),.int .u32 1,.int .u32 (fsN n:Nat),.int .u8 0]:=by
    unfold cells fresh
    rw [show ((n - fsN n:Nat):Int)=(n:Int) - (fsN n:Nat) from by omega]
    rfl
  rw [hc]
  clear f1 f3 f4 f5 f6 f7 f8 f9 hc
  generalize tlN n=t at *
  generalize pkN n=p at *
  generalize fsN n=f at *
  have hi:(Tryz.prog.info? 31).map (·.size)=some (#[.int .u64 1,.int .u32 (n:Int),.int .u32 0,.int .u32 0,.int .u32 ((n:Int) - (f:Int)),.int .u32 1,.int .u32 (f:Int),.int .u8 0]:Array Value).size:=sizeR Slt.nil
  have hK:=(Kept.start w).alloc (rootO Slt.nil)
  go_enter Tryz.func66,Tryz.ntmps66
  go_wp2_with fail
  change Calls _ _ _ (w.alloc (rootO Slt.nil)) _
  refine (hL _).mono ?_
  rintro e W1 ⟨rfl,hx⟩
  have hK1:=(hK.below hx).alloc (planO t p f)
  clear hx hK
  have tok:True:=trivial
  go_wp2_with (first
    | (have _t:=tok; refine wpList_store_new rfl 82 _ _ rfl (planCells t p f) _ _ rfl rfl (sizePlan t p f) rfl (planCells_one t p f) ?_; change wpList _ _ _ _ _ (W1.alloc (planO t p f)); generalize hW2:W1.alloc (planO t p f)=W2 at hK1 ⊢; clear hW2; have c2:W2.cell? ⟨W1.heap.size,2,none⟩=some (.int .u32 (f:Int)):=(cell_of_row W2 W1.heap.size 2 _ _ _ (hK1.at_ (q:=W1.heap.size) (o:=planO t p f) (by simp))).trans rfl; have hR:W2.heap[w.heap.size]? = some (.cells (cells Slt.nil) 31 (0,0)):=hK1.at_ (q:=w.heap.size) (o:=rootO Slt.nil) (by simp); clear _t tok)
    | (refine wpList_store_row rfl 31 _ _ rfl w.heap.size #[.int .u64 1,.int .u32 (n:Int),.int .u32 0,.int .u32 0,.int .u32 ((n:Int) - (f:Int)),.int .u32 1,.int .u32 (f:Int),.int .u8 0] rfl rfl _ _ hR hi rfl (by simp [Value.oneCell']) ?_))
  exact bodyPost_ret (results_cell_row rfl _ _ _ _ _ _ _ rfl (setRow_heap _ _ _ _ _ _ hR) Tryz.underlying31 rfl hi) rfl ⟨rfl,Dev.below_row hK1.bel (Nat.le_refl _)⟩
theorem mayBe_any {n:Nat} (h:planOk n=true) (r:Rt) (w:World):Calls Tryz.prog 86 #[.agg (cells r),.int .u32 (n:Int)] w fun e w'=>e=.returned (.bool (mayR r n))∧Below w.heap.size w w':=by
  have hzp:=(zero_of_info infoPlan).1
  obtain ⟨h64,hbig⟩:64≤n∧n≤1048576:=by simpa [planOk] using h
  obtain ⟨-,f2,-,-,-,f6,-,-,-⟩:=plan_facts h64 hbig
  have hL:=Layout_yes h
  have hM:=May_any r
  obtain ⟨ans,ha⟩:∃ ans,ans=mayR r n:=⟨_,rfl⟩
  rw [←ha]
  unfold mayR at ha
  generalize tlN n=t at *
  generalize pkN n=p at *
  generalize fsN n=f at *
  generalize mayB r=m at *
  have HA:=Lib.hid ha
  clear ha
  have hK:=(Kept.start w).alloc (rootO r)
  clear h
  go_enter Tryz.func86,Tryz.ntmps86
  go_wp2_with fail
  change Calls _ _ _ (w.alloc (rootO r)) _
  refine (hL _).mono ?_
  rintro e W1 ⟨rfl,hx⟩
  have hK1:=(hK.below hx).alloc (planO t p f)
  clear hx hK hL
  have tok:True:=trivial
  go_wp2_with (first
    | (have _t:=tok; refine wpList_store_new rfl 82 _ _ rfl (planCells t p f) _ _ rfl rfl (sizePlan t p f) rfl (planCells_one t p f) ?_; change wpList _ _ _ _ _ (W1.alloc (planO t p f)); generalize hW2:W1.alloc (planO t p f)=W2 at hK1 ⊢; clear hW2; have hR:W2.heap[w.heap.size]? = some (.cells (cells r) 31 (0,0)):=hK1.at_ (q:=w.heap.size) (o:=rootO r) (by simp); clear _t tok)
    | (refine wpList_load_row rfl 31 _ rfl w.heap.size rfl _ _ _ _ hR Tryz.underlying31 rfl (sizeR r) ?_)
    | (with_reducible refine (hM _).mono ?_))
  rintro e W3 ⟨rfl,hx⟩
  have hK3:=hK1.below hx
  clear hx hM hR hK1
  have hb:=hK3.bel
  have hC:IsRt W3 w.heap.size r:=hK3.at_ (q:=w.heap.size) (o:=rootO r) (by simp)
  have hP:W3.heap[W1.heap.size]? = some (.cells (planCells t p f) 82 (0,0)):=hK3.at_ (q:=W1.heap.size) (o:=planO t p f) (by simp)
  have e1:=hC.size
  have e2:=hC.picks
  have e4:=hC.free
  have e6:=hC.hint
  have p1:W3.cell? ⟨W1.heap.size,1,none⟩=some (.int .u32 (p:Int)):=(cell_of_row W3 W1.heap.size 1 _ _ _ hP).trans rfl
  have p2:W3.cell? ⟨W1.heap.size,2,none⟩=some (.int .u32 (f:Int)):=(cell_of_row W3 W1.heap.size 2 _ _ _ hP).trans rfl
  clear hP hC hK3
  have s0:(0:Int)≤(p:Int):=by omega
  have s1:(p:Int)≤32:=by omega
  cases m with
  | false=>
    go_wp2
    go_ret
    exact ⟨by rw [HA.out]; rfl,hb⟩
  | true=>
    by_cases hh:r.size=n
    case neg=>
      have d0:((((r.size:Int) == (n:Int)))=false):=by rw [beq_eq_false_iff_ne]; omega
      have H0:=Lib.hid hh
      clear hh
      go_wp2
      go_ret
      exact ⟨by rw [HA.out]; simp [H0.out] <;> omega,hb⟩
    case pos=>
      have d0:((((r.size:Int) == (n:Int)))=true):=by rw [beq_iff_eq]; omega
      have H0:=Lib.hid hh
      clear hh
      by_cases hh:r.picks / 2 ^ p=0
      case neg=>
        have d1:((((r.picks:Int) / 2 ^ p == 0))=false):=by
          rw [beq_eq_false_iff_ne]; intro h9; apply hh; exact_mod_cast h9
        have H1:=Lib.hid hh
        clear hh
        go_wp2
        go_ret
        exact ⟨by rw [HA.out]; simp [H0.out,H1.out] <;> omega,hb⟩
      case pos=>
        have d1:((((r.picks:Int) / 2 ^ p == 0))=true):=by
          rw [beq_iff_eq]; exact_mod_cast hh
        have H1:=Lib.hid hh
        clear hh
        by_cases hh:f≤r.hint
        case neg=>
          have d2:¬ (f:Int)≤(r.hint:Int):=by omega
          have H2:=Lib.hid hh
          clear hh
          go_wp2
          go_ret
          exact ⟨by rw [HA.out]; simp [H0.out,H1.out,H2.out] <;> omega,hb⟩
        case pos=>
          have d2:(f:Int)≤(r.hint:Int):=by omega
          have H2:=Lib.hid hh
          clear hh
          by_cases hh:r.free≤n - f
          case neg=>
            have d3:¬ (r.free:Int)≤(n:Int) - (f:Int):=by omega
            have H3:=Lib.hid hh
            clear hh
            go_wp2
            go_ret
            exact ⟨by rw [HA.out]; simp [H0.out,H1.out,H2.out,H3.out] <;> omega,hb⟩
          case pos=>
            have d3:(r.free:Int)≤(n:Int) - (f:Int):=by omega
            have H3:=Lib.hid hh
            clear hh
            go_wp2
            go_ret
            exact ⟨by rw [HA.out]; simp [H0.out,H1.out,H2.out,H3.out] <;> omega,hb⟩
end Rot
namespace RowLaw
open Go.RowKit
def spliceA (cs:Array Value) (o:Nat):List Value→Array Value
 | []=>cs
 | v::vs=>spliceA (cs.setIfInBounds o v) (o+1) vs
theorem splice_size (vs:List Value):∀ (cs:Array Value) (o:Nat),(spliceA cs o vs).size=cs.size:=by
 induction vs with
 | nil=>intro cs o; rfl
 | cons v vs ih=>intro cs o; unfold spliceA; rw [ih]; simp
theorem splice_get (vs:List Value):∀ (cs:Array Value) (o i:Nat),o+vs.length≤cs.size→(spliceA cs o vs)[i]? = if o≤i∧i < o+vs.length then vs[i - o]? else cs[i]?:=by
 induction vs with
 | nil=>intro cs o i _; unfold spliceA; rw [if_neg (by simp)]
 | cons v vs ih=>
  intro cs o i h
  simp only [List.length_cons] at h
  unfold spliceA
  rw [ih _ _ _ (by simp; omega)]
  simp only [List.length_cons]
  by_cases h1:o+1≤i∧i < o+1+vs.length
  ·rw [if_pos h1,if_pos ⟨by omega,by omega⟩,show i - o=(i - (o+1))+1 from by omega,List.getElem?_cons_succ]
  ·rw [if_neg h1]
   by_cases h2:i=o
   ·subst h2
    rw [if_pos ⟨by omega,by omega⟩,Nat.sub_self,List.getElem?_cons_zero,Array.getElem?_setIfInBounds_self_of_lt (by omega)]
   ·rw [if_neg (fun h3=>h1 ⟨by omega,by omega⟩),Array.getElem?_setIfInBounds_ne (fun e=>h2 e.symm)]
theorem setCells_block (q:Nat) (T:TypeId) (vs:List Value):∀ (cs:Array Value) (o:Nat) (W:World),W.heap[q]? = some (.cells cs T (0,0))→
  (W.setCells q o vs).heap[q]? = some (.cells (spliceA cs o vs) T (0,0))∧(∀ k,k≠q→(W.setCells q o vs).heap[k]? = W.heap[k]?)∧(W.setCells q o vs).os=W.os∧(W.setCells q o vs).tape=W.tape∧(W.setCells q o vs).output=W.output∧(W.setCells q o vs).heap.size=W.heap.size:=by
 induction vs with
 | nil=>intro cs o W h; exact ⟨h,fun _ _=>rfl,rfl,rfl,rfl,rfl⟩
 | cons v vs ih=>
  intro cs o W h
  have h1:=heap_setCell_same W q o cs T v h
  obtain ⟨i1,i2,i3,i4,i5,i6⟩:=ih (cs.setIfInBounds o v) (o+1) (W.setCell ⟨q,o,none⟩ v) h1
  refine ⟨i1,fun k hk=>(i2 k hk).trans (heap_setCell_other W ⟨q,o,none⟩ k v hk),i3,i4,i5,i6.trans (by simp [World.setCell])⟩
theorem there_block {W:World} {q:Nat} {cs:Array Value} {T:TypeId} (h:W.heap[q]? = some (.cells cs T (0,0))) (o n:Nat) (hn:o+n≤cs.size):W.there q o n:=fun j hj=>
 ⟨by rw [cell_of_row W q (o+j) _ _ _ h,Array.getElem?_eq_getElem (by omega)]; rfl,frozen_of_row W q (o+j) _ _ h⟩
theorem quiet_load_mid {P:Program} {I:World→Prop} {K:Act→Prop} {o:Oper} {a:Act} (ty:TypeId) (x:Operand) (ho:o.op=.load ty x) (b off:Nat) (hx:a.eval x=.pointer (some ⟨b,off,none⟩)) (cs:List Value) (d:TypeDesc) (hc:∀ w:World,I w→w.rangeAt b off cs)
  (hu:P.underlying ty=some d) (hd:d.isRow=true) (hi:(P.info? ty).map (·.size)=some cs.length)
  (hk:K (a.put o.dst (.agg cs.toArray))):o.quiet P a (fun w'=>∃ x:{w':World // I w'},w'=x.1) K:=
 ⟨.agg cs.toArray,fun w hw=>by
  obtain ⟨y,rfl⟩:=hw
  unfold Oper.quietAt execOp
  simp only [ho,hx,Instr.loadAt,Instr.sureAddr,Sem.run_bind,Sem.run_pure,Result.andThen_ok,run_loadVar_mid y.1 b off ty cs d (hc y.1 y.2) hu hd hi]
  exact ⟨rfl,rfl⟩,hk⟩
end RowLaw
end Go.Proofs.YtgkbfahflngklaaGreat
namespace Go.Proofs.YtgkbfahflngklaaGreat
open Go.RowKit RowLaw
theorem Kept.setCells {w W: World} {K: List (Nat×Obj)} {q o: Nat} {cs: Array Value} {T: TypeId} {vs: List Value} (h: Kept w ((q,.cells cs T (0,0))::K) W) (hne: ∀ x∈K,x.1≠q): Kept w ((q,.cells (spliceA cs o vs) T (0,0))::K) (W.setCells q o vs):=by
 obtain ⟨h1,h2,h3,h4,h5,h6⟩:=setCells_block q T vs cs o W (h.at_ List.mem_cons_self)
 exact h.put hne h1 h3 h4 h5 (by omega) h2
end Go.Proofs.YtgkbfahflngklaaGreat
namespace Go.Proofs.YtgkbfahflngklaaGreat
namespace Rot
open Go.RowKit RowLaw Crc
open Slt (Rt cells rootO infoR sizeR cells_one IsRt getE)
open Dev (Dev DS ptr readB readR readE Read_any below_row)
end Rot
namespace Rot
open Go.RowKit RowLaw Crc
open Fld (blockO)
open Slt (Rt cells rootO infoR sizeR cells_one IsRt getE)
open Dev (Dev DS ptr readB readR readE Read_any below_row)
end Rot
namespace Rot
open Go.RowKit RowLaw Crc
open Slt (Rt cells rootO infoR sizeR cells_one IsRt getE)
open Dev (Dev DS ptr readB readR readE Read_any below_row)
end Rot

end Go.Proofs.YtgkbfahflngklaaGreat
