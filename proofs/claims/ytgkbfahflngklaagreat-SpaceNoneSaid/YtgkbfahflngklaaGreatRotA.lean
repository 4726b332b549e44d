import Derived.Test.YtgkbfahflngklaaGreatSlt2
import Derived.Test.YtgkbfahflngklaaGreatFld3
import Derived.Test.YtgkbfahflngklaaGreatFld2
import Derived.StillTailTactics
import Derived.Deep.QuietTactic
import Derived.BigQuiet
import Derived.Test.YtgkbfahflngklaaGreatSlt1
import Derived.Laws.CopyOwn
import Derived.Test.YtgkbfahflngklaaGreatPln
import Derived.Test.YtgkbfahflngklaaGreatDevGreat
import Derived.Test.YtgkbfahflngklaaGreatDev2
namespace Go.Proofs.YtgkbfahflngklaaGreat.Slt
open Go.RowKit RowLaw Crc Fld
set_option maxRecDepth 100000
set_option maxHeartbeats 3200000 in
theorem Put_yes (r:Rt) (hm:mayB r=true) (hf:r.Fits) (w:World) :
  Calls Tryz.prog 148 #[.agg (cells r)] w fun e w'=>e=.returned (.tuple #[.agg (cellsOf (rtB r)),.int .i64 0])∧Below w.heap.size w w':=by
 have hmf:∀ (fn:Fn) (first cap:Array Value) (w:World),(Instr.makeFunc fn first cap).run Tryz.prog w=.ok (.func fn first cap) w:=fun _ _ _ _=>rfl
 have hlen:=rtB_length r
 have hzv:=(zero_of_info infoBlock).1
 have hi:=sizeBlock _ hlen
 have hzz:(cellsOf zeros).size=(cellsOf (rtB r)).size:=by rw [cellsOf_size,cellsOf_size,hlen,zeros_length]
 have hK:Kept w [(w.heap.size+1,blockO zeros),(w.heap.size,rootO r)] ((w.alloc (.cells (cells r) 31)).alloc (.cells (cellsOf zeros) 39)):=by
  have h:=((Kept.start w).alloc (rootO r)).alloc (blockO zeros)
  rw [show (w.alloc (rootO r)).heap.size=w.heap.size+1 from by simp] at h
  exact h
 have hcall:=fun W=>May_any r W
 rw [hm] at hcall
 have hcd:fdone (rtF r) 82=rtB r:=rfl
 have HB:=Lib.hid hcd
 generalize rtB r=B at hi hzz HB ⊢
 clear hm hlen hcd
 go_enter Tryz.func148,Tryz.ntmps148
 go_wp2_with (refine wpList_load_row rfl 31 _ rfl (w.heap.size) rfl _ _ _ _ (hK.at_ (q:=w.heap.size) (o:=rootO r) (by simp)) Tryz.underlying31 rfl (sizeR r) ?_)
 refine (hcall _).mono ?_
 rintro e W1 ⟨rfl,hx⟩
 replace hK:=hK.below hx
 clear hx hcall
 go_wp2_with fail
 refine (New_any _).mono ?_
 rintro e W2 ⟨rfl,hw,hx⟩
 have hbox:WBox w _ W1.heap.size (some []) W2:=⟨hK.below hx,hw,hK.bel.size,hK.notin⟩
 clear hK hw hx
 generalize W1.heap.size=q at hbox ⊢
 go_wp2_with fail
 refine (fields_any w.heap.size _).mono ?_
 rintro e W3 ⟨v,rfl,ho,hx⟩
 obtain ⟨g,cap,cur,rfl,hg,hcur,hpl⟩:=own_places ho
 have hbox2:=hbox.more hx hg hcur
 clear hbox hx hg hcur ho
 go_wp2_with fail
 refine (write_any w _ q g cap w.heap.size cur r (by simp) (by simp) hpl hf _ hbox2).mono ?_
 clear hbox2 hpl
 rintro e W4 ⟨rfl,hbk⟩
 go_wp2_with fail
 refine (Done_some _ _ 82 _ hbk.wr).mono ?_
 rintro e W6 ⟨rfl,hb6⟩
 rw [HB.out]
 have hK:=hbk.kept.below hb6
 clear hbk hb6
 have hR:=hK.at_ (q:=w.heap.size+1) (o:=blockO zeros) (by simp)
 go_wp2_with (refine wpList_store_row rfl 39 _ _ rfl _ _ rfl rfl _ _ hR hi hzz (cellsOf_one _) ?_)
 exact bodyPost_ret (results_row_tmp rfl _ _ _ _ _ _ _ rfl (setRow_heap _ _ _ _ _ _ hR) Tryz.underlying39 rfl hi) rfl ⟨rfl,below_row hK.bel (by omega)⟩
end Go.Proofs.YtgkbfahflngklaaGreat.Slt
namespace Go.Proofs.YtgkbfahflngklaaGreat.Slt
open Go.RowKit RowLaw Crc Fld
set_option maxRecDepth 100000
end Go.Proofs.YtgkbfahflngklaaGreat.Slt
namespace Go.Proofs.YtgkbfahflngklaaGreat.Slt
open Go.RowKit RowLaw Crc Fld
set_option maxRecDepth 100000
def sect (old new:List UInt8) (i:Nat):List UInt8:=old.take (i * 64) ++ ((new.drop (i * 64)).take 64 ++ old.drop (i * 64+64))
def keepTo (old new:List UInt8) (m:Nat):Nat→List UInt8
 | 0=>old
 | k+1=>if m.testBit k then sect (keepTo old new m k) new k else keepTo old new m k
end Go.Proofs.YtgkbfahflngklaaGreat.Slt
namespace Go.Proofs.YtgkbfahflngklaaGreat.Rot
open Go.RowKit Crc Fld
set_option maxRecDepth 100000
open Go.Proofs.YtgkbfahflngklaaGreat.Slt (Rt mayB getE putB putE rtB rtB_length getD_get)
open Go.Proofs.YtgkbfahflngklaaGreat.Dev (DS applyP upd keepB writeS writeE flushS flushE flushed succS pushS readB newS)
def mayR (r:Rt) (n:Nat):Bool:=mayB r&&(decide (r.size=n)&&(decide (r.picks / 2 ^ pkN n=0)&&(decide (fsN n≤r.hint)&&decide (r.free≤n - fsN n))))
def writeAll:DS→List (Nat×List UInt8)→DS×Int
 | s,[]=>(s,0)
 | s,x :: l=>if writeE s x.1=0 then writeAll (writeS s x.1 x.2) l else (writeS s x.1 x.2,writeE s x.1)
def writeF (s:DS) (l:List (Nat×List UInt8)):DS×Int:=if (writeAll s l).2=0 then (flushS (writeAll s l).1,flushE (writeAll s l).1) else writeAll s l
def commitOk (n:Nat) (l:List (Nat×List UInt8)) (r:Rt):Bool:=mayR r n&&l.all fun x=>decide (2≤x.1)&&decide (x.1 < n)
def commitF (s:DS) (l:List (Nat×List UInt8)) (r:Rt):DS×Int:=
 if commitOk s.n l r=true then (if (writeF s l).2=0 then writeF (writeF s l).1 [(r.gen % 2,rtB r)] else writeF s l) else (s,2)
theorem writeAll_ok:∀ (l:List (Nat×List UInt8)) (s:DS),s.down=false→(∀ x∈l,x.1 < s.n)→(s.left = -1∨(l.length:Int)≤s.left)→
  writeAll s l=({ s with pend:=s.pend ++ l,left:=if s.left = -1 then -1 else s.left - l.length,writes:=s.writes+l.length },0)
 | [],s,_,_,_=>by
  unfold writeAll
  simp only [List.append_nil,List.length_nil,Nat.add_zero]
  cases s
  simp
 | x :: l,s,hd,ha,hl=>by
  have hx:=ha x List.mem_cons_self
  have hl0:s.left≠0:=by
   simp only [List.length_cons] at hl
   omega
  have hE:writeE s x.1=0:=by unfold writeE; rw [if_neg (by omega),if_neg (by rw [hd]; simp [hl0])]
  have hS:writeS s x.1 x.2={ s with pend:=s.pend ++ [x],left:=if s.left = -1 then -1 else s.left - 1,writes:=s.writes+1 }:=by
   unfold writeS
   rw [if_neg (by omega),if_neg (by rw [hd]; simp)]
   unfold succS pushS
   rw [if_neg hl0]
  have ih:=writeAll_ok l (writeS s x.1 x.2) (by rw [hS]; exact hd) (by rw [hS]; exact fun y hy=>ha y (List.mem_cons_of_mem _ hy)) (by
   rw [hS]
   simp only [List.length_cons] at hl
   rcases hl with h | h
   ·left; exact if_pos h
   ·right
    show (l.length:Int)≤if s.left = -1 then -1 else s.left - 1
    rw [if_neg (by omega)]; omega)
  unfold writeAll
  rw [if_pos hE,ih,hS]
  simp only [List.append_assoc,List.singleton_append,List.length_cons,Prod.mk.injEq,and_true,DS.mk.injEq,true_and]
  refine ⟨?_,by omega⟩
  rcases hl with h | h
  ·rw [if_pos h,if_pos rfl,if_pos h]
  ·simp only [List.length_cons] at h
   rw [if_neg (by omega),if_neg (by omega),if_neg (by omega)]
   omega
theorem applyP_len:∀ (l:List (Nat×List UInt8)) (g:Nat→List UInt8),(∀ a,(g a).length=256)→(∀ x∈l,x.2.length=256)→∀ a,(applyP g l a).length=256
 | [],_,hg,_=>hg
 | x :: l,g,hg,hl=>by
  have e: applyP g (x :: l)=applyP (upd g x.1 x.2) l:=rfl
  rw [e]
  refine applyP_len l _ (fun a=>?_) (fun y hy=>hl y (List.mem_cons_of_mem _ hy))
  unfold upd
  split
  ·exact hl x List.mem_cons_self
  ·exact hg a
theorem flush_good {s:DS} (hd:s.down=false) (h:s.left≠0):flushS s={ s with g:=applyP s.g s.pend,pend:=[],left:=if s.left = -1 then -1 else s.left - 1,writes:=s.writes+1 }∧flushE s=0:=by
 constructor
 ·unfold flushS
  rw [if_neg (by rw [hd]; simp),if_neg h]
  unfold flushed succS
  rw [if_neg h]
 ·unfold flushE
  rw [if_neg (by rw [hd]; simp [h])]
theorem writeF_ok {s:DS} {l:List (Nat×List UInt8)} (hd:s.down=false) (hp:s.pend=[]) (ha:∀ x∈l,x.1 < s.n) (h:s.left = -1∨(l.length:Int)+1≤s.left) :
  writeF s l=({ s with g:=applyP s.g l,pend:=[],left:=if s.left = -1 then -1 else s.left - l.length - 1,writes:=s.writes+l.length+1 },0):=by
 have e:=writeAll_ok l s hd ha (h.imp id (by omega))
 obtain ⟨q,hq⟩:∃ q:Int,q=if s.left = -1 then -1 else s.left - l.length:=⟨_,rfl⟩
 have hz:q≠0:=by
  rcases h with h | h
  ·rw [hq,if_pos h]; decide
  ·rw [hq,if_neg (by omega)]; omega
 have hq2:(if q = -1 then (-1:Int) else q - 1)=if s.left = -1 then -1 else s.left - l.length - 1:=by
  rcases h with h | h
  ·rw [hq,if_pos h,if_pos rfl,if_pos h]
  ·rw [hq,if_neg (by omega),if_neg (by omega),if_neg (by omega)]
 rw [←hq,hp] at e
 rw [←hq2]
 unfold writeF
 rw [e,if_pos rfl]
 have hf:=flush_good (s:={ s with pend:=[] ++ l,left:=q,writes:=s.writes+l.length }) hd hz
 rw [hf.1,hf.2]
 simp
structure Good (r:Rt) (n:Nat):Prop where
 fits:r.Fits
 may:mayR r n=true
theorem Good.mayB {r:Rt} {n:Nat} (h:Good r n):Slt.mayB r=true:=by
 have:=h.may
 unfold mayR at this
 rw [Bool.and_eq_true] at this
 exact this.1
theorem readB_nil {s:DS} (hp:s.pend=[]) (a:Nat):readB s a=s.g a:=by unfold readB; rw [hp]; rfl
end Go.Proofs.YtgkbfahflngklaaGreat.Rot
namespace Go.Proofs.YtgkbfahflngklaaGreat.Rot
open Go.RowKit Crc Fld
set_option maxRecDepth 100000
open Go.Proofs.YtgkbfahflngklaaGreat.Slt (Rt mayB getE putB putE rtB rtB_length)
open Go.Proofs.YtgkbfahflngklaaGreat.Dev (DS applyP applyP_snoc upd readB newS)
def fresh (n:Nat):Rt:=⟨1,n,0,0,n - fsN n,1,fsN n,0⟩
theorem fresh_good {n:Nat} (h1:64≤n) (h2:n≤1048576):Good (fresh n) n:=by
 obtain ⟨_,f2,_⟩:=plan_facts h1 h2
 refine ⟨⟨by show (1:Nat) < _; omega,by show n < _; omega,by show (0:Nat) < _; omega,by show (0:Nat) < _; omega,by show n - fsN n < _; omega,by show (1:Nat) < _; omega,by show fsN n < _; omega,by show (0:Nat) < _; omega⟩,?_⟩
 unfold mayR
 have hm:mayB (fresh n)=true:=by
  rw [Slt.mayB_iff]
  unfold Slt.May fresh
  simp only
  exact ⟨Nat.le_refl _,h1,h2,by omega,by omega,f2,by omega,Nat.le_refl _,by omega,by simp⟩
 rw [hm]
 have e1:(fresh n).size=n:=rfl
 have e2:(fresh n).picks / 2 ^ pkN n=0:=Nat.zero_div _
 have e3:fsN n≤(fresh n).hint:=Nat.le_refl _
 have e4:(fresh n).free≤n - fsN n:=Nat.le_refl _
 rw [decide_eq_true e1,decide_eq_true e2,decide_eq_true e3,decide_eq_true e4]
 rfl
def toZero (g:Nat→List UInt8) (k:Nat):List (Nat×List UInt8):=((List.range k).filter fun a=>decide (g a≠zeros)).map fun a=>(a,zeros)
theorem toZero_succ (g:Nat→List UInt8) (k:Nat):toZero g (k+1)=if g k=zeros then toZero g k else toZero g k ++ [(k,zeros)]:=by
 unfold toZero
 rw [List.range_succ,List.filter_append,List.map_append]
 by_cases h:g k=zeros
 ·simp [h]
 ·simp [h]
theorem toZero_mem {g:Nat→List UInt8} {k:Nat} {x:Nat×List UInt8} (h:x∈toZero g k):x.1 < k∧x.2=zeros:=by
 unfold toZero at h
 rw [List.mem_map] at h
 obtain ⟨a,ha,rfl⟩:=h
 have:=(List.mem_filter.1 ha).1
 exact ⟨List.mem_range.1 this,rfl⟩
theorem toZero_length (g:Nat→List UInt8) (k:Nat):(toZero g k).length≤k:=by
 unfold toZero
 rw [List.length_map]
 have:=List.length_filter_le (fun a=>decide (g a≠zeros)) (List.range k)
 rw [List.length_range] at this
 exact this
theorem applyP_app (g:Nat→List UInt8) (l m:List (Nat×List UInt8)):applyP g (l ++ m)=applyP (applyP g l) m:=by
 unfold applyP
 rw [List.foldl_append]
theorem toZero_apply (g:Nat→List UInt8):∀ k a,applyP g (toZero g k) a=if a < k then zeros else g a
 | 0,a=>by rw [if_neg (by omega)]; rfl
 | k+1,a=>by
  rw [toZero_succ]
  by_cases h:g k=zeros
  ·rw [if_pos h,toZero_apply g k a]
   by_cases hak:a=k
   ·subst hak; rw [if_neg (by omega),if_pos (by omega),h]
   ·by_cases h2:a < k
    ·rw [if_pos h2,if_pos (by omega)]
    ·rw [if_neg h2,if_neg (by omega)]
  ·rw [if_neg h,applyP_app]
   show upd (applyP g (toZero g k)) k zeros a=_
   unfold upd
   by_cases hak:a=k
   ·rw [if_pos hak,if_pos (by omega)]
   ·rw [if_neg hak,toZero_apply g k a]
    by_cases h2:a < k
    ·rw [if_pos h2,if_pos (by omega)]
    ·rw [if_neg h2,if_neg (by omega)]
theorem toZero_none {g:Nat→List UInt8} (h:∀ a,g a=zeros) (k:Nat):toZero g k=[]:=by
 induction k with
 | zero=>rfl
 | succ k ih=>rw [toZero_succ,if_pos (h k),ih]
def formatF (s:DS):DS×(Rt×Int):=
  if (writeF s (toZero (readB s) (fsN s.n))).2=0 then
    (if (writeF (writeF s (toZero (readB s) (fsN s.n))).1 [(1,rtB (fresh s.n))]).2=0 then ((writeF (writeF s (toZero (readB s) (fsN s.n))).1 [(1,rtB (fresh s.n))]).1,(fresh s.n,0))
     else ((writeF (writeF s (toZero (readB s) (fsN s.n))).1 [(1,rtB (fresh s.n))]).1,(Slt.nil,(writeF (writeF s (toZero (readB s) (fsN s.n))).1 [(1,rtB (fresh s.n))]).2)))
  else ((writeF s (toZero (readB s) (fsN s.n))).1,(Slt.nil,(writeF s (toZero (readB s) (fsN s.n))).2))
structure Calm (s:DS):Prop where
 down:s.down=false
 left:s.left = -1
 pend:s.pend=[]
 len:∀ a,(s.g a).length=256
theorem Calm.new (n:Nat):Calm (newS n):=⟨rfl,rfl,rfl,fun _=>zeros_length⟩
theorem format_calm {s:DS} (h:Calm s) (h1:64≤s.n) (h2:s.n≤1048576) :
  ∃ k,formatF s=({ s with g:=upd (applyP s.g (toZero s.g (fsN s.n))) 1 (rtB (fresh s.n)),writes:=k },(fresh s.n,0)):=by
 obtain ⟨_,f2,_⟩:=plan_facts h1 h2
 have hr:readB s=s.g:=funext fun a=>readB_nil h.pend a
 have e1:=writeF_ok (l:=toZero s.g (fsN s.n)) h.down h.pend (fun x hx=>by have:=(toZero_mem hx).1; omega) (.inl h.left)
 rw [if_pos h.left] at e1
 have e2:=writeF_ok (s:={ s with g:=applyP s.g (toZero s.g (fsN s.n)),pend:=[],left := -1,writes:=s.writes+(toZero s.g (fsN s.n)).length+1 }) (l:=[(1,rtB (fresh s.n))]) h.down rfl (fun x hx=>by
  simp only [List.mem_singleton] at hx
  subst hx
  show 1 < s.n
  omega) (.inl rfl)
 refine ⟨s.writes+(toZero s.g (fsN s.n)).length+1+1+1,?_⟩
 unfold formatF
 rw [hr,e1,if_pos rfl,e2,if_pos rfl]
 have hl:=h.left
 have hp:=h.pend
 cases s
 simp only at hl hp
 subst hl hp
 rfl
theorem commit_calm {s:DS} (h:Calm s) {l:List (Nat×List UInt8)} {r:Rt} (ok:commitOk s.n l r=true) (hn:2≤s.n) :
  ∃ k,commitF s l r=({ s with g:=upd (applyP s.g l) (r.gen % 2) (rtB r),writes:=k },0):=by
 have ha:∀ x∈l,x.1 < s.n:=fun x hx=>by
  unfold commitOk at ok
  rw [Bool.and_eq_true] at ok
  have:=List.all_eq_true.1 ok.2 x hx
  simp at this
  exact this.2
 have e1:=writeF_ok (l:=l) h.down h.pend ha (.inl h.left)
 rw [if_pos h.left] at e1
 have e2:=writeF_ok (s:={ s with g:=applyP s.g l,pend:=[],left := -1,writes:=s.writes+l.length+1 }) (l:=[(r.gen % 2,rtB r)]) h.down rfl (fun x hx=>by
  simp only [List.mem_singleton] at hx
  subst hx
  show r.gen % 2 < s.n
  have:r.gen % 2 < 2:=Nat.mod_lt _ (by omega)
  omega) (.inl rfl)
 refine ⟨s.writes+l.length+1+1+1,?_⟩
 unfold commitF
 rw [if_pos ok,e1,if_pos rfl,e2]
 have hl:=h.left
 have hp:=h.pend
 cases s
 simp only at hl hp
 subst hl hp
 rfl
theorem calm_upd {s:DS} (h:Calm s) {l:List (Nat×List UInt8)} (hl:∀ x∈l,x.2.length=256) (a:Nat) (b:List UInt8) (hb:b.length=256) (k:Nat):Calm { s with g:=upd (applyP s.g l) a b,writes:=k }:=
 ⟨h.down,h.left,h.pend,fun c=>by
  show (upd (applyP s.g l) a b c).length=256
  unfold upd
  split
  ·exact hb
  ·exact applyP_len _ _ h.len hl c⟩
theorem commit_bad {s:DS} {l:List (Nat×List UInt8)} {r:Rt} (h:commitOk s.n l r=false):commitF s l r=(s,2):=by
 unfold commitF
 rw [if_neg (by rw [h]; simp)]
theorem read_commit {s:DS} (h:Calm s) {l:List (Nat×List UInt8)} {r:Rt} (ok:commitOk s.n l r=true) (hn:2≤s.n) (c:Nat) (hc:2≤c):readB (commitF s l r).1 c=applyP s.g l c:=by
 obtain ⟨k,e⟩:=commit_calm h ok hn
 have hm:r.gen % 2 < 2:=Nat.mod_lt _ (by omega)
 rw [e]
 refine (readB_nil (s:={ s with g:=upd (applyP s.g l) (r.gen % 2) (rtB r),writes:=k }) h.pend c).trans ?_
 show upd (applyP s.g l) (r.gen % 2) (rtB r) c=_
 unfold upd
 rw [if_neg (by omega)]
end Go.Proofs.YtgkbfahflngklaaGreat.Rot
