import Derived.Test.YtgkbfahflngklaaGreatRotB
import Derived.Test.YtgkbfahflngklaaGreatRotBox
import Derived.StillTailTactics
set_option maxRecDepth 100000
set_option maxHeartbeats 1600000
namespace Go.Proofs.YtgkbfahflngklaaGreat
namespace Rot
open Go.RowKit RowLaw Crc
open Slt (Rt cells rootO rtB)
open Dev (Dev DS ptr writeS writeE flushS flushE succS pushS flushed)
def StopAt (n:Nat) (es:Nat→Int) (m:Nat) (z:Int):Prop:=(m=n∧z=0∧∀ k,k < n→es k=0)∨(∃ k,k < n∧m=k+1∧z=es k∧es k≠0∧∀ j,j < k→es j=0)
theorem run_any (sb n cap:Nat) (hn:n < 9223372036854775807) (fs:Nat→FuncId) (caps:Nat→Array Value) (es:Nat→Int) (St:Nat→World→Prop) (w:World)
  (hen:∀ k,k < n→∀ (W:World),(callFunc (fs k) (caps k)).run Tryz.prog W=.ok (.enter (fs k) (caps k)) W)
  (hrow:∀ k W,St k W→∀ j,j < n→W.cell? ⟨sb,j,none⟩=some (.func (.func (fs j)) #[] (caps j)))
  (hcall:∀ k,k < n→(∀ j,j < k→es j=0)→∀ W,St k W→Calls Tryz.prog (fs k) (caps k) W fun e W'=>e=.returned (.int .i64 (es k))∧St (k+1) W')
  (h0:St 0 w) :
  Calls Tryz.prog 68 #[.slice (some ⟨sb,0,none⟩) n cap] w fun e w'=>∃ m z,e=.returned (.int .i64 z)∧StopAt n es m z∧St m w':=by
 have HE:=Lib.hid hen; clear hen
 have HR:=Lib.hid hrow; clear hrow
 have HC:=Lib.hid hcall; clear hcall
 go_enter Tryz.func68,Tryz.ntmps68
 go_wp2
 go_loopw [8] (fun i wr=>∃ k:Nat,k≤n∧i=.int .i64 k∧St k wr∧Hid (∀ j,j < k→es j=0)) (fun i _=>n - (intOf i).toNat)
 case atStart=>exact ⟨0,Nat.zero_le _,rfl,h0,show ∀ j,j < 0→es j=0 from fun j h=>absurd h (by omega)⟩
 case round=>
  obtain ⟨k,hk,rfl,hst,hb⟩:=hrel
  clear h0
  by_cases hkn:k < n
  ·have hc1:=HR.out k wr hst k hkn
   have hen:=HE.out k hkn
   have hc:=HC.out k hkn hb.out wr hst
   obtain ⟨z,hz⟩:∃ z,z=es k:=⟨_,rfl⟩
   rw [←hz] at hc
   have HZ:=Lib.hid hz; clear hz
   clear hst
   by_cases h0:z=0
   ·subst h0
    go_wp2_with (with_reducible refine hc.mono ?_; rintro e W2 ⟨rfl,hst3⟩)
    go_roundw
    case rel=>exact ⟨k+1,by omega,by go_num,hst3,show ∀ j,j < k+1→es j=0 from fun j hj=>by
     by_cases h:j=k
     ·subst h; exact HZ.out.symm
     ·exact hb.out j (by omega)⟩
    case measure=>simp [intOf]; omega
   ·have d0:(z != 0)=true:=by simpa using h0
    have H0:=Lib.hid h0
    clear h0
    go_wp2_with (with_reducible refine hc.mono ?_; rintro e W2 ⟨rfl,hst3⟩)
    go_ret
    exact ⟨k+1,z,rfl,.inr ⟨k,hkn,rfl,HZ.out,(by rw [←HZ.out]; exact H0.out),hb.out⟩,hst3⟩
  ·have hkk:k=n:=by omega
   subst hkk
   go_wp2
   go_ret
   exact ⟨k,0,rfl,.inl ⟨rfl,rfl,hb.out⟩,hst⟩
def replF (s:DS) (l:List (Nat×List UInt8)) (r:Rt):DS×Int:=if (writeF s l).2=0 then writeF (writeF s l).1 [(r.gen % 2,rtB r)] else writeF s l
def stepF (l:List (Nat×List UInt8)) (r:Rt) (s:DS) (k:Nat):DS×Int:=
 if k < l.length then (writeS s (l.getD k (0,[])).1 (l.getD k (0,[])).2,writeE s (l.getD k (0,[])).1) else if k=l.length+1 then (writeS s (r.gen % 2) (rtB r),writeE s (r.gen % 2)) else (flushS s,flushE s)
def stF (s:DS) (l:List (Nat×List UInt8)) (r:Rt):Nat→DS
 | 0=>s
 | k+1=>(stepF l r (stF s l r k) k).1
def esF (s:DS) (l:List (Nat×List UInt8)) (r:Rt) (k:Nat):Int:=(stepF l r (stF s l r k) k).2
theorem writeAll_app:∀ (l m:List (Nat×List UInt8)) (s:DS),writeAll s (l ++ m)=if (writeAll s l).2=0 then writeAll (writeAll s l).1 m else writeAll s l
 | [],m,s=>by rw [List.nil_append,writeAll,if_pos rfl]
 | x::l,m,s=>by
  rw [List.cons_append,writeAll,writeAll]
  by_cases h:writeE s x.1=0
  ·rw [if_pos h,if_pos h,writeAll_app l m]
  ·rw [if_neg h,if_neg h,if_neg h]
theorem writeAll_one (s:DS) (x:Nat×List UInt8):writeAll s [x]=(writeS s x.1 x.2,writeE s x.1):=by
 rw [writeAll]
 by_cases h:writeE s x.1=0
 ·rw [if_pos h,writeAll,h]
 ·rw [if_neg h]
theorem getD_get {l:List (Nat×List UInt8)} {k:Nat} (h:k < l.length):l.getD k (0,[])=l[k]:=by rw [List.getD_eq_getElem?_getD,List.getElem?_eq_getElem h]; rfl
section
variable {s:DS} {l:List (Nat×List UInt8)} {r:Rt}
theorem esF_w {k:Nat} (h:k < l.length):esF s l r k=writeE (stF s l r k) l[k].1∧stF s l r (k+1)=writeS (stF s l r k) l[k].1 l[k].2:=by
 unfold esF
 rw [stF,stepF,if_pos h,getD_get h]
 exact ⟨rfl,rfl⟩
theorem esF_f:esF s l r l.length=flushE (stF s l r l.length)∧stF s l r (l.length+1)=flushS (stF s l r l.length):=by
 unfold esF
 rw [stF,stepF,if_neg (by omega),if_neg (by omega)]
 exact ⟨rfl,rfl⟩
theorem esF_r:esF s l r (l.length+1)=writeE (stF s l r (l.length+1)) (r.gen % 2)∧stF s l r (l.length+2)=writeS (stF s l r (l.length+1)) (r.gen % 2) (rtB r):=
 ⟨by unfold esF; rw [stepF,if_neg (by omega),if_pos rfl],by rw [show stF s l r (l.length+2)=(stepF l r (stF s l r (l.length+1)) (l.length+1)).1 from rfl,stepF,if_neg (by omega),if_pos rfl]⟩
theorem esF_g:esF s l r (l.length+2)=flushE (stF s l r (l.length+2))∧stF s l r (l.length+3)=flushS (stF s l r (l.length+2)):=
 ⟨by unfold esF; rw [stepF,if_neg (by omega),if_neg (by omega)],by rw [show stF s l r (l.length+3)=(stepF l r (stF s l r (l.length+2)) (l.length+2)).1 from rfl,stepF,if_neg (by omega),if_neg (by omega)]⟩
theorem writeAll_to {k:Nat} (hk:k≤l.length):(∀ j,j < k→esF s l r j=0)→writeAll s (l.take k)=(stF s l r k,0):=by
 induction k with
 | zero=>intro _; rfl
 | succ k ih=>
  intro h
  have h1:=ih (by omega) (fun j hj=>h j (by omega))
  rw [List.take_succ_eq_append_getElem (by omega),writeAll_app,h1,if_pos rfl,writeAll_one,←(esF_w (s:=s) (r:=r) (show k < l.length by omega)).1,h k (by omega),(esF_w (s:=s) (r:=r) (show k < l.length by omega)).2]
theorem writeAll_stop {k:Nat} (hk:k < l.length) (h:∀ j,j < k→esF s l r j=0) (hne:esF s l r k≠0):writeAll s l=(stF s l r (k+1),esF s l r k):=by
 have h1:=writeAll_to (Nat.le_of_lt hk) h
 have e:l=l.take (k+1) ++ l.drop (k+1):=(List.take_append_drop _ _).symm
 have h2:writeAll s (l.take (k+1))=(stF s l r (k+1),esF s l r k):=by
  rw [List.take_succ_eq_append_getElem hk,writeAll_app,h1,if_pos rfl,writeAll_one,←(esF_w (s:=s) (r:=r) hk).1,(esF_w (s:=s) (r:=r) hk).2]
 conv=>lhs; rw [e]
 rw [writeAll_app,h2,if_neg hne]
theorem stop_repl {m:Nat} {z:Int} (h:StopAt (l.length+3) (esF s l r) m z):replF s l r=(stF s l r m,z):=by
 rcases h with ⟨rfl,rfl,h⟩ | ⟨k,hk,rfl,rfl,hne,h⟩
 ·have h1:=writeAll_to (k:=l.length) (Nat.le_refl _) (fun j hj=>h j (by omega))
  rw [List.take_length] at h1
  have hf:=h l.length (by omega)
  rw [esF_f.1] at hf
  have hF:writeF s l=(stF s l r (l.length+1),0):=by unfold writeF; rw [h1,if_pos rfl,hf,esF_f.2]
  have hr:=h (l.length+1) (by omega)
  have hg:=h (l.length+2) (by omega)
  rw [esF_r.1] at hr
  rw [esF_g.1] at hg
  unfold replF
  rw [hF,if_pos rfl]
  unfold writeF
  rw [writeAll_one,if_pos hr,←esF_r.2,hg,←esF_g.2]
 ·rcases (by omega:k < l.length∨k=l.length∨k=l.length+1∨k=l.length+2) with h1 | rfl | rfl | rfl
  ·have h2:=writeAll_stop h1 h hne
   have hF:writeF s l=(stF s l r (k+1),esF s l r k):=by unfold writeF; rw [h2,if_neg hne]
   unfold replF
   rw [hF,if_neg hne]
  ·have h1:=writeAll_to (k:=l.length) (Nat.le_refl _) h
   rw [List.take_length] at h1
   have hF:writeF s l=(stF s l r (l.length+1),esF s l r l.length):=by unfold writeF; rw [h1,if_pos rfl,esF_f.1,esF_f.2]
   unfold replF
   rw [hF,if_neg hne]
  ·have h1:=writeAll_to (k:=l.length) (Nat.le_refl _) (fun j hj=>h j (by omega))
   rw [List.take_length] at h1
   have hf:=h l.length (by omega)
   rw [esF_f.1] at hf
   have hF:writeF s l=(stF s l r (l.length+1),0):=by unfold writeF; rw [h1,if_pos rfl,hf,esF_f.2]
   unfold replF
   rw [hF,if_pos rfl]
   unfold writeF
   rw [writeAll_one,if_neg (by rw [←esF_r.1]; exact hne),←esF_r.2,←esF_r.1]
  ·have h1:=writeAll_to (k:=l.length) (Nat.le_refl _) (fun j hj=>h j (by omega))
   rw [List.take_length] at h1
   have hf:=h l.length (by omega)
   rw [esF_f.1] at hf
   have hF:writeF s l=(stF s l r (l.length+1),0):=by unfold writeF; rw [h1,if_pos rfl,hf,esF_f.2]
   have hr:=h (l.length+1) (by omega)
   rw [esF_r.1] at hr
   unfold replF
   rw [hF,if_pos rfl]
   unfold writeF
   rw [writeAll_one,if_pos hr,←esF_r.2,←esF_g.1,←esF_g.2]
theorem writeS_pend (s:DS) (a:Nat) (b:List UInt8):(writeS s a b).pend.length≤s.pend.length+1:=by
 unfold writeS
 split
 ·omega
 ·split
  ·omega
  ·unfold succS pushS
   split <;> simp
theorem flushS_pend (s:DS):(flushS s).pend.length≤s.pend.length:=by
 unfold flushS
 split
 ·omega
 ·split
  ·show s.pend.length≤s.pend.length
   omega
  ·unfold succS flushed
   split <;> simp
theorem stF_pend (k:Nat):(stF s l r k).pend.length≤s.pend.length+k:=by
 induction k with
 | zero=>exact Nat.le_refl _
 | succ k ih=>
  have:=ih
  rw [stF,stepF]
  split
  ·have h2:=writeS_pend (stF s l r k) (l.getD k (0,[])).1 (l.getD k (0,[])).2
   show (writeS _ _ _).pend.length≤_
   omega
  ·split
   ·have h2:=writeS_pend (stF s l r k) (r.gen % 2) (rtB r)
    show (writeS _ _ _).pend.length≤_
    omega
   ·have h2:=flushS_pend (stF s l r k)
    show (flushS _).pend.length≤_
    omega
end
end Rot
namespace Rot
open Go.RowKit RowLaw Crc
open Fld (blockO)
open Slt (Rt cells rootO rtB rtB_length infoR sizeR cells_one mayB)
open Dev (Dev DS ptr writeS writeE flushS flushE putCells Box)
theorem still_load_mid {P:Program} {w:World} {K:Act→Prop} {o:Oper} {a:Act} (ty:TypeId) (x:Operand) (ho:o.op=.load ty x) (b off:Nat) (hx:a.eval x=.pointer (some ⟨b,off,none⟩)) (cs:Array Value) (d:TypeDesc) (hc:w.rangeAt b off cs.toList)
  (hu:P.underlying ty=some d) (hd:d.isRow=true) (hi:(P.info? ty).map (·.size)=some cs.size) (hk:K (a.put o.dst (.agg cs))):o.still P a w K:=by
 unfold Oper.still execOp
 have h:=run_loadVar_mid (P:=P) w b off ty cs.toList d hc hu hd (by simpa using hi)
 simp only [ho,hx,Instr.loadAt,Instr.sureAddr,Sem.run_bind,Sem.run_pure,Result.andThen_ok,h]
 simpa [Oper.stillUpon] using hk
section
variable {w W:World} {B:List Nat} {p:Nat} {s:DS}
theorem step1_any (h:Box w B p s [] W) {pb lb ib b off n cap k:Nat} {x:Nat×List UInt8} (c0:W.cell? ⟨pb,0,none⟩=some (ptr p)) (c1:W.cell? ⟨lb,0,none⟩=some (.slice (some ⟨b,off,none⟩) n cap)) (c2:W.cell? ⟨ib,0,none⟩=some (.int .i64 (k:Int)))
  (hk:k < n) (hr:W.rangeAt b (off+k * 257) (putCells x)) (hx:x.1 < 4294967296) (hl:x.2.length=256) (hlen:s.pend.length < 4294967295) :
  Calls Tryz.prog 143 #[ptr pb,ptr lb,ptr ib] W fun e W'=>e=.returned (.int .i64 (writeE s x.1))∧Box w B p (writeS s x.1 x.2) [] W':=by
 have hi:=sizeBlock _ hl
 obtain ⟨xa,xl⟩:=x
 simp only at hx hl hi ⊢
 have ca:W.cell? ⟨b,off+k * 257,none⟩=some (.int .u32 (xa:Int)):=by simpa using hr 0 _ rfl
 have cr:W.drew.rangeAt b (off+k * 257+1) (cellsOf xl).toList:=fun j v hv=>by
  rw [Nat.add_assoc,Nat.add_comm 1 j]
  exact hr (j+1) v hv
 have i0:(0:Int)≤(k:Int):=by omega
 have i1:(k:Int) < (n:Int):=by omega
 have hB:=h.drew
 clear hr h
 unfold ptr at c0 ⊢
 go_enter Tryz.func143,Tryz.ntmps143
 go_wp2_with fail
 refine wp_region_still_tail 11 (by kernel_rfl) (by kernel_rfl) ?_
 simp only [List.take_succ_cons,List.take_zero,List.drop_succ_cons,List.drop_zero]
 have HB:=Lib.hid hB
 have HC:=Lib.hid cr
 clear hB cr
 iterate 10 still_step
 refine wpStill_step (fun K hK=>?_)
 rw [if_pos (by rfl)]
 refine still_load_mid 39 _ rfl b (off+k * 257+1) rfl (cellsOf xl) _ HC.out Tryz.underlying39 rfl hi ?_
 refine hK _ ?_
 clear hK K
 refine wpStill_nil ?_
 change wpList _ _ _ _ _ W.drew
 have hw:=HB.out.write (a:=xa) hx (l:=xl) hl hlen
 unfold ptr at hw
 clear c0 c1 c2 ca HB HC
 generalize W.drew=W1 at hw ⊢
 go_wp2_with (with_reducible refine hw.mono ?_; rintro e W2 ⟨rfl,hb2⟩)
 go_ret
 exact ⟨rfl,hb2⟩
theorem step2_any (h:Box w B p s [] W) {pb:Nat} (c0:W.cell? ⟨pb,0,none⟩=some (ptr p)) (hlen:s.pend.length < 4294967296) :
  Calls Tryz.prog 145 #[ptr pb] W fun e W'=>e=.returned (.int .i64 (flushE s))∧Box w B p (flushS s) [] W':=by
 have hw:=h.flush hlen
 unfold ptr at c0 hw ⊢
 go_enter Tryz.func145,Tryz.ntmps145
 go_wp2_with (with_reducible refine hw.mono ?_; rintro e W2 ⟨rfl,hb2⟩)
 go_ret
 exact ⟨rfl,hb2⟩
theorem step3_any (h:Box w B p s [] W) {pb rb:Nat} {r:Rt} (c1:W.heap[rb]? = some (.cells (cells r) 31 (0,0))) (hold:∀ W' K s',Box w B p s' K W'→W'.cell? ⟨pb,0,none⟩=some (ptr p)∧W'.heap[rb]? = some (.cells (cells r) 31 (0,0)))
    (hm:mayB r=true) (hf:r.Fits) (hlen:s.pend.length < 4294967295) :
    Calls Tryz.prog 147 #[ptr rb,ptr pb] W fun e W'=>e=.returned (.int .i64 (writeE s (r.gen % 2)))∧Box w B p (writeS s (r.gen % 2) (rtB r)) [] W':=by
  have hzb:=(zero_of_info infoBlock).1
  have hlr:=rtB_length r
  have hi:=sizeBlock _ hlr
  have hzz:(cellsOf zeros).size=(cellsOf (rtB r)).size:=by rw [cellsOf_size,cellsOf_size,hlr,zeros_length]
  have hPut:=Slt.Put_yes r hm hf
  have hHome:=home_any r
  have hgen:r.gen % 2 < 4294967296:=by omega
  generalize r.gen % 2=m at hHome hgen ⊢
  generalize rtB r=L at hlr hi hzz hPut ⊢
  have HO:=Lib.hid hold
  have HH:=Lib.hid hHome
  clear hold hm hf hHome
  unfold ptr at HO ⊢
  go_enter Tryz.func147,Tryz.ntmps147
  go_wp2_with (refine wpList_load_row rfl 31 _ rfl rb rfl _ _ _ _ c1 Tryz.underlying31 rfl (sizeR r) ?_)
  refine (hPut W).mono ?_
  rintro e W1 ⟨rfl,hx⟩
  have hB:=(h.below hx).alloc (blockO L)
  clear hx h c1 hPut
  have tok:True:=trivial
  go_upto_region 2 with (first
    | (have _t:=tok; refine wpList_store_new rfl 39 _ _ rfl (cellsOf L) _ _ rfl rfl hi hzz (cellsOf_one _) ?_; change wpList _ _ _ _ _ (W1.alloc (blockO L)); clear _t tok))
  change Code.wp _ _ _ _ (W1.alloc (blockO L))
  generalize W1.heap.size=q at hB ⊢
  generalize W1.alloc (blockO L)=W2 at hB ⊢
  go_wp2_with fail
  have hS:=hB.drew
  clear hB
  have tk:∀ W',(∃ s',Box w B p s' [(q,blockO L)] W')→W'.heap[q]? = some (.cells (cellsOf L) 39 (0,0)):=fun W' ⟨_,h⟩=>h.at_ (q:=q) (o:=blockO L) (by simp)
  refine wp_region_noPanic ?_
  refine wp_region_held_drew (S:=fun W'=>∃ s',Box w B p s' [(q,blockO L)] W') (by kernel_rfl) ⟨_,hS⟩ ?_
  intro hT
  generalize W2.drew=V at hS hT ⊢
  refine RowLaw.tkV 0 10 (.pointer (some ⟨p,0,none⟩)) hT ?_ (hy:=(Or.inl ⟨by rfl,fun w ⟨_,hw⟩=>by have c3:=(HO.out _ _ _ hw).1; go_simp⟩))
  simp only [RowLaw.lset]
  refine RowLaw.tkV 1 11 (.agg (cells r)) hT ?_ (hy:=(yieldsIf_load_row (by rfl) 31 _ rfl rb rfl _ _ _ _ (fun _ ⟨_,h⟩=>(HO.out _ _ _ h).2) Tryz.underlying31 rfl (sizeR r)))
  simp only [RowLaw.lset]
  refine RowLaw.tkV 3 13 (.agg (cellsOf L)) hT ?_ (hy:=(yieldsIf_load_row (by rfl) 39 _ rfl q rfl _ _ _ _ tk Tryz.underlying39 rfl hi))
  simp only [RowLaw.lset]
  refine wpAnyH_ready (rs:=[2]) (by kernel_rfl) (by simp) ?_
  refine AllReadyH.cons rfl (fun K hK=>?_) AllReadyH.nil
  go_simp
  refine (HH.out V).mono ?_
  rintro e V1 ⟨rfl,hx⟩
  dsimp only
  refine hK _ _ ⟨_,hS.below hx⟩ (fun _=>?_)
  have hw:=(hS.below hx).write (a:=m) hgen (l:=L) hlr hlen
  clear hK K hS hx hT
  unfold ptr at hw
  refine wpAnyH_ready (rs:=[4]) (by kernel_rfl) (by simp) ?_
  refine AllReadyH.cons rfl (fun K hK=>?_) AllReadyH.nil
  go_simp
  refine hw.mono ?_
  rintro e V2 ⟨rfl,hx⟩
  dsimp only
  refine hK _ _ ⟨_,hx⟩ (fun _=>?_)
  clear hK K hw
  refine wpAnyH_ready (rs:=[5]) (by kernel_rfl) (by simp) ?_
  refine AllReadyH.cons rfl (fun K hK=>?_) AllReadyH.nil
  go_simp
  refine hK _ _ ⟨_,hx⟩ (fun _=>?_)
  clear hK K
  refine wpAnyH_done (by kernel_rfl) ?_ _
  refine NoPanic.normal ?_
  go_wp2_with fail
  go_ret
  exact ⟨rfl,hx.less (fun _ h=>by cases h)⟩
end
end Rot
namespace Rot
open Go.RowKit RowLaw Crc
open Slt (Rt cells rootO rtB rtB_length infoR sizeR cells_one mayB)
open Dev (Dev DS ptr writeS writeE flushS flushE putCells Box Step below_own new_cells)
def fStep (pb lb ib:Nat):Value:=.func (.func 143) #[] #[ptr pb,ptr lb,ptr ib]
def fSettle (pb:Nat):Value:=.func (.func 145) #[] #[ptr pb]
def fSwap (rb pb:Nat):Value:=.func (.func 147) #[] #[ptr rb,ptr pb]
theorem infoFn:(Tryz.prog.info? 248).map (fun i=>(i.zero,i.size,i.bytes))=some (some .nilFunc,1,8):=by kernel_rfl
theorem own_ne {W:World} {base:Nat} {e T:TypeId} {size n q:Nat} {v:Value} {xs:List Value} {cs:Array Value} {fr:Nat×Nat} (h:W.ownsRow base e size v n xs) (hq:W.heap[q]? = some (.cells cs T fr)) (hT:T≠e):v.ownBlock≠some q:=fun he=>by
 rcases h.2 with ⟨rfl,_⟩ | ⟨g,cap,cur,rfl,h3,h4,_⟩
 ·cases he
 ·simp only [Value.ownBlock,Option.some.injEq] at he
  rw [he,hq] at h4
  injection h4 with h4
  injection h4 with h4 h5
  exact hT h5
theorem grown_at {W W':World} {base:Nat} {e T:TypeId} {size n q:Nat} {v:Value} {xs:List Value} {cs:Array Value} {fr:Nat×Nat} (h:W.ownsRow base e size v n xs) (hg:W.grownBy W' v.ownBlock) (hq:W.heap[q]? = some (.cells cs T fr)) (hT:T≠e):W'.heap[q]? = some (.cells cs T fr):=
 (hg.block q (Array.getElem?_eq_some_iff.1 hq).1 (fun he=>own_ne h hq hT he.symm)).trans hq
def devO (p:Nat):Obj:=.cells #[ptr p] 25 (0,0)
def lstO (pa:Option Addr) (n c:Nat):Obj:=.cells #[.slice pa n c] 44 (0,0)
def intO (k:Nat):Obj:=.cells #[.int .i64 (k:Int)] 3 (0,0)
structure Todo (w:World) (p:Nat) (pa:Option Addr) (n c:Nat) (r:Rt) (pb lb rb:Nat) (is:List Nat) (v:Value) (xs:List Value) (m:Nat) (W:World):Prop where
 bel:Below w.heap.size w W
 own:W.ownsRow w.heap.size 248 1 v m xs
 dev:w.heap.size≤pb∧W.heap[pb]? = some (devO p)
 lst:w.heap.size≤lb∧W.heap[lb]? = some (lstO pa n c)
 rt:w.heap.size≤rb∧W.heap[rb]? = some (rootO r)
 ints:∀ j (hj:j < is.length),w.heap.size≤is[j]∧W.heap[is[j]]? = some (intO j)
section
variable {w W W':World} {p:Nat} {pa:Option Addr} {n c:Nat} {r:Rt} {pb lb rb:Nat} {is:List Nat} {v v':Value} {xs ys:List Value} {m m':Nat}
theorem Todo.below (h:Todo w p pa n c r pb lb rb is v xs m W) (hb:Below W.heap.size W W') (ho:W'.ownsRow w.heap.size 248 1 v m xs):Todo w p pa n c r pb lb rb is v xs m W':=
 ⟨h.bel.trans (hb.mono h.bel.size),ho,⟨h.dev.1,(hb.block _ (Array.getElem?_eq_some_iff.1 h.dev.2).1).trans h.dev.2⟩,⟨h.lst.1,(hb.block _ (Array.getElem?_eq_some_iff.1 h.lst.2).1).trans h.lst.2⟩,⟨h.rt.1,(hb.block _ (Array.getElem?_eq_some_iff.1 h.rt.2).1).trans h.rt.2⟩,
  fun j hj=>⟨(h.ints j hj).1,(hb.block _ (Array.getElem?_eq_some_iff.1 (h.ints j hj).2).1).trans (h.ints j hj).2⟩⟩
theorem Todo.alloc (h:Todo w p pa n c r pb lb rb is v xs m W) (o:Obj):Todo w p pa n c r pb lb rb is v xs m (W.alloc o):=h.below ((Below.refl _ _).alloc (Nat.le_refl _) o) (World.ownsRow.alloc h.own o)
theorem Todo.int (h:Todo w p pa n c r pb lb rb is v xs m W):Todo w p pa n c r pb lb rb (is ++ [W.heap.size]) v xs m (W.alloc (.cells #[.int .i64 (is.length:Int)] 3)):=by
 have h':=h.alloc (.cells #[.int .i64 (is.length:Int)] 3)
 refine { h' with ints:=fun j hj=>?_ }
 by_cases hjl:j < is.length
 ·rw [List.getElem_append_left hjl]
  exact h'.ints j hjl
 ·have:j=is.length:=by simp at hj; omega
  subst this
  rw [List.getElem_append_right (Nat.le_refl _)]
  simp only [Nat.sub_self,List.getElem_cons_zero]
  exact ⟨h.bel.size,heap_alloc_new W _⟩
theorem Todo.grown (h:Todo w p pa n c r pb lb rb is v xs m W) (ho:W'.ownsRow w.heap.size 248 1 v' m' ys) (hg:W.grownBy W' v.ownBlock):Todo w p pa n c r pb lb rb is v' ys m' W':=
 ⟨h.bel.trans (below_own h.own hg h.bel.size),ho,⟨h.dev.1,grown_at h.own hg h.dev.2 (by decide)⟩,⟨h.lst.1,grown_at h.own hg h.lst.2 (by decide)⟩,⟨h.rt.1,grown_at h.own hg h.rt.2 (by decide)⟩,fun j hj=>⟨(h.ints j hj).1,grown_at h.own hg (h.ints j hj).2 (by decide)⟩⟩
end
theorem replace_any (w:World) (p:Nat) (pa:Option Addr) (n c:Nat) (r:Rt) (hn:n < 4294967296) :
  Calls Tryz.prog 69 #[ptr p,.slice pa n c,.agg (cells r)] w fun e w'=>∃ g c2 pb lb rb is,is.length=n∧e=.returned (.slice (some ⟨g,0,none⟩) (n+3) c2)∧
   Todo w p pa n c r pb lb rb is (.slice (some ⟨g,0,none⟩) (n+3) c2) (is.map (fStep pb lb) ++ [fSettle pb,fSwap rb pb,fSettle pb]) (n+3) w':=by
 have hmf:∀ (fn:Fn) (first cap:Array Value) (w:World),(Instr.makeFunc fn first cap).run Tryz.prog w=.ok (.func fn first cap) w:=fun _ _ _ _=>rfl
 obtain ⟨ik,hik0,hik1,hik2,hik3⟩:=info_parts infoFn
 have hK:Kept w [(w.heap.size+1+1,rootO r),(w.heap.size+1,lstO pa n c),(w.heap.size,devO p)] (((w.alloc (devO p)).alloc (lstO pa n c)).alloc (rootO r)):=by
  have h:=(((Kept.start w).alloc (devO p)).alloc (lstO pa n c)).alloc (rootO r)
  rw [show ((w.alloc (devO p)).alloc (lstO pa n c)).heap.size=w.heap.size+1+1 from by simp,show (w.alloc (devO p)).heap.size=w.heap.size+1 from by simp] at h
  exact h
 have hT:Todo w p pa n c r w.heap.size (w.heap.size+1) (w.heap.size+1+1) [] (.slice none 0 0) [] 0 (((w.alloc (devO p)).alloc (lstO pa n c)).alloc (rootO r)):=
  ⟨hK.bel,World.ownsRow_nil _ _ _ _,⟨Nat.le_refl _,hK.at_ (q:=w.heap.size) (by simp)⟩,⟨by omega,hK.at_ (q:=w.heap.size+1) (by simp)⟩,⟨by omega,hK.at_ (q:=w.heap.size+1+1) (by simp)⟩,fun j hj=>by simp at hj⟩
 have c1:(((w.alloc (devO p)).alloc (lstO pa n c)).alloc (rootO r)).cell? ⟨w.heap.size+1,0,none⟩=some (.slice pa n c):=(cell_of_row _ (w.heap.size+1) 0 _ _ _ hT.lst.2).trans rfl
 clear hK
 go_enter Tryz.func69,Tryz.ntmps69
 go_upto_region 1 with fail
 change Code.wp _ _ _ _ (((w.alloc (devO p)).alloc (lstO pa n c)).alloc (rootO r))
 generalize ((w.alloc (devO p)).alloc (lstO pa n c)).alloc (rootO r)=W0 at hT c1 ⊢
 generalize w.heap.size+1+1=rb at hT ⊢
 generalize w.heap.size+1=lb at hT c1 ⊢
 obtain ⟨pb,hpb⟩:∃ pb,pb=w.heap.size:=⟨_,rfl⟩
 rw [←hpb]
 have hT':Todo w p pa n c r pb lb rb [] (.slice none 0 0) [] 0 W0:=by rw [hpb]; exact hT
 clear hT hpb
 go_wp2_with fail
 clear c1
 go_loopw [7,13] (fun v i wr=>∃ is:List Nat,is.length≤n∧i=.int .i64 is.length∧Todo w p pa n c r pb lb rb is v (is.map (fStep pb lb)) is.length wr) (fun _ i _=>n - (intOf i).toNat)
 case atStart=>exact ⟨[],Nat.zero_le _,rfl,hT'⟩
 case round=>
  clear hT'
  obtain ⟨is,hle,rfl,hT⟩:=hrel
  by_cases hlt:is.length < n
  ·have hI:=hT.int
   have i0:(is.length:Int) < (n:Int):=by omega
   have hm:is.map (fStep pb lb) ++ [fStep pb lb wr.heap.size]=(is ++ [wr.heap.size]).map (fStep pb lb):=by simp
   have HM:=Lib.hid hm
   clear hm
   go_upto_region 5 with fail
   change Code.wp _ _ _ _ (wr.alloc (.cells #[.int .i64 (is.length:Int)] 3))
   generalize wr.alloc (.cells #[.int .i64 (is.length:Int)] 3)=W1 at hI ⊢
   generalize wr.heap.size=u at hI HM ⊢
   have hA:=hI.alloc (.cells [fStep pb lb u].toArray 248)
   have hnew:=new_cells W1 [fStep pb lb u] 248
   have hown:=hA.own
   have hb2:=hA.bel
   have HL:=Lib.hid (show (is ++ [u]).length=is.length+1 by simp)
   have HA:=Lib.hid hA
   clear hI hT hA
   unfold fStep at hnew
   go_wp2_with (first | (at_builtin; refine wpList_append_own _ rfl _ _ 151 rfl w.heap.size 248 ik .nilFunc 1 8 Tryz.underlying151 hik0 hik1 hik2 hik3 rfl (by omega) _ is.length _ rfl hown ⟨W1.heap.size,0,none⟩ 1 1 [fStep pb lb u] rfl rfl hnew (by simp [fStep,Value.oneCell']) (by unfold maxLen; omega) (by omega) hb2.size ?_; intro v' w1 hown1 hgrow hnil))
   go_roundw
   case rel=>
    refine ⟨is ++ [u],by rw [HL.out]; omega,by rw [HL.out]; go_num,?_⟩
    rw [HL.out,←HM.out]
    exact HA.out.grown hown1 hgrow
   case measure=>simp [intOf]; omega
  ·obtain rfl:is.length=n:=by omega
   have hA:=hT.alloc (.cells [fSettle pb,fSwap rb pb,fSettle pb].toArray 248)
   have hnew:=new_cells wr [fSettle pb,fSwap rb pb,fSettle pb] 248
   have hown:=hA.own
   have hb2:=hA.bel
   have HA:=Lib.hid hA
   clear hT hA
   unfold fSettle fSwap at hnew
   go_wp2_with (first | (at_builtin; refine wpList_append_lies _ rfl _ _ 151 rfl w.heap.size 248 ik .nilFunc 1 8 Tryz.underlying151 hik0 hik1 hik2 hik3 rfl (by omega) _ is.length _ rfl hown ⟨wr.heap.size,0,none⟩ 3 3 [fSettle pb,fSwap rb pb,fSettle pb] rfl rfl hnew (by simp [fSettle,fSwap,Value.oneCell']) (by omega) (by unfold maxLen; omega) (by omega) hb2.size _ rfl ?_; intro g cap w1 hown1 hgrow hat hlt))
   go_ret
   exact ⟨g,cap,pb,lb,rb,is,rfl,rfl,HA.out.grown hown1 hgrow⟩
end Rot

end Go.Proofs.YtgkbfahflngklaaGreat
