import Derived.Test.YtgkbfahflngklaaGreatFld1
import Derived.BigQuiet
import Derived.Deep.RegionHeld
set_option maxRecDepth 100000
set_option maxHeartbeats 1600000
namespace Go.Proofs.YtgkbfahflngklaaGreat
namespace Fld
open Go.RowKit RowLaw Crc
def blankB (l:List UInt8):Bool:=l.all (· == 0)
theorem blankB_take (l:List UInt8) (k:Nat) (h:k < l.length):blankB (l.take (k+1))=(blankB (l.take k)&&(l[k] == 0)):=by
 unfold blankB
 rw [List.take_succ_eq_append_getElem h,List.all_append]
 simp
theorem blankB_false (l:List UInt8) (k:Nat) (h:k < l.length) (h0:l[k]≠0):blankB l=false:=by
 unfold blankB
 rw [List.all_eq_false]
 exact ⟨l[k],List.getElem_mem h,by simpa using h0⟩
theorem blank_any (p off cap:Nat) (bs:List UInt8) (hm:bs.length≤256) (w:World) (hc:∀ j (h:j < bs.length),w.cell? ⟨p,off+j,none⟩=some (.int .u8 (bs[j].toNat:Int))) :
  Calls Tryz.prog 256 #[.slice (some ⟨p,off,none⟩) bs.length cap] w fun e w'=>e=.returned (.bool (blankB bs))∧w'=w:=by
 have HC:=Lib.hid hc; clear hc
 obtain ⟨n,hn⟩:∃ n,n=bs.length:=⟨_,rfl⟩
 rw [←hn] at hm ⊢
 have HN:=Lib.hid hn; clear hn
 go_enter Tryz.func256,Tryz.ntmps256
 go_wp2
 go_loop [7] (fun i=>∃ k:Nat,k≤n∧i=.int .i64 k∧Hid (blankB (bs.take k)=true)) (fun i=>n - (intOf i).toNat)
 case atStart=>exact ⟨0,by omega,rfl,rfl⟩
 case round=>
  obtain ⟨k,hk,rfl,hb⟩:=hrel
  by_cases hlt:k < n
  ·have hkl:k < bs.length:=by have:=HN.out; omega
   have hcu:=HC.out k hkl
   have hbt:=blankB_take bs k hkl
   by_cases h0:bs[k]=0
   ·have h0':(((bs[k].toNat:Int)) != 0)=false:=by rw [h0]; rfl
    have HB:Hid (blankB (bs.take (k+1))=true):=by
     show _=_
     rw [hbt,hb.out,h0]; rfl
    have h0n:bs[k].toNat=0:=by rw [h0]; rfl
    rw [h0n] at hcu
    clear h0' hbt h0 h0n
    go_wp2
    go_round
    case rel=>exact ⟨k+1,by omega,by go_num,HB⟩
    case measure=>simp [intOf]; omega
   ·have hne:bs[k].toNat≠0:=fun e=>h0 (UInt8.toNat_inj.1 e)
    have h0':(((bs[k].toNat:Int)) != 0)=true:=by simp; exact hne
    have hbf:=blankB_false bs k hkl h0
    generalize bs[k].toNat=u at hcu h0' hne
    clear hbt h0
    go_wp2
    go_ret
    exact ⟨rfl,rfl⟩
  ·obtain rfl:k=n:=by omega
   go_wp2
   go_ret
   refine ⟨?_,rfl⟩
   have:=hb.out
   rw [List.take_of_length_le (by have:=HN.out; omega)] at this
   rw [this]; rfl
def leNat:List UInt8→Nat
 | []=>0
 | u::l=>u.toNat+256 * leNat l
theorem leNat_lt:∀ l:List UInt8,leNat l < 256 ^ l.length
 | []=>by simp [leNat]
 | u::l=>by
  have:=leNat_lt l
  have hu:=u.toNat_lt
  rw [leNat,List.length_cons,Nat.pow_succ]
  omega
theorem leNat_drop (l:List UInt8) (i:Nat) (h:i < l.length):leNat (l.drop i)=l[i].toNat+256 * leNat (l.drop (i+1)):=by
 rw [List.drop_eq_getElem_cons h,leNat]
theorem or_add (a b:Nat) (h:b < 256):a * 256 ||| b=a * 256+b:=by
 have:=Nat.shiftLeft_add_eq_or_of_lt (i:=8) (b:=b) h a
 rw [Nat.shiftLeft_eq] at this
 rw [←this]
theorem or_w (x u:Nat) (hx:x < 72057594037927936) (hu:u < 256):bits .or .u64 (IntKind.u64.wrap ((x:Int) * 256)) (u:Int)=((u+256 * x:Nat):Int):=by
 rw [IntWalk.u64_in _ (by omega),show (x:Int) * 256=((x * 256:Nat):Int) from by omega,u64_or_nat _ _ (by omega) (by omega),or_add x u hu]
 omega
theorem leNat_lt56 (l:List UInt8) (h:l.length≤7):leNat l < 72057594037927936:=
 Nat.lt_of_lt_of_le (leNat_lt l) (Nat.le_trans (Nat.pow_le_pow_right (by omega) h) (by decide))
theorem number_any (p off cap:Nat) (bs:List UInt8) (hm:bs.length≤8) (w:World) (hc:∀ j (h:j < bs.length),w.cell? ⟨p,off+j,none⟩=some (.int .u8 (bs[j].toNat:Int))) :
  Calls Tryz.prog 254 #[.slice (some ⟨p,off,none⟩) bs.length cap] w fun e w'=>e=.returned (.tuple #[.int .u64 (leNat bs:Int),.bool true])∧w'=w:=by
 have HC:=Lib.hid hc; clear hc
 obtain ⟨n,hn⟩:∃ n,n=bs.length:=⟨_,rfl⟩
 rw [←hn] at hm ⊢
 have HN:=Lib.hid hn; clear hn
 go_enter Tryz.func254,Tryz.ntmps254
 go_wp2
 refine wp_scope_jumps 0 (fun a' w'=>∃ (i:Nat) (u5 u6 u7 u8 u9 u10 u11 u12 u13 u14 u15 u16 u17 u18 u19:Value),i≤n∧a'={ tmps:=#[.slice (some ⟨p,off,none⟩) n cap,undef,.int .u64 (leNat (bs.drop i):Int),.bool false,.int .i64 (i:Int),u5,u6,u7,u8,u9,u10,u11,u12,u13,u14,u15,u16,u17,u18,u19],defers:=[] }∧w'=w) (fun a' _=>(intOf (a'.tmps.getD 4 undef)).toNat) rfl ?_ ?_
 ·go_wp2
  go_step3
  have hz:Value.int .u64 0=Value.int .u64 (leNat (bs.drop n):Int):=by rw [List.drop_of_length_le (by have:=HN.out; omega)]; rfl
  rw [hz]
  clear hz
  by_cases h0:n=0
  ·subst h0
   go_wp2
   simp only [Exit.jump]
   go_ret2
   exact ⟨rfl,rfl⟩
  ·obtain ⟨j,hj⟩:∃ j,n=j+1:=⟨n - 1,by omega⟩
   have hjl:j < bs.length:=by have:=HN.out; omega
   have hcu:=HC.out j hjl
   have hlt:bs[j].toNat < 256:=bs[j].toNat_lt
   have hor:=or_w (leNat (bs.drop (j+1))) bs[j].toNat (leNat_lt56 _ (by simp; have:=HN.out; omega)) hlt
   rw [←leNat_drop bs j hjl] at hor
   have HO:=Lib.hid hor; clear hor
   have HJ:=Lib.hid hj
   subst hj
   go_wp2
   go_step3
   rw [HO.out]
   refine ⟨rfl,j,_,_,_,_,_,_,_,_,_,_,_,_,_,_,_,by omega,rfl,rfl⟩
 ·rintro a' w1 ⟨i,u5,u6,u7,u8,u9,u10,u11,u12,u13,u14,u15,u16,u17,u18,u19,hi,rfl,rfl⟩
  by_cases h0:i=0
  ·subst h0
   go_wp2
   simp only [Exit.jump]
   go_ret2
   exact ⟨rfl,rfl⟩
  ·obtain ⟨j,rfl⟩:∃ j,i=j+1:=⟨i - 1,by omega⟩
   have hjl:j < bs.length:=by have:=HN.out; omega
   have hcu:=HC.out j hjl
   have hlt:bs[j].toNat < 256:=bs[j].toNat_lt
   have hor:=or_w (leNat (bs.drop (j+1))) bs[j].toNat (leNat_lt56 _ (by simp; have:=HN.out; omega)) hlt
   rw [←leNat_drop bs j hjl] at hor
   have HO:=Lib.hid hor; clear hor
   go_wp2
   go_step3
   rw [HO.out]
   refine ⟨rfl,⟨j,_,_,_,_,_,_,_,_,_,_,_,_,_,_,_,by omega,rfl,rfl⟩,?_⟩
   simp [intOf]
theorem blank_len (p off cap m:Nat) (bs:List UInt8) (hb:bs.length=m) (b:Bool) (hv:blankB bs=b) (hm:m≤256) (w:World) (hc:∀ j (h:j < bs.length),w.cell? ⟨p,off+j,none⟩=some (.int .u8 (bs[j].toNat:Int))) :
  Calls Tryz.prog 256 #[.slice (some ⟨p,off,none⟩) m cap] w fun e w'=>e=.returned (.bool b)∧w=w':=by
 subst hb hv
 exact (blank_any p off cap bs hm w hc).mono fun _ _ ⟨he,hw⟩=>⟨he,hw.symm⟩
theorem below_drewN (w:World) (n:Nat):Below w.heap.size w (w.drewN n):=⟨rfl,rfl,rfl,Nat.le_refl _,fun _ _=>rfl⟩
end Fld
namespace Fld
open Go.RowKit RowLaw Crc
theorem rfin_ok_uint64 (q r:Addr) (u:FrameMode) (w:World) (hq:w.cell? q=some (.bool true)) :
  CallsD Tryz.prog 273 #[.pointer (some q),.pointer (some r)] u w fun e u' w'=>u'=u∧e=.returned (.tuple #[])∧w'=w:=by
 go_enter_d Tryz.func273,Tryz.ntmps273
 go_wp2
 go_end0
 exact ⟨rfl,rfl⟩
theorem rfin_no_uint64 (q r:Addr) (p:Nat) (x:Value) (u:FrameMode) (w:World) (hq:w.cell? q=some (.bool false)) (hr:w.cell? r=some (.pointer (some ⟨p,0,none⟩))) (hc:w.cell? ⟨p,256,none⟩=some x) (hf:w.frozen? ⟨p,256,none⟩=false) :
  CallsD Tryz.prog 273 #[.pointer (some q),.pointer (some r)] u w fun e u' w'=>u'=u∧e=.returned (.tuple #[])∧w'=w.setCell ⟨p,256,none⟩ (.int .i64 0):=by
 go_enter_d Tryz.func273,Tryz.ntmps273
 go_wp2
 go_end0
 exact ⟨rfl,rfl⟩
theorem read_no_uint64 (p sz:Nat) (l:List UInt8) (k:Nat) (fv:Value) (hl:l.length=256) (hk:k≤252) (hs:sz≤252) (hfit:fitB k sz=false) (w:World) (hw:IsObj 363 w p l k) :
  Calls Tryz.prog 253 #[.pointer (some ⟨p,0,none⟩),.int .i64 (sz:Int),fv] w fun e w'=>e=.returned (.tuple #[.int .u64 0,.bool false])∧IsObj 363 w' p l 0∧Apart p w w':=by
 have hmf:∀ (fn:Fn) (first cap:Array Value) (w:World),(Instr.makeFunc fn first cap).run Tryz.prog w=.ok (.func fn first cap) w:=fun _ _ _ _=>rfl
 have hb:=AddBox.start hw 333 4
 have hlt:=hw.lt
 have c3:=hb.obj.pos hl
 have c1:=hb.ptr
 go_enter_defers Tryz.func253,Tryz.ntmps253
 go_wp2_with (go_at_call 260; (with_reducible refine (fits_as k sz false hfit hk hs _).mono ?_); rintro e w' ⟨rfl,rfl⟩)
 clear c1 c3
 generalize (w.alloc (.cells #[.pointer (some ⟨p,0,none⟩)] 333)).alloc (.cells #[.bool false] 4)=W4 at hb ⊢
 refine leaves_cons (f:=273) (args:=#[.pointer (some ⟨w.heap.size+1,0,none⟩),.pointer (some ⟨w.heap.size,0,none⟩)]) (by simp) (by simp [go_sem]) ?_
 refine (rfin_no_uint64 _ _ p _ .returning _ hb.res hb.ptr (hb.obj.pos hl) (hb.obj.frozen 256)).mono ?_
 rintro e u' w'' ⟨rfl,rfl,rfl⟩
 have ho:=hb.obj.setPos hl 0
 have ha:=hb.apart.set_ 256 (.int .i64 0)
 have hr:=(hb.step hlt ho ((Apart.refl _ _).set_ 256 (.int .i64 0))).res
 generalize W4.setCell ⟨p,256,none⟩ (.int .i64 0)=W5 at hr ho ha ⊢
 exact ⟨_,by simp [results,Tryz.results253,go_sem,hr],rfl,ho,ha⟩
theorem read_yes_uint64 (p sz:Nat) (l:List UInt8) (k:Nat) (fid:FuncId) (v:Value) (ok:Bool) (hl:l.length=256) (hfit:fitB k sz=true) (w:World) (hw:IsObj 363 w p l k) (hen:∀ (args:Array Value) (W:World),(callFunc fid args).run Tryz.prog W=.ok (.enter fid args) W)
  (hval:∀ W:World,IsObj 363 W p l (k+sz)→Calls Tryz.prog fid #[.slice (some ⟨p,k,none⟩) sz (256 - k)] W fun e W'=>e=.returned (.tuple #[v,.bool ok])∧Below W.heap.size W W') :
  Calls Tryz.prog 253 #[.pointer (some ⟨p,0,none⟩),.int .i64 (sz:Int),.func (.func fid) #[] #[]] w fun e w'=>e=.returned (.tuple #[v,.bool ok])∧IsObj 363 w' p l (if ok=true then k+sz else 0)∧Apart p w w':=by
 have hmf:∀ (fn:Fn) (first cap:Array Value) (w:World),(Instr.makeFunc fn first cap).run Tryz.prog w=.ok (.func fn first cap) w:=fun _ _ _ _=>rfl
 have hb:=AddBox.start hw 333 4
 have hlt:=hw.lt
 have hk:k≠0∧sz≠0∧k+sz≤252:=of_decide_eq_true hfit
 obtain ⟨hk0,hs0,hks⟩:=hk
 have c3:=hb.obj.pos hl
 have c1:=hb.ptr
 have HF:=Lib.hid hval; clear hval
 go_enter_defers Tryz.func253,Tryz.ntmps253
 go_wp2_with (go_at_call 260; (with_reducible refine (fits_as k sz true hfit (by omega) (by omega) _).mono ?_); rintro e w' ⟨rfl,rfl⟩)
 clear c1 c3
 generalize (w.alloc (.cells #[.pointer (some ⟨p,0,none⟩)] 333)).alloc (.cells #[.bool false] 4)=W at hb ⊢
 have c1:=hb.ptr
 have c2:=hb.res
 have f2:=hb.resf
 have c3:=hb.obj.pos hl
 have z1:IntKind.i64.wrap ((k:Int)+(sz:Int))=(k:Int)+(sz:Int):=IntWalk.i64_in _ (by omega)
 have z2:((k:Int)+(sz:Int)).toNat=k+sz:=by omega
 have z3:0≤(k:Int)+(sz:Int):=by omega
 have z4:(k:Int)+(sz:Int)≤256:=by omega
 have z5:(k:Int)≤(k:Int)+(sz:Int):=by omega
 have z6:¬ 256=k:=by omega
 go_quiet (fail)
 clear c1 c2 c3 f2
 replace hb:=hb.step hlt (W':=W.drewN nq) hb.obj ⟨rfl,rfl,rfl,Nat.le_refl _,fun _ _ _=>rfl⟩
 generalize W.drewN nq=W2 at hb ⊢
 have c1:=hb.ptr
 have c3:=hb.obj.pos hl
 have f3:=hb.obj.frozen 256
 have ho:=hb.obj.setPos hl (k+sz)
 have hb2:=hb.step hlt ho ((Apart.refl _ _).set_ 256 _)
 rw [show (((k+sz:Nat):Int))=(k:Int)+(sz:Int) from by omega] at hb2
 cases ok
 ·go_wp2_with (generalize W2.setCell ⟨p,256,none⟩ (.int .i64 ((k:Int)+(sz:Int)))=W3 at hb2 ⊢; (with_reducible refine (HF.out W3 hb2.obj).mono ?_); rintro e W4 ⟨rfl,hbel⟩; clear HF c1 c3 f3; replace hb2:=hb2.step hlt (hb2.obj.below hbel hb2.obj.lt) (Apart.of_below hbel); have c2:=hb2.res; have f2:=hb2.resf)
  replace hb2:=hb2.setRes hlt false
  generalize W4.setCell ⟨w.heap.size+1,0,none⟩ (.bool false)=W5 at hb2 ⊢
  refine leaves_cons (f:=273) (args:=#[.pointer (some ⟨w.heap.size+1,0,none⟩),.pointer (some ⟨w.heap.size,0,none⟩)]) (by simp) (by simp [go_sem]) ?_
  refine (rfin_no_uint64 _ _ p _ .returning _ hb2.res hb2.ptr (hb2.obj.pos hl) (hb2.obj.frozen 256)).mono ?_
  rintro e u' w'' ⟨rfl,rfl,rfl⟩
  have ho3:=hb2.obj.setPos hl 0
  have ha3:=hb2.apart.set_ 256 (.int .i64 0)
  have hr:=(hb2.step hlt ho3 ((Apart.refl _ _).set_ 256 (.int .i64 0))).res
  generalize W5.setCell ⟨p,256,none⟩ (.int .i64 0)=W6 at hr ho3 ha3 ⊢
  exact ⟨_,by simp [results,Tryz.results253,go_sem,hr],rfl,ho3,ha3⟩
 ·go_wp2_with (generalize W2.setCell ⟨p,256,none⟩ (.int .i64 ((k:Int)+(sz:Int)))=W3 at hb2 ⊢; (with_reducible refine (HF.out W3 hb2.obj).mono ?_); rintro e W4 ⟨rfl,hbel⟩; clear HF c1 c3 f3; replace hb2:=hb2.step hlt (hb2.obj.below hbel hb2.obj.lt) (Apart.of_below hbel); have c2:=hb2.res; have f2:=hb2.resf)
  replace hb2:=hb2.setRes hlt true
  generalize W4.setCell ⟨w.heap.size+1,0,none⟩ (.bool true)=W5 at hb2 ⊢
  refine leaves_cons (f:=273) (args:=#[.pointer (some ⟨w.heap.size+1,0,none⟩),.pointer (some ⟨w.heap.size,0,none⟩)]) (by simp) (by simp [go_sem]) ?_
  refine (rfin_ok_uint64 _ _ .returning _ hb2.res).mono ?_
  rintro e u' w'' ⟨rfl,rfl,rfl⟩
  have hr:=hb2.res
  exact ⟨_,by simp [results,Tryz.results253,go_sem,hr],rfl,hb2.obj,hb2.apart⟩
end Fld
namespace Fld
open Go.RowKit RowLaw Crc
def RIs (w:World) (p:Nat):Option (List UInt8×Nat)→Prop
 | some (l,k)=>l.length=256∧1≤k∧k≤252∧IsObj 363 w p l k
 | none=>∃ l:List UInt8,l.length=256∧IsObj 363 w p l 0
theorem RIs.lt {w:World} {p:Nat}:∀ {st:Option (List UInt8×Nat)},RIs w p st→p < w.heap.size
 | some (_,_),h=>h.2.2.2.lt
 | none,⟨_,_,h⟩=>h.lt
theorem RIs.of_block {w w':World} {p:Nat}:∀ {st:Option (List UInt8×Nat)},RIs w p st→w'.heap[p]? = w.heap[p]?→RIs w' p st
 | some (_,_),h,e=>⟨h.1,h.2.1,h.2.2.1,e.trans h.2.2.2⟩
 | none,⟨l,hl,h⟩,e=>⟨l,hl,e.trans h⟩
theorem RIs.below {w w':World} {p:Nat} {st:Option (List UInt8×Nat)} (h:RIs w p st) (hb:Below w.heap.size w w'):RIs w' p st:=h.of_block (hb.block p h.lt)
def piece (l:List UInt8) (k m:Nat):List UInt8:=(l.drop k).take m
theorem piece_length (l:List UInt8) (k m:Nat) (h:k+m≤l.length):(piece l k m).length=m:=by simp [piece]; omega
theorem piece_get (l:List UInt8) (k m j:Nat) (h:k+m≤l.length) (hj:j < (piece l k m).length):(piece l k m)[j]=l[k+j]'(by rw [piece_length l k m h] at hj; omega):=by
 simp [piece]
def takeNum:Option (List UInt8×Nat)→Int→Nat×Option (List UInt8×Nat)
 | some (l,k),width=>if fitB k (numSz width)=true then (leNat (piece l k (numSz width)),some (l,k+numSz width)) else (0,none)
 | none,_=>(0,none)
def endB:Option (List UInt8×Nat)→Bool
 | some (l,k)=>blankB (piece l k (252 - k))
 | none=>false
def endE (st:Option (List UInt8×Nat)):Int:=if endB st=true then 0 else 250
theorem enter50:∀ (args:Array Value) (W:World),(callFunc 254 args).run Tryz.prog W=.ok (.enter 254 args) W:=fun _ _=>by simp [go_sem]
def PairOf (v:Value) (e:Ending):Prop:=∃ b:Bool,e=.returned (.tuple #[v,.bool b])
theorem number_at (T:TypeId) (p k k' m:Nat) (l:List UInt8) (hl:l.length=256) (hm:m≤8) (hk:k+m≤256) (W:World) (ho:IsObj T W p l k') :
  Calls Tryz.prog 254 #[.slice (some ⟨p,k,none⟩) m (256 - k)] W fun e W'=>e=.returned (.tuple #[.int .u64 (leNat (piece l k m):Int),.bool true])∧Below W.heap.size W W':=by
 have hlen:=piece_length l k m (by omega)
 have:=number_any p k (256 - k) (piece l k m) (by omega) W (fun j hj=>by rw [piece_get l k m j (by omega) hj]; exact ho.byte (k+j) (by rw [hlen] at hj; omega))
 rw [hlen] at this
 exact this.mono fun _ _ ⟨he,hw⟩=>⟨he,hw ▸ Below.refl _ _⟩
theorem read_num (st:Option (List UInt8×Nat)) (p:Nat) (width:Int) (w:World) (hw:RIs w p st) :
  Calls Tryz.prog 253 #[.pointer (some ⟨p,0,none⟩),.int .i64 (numSz width:Int),.func (.func 254) #[] #[]] w fun e w'=>
   PairOf (.int .u64 ((takeNum st width).1:Int)) e∧RIs w' p (takeNum st width).2∧Apart p w w':=by
 have hz:=numSz_le width
 match st,hw with
 | none,⟨l,hl,ho⟩=>
  exact (read_no_uint64 p (numSz width) l 0 _ hl (by omega) (by omega) (decide_eq_false (by omega)) w ho).mono fun _ _ ⟨he,h1,h2⟩=>⟨⟨_,he⟩,⟨l,hl,h1⟩,h2⟩
 | some (l,k),⟨hl,hk1,hk2,ho⟩=>
  cases hfit:fitB k (numSz width) with
  | false=>
   rw [show takeNum (some (l,k)) width=(0,none) from if_neg (by rw [hfit]; simp)]
   exact (read_no_uint64 p (numSz width) l k _ hl hk2 (by omega) hfit w ho).mono fun _ _ ⟨he,h1,h2⟩=>⟨⟨_,he⟩,⟨l,hl,h1⟩,h2⟩
  | true=>
   have hy:k≠0∧numSz width≠0∧k+numSz width≤252:=of_decide_eq_true hfit
   rw [show takeNum (some (l,k)) width=(leNat (piece l k (numSz width)),some (l,k+numSz width)) from if_pos hfit]
   exact (read_yes_uint64 p (numSz width) l k _ _ true hl hfit w ho enter50 (fun W hW=>number_at _ p k _ (numSz width) l hl hz (by omega) W hW)).mono fun _ _ ⟨he,h1,h2⟩=>⟨⟨_,he⟩,⟨hl,by omega,by omega,h1⟩,h2⟩
theorem RNum_any (st:Option (List UInt8×Nat)) (p:Nat) (width:Int) (w:World) (hw:RIs w p st) :
  Calls Tryz.prog 230 #[.pointer (some ⟨p,0,none⟩),.int .i64 width] w fun e w'=>e=.returned (.int .u64 ((takeNum st width).1:Int))∧RIs w' p (takeNum st width).2∧Apart p w w':=by
 go_enter Tryz.func230,Tryz.ntmps230
 go_wp2_with (first | (go_at_call 239; (with_reducible refine (numSize_any width _).mono ?_); rintro e W1 ⟨rfl,rfl⟩) | (go_at_call 253; (with_reducible refine (read_num st p width _ hw).mono ?_); rintro e W2 ⟨⟨b,rfl⟩,h2,ha⟩))
 go_ret
 exact ⟨rfl,h2,ha⟩
theorem Fine_any (st:Option (List UInt8×Nat)) (p:Nat) (w:World) (hw:RIs w p st):Calls Tryz.prog 255 #[.pointer (some ⟨p,0,none⟩)] w fun e w'=>e=.returned (.bool st.isSome)∧w=w':=by
 match st,hw with
 | none,⟨l,hl,ho⟩=>
  have hc:=ho.pos hl
  go_enter Tryz.func255,Tryz.ntmps255
  go_wp2
  go_ret
  exact ⟨rfl,rfl⟩
 | some (l,k),⟨hl,hk1,hk2,ho⟩=>
  have hc:=ho.pos hl
  have hk:((k:Int) != 0)=true:=by simp; omega
  go_enter Tryz.func255,Tryz.ntmps255
  go_wp2
  go_ret
  exact ⟨rfl,rfl⟩
end Fld
namespace Fld
open Go.RowKit RowLaw Crc
theorem fine_q (st:Option (List UInt8×Nat)) (b:Bool) (hb:st.isSome=b) (p:Nat) (w:World) (hw:RIs w p st):Calls Tryz.prog 255 #[.pointer (some ⟨p,0,none⟩)] w fun e w'=>e=.returned (.bool b)∧w'=w:=
 (Fine_any st p w hw).mono fun _ _ ⟨he,hw'⟩=>⟨by rw [he,hb],hw'.symm⟩
theorem blank_q (p off cap m:Nat) (bs:List UInt8) (hb:bs.length=m) (b:Bool) (hv:blankB bs=b) (hm:m≤256) (w:World) (n:Nat) (hc:∀ j (h:j < bs.length),w.cell? ⟨p,off+j,none⟩=some (.int .u8 (bs[j].toNat:Int))) :
  Calls Tryz.prog 256 #[.slice (some ⟨p,off,none⟩) m cap] (w.drewN n) fun e w'=>e=.returned (.bool b)∧w'=w.drewN n:=
 (blank_len p off cap m bs hb b hv hm (w.drewN n) hc).mono fun _ _ ⟨he,hw⟩=>⟨he,hw.symm⟩
theorem End_any (st:Option (List UInt8×Nat)) (p:Nat) (w:World) (hw:RIs w p st):Calls Tryz.prog 231 #[.pointer (some ⟨p,0,none⟩)] w fun e w'=>e=.returned (.int .i64 (endE st))∧Below w.heap.size w w':=by
 match st,hw with
 | none,hw=>
  go_enter Tryz.func231,Tryz.ntmps231
  go_wp2
  go_quiet ((go_at_call 255; exact Calls.quiet_of_same (fine_q none false rfl p _ hw)))
  go_wp2
  go_ret
  exact ⟨rfl,below_drewN w nq⟩
 | some (l,k),hw=>
  obtain ⟨hl,hk1,hk2,ho⟩:=hw
  have hw:RIs w p (some (l,k)):=⟨hl,hk1,hk2,ho⟩
  have hc:=ho.pos hl
  have hlen:=piece_length l k (252 - k) (by omega)
  have hcells:∀ j (h:j < (piece l k (252 - k)).length),w.cell? ⟨p,k+j,none⟩=some (.int .u8 ((piece l k (252 - k))[j].toNat:Int)):=fun j hj=>by
   rw [piece_get l k (252 - k) j (by omega) hj]; exact ho.byte (k+j) (by rw [hlen] at hj; omega)
  have HC:=Lib.hid hcells; clear hcells
  have HL:=Lib.hid hlen; clear hlen
  have z1:(k:Int)≤252:=by omega
  have z2:¬ 256=k:=by omega
  have z3:(0:Int)≤(k:Int):=by omega
  rw [show endE (some (l,k))=if blankB (piece l k (252 - k))=true then 0 else 250 from rfl]
  cases hb:blankB (piece l k (252 - k))
  all_goals
   have HB:=Lib.hid hb; clear hb
   have HW:=Lib.hid hw
   clear hw hl
   go_enter Tryz.func231,Tryz.ntmps231
   go_wp2
   go_quiet ((first | (go_at_call 255; exact Calls.quiet_of_same (fine_q (some (l,k)) true rfl p _ HW.out)) | (go_at_call 256; exact Calls.quiet_of_same (blank_q p k (256 - k) (252 - k) (piece l k (252 - k)) HL.out _ HB.out (by omega) _ _ HC.out))))
   go_wp2
   go_ret
   exact ⟨rfl,below_drewN w nq⟩
theorem infoReader:(Tryz.prog.info? 363).map (fun i=>(i.zero,i.size))=some (some (.agg (objCells zeros 0)),257):=by kernel_rfl
def openSt (l:List UInt8) (m:UInt8):Option (List UInt8×Nat):=if l.getD 0 0=m∧sealB l=l then some (l,1) else none
def NewReader (w:World) (st:Option (List UInt8×Nat)) (e:Ending) (w':World):Prop:=∃ q,w.heap.size≤q∧e=.returned (.pointer (some ⟨q,0,none⟩))∧RIs w' q st∧Below w.heap.size w w'
theorem Open_other (l:List UInt8) (hl:l.length=256) (m:UInt8) (hm:(l.getD 0 0).toNat≠m.toNat) (w:World) :
  Calls Tryz.prog 228 #[.agg (cellsOf l),.int .u8 (m.toNat:Int)] w fun e w'=>NewReader w none e w':=by
 have hzv:=(zero_of_info infoReader).1
 have hA:=Holds.new w l
 have hg:l.getD 0 0=l[0]:=by rw [List.getD_eq_getElem?_getD,List.getElem?_eq_getElem (by omega)]; rfl
 rw [hg] at hm
 have hc:=hA.cell 0 (by omega)
 have hne:(((l[0].toNat:Int)) != (m.toNat:Int))=true:=by simp; exact_mod_cast hm
 have hlt:=l[0].toNat_lt
 generalize l[0].toNat=u at hc hne hm
 have hs0:(objCells zeros 0).setIfInBounds 256 (.int .i64 0)=objCells zeros 0:=objSet 0 0
 have HS:=Lib.hid hs0; clear hs0
 go_enter Tryz.func228,Tryz.ntmps228
 go_wp2
 rw [HS.out]
 go_ret
 exact ⟨w.heap.size+1,by omega,rfl,⟨zeros,zeros_length,heap_alloc2_new w _ _⟩,((Below.refl _ _).alloc (Nat.le_refl _) _).alloc (by simp) _⟩
theorem foldl_set:∀ (L:List Value) (n:Nat) (A:Array Value) (i:Nat),((L.zipIdx n).foldl (fun cs x=>cs.setIfInBounds x.snd x.fst) A)[i]? = if n≤i∧i < n+L.length∧i < A.size then L[i - n]? else A[i]?
 | [],n,A,i=>by
  rw [if_neg (by simp; omega)]; rfl
 | v::L,n,A,i=>by
  have ih:=foldl_set L (n+1) (A.setIfInBounds n v) i
  rw [List.zipIdx_cons,List.foldl_cons,ih]
  simp only [Array.size_setIfInBounds,List.length_cons]
  by_cases h1:n=i
  ·subst h1
   rw [if_neg (by omega)]
   by_cases h2:n < A.size
   ·rw [if_pos (by omega),Nat.sub_self]; simp [h2]
   ·rw [if_neg (by omega)]; simp [h2]
  ·by_cases h2:n+1≤i∧i < n+1+L.length∧i < A.size
   ·rw [if_pos h2,if_pos (by omega),show i - n=(i - (n+1))+1 from by omega,List.getElem?_cons_succ]
   ·rw [if_neg h2,if_neg (by omega),Array.getElem?_setIfInBounds_ne h1]
theorem fill_fold (l:List UInt8) (hl:l.length=256):Array.foldl (fun cs x=>cs.setIfInBounds x.snd x.fst) (objCells zeros 0) (cellsOf l).zipIdx 0 256=objCells l 0:=by
 have e:Array.foldl (fun (cs:Array Value) (x:Value×Nat)=>cs.setIfInBounds x.snd x.fst) (objCells zeros 0) (cellsOf l).zipIdx 0 256=((cellsOf l).toList.zipIdx 0).foldl (fun cs x=>cs.setIfInBounds x.snd x.fst) (objCells zeros 0):=by
  have:=Array.foldl_toList (fun (cs:Array Value) (x:Value×Nat)=>cs.setIfInBounds x.snd x.fst) (init:=objCells zeros 0) (xs:=(cellsOf l).zipIdx)
  rw [Array.toList_zipIdx] at this
  rw [this]
  congr 1
  simp [cellsOf_size,hl]
 rw [e]
 apply Array.ext_getElem?
 intro i
 rw [foldl_set,objCells_size,zeros_length]
 have hlen:(cellsOf l).toList.length=256:=by simp [cellsOf,hl]
 rw [hlen]
 by_cases h:i < 256
 ·rw [if_pos (by omega),objCells_byte l 0 i (by omega)]
  simp [cellsOf,h,hl]
 ·rw [if_neg (by omega)]
  by_cases h6:i=256
  ·subst h6
   rw [objCells_at zeros 0 zeros_length,objCells_at l 0 hl]
  ·rw [Array.getElem?_eq_none (by rw [objCells_size,zeros_length]; omega),Array.getElem?_eq_none (by rw [objCells_size,hl]; omega)]
theorem Open_same (l:List UInt8) (hl:l.length=256) (m:UInt8) (hm:l.getD 0 0=m) (good:Bool) (hgood:decide (sealB l=l)=good) (w:World) :
  Calls Tryz.prog 228 #[.agg (cellsOf l),.int .u8 (m.toNat:Int)] w fun e w'=>NewReader w (if good=true then some (l,1) else none) e w':=by
 have hzv:=(zero_of_info infoReader).1
 have hA:=Holds.new w l
 have hg:l.getD 0 0=l[0]:=by rw [List.getD_eq_getElem?_getD,List.getElem?_eq_getElem (by omega)]; rfl
 rw [hg] at hm
 have hc:=hA.cell 0 (by omega)
 rw [hm] at hc
 have hne:(((m.toNat:Int)) != (m.toNat:Int))=false:=by simp
 have hlt:=m.toNat_lt
 have hi:=sizeBlock l hl
 have hs0:(objCells zeros 0).setIfInBounds 256 (.int .i64 0)=objCells zeros 0:=objSet 0 0
 have HS:=Lib.hid hs0; clear hs0
 have HG:=Lib.hid hgood; clear hgood
 have hsz:(cellsOf l).size=256:=by rw [cellsOf_size,hl]
 have hoz:(objCells zeros 0).size=257:=by rw [objCells_size,zeros_length]
 have hff:(Array.foldl (fun (cs:Array Value) (x:Value×Nat)=>cs.setIfInBounds x.snd x.fst) (objCells zeros 0) (cellsOf l).zipIdx 0 256).setIfInBounds 256 (.int .i64 1)=objCells l 1:=by
  rw [fill_fold l hl]; exact objCells_setAt l 0 1 hl
 have HF:=Lib.hid hff; clear hff
 have hfz:(Array.foldl (fun (cs:Array Value) (x:Value×Nat)=>cs.setIfInBounds x.snd x.fst) (objCells zeros 0) (cellsOf l).zipIdx 0 256).size=257:=by rw [fill_fold l hl,objCells_size,hl]
 clear hm hg
 have HL:=Lib.hid hl; clear hl
 have hb:Below w.heap.size w (w.alloc (.cells (cellsOf l) 39)):=(Below.refl _ _).alloc (Nat.le_refl _) _
 cases good
 ·show Calls _ _ _ _ fun e w'=>NewReader w none e w'
  go_enter Tryz.func228,Tryz.ntmps228
  go_wp2_with (first | (refine wpList_load_want rfl 39 _ rfl _ rfl _ _ _ _ hA Tryz.underlying39 rfl hi ?_) | (go_at_call 252; (with_reducible refine (Good_any l HL.out _).mono ?_); rw [HG.out]; rintro e W1 ⟨rfl,hb1⟩; replace hb:=hb.trans (hb1.mono hb.size); replace hA:=hA.below hb1 hA.lt; clear hc))
  rw [HS.out]
  go_ret
  exact ⟨W1.heap.size,hb.size,rfl,⟨zeros,zeros_length,IsObj.new W1 _ zeros 0⟩,hb.alloc hb.size _⟩
 ·show Calls _ _ _ _ fun e w'=>NewReader w (some (l,1)) e w'
  go_enter Tryz.func228,Tryz.ntmps228
  go_wp2_with (first | (refine wpList_load_want rfl 39 _ rfl _ rfl _ _ _ _ hA Tryz.underlying39 rfl hi ?_) | (go_at_call 252; (with_reducible refine (Good_any l HL.out _).mono ?_); rw [HG.out]; rintro e W1 ⟨rfl,hb1⟩; replace hb:=hb.trans (hb1.mono hb.size); replace hA:=hA.below hb1 hA.lt; clear hc) | (refine wpList_load_row rfl 39 _ rfl _ rfl _ _ _ _ hA Tryz.underlying39 rfl hi ?_))
  rw [HF.out]
  go_ret
  exact ⟨W1.heap.size,hb.size,rfl,⟨HL.out,by omega,by omega,IsObj.new W1 _ l 1⟩,hb.alloc hb.size _⟩
theorem Open_any (l:List UInt8) (hl:l.length=256) (m:UInt8) (w:World) :
  Calls Tryz.prog 228 #[.agg (cellsOf l),.int .u8 (m.toNat:Int)] w fun e w'=>NewReader w (openSt l m) e w':=by
 by_cases hm:l.getD 0 0=m
 ·have h:=Open_same l hl m hm _ rfl w
  have e:openSt l m=if decide (sealB l=l)=true then some (l,1) else none:=by
   unfold openSt
   by_cases hs:sealB l=l
   ·rw [if_pos ⟨hm,hs⟩,if_pos (by simpa using hs)]
   ·rw [if_neg (fun h=>hs h.2),if_neg (by simpa using hs)]
  rw [e]
  exact h
 ·rw [show openSt l m=none from if_neg (fun h=>hm h.1)]
  exact Open_other l hl m (fun h=>hm (UInt8.toNat_inj.1 h)) w
end Fld
namespace Fld
open Go.RowKit RowLaw Crc
def hB:List UInt8:=fdone [44,1,5] 7
end Fld

end Go.Proofs.YtgkbfahflngklaaGreat
