import Derived.Test.YtgkbfahflngklaaGreatCntE
import Derived.Deep.QuietTactic
import Derived.BigQuiet
set_option maxRecDepth 100000
namespace Go.Proofs.YtgkbfahflngklaaGreat
namespace Cnt
open Go.RowKit Go.Maps Go.MapKept RowLaw Crc
open Dev (Dev DS ptr Turn Step Many)
open Rot (planOk tlN pkN fsN formatF commitF)
open Slt (Rt cells)
inductive Thing where
 | dev (p:Nat) (s:DS)
 | tab (t:Nat) (T:TD)
def Thing.Lies (W:World) (B:List Nat):Thing→Prop
 | .dev p s=>Dev W p B s
 | .tab t T=>Tab W t B T
section
variable {w W W':World} {B C D:List Nat} {x y x':Thing} {l:List Thing} {K:List (Nat×Obj)} {i j:Nat}
theorem Thing.Lies.turn (h:x.Lies W B) (ht:Turn C W W') (hd:∀ k∈B,k∉C):x.Lies W' B:=by
 cases x with
 | dev p s=>exact Dev.Dev.turn h ht hd
 | tab t T=>
  obtain ⟨bp,bt,bc,fp,ft,fc,h⟩:=h
  exact ⟨bp,bt,bc,fp,ft,fc,h.turn ht hd⟩
theorem Thing.Lies.below (h:x.Lies W B) (hb:Below W.heap.size W W'):x.Lies W' B:=h.turn (C:=[]) (Turn.of_below hb) (by simp)
theorem Thing.Lies.ltB (h:x.Lies W B):∀ k∈B,k < W.heap.size:=by
 cases x with
 | dev p s=>exact Dev.Dev.ltB h
 | tab t T=>
  obtain ⟨bp,bt,bc,fp,ft,fc,h⟩:=h
  exact h.ltB
def Hall (w:World) (l:List Thing) (K:List (Nat×Obj)) (W:World):Prop:=
 Below w.heap.size w W∧∃ f:Nat→List Nat,
  (∀ i x,l[i]? = some x→x.Lies W (f i)∧∀ k∈f i,w.heap.size≤k)∧
  (∀ i j,i < l.length→j < l.length→i≠j→∀ k∈f i,k∉f j)∧
  (∀ x∈K,W.heap[x.1]? = some x.2∧∀ i,i < l.length→x.1∉f i)
theorem Hall.bel (h:Hall w l K W):Below w.heap.size w W:=h.1
theorem Hall.at_ (h:Hall w l K W) {q:Nat} {o:Obj} (hq:(q,o)∈K):W.heap[q]? = some o:=by obtain ⟨_,f,_,_,h4⟩:=h; exact (h4 _ hq).1
theorem Hall.lt_ (h:Hall w l K W) {q:Nat} {o:Obj} (hq:(q,o)∈K):q < W.heap.size:=(Array.getElem?_eq_some_iff.1 (h.at_ hq)).1
theorem Hall.less (h:Hall w l K W) {K':List (Nat×Obj)} (hk:∀ x∈K',x∈K):Hall w l K' W:=by
 obtain ⟨h1,f,h2,h3,h4⟩:=h
 exact ⟨h1,f,h2,h3,fun x hx=>h4 x (hk x hx)⟩
theorem Hall.below (h:Hall w l K W) (hb:Below W.heap.size W W'):Hall w l K W':=by
 obtain ⟨h1,f,h2,h3,h4⟩:=h
 exact ⟨h1.trans (hb.mono h1.size),f,fun i x hi=>⟨(h2 i x hi).1.below hb,(h2 i x hi).2⟩,h3,fun x hx=>⟨(hb.block _ (Array.getElem?_eq_some_iff.1 (h4 x hx).1).1).trans (h4 x hx).1,(h4 x hx).2⟩⟩
theorem Hall.drew (h:Hall w l K W):Hall w l K W.drew:=h.below ⟨rfl,rfl,rfl,Nat.le_refl _,fun _ _=>rfl⟩
theorem Hall.more (h: Hall w l K W) (hb: Below W.heap.size W W') {g: Nat} {o: Obj} (hg: W.heap.size≤g) (ho: W'.heap[g]? = some o): Hall w l ((g,o)::K) W':=by
 obtain ⟨h1,f,h2,h3,h4⟩:=h
 have hlt:∀ i,i < l.length→∀ k∈f i,k < W.heap.size:=fun i hi k hk=>(h2 i l[i] (List.getElem?_eq_getElem hi)).1.ltB k hk
 refine ⟨h1.trans (hb.mono h1.size),f,fun i x hi=>⟨(h2 i x hi).1.below hb,(h2 i x hi).2⟩,h3,fun x hx=>?_⟩
 rcases List.mem_cons.1 hx with rfl | hx
 ·exact ⟨ho,fun i hi hm=>by have:=hlt i hi _ hm; omega⟩
 ·exact ⟨(hb.block _ (Array.getElem?_eq_some_iff.1 (h4 x hx).1).1).trans (h4 x hx).1,(h4 x hx).2⟩
theorem Hall.alloc (h: Hall w l K W) (o: Obj): Hall w l ((W.heap.size,o)::K) (W.alloc o):=h.more ((Below.refl _ _).alloc (Nat.le_refl _) o) (Nat.le_refl _) (heap_alloc_new W o)
theorem Hall.start (w:World):Hall w [] [] w:=⟨Below.refl _ _,fun _=>[],fun i x h=>by simp at h,fun i j hi=>by simp at hi,fun x hx=>by cases hx⟩
theorem Hall.step {f:Nat→List Nat} (hi:l[i]? = some x) (h1:Below w.heap.size w W) (h2:∀ i x,l[i]? = some x→x.Lies W (f i)∧∀ k∈f i,w.heap.size≤k) (h3:∀ i j,i < l.length→j < l.length→i≠j→∀ k∈f i,k∉f j)
  (h4:∀ x∈K,W.heap[x.1]? = some x.2∧∀ i,i < l.length→x.1∉f i) (hd:x'.Lies W' D) (hs:Step (f i) W W' D):Hall w (l.set i x') K W':=by
 have hil:=(List.getElem?_eq_some_iff.1 hi).1
 have hup:=(h2 i x hi).2
 have hlt:∀ j,j < l.length→∀ k∈f j,k < W.heap.size:=fun j hj k hk=>(h2 j l[j] (List.getElem?_eq_getElem hj)).1.ltB k hk
 have hD:∀ k∈D,k∈f i∨W.heap.size≤k:=hs.sub
 refine ⟨h1.trans (hs.below hup h1.size),fun j=>if j=i then D else f j,fun j z hj=>?_,fun a b ha hb hab=>?_,fun z hz=>?_⟩
 ·dsimp only
  by_cases e:j=i
  ·subst e
   rw [List.getElem?_set_self hil] at hj
   cases hj
   rw [if_pos rfl]
   exact ⟨hd,hs.above hup h1.size⟩
  ·rw [List.getElem?_set_ne (fun e'=>e e'.symm)] at hj
   rw [if_neg e]
   obtain ⟨z1,z2⟩:=h2 j z hj
   exact ⟨z1.turn hs.turn (h3 j i (List.getElem?_eq_some_iff.1 hj).1 hil e),z2⟩
 ·rw [List.length_set] at ha hb
  dsimp only
  intro k hk hm
  by_cases ea:a=i
  ·rw [if_pos ea] at hk
   by_cases eb:b=i
   ·exact hab (ea.trans eb.symm)
   ·rw [if_neg eb] at hm
    rcases hD k hk with h | h
    ·exact h3 i b hil hb (fun e=>eb e.symm) k h hm
    ·have:=hlt b hb k hm; omega
  ·rw [if_neg ea] at hk
   by_cases eb:b=i
   ·rw [if_pos eb] at hm
    rcases hD k hm with h | h
    ·exact h3 a i ha hil ea k hk h
    ·have:=hlt a ha k hk; omega
   ·rw [if_neg eb] at hm
    exact h3 a b ha hb hab k hk hm
 ·obtain ⟨z1,z2⟩:=h4 z hz
  have hzl:=(Array.getElem?_eq_some_iff.1 z1).1
  refine ⟨(hs.turn.block z.1 hzl (z2 i hil)).trans z1,fun a ha hm=>?_⟩
  rw [List.length_set] at ha
  dsimp only at hm
  by_cases ea:a=i
  ·rw [if_pos ea] at hm
   rcases hD _ hm with h | h
   ·exact z2 i hil h
   ·omega
  ·rw [if_neg ea] at hm
   exact z2 a ha hm
theorem Hall.act {fn:FuncId} {args:Array Value} {R:Ending→Prop} (h:Hall w l K W) (hi:l[i]? = some x)
  (hc:∀ C,x.Lies W C→(∀ z∈K,z.1∉C)→(∀ k∈C,w.heap.size≤k)→Calls Tryz.prog fn args W fun e W'=>R e∧∃ D,x'.Lies W' D∧Step C W W' D) :
  Calls Tryz.prog fn args W fun e W'=>R e∧Hall w (l.set i x') K W':=by
 obtain ⟨h1,g,h2,h3,h4⟩:=h
 have hil:=(List.getElem?_eq_some_iff.1 hi).1
 exact (hc (g i) (h2 i x hi).1 (fun z hz=>(h4 z hz).2 i hil) (h2 i x hi).2).mono fun _ _ ⟨he,D,hd,hs⟩=>⟨he,Hall.step hi h1 h2 h3 h4 hd hs⟩
theorem Hall.act2 {fn:FuncId} {args:Array Value} {R:Ending→Prop} (h:Hall w l K W) (hi:l[i]? = some x) (hj:l[j]? = some y) (hne:j≠i)
  (hc:∀ B C,x.Lies W B→y.Lies W C→(∀ k∈C,k∉B)→Calls Tryz.prog fn args W fun e W'=>R e∧∃ D,x'.Lies W' D∧Step B W W' D) :
  Calls Tryz.prog fn args W fun e W'=>R e∧Hall w (l.set i x') K W':=by
 obtain ⟨h1,g,h2,h3,h4⟩:=h
 have hil:=(List.getElem?_eq_some_iff.1 hi).1
 have hjl:=(List.getElem?_eq_some_iff.1 hj).1
 exact (hc (g i) (g j) (h2 i x hi).1 (h2 j y hj).1 (h3 j i hjl hil hne)).mono fun _ _ ⟨he,D,hd,hs⟩=>⟨he,Hall.step hi h1 h2 h3 h4 hd hs⟩
theorem Hall.quiet2 {fn:FuncId} {args:Array Value} {R:Ending→World→Prop} (h:Hall w l K W) (hi:l[i]? = some x) (hj:l[j]? = some y)
  (hc:∀ B C,x.Lies W B→y.Lies W C→Calls Tryz.prog fn args W fun e W'=>R e W'∧Below W.heap.size W W') :
  Calls Tryz.prog fn args W fun e W'=>R e W'∧Hall w l K W'∧Below W.heap.size W W':=by
 have h':=h
 obtain ⟨h1,g,h2,h3,h4⟩:=h
 exact (hc (g i) (g j) (h2 i x hi).1 (h2 j y hj).1).mono fun _ _ ⟨he,hb⟩=>⟨he,h'.below hb,hb⟩
theorem Hall.push (h:Hall w l K W) (hb:Below W.heap.size W W') (hx:x.Lies W' D) (hD:∀ k∈D,W.heap.size≤k):Hall w (l ++ [x]) K W':=by
 obtain ⟨h1,f,h2,h3,h4⟩:=h
 have hlt:∀ j,j < l.length→∀ k∈f j,k < W.heap.size:=fun j hj k hk=>(h2 j l[j] (List.getElem?_eq_getElem hj)).1.ltB k hk
 refine ⟨h1.trans (hb.mono h1.size),fun j=>if j=l.length then D else f j,fun j z hj=>?_,fun a b ha hb' hab=>?_,fun z hz=>?_⟩
 ·dsimp only
  by_cases e:j=l.length
  ·subst e
   rw [List.getElem?_append_right (Nat.le_refl _),Nat.sub_self] at hj
   cases hj
   rw [if_pos rfl]
   exact ⟨hx,fun k hk=>Nat.le_trans h1.size (hD k hk)⟩
  ·have hjl:j < l.length:=by
    have:=(List.getElem?_eq_some_iff.1 hj).1
    rw [List.length_append,List.length_singleton] at this
    omega
   rw [List.getElem?_append_left hjl] at hj
   rw [if_neg e]
   exact ⟨(h2 j z hj).1.below hb,(h2 j z hj).2⟩
 ·rw [List.length_append,List.length_singleton] at ha hb'
  dsimp only
  intro k hk hm
  by_cases ea:a=l.length
  ·rw [if_pos ea] at hk
   rw [if_neg (by omega)] at hm
   have:=hD k hk
   have:=hlt b (by omega) k hm
   omega
  ·rw [if_neg ea] at hk
   by_cases eb:b=l.length
   ·rw [if_pos eb] at hm
    have:=hD k hm
    have:=hlt a (by omega) k hk
    omega
   ·rw [if_neg eb] at hm
    exact h3 a b (by omega) (by omega) hab k hk hm
 ·obtain ⟨z1,z2⟩:=h4 z hz
  have hzl:=(Array.getElem?_eq_some_iff.1 z1).1
  refine ⟨(hb.block _ hzl).trans z1,fun a ha hm=>?_⟩
  rw [List.length_append,List.length_singleton] at ha
  dsimp only at hm
  by_cases ea:a=l.length
  ·rw [if_pos ea] at hm
   have:=hD _ hm
   omega
  ·rw [if_neg ea] at hm
   exact z2 a (by omega) hm
variable {p t:Nat} {s s':DS} {T:TD}
theorem Hall.format (h:Hall w l K W) (hi:l[i]? = some (.dev p s)) (hpl:planOk s.n=true) (hlen:s.pend.length < 4293000000) {r:Rt} {z:Int} (hf:formatF s=(s',(r,z))) :
  Calls Tryz.prog 15 #[ptr p] W fun e W'=>e=.returned (.tuple #[.agg (cells r),.int .i64 z])∧Hall w (l.set i (.dev p s')) K W':=
 h.act hi fun C hd _ _=>by
  have:=Rot.Format_any (show Dev W p C s from hd) hpl hlen
  rw [hf] at this
  exact this
theorem Hall.open_ (h:Hall w l K W) (hi:l[i]? = some (.dev p s)) (hp:planOk s.n=true) {r:Rt} (hr:r.size=s.n) (hc:r.picks < 4294967296) :
  Calls Tryz.prog 16 #[ptr p,.agg (cells r)] W fun e W'=>∃ t,e=.returned (.tuple #[ptr t,.int .i64 0])∧Hall w (l ++ [.tab t (tdOf p s r.picks)]) K W':=by
 have h':=h
 obtain ⟨_,g,h2,_⟩:=h
 refine (Open_any (show Dev W p (g i) s from (h2 i _ hi).1) hp hr hc).mono fun e W' hh=>?_
 obtain ⟨t,B,he,hT,hb,hB⟩:=hh
 exact ⟨t,he,h'.push hb (show Thing.Lies W' B (.tab t _) from hT) hB⟩
theorem Hall.get (h:Hall w l K W) (hi:l[i]? = some (.tab t T)) (hj:l[j]? = some (.dev T.d s)) (hne:j≠i) (hr:Reads s T) {a:Nat} (ha:a < 4294967296) :
  Calls Tryz.prog 22 #[ptr t,.int .u32 (a:Int)] W fun e W'=>e=.returned (.tuple #[.int .u16 (T.nowC a:Int),.int .i64 (cntE T.n a)])∧Hall w (l.set i (.tab t T)) K W':=
 h.act2 hi hj hne fun B C hx hy hdis=>by
  obtain ⟨bp,bt,bc,fp,ft,fc,hT⟩:=hx
  exact (Get_any hT (show Dev W T.d C s from hy) hr hdis ha).mono fun e W' hh=>by
   obtain ⟨he,fp',ft',B',h1,h2⟩:=hh
   exact ⟨he,B',⟨bp,bt,bc,fp',ft',fc,h1⟩,h2⟩
theorem Hall.old (h:Hall w l K W) (hi:l[i]? = some (.tab t T)) (hj:l[j]? = some (.dev T.d s)) (hne:j≠i) (hr:Reads s T) {a:Nat} (ha:a < 4294967296) :
  Calls Tryz.prog 23 #[ptr t,.int .u32 (a:Int)] W fun e W'=>e=.returned (.tuple #[.int .u16 (T.oldC a:Int),.int .i64 (cntE T.n a)])∧Hall w (l.set i (.tab t T)) K W':=
 h.act2 hi hj hne fun B C hx hy hdis=>by
  obtain ⟨bp,bt,bc,fp,ft,fc,hT⟩:=hx
  exact (Old_any hT (show Dev W T.d C s from hy) hr hdis ha).mono fun e W' hh=>by
   obtain ⟨he,fp',ft',B',h1,h2⟩:=hh
   exact ⟨he,B',⟨bp,bt,bc,fp',ft',fc,h1⟩,h2⟩
theorem Hall.set_ (h:Hall w l K W) (hi:l[i]? = some (.tab t T)) (hj:l[j]? = some (.dev T.d s)) (hne:j≠i) (hr:Reads s T) {a v:Nat} (ha:a < 4294967296) (hv:v < 65536) :
  Calls Tryz.prog 17 #[ptr t,.int .u32 (a:Int),.int .u16 (v:Int)] W fun e W'=>e=.returned (.int .i64 (setE T.n a))∧Hall w (l.set i (.tab t (setS T a v))) K W':=
 h.act2 hi hj hne fun B C hx hy hdis=>by
  obtain ⟨bp,bt,bc,fp,ft,fc,hT⟩:=hx
  exact (Set_any hT (show Dev W T.d C s from hy) hr hdis ha hv).mono fun e W' hh=>by
   obtain ⟨he,fp',ft',fc',B',h1,h2⟩:=hh
   exact ⟨he,B',⟨bp,bt,bc,fp',ft',fc',h1⟩,h2⟩
theorem Hall.sealed {N:Nat} (hS:SortOk N) (h:Hall w l K W) (hi:l[i]? = some (.tab t T)) (hj:l[j]? = some (.dev T.d s)) (hr:Reads s T) (hN:∀ ss:List Nat,ss.Nodup→(∀ a,a∈ss↔(T.C a).isSome=true)→ss.length≤N) (hsm:T.n≤65536) :
  Calls Tryz.prog 19 #[ptr t] W fun e W'=>(∃ (v:Value) (ks:List Nat),e=.returned (.tuple #[v,.int .u32 (sealCh T ks:Int),.int .i64 0])∧ks.Pairwise (· < ·)∧(∀ a,a∈ks↔(T.C a).isSome=true)∧
   W'.ownsRow W.heap.size 55 257 v (sealL T ks).length (Dev.pendCells (sealL T ks)))∧Hall w l K W'∧Below W.heap.size W W':=
 h.quiet2 hi hj fun B C hx hy=>by
  obtain ⟨bp,bt,bc,fp,ft,fc,hT⟩:=hx
  exact (Seal_any hS hT (show Dev W T.d C s from hy) hr hN hsm).mono fun e W' hh=>by
   obtain ⟨v,ks,he,h1,h2,h3,hb⟩:=hh
   exact ⟨⟨v,ks,he,h1,h2,h3⟩,hb⟩
end
end Cnt
namespace Cnt
open Go.RowKit Go.Maps Go.MapKept RowLaw Crc
open Dev (Dev DS ptr readB upd applyP applyP_none applyP_last)
open Tal (kT kP fT fP getE getNs getI zs putB putB_yes putB_length pgB back getE_zero nsOf nsOf_zerosT nsOf_zerosP numAt)
open Rot (planOk tlN pkN fsN plan_facts)
theorem lim_T:kT.lim=16384:=rfl
theorem lim_P:kP.lim=16:=rfl
theorem zero_T {p:Nat} (h:p < 16384):getE kT zeros p=0∧getNs kT zeros p=zs kT:=by
 have h1:getE kT zeros p=0:=getE_zero.2 ⟨h,.inl rfl⟩
 exact ⟨h1,by unfold getNs; rw [if_pos h1,nsOf_zerosT]⟩
theorem zero_P {k:Nat} (h:k < 16):getE kP zeros k=0∧getNs kP zeros k=zs kP:=by
 have h1:getE kP zeros k=0:=getE_zero.2 ⟨h,.inl rfl⟩
 exact ⟨h1,by unfold getNs; rw [if_pos h1,nsOf_zerosP]⟩
theorem other_two (m b:Nat) (hb:b < 2):other (2 * m+b)=2 * m+(1 - b):=by
 have h1:(other (2 * m+b)) / 2=m:=by
  unfold other
  rw [Nat.xor_div_two]
  have:(2 * m+b) / 2=m:=by omega
  rw [this]
  simp
 have h2:(other (2 * m+b)) % 2=(1 - b):=by
  have h3:=Nat.xor_mod_two_eq_one (a:=2 * m+b) (b:=1)
  unfold other
  have h4:(2 * m+b) % 2=b:=by omega
  rw [h4] at h3
  rcases Nat.mod_two_eq_zero_or_one ((2 * m+b) ^^^ 1) with h5 | h5
  ·rw [h5]
   by_cases hb1:b=1
   ·omega
   ·have:=h3.2 (by simp [hb1])
    omega
  ·rw [h5]
   have h6:=h3.1 h5
   by_cases hb1:b=1
   ·exact absurd (by simp [hb1]) h6
   ·omega
 omega
theorem bitAt_zs (i:Nat):bitAt (zs kP) i=0:=by
 unfold bitAt zs
 rw [List.getD_eq_getElem?_getD,List.getElem?_replicate]
 split <;> simp
theorem format_sound {s:DS} (h:Rot.Calm s) (h1:64≤s.n) (h2:s.n≤1048576):∃ s2,Rot.formatF s=(s2,(Rot.fresh s.n,0))∧Rot.Calm s2∧s2.n=s.n∧Sound s2 0∧(∀ d k,k < pkN s.n→(tdOf d s2 0).PV k=zs kP)∧(∀ d p,p < tlN s.n→(tdOf d s2 0).TV p=zs kT):=by
 obtain ⟨k0,e⟩:=Rot.format_calm h h1 h2
 obtain ⟨f1,f2,f3,f4,f5,f6,f7,f8,f9⟩:=plan_facts h1 h2
 have hc:Rot.Calm ({ s with g:=Dev.upd (applyP s.g (Rot.toZero s.g (fsN s.n))) 1 (Slt.rtB (Rot.fresh s.n)),writes:=k0 }:DS):=⟨h.down,h.left,h.pend,fun a=>by
  show (Dev.upd (applyP s.g (Rot.toZero s.g (fsN s.n))) 1 (Slt.rtB (Rot.fresh s.n)) a).length=256
  unfold Dev.upd
  split
  ·exact Slt.rtB_length _
  ·rw [Rot.toZero_apply]
   split
   ·exact zeros_length
   ·exact h.len a⟩
 have hr:∀ a,a≠1→a < fsN s.n→readB ({ s with g:=Dev.upd (applyP s.g (Rot.toZero s.g (fsN s.n))) 1 (Slt.rtB (Rot.fresh s.n)),writes:=k0 }:DS) a=zeros:=fun a h3 h4=>by
  rw [Rot.readB_nil hc.pend a]
  show Dev.upd (applyP s.g (Rot.toZero s.g (fsN s.n))) 1 (Slt.rtB (Rot.fresh s.n)) a=zeros
  unfold Dev.upd
  rw [Rot.toZero_apply,if_neg h3,if_pos h4]
 have hn:({ s with g:=Dev.upd (applyP s.g (Rot.toZero s.g (fsN s.n))) 1 (Slt.rtB (Rot.fresh s.n)),writes:=k0 }:DS).n=s.n:=rfl
 generalize ({ s with g:=Dev.upd (applyP s.g (Rot.toZero s.g (fsN s.n))) 1 (Slt.rtB (Rot.fresh s.n)),writes:=k0 }:DS)=s2 at e hc hr hn
 have hpa:∀ d V W X k,pkAt ⟨d,s2.n,0,V,W,X⟩ k=2+2 * k:=fun d V W X k=>by
  show 2+2 * k+0 / 2 ^ k % 2=_
  rw [Nat.zero_div]
  omega
 have hPV:∀ d k,k < pkN s.n→(tdOf d s2 0).PV k=zs kP:=fun d k hk=>by
  show getNs kP (readB s2 (pkAt ⟨d,s2.n,0,_,_,_⟩ k)) k=_
  rw [hpa,hr _ (by omega) (by omega)]
  exact (zero_P (by omega)).2
 have hta:∀ d p,p < tlN s.n→tlAt (tdOf d s2 0) p=2+2 * (pkN s.n+p):=fun d p hp=>by
  show 2+2 * (pkN s2.n+p)+bitAt ((tdOf d s2 0).PV (p / 1024)) (p % 1024)=_
  rw [hPV d (p / 1024) (by omega),bitAt_zs,hn]
  omega
 have hta':∀ d p,p < tlN s.n→readB s2 (tlAt (tdOf d s2 0) p)=zeros:=fun d p hp=>by
  rw [hta d p hp]
  exact hr _ (by omega) (by omega)
 refine ⟨s2,e,hc,hn,⟨?_,by omega,?_,fun k hk=>?_,fun p hp=>?_⟩,hPV,fun d p hp=>?_⟩
 ·rw [hn]
  simp [planOk,h1,h2]
 ·rw [hc.pend]
  decide
 ·rw [hn] at hk
  show getE kP (readB s2 (pkAt ⟨0,s2.n,0,_,_,_⟩ k)) k=0
  rw [hpa,hr _ (by omega) (by omega)]
  exact (zero_P (by omega)).1
 ·rw [hn] at hp
  rw [hta' 0 p hp]
  exact (zero_T (by omega)).1
 ·show getNs kT (readB s2 (tlAt (tdOf d s2 0) p)) p=_
  rw [hta' d p hp]
  exact (zero_T (by omega)).2
end Cnt
namespace Cnt
open Go.RowKit Go.Maps Go.MapKept RowLaw Crc
open Dev (Dev DS ptr readB applyP applyP_none applyP_last)
open Tal (kT kP fT fP getE getNs getI zs putB putB_yes putB_length pgB back)
open Rot (planOk tlN pkN fsN plan_facts)
theorem pkN_one {n:Nat} (h1:64≤n) (h2:n≤65536):pkN n=1∧tlN n≤1024:=by
 unfold pkN tlN
 omega
theorem bitAt_test (ns:List Nat) (i:Nat):bitAt ns i=((ns.getD (i / 64) 0).testBit (i % 64)).toNat:=(Nat.toNat_testBit _ _).symm
theorem getD_set (ns:List Nat) (i j v:Nat) (hi:i < ns.length):(ns.set i v).getD j 0=if i=j then v else ns.getD j 0:=by
 rw [List.getD_eq_getElem?_getD,List.getElem?_set,List.getD_eq_getElem?_getD]
 by_cases h:i=j
 ·subst h
  rw [if_pos rfl,if_pos hi,if_pos rfl]
  rfl
 ·rw [if_neg h,if_neg h]
theorem bitAt_turn {ns:List Nat} (hl:ns.length=16) {i j:Nat} (hi:i < 1024):bitAt (turnBit ns i) j=if i=j then 1 - bitAt ns j else bitAt ns j:=by
 rw [bitAt_test,bitAt_test]
 unfold turnBit
 rw [getD_set _ _ _ _ (by omega)]
 by_cases hd:i / 64=j / 64
 ·rw [if_pos hd,Nat.testBit_xor,Nat.testBit_two_pow,hd]
  by_cases hm:i % 64=j % 64
  ·rw [if_pos (show i=j by omega)]
   cases (ns.getD (j / 64) 0).testBit (j % 64) <;> simp [hm]
  ·rw [if_neg (show ¬ i=j by omega)]
   cases (ns.getD (j / 64) 0).testBit (j % 64) <;> simp [hm]
 ·rw [if_neg hd,if_neg (show ¬ i=j by omega)]
theorem bitAt_turnAll (ps:List Nat):∀ {ns:List Nat},ns.length=16→(∀ p∈ps,p < 1024)→ps.Nodup→∀ {j:Nat},bitAt (turnAll ns ps) j=if j∈ps then 1 - bitAt ns j else bitAt ns j:=by
 induction ps with
 | nil=>intro ns _ _ _ j; rw [if_neg (by simp)]; rfl
 | cons p ps ih=>
  intro ns hl hp hn j
  obtain ⟨hn1,hn2⟩:=List.nodup_cons.1 hn
  show bitAt (turnAll (turnBit ns p) ps) j=_
  rw [ih ((turnBit_length _ _).trans hl) (fun q hq=>hp q (List.mem_cons_of_mem _ hq)) hn2,bitAt_turn hl (hp p List.mem_cons_self)]
  by_cases h1:p=j
  ·subst h1
   rw [if_neg hn1,if_pos rfl,if_pos List.mem_cons_self]
  ·rw [if_neg h1]
   by_cases h2:j∈ps
   ·rw [if_pos h2,if_pos (List.mem_cons_of_mem _ h2)]
   ·rw [if_neg h2,if_neg (by simp [h2]; exact fun e=>h1 e.symm)]
theorem applyP_mem {x:Nat×List UInt8}:∀ (l:List (Nat×List UInt8)) (g:Nat→List UInt8),l.Pairwise (fun a b=>a.1≠b.1)→x∈l→applyP g l x.1=x.2
 | [],g,_,h=>absurd h (by simp)
 | y::l,g,hp,h=>by
  obtain ⟨h1,h2⟩:=List.pairwise_cons.1 hp
  show applyP (Dev.upd g y.1 y.2) l x.1=x.2
  rcases List.mem_cons.1 h with rfl | h
  ·rw [applyP_none l _ (fun z hz e=>h1 z hz e.symm)]
   unfold Dev.upd
   rw [if_pos rfl]
  ·exact applyP_mem l _ h2 h
theorem now_of_none {T:TD} (h:TOk T) {p:Nat} (hc:chg T p=[]):T.now p=T.TV p:=by
 have hl:=(h.now p).1
 have hl':=h.tl p
 refine List.ext_getElem (by omega) fun i h1 h2=>?_
 have h3:¬ differs T p i=true:=fun hd=>by
  have:p * 64+i∈chg T p:=List.mem_map.2 ⟨i,List.mem_filter.2 ⟨List.mem_range.2 (by omega),hd⟩,rfl⟩
  rw [hc] at this
  cases this
 unfold differs at h3
 rw [decide_eq_true_eq] at h3
 have h4:(T.now p).getD i 0=(T.TV p).getD i 0:=Classical.not_not.1 h3
 rw [List.getD_eq_getElem?_getD,List.getD_eq_getElem?_getD,List.getElem?_eq_getElem h1,List.getElem?_eq_getElem h2] at h4
 exact h4
structure Of (s:DS) (ch:Nat) (T:TD):Prop where
 n:T.n=s.n
 chE:T.ch=ch
 PV:T.PV=(tdOf T.d s ch).PV
 TV:T.TV=(tdOf T.d s ch).TV
theorem tlAt_one {T:TD} (h:pkN T.n=1) {q:Nat} (hq:q < 1024):tlAt T q=2 * (2+q)+bitAt (T.PV 0) q:=by
 unfold tlAt
 rw [h,Nat.div_eq_of_lt hq,Nat.mod_eq_of_lt hq]
 omega
theorem pkAt_one (T:TD):pkAt T 0=2 * 1+T.ch % 2:=by
 unfold pkAt
 rw [Nat.pow_zero,Nat.div_one]
section
variable {s s':DS} {ch:Nat} {T:TD} {ks:List Nat}
theorem seal_commit (hO:Of s ch T) (hok:TOk T) (hS:Sound s ch) (h65:s.n≤65536) (hks:ks.Pairwise (· < ·)) (hmem:∀ a,a∈ks↔(T.C a).isSome=true)
  (hn':s'.n=s.n) (hp':s'.pend=[]) (hp:s.pend=[]) (hg:∀ a,2≤a→s'.g a=applyP s.g (sealL T ks) a) :
  (∀ q,q < tlN s.n→readB s' (tlAt T q)=readB s (tlAt T q))∧readB s' (pkAt T 0)=readB s (pkAt T 0)∧
  Sound s' (sealCh T ks)∧∀ d q,q < tlN s.n→(tdOf d s' (sealCh T ks)).TV q=T.now q:=by
 have h64:64≤s.n:=(plan_of hS.plan).1
 obtain ⟨hp1,ht1⟩:=pkN_one h64 h65
 have hp1':pkN T.n=1:=by rw [hO.n]; exact hp1
 have hLk:∀ p∈chs T ks,p < tlN s.n∧(T.C p).isSome=true:=fun p hp=>by
  have h1:=(hmem p).1 (List.mem_filter.1 hp).1
  obtain ⟨ns,hns⟩:=Option.isSome_iff_exists.1 h1
  have:=hok.ck p ns hns
  rw [hO.n] at this
  exact ⟨this,h1⟩
 have hLn:(chs T ks).Nodup:=(hks.imp fun h=>Nat.ne_of_lt h).filter _
 have hLp:(chs T ks).Pairwise (· < ·):=hks.filter _
 have hrest:∀ q,q∉chs T ks→T.now q=T.TV q:=fun q hq=>by
  cases hc:T.C q with
  | none=>exact now_none hc
  | some ns=>
   refine now_of_none hok (Classical.byContradiction fun h=>hq (List.mem_filter.2 ⟨(hmem q).2 (by rw [hc]; rfl),decide_eq_true h⟩))
 obtain ⟨L,hL⟩:∃ L,L=chs T ks:=⟨_,rfl⟩
 have hsl:sealL T ks=L.map (tlPut T) ++ (if L=[] then [] else [pkPut T L]):=by rw [hL]; rfl
 have hsc:sealCh T ks=if L=[] then T.ch else other T.ch:=by rw [hL]; rfl
 rw [←hL] at hLk hLn hLp hrest
 rw [hsl] at hg
 rw [hsc]
 have hbl:=fun q=>bitAt_lt (T.PV 0) q
 have hTA:∀ q,q < 1024→tlAt T q=2 * (2+q)+bitAt (T.PV 0) q:=fun q hq=>tlAt_one hp1' hq
 have hTP:∀ q,q < 1024→(tlPut T q).1=2 * (2+q)+(1 - bitAt (T.PV 0) q):=fun q hq=>by
  show other (tlAt T q)=_
  rw [hTA q hq,other_two _ _ (hbl q)]
 have hPA:pkAt T 0=2 * 1+T.ch % 2:=pkAt_one T
 have hPP:(pkPut T L).1=2 * 1+(1 - T.ch % 2):=by
  show other (pkAt T 0)=_
  rw [hPA,other_two _ _ (Nat.mod_lt _ (by omega))]
 have hrb:∀ a,2≤a→readB s' a=applyP s.g (L.map (tlPut T) ++ (if L=[] then [] else [pkPut T L])) a:=fun a ha=>by rw [Rot.readB_nil hp',hg a ha]
 have hA:∀ a,2≤a→(∀ p∈L,a≠(tlPut T p).1)→(L≠[]→a≠(pkPut T L).1)→readB s' a=readB s a:=fun a ha h1 h2=>by
  rw [hrb a ha,Rot.readB_nil hp]
  refine applyP_none _ _ fun x hx=>?_
  rcases List.mem_append.1 hx with hx | hx
  ·obtain ⟨p,hp,rfl⟩:=List.mem_map.1 hx
   exact fun e=>h1 p hp e.symm
  ·by_cases hLe:L=[]
   ·rw [if_pos hLe] at hx
    cases hx
   ·rw [if_neg hLe,List.mem_singleton] at hx
    subst hx
    exact fun e=>h2 hLe e.symm
 have hPW:(L.map (tlPut T) ++ (if L=[] then [] else [pkPut T L])).Pairwise (fun a b=>a.1≠b.1):=by
  refine List.pairwise_append.2 ⟨List.pairwise_map.2 ?_,?_,fun x hx y hy=>?_⟩
  ·refine List.Pairwise.imp_of_mem (fun {a b} ha hb hab=>?_) hLp
   rw [hTP a (by have:=(hLk a ha).1; omega),hTP b (by have:=(hLk b hb).1; omega)]
   omega
  ·split <;> simp
  ·obtain ⟨p,hp,rfl⟩:=List.mem_map.1 hx
   by_cases hLe:L=[]
   ·rw [if_pos hLe] at hy
    cases hy
   ·rw [if_neg hLe,List.mem_singleton] at hy
    subst hy
    rw [hPP,hTP p (by have:=(hLk p hp).1; omega)]
    omega
 have hB:∀ p∈L,readB s' (tlPut T p).1=putB kT p (T.now p):=fun p hp=>by
  rw [hrb _ (by rw [hTP p (by have:=(hLk p hp).1; omega)]; omega)]
  exact applyP_mem _ _ hPW (List.mem_append_left _ (List.mem_map.2 ⟨p,hp,rfl⟩))
 have hC:L≠[]→readB s' (pkPut T L).1=putB kP 0 (turnAll (T.PV 0) L):=fun hLe=>by
  rw [hrb _ (by rw [hPP]; omega)]
  refine applyP_mem _ _ hPW (List.mem_append_right _ ?_)
  rw [if_neg hLe]
  exact List.mem_singleton.2 rfl
 have hold1:∀ q,q < tlN s.n→readB s' (tlAt T q)=readB s (tlAt T q):=fun q hq=>by
  have h1:=hTA q (by omega)
  have h2:=hbl q
  refine hA _ (by rw [h1]; omega) (fun p hp=>?_) (fun _=>?_)
  ·rw [h1,hTP p (by have:=(hLk p hp).1; omega)]
   have h3:=hbl p
   intro e
   have:q=p:=by omega
   subst this
   omega
  ·rw [h1,hPP]
   omega
 have hold2:readB s' (pkAt T 0)=readB s (pkAt T 0):=by
  refine hA _ (by rw [hPA]; omega) (fun p hp=>?_) (fun _=>?_)
  ·rw [hPA,hTP p (by have:=(hLk p hp).1; omega)]
   omega
  ·rw [hPA,hPP]
   omega
 refine ⟨hold1,hold2,?_⟩
 obtain ⟨ch',hch'⟩:∃ c,c=if L=[] then T.ch else other T.ch:=⟨_,rfl⟩
 rw [←hch']
 have hoth:other T.ch=2 * (T.ch / 2)+(1 - T.ch % 2):=by
  have:=other_two (T.ch / 2) (T.ch % 2) (Nat.mod_lt _ (by omega))
  rw [show 2 * (T.ch / 2)+T.ch % 2=T.ch by omega] at this
  exact this
 have hpick:getE kP (readB s' (2 * 1+ch' % 2)) 0=0∧getNs kP (readB s' (2 * 1+ch' % 2)) 0=turnAll (T.PV 0) L:=by
  by_cases hLe:L=[]
  ·have e:ch'=T.ch:=by rw [hch',if_pos hLe]
   rw [e,←hPA,hold2,hLe]
   have h1:=hS.pick 0 (by omega)
   have h2:pkAt (tdOf 0 s ch) 0=pkAt T 0:=by
    rw [pkAt_one,pkAt_one,hO.chE]
    rfl
   rw [h2] at h1
   refine ⟨h1,?_⟩
   show getNs kP (readB s (pkAt T 0)) 0=T.PV 0
   rw [hO.PV,←h2]
   rfl
  ·have e:ch' % 2=1 - T.ch % 2:=by rw [hch',if_neg hLe,hoth]; omega
   rw [e,←hPP,hC hLe,putB_yes _ (by rw [lim_P]; omega)]
   obtain ⟨_,b2,b3⟩:=back fP (idx:=0) (ns:=turnAll (T.PV 0) L) ((turnAll_length _ _).trans (hok.pl 0)) (fun j hj=>turnAll_lt _ _ (hok.pn 0) _ (List.getElem_mem hj)) (by rw [lim_P]; omega)
   exact ⟨b3,b2⟩
 have hPV':∀ d,(tdOf d s' ch').PV 0=turnAll (T.PV 0) L:=fun d=>by
  show getNs kP (readB s' (pkAt ⟨d,s'.n,ch',_,_,_⟩ 0)) 0=_
  rw [pkAt_one]
  exact hpick.2
 have htal:∀ d q,q < tlN s.n→getE kT (readB s' (tlAt (tdOf d s' ch') q)) q=0∧getNs kT (readB s' (tlAt (tdOf d s' ch') q)) q=T.now q:=fun d q hq=>by
  have hq':q < 1024:=by omega
  have h1:tlAt (tdOf d s' ch') q=2 * (2+q)+bitAt ((tdOf d s' ch').PV 0) q:=tlAt_one (T:=tdOf d s' ch') (by show pkN s'.n=1; rw [hn']; exact hp1) hq'
  rw [hPV',bitAt_turnAll L (hok.pl 0) (fun p hp=>by have:=(hLk p hp).1; omega) hLn] at h1
  by_cases hqL:q∈L
  ·rw [if_pos hqL,←hTP q hq'] at h1
   rw [h1,hB q hqL,putB_yes _ (by rw [lim_T]; omega)]
   obtain ⟨_,b2,b3⟩:=back fT (idx:=q) (ns:=T.now q) (hok.now q).1 (fun j hj=>(hok.now q).2 _ (List.getElem_mem hj)) (by rw [lim_T]; omega)
   exact ⟨b3,b2⟩
  ·rw [if_neg hqL,←hTA q hq'] at h1
   rw [h1,hold1 q hq,hrest q hqL]
   have h2:tlAt (tdOf 0 s ch) q=tlAt T q:=by
    rw [hTA q hq',hO.PV]
    exact tlAt_one (T:=tdOf 0 s ch) hp1 hq'
   have h3:=hS.tally q hq
   rw [h2] at h3
   refine ⟨h3,?_⟩
   rw [hO.TV,←h2]
   rfl
 refine ⟨⟨by rw [hn']; exact hS.plan,?_,by rw [hp']; decide,fun k hk=>?_,fun q hq=>?_⟩,fun d q hq=>?_⟩
 ·have:=hok.ch
  rw [hch']
  split
  ·exact this
  ·rw [hoth]; omega
 ·rw [hn',hp1] at hk
  obtain rfl:k=0:=by omega
  rw [pkAt_one]
  exact hpick.1
 ·rw [hn'] at hq
  exact (htal 0 q hq).1
 ·exact (htal d q hq).2
end
end Cnt
namespace Cnt
open Go.RowKit Go.Maps Go.MapKept RowLaw Crc
open Dev (Dev DS readB)
open Tal (kT kP fT fP getE getNs getI zs zs_length putB putB_yes putB_length pgB back)
open Rot (planOk tlN pkN fsN plan_facts)
end Cnt
namespace Cnt
open Go.RowKit RowLaw Crc
def Row32 (xs:List Nat) (v:Value) (W:World):Prop:=∃ pa c,v=.slice pa xs.length c∧(xs=[]∨∃ g off,pa=some ⟨g,off,none⟩∧g < W.heap.size∧∀ k (hk:k < xs.length),W.cell? ⟨g,off+k,none⟩=some (.int .u32 (xs[k]:Int)))
theorem Row32.own {base:Nat} {xs:List Nat} {v:Value} {W:World} (h:W.ownsRow base 22 1 v xs.length (xs.map encN)):Row32 xs v W:=by
 obtain ⟨pk,ck,he,hc⟩:=own_slice h
 refine ⟨pk,ck,he,?_⟩
 cases hx:xs with
 | nil=>exact .inl rfl
 | cons y ys=>
  rw [←hx]
  refine .inr ?_
  have h0:0 < xs.length:=by rw [hx]; simp
  obtain ⟨g,hg,_⟩:=hc 0 (encN xs[0]) (by rw [List.getElem?_map,List.getElem?_eq_getElem h0]; rfl) (by omega)
  refine ⟨g,0,hg,?_,fun k hk=>?_⟩
  ·rw [hg] at he
   rcases h.2 with ⟨h1,_⟩ | ⟨g',cap,cur,h1,_,h3,_⟩
   ·rw [he] at h1; cases h1
   ·rw [he] at h1
    cases h1
    exact (Array.getElem?_eq_some_iff.1 h3).1
  ·obtain ⟨g',hg',h1⟩:=hc k (encN xs[k]) (by rw [List.getElem?_map,List.getElem?_eq_getElem hk]; rfl) (by omega)
   rw [hg] at hg'
   cases hg'
   rw [Nat.zero_add]
   exact h1
end Cnt

end Go.Proofs.YtgkbfahflngklaaGreat
