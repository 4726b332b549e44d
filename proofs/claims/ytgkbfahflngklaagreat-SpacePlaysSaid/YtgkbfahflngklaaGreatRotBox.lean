import Derived.Test.YtgkbfahflngklaaGreatRows
import Derived.ProofKit
import Derived.OpenShut
import Derived.Below
import Derived.Test.YtgkbfahflngklaaGreatDev1
import Derived.Deep.Slices
import Derived.Deep.Fields
import Derived.ChangeSame
import Derived.Test.YtgkbfahflngklaaGreatDev2
import Derived.Deep.QuietTactic
import Derived.BigQuiet
set_option maxRecDepth 100000
namespace Go.Proofs.YtgkbfahflngklaaGreat
namespace LawKit
open Go.ChangeShapes Go.WideShapes Go.ChangeAt Go.RowKit
open Go.ChangeMaps (open_string)
theorem own:ownKnob Tryz.prog.godebug=none:=by kernel_rfl
theorem laidOut:laidOutB Tryz.prog=true:=by kernel_rfl
def bytesOf (l:List UInt8):Array Value:=(l.map fun u=>Value.int .u8 (u.toNat:Int)).toArray
section
variable {H:Type} {enc:TypeId×Value→H} {P:Program} {w:World} {base:Nat} {sp:Nat→Bool} {held:Bool}
theorem below_all {W W':World} (hl:laidOutB P=true) (hb:Below W.heap.size W W'):∀ (ts:List TypeId) (vs:List Value) (ds:List (DataW H)) (ps:List MemPlace),(∀ t∈ts,P.readableRec t=true∧t < P.types.size)→
  (∀ x∈ps,x.block < W.heap.size)→DataW.TrodAll enc P W 0 (fun _=>true) true ts vs ds ps→DataW.TrodAll enc P W' 0 (fun b=>decide (b < W.heap.size)) true ts vs ds ps
 | [],[],[],_,_,_,h=>h
 | t::ts,v::vs,d::ds,ps,ht,hp,h=>by
  obtain ⟨p,q,h1,h2,rfl⟩:=h
  have h0:=ht t (by simp)
  exact ⟨p,q,Below.trod hl h0.1 h0.2 h1 hb (fun x hx=>hp x (by simp [hx])),below_all hl hb ts vs ds q (fun t' ht'=>ht t' (by simp [ht'])) (fun x hx=>hp x (by simp [hx])) h2,rfl⟩
 | [],[],_::_,_,_,_,h | [],_::_,_,_,_,_,h | _::_,[],_,_,_,_,h | _::_,_::_,[],_,_,_,h=>by simp [DataW.TrodAll] at h
end
theorem law_post {H:Type} {enc:TypeId×Value→H} {f:Func} {s:ChangeSpec} {tb:TypeId} (hvars:s.vars=[]) (hres:f.resultTypes=#[tb]) (htb:Tryz.prog.underlying tb=some .bool)
  (hts:∀ t∈f.params.toList,Tryz.prog.readableRec t=true∧t < Tryz.prog.types.size)
  (hspec:∀ ds:List (DataW H),ds.length=f.params.size→(s.fn H (ds ++ [])).results=[.lit (.bool true)]∧(s.fn H (ds ++ [])).args=ds∧(s.fn H (ds ++ [])).vars=[])
  {W W':World} {args:Array Value} {ds gs:List (DataW H)} {before:List MemPlace} (hW:DataW.Whole enc Tryz.prog f.params.toList s.vars false W args.toList ds gs before) (hb:Below W.heap.size W W') :
  s.post enc Tryz.prog f false true false false W args (.bool true) W':=by
 have hlt:∀ x∈before,x.block < W.heap.size:=fun x hx=>by simpa using hW.lt x hx
 have hW':=hW
 obtain ⟨p,q,hA,hV,hpq,hfz,hnd⟩:=hW
 rw [hvars] at hV
 obtain ⟨rfl,rfl⟩:=trodVars_none hV
 rw [List.append_nil] at hpq
 subst hpq
 have hlen:ds.length=f.params.size:=by
  have:∀ (ts:List TypeId) (vs:List Value) (ds:List (DataW H)) (ps:List MemPlace),DataW.TrodAll enc Tryz.prog W 0 (fun _=>true) true ts vs ds ps→ds.length=ts.length:=by
   intro ts
   induction ts with
   | nil=>
    intro vs ds ps h
    cases vs <;> cases ds <;> simp [DataW.TrodAll] at h ⊢
   | cons t ts ih=>
    intro vs ds ps h
    cases vs <;> cases ds <;> simp [DataW.TrodAll] at h ⊢
    obtain ⟨_,_,_,h2,_⟩:=h
    exact ih _ _ _ h2
  simpa using this _ _ _ _ hA
 obtain ⟨e1,e2,e3⟩:=hspec ds hlen
 refine ⟨ds,[],before,[],before,[],hW',?_,?_,?_,hb.frame _,fun h=>by cases h⟩
 ·rw [e1,hres]
  exact trodAll_mk1 (shut_bool htb true)
 ·rw [e2]
  exact below_all laidOut hb _ _ _ _ hts hlt hA
 ·rw [e3,hvars]
  exact rfl
theorem nat_of_u16 {z:Int} (h:(Lit.int .u16 z).wf=true):∃ n:Nat,z=(n:Int)∧n < 65536:=by
 have hb:0≤z∧z≤65535:=by simpa [Lit.wf,IntKind.min,IntKind.max,IntKind.signed,IntKind.bits] using h
 exact ⟨z.toNat,by omega,by omega⟩
theorem nat_of_u32 {z:Int} (h:(Lit.int .u32 z).wf=true):∃ n:Nat,z=(n:Int)∧n < 4294967296:=by
 have hb:0≤z∧z≤4294967295:=by simpa [Lit.wf,IntKind.min,IntKind.max,IntKind.signed,IntKind.bits] using h
 exact ⟨z.toNat,by omega,by omega⟩
theorem nat_of_u8 {z:Int} (h:(Lit.int .u8 z).wf=true):∃ n:Nat,z=(n:Int)∧n < 256:=by
 have hb:0≤z∧z≤255:=by simpa [Lit.wf,IntKind.min,IntKind.max,IntKind.signed,IntKind.bits] using h
 exact ⟨z.toNat,by omega,by omega⟩
end LawKit
namespace Rot
open Go.RowKit Go.ChangeShapes Go.WideShapes Go.Deep
open Dev (putCells pendCells putCells_length pendCells_get)
structure PutsAt (W:World) (b off:Nat) (xs:List (Nat×List UInt8)):Prop where
 old:b < W.heap.size
 at_:∀ i (hi:i < xs.length),W.rangeAt b (off+i * 257) (putCells xs[i])
def Puts (W:World) (pa:Option Addr) (xs:List (Nat×List UInt8)):Prop:=
 (∀ x∈xs,x.1 < 4294967296∧x.2.length=256)∧(xs=[]∨∃ b off,pa=some ⟨b,off,none⟩∧PutsAt W b off xs)
section
variable {H:Type} {enc:TypeId×Value→H} {W:World} {base:Nat} {sp:Nat→Bool} {held:Bool}
end
end Rot
namespace Dev
open Go.RowKit RowLaw
def KeepsAt (W:World) (b off:Nat) (xs:List (Nat×Nat)):Prop:=∀ i (hi:i < xs.length),W.cell? ⟨b,off+i * 2,none⟩=some (.int .u16 (xs[i].1:Int))∧W.cell? ⟨b,off+i * 2+1,none⟩=some (.int .u8 (xs[i].2:Int))∧xs[i].1 < 65536∧xs[i].2 < 256
def Keeps (W:World) (pa:Option Addr) (xs:List (Nat×Nat)):Prop:=xs=[]∨∃ b off,pa=some ⟨b,off,none⟩∧b < W.heap.size∧KeepsAt W b off xs
def Off (pa:Option Addr) (B:List Nat):Prop:=∀ a,pa=some a→a.block∉B
theorem Keeps.turn {W W':World} {pa:Option Addr} {xs:List (Nat×Nat)} {B:List Nat} (h:Keeps W pa xs) (ht:Turn B W W') (ho:xs≠[]→Off pa B):Keeps W' pa xs:=by
 by_cases hne:xs=[]
 ·exact .inl hne
 rcases h with rfl | ⟨b,off,rfl,hb,hc⟩
 ·exact .inl rfl
 ·refine .inr ⟨b,off,rfl,Nat.lt_of_lt_of_le hb ht.size,fun i hi=>?_⟩
  obtain ⟨h1,h2,h3⟩:=hc i hi
  exact ⟨(ht.cell (q:=⟨b,off+i * 2,none⟩) hb (ho hne ⟨b,off,none⟩ rfl)).trans h1,(ht.cell (q:=⟨b,off+i * 2+1,none⟩) hb (ho hne ⟨b,off,none⟩ rfl)).trans h2,h3⟩
end Dev
namespace Dev
open Go.RowKit RowLaw
def fullB (c:UInt8):List UInt8:=List.replicate 256 c
end Dev
namespace Dev
open Go.RowKit RowLaw
def Live (w:World) (p:Nat) (s:DS) (K:List (Nat×Obj)) (W:World):Prop:=
 ∃ B,Dev W p B s∧(∀ k∈B,w.heap.size≤k)∧Below w.heap.size w W∧∀ x∈K,W.heap[x.1]? = some x.2∧x.1∉B∧x.1 < W.heap.size
section
variable {w W:World} {p:Nat} {s:DS} {K:List (Nat×Obj)}
theorem Live.at_ (h:Live w p s K W) {q:Nat} {o:Obj} (hq:(q,o)∈K):W.heap[q]? = some o:=by obtain ⟨_,_,_,_,h⟩:=h; exact (h _ hq).1
theorem Live.lt_ (h:Live w p s K W) {q:Nat} {o:Obj} (hq:(q,o)∈K):q < W.heap.size:=by obtain ⟨_,_,_,_,h⟩:=h; exact (h _ hq).2.2
theorem Live.less (h:Live w p s K W) {K':List (Nat×Obj)} (hk:∀ x∈K',x∈K):Live w p s K' W:=by
 obtain ⟨B,h1,h2,h3,h4⟩:=h
 exact ⟨B,h1,h2,h3,fun x hx=>h4 x (hk x hx)⟩
end
end Dev
namespace Dev
open Go.RowKit RowLaw
def gZ:Nat→List UInt8:=fun _=>zeros
def bA:List UInt8:=fullB 97
def bB:List UInt8:=fullB 98
def bM:List UInt8:=keepB bA bB 9
def t1:DS:=⟨64,gZ,[(5,bA)],-1,false,1⟩
def t2:DS:=⟨64,upd gZ 5 bA,[],-1,false,2⟩
def t3:DS:=⟨64,upd gZ 5 bA,[(5,bB)],-1,false,3⟩
def t4:DS:=⟨64,upd (upd gZ 5 bA) 5 bM,[],-1,false,3⟩
section
variable {w W:World} {p:Nat} {s:DS} {K:List (Nat×Obj)}
end
end Dev
namespace Dev
open Go.RowKit Go.ChangeShapes Go.WideShapes Go.Deep
section
variable {H:Type} {enc:TypeId×Value→H} {W:World} {base:Nat} {sp:Nat→Bool} {held:Bool}
structure Ac where
 what:Nat
 a:Nat
 c:UInt8
 pa:Option Addr
 cap:Nat
 keep:List (Nat×Nat)
 z:Int
instance:Inhabited Ac:=⟨⟨0,0,0,none,0,[],0⟩⟩
def Ac.val (x:Ac):List Value:=[.int .u8 (x.what:Int),.int .u32 (x.a:Int),.int .u8 (x.c.toNat:Int),.slice x.pa x.keep.length x.cap,.int .i64 x.z]
structure AcOk (W:World) (x:Ac):Prop where
 what:x.what < 256
 a:x.a < 4294967296
 len:x.keep.length≤maxLen
 keep:Keeps W x.pa x.keep
 old:x.keep≠[]→∀ q,x.pa=some q→q.block < W.heap.size
 z: -9223372036854775808≤x.z∧x.z < 9223372036854775808
def ActsAt (W:World) (b off:Nat) (xs:List Ac):Prop:=∀ i (hi:i < xs.length),W.rangeAt b (off+i * 5) xs[i].val
def Acts (W:World) (pa:Option Addr) (xs:List Ac):Prop:=(∀ x∈xs,AcOk W x)∧(xs=[]∨∃ b off,pa=some ⟨b,off,none⟩∧b < W.heap.size∧ActsAt W b off xs)
end
end Dev
namespace Dev
open Go.RowKit RowLaw
end Dev
namespace Dev
open Go.RowKit RowLaw
def hit (ks:List (Nat×Nat)) (i j:Nat):Bool:=ks.any fun k=>k.1 == i&&k.2.testBit (j / 64)
end Dev
namespace Dev
open Go.RowKit RowLaw
def boolCells (f:Nat→Bool):Array Value:=((List.range 64).map fun j=>Value.bool (f j)).toArray
def fset (f:Nat→Bool) (a:Nat):Nat→Bool:=fun x=>if x=a then true else f x
theorem boolCells_get (f:Nat→Bool) {a:Nat} (ha:a < 64):(boolCells f)[a]? = some (.bool (f a)):=by simp [boolCells,ha]
theorem boolCells_set (f:Nat→Bool) (a:Nat):(boolCells f).setIfInBounds a (.bool true)=boolCells (fset f a):=by
 apply Array.ext_getElem?
 intro j
 rw [Array.getElem?_setIfInBounds]
 by_cases hj:a=j
 ·subst hj
  rw [if_pos rfl]
  by_cases h:a < 64
  ·rw [if_pos (by simp [boolCells,h]),boolCells_get _ h]; simp [fset]
  ·rw [if_neg (by simp [boolCells,h]),Array.getElem?_eq_none (by simp [boolCells]; omega)]
 ·rw [if_neg hj]
  by_cases h:j < 64
  ·rw [boolCells_get _ h,boolCells_get _ h,fset,if_neg (fun e=>hj e.symm)]
  ·rw [Array.getElem?_eq_none (by simp [boolCells]; omega),Array.getElem?_eq_none (by simp [boolCells]; omega)]
section
variable {w W:World} {p:Nat} {s:DS} {K:List (Nat×Obj)}
theorem Live.setK {q:Nat} {cs:Array Value} {T:TypeId} (h:Live w p s [(q,.cells cs T)] W) (hq:w.heap.size≤q) (j:Nat) (v:Value):Live w p s [(q,.cells (cs.setIfInBounds j v) T)] (W.setCell ⟨q,j,none⟩ v):=by
 obtain ⟨B,h1,h2,h3,h4⟩:=h
 obtain ⟨k1,k2,k3⟩:=h4 (q,.cells cs T) (by simp)
 have ht:Turn [q] W (W.setCell ⟨q,j,none⟩ v):=(Turn.refl _ _).setCell _ _ (.inl (by simp))
 refine ⟨B,h1.turn ht (fun k hk hm=>by simp only [List.mem_singleton] at hm; subst hm; exact k2 hk),h2,h3.setCell (p:=⟨q,j,none⟩) hq v,fun x hx=>?_⟩
 simp only [List.mem_singleton] at hx
 subst hx
 exact ⟨heap_setCell_same W q j _ _ v k1,k2,by simpa [World.setCell] using k3⟩
end
structure AP (f:Nat→Bool) (i:Nat) (s:DS):Prop where
 n:s.n=64
 g:s.g=gZ
 left:s.left = -1
 down:s.down=false
 len:s.pend.length≤i
 dist:s.pend.Pairwise (fun x y=>x.1≠y.1)
 seen:∀ a,a < 64→(f a=true↔∃ y∈s.pend,y.1=a)
 addr:∀ y∈s.pend,y.1 < 64∧y.2.length=256
def LiveA (w:World) (p sb:Nat) (f:Nat→Bool) (i:Nat) (W:World):Prop:=∃ s,AP f i s∧Live w p s [(sb,.cells (boolCells f) 4)] W
def LiveB (w:World) (p sb:Nat) (f:Nat→Bool) (a i:Nat) (W:World):Prop:=∃ s,AP (fset f a) i s∧Live w p s [(sb,.cells (boolCells f) 4)] W
theorem LiveB.set {w W:World} {p sb i:Nat} {f:Nat→Bool} {a:Nat} (h:LiveB w p sb f a i W) (hs:w.heap.size≤sb):LiveA w p sb (fset f a) i (W.setCell ⟨sb,a,none⟩ (.bool true)):=by
 obtain ⟨s,h1,h2⟩:=h
 refine ⟨s,h1,?_⟩
 rw [←boolCells_set]
 exact h2.setK hs a _
theorem below_own {W W1:World} {base:Nat} {e:TypeId} {size n:Nat} {v:Value} {xs:List Value} (h:W.ownsRow base e size v n xs) (hg:W.grownBy W1 v.ownBlock) (hb:base≤W.heap.size):Below base W W1:=
 ⟨hg.os,hg.tape,hg.output,hg.size,fun k hk=>hg.block k (by omega) (fun e2=>by
  rcases h.2 with ⟨rfl,_⟩ | ⟨g,cap,cur,rfl,h5,_⟩
  ·cases e2
  ·cases e2; have hk':g < base:=hk; omega)⟩
theorem new_cells (W:World) (cs:List Value) (T:TypeId):∀ j u,cs[j]? = some u→(W.alloc (.cells cs.toArray T)).cell? (Addr.add ⟨W.heap.size,0,none⟩ j)=some u:=fun j u hj=>by
 rw [Addr.add_mid,Nat.zero_add,cell_of_row _ W.heap.size j _ _ _ (heap_alloc_new W _)]
 simpa using hj
def Two (w:World) (p:Nat) (s1:DS) (q:Nat) (s2:DS) (K:List (Nat×Obj)) (W:World):Prop:=(∃ B,Dev W p B s1)∧(∃ C,Dev W q C s2)∧Below w.heap.size w W∧∀ x∈K,W.heap[x.1]? = some x.2
section
variable {w W W':World} {p q:Nat} {s1 s2:DS} {K:List (Nat×Obj)}
theorem Two.at_ (h:Two w p s1 q s2 K W) {k:Nat} {o:Obj} (hk:(k,o)∈K):W.heap[k]? = some o:=h.2.2.2 _ hk
theorem Two.less (h:Two w p s1 q s2 K W) {K':List (Nat×Obj)} (hk:∀ x∈K',x∈K):Two w p s1 q s2 K' W:=⟨h.1,h.2.1,h.2.2.1,fun x hx=>h.2.2.2 x (hk x hx)⟩
end
end Dev
namespace Dev
open Go.RowKit RowLaw
def Many (w:World) (l:List (Nat×DS)) (K:List (Nat×Obj)) (W:World):Prop:=
 Below w.heap.size w W∧∃ f:Nat→List Nat,
  (∀ i p s,l[i]? = some (p,s)→Dev W p (f i) s∧∀ k∈f i,w.heap.size≤k)∧
  (∀ i j,i < l.length→j < l.length→i≠j→∀ k∈f i,k∉f j)∧
  (∀ x∈K,W.heap[x.1]? = some x.2∧∀ i,i < l.length→x.1∉f i)
section
variable {w W W':World} {l:List (Nat×DS)} {K:List (Nat×Obj)}
theorem Many.at_ (h:Many w l K W) {q:Nat} {o:Obj} (hq:(q,o)∈K):W.heap[q]? = some o:=by obtain ⟨_,f,_,_,h4⟩:=h; exact (h4 _ hq).1
theorem Many.less (h:Many w l K W) {K':List (Nat×Obj)} (hk:∀ x∈K',x∈K):Many w l K' W:=by
 obtain ⟨h1,f,h2,h3,h4⟩:=h
 exact ⟨h1,f,h2,h3,fun x hx=>h4 x (hk x hx)⟩
end
end Dev
namespace Dev
open Go.RowKit RowLaw
def Box (w:World) (B:List Nat) (p:Nat) (s:DS) (K:List (Nat×Obj)) (W:World):Prop:=
 ∃ C,Dev W p C s∧Step B w W C∧∀ x∈K,w.heap.size≤x.1∧W.heap[x.1]? = some x.2∧x.1∉C
section
variable {w W W':World} {B:List Nat} {p:Nat} {s:DS} {K:List (Nat×Obj)}
theorem Box.start (h:Dev w p B s):Box w B p s [] w:=⟨B,h,Step.refl _ _,fun _ h=>by cases h⟩
theorem Box.out (h:Box w B p s K W):∃ C,Dev W p C s∧Step B w W C:=by obtain ⟨C,h1,h2,_⟩:=h; exact ⟨C,h1,h2⟩
theorem Box.at_ (h:Box w B p s K W) {q:Nat} {o:Obj} (hq:(q,o)∈K):W.heap[q]? = some o:=by obtain ⟨_,_,_,h⟩:=h; exact (h _ hq).2.1
theorem Box.lt_ (h:Box w B p s K W) {q:Nat} {o:Obj} (hq:(q,o)∈K):q < W.heap.size:=(Array.getElem?_eq_some_iff.1 (h.at_ hq)).1
theorem Box.less (h:Box w B p s K W) {K':List (Nat×Obj)} (hk:∀ x∈K',x∈K):Box w B p s K' W:=by
 obtain ⟨C,h1,h2,h3⟩:=h
 exact ⟨C,h1,h2,fun x hx=>h3 x (hk x hx)⟩
theorem Box.size (h:Box w B p s K W):w.heap.size≤W.heap.size:=by obtain ⟨_,_,h,_⟩:=h; exact h.turn.size
theorem Box.below (h:Box w B p s K W) (hb:Below W.heap.size W W'):Box w B p s K W':=by
 obtain ⟨C,h1,h2,h3⟩:=h
 exact ⟨C,h1.below hb,h2.trans (Step.of_turn (Turn.of_below hb)),fun x hx=>⟨(h3 x hx).1,(hb.block _ (Array.getElem?_eq_some_iff.1 (h3 x hx).2.1).1).trans (h3 x hx).2.1,(h3 x hx).2.2⟩⟩
theorem Box.more (h: Box w B p s K W) (hb: Below W.heap.size W W') {g: Nat} {o: Obj} (hg: W.heap.size≤g) (ho: W'.heap[g]? = some o): Box w B p s ((g,o)::K) W':=by
 obtain ⟨C,h1,h2,h3⟩:=h
 have hlt:=h1.ltB
 have hsz:=h2.turn.size
 refine ⟨C,h1.below hb,h2.trans (Step.of_turn (Turn.of_below hb)),fun x hx=>?_⟩
 rcases List.mem_cons.1 hx with rfl | hx
 ·exact ⟨Nat.le_trans hsz hg,ho,fun hm=>by have:=hlt _ hm; omega⟩
 ·exact ⟨(h3 x hx).1,(hb.block _ (Array.getElem?_eq_some_iff.1 (h3 x hx).2.1).1).trans (h3 x hx).2.1,(h3 x hx).2.2⟩
theorem Box.alloc (h: Box w B p s K W) (o: Obj): Box w B p s ((W.heap.size,o)::K) (W.alloc o):=h.more ((Below.refl _ _).alloc (Nat.le_refl _) o) (Nat.le_refl _) (heap_alloc_new W o)
theorem Box.drew (h:Box w B p s K W):Box w B p s K W.drew:=h.below ⟨rfl,rfl,rfl,Nat.le_refl _,fun _ _=>rfl⟩
theorem Box.old (h:Box w B p s K W) {b:Nat} (hb:b < w.heap.size) (hn:b∉B):W.heap[b]? = w.heap[b]?:=by
 obtain ⟨C,_,h2,_⟩:=h
 exact h2.turn.block b hb hn
theorem Box.act {s':DS} {f:FuncId} {args:Array Value} {R:Ending→Prop} (h:Box w B p s K W)
  (hc:∀ C,Dev W p C s→(∀ x∈K,x.1∉C)→(∀ k∈C,k∈B∨w.heap.size≤k)→Calls Tryz.prog f args W fun e W'=>R e∧∃ D,Dev W' p D s'∧Step C W W' D) :
  Calls Tryz.prog f args W fun e W'=>R e∧Box w B p s' K W':=by
 obtain ⟨C,h1,h2,h3⟩:=h
 refine (hc C h1 (fun x hx=>(h3 x hx).2.2) h2.sub).mono fun e W' ⟨he,D,hd,hs⟩=>⟨he,D,hd,h2.trans hs,fun x hx=>?_⟩
 have hlt:=(Array.getElem?_eq_some_iff.1 (h3 x hx).2.1).1
 exact ⟨(h3 x hx).1,(hs.turn.block _ hlt (h3 x hx).2.2).trans (h3 x hx).2.1,hs.notIn hlt (h3 x hx).2.2⟩
theorem Box.put {q: Nat} {o o': Obj} (h: Box w B p s ((q,o)::K) W) (hne: ∀ x∈K,x.1≠q) (hq: W'.heap[q]? = some o') (hs: W'.os=W.os) (ht: W'.tape=W.tape) (hp: W'.output=W.output) (hz: W.heap.size≤W'.heap.size)
  (hb: ∀ k,k≠q→W'.heap[k]? = W.heap[k]?): Box w B p s ((q,o')::K) W':=by
 obtain ⟨C,h1,h2,h3⟩:=h
 have h0:=h3 _ List.mem_cons_self
 have htn:Turn [q] W W':=⟨hs,ht,hp,hz,fun k _ hk=>hb k (by simpa using hk)⟩
 refine ⟨C,h1.turn htn (fun k hk hm=>?_),⟨⟨hs.trans h2.turn.os,ht.trans h2.turn.tape,hp.trans h2.turn.output,Nat.le_trans h2.turn.size hz,fun k hk hn=>(hb k (by have:=h0.1; omega)).trans (h2.turn.block k hk hn)⟩,h2.sub⟩,fun x hx=>?_⟩
 ·simp only [List.mem_singleton] at hm
  exact h0.2.2 (hm ▸ hk)
 ·rcases List.mem_cons.1 hx with rfl | hx
  ·exact ⟨h0.1,hq,h0.2.2⟩
  ·have h4:=h3 x (List.mem_cons_of_mem _ hx)
   exact ⟨h4.1,(hb _ (hne x hx)).trans h4.2.1,h4.2.2⟩
theorem Box.setCell {q j: Nat} {cs: Array Value} {T: TypeId} {v: Value} (h: Box w B p s ((q,.cells cs T (0,0))::K) W) (hne: ∀ x∈K,x.1≠q): Box w B p s ((q,.cells (cs.setIfInBounds j v) T (0,0))::K) (W.setCell ⟨q,j,none⟩ v):=
 h.put hne (heap_setCell_same W q j _ _ _ (h.at_ List.mem_cons_self)) rfl rfl rfl (by simp [World.setCell]) (fun k hk=>heap_setCell_other W ⟨q,j,none⟩ k v hk)
theorem Box.setRow {q: Nat} {cs cs': Array Value} {T: TypeId} (h: Box w B p s ((q,.cells cs T (0,0))::K) W) (hne: ∀ x∈K,x.1≠q): Box w B p s ((q,.cells cs' T (0,0))::K) (W.setRow q cs'):=
 h.put hne (setRow_heap W q _ _ _ _ (h.at_ List.mem_cons_self)) rfl rfl rfl (by simp) (fun k hk=>setRow_other W q k _ hk)
theorem Box.write (h:Box w B p s K W) {a:Nat} (ha:a < 4294967296) {l:List UInt8} (hl:l.length=256) (hlen:s.pend.length < 4294967295) :
  Calls Tryz.prog 144 #[ptr p,.int .u32 (a:Int),.agg (cellsOf l)] W fun e W'=>e=.returned (.int .i64 (writeE s a))∧Box w B p (writeS s a l) K W':=
 h.act fun _ hd _ _=>(Write_any hd ha hl hlen).mono fun _ _ ⟨he,D,h1,h2⟩=>⟨he,D,h1,h2⟩
theorem Box.flush (h:Box w B p s K W) (hlen:s.pend.length < 4294967296) :
  Calls Tryz.prog 146 #[ptr p] W fun e W'=>e=.returned (.int .i64 (flushE s))∧Box w B p (flushS s) K W':=
 h.act fun _ hd _ _=>(Flush_any hd hlen).mono fun _ _ ⟨he,D,h1,h2⟩=>⟨he,D,h1,h2⟩
end
end Dev

end Go.Proofs.YtgkbfahflngklaaGreat
