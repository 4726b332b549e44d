import Derived.Test.YtgkbfahflngklaaGreatRows
import Derived.ProofKit
import Derived.OpenShut
import Derived.Below
import Derived.Test.YtgkbfahflngklaaGreatDev1
import Derived.Deep.Slices
import Derived.Deep.Fields
import Derived.ChangeSame
import Derived.Test.YtgkbfahflngklaaGreatDev2
import Derived.Deep.QuietTactic
import Derived.BigQuiet
namespace Go.Proofs.YtgkbfahflngklaaGreat.LawKit
open Go.ChangeShapes Go.WideShapes Go.ChangeAt Go.RowKit
open Go.ChangeMaps (open_string)
theorem own:ownKnob Tryz.prog.godebug=none:=by kernel_rfl
theorem laidOut:laidOutB Tryz.prog=true:=by kernel_rfl
section
variable {H:Type} {enc:TypeId×Value→H} {P:Program} {w:World} {base:Nat} {sp:Nat→Bool} {held:Bool}
theorem below_all {W W':World} (hl:laidOutB P=true) (hb:Below W.heap.size W W'):∀ (ts:List TypeId) (vs:List Value) (ds:List (DataW H)) (ps:List MemPlace),(∀ t∈ts,P.readableRec t=true∧t < P.types.size)→
  (∀ x∈ps,x.block < W.heap.size)→DataW.TrodAll enc P W 0 (fun _=>true) true ts vs ds ps→DataW.TrodAll enc P W' 0 (fun b=>decide (b < W.heap.size)) true ts vs ds ps
 | [],[],[],_,_,_,h=>h
 | t :: ts,v :: vs,d :: ds,ps,ht,hp,h=>by
  obtain ⟨p,q,h1,h2,rfl⟩:=h
  have h0:=ht t (by simp)
  exact ⟨p,q,Below.trod hl h0.1 h0.2 h1 hb (fun x hx=>hp x (by simp [hx])),below_all hl hb ts vs ds q (fun t' ht'=>ht t' (by simp [ht'])) (fun x hx=>hp x (by simp [hx])) h2,rfl⟩
 | [],[],_ :: _,_,_,_,h | [],_ :: _,_,_,_,_,h | _ :: _,[],_,_,_,_,h | _ :: _,_ :: _,[],_,_,_,h=>by simp [DataW.TrodAll] at h
end
theorem law_post {H:Type} {enc:TypeId×Value→H} {f:Func} {s:ChangeSpec} {tb:TypeId} (hvars:s.vars=[]) (hres:f.resultTypes=#[tb]) (htb:Tryz.prog.underlying tb=some .bool)
  (hts:∀ t∈f.params.toList,Tryz.prog.readableRec t=true∧t < Tryz.prog.types.size)
  (hspec:∀ ds:List (DataW H),ds.length=f.params.size→(s.fn H (ds ++ [])).results=[.lit (.bool true)]∧(s.fn H (ds ++ [])).args=ds∧(s.fn H (ds ++ [])).vars=[])
  {W W':World} {args:Array Value} {ds gs:List (DataW H)} {before:List MemPlace} (hW:DataW.Whole enc Tryz.prog f.params.toList s.vars false W args.toList ds gs before) (hb:Below W.heap.size W W') :
  s.post enc Tryz.prog f false true false false W args (.bool true) W':=by
 have hlt:∀ x∈before,x.block < W.heap.size:=fun x hx=>by simpa using hW.lt x hx
 have hW':=hW
 obtain ⟨p,q,hA,hV,hpq,hfz,hnd⟩:=hW
 rw [hvars] at hV
 obtain ⟨rfl,rfl⟩:=trodVars_none hV
 rw [List.append_nil] at hpq
 subst hpq
 have hlen:ds.length=f.params.size:=by
  have:∀ (ts:List TypeId) (vs:List Value) (ds:List (DataW H)) (ps:List MemPlace),DataW.TrodAll enc Tryz.prog W 0 (fun _=>true) true ts vs ds ps→ds.length=ts.length:=by
   intro ts
   induction ts with
   | nil=>
    intro vs ds ps h
    cases vs <;> cases ds <;> simp [DataW.TrodAll] at h ⊢
   | cons t ts ih=>
    intro vs ds ps h
    cases vs <;> cases ds <;> simp [DataW.TrodAll] at h ⊢
    obtain ⟨_,_,_,h2,_⟩:=h
    exact ih _ _ _ h2
  simpa using this _ _ _ _ hA
 obtain ⟨e1,e2,e3⟩:=hspec ds hlen
 refine ⟨ds,[],before,[],before,[],hW',?_,?_,?_,hb.frame _,fun h=>by cases h⟩
 ·rw [e1,hres]
  exact trodAll_mk1 (shut_bool htb true)
 ·rw [e2]
  exact below_all laidOut hb _ _ _ _ hts hlt hA
 ·rw [e3,hvars]
  exact rfl
theorem nat_of_u32 {z:Int} (h:(Lit.int .u32 z).wf=true):∃ n:Nat,z=(n:Int)∧n < 4294967296:=by
 have hb:0≤z∧z≤4294967295:=by simpa [Lit.wf,IntKind.min,IntKind.max,IntKind.signed,IntKind.bits] using h
 exact ⟨z.toNat,by omega,by omega⟩
end Go.Proofs.YtgkbfahflngklaaGreat.LawKit
namespace Go.Proofs.YtgkbfahflngklaaGreat.Rot
open Go.RowKit Go.ChangeShapes Go.WideShapes Go.Deep
open Go.Proofs.YtgkbfahflngklaaGreat.Dev (putCells pendCells putCells_length pendCells_get)
set_option maxRecDepth 100000
structure PutsAt (W:World) (b off:Nat) (xs:List (Nat×List UInt8)):Prop where
 old:b < W.heap.size
 at_:∀ i (hi:i < xs.length),W.rangeAt b (off+i * 257) (putCells xs[i])
def Puts (W:World) (pa:Option Addr) (xs:List (Nat×List UInt8)):Prop:=
 (∀ x∈xs,x.1 < 4294967296∧x.2.length=256)∧(xs=[]∨∃ b off,pa=some ⟨b,off,none⟩∧PutsAt W b off xs)
section
variable {H:Type} {enc:TypeId×Value→H} {W:World} {base:Nat} {sp:Nat→Bool} {held:Bool}
end
end Go.Proofs.YtgkbfahflngklaaGreat.Rot
namespace Go.Proofs.YtgkbfahflngklaaGreat.Dev
open Go.RowKit RowLaw
set_option maxRecDepth 100000
def KeepsAt (W:World) (b off:Nat) (xs:List (Nat×Nat)):Prop:=∀ i (hi:i < xs.length),W.cell? ⟨b,off+i * 2,none⟩=some (.int .u16 (xs[i].1:Int))∧W.cell? ⟨b,off+i * 2+1,none⟩=some (.int .u8 (xs[i].2:Int))∧xs[i].1 < 65536∧xs[i].2 < 256
def Keeps (W:World) (pa:Option Addr) (xs:List (Nat×Nat)):Prop:=xs=[]∨∃ b off,pa=some ⟨b,off,none⟩∧b < W.heap.size∧KeepsAt W b off xs
def Off (pa:Option Addr) (B:List Nat):Prop:=∀ a,pa=some a→a.block∉B
theorem Keeps.turn {W W':World} {pa:Option Addr} {xs:List (Nat×Nat)} {B:List Nat} (h:Keeps W pa xs) (ht:Turn B W W') (ho:xs≠[]→Off pa B):Keeps W' pa xs:=by
 by_cases hne:xs=[]
 ·exact .inl hne
 rcases h with rfl | ⟨b,off,rfl,hb,hc⟩
 ·exact .inl rfl
 ·refine .inr ⟨b,off,rfl,Nat.lt_of_lt_of_le hb ht.size,fun i hi=>?_⟩
  obtain ⟨h1,h2,h3⟩:=hc i hi
  exact ⟨(ht.cell (q:=⟨b,off+i * 2,none⟩) hb (ho hne ⟨b,off,none⟩ rfl)).trans h1,(ht.cell (q:=⟨b,off+i * 2+1,none⟩) hb (ho hne ⟨b,off,none⟩ rfl)).trans h2,h3⟩
end Go.Proofs.YtgkbfahflngklaaGreat.Dev
namespace Go.Proofs.YtgkbfahflngklaaGreat.Dev
open Go.RowKit RowLaw
set_option maxRecDepth 100000
def fullB (c:UInt8):List UInt8:=List.replicate 256 c
end Go.Proofs.YtgkbfahflngklaaGreat.Dev
namespace Go.Proofs.YtgkbfahflngklaaGreat.Dev
open Go.RowKit RowLaw
set_option maxRecDepth 100000
def Live (w:World) (p:Nat) (s:DS) (K:List (Nat×Obj)) (W:World):Prop:=
 ∃ B,Dev W p B s∧(∀ k∈B,w.heap.size≤k)∧Below w.heap.size w W∧∀ x∈K,W.heap[x.1]? = some x.2∧x.1∉B∧x.1 < W.heap.size
section
variable {w W:World} {p:Nat} {s:DS} {K:List (Nat×Obj)}
theorem Live.at_ (h:Live w p s K W) {q:Nat} {o:Obj} (hq:(q,o)∈K):W.heap[q]? = some o:=by obtain ⟨_,_,_,_,h⟩:=h; exact (h _ hq).1
theorem Live.lt_ (h:Live w p s K W) {q:Nat} {o:Obj} (hq:(q,o)∈K):q < W.heap.size:=by obtain ⟨_,_,_,_,h⟩:=h; exact (h _ hq).2.2
end
end Go.Proofs.YtgkbfahflngklaaGreat.Dev
namespace Go.Proofs.YtgkbfahflngklaaGreat.Dev
open Go.RowKit RowLaw
set_option maxRecDepth 100000
def gZ:Nat→List UInt8:=fun _=>zeros
def bA:List UInt8:=fullB 97
def bB:List UInt8:=fullB 98
def bM:List UInt8:=keepB bA bB 9
def t1:DS:=⟨64,gZ,[(5,bA)],-1,false,1⟩
def t2:DS:=⟨64,upd gZ 5 bA,[],-1,false,2⟩
def t3:DS:=⟨64,upd gZ 5 bA,[(5,bB)],-1,false,3⟩
def t4:DS:=⟨64,upd (upd gZ 5 bA) 5 bM,[],-1,false,3⟩
section
variable {w W:World} {p:Nat} {s:DS} {K:List (Nat×Obj)}
end
end Go.Proofs.YtgkbfahflngklaaGreat.Dev
namespace Go.Proofs.YtgkbfahflngklaaGreat.Dev
open Go.RowKit Go.ChangeShapes Go.WideShapes Go.Deep
set_option maxRecDepth 100000
section
variable {H:Type} {enc:TypeId×Value→H} {W:World} {base:Nat} {sp:Nat→Bool} {held:Bool}
structure Ac where
 what:Nat
 a:Nat
 c:UInt8
 pa:Option Addr
 cap:Nat
 keep:List (Nat×Nat)
 z:Int
instance:Inhabited Ac:=⟨⟨0,0,0,none,0,[],0⟩⟩
def Ac.val (x:Ac):List Value:=[.int .u8 (x.what:Int),.int .u32 (x.a:Int),.int .u8 (x.c.toNat:Int),.slice x.pa x.keep.length x.cap,.int .i64 x.z]
end
end Go.Proofs.YtgkbfahflngklaaGreat.Dev
namespace Go.Proofs.YtgkbfahflngklaaGreat.Dev
open Go.RowKit RowLaw
set_option maxRecDepth 100000
end Go.Proofs.YtgkbfahflngklaaGreat.Dev
