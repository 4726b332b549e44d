import Derived.Test.YtgkbfahflngklaaGreatSpcU1
import Derived.Test.YtgkbfahflngklaaGreatCntG
namespace Go.Proofs.YtgkbfahflngklaaGreat.Spc
open Go.RowKit RowLaw
open Go.Proofs.YtgkbfahflngklaaGreat.Dev (ptr DS)
open Go.Proofs.YtgkbfahflngklaaGreat.Cnt (own_slice own_kept own_base own_ne Thing Hall)
open Go.Proofs.YtgkbfahflngklaaGreat.Slt (Rt cells)
set_option maxRecDepth 100000
variable {A:Nat→Prop}
def inK (K:List (Nat×Obj)) (b:Nat):Prop:=∃ o,(b,o)∈K
def inN (K:List (Nat×Obj)) (B b:Nat):Prop:=inK K b∨B≤b
theorem inN_new (K:List (Nat×Obj)) (B:Nat):∀ b,B≤b→inN K B b:=fun _ h=>.inr h
theorem PutsV.mono {A':Nat→Prop} {W:World} {v:Value} {n:Nat} {xs:List (Nat×List UInt8)} (h:PutsV A W v n xs) (ha:∀ b,A b→A' b):PutsV A' W v n xs:=⟨h.len,h.row,h.ok,fun b e=>ha b (h.own b e)⟩
theorem SetsV.mono {A':Nat→Prop} {W:World} {v:Value} {n:Nat} {xs:List (Nat×Nat)} (h:SetsV A W v n xs) (ha:∀ b,A b→A' b):SetsV A' W v n xs:=⟨h.len,h.row,h.ok,fun b e=>ha b (h.own b e)⟩
theorem RD.mono {A':Nat→Prop} {W:World} {v:Value} {x:RS} (h:RD A W v x) (ha:∀ b,A b→A' b):RD A' W v x:=by
 obtain ⟨⟨vg,vw,e,h1,h2⟩,h3,h4,h5⟩:=h
 exact ⟨⟨vg,vw,e,h1.mono ha,h2.mono ha⟩,h3,h4,h5⟩
theorem DT.mono {A':Nat→Prop} {W:World} {v:Value} {x:RS} {r:Rt} {L:List (Nat×Nat)} (h:DT A W v x r L) (ha:∀ b,A b→A' b):DT A' W v x r L:=by
 obtain ⟨vg,vw,vl,e,h1,h2⟩:=h
 exact ⟨⟨vg,vw,vl,e,h1.mono ha,h2.mono ha⟩⟩
theorem QT.mono {A':Nat→Prop} {W:World} {v:Value} {x:RS} {r:Rt} {L:List (Nat×Nat)} {had hint first:Nat} {taken gone:Int} (h:QT A W v x r L had hint first taken gone) (ha:∀ b,A b→A' b):QT A' W v x r L had hint first taken gone:=by
 obtain ⟨vg,vw,vl,e,h1,h2⟩:=h
 exact ⟨⟨vg,vw,vl,e,h1.mono ha,h2.mono ha⟩⟩
theorem PutsV.over {W W':World} {v:Value} {n:Nat} {xs:List (Nat×List UInt8)} (h:PutsV A W v n xs) (hh:∀ b,A b→W'.heap[b]? = W.heap[b]?):PutsV A W' v n xs:=⟨h.len,Dev.ownsRow_block h.row (fun b hb=>hh b (h.own b hb)),h.ok,h.own⟩
theorem SetsV.over {W W':World} {v:Value} {n:Nat} {xs:List (Nat×Nat)} (h:SetsV A W v n xs) (hh:∀ b,A b→W'.heap[b]? = W.heap[b]?):SetsV A W' v n xs:=⟨h.len,Dev.ownsRow_block h.row (fun b hb=>hh b (h.own b hb)),h.ok,h.own⟩
theorem RD.over {W W':World} {v:Value} {x:RS} (h:RD A W v x) (hh:∀ b,A b→W'.heap[b]? = W.heap[b]?):RD A W' v x:=by
 obtain ⟨⟨vg,vw,e,h1,h2⟩,h3,h4,h5⟩:=h
 exact ⟨⟨vg,vw,e,h1.over hh,h2.over hh⟩,h3,h4,h5⟩
theorem DT.over {W W':World} {v:Value} {x:RS} {r:Rt} {L:List (Nat×Nat)} (h:DT A W v x r L) (hh:∀ b,A b→W'.heap[b]? = W.heap[b]?):DT A W' v x r L:=by
 obtain ⟨vg,vw,vl,e,h1,h2⟩:=h
 exact ⟨⟨vg,vw,vl,e,h1.over hh,h2.over hh⟩⟩
theorem QT.over {W W':World} {v:Value} {x:RS} {r:Rt} {L:List (Nat×Nat)} {had hint first:Nat} {taken gone:Int} (h:QT A W v x r L had hint first taken gone) (hh:∀ b,A b→W'.heap[b]? = W.heap[b]?):QT A W' v x r L had hint first taken gone:=by
 obtain ⟨vg,vw,vl,e,h1,h2⟩:=h
 exact ⟨⟨vg,vw,vl,e,h1.over hh,h2.over hh⟩⟩
section
variable {w W W':World} {l l':List Thing} {K:List (Nat×Obj)}
theorem Hall.same (h:Hall w l K W) (h':Hall w l' K W'):∀ b,inK K b→W'.heap[b]? = W.heap[b]?:=fun _ ⟨_,hb⟩=>(h'.at_ hb).trans (h.at_ hb).symm
theorem Hall.mores (h:Hall w l K W) (hb:Below W.heap.size W W'):∀ {Ks:List (Nat×Obj)},(∀ y∈Ks,W'.heap[y.1]? = some y.2∧W.heap.size≤y.1)→Hall w l (Ks ++ K) W':=fun {Ks} hK=>by
 obtain ⟨h1,f,h2,h3,h4⟩:=h
 have hlt:∀ i,i < l.length→∀ k∈f i,k < W.heap.size:=fun i hi k hk=>(h2 i l[i] (List.getElem?_eq_getElem hi)).1.ltB k hk
 refine ⟨h1.trans (hb.mono h1.size),f,fun i x hi=>⟨(h2 i x hi).1.below hb,(h2 i x hi).2⟩,h3,fun x hx=>?_⟩
 rcases List.mem_append.1 hx with hx | hx
 ·exact ⟨(hK x hx).1,fun i hi hm=>by have:=hlt i hi _ hm; have:=(hK x hx).2; omega⟩
 ·exact ⟨(hb.block _ (Array.getElem?_eq_some_iff.1 (h4 x hx).1).1).trans (h4 x hx).1,(h4 x hx).2⟩
theorem row_new {B base:Nat} {e:TypeId} {size n:Nat} {v:Value} {xs:List Value} (hr:W'.ownsRow base e size v n xs) (ho:∀ b,v.ownBlock=some b→inN K B b) :
  ∃ Ks:List (Nat×Obj),(∀ y∈Ks,W'.heap[y.1]? = some y.2∧B≤y.1)∧∀ b,v.ownBlock=some b→inK (Ks ++ K) b:=by
 rcases hr.2 with ⟨rfl,_⟩ | ⟨g,cap,cur,rfl,_,hg,_⟩
 ·exact ⟨[],(fun y hy=>by cases hy),(fun b e=>by cases e)⟩
 ·rcases ho g rfl with ⟨o,h⟩ | h
  ·exact ⟨[],(fun y hy=>by cases hy),(fun b e=>by cases e; exact ⟨o,h⟩)⟩
  ·refine ⟨[(g,.cells cur e (0,0))],fun y hy=>?_,(fun b e=>by cases e; exact ⟨_,List.mem_cons_self⟩)⟩
   simp only [List.mem_singleton] at hy
   subst hy
   exact ⟨hg,h⟩
theorem inK_left {Ks K2:List (Nat×Obj)} {b:Nat} (h:inK (K2 ++ K) b):inK (Ks ++ K2 ++ K) b:=by
 obtain ⟨o,h⟩:=h
 refine ⟨o,?_⟩
 rw [List.append_assoc]
 exact List.mem_append_right _ h
theorem inK_mid {Ks K2:List (Nat×Obj)} {b:Nat} (h:inK (Ks ++ K) b):inK (Ks ++ K2 ++ K) b:=by
 obtain ⟨o,h⟩:=h
 refine ⟨o,?_⟩
 rcases List.mem_append.1 h with h | h
 ·exact List.mem_append_left _ (List.mem_append_left _ h)
 ·exact List.mem_append_right _ h
theorem PutsV.told {B:Nat} {v:Value} {n:Nat} {xs:List (Nat×List UInt8)} (hp:PutsV (inN K B) W' v n xs):∃ Ks:List (Nat×Obj),(∀ y∈Ks,W'.heap[y.1]? = some y.2∧B≤y.1)∧PutsV (inK (Ks ++ K)) W' v n xs:=by
 obtain ⟨Ks,k1,k2⟩:=row_new hp.row hp.own
 exact ⟨Ks,k1,⟨hp.len,hp.row,hp.ok,k2⟩⟩
theorem RD.told {B:Nat} {v:Value} {x:RS} (hp:RD (inN K B) W' v x):∃ Ks:List (Nat×Obj),(∀ y∈Ks,W'.heap[y.1]? = some y.2∧B≤y.1)∧RD (inK (Ks ++ K)) W' v x:=by
 obtain ⟨⟨vg,vw,e,h1,h2⟩,h3,h4,h5⟩:=hp
 obtain ⟨K1,a1,a2⟩:=row_new h1.row h1.own
 obtain ⟨K2,b1,b2⟩:=row_new h2.row h2.own
 refine ⟨K1 ++ K2,(fun y hy=>?_),⟨⟨vg,vw,e,⟨h1.len,h1.row,h1.ok,fun b e=>inK_mid (a2 b e)⟩,⟨h2.len,h2.row,h2.ok,fun b e=>inK_left (b2 b e)⟩⟩,h3,h4,h5⟩⟩
 rcases List.mem_append.1 hy with hy | hy
 ·exact a1 y hy
 ·exact b1 y hy
theorem DT.told {B:Nat} {v:Value} {x:RS} {r:Rt} {L:List (Nat×Nat)} (hp:DT (inN K B) W' v x r L):∃ Ks:List (Nat×Obj),(∀ y∈Ks,W'.heap[y.1]? = some y.2∧B≤y.1)∧DT (inK (Ks ++ K)) W' v x r L:=by
 obtain ⟨vg,vw,vl,e,⟨⟨ug,uw,e2,h1,h2⟩,h3,h4,h5⟩,h6⟩:=hp
 obtain ⟨K1,a1,a2⟩:=row_new h1.row h1.own
 obtain ⟨K2,b1,b2⟩:=row_new h2.row h2.own
 obtain ⟨K3,c1,c2⟩:=row_new h6.row h6.own
 refine ⟨K3 ++ (K1 ++ K2),(fun y hy=>?_),⟨vg,vw,vl,e,⟨⟨ug,uw,e2,⟨h1.len,h1.row,h1.ok,fun b e=>inK_left (inK_mid (a2 b e))⟩,⟨h2.len,h2.row,h2.ok,fun b e=>inK_left (inK_left (b2 b e))⟩⟩,h3,h4,h5⟩,⟨h6.len,h6.row,h6.ok,fun b e=>inK_mid (c2 b e)⟩⟩⟩
 rcases List.mem_append.1 hy with hy | hy
 ·exact c1 y hy
 ·rcases List.mem_append.1 hy with hy | hy
  ·exact a1 y hy
  ·exact b1 y hy
end
end Go.Proofs.YtgkbfahflngklaaGreat.Spc
