import Derived.Test.YtgkbfahflngklaaGreatSpcN3
import Derived.Test.YtgkbfahflngklaaGreatSrtA
import Derived.Deep.CutRange
set_option maxRecDepth 100000
set_option linter.unusedVariables false
namespace Go.Proofs.YtgkbfahflngklaaGreat
namespace Spc
open Go.RowKit RowLaw
open Dev (Dev DS ptr newS yieldsIf_load_row)
open Cnt (own_slice own_kept own_base own_ne Thing Hall TD TOk tdOf tdOf_ok Sound Reads sealL sealCh sortOkFew nodup_len)
open Slt (Rt cells cells_one rootO infoR sizeR)
open Rot (planOk tlN pkN fsN fresh plan_facts planCells planCells_one sizePlan infoPlan refLayout_yes)
abbrev bothC (v0:Value) (n:Nat) (vg vw:Value) (wr:Nat) (r:Rt) (vl:Value) (had hint first:Nat) (taken gone:Int):Array Value:=
 #[v0,.int .u32 (n:Int),vg,vw,.bool false,.int .i64 0,.bool false,.int .u64 (wr:Int),.int .u64 (r.gen:Int),.int .u32 (r.size:Int),.int .u32 (r.picks:Int),.int .u32 (r.names:Int),.int .u32 (r.free:Int),.int .u32 (r.next:Int),.int .u32 (r.hint:Int),.int .u8 (r.vols:Int),vl,
  .int .u32 (had:Int),.int .u32 (hint:Int),.int .u32 (first:Int),.int .i64 taken,.int .i64 gone]
abbrev bothZ:Array Value:=bothC (.pointer none) 0 (.slice none 0 0) (.slice none 0 0) 0 Slt.nil (.slice none 0 0) 0 0 0 0 0
theorem infoBoth:(Tryz.prog.info? 69).map (fun i=>(i.zero,i.size))=some (some (.agg bothZ),22):=by kernel_rfl
theorem sizeBoth (v0:Value) (n:Nat) (vg vw:Value) (wr:Nat) (r:Rt) (vl:Value) (had hint first:Nat) (taken gone:Int):(Tryz.prog.info? 69).map (·.size)=some (bothC v0 n vg vw wr r vl had hint first taken gone).size:=(zero_of_info infoBoth).2
theorem bothC_one (q:Nat) (n wr:Nat) (r:Rt) (had hint first:Nat) (taken gone:Int) {vg vw vl:Value} (h1:vg.oneCell'=true) (h2:vw.oneCell'=true) (h3:vl.oneCell'=true):(bothC (.pointer (some ⟨q,0,none⟩)) n vg vw wr r vl had hint first taken gone).all (·.oneCell')=true:=by
 simp [bothC,Value.oneCell']
 exact ⟨h1,h2,h3⟩
theorem built_both (q:Nat) (n:Nat) (vg vw:Value) (wr:Nat) (r:Rt) (vl:Value) (had hint first:Nat) (taken gone:Int):Tryz.prog.built 69 [(0,.pointer (some ⟨q,0,none⟩)),(1,.agg (qC n vg vw wr r vl had hint first taken gone))]=some (bothC (.pointer (some ⟨q,0,none⟩)) n vg vw wr r vl had hint first taken gone):=by kernel_rfl
theorem wpList_build_both {ops:Array Oper} {rest:List Oper} {o:Oper} {ac:Act} {w:World} {Q:Exit→Act→World→Prop} (hgd:o.guard=none) (x0 x1:Operand) (ho:o.op=.build 69 #[(0,x0),(1,x1)]) (q:Nat) (n:Nat) (vg vw:Value) (wr:Nat) (r:Rt) (vl:Value) (had hint first:Nat) (taken gone:Int)
  (h0: ac.eval x0=.pointer (some ⟨q,0,none⟩)) (h1: ac.eval x1=.agg (qC n vg vw wr r vl had hint first taken gone)) (h: wpList Tryz.prog ops Q rest (ac.put o.dst (.agg (bothC (.pointer (some ⟨q,0,none⟩)) n vg vw wr r vl had hint first taken gone))) w): wpList Tryz.prog ops Q (o::rest) ac w:=by
 refine wpList_plain hgd fun K hK=>?_
 unfold Oper.wp execOp
 simp only [ho,List.map_toArray,List.map_cons,List.map_nil,h0,h1,Sem.run_bind,Sem.run_pure,run_build w _ _ _ (built_both q n vg vw wr r vl had hint first taken gone),Result.andThen_ok]
 exact hK _ _ h
section
variable {A:Nat→Prop} {W:World}
theorem PutsV.off {v:Value} {n:Nat} {xs:List (Nat×List UInt8)} (h:PutsV A W v n xs) {g:Nat} {cs:Array Value} {T:TypeId} (hg:W.heap[g]? = some (.cells cs T (0,0))) (hT:T≠55):PutsV (fun b=>A b∧b≠g) W v n xs:=
 ⟨h.len,h.row,h.ok,fun b e=>⟨h.own b e,fun e'=>own_ne h.row hg hT (by rw [e,e'])⟩⟩
theorem SetsV.off {v:Value} {n:Nat} {xs:List (Nat×Nat)} (h:SetsV A W v n xs) {g:Nat} {cs:Array Value} {T:TypeId} (hg:W.heap[g]? = some (.cells cs T (0,0))) (hT:T≠277):SetsV (fun b=>A b∧b≠g) W v n xs:=
 ⟨h.len,h.row,h.ok,fun b e=>⟨h.own b e,fun e'=>own_ne h.row hg hT (by rw [e,e'])⟩⟩
theorem RD.off {v:Value} {x:RS} (h:RD A W v x) {g:Nat} {cs:Array Value} {T:TypeId} (hg:W.heap[g]? = some (.cells cs T (0,0))) (hT:T≠55):RD (fun b=>A b∧b≠g) W v x:=by
 obtain ⟨⟨vg,vw,e,h1,h2⟩,h3,h4,h5⟩:=h
 exact ⟨⟨vg,vw,e,h1.off hg hT,h2.off hg hT⟩,h3,h4,h5⟩
theorem DT.off {v:Value} {x:RS} {r:Rt} {L:List (Nat×Nat)} (h:DT A W v x r L) {g:Nat} {cs:Array Value} {T:TypeId} (hg:W.heap[g]? = some (.cells cs T (0,0))) (h1:T≠55) (h2:T≠277):DT (fun b=>A b∧b≠g) W v x r L:=by
 obtain ⟨vg,vw,vl,e,h3,h4⟩:=h
 exact ⟨⟨vg,vw,vl,e,h3.off hg h1,h4.off hg h2⟩⟩
theorem rd_size {cs:Array Value} {x:RS} (h:RD A W (.agg cs) x):(Tryz.prog.info? 62).map (·.size)=some cs.size∧cs.all (·.oneCell')=true∧cs.size=7:=by
 have hs:=h
 obtain ⟨⟨vg,vw,e,h1,h2⟩,h3,h4,h5⟩:=h
 injection e with e
 subst e
 exact ⟨sizeRD _ _ _ _,rdC_one _ _ hs.slices.1 hs.slices.2,rfl⟩
theorem RD.agg {v:Value} {x:RS} (h:RD A W v x):∃ cs,v=.agg cs:=by
 obtain ⟨⟨vg,vw,e,h1,h2⟩,h3,h4,h5⟩:=h
 exact ⟨_,e⟩
theorem DT.agg {v:Value} {x:RS} {r:Rt} {L:List (Nat×Nat)} (h:DT A W v x r L):∃ cs,v=.agg cs:=by
 obtain ⟨vg,vw,vl,e,_⟩:=h
 exact ⟨_,e⟩
end
def but (g:Nat) (K:List (Nat×Obj)):List (Nat×Obj):=K.filter fun y=>decide (y.1≠g)
theorem but_mem {g:Nat} {K:List (Nat×Obj)} {y:Nat×Obj}:y∈but g K↔y∈K∧y.1≠g:=by
 unfold but
 rw [List.mem_filter,decide_eq_true_iff]
theorem but_in {g:Nat} {K:List (Nat×Obj)} {b:Nat} (h:inK K b∧b≠g):inK (but g K) b:=by
 obtain ⟨⟨o,h1⟩,h2⟩:=h
 exact ⟨o,but_mem.2 ⟨h1,h2⟩⟩
theorem begun_same {x:RS} {r:Rt} {s:DS} (hS:Sees x r s) (p:Nat):Same9 s r (tdOf p s r.picks) []:=Same9.start (fun q=>(tdOf_ok (d:=0) hS.sound.plan hS.sound.chl).tl q) p
theorem sealD_len {x:RS} {r:Rt} {s:DS} (hS:Sees x r s) (L:List (Nat×Nat)):(sealD s r L).length≤tlN s.n+1:=by
 have h:=nodup_len (tlN s.n) (chP s r L) ((chP_facts s r L).1.imp (fun h=>Nat.ne_of_lt h)) (chP_lt hS L)
 unfold sealD
 rw [List.length_append,List.length_map]
 split
 ·simp only [List.length_nil]; omega
 ·simp only [List.length_cons,List.length_nil]; omega
theorem PutsV.puts {K:List (Nat×Obj)} {W:World} {pv:Option Addr} {n c:Nat} {xs:List (Nat×List UInt8)} (h:PutsV (inK K) W (.slice pv n c) n xs):Rot.Puts W pv xs∧∀ w,Rot.Here w K pv xs:=by
 obtain ⟨pv',cv',hv,hp,_⟩:=Rot.puts_of_row h.len h.row (fun x hx=>⟨(h.ok x hx).2,(h.ok x hx).1⟩)
 cases hv
 exact ⟨hp,fun w _ a ha=>.inr (h.own a.block (by rw [ha]; rfl))⟩
structure Md (w:World) (l:List Thing) (g9 gt gR gq:Nat) (r r0:Rt) (x:RS) (L:List (Nat×Nat)) (cs c8:Array Value) (P:List (Value×List (Nat×List UInt8))) (KL:List (Nat×Obj)) (W:World):Prop where
 hall: Hall w l ((g9,rootO r)::KL) W
 ne:∀ y∈KL,y.1≠g9
 ge:w.heap.size≤g9
 gtm:(gt,Obj.cells cs 65 (0,0))∈KL
 gRm:(gR,Obj.cells bothZ 69 (0,0))∈KL
 gqm:(gq,Obj.cells c8 62 (0,0))∈KL
 dt:DT (inK KL) W (.agg cs) x r0 L
 rd:RD (inK KL) W (.agg c8) x
 pv:∀ y∈P,PutsV (inK KL) W y.1 y.2.length y.2
section
variable {w W W':World} {l l':List Thing} {g9 gt gR gq:Nat} {r r' r0:Rt} {x:RS} {L:List (Nat×Nat)} {cs c8:Array Value} {P:List (Value×List (Nat×List UInt8))} {KL Ks:List (Nat×Obj)}
theorem Md.move (h: Md w l g9 gt gR gq r r0 x L cs c8 P KL W) (h': Hall w l' ((g9,rootO r')::KL) W'): Md w l' g9 gt gR gq r' r0 x L cs c8 P KL W':=by
 have hs:=Hall.same (h.hall.less (K':=KL) (fun y hy=>List.mem_cons_of_mem _ hy)) (h'.less (K':=KL) (fun y hy=>List.mem_cons_of_mem _ hy))
 exact ⟨h',h.ne,h.ge,h.gtm,h.gRm,h.gqm,h.dt.over hs,h.rd.over hs,fun y hy=>(h.pv y hy).over hs⟩
theorem Md.below (h:Md w l g9 gt gR gq r r0 x L cs c8 P KL W) (hb:Below W.heap.size W W'):Md w l g9 gt gR gq r r0 x L cs c8 P KL W':=h.move (h.hall.below hb)
theorem Md.more (h:Md w l g9 gt gR gq r r0 x L cs c8 P KL W) (hb:Below W.heap.size W W') (hK:∀ y∈Ks,W'.heap[y.1]? = some y.2∧W.heap.size≤y.1):Md w l g9 gt gR gq r r0 x L cs c8 P (Ks ++ KL) W':=by
 have h1:=h.below hb
 have hl:∀ y,y∈KL→y∈Ks ++ KL:=fun y hy=>List.mem_append_right _ hy
 have hi:∀ b,inK KL b→inK (Ks ++ KL) b:=fun b ⟨o,hb⟩=>⟨o,hl _ hb⟩
 have hg:=h.hall.lt_ (q:=g9) (o:=rootO r) List.mem_cons_self
 refine ⟨(Hall.mores h.hall hb hK).less (fun y hy=>?_),fun y hy=>?_,h.ge,hl _ h.gtm,hl _ h.gRm,hl _ h.gqm,h1.dt.mono hi,h1.rd.mono hi,fun y hy=>(h1.pv y hy).mono hi⟩
 ·rcases List.mem_cons.1 hy with rfl | hy
  ·exact List.mem_append_right _ List.mem_cons_self
  ·rcases List.mem_append.1 hy with hy | hy
   ·exact List.mem_append_left _ hy
   ·exact List.mem_append_right _ (List.mem_cons_of_mem _ hy)
 ·rcases List.mem_append.1 hy with hy | hy
  ·have:=(hK y hy).2; omega
  ·exact h.ne y hy
theorem Md.alloc (h: Md w l g9 gt gR gq r r0 x L cs c8 P KL W) (o: Obj): Md w l g9 gt gR gq r r0 x L cs c8 P ((W.heap.size,o)::KL) (W.alloc o):=
 h.more (Ks:=[(W.heap.size,o)]) ((Below.refl _ _).alloc (Nat.le_refl _) o) (fun y hy=>by
  simp only [List.mem_singleton] at hy
  subst hy
  exact ⟨heap_alloc_new W o,Nat.le_refl _⟩)
theorem Md.add (h: Md w l g9 gt gR gq r r0 x L cs c8 P KL W) {v: Value} {xs: List (Nat×List UInt8)} {n: Nat} (hp: PutsV (inK KL) W v n xs): Md w l g9 gt gR gq r r0 x L cs c8 ((v,xs)::P) KL W:=
 ⟨h.hall,h.ne,h.ge,h.gtm,h.gRm,h.gqm,h.dt,h.rd,fun y hy=>by
  rcases List.mem_cons.1 hy with rfl | hy
  ·have:=hp.len
   subst this
   exact hp
  ·exact h.pv y hy⟩
theorem Md.put (h:Md w l g9 gt gR gq r r0 x L cs c8 P KL W) {j:Nat} {v:Value} (he:(cells r).setIfInBounds j v=cells r'):Md w l g9 gt gR gq r' r0 x L cs c8 P KL (W.setCell ⟨g9,j,none⟩ v):=
 h.move (by
  have:=Cnt.Hall.setCell (j:=j) (v:=v) h.hall h.ge h.ne
  rw [he] at this
  exact this)
theorem Md.fg {f:Nat} (h:Md w l g9 gt gR gq { r with free:=f } r0 x L cs c8 P KL W):Fg w l KL x r0 r L cs g9 gt f W:=⟨h.hall,h.gtm,h.ne,h.dt⟩
end
theorem Hall.setRowB {w W: World} {l: List Thing} {K: List (Nat×Obj)} {q: Nat} {cs cs2: Array Value} {T: TypeId} (h: Hall w l K W) (hm: (q,Obj.cells cs T (0,0))∈K) (hw: w.heap.size≤q): Hall w l ((q,.cells cs2 T (0,0))::but q K) (W.setRow q cs2):=
 Hall.setRow (h.less (K':=(q,.cells cs T (0,0))::but q K) (fun y hy=>by
  rcases List.mem_cons.1 hy with rfl | hy
  ·exact hm
  ·exact (but_mem.1 hy).1)) hw (fun y hy=>(but_mem.1 hy).2)
theorem Hall.unlike {w W:World} {l:List Thing} {K:List (Nat×Obj)} {g g':Nat} {cs cs':Array Value} {T T':TypeId} (h:Hall w l K W) (h1:(g,Obj.cells cs T (0,0))∈K) (h2:(g',Obj.cells cs' T' (0,0))∈K) (hT:T≠T'):g≠g':=fun e=>by
 have a:=h.at_ h1
 have b:=h.at_ h2
 subst e
 rw [a] at b
 injection b with b
 injection b with _ b
 exact hT b
structure Mf (w:World) (l:List Thing) (g9 gt gR gq gp:Nat) (r:Rt) (x:RS) (cs cq pl:Array Value) (K:List (Nat×Obj)) (W:World):Prop where
 hall:Hall w l K W
 m9:(g9,Obj.cells (cells r) 31 (0,0))∈K
 mt:(gt,Obj.cells cs 65 (0,0))∈K
 mR:(gR,Obj.cells bothZ 69 (0,0))∈K
 mq:(gq,Obj.cells cq 62 (0,0))∈K
 mp:(gp,Obj.cells pl 82 (0,0))∈K
 rd:RD (inK K) W (.agg cq) x
section
variable {w W W':World} {l l':List Thing} {g9 gt gR gq gp:Nat} {r r0:Rt} {x x':RS} {L:List (Nat×Nat)} {cs c8 cq cs' pl:Array Value} {P:List (Value×List (Nat×List UInt8))} {KL K Ks:List (Nat×Obj)}
theorem Md.mf (h:Md w l g9 gt gR gq r r0 x L cs c8 P KL W) (hp:(gp,Obj.cells pl 82 (0,0))∈KL) (hr:RD (inK KL) W (.agg cq) x') (hge:w.heap.size≤gq) :
  Mf w l g9 gt gR gq gp r x' cs cq pl ((gq,.cells cq 62 (0,0))::but gq ((g9,rootO r)::KL)) (W.setRow gq cq):=by
 have hc: ∀ y,y∈KL→y∈(g9,rootO r)::KL:=fun y hy=>List.mem_cons_of_mem _ hy
 have q0:=hc _ h.gqm
 have hs:=Hall.setRowB (cs2:=cq) h.hall q0 hge
 have o:=h.hall.at_ q0
 refine ⟨hs,List.mem_cons_of_mem _ (but_mem.2 ⟨List.mem_cons_self,Hall.unlike h.hall (T:=31) List.mem_cons_self q0 (by decide)⟩),List.mem_cons_of_mem _ (but_mem.2 ⟨hc _ h.gtm,Hall.unlike h.hall (hc _ h.gtm) q0 (by decide)⟩),List.mem_cons_of_mem _ (but_mem.2 ⟨hc _ h.gRm,Hall.unlike h.hall (hc _ h.gRm) q0 (by decide)⟩),List.mem_cons_self,List.mem_cons_of_mem _ (but_mem.2 ⟨hc _ hp,Hall.unlike h.hall (hc _ hp) q0 (by decide)⟩),?_⟩
 refine (((hr.mono (A':=inK ((g9,rootO r)::KL)) (fun b ⟨o,hb⟩=>⟨o,hc _ hb⟩)).off o (by decide)).over (fun b hb=>setRow_other W gq b cq hb.2)).mono (fun b hb=>?_)
 obtain ⟨o,ho⟩:=but_in hb
 exact ⟨o,List.mem_cons_of_mem _ ho⟩
theorem Mf.move (h:Mf w l g9 gt gR gq gp r x cs cq pl K W) (h':Hall w l' K W'):Mf w l' g9 gt gR gq gp r x cs cq pl K W':=
 { h with hall:=h',rd:=h.rd.over (Hall.same h.hall h') }
theorem Mf.more (h:Mf w l g9 gt gR gq gp r x cs cq pl K W) (hb:Below W.heap.size W W') (hK:∀ y∈Ks,W'.heap[y.1]? = some y.2∧W.heap.size≤y.1):Mf w l g9 gt gR gq gp r x cs cq pl (Ks ++ K) W':=
 have hl:∀ y,y∈K→y∈Ks ++ K:=fun y hy=>List.mem_append_right _ hy
 ⟨(Hall.mores h.hall hb hK),hl _ h.m9,hl _ h.mt,hl _ h.mR,hl _ h.mq,hl _ h.mp,(h.rd.kept hb).mono (fun b ⟨o,hb⟩=>⟨o,hl _ hb⟩)⟩
theorem Mf.tab (h:Mf w l g9 gt gR gq gp r x cs cq pl K W) (hge:w.heap.size≤gt) (hd:DT (inK K) W (.agg cs') x r []) :
  Mf w l g9 gt gR gq gp r x cs' cq pl ((gt,.cells cs' 65 (0,0))::but gt K) (W.setRow gt cs')∧DT (inK ((gt,.cells cs' 65 (0,0))::but gt K)) (W.setRow gt cs') (.agg cs') x r []:=by
 have hs:=Hall.setRowB (cs2:=cs') h.hall h.mt hge
 have o:=h.hall.at_ h.mt
 have hm: ∀ b,(inK K b∧b≠gt)→inK ((gt,Obj.cells cs' 65 (0,0))::but gt K) b:=fun b hb=>by
  obtain ⟨o,ho⟩:=but_in hb
  exact ⟨o,List.mem_cons_of_mem _ ho⟩
 exact ⟨⟨hs,List.mem_cons_of_mem _ (but_mem.2 ⟨h.m9,Hall.unlike h.hall h.m9 h.mt (by decide)⟩),List.mem_cons_self,List.mem_cons_of_mem _ (but_mem.2 ⟨h.mR,Hall.unlike h.hall h.mR h.mt (by decide)⟩),List.mem_cons_of_mem _ (but_mem.2 ⟨h.mq,Hall.unlike h.hall h.mq h.mt (by decide)⟩),List.mem_cons_of_mem _ (but_mem.2 ⟨h.mp,Hall.unlike h.hall h.mp h.mt (by decide)⟩),
  ((h.rd.off o (by decide)).over (fun b hb=>setRow_other W gt b cs' hb.2)).mono hm⟩,((hd.off o (by decide) (by decide)).over (fun b hb=>setRow_other W gt b cs' hb.2)).mono hm⟩
end
section
variable {w W W':World} {l:List Thing} {K Ks:List (Nat×Obj)} {i j q t bx:Nat} {T:TD} {s:DS} {f r:Int} {h:Nat}
theorem Rm.more (x:Rm w l K i j q t bx T s f r h W) (hb:Below W.heap.size W W') (hK:∀ y∈Ks,W'.heap[y.1]? = some y.2∧W.heap.size≤y.1):Rm w l (Ks ++ K) i j q t bx T s f r h W':=by
 have hq:=x.hall.lt_ (q:=q) (o:=spO t bx f r h) List.mem_cons_self
 refine { x with hall:=(Hall.mores x.hall hb hK).less (fun y hy=>?_),bxm:=List.mem_append_right _ x.bxm,out:=fun y hy=>?_ }
 ·rcases List.mem_cons.1 hy with rfl | hy
  ·exact List.mem_append_right _ List.mem_cons_self
  ·rcases List.mem_append.1 hy with hy | hy
   ·exact List.mem_append_left _ hy
   ·exact List.mem_append_right _ (List.mem_cons_of_mem _ hy)
 ·rcases List.mem_append.1 hy with hy | hy
  ·have:=(hK y hy).2; omega
  ·exact x.out y hy
theorem Rm.setR (x: Rm w l K i j q t bx T s f r h W) {g: Nat} {cs cs2: Array Value} {ty: TypeId} (hm: (g,Obj.cells cs ty (0,0))∈K) (hg: w.heap.size≤g) (hT: ty≠60): Rm w l ((g,.cells cs2 ty (0,0))::but g K) i j q t bx T s f r h (W.setRow g cs2):=by
 have hq:=x.out _ hm
 have hb:bx≠g:=fun e=>Hall.unlike x.hall (List.mem_cons_of_mem _ hm) (List.mem_cons_of_mem _ x.bxm) hT e.symm
 refine { x with hall:=(Hall.setRowB (cs2:=cs2) x.hall (List.mem_cons_of_mem _ hm) hg).less (fun y hy=>?_),bxm:=List.mem_cons_of_mem _ (but_mem.2 ⟨x.bxm,hb⟩),out:=fun y hy=>?_ }
 ·rcases List.mem_cons.1 hy with rfl | hy
  ·exact List.mem_cons_of_mem _ (but_mem.2 ⟨List.mem_cons_self,fun e=>hq e.symm⟩)
  ·rcases List.mem_cons.1 hy with rfl | hy
   ·exact List.mem_cons_self
   ·exact List.mem_cons_of_mem _ (but_mem.2 ⟨List.mem_cons_of_mem _ (but_mem.1 hy).1,(but_mem.1 hy).2⟩)
 ·rcases List.mem_cons.1 hy with rfl | hy
  ·exact hq
  ·exact x.out _ (but_mem.1 hy).1
end
theorem QT.off {A:Nat→Prop} {W:World} {v:Value} {x:RS} {r:Rt} {L:List (Nat×Nat)} {had hint first:Nat} {taken gone:Int} (h:QT A W v x r L had hint first taken gone) {g:Nat} {cs:Array Value} {T:TypeId} (hg:W.heap[g]? = some (.cells cs T (0,0))) (h1:T≠55) (h2:T≠277):QT (fun b=>A b∧b≠g) W v x r L had hint first taken gone:=by
 obtain ⟨vg,vw,vl,e,h3,h4⟩:=h
 exact ⟨⟨vg,vw,vl,e,h3.off hg h1,h4.off hg h2⟩⟩
theorem QT.told {K:List (Nat×Obj)} {W':World} {B:Nat} {v:Value} {x:RS} {r:Rt} {L:List (Nat×Nat)} {had hint first:Nat} {taken gone:Int} (hp:QT (inN K B) W' v x r L had hint first taken gone):∃ Ks:List (Nat×Obj),(∀ y∈Ks,W'.heap[y.1]? = some y.2∧B≤y.1)∧QT (inK (Ks ++ K)) W' v x r L had hint first taken gone:=by
 obtain ⟨vg,vw,vl,e,⟨⟨ug,uw,e2,h1,h2⟩,h3,h4,h5⟩,h6⟩:=hp
 obtain ⟨K1,a1,a2⟩:=row_new h1.row h1.own
 obtain ⟨K2,b1,b2⟩:=row_new h2.row h2.own
 obtain ⟨K3,c1,c2⟩:=row_new h6.row h6.own
 refine ⟨K3 ++ (K1 ++ K2),(fun y hy=>?_),⟨vg,vw,vl,e,⟨⟨ug,uw,e2,⟨h1.len,h1.row,h1.ok,fun b e=>inK_left (inK_mid (a2 b e))⟩,⟨h2.len,h2.row,h2.ok,fun b e=>inK_left (inK_left (b2 b e))⟩⟩,h3,h4,h5⟩,⟨h6.len,h6.row,h6.ok,fun b e=>inK_mid (c2 b e)⟩⟩⟩
 rcases List.mem_append.1 hy with hy | hy
 ·exact c1 y hy
 ·rcases List.mem_append.1 hy with hy | hy
  ·exact a1 y hy
  ·exact b1 y hy
structure Begun (w:World) (n:Nat) (xs:List (Nat×Nat)) (hint:Nat) (bx t1 t p q:Nat) (T1:TD) (s:DS) (S:SS) (K:List (Nat×Obj)) (x:RS) (r:Rt) (cs:Array Value) (W:World):Prop where
 rs:Rs w [.dev p s,.tab t1 T1,.tab t S.T] K 2 0 q t bx s S W
 qt:QT (inK K) W (.agg cs) x r [] r.free r.hint (fsN n) 0 0
 sees:Sees x r s
 start:Start S n xs hint
 old:∀ a,oldS s r a=S.T.oldC a
 ef:S.f=(r.free:Int)
 eh:S.h=r.hint
 en:s.n=n
end Spc

end Go.Proofs.YtgkbfahflngklaaGreat
