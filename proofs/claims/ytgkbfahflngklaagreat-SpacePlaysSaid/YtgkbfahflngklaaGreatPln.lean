import Derived.Test.YtgkbfahflngklaaGreatBlk
import Derived.Test.YtgkbfahflngklaaGreatFld1
import Derived.Deep.MidRow
import Derived.Deep.RegionHeld3
import Derived.Great.BuildSlice
import Derived.Great.FillDense
import Derived.Test.YtgkbfahflngklaaGreatFld2
import Derived.Test.YtgkbfahflngklaaGreatRows
import Derived.Test.YtgkbfahflngklaaGreatCrc3
import Derived.Test.YtgkbfahflngklaaGreatKit1
set_option maxRecDepth 100000
set_option maxHeartbeats 400000
namespace Go.Proofs.YtgkbfahflngklaaGreat
open Go.RowKit RowLaw
structure Kept (w:World) (K:List (Nat×Obj)) (W:World):Prop where
 bel:Below w.heap.size w W
 has:∀ x∈K,w.heap.size≤x.1∧W.heap[x.1]? = some x.2
section
variable {w W W':World} {K:List (Nat×Obj)}
theorem Kept.start (w:World):Kept w [] w:=⟨Below.refl _ _,fun _ h=>by cases h⟩
theorem Kept.at_ (h:Kept w K W) {q:Nat} {o:Obj} (hq:(q,o)∈K):W.heap[q]? = some o:=(h.has _ hq).2
theorem Kept.lt_ (h:Kept w K W) {q:Nat} {o:Obj} (hq:(q,o)∈K):q < W.heap.size:=(Array.getElem?_eq_some_iff.1 (h.at_ hq)).1
theorem Kept.less (h:Kept w K W) {K':List (Nat×Obj)} (hk:∀ x∈K',x∈K):Kept w K' W:=⟨h.bel,fun x hx=>h.has x (hk x hx)⟩
theorem Kept.below (h:Kept w K W) (hb:Below W.heap.size W W'):Kept w K W':=
 ⟨h.bel.trans (hb.mono h.bel.size),fun x hx=>⟨(h.has x hx).1,(hb.block _ (Array.getElem?_eq_some_iff.1 (h.has x hx).2).1).trans (h.has x hx).2⟩⟩
theorem Kept.alloc (h: Kept w K W) (o: Obj): Kept w ((W.heap.size,o)::K) (W.alloc o):=by
 have h':=h.below ((Below.refl _ _).alloc (Nat.le_refl _) o)
 refine ⟨h'.bel,fun x hx=>?_⟩
 rcases List.mem_cons.1 hx with rfl | hx
 ·exact ⟨h.bel.size,heap_alloc_new W o⟩
 ·exact h'.has x hx
theorem Kept.drew (h:Kept w K W):Kept w K W.drew:=⟨h.bel.drew,h.has⟩
theorem Kept.put {q: Nat} {o o': Obj} (h: Kept w ((q,o)::K) W) (hne: ∀ x∈K,x.1≠q) (hq: W'.heap[q]? = some o') (hs: W'.os=W.os) (ht: W'.tape=W.tape) (hp: W'.output=W.output) (hz: W.heap.size≤W'.heap.size)
  (hb: ∀ k,k≠q→W'.heap[k]? = W.heap[k]?): Kept w ((q,o')::K) W':=by
 have h0:=h.has _ (List.mem_cons_self)
 refine ⟨⟨hs.trans h.bel.os,ht.trans h.bel.tape,hp.trans h.bel.output,Nat.le_trans h.bel.size hz,fun k hk=>(hb k (by have:=h0.1; omega)).trans (h.bel.block k hk)⟩,fun x hx=>?_⟩
 rcases List.mem_cons.1 hx with rfl | hx
 ·exact ⟨h0.1,hq⟩
 ·have h1:=h.has x (List.mem_cons_of_mem _ hx)
  exact ⟨h1.1,(hb _ (hne x hx)).trans h1.2⟩
theorem Kept.setCell {q j: Nat} {cs: Array Value} {T: TypeId} {v: Value} (h: Kept w ((q,.cells cs T (0,0))::K) W) (hne: ∀ x∈K,x.1≠q): Kept w ((q,.cells (cs.setIfInBounds j v) T (0,0))::K) (W.setCell ⟨q,j,none⟩ v):=
 h.put hne (heap_setCell_same W q j _ _ _ (h.at_ List.mem_cons_self)) rfl rfl rfl (by simp [World.setCell]) (fun k hk=>heap_setCell_other W ⟨q,j,none⟩ k v hk)
theorem Kept.setRow {q: Nat} {cs cs': Array Value} {T: TypeId} (h: Kept w ((q,.cells cs T (0,0))::K) W) (hne: ∀ x∈K,x.1≠q): Kept w ((q,.cells cs' T (0,0))::K) (W.setRow q cs'):=
 h.put hne (setRow_heap W q _ _ _ _ (h.at_ List.mem_cons_self)) rfl rfl rfl (by simp) (fun k hk=>setRow_other W q k _ hk)
theorem Kept.notin (h:Kept w K W):∀ x∈K,x.1≠W.heap.size:=fun x hx e=>by
 have:=(Array.getElem?_eq_some_iff.1 (h.has x hx).2).1
 omega
end
end Go.Proofs.YtgkbfahflngklaaGreat
namespace Go.Proofs.YtgkbfahflngklaaGreat
namespace Fld
open Go.RowKit RowLaw Crc
end Fld
namespace Fld
open Go.RowKit RowLaw Crc
theorem Kept.apart {w W W':World} {K:List (Nat×Obj)} {q:Nat} (h:Kept w K W) (ha:Apart q W W') (hq:w.heap.size≤q) (hne:∀ x∈K,x.1≠q):Kept w K W':=
 ⟨h.bel.trans (ha.below hq h.bel.size),fun x hx=>⟨(h.has x hx).1,(ha.block x.1 (Array.getElem?_eq_some_iff.1 (h.has x hx).2).1 (hne x hx)).trans (h.has x hx).2⟩⟩
structure WBox (w:World) (K:List (Nat×Obj)) (q:Nat) (f:Option (List UInt8)) (W:World):Prop where
 kept:Kept w K W
 wr:WIs W q f
 le:w.heap.size≤q
 ne:∀ x∈K,x.1≠q
section
variable {w W W':World} {K:List (Nat×Obj)} {q:Nat} {f f':Option (List UInt8)}
theorem WBox.num (h:WBox w K q f W) (x:Nat) (width:Int) (hf:app f (numBytes x width)=f') :
  Calls Tryz.prog 205 #[.pointer (some ⟨q,0,none⟩),.int .u64 (x:Int),.int .i64 width] W fun e W'=>e=.returned (.tuple #[])∧WBox w K q f' W':=by
 subst hf
 exact (Num_any f q x width W h.wr).mono fun _ W' ⟨he,hw,ha⟩=>⟨he,Kept.apart h.kept ha h.le h.ne,hw,h.le,h.ne⟩
theorem WBox.below (h:WBox w K q f W) (hb:Below W.heap.size W W'):WBox w K q f W':=⟨h.kept.below hb,h.wr.of_block (hb.block q h.wr.lt),h.le,h.ne⟩
theorem WBox.less (h:WBox w K q f W) {K':List (Nat×Obj)} (hk:∀ x∈K',x∈K):WBox w K' q f W:=⟨h.kept.less hk,h.wr,h.le,fun x hx=>h.ne x (hk x hx)⟩
theorem WBox.more (h: WBox w K q f W) (hb: Below W.heap.size W W') {u: Nat} {o: Obj} (hu: W.heap.size≤u) (ho: W'.heap[u]? = some o): WBox w ((u,o)::K) q f W':=by
 have h2:=h.below hb
 have hlt:=h.wr.lt
 refine ⟨⟨h2.kept.bel,fun x hx=>?_⟩,h2.wr,h2.le,fun x hx=>?_⟩
 ·rcases List.mem_cons.1 hx with rfl | hx
  ·exact ⟨Nat.le_trans h.kept.bel.size hu,ho⟩
  ·exact h2.kept.has x hx
 ·rcases List.mem_cons.1 hx with rfl | hx
  ·show u≠q
   omega
  ·exact h2.ne x hx
end
theorem app_at (f bs:List UInt8) (h:f.length+bs.length≤251):app (some f) (some bs)=some (f ++ bs):=if_pos h
theorem numBytes4 (n:Nat):numBytes n 4=some (leB n 4):=by unfold numBytes; rw [if_pos (by decide)]; rfl
theorem numBytes1 (n:Nat):numBytes n 1=some (leB n 1):=by unfold numBytes; rw [if_pos (by decide)]; rfl
def blockO (l:List UInt8):Obj:=.cells (cellsOf l) 39
structure RBox (w:World) (K:List (Nat×Obj)) (q:Nat) (st:Option (List UInt8×Nat)) (W:World):Prop where
 kept:Kept w K W
 rd:RIs W q st
 le:w.heap.size≤q
 ne:∀ x∈K,x.1≠q
section
variable {w W W':World} {K:List (Nat×Obj)} {q:Nat} {st st':Option (List UInt8×Nat)}
theorem RBox.less (h:RBox w K q st W) {K':List (Nat×Obj)} (hk:∀ x∈K',x∈K):RBox w K' q st W:=⟨h.kept.less hk,h.rd,h.le,fun x hx=>h.ne x (hk x hx)⟩
theorem RBox.setCell {p j: Nat} {cs: Array Value} {T: TypeId} {v: Value} (h: RBox w ((p,.cells cs T (0,0))::K) q st W) (hne: ∀ x∈K,x.1≠p): RBox w ((p,.cells (cs.setIfInBounds j v) T (0,0))::K) q st (W.setCell ⟨p,j,none⟩ v):=by
 have hp:p≠q:=h.ne _ List.mem_cons_self
 refine ⟨h.kept.setCell hne,h.rd.of_block (heap_setCell_other W _ q _ (fun e=>hp e.symm)),h.le,fun x hx=>?_⟩
 rcases List.mem_cons.1 hx with rfl | hx
 ·exact hp
 ·exact h.ne x (List.mem_cons_of_mem _ hx)
end
theorem str_app (a b:List UInt8):((⟨a.toArray⟩:ByteArray) ++ ⟨b.toArray⟩)=⟨(a ++ b).toArray⟩:=by
 apply ByteArray.ext
 simp
end Fld
namespace Rot
def up (a b:Nat):Nat:=if a % b=0 then a / b else a / b+1
def tlN (n:Nat):Nat:=(n+63) / 64
def pkN (n:Nat):Nat:=(tlN n+1023) / 1024
def fsN (n:Nat):Nat:=2+2 * pkN n+2 * tlN n
theorem up64 (n:Nat):up n 64=tlN n:=by unfold up tlN; split <;> omega
theorem up1024 (n:Nat):up (tlN n) 1024=pkN n:=by unfold up pkN; split <;> omega
theorem plan_facts {n:Nat} (h1:64≤n) (h2:n≤1048576):fsN n=2+2 * (pkN n+tlN n)∧fsN n < n∧n≤64 * tlN n∧64 * (tlN n - 1) < n∧tlN n≤1024 * pkN n∧pkN n≤16∧1≤pkN n∧1≤tlN n∧tlN n≤16384:=by
 unfold fsN pkN tlN
 omega
end Rot
namespace Rot
open Go.RowKit RowLaw
def planCells (t p f:Nat):Array Value:=#[.int .u32 (t:Int),.int .u32 (p:Int),.int .u32 (f:Int)]
theorem infoPlan:(Tryz.prog.info? 82).map (fun i=>(i.zero,i.size))=some (some (.agg (planCells 0 0 0)),3):=by kernel_rfl
theorem sizePlan (t p f:Nat):(Tryz.prog.info? 82).map (·.size)=some (planCells t p f).size:=(zero_of_info infoPlan).2
theorem planCells_one (t p f:Nat):(planCells t p f).all (·.oneCell')=true:=by simp [planCells,Value.oneCell']
def planO (t p f:Nat):Obj:=.cells (planCells t p f) 82
def planOk (n:Nat):Bool:=decide (64≤n∧n≤1048576)
theorem upYes {a b:Nat} (ha:a < 4294967296) (h:((a:Int) % (b:Int) == 0)=true):(a:Int) / (b:Int) % 4294967296=(up a b:Nat):=by
 have h1:a % b=0:=by rw [beq_iff_eq,←Int.natCast_emod] at h; exact_mod_cast h
 have h2:=Nat.div_le_self a b
 unfold up
 rw [if_pos h1,←Int.natCast_ediv]
 generalize a / b=q at h2 ⊢
 omega
theorem upNo {a b:Nat} (ha:a < 4294967296) (hb:0 < b) (h:((a:Int) % (b:Int) == 0)=false):((a:Int) / (b:Int) % 4294967296+1) % 4294967296=(up a b:Nat):=by
 have h1:¬ a % b=0:=fun h1=>by
  rw [←Int.natCast_emod,h1] at h
  exact absurd h (by decide)
 have hb2:2≤b:=by
  rcases (by omega:b=1∨2≤b) with rfl | h2
  ·exact absurd (Nat.mod_one a) h1
  ·exact h2
 have h2:=Nat.div_le_div_left hb2 (by omega:0 < 2) (a:=a)
 unfold up
 rw [if_neg h1,←Int.natCast_ediv]
 generalize a / b=q at h2 ⊢
 omega
theorem refUp_any {a b:Nat} (ha:a < 4294967296) (hb:0 < b) (hb2:b < 4294967296) (w:World):Calls Tryz.prog 108 #[.int .u32 (a:Int),.int .u32 (b:Int)] w fun e w'=>e=.returned (.int .u32 (up a b:Nat))∧w'=w:=by
 go_enter Tryz.func108,Tryz.ntmps108
 go_wp2
 ·go_ret
  rename_i h
  exact ⟨congrArg (fun z=>Ending.returned (Value.int .u32 z)) (upYes ha h),rfl⟩
 ·go_ret
  rename_i h
  exact ⟨congrArg (fun z=>Ending.returned (Value.int .u32 z)) (upNo ha hb h),rfl⟩
theorem refLayout_yes {n:Nat} (h:planOk n=true) (w:World):Calls Tryz.prog 35 #[.int .u32 (n:Int)] w fun e w'=>e=.returned (.tuple #[.agg (planCells (tlN n) (pkN n) (fsN n)),.int .i64 0])∧Below w.heap.size w w':=by
  have hzp:=(zero_of_info infoPlan).1
  obtain ⟨h64,hbig⟩:64≤n∧n≤1048576:=by simpa [planOk] using h
  obtain ⟨f1,f2,f3,f4,f5,f6,f7,f8,f9⟩:=plan_facts h64 hbig
  have hup1:∀ W,Calls Tryz.prog 108 #[.int .u32 (n:Int),.int .u32 64] W fun e w'=>e=.returned (.int .u32 (tlN n:Nat))∧w'=W:=fun W=>by
    have:=refUp_any (a:=n) (b:=64) (by omega) (by omega) (by omega) W
    rw [up64] at this
    exact this
  have hup2:∀ W,Calls Tryz.prog 108 #[.int .u32 (tlN n:Int),.int .u32 1024] W fun e w'=>e=.returned (.int .u32 (pkN n:Nat))∧w'=W:=fun W=>by
    have:=refUp_any (a:=tlN n) (b:=1024) (by omega) (by omega) (by omega) W
    rw [up1024] at this
    exact this
  have hfs:(2:Int)+2 * (pkN n:Int)+2 * (tlN n:Int)=(fsN n:Nat):=by unfold fsN; omega
  have hR:∀ (cs:Array Value),(w.alloc (.cells cs 82)).heap[w.heap.size]? = some (.cells cs 82 (0,0)):=fun cs=>heap_alloc_new w _
  have hbel:∀ o:Obj,Below w.heap.size w (w.alloc o):=fun o=>Below.alloc (Below.refl _ _) (Nat.le_refl _) o
  go_enter Tryz.func35,Tryz.ntmps35
  go_wp2_with (first
    | (with_reducible refine (hup1 _).mono ?_; rintro e W1 ⟨rfl,rfl⟩)
    | (with_reducible refine (hup2 _).mono ?_; rintro e W1 ⟨rfl,rfl⟩)
    | (refine wpList_store_new rfl 82 (.tmp 2) (.tmp 25) rfl #[.int .u32 (tlN n:Int),.int .u32 (pkN n:Int),.int .u32 (2+2 * ((pkN n:Int)+(tlN n:Int)))] _ _ rfl rfl (sizePlan 0 0 0) rfl (by simp [Value.oneCell']) ?_))
  have hc:(#[.int .u32 (tlN n:Int),.int .u32 (pkN n:Int),.int .u32 (2+2 * ((pkN n:Int)+(tlN n:Int)))]:Array Value)=planCells (tlN n) (pkN n) (fsN n):=by
    unfold planCells
    rw [←hfs]
    congr 5
    omega
  rw [hc]
  exact bodyPost_ret (results_row_tmp rfl _ _ _ _ _ _ _ rfl (hR _) Tryz.underlying82 rfl (sizePlan _ _ _)) rfl ⟨rfl,hbel _⟩
end Rot
namespace Rot
open Go.RowKit RowLaw Crc
end Rot

end Go.Proofs.YtgkbfahflngklaaGreat
