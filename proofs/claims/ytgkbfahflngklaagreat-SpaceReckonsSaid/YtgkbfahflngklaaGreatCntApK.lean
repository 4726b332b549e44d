import Derived.Test.YtgkbfahflngklaaGreatCntG
import Derived.Test.YtgkbfahflngklaaGreatSpcO2
set_option maxRecDepth 100000
namespace Go.Proofs.YtgkbfahflngklaaGreat
namespace Cnt
open Go.RowKit Go.Maps Go.MapKept RowLaw Crc
open Go.Proofs.YtgkbfahflngklaaGreat.Dev (Dev DS ptr Turn Step)
def nowCs (A:List Nat):Array Value:=(A.map fun x:Nat=>Value.int .u16 (x:Int)).toArray
def nowO (A:List Nat):Obj:=.cells (nowCs A) 37 (0,0)
theorem nowCs_get {A:List Nat} {j:Nat} (hj:j < A.length):(nowCs A)[j]? = some (.int .u16 ((A.getD j 0:Nat):Int)):=by
 unfold nowCs
 rw [List.getElem?_toArray,List.getElem?_map,List.getElem?_eq_getElem hj,List.getD_eq_getElem?_getD,List.getElem?_eq_getElem hj]
 rfl
theorem nowCs_set (A:List Nat) (j v:Nat):(nowCs A).setIfInBounds j (.int .u16 (v:Int))=nowCs (A.set j v):=by
 unfold nowCs
 rw [List.setIfInBounds_toArray,List.map_set]
theorem info16:(Tryz.prog.info? 37).map (fun i=>(i.zero,i.size,i.bytes))=some (some (.int .u16 0),1,2):=by kernel_rfl
theorem make_16 (W:World) (n:Nat) (hn:n≤1000000):∃ W' g c,(Instr.makeSlice 52 (.int .u32 (n:Int)) (.int .u32 (n:Int))).run Tryz.prog W=.ok (.slice (some ⟨g,0,none⟩) n c) W'∧
  g=W.heap.size∧W'.heap[g]? = some (nowO (List.replicate n 0))∧Below W.heap.size W W':=by
 obtain ⟨i0,hi0,hz0,hz1,hz2⟩:=info_parts info16
 obtain ⟨W',h1,h2,h3⟩:=run_make_full (P:=Tryz.prog) W W.heap.size 52 37 i0 (.int .u16 0) 1 Tryz.underlying52 hi0 hz0 hz1 .u32 .u32 n (by rw [hz2]; omega) (by unfold maxLen; omega) (Nat.le_refl _)
 refine ⟨W',W.heap.size,n,h1,rfl,?_,(Turn.of_grown' (B:=[]) h3 (fun k hk=>by cases hk)).nil⟩
 rcases h2.2 with ⟨h4,_⟩ | ⟨g,cap,cur,h4,h5,h6,h7,h8,h9,h10⟩
 ·cases h4
 ·obtain ⟨rfl,rfl⟩:g=W.heap.size∧cap=n:=by cases h4; exact ⟨rfl,rfl⟩
  have e:cur=nowCs (List.replicate cap 0):=by
   apply Array.toList_inj.1
   rw [List.take_of_length_le (by rw [Array.length_toList,h9]; omega)] at h10
   rw [h10]
   refine List.ext_getElem? fun i=>?_
   simp [madeCells,nowCs,Value.cells,Nat.mod_one,List.getElem?_map,List.getElem?_replicate]
   by_cases h:i < cap
   ·rw [List.getElem?_range h,if_pos h]; rfl
   ·rw [List.getElem?_eq_none (by simpa using h),if_neg h]; rfl
  rw [h6,e]
  rfl
theorem Sts.cells {w:World} {pa:Option Addr} {xs:List St} (h:Sts w pa xs) {j:Nat} (hj:j < xs.length):∃ b off,pa=some ⟨b,off,none⟩∧xs[j].Fits∧∀ W,Below w.heap.size w W→
  W.cell? ⟨b,off+j * 260,none⟩=some (.int .u32 (xs[j].a:Int))∧W.cell? ⟨b,off+j * 260+1,none⟩=some (.int .u16 (xs[j].n:Int))∧W.cell? ⟨b,off+j * 260+2,none⟩=some (.bool xs[j].s):=by
 obtain ⟨h1,h2⟩:=h
 rcases h2 with h0 | ⟨b,off,hp,hb⟩
 ·rw [h0] at hj; exact absurd hj (by simp)
 ·refine ⟨b,off,hp,h1 _ (List.getElem_mem hj),fun W hW=>?_⟩
  have hc:∀ i v,(stCells xs[j])[i]? = some v→W.cell? ⟨b,off+j * 260+i,none⟩=some v:=fun i v hv=>(hW.cell (p:=⟨b,off+j * 260+i,none⟩) hb.old).trans (hb.at_ j hj i v hv)
  exact ⟨hc 0 _ rfl,hc 1 _ rfl,hc 2 _ rfl⟩
end Cnt

end Go.Proofs.YtgkbfahflngklaaGreat
