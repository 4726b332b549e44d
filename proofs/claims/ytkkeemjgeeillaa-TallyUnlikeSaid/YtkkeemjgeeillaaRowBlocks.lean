/-
  Slices of blocks: two laid at once; a block loaded from the middle of them.
-/
import Derived.Test.YtkkeemjgeeillaaFldText
import Derived.Deep.MidRow
import Derived.Deep.RegionHeld3
import Derived.Great.BuildSlice
import Derived.Great.FillDense
namespace Go.Proofs.Ytkkeemjgeeillaa.Fld
open Go.RowKit RowLaw Crc
set_option maxRecDepth 100000

theorem infoBlock3 : (Try.prog.info? 32).map (fun i => (i.zero, i.size, i.bytes)) = some (some (.agg (cellsOf zeros)), 256, 256) := by kernel_rfl
def pairO (l m : List UInt8) : Obj := .cells (vals l ++ vals m).toArray 32
theorem vals_len (l : List UInt8) : (vals l).length = l.length := by simp [vals]
theorem size_agg (l : List UInt8) : (Value.agg (cellsOf l)).cells.size = l.length := cellsOf_size l
theorem run_build2 (w : World) (l m : List UInt8) (hl : l.length = 256) (hm : m.length = 256) : (Instr.buildSlice 48 2 #[(0, .agg (cellsOf l)), (1, .agg (cellsOf m))]).run Try.prog w = .ok (.slice (some ⟨w.heap.size, 0, none⟩) 2 2) (w.alloc (pairO l m)) := by
  obtain ⟨it, hit, hz, hs, hb⟩ := info_parts infoBlock3
  have hf := Great.fill_whole (s := 256) (by omega) [.agg (cellsOf l), .agg (cellsOf m)] ((Array.range (2 * 256)).map ((Value.agg (cellsOf zeros)).cells[· % (Value.agg (cellsOf zeros)).cells.size]!)) (fun v hv => by
    simp only [List.mem_cons, List.not_mem_nil, or_false] at hv
    rcases hv with rfl | rfl
    · rw [size_agg, hl]
    · rw [size_agg, hm]) (by simp)
  refine run_buildSlice w _ _ 2 _ (vals l ++ vals m).toArray it _ Try.underlying48 hit hz (by rw [hs]; omega) (by rw [hs]; omega) ?_
  rw [hs]
  refine Eq.trans ?_ (hf.trans ?_)
  · rfl
  · simp [Value.cells, cellsOf, vals]
theorem wp_build2 {o : Oper} {ac : Act} {w : World} {K : Act → World → Prop} {Q : Exit → Act → World → Prop} (d0 d1 : Tmp) (ho : o.op = .buildSlice 48 2 #[(0, .tmp d0), (1, .tmp d1)]) (l m : List UInt8) (hl : l.length = 256) (hm : m.length = 256)
    (h0 : ac.eval (.tmp d0) = .agg (cellsOf l)) (h1 : ac.eval (.tmp d1) = .agg (cellsOf m))
    (h : K (ac.put o.dst (.slice (some ⟨w.heap.size, 0, none⟩) 2 2)) (w.alloc (pairO l m))) : o.wp Try.prog ac w K Q := by
  unfold Oper.wp execOp
  simp only [ho, List.map_toArray, List.map_cons, List.map_nil, h0, h1, Sem.run_bind, run_build2 w l m hl hm, Result.andThen_ok]
  exact h
/-- the k-th of two -/
def nth2 (l m : List UInt8) (k : Nat) : List UInt8 := if k = 0 then l else m
theorem nth2_length {l m : List UInt8} (hl : l.length = 256) (hm : m.length = 256) (k : Nat) : (nth2 l m k).length = 256 := by unfold nth2; split <;> assumption
theorem pair_range {W : World} {g : Nat} {l m : List UInt8} (hl : l.length = 256) (h : W.heap[g]? = some (pairO l m)) (k : Nat) (hk : k < 2) : W.rangeAt g (k * 256) (vals (nth2 l m k)) := by
  intro j v hv
  rw [cell_of_row W g (k * 256 + j) _ _ _ h]
  unfold nth2 at hv
  rcases (by omega : k = 0 ∨ k = 1) with rfl | rfl
  · rw [if_pos rfl] at hv
    have := (List.getElem?_eq_some_iff.1 hv).1
    rw [List.getElem?_toArray, List.getElem?_append_left (by omega), Nat.zero_mul, Nat.zero_add]
    exact hv
  · rw [if_neg (by omega)] at hv
    rw [List.getElem?_toArray, List.getElem?_append_right (by rw [vals_len, hl]; omega), vals_len, hl, show 1 * 256 + j - 256 = j from by omega]
    exact hv
theorem sizeVals (l : List UInt8) (hl : l.length = 256) : (Try.prog.info? 32).map (·.size) = some (vals l).length := by rw [vals_len, ← cellsOf_size]; exact (by
  have := sizeBlk l hl
  exact this)
  where sizeBlk (l : List UInt8) (hl : l.length = 256) : (Try.prog.info? 32).map (·.size) = some (cellsOf l).size := by rw [cellsOf_size, hl]; exact (zero_of_info infoBlock).2
theorem wpList_load_blk {p off : Nat} {l : List UInt8} {ops : Array Oper} {rest : List Oper} {op : Oper} {a : Act} {w : World} {Q : Exit → Act → World → Prop} (hgd : op.guard = none) (x : Operand) (ho : op.op = .load 32 x)
    (hx : a.eval x = .pointer (some ⟨p, off, none⟩)) (hw : w.rangeAt p off (vals l)) (hl : l.length = 256)
    (h : wpList Try.prog ops Q rest (a.put op.dst (.agg (cellsOf l))) w) : wpList Try.prog ops Q (op :: rest) a w :=
  wpList_load_mid hgd 32 x ho p off hx (vals l) _ hw Try.underlying32 rfl (sizeVals l hl) h
theorem yieldsIf_load_blk {p off : Nat} {l : List UInt8} {ops : Array Oper} {S : World → Prop} {op : Oper} {a : Act} (hw : Region.wanted op (yielded ops a.tmps) = true) (x : Operand) (ho : op.op = .load 32 x)
    (hx : a.eval x = .pointer (some ⟨p, off, none⟩)) (hS : ∀ W, S W → W.rangeAt p off (vals l)) (hl : l.length = 256) : YieldsIf Try.prog ops S op (.agg (cellsOf l)) a :=
  yieldsIf_load_mid hw 32 x ho p off hx (vals l) _ hS Try.underlying32 rfl (sizeVals l hl)

end Go.Proofs.Ytkkeemjgeeillaa.Fld
