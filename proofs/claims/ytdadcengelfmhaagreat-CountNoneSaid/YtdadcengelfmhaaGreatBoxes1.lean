/-
  Boxes1: RowBlocks, Boxes.
-/
import Derived.Test.YtdadcengelfmhaaGreatFld1
import Derived.Deep.MidRow
import Derived.Deep.RegionHeld3
import Derived.Great.BuildSlice
import Derived.Great.FillDense
import Derived.Test.YtdadcengelfmhaaGreatKept
import Derived.Test.YtdadcengelfmhaaGreatFld2
/-
  Slices of blocks: two laid at once; a block loaded from the middle of them.
-/
namespace Go.Proofs.YtdadcengelfmhaaGreat.Fld
open Go.RowKit RowLaw Crc
set_option maxRecDepth 100000

theorem infoBlock3 : (Tryz.prog.info? 39).map (fun i => (i.zero, i.size, i.bytes)) = some (some (.agg (cellsOf zeros)), 256, 256) := by kernel_rfl
def pairO (l m : List UInt8) : Obj := .cells (vals l ++ vals m).toArray 39
theorem vals_len (l : List UInt8) : (vals l).length = l.length := by simp [vals]
theorem size_agg (l : List UInt8) : (Value.agg (cellsOf l)).cells.size = l.length := cellsOf_size l
/-- the k-th of two -/
def nth2 (l m : List UInt8) (k : Nat) : List UInt8 := if k = 0 then l else m
theorem nth2_length {l m : List UInt8} (hl : l.length = 256) (hm : m.length = 256) (k : Nat) : (nth2 l m k).length = 256 := by unfold nth2; split <;> assumption
theorem pair_range {W : World} {g : Nat} {l m : List UInt8} (hl : l.length = 256) (h : W.heap[g]? = some (pairO l m)) (k : Nat) (hk : k < 2) : W.rangeAt g (k * 256) (vals (nth2 l m k)) := by
  intro j v hv
  rw [cell_of_row W g (k * 256 + j) _ _ _ h]
  unfold nth2 at hv
  rcases (by omega : k = 0 ∨ k = 1) with rfl | rfl
  · rw [if_pos rfl] at hv
    have := (List.getElem?_eq_some_iff.1 hv).1
    rw [List.getElem?_toArray, List.getElem?_append_left (by omega), Nat.zero_mul, Nat.zero_add]
    exact hv
  · rw [if_neg (by omega)] at hv
    rw [List.getElem?_toArray, List.getElem?_append_right (by rw [vals_len, hl]; omega), vals_len, hl, show 1 * 256 + j - 256 = j from by omega]
    exact hv
theorem sizeVals (l : List UInt8) (hl : l.length = 256) : (Tryz.prog.info? 39).map (·.size) = some (vals l).length := by rw [vals_len, ← cellsOf_size]; exact (by
  have := sizeBlk l hl
  exact this)
  where sizeBlk (l : List UInt8) (hl : l.length = 256) : (Tryz.prog.info? 39).map (·.size) = some (cellsOf l).size := by rw [cellsOf_size, hl]; exact (zero_of_info infoBlock).2
theorem wpList_load_blk {p off : Nat} {l : List UInt8} {ops : Array Oper} {rest : List Oper} {op : Oper} {a : Act} {w : World} {Q : Exit → Act → World → Prop} (hgd : op.guard = none) (x : Operand) (ho : op.op = .load 39 x)
    (hx : a.eval x = .pointer (some ⟨p, off, none⟩)) (hw : w.rangeAt p off (vals l)) (hl : l.length = 256)
    (h : wpList Tryz.prog ops Q rest (a.put op.dst (.agg (cellsOf l))) w) : wpList Tryz.prog ops Q (op :: rest) a w :=
  wpList_load_mid hgd 39 x ho p off hx (vals l) _ hw Tryz.underlying39 rfl (sizeVals l hl) h
theorem yieldsIf_load_blk {p off : Nat} {l : List UInt8} {ops : Array Oper} {S : World → Prop} {op : Oper} {a : Act} (hw : Region.wanted op (yielded ops a.tmps) = true) (x : Operand) (ho : op.op = .load 39 x)
    (hx : a.eval x = .pointer (some ⟨p, off, none⟩)) (hS : ∀ W, S W → W.rangeAt p off (vals l)) (hl : l.length = 256) : YieldsIf Tryz.prog ops S op (.agg (cellsOf l)) a :=
  yieldsIf_load_mid hw 39 x ho p off hx (vals l) _ hS Tryz.underlying39 rfl (sizeVals l hl)

end Go.Proofs.YtdadcengelfmhaaGreat.Fld

/-
  Blocks that stay beside a writer, or beside a reader; a law's own blocks by name.
-/
namespace Go.Proofs.YtdadcengelfmhaaGreat.Fld
open Go.RowKit RowLaw Crc
set_option maxRecDepth 100000

theorem Kept.apart {w W W' : World} {K : List (Nat × Obj)} {q : Nat} (h : Kept w K W) (ha : Apart q W W') (hq : w.heap.size ≤ q) (hne : ∀ x ∈ K, x.1 ≠ q) : Kept w K W' :=
  ⟨h.bel.trans (ha.below hq h.bel.size), fun x hx => ⟨(h.has x hx).1, (ha.block x.1 (Array.getElem?_eq_some_iff.1 (h.has x hx).2).1 (hne x hx)).trans (h.has x hx).2⟩⟩
/-- blocks that stay, and a writer apart from them -/
structure WBox (w : World) (K : List (Nat × Obj)) (q : Nat) (f : Option (List UInt8)) (W : World) : Prop where
  kept : Kept w K W
  wr : WIs W q f
  le : w.heap.size ≤ q
  ne : ∀ x ∈ K, x.1 ≠ q
section
variable {w W W' : World} {K : List (Nat × Obj)} {q : Nat} {f f' : Option (List UInt8)}
theorem WBox.num (h : WBox w K q f W) (x : Nat) (width : Int) (hf : app f (numBytes x width) = f') :
    Calls Tryz.prog 84 #[.pointer (some ⟨q, 0, none⟩), .int .u64 (x : Int), .int .i64 width] W fun e W' => e = .returned (.tuple #[]) ∧ WBox w K q f' W' := by
  subst hf
  exact (Num_any f q x width W h.wr).mono fun _ W' ⟨he, hw, ha⟩ => ⟨he, Kept.apart h.kept ha h.le h.ne, hw, h.le, h.ne⟩
theorem WBox.below (h : WBox w K q f W) (hb : Below W.heap.size W W') : WBox w K q f W' := ⟨h.kept.below hb, h.wr.of_block (hb.block q h.wr.lt), h.le, h.ne⟩
theorem WBox.less (h : WBox w K q f W) {K' : List (Nat × Obj)} (hk : ∀ x ∈ K', x ∈ K) : WBox w K' q f W := ⟨h.kept.less hk, h.wr, h.le, fun x hx => h.ne x (hk x hx)⟩
/-- a new block stays, too -/
theorem WBox.more (h : WBox w K q f W) (hb : Below W.heap.size W W') {u : Nat} {o : Obj} (hu : W.heap.size ≤ u) (ho : W'.heap[u]? = some o) : WBox w ((u, o) :: K) q f W' := by
  have h2 := h.below hb
  have hlt := h.wr.lt
  refine ⟨⟨h2.kept.bel, fun x hx => ?_⟩, h2.wr, h2.le, fun x hx => ?_⟩
  · rcases List.mem_cons.1 hx with rfl | hx
    · exact ⟨Nat.le_trans h.kept.bel.size hu, ho⟩
    · exact h2.kept.has x hx
  · rcases List.mem_cons.1 hx with rfl | hx
    · show u ≠ q
      omega
    · exact h2.ne x hx
end
theorem app_at (f bs : List UInt8) (h : f.length + bs.length ≤ 251) : app (some f) (some bs) = some (f ++ bs) := if_pos h
theorem numBytes4 (n : Nat) : numBytes n 4 = some (leB n 4) := by unfold numBytes; rw [if_pos (by decide)]; rfl
theorem numBytes1 (n : Nat) : numBytes n 1 = some (leB n 1) := by unfold numBytes; rw [if_pos (by decide)]; rfl
def blockO (l : List UInt8) : Obj := .cells (cellsOf l) 39

/-- blocks that stay, and a reader apart from them -/
structure RBox (w : World) (K : List (Nat × Obj)) (q : Nat) (st : Option (List UInt8 × Nat)) (W : World) : Prop where
  kept : Kept w K W
  rd : RIs W q st
  le : w.heap.size ≤ q
  ne : ∀ x ∈ K, x.1 ≠ q
section
variable {w W W' : World} {K : List (Nat × Obj)} {q : Nat} {st st' : Option (List UInt8 × Nat)}
theorem RBox.num (h : RBox w K q st W) (width : Int) {x : Nat} (hf : takeNum st width = (x, st')) :
    Calls Tryz.prog 116 #[.pointer (some ⟨q, 0, none⟩), .int .i64 width] W fun e W' => e = .returned (.int .u64 (x : Int)) ∧ RBox w K q st' W' := by
  have := RNum_any st q width W h.rd
  rw [hf] at this
  exact this.mono fun _ _ ⟨he, h1, h2⟩ => ⟨he, Kept.apart h.kept h2 h.le h.ne, h1, h.le, h.ne⟩
theorem RBox.below (h : RBox w K q st W) (hb : Below W.heap.size W W') : RBox w K q st W' := ⟨h.kept.below hb, h.rd.below hb, h.le, h.ne⟩
theorem RBox.drew (h : RBox w K q st W) : RBox w K q st W.drew := ⟨h.kept.drew, h.rd.of_block rfl, h.le, h.ne⟩
theorem RBox.less (h : RBox w K q st W) {K' : List (Nat × Obj)} (hk : ∀ x ∈ K', x ∈ K) : RBox w K' q st W := ⟨h.kept.less hk, h.rd, h.le, fun x hx => h.ne x (hk x hx)⟩
theorem RBox.more (h : RBox w K q st W) (hb : Below W.heap.size W W') {u : Nat} {o : Obj} (hu : W.heap.size ≤ u) (ho : W'.heap[u]? = some o) : RBox w ((u, o) :: K) q st W' := by
  have h2 := h.below hb
  have hlt := h.rd.lt
  refine ⟨⟨h2.kept.bel, fun x hx => ?_⟩, h2.rd, h2.le, fun x hx => ?_⟩
  · rcases List.mem_cons.1 hx with rfl | hx
    · exact ⟨Nat.le_trans h.kept.bel.size hu, ho⟩
    · exact h2.kept.has x hx
  · rcases List.mem_cons.1 hx with rfl | hx
    · show u ≠ q
      omega
    · exact h2.ne x hx
theorem RBox.alloc (h : RBox w K q st W) (o : Obj) : RBox w ((W.heap.size, o) :: K) q st (W.alloc o) := h.more ((Below.refl _ _).alloc (Nat.le_refl _) o) (Nat.le_refl _) (heap_alloc_new W o)
theorem RBox.setCell {p j : Nat} {cs : Array Value} {T : TypeId} {v : Value} (h : RBox w ((p, .cells cs T (0, 0)) :: K) q st W) (hne : ∀ x ∈ K, x.1 ≠ p) : RBox w ((p, .cells (cs.setIfInBounds j v) T (0, 0)) :: K) q st (W.setCell ⟨p, j, none⟩ v) := by
  have hp : p ≠ q := h.ne _ List.mem_cons_self
  refine ⟨h.kept.setCell hne, h.rd.of_block (heap_setCell_other W _ q _ (fun e => hp e.symm)), h.le, fun x hx => ?_⟩
  rcases List.mem_cons.1 hx with rfl | hx
  · exact hp
  · exact h.ne x (List.mem_cons_of_mem _ hx)
end

theorem str_app (a b : List UInt8) : ((⟨a.toArray⟩ : ByteArray) ++ ⟨b.toArray⟩) = ⟨(a ++ b).toArray⟩ := by
  apply ByteArray.ext
  simp

end Go.Proofs.YtdadcengelfmhaaGreat.Fld

