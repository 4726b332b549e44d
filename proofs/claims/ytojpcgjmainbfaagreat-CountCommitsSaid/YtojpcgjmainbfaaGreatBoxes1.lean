/-
  Boxes1: RowBlocks, Boxes.
-/
import Derived.Test.YtojpcgjmainbfaaGreatFld1
import Derived.Deep.MidRow
import Derived.Deep.RegionHeld3
import Derived.Great.BuildSlice
import Derived.Great.FillDense
import Derived.Test.YtojpcgjmainbfaaGreatKept
import Derived.Test.YtojpcgjmainbfaaGreatFld2
/-
  Slices of blocks: two laid at once; a block loaded from the middle of them.
-/
namespace Go.Proofs.YtojpcgjmainbfaaGreat.Fld
open Go.RowKit RowLaw Crc
set_option maxRecDepth 100000

end Go.Proofs.YtojpcgjmainbfaaGreat.Fld

/-
  Blocks that stay beside a writer, or beside a reader; a law's own blocks by name.
-/
namespace Go.Proofs.YtojpcgjmainbfaaGreat.Fld
open Go.RowKit RowLaw Crc
set_option maxRecDepth 100000

theorem Kept.apart {w W W' : World} {K : List (Nat × Obj)} {q : Nat} (h : Kept w K W) (ha : Apart q W W') (hq : w.heap.size ≤ q) (hne : ∀ x ∈ K, x.1 ≠ q) : Kept w K W' :=
  ⟨h.bel.trans (ha.below hq h.bel.size), fun x hx => ⟨(h.has x hx).1, (ha.block x.1 (Array.getElem?_eq_some_iff.1 (h.has x hx).2).1 (hne x hx)).trans (h.has x hx).2⟩⟩
/-- blocks that stay, and a writer apart from them -/
structure WBox (w : World) (K : List (Nat × Obj)) (q : Nat) (f : Option (List UInt8)) (W : World) : Prop where
  kept : Kept w K W
  wr : WIs W q f
  le : w.heap.size ≤ q
  ne : ∀ x ∈ K, x.1 ≠ q
section
variable {w W W' : World} {K : List (Nat × Obj)} {q : Nat} {f f' : Option (List UInt8)}
theorem WBox.num (h : WBox w K q f W) (x : Nat) (width : Int) (hf : app f (numBytes x width) = f') :
    Calls Tryz.prog 138 #[.pointer (some ⟨q, 0, none⟩), .int .u64 (x : Int), .int .i64 width] W fun e W' => e = .returned (.tuple #[]) ∧ WBox w K q f' W' := by
  subst hf
  exact (Num_any f q x width W h.wr).mono fun _ W' ⟨he, hw, ha⟩ => ⟨he, Kept.apart h.kept ha h.le h.ne, hw, h.le, h.ne⟩
theorem WBox.below (h : WBox w K q f W) (hb : Below W.heap.size W W') : WBox w K q f W' := ⟨h.kept.below hb, h.wr.of_block (hb.block q h.wr.lt), h.le, h.ne⟩
theorem WBox.less (h : WBox w K q f W) {K' : List (Nat × Obj)} (hk : ∀ x ∈ K', x ∈ K) : WBox w K' q f W := ⟨h.kept.less hk, h.wr, h.le, fun x hx => h.ne x (hk x hx)⟩
/-- a new block stays, too -/
theorem WBox.more (h : WBox w K q f W) (hb : Below W.heap.size W W') {u : Nat} {o : Obj} (hu : W.heap.size ≤ u) (ho : W'.heap[u]? = some o) : WBox w ((u, o) :: K) q f W' := by
  have h2 := h.below hb
  have hlt := h.wr.lt
  refine ⟨⟨h2.kept.bel, fun x hx => ?_⟩, h2.wr, h2.le, fun x hx => ?_⟩
  · rcases List.mem_cons.1 hx with rfl | hx
    · exact ⟨Nat.le_trans h.kept.bel.size hu, ho⟩
    · exact h2.kept.has x hx
  · rcases List.mem_cons.1 hx with rfl | hx
    · show u ≠ q
      omega
    · exact h2.ne x hx
end
theorem app_at (f bs : List UInt8) (h : f.length + bs.length ≤ 251) : app (some f) (some bs) = some (f ++ bs) := if_pos h
theorem numBytes4 (n : Nat) : numBytes n 4 = some (leB n 4) := by unfold numBytes; rw [if_pos (by decide)]; rfl
theorem numBytes1 (n : Nat) : numBytes n 1 = some (leB n 1) := by unfold numBytes; rw [if_pos (by decide)]; rfl
def blockO (l : List UInt8) : Obj := .cells (cellsOf l) 39

/-- blocks that stay, and a reader apart from them -/
structure RBox (w : World) (K : List (Nat × Obj)) (q : Nat) (st : Option (List UInt8 × Nat)) (W : World) : Prop where
  kept : Kept w K W
  rd : RIs W q st
  le : w.heap.size ≤ q
  ne : ∀ x ∈ K, x.1 ≠ q
section
variable {w W W' : World} {K : List (Nat × Obj)} {q : Nat} {st st' : Option (List UInt8 × Nat)}
theorem RBox.num (h : RBox w K q st W) (width : Int) {x : Nat} (hf : takeNum st width = (x, st')) :
    Calls Tryz.prog 180 #[.pointer (some ⟨q, 0, none⟩), .int .i64 width] W fun e W' => e = .returned (.int .u64 (x : Int)) ∧ RBox w K q st' W' := by
  have := RNum_any st q width W h.rd
  rw [hf] at this
  exact this.mono fun _ _ ⟨he, h1, h2⟩ => ⟨he, Kept.apart h.kept h2 h.le h.ne, h1, h.le, h.ne⟩
theorem RBox.below (h : RBox w K q st W) (hb : Below W.heap.size W W') : RBox w K q st W' := ⟨h.kept.below hb, h.rd.below hb, h.le, h.ne⟩
theorem RBox.drew (h : RBox w K q st W) : RBox w K q st W.drew := ⟨h.kept.drew, h.rd.of_block rfl, h.le, h.ne⟩
theorem RBox.less (h : RBox w K q st W) {K' : List (Nat × Obj)} (hk : ∀ x ∈ K', x ∈ K) : RBox w K' q st W := ⟨h.kept.less hk, h.rd, h.le, fun x hx => h.ne x (hk x hx)⟩
theorem RBox.more (h : RBox w K q st W) (hb : Below W.heap.size W W') {u : Nat} {o : Obj} (hu : W.heap.size ≤ u) (ho : W'.heap[u]? = some o) : RBox w ((u, o) :: K) q st W' := by
  have h2 := h.below hb
  have hlt := h.rd.lt
  refine ⟨⟨h2.kept.bel, fun x hx => ?_⟩, h2.rd, h2.le, fun x hx => ?_⟩
  · rcases List.mem_cons.1 hx with rfl | hx
    · exact ⟨Nat.le_trans h.kept.bel.size hu, ho⟩
    · exact h2.kept.has x hx
  · rcases List.mem_cons.1 hx with rfl | hx
    · show u ≠ q
      omega
    · exact h2.ne x hx
theorem RBox.alloc (h : RBox w K q st W) (o : Obj) : RBox w ((W.heap.size, o) :: K) q st (W.alloc o) := h.more ((Below.refl _ _).alloc (Nat.le_refl _) o) (Nat.le_refl _) (heap_alloc_new W o)
theorem RBox.setCell {p j : Nat} {cs : Array Value} {T : TypeId} {v : Value} (h : RBox w ((p, .cells cs T (0, 0)) :: K) q st W) (hne : ∀ x ∈ K, x.1 ≠ p) : RBox w ((p, .cells (cs.setIfInBounds j v) T (0, 0)) :: K) q st (W.setCell ⟨p, j, none⟩ v) := by
  have hp : p ≠ q := h.ne _ List.mem_cons_self
  refine ⟨h.kept.setCell hne, h.rd.of_block (heap_setCell_other W _ q _ (fun e => hp e.symm)), h.le, fun x hx => ?_⟩
  rcases List.mem_cons.1 hx with rfl | hx
  · exact hp
  · exact h.ne x (List.mem_cons_of_mem _ hx)
end

theorem str_app (a b : List UInt8) : ((⟨a.toArray⟩ : ByteArray) ++ ⟨b.toArray⟩) = ⟨(a ++ b).toArray⟩ := by
  apply ByteArray.ext
  simp

end Go.Proofs.YtojpcgjmainbfaaGreat.Fld

