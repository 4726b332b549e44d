/-
  Blocks of a law's own that stay as they are told, one list of them; what calls, new blocks and stores do to it.
-/
import Derived.Test.YtojpcgjmainbfaaGreatRowLaws
namespace Go.Proofs.YtojpcgjmainbfaaGreat
open Go.RowKit RowLaw

/-- W is w but for what is new; the blocks K, all of them new, are as told -/
structure Kept (w : World) (K : List (Nat × Obj)) (W : World) : Prop where
  bel : Below w.heap.size w W
  has : ∀ x ∈ K, w.heap.size ≤ x.1 ∧ W.heap[x.1]? = some x.2
section
variable {w W W' : World} {K : List (Nat × Obj)}
theorem Kept.start (w : World) : Kept w [] w := ⟨Below.refl _ _, fun _ h => by cases h⟩
theorem Kept.at_ (h : Kept w K W) {q : Nat} {o : Obj} (hq : (q, o) ∈ K) : W.heap[q]? = some o := (h.has _ hq).2
theorem Kept.lt_ (h : Kept w K W) {q : Nat} {o : Obj} (hq : (q, o) ∈ K) : q < W.heap.size := (Array.getElem?_eq_some_iff.1 (h.at_ hq)).1
theorem Kept.less (h : Kept w K W) {K' : List (Nat × Obj)} (hk : ∀ x ∈ K', x ∈ K) : Kept w K' W := ⟨h.bel, fun x hx => h.has x (hk x hx)⟩
theorem Kept.below (h : Kept w K W) (hb : Below W.heap.size W W') : Kept w K W' :=
  ⟨h.bel.trans (hb.mono h.bel.size), fun x hx => ⟨(h.has x hx).1, (hb.block _ (Array.getElem?_eq_some_iff.1 (h.has x hx).2).1).trans (h.has x hx).2⟩⟩
theorem Kept.alloc (h : Kept w K W) (o : Obj) : Kept w ((W.heap.size, o) :: K) (W.alloc o) := by
  have h' := h.below ((Below.refl _ _).alloc (Nat.le_refl _) o)
  refine ⟨h'.bel, fun x hx => ?_⟩
  rcases List.mem_cons.1 hx with rfl | hx
  · exact ⟨h.bel.size, heap_alloc_new W o⟩
  · exact h'.has x hx
theorem Kept.drew (h : Kept w K W) : Kept w K W.drew := ⟨h.bel.drew, h.has⟩
theorem Kept.drewN (h : Kept w K W) (n : Nat) : Kept w K (W.drewN n) := ⟨⟨h.bel.os, h.bel.tape, h.bel.output, h.bel.size, h.bel.block⟩, h.has⟩
/-- a store into one of them -/
theorem Kept.put {q : Nat} {o o' : Obj} (h : Kept w ((q, o) :: K) W) (hne : ∀ x ∈ K, x.1 ≠ q) (hq : W'.heap[q]? = some o') (hs : W'.os = W.os) (ht : W'.tape = W.tape) (hp : W'.output = W.output) (hz : W.heap.size ≤ W'.heap.size)
    (hb : ∀ k, k ≠ q → W'.heap[k]? = W.heap[k]?) : Kept w ((q, o') :: K) W' := by
  have h0 := h.has _ (List.mem_cons_self)
  refine ⟨⟨hs.trans h.bel.os, ht.trans h.bel.tape, hp.trans h.bel.output, Nat.le_trans h.bel.size hz, fun k hk => (hb k (by have := h0.1; omega)).trans (h.bel.block k hk)⟩, fun x hx => ?_⟩
  rcases List.mem_cons.1 hx with rfl | hx
  · exact ⟨h0.1, hq⟩
  · have h1 := h.has x (List.mem_cons_of_mem _ hx)
    exact ⟨h1.1, (hb _ (hne x hx)).trans h1.2⟩
theorem Kept.setCell {q j : Nat} {cs : Array Value} {T : TypeId} {v : Value} (h : Kept w ((q, .cells cs T (0, 0)) :: K) W) (hne : ∀ x ∈ K, x.1 ≠ q) : Kept w ((q, .cells (cs.setIfInBounds j v) T (0, 0)) :: K) (W.setCell ⟨q, j, none⟩ v) :=
  h.put hne (heap_setCell_same W q j _ _ _ (h.at_ List.mem_cons_self)) rfl rfl rfl (by simp [World.setCell]) (fun k hk => heap_setCell_other W ⟨q, j, none⟩ k v hk)
theorem Kept.setRow {q : Nat} {cs cs' : Array Value} {T : TypeId} (h : Kept w ((q, .cells cs T (0, 0)) :: K) W) (hne : ∀ x ∈ K, x.1 ≠ q) : Kept w ((q, .cells cs' T (0, 0)) :: K) (W.setRow q cs') :=
  h.put hne (setRow_heap W q _ _ _ _ (h.at_ List.mem_cons_self)) rfl rfl rfl (by simp) (fun k hk => setRow_other W q k _ hk)
theorem Kept.notin (h : Kept w K W) : ∀ x ∈ K, x.1 ≠ W.heap.size := fun x hx e => by
  have := (Array.getElem?_eq_some_iff.1 (h.has x hx).2).1
  omega
end

end Go.Proofs.YtojpcgjmainbfaaGreat
