/-
  A device in the middle of a call, beside blocks of the call's own; what calls, new blocks and stores do to it.
-/
import Derived.Test.YtojpcgjmainbfaaGreatDevA
namespace Go.Proofs.YtojpcgjmainbfaaGreat.Dev
open Go.RowKit RowLaw
set_option maxRecDepth 100000

/-- since w, where the device p lay in the blocks B, nothing old but these has turned; it is in the state s now; the blocks K are new and none of its -/
def Box (w : World) (B : List Nat) (p : Nat) (s : DS) (K : List (Nat × Obj)) (W : World) : Prop :=
  ∃ C, Dev W p C s ∧ Step B w W C ∧ ∀ x ∈ K, w.heap.size ≤ x.1 ∧ W.heap[x.1]? = some x.2 ∧ x.1 ∉ C

section
variable {w W W' : World} {B : List Nat} {p : Nat} {s : DS} {K : List (Nat × Obj)}
theorem Box.start (h : Dev w p B s) : Box w B p s [] w := ⟨B, h, Step.refl _ _, fun _ h => by cases h⟩
theorem Box.out (h : Box w B p s K W) : ∃ C, Dev W p C s ∧ Step B w W C := by obtain ⟨C, h1, h2, _⟩ := h; exact ⟨C, h1, h2⟩
theorem Box.at_ (h : Box w B p s K W) {q : Nat} {o : Obj} (hq : (q, o) ∈ K) : W.heap[q]? = some o := by obtain ⟨_, _, _, h⟩ := h; exact (h _ hq).2.1
theorem Box.lt_ (h : Box w B p s K W) {q : Nat} {o : Obj} (hq : (q, o) ∈ K) : q < W.heap.size := (Array.getElem?_eq_some_iff.1 (h.at_ hq)).1
theorem Box.less (h : Box w B p s K W) {K' : List (Nat × Obj)} (hk : ∀ x ∈ K', x ∈ K) : Box w B p s K' W := by
  obtain ⟨C, h1, h2, h3⟩ := h
  exact ⟨C, h1, h2, fun x hx => h3 x (hk x hx)⟩
theorem Box.size (h : Box w B p s K W) : w.heap.size ≤ W.heap.size := by obtain ⟨_, _, h, _⟩ := h; exact h.turn.size
theorem Box.below (h : Box w B p s K W) (hb : Below W.heap.size W W') : Box w B p s K W' := by
  obtain ⟨C, h1, h2, h3⟩ := h
  exact ⟨C, h1.below hb, h2.trans (Step.of_turn (Turn.of_below hb)), fun x hx => ⟨(h3 x hx).1, (hb.block _ (Array.getElem?_eq_some_iff.1 (h3 x hx).2.1).1).trans (h3 x hx).2.1, (h3 x hx).2.2⟩⟩
/-- a new block is told of -/
theorem Box.more (h : Box w B p s K W) (hb : Below W.heap.size W W') {g : Nat} {o : Obj} (hg : W.heap.size ≤ g) (ho : W'.heap[g]? = some o) : Box w B p s ((g, o) :: K) W' := by
  obtain ⟨C, h1, h2, h3⟩ := h
  have hlt := h1.ltB
  have hsz := h2.turn.size
  refine ⟨C, h1.below hb, h2.trans (Step.of_turn (Turn.of_below hb)), fun x hx => ?_⟩
  rcases List.mem_cons.1 hx with rfl | hx
  · exact ⟨Nat.le_trans hsz hg, ho, fun hm => by have := hlt _ hm; omega⟩
  · exact ⟨(h3 x hx).1, (hb.block _ (Array.getElem?_eq_some_iff.1 (h3 x hx).2.1).1).trans (h3 x hx).2.1, (h3 x hx).2.2⟩
theorem Box.alloc (h : Box w B p s K W) (o : Obj) : Box w B p s ((W.heap.size, o) :: K) (W.alloc o) := h.more ((Below.refl _ _).alloc (Nat.le_refl _) o) (Nat.le_refl _) (heap_alloc_new W o)
theorem Box.drew (h : Box w B p s K W) : Box w B p s K W.drew := h.below ⟨rfl, rfl, rfl, Nat.le_refl _, fun _ _ => rfl⟩
theorem Box.drewN (h : Box w B p s K W) (n : Nat) : Box w B p s K (W.drewN n) := h.below ⟨rfl, rfl, rfl, Nat.le_refl _, fun _ _ => rfl⟩
/-- an old block that is none of the device's -/
theorem Box.old (h : Box w B p s K W) {b : Nat} (hb : b < w.heap.size) (hn : b ∉ B) : W.heap[b]? = w.heap[b]? := by
  obtain ⟨C, _, h2, _⟩ := h
  exact h2.turn.block b hb hn
/-- the device takes a step -/
theorem Box.act {s' : DS} {f : FuncId} {args : Array Value} {R : Ending → Prop} (h : Box w B p s K W)
    (hc : ∀ C, Dev W p C s → (∀ x ∈ K, x.1 ∉ C) → (∀ k ∈ C, k ∈ B ∨ w.heap.size ≤ k) → Calls Tryz.prog f args W fun e W' => R e ∧ ∃ D, Dev W' p D s' ∧ Step C W W' D) :
    Calls Tryz.prog f args W fun e W' => R e ∧ Box w B p s' K W' := by
  obtain ⟨C, h1, h2, h3⟩ := h
  refine (hc C h1 (fun x hx => (h3 x hx).2.2) h2.sub).mono fun e W' ⟨he, D, hd, hs⟩ => ⟨he, D, hd, h2.trans hs, fun x hx => ?_⟩
  have hlt := (Array.getElem?_eq_some_iff.1 (h3 x hx).2.1).1
  exact ⟨(h3 x hx).1, (hs.turn.block _ hlt (h3 x hx).2.2).trans (h3 x hx).2.1, hs.notIn hlt (h3 x hx).2.2⟩
/-- a store into one of the blocks -/
theorem Box.put {q : Nat} {o o' : Obj} (h : Box w B p s ((q, o) :: K) W) (hne : ∀ x ∈ K, x.1 ≠ q) (hq : W'.heap[q]? = some o') (hs : W'.os = W.os) (ht : W'.tape = W.tape) (hp : W'.output = W.output) (hz : W.heap.size ≤ W'.heap.size)
    (hb : ∀ k, k ≠ q → W'.heap[k]? = W.heap[k]?) : Box w B p s ((q, o') :: K) W' := by
  obtain ⟨C, h1, h2, h3⟩ := h
  have h0 := h3 _ List.mem_cons_self
  have htn : Turn [q] W W' := ⟨hs, ht, hp, hz, fun k _ hk => hb k (by simpa using hk)⟩
  refine ⟨C, h1.turn htn (fun k hk hm => ?_), ⟨⟨hs.trans h2.turn.os, ht.trans h2.turn.tape, hp.trans h2.turn.output, Nat.le_trans h2.turn.size hz, fun k hk hn => (hb k (by have := h0.1; omega)).trans (h2.turn.block k hk hn)⟩, h2.sub⟩, fun x hx => ?_⟩
  · simp only [List.mem_singleton] at hm
    exact h0.2.2 (hm ▸ hk)
  · rcases List.mem_cons.1 hx with rfl | hx
    · exact ⟨h0.1, hq, h0.2.2⟩
    · have h4 := h3 x (List.mem_cons_of_mem _ hx)
      exact ⟨h4.1, (hb _ (hne x hx)).trans h4.2.1, h4.2.2⟩
theorem Box.setCell {q j : Nat} {cs : Array Value} {T : TypeId} {v : Value} (h : Box w B p s ((q, .cells cs T (0, 0)) :: K) W) (hne : ∀ x ∈ K, x.1 ≠ q) : Box w B p s ((q, .cells (cs.setIfInBounds j v) T (0, 0)) :: K) (W.setCell ⟨q, j, none⟩ v) :=
  h.put hne (heap_setCell_same W q j _ _ _ (h.at_ List.mem_cons_self)) rfl rfl rfl (by simp [World.setCell]) (fun k hk => heap_setCell_other W ⟨q, j, none⟩ k v hk)
theorem Box.setRow {q : Nat} {cs cs' : Array Value} {T : TypeId} (h : Box w B p s ((q, .cells cs T (0, 0)) :: K) W) (hne : ∀ x ∈ K, x.1 ≠ q) : Box w B p s ((q, .cells cs' T (0, 0)) :: K) (W.setRow q cs') :=
  h.put hne (setRow_heap W q _ _ _ _ (h.at_ List.mem_cons_self)) rfl rfl rfl (by simp) (fun k hk => setRow_other W q k _ hk)
theorem Box.notin (h : Box w B p s K W) : ∀ x ∈ K, x.1 ≠ W.heap.size := fun x hx e => by
  have := h.lt_ (q := x.1) (o := x.2) hx
  omega

/-! the methods -/
theorem Box.read (h : Box w B p s K W) {a : Nat} (ha : a < 4294967296) (hlen : s.pend.length < 4294967296) :
    Calls Tryz.prog 94 #[ptr p, .int .u32 (a : Int)] W fun e W' => e = .returned (.tuple #[.agg (cellsOf (readR s a)), .int .i64 (readE s a)]) ∧ Box w B p s K W' :=
  h.act fun C hd _ _ => (Read_any hd ha hlen).mono fun _ _ ⟨he, hb⟩ => ⟨he, C, hd.below hb, Step.of_turn (Turn.of_below hb)⟩
theorem Box.write (h : Box w B p s K W) {a : Nat} (ha : a < 4294967296) {l : List UInt8} (hl : l.length = 256) (hlen : s.pend.length < 4294967295) :
    Calls Tryz.prog 88 #[ptr p, .int .u32 (a : Int), .agg (cellsOf l)] W fun e W' => e = .returned (.int .i64 (writeE s a)) ∧ Box w B p (writeS s a l) K W' :=
  h.act fun _ hd _ _ => (Write_any hd ha hl hlen).mono fun _ _ ⟨he, D, h1, h2⟩ => ⟨he, D, h1, h2⟩
theorem Box.flush (h : Box w B p s K W) (hlen : s.pend.length < 4294967296) :
    Calls Tryz.prog 90 #[ptr p] W fun e W' => e = .returned (.int .i64 (flushE s)) ∧ Box w B p (flushS s) K W' :=
  h.act fun _ hd _ _ => (Flush_any hd hlen).mono fun _ _ ⟨he, D, h1, h2⟩ => ⟨he, D, h1, h2⟩

/-! several devices, one of which takes a step -/
theorem Many.act {l : List (Nat × DS)} {i : Nat} {s' : DS} {f : FuncId} {args : Array Value} {R : Ending → Prop} (h : Many w l K W) (hi : l[i]? = some (p, s))
    (hc : ∀ C, Dev W p C s → (∀ x ∈ K, x.1 ∉ C) → (∀ k ∈ C, w.heap.size ≤ k) → Calls Tryz.prog f args W fun e W' => R e ∧ ∃ D, Dev W' p D s' ∧ Step C W W' D) :
    Calls Tryz.prog f args W fun e W' => R e ∧ Many w (l.set i (p, s')) K W' := by
  obtain ⟨h1, g, h2, h3, h4⟩ := h
  have hil := (List.getElem?_eq_some_iff.1 hi).1
  exact (hc (g i) (h2 i p s hi).1 (fun x hx => (h4 x hx).2 i hil) (h2 i p s hi).2).mono fun _ _ ⟨he, D, hd, hs⟩ => ⟨he, Many.step hi h1 h2 h3 h4 hd hs⟩
end

end Go.Proofs.YtojpcgjmainbfaaGreat.Dev
