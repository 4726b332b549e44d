/-
  Devices in memory: what one of them reads as; the blocks that it lies in; what an operation on one of them leaves as it was.
-/
import Derived.Test.YtlgjgobelceheaaDevMap
import Derived.Lib.Hide
namespace Go.Proofs.Ytlgjgobelceheaa.Dev
open Go.RowKit Go.Maps Go.MapKept RowLaw

/-- a device, by value: its size, the blocks that are durable, the writes that are pending, what the fuse has left (-1: there is none), is it down, how many writes and flushes succeeded -/
structure DS where
  n : Nat
  g : Nat → List UInt8
  pend : List (Nat × List UInt8)
  left : Int
  down : Bool
  writes : Nat

def devCells (s : DS) (bm : Nat) (pv : Value) : Array Value :=
  #[.int .u32 (s.n : Int), .map (some bm), pv, .int .i64 s.left, .bool s.down, .int .u64 ((s.writes % 18446744073709551616 : Nat) : Int)]
def putCells (x : Nat × List UInt8) : List Value := .int .u32 (x.1 : Int) :: (cellsOf x.2).toList
def pendCells (l : List (Nat × List UInt8)) : List Value := l.flatMap putCells

theorem putCells_length {x : Nat × List UInt8} (h : x.2.length = 256) : (putCells x).length = 257 := by
  simp [putCells, cellsOf, h]
theorem pendCells_length : ∀ {l : List (Nat × List UInt8)}, (∀ x ∈ l, x.2.length = 256) → (pendCells l).length = l.length * 257
  | [], _ => rfl
  | x :: r, h => by
    have := pendCells_length (l := r) (fun y hy => h y (by simp [hy]))
    simp only [pendCells, List.flatMap_cons, List.length_append, List.length_cons] at this ⊢
    rw [putCells_length (h x (by simp)), this]; omega
theorem pendCells_append (l m : List (Nat × List UInt8)) : pendCells (l ++ m) = pendCells l ++ pendCells m := by simp [pendCells]
theorem pendCells_get : ∀ {l : List (Nat × List UInt8)}, (∀ x ∈ l, x.2.length = 256) → ∀ (i : Nat) (hi : i < l.length) (j : Nat), j < 257 → (pendCells l)[i * 257 + j]? = (putCells l[i])[j]?
  | x :: r, h, 0, _, j, hj => by
    have hx := putCells_length (h x (by simp))
    have e1 : pendCells (x :: r) = putCells x ++ pendCells r := rfl
    rw [e1, Nat.zero_mul, Nat.zero_add, List.getElem?_append_left (by rw [hx]; exact hj)]
    rfl
  | x :: r, h, i + 1, hi, j, hj => by
    have hx := putCells_length (h x (by simp))
    have := pendCells_get (l := r) (fun y hy => h y (by simp [hy])) i (by simpa using hi) j hj
    have e1 : pendCells (x :: r) = putCells x ++ pendCells r := rfl
    have e2 : (i + 1) * 257 + j = 257 + (i * 257 + j) := by rw [Nat.succ_mul]; omega
    have e3 : (x :: r)[i + 1] = r[i]'(by simpa using hi) := rfl
    rw [e1, e2, e3, List.getElem?_append_right (by rw [hx]; exact Nat.le_add_right _ _), hx, Nat.add_sub_cancel_left]
    exact this

structure DevAt (w : World) (p bm : Nat) (pv : Value) (B : List Nat) (s : DS) : Prop where
  obj : w.heap[p]? = some (.cells (devCells s bm pv) 54 (0, 0))
  map : MapIs w bm s.g
  row : w.ownsRow 0 72 257 pv s.pend.length (pendCells s.pend)
  inP : p ∈ B
  inM : bm ∈ B
  inR : ∀ k, pv.ownBlock = some k → k ∈ B
  ltB : ∀ k ∈ B, k < w.heap.size
  okP : ∀ x ∈ s.pend, x.2.length = 256
  okA : ∀ x ∈ s.pend, x.1 < 4294967296
  okG : ∀ a, (s.g a).length = 256
  okN : 0 < s.n ∧ s.n < 4294967296
  okL : -1 ≤ s.left ∧ s.left < 9223372036854775808
def Dev (w : World) (p : Nat) (B : List Nat) (s : DS) : Prop := ∃ bm pv, DevAt w p bm pv B s

/-- Nothing old but the blocks B has turned. -/
structure Turn (B : List Nat) (w w' : World) : Prop where
  os : w'.os = w.os
  tape : w'.tape = w.tape
  output : w'.output = w.output
  size : w.heap.size ≤ w'.heap.size
  block : ∀ k, k < w.heap.size → k ∉ B → w'.heap[k]? = w.heap[k]?

section
variable {B C D : List Nat} {w w' : World}
theorem Turn.refl (B : List Nat) (w : World) : Turn B w w := ⟨rfl, rfl, rfl, Nat.le_refl _, fun _ _ _ => rfl⟩
theorem Turn.trans {a b c : World} (h : Turn B a b) (k : Turn B b c) : Turn B a c :=
  ⟨k.os.trans h.os, k.tape.trans h.tape, k.output.trans h.output, Nat.le_trans h.size k.size, fun i hi hp => (k.block i (Nat.lt_of_lt_of_le hi h.size) hp).trans (h.block i hi hp)⟩
theorem Turn.of_grown {b : Nat} (h : w.grownBy w' (some b)) (hb : b ∈ B) : Turn B w w' := ⟨h.os, h.tape, h.output, h.size, fun k hk hn => h.block k hk (fun e => hn (by cases e; exact hb))⟩
theorem Turn.of_grown' {r : Option Nat} (h : w.grownBy w' r) (hb : ∀ k, r = some k → k ∈ B) : Turn B w w' := ⟨h.os, h.tape, h.output, h.size, fun k hk hn => h.block k hk (fun e => hn (hb k e.symm))⟩
theorem Turn.of_below (h : Below w.heap.size w w') : Turn B w w' := ⟨h.os, h.tape, h.output, h.size, fun k hk _ => h.block k hk⟩
theorem Turn.nil (h : Turn [] w w') : Below w.heap.size w w' := ⟨h.os, h.tape, h.output, h.size, fun k hk => h.block k hk (by simp)⟩
theorem Turn.below {b : Nat} (h : Turn B w w') (hB : ∀ k ∈ B, b ≤ k) (hb : b ≤ w.heap.size) : Below b w w' :=
  ⟨h.os, h.tape, h.output, h.size, fun k hk => h.block k (by omega) (fun hm => by have := hB k hm; omega)⟩
theorem Turn.mono (h : Turn B w w') (hB : ∀ k ∈ B, k ∈ C) : Turn C w w' := ⟨h.os, h.tape, h.output, h.size, fun k hk hn => h.block k hk (fun hm => hn (hB k hm))⟩
theorem Turn.drew (h : Turn B w w') : Turn B w w'.drew := ⟨h.os, h.tape, h.output, h.size, h.block⟩
theorem Turn.alloc (h : Turn B w w') (o : Obj) : Turn B w (w'.alloc o) := h.trans (Turn.of_below ((Below.refl _ _).alloc (Nat.le_refl _) o))
theorem Turn.setCell (h : Turn B w w') (q : Addr) (v : Value) (hq : q.block ∈ B ∨ w.heap.size ≤ q.block) : Turn B w (w'.setCell q v) :=
  ⟨h.os, h.tape, h.output, Nat.le_trans h.size (by simp [World.setCell]), fun k hk hn => (heap_setCell_other w' q k v (fun e => by
    rcases hq with hq | hq
    · exact hn (e ▸ hq)
    · omega)).trans (h.block k hk hn)⟩
theorem Turn.cell (h : Turn B w w') {q : Addr} (hq : q.block < w.heap.size) (hn : q.block ∉ B) : w'.cell? q = w.cell? q := World.cell?_of_block (w := w) (h.block q.block hq hn)
theorem Turn.frozen (h : Turn B w w') {q : Addr} (hq : q.block < w.heap.size) (hn : q.block ∉ B) : w'.frozen? q = w.frozen? q := World.frozen?_of_block (w := w) (h.block q.block hq hn)

/-- .. and what lies in B' now lay in B, or is new. -/
structure Step (B : List Nat) (w w' : World) (B' : List Nat) : Prop where
  turn : Turn B w w'
  sub : ∀ k ∈ B', k ∈ B ∨ w.heap.size ≤ k
theorem Step.refl (B : List Nat) (w : World) : Step B w w B := ⟨Turn.refl _ _, fun _ h => .inl h⟩
theorem Step.of_turn (h : Turn B w w') : Step B w w' B := ⟨h, fun _ h => .inl h⟩
theorem Step.trans {a b c : World} (h : Step B a b C) (k : Step C b c D) : Step B a c D :=
  ⟨⟨k.turn.os.trans h.turn.os, k.turn.tape.trans h.turn.tape, k.turn.output.trans h.turn.output, Nat.le_trans h.turn.size k.turn.size, fun i hi hp => (k.turn.block i (Nat.lt_of_lt_of_le hi h.turn.size) (fun hm => by
      rcases h.sub i hm with h1 | h1
      · exact hp h1
      · omega)).trans (h.turn.block i hi hp)⟩,
   fun i hi => by
    rcases k.sub i hi with h1 | h1
    · exact h.sub i h1
    · exact .inr (Nat.le_trans h.turn.size h1)⟩
theorem Step.above {b : Nat} (h : Step B w w' C) (hB : ∀ k ∈ B, b ≤ k) (hb : b ≤ w.heap.size) : ∀ k ∈ C, b ≤ k := fun k hk => by
  rcases h.sub k hk with h1 | h1
  · exact hB k h1
  · omega
theorem Step.below {b : Nat} (h : Step B w w' C) (hB : ∀ k ∈ B, b ≤ k) (hb : b ≤ w.heap.size) : Below b w w' := h.turn.below hB hb
theorem Step.notIn (h : Step B w w' C) {k : Nat} (hk : k < w.heap.size) (hn : k ∉ B) : k ∉ C := fun hm => by
  rcases h.sub k hm with h1 | h1
  · exact hn h1
  · omega
end

theorem MapIs.turn {w w' : World} {b : Nat} {g : Nat → List UInt8} {B : List Nat} (h : MapIs w b g) (ht : Turn B w w') (hb : b ∉ B) : MapIs w' b g := h.kept (ht.block b h.lt hb)

theorem ownsRow_block {w w' : World} {base : Nat} {e : TypeId} {size : Nat} {v : Value} {n : Nat} {xs : List Value} (h : w.ownsRow base e size v n xs) (hb : ∀ k, v.ownBlock = some k → w'.heap[k]? = w.heap[k]?) : w'.ownsRow base e size v n xs := by
  obtain ⟨h1, h2⟩ := h
  refine ⟨h1, ?_⟩
  rcases h2 with h2 | ⟨g, cap, cur, rfl, h3, h4, h5⟩
  · exact .inl h2
  · exact .inr ⟨g, cap, cur, rfl, h3, (hb g rfl).trans h4, h5⟩

section
variable {w w' : World} {p bm : Nat} {pv : Value} {B C : List Nat} {s : DS}
theorem DevAt.turn (h : DevAt w p bm pv B s) (ht : Turn C w w') (hd : ∀ k ∈ B, k ∉ C) : DevAt w' p bm pv B s :=
  { h with
    obj := (ht.block p (h.ltB p h.inP) (hd p h.inP)).trans h.obj
    map := h.map.turn ht (hd bm h.inM)
    row := ownsRow_block h.row (fun k hk => ht.block k (h.ltB k (h.inR k hk)) (hd k (h.inR k hk)))
    ltB := fun k hk => Nat.lt_of_lt_of_le (h.ltB k hk) ht.size }
theorem DevAt.below (h : DevAt w p bm pv B s) (ht : Below w.heap.size w w') : DevAt w' p bm pv B s := h.turn (C := []) (Turn.of_below ht) (by simp)
theorem DevAt.alloc (h : DevAt w p bm pv B s) (o : Obj) : DevAt (w.alloc o) p bm pv B s := h.below ((Below.refl _ _).alloc (Nat.le_refl _) o)
theorem DevAt.drew (h : DevAt w p bm pv B s) : DevAt w.drew p bm pv B s := h.below ⟨rfl, rfl, rfl, Nat.le_refl _, fun _ _ => rfl⟩
theorem Dev.turn (h : Dev w p B s) (ht : Turn C w w') (hd : ∀ k ∈ B, k ∉ C) : Dev w' p B s := by
  obtain ⟨bm, pv, h⟩ := h
  exact ⟨bm, pv, h.turn ht hd⟩
theorem Dev.below (h : Dev w p B s) (ht : Below w.heap.size w w') : Dev w' p B s := h.turn (C := []) (Turn.of_below ht) (by simp)
theorem Dev.alloc (h : Dev w p B s) (o : Obj) : Dev (w.alloc o) p B s := h.below ((Below.refl _ _).alloc (Nat.le_refl _) o)
theorem Dev.lt (h : Dev w p B s) : p < w.heap.size := by obtain ⟨_, _, h⟩ := h; exact h.ltB p h.inP
theorem Dev.ltB (h : Dev w p B s) : ∀ k ∈ B, k < w.heap.size := by obtain ⟨_, _, h⟩ := h; exact h.ltB

theorem DevAt.cell (h : DevAt w p bm pv B s) (j : Nat) : w.cell? ⟨p, j, none⟩ = (devCells s bm pv)[j]? := cell_of_row w p j _ _ _ h.obj
theorem DevAt.frozen (h : DevAt w p bm pv B s) (j : Nat) : w.frozen? ⟨p, j, none⟩ = false := frozen_of_row w p j _ _ h.obj
theorem DevAt.neM (h : DevAt w p bm pv B s) : bm ≠ p := fun e => by
  obtain ⟨es, cl, h1, _⟩ := h.map
  rw [e, h.obj] at h1
  cases h1
theorem DevAt.neR (h : DevAt w p bm pv B s) : pv.ownBlock ≠ some p := fun e => by
  rcases h.row.2 with ⟨rfl, _⟩ | ⟨g, cap, cur, rfl, h3, h4, _⟩
  · cases e
  · simp only [Value.ownBlock, Option.some.injEq] at e
    rw [e, h.obj] at h4
    injection h4 with h4
    injection h4 with h4 h5
    exact absurd h5 (by decide)
theorem DevAt.neMR (h : DevAt w p bm pv B s) : pv.ownBlock ≠ some bm := fun e => by
  rcases h.row.2 with ⟨rfl, _⟩ | ⟨g, cap, cur, rfl, h3, h4, _⟩
  · cases e
  · simp only [Value.ownBlock, Option.some.injEq] at e
    obtain ⟨es, cl, h1, _⟩ := h.map
    rw [e, h1] at h4
    cases h4
/-- a field is stored -/
theorem DevAt.setField (h : DevAt w p bm pv B s) (j : Nat) (v : Value) (s' : DS) (pv' : Value) (hc : (devCells s bm pv).setIfInBounds j v = devCells s' bm pv') (hg : s'.g = s.g) (hn : s'.n = s.n)
    (hrow : (pv' = pv ∧ s'.pend = s.pend) ∨ (pv' = .slice none 0 0 ∧ s'.pend = [])) (hl : -1 ≤ s'.left ∧ s'.left < 9223372036854775808) : DevAt (w.setCell ⟨p, j, none⟩ v) p bm pv' B s' := by
  have ho := heap_setCell_same w p j _ _ v h.obj
  rw [hc] at ho
  refine ⟨ho, ?_, ?_, h.inP, h.inM, ?_, ?_, ?_, ?_, ?_, ?_, hl⟩
  · rw [hg]; exact h.map.kept (heap_setCell_other w _ _ v h.neM)
  · rcases hrow with ⟨rfl, hp⟩ | ⟨rfl, hp⟩
    · rw [hp]
      exact ownsRow_block h.row (fun k hk => heap_setCell_other w _ _ v (fun e => h.neR (by rw [hk, e])))
    · rw [hp]; exact World.ownsRow_nil _ _ _ _
  · rcases hrow with ⟨rfl, _⟩ | ⟨rfl, _⟩
    · exact h.inR
    · intro k hk; cases hk
  · intro k hk; have := h.ltB k hk; simpa [World.setCell] using this
  · rcases hrow with ⟨_, hp⟩ | ⟨_, hp⟩
    · rw [hp]; exact h.okP
    · rw [hp]; simp
  · rcases hrow with ⟨_, hp⟩ | ⟨_, hp⟩
    · rw [hp]; exact h.okA
    · rw [hp]; simp
  · rw [hg]; exact h.okG
  · rw [hn]; exact h.okN
end

/-- the element of the row of pending writes that has the number i, cell by cell -/
theorem DevAt.pendAt {w : World} {p bm : Nat} {pv : Value} {B : List Nat} {s : DS} (h : DevAt w p bm pv B s) (i : Nat) (hi : i < s.pend.length) :
    ∃ gr cap, pv = .slice (some ⟨gr, 0, none⟩) s.pend.length cap ∧ ∀ j, j < 257 → w.cell? ⟨gr, i * 257 + j, none⟩ = (putCells s.pend[i])[j]? := by
  rcases h.row.2 with ⟨_, h0⟩ | ⟨gr, cap, cur, he, h3, h4, h5, h6, h7, h8⟩
  · omega
  · refine ⟨gr, cap, he, fun j hj => ?_⟩
    have hr := h.row
    rw [he] at hr
    rw [hr.cellAt (i * 257 + j) (by have : i * 257 + 257 ≤ s.pend.length * 257 := by rw [← Nat.succ_mul]; exact Nat.mul_le_mul_right _ hi
                                    omega)]
    exact pendCells_get h.okP i hi j hj

end Go.Proofs.Ytlgjgobelceheaa.Dev
