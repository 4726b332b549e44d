/-
  DevA: DevApartMath, DevApartKit, DevMany.
-/
import Derived.Test.YtojpcgjmainbfaaGreatDev3
import Derived.Test.YtojpcgjmainbfaaGreatDevGreat
/-
  Of a crash the order of what is kept does not count, if no address is pending twice.
-/
namespace Go.Proofs.YtojpcgjmainbfaaGreat.Dev
open Go.RowKit RowLaw
set_option maxRecDepth 100000

def hit (ks : List (Nat × Nat)) (i j : Nat) : Bool := ks.any fun k => k.1 == i && k.2.testBit (j / 64)
end Go.Proofs.YtojpcgjmainbfaaGreat.Dev

/-
  What the walk of the law DevApart stands on.
-/
namespace Go.Proofs.YtojpcgjmainbfaaGreat.Dev
open Go.RowKit RowLaw
set_option maxRecDepth 100000

def boolCells (f : Nat → Bool) : Array Value := ((List.range 64).map fun j => Value.bool (f j)).toArray
def fset (f : Nat → Bool) (a : Nat) : Nat → Bool := fun x => if x = a then true else f x
theorem boolCells_get (f : Nat → Bool) {a : Nat} (ha : a < 64) : (boolCells f)[a]? = some (.bool (f a)) := by simp [boolCells, ha]
theorem boolCells_set (f : Nat → Bool) (a : Nat) : (boolCells f).setIfInBounds a (.bool true) = boolCells (fset f a) := by
  apply Array.ext_getElem?
  intro j
  rw [Array.getElem?_setIfInBounds]
  by_cases hj : a = j
  · subst hj
    rw [if_pos rfl]
    by_cases h : a < 64
    · rw [if_pos (by simp [boolCells, h]), boolCells_get _ h]; simp [fset]
    · rw [if_neg (by simp [boolCells, h]), Array.getElem?_eq_none (by simp [boolCells]; omega)]
  · rw [if_neg hj]
    by_cases h : j < 64
    · rw [boolCells_get _ h, boolCells_get _ h, fset, if_neg (fun e => hj e.symm)]
    · rw [Array.getElem?_eq_none (by simp [boolCells]; omega), Array.getElem?_eq_none (by simp [boolCells]; omega)]

section
variable {w W : World} {p : Nat} {s : DS} {K : List (Nat × Obj)}
/-- a cell of a block beside the device is written -/
theorem Live.setK {q : Nat} {cs : Array Value} {T : TypeId} (h : Live w p s [(q, .cells cs T)] W) (hq : w.heap.size ≤ q) (j : Nat) (v : Value) : Live w p s [(q, .cells (cs.setIfInBounds j v) T)] (W.setCell ⟨q, j, none⟩ v) := by
  obtain ⟨B, h1, h2, h3, h4⟩ := h
  obtain ⟨k1, k2, k3⟩ := h4 (q, .cells cs T) (by simp)
  have ht : Turn [q] W (W.setCell ⟨q, j, none⟩ v) := (Turn.refl _ _).setCell _ _ (.inl (by simp))
  refine ⟨B, h1.turn ht (fun k hk hm => by simp only [List.mem_singleton] at hm; subst hm; exact k2 hk), h2, h3.setCell (p := ⟨q, j, none⟩) hq v, fun x hx => ?_⟩
  simp only [List.mem_singleton] at hx
  subst hx
  exact ⟨heap_setCell_same W q j _ _ v k1, k2, by simpa [World.setCell] using k3⟩
/-- a new block is told of -/
theorem Live.more {W' : World} (h : Live w p s K W) (hb : Below W.heap.size W W') {g : Nat} {o : Obj} (hg : W.heap.size ≤ g) (ho : W'.heap[g]? = some o) : Live w p s ((g, o) :: K) W' := by
  obtain ⟨B, h1, h2, h3, h4⟩ := h
  refine ⟨B, h1.below hb, h2, h3.trans (hb.mono h3.size), fun x hx => ?_⟩
  rcases List.mem_cons.1 hx with rfl | hx
  · exact ⟨ho, fun hm => by have := h1.ltB _ hm; simp only at this; omega, (Array.getElem?_eq_some_iff.1 ho).1⟩
  · exact ⟨(hb.block _ (h4 x hx).2.2).trans (h4 x hx).1, (h4 x hx).2.1, Nat.lt_of_lt_of_le (h4 x hx).2.2 hb.size⟩
end

/-- the device behind i acts; f: which addresses were written -/
structure AP (f : Nat → Bool) (i : Nat) (s : DS) : Prop where
  n : s.n = 64
  g : s.g = gZ
  left : s.left = -1
  down : s.down = false
  len : s.pend.length ≤ i
  dist : s.pend.Pairwise (fun x y => x.1 ≠ y.1)
  seen : ∀ a, a < 64 → (f a = true ↔ ∃ y ∈ s.pend, y.1 = a)
  addr : ∀ y ∈ s.pend, y.1 < 64 ∧ y.2.length = 256
theorem AP.new : AP (fun _ => false) 0 (newS 64) := ⟨rfl, rfl, rfl, rfl, Nat.le_refl _, List.Pairwise.nil, fun a _ => by simp [newS], fun y hy => by cases hy⟩
theorem AP.again {f : Nat → Bool} {i : Nat} {s : DS} (h : AP f i s) {a : Nat} (hf : f a = true) : AP (fset f a) (i + 1) s :=
  ⟨h.n, h.g, h.left, h.down, by have := h.len; omega, h.dist, fun b hb => by
    by_cases e : b = a
    · subst e; exact ⟨fun _ => (h.seen b hb).1 hf, fun _ => if_pos rfl⟩
    · rw [fset, if_neg e]; exact h.seen b hb, h.addr⟩
theorem AP.write {f : Nat → Bool} {i : Nat} {s : DS} (h : AP f i s) {a : Nat} (ha : a < 64) (hf : f a = false) {l : List UInt8} (hl : l.length = 256) : AP (fset f a) (i + 1) (writeS s a l) := by
  have e : writeS s a l = succS (pushS s a l) := by rw [writeS, if_neg (by rw [h.n]; omega), if_neg (by rw [h.down]; simp)]
  have e2 : succS (pushS s a l) = { pushS s a l with left := -1, writes := s.writes + 1 } := by
    have h0 : (pushS s a l).left = -1 := h.left
    rw [succS, if_neg (by rw [h0]; omega), if_pos h0]
    rfl
  rw [e, e2]
  have hno : ∀ y ∈ s.pend, y.1 ≠ a := fun y hy e3 => by
    have := (h.seen a ha).2 ⟨y, hy, e3⟩
    rw [hf] at this
    cases this
  refine ⟨h.n, h.g, rfl, h.down, ?_, ?_, ?_, ?_⟩
  · show (s.pend ++ [(a, l)]).length ≤ i + 1
    have := h.len; simp; omega
  · show (s.pend ++ [(a, l)]).Pairwise _
    refine List.pairwise_append.2 ⟨h.dist, List.pairwise_singleton _ _, fun x hx y hy => ?_⟩
    simp only [List.mem_singleton] at hy
    subst hy
    exact hno x hx
  · intro b hb
    show fset f a b = true ↔ ∃ y ∈ s.pend ++ [(a, l)], y.1 = b
    by_cases e3 : b = a
    · subst e3
      rw [fset, if_pos rfl]
      exact ⟨fun _ => ⟨(b, l), by simp, rfl⟩, fun _ => rfl⟩
    · rw [fset, if_neg e3, h.seen b hb]
      constructor
      · rintro ⟨y, hy, h2⟩; exact ⟨y, by simp [hy], h2⟩
      · rintro ⟨y, hy, h2⟩
        rcases List.mem_append.1 hy with hy | hy
        · exact ⟨y, hy, h2⟩
        · simp only [List.mem_singleton] at hy; subst hy; exact absurd h2.symm e3
  · intro y hy
    rcases List.mem_append.1 hy with hy | hy
    · exact h.addr y hy
    · simp only [List.mem_singleton] at hy; subst hy; exact ⟨ha, hl⟩

def LiveA (w : World) (p sb : Nat) (f : Nat → Bool) (i : Nat) (W : World) : Prop := ∃ s, AP f i s ∧ Live w p s [(sb, .cells (boolCells f) 4)] W


theorem LiveA.bel {w W : World} {p sb i : Nat} {f : Nat → Bool} (h : LiveA w p sb f i W) : Below w.heap.size w W := by obtain ⟨_, _, h⟩ := h; exact h.bel
theorem LiveA.again {w W : World} {p sb i : Nat} {f : Nat → Bool} (h : LiveA w p sb f i W) (hs : w.heap.size ≤ sb) {a : Nat} (hf : f a = true) : LiveA w p sb (fset f a) (i + 1) (W.setCell ⟨sb, a, none⟩ (.bool true)) := by
  obtain ⟨s, h1, h2⟩ := h
  refine ⟨s, h1.again hf, ?_⟩
  rw [← boolCells_set]
  exact h2.setK hs a _
/-- a device behind a write of an address not written yet; told of it is not yet -/
def LiveB (w : World) (p sb : Nat) (f : Nat → Bool) (a i : Nat) (W : World) : Prop := ∃ s, AP (fset f a) i s ∧ Live w p s [(sb, .cells (boolCells f) 4)] W
theorem LiveB.bel {w W : World} {p sb a i : Nat} {f : Nat → Bool} (h : LiveB w p sb f a i W) : Below w.heap.size w W := by obtain ⟨_, _, h⟩ := h; exact h.bel
theorem LiveB.set {w W : World} {p sb i : Nat} {f : Nat → Bool} {a : Nat} (h : LiveB w p sb f a i W) (hs : w.heap.size ≤ sb) : LiveA w p sb (fset f a) i (W.setCell ⟨sb, a, none⟩ (.bool true)) := by
  obtain ⟨s, h1, h2⟩ := h
  refine ⟨s, h1, ?_⟩
  rw [← boolCells_set]
  exact h2.setK hs a _

/-- what an append to an own row leaves -/
theorem below_own {W W1 : World} {base : Nat} {e : TypeId} {size n : Nat} {v : Value} {xs : List Value} (h : W.ownsRow base e size v n xs) (hg : W.grownBy W1 v.ownBlock) (hb : base ≤ W.heap.size) : Below base W W1 :=
  ⟨hg.os, hg.tape, hg.output, hg.size, fun k hk => hg.block k (by omega) (fun e2 => by
    rcases h.2 with ⟨rfl, _⟩ | ⟨g, cap, cur, rfl, h5, _⟩
    · cases e2
    · cases e2; have hk' : g < base := hk; omega)⟩
theorem new_cells (W : World) (cs : List Value) (T : TypeId) : ∀ j u, cs[j]? = some u → (W.alloc (.cells cs.toArray T)).cell? (Addr.add ⟨W.heap.size, 0, none⟩ j) = some u := fun j u hj => by
  rw [Addr.add_mid, Nat.zero_add, cell_of_row _ W.heap.size j _ _ _ (heap_alloc_new W _)]
  simpa using hj
/-- two devices, to be read, beside blocks that stay -/
def Two (w : World) (p : Nat) (s1 : DS) (q : Nat) (s2 : DS) (K : List (Nat × Obj)) (W : World) : Prop := (∃ B, Dev W p B s1) ∧ (∃ C, Dev W q C s2) ∧ Below w.heap.size w W ∧ ∀ x ∈ K, W.heap[x.1]? = some x.2
section
variable {w W W' : World} {p q : Nat} {s1 s2 : DS} {K : List (Nat × Obj)}
theorem Two.bel (h : Two w p s1 q s2 K W) : Below w.heap.size w W := h.2.2.1
theorem Two.at_ (h : Two w p s1 q s2 K W) {k : Nat} {o : Obj} (hk : (k, o) ∈ K) : W.heap[k]? = some o := h.2.2.2 _ hk
theorem Two.less (h : Two w p s1 q s2 K W) {K' : List (Nat × Obj)} (hk : ∀ x ∈ K', x ∈ K) : Two w p s1 q s2 K' W := ⟨h.1, h.2.1, h.2.2.1, fun x hx => h.2.2.2 x (hk x hx)⟩
theorem Two.below (h : Two w p s1 q s2 K W) (hb : Below W.heap.size W W') : Two w p s1 q s2 K W' := by
  obtain ⟨⟨B, h1⟩, ⟨C, h2⟩, h3, h4⟩ := h
  exact ⟨⟨B, h1.below hb⟩, ⟨C, h2.below hb⟩, h3.trans (hb.mono h3.size), fun x hx => (hb.block _ (Array.getElem?_eq_some_iff.1 (h4 x hx)).1).trans (h4 x hx)⟩
theorem Two.alloc (h : Two w p s1 q s2 K W) (x : Obj) : Two w p s1 q s2 ((W.heap.size, x) :: K) (W.alloc x) := by
  obtain ⟨h1, h2, h3, h4⟩ := h.below ((Below.refl _ _).alloc (Nat.le_refl _) x)
  refine ⟨h1, h2, h3, fun y hy => ?_⟩
  rcases List.mem_cons.1 hy with rfl | hy
  · exact heap_alloc_new W x
  · exact h4 y hy
end

end Go.Proofs.YtojpcgjmainbfaaGreat.Dev

/-
  Several devices that a law has made, apart from one another, beside blocks of the law's own.
-/
namespace Go.Proofs.YtojpcgjmainbfaaGreat.Dev
open Go.RowKit RowLaw
set_option maxRecDepth 100000

/-- the devices l, all of them new since w and apart; the blocks K beside them -/
def Many (w : World) (l : List (Nat × DS)) (K : List (Nat × Obj)) (W : World) : Prop :=
  Below w.heap.size w W ∧ ∃ f : Nat → List Nat,
    (∀ i p s, l[i]? = some (p, s) → Dev W p (f i) s ∧ ∀ k ∈ f i, w.heap.size ≤ k) ∧
    (∀ i j, i < l.length → j < l.length → i ≠ j → ∀ k ∈ f i, k ∉ f j) ∧
    (∀ x ∈ K, W.heap[x.1]? = some x.2 ∧ ∀ i, i < l.length → x.1 ∉ f i)

section
variable {w W W' : World} {l : List (Nat × DS)} {K : List (Nat × Obj)}
theorem Many.bel (h : Many w l K W) : Below w.heap.size w W := h.1
theorem Many.at_ (h : Many w l K W) {q : Nat} {o : Obj} (hq : (q, o) ∈ K) : W.heap[q]? = some o := by obtain ⟨_, f, _, _, h4⟩ := h; exact (h4 _ hq).1
theorem Many.less (h : Many w l K W) {K' : List (Nat × Obj)} (hk : ∀ x ∈ K', x ∈ K) : Many w l K' W := by
  obtain ⟨h1, f, h2, h3, h4⟩ := h
  exact ⟨h1, f, h2, h3, fun x hx => h4 x (hk x hx)⟩
theorem Many.below (h : Many w l K W) (hb : Below W.heap.size W W') : Many w l K W' := by
  obtain ⟨h1, f, h2, h3, h4⟩ := h
  exact ⟨h1.trans (hb.mono h1.size), f, fun i p s hi => ⟨(h2 i p s hi).1.below hb, (h2 i p s hi).2⟩, h3, fun x hx => ⟨(hb.block _ (Array.getElem?_eq_some_iff.1 (h4 x hx).1).1).trans (h4 x hx).1, (h4 x hx).2⟩⟩
/-- a new block is told of -/
theorem Many.more (h : Many w l K W) (hb : Below W.heap.size W W') {g : Nat} {o : Obj} (hg : W.heap.size ≤ g) (ho : W'.heap[g]? = some o) : Many w l ((g, o) :: K) W' := by
  have h' := h
  obtain ⟨h1, f, h2, h3, h4⟩ := h
  have hlt : ∀ i, i < l.length → ∀ k ∈ f i, k < W.heap.size := fun i hi k hk => (h2 i l[i].1 l[i].2 (List.getElem?_eq_getElem hi)).1.ltB k hk
  refine ⟨h1.trans (hb.mono h1.size), f, fun i p s hi => ⟨(h2 i p s hi).1.below hb, (h2 i p s hi).2⟩, h3, fun x hx => ?_⟩
  rcases List.mem_cons.1 hx with rfl | hx
  · exact ⟨ho, fun i hi hm => by have := hlt i hi _ hm; omega⟩
  · exact ⟨(hb.block _ (Array.getElem?_eq_some_iff.1 (h4 x hx).1).1).trans (h4 x hx).1, (h4 x hx).2⟩
theorem Many.alloc (h : Many w l K W) (o : Obj) : Many w l ((W.heap.size, o) :: K) (W.alloc o) := h.more ((Below.refl _ _).alloc (Nat.le_refl _) o) (Nat.le_refl _) (heap_alloc_new W o)
theorem Many.copy (h : Many w l K W) {i p : Nat} {s : DS} (hi : l[i]? = some (p, s)) (hlen : s.pend.length < 4294967296) :
    Calls Tryz.prog 16 #[ptr p] W fun e W' => ∃ q, e = .returned (ptr q) ∧ Many w (l ++ [(q, s)]) K W' := by
  obtain ⟨h1, f, h2, h3, h4⟩ := h
  have hlt : ∀ i, i < l.length → ∀ k ∈ f i, k < W.heap.size := fun i hi k hk => (h2 i l[i].1 l[i].2 (List.getElem?_eq_getElem hi)).1.ltB k hk
  refine (Copy_any (h2 i p s hi).1 hlen).mono fun _ W' ⟨q, C, he, hd, hC, hb⟩ => ⟨q, he, h1.trans (hb.mono h1.size), fun j => if j = l.length then C else f j, ?_, ?_, ?_⟩
  · intro j p' s' hj
    dsimp only
    by_cases e : j = l.length
    · subst e
      rw [List.getElem?_append_right (Nat.le_refl _), Nat.sub_self] at hj
      cases hj
      rw [if_pos rfl]
      exact ⟨hd, fun k hk => Nat.le_trans h1.size (hC k hk)⟩
    · have hjl : j < l.length := by
        have := (List.getElem?_eq_some_iff.1 hj).1
        rw [List.length_append, List.length_singleton] at this
        omega
      rw [List.getElem?_append_left hjl] at hj
      rw [if_neg e]
      exact ⟨(h2 j p' s' hj).1.below hb, (h2 j p' s' hj).2⟩
  · intro a b ha hb2 hne k hk
    dsimp only at hk ⊢
    rw [List.length_append, List.length_singleton] at ha hb2
    by_cases e1 : a = l.length
    · rw [if_pos e1] at hk
      rw [if_neg (by omega)]
      exact fun hm => by have := hlt b (by omega) k hm; have := hC k hk; omega
    · rw [if_neg e1] at hk
      by_cases e2 : b = l.length
      · rw [if_pos e2]
        exact fun hm => by have := hlt a (by omega) k hk; have := hC k hm; omega
      · rw [if_neg e2]
        exact h3 a b (by omega) (by omega) hne k hk
  · intro x hx
    have hx1 := (Array.getElem?_eq_some_iff.1 (h4 x hx).1).1
    refine ⟨(hb.block _ hx1).trans (h4 x hx).1, fun j hj => ?_⟩
    dsimp only
    by_cases e : j = l.length
    · rw [if_pos e]; exact fun hm => by have := hC _ hm; omega
    · rw [if_neg e]
      rw [List.length_append, List.length_singleton] at hj
      exact (h4 x hx).2 j (by omega)
/-- one of them takes a step -/
theorem Many.step {i p : Nat} {s s' : DS} (hi : l[i]? = some (p, s)) {f : Nat → List Nat} {C : List Nat} (h1 : Below w.heap.size w W)
    (h2 : ∀ i p s, l[i]? = some (p, s) → Dev W p (f i) s ∧ ∀ k ∈ f i, w.heap.size ≤ k) (h3 : ∀ i j, i < l.length → j < l.length → i ≠ j → ∀ k ∈ f i, k ∉ f j)
    (h4 : ∀ x ∈ K, W.heap[x.1]? = some x.2 ∧ ∀ i, i < l.length → x.1 ∉ f i) (hd : Dev W' p C s') (hs : Step (f i) W W' C) : Many w (l.set i (p, s')) K W' := by
  have hil := (List.getElem?_eq_some_iff.1 hi).1
  have hlt : ∀ j, j < l.length → ∀ k ∈ f j, k < W.heap.size := fun j hj k hk => (h2 j l[j].1 l[j].2 (List.getElem?_eq_getElem hj)).1.ltB k hk
  refine ⟨h1.trans (hs.below (h2 i p s hi).2 h1.size), fun j => if j = i then C else f j, ?_, ?_, ?_⟩
  · intro j p' t hj
    dsimp only
    by_cases e : j = i
    · subst e
      rw [List.getElem?_set_self hil] at hj
      cases hj
      rw [if_pos rfl]
      exact ⟨hd, hs.above (h2 j p s hi).2 h1.size⟩
    · rw [List.getElem?_set_ne (fun e2 => e e2.symm)] at hj
      rw [if_neg e]
      exact ⟨(h2 j p' t hj).1.turn hs.turn (fun k hk => h3 j i (List.getElem?_eq_some_iff.1 hj).1 hil e k hk), (h2 j p' t hj).2⟩
  · intro a b ha hb hne k hk
    rw [List.length_set] at ha hb
    dsimp only at hk ⊢
    by_cases e1 : a = i
    · rw [if_pos e1] at hk
      rw [if_neg (fun e => hne (e1.trans e.symm))]
      intro hm
      rcases hs.sub k hk with h | h
      · exact h3 i b hil hb (fun e => hne (e1.trans e)) k h hm
      · have := hlt b hb k hm; omega
    · rw [if_neg e1] at hk
      by_cases e2 : b = i
      · rw [if_pos e2]
        intro hm
        rcases hs.sub k hm with h | h
        · exact h3 a i ha hil e1 k hk h
        · have := hlt a ha k hk; omega
      · rw [if_neg e2]; exact h3 a b ha hb hne k hk
  · intro x hx
    have hx1 := (Array.getElem?_eq_some_iff.1 (h4 x hx).1).1
    refine ⟨(hs.turn.block _ hx1 ((h4 x hx).2 i hil)).trans (h4 x hx).1, fun j hj => ?_⟩
    rw [List.length_set] at hj
    dsimp only
    by_cases e : j = i
    · rw [if_pos e]; exact hs.notIn hx1 ((h4 x hx).2 i hil)
    · rw [if_neg e]; exact (h4 x hx).2 j hj
theorem Many.flush (h : Many w l K W) {i p : Nat} {s : DS} (hi : l[i]? = some (p, s)) (hlen : s.pend.length < 4294967296) :
    Calls Tryz.prog 90 #[ptr p] W fun e W' => e = .returned (.int .i64 (flushE s)) ∧ Many w (l.set i (p, flushS s)) K W' := by
  obtain ⟨h1, f, h2, h3, h4⟩ := h
  exact (Flush_any (h2 i p s hi).1 hlen).mono fun _ _ ⟨he, C, hd, hs⟩ => ⟨he, Many.step hi h1 h2 h3 h4 hd hs⟩
theorem Many.read (h : Many w l K W) {i p : Nat} {s : DS} (hi : l[i]? = some (p, s)) {a : Nat} (ha : a < 64) (hn : s.n = 64) (hlen : s.pend.length < 4294967296) {r : List UInt8} (hr : applyP s.g s.pend a = r) :
    Calls Tryz.prog 94 #[ptr p, .int .u32 (a : Int)] W fun e W' => e = .returned (.tuple #[.agg (cellsOf r), .int .i64 0]) ∧ Many w l K W' := by
  have h' := h
  obtain ⟨h1, f, h2, _⟩ := h
  have hn' : ¬ s.n ≤ a := by rw [hn]; omega
  refine (Read_any (h2 i p s hi).1 (by omega) hlen).mono fun _ _ ⟨he, hb⟩ => ⟨?_, h'.below hb⟩
  rw [he, readR, if_neg hn', readE, if_neg hn', readB, hr]
theorem Many.okG (h : Many w l K W) {i p : Nat} {s : DS} (hi : l[i]? = some (p, s)) : (∀ a, (s.g a).length = 256) ∧ ∀ x ∈ s.pend, x.2.length = 256 := by
  obtain ⟨_, f, h2, _⟩ := h
  obtain ⟨bm, pv, hd⟩ := (h2 i p s hi).1
  exact ⟨hd.okG, hd.okP⟩
end

end Go.Proofs.YtojpcgjmainbfaaGreat.Dev

