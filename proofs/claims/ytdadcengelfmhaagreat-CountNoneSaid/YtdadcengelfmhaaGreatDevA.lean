/-
  DevA: DevApartMath, DevApartKit, DevMany.
-/
import Derived.Test.YtdadcengelfmhaaGreatDev3
import Derived.Test.YtdadcengelfmhaaGreatDevGreat
/-
  Of a crash the order of what is kept does not count, if no address is pending twice.
-/
namespace Go.Proofs.YtdadcengelfmhaaGreat.Dev
open Go.RowKit RowLaw
set_option maxRecDepth 100000

def hit (ks : List (Nat × Nat)) (i j : Nat) : Bool := ks.any fun k => k.1 == i && k.2.testBit (j / 64)
theorem hit_reverse (ks : List (Nat × Nat)) (i j : Nat) : hit ks.reverse i j = hit ks i j := by simp [hit]

theorem keepG_length {pend : List (Nat × List UInt8)} {g : Nat → List UInt8} (hp : ∀ x ∈ pend, x.2.length = 256) (hg : ∀ a, (g a).length = 256) (k : Nat × Nat) : ∀ a, (keepG pend g k a).length = 256 := fun a => by
  unfold keepG
  cases h : pend[k.1]? with
  | none => exact hg a
  | some x => exact upd_length hg (keepB_length (hg x.1) (hp x (List.mem_of_getElem? h)) k.2) x.1 a

theorem crashG_at {pend : List (Nat × List UInt8)} (hp : ∀ x ∈ pend, x.2.length = 256) (hd : pend.Pairwise (fun x y => x.1 ≠ y.1)) {i : Nat} (hi : i < pend.length) (j : Nat) (hj : j < 256) :
    ∀ (ks : List (Nat × Nat)) (g : Nat → List UInt8), (∀ a, (g a).length = 256) → (crashG pend g ks pend[i].1)[j]? = if hit ks i j = true then pend[i].2[j]? else (g pend[i].1)[j]?
  | [], g, _ => by simp [crashG, hit]
  | k :: ks, g, hg => by
    have ih := crashG_at hp hd hi j hj ks (keepG pend g k) (keepG_length hp hg k)
    have e : crashG pend g (k :: ks) = crashG pend (keepG pend g k) ks := rfl
    rw [e, ih]
    have e2 : hit (k :: ks) i j = ((k.1 == i && k.2.testBit (j / 64)) || hit ks i j) := by simp [hit]
    rw [e2]
    have hpi := hp _ (List.getElem_mem hi)
    by_cases hk : k.1 = i
    · have h1 : pend[k.1]? = some pend[i] := by rw [hk]; exact List.getElem?_eq_getElem hi
      have e3 : keepG pend g k pend[i].1 = keepB (g pend[i].1) pend[i].2 k.2 := by
        unfold keepG
        simp only [h1]
        exact if_pos rfl
      rw [e3, keepB_get (hg _) hpi k.2 j hj]
      by_cases h2 : hit ks i j = true
      · simp [h2]
      · by_cases h3 : k.2.testBit (j / 64) = true
        · simp [h2, h3, hk]
        · simp [h2, h3]
    · have e3 : keepG pend g k pend[i].1 = g pend[i].1 := by
        unfold keepG
        cases h1 : pend[k.1]? with
        | none => rfl
        | some x =>
          obtain ⟨hk2, rfl⟩ := List.getElem?_eq_some_iff.1 h1
          refine if_neg (fun e => ?_)
          rcases Nat.lt_or_gt_of_ne hk with h | h
          · exact List.pairwise_iff_getElem.1 hd _ _ hk2 hi h e.symm
          · exact List.pairwise_iff_getElem.1 hd _ _ hi hk2 h e
      rw [e3]
      simp [hk]

theorem crashG_off {pend : List (Nat × List UInt8)} {a : Nat} (ha : ∀ x ∈ pend, x.1 ≠ a) : ∀ (ks : List (Nat × Nat)) (g : Nat → List UInt8), crashG pend g ks a = g a
  | [], _ => rfl
  | k :: ks, g => by
    have e : crashG pend g (k :: ks) = crashG pend (keepG pend g k) ks := rfl
    rw [e, crashG_off ha ks]
    unfold keepG
    cases h1 : pend[k.1]? with
    | none => rfl
    | some x => exact if_neg (fun e => ha x (List.mem_of_getElem? h1) e.symm)

theorem crashG_length {pend : List (Nat × List UInt8)} (hp : ∀ x ∈ pend, x.2.length = 256) : ∀ (ks : List (Nat × Nat)) (g : Nat → List UInt8), (∀ a, (g a).length = 256) → ∀ a, (crashG pend g ks a).length = 256
  | [], _, hg => hg
  | k :: ks, _, hg => crashG_length hp ks _ (keepG_length hp hg k)

theorem crashG_turned {pend : List (Nat × List UInt8)} (hp : ∀ x ∈ pend, x.2.length = 256) (hd : pend.Pairwise (fun x y => x.1 ≠ y.1)) (ks : List (Nat × Nat)) (g : Nat → List UInt8) (hg : ∀ a, (g a).length = 256) (a : Nat) :
    crashG pend g ks.reverse a = crashG pend g ks a := by
  by_cases h : ∃ x ∈ pend, x.1 = a
  · obtain ⟨x, hx, rfl⟩ := h
    obtain ⟨i, hi, rfl⟩ := List.mem_iff_getElem.1 hx
    apply List.ext_getElem?
    intro j
    by_cases hj : j < 256
    · rw [crashG_at hp hd hi j hj _ g hg, crashG_at hp hd hi j hj _ g hg, hit_reverse]
    · rw [List.getElem?_eq_none (by rw [crashG_length hp _ g hg]; omega), List.getElem?_eq_none (by rw [crashG_length hp _ g hg]; omega)]
  · have h' : ∀ x ∈ pend, x.1 ≠ a := fun x hx e => h ⟨x, hx, e⟩
    rw [crashG_off h', crashG_off h']

end Go.Proofs.YtdadcengelfmhaaGreat.Dev

/-
  What the walk of the law DevApart stands on.
-/
namespace Go.Proofs.YtdadcengelfmhaaGreat.Dev
open Go.RowKit RowLaw
set_option maxRecDepth 100000

def boolCells (f : Nat → Bool) : Array Value := ((List.range 64).map fun j => Value.bool (f j)).toArray
def fset (f : Nat → Bool) (a : Nat) : Nat → Bool := fun x => if x = a then true else f x
theorem boolCells_get (f : Nat → Bool) {a : Nat} (ha : a < 64) : (boolCells f)[a]? = some (.bool (f a)) := by simp [boolCells, ha]
theorem boolCells_set (f : Nat → Bool) (a : Nat) : (boolCells f).setIfInBounds a (.bool true) = boolCells (fset f a) := by
  apply Array.ext_getElem?
  intro j
  rw [Array.getElem?_setIfInBounds]
  by_cases hj : a = j
  · subst hj
    rw [if_pos rfl]
    by_cases h : a < 64
    · rw [if_pos (by simp [boolCells, h]), boolCells_get _ h]; simp [fset]
    · rw [if_neg (by simp [boolCells, h]), Array.getElem?_eq_none (by simp [boolCells]; omega)]
  · rw [if_neg hj]
    by_cases h : j < 64
    · rw [boolCells_get _ h, boolCells_get _ h, fset, if_neg (fun e => hj e.symm)]
    · rw [Array.getElem?_eq_none (by simp [boolCells]; omega), Array.getElem?_eq_none (by simp [boolCells]; omega)]

section
variable {w W : World} {p : Nat} {s : DS} {K : List (Nat × Obj)}
/-- a cell of a block beside the device is written -/
theorem Live.setK {q : Nat} {cs : Array Value} {T : TypeId} (h : Live w p s [(q, .cells cs T)] W) (hq : w.heap.size ≤ q) (j : Nat) (v : Value) : Live w p s [(q, .cells (cs.setIfInBounds j v) T)] (W.setCell ⟨q, j, none⟩ v) := by
  obtain ⟨B, h1, h2, h3, h4⟩ := h
  obtain ⟨k1, k2, k3⟩ := h4 (q, .cells cs T) (by simp)
  have ht : Turn [q] W (W.setCell ⟨q, j, none⟩ v) := (Turn.refl _ _).setCell _ _ (.inl (by simp))
  refine ⟨B, h1.turn ht (fun k hk hm => by simp only [List.mem_singleton] at hm; subst hm; exact k2 hk), h2, h3.setCell (p := ⟨q, j, none⟩) hq v, fun x hx => ?_⟩
  simp only [List.mem_singleton] at hx
  subst hx
  exact ⟨heap_setCell_same W q j _ _ v k1, k2, by simpa [World.setCell] using k3⟩
/-- a new block is told of -/
theorem Live.more {W' : World} (h : Live w p s K W) (hb : Below W.heap.size W W') {g : Nat} {o : Obj} (hg : W.heap.size ≤ g) (ho : W'.heap[g]? = some o) : Live w p s ((g, o) :: K) W' := by
  obtain ⟨B, h1, h2, h3, h4⟩ := h
  refine ⟨B, h1.below hb, h2, h3.trans (hb.mono h3.size), fun x hx => ?_⟩
  rcases List.mem_cons.1 hx with rfl | hx
  · exact ⟨ho, fun hm => by have := h1.ltB _ hm; simp only at this; omega, (Array.getElem?_eq_some_iff.1 ho).1⟩
  · exact ⟨(hb.block _ (h4 x hx).2.2).trans (h4 x hx).1, (h4 x hx).2.1, Nat.lt_of_lt_of_le (h4 x hx).2.2 hb.size⟩
end

/-- the device behind i acts; f: which addresses were written -/
structure AP (f : Nat → Bool) (i : Nat) (s : DS) : Prop where
  n : s.n = 64
  g : s.g = gZ
  left : s.left = -1
  down : s.down = false
  len : s.pend.length ≤ i
  dist : s.pend.Pairwise (fun x y => x.1 ≠ y.1)
  seen : ∀ a, a < 64 → (f a = true ↔ ∃ y ∈ s.pend, y.1 = a)
  addr : ∀ y ∈ s.pend, y.1 < 64 ∧ y.2.length = 256
theorem AP.new : AP (fun _ => false) 0 (newS 64) := ⟨rfl, rfl, rfl, rfl, Nat.le_refl _, List.Pairwise.nil, fun a _ => by simp [newS], fun y hy => by cases hy⟩
theorem AP.again {f : Nat → Bool} {i : Nat} {s : DS} (h : AP f i s) {a : Nat} (hf : f a = true) : AP (fset f a) (i + 1) s :=
  ⟨h.n, h.g, h.left, h.down, by have := h.len; omega, h.dist, fun b hb => by
    by_cases e : b = a
    · subst e; exact ⟨fun _ => (h.seen b hb).1 hf, fun _ => if_pos rfl⟩
    · rw [fset, if_neg e]; exact h.seen b hb, h.addr⟩
theorem AP.write {f : Nat → Bool} {i : Nat} {s : DS} (h : AP f i s) {a : Nat} (ha : a < 64) (hf : f a = false) {l : List UInt8} (hl : l.length = 256) : AP (fset f a) (i + 1) (writeS s a l) := by
  have e : writeS s a l = succS (pushS s a l) := by rw [writeS, if_neg (by rw [h.n]; omega), if_neg (by rw [h.down]; simp)]
  have e2 : succS (pushS s a l) = { pushS s a l with left := -1, writes := s.writes + 1 } := by
    have h0 : (pushS s a l).left = -1 := h.left
    rw [succS, if_neg (by rw [h0]; omega), if_pos h0]
    rfl
  rw [e, e2]
  have hno : ∀ y ∈ s.pend, y.1 ≠ a := fun y hy e3 => by
    have := (h.seen a ha).2 ⟨y, hy, e3⟩
    rw [hf] at this
    cases this
  refine ⟨h.n, h.g, rfl, h.down, ?_, ?_, ?_, ?_⟩
  · show (s.pend ++ [(a, l)]).length ≤ i + 1
    have := h.len; simp; omega
  · show (s.pend ++ [(a, l)]).Pairwise _
    refine List.pairwise_append.2 ⟨h.dist, List.pairwise_singleton _ _, fun x hx y hy => ?_⟩
    simp only [List.mem_singleton] at hy
    subst hy
    exact hno x hx
  · intro b hb
    show fset f a b = true ↔ ∃ y ∈ s.pend ++ [(a, l)], y.1 = b
    by_cases e3 : b = a
    · subst e3
      rw [fset, if_pos rfl]
      exact ⟨fun _ => ⟨(b, l), by simp, rfl⟩, fun _ => rfl⟩
    · rw [fset, if_neg e3, h.seen b hb]
      constructor
      · rintro ⟨y, hy, h2⟩; exact ⟨y, by simp [hy], h2⟩
      · rintro ⟨y, hy, h2⟩
        rcases List.mem_append.1 hy with hy | hy
        · exact ⟨y, hy, h2⟩
        · simp only [List.mem_singleton] at hy; subst hy; exact absurd h2.symm e3
  · intro y hy
    rcases List.mem_append.1 hy with hy | hy
    · exact h.addr y hy
    · simp only [List.mem_singleton] at hy; subst hy; exact ⟨ha, hl⟩

def LiveA (w : World) (p sb : Nat) (f : Nat → Bool) (i : Nat) (W : World) : Prop := ∃ s, AP f i s ∧ Live w p s [(sb, .cells (boolCells f) 4)] W


theorem LiveA.bel {w W : World} {p sb i : Nat} {f : Nat → Bool} (h : LiveA w p sb f i W) : Below w.heap.size w W := by obtain ⟨_, _, h⟩ := h; exact h.bel
theorem LiveA.blk {w W : World} {p sb i : Nat} {f : Nat → Bool} (h : LiveA w p sb f i W) : W.heap[sb]? = some (.cells (boolCells f) 4) := by obtain ⟨_, _, h⟩ := h; exact h.at_ (by simp)
theorem bool_at {W : World} {sb : Nat} {f : Nat → Bool} (h : W.heap[sb]? = some (.cells (boolCells f) 4)) {a : Nat} (ha : a < 64) : W.cell? ⟨sb, a, none⟩ = some (.bool (f a)) :=
  (cell_of_row W sb a _ _ _ h).trans (boolCells_get f ha)
theorem LiveA.again {w W : World} {p sb i : Nat} {f : Nat → Bool} (h : LiveA w p sb f i W) (hs : w.heap.size ≤ sb) {a : Nat} (hf : f a = true) : LiveA w p sb (fset f a) (i + 1) (W.setCell ⟨sb, a, none⟩ (.bool true)) := by
  obtain ⟨s, h1, h2⟩ := h
  refine ⟨s, h1.again hf, ?_⟩
  rw [← boolCells_set]
  exact h2.setK hs a _
/-- a device behind a write of an address not written yet; told of it is not yet -/
def LiveB (w : World) (p sb : Nat) (f : Nat → Bool) (a i : Nat) (W : World) : Prop := ∃ s, AP (fset f a) i s ∧ Live w p s [(sb, .cells (boolCells f) 4)] W
theorem Write_A {w W : World} {p sb i : Nat} {f : Nat → Bool} (h : LiveA w p sb f i W) (hi : i ≤ 60) {a : Nat} (ha : a < 64) (hf : f a = false) {l : List UInt8} (hl : l.length = 256) :
    Calls Tryz.prog 52 #[ptr p, .int .u32 (a : Int), .agg (cellsOf l)] W fun e W' => (∃ z, e = .returned (.int .i64 z)) ∧ LiveB w p sb f a (i + 1) W' := by
  obtain ⟨s, h1, h2⟩ := h
  exact (Write_live h2 (by omega) hl (by have := h1.len; omega)).mono fun _ _ ⟨he, hl2⟩ => ⟨⟨_, he⟩, _, h1.write ha hf hl, hl2⟩
theorem LiveB.bel {w W : World} {p sb a i : Nat} {f : Nat → Bool} (h : LiveB w p sb f a i W) : Below w.heap.size w W := by obtain ⟨_, _, h⟩ := h; exact h.bel
theorem LiveB.blk {w W : World} {p sb a i : Nat} {f : Nat → Bool} (h : LiveB w p sb f a i W) : W.heap[sb]? = some (.cells (boolCells f) 4) := by obtain ⟨_, _, h⟩ := h; exact h.at_ (by simp)
theorem LiveB.set {w W : World} {p sb i : Nat} {f : Nat → Bool} {a : Nat} (h : LiveB w p sb f a i W) (hs : w.heap.size ≤ sb) : LiveA w p sb (fset f a) i (W.setCell ⟨sb, a, none⟩ (.bool true)) := by
  obtain ⟨s, h1, h2⟩ := h
  refine ⟨s, h1, ?_⟩
  rw [← boolCells_set]
  exact h2.setK hs a _

theorem infoBool : (Tryz.prog.info? 4).map (fun i => (i.zero, i.size, i.bytes)) = some (some (.bool false), 1, 1) := by kernel_rfl
theorem make_bools (W : World) : ∃ W', (Instr.makeSlice 63 (.int .i64 64) (.int .i64 64)).run Tryz.prog W = .ok (.slice (some ⟨W.heap.size, 0, none⟩) 64 64) W' ∧
    W'.heap[W.heap.size]? = some (.cells (boolCells fun _ => false) 4) ∧ Below W.heap.size W W' := by
  obtain ⟨i0, hi0, hz0, hz1, hz2⟩ := info_parts infoBool
  obtain ⟨W', h1, h2, h3⟩ := run_make_full (P := Tryz.prog) W W.heap.size 63 4 i0 (.bool false) 1 Tryz.underlying63 hi0 hz0 hz1 .i64 .i64 64 (by rw [hz2]; omega) (by unfold maxLen; omega) (Nat.le_refl _)
  refine ⟨W', h1, ?_, (Turn.of_grown' (B := []) h3 (fun k hk => by cases hk)).nil⟩
  rcases h2.2 with ⟨h4, _⟩ | ⟨g, cap, cur, h4, h5, h6, h7, h8, h9, h10⟩
  · cases h4
  · obtain ⟨rfl, rfl⟩ : g = W.heap.size ∧ cap = 64 := by cases h4; exact ⟨rfl, rfl⟩
    have e : cur = boolCells fun _ => false := by
      apply Array.toList_inj.1
      rw [List.take_of_length_le (by rw [Array.length_toList, h9]; omega)] at h10
      rw [h10]
      simp [madeCells, boolCells, Value.cells, Nat.mod_one]
    rw [h6, e]

/-- the cells of a row of keeps -/
def keepCs (l : List (Nat × Nat)) : List Value := l.flatMap fun k => [.int .u16 (k.1 : Int), .int .u8 (k.2 : Int)]
theorem keepCs_snoc (l : List (Nat × Nat)) (k : Nat × Nat) : keepCs (l ++ [k]) = keepCs l ++ [.int .u16 (k.1 : Int), .int .u8 (k.2 : Int)] := by simp [keepCs]
theorem keepCs_length (l : List (Nat × Nat)) : (keepCs l).length = l.length * 2 := by
  induction l with
  | nil => rfl
  | cons a r ih => have : keepCs (a :: r) = [.int .u16 (a.1 : Int), .int .u8 (a.2 : Int)] ++ keepCs r := rfl; rw [this, List.length_append, ih]; simp; omega
theorem keepCs_at : ∀ (l : List (Nat × Nat)) (i : Nat) (hi : i < l.length), (keepCs l)[i * 2]? = some (.int .u16 (l[i].1 : Int)) ∧ (keepCs l)[i * 2 + 1]? = some (.int .u8 (l[i].2 : Int))
  | a :: r, 0, _ => ⟨rfl, rfl⟩
  | a :: r, i + 1, hi => by
    have e : keepCs (a :: r) = .int .u16 (a.1 : Int) :: .int .u8 (a.2 : Int) :: keepCs r := rfl
    have h := keepCs_at r i (by simpa using hi)
    rw [e, show (i + 1) * 2 = (i * 2 + 1) + 1 by omega, List.getElem?_cons_succ, List.getElem?_cons_succ, List.getElem?_cons_succ, List.getElem?_cons_succ]
    exact h
/-- what an append to an own row leaves -/
theorem below_own {W W1 : World} {base : Nat} {e : TypeId} {size n : Nat} {v : Value} {xs : List Value} (h : W.ownsRow base e size v n xs) (hg : W.grownBy W1 v.ownBlock) (hb : base ≤ W.heap.size) : Below base W W1 :=
  ⟨hg.os, hg.tape, hg.output, hg.size, fun k hk => hg.block k (by omega) (fun e2 => by
    rcases h.2 with ⟨rfl, _⟩ | ⟨g, cap, cur, rfl, h5, _⟩
    · cases e2
    · cases e2; have hk' : g < base := hk; omega)⟩
theorem new_cells (W : World) (cs : List Value) (T : TypeId) : ∀ j u, cs[j]? = some u → (W.alloc (.cells cs.toArray T)).cell? (Addr.add ⟨W.heap.size, 0, none⟩ j) = some u := fun j u hj => by
  rw [Addr.add_mid, Nat.zero_add, cell_of_row _ W.heap.size j _ _ _ (heap_alloc_new W _)]
  simpa using hj
theorem keep_one (k : Nat × Nat) : ∀ u ∈ [Value.int .u16 (k.1 : Int), .int .u8 (k.2 : Int)], u.oneCell' = true := fun u hu => by
  simp only [List.mem_cons, List.not_mem_nil, or_false] at hu
  rcases hu with rfl | rfl <;> rfl

/-- two devices, to be read, beside blocks that stay -/
def Two (w : World) (p : Nat) (s1 : DS) (q : Nat) (s2 : DS) (K : List (Nat × Obj)) (W : World) : Prop := (∃ B, Dev W p B s1) ∧ (∃ C, Dev W q C s2) ∧ Below w.heap.size w W ∧ ∀ x ∈ K, W.heap[x.1]? = some x.2
section
variable {w W W' : World} {p q : Nat} {s1 s2 : DS} {K : List (Nat × Obj)}
theorem Two.bel (h : Two w p s1 q s2 K W) : Below w.heap.size w W := h.2.2.1
theorem Two.at_ (h : Two w p s1 q s2 K W) {k : Nat} {o : Obj} (hk : (k, o) ∈ K) : W.heap[k]? = some o := h.2.2.2 _ hk
theorem Two.less (h : Two w p s1 q s2 K W) {K' : List (Nat × Obj)} (hk : ∀ x ∈ K', x ∈ K) : Two w p s1 q s2 K' W := ⟨h.1, h.2.1, h.2.2.1, fun x hx => h.2.2.2 x (hk x hx)⟩
theorem Two.below (h : Two w p s1 q s2 K W) (hb : Below W.heap.size W W') : Two w p s1 q s2 K W' := by
  obtain ⟨⟨B, h1⟩, ⟨C, h2⟩, h3, h4⟩ := h
  exact ⟨⟨B, h1.below hb⟩, ⟨C, h2.below hb⟩, h3.trans (hb.mono h3.size), fun x hx => (hb.block _ (Array.getElem?_eq_some_iff.1 (h4 x hx)).1).trans (h4 x hx)⟩
theorem Two.alloc (h : Two w p s1 q s2 K W) (x : Obj) : Two w p s1 q s2 ((W.heap.size, x) :: K) (W.alloc x) := by
  obtain ⟨h1, h2, h3, h4⟩ := h.below ((Below.refl _ _).alloc (Nat.le_refl _) x)
  refine ⟨h1, h2, h3, fun y hy => ?_⟩
  rcases List.mem_cons.1 hy with rfl | hy
  · exact heap_alloc_new W x
  · exact h4 y hy
theorem Read_one (h : Two w p s1 q s2 K W) {a : Nat} (ha : a < 64) (hn : s1.n = 64) (hp : s1.pend = []) {l : List UInt8} (hl : s1.g a = l) :
    Calls Tryz.prog 58 #[ptr p, .int .u32 (a : Int)] W fun e W' => e = .returned (.tuple #[.agg (cellsOf l), .int .i64 0]) ∧ Two w p s1 q s2 K W' := by
  have h' := h
  obtain ⟨⟨B, h1⟩, _⟩ := h
  have hn' : ¬ s1.n ≤ a := by rw [hn]; omega
  refine (Read_any h1 (by omega) (by rw [hp]; simp)).mono fun _ _ ⟨he, hb⟩ => ⟨?_, h'.below hb⟩
  rw [he, readR, if_neg hn', readE, if_neg hn', readB, hp, ← hl]
  rfl
theorem Read_two (h : Two w p s1 q s2 K W) {a : Nat} (ha : a < 64) (hn : s2.n = 64) (hp : s2.pend = []) {l : List UInt8} (hl : s2.g a = l) :
    Calls Tryz.prog 58 #[ptr q, .int .u32 (a : Int)] W fun e W' => e = .returned (.tuple #[.agg (cellsOf l), .int .i64 0]) ∧ Two w p s1 q s2 K W' := by
  have h' : Two w q s2 p s1 K W := ⟨h.2.1, h.1, h.2.2⟩
  exact (Read_one h' ha hn hp hl).mono fun _ _ ⟨he, hx⟩ => ⟨he, hx.2.1, hx.1, hx.2.2⟩
end

/-- a device and its copy, each to crash -/
structure Pair (w : World) (p q : Nat) (s : DS) (sb : Nat) (o : Obj) (pk pt : Option Addr) (ks : List (Nat × Nat)) (W : World) : Prop where
  B : ∃ B C, Dev W p B s ∧ Dev W q C s ∧ (∀ k ∈ B, w.heap.size ≤ k) ∧ (∀ k ∈ C, w.heap.size ≤ k) ∧ (∀ k ∈ B, k ∉ C) ∧ (sb ∉ B ∧ sb ∉ C) ∧ (∀ a, pt = some a → a.block ∉ B ∧ a.block ∉ C)
  bel : Below w.heap.size w W
  blk : W.heap[sb]? = some o
  keep : Keeps W pk ks
  turned : Keeps W pt ks.reverse
  low : ks ≠ [] → ∀ a, pk = some a → a.block < w.heap.size
/-- .. the first has crashed -/
structure Pair1 (w : World) (p q : Nat) (s s1 : DS) (sb : Nat) (o : Obj) (pt : Option Addr) (ks : List (Nat × Nat)) (W : World) : Prop where
  B : ∃ B C, Dev W p B s1 ∧ Dev W q C s ∧ (∀ k ∈ B, w.heap.size ≤ k) ∧ (∀ k ∈ C, w.heap.size ≤ k) ∧ (∀ k ∈ B, k ∉ C) ∧ sb ∉ C ∧ (∀ a, pt = some a → a.block ∉ C)
  bel : Below w.heap.size w W
  blk : W.heap[sb]? = some o
  turned : Keeps W pt ks.reverse
/-- behind the acts: the device, which addresses were written, and a row beside it -/
theorem Copy_A {w W0 W : World} {p sb i : Nat} {f : Nat → Bool} (h : LiveA w p sb f i W0) (hi : i ≤ 60) (hb : Below W0.heap.size W0 W) {pk pt : Option Addr} {ks : List (Nat × Nat)} (hk : Keeps w pk ks) (hlow : ks ≠ [] → ∀ a, pk = some a → a.block < w.heap.size)
    (ht : Keeps W pt ks.reverse) (hpt : ∀ a, pt = some a → W0.heap.size ≤ a.block ∧ a.block < W.heap.size) :
    Calls Tryz.prog 13 #[ptr p] W fun e W' => ∃ q s, e = .returned (ptr q) ∧ AP f i s ∧ Pair w p q s sb (.cells (boolCells f) 4) pk pt ks W' := by
  obtain ⟨s, h1, B, hd, hB, hbel, hK⟩ := h
  obtain ⟨k1, k2, k3⟩ := hK _ (List.mem_singleton.2 rfl)
  have hd2 := hd.below hb
  have hlt := hd.ltB
  have hlt2 := hd2.ltB
  refine (Copy_any hd2 (by have := h1.len; omega)).mono fun _ W' ⟨q, C, he, hd3, hC, hb3⟩ => ⟨q, s, he, h1, ?_⟩
  have hbw : Below w.heap.size w W := hbel.trans (hb.mono hbel.size)
  have hbw' : Below w.heap.size w W' := hbw.trans (hb3.mono hbw.size)
  have hs1 := hb.size
  refine ⟨⟨B, C, hd2.below hb3, hd3, hB, fun k hk => Nat.le_trans hbw.size (hC k hk), fun k hk hm => ?_, ⟨k2, fun hm => ?_⟩, fun a ha => ⟨fun hm => ?_, fun hm => ?_⟩⟩, hbw', ?_, ?_, ?_, hlow⟩
  · have := hlt2 k hk; have := hC k hm; omega
  · have := hC _ hm; simp only at k3; omega
  · have := hlt _ hm; have := hpt a ha; omega
  · have := hC _ hm; have := hpt a ha; omega
  · exact (hb3.block _ (Nat.lt_of_lt_of_le k3 hs1)).trans ((hb.block _ k3).trans k1)
  · exact hk.turn (Turn.of_below (B := []) hbw') (fun _ _ _ hm => by cases hm)
  · exact ht.turn (Turn.of_below (B := []) hb3) (fun _ _ _ hm => by cases hm)

end Go.Proofs.YtdadcengelfmhaaGreat.Dev

/-
  Several devices that a law has made, apart from one another, beside blocks of the law's own.
-/
namespace Go.Proofs.YtdadcengelfmhaaGreat.Dev
open Go.RowKit RowLaw
set_option maxRecDepth 100000

/-- the devices l, all of them new since w and apart; the blocks K beside them -/
def Many (w : World) (l : List (Nat × DS)) (K : List (Nat × Obj)) (W : World) : Prop :=
  Below w.heap.size w W ∧ ∃ f : Nat → List Nat,
    (∀ i p s, l[i]? = some (p, s) → Dev W p (f i) s ∧ ∀ k ∈ f i, w.heap.size ≤ k) ∧
    (∀ i j, i < l.length → j < l.length → i ≠ j → ∀ k ∈ f i, k ∉ f j) ∧
    (∀ x ∈ K, W.heap[x.1]? = some x.2 ∧ ∀ i, i < l.length → x.1 ∉ f i)

section
variable {w W W' : World} {l : List (Nat × DS)} {K : List (Nat × Obj)}
theorem Many.bel (h : Many w l K W) : Below w.heap.size w W := h.1
theorem Many.at_ (h : Many w l K W) {q : Nat} {o : Obj} (hq : (q, o) ∈ K) : W.heap[q]? = some o := by obtain ⟨_, f, _, _, h4⟩ := h; exact (h4 _ hq).1
theorem Many.less (h : Many w l K W) {K' : List (Nat × Obj)} (hk : ∀ x ∈ K', x ∈ K) : Many w l K' W := by
  obtain ⟨h1, f, h2, h3, h4⟩ := h
  exact ⟨h1, f, h2, h3, fun x hx => h4 x (hk x hx)⟩
theorem Many.below (h : Many w l K W) (hb : Below W.heap.size W W') : Many w l K W' := by
  obtain ⟨h1, f, h2, h3, h4⟩ := h
  exact ⟨h1.trans (hb.mono h1.size), f, fun i p s hi => ⟨(h2 i p s hi).1.below hb, (h2 i p s hi).2⟩, h3, fun x hx => ⟨(hb.block _ (Array.getElem?_eq_some_iff.1 (h4 x hx).1).1).trans (h4 x hx).1, (h4 x hx).2⟩⟩
/-- a new block is told of -/
theorem Many.more (h : Many w l K W) (hb : Below W.heap.size W W') {g : Nat} {o : Obj} (hg : W.heap.size ≤ g) (ho : W'.heap[g]? = some o) : Many w l ((g, o) :: K) W' := by
  have h' := h
  obtain ⟨h1, f, h2, h3, h4⟩ := h
  have hlt : ∀ i, i < l.length → ∀ k ∈ f i, k < W.heap.size := fun i hi k hk => (h2 i l[i].1 l[i].2 (List.getElem?_eq_getElem hi)).1.ltB k hk
  refine ⟨h1.trans (hb.mono h1.size), f, fun i p s hi => ⟨(h2 i p s hi).1.below hb, (h2 i p s hi).2⟩, h3, fun x hx => ?_⟩
  rcases List.mem_cons.1 hx with rfl | hx
  · exact ⟨ho, fun i hi hm => by have := hlt i hi _ hm; omega⟩
  · exact ⟨(hb.block _ (Array.getElem?_eq_some_iff.1 (h4 x hx).1).1).trans (h4 x hx).1, (h4 x hx).2⟩
theorem Many.alloc (h : Many w l K W) (o : Obj) : Many w l ((W.heap.size, o) :: K) (W.alloc o) := h.more ((Below.refl _ _).alloc (Nat.le_refl _) o) (Nat.le_refl _) (heap_alloc_new W o)
theorem Many.of_live {p : Nat} {s : DS} (h : Live w p s [] W) : Many w [(p, s)] [] W := by
  obtain ⟨B, h1, h2, h3, h4⟩ := h
  refine ⟨h3, fun _ => B, fun i p' s' hi => ?_, fun i j hi hj hne => ?_, fun x hx => by cases hx⟩
  · match i, hi with
    | 0, hi => cases hi; exact ⟨h1, h2⟩
  · simp only [List.length_singleton] at hi hj; omega
theorem Many.copy (h : Many w l K W) {i p : Nat} {s : DS} (hi : l[i]? = some (p, s)) (hlen : s.pend.length < 4294967296) :
    Calls Tryz.prog 13 #[ptr p] W fun e W' => ∃ q, e = .returned (ptr q) ∧ Many w (l ++ [(q, s)]) K W' := by
  obtain ⟨h1, f, h2, h3, h4⟩ := h
  have hlt : ∀ i, i < l.length → ∀ k ∈ f i, k < W.heap.size := fun i hi k hk => (h2 i l[i].1 l[i].2 (List.getElem?_eq_getElem hi)).1.ltB k hk
  refine (Copy_any (h2 i p s hi).1 hlen).mono fun _ W' ⟨q, C, he, hd, hC, hb⟩ => ⟨q, he, h1.trans (hb.mono h1.size), fun j => if j = l.length then C else f j, ?_, ?_, ?_⟩
  · intro j p' s' hj
    dsimp only
    by_cases e : j = l.length
    · subst e
      rw [List.getElem?_append_right (Nat.le_refl _), Nat.sub_self] at hj
      cases hj
      rw [if_pos rfl]
      exact ⟨hd, fun k hk => Nat.le_trans h1.size (hC k hk)⟩
    · have hjl : j < l.length := by
        have := (List.getElem?_eq_some_iff.1 hj).1
        rw [List.length_append, List.length_singleton] at this
        omega
      rw [List.getElem?_append_left hjl] at hj
      rw [if_neg e]
      exact ⟨(h2 j p' s' hj).1.below hb, (h2 j p' s' hj).2⟩
  · intro a b ha hb2 hne k hk
    dsimp only at hk ⊢
    rw [List.length_append, List.length_singleton] at ha hb2
    by_cases e1 : a = l.length
    · rw [if_pos e1] at hk
      rw [if_neg (by omega)]
      exact fun hm => by have := hlt b (by omega) k hm; have := hC k hk; omega
    · rw [if_neg e1] at hk
      by_cases e2 : b = l.length
      · rw [if_pos e2]
        exact fun hm => by have := hlt a (by omega) k hk; have := hC k hm; omega
      · rw [if_neg e2]
        exact h3 a b (by omega) (by omega) hne k hk
  · intro x hx
    have hx1 := (Array.getElem?_eq_some_iff.1 (h4 x hx).1).1
    refine ⟨(hb.block _ hx1).trans (h4 x hx).1, fun j hj => ?_⟩
    dsimp only
    by_cases e : j = l.length
    · rw [if_pos e]; exact fun hm => by have := hC _ hm; omega
    · rw [if_neg e]
      rw [List.length_append, List.length_singleton] at hj
      exact (h4 x hx).2 j (by omega)
/-- one of them takes a step -/
theorem Many.step {i p : Nat} {s s' : DS} (hi : l[i]? = some (p, s)) {f : Nat → List Nat} {C : List Nat} (h1 : Below w.heap.size w W)
    (h2 : ∀ i p s, l[i]? = some (p, s) → Dev W p (f i) s ∧ ∀ k ∈ f i, w.heap.size ≤ k) (h3 : ∀ i j, i < l.length → j < l.length → i ≠ j → ∀ k ∈ f i, k ∉ f j)
    (h4 : ∀ x ∈ K, W.heap[x.1]? = some x.2 ∧ ∀ i, i < l.length → x.1 ∉ f i) (hd : Dev W' p C s') (hs : Step (f i) W W' C) : Many w (l.set i (p, s')) K W' := by
  have hil := (List.getElem?_eq_some_iff.1 hi).1
  have hlt : ∀ j, j < l.length → ∀ k ∈ f j, k < W.heap.size := fun j hj k hk => (h2 j l[j].1 l[j].2 (List.getElem?_eq_getElem hj)).1.ltB k hk
  refine ⟨h1.trans (hs.below (h2 i p s hi).2 h1.size), fun j => if j = i then C else f j, ?_, ?_, ?_⟩
  · intro j p' t hj
    dsimp only
    by_cases e : j = i
    · subst e
      rw [List.getElem?_set_self hil] at hj
      cases hj
      rw [if_pos rfl]
      exact ⟨hd, hs.above (h2 j p s hi).2 h1.size⟩
    · rw [List.getElem?_set_ne (fun e2 => e e2.symm)] at hj
      rw [if_neg e]
      exact ⟨(h2 j p' t hj).1.turn hs.turn (fun k hk => h3 j i (List.getElem?_eq_some_iff.1 hj).1 hil e k hk), (h2 j p' t hj).2⟩
  · intro a b ha hb hne k hk
    rw [List.length_set] at ha hb
    dsimp only at hk ⊢
    by_cases e1 : a = i
    · rw [if_pos e1] at hk
      rw [if_neg (fun e => hne (e1.trans e.symm))]
      intro hm
      rcases hs.sub k hk with h | h
      · exact h3 i b hil hb (fun e => hne (e1.trans e)) k h hm
      · have := hlt b hb k hm; omega
    · rw [if_neg e1] at hk
      by_cases e2 : b = i
      · rw [if_pos e2]
        intro hm
        rcases hs.sub k hm with h | h
        · exact h3 a i ha hil e1 k hk h
        · have := hlt a ha k hk; omega
      · rw [if_neg e2]; exact h3 a b ha hb hne k hk
  · intro x hx
    have hx1 := (Array.getElem?_eq_some_iff.1 (h4 x hx).1).1
    refine ⟨(hs.turn.block _ hx1 ((h4 x hx).2 i hil)).trans (h4 x hx).1, fun j hj => ?_⟩
    rw [List.length_set] at hj
    dsimp only
    by_cases e : j = i
    · rw [if_pos e]; exact hs.notIn hx1 ((h4 x hx).2 i hil)
    · rw [if_neg e]; exact (h4 x hx).2 j hj
theorem Many.flush (h : Many w l K W) {i p : Nat} {s : DS} (hi : l[i]? = some (p, s)) (hlen : s.pend.length < 4294967296) :
    Calls Tryz.prog 54 #[ptr p] W fun e W' => e = .returned (.int .i64 (flushE s)) ∧ Many w (l.set i (p, flushS s)) K W' := by
  obtain ⟨h1, f, h2, h3, h4⟩ := h
  exact (Flush_any (h2 i p s hi).1 hlen).mono fun _ _ ⟨he, C, hd, hs⟩ => ⟨he, Many.step hi h1 h2 h3 h4 hd hs⟩
theorem Many.read (h : Many w l K W) {i p : Nat} {s : DS} (hi : l[i]? = some (p, s)) {a : Nat} (ha : a < 64) (hn : s.n = 64) (hlen : s.pend.length < 4294967296) {r : List UInt8} (hr : applyP s.g s.pend a = r) :
    Calls Tryz.prog 58 #[ptr p, .int .u32 (a : Int)] W fun e W' => e = .returned (.tuple #[.agg (cellsOf r), .int .i64 0]) ∧ Many w l K W' := by
  have h' := h
  obtain ⟨h1, f, h2, _⟩ := h
  have hn' : ¬ s.n ≤ a := by rw [hn]; omega
  refine (Read_any (h2 i p s hi).1 (by omega) hlen).mono fun _ _ ⟨he, hb⟩ => ⟨?_, h'.below hb⟩
  rw [he, readR, if_neg hn', readE, if_neg hn', readB, hr]
theorem Many.okG (h : Many w l K W) {i p : Nat} {s : DS} (hi : l[i]? = some (p, s)) : (∀ a, (s.g a).length = 256) ∧ ∀ x ∈ s.pend, x.2.length = 256 := by
  obtain ⟨_, f, h2, _⟩ := h
  obtain ⟨bm, pv, hd⟩ := (h2 i p s hi).1
  exact ⟨hd.okG, hd.okP⟩
end

end Go.Proofs.YtdadcengelfmhaaGreat.Dev

