/-
  Dev3: DevCrash, DevFull, DevLive, DevHead.
-/
import Derived.Test.YtojpcgjmainbfaaGreatDev2
import Derived.Deep.QuietTactic
import Derived.BigQuiet
/-
  crash; Crash.
-/
namespace Go.Proofs.YtojpcgjmainbfaaGreat.Dev
open Go.RowKit RowLaw
set_option maxRecDepth 100000

/-- what a crash is told to keep: indices and sectors, in memory -/
def KeepsAt (W : World) (b off : Nat) (xs : List (Nat × Nat)) : Prop := ∀ i (hi : i < xs.length), W.cell? ⟨b, off + i * 2, none⟩ = some (.int .u16 (xs[i].1 : Int)) ∧ W.cell? ⟨b, off + i * 2 + 1, none⟩ = some (.int .u8 (xs[i].2 : Int)) ∧ xs[i].1 < 65536 ∧ xs[i].2 < 256
def Keeps (W : World) (pa : Option Addr) (xs : List (Nat × Nat)) : Prop := xs = [] ∨ ∃ b off, pa = some ⟨b, off, none⟩ ∧ b < W.heap.size ∧ KeepsAt W b off xs
/-- .. that lie in no block of B -/
def Off (pa : Option Addr) (B : List Nat) : Prop := ∀ a, pa = some a → a.block ∉ B
theorem Keeps.turn {W W' : World} {pa : Option Addr} {xs : List (Nat × Nat)} {B : List Nat} (h : Keeps W pa xs) (ht : Turn B W W') (ho : xs ≠ [] → Off pa B) : Keeps W' pa xs := by
  by_cases hne : xs = []
  · exact .inl hne
  rcases h with rfl | ⟨b, off, rfl, hb, hc⟩
  · exact .inl rfl
  · refine .inr ⟨b, off, rfl, Nat.lt_of_lt_of_le hb ht.size, fun i hi => ?_⟩
    obtain ⟨h1, h2, h3⟩ := hc i hi
    exact ⟨(ht.cell (q := ⟨b, off + i * 2, none⟩) hb (ho hne ⟨b, off, none⟩ rfl)).trans h1, (ht.cell (q := ⟨b, off + i * 2 + 1, none⟩) hb (ho hne ⟨b, off, none⟩ rfl)).trans h2, h3⟩

/-- one step of a crash: what an index and its sectors keep -/
def keepG (pend : List (Nat × List UInt8)) (g : Nat → List UInt8) (k : Nat × Nat) : Nat → List UInt8 :=
  match pend[k.1]? with
  | some x => upd g x.1 (keepB (g x.1) x.2 k.2)
  | none => g
def crashG (pend : List (Nat × List UInt8)) (g : Nat → List UInt8) (xs : List (Nat × Nat)) : Nat → List UInt8 := xs.foldl (keepG pend) g
def crashS (s : DS) (xs : List (Nat × Nat)) : DS := { s with g := crashG s.pend s.g xs, pend := [], left := -1, down := false }

/-- a load of cells that are an array's, out of the middle of a block, as a step of a still walk -/
theorem still_load_mid {P : Program} {o : Oper} {a : Act} {w : World} {K : Act → Prop} (ty : TypeId) (x : Operand) (ho : o.op = .load ty x) (b off : Nat) (hx : a.eval x = .pointer (some ⟨b, off, none⟩))
    (cs : List Value) (d : TypeDesc) (hc : w.rangeAt b off cs) (hu : P.underlying ty = some d) (hd : d.isRow = true) (hi : (P.info? ty).map (·.size) = some cs.length)
    (hk : K (a.put o.dst (.agg cs.toArray))) : o.still P a w K := by
  have hrun : (execOp a.eval o).run P w = .ok (.value (.agg cs.toArray)) w := by
    unfold execOp
    simp only [ho, hx, Instr.loadAt, Instr.sureAddr, Sem.run_bind, Sem.run_pure, Result.andThen_ok, run_loadVar_mid w b off ty cs d hc hu hd hi]
  unfold Oper.still
  rw [hrun, Oper.stillUpon_value]
  exact hk

end Go.Proofs.YtojpcgjmainbfaaGreat.Dev

/-
  Blocks that the laws make: full of one byte; an act's.
-/
namespace Go.Proofs.YtojpcgjmainbfaaGreat.Dev
open Go.RowKit RowLaw
set_option maxRecDepth 100000

def fullB (c : UInt8) : List UInt8 := List.replicate 256 c
end Go.Proofs.YtojpcgjmainbfaaGreat.Dev

/-
  A device that a law has made, beside blocks of the law's own that stay: the methods' contracts once more, on the two together.
-/
namespace Go.Proofs.YtojpcgjmainbfaaGreat.Dev
open Go.RowKit RowLaw
set_option maxRecDepth 100000

/-- a device p in the state s, all of it new since w; the blocks K beside it; below it all is as it was in w -/
def Live (w : World) (p : Nat) (s : DS) (K : List (Nat × Obj)) (W : World) : Prop :=
  ∃ B, Dev W p B s ∧ (∀ k ∈ B, w.heap.size ≤ k) ∧ Below w.heap.size w W ∧ ∀ x ∈ K, W.heap[x.1]? = some x.2 ∧ x.1 ∉ B ∧ x.1 < W.heap.size

section
variable {w W : World} {p : Nat} {s : DS} {K : List (Nat × Obj)}
theorem Live.bel (h : Live w p s K W) : Below w.heap.size w W := by obtain ⟨_, _, _, h, _⟩ := h; exact h
theorem Live.at_ (h : Live w p s K W) {q : Nat} {o : Obj} (hq : (q, o) ∈ K) : W.heap[q]? = some o := by obtain ⟨_, _, _, _, h⟩ := h; exact (h _ hq).1
theorem Live.lt_ (h : Live w p s K W) {q : Nat} {o : Obj} (hq : (q, o) ∈ K) : q < W.heap.size := by obtain ⟨_, _, _, _, h⟩ := h; exact (h _ hq).2.2
theorem Live.less (h : Live w p s K W) {K' : List (Nat × Obj)} (hk : ∀ x ∈ K', x ∈ K) : Live w p s K' W := by
  obtain ⟨B, h1, h2, h3, h4⟩ := h
  exact ⟨B, h1, h2, h3, fun x hx => h4 x (hk x hx)⟩
theorem Live.below {W' : World} (h : Live w p s K W) (hb : Below W.heap.size W W') : Live w p s K W' := by
  obtain ⟨B, h1, h2, h3, h4⟩ := h
  exact ⟨B, h1.below hb, h2, h3.trans (hb.mono h3.size), fun x hx => ⟨(hb.block _ (h4 x hx).2.2).trans (h4 x hx).1, (h4 x hx).2.1, Nat.lt_of_lt_of_le (h4 x hx).2.2 hb.size⟩⟩
theorem Live.alloc (h : Live w p s K W) (o : Obj) : Live w p s ((W.heap.size, o) :: K) (W.alloc o) := by
  have hb : Below W.heap.size W (W.alloc o) := (Below.refl _ _).alloc (Nat.le_refl _) o
  obtain ⟨B, h1, h2, h3, h4⟩ := h
  refine ⟨B, h1.below hb, h2, h3.trans (hb.mono h3.size), fun x hx => ?_⟩
  rcases List.mem_cons.1 hx with rfl | hx
  · exact ⟨heap_alloc_new W o, fun hm => by have := h1.ltB _ hm; omega, by simp⟩
  · exact ⟨(hb.block _ (h4 x hx).2.2).trans (h4 x hx).1, (h4 x hx).2.1, Nat.lt_of_lt_of_le (h4 x hx).2.2 hb.size⟩
theorem Live.drew (h : Live w p s K W) : Live w p s K W.drew := h.below ⟨rfl, rfl, rfl, Nat.le_refl _, fun _ _ => rfl⟩
theorem Live.step {W' : World} {s' : DS} {B C : List Nat} (h2 : ∀ k ∈ B, w.heap.size ≤ k) (h3 : Below w.heap.size w W) (h4 : ∀ x ∈ K, W.heap[x.1]? = some x.2 ∧ x.1 ∉ B ∧ x.1 < W.heap.size) (hd : Dev W' p C s') (hs : Step B W W' C) : Live w p s' K W' :=
  ⟨C, hd, hs.above h2 h3.size, h3.trans (hs.below h2 h3.size), fun x hx => ⟨(hs.turn.block _ (h4 x hx).2.2 (h4 x hx).2.1).trans (h4 x hx).1, hs.notIn (h4 x hx).2.2 (h4 x hx).2.1, Nat.lt_of_lt_of_le (h4 x hx).2.2 hs.turn.size⟩⟩
end

end Go.Proofs.YtojpcgjmainbfaaGreat.Dev

/-
  The statements' known answers: one device, walked.
-/
namespace Go.Proofs.YtojpcgjmainbfaaGreat.Dev
open Go.RowKit RowLaw
set_option maxRecDepth 100000

def gZ : Nat → List UInt8 := fun _ => zeros
def bA : List UInt8 := fullB 97
def bB : List UInt8 := fullB 98
def bM : List UInt8 := keepB bA bB 9
def t1 : DS := ⟨64, gZ, [(5, bA)], -1, false, 1⟩
def t2 : DS := ⟨64, upd gZ 5 bA, [], -1, false, 2⟩
def t3 : DS := ⟨64, upd gZ 5 bA, [(5, bB)], -1, false, 3⟩
def t4 : DS := ⟨64, upd (upd gZ 5 bA) 5 bM, [], -1, false, 3⟩
def t5 : DS := ⟨64, upd (upd gZ 5 bA) 5 bM, [], 1, false, 3⟩
theorem w1 : writeS (newS 64) 5 bA = t1 := rfl
theorem w2 : flushS t1 = t2 := rfl
theorem r1 : readR t1 5 = bA := rfl
theorem r4 : readR t4 5 = bM := rfl
section
variable {w W : World} {p : Nat} {s : DS} {K : List (Nat × Obj)}
end

end Go.Proofs.YtojpcgjmainbfaaGreat.Dev

