/-
  Dev3: DevCrash, DevFull, DevLive, DevHead.
-/
import Derived.Test.YtdadcengelfmhaaGreatDev2
import Derived.Deep.QuietTactic
import Derived.BigQuiet
/-
  crash; Crash.
-/
namespace Go.Proofs.YtdadcengelfmhaaGreat.Dev
open Go.RowKit RowLaw
set_option maxRecDepth 100000

/-- what a crash is told to keep: indices and sectors, in memory -/
def KeepsAt (W : World) (b off : Nat) (xs : List (Nat × Nat)) : Prop := ∀ i (hi : i < xs.length), W.cell? ⟨b, off + i * 2, none⟩ = some (.int .u16 (xs[i].1 : Int)) ∧ W.cell? ⟨b, off + i * 2 + 1, none⟩ = some (.int .u8 (xs[i].2 : Int)) ∧ xs[i].1 < 65536 ∧ xs[i].2 < 256
def Keeps (W : World) (pa : Option Addr) (xs : List (Nat × Nat)) : Prop := xs = [] ∨ ∃ b off, pa = some ⟨b, off, none⟩ ∧ b < W.heap.size ∧ KeepsAt W b off xs
/-- .. that lie in no block of B -/
def Off (pa : Option Addr) (B : List Nat) : Prop := ∀ a, pa = some a → a.block ∉ B
theorem Keeps.turn {W W' : World} {pa : Option Addr} {xs : List (Nat × Nat)} {B : List Nat} (h : Keeps W pa xs) (ht : Turn B W W') (ho : xs ≠ [] → Off pa B) : Keeps W' pa xs := by
  by_cases hne : xs = []
  · exact .inl hne
  rcases h with rfl | ⟨b, off, rfl, hb, hc⟩
  · exact .inl rfl
  · refine .inr ⟨b, off, rfl, Nat.lt_of_lt_of_le hb ht.size, fun i hi => ?_⟩
    obtain ⟨h1, h2, h3⟩ := hc i hi
    exact ⟨(ht.cell (q := ⟨b, off + i * 2, none⟩) hb (ho hne ⟨b, off, none⟩ rfl)).trans h1, (ht.cell (q := ⟨b, off + i * 2 + 1, none⟩) hb (ho hne ⟨b, off, none⟩ rfl)).trans h2, h3⟩

/-- one step of a crash: what an index and its sectors keep -/
def keepG (pend : List (Nat × List UInt8)) (g : Nat → List UInt8) (k : Nat × Nat) : Nat → List UInt8 :=
  match pend[k.1]? with
  | some x => upd g x.1 (keepB (g x.1) x.2 k.2)
  | none => g
def crashG (pend : List (Nat × List UInt8)) (g : Nat → List UInt8) (xs : List (Nat × Nat)) : Nat → List UInt8 := xs.foldl (keepG pend) g
theorem crashG_snoc (pend : List (Nat × List UInt8)) (g : Nat → List UInt8) (xs : List (Nat × Nat)) (k : Nat) (hk : k < xs.length) : crashG pend g (xs.take (k + 1)) = keepG pend (crashG pend g (xs.take k)) xs[k] := by
  unfold crashG
  rw [List.take_add_one, List.getElem?_eq_getElem hk, List.foldl_append]
  rfl
def crashS (s : DS) (xs : List (Nat × Nat)) : DS := { s with g := crashG s.pend s.g xs, pend := [], left := -1, down := false }

/-- a load of cells that are an array's, out of the middle of a block, as a step of a still walk -/
theorem still_load_mid {P : Program} {o : Oper} {a : Act} {w : World} {K : Act → Prop} (ty : TypeId) (x : Operand) (ho : o.op = .load ty x) (b off : Nat) (hx : a.eval x = .pointer (some ⟨b, off, none⟩))
    (cs : List Value) (d : TypeDesc) (hc : w.rangeAt b off cs) (hu : P.underlying ty = some d) (hd : d.isRow = true) (hi : (P.info? ty).map (·.size) = some cs.length)
    (hk : K (a.put o.dst (.agg cs.toArray))) : o.still P a w K := by
  have hrun : (execOp a.eval o).run P w = .ok (.value (.agg cs.toArray)) w := by
    unfold execOp
    simp only [ho, hx, Instr.loadAt, Instr.sureAddr, Sem.run_bind, Sem.run_pure, Result.andThen_ok, run_loadVar_mid w b off ty cs d hc hu hd hi]
  unfold Oper.still
  rw [hrun, Oper.stillUpon_value]
  exact hk

end Go.Proofs.YtdadcengelfmhaaGreat.Dev

/-
  Blocks that the laws make: full of one byte; an act's.
-/
namespace Go.Proofs.YtdadcengelfmhaaGreat.Dev
open Go.RowKit RowLaw
set_option maxRecDepth 100000

def fullB (c : UInt8) : List UInt8 := List.replicate 256 c
def fullTo (c : UInt8) (k : Nat) : List UInt8 := List.replicate k c ++ List.replicate (256 - k) 0
theorem fullTo_length (c : UInt8) {k : Nat} (hk : k ≤ 256) : (fullTo c k).length = 256 := by simp [fullTo]; omega
theorem fullB_length (c : UInt8) : (fullB c).length = 256 := List.length_replicate
theorem fullTo_zero (c : UInt8) : fullTo c 0 = zeros := by unfold fullTo zeros; rw [Nat.sub_zero, List.replicate_zero, List.nil_append]
theorem fullTo_all (c : UInt8) : fullTo c 256 = fullB c := by unfold fullTo fullB; rw [Nat.sub_self, List.replicate_zero, List.append_nil]
theorem fullTo_set (c : UInt8) {k : Nat} (hk : k < 256) : (fullTo c k).set k c = fullTo c (k + 1) := by
  apply List.ext_getElem?
  intro j
  rw [List.getElem?_set]
  simp only [fullTo, List.length_append, List.length_replicate]
  by_cases hj : k = j
  · subst hj
    rw [if_pos rfl, if_pos (by omega), List.getElem?_append_left (by simp), List.getElem?_replicate, if_pos (by omega)]
  · rw [if_neg hj]
    by_cases h1 : j < k
    · rw [List.getElem?_append_left (by simp; omega), List.getElem?_append_left (by simp; omega), List.getElem?_replicate, List.getElem?_replicate, if_pos h1, if_pos (by omega)]
    · rw [List.getElem?_append_right (by simp; omega), List.getElem?_append_right (by simp; omega), List.getElem?_replicate, List.getElem?_replicate]
      simp only [List.length_replicate]
      by_cases h2 : j < 256
      · rw [if_pos (by omega), if_pos (by omega)]
      · rw [if_neg (by omega), if_neg (by omega)]

/-- two new blocks of bytes -/
structure TwoBox (w : World) (b0 b1 : Nat) (l : List UInt8) (W : World) : Prop where
  res : Holds W b0 zeros
  cur : Holds W b1 l
  ne : b0 ≠ b1
  ge0 : w.heap.size ≤ b0
  ge1 : w.heap.size ≤ b1
  bel : Below w.heap.size w W

/-- an act's block: its byte at the beginning, and the next ones at the beginnings of the sectors -/
def blockTo (c : UInt8) : Nat → List UInt8
  | 0 => zeros
  | k + 1 => (blockTo c k).set (64 * k) (c + UInt8.ofNat k)
def blockB (c : UInt8) : List UInt8 := blockTo c 4
theorem blockTo_length (c : UInt8) : ∀ k, (blockTo c k).length = 256
  | 0 => zeros_length
  | k + 1 => by unfold blockTo; rw [List.length_set]; exact blockTo_length c k
theorem blockB_length (c : UInt8) : (blockB c).length = 256 := blockTo_length c 4

def actV (what a : Nat) (c : UInt8) (lv : Value) (k : Int) : Array Value := #[.int .u8 (what : Int), .int .u32 (a : Int), .int .u8 (c.toNat : Int), lv, .int .i64 k]

theorem blockTo_one (c : UInt8) : cellsOf (blockTo c 1) = (cellsOf zeros).setIfInBounds 0 (.int .u8 (c.toNat : Int)) := by
  have e : blockTo c 1 = zeros.set 0 c := by
    show zeros.set (64 * 0) (c + UInt8.ofNat 0) = zeros.set 0 c
    rw [Nat.mul_zero]
    congr 1
    exact UInt8.add_zero c
  rw [e, ← cellsOf_set]
theorem u8_plus (c : UInt8) (k : Nat) (hk : k < 256) : IntKind.u8.wrap ((c.toNat : Int) + (k : Int)) = ((c + UInt8.ofNat k).toNat : Int) := by
  rw [IntKind.wrap_u8, UInt8.toNat_add, UInt8.toNat_ofNat', Nat.mod_eq_of_lt (by omega : k < 2 ^ 8)]
  omega

end Go.Proofs.YtdadcengelfmhaaGreat.Dev

/-
  A device that a law has made, beside blocks of the law's own that stay: the methods' contracts once more, on the two together.
-/
namespace Go.Proofs.YtdadcengelfmhaaGreat.Dev
open Go.RowKit RowLaw
set_option maxRecDepth 100000

/-- a device p in the state s, all of it new since w; the blocks K beside it; below it all is as it was in w -/
def Live (w : World) (p : Nat) (s : DS) (K : List (Nat × Obj)) (W : World) : Prop :=
  ∃ B, Dev W p B s ∧ (∀ k ∈ B, w.heap.size ≤ k) ∧ Below w.heap.size w W ∧ ∀ x ∈ K, W.heap[x.1]? = some x.2 ∧ x.1 ∉ B ∧ x.1 < W.heap.size

section
variable {w W : World} {p : Nat} {s : DS} {K : List (Nat × Obj)}
theorem Live.bel (h : Live w p s K W) : Below w.heap.size w W := by obtain ⟨_, _, _, h, _⟩ := h; exact h
theorem Live.at_ (h : Live w p s K W) {q : Nat} {o : Obj} (hq : (q, o) ∈ K) : W.heap[q]? = some o := by obtain ⟨_, _, _, _, h⟩ := h; exact (h _ hq).1
theorem Live.lt_ (h : Live w p s K W) {q : Nat} {o : Obj} (hq : (q, o) ∈ K) : q < W.heap.size := by obtain ⟨_, _, _, _, h⟩ := h; exact (h _ hq).2.2
theorem Live.less (h : Live w p s K W) {K' : List (Nat × Obj)} (hk : ∀ x ∈ K', x ∈ K) : Live w p s K' W := by
  obtain ⟨B, h1, h2, h3, h4⟩ := h
  exact ⟨B, h1, h2, h3, fun x hx => h4 x (hk x hx)⟩
theorem Live.below {W' : World} (h : Live w p s K W) (hb : Below W.heap.size W W') : Live w p s K W' := by
  obtain ⟨B, h1, h2, h3, h4⟩ := h
  exact ⟨B, h1.below hb, h2, h3.trans (hb.mono h3.size), fun x hx => ⟨(hb.block _ (h4 x hx).2.2).trans (h4 x hx).1, (h4 x hx).2.1, Nat.lt_of_lt_of_le (h4 x hx).2.2 hb.size⟩⟩
theorem Live.alloc (h : Live w p s K W) (o : Obj) : Live w p s ((W.heap.size, o) :: K) (W.alloc o) := by
  have hb : Below W.heap.size W (W.alloc o) := (Below.refl _ _).alloc (Nat.le_refl _) o
  obtain ⟨B, h1, h2, h3, h4⟩ := h
  refine ⟨B, h1.below hb, h2, h3.trans (hb.mono h3.size), fun x hx => ?_⟩
  rcases List.mem_cons.1 hx with rfl | hx
  · exact ⟨heap_alloc_new W o, fun hm => by have := h1.ltB _ hm; omega, by simp⟩
  · exact ⟨(hb.block _ (h4 x hx).2.2).trans (h4 x hx).1, (h4 x hx).2.1, Nat.lt_of_lt_of_le (h4 x hx).2.2 hb.size⟩
theorem Live.drew (h : Live w p s K W) : Live w p s K W.drew := h.below ⟨rfl, rfl, rfl, Nat.le_refl _, fun _ _ => rfl⟩
theorem Live.step {W' : World} {s' : DS} {B C : List Nat} (h2 : ∀ k ∈ B, w.heap.size ≤ k) (h3 : Below w.heap.size w W) (h4 : ∀ x ∈ K, W.heap[x.1]? = some x.2 ∧ x.1 ∉ B ∧ x.1 < W.heap.size) (hd : Dev W' p C s') (hs : Step B W W' C) : Live w p s' K W' :=
  ⟨C, hd, hs.above h2 h3.size, h3.trans (hs.below h2 h3.size), fun x hx => ⟨(hs.turn.block _ (h4 x hx).2.2 (h4 x hx).2.1).trans (h4 x hx).1, hs.notIn (h4 x hx).2.2 (h4 x hx).2.1, Nat.lt_of_lt_of_le (h4 x hx).2.2 hs.turn.size⟩⟩
/-- where a crash's row may lie -/
def Mine (w : World) (K : List (Nat × Obj)) (pa : Option Addr) : Prop := ∀ a, pa = some a → a.block < w.heap.size ∨ ∃ o, (a.block, o) ∈ K

theorem New_live (w : World) (n : Nat) (h1 : 64 ≤ n) (h2 : n ≤ 1048576) : Calls Tryz.prog 7 #[.int .u32 (n : Int)] w fun e w' => ∃ p, e = .returned (.tuple #[ptr p, .int .i64 0]) ∧ Live w p (newS n) [] w' :=
  (New_any w n h1 h2).mono fun _ _ ⟨p, B, he, hd, hB, hb⟩ => ⟨p, he, B, hd, hB, hb, fun x hx => by cases hx⟩
/-- .. beside blocks that are there -/
theorem New_more {w0 : World} {Ks : List (Nat × Obj)} (w : World) (h0 : Below w0.heap.size w0 w) (hK : ∀ x ∈ Ks, w.heap[x.1]? = some x.2 ∧ x.1 < w.heap.size) (n : Nat) (h1 : 64 ≤ n) (h2 : n ≤ 1048576) :
    Calls Tryz.prog 7 #[.int .u32 (n : Int)] w fun e w' => ∃ p, e = .returned (.tuple #[ptr p, .int .i64 0]) ∧ Live w0 p (newS n) Ks w' :=
  (New_any w n h1 h2).mono fun _ _ ⟨p, B, he, hd, hB, hb⟩ => ⟨p, he, B, hd, (fun k hk => Nat.le_trans h0.size (hB k hk)), h0.trans (hb.mono h0.size), fun x hx =>
    ⟨(hb.block _ (hK x hx).2).trans (hK x hx).1, fun hm => by have := hB _ hm; have := (hK x hx).2; omega, Nat.lt_of_lt_of_le (hK x hx).2 hb.size⟩⟩
theorem Write_live (h : Live w p s K W) {a : Nat} (ha : a < 4294967296) {l : List UInt8} (hl : l.length = 256) (hlen : s.pend.length < 4294967295) :
    Calls Tryz.prog 52 #[ptr p, .int .u32 (a : Int), .agg (cellsOf l)] W fun e W' => e = .returned (.int .i64 (writeE s a)) ∧ Live w p (writeS s a l) K W' := by
  obtain ⟨B, h1, h2, h3, h4⟩ := h
  exact (Write_any h1 ha hl hlen).mono fun _ _ ⟨he, C, hd, hs⟩ => ⟨he, Live.step h2 h3 h4 hd hs⟩
theorem Flush_live (h : Live w p s K W) (hlen : s.pend.length < 4294967296) :
    Calls Tryz.prog 54 #[ptr p] W fun e W' => e = .returned (.int .i64 (flushE s)) ∧ Live w p (flushS s) K W' := by
  obtain ⟨B, h1, h2, h3, h4⟩ := h
  exact (Flush_any h1 hlen).mono fun _ _ ⟨he, C, hd, hs⟩ => ⟨he, Live.step h2 h3 h4 hd hs⟩
theorem Read_live (h : Live w p s K W) {a : Nat} (ha : a < 4294967296) (hlen : s.pend.length < 4294967296) :
    Calls Tryz.prog 58 #[ptr p, .int .u32 (a : Int)] W fun e W' => e = .returned (.tuple #[.agg (cellsOf (readR s a)), .int .i64 (readE s a)]) ∧ Live w p s K W' := by
  have h' := h
  obtain ⟨B, h1, _⟩ := h
  exact (Read_any h1 ha hlen).mono fun _ _ ⟨he, hb⟩ => ⟨he, h'.below hb⟩
end

end Go.Proofs.YtdadcengelfmhaaGreat.Dev

/-
  The statements' known answers: one device, walked.
-/
namespace Go.Proofs.YtdadcengelfmhaaGreat.Dev
open Go.RowKit RowLaw
set_option maxRecDepth 100000

def gZ : Nat → List UInt8 := fun _ => zeros
def bA : List UInt8 := fullB 97
def bB : List UInt8 := fullB 98
def bM : List UInt8 := keepB bA bB 9
theorem bA_len : bA.length = 256 := fullB_length 97
theorem bB_len : bB.length = 256 := fullB_length 98
theorem bM_len : bM.length = 256 := keepB_length bA_len bB_len 9
def t1 : DS := ⟨64, gZ, [(5, bA)], -1, false, 1⟩
def t2 : DS := ⟨64, upd gZ 5 bA, [], -1, false, 2⟩
def t3 : DS := ⟨64, upd gZ 5 bA, [(5, bB)], -1, false, 3⟩
def t4 : DS := ⟨64, upd (upd gZ 5 bA) 5 bM, [], -1, false, 3⟩
def t5 : DS := ⟨64, upd (upd gZ 5 bA) 5 bM, [], 1, false, 3⟩
def t6 : DS := ⟨64, upd (upd gZ 5 bA) 5 bM, [(6, bA)], 0, false, 4⟩
def t7 : DS := ⟨64, upd (upd gZ 5 bA) 5 bM, [(6, bA)], 0, true, 4⟩
def t8 : DS := ⟨64, upd (upd (upd gZ 5 bA) 5 bM) 6 (keepB zeros bA 15), [], -1, false, 4⟩
theorem w1 : writeS (newS 64) 5 bA = t1 := rfl
theorem w2 : flushS t1 = t2 := rfl
theorem w3 : writeS t2 5 bB = t3 := rfl
theorem w3b : writeS t3 64 bB = t3 := rfl
theorem w4 : crashS t3 [(0, 9)] = t4 := rfl
theorem w5 : fuseS t4 1 = t5 := rfl
theorem w6 : writeS t5 6 bA = t6 := rfl
theorem w7 : flushS t6 = t7 := rfl
theorem w7b : writeS t7 6 bB = t7 := rfl
theorem w8 : crashS t7 [(0, 15)] = t8 := rfl
theorem r1 : readR t1 5 = bA := rfl
theorem r4 : readR t4 5 = bM := rfl
theorem keep_all {old new : List UInt8} (ho : old.length = 256) (hn : new.length = 256) : keepB old new 15 = new := by
  apply List.ext_getElem?
  intro j
  by_cases hj : j < 256
  · rw [keepB_get ho hn 15 j hj]
    have hk : j / 64 = 0 ∨ j / 64 = 1 ∨ j / 64 = 2 ∨ j / 64 = 3 := by omega
    rcases hk with h | h | h | h <;> rw [h] <;> rfl
  · rw [List.getElem?_eq_none (by rw [keepB_length ho hn]; omega), List.getElem?_eq_none (by omega)]
theorem r8 : readR t8 6 = bA := keep_all zeros_length bA_len
theorem bM_at (j : Nat) (hj : j < 256) : bM[j]'(by rw [bM_len]; exact hj) = if Nat.testBit 9 (j / 64) = true then 98 else 97 := by
  have h := keepB_get bA_len bB_len 9 j hj
  have h2 : bM[j]? = some (bM[j]'(by rw [bM_len]; exact hj)) := List.getElem?_eq_getElem _
  have h3 : bM[j]? = if Nat.testBit 9 (j / 64) = true then bB[j]? else bA[j]? := h
  rw [h2] at h3
  have hA : bA[j]? = some 97 := by
    show (List.replicate 256 (97 : UInt8))[j]? = some 97
    rw [List.getElem?_replicate, if_pos hj]
  have hB : bB[j]? = some 98 := by
    show (List.replicate 256 (98 : UInt8))[j]? = some 98
    rw [List.getElem?_replicate, if_pos hj]
  rw [hA, hB] at h3
  split at h3
  · rename_i h4; rw [if_pos h4]; exact Option.some.inj h3
  · rename_i h4; rw [if_neg h4]; exact Option.some.inj h3

theorem bM_cell (j : Nat) (hj : j < 256) : (cellsOf bM)[j]? = some (.int .u8 (if Nat.testBit 9 (j / 64) = true then 98 else 97)) := by
  rw [cellsOf_get bM j (by rw [bM_len]; exact hj), bM_at j hj]
  split <;> rfl

section
variable {w W : World} {p : Nat} {s : DS} {K : List (Nat × Obj)}
theorem write_as {a : Nat} {l : List UInt8} {s' : DS} {e' : Int} (h : Live w p s K W) (ha : a < 4294967296) (hl : l.length = 256) (hlen : s.pend.length < 4294967295) (hs : writeS s a l = s') (he : writeE s a = e') :
    Calls Tryz.prog 52 #[ptr p, .int .u32 (a : Int), .agg (cellsOf l)] W fun e W' => e = .returned (.int .i64 e') ∧ Live w p s' K W' := by
  subst hs he; exact Write_live h ha hl hlen
theorem flush_as {s' : DS} {e' : Int} (h : Live w p s K W) (hlen : s.pend.length < 4294967296) (hs : flushS s = s') (he : flushE s = e') :
    Calls Tryz.prog 54 #[ptr p] W fun e W' => e = .returned (.int .i64 e') ∧ Live w p s' K W' := by
  subst hs he; exact Flush_live h hlen
theorem read_as {a : Nat} {l : List UInt8} (h : Live w p s K W) (ha : a < 4294967296) (hlen : s.pend.length < 4294967296) (hs : readR s a = l) {e' : Int} (he : readE s a = e') :
    Calls Tryz.prog 58 #[ptr p, .int .u32 (a : Int)] W fun e W' => e = .returned (.tuple #[.agg (cellsOf l), .int .i64 e']) ∧ Live w p s K W' := by
  subst hs he; exact Read_live h ha hlen
/-- a load of a byte in a quiet walk -/
theorem quiet_load_u8 {I : World → Prop} {K : Act → Prop} {o : Oper} {a : Act} (x : Operand) (ho : o.op = .load 5 x) (ad : Addr) (hx : a.eval x = .pointer (some ad)) (v : Value) (hc : ∀ w : World, I w → w.cell? ad = some v)
    (hk : K (a.put o.dst v)) : o.quiet Tryz.prog a (fun w' => ∃ x : {w' : World // I w'}, w' = x.1) K :=
  ⟨v, fun w hw => by
    obtain ⟨y, rfl⟩ := hw
    have h := hc y.1 y.2
    unfold Oper.quietAt execOp
    simp only [ho, hx]
    go_simp, hk⟩
end

end Go.Proofs.YtdadcengelfmhaaGreat.Dev

