/-
  Readers as what they have: a block and a position, or failed. The walks of Open, Num, Text, Fine, End.
-/
import Derived.Test.YtkkeemjgeeillaaFldReads
namespace Go.Proofs.Ytkkeemjgeeillaa.Fld
open Go.RowKit RowLaw Crc
set_option maxRecDepth 100000

/-- what a reader in memory has -/
def RIs (w : World) (p : Nat) : Option (List UInt8 × Nat) → Prop
  | some (l, k) => l.length = 256 ∧ 1 ≤ k ∧ k ≤ 252 ∧ IsObj 91 w p l k
  | none => ∃ l : List UInt8, l.length = 256 ∧ IsObj 91 w p l 0
theorem RIs.lt {w : World} {p : Nat} : ∀ {st : Option (List UInt8 × Nat)}, RIs w p st → p < w.heap.size
  | some (_, _), h => h.2.2.2.lt
  | none, ⟨_, _, h⟩ => h.lt
theorem RIs.of_block {w w' : World} {p : Nat} : ∀ {st : Option (List UInt8 × Nat)}, RIs w p st → w'.heap[p]? = w.heap[p]? → RIs w' p st
  | some (_, _), h, e => ⟨h.1, h.2.1, h.2.2.1, e.trans h.2.2.2⟩
  | none, ⟨l, hl, h⟩, e => ⟨l, hl, e.trans h⟩
theorem RIs.apart {w w' : World} {p q : Nat} {st : Option (List UInt8 × Nat)} (h : RIs w q st) (ha : Apart p w w') (hp : q ≠ p) : RIs w' q st := h.of_block (ha.block q h.lt hp)
theorem RIs.below {w w' : World} {p : Nat} {st : Option (List UInt8 × Nat)} (h : RIs w p st) (hb : Below w.heap.size w w') : RIs w' p st := h.of_block (hb.block p h.lt)

def piece (l : List UInt8) (k m : Nat) : List UInt8 := (l.drop k).take m
theorem piece_length (l : List UInt8) (k m : Nat) (h : k + m ≤ l.length) : (piece l k m).length = m := by simp [piece]; omega
theorem piece_get (l : List UInt8) (k m j : Nat) (h : k + m ≤ l.length) (hj : j < (piece l k m).length) : (piece l k m)[j] = l[k + j]'(by rw [piece_length l k m h] at hj; omega) := by
  simp [piece]

/-- the number at a reader's position -/
def takeNum : Option (List UInt8 × Nat) → Int → Nat × Option (List UInt8 × Nat)
  | some (l, k), width => if fitB k (numSz width) = true then (leNat (piece l k (numSz width)), some (l, k + numSz width)) else (0, none)
  | none, _ => (0, none)
/-- a text, if it stands there -/
def textAt (l : List UInt8) (k room : Nat) : Option (List UInt8) :=
  if (l.getD k 0).toNat ≤ room ∧ blankB ((piece l (k + 1) room).drop (l.getD k 0).toNat) = true then some ((piece l (k + 1) room).take (l.getD k 0).toNat) else none
def takeText : Option (List UInt8 × Nat) → Int → List UInt8 × Option (List UInt8 × Nat)
  | some (l, k), room => if fitB k (textSz room) = true then (match textAt l k room.toNat with | some s => (s, some (l, k + textSz room)) | none => ([], none)) else ([], none)
  | none, _ => ([], none)
def endB : Option (List UInt8 × Nat) → Bool
  | some (l, k) => blankB (piece l k (252 - k))
  | none => false
def endE (st : Option (List UInt8 × Nat)) : Int := if endB st = true then 0 else 250

theorem enter50 : ∀ (args : Array Value) (W : World), (callFunc 48 args).run Try.prog W = .ok (.enter 48 args) W := fun _ _ => by simp [go_sem]
/-- a pair of which the second is some bool -/
def PairOf (v : Value) (e : Ending) : Prop := ∃ b : Bool, e = .returned (.tuple #[v, .bool b])

theorem number_at (T : TypeId) (p k k' m : Nat) (l : List UInt8) (hl : l.length = 256) (hm : m ≤ 8) (hk : k + m ≤ 256) (W : World) (ho : IsObj T W p l k') :
    Calls Try.prog 48 #[.slice (some ⟨p, k, none⟩) m (256 - k)] W fun e W' => e = .returned (.tuple #[.int .u64 (leNat (piece l k m) : Int), .bool true]) ∧ Below W.heap.size W W' := by
  have hlen := piece_length l k m (by omega)
  have := number_any p k (256 - k) (piece l k m) (by omega) W (fun j hj => by rw [piece_get l k m j (by omega) hj]; exact ho.byte (k + j) (by rw [hlen] at hj; omega))
  rw [hlen] at this
  exact this.mono fun _ _ ⟨he, hw⟩ => ⟨he, hw ▸ Below.refl _ _⟩

theorem read_num (st : Option (List UInt8 × Nat)) (p : Nat) (width : Int) (w : World) (hw : RIs w p st) :
    Calls Try.prog 47 #[.pointer (some ⟨p, 0, none⟩), .int .i64 (numSz width : Int), .func (.func 48) #[] #[]] w fun e w' =>
      PairOf (.int .u64 ((takeNum st width).1 : Int)) e ∧ RIs w' p (takeNum st width).2 ∧ Apart p w w' := by
  have hz := numSz_le width
  match st, hw with
  | none, ⟨l, hl, ho⟩ =>
    exact (read_no_uint64 p (numSz width) l 0 _ hl (by omega) (by omega) (decide_eq_false (by omega)) w ho).mono fun _ _ ⟨he, h1, h2⟩ => ⟨⟨_, he⟩, ⟨l, hl, h1⟩, h2⟩
  | some (l, k), ⟨hl, hk1, hk2, ho⟩ =>
    cases hfit : fitB k (numSz width) with
    | false =>
      rw [show takeNum (some (l, k)) width = (0, none) from if_neg (by rw [hfit]; simp)]
      exact (read_no_uint64 p (numSz width) l k _ hl hk2 (by omega) hfit w ho).mono fun _ _ ⟨he, h1, h2⟩ => ⟨⟨_, he⟩, ⟨l, hl, h1⟩, h2⟩
    | true =>
      have hy : k ≠ 0 ∧ numSz width ≠ 0 ∧ k + numSz width ≤ 252 := of_decide_eq_true hfit
      rw [show takeNum (some (l, k)) width = (leNat (piece l k (numSz width)), some (l, k + numSz width)) from if_pos hfit]
      exact (read_yes_uint64 p (numSz width) l k _ _ true hl hfit w ho enter50 (fun W hW => number_at _ p k _ (numSz width) l hl hz (by omega) W hW)).mono fun _ _ ⟨he, h1, h2⟩ => ⟨⟨_, he⟩, ⟨hl, by omega, by omega, h1⟩, h2⟩

set_option maxHeartbeats 400000 in
theorem RNum_any (st : Option (List UInt8 × Nat)) (p : Nat) (width : Int) (w : World) (hw : RIs w p st) :
    Calls Try.prog 36 #[.pointer (some ⟨p, 0, none⟩), .int .i64 width] w fun e w' => e = .returned (.int .u64 ((takeNum st width).1 : Int)) ∧ RIs w' p (takeNum st width).2 ∧ Apart p w w' := by
  go_enter Try.func36, Try.ntmps36
  go_wp2_with (first | (go_at_call 41; (with_reducible refine (numSize_any width _).mono ?_); rintro e W1 ⟨rfl, rfl⟩) | (go_at_call 47; (with_reducible refine (read_num st p width _ hw).mono ?_); rintro e W2 ⟨⟨b, rfl⟩, h2, ha⟩))
  go_ret
  exact ⟨rfl, h2, ha⟩
set_option maxHeartbeats 400000 in
theorem RNum_nil (width : Int) (w : World) :
    Calls Try.prog 36 #[.pointer none, .int .i64 width] w fun e w' => e = .returned (.int .u64 0) ∧ Below w.heap.size w w' := by
  go_enter Try.func36, Try.ntmps36
  go_wp2_with (first | (go_at_call 41; (with_reducible refine (numSize_any width _).mono ?_); rintro e W1 ⟨rfl, rfl⟩) | (go_at_call 47; (with_reducible refine (read_nil_uint64 _ _ _).mono ?_); rintro e W2 ⟨rfl, ha⟩))
  go_ret
  exact ⟨rfl, ha⟩
theorem Fine_nil (w : World) : Calls Try.prog 49 #[.pointer none] w fun e w' => e = .returned (.bool false) ∧ w = w' := by
  go_enter Try.func49, Try.ntmps49
  go_wp2
  go_ret
  exact ⟨rfl, rfl⟩
theorem Fine_any (st : Option (List UInt8 × Nat)) (p : Nat) (w : World) (hw : RIs w p st) : Calls Try.prog 49 #[.pointer (some ⟨p, 0, none⟩)] w fun e w' => e = .returned (.bool st.isSome) ∧ w = w' := by
  match st, hw with
  | none, ⟨l, hl, ho⟩ =>
    have hc := ho.pos hl
    go_enter Try.func49, Try.ntmps49
    go_wp2
    go_ret
    exact ⟨rfl, rfl⟩
  | some (l, k), ⟨hl, hk1, hk2, ho⟩ =>
    have hc := ho.pos hl
    have hk : ((k : Int) != 0) = true := by simp; omega
    go_enter Try.func49, Try.ntmps49
    go_wp2
    go_ret
    exact ⟨rfl, rfl⟩

end Go.Proofs.Ytkkeemjgeeillaa.Fld
