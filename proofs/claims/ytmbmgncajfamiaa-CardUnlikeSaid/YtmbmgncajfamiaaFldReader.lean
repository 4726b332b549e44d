/-
  Readers as what they have: a block and a position, or failed. The walks of Open, Num, Text, Fine, End.
-/
import Derived.Test.YtmbmgncajfamiaaFldReads
namespace Go.Proofs.Ytmbmgncajfamiaa.Fld
open Go.RowKit RowLaw Crc
set_option maxRecDepth 100000

/-- what a reader in memory has -/
def RIs (w : World) (p : Nat) : Option (List UInt8 × Nat) → Prop
  | some (l, k) => l.length = 256 ∧ 1 ≤ k ∧ k ≤ 252 ∧ IsObj 95 w p l k
  | none => ∃ l : List UInt8, l.length = 256 ∧ IsObj 95 w p l 0
theorem RIs.lt {w : World} {p : Nat} : ∀ {st : Option (List UInt8 × Nat)}, RIs w p st → p < w.heap.size
  | some (_, _), h => h.2.2.2.lt
  | none, ⟨_, _, h⟩ => h.lt
theorem RIs.of_block {w w' : World} {p : Nat} : ∀ {st : Option (List UInt8 × Nat)}, RIs w p st → w'.heap[p]? = w.heap[p]? → RIs w' p st
  | some (_, _), h, e => ⟨h.1, h.2.1, h.2.2.1, e.trans h.2.2.2⟩
  | none, ⟨l, hl, h⟩, e => ⟨l, hl, e.trans h⟩
theorem RIs.apart {w w' : World} {p q : Nat} {st : Option (List UInt8 × Nat)} (h : RIs w q st) (ha : Apart p w w') (hp : q ≠ p) : RIs w' q st := h.of_block (ha.block q h.lt hp)
theorem RIs.below {w w' : World} {p : Nat} {st : Option (List UInt8 × Nat)} (h : RIs w p st) (hb : Below w.heap.size w w') : RIs w' p st := h.of_block (hb.block p h.lt)

def piece (l : List UInt8) (k m : Nat) : List UInt8 := (l.drop k).take m
theorem piece_length (l : List UInt8) (k m : Nat) (h : k + m ≤ l.length) : (piece l k m).length = m := by simp [piece]; omega
theorem piece_get (l : List UInt8) (k m j : Nat) (h : k + m ≤ l.length) (hj : j < (piece l k m).length) : (piece l k m)[j] = l[k + j]'(by rw [piece_length l k m h] at hj; omega) := by
  simp [piece]

/-- the number at a reader's position -/
def takeNum : Option (List UInt8 × Nat) → Int → Nat × Option (List UInt8 × Nat)
  | some (l, k), width => if fitB k (numSz width) = true then (leNat (piece l k (numSz width)), some (l, k + numSz width)) else (0, none)
  | none, _ => (0, none)
/-- a text, if it stands there -/
def textAt (l : List UInt8) (k room : Nat) : Option (List UInt8) :=
  if (l.getD k 0).toNat ≤ room ∧ blankB ((piece l (k + 1) room).drop (l.getD k 0).toNat) = true then some ((piece l (k + 1) room).take (l.getD k 0).toNat) else none
def takeText : Option (List UInt8 × Nat) → Int → List UInt8 × Option (List UInt8 × Nat)
  | some (l, k), room => if fitB k (textSz room) = true then (match textAt l k room.toNat with | some s => (s, some (l, k + textSz room)) | none => ([], none)) else ([], none)
  | none, _ => ([], none)
def endB : Option (List UInt8 × Nat) → Bool
  | some (l, k) => blankB (piece l k (252 - k))
  | none => false
def endE (st : Option (List UInt8 × Nat)) : Int := if endB st = true then 0 else 250

theorem enter50 : ∀ (args : Array Value) (W : World), (callFunc 68 args).run Try.prog W = .ok (.enter 68 args) W := fun _ _ => by simp [go_sem]
theorem enter47 : ∀ (args : Array Value) (W : World), (callFunc 56 args).run Try.prog W = .ok (.enter 56 args) W := fun _ _ => by simp [go_sem]

/-- a pair of which the second is some bool -/
def PairOf (v : Value) (e : Ending) : Prop := ∃ b : Bool, e = .returned (.tuple #[v, .bool b])

theorem number_at (T : TypeId) (p k k' m : Nat) (l : List UInt8) (hl : l.length = 256) (hm : m ≤ 8) (hk : k + m ≤ 256) (W : World) (ho : IsObj T W p l k') :
    Calls Try.prog 68 #[.slice (some ⟨p, k, none⟩) m (256 - k)] W fun e W' => e = .returned (.tuple #[.int .u64 (leNat (piece l k m) : Int), .bool true]) ∧ Below W.heap.size W W' := by
  have hlen := piece_length l k m (by omega)
  have := number_any p k (256 - k) (piece l k m) (by omega) W (fun j hj => by rw [piece_get l k m j (by omega) hj]; exact ho.byte (k + j) (by rw [hlen] at hj; omega))
  rw [hlen] at this
  exact this.mono fun _ _ ⟨he, hw⟩ => ⟨he, hw ▸ Below.refl _ _⟩

theorem read_num (st : Option (List UInt8 × Nat)) (p : Nat) (width : Int) (w : World) (hw : RIs w p st) :
    Calls Try.prog 67 #[.pointer (some ⟨p, 0, none⟩), .int .i64 (numSz width : Int), .func (.func 68) #[] #[]] w fun e w' =>
      PairOf (.int .u64 ((takeNum st width).1 : Int)) e ∧ RIs w' p (takeNum st width).2 ∧ Apart p w w' := by
  have hz := numSz_le width
  match st, hw with
  | none, ⟨l, hl, ho⟩ =>
    exact (read_no_uint64 p (numSz width) l 0 _ hl (by omega) (by omega) (decide_eq_false (by omega)) w ho).mono fun _ _ ⟨he, h1, h2⟩ => ⟨⟨_, he⟩, ⟨l, hl, h1⟩, h2⟩
  | some (l, k), ⟨hl, hk1, hk2, ho⟩ =>
    cases hfit : fitB k (numSz width) with
    | false =>
      rw [show takeNum (some (l, k)) width = (0, none) from if_neg (by rw [hfit]; simp)]
      exact (read_no_uint64 p (numSz width) l k _ hl hk2 (by omega) hfit w ho).mono fun _ _ ⟨he, h1, h2⟩ => ⟨⟨_, he⟩, ⟨l, hl, h1⟩, h2⟩
    | true =>
      have hy : k ≠ 0 ∧ numSz width ≠ 0 ∧ k + numSz width ≤ 252 := of_decide_eq_true hfit
      rw [show takeNum (some (l, k)) width = (leNat (piece l k (numSz width)), some (l, k + numSz width)) from if_pos hfit]
      exact (read_yes_uint64 p (numSz width) l k _ _ true hl hfit w ho enter50 (fun W hW => number_at _ p k _ (numSz width) l hl hz (by omega) W hW)).mono fun _ _ ⟨he, h1, h2⟩ => ⟨⟨_, he⟩, ⟨hl, by omega, by omega, h1⟩, h2⟩

theorem text_at (T : TypeId) (p k k' room : Nat) (l : List UInt8) (hl : l.length = 256) (hr : room ≤ 200) (hk : k + (1 + room) ≤ 252) (W : World) (ho : IsObj T W p l k') :
    Calls Try.prog 56 #[.slice (some ⟨p, k, none⟩) (1 + room) (256 - k)] W fun e W' =>
      e = .returned (.tuple #[.string ⟨((textAt l k room).getD []).toArray⟩, .bool (textAt l k room).isSome]) ∧ Below W.heap.size W W' := by
  have hlen := piece_length l (k + 1) room (by omega)
  have hkl : k < l.length := by omega
  have hg : l.getD k 0 = l[k] := by rw [List.getD_eq_getElem?_getD, List.getElem?_eq_getElem hkl]; rfl
  have hu := ho.byte k hkl
  rw [show (1 + room : Nat) = room + 1 from by omega, show 256 - k = (255 - k) + 1 from by omega]
  unfold textAt
  rw [hg]
  by_cases hn : l[k].toNat ≤ room
  · have hcell : ∀ j (h : j < (piece l (k + 1) room).length), W.cell? ⟨p, k + 1 + j, none⟩ = some (.int .u8 ((piece l (k + 1) room)[j].toNat : Int)) := fun j hj => by
      rw [piece_get l (k + 1) room j (by omega) hj]; exact ho.byte (k + 1 + j) (by rw [hlen] at hj; omega)
    have key := fun (b : Bool) (hb : blankB ((piece l (k + 1) room).drop l[k].toNat) = b) => text_short p k (255 - k) room l[k] (piece l (k + 1) room) b hr (by omega) hn hlen hb W hu hcell
    cases hb : blankB ((piece l (k + 1) room).drop l[k].toNat) with
    | true =>
      rw [if_pos ⟨hn, rfl⟩]
      exact key true hb
    | false =>
      rw [if_neg (by simp)]
      exact key false hb
  · rw [if_neg (fun h => hn h.1)]
    exact text_long p k (255 - k) room l[k] hr (by omega) (by omega) W hu

theorem read_text (st : Option (List UInt8 × Nat)) (p : Nat) (room : Int) (w : World) (hw : RIs w p st) :
    Calls Try.prog 55 #[.pointer (some ⟨p, 0, none⟩), .int .i64 (textSz room : Int), .func (.func 56) #[] #[]] w fun e w' =>
      PairOf (.string ⟨(takeText st room).1.toArray⟩) e ∧ RIs w' p (takeText st room).2 ∧ Apart p w w' := by
  have hz := textSz_le room
  match st, hw with
  | none, ⟨l, hl, ho⟩ =>
    exact (read_no_string p (textSz room) l 0 _ hl (by omega) (by omega) (decide_eq_false (by omega)) w ho).mono fun _ _ ⟨he, h1, h2⟩ => ⟨⟨_, he⟩, ⟨l, hl, h1⟩, h2⟩
  | some (l, k), ⟨hl, hk1, hk2, ho⟩ =>
    cases hfit : fitB k (textSz room) with
    | false =>
      rw [show takeText (some (l, k)) room = ([], none) from if_neg (by rw [hfit]; simp)]
      exact (read_no_string p (textSz room) l k _ hl hk2 (by omega) hfit w ho).mono fun _ _ ⟨he, h1, h2⟩ => ⟨⟨_, he⟩, ⟨l, hl, h1⟩, h2⟩
    | true =>
      have hy : k ≠ 0 ∧ textSz room ≠ 0 ∧ k + textSz room ≤ 252 := of_decide_eq_true hfit
      have hroom : 0 ≤ room ∧ room ≤ 200 ∧ textSz room = 1 + room.toNat := by
        have := hy.2.1
        unfold textSz at this ⊢
        split at this <;> rename_i h1 <;> first | omega | (rw [if_neg h1]; omega)
      have hval : ∀ W : World, IsObj 95 W p l (k + textSz room) → Calls Try.prog 56 #[.slice (some ⟨p, k, none⟩) (textSz room) (256 - k)] W fun e W' =>
          e = .returned (.tuple #[.string ⟨((textAt l k room.toNat).getD []).toArray⟩, .bool (textAt l k room.toNat).isSome]) ∧ Below W.heap.size W W' := fun W hW => by
        have := text_at _ p k _ room.toNat l hl (by omega) (by omega) W hW
        rw [← hroom.2.2] at this
        exact this
      have := read_yes_string p (textSz room) l k _ _ _ hl hfit w ho enter47 hval
      have ht : takeText (some (l, k)) room = (match textAt l k room.toNat with | some s => (s, some (l, k + textSz room)) | none => ([], none)) := if_pos hfit
      cases hta : textAt l k room.toNat with
      | none =>
        rw [hta] at this ht
        rw [ht]
        exact this.mono fun _ _ ⟨he, h1, h2⟩ => ⟨⟨_, he⟩, ⟨l, hl, h1⟩, h2⟩
      | some s =>
        rw [hta] at this ht
        rw [ht]
        exact this.mono fun _ _ ⟨he, h1, h2⟩ => ⟨⟨_, he⟩, ⟨hl, by omega, by omega, h1⟩, h2⟩

set_option maxHeartbeats 400000 in
theorem RNum_any (st : Option (List UInt8 × Nat)) (p : Nat) (width : Int) (w : World) (hw : RIs w p st) :
    Calls Try.prog 57 #[.pointer (some ⟨p, 0, none⟩), .int .i64 width] w fun e w' => e = .returned (.int .u64 ((takeNum st width).1 : Int)) ∧ RIs w' p (takeNum st width).2 ∧ Apart p w w' := by
  go_enter Try.func57, Try.ntmps57
  go_wp2_with (first | (go_at_call 43; (with_reducible refine (numSize_any width _).mono ?_); rintro e W1 ⟨rfl, rfl⟩) | (go_at_call 67; (with_reducible refine (read_num st p width _ hw).mono ?_); rintro e W2 ⟨⟨b, rfl⟩, h2, ha⟩))
  go_ret
  exact ⟨rfl, h2, ha⟩
set_option maxHeartbeats 400000 in
theorem RNum_nil (width : Int) (w : World) :
    Calls Try.prog 57 #[.pointer none, .int .i64 width] w fun e w' => e = .returned (.int .u64 0) ∧ Below w.heap.size w w' := by
  go_enter Try.func57, Try.ntmps57
  go_wp2_with (first | (go_at_call 43; (with_reducible refine (numSize_any width _).mono ?_); rintro e W1 ⟨rfl, rfl⟩) | (go_at_call 67; (with_reducible refine (read_nil_uint64 _ _ _).mono ?_); rintro e W2 ⟨rfl, ha⟩))
  go_ret
  exact ⟨rfl, ha⟩
set_option maxHeartbeats 400000 in
theorem RText_any (st : Option (List UInt8 × Nat)) (p : Nat) (room : Int) (w : World) (hw : RIs w p st) :
    Calls Try.prog 31 #[.pointer (some ⟨p, 0, none⟩), .int .i64 room] w fun e w' => e = .returned (.string ⟨(takeText st room).1.toArray⟩) ∧ RIs w' p (takeText st room).2 ∧ Apart p w w' := by
  go_enter Try.func31, Try.ntmps31
  go_wp2_with (first | (go_at_call 41; (with_reducible refine (textSize_any room _).mono ?_); rintro e W1 ⟨rfl, rfl⟩) | (go_at_call 55; (with_reducible refine (read_text st p room _ hw).mono ?_); rintro e W2 ⟨⟨b, rfl⟩, h2, ha⟩))
  go_ret
  exact ⟨rfl, h2, ha⟩
set_option maxHeartbeats 400000 in
theorem RText_nil (room : Int) (w : World) :
    Calls Try.prog 31 #[.pointer none, .int .i64 room] w fun e w' => e = .returned (.string ⟨#[]⟩) ∧ Below w.heap.size w w' := by
  go_enter Try.func31, Try.ntmps31
  go_wp2_with (first | (go_at_call 41; (with_reducible refine (textSize_any room _).mono ?_); rintro e W1 ⟨rfl, rfl⟩) | (go_at_call 55; (with_reducible refine (read_nil_string _ _ _).mono ?_); rintro e W2 ⟨rfl, ha⟩))
  go_ret
  exact ⟨rfl, ha⟩

theorem Fine_nil (w : World) : Calls Try.prog 58 #[.pointer none] w fun e w' => e = .returned (.bool false) ∧ w = w' := by
  go_enter Try.func58, Try.ntmps58
  go_wp2
  go_ret
  exact ⟨rfl, rfl⟩
theorem Fine_any (st : Option (List UInt8 × Nat)) (p : Nat) (w : World) (hw : RIs w p st) : Calls Try.prog 58 #[.pointer (some ⟨p, 0, none⟩)] w fun e w' => e = .returned (.bool st.isSome) ∧ w = w' := by
  match st, hw with
  | none, ⟨l, hl, ho⟩ =>
    have hc := ho.pos hl
    go_enter Try.func58, Try.ntmps58
    go_wp2
    go_ret
    exact ⟨rfl, rfl⟩
  | some (l, k), ⟨hl, hk1, hk2, ho⟩ =>
    have hc := ho.pos hl
    have hk : ((k : Int) != 0) = true := by simp; omega
    go_enter Try.func58, Try.ntmps58
    go_wp2
    go_ret
    exact ⟨rfl, rfl⟩

end Go.Proofs.Ytmbmgncajfamiaa.Fld
