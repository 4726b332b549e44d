/-
  Writers and readers in memory: 256 bytes and a position; what an operation on one of them leaves as it was; the small functions of package field.
-/
import Derived.Test.YtmbmgncajfamiaaCrcHead
import Derived.Lib.Hide
import Derived.Defers
import Derived.Scope
import Derived.WalkMore
import Derived.ScopeJumps
namespace Go.Proofs.Ytmbmgncajfamiaa.Fld
open Go.RowKit RowLaw Crc
set_option maxRecDepth 100000

/-- an object's cells: a block's bytes, and a position -/
def objCells (l : List UInt8) (at_ : Nat) : Array Value := cellsOf l ++ #[.int .i64 (at_ : Int)]
theorem objCells_size (l : List UInt8) (k : Nat) : (objCells l k).size = l.length + 1 := by unfold objCells; rw [Array.size_append, cellsOf_size]; rfl
theorem objCells_byte (l : List UInt8) (k j : Nat) (h : j < l.length) : (objCells l k)[j]? = some (.int .u8 (l[j].toNat : Int)) := by
  unfold objCells
  rw [Array.getElem?_append_left (by rw [cellsOf_size]; exact h), cellsOf_get l j h]
theorem objCells_at (l : List UInt8) (k : Nat) (h : l.length = 256) : (objCells l k)[256]? = some (.int .i64 (k : Int)) := by
  unfold objCells
  rw [Array.getElem?_append_right (by rw [cellsOf_size]; omega), cellsOf_size, h]; rfl
theorem objCells_one (l : List UInt8) (k : Nat) : (objCells l k).all (·.oneCell') = true := by
  unfold objCells
  rw [Array.all_append, cellsOf_one]
  simp [Value.oneCell']
theorem objCells_setByte (l : List UInt8) (k j : Nat) (u : UInt8) (h : j < l.length) : (objCells l k).setIfInBounds j (.int .u8 (u.toNat : Int)) = objCells (l.set j u) k := by
  unfold objCells
  rw [Array.setIfInBounds_append_left (by rw [cellsOf_size]; exact h), cellsOf_set]
theorem objCells_setAt (l : List UInt8) (k k' : Nat) (h : l.length = 256) : (objCells l k).setIfInBounds 256 (.int .i64 (k' : Int)) = objCells l k' := by
  unfold objCells
  rw [Array.setIfInBounds_append_right (by rw [cellsOf_size]; omega), cellsOf_size, h]; rfl

/-- block p is an object of type T -/
def IsObj (T : TypeId) (w : World) (p : Nat) (l : List UInt8) (k : Nat) : Prop := w.heap[p]? = some (.cells (objCells l k) T (0, 0))

section
variable {T : TypeId} {w : World} {p : Nat} {l : List UInt8} {k : Nat}
theorem IsObj.lt (h : IsObj T w p l k) : p < w.heap.size := by
  rcases Nat.lt_or_ge p w.heap.size with hlt | hge
  · exact hlt
  · unfold IsObj at h; rw [Array.getElem?_eq_none hge] at h; cases h
theorem IsObj.byte (h : IsObj T w p l k) (j : Nat) (hj : j < l.length) : w.cell? ⟨p, j, none⟩ = some (.int .u8 (l[j].toNat : Int)) :=
  (cell_of_row w p j _ _ _ h).trans (objCells_byte l k j hj)
theorem IsObj.pos (h : IsObj T w p l k) (hl : l.length = 256) : w.cell? ⟨p, 256, none⟩ = some (.int .i64 (k : Int)) :=
  (cell_of_row w p 256 _ _ _ h).trans (objCells_at l k hl)
theorem IsObj.frozen (h : IsObj T w p l k) (j : Nat) : w.frozen? ⟨p, j, none⟩ = false := frozen_of_row w p j _ _ h
theorem IsObj.setByte (h : IsObj T w p l k) (j : Nat) (u : UInt8) (hj : j < l.length) : IsObj T (w.setCell ⟨p, j, none⟩ (.int .u8 (u.toNat : Int))) p (l.set j u) k := by
  unfold IsObj
  rw [← objCells_setByte l k j u hj]
  exact heap_setCell_same w p j _ _ _ h
theorem IsObj.setPos (h : IsObj T w p l k) (hl : l.length = 256) (k' : Nat) : IsObj T (w.setCell ⟨p, 256, none⟩ (.int .i64 (k' : Int))) p l k' := by
  unfold IsObj
  rw [← objCells_setAt l k k' hl]
  exact heap_setCell_same w p 256 _ _ _ h
theorem IsObj.other (h : IsObj T w p l k) (a : Addr) (v : Value) (ha : p ≠ a.block) : IsObj T (w.setCell a v) p l k := (heap_setCell_other w a p v ha).trans h
theorem IsObj.alloc (h : IsObj T w p l k) (o : Obj) : IsObj T (w.alloc o) p l k := (Below.heap_alloc w o p h.lt).trans h
theorem IsObj.drew (h : IsObj T w p l k) : IsObj T w.drew p l k := h
theorem IsObj.below {B : Nat} {w' : World} (h : IsObj T w p l k) (hb : Below B w w') (hB : p < B) : IsObj T w' p l k := (hb.block p hB).trans h
theorem IsObj.new (w : World) (T : TypeId) (l : List UInt8) (k : Nat) : IsObj T (w.alloc (.cells (objCells l k) T)) w.heap.size l k := heap_alloc_new w _
end

/-- Nothing old but block p has turned. -/
structure Apart (p : Nat) (w w' : World) : Prop where
  os : w'.os = w.os
  tape : w'.tape = w.tape
  output : w'.output = w.output
  size : w.heap.size ≤ w'.heap.size
  block : ∀ k, k < w.heap.size → k ≠ p → w'.heap[k]? = w.heap[k]?

theorem Apart.refl (p : Nat) (w : World) : Apart p w w := ⟨rfl, rfl, rfl, Nat.le_refl _, fun _ _ _ => rfl⟩
theorem Apart.trans {p : Nat} {a b c : World} (h : Apart p a b) (k : Apart p b c) : Apart p a c :=
  ⟨k.os.trans h.os, k.tape.trans h.tape, k.output.trans h.output, Nat.le_trans h.size k.size, fun i hi hp => (k.block i (Nat.lt_of_lt_of_le hi h.size) hp).trans (h.block i hi hp)⟩
theorem Apart.of_below {p : Nat} {w w' : World} (h : Below w.heap.size w w') : Apart p w w' := ⟨h.os, h.tape, h.output, h.size, fun k hk _ => h.block k hk⟩
theorem Apart.below {p B : Nat} {w w' : World} (h : Apart p w w') (hp : B ≤ p) (hw : B ≤ w.heap.size) : Below B w w' :=
  ⟨h.os, h.tape, h.output, h.size, fun k hk => h.block k (by omega) (by omega)⟩
theorem Apart.drew {p : Nat} {a w : World} (h : Apart p a w) : Apart p a w.drew := ⟨h.os, h.tape, h.output, h.size, h.block⟩
theorem Apart.alloc {p : Nat} {a w : World} (h : Apart p a w) (o : Obj) : Apart p a (w.alloc o) := h.trans (Apart.of_below ((Below.refl _ _).alloc (Nat.le_refl _) o))
theorem Apart.set_ {p : Nat} {a w : World} (h : Apart p a w) (j : Nat) (v : Value) : Apart p a (w.setCell ⟨p, j, none⟩ v) :=
  h.trans ⟨rfl, rfl, rfl, by simp [World.setCell], fun k _ hk => heap_setCell_other w ⟨p, j, none⟩ k v hk⟩
/-- a store into a block of the call's own -/
theorem Apart.own {p : Nat} {a w : World} (h : Apart p a w) (q : Addr) (hq : a.heap.size ≤ q.block) (v : Value) : Apart p a (w.setCell q v) :=
  ⟨h.os, h.tape, h.output, Nat.le_trans h.size (by simp [World.setCell]), fun k hk hp => (heap_setCell_other w q k v (by omega)).trans (h.block k hk hp)⟩
theorem Apart.cell {p : Nat} {w w' : World} (h : Apart p w w') {q : Addr} (hq : q.block < w.heap.size) (hp : q.block ≠ p) : w'.cell? q = w.cell? q := World.cell?_of_block (w := w) (h.block q.block hq hp)
theorem Apart.frozen {p : Nat} {w w' : World} (h : Apart p w w') {q : Addr} (hq : q.block < w.heap.size) (hp : q.block ≠ p) : w'.frozen? q = w.frozen? q := World.frozen?_of_block (w := w) (h.block q.block hq hp)
theorem IsObj.apart {T : TypeId} {w w' : World} {p q : Nat} {l : List UInt8} {k : Nat} (h : IsObj T w q l k) (ha : Apart p w w') (hp : q ≠ p) : IsObj T w' q l k := (ha.block q h.lt hp).trans h
theorem holds_apart {w w' : World} {p b : Nat} {l : List UInt8} (h : Holds w b l) (ha : Apart p w w') (hp : b ≠ p) : Holds w' b l := (ha.block b h.lt hp).trans h

/-! The small functions -/
theorem ret_int {k : IntKind} {a b : Int} (h : a = b) : Ending.returned (.int k a) = .returned (.int k b) := by rw [h]
theorem ret_bool {a b : Bool} (h : a = b) : Ending.returned (.bool a) = .returned (.bool b) := by rw [h]
def fitB (at_ size : Nat) : Bool := decide (at_ ≠ 0 ∧ size ≠ 0 ∧ at_ + size ≤ 252)

set_option maxHeartbeats 400000 in
theorem fits_any (a s : Nat) (ha : a ≤ 252) (hs : s ≤ 252) (w : World) :
    Calls Try.prog 64 #[.int .i64 (a : Int), .int .i64 (s : Int)] w fun e w' => e = .returned (.bool (fitB a s)) ∧ w = w' := by
  by_cases h1 : (a : Int) = 0
  · go_enter Try.func64, Try.ntmps64
    go_wp2
    go_ret
    exact ⟨by rw [show fitB a s = false from decide_eq_false (by omega)]; rfl, rfl⟩
  · by_cases h2 : (s : Int) = 0
    · have d1 : ((a : Int) != 0) = true := by simp; omega
      go_enter Try.func64, Try.ntmps64
      go_wp2
      go_ret
      exact ⟨by rw [show fitB a s = false from decide_eq_false (by omega)]; rfl, rfl⟩
    · have d1 : ((a : Int) != 0) = true := by simp; omega
      have d2 : ((s : Int) != 0) = true := by simp; omega
      go_enter Try.func64, Try.ntmps64
      go_wp2
      go_ret
      exact ⟨ret_bool (decide_eq_decide.2 (by omega)), rfl⟩

def textSz (room : Int) : Nat := if room < 0 ∨ 200 < room then 0 else 1 + room.toNat
theorem textSz_le (room : Int) : textSz room ≤ 201 := by unfold textSz; split <;> omega
def numSz (width : Int) : Nat := if width = 1 ∨ width = 2 ∨ width = 4 ∨ width = 8 then width.toNat else 0
theorem numSz_le (width : Int) : numSz width ≤ 8 := by unfold numSz; split <;> omega

set_option maxHeartbeats 400000 in
theorem textSize_any (room : Int) (w : World) :
    Calls Try.prog 41 #[.int .i64 room] w fun e w' => e = .returned (.int .i64 (textSz room : Int)) ∧ w = w' := by
  by_cases h1 : room < 0
  · go_enter Try.func41, Try.ntmps41
    go_wp2
    go_ret
    exact ⟨by rw [show textSz room = 0 from if_pos (.inl h1)]; rfl, rfl⟩
  · by_cases h2 : 200 < room
    · go_enter Try.func41, Try.ntmps41
      go_wp2
      go_ret
      exact ⟨by rw [show textSz room = 0 from if_pos (.inr h2)]; rfl, rfl⟩
    · have h3 : 0 ≤ room := by omega
      have h4 : room ≤ 200 := by omega
      go_enter Try.func41, Try.ntmps41
      go_wp2
      go_ret
      exact ⟨ret_int (by rw [show textSz room = 1 + room.toNat from if_neg (by omega)]; omega), rfl⟩

set_option maxHeartbeats 400000 in
theorem numSize_any (width : Int) (w : World) :
    Calls Try.prog 43 #[.int .i64 width] w fun e w' => e = .returned (.int .i64 (numSz width : Int)) ∧ w = w' := by
  by_cases h1 : width = 1
  · subst h1
    go_enter Try.func43, Try.ntmps43
    go_wp2
    go_ret
    exact ⟨rfl, rfl⟩
  · by_cases h2 : width = 2
    · subst h2
      go_enter Try.func43, Try.ntmps43
      go_wp2
      go_ret
      exact ⟨rfl, rfl⟩
    · by_cases h4 : width = 4
      · subst h4
        go_enter Try.func43, Try.ntmps43
        go_wp2
        go_ret
        exact ⟨rfl, rfl⟩
      · by_cases h8 : width = 8
        · subst h8
          go_enter Try.func43, Try.ntmps43
          go_wp2
          go_ret
          exact ⟨rfl, rfl⟩
        · have b1 : (width == 1) = false := by simp [h1]
          have b2 : (width == 2) = false := by simp [h2]
          have b4 : (width == 4) = false := by simp [h4]
          have b8 : (width == 8) = false := by simp [h8]
          go_enter Try.func43, Try.ntmps43
          go_wp2
          go_ret
          exact ⟨by rw [show numSz width = 0 from if_neg (by omega)]; rfl, rfl⟩

def widthB (width : Int) : Bool := decide (width = 1 ∨ width = 2 ∨ width = 4 ∨ width = 8)
theorem widthB_iff (width : Int) : widthB width = true ↔ numSz width ≠ 0 := by
  unfold widthB numSz
  rw [decide_eq_true_iff]
  split <;> omega

set_option maxHeartbeats 400000 in
theorem Width_any (width : Int) (w : World) :
    Calls Try.prog 62 #[.int .i64 width] w fun e w' => e = .returned (.bool (widthB width)) ∧ w = w' := by
  by_cases h1 : width = 1
  · subst h1
    go_enter Try.func62, Try.ntmps62
    go_wp2
    go_ret
    exact ⟨rfl, rfl⟩
  · by_cases h2 : width = 2
    · subst h2
      go_enter Try.func62, Try.ntmps62
      go_wp2
      go_ret
      exact ⟨rfl, rfl⟩
    · by_cases h4 : width = 4
      · subst h4
        go_enter Try.func62, Try.ntmps62
        go_wp2
        go_ret
        exact ⟨rfl, rfl⟩
      · by_cases h8 : width = 8
        · subst h8
          go_enter Try.func62, Try.ntmps62
          go_wp2
          go_ret
          exact ⟨rfl, rfl⟩
        · have b1 : (width == 1) = false := by simp [h1]
          have b2 : (width == 2) = false := by simp [h2]
          have b4 : (width == 4) = false := by simp [h4]
          have b8 : (width == 8) = false := by simp [h8]
          go_enter Try.func62, Try.ntmps62
          go_wp2
          go_ret
          exact ⟨ret_bool (decide_eq_false (by omega)).symm, rfl⟩

end Go.Proofs.Ytmbmgncajfamiaa.Fld
