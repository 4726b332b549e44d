/-
  The reference's readers: rows by value. The walks of its Open and End.
-/
import Derived.Test.YtmbmgncajfamiaaFldHead
namespace Go.Proofs.Ytmbmgncajfamiaa.Fld
open Go.RowKit RowLaw Crc
set_option maxRecDepth 100000

/-- a row's cells: a block's bytes, a place, whether nothing failed -/
def rowCells (l : List UInt8) (k : Nat) (fine : Bool) : Array Value := cellsOf l ++ #[.int .i64 (k : Int), .bool fine]
def rowV : Option (List UInt8 × Nat) → Array Value
  | some (l, k) => rowCells l k true
  | none => rowCells zeros 0 false
theorem rowCells_size (l : List UInt8) (k : Nat) (b : Bool) : (rowCells l k b).size = l.length + 2 := by unfold rowCells; rw [Array.size_append, cellsOf_size]; rfl
theorem rowCells_byte (l : List UInt8) (k : Nat) (b : Bool) (j : Nat) (h : j < l.length) : (rowCells l k b)[j]? = some (.int .u8 (l[j].toNat : Int)) := by
  unfold rowCells
  rw [Array.getElem?_append_left (by rw [cellsOf_size]; exact h), cellsOf_get l j h]
theorem rowCells_at (l : List UInt8) (k : Nat) (b : Bool) (h : l.length = 256) : (rowCells l k b)[256]? = some (.int .i64 (k : Int)) := by
  unfold rowCells
  rw [Array.getElem?_append_right (by rw [cellsOf_size]; omega), cellsOf_size, h]; rfl
theorem rowCells_fine (l : List UInt8) (k : Nat) (b : Bool) (h : l.length = 256) : (rowCells l k b)[257]? = some (.bool b) := by
  unfold rowCells
  rw [Array.getElem?_append_right (by rw [cellsOf_size]; omega), cellsOf_size, h]; rfl
theorem rowCells_one (l : List UInt8) (k : Nat) (b : Bool) : (rowCells l k b).all (·.oneCell') = true := by
  unfold rowCells
  rw [Array.all_append, cellsOf_one]
  simp [Value.oneCell']
theorem rowCells_setAt (l : List UInt8) (k k' : Nat) (b : Bool) (h : l.length = 256) : (rowCells l k b).setIfInBounds 256 (.int .i64 (k' : Int)) = rowCells l k' b := by
  unfold rowCells
  rw [Array.setIfInBounds_append_right (by rw [cellsOf_size]; omega), cellsOf_size, h]; rfl
theorem infoRow : (Try.prog.info? 79).map (fun i => (i.zero, i.size)) = some (some (.agg (rowCells zeros 0 false)), 258) := by kernel_rfl

/-- block p is a row -/
def IsRow (w : World) (p : Nat) (l : List UInt8) (k : Nat) (b : Bool) : Prop := w.heap[p]? = some (.cells (rowCells l k b) 79 (0, 0))
section
variable {w : World} {p : Nat} {l : List UInt8} {k : Nat} {b : Bool}
theorem IsRow.lt (h : IsRow w p l k b) : p < w.heap.size := by
  rcases Nat.lt_or_ge p w.heap.size with hlt | hge
  · exact hlt
  · unfold IsRow at h; rw [Array.getElem?_eq_none hge] at h; cases h
theorem IsRow.byte (h : IsRow w p l k b) (j : Nat) (hj : j < l.length) : w.cell? ⟨p, j, none⟩ = some (.int .u8 (l[j].toNat : Int)) := (cell_of_row w p j _ _ _ h).trans (rowCells_byte l k b j hj)
theorem IsRow.pos (h : IsRow w p l k b) (hl : l.length = 256) : w.cell? ⟨p, 256, none⟩ = some (.int .i64 (k : Int)) := (cell_of_row w p 256 _ _ _ h).trans (rowCells_at l k b hl)
theorem IsRow.fine (h : IsRow w p l k b) (hl : l.length = 256) : w.cell? ⟨p, 257, none⟩ = some (.bool b) := (cell_of_row w p 257 _ _ _ h).trans (rowCells_fine l k b hl)
theorem IsRow.frozen (h : IsRow w p l k b) (j : Nat) : w.frozen? ⟨p, j, none⟩ = false := frozen_of_row w p j _ _ h
theorem IsRow.setPos (h : IsRow w p l k b) (hl : l.length = 256) (k' : Nat) : IsRow (w.setCell ⟨p, 256, none⟩ (.int .i64 (k' : Int))) p l k' b := by
  unfold IsRow
  rw [← rowCells_setAt l k k' b hl]
  exact heap_setCell_same w p 256 _ _ _ h
theorem IsRow.other (h : IsRow w p l k b) (a : Addr) (v : Value) (ha : p ≠ a.block) : IsRow (w.setCell a v) p l k b := (heap_setCell_other w a p v ha).trans h
theorem IsRow.alloc (h : IsRow w p l k b) (o : Obj) : IsRow (w.alloc o) p l k b := (Below.heap_alloc w o p h.lt).trans h
theorem IsRow.below {B : Nat} {w' : World} (h : IsRow w p l k b) (hb : Below B w w') (hB : p < B) : IsRow w' p l k b := (hb.block p hB).trans h
theorem IsRow.new (w : World) (l : List UInt8) (k : Nat) (b : Bool) : IsRow (w.alloc (.cells (rowCells l k b) 79)) w.heap.size l k b := heap_alloc_new w _
end
theorem sizeRow (l : List UInt8) (k : Nat) (b : Bool) (hl : l.length = 256) : (Try.prog.info? 79).map (·.size) = some (rowCells l k b).size := by rw [rowCells_size, hl]; exact (zero_of_info infoRow).2

/-! End -/
set_option maxHeartbeats 800000 in
theorem refEnd_none (w : World) : Calls Try.prog 39 #[.agg (rowCells zeros 0 false)] w fun e w' => e = .returned (.int .i64 250) ∧ Below w.heap.size w w' := by
  have hr := IsRow.new w zeros 0 false
  have c1 := hr.fine zeros_length
  go_enter Try.func39, Try.ntmps39
  go_wp2
  go_ret
  exact ⟨rfl, (Below.refl _ _).alloc (Nat.le_refl _) _⟩

theorem blankB_piece_false (l : List UInt8) (k m j : Nat) (hl : k + m ≤ l.length) (h1 : k ≤ j) (h2 : j < k + m) (h0 : l[j]'(by omega) ≠ 0) : blankB (piece l k m) = false := by
  have hj : j - k < (piece l k m).length := by rw [piece_length l k m hl]; omega
  refine blankB_false _ (j - k) hj ?_
  rw [piece_get l k m (j - k) hl hj]
  have e : k + (j - k) = j := by omega
  simp only [e]
  exact h0
theorem blankB_piece_true (l : List UInt8) (k m : Nat) (hl : k + m ≤ l.length) (h : ∀ j (hj : j < l.length), k ≤ j → j < k + m → l[j] = 0) : blankB (piece l k m) = true := by
  unfold blankB
  rw [List.all_eq_true]
  intro u hu
  obtain ⟨j, hj, rfl⟩ := List.mem_iff_getElem.1 hu
  have hjl := hj
  rw [piece_length l k m hl] at hjl
  rw [piece_get l k m j hl hj, h (k + j) (by omega) (by omega) (by omega)]
  rfl

set_option maxRecDepth 100000 in
set_option maxHeartbeats 800000 in
theorem refEnd_some (l : List UInt8) (k : Nat) (hl : l.length = 256) (hk2 : k ≤ 252) (w : World) :
    Calls Try.prog 39 #[.agg (rowCells l k true)] w fun e w' => e = .returned (.int .i64 (endE (some (l, k)))) ∧ Below w.heap.size w w' := by
  have hr := IsRow.new w l k true
  have hb : Below w.heap.size w (w.alloc (.cells (rowCells l k true) 79)) := (Below.refl _ _).alloc (Nat.le_refl _) _
  have c1 := hr.fine hl
  have c2 := hr.pos hl
  rw [show endE (some (l, k)) = if blankB (piece l k (252 - k)) = true then 0 else 250 from rfl]
  obtain ⟨b, hbl⟩ : ∃ b, b = blankB (piece l k (252 - k)) := ⟨_, rfl⟩
  rw [← hbl]
  have HB := Lib.hid hbl; clear hbl
  have HL := Lib.hid hl; clear hl
  go_enter Try.func39, Try.ntmps39
  go_wp2
  generalize w.alloc (.cells (rowCells l k true) 79) = W at hr hb c1 c2 ⊢
  clear c1 c2
  go_loop [3] (fun i => ∃ j : Nat, k ≤ j ∧ j ≤ 252 ∧ i = .int .i64 j ∧ Hid (∀ (q : Nat) (hq : q < l.length), k ≤ q → q < j → l[q] = 0)) (fun i => 252 - (intOf i).toNat)
  case atStart => exact ⟨k, Nat.le_refl _, hk2, rfl, show ∀ (q : Nat) (hq : q < l.length), k ≤ q → q < k → l[q] = 0 from fun q hq h1 h2 => absurd h2 (by omega)⟩
  case round =>
    obtain ⟨j, hj1, hj2, rfl, hz⟩ := hrel
    by_cases hlt : j < 252
    · have hjl : j < l.length := by have := HL.out; omega
      have hc := hr.byte j hjl
      by_cases h0 : l[j] = 0
      · have hn : l[j].toNat = 0 := by rw [h0]; rfl
        rw [hn] at hc
        have hz2 : Hid (∀ (q : Nat) (hq : q < l.length), k ≤ q → q < j + 1 → l[q] = 0) := show ∀ (q : Nat) (hq : q < l.length), k ≤ q → q < j + 1 → l[q] = 0 from fun q hq h1 h2 => by
          by_cases hqj : q = j
          · subst hqj; exact h0
          · exact hz.out q hq h1 (by omega)
        clear h0 hn
        go_wp2
        go_round
        case rel => exact ⟨j + 1, by omega, by omega, by go_num, hz2⟩
        case measure => simp [intOf]; omega
      · have hf : b = false := by
          rw [HB.out]; exact blankB_piece_false l k (252 - k) j (by have := HL.out; omega) hj1 (by omega) h0
        have hne : l[j].toNat ≠ 0 := fun e => h0 (UInt8.toNat_inj.1 e)
        have h0' : (((l[j].toNat : Int)) != 0) = true := by simp; exact hne
        generalize l[j].toNat = u at hc h0' hne
        subst hf
        clear h0
        go_wp2
        go_ret
        exact ⟨rfl, hb⟩
    · obtain rfl : j = 252 := by omega
      have ht : b = true := by
        rw [HB.out]; exact blankB_piece_true l k (252 - k) (by have := HL.out; omega) (fun q hq h1 h2 => hz.out q hq h1 (by omega))
      subst ht
      rw [show ((252 : Nat) : Int) = 252 from rfl]
      go_wp2
      go_ret
      exact ⟨rfl, hb⟩

end Go.Proofs.Ytmbmgncajfamiaa.Fld
