/-
  Rows of uint32: of a call's own, and as they are read. (As in XNodeKids, for seats without package node.)
-/
import Derived.Test.YtmbmgncajfamiaaNodeMath
import Derived.Deep.AppendLies
import Derived.Deep.QuietTactic
import Derived.BigQuiet
namespace Go.Proofs.Ytmbmgncajfamiaa.R32
open Go.RowKit RowLaw Crc Fld
set_option maxRecDepth 100000

def u32s (xs : List Nat) : List Value := xs.map fun n : Nat => Value.int .u32 (n : Int)
theorem u32s_snoc (xs : List Nat) (n : Nat) : u32s (xs ++ [n]) = u32s xs ++ [.int .u32 (n : Int)] := by simp [u32s]
theorem infoU32 : (Try.prog.info? 22).map (fun i => (i.zero, i.size, i.bytes)) = some (some (.int .u32 0), 1, 4) := by kernel_rfl
theorem new_cells (W : World) (cs : List Value) (T : TypeId) : ∀ j u, cs[j]? = some u → (W.alloc (.cells cs.toArray T)).cell? (Addr.add ⟨W.heap.size, 0, none⟩ j) = some u := fun j u hj => by
  rw [Addr.add_mid, Nat.zero_add, cell_of_row _ W.heap.size j _ _ _ (heap_alloc_new W _)]
  simpa using hj
theorem below_own {W W1 : World} {base : Nat} {e : TypeId} {size n : Nat} {v : Value} {xs : List Value} (h : W.ownsRow base e size v n xs) (hg : W.grownBy W1 v.ownBlock) (hb : base ≤ W.heap.size) : Below base W W1 :=
  ⟨hg.os, hg.tape, hg.output, hg.size, fun k hk => hg.block k (by omega) (fun e2 => by
    rcases h.2 with ⟨rfl, _⟩ | ⟨g, cap, cur, rfl, h5, _⟩
    · cases e2
    · cases e2; have hk' : g < base := hk; omega)⟩
theorem one_u32 (n : Nat) : ∀ u ∈ [Value.int .u32 (n : Int)], u.oneCell' = true := fun u hu => by
  simp only [List.mem_singleton] at hu
  subst hu
  rfl

/-- a row of the call's own with these numbers -/
def Own32 (base : Nat) (xs : List Nat) (v : Value) (W : World) : Prop := W.ownsRow base 22 1 v xs.length (u32s xs)
theorem Own32.mono {base b : Nat} {xs : List Nat} {v : Value} {W : World} (h : Own32 base xs v W) (hb : b ≤ base) : Own32 b xs v W := by
  refine ⟨h.1, ?_⟩
  rcases h.2 with hn | ⟨g, cap, cur, rfl, h5, rest⟩
  · exact .inl hn
  · exact .inr ⟨g, cap, cur, rfl, Nat.le_trans hb h5, rest⟩
/-- a row is answered -/
def RowAns (w : World) (xs : List Nat) (e : Ending) (w' : World) : Prop := ∃ v, e = .returned v ∧ Own32 w.heap.size xs v w' ∧ Below w.heap.size w w'
theorem Own32.nil (base : Nat) (W : World) : Own32 base [] (.slice none 0 0) W := World.ownsRow_nil _ _ _ _
theorem Own32.below {base : Nat} {xs : List Nat} {v : Value} {W W' : World} (h : Own32 base xs v W) (hb : Below W.heap.size W W') : Own32 base xs v W' := by
  refine ⟨h.1, ?_⟩
  rcases h.2 with hn | ⟨g, cap, cur, rfl, h5, h6, rest⟩
  · exact .inl hn
  · exact .inr ⟨g, cap, cur, rfl, h5, (hb.block g (Array.getElem?_eq_some_iff.1 h6).1).trans h6, rest⟩

/-- a slice value that reads as these numbers -/
def Row32 (xs : List Nat) (v : Value) (W : World) : Prop := ∃ pa cap, v = .slice pa xs.length cap ∧ (xs = [] ∨ ∃ g off, pa = some ⟨g, off, none⟩ ∧ g < W.heap.size ∧ ∀ j (hj : j < xs.length), W.cell? ⟨g, off + j, none⟩ = some (.int .u32 (xs[j] : Int)))
theorem Own32.row {base : Nat} {xs : List Nat} {v : Value} {W : World} (h : Own32 base xs v W) : Row32 xs v W := by
  rcases h.2 with ⟨rfl, h0⟩ | ⟨g, cap, cur, rfl, h5, h6, h7, h8, h9, h10⟩
  · exact ⟨none, 0, by rw [h0], .inl (List.eq_nil_of_length_eq_zero h0)⟩
  · refine ⟨_, _, rfl, .inr ⟨g, 0, rfl, (Array.getElem?_eq_some_iff.1 h6).1, fun j hj => ?_⟩⟩
    rw [cell_of_row W g (0 + j) _ _ _ h6, Nat.zero_add]
    have hk : (u32s xs)[j]? = some (.int .u32 (xs[j] : Int)) := by unfold u32s; rw [List.getElem?_map, List.getElem?_eq_getElem hj]; rfl
    rw [← h10, List.getElem?_take] at hk
    split at hk
    · rw [← Array.getElem?_toList]; exact hk
    · cases hk
theorem Row32.below {xs : List Nat} {v : Value} {W W' : World} (h : Row32 xs v W) (hb : Below W.heap.size W W') : Row32 xs v W' := by
  obtain ⟨pa, cap, rfl, h⟩ := h
  refine ⟨pa, cap, rfl, ?_⟩
  rcases h with h | ⟨g, off, rfl, hg, hc⟩
  · exact .inl h
  · exact .inr ⟨g, off, rfl, Nat.lt_of_lt_of_le hg hb.size, fun j hj => (hb.cell (p := ⟨g, off + j, none⟩) hg).trans (hc j hj)⟩

theorem below_drewN {B : Nat} {w W : World} (h : Below B w W) (n : Nat) : Below B w (W.drewN n) := ⟨h.os, h.tape, h.output, h.size, h.block⟩

end Go.Proofs.Ytmbmgncajfamiaa.R32
