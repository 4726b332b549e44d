/-
  Items (fields as the laws take them), in memory; the walks of the laws' put and great.
-/
import Derived.Test.YtmbmgncajfamiaaFldRefs
import Derived.Test.YtmbmgncajfamiaaFldMethods
namespace Go.Proofs.Ytmbmgncajfamiaa.Fld
open Go.RowKit RowLaw Crc
set_option maxRecDepth 100000

/-- a field as a law takes it -/
structure It where
  is : Bool
  n : Nat
  s : ByteArray
  size : Int

def itCells (x : It) : Array Value := #[.bool x.is, .int .u64 (x.n : Int), .string x.s, .int .i64 x.size]
def itBytes (x : It) : Option (List UInt8) := if x.is = true then textBytes x.s x.size else numBytes x.n x.size

theorem numBytes_some (n : Nat) (width : Int) : (numBytes n width).isSome = widthB width := by
  unfold numBytes
  cases h : widthB width <;> simp
theorem textBytes_some (s : ByteArray) (room : Int) : (textBytes s room).isSome = textOk s room := by
  unfold textBytes
  cases h : textOk s room <;> simp

theorem refText_any (s : ByteArray) (room : Int) (w : World) :
    Calls Try.prog 25 #[.string s, .int .i64 room] w fun e w' => e = .returned (.tuple #[.string ⟨((textBytes s room).getD []).toArray⟩, .bool (textBytes s room).isSome]) ∧ Below w.heap.size w w' := by
  rw [textBytes_some]
  cases hok : textOk s room with
  | false =>
    have : textBytes s room = none := by unfold textBytes; rw [if_neg (by rw [hok]; simp)]
    rw [this]
    exact refText_no s room hok w
  | true =>
    have ht : 0 ≤ room ∧ room ≤ 200 ∧ (s.size : Int) ≤ room := of_decide_eq_true hok
    have : textBytes s room = some (textField s room) := by unfold textBytes; rw [if_pos hok]
    rw [this]
    have h := refText_yes s room.toNat (by omega) (by omega) w
    rw [show (room.toNat : Int) = room from by omega] at h
    exact h

theorem widthB_val {width : Int} (h : widthB width = true) : width = (numSz width : Int) := by
  have h' : width = 1 ∨ width = 2 ∨ width = 4 ∨ width = 8 := of_decide_eq_true h
  unfold numSz
  rw [if_pos h']
  omega

/-- the items of a slice lie in memory -/
def Items (w : World) (pa : Option Addr) (xs : List It) : Prop :=
  xs.length = 0 ∨ ∃ b off, pa = some ⟨b, off, none⟩ ∧ b < w.heap.size ∧ ∀ i (h : i < xs.length), (w.cell? ⟨b, off + i * 4, none⟩ = some (.bool xs[i].is) ∧ w.cell? ⟨b, off + i * 4 + 1, none⟩ = some (.int .u64 (xs[i].n : Int)) ∧
    w.cell? ⟨b, off + i * 4 + 2, none⟩ = some (.string xs[i].s) ∧ w.cell? ⟨b, off + i * 4 + 3, none⟩ = some (.int .i64 xs[i].size)) ∧ xs[i].n < 18446744073709551616 ∧ xs[i].s.size ≤ maxLen
theorem Items.below {w w' : World} {pa : Option Addr} {xs : List It} (h : Items w pa xs) (hb : Below w.heap.size w w') : Items w' pa xs := by
  rcases h with h | ⟨b, off, rfl, hlt, hc⟩
  · exact .inl h
  · refine .inr ⟨b, off, rfl, Nat.lt_of_lt_of_le hlt hb.size, fun i hi => ?_⟩
    obtain ⟨⟨c0, c1, c2, c3⟩, hn, hs⟩ := hc i hi
    exact ⟨⟨(hb.cell (p := ⟨b, _, none⟩) hlt).trans c0, (hb.cell (p := ⟨b, _, none⟩) hlt).trans c1, (hb.cell (p := ⟨b, _, none⟩) hlt).trans c2, (hb.cell (p := ⟨b, _, none⟩) hlt).trans c3⟩, hn, hs⟩
/-- .. where they lay when the call began -/
theorem Items.from_ {w w' : World} {pa : Option Addr} {xs : List It} (h : Items w pa xs) (hb : Below w.heap.size w w') : Items w' pa xs := h.below hb

/-- what the law's great tells -/
def GreatSays (n : Nat) (e : Ending) : Prop := ∃ g : Bool, e = .returned (.bool g) ∧ (g = false → n ≤ 100)

end Go.Proofs.Ytmbmgncajfamiaa.Fld
