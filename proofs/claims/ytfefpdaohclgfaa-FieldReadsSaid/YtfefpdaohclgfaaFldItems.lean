/-
  Items (fields as the laws take them), in memory; the walks of the laws' put and great.
-/
import Derived.Test.YtfefpdaohclgfaaFldRefs
import Derived.Test.YtfefpdaohclgfaaFldMethods
namespace Go.Proofs.Ytfefpdaohclgfaa.Fld
open Go.RowKit RowLaw Crc

/-- a field as a law takes it -/
structure It where
  is : Bool
  n : Nat
  s : ByteArray
  size : Int

def itCells (x : It) : Array Value := #[.bool x.is, .int .u64 (x.n : Int), .string x.s, .int .i64 x.size]
def itBytes (x : It) : Option (List UInt8) := if x.is = true then textBytes x.s x.size else numBytes x.n x.size

theorem numBytes_some (n : Nat) (width : Int) : (numBytes n width).isSome = widthB width := by
  unfold numBytes
  cases h : widthB width <;> simp
theorem textBytes_some (s : ByteArray) (room : Int) : (textBytes s room).isSome = textOk s room := by
  unfold textBytes
  cases h : textOk s room <;> simp

theorem refText_any (s : ByteArray) (room : Int) (w : World) :
    Calls Try.prog 42 #[.string s, .int .i64 room] w fun e w' => e = .returned (.tuple #[.string ⟨((textBytes s room).getD []).toArray⟩, .bool (textBytes s room).isSome]) ∧ Below w.heap.size w w' := by
  rw [textBytes_some]
  cases hok : textOk s room with
  | false =>
    have : textBytes s room = none := by unfold textBytes; rw [if_neg (by rw [hok]; simp)]
    rw [this]
    exact refText_no s room hok w
  | true =>
    have ht : 0 ≤ room ∧ room ≤ 200 ∧ (s.size : Int) ≤ room := of_decide_eq_true hok
    have : textBytes s room = some (textField s room) := by unfold textBytes; rw [if_pos hok]
    rw [this]
    have h := refText_yes s room.toNat (by omega) (by omega) w
    rw [show (room.toNat : Int) = room from by omega] at h
    exact h

theorem widthB_val {width : Int} (h : widthB width = true) : width = (numSz width : Int) := by
  have h' : width = 1 ∨ width = 2 ∨ width = 4 ∨ width = 8 := of_decide_eq_true h
  unfold numSz
  rw [if_pos h']
  omega

set_option maxHeartbeats 800000 in
theorem put_any (st : Option (List UInt8)) (p : Nat) (x : It) (hn : x.n < 18446744073709551616) (w : World) (hw : WIs w p st) :
    Calls Try.prog 24 #[.pointer (some ⟨p, 0, none⟩), .agg (itCells x)] w fun e w' => e = .returned (.tuple #[.string ⟨((itBytes x).getD []).toArray⟩, .bool (itBytes x).isSome]) ∧ WIs w' p (app st (itBytes x)) ∧ Apart p w w' := by
  obtain ⟨is, n, s, size⟩ := x
  have h0 : WIs (w.alloc (.cells (itCells ⟨is, n, s, size⟩) 45)) p st := hw.of_block (Below.heap_alloc w _ p hw.lt)
  have ha0 : Apart p w (w.alloc (.cells (itCells ⟨is, n, s, size⟩) 45)) := (Apart.refl _ _).alloc _
  have hb : (w.alloc (.cells (itCells ⟨is, n, s, size⟩) 45)).heap[w.heap.size]? = some (.cells (itCells ⟨is, n, s, size⟩) 45 (0, 0)) := heap_alloc_new _ _
  have hlt := hw.lt
  unfold itBytes
  unfold itCells at h0 ha0 hb ⊢
  cases is with
  | true =>
    rw [show (if (It.is ⟨true, n, s, size⟩) = true then textBytes s size else numBytes n size) = textBytes s size from rfl]
    go_enter Try.func24, Try.ntmps24
    go_wp2_with fail
    refine (Text_any st p s size _ h0).mono ?_
    rintro e W1 ⟨rfl, h1, ha1⟩
    have c2 := (cell_of_row _ _ 2 _ _ _ ((ha1.block w.heap.size (by simp) (by omega)).trans hb)).trans rfl
    have c3 := (cell_of_row _ _ 3 _ _ _ ((ha1.block w.heap.size (by simp) (by omega)).trans hb)).trans rfl
    go_wp2_with fail
    refine (refText_any s size _).mono ?_
    rintro e W2 ⟨rfl, hx⟩
    go_wp2_with fail
    go_ret2
    exact ⟨rfl, h1.below hx, (ha0.trans ha1).trans (Apart.of_below hx)⟩
  | false =>
    rw [show (if (It.is ⟨false, n, s, size⟩) = true then textBytes s size else numBytes n size) = numBytes n size from rfl]
    have hnum := Num_any st p n size _ h0
    cases hwd : widthB size with
    | false =>
      have hnb : numBytes n size = none := by unfold numBytes; rw [if_neg (by rw [hwd]; simp)]
      rw [hnb] at hnum ⊢
      have HN := Lib.hid hnum; clear hnum hnb
      have HW := Lib.hid hwd; clear hwd
      go_enter Try.func24, Try.ntmps24
      go_wp2_with fail
      refine HN.out.mono ?_
      rintro e W1 ⟨rfl, h1, ha1⟩
      have c1 := (cell_of_row _ _ 1 _ _ _ ((ha1.block w.heap.size (by simp) (by omega)).trans hb)).trans rfl
      have c3 := (cell_of_row _ _ 3 _ _ _ ((ha1.block w.heap.size (by simp) (by omega)).trans hb)).trans rfl
      go_wp2_with fail
      refine (Width_any size _).mono ?_
      rw [HW.out]
      rintro e W2 ⟨rfl, rfl⟩
      go_wp2_with fail
      go_ret2
      exact ⟨rfl, h1, ha0.trans ha1⟩
    | true =>
      have hnb : numBytes n size = some (leB n (numSz size)) := by unfold numBytes; rw [if_pos hwd]
      rw [hnb] at hnum ⊢
      have hsz := widthB_val hwd
      have hle := numSz_le size
      have HS := Lib.hid hsz; clear hsz
      have HN := Lib.hid hnum; clear hnum hnb
      have HW := Lib.hid hwd; clear hwd
      go_enter Try.func24, Try.ntmps24
      go_wp2_with fail
      refine HN.out.mono ?_
      rintro e W1 ⟨rfl, h1, ha1⟩
      have c1 := (cell_of_row _ _ 1 _ _ _ ((ha1.block w.heap.size (by simp) (by omega)).trans hb)).trans rfl
      have c3 := (cell_of_row _ _ 3 _ _ _ ((ha1.block w.heap.size (by simp) (by omega)).trans hb)).trans rfl
      go_wp2_with fail
      refine (Width_any size _).mono ?_
      rw [HW.out]
      rintro e W2 ⟨rfl, rfl⟩
      go_wp2_with fail
      have hr := refNum_any (numSz size) n W1 hle hn
      rw [← HS.out] at hr
      refine hr.mono ?_
      rintro e W2 ⟨rfl, hx⟩
      go_wp2_with fail
      go_ret2
      exact ⟨rfl, h1.below hx, (ha0.trans ha1).trans (Apart.of_below hx)⟩

/-- the items of a slice lie in memory -/
def Items (w : World) (pa : Option Addr) (xs : List It) : Prop :=
  xs.length = 0 ∨ ∃ b off, pa = some ⟨b, off, none⟩ ∧ b < w.heap.size ∧ ∀ i (h : i < xs.length), (w.cell? ⟨b, off + i * 4, none⟩ = some (.bool xs[i].is) ∧ w.cell? ⟨b, off + i * 4 + 1, none⟩ = some (.int .u64 (xs[i].n : Int)) ∧
    w.cell? ⟨b, off + i * 4 + 2, none⟩ = some (.string xs[i].s) ∧ w.cell? ⟨b, off + i * 4 + 3, none⟩ = some (.int .i64 xs[i].size)) ∧ xs[i].n < 18446744073709551616 ∧ xs[i].s.size ≤ maxLen
theorem Items.below {w w' : World} {pa : Option Addr} {xs : List It} (h : Items w pa xs) (hb : Below w.heap.size w w') : Items w' pa xs := by
  rcases h with h | ⟨b, off, rfl, hlt, hc⟩
  · exact .inl h
  · refine .inr ⟨b, off, rfl, Nat.lt_of_lt_of_le hlt hb.size, fun i hi => ?_⟩
    obtain ⟨⟨c0, c1, c2, c3⟩, hn, hs⟩ := hc i hi
    exact ⟨⟨(hb.cell (p := ⟨b, _, none⟩) hlt).trans c0, (hb.cell (p := ⟨b, _, none⟩) hlt).trans c1, (hb.cell (p := ⟨b, _, none⟩) hlt).trans c2, (hb.cell (p := ⟨b, _, none⟩) hlt).trans c3⟩, hn, hs⟩
/-- .. where they lay when the call began -/
theorem Items.from_ {w w' : World} {pa : Option Addr} {xs : List It} (h : Items w pa xs) (hb : Below w.heap.size w w') : Items w' pa xs := h.below hb

/-- what the law's great tells -/
def GreatSays (n : Nat) (e : Ending) : Prop := ∃ g : Bool, e = .returned (.bool g) ∧ (g = false → n ≤ 100)

set_option maxHeartbeats 800000 in
theorem great_any (pa : Option Addr) (cap : Nat) (xs : List It) (hlen : xs.length ≤ maxLen) (w : World) (hx : Items w pa xs) :
    Calls Try.prog 21 #[.slice pa xs.length cap] w fun e w' => GreatSays xs.length e ∧ w' = w := by
  unfold maxLen at hlen
  obtain ⟨n, hn⟩ : ∃ n, n = xs.length := ⟨_, rfl⟩
  rw [← hn] at hlen ⊢
  have HN := Lib.hid hn; clear hn
  have HX := Lib.hid hx; clear hx
  go_enter Try.func21, Try.ntmps21
  go_wp2
  go_loop [3, 4] (fun t i => ∃ (k : Nat) (z : Int), k ≤ n ∧ i = .int .i64 k ∧ t = .int .i64 z) (fun _ i => n - (intOf i).toNat)
  case atStart => exact ⟨0, 0, by omega, rfl, rfl⟩
  case round =>
    obtain ⟨k, z, hk, rfl, rfl⟩ := hrel
    by_cases hlt : k < n
    · have hkl : k < xs.length := by have := HN.out; omega
      rcases HX.out with h0 | ⟨b, off, hpa, hbl, hc⟩
      · omega
      · obtain ⟨⟨c0, c1, c2, c3⟩, hnn, hss⟩ := hc k hkl
        clear hc
        unfold maxLen at hss
        subst hpa
        go_wp2
        go_round
        case rel => exact ⟨k + 1, _, by omega, by go_num, rfl⟩
        case measure => simp [intOf]; omega
    · obtain rfl : k = n := by omega
      by_cases hl : 100 < k
      · have hl' : (100 : Int) < (k : Int) := by omega
        go_wp2
        go_ret
        exact ⟨⟨true, rfl, fun h => by cases h⟩, rfl⟩
      · have hl' : ¬ (100 : Int) < (k : Int) := by omega
        go_wp2
        go_ret
        exact ⟨⟨_, rfl, fun _ => by omega⟩, rfl⟩

end Go.Proofs.Ytfefpdaohclgfaa.Fld
