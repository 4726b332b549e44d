/-
  Fld3: FldRefs, FldItems, FldRefDone, FldWrites.
-/
import Derived.Test.YtdadcengelfmhaaFld1
import Derived.Deep.OwnRows
import Derived.RegionTactic
import Derived.IntWalk
import Derived.Deep.RegionWith
import Derived.Test.YtdadcengelfmhaaFld2
/-
  The walks of the reference's bytes of fields.
-/
namespace Go.Proofs.Ytdadcengelfmhaa.Fld
open Go.RowKit RowLaw Crc
set_option maxRecDepth 100000

theorem infoByte : (Try.prog.info? 5).map (fun i => (i.zero, i.size, i.bytes)) = some (some (.int .u8 0), 1, 1) := by kernel_rfl
def bcell (u : UInt8) : Obj := .cells #[.int .u8 (u.toNat : Int)] 5
def bmade (n : Nat) : Obj := .cells (madeCells #[.int .u8 0] n) 5

theorem conv_one (W : World) (b : Nat) (u : UInt8) (h : W.cell? ⟨b, 0, none⟩ = some (.int .u8 (u.toNat : Int))) : (convert 100 9 (.slice (some ⟨b, 0, none⟩) 1 1)).run Try.prog W = .ok (.string ⟨#[u]⟩) W :=
  run_convert_bytes_back (P := Try.prog) W 100 9 5 ⟨b, 0, none⟩ 1 [u] Try.underlying100 Try.underlying5 Try.underlying9 (fun j hj => by
    obtain rfl : j = 0 := by simpa using hj
    rw [Addr.add_mid]; exact h)

theorem conv_zeros (W : World) (b n : Nat) (h : W.heap[b]? = some (bmade n)) : (convert 100 9 (.slice (some ⟨b, 0, none⟩) n n)).run Try.prog W = .ok (.string ⟨(List.replicate n 0).toArray⟩) W := by
  have := run_convert_bytes_back (P := Try.prog) W 100 9 5 ⟨b, 0, none⟩ n (List.replicate n 0) Try.underlying100 Try.underlying5 Try.underlying9 (fun j hj => by
    have hj' : j < n := by simpa using hj
    rw [Addr.add_mid, Nat.zero_add, cell_of_row W b j _ _ _ h, List.getElem_replicate]
    simp [madeCells, hj', Nat.mod_one])
  rw [List.length_replicate] at this
  exact this

theorem ret_str2 {s t : ByteArray} {b : Bool} (h : s = t) : Ending.returned (.tuple #[.string s, .bool b]) = .returned (.tuple #[.string t, .bool b]) := by rw [h]
theorem ret_str {s t : ByteArray} (h : s = t) : Ending.returned (.string s) = .returned (.string t) := by rw [h]
theorem cat3 (u : UInt8) (s : ByteArray) (n : Nat) : ((⟨#[u]⟩ : ByteArray) ++ s ++ ⟨Array.replicate n 0⟩) = ⟨(u :: (s.data.toList ++ List.replicate n 0)).toArray⟩ := by
  apply ByteArray.ext
  simp

theorem cat2 (u : UInt8) (l : List UInt8) : ((⟨#[u]⟩ : ByteArray) ++ ⟨l.toArray⟩) = ⟨(u :: l).toArray⟩ := by
  apply ByteArray.ext
  simp

theorem conv_new (W : World) (u : UInt8) : (convert 100 9 (.slice (some ⟨W.heap.size, 0, none⟩) 1 1)).run Try.prog (W.alloc (bcell u)) = .ok (.string ⟨#[u]⟩) (W.alloc (bcell u)) := conv_one _ _ u (cell_of_row (W.alloc (bcell u)) W.heap.size 0 _ _ _ (heap_alloc_new _ _))
theorem conv_old (w w1 : World) (u : UInt8) (hb : Below (w.alloc (bcell u)).drew.heap.size (w.alloc (bcell u)).drew w1) : (convert 100 9 (.slice (some ⟨w.heap.size, 0, none⟩) 1 1)).run Try.prog w1 = .ok (.string ⟨#[u]⟩) w1 :=
  conv_one _ _ u ((hb.cell (p := ⟨w.heap.size, 0, none⟩) (by simp)).trans (cell_of_row (w.alloc (bcell u)) w.heap.size 0 _ _ _ (heap_alloc_new _ _)))

end Go.Proofs.Ytdadcengelfmhaa.Fld

/-
  Items (fields as the laws take them), in memory; the walks of the laws' put and great.
-/
namespace Go.Proofs.Ytdadcengelfmhaa.Fld
open Go.RowKit RowLaw Crc
set_option maxRecDepth 100000

/-- a field as a law takes it -/
structure It where
  is : Bool
  n : Nat
  s : ByteArray
  size : Int

def itCells (x : It) : Array Value := #[.bool x.is, .int .u64 (x.n : Int), .string x.s, .int .i64 x.size]
def itBytes (x : It) : Option (List UInt8) := if x.is = true then textBytes x.s x.size else numBytes x.n x.size

theorem numBytes_some (n : Nat) (width : Int) : (numBytes n width).isSome = widthB width := by
  unfold numBytes
  cases h : widthB width <;> simp
theorem textBytes_some (s : ByteArray) (room : Int) : (textBytes s room).isSome = textOk s room := by
  unfold textBytes
  cases h : textOk s room <;> simp

theorem widthB_val {width : Int} (h : widthB width = true) : width = (numSz width : Int) := by
  have h' : width = 1 ∨ width = 2 ∨ width = 4 ∨ width = 8 := of_decide_eq_true h
  unfold numSz
  rw [if_pos h']
  omega

/-- the items of a slice lie in memory -/
def Items (w : World) (pa : Option Addr) (xs : List It) : Prop :=
  xs.length = 0 ∨ ∃ b off, pa = some ⟨b, off, none⟩ ∧ b < w.heap.size ∧ ∀ i (h : i < xs.length), (w.cell? ⟨b, off + i * 4, none⟩ = some (.bool xs[i].is) ∧ w.cell? ⟨b, off + i * 4 + 1, none⟩ = some (.int .u64 (xs[i].n : Int)) ∧
    w.cell? ⟨b, off + i * 4 + 2, none⟩ = some (.string xs[i].s) ∧ w.cell? ⟨b, off + i * 4 + 3, none⟩ = some (.int .i64 xs[i].size)) ∧ xs[i].n < 18446744073709551616 ∧ xs[i].s.size ≤ maxLen
theorem Items.below {w w' : World} {pa : Option Addr} {xs : List It} (h : Items w pa xs) (hb : Below w.heap.size w w') : Items w' pa xs := by
  rcases h with h | ⟨b, off, rfl, hlt, hc⟩
  · exact .inl h
  · refine .inr ⟨b, off, rfl, Nat.lt_of_lt_of_le hlt hb.size, fun i hi => ?_⟩
    obtain ⟨⟨c0, c1, c2, c3⟩, hn, hs⟩ := hc i hi
    exact ⟨⟨(hb.cell (p := ⟨b, _, none⟩) hlt).trans c0, (hb.cell (p := ⟨b, _, none⟩) hlt).trans c1, (hb.cell (p := ⟨b, _, none⟩) hlt).trans c2, (hb.cell (p := ⟨b, _, none⟩) hlt).trans c3⟩, hn, hs⟩
/-- .. where they lay when the call began -/
theorem Items.from_ {w w' : World} {pa : Option Addr} {xs : List It} (h : Items w pa xs) (hb : Below w.heap.size w w') : Items w' pa xs := h.below hb

/-- what the law's great tells -/
def GreatSays (n : Nat) (e : Ending) : Prop := ∃ g : Bool, e = .returned (.bool g) ∧ (g = false → n ≤ 100)

end Go.Proofs.Ytdadcengelfmhaa.Fld

/-
  The walk of the reference's Done; the bytes of items, one behind the other.
-/
namespace Go.Proofs.Ytdadcengelfmhaa.Fld
open Go.RowKit RowLaw Crc
set_option maxRecDepth 100000

/-- the block of the first k bytes, its magic laid -/
def blkTo (m : UInt8) (s : List UInt8) (k : Nat) : List UInt8 := (fblk (s.take k)).set 0 m
theorem blkTo_length (m : UInt8) (s : List UInt8) (k : Nat) (h : k ≤ 255) : (blkTo m s k).length = 256 := by
  unfold blkTo
  rw [List.length_set, fblk_length]
  rw [List.length_take]; omega
theorem blkTo_zero (m : UInt8) (s : List UInt8) : blkTo m s 0 = zeros.set 0 m := rfl
theorem blkTo_set (m : UInt8) (s : List UInt8) (k : Nat) (hk : k < s.length) (h : k < 255) : (blkTo m s k).set (1 + k) s[k] = blkTo m s (k + 1) := by
  have ht : (s.take k).length = k := by rw [List.length_take]; omega
  unfold blkTo fblk
  rw [List.take_succ_eq_append_getElem hk, List.set_cons_zero, List.set_cons_zero, Nat.add_comm 1 k, List.set_cons_succ, List.set_append_right _ _ (by omega), ht, Nat.sub_self,
    show 255 - k = (255 - (k + 1)) + 1 from by omega, List.replicate_succ, List.set_cons_zero, List.length_append, ht, List.append_assoc]
  rfl

/-! Items, one behind the other -/
def catTo (xs : List It) (k : Nat) : List UInt8 := ((xs.take k).map fun x => (itBytes x).getD []).flatten
def mayTo (xs : List It) (k : Nat) : Bool := (xs.take k).all fun x => (itBytes x).isSome
def stTo (xs : List It) (k : Nat) : Option (List UInt8) := if mayTo xs k = true ∧ (catTo xs k).length ≤ 251 then some (catTo xs k) else none
theorem catTo_zero (xs : List It) : catTo xs 0 = [] := rfl
theorem catTo_succ (xs : List It) (k : Nat) (h : k < xs.length) : catTo xs (k + 1) = catTo xs k ++ (itBytes xs[k]).getD [] := by
  unfold catTo
  rw [List.take_succ_eq_append_getElem h, List.map_append, List.flatten_append]
  simp only [List.map_cons, List.map_nil, List.flatten_cons, List.flatten_nil, List.append_nil]
theorem mayTo_succ (xs : List It) (k : Nat) (h : k < xs.length) : mayTo xs (k + 1) = (mayTo xs k && (itBytes xs[k]).isSome) := by
  unfold mayTo
  rw [List.take_succ_eq_append_getElem h, List.all_append]
  simp
theorem stTo_succ (xs : List It) (k : Nat) (h : k < xs.length) : stTo xs (k + 1) = app (stTo xs k) (itBytes xs[k]) := by
  unfold stTo
  rw [mayTo_succ xs k h, catTo_succ xs k h]
  cases hb : itBytes xs[k] with
  | none =>
    rw [if_neg (by simp)]
    cases hs : (if mayTo xs k = true ∧ (catTo xs k).length ≤ 251 then some (catTo xs k) else none) <;> rfl
  | some bs =>
    by_cases hm : mayTo xs k = true
    · by_cases hc : (catTo xs k).length ≤ 251
      · rw [if_pos (⟨hm, hc⟩ : mayTo xs k = true ∧ (catTo xs k).length ≤ 251)]
        simp [app, hm]
      · have hl : (catTo xs k ++ (some bs).getD []).length = (catTo xs k).length + bs.length := by simp
        rw [if_neg (fun h => by rw [hl] at h; exact hc (by omega)), if_neg (fun h => hc h.2)]; rfl
    · rw [if_neg (fun h => by simp [hm] at h), if_neg (fun h => hm h.1)]; rfl
theorem itBytes_length (x : It) (bs : List UInt8) (h : itBytes x = some bs) : bs.length ≤ 201 := by
  unfold itBytes at h
  split at h
  · unfold textBytes at h
    split at h
    · rename_i hok
      cases h
      rw [textField_length _ _ hok]
      exact textSz_le _
    · cases h
  · unfold numBytes at h
    split at h
    · cases h
      rw [leB_length]
      have := numSz_le x.size
      omega
    · cases h
theorem catTo_length (xs : List It) : ∀ k, k ≤ xs.length → (catTo xs k).length ≤ 201 * k
  | 0, _ => by simp [catTo_zero]
  | k + 1, h => by
    have ih := catTo_length xs k (by omega)
    rw [catTo_succ xs k (by omega), List.length_append]
    cases hb : itBytes xs[k] with
    | none => simp; omega
    | some bs =>
      have := itBytes_length _ _ hb
      simp
      omega

end Go.Proofs.Ytdadcengelfmhaa.Fld

/-
  The walk of the law FieldWrites.
-/
namespace Go.Proofs.Ytdadcengelfmhaa.Fld
open Go.RowKit RowLaw Crc
set_option maxRecDepth 100000

/-- what Done hands back -/
def doneB (m : UInt8) : Option (List UInt8) → List UInt8
  | some f => fdone f m
  | none => zeros
def doneE : Option (List UInt8) → Int
  | some _ => 0
  | none => 3
def shortSt (f : List UInt8) : Option (List UInt8) := if f.length ≤ 251 then some f else none
theorem fdone_length (f : List UInt8) (m : UInt8) (h : f.length ≤ 251) : (fdone f m).length = 256 := sealB_length (by rw [List.length_set, fblk_length _ (by omega)])
theorem doneB_short (f : List UInt8) (m : UInt8) : (doneB m (shortSt f)).length = 256 := by
  unfold shortSt
  split
  · rename_i h; exact fdone_length f m h
  · exact zeros_length
theorem doneB_length {st : Option (List UInt8)} {w : World} {p : Nat} (h : WIs w p st) (m : UInt8) : (doneB m st).length = 256 := by
  cases st with
  | none => exact zeros_length
  | some f => exact fdone_length f m h.1
theorem Done_any (st : Option (List UInt8)) (p : Nat) (m : UInt8) (w : World) (hw : WIs w p st) :
    Calls Try.prog 56 #[.pointer (some ⟨p, 0, none⟩), .int .u8 (m.toNat : Int)] w fun e w' => e = .returned (.tuple #[.agg (cellsOf (doneB m st)), .int .i64 (doneE st)]) ∧ Below w.heap.size w w' := by
  cases st with
  | none => exact Done_none p _ w hw
  | some f => exact Done_some p f m w hw
theorem cat_app (f g : List UInt8) : ((⟨f.toArray⟩ : ByteArray) ++ ⟨g.toArray⟩) = ⟨(f ++ g).toArray⟩ := by
  apply ByteArray.ext
  simp

end Go.Proofs.Ytdadcengelfmhaa.Fld

