/-
  Fld4: FldDoneMath, FldBackMath, FldRow, NodeMath.
-/
import Derived.Test.YtdadcengelfmhaaGreatFld3
import Derived.Test.YtdadcengelfmhaaGreatFld2
import Derived.Test.YtdadcengelfmhaaGreatCrc3
/-
  The bytes of a block of fields.
-/
namespace Go.Proofs.YtdadcengelfmhaaGreat.Fld
open Crc

theorem fdone_eq (f : List UInt8) (m : UInt8) : fdone f m = (m :: (f ++ List.replicate (255 - f.length) 0)).take 252 ++ be4 (crc ((m :: (f ++ List.replicate (255 - f.length) 0)).take 252)) := rfl
theorem fdone_take (f : List UInt8) (m : UInt8) (j : Nat) (h1 : j ≤ f.length) (h2 : j ≤ 251) : (fdone f m).take (1 + j) = m :: f.take j := by
  rw [fdone_eq, List.take_append_of_le_length (by simp; omega), List.take_take, Nat.min_eq_left (by omega), Nat.add_comm 1 j, List.take_succ_cons, List.take_append_of_le_length h1]
theorem fdone_zero (f : List UInt8) (m : UInt8) (i : Nat) (h1 : 1 + f.length ≤ i) (h2 : i < 252) : (fdone f m)[i]? = some 0 := by
  rw [fdone_eq, List.getElem?_append_left (by simp; omega), List.getElem?_take_of_lt h2]
  obtain ⟨j, rfl⟩ : ∃ j, i = j + 1 := ⟨i - 1, by omega⟩
  rw [List.getElem?_cons_succ, List.getElem?_append_right (by omega), List.getElem?_replicate]
  rw [if_pos (by omega)]
theorem fdone_first (f : List UInt8) (m : UInt8) : (fdone f m).getD 0 0 = m := by rw [fdone_eq]; rfl
theorem fdone_good (f : List UInt8) (m : UInt8) (h : f.length ≤ 251) : sealB (fdone f m) = fdone f m := sealB_sealB (by rw [List.length_set, fblk_length _ (by omega)])

/-- the bytes of the first fields begin the bytes of all -/
theorem catTo_prefix (xs : List It) (j : Nat) : ∀ d, j + d ≤ xs.length → ∃ r, catTo xs (j + d) = catTo xs j ++ r
  | 0, _ => ⟨[], by simp⟩
  | d + 1, h => by
    obtain ⟨r, hr⟩ := catTo_prefix xs j d (by omega)
    exact ⟨r ++ (itBytes xs[j + d]).getD [], by rw [← Nat.add_assoc, catTo_succ xs (j + d) (by omega), hr, List.append_assoc]⟩
theorem mayTo_prefix (xs : List It) (j : Nat) : ∀ d, j + d ≤ xs.length → mayTo xs (j + d) = true → mayTo xs j = true
  | 0, _, h => h
  | d + 1, h, hm => by
    rw [← Nat.add_assoc, mayTo_succ xs (j + d) (by omega), Bool.and_eq_true] at hm
    exact mayTo_prefix xs j d (by omega) hm.1
theorem stTo_prefix (xs : List It) (j n : Nat) (hj : j ≤ n) (hn : n ≤ xs.length) (F : List UInt8) (h : stTo xs n = some F) : ∃ r, stTo xs j = some (catTo xs j) ∧ F = catTo xs j ++ r ∧ F.length ≤ 251 := by
  obtain ⟨d, rfl⟩ : ∃ d, n = j + d := ⟨n - j, by omega⟩
  unfold stTo at h
  split at h
  · rename_i hc
    cases h
    obtain ⟨r, hr⟩ := catTo_prefix xs j d hn
    refine ⟨r, ?_, hr, hc.2⟩
    unfold stTo
    rw [if_pos ⟨mayTo_prefix xs j d hn hc.1, by have := hc.2; rw [hr, List.length_append] at this; omega⟩]
  · cases h

end Go.Proofs.YtdadcengelfmhaaGreat.Fld

/-
  What was written is read: the plain mathematics; a bit that is turned.
-/
namespace Go.Proofs.YtdadcengelfmhaaGreat.Fld
open Crc

theorem fdone_piece (f : List UInt8) (m : UInt8) (a b : Nat) (h : a + b ≤ f.length) (hf : f.length ≤ 251) : piece (fdone f m) (1 + a) b = (f.drop a).take b := by
  unfold piece
  have h1 := fdone_take f m (a + b) h (by omega)
  have h2 : ((fdone f m).drop (1 + a)).take b = ((fdone f m).take (1 + (a + b))).drop (1 + a) := by
    rw [List.drop_take, show 1 + (a + b) - (1 + a) = b from by omega]
  rw [h2, h1, Nat.add_comm 1 a, List.drop_succ_cons, List.drop_take, show a + b - a = b from by omega]
theorem piece_mid (A bs r : List UInt8) (m : UInt8) (hf : (A ++ bs ++ r).length ≤ 251) : piece (fdone (A ++ bs ++ r) m) (1 + A.length) bs.length = bs := by
  rw [fdone_piece _ m _ _ (by simp) hf, List.append_assoc, List.drop_left, List.take_left]

theorem leNat_leB : ∀ (w n : Nat), leNat (leB n w) = n % 256 ^ w
  | 0, n => by simp [leB, leNat, Nat.mod_one]
  | w + 1, n => by
    have e : n % 256 ^ (w + 1) = n % 256 + 256 * (n / 256 % 256 ^ w) := by rw [Nat.pow_succ, Nat.mul_comm (256 ^ w) 256, Nat.mod_mul]
    rw [leB_cons, leNat, leNat_leB w (n / 256), UInt8.toNat_ofNat', e]

theorem takeNum_back (A r : List UInt8) (m : UInt8) (n : Nat) (width : Int) (bs : List UInt8) (hb : numBytes n width = some bs) (hf : (A ++ bs ++ r).length ≤ 251) :
    takeNum (some (fdone (A ++ bs ++ r) m, 1 + A.length)) width = (n % 256 ^ numSz width, some (fdone (A ++ bs ++ r) m, 1 + (A ++ bs).length)) := by
  unfold numBytes at hb
  split at hb
  · rename_i hw
    cases hb
    have hsz := (widthB_iff width).1 hw
    have hl := leB_length n (numSz width)
    have hfit : fitB (1 + A.length) (numSz width) = true := decide_eq_true ⟨by omega, hsz, by rw [List.length_append, List.length_append, hl] at hf; omega⟩
    have hp := piece_mid A (leB n (numSz width)) r m hf
    rw [hl] at hp
    unfold takeNum
    simp only [hfit, if_true, hp, leNat_leB, List.length_append, hl, Nat.add_assoc]
  · cases hb

theorem takeText_back (A r : List UInt8) (m : UInt8) (s : ByteArray) (room : Int) (bs : List UInt8) (hb : textBytes s room = some bs) (hf : (A ++ bs ++ r).length ≤ 251) :
    takeText (some (fdone (A ++ bs ++ r) m, 1 + A.length)) room = (s.data.toList, some (fdone (A ++ bs ++ r) m, 1 + (A ++ bs).length)) := by
  unfold textBytes at hb
  split at hb
  · rename_i hok
    cases hb
    have ht : 0 ≤ room ∧ room ≤ 200 ∧ (s.size : Int) ≤ room := of_decide_eq_true hok
    have hl := textField_length s room hok
    have hsz : textSz room = 1 + room.toNat := if_neg (by omega)
    have hfl : (A ++ textField s room ++ r).length = A.length + (1 + room.toNat) + r.length := by rw [List.length_append, List.length_append, hl, hsz]
    have hfit : fitB (1 + A.length) (textSz room) = true := decide_eq_true ⟨by omega, by omega, by omega⟩
    have hp := piece_mid A (textField s room) r m hf
    rw [hl, hsz] at hp
    have hL : (fdone (A ++ textField s room ++ r) m).length = 256 := fdone_length _ m hf
    have hss : s.data.toList.length = s.size := by rw [Array.length_toList]; rfl
    have hu : (UInt8.ofNat s.size).toNat = s.size := by rw [UInt8.toNat_ofNat']; omega
    generalize fdone (A ++ textField s room ++ r) m = B at hp hL
    have hk : 1 + A.length < B.length := by omega
    have hcons : B.drop (1 + A.length) = B[1 + A.length] :: B.drop (1 + A.length + 1) := List.drop_eq_getElem_cons hk
    have hp2 : B[1 + A.length] :: piece B (1 + A.length + 1) room.toNat = textField s room := by
      rw [← hp]
      unfold piece
      rw [hcons, Nat.add_comm 1 room.toNat, List.take_succ_cons]
    unfold textField at hp2
    injection hp2 with hp3 hp4
    have hgd : B.getD (1 + A.length) 0 = UInt8.ofNat s.size := by rw [List.getD_eq_getElem?_getD, List.getElem?_eq_getElem hk, hp3]; rfl
    have hta : textAt B (1 + A.length) room.toNat = some s.data.toList := by
      unfold textAt
      rw [hgd, hu, hp4]
      rw [if_pos ⟨by omega, by rw [← hss, List.drop_left]; simp [blankB]⟩, ← hss, List.take_left]
    unfold takeText
    rw [hsz] at hfit
    simp only [hsz, hfit, if_true, hta, List.length_append]
    have e : (textField s room).length = 1 + room.toNat := by rw [hl, hsz]
    rw [e, Nat.add_assoc]
  · cases hb

theorem end_back (f : List UInt8) (m : UInt8) (hf : f.length ≤ 251) : endE (some (fdone f m, 1 + f.length)) = 0 := by
  have hb : blankB (piece (fdone f m) (1 + f.length) (252 - (1 + f.length))) = true := by
    unfold blankB
    rw [List.all_eq_true]
    intro u hu
    obtain ⟨j, hj, rfl⟩ := List.mem_iff_getElem.1 hu
    have hl := fdone_length f m hf
    have hjl := hj
    rw [piece_length _ _ _ (by omega)] at hjl
    have hz := fdone_zero f m (1 + f.length + j) (by omega) (by omega)
    rw [List.getElem?_eq_getElem (by omega)] at hz
    rw [piece_get _ _ _ _ (by omega) hj, Option.some.inj hz]
    rfl
  unfold endE endB
  simp only [hb, if_true]

theorem open_back (f : List UInt8) (m : UInt8) (hf : f.length ≤ 251) : openSt (fdone f m) m = some (fdone f m, 1) := if_pos ⟨fdone_first f m, fdone_good f m hf⟩
theorem open_next (f : List UInt8) (m m' : UInt8) (h : m ≠ m') : openSt (fdone f m) m' = none := if_neg (fun hh => h ((fdone_first f m).symm.trans hh.1))

/-- a single bit -/
theorem burst_single (l : List UInt8) (k j : Nat) : ∀ i, burst l k (2 ^ j) i = if j < i then flip l (k + j) else l
  | 0 => by simp [burst]
  | i + 1 => by
    have ih := burst_single l k j i
    by_cases h : i = j
    · subst h
      have hb : (2 ^ i).testBit i = true := Nat.testBit_two_pow_self
      rw [burst_yes l k _ i hb, ih, if_neg (by omega), if_pos (by omega)]
    · have hb : (2 ^ j).testBit i = false := by rw [Nat.testBit_two_pow]; simp; omega
      rw [burst_no l k _ i hb, ih]
      by_cases h2 : j < i
      · rw [if_pos h2, if_pos (by omega)]
      · rw [if_neg h2, if_neg (by omega)]
theorem flip_bad {l : List UInt8} (hl : l.length = 256) (hs : sealB l = l) (p : Nat) (hp : p < 2048) : sealB (flip l p) ≠ flip l p := by
  intro h
  by_cases h1 : p ≤ 2016
  · have e : flip l p = burst l p (2 ^ 0) 32 := by rw [burst_single, if_pos (by omega)]; rfl
    rw [e] at h
    exact absurd ((burst_good hl hs (by omega) (by decide)).1 h) (by decide)
  · have e : flip l p = burst l 2016 (2 ^ (p - 2016)) 32 := by rw [burst_single, if_pos (by omega), show 2016 + (p - 2016) = p from by omega]
    rw [e] at h
    have h2 : 2 ^ (p - 2016) < 4294967296 := Nat.lt_of_lt_of_le (Nat.pow_lt_pow_right (by omega) (show p - 2016 < 32 by omega)) (by decide)
    exact absurd ((burst_good hl hs (by omega) h2).1 h) (by have := Nat.two_pow_pos (p - 2016); omega)
/-- .. as a law turns it: the lowest bit first -/
theorem turn_bad {l : List UInt8} (hl : l.length = 256) (hs : sealB l = l) (k : Nat) (hk : k < 2048) : sealB (l.set (k / 8) (UInt8.ofNat (l[k / 8].toNat ^^^ 2 ^ (k % 8)))) ≠ l.set (k / 8) (UInt8.ofNat (l[k / 8].toNat ^^^ 2 ^ (k % 8))) := by
  have h := flip_bad hl hs (8 * (k / 8) + (7 - k % 8)) (by omega)
  have hd : (8 * (k / 8) + (7 - k % 8)) / 8 = k / 8 := by omega
  have hm : (8 * (k / 8) + (7 - k % 8)) % 8 = 7 - k % 8 := by omega
  have hpow : 128 / 2 ^ (7 - k % 8) = 2 ^ (k % 8) := by
    have h8 : k % 8 < 8 := Nat.mod_lt _ (by omega)
    generalize k % 8 = r at h8
    rcases r with _ | _ | _ | _ | _ | _ | _ | _ | r <;> first | rfl | omega
  rw [flip_set _ _ (by rw [hd]; omega)] at h
  simp only [hd, hm, hpow] at h
  exact h

end Go.Proofs.YtdadcengelfmhaaGreat.Fld

/-
  The reference's readers: rows by value. The walks of its Open and End.
-/
namespace Go.Proofs.YtdadcengelfmhaaGreat.Fld
open Go.RowKit RowLaw Crc
set_option maxRecDepth 100000

/-- a row's cells: a block's bytes, a place, whether nothing failed -/
def rowCells (l : List UInt8) (k : Nat) (fine : Bool) : Array Value := cellsOf l ++ #[.int .i64 (k : Int), .bool fine]
def rowV : Option (List UInt8 × Nat) → Array Value
  | some (l, k) => rowCells l k true
  | none => rowCells zeros 0 false
theorem rowCells_size (l : List UInt8) (k : Nat) (b : Bool) : (rowCells l k b).size = l.length + 2 := by unfold rowCells; rw [Array.size_append, cellsOf_size]; rfl
theorem rowCells_byte (l : List UInt8) (k : Nat) (b : Bool) (j : Nat) (h : j < l.length) : (rowCells l k b)[j]? = some (.int .u8 (l[j].toNat : Int)) := by
  unfold rowCells
  rw [Array.getElem?_append_left (by rw [cellsOf_size]; exact h), cellsOf_get l j h]
theorem rowCells_at (l : List UInt8) (k : Nat) (b : Bool) (h : l.length = 256) : (rowCells l k b)[256]? = some (.int .i64 (k : Int)) := by
  unfold rowCells
  rw [Array.getElem?_append_right (by rw [cellsOf_size]; omega), cellsOf_size, h]; rfl
theorem rowCells_fine (l : List UInt8) (k : Nat) (b : Bool) (h : l.length = 256) : (rowCells l k b)[257]? = some (.bool b) := by
  unfold rowCells
  rw [Array.getElem?_append_right (by rw [cellsOf_size]; omega), cellsOf_size, h]; rfl
theorem rowCells_one (l : List UInt8) (k : Nat) (b : Bool) : (rowCells l k b).all (·.oneCell') = true := by
  unfold rowCells
  rw [Array.all_append, cellsOf_one]
  simp [Value.oneCell']
theorem rowCells_setAt (l : List UInt8) (k k' : Nat) (b : Bool) (h : l.length = 256) : (rowCells l k b).setIfInBounds 256 (.int .i64 (k' : Int)) = rowCells l k' b := by
  unfold rowCells
  rw [Array.setIfInBounds_append_right (by rw [cellsOf_size]; omega), cellsOf_size, h]; rfl
section
variable {w : World} {p : Nat} {l : List UInt8} {k : Nat} {b : Bool}
end
/-! End -/
theorem blankB_piece_false (l : List UInt8) (k m j : Nat) (hl : k + m ≤ l.length) (h1 : k ≤ j) (h2 : j < k + m) (h0 : l[j]'(by omega) ≠ 0) : blankB (piece l k m) = false := by
  have hj : j - k < (piece l k m).length := by rw [piece_length l k m hl]; omega
  refine blankB_false _ (j - k) hj ?_
  rw [piece_get l k m (j - k) hl hj]
  have e : k + (j - k) = j := by omega
  simp only [e]
  exact h0
theorem blankB_piece_true (l : List UInt8) (k m : Nat) (hl : k + m ≤ l.length) (h : ∀ j (hj : j < l.length), k ≤ j → j < k + m → l[j] = 0) : blankB (piece l k m) = true := by
  unfold blankB
  rw [List.all_eq_true]
  intro u hu
  obtain ⟨j, hj, rfl⟩ := List.mem_iff_getElem.1 hu
  have hjl := hj
  rw [piece_length l k m hl] at hjl
  rw [piece_get l k m j hl hj, h (k + j) (by omega) (by omega) (by omega)]
  rfl

end Go.Proofs.YtdadcengelfmhaaGreat.Fld

/-
  Nodes: their bytes and blocks; which blocks are nodes'. Plain mathematics.
-/
namespace Go.Proofs.YtdadcengelfmhaaGreat.Node
open Go.RowKit RowLaw Crc Fld
set_option maxRecDepth 100000

/-- a node's cells -/
def nodeCells (lv : Nat) (ps : List Nat) : Array Value := (Value.int .u8 (lv : Int) :: ps.map fun n : Nat => Value.int .u32 (n : Int)).toArray
theorem nodeCells_size (lv : Nat) (ps : List Nat) : (nodeCells lv ps).size = ps.length + 1 := by simp [nodeCells]
theorem nodeCells_lv (lv : Nat) (ps : List Nat) : (nodeCells lv ps)[0]? = some (.int .u8 (lv : Int)) := by simp [nodeCells]
theorem nodeCells_ptr (lv : Nat) (ps : List Nat) (j : Nat) (h : j < ps.length) : (nodeCells lv ps)[1 + j]? = some (.int .u32 (ps[j] : Int)) := by
  unfold nodeCells
  rw [List.getElem?_toArray, Nat.add_comm 1 j, List.getElem?_cons_succ, List.getElem?_map, List.getElem?_eq_getElem h]
  rfl
theorem nodeCells_one (lv : Nat) (ps : List Nat) : (nodeCells lv ps).all (·.oneCell') = true := by
  unfold nodeCells
  rw [List.all_toArray, List.all_cons, List.all_map]
  simp [Value.oneCell', Function.comp_def]
theorem nodeCells_set (lv : Nat) (ps : List Nat) (j n : Nat) : (nodeCells lv ps).setIfInBounds (1 + j) (.int .u32 (n : Int)) = nodeCells lv (ps.set j n) := by
  unfold nodeCells
  rw [List.setIfInBounds_toArray, Nat.add_comm 1 j, List.set_cons_succ, List.map_set]
theorem map_u32_inj : ∀ {ps qs : List Nat}, (ps.map fun n : Nat => Value.int .u32 (n : Int)) = (qs.map fun n : Nat => Value.int .u32 (n : Int)) → ps = qs
  | [], [], _ => rfl
  | [], _ :: _, h => by simp at h
  | _ :: _, [], h => by simp at h
  | p :: ps, q :: qs, h => by
    rw [List.map_cons, List.map_cons, List.cons.injEq] at h
    have h1 : p = q := by
      have := h.1
      simp only [Value.int.injEq, true_and] at this
      omega
    rw [h1, map_u32_inj h.2]
theorem nodeCells_inj {lv lv' : Nat} {ps ps' : List Nat} (h : nodeCells lv ps = nodeCells lv' ps') : lv = lv' ∧ ps = ps' := by
  unfold nodeCells at h
  have h2 := congrArg Array.toList h
  simp only [List.cons.injEq] at h2
  refine ⟨?_, map_u32_inj h2.2⟩
  have := h2.1
  simp only [Value.int.injEq, true_and] at this
  omega

def lvB (lv : Nat) : Bool := decide (1 ≤ lv ∧ lv ≤ 3)
def okPs (ps : List Nat) : Bool := ps.all fun n => decide (n < 1048576)
def okN (lv : Nat) (ps : List Nat) : Bool := okPs ps && lvB lv
theorem okPs_at {ps : List Nat} (h : okPs ps = true) (j : Nat) (hj : j < ps.length) : ps[j] < 1048576 := by
  unfold okPs at h
  rw [List.all_eq_true] at h
  have := h ps[j] (List.getElem_mem hj)
  exact of_decide_eq_true this
theorem okPs_no {ps : List Nat} (j : Nat) (hj : j < ps.length) (h : 1048576 ≤ ps[j]) : okPs ps = false := by
  rcases Bool.eq_false_or_eq_true (okPs ps) with h2 | h2
  · have := okPs_at h2 j hj; omega
  · exact h2
theorem okPs_yes {ps : List Nat} (h : ∀ j (hj : j < ps.length), ps[j] < 1048576) : okPs ps = true := by
  unfold okPs
  rw [List.all_eq_true]
  intro x hx
  obtain ⟨j, hj, rfl⟩ := List.mem_iff_getElem.1 hx
  exact decide_eq_true (h j hj)

/-- the bytes of the level and of the first k pointers -/
def nodeTo (lv : Nat) (ps : List Nat) (k : Nat) : List UInt8 := leB lv 1 ++ (ps.take k).flatMap fun n => leB n 4
theorem flat_length : ∀ ps : List Nat, (ps.flatMap fun n => leB n 4).length = 4 * ps.length
  | [] => rfl
  | p :: ps => by rw [List.flatMap_cons, List.length_append, leB_length, flat_length ps, List.length_cons]; omega
theorem nodeTo_length (lv : Nat) (ps : List Nat) (k : Nat) (h : k ≤ ps.length) : (nodeTo lv ps k).length = 1 + 4 * k := by
  unfold nodeTo
  rw [List.length_append, leB_length, flat_length, List.length_take]; omega
theorem nodeTo_zero (lv : Nat) (ps : List Nat) : nodeTo lv ps 0 = leB lv 1 := by simp [nodeTo]
theorem nodeTo_succ (lv : Nat) (ps : List Nat) (k : Nat) (h : k < ps.length) : nodeTo lv ps (k + 1) = nodeTo lv ps k ++ leB ps[k] 4 := by
  unfold nodeTo
  rw [List.take_succ_eq_append_getElem h, List.flatMap_append, List.append_assoc]
  simp

def putB (lv : Nat) (ps : List Nat) : List UInt8 := if okN lv ps = true then fdone (nodeTo lv ps 32) 78 else zeros
def putE (lv : Nat) (ps : List Nat) : Int := if okN lv ps = true then 0 else 2
theorem fdone_length (f : List UInt8) (m : UInt8) (h : f.length ≤ 255) : (fdone f m).length = 256 := sealB_length (by rw [List.length_set, fblk_length f h])
theorem putB_length (lv : Nat) (ps : List Nat) (h : ps.length = 32) : (putB lv ps).length = 256 := by
  unfold putB
  split
  · exact fdone_length _ _ (by rw [nodeTo_length _ _ _ (by omega)]; omega)
  · exact zeros_length

theorem piece_add (l : List UInt8) (k a b : Nat) : piece l k (a + b) = piece l k a ++ piece l (k + a) b := by
  unfold piece
  rw [List.take_add, List.drop_drop]
theorem leB_leNat : ∀ bs : List UInt8, leB (leNat bs) bs.length = bs
  | [] => rfl
  | u :: bs => by
    rw [List.length_cons, leB_cons, leNat]
    have hu := u.toNat_lt
    have h1 : (u.toNat + 256 * leNat bs) / 256 = leNat bs := by omega
    have h2 : UInt8.ofNat (u.toNat + 256 * leNat bs) = u := by
      apply UInt8.toNat_inj.1
      rw [UInt8.toNat_ofNat']; omega
    rw [h1, h2, leB_leNat bs]

def lvOf (l : List UInt8) : Nat := leNat (piece l 1 1)
def psTo (l : List UInt8) (k : Nat) : List Nat := (List.range k).map fun i => leNat (piece l (2 + 4 * i) 4)
def psOf (l : List UInt8) : List Nat := psTo l 32
theorem psTo_length (l : List UInt8) (k : Nat) : (psTo l k).length = k := by simp [psTo]
theorem psOf_length (l : List UInt8) : (psOf l).length = 32 := psTo_length l 32
theorem psOf_get (l : List UInt8) (j : Nat) (h : j < (psOf l).length) : (psOf l)[j] = leNat (piece l (2 + 4 * j) 4) := by simp [psOf, psTo]
theorem nodeTo_of (l : List UInt8) (hl : l.length = 256) : ∀ k, k ≤ 32 → nodeTo (lvOf l) (psOf l) k = piece l 1 (1 + 4 * k)
  | 0, _ => by
    rw [nodeTo_zero]
    have h := leB_leNat (piece l 1 1)
    rw [piece_length l 1 1 (by omega)] at h
    exact h
  | k + 1, hk => by
    have h := leB_leNat (piece l (2 + 4 * k) 4)
    rw [piece_length l _ 4 (by omega)] at h
    rw [nodeTo_succ _ _ _ (by rw [psOf_length]; omega), nodeTo_of l hl k (by omega), psOf_get, h, show 1 + 4 * (k + 1) = (1 + 4 * k) + 4 from by omega, piece_add l 1 (1 + 4 * k) 4, show 1 + (1 + 4 * k) = 2 + 4 * k from by omega]

theorem take_pieces (l : List UInt8) (hl : l.length = 256) : l.take 252 = l.getD 0 0 :: (piece l 1 129 ++ piece l 130 122) := by
  have h : piece l 0 (1 + (129 + 122)) = l.take 252 := by simp [piece]
  rw [← h, piece_add, piece_add]
  have h0 : piece l 0 1 = [l.getD 0 0] := by
    unfold piece
    rw [List.drop_zero, show (1 : Nat) = 0 + 1 from rfl, List.take_succ_eq_append_getElem (by omega), List.getD_eq_getElem?_getD, List.getElem?_eq_getElem (by omega)]
    rfl
  rw [h0]; rfl
theorem blank_replicate : ∀ {l : List UInt8}, blankB l = true → l = List.replicate l.length 0
  | [], _ => rfl
  | u :: l, h => by
    unfold blankB at h
    rw [List.all_cons, Bool.and_eq_true] at h
    rw [List.length_cons, List.replicate_succ, ← blank_replicate (l := l) h.2]
    rw [eq_of_beq h.1]
theorem fset (f : List UInt8) (m : UInt8) : (fblk f).set 0 m = m :: (f ++ List.replicate (255 - f.length) 0) := rfl
theorem node_iff (l : List UInt8) (hl : l.length = 256) (m : UInt8) : fdone (piece l 1 129) m = l ↔ openSt l m = some (l, 1) ∧ blankB (piece l 130 122) = true := by
  have hp := piece_length l 1 129 (by omega)
  constructor
  · intro h
    have a1 : l.getD 0 0 = m := by rw [← h]; exact fdone_first _ _
    have a2 : sealB l = l := by
      have := fdone_good (piece l 1 129) m (by omega)
      rw [h] at this; exact this
    refine ⟨if_pos ⟨a1, a2⟩, ?_⟩
    · refine blankB_piece_true l 130 122 (by omega) (fun j hj h1 h2 => ?_)
      have := fdone_zero (piece l 1 129) m j (by omega) (by omega)
      rw [h, List.getElem?_eq_getElem hj] at this
      exact Option.some.inj this
  · rintro ⟨ho, hb⟩
    unfold openSt at ho
    split at ho
    · rename_i hc
      have hq := blank_replicate hb
      rw [piece_length l 130 122 (by omega)] at hq
      unfold fdone
      refine Eq.trans (sealB_congr ?_) hc.2
      rw [take_pieces l hl, hq, hc.1, fset, hp, List.take_succ_cons, List.take_append, hp, List.take_of_length_le (by omega), List.take_replicate]
      rfl
    · cases ho

/-- is a block a node's? -/
def isN (l : List UInt8) : Bool := okN (lvOf l) (psOf l) && decide (fdone (nodeTo (lvOf l) (psOf l) 32) 78 = l)
def getLv (l : List UInt8) : Nat := if isN l = true then lvOf l else 0
def getPs (l : List UInt8) : List Nat := if isN l = true then psOf l else List.replicate 32 0
def getE (l : List UInt8) : Int := if isN l = true then 0 else 250
theorem getPs_length (l : List UInt8) : (getPs l).length = 32 := by
  unfold getPs
  split
  · exact psOf_length l
  · simp
theorem isN_eq (l : List UInt8) (hl : l.length = 256) : isN l = (okN (lvOf l) (psOf l) && (decide (openSt l 78 = some (l, 1)) && blankB (piece l 130 122))) := by
  unfold isN
  rw [nodeTo_of l hl 32 (by omega)]
  congr 1
  rw [Bool.eq_iff_iff, decide_eq_true_iff, Bool.and_eq_true, decide_eq_true_iff]
  exact node_iff l hl 78
theorem openSt_cases (l : List UInt8) (m : UInt8) : openSt l m = some (l, 1) ∨ openSt l m = none := by
  unfold openSt
  split
  · exact .inl rfl
  · exact .inr rfl

/-- the pointers of a node's bytes -/
theorem nodeTo_drop (lv : Nat) (ps : List Nat) (h : ps.length = 32) (j : Nat) (hj : j < ps.length) : ((nodeTo lv ps 32).drop (1 + 4 * j)).take 4 = leB ps[j] 4 := by
  have e : nodeTo lv ps 32 = nodeTo lv ps j ++ (leB ps[j] 4 ++ (ps.drop (j + 1)).flatMap fun n => leB n 4) := by
    unfold nodeTo
    rw [List.take_of_length_le (by omega), List.append_assoc]
    congr 1
    have h2 : ps = ps.take j ++ (ps[j] :: ps.drop (j + 1)) := by rw [← List.drop_eq_getElem_cons hj, List.take_append_drop]
    conv => lhs; rw [h2]
    rw [List.flatMap_append, List.flatMap_cons]
  rw [e, List.drop_append, nodeTo_length lv ps j (by omega), Nat.sub_self, List.drop_of_length_le (by rw [nodeTo_length lv ps j (by omega)]; omega), List.nil_append, List.drop_zero, List.take_append, leB_length, Nat.sub_self, List.take_zero, List.append_nil,
    List.take_of_length_le (by rw [leB_length]; omega)]
theorem put_ps (lv : Nat) (ps : List Nat) (h : ps.length = 32) (hs : ∀ j (hj : j < ps.length), ps[j] < 4294967296) : psOf (fdone (nodeTo lv ps 32) 78) = ps := by
  have hn := nodeTo_length lv ps 32 (by omega)
  apply List.ext_getElem
  · rw [psOf_length, h]
  · intro j h1 h2
    rw [psOf_get, show 2 + 4 * j = 1 + (1 + 4 * j) from by omega, fdone_piece _ _ _ _ (by omega) (by omega), nodeTo_drop lv ps h j h2, leNat_leB]
    have := hs j h2
    omega
theorem put_lv (lv : Nat) (ps : List Nat) (h : ps.length = 32) (hlv : lv < 256) : lvOf (fdone (nodeTo lv ps 32) 78) = lv := by
  have hn := nodeTo_length lv ps 32 (by omega)
  unfold lvOf
  have e := fdone_piece (nodeTo lv ps 32) 78 0 1 (by omega) (by omega)
  rw [Nat.add_zero, List.drop_zero] at e
  rw [e]
  have e2 : (nodeTo lv ps 32).take 1 = leB lv 1 := by
    unfold nodeTo
    rw [List.take_append, leB_length, Nat.sub_self, List.take_zero, List.append_nil, List.take_of_length_le (by rw [leB_length]; omega)]
  rw [e2, leNat_leB]
  omega
theorem okN_lt {lv : Nat} {ps : List Nat} (h : okN lv ps = true) : lv < 256 ∧ ∀ j (hj : j < ps.length), ps[j] < 4294967296 := by
  unfold okN at h
  rw [Bool.and_eq_true] at h
  have h2 : 1 ≤ lv ∧ lv ≤ 3 := of_decide_eq_true h.2
  exact ⟨by omega, fun j hj => by have := okPs_at h.1 j hj; omega⟩
/-- what is put is got back -/
theorem back {lv : Nat} {ps : List Nat} (h : ps.length = 32) (ho : okN lv ps = true) : getLv (putB lv ps) = lv ∧ getPs (putB lv ps) = ps ∧ getE (putB lv ps) = 0 := by
  obtain ⟨h1, h2⟩ := okN_lt ho
  have e : putB lv ps = fdone (nodeTo lv ps 32) 78 := if_pos ho
  have hi : isN (putB lv ps) = true := by
    unfold isN
    rw [e, put_lv lv ps h h1, put_ps lv ps h h2, ho]
    simp
  unfold getLv getPs getE
  rw [if_pos hi, if_pos hi, if_pos hi, e, put_lv lv ps h h1, put_ps lv ps h h2]
  exact ⟨rfl, rfl, rfl⟩
/-- what is got, put again, is the block -/
theorem forth {l : List UInt8} (h : getE l = 0) : putB (getLv l) (getPs l) = l ∧ putE (getLv l) (getPs l) = 0 := by
  have hi : isN l = true := by
    unfold getE at h
    split at h
    · assumption
    · cases h
  unfold getLv getPs putB putE
  rw [if_pos hi, if_pos hi]
  unfold isN at hi
  rw [Bool.and_eq_true] at hi
  rw [if_pos hi.1, if_pos hi.1]
  exact ⟨of_decide_eq_true hi.2, rfl⟩
theorem getE_cases (l : List UInt8) : getE l = 0 ∨ getE l = 250 := by unfold getE; split <;> simp
/-- blocks that are the same are the same nodes' -/
theorem putB_inj {lv lv' : Nat} {ps ps' : List Nat} (h : ps.length = 32) (h' : ps'.length = 32) (ho : okN lv ps = true) (ho' : okN lv' ps' = true) (he : putB lv ps = putB lv' ps') : lv = lv' ∧ ps = ps' := by
  have a := back h ho
  have b := back h' ho'
  rw [he] at a
  exact ⟨a.1.symm.trans b.1, a.2.1.symm.trans b.2.1⟩

def kidsOf (ps : List Nat) : List Nat := ps.filter fun n => n != 0
theorem kids_take (ps : List Nat) (k : Nat) (h : k < ps.length) : kidsOf (ps.take (k + 1)) = if ps[k] = 0 then kidsOf (ps.take k) else kidsOf (ps.take k) ++ [ps[k]] := by
  unfold kidsOf
  rw [List.take_succ_eq_append_getElem h, List.filter_append]
  by_cases h0 : ps[k] = 0
  · rw [if_pos h0]; simp [h0]
  · rw [if_neg h0]; simp [h0]
theorem kids_le (ps : List Nat) : (kidsOf ps).length ≤ ps.length := List.length_filter_le _ _

/-- the place of a page in a node of a level -/
def idx (page level : Nat) : Nat := page / 32 ^ (level - 1) % 32

end Go.Proofs.YtdadcengelfmhaaGreat.Node

