/-
  Fld4: FldDoneMath, FldBackMath, FldRow, NodeMath.
-/
import Derived.Test.YtojpcgjmainbfaaGreatFld3
import Derived.Test.YtojpcgjmainbfaaGreatFld2
import Derived.Test.YtojpcgjmainbfaaGreatCrc3
/-
  The bytes of a block of fields.
-/
namespace Go.Proofs.YtojpcgjmainbfaaGreat.Fld
open Crc

theorem fdone_eq (f : List UInt8) (m : UInt8) : fdone f m = (m :: (f ++ List.replicate (255 - f.length) 0)).take 252 ++ be4 (crc ((m :: (f ++ List.replicate (255 - f.length) 0)).take 252)) := rfl
theorem fdone_take (f : List UInt8) (m : UInt8) (j : Nat) (h1 : j ≤ f.length) (h2 : j ≤ 251) : (fdone f m).take (1 + j) = m :: f.take j := by
  rw [fdone_eq, List.take_append_of_le_length (by simp; omega), List.take_take, Nat.min_eq_left (by omega), Nat.add_comm 1 j, List.take_succ_cons, List.take_append_of_le_length h1]
theorem fdone_zero (f : List UInt8) (m : UInt8) (i : Nat) (h1 : 1 + f.length ≤ i) (h2 : i < 252) : (fdone f m)[i]? = some 0 := by
  rw [fdone_eq, List.getElem?_append_left (by simp; omega), List.getElem?_take_of_lt h2]
  obtain ⟨j, rfl⟩ : ∃ j, i = j + 1 := ⟨i - 1, by omega⟩
  rw [List.getElem?_cons_succ, List.getElem?_append_right (by omega), List.getElem?_replicate]
  rw [if_pos (by omega)]
theorem fdone_first (f : List UInt8) (m : UInt8) : (fdone f m).getD 0 0 = m := by rw [fdone_eq]; rfl
theorem fdone_good (f : List UInt8) (m : UInt8) (h : f.length ≤ 251) : sealB (fdone f m) = fdone f m := sealB_sealB (by rw [List.length_set, fblk_length _ (by omega)])

end Go.Proofs.YtojpcgjmainbfaaGreat.Fld

/-
  What was written is read: the plain mathematics; a bit that is turned.
-/
namespace Go.Proofs.YtojpcgjmainbfaaGreat.Fld
open Crc

theorem fdone_piece (f : List UInt8) (m : UInt8) (a b : Nat) (h : a + b ≤ f.length) (hf : f.length ≤ 251) : piece (fdone f m) (1 + a) b = (f.drop a).take b := by
  unfold piece
  have h1 := fdone_take f m (a + b) h (by omega)
  have h2 : ((fdone f m).drop (1 + a)).take b = ((fdone f m).take (1 + (a + b))).drop (1 + a) := by
    rw [List.drop_take, show 1 + (a + b) - (1 + a) = b from by omega]
  rw [h2, h1, Nat.add_comm 1 a, List.drop_succ_cons, List.drop_take, show a + b - a = b from by omega]
theorem leNat_leB : ∀ (w n : Nat), leNat (leB n w) = n % 256 ^ w
  | 0, n => by simp [leB, leNat, Nat.mod_one]
  | w + 1, n => by
    have e : n % 256 ^ (w + 1) = n % 256 + 256 * (n / 256 % 256 ^ w) := by rw [Nat.pow_succ, Nat.mul_comm (256 ^ w) 256, Nat.mod_mul]
    rw [leB_cons, leNat, leNat_leB w (n / 256), UInt8.toNat_ofNat', e]

end Go.Proofs.YtojpcgjmainbfaaGreat.Fld

/-
  The reference's readers: rows by value. The walks of its Open and End.
-/
namespace Go.Proofs.YtojpcgjmainbfaaGreat.Fld
open Go.RowKit RowLaw Crc
set_option maxRecDepth 100000

section
variable {w : World} {p : Nat} {l : List UInt8} {k : Nat} {b : Bool}
end
/-! End -/
theorem blankB_piece_true (l : List UInt8) (k m : Nat) (hl : k + m ≤ l.length) (h : ∀ j (hj : j < l.length), k ≤ j → j < k + m → l[j] = 0) : blankB (piece l k m) = true := by
  unfold blankB
  rw [List.all_eq_true]
  intro u hu
  obtain ⟨j, hj, rfl⟩ := List.mem_iff_getElem.1 hu
  have hjl := hj
  rw [piece_length l k m hl] at hjl
  rw [piece_get l k m j hl hj, h (k + j) (by omega) (by omega) (by omega)]
  rfl

end Go.Proofs.YtojpcgjmainbfaaGreat.Fld

/-
  Nodes: their bytes and blocks; which blocks are nodes'. Plain mathematics.
-/
namespace Go.Proofs.YtojpcgjmainbfaaGreat.Node
open Go.RowKit RowLaw Crc Fld
set_option maxRecDepth 100000

def lvB (lv : Nat) : Bool := decide (1 ≤ lv ∧ lv ≤ 3)
def okPs (ps : List Nat) : Bool := ps.all fun n => decide (n < 1048576)
def okN (lv : Nat) (ps : List Nat) : Bool := okPs ps && lvB lv
theorem okPs_at {ps : List Nat} (h : okPs ps = true) (j : Nat) (hj : j < ps.length) : ps[j] < 1048576 := by
  unfold okPs at h
  rw [List.all_eq_true] at h
  have := h ps[j] (List.getElem_mem hj)
  exact of_decide_eq_true this
/-- the bytes of the level and of the first k pointers -/
def nodeTo (lv : Nat) (ps : List Nat) (k : Nat) : List UInt8 := leB lv 1 ++ (ps.take k).flatMap fun n => leB n 4
theorem flat_length : ∀ ps : List Nat, (ps.flatMap fun n => leB n 4).length = 4 * ps.length
  | [] => rfl
  | p :: ps => by rw [List.flatMap_cons, List.length_append, leB_length, flat_length ps, List.length_cons]; omega
theorem nodeTo_length (lv : Nat) (ps : List Nat) (k : Nat) (h : k ≤ ps.length) : (nodeTo lv ps k).length = 1 + 4 * k := by
  unfold nodeTo
  rw [List.length_append, leB_length, flat_length, List.length_take]; omega
def putB (lv : Nat) (ps : List Nat) : List UInt8 := if okN lv ps = true then fdone (nodeTo lv ps 32) 78 else zeros
def putE (lv : Nat) (ps : List Nat) : Int := if okN lv ps = true then 0 else 2
theorem fdone_length (f : List UInt8) (m : UInt8) (h : f.length ≤ 255) : (fdone f m).length = 256 := sealB_length (by rw [List.length_set, fblk_length f h])
theorem putB_length (lv : Nat) (ps : List Nat) (h : ps.length = 32) : (putB lv ps).length = 256 := by
  unfold putB
  split
  · exact fdone_length _ _ (by rw [nodeTo_length _ _ _ (by omega)]; omega)
  · exact zeros_length

theorem piece_add (l : List UInt8) (k a b : Nat) : piece l k (a + b) = piece l k a ++ piece l (k + a) b := by
  unfold piece
  rw [List.take_add, List.drop_drop]
theorem leB_leNat : ∀ bs : List UInt8, leB (leNat bs) bs.length = bs
  | [] => rfl
  | u :: bs => by
    rw [List.length_cons, leB_cons, leNat]
    have hu := u.toNat_lt
    have h1 : (u.toNat + 256 * leNat bs) / 256 = leNat bs := by omega
    have h2 : UInt8.ofNat (u.toNat + 256 * leNat bs) = u := by
      apply UInt8.toNat_inj.1
      rw [UInt8.toNat_ofNat']; omega
    rw [h1, h2, leB_leNat bs]

def lvOf (l : List UInt8) : Nat := leNat (piece l 1 1)
def psTo (l : List UInt8) (k : Nat) : List Nat := (List.range k).map fun i => leNat (piece l (2 + 4 * i) 4)
def psOf (l : List UInt8) : List Nat := psTo l 32
theorem psTo_length (l : List UInt8) (k : Nat) : (psTo l k).length = k := by simp [psTo]
theorem psOf_length (l : List UInt8) : (psOf l).length = 32 := psTo_length l 32
theorem psOf_get (l : List UInt8) (j : Nat) (h : j < (psOf l).length) : (psOf l)[j] = leNat (piece l (2 + 4 * j) 4) := by simp [psOf, psTo]
theorem take_pieces (l : List UInt8) (hl : l.length = 256) : l.take 252 = l.getD 0 0 :: (piece l 1 129 ++ piece l 130 122) := by
  have h : piece l 0 (1 + (129 + 122)) = l.take 252 := by simp [piece]
  rw [← h, piece_add, piece_add]
  have h0 : piece l 0 1 = [l.getD 0 0] := by
    unfold piece
    rw [List.drop_zero, show (1 : Nat) = 0 + 1 from rfl, List.take_succ_eq_append_getElem (by omega), List.getD_eq_getElem?_getD, List.getElem?_eq_getElem (by omega)]
    rfl
  rw [h0]; rfl
theorem blank_replicate : ∀ {l : List UInt8}, blankB l = true → l = List.replicate l.length 0
  | [], _ => rfl
  | u :: l, h => by
    unfold blankB at h
    rw [List.all_cons, Bool.and_eq_true] at h
    rw [List.length_cons, List.replicate_succ, ← blank_replicate (l := l) h.2]
    rw [eq_of_beq h.1]
theorem fset (f : List UInt8) (m : UInt8) : (fblk f).set 0 m = m :: (f ++ List.replicate (255 - f.length) 0) := rfl
/-- is a block a node's? -/
def isN (l : List UInt8) : Bool := okN (lvOf l) (psOf l) && decide (fdone (nodeTo (lvOf l) (psOf l) 32) 78 = l)
def getLv (l : List UInt8) : Nat := if isN l = true then lvOf l else 0
def getPs (l : List UInt8) : List Nat := if isN l = true then psOf l else List.replicate 32 0
def getE (l : List UInt8) : Int := if isN l = true then 0 else 250
theorem openSt_cases (l : List UInt8) (m : UInt8) : openSt l m = some (l, 1) ∨ openSt l m = none := by
  unfold openSt
  split
  · exact .inl rfl
  · exact .inr rfl

/-- the pointers of a node's bytes -/
theorem nodeTo_drop (lv : Nat) (ps : List Nat) (h : ps.length = 32) (j : Nat) (hj : j < ps.length) : ((nodeTo lv ps 32).drop (1 + 4 * j)).take 4 = leB ps[j] 4 := by
  have e : nodeTo lv ps 32 = nodeTo lv ps j ++ (leB ps[j] 4 ++ (ps.drop (j + 1)).flatMap fun n => leB n 4) := by
    unfold nodeTo
    rw [List.take_of_length_le (by omega), List.append_assoc]
    congr 1
    have h2 : ps = ps.take j ++ (ps[j] :: ps.drop (j + 1)) := by rw [← List.drop_eq_getElem_cons hj, List.take_append_drop]
    conv => lhs; rw [h2]
    rw [List.flatMap_append, List.flatMap_cons]
  rw [e, List.drop_append, nodeTo_length lv ps j (by omega), Nat.sub_self, List.drop_of_length_le (by rw [nodeTo_length lv ps j (by omega)]; omega), List.nil_append, List.drop_zero, List.take_append, leB_length, Nat.sub_self, List.take_zero, List.append_nil,
    List.take_of_length_le (by rw [leB_length]; omega)]
theorem put_ps (lv : Nat) (ps : List Nat) (h : ps.length = 32) (hs : ∀ j (hj : j < ps.length), ps[j] < 4294967296) : psOf (fdone (nodeTo lv ps 32) 78) = ps := by
  have hn := nodeTo_length lv ps 32 (by omega)
  apply List.ext_getElem
  · rw [psOf_length, h]
  · intro j h1 h2
    rw [psOf_get, show 2 + 4 * j = 1 + (1 + 4 * j) from by omega, fdone_piece _ _ _ _ (by omega) (by omega), nodeTo_drop lv ps h j h2, leNat_leB]
    have := hs j h2
    omega
theorem put_lv (lv : Nat) (ps : List Nat) (h : ps.length = 32) (hlv : lv < 256) : lvOf (fdone (nodeTo lv ps 32) 78) = lv := by
  have hn := nodeTo_length lv ps 32 (by omega)
  unfold lvOf
  have e := fdone_piece (nodeTo lv ps 32) 78 0 1 (by omega) (by omega)
  rw [Nat.add_zero, List.drop_zero] at e
  rw [e]
  have e2 : (nodeTo lv ps 32).take 1 = leB lv 1 := by
    unfold nodeTo
    rw [List.take_append, leB_length, Nat.sub_self, List.take_zero, List.append_nil, List.take_of_length_le (by rw [leB_length]; omega)]
  rw [e2, leNat_leB]
  omega
theorem okN_lt {lv : Nat} {ps : List Nat} (h : okN lv ps = true) : lv < 256 ∧ ∀ j (hj : j < ps.length), ps[j] < 4294967296 := by
  unfold okN at h
  rw [Bool.and_eq_true] at h
  have h2 : 1 ≤ lv ∧ lv ≤ 3 := of_decide_eq_true h.2
  exact ⟨by omega, fun j hj => by have := okPs_at h.1 j hj; omega⟩
/-- what is put is got back -/
theorem back {lv : Nat} {ps : List Nat} (h : ps.length = 32) (ho : okN lv ps = true) : getLv (putB lv ps) = lv ∧ getPs (putB lv ps) = ps ∧ getE (putB lv ps) = 0 := by
  obtain ⟨h1, h2⟩ := okN_lt ho
  have e : putB lv ps = fdone (nodeTo lv ps 32) 78 := if_pos ho
  have hi : isN (putB lv ps) = true := by
    unfold isN
    rw [e, put_lv lv ps h h1, put_ps lv ps h h2, ho]
    simp
  unfold getLv getPs getE
  rw [if_pos hi, if_pos hi, if_pos hi, e, put_lv lv ps h h1, put_ps lv ps h h2]
  exact ⟨rfl, rfl, rfl⟩
theorem getE_cases (l : List UInt8) : getE l = 0 ∨ getE l = 250 := by unfold getE; split <;> simp
/-- the place of a page in a node of a level -/
def idx (page level : Nat) : Nat := page / 32 ^ (level - 1) % 32

end Go.Proofs.YtojpcgjmainbfaaGreat.Node

