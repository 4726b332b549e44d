/-
  Cards: which may be, their bytes and blocks; which blocks are cards. Plain mathematics.
-/
import Derived.Test.YtmbmgncajfamiaaNodeMath
namespace Go.Proofs.Ytmbmgncajfamiaa.Crd
open Go.RowKit RowLaw Crc Fld
open Go.Proofs.Ytmbmgncajfamiaa.Node (piece_add leB_leNat blank_replicate fset openSt_cases)

structure Cd where
  s : ByteArray
  left : Nat
  right : Nat
  id : Nat
  parent : Nat
  root : Nat
  used : Nat
  quota : Nat
  only : Bool

def nil : Cd := ⟨⟨#[]⟩, 0, 0, 0, 0, 0, 0, 0, false⟩
/-- a card's cells -/
def cells (c : Cd) : Array Value :=
  #[.string c.s, .int .u32 (c.left : Int), .int .u32 (c.right : Int), .int .u32 (c.id : Int), .int .u32 (c.parent : Int), .int .u32 (c.root : Int), .int .u32 (c.used : Int), .int .u32 (c.quota : Int), .bool c.only]
theorem cells_size (c : Cd) : (cells c).size = 9 := rfl
theorem cells_one (c : Cd) : (cells c).all (·.oneCell') = true := by simp [cells, Value.oneCell']
def nums (c : Cd) : List Nat := [c.left, c.right, c.id, c.parent, c.root, c.used, c.quota]
/-- each number fits -/
structure Cd.Fits (c : Cd) : Prop where
  left : c.left < 4294967296
  right : c.right < 4294967296
  id : c.id < 4294967296
  parent : c.parent < 4294967296
  root : c.root < 4294967296
  used : c.used < 4294967296
  quota : c.quota < 4294967296
theorem nil_fits : nil.Fits := ⟨by decide, by decide, by decide, by decide, by decide, by decide, by decide⟩
theorem nums_lt {c : Cd} (h : c.Fits) (j : Nat) (hj : j < (nums c).length) : (nums c)[j] < 4294967296 := by
  have : ∀ x ∈ nums c, x < 4294967296 := by
    intro x hx
    simp only [nums, List.mem_cons, List.not_mem_nil, or_false] at hx
    rcases hx with rfl | rfl | rfl | rfl | rfl | rfl | rfl
    · exact h.left
    · exact h.right
    · exact h.id
    · exact h.parent
    · exact h.root
    · exact h.used
    · exact h.quota
  exact this _ (List.getElem_mem hj)
theorem nums_length (c : Cd) : (nums c).length = 7 := rfl

def sizeOkB (c : Cd) : Bool := decide (1 ≤ c.s.size ∧ c.s.size ≤ 24)
def sidesB (c : Cd) : Bool := decide (c.left ≠ c.right ∨ c.left = 0)
def idB (c : Cd) : Bool := decide (c.id ≠ 0 ∧ c.parent ≠ c.id)
def quotaB (c : Cd) : Bool := decide (1 ≤ c.quota ∧ c.quota ≤ 32768)
def usedB (c : Cd) : Bool := decide (c.used ≤ c.quota)
def rootB (c : Cd) : Bool := decide (c.root = 0 ↔ c.used = 0)
def onlyB (c : Cd) : Bool := decide (c.only = true → c.parent ≠ 0)
/-- may the card be? -/
def mayB (c : Cd) : Bool := sizeOkB c && (sidesB c && (idB c && (quotaB c && (usedB c && (rootB c && onlyB c)))))
def May (c : Cd) : Prop := (1 ≤ c.s.size ∧ c.s.size ≤ 24) ∧ (c.left ≠ c.right ∨ c.left = 0) ∧ (c.id ≠ 0 ∧ c.parent ≠ c.id) ∧ (1 ≤ c.quota ∧ c.quota ≤ 32768) ∧ c.used ≤ c.quota ∧ (c.root = 0 ↔ c.used = 0) ∧ (c.only = true → c.parent ≠ 0)
theorem mayB_iff {c : Cd} : mayB c = true ↔ May c := by
  unfold mayB May sizeOkB sidesB idB quotaB usedB rootB onlyB
  simp only [Bool.and_eq_true, decide_eq_true_eq]
theorem mayB_nil : mayB nil = false := rfl

def flagN (b : Bool) : Nat := if b = true then 1 else 0
theorem flagN_lt (b : Bool) : flagN b < 256 := by unfold flagN; split <;> omega

/-- the bytes of the name and of the first j numbers -/
def cdTo (c : Cd) (j : Nat) : List UInt8 := textField c.s 24 ++ ((nums c).take j).flatMap fun n => leB n 4
def cdF (c : Cd) : List UInt8 := cdTo c 7 ++ leB (flagN c.only) 1
theorem name_length {c : Cd} (h : c.s.size ≤ 24) : (textField c.s 24).length = 25 := by
  rw [textField_length c.s 24 (decide_eq_true ⟨by omega, by omega, by omega⟩)]
  rfl
theorem flat4_length : ∀ ns : List Nat, (ns.flatMap fun n => leB n 4).length = 4 * ns.length
  | [] => rfl
  | p :: ps => by rw [List.flatMap_cons, List.length_append, leB_length, flat4_length ps, List.length_cons, Nat.mul_add, Nat.mul_one, Nat.add_comm]
theorem cdTo_length {c : Cd} (h : c.s.size ≤ 24) (j : Nat) (hj : j ≤ 7) : (cdTo c j).length = 25 + 4 * j := by
  unfold cdTo
  rw [List.length_append, name_length h, flat4_length, List.length_take, nums_length, Nat.min_eq_left hj]
theorem cdF_length {c : Cd} (h : c.s.size ≤ 24) : (cdF c).length = 54 := by
  unfold cdF
  rw [List.length_append, cdTo_length h 7 (by omega), leB_length]
theorem cdTo_zero (c : Cd) : cdTo c 0 = textField c.s 24 := by simp [cdTo]
theorem cdTo_succ (c : Cd) (j : Nat) (h : j < (nums c).length) : cdTo c (j + 1) = cdTo c j ++ leB (nums c)[j] 4 := by
  unfold cdTo
  rw [List.take_succ_eq_append_getElem h, List.flatMap_append, List.append_assoc]
  simp
theorem cdF_split (c : Cd) (j : Nat) (h : j < (nums c).length) : ∃ r, cdF c = cdTo c j ++ leB (nums c)[j] 4 ++ r := by
  refine ⟨(((nums c).drop (j + 1)).flatMap fun n => leB n 4) ++ leB (flagN c.only) 1, ?_⟩
  unfold cdF
  rw [← List.append_assoc]
  congr 1
  rw [← cdTo_succ c j h]
  unfold cdTo
  rw [List.append_assoc, ← List.flatMap_append, List.take_append_drop, List.take_of_length_le (by rw [nums_length]; omega)]

/-- a card's block -/
def cdB (c : Cd) : List UInt8 := fdone (cdF c) 67
def putB (c : Cd) : List UInt8 := if mayB c = true then cdB c else zeros
def putE (c : Cd) : Int := if mayB c = true then 0 else 5
theorem cdB_length {c : Cd} (h : c.s.size ≤ 24) : (cdB c).length = 256 := fdone_length _ _ (by rw [cdF_length h]; omega)
theorem putB_length (c : Cd) : (putB c).length = 256 := by
  unfold putB
  split
  · rename_i h
    exact cdB_length (mayB_iff.1 h).1.2
  · exact zeros_length
theorem putB_yes {c : Cd} (h : mayB c = true) : putB c = cdB c := if_pos h
theorem putE_yes {c : Cd} (h : mayB c = true) : putE c = 0 := if_pos h
theorem putB_no {c : Cd} (h : ¬ mayB c = true) : putB c = zeros := if_neg h
theorem putE_no {c : Cd} (h : ¬ mayB c = true) : putE c = 5 := if_neg h
theorem putE_iff {c : Cd} : putE c = 0 ↔ mayB c = true := by
  unfold putE
  split <;> simp [*]

/-! A block read. -/
def nmT (l : List UInt8) : List UInt8 × Option (List UInt8 × Nat) := takeText (openSt l 67) 24
/-- the reader behind j numbers -/
def stN (l : List UInt8) : Nat → Option (List UInt8 × Nat)
  | 0 => (nmT l).2
  | j + 1 => (takeNum (stN l j) 4).2
def nAt (l : List UInt8) (j : Nat) : Nat := (takeNum (stN l j) 4).1
def onT (l : List UInt8) : Nat × Option (List UInt8 × Nat) := takeNum (stN l 7) 1
def rawC (l : List UInt8) : Cd := ⟨⟨(nmT l).1.toArray⟩, nAt l 0, nAt l 1, nAt l 2, nAt l 3, nAt l 4, nAt l 5, nAt l 6, decide ((onT l).1 = 1)⟩
def isC (l : List UInt8) : Bool := decide (endE (onT l).2 = 0) && (decide ((onT l).1 ≤ 1) && mayB (rawC l))
def getC (l : List UInt8) : Cd := if isC l = true then rawC l else nil
def getE (l : List UInt8) : Int := if isC l = true then 0 else 250
theorem getE_iff {l : List UInt8} : getE l = 0 ↔ isC l = true := by
  unfold getE
  split <;> simp [*]
theorem getE_cases (l : List UInt8) : getE l = 0 ∨ getE l = 250 := by
  unfold getE
  split <;> simp
theorem getC_no {l : List UInt8} (h : getE l ≠ 0) : getC l = nil := if_neg (fun h2 => h (getE_iff.2 h2))
theorem takeNum_eq (l : List UInt8) (k : Nat) (width : Int) : takeNum (some (l, k)) width = if fitB k (numSz width) = true then (leNat (piece l k (numSz width)), some (l, k + numSz width)) else (0, none) := rfl
theorem takeText_eq (l : List UInt8) : takeText (some (l, 1)) 24 = (match textAt l 1 24 with | some s => (s, some (l, 26)) | none => ([], none)) := rfl
theorem takeNum_lt (st : Option (List UInt8 × Nat)) (width : Int) : (takeNum st width).1 < 256 ^ numSz width := by
  match st with
  | none => exact Nat.pow_pos (by omega)
  | some (l, k) =>
    rw [takeNum_eq]
    by_cases hf : fitB k (numSz width) = true
    · rw [if_pos hf]
      refine Nat.lt_of_lt_of_le (leNat_lt _) (Nat.pow_le_pow_right (by omega) ?_)
      unfold piece
      rw [List.length_take]
      exact Nat.min_le_left _ _
    · rw [if_neg hf]
      exact Nat.pow_pos (by omega)
theorem nAt_lt (l : List UInt8) (j : Nat) : nAt l j < 4294967296 := takeNum_lt _ 4
theorem onT_lt (l : List UInt8) : (onT l).1 < 256 := takeNum_lt _ 1
theorem rawC_fits (l : List UInt8) : (rawC l).Fits := ⟨nAt_lt l 0, nAt_lt l 1, nAt_lt l 2, nAt_lt l 3, nAt_lt l 4, nAt_lt l 5, nAt_lt l 6⟩
theorem getC_fits (l : List UInt8) : (getC l).Fits := by
  unfold getC
  split
  · exact rawC_fits l
  · exact nil_fits

/-! No reader, no card. -/
theorem stN_none {l : List UInt8} (h : openSt l 67 = none) : ∀ j, stN l j = none
  | 0 => by unfold stN nmT; rw [h]; rfl
  | j + 1 => by unfold stN; rw [stN_none h j]; rfl
theorem isC_none {l : List UInt8} (h : openSt l 67 = none) : isC l = false := by
  unfold isC onT
  rw [stN_none h 7]
  rfl
theorem getE_none {l : List UInt8} (h : openSt l 67 = none) : getE l = 250 := by
  unfold getE
  rw [isC_none h]
  rfl

/-! What is put is got back. -/
theorem cdF_le {c : Cd} (h : c.s.size ≤ 24) : (cdF c).length ≤ 251 := by rw [cdF_length h]; omega
theorem name_back {c : Cd} (h : c.s.size ≤ 24) : nmT (cdB c) = (c.s.data.toList, some (cdB c, 1 + (cdTo c 0).length)) := by
  have hb : textBytes c.s 24 = some (textField c.s 24) := if_pos (decide_eq_true ⟨by omega, by omega, by omega⟩)
  have e : cdF c = [] ++ textField c.s 24 ++ ((((nums c).take 7).flatMap fun n => leB n 4) ++ leB (flagN c.only) 1) := by
    unfold cdF cdTo
    rw [List.nil_append, List.append_assoc]
  have hle := cdF_le h
  have ht := takeText_back [] ((((nums c).take 7).flatMap fun n => leB n 4) ++ leB (flagN c.only) 1) 67 c.s 24 _ hb (by rw [← e]; exact hle)
  rw [← e] at ht
  unfold nmT cdB
  rw [open_back _ _ hle]
  rw [cdTo_zero]
  exact ht
theorem num_back {c : Cd} (h : c.s.size ≤ 24) (hf : c.Fits) (j : Nat) (hj : j < (nums c).length) (hs : stN (cdB c) j = some (cdB c, 1 + (cdTo c j).length)) : takeNum (stN (cdB c) j) 4 = ((nums c)[j], some (cdB c, 1 + (cdTo c (j + 1)).length)) := by
  have hb : numBytes (nums c)[j] 4 = some (leB (nums c)[j] 4) := by unfold numBytes; rw [if_pos (by decide)]; rfl
  obtain ⟨r, e⟩ := cdF_split c j hj
  have hle := cdF_le h
  have ht := takeNum_back (cdTo c j) r 67 (nums c)[j] 4 _ hb (by rw [← e]; exact hle)
  rw [← e, ← cdTo_succ c j hj] at ht
  rw [hs]
  unfold cdB
  rw [ht]
  have hn : numSz 4 = 4 := rfl
  have := nums_lt hf j hj
  rw [hn, Nat.mod_eq_of_lt (by omega)]
theorem stN_back {c : Cd} (h : c.s.size ≤ 24) (hf : c.Fits) : ∀ j, j ≤ 7 → stN (cdB c) j = some (cdB c, 1 + (cdTo c j).length)
  | 0, _ => by unfold stN; rw [name_back h]
  | j + 1, hj => by
    have ih := stN_back h hf j (by omega)
    have hn := num_back h hf j (by rw [nums_length]; omega) ih
    rw [stN, hn]
theorem nAt_back {c : Cd} (h : c.s.size ≤ 24) (hf : c.Fits) (j : Nat) (hj : j < (nums c).length) : nAt (cdB c) j = (nums c)[j] := by
  unfold nAt
  rw [num_back h hf j hj (stN_back h hf j (by rw [nums_length] at hj; omega))]
theorem only_back {c : Cd} (h : c.s.size ≤ 24) (hf : c.Fits) : onT (cdB c) = (flagN c.only, some (cdB c, 1 + (cdF c).length)) := by
  have hb : numBytes (flagN c.only) 1 = some (leB (flagN c.only) 1) := by unfold numBytes; rw [if_pos (by decide)]; rfl
  have e : cdF c = cdTo c 7 ++ leB (flagN c.only) 1 ++ [] := by rw [List.append_nil]; rfl
  have hle := cdF_le h
  have ht := takeNum_back (cdTo c 7) [] 67 (flagN c.only) 1 _ hb (by rw [← e]; exact hle)
  rw [← e] at ht
  unfold onT
  rw [stN_back h hf 7 (by omega)]
  unfold cdB
  rw [ht]
  have hn : numSz 1 = 1 := rfl
  have := flagN_lt c.only
  rw [hn, Nat.mod_eq_of_lt (by omega)]
  rfl
theorem raw_back {c : Cd} (h : c.s.size ≤ 24) (hf : c.Fits) : rawC (cdB c) = c := by
  unfold rawC
  rw [name_back h, nAt_back h hf 0 (by rw [nums_length]; decide), nAt_back h hf 1 (by rw [nums_length]; decide), nAt_back h hf 2 (by rw [nums_length]; decide), nAt_back h hf 3 (by rw [nums_length]; decide), nAt_back h hf 4 (by rw [nums_length]; decide), nAt_back h hf 5 (by rw [nums_length]; decide), nAt_back h hf 6 (by rw [nums_length]; decide), only_back h hf]
  cases c with
  | mk s a b i p r u q o => cases o <;> rfl
theorem back {c : Cd} (hm : mayB c = true) (hf : c.Fits) : getC (cdB c) = c ∧ getE (cdB c) = 0 := by
  have h := (mayB_iff.1 hm).1.2
  have hi : isC (cdB c) = true := by
    unfold isC
    rw [raw_back h hf, hm, only_back h hf]
    have he : endE (some (cdB c, 1 + (cdF c).length)) = 0 := end_back (cdF c) 67 (cdF_le h)
    rw [he]
    have hg : flagN c.only ≤ 1 := by unfold flagN; split <;> omega
    simp [hg]
  exact ⟨by unfold getC; rw [if_pos hi, raw_back h hf], getE_iff.2 hi⟩
/-- blocks that are the same are the same cards' -/
theorem cdB_inj {c d : Cd} (hc : mayB c = true) (hd : mayB d = true) (fc : c.Fits) (fd : d.Fits) (he : cdB c = cdB d) : c = d := by
  have a := (back hc fc).1
  rw [he] at a
  exact a.symm.trans (back hd fd).1

/-! What is got, put again, is the block. -/
theorem takeNum_some {l : List UInt8} {k : Nat} {width : Int} {x : Nat} {st : Option (List UInt8 × Nat)} (h : takeNum (some (l, k)) width = (x, st)) (hs : st ≠ none) :
    k + numSz width ≤ 252 ∧ x = leNat (piece l k (numSz width)) ∧ st = some (l, k + numSz width) := by
  rw [takeNum_eq] at h
  split at h
  · rename_i hf
    have hf' : k ≠ 0 ∧ numSz width ≠ 0 ∧ k + numSz width ≤ 252 := of_decide_eq_true hf
    cases h
    exact ⟨hf'.2.2, rfl, rfl⟩
  · cases h
    exact absurd rfl hs
theorem endE_some {st : Option (List UInt8 × Nat)} (h : endE st = 0) : st ≠ none := by
  rintro rfl
  revert h
  decide
theorem stN_keep {l : List UInt8} (j : Nat) : ∀ d, stN l (j + d) ≠ none → stN l j ≠ none
  | 0, h => h
  | d + 1, h => by
    refine stN_keep j d fun h2 => h ?_
    rw [← Nat.add_assoc, stN, h2]
    rfl
theorem onT_keep {l : List UInt8} (h : (onT l).2 ≠ none) : stN l 7 ≠ none := fun h2 => h (by unfold onT; rw [h2]; rfl)
theorem textSz24 : textSz 24 = 25 := rfl
theorem name_some {l : List UInt8} (hl : l.length = 256) (h : stN l 0 ≠ none) : openSt l 67 = some (l, 1) ∧ stN l 0 = some (l, 26) ∧ textField (rawC l).s 24 = piece l 1 25 := by
  have h1 : openSt l 67 = some (l, 1) := by
    unfold openSt
    split
    · rfl
    · rename_i hc
      exact absurd (stN_none (if_neg hc) 0) h
  have e : stN l 0 = (takeText (some (l, 1)) 24).2 := by unfold stN nmT; rw [h1]
  have e2 : (rawC l).s = ⟨(takeText (some (l, 1)) 24).1.toArray⟩ := by unfold rawC nmT; rw [h1]
  refine ⟨h1, ?_⟩
  rw [e] at h ⊢
  rw [e2]
  clear e e2
  rw [takeText_eq] at h ⊢
  have ha : textAt l 1 24 = none ∨ ∃ nm, textAt l 1 24 = some nm := by cases textAt l 1 24 <;> simp
  rcases ha with ha | ⟨nm, ha⟩
  · rw [ha] at h
    exact absurd rfl h
  · rw [ha]
    clear h
    refine ⟨rfl, ?_⟩
    have hnm : nm = (piece l 2 24).take (l.getD 1 0).toNat ∧ (l.getD 1 0).toNat ≤ 24 ∧ blankB ((piece l 2 24).drop (l.getD 1 0).toNat) = true := by
      unfold textAt at ha
      split at ha
      · rename_i hc
        exact ⟨(Option.some.inj ha).symm, hc.1, hc.2⟩
      · cases ha
    obtain ⟨hn, hle, hbl⟩ := hnm
    have hp := piece_length l 2 24 (by omega)
    have hnl : nm.length = (l.getD 1 0).toNat := by rw [hn, List.length_take, hp]; omega
    have hcons : piece l 1 25 = l.getD 1 0 :: piece l 2 24 := by
      unfold piece
      rw [List.drop_eq_getElem_cons (show 1 < l.length by omega), show (25 : Nat) = 24 + 1 from rfl, List.take_succ_cons, List.getD_eq_getElem?_getD, List.getElem?_eq_getElem (show 1 < l.length by omega)]
      rfl
    have hq := blank_replicate hbl
    rw [List.length_drop, hp] at hq
    have hsz : (⟨nm.toArray⟩ : ByteArray).size = (l.getD 1 0).toNat := by rw [← hnl]; exact List.size_toArray
    show textField ⟨nm.toArray⟩ 24 = piece l 1 25
    unfold textField
    rw [hsz, UInt8.ofNat_toNat, hcons]
    congr 1
    have h3 : piece l 2 24 = nm ++ List.replicate (24 - (l.getD 1 0).toNat) 0 := by
      rw [← hq, hn, List.take_append_drop]
    rw [h3]
    rfl

end Go.Proofs.Ytmbmgncajfamiaa.Crd
