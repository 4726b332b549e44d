/-
  Roots: which may be, their bytes and blocks; which blocks are roots; torn blocks. Plain mathematics.
-/
import Derived.Test.YtdlgdnmmeopkjaaFld4
namespace Go.Proofs.Ytdlgdnmmeopkjaa.Slt
open Go.RowKit RowLaw Crc Fld
open Go.Proofs.Ytdlgdnmmeopkjaa.Node (piece_add leB_leNat blank_replicate fset openSt_cases)

structure Rt where
  gen : Nat
  size : Nat
  picks : Nat
  names : Nat
  free : Nat
  next : Nat
  hint : Nat
  vols : Nat

def nil : Rt := ⟨0, 0, 0, 0, 0, 0, 0, 0⟩
/-- a root's cells -/
def cells (r : Rt) : Array Value :=
  #[.int .u64 (r.gen : Int), .int .u32 (r.size : Int), .int .u32 (r.picks : Int), .int .u32 (r.names : Int), .int .u32 (r.free : Int), .int .u32 (r.next : Int), .int .u32 (r.hint : Int), .int .u8 (r.vols : Int)]
theorem cells_size (r : Rt) : (cells r).size = 8 := rfl
theorem cells_one (r : Rt) : (cells r).all (·.oneCell') = true := by simp [cells, Value.oneCell']
def nums (r : Rt) : List Nat := [r.size, r.picks, r.names, r.free, r.next, r.hint]
structure Rt.Fits (r : Rt) : Prop where
  gen : r.gen < 18446744073709551616
  size : r.size < 4294967296
  picks : r.picks < 4294967296
  names : r.names < 4294967296
  free : r.free < 4294967296
  next : r.next < 4294967296
  hint : r.hint < 4294967296
  vols : r.vols < 256
theorem nil_fits : nil.Fits := ⟨by decide, by decide, by decide, by decide, by decide, by decide, by decide, by decide⟩
theorem nums_length (r : Rt) : (nums r).length = 6 := rfl
theorem nums_lt {r : Rt} (h : r.Fits) (j : Nat) (hj : j < (nums r).length) : (nums r)[j] < 4294967296 := by
  have : ∀ x ∈ nums r, x < 4294967296 := by
    intro x hx
    simp only [nums, List.mem_cons, List.not_mem_nil, or_false] at hx
    rcases hx with rfl | rfl | rfl | rfl | rfl | rfl
    · exact h.size
    · exact h.picks
    · exact h.names
    · exact h.free
    · exact h.next
    · exact h.hint
  exact this _ (List.getElem_mem hj)

/-- may the root be? -/
def May (r : Rt) : Prop := 1 ≤ r.gen ∧ 64 ≤ r.size ∧ r.size ≤ 1048576 ∧ r.picks < 65536 ∧ r.names < r.size ∧ r.hint < r.size ∧ r.free ≤ r.size ∧ 1 ≤ r.next ∧ r.vols ≤ 16 ∧ (r.vols = 0 ↔ r.names = 0)
instance (r : Rt) : Decidable (May r) := by unfold May; exact inferInstance
def mayB (r : Rt) : Bool := decide (May r)
theorem mayB_iff {r : Rt} : mayB r = true ↔ May r := decide_eq_true_iff
theorem mayB_nil : mayB nil = false := by decide

/-- the bytes of Gen and of the first j numbers -/
def rtTo (r : Rt) (j : Nat) : List UInt8 := leB r.gen 8 ++ ((nums r).take j).flatMap fun n => leB n 4
def rtF (r : Rt) : List UInt8 := rtTo r 6 ++ leB r.vols 1
theorem flat4_length : ∀ ns : List Nat, (ns.flatMap fun n => leB n 4).length = 4 * ns.length
  | [] => rfl
  | p :: ps => by rw [List.flatMap_cons, List.length_append, leB_length, flat4_length ps, List.length_cons, Nat.mul_add, Nat.mul_one, Nat.add_comm]
theorem rtTo_length (r : Rt) (j : Nat) (hj : j ≤ 6) : (rtTo r j).length = 8 + 4 * j := by
  unfold rtTo
  rw [List.length_append, leB_length, flat4_length, List.length_take, nums_length, Nat.min_eq_left hj]
theorem rtF_length (r : Rt) : (rtF r).length = 33 := by
  unfold rtF
  rw [List.length_append, rtTo_length r 6 (by omega), leB_length]
theorem rtTo_zero (r : Rt) : rtTo r 0 = leB r.gen 8 := by simp [rtTo]
theorem rtTo_succ (r : Rt) (j : Nat) (h : j < (nums r).length) : rtTo r (j + 1) = rtTo r j ++ leB (nums r)[j] 4 := by
  unfold rtTo
  rw [List.take_succ_eq_append_getElem h, List.flatMap_append, List.append_assoc]
  simp
theorem rtF_split (r : Rt) (j : Nat) (h : j < (nums r).length) : ∃ t, rtF r = rtTo r j ++ (leB (nums r)[j] 4 ++ t) := by
  refine ⟨(((nums r).drop (j + 1)).flatMap fun n => leB n 4) ++ leB r.vols 1, ?_⟩
  unfold rtF
  rw [← List.append_assoc, ← List.append_assoc]
  congr 1
  rw [← rtTo_succ r j h]
  unfold rtTo
  rw [List.append_assoc, ← List.flatMap_append, List.take_append_drop, List.take_of_length_le (by rw [nums_length]; omega)]

/-- a root's block -/
def rtB (r : Rt) : List UInt8 := fdone (rtF r) 82
def putB (r : Rt) : List UInt8 := if mayB r = true then rtB r else zeros
def putE (r : Rt) : Int := if mayB r = true then 0 else 2
theorem rtF_le (r : Rt) : (rtF r).length ≤ 251 := by rw [rtF_length]; omega
theorem rtB_length (r : Rt) : (rtB r).length = 256 := fdone_length _ _ (rtF_le r)
theorem putB_length (r : Rt) : (putB r).length = 256 := by
  unfold putB
  split
  · exact rtB_length r
  · exact zeros_length
theorem putB_yes {r : Rt} (h : mayB r = true) : putB r = rtB r := if_pos h
theorem putE_yes {r : Rt} (h : mayB r = true) : putE r = 0 := if_pos h
theorem putB_no {r : Rt} (h : ¬ mayB r = true) : putB r = zeros := if_neg h
theorem putE_no {r : Rt} (h : ¬ mayB r = true) : putE r = 2 := if_neg h
theorem putE_iff {r : Rt} : putE r = 0 ↔ mayB r = true := by
  unfold putE
  split <;> simp [*]
theorem rtB_good (r : Rt) : sealB (rtB r) = rtB r := fdone_good _ _ (rtF_le r)
theorem rtB_first (r : Rt) : (rtB r).getD 0 0 = 82 := fdone_first _ _

/-! A block read: by its places. -/
def numAt (l : List UInt8) (k w : Nat) : Nat := leNat (piece l k w)
def rawR (l : List UInt8) : Rt := ⟨numAt l 1 8, numAt l 9 4, numAt l 13 4, numAt l 17 4, numAt l 21 4, numAt l 25 4, numAt l 29 4, numAt l 33 1⟩
def isR (l : List UInt8) : Bool := mayB (rawR l) && decide (rtB (rawR l) = l)
def getR (l : List UInt8) : Rt := if isR l = true then rawR l else nil
def getE (l : List UInt8) : Int := if isR l = true then 0 else 250
theorem getE_iff {l : List UInt8} : getE l = 0 ↔ isR l = true := by
  unfold getE
  split <;> simp [*]
theorem getE_cases (l : List UInt8) : getE l = 0 ∨ getE l = 250 := by
  unfold getE
  split <;> simp
theorem numAt_lt {l : List UInt8} (hl : l.length = 256) (k w : Nat) (h : k + w ≤ 256) : numAt l k w < 256 ^ w := by
  have := leNat_lt (piece l k w)
  rw [piece_length l k w (by omega)] at this
  exact this
theorem numAt_lt8 {l : List UInt8} (hl : l.length = 256) (k : Nat) (h : k + 8 ≤ 256) : numAt l k 8 < 18446744073709551616 := by
  have := numAt_lt hl k 8 h
  rwa [show (256 : Nat) ^ 8 = 18446744073709551616 from by decide] at this
theorem numAt_lt4 {l : List UInt8} (hl : l.length = 256) (k : Nat) (h : k + 4 ≤ 256) : numAt l k 4 < 4294967296 := by
  have := numAt_lt hl k 4 h
  rwa [show (256 : Nat) ^ 4 = 4294967296 from by decide] at this
theorem numAt_lt1 {l : List UInt8} (hl : l.length = 256) (k : Nat) (h : k + 1 ≤ 256) : numAt l k 1 < 256 := by
  have := numAt_lt hl k 1 h
  rwa [show (256 : Nat) ^ 1 = 256 from by decide] at this
theorem rawR_fits {l : List UInt8} (hl : l.length = 256) : (rawR l).Fits :=
  ⟨numAt_lt8 hl 1 (by omega), numAt_lt4 hl 9 (by omega), numAt_lt4 hl 13 (by omega), numAt_lt4 hl 17 (by omega), numAt_lt4 hl 21 (by omega), numAt_lt4 hl 25 (by omega), numAt_lt4 hl 29 (by omega), numAt_lt1 hl 33 (by omega)⟩
theorem getR_fits {l : List UInt8} (hl : l.length = 256) : (getR l).Fits := by
  unfold getR
  split
  · exact rawR_fits hl
  · exact nil_fits

/-! What is put is got back. -/
theorem numAt_back (r : Rt) (A t : List UInt8) (n w : Nat) (h : rtF r = A ++ (leB n w ++ t)) (hn : n < 256 ^ w) : numAt (rtB r) (1 + A.length) w = n := by
  have hlen := rtF_length r
  have hw : A.length + w ≤ (rtF r).length := by rw [h]; simp only [List.length_append, leB_length]; omega
  unfold numAt rtB
  rw [fdone_piece _ _ _ _ hw (rtF_le r), h, List.drop_left]
  have e : (leB n w ++ t).take w = leB n w := by
    have := List.take_left (l₁ := leB n w) (l₂ := t)
    rw [leB_length] at this
    exact this
  rw [e, leNat_leB, Nat.mod_eq_of_lt hn]
theorem raw_back {r : Rt} (hf : r.Fits) : rawR (rtB r) = r := by
  have g : numAt (rtB r) 1 8 = r.gen := numAt_back r [] ((((nums r).take 6).flatMap fun n => leB n 4) ++ leB r.vols 1) r.gen 8 (by unfold rtF rtTo; simp) hf.gen
  have k : ∀ j (hj : j < (nums r).length), numAt (rtB r) (9 + 4 * j) 4 = (nums r)[j] := fun j hj => by
    obtain ⟨t, h⟩ := rtF_split r j hj
    have := numAt_back r (rtTo r j) t (nums r)[j] 4 h (nums_lt hf j hj)
    rw [rtTo_length r j (by rw [nums_length] at hj; omega)] at this
    rw [show 9 + 4 * j = 1 + (8 + 4 * j) from by omega]
    exact this
  have v : numAt (rtB r) 33 1 = r.vols := by
    have := numAt_back r (rtTo r 6) [] r.vols 1 (by unfold rtF; simp) hf.vols
    rw [rtTo_length r 6 (by omega)] at this
    exact this
  have k0 := k 0 (by rw [nums_length]; decide)
  have k1 := k 1 (by rw [nums_length]; decide)
  have k2 := k 2 (by rw [nums_length]; decide)
  have k3 := k 3 (by rw [nums_length]; decide)
  have k4 := k 4 (by rw [nums_length]; decide)
  have k5 := k 5 (by rw [nums_length]; decide)
  unfold rawR
  rw [g, v]
  simp only [Nat.mul_zero, Nat.reduceMul, Nat.reduceAdd] at k0 k1 k2 k3 k4 k5
  rw [k0, k1, k2, k3, k4, k5]
  rfl
theorem back {r : Rt} (hm : mayB r = true) (hf : r.Fits) : getR (rtB r) = r ∧ getE (rtB r) = 0 := by
  have hi : isR (rtB r) = true := by
    unfold isR
    rw [raw_back hf, hm, decide_eq_true rfl]
    rfl
  exact ⟨by unfold getR; rw [if_pos hi, raw_back hf], getE_iff.2 hi⟩
theorem rtB_inj {r s : Rt} (fr : r.Fits) (fs : s.Fits) (he : rtB r = rtB s) : r = s := by
  rw [← raw_back fr, he, raw_back fs]
/-- what is got, put again, is the block -/
theorem forth {l : List UInt8} (h : getE l = 0) : putB (getR l) = l ∧ putE (getR l) = 0 := by
  have hi := getE_iff.1 h
  have hg : getR l = rawR l := if_pos hi
  unfold isR at hi
  rw [Bool.and_eq_true, decide_eq_true_eq] at hi
  rw [hg]
  exact ⟨by rw [putB_yes hi.1]; exact hi.2, putE_yes hi.1⟩
/-- a block that isn't sealed is no root's -/
theorem getE_open {l : List UInt8} (h : sealB l ≠ l) : getE l = 250 := by
  have hi : ¬ isR l = true := by
    unfold isR
    rw [Bool.and_eq_true, decide_eq_true_eq]
    rintro ⟨_, he⟩
    refine h ?_
    have := rtB_good (rawR l)
    rw [he] at this
    exact this
  exact if_neg hi

/-! A block read by a reader. -/
def stG (l : List UInt8) : Nat × Option (List UInt8 × Nat) := takeNum (openSt l 82) 8
def stN (l : List UInt8) : Nat → Option (List UInt8 × Nat)
  | 0 => (stG l).2
  | j + 1 => (takeNum (stN l j) 4).2
def nAt (l : List UInt8) (j : Nat) : Nat := (takeNum (stN l j) 4).1
def voT (l : List UInt8) : Nat × Option (List UInt8 × Nat) := takeNum (stN l 6) 1
/-- what a reader gives: the root, if the block is open to it -/
def viaR (l : List UInt8) : Rt := ⟨(stG l).1, nAt l 0, nAt l 1, nAt l 2, nAt l 3, nAt l 4, nAt l 5, (voT l).1⟩
theorem takeNum_eq (l : List UInt8) (k : Nat) (width : Int) : takeNum (some (l, k)) width = if fitB k (numSz width) = true then (leNat (piece l k (numSz width)), some (l, k + numSz width)) else (0, none) := rfl
theorem stN_none {l : List UInt8} (h : openSt l 82 = none) : ∀ j, stN l j = none
  | 0 => by unfold stN stG; rw [h]; rfl
  | j + 1 => by unfold stN; rw [stN_none h j]; rfl
theorem stN_open {l : List UInt8} (h : openSt l 82 = some (l, 1)) : ∀ j, j ≤ 6 → stN l j = some (l, 9 + 4 * j)
  | 0, _ => by unfold stN stG; rw [h]; rfl
  | j + 1, hj => by
    have ih := stN_open h j (by omega)
    unfold stN
    rw [ih, takeNum_eq, show fitB (9 + 4 * j) (numSz 4) = true from decide_eq_true ⟨by omega, by decide, by show 9 + 4 * j + 4 ≤ 252; omega⟩, if_pos rfl]
    show some (l, 9 + 4 * j + 4) = _
    rw [Nat.mul_add, Nat.mul_one, Nat.add_assoc]
theorem nAt_open {l : List UInt8} (h : openSt l 82 = some (l, 1)) (j : Nat) (hj : j < 6) : nAt l j = numAt l (9 + 4 * j) 4 := by
  unfold nAt
  rw [stN_open h j (by omega), takeNum_eq, show fitB (9 + 4 * j) (numSz 4) = true from decide_eq_true ⟨by omega, by decide, by show 9 + 4 * j + 4 ≤ 252; omega⟩, if_pos rfl]
  rfl
theorem voT_open {l : List UInt8} (h : openSt l 82 = some (l, 1)) : voT l = (numAt l 33 1, some (l, 34)) := by
  unfold voT
  rw [stN_open h 6 (by omega)]
  rfl
theorem via_open {l : List UInt8} (h : openSt l 82 = some (l, 1)) : viaR l = rawR l := by
  unfold viaR rawR
  rw [nAt_open h 0 (by omega), nAt_open h 1 (by omega), nAt_open h 2 (by omega), nAt_open h 3 (by omega), nAt_open h 4 (by omega), nAt_open h 5 (by omega), voT_open h]
  unfold stG
  rw [h]
  rfl
theorem take_pieces (l : List UInt8) (hl : l.length = 256) : l.take 252 = l.getD 0 0 :: (piece l 1 33 ++ piece l 34 218) := by
  have h : piece l 0 (1 + (33 + 218)) = l.take 252 := by simp [piece]
  rw [← h, piece_add, piece_add]
  have h0 : piece l 0 1 = [l.getD 0 0] := by
    unfold piece
    rw [List.drop_zero, show (1 : Nat) = 0 + 1 from rfl, List.take_succ_eq_append_getElem (by omega), List.getD_eq_getElem?_getD, List.getElem?_eq_getElem (by omega)]
    rfl
  rw [h0]; rfl
theorem rtF_raw {l : List UInt8} (hl : l.length = 256) : rtF (rawR l) = piece l 1 33 := by
  have hb : ∀ k w, k + w ≤ 256 → leB (numAt l k w) w = piece l k w := fun k w h => by
    have := leB_leNat (piece l k w)
    rw [piece_length l k w (by omega)] at this
    exact this
  unfold rtF rtTo nums rawR
  simp only [List.take_succ_cons, List.take_zero, List.flatMap_cons, List.flatMap_nil, List.append_nil]
  rw [hb 1 8 (by omega), hb 9 4 (by omega), hb 13 4 (by omega), hb 17 4 (by omega), hb 21 4 (by omega), hb 25 4 (by omega), hb 29 4 (by omega), hb 33 1 (by omega)]
  have e : ∀ (k a b : Nat), piece l k a ++ piece l (k + a) b = piece l k (a + b) := fun k a b => (piece_add l k a b).symm
  have e1 := e 25 4 4
  have e2 := e 21 4 8
  have e3 := e 17 4 12
  have e4 := e 13 4 16
  have e5 := e 9 4 20
  have e6 := e 1 8 24
  have e7 := e 1 32 1
  simp only [Nat.reduceAdd] at e1 e2 e3 e4 e5 e6 e7
  rw [e1, e2, e3, e4, e5, e6, e7]
/-- the reader's way and the place's way say the same -/
theorem via_iff {l : List UInt8} (hl : l.length = 256) : (decide (endE (voT l).2 = 0) && mayB (viaR l)) = isR l := by
  rcases (openSt_cases l 82).symm with h | h
  · have hn : (voT l).2 = none := by unfold voT; rw [stN_none h 6]; rfl
    have hne : isR l = false := by
      unfold isR
      rw [Bool.and_eq_false_iff]
      refine .inr (decide_eq_false fun he => ?_)
      have a1 := rtB_first (rawR l)
      have a2 := rtB_good (rawR l)
      rw [he] at a1 a2
      unfold openSt at h
      rw [if_pos ⟨a1, a2⟩] at h
      cases h
    rw [hn, hne]
    rfl
  · rw [via_open h, voT_open h]
    unfold isR
    rw [Bool.and_comm]
    congr 1
    have hE : endE (some (l, 34)) = if blankB (piece l 34 218) = true then 0 else 250 := rfl
    rw [hE, decide_eq_decide]
    have hp := piece_length l 1 33 (by omega)
    constructor
    · intro hb
      have hbl : blankB (piece l 34 218) = true := by
        split at hb
        · rename_i h2; exact h2
        · cases hb
      have hq := blank_replicate hbl
      rw [piece_length l 34 218 (by omega)] at hq
      have ho := h
      unfold openSt at ho
      split at ho
      · rename_i hc
        unfold rtB fdone
        rw [rtF_raw hl]
        refine Eq.trans (sealB_congr ?_) hc.2
        rw [take_pieces l hl, hq, hc.1, fset, hp, List.take_succ_cons, List.take_append, hp, List.take_of_length_le (by omega), List.take_replicate]
        rfl
      · cases ho
    · intro he
      have hb : blankB (piece l 34 218) = true := by
        refine blankB_piece_true l 34 218 (by omega) (fun j hj h1 h2 => ?_)
        have := fdone_zero (rtF (rawR l)) 82 j (by rw [rtF_length]; omega) (by omega)
        unfold rtB at he
        rw [he, List.getElem?_eq_getElem hj] at this
        exact Option.some.inj this
      rw [if_pos hb]

/-! Torn blocks. -/
def tornB (old now : List UInt8) (s : Nat) : List UInt8 := (List.range 256).map fun i => if s.testBit (i / 64) = true then now.getD i 0 else old.getD i 0
theorem tornB_length (old now : List UInt8) (s : Nat) : (tornB old now s).length = 256 := by simp [tornB]
theorem tornB_get (old now : List UInt8) (s i : Nat) (h : i < 256) : (tornB old now s)[i]? = some (if s.testBit (i / 64) = true then now.getD i 0 else old.getD i 0) := by simp [tornB, h]
theorem getD_get {l : List UInt8} {i : Nat} (h : i < l.length) : l[i]? = some (l.getD i 0) := by rw [List.getD_eq_getElem?_getD, List.getElem?_eq_getElem h]; rfl
theorem rtB_zero (r : Rt) (i : Nat) (h1 : 34 ≤ i) (h2 : i < 252) : (rtB r).getD i 0 = 0 := by
  rw [List.getD_eq_getElem?_getD, rtB, fdone_zero _ _ i (by rw [rtF_length]; omega) h2]
  rfl
/-- all but the sum is one of the two -/
theorem torn_take (r t : Rt) (s : Nat) : (tornB (rtB r) (rtB t) s).take 252 = (if s.testBit 0 = true then rtB t else rtB r).take 252 := by
  apply List.ext_getElem?
  intro i
  by_cases hi : i < 252
  · rw [List.getElem?_take_of_lt hi, List.getElem?_take_of_lt hi, tornB_get _ _ _ i (by omega)]
    by_cases h : i < 64
    · rw [show i / 64 = 0 from by omega]
      split
      · exact (getD_get (by rw [rtB_length]; omega)).symm
      · exact (getD_get (by rw [rtB_length]; omega)).symm
    · have hR : ∀ x : Rt, (rtB x)[i]? = some 0 := fun x => by rw [getD_get (show i < (rtB x).length by rw [rtB_length]; omega), rtB_zero x i (by omega) hi]
      rw [rtB_zero r i (by omega) hi, rtB_zero t i (by omega) hi, ite_self]
      split
      · exact (hR t).symm
      · exact (hR r).symm
  · rw [List.getElem?_eq_none (by rw [List.length_take, tornB_length]; omega), List.getElem?_eq_none (by rw [List.length_take]; omega)]
/-- a torn root is one of the two, or none -/
theorem torn_one (r t : Rt) (s : Nat) : getE (tornB (rtB r) (rtB t) s) = 250 ∨ tornB (rtB r) (rtB t) s = rtB r ∨ tornB (rtB r) (rtB t) s = rtB t := by
  have h := torn_take r t s
  by_cases hs : sealB (tornB (rtB r) (rtB t) s) = tornB (rtB r) (rtB t) s
  · right
    have e := sealB_congr h
    rw [hs] at e
    rw [e]
    split
    · exact .inr (rtB_good t)
    · exact .inl (rtB_good r)
  · exact .inl (getE_open hs)
theorem torn_none (l m : List UInt8) (hl : l.length = 256) : tornB l m 0 = l := by
  apply List.ext_getElem?
  intro i
  by_cases hi : i < 256
  · rw [tornB_get _ _ _ i hi, Nat.zero_testBit, if_neg (by decide), getD_get (by omega)]
  · rw [List.getElem?_eq_none (by rw [tornB_length]; omega), List.getElem?_eq_none (by omega)]
theorem torn_all (l m : List UInt8) (hm : m.length = 256) : tornB l m 255 = m := by
  apply List.ext_getElem?
  intro i
  by_cases hi : i < 256
  · have ht : Nat.testBit 255 (i / 64) = true := by
      rcases (by omega : i / 64 = 0 ∨ i / 64 = 1 ∨ i / 64 = 2 ∨ i / 64 = 3) with h | h | h | h <;> rw [h] <;> decide
    rw [tornB_get _ _ _ i hi, ht, if_pos rfl, getD_get (by omega)]
  · rw [List.getElem?_eq_none (by rw [tornB_length]; omega), List.getElem?_eq_none (by omega)]

end Go.Proofs.Ytdlgdnmmeopkjaa.Slt
