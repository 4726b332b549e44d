/-
  Pages of counts and of bits: their bytes and blocks; which blocks are pages. Plain mathematics.
-/
import Derived.Test.YtkkeemjgeeillaaNodeMath
namespace Go.Proofs.Ytkkeemjgeeillaa.Tal
open Go.RowKit RowLaw Crc Fld
open Go.Proofs.Ytkkeemjgeeillaa.Node (piece_add leB_leNat blank_replicate fset openSt_cases)

/-- a kind of pages: how many numbers, their width, the Indices, the magic -/
structure PK where
  n : Nat
  wd : Nat
  lim : Nat
  m : UInt8
structure PK.Fine (k : PK) : Prop where
  len : k.wd * k.n = 128
  lim : k.lim ≤ 16384
  pos : 0 < k.n
def kT : PK := ⟨64, 2, 16384, 84⟩
def kP : PK := ⟨16, 8, 16, 80⟩
theorem fT : kT.Fine := ⟨by decide, by decide, by decide⟩
theorem fP : kP.Fine := ⟨by decide, by decide, by decide⟩

/-- a page's cells -/
def pgCells (K : IntKind) (idx : Nat) (ns : List Nat) : Array Value := (Value.int .u32 (idx : Int) :: ns.map fun n : Nat => Value.int K (n : Int)).toArray
section
variable {K : IntKind}
theorem pgCells_size (idx : Nat) (ns : List Nat) : (pgCells K idx ns).size = ns.length + 1 := by simp [pgCells]
theorem pgCells_idx (idx : Nat) (ns : List Nat) : (pgCells K idx ns)[0]? = some (.int .u32 (idx : Int)) := by simp [pgCells]
theorem pgCells_num (idx : Nat) (ns : List Nat) (j : Nat) (h : j < ns.length) : (pgCells K idx ns)[1 + j]? = some (.int K (ns[j] : Int)) := by
  unfold pgCells
  rw [List.getElem?_toArray, Nat.add_comm 1 j, List.getElem?_cons_succ, List.getElem?_map, List.getElem?_eq_getElem h]
  rfl
theorem pgCells_one (idx : Nat) (ns : List Nat) : (pgCells K idx ns).all (·.oneCell') = true := by
  unfold pgCells
  rw [List.all_toArray, List.all_cons, List.all_map]
  simp [Value.oneCell', Function.comp_def]
theorem pgCells_set (idx : Nat) (ns : List Nat) (j n : Nat) : (pgCells K idx ns).setIfInBounds (1 + j) (.int K (n : Int)) = pgCells K idx (ns.set j n) := by
  unfold pgCells
  rw [List.setIfInBounds_toArray, Nat.add_comm 1 j, List.set_cons_succ, List.map_set]
theorem pgCells_setIdx (idx n : Nat) (ns : List Nat) : (pgCells K idx ns).setIfInBounds 0 (.int .u32 (n : Int)) = pgCells K n ns := by
  unfold pgCells
  rw [List.setIfInBounds_toArray, List.set_cons_zero]
end

/-- the bytes of the Index and of the first j numbers -/
def pgTo (k : PK) (idx : Nat) (ns : List Nat) (j : Nat) : List UInt8 := leB idx 4 ++ (ns.take j).flatMap fun n => leB n k.wd
theorem flat_length (wd : Nat) : ∀ ns : List Nat, (ns.flatMap fun n => leB n wd).length = wd * ns.length
  | [] => rfl
  | p :: ps => by rw [List.flatMap_cons, List.length_append, leB_length, flat_length wd ps, List.length_cons, Nat.mul_add, Nat.mul_one, Nat.add_comm]
theorem pgTo_length (k : PK) (idx : Nat) (ns : List Nat) (j : Nat) (h : j ≤ ns.length) : (pgTo k idx ns j).length = 4 + k.wd * j := by
  unfold pgTo
  rw [List.length_append, leB_length, flat_length, List.length_take, Nat.min_eq_left h]
theorem pgTo_zero (k : PK) (idx : Nat) (ns : List Nat) : pgTo k idx ns 0 = leB idx 4 := by simp [pgTo]
theorem pgTo_succ (k : PK) (idx : Nat) (ns : List Nat) (j : Nat) (h : j < ns.length) : pgTo k idx ns (j + 1) = pgTo k idx ns j ++ leB ns[j] k.wd := by
  unfold pgTo
  rw [List.take_succ_eq_append_getElem h, List.flatMap_append, List.append_assoc]
  simp
def page (k : PK) (idx : Nat) (ns : List Nat) : List UInt8 := pgTo k idx ns k.n
theorem page_length {k : PK} (hk : k.Fine) (idx : Nat) {ns : List Nat} (h : ns.length = k.n) : (page k idx ns).length = 132 := by
  unfold page
  rw [pgTo_length _ _ _ _ (by omega), hk.len]

/-- what a page's block begins with (without the sum) -/
def pgB (k : PK) (idx : Nat) (ns : List Nat) : List UInt8 := fdone (page k idx ns) k.m
def putB (k : PK) (idx : Nat) (ns : List Nat) : List UInt8 := if idx < k.lim then pgB k idx ns else zeros
def putE (k : PK) (idx : Nat) : Int := if idx < k.lim then 0 else 2
theorem pgB_length {k : PK} (hk : k.Fine) (idx : Nat) {ns : List Nat} (h : ns.length = k.n) : (pgB k idx ns).length = 256 := fdone_length _ _ (by rw [page_length hk idx h]; omega)
theorem putB_length {k : PK} (hk : k.Fine) (idx : Nat) {ns : List Nat} (h : ns.length = k.n) : (putB k idx ns).length = 256 := by
  unfold putB
  split
  · exact pgB_length hk idx h
  · exact zeros_length
theorem putB_yes {k : PK} {idx : Nat} (ns : List Nat) (h : idx < k.lim) : putB k idx ns = pgB k idx ns := if_pos h
theorem putE_yes {k : PK} {idx : Nat} (h : idx < k.lim) : putE k idx = 0 := if_pos h
theorem putE_no {k : PK} {idx : Nat} (h : ¬ idx < k.lim) : putE k idx = 2 := if_neg h
theorem putE_iff {k : PK} {idx : Nat} : putE k idx = 0 ↔ idx < k.lim := by
  unfold putE
  split <;> simp [*]

def idxOf (l : List UInt8) : Nat := leNat (piece l 1 4)
def numAt (k : PK) (l : List UInt8) (j : Nat) : Nat := leNat (piece l (5 + k.wd * j) k.wd)
def nsTo (k : PK) (l : List UInt8) (j : Nat) : List Nat := (List.range j).map (numAt k l)
def nsOf (k : PK) (l : List UInt8) : List Nat := nsTo k l k.n
theorem nsTo_length (k : PK) (l : List UInt8) (j : Nat) : (nsTo k l j).length = j := by simp [nsTo]
theorem nsOf_length (k : PK) (l : List UInt8) : (nsOf k l).length = k.n := nsTo_length k l _
theorem nsOf_get (k : PK) (l : List UInt8) (j : Nat) (h : j < (nsOf k l).length) : (nsOf k l)[j] = numAt k l j := by simp [nsOf, nsTo]
theorem wd_le {k : PK} (hk : k.Fine) {j : Nat} (h : j ≤ k.n) : k.wd * j ≤ 128 := by
  have := Nat.mul_le_mul_left k.wd h
  rw [hk.len] at this; exact this
theorem wd_le1 {k : PK} (hk : k.Fine) {j : Nat} (h : j < k.n) : k.wd * j + k.wd ≤ 128 := by
  have := wd_le hk (show j + 1 ≤ k.n by omega)
  rw [Nat.mul_add, Nat.mul_one] at this; exact this
theorem pgTo_of {k : PK} (hk : k.Fine) (l : List UInt8) (hl : l.length = 256) : ∀ j, j ≤ k.n → pgTo k (idxOf l) (nsOf k l) j = piece l 1 (4 + k.wd * j)
  | 0, _ => by
    rw [pgTo_zero]
    have h := leB_leNat (piece l 1 4)
    rw [piece_length l 1 4 (by omega)] at h
    rw [Nat.mul_zero]
    exact h
  | j + 1, hj => by
    have hw := wd_le1 hk hj
    have h := leB_leNat (piece l (5 + k.wd * j) k.wd)
    rw [piece_length l _ k.wd (by omega)] at h
    rw [pgTo_succ _ _ _ _ (by rw [nsOf_length]; omega), pgTo_of hk l hl j (by omega), nsOf_get, numAt, h, Nat.mul_add, Nat.mul_one, ← Nat.add_assoc, piece_add l 1 (4 + k.wd * j) k.wd, show 1 + (4 + k.wd * j) = 5 + k.wd * j from by omega]
theorem page_of {k : PK} (hk : k.Fine) (l : List UInt8) (hl : l.length = 256) : page k (idxOf l) (nsOf k l) = piece l 1 132 := by
  unfold page
  rw [pgTo_of hk l hl k.n (by omega), hk.len]

theorem take_pieces (l : List UInt8) (hl : l.length = 256) : l.take 252 = l.getD 0 0 :: (piece l 1 132 ++ piece l 133 119) := by
  have h : piece l 0 (1 + (132 + 119)) = l.take 252 := by simp [piece]
  rw [← h, piece_add, piece_add]
  have h0 : piece l 0 1 = [l.getD 0 0] := by
    unfold piece
    rw [List.drop_zero, show (1 : Nat) = 0 + 1 from rfl, List.take_succ_eq_append_getElem (by omega), List.getD_eq_getElem?_getD, List.getElem?_eq_getElem (by omega)]
    rfl
  rw [h0]; rfl
theorem page_iff (l : List UInt8) (hl : l.length = 256) (m : UInt8) : fdone (piece l 1 132) m = l ↔ openSt l m = some (l, 1) ∧ blankB (piece l 133 119) = true := by
  have hp := piece_length l 1 132 (by omega)
  constructor
  · intro h
    have a1 : l.getD 0 0 = m := by rw [← h]; exact fdone_first _ _
    have a2 : sealB l = l := by
      have := fdone_good (piece l 1 132) m (by omega)
      rw [h] at this; exact this
    refine ⟨if_pos ⟨a1, a2⟩, ?_⟩
    · refine blankB_piece_true l 133 119 (by omega) (fun j hj h1 h2 => ?_)
      have := fdone_zero (piece l 1 132) m j (by omega) (by omega)
      rw [h, List.getElem?_eq_getElem hj] at this
      exact Option.some.inj this
  · rintro ⟨ho, hb⟩
    unfold openSt at ho
    split at ho
    · rename_i hc
      have hq := blank_replicate hb
      rw [piece_length l 133 119 (by omega)] at hq
      unfold fdone
      refine Eq.trans (sealB_congr ?_) hc.2
      rw [take_pieces l hl, hq, hc.1, fset, hp, List.take_succ_cons, List.take_append, hp, List.take_of_length_le (by omega), List.take_replicate]
      rfl
    · cases ho

/-- the numbers of a page's bytes -/
theorem pgTo_drop (k : PK) (idx : Nat) (ns : List Nat) (n : Nat) (h : ns.length = n) (j : Nat) (hj : j < ns.length) : ((pgTo k idx ns n).drop (4 + k.wd * j)).take k.wd = leB ns[j] k.wd := by
  have e : pgTo k idx ns n = pgTo k idx ns j ++ (leB ns[j] k.wd ++ (ns.drop (j + 1)).flatMap fun n => leB n k.wd) := by
    unfold pgTo
    rw [List.take_of_length_le (by omega), List.append_assoc]
    congr 1
    have h2 : ns = ns.take j ++ (ns[j] :: ns.drop (j + 1)) := by rw [← List.drop_eq_getElem_cons hj, List.take_append_drop]
    conv => lhs; rw [h2]
    rw [List.flatMap_append, List.flatMap_cons]
  rw [e, List.drop_append, pgTo_length k idx ns j (by omega), Nat.sub_self, List.drop_of_length_le (by rw [pgTo_length k idx ns j (by omega)]; omega), List.nil_append, List.drop_zero, List.take_append, leB_length, Nat.sub_self, List.take_zero, List.append_nil,
    List.take_of_length_le (by rw [leB_length]; omega)]
theorem pg_ns {k : PK} (hk : k.Fine) (idx : Nat) {ns : List Nat} (h : ns.length = k.n) (hs : ∀ j (hj : j < ns.length), ns[j] < 256 ^ k.wd) : nsOf k (pgB k idx ns) = ns := by
  have hn := page_length hk idx h
  apply List.ext_getElem
  · rw [nsOf_length, h]
  · intro j h1 h2
    have hw := wd_le1 hk (show j < k.n by omega)
    rw [nsOf_get, numAt, show 5 + k.wd * j = 1 + (4 + k.wd * j) from by omega, pgB, fdone_piece _ _ _ _ (by omega) (by omega), page, pgTo_drop k idx ns k.n h j h2, leNat_leB, Nat.mod_eq_of_lt (hs j h2)]
theorem pg_idx {k : PK} (hk : k.Fine) {idx : Nat} {ns : List Nat} (h : ns.length = k.n) (hi : idx < 4294967296) : idxOf (pgB k idx ns) = idx := by
  have hn := page_length hk idx h
  unfold idxOf pgB
  have e := fdone_piece (page k idx ns) k.m 0 4 (by omega) (by omega)
  rw [Nat.add_zero, List.drop_zero] at e
  rw [e]
  have e2 : (page k idx ns).take 4 = leB idx 4 := by
    unfold page pgTo
    rw [List.take_append, leB_length, Nat.sub_self, List.take_zero, List.append_nil, List.take_of_length_le (by rw [leB_length]; omega)]
  rw [e2, leNat_leB]
  omega

/-- is a block the page with that Index? -/
def isG (k : PK) (l : List UInt8) (idx : Nat) : Bool := decide (l = zeros) || decide (pgB k idx (nsOf k l) = l)
def getE (k : PK) (l : List UInt8) (idx : Nat) : Int := if idx < k.lim then (if isG k l idx = true then 0 else 250) else 2
def zs (k : PK) : List Nat := List.replicate k.n 0
def getI (k : PK) (l : List UInt8) (idx : Nat) : Nat := if getE k l idx = 0 then idx else 0
def getNs (k : PK) (l : List UInt8) (idx : Nat) : List Nat := if getE k l idx = 0 then nsOf k l else zs k
theorem zs_length (k : PK) : (zs k).length = k.n := by simp [zs]
theorem getNs_length (k : PK) (l : List UInt8) (idx : Nat) : (getNs k l idx).length = k.n := by
  unfold getNs
  split
  · exact nsOf_length k l
  · exact zs_length k
theorem nsOf_zerosT : nsOf kT zeros = zs kT := by decide +kernel
theorem nsOf_zerosP : nsOf kP zeros = zs kP := by decide +kernel
/-- the page test by the reader's words -/
theorem pgB_iff {k : PK} (hk : k.Fine) {l : List UInt8} (hl : l.length = 256) {idx : Nat} (hi : idx < 4294967296) : pgB k idx (nsOf k l) = l ↔ (openSt l k.m = some (l, 1) ∧ blankB (piece l 133 119) = true) ∧ idxOf l = idx := by
  constructor
  · intro h
    have e : idxOf l = idx := by
      have := pg_idx hk (nsOf_length k l) hi
      rw [h] at this; exact this
    refine ⟨?_, e⟩
    rw [← page_iff l hl, ← page_of hk l hl, e]
    exact h
  · rintro ⟨h, rfl⟩
    unfold pgB
    rw [page_of hk l hl]
    exact (page_iff l hl _).2 h
theorem getE_cases (k : PK) (l : List UInt8) (idx : Nat) : getE k l idx = 0 ∨ getE k l idx = 250 ∨ getE k l idx = 2 := by
  unfold getE
  split
  · split <;> simp
  · simp
theorem getE_zero {k : PK} {l : List UInt8} {idx : Nat} : getE k l idx = 0 ↔ idx < k.lim ∧ (l = zeros ∨ pgB k idx (nsOf k l) = l) := by
  unfold getE isG
  split
  · rename_i h
    rw [← Bool.decide_or]
    split
    · rename_i h2
      have := of_decide_eq_true h2
      simp [h, this]
    · rename_i h2
      have h3 : ¬ (l = zeros ∨ pgB k idx (nsOf k l) = l) := fun h => h2 (decide_eq_true h)
      constructor
      · intro h4; cases h4
      · rintro ⟨_, h4⟩; exact absurd h4 h3
  · rename_i h
    constructor
    · intro h4; cases h4
    · rintro ⟨h4, _⟩; exact absurd h4 h

/-- a page's block is not the zero block -/
theorem pgB_notZero {k : PK} (hm : k.m ≠ 0) (idx : Nat) (ns : List Nat) : pgB k idx ns ≠ zeros := fun h => by
  have := fdone_first (page k idx ns) k.m
  unfold pgB at h
  rw [h] at this
  exact hm this.symm
/-- what is put is got back, by its Index -/
theorem back {k : PK} (hk : k.Fine) {idx : Nat} {ns : List Nat} (h : ns.length = k.n) (hs : ∀ j (hj : j < ns.length), ns[j] < 256 ^ k.wd) (hi : idx < k.lim) :
    getI k (pgB k idx ns) idx = idx ∧ getNs k (pgB k idx ns) idx = ns ∧ getE k (pgB k idx ns) idx = 0 := by
  have e := pg_ns hk idx h hs
  have hz : getE k (pgB k idx ns) idx = 0 := getE_zero.2 ⟨hi, .inr (by rw [e])⟩
  unfold getI getNs
  rw [if_pos hz, if_pos hz]
  exact ⟨rfl, e, hz⟩
/-- and by no other one -/
theorem back_other {k : PK} (hk : k.Fine) (hm : k.m ≠ 0) {idx other : Nat} {ns : List Nat} (h : ns.length = k.n) (hi : idx < k.lim) (ho : other < 4294967296) (hne : other ≠ idx) : getE k (pgB k idx ns) other ≠ 0 := fun hz => by
  obtain ⟨h1, h2⟩ := getE_zero.1 hz
  rcases h2 with h2 | h2
  · exact pgB_notZero hm _ _ h2
  · have hl := hk.lim
    have e1 := pg_idx hk h (show idx < 4294967296 by omega)
    have e2 := ((pgB_iff hk (pgB_length hk idx h) ho).1 h2).2
    exact hne (e2.symm.trans e1)
/-- what is got, put again, is the block -/
theorem forth {k : PK} {l : List UInt8} {idx : Nat} (h : getE k l idx = 0) (hz : l ≠ zeros) : putB k (getI k l idx) (getNs k l idx) = l := by
  obtain ⟨h1, h2⟩ := getE_zero.1 h
  unfold getI getNs putB
  rw [if_pos h, if_pos h, if_pos h1]
  exact h2.resolve_left hz
/-- a page of one kind is none of the other -/
theorem other_kind {k k' : PK} (hk : k.Fine) (hk' : k'.Fine) (hm : k.m ≠ 0) (hmm : k'.m ≠ k.m) {idx idx' : Nat} {ns : List Nat} (h : ns.length = k.n) (hi : idx' < k'.lim) : getE k' (pgB k idx ns) idx' = 250 := by
  have hl := hk'.lim
  have h1 : getE k' (pgB k idx ns) idx' ≠ 0 := fun hz => by
    rcases (getE_zero.1 hz).2 with h2 | h2
    · exact pgB_notZero hm _ _ h2
    · have h3 := ((pgB_iff hk' (pgB_length hk idx h) (show idx' < 4294967296 by omega)).1 h2).1.1
      unfold openSt at h3
      split at h3
      · rename_i hc
        have := fdone_first (page k idx ns) k.m
        exact hmm (hc.1.symm.trans this)
      · cases h3
  unfold getE at h1 ⊢
  rw [if_pos hi] at h1 ⊢
  split
  · rename_i hg; rw [if_pos hg] at h1; exact absurd rfl h1
  · rfl
/-- blocks that are the same are the same pages' -/
theorem pgB_inj {k : PK} (hk : k.Fine) {idx idx' : Nat} {ns ns' : List Nat} (h : ns.length = k.n) (h' : ns'.length = k.n) (hs : ∀ j (hj : j < ns.length), ns[j] < 256 ^ k.wd) (hs' : ∀ j (hj : j < ns'.length), ns'[j] < 256 ^ k.wd)
    (hi : idx < 4294967296) (hi' : idx' < 4294967296) (he : pgB k idx ns = pgB k idx' ns') : idx = idx' ∧ ns = ns' := by
  have a1 := pg_idx hk h hi
  have a2 := pg_ns hk idx h hs
  rw [he] at a1 a2
  exact ⟨a1.symm.trans (pg_idx hk h' hi'), a2.symm.trans (pg_ns hk idx' h' hs')⟩

/-- how many are 0 -/
def zerosIn (ns : List Nat) : Nat := (ns.filter fun n => n == 0).length
theorem zerosIn_take (ns : List Nat) (j : Nat) (h : j < ns.length) : zerosIn (ns.take (j + 1)) = zerosIn (ns.take j) + if ns[j] = 0 then 1 else 0 := by
  unfold zerosIn
  rw [List.take_succ_eq_append_getElem h, List.filter_append, List.length_append]
  congr 1
  by_cases h0 : ns[j] = 0
  · rw [if_pos h0]; simp [h0]
  · rw [if_neg h0]; simp [h0]
theorem zerosIn_le (ns : List Nat) : zerosIn ns ≤ ns.length := List.length_filter_le _ _

end Go.Proofs.Ytkkeemjgeeillaa.Tal
