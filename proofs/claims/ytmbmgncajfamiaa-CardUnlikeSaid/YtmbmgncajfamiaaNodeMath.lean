/-
  Nodes: their bytes and blocks; which blocks are nodes'. Plain mathematics.
-/
import Derived.Test.YtmbmgncajfamiaaFldBackMath
import Derived.Test.YtmbmgncajfamiaaFldRow
namespace Go.Proofs.Ytmbmgncajfamiaa.Node
open Go.RowKit RowLaw Crc Fld
set_option maxRecDepth 100000

/-- a node's cells -/
def nodeCells (lv : Nat) (ps : List Nat) : Array Value := (Value.int .u8 (lv : Int) :: ps.map fun n : Nat => Value.int .u32 (n : Int)).toArray
theorem nodeCells_size (lv : Nat) (ps : List Nat) : (nodeCells lv ps).size = ps.length + 1 := by simp [nodeCells]
theorem nodeCells_lv (lv : Nat) (ps : List Nat) : (nodeCells lv ps)[0]? = some (.int .u8 (lv : Int)) := by simp [nodeCells]
theorem nodeCells_ptr (lv : Nat) (ps : List Nat) (j : Nat) (h : j < ps.length) : (nodeCells lv ps)[1 + j]? = some (.int .u32 (ps[j] : Int)) := by
  unfold nodeCells
  rw [List.getElem?_toArray, Nat.add_comm 1 j, List.getElem?_cons_succ, List.getElem?_map, List.getElem?_eq_getElem h]
  rfl
theorem nodeCells_one (lv : Nat) (ps : List Nat) : (nodeCells lv ps).all (·.oneCell') = true := by
  unfold nodeCells
  rw [List.all_toArray, List.all_cons, List.all_map]
  simp [Value.oneCell', Function.comp_def]
theorem nodeCells_set (lv : Nat) (ps : List Nat) (j n : Nat) : (nodeCells lv ps).setIfInBounds (1 + j) (.int .u32 (n : Int)) = nodeCells lv (ps.set j n) := by
  unfold nodeCells
  rw [List.setIfInBounds_toArray, Nat.add_comm 1 j, List.set_cons_succ, List.map_set]
theorem map_u32_inj : ∀ {ps qs : List Nat}, (ps.map fun n : Nat => Value.int .u32 (n : Int)) = (qs.map fun n : Nat => Value.int .u32 (n : Int)) → ps = qs
  | [], [], _ => rfl
  | [], _ :: _, h => by simp at h
  | _ :: _, [], h => by simp at h
  | p :: ps, q :: qs, h => by
    rw [List.map_cons, List.map_cons, List.cons.injEq] at h
    have h1 : p = q := by
      have := h.1
      simp only [Value.int.injEq, true_and] at this
      omega
    rw [h1, map_u32_inj h.2]
theorem nodeCells_inj {lv lv' : Nat} {ps ps' : List Nat} (h : nodeCells lv ps = nodeCells lv' ps') : lv = lv' ∧ ps = ps' := by
  unfold nodeCells at h
  have h2 := congrArg Array.toList h
  simp only [List.cons.injEq] at h2
  refine ⟨?_, map_u32_inj h2.2⟩
  have := h2.1
  simp only [Value.int.injEq, true_and] at this
  omega

def lvB (lv : Nat) : Bool := decide (1 ≤ lv ∧ lv ≤ 3)
def okPs (ps : List Nat) : Bool := ps.all fun n => decide (n < 1048576)
def okN (lv : Nat) (ps : List Nat) : Bool := okPs ps && lvB lv
theorem okPs_at {ps : List Nat} (h : okPs ps = true) (j : Nat) (hj : j < ps.length) : ps[j] < 1048576 := by
  unfold okPs at h
  rw [List.all_eq_true] at h
  have := h ps[j] (List.getElem_mem hj)
  exact of_decide_eq_true this
theorem okPs_no {ps : List Nat} (j : Nat) (hj : j < ps.length) (h : 1048576 ≤ ps[j]) : okPs ps = false := by
  rcases Bool.eq_false_or_eq_true (okPs ps) with h2 | h2
  · have := okPs_at h2 j hj; omega
  · exact h2
theorem okPs_yes {ps : List Nat} (h : ∀ j (hj : j < ps.length), ps[j] < 1048576) : okPs ps = true := by
  unfold okPs
  rw [List.all_eq_true]
  intro x hx
  obtain ⟨j, hj, rfl⟩ := List.mem_iff_getElem.1 hx
  exact decide_eq_true (h j hj)

/-- the bytes of the level and of the first k pointers -/
def nodeTo (lv : Nat) (ps : List Nat) (k : Nat) : List UInt8 := leB lv 1 ++ (ps.take k).flatMap fun n => leB n 4
theorem flat_length : ∀ ps : List Nat, (ps.flatMap fun n => leB n 4).length = 4 * ps.length
  | [] => rfl
  | p :: ps => by rw [List.flatMap_cons, List.length_append, leB_length, flat_length ps, List.length_cons]; omega
theorem nodeTo_length (lv : Nat) (ps : List Nat) (k : Nat) (h : k ≤ ps.length) : (nodeTo lv ps k).length = 1 + 4 * k := by
  unfold nodeTo
  rw [List.length_append, leB_length, flat_length, List.length_take]; omega
theorem nodeTo_zero (lv : Nat) (ps : List Nat) : nodeTo lv ps 0 = leB lv 1 := by simp [nodeTo]
theorem nodeTo_succ (lv : Nat) (ps : List Nat) (k : Nat) (h : k < ps.length) : nodeTo lv ps (k + 1) = nodeTo lv ps k ++ leB ps[k] 4 := by
  unfold nodeTo
  rw [List.take_succ_eq_append_getElem h, List.flatMap_append, List.append_assoc]
  simp

def putB (lv : Nat) (ps : List Nat) : List UInt8 := if okN lv ps = true then fdone (nodeTo lv ps 32) 78 else zeros
def putE (lv : Nat) (ps : List Nat) : Int := if okN lv ps = true then 0 else 2
theorem fdone_length (f : List UInt8) (m : UInt8) (h : f.length ≤ 255) : (fdone f m).length = 256 := sealB_length (by rw [List.length_set, fblk_length f h])
theorem putB_length (lv : Nat) (ps : List Nat) (h : ps.length = 32) : (putB lv ps).length = 256 := by
  unfold putB
  split
  · exact fdone_length _ _ (by rw [nodeTo_length _ _ _ (by omega)]; omega)
  · exact zeros_length

theorem piece_add (l : List UInt8) (k a b : Nat) : piece l k (a + b) = piece l k a ++ piece l (k + a) b := by
  unfold piece
  rw [List.take_add, List.drop_drop]
theorem leB_leNat : ∀ bs : List UInt8, leB (leNat bs) bs.length = bs
  | [] => rfl
  | u :: bs => by
    rw [List.length_cons, leB_cons, leNat]
    have hu := u.toNat_lt
    have h1 : (u.toNat + 256 * leNat bs) / 256 = leNat bs := by omega
    have h2 : UInt8.ofNat (u.toNat + 256 * leNat bs) = u := by
      apply UInt8.toNat_inj.1
      rw [UInt8.toNat_ofNat']; omega
    rw [h1, h2, leB_leNat bs]

def lvOf (l : List UInt8) : Nat := leNat (piece l 1 1)
def psTo (l : List UInt8) (k : Nat) : List Nat := (List.range k).map fun i => leNat (piece l (2 + 4 * i) 4)
def psOf (l : List UInt8) : List Nat := psTo l 32
theorem psTo_length (l : List UInt8) (k : Nat) : (psTo l k).length = k := by simp [psTo]
theorem psOf_length (l : List UInt8) : (psOf l).length = 32 := psTo_length l 32
theorem psOf_get (l : List UInt8) (j : Nat) (h : j < (psOf l).length) : (psOf l)[j] = leNat (piece l (2 + 4 * j) 4) := by simp [psOf, psTo]
theorem nodeTo_of (l : List UInt8) (hl : l.length = 256) : ∀ k, k ≤ 32 → nodeTo (lvOf l) (psOf l) k = piece l 1 (1 + 4 * k)
  | 0, _ => by
    rw [nodeTo_zero]
    have h := leB_leNat (piece l 1 1)
    rw [piece_length l 1 1 (by omega)] at h
    exact h
  | k + 1, hk => by
    have h := leB_leNat (piece l (2 + 4 * k) 4)
    rw [piece_length l _ 4 (by omega)] at h
    rw [nodeTo_succ _ _ _ (by rw [psOf_length]; omega), nodeTo_of l hl k (by omega), psOf_get, h, show 1 + 4 * (k + 1) = (1 + 4 * k) + 4 from by omega, piece_add l 1 (1 + 4 * k) 4, show 1 + (1 + 4 * k) = 2 + 4 * k from by omega]

theorem take_pieces (l : List UInt8) (hl : l.length = 256) : l.take 252 = l.getD 0 0 :: (piece l 1 129 ++ piece l 130 122) := by
  have h : piece l 0 (1 + (129 + 122)) = l.take 252 := by simp [piece]
  rw [← h, piece_add, piece_add]
  have h0 : piece l 0 1 = [l.getD 0 0] := by
    unfold piece
    rw [List.drop_zero, show (1 : Nat) = 0 + 1 from rfl, List.take_succ_eq_append_getElem (by omega), List.getD_eq_getElem?_getD, List.getElem?_eq_getElem (by omega)]
    rfl
  rw [h0]; rfl
theorem blank_replicate : ∀ {l : List UInt8}, blankB l = true → l = List.replicate l.length 0
  | [], _ => rfl
  | u :: l, h => by
    unfold blankB at h
    rw [List.all_cons, Bool.and_eq_true] at h
    rw [List.length_cons, List.replicate_succ, ← blank_replicate (l := l) h.2]
    rw [eq_of_beq h.1]
theorem fset (f : List UInt8) (m : UInt8) : (fblk f).set 0 m = m :: (f ++ List.replicate (255 - f.length) 0) := rfl
theorem node_iff (l : List UInt8) (hl : l.length = 256) (m : UInt8) : fdone (piece l 1 129) m = l ↔ openSt l m = some (l, 1) ∧ blankB (piece l 130 122) = true := by
  have hp := piece_length l 1 129 (by omega)
  constructor
  · intro h
    have a1 : l.getD 0 0 = m := by rw [← h]; exact fdone_first _ _
    have a2 : sealB l = l := by
      have := fdone_good (piece l 1 129) m (by omega)
      rw [h] at this; exact this
    refine ⟨if_pos ⟨a1, a2⟩, ?_⟩
    · refine blankB_piece_true l 130 122 (by omega) (fun j hj h1 h2 => ?_)
      have := fdone_zero (piece l 1 129) m j (by omega) (by omega)
      rw [h, List.getElem?_eq_getElem hj] at this
      exact Option.some.inj this
  · rintro ⟨ho, hb⟩
    unfold openSt at ho
    split at ho
    · rename_i hc
      have hq := blank_replicate hb
      rw [piece_length l 130 122 (by omega)] at hq
      unfold fdone
      refine Eq.trans (sealB_congr ?_) hc.2
      rw [take_pieces l hl, hq, hc.1, fset, hp, List.take_succ_cons, List.take_append, hp, List.take_of_length_le (by omega), List.take_replicate]
      rfl
    · cases ho

/-- is a block a node's? -/
def isN (l : List UInt8) : Bool := okN (lvOf l) (psOf l) && decide (fdone (nodeTo (lvOf l) (psOf l) 32) 78 = l)
def getLv (l : List UInt8) : Nat := if isN l = true then lvOf l else 0
def getPs (l : List UInt8) : List Nat := if isN l = true then psOf l else List.replicate 32 0
def getE (l : List UInt8) : Int := if isN l = true then 0 else 250
theorem getPs_length (l : List UInt8) : (getPs l).length = 32 := by
  unfold getPs
  split
  · exact psOf_length l
  · simp
theorem isN_eq (l : List UInt8) (hl : l.length = 256) : isN l = (okN (lvOf l) (psOf l) && (decide (openSt l 78 = some (l, 1)) && blankB (piece l 130 122))) := by
  unfold isN
  rw [nodeTo_of l hl 32 (by omega)]
  congr 1
  rw [Bool.eq_iff_iff, decide_eq_true_iff, Bool.and_eq_true, decide_eq_true_iff]
  exact node_iff l hl 78
theorem openSt_cases (l : List UInt8) (m : UInt8) : openSt l m = some (l, 1) ∨ openSt l m = none := by
  unfold openSt
  split
  · exact .inl rfl
  · exact .inr rfl

/-- the pointers of a node's bytes -/
theorem nodeTo_drop (lv : Nat) (ps : List Nat) (h : ps.length = 32) (j : Nat) (hj : j < ps.length) : ((nodeTo lv ps 32).drop (1 + 4 * j)).take 4 = leB ps[j] 4 := by
  have e : nodeTo lv ps 32 = nodeTo lv ps j ++ (leB ps[j] 4 ++ (ps.drop (j + 1)).flatMap fun n => leB n 4) := by
    unfold nodeTo
    rw [List.take_of_length_le (by omega), List.append_assoc]
    congr 1
    have h2 : ps = ps.take j ++ (ps[j] :: ps.drop (j + 1)) := by rw [← List.drop_eq_getElem_cons hj, List.take_append_drop]
    conv => lhs; rw [h2]
    rw [List.flatMap_append, List.flatMap_cons]
  rw [e, List.drop_append, nodeTo_length lv ps j (by omega), Nat.sub_self, List.drop_of_length_le (by rw [nodeTo_length lv ps j (by omega)]; omega), List.nil_append, List.drop_zero, List.take_append, leB_length, Nat.sub_self, List.take_zero, List.append_nil,
    List.take_of_length_le (by rw [leB_length]; omega)]
theorem put_ps (lv : Nat) (ps : List Nat) (h : ps.length = 32) (hs : ∀ j (hj : j < ps.length), ps[j] < 4294967296) : psOf (fdone (nodeTo lv ps 32) 78) = ps := by
  have hn := nodeTo_length lv ps 32 (by omega)
  apply List.ext_getElem
  · rw [psOf_length, h]
  · intro j h1 h2
    rw [psOf_get, show 2 + 4 * j = 1 + (1 + 4 * j) from by omega, fdone_piece _ _ _ _ (by omega) (by omega), nodeTo_drop lv ps h j h2, leNat_leB]
    have := hs j h2
    omega
theorem put_lv (lv : Nat) (ps : List Nat) (h : ps.length = 32) (hlv : lv < 256) : lvOf (fdone (nodeTo lv ps 32) 78) = lv := by
  have hn := nodeTo_length lv ps 32 (by omega)
  unfold lvOf
  have e := fdone_piece (nodeTo lv ps 32) 78 0 1 (by omega) (by omega)
  rw [Nat.add_zero, List.drop_zero] at e
  rw [e]
  have e2 : (nodeTo lv ps 32).take 1 = leB lv 1 := by
    unfold nodeTo
    rw [List.take_append, leB_length, Nat.sub_self, List.take_zero, List.append_nil, List.take_of_length_le (by rw [leB_length]; omega)]
  rw [e2, leNat_leB]
  omega
theorem okN_lt {lv : Nat} {ps : List Nat} (h : okN lv ps = true) : lv < 256 ∧ ∀ j (hj : j < ps.length), ps[j] < 4294967296 := by
  unfold okN at h
  rw [Bool.and_eq_true] at h
  have h2 : 1 ≤ lv ∧ lv ≤ 3 := of_decide_eq_true h.2
  exact ⟨by omega, fun j hj => by have := okPs_at h.1 j hj; omega⟩
/-- what is put is got back -/
theorem back {lv : Nat} {ps : List Nat} (h : ps.length = 32) (ho : okN lv ps = true) : getLv (putB lv ps) = lv ∧ getPs (putB lv ps) = ps ∧ getE (putB lv ps) = 0 := by
  obtain ⟨h1, h2⟩ := okN_lt ho
  have e : putB lv ps = fdone (nodeTo lv ps 32) 78 := if_pos ho
  have hi : isN (putB lv ps) = true := by
    unfold isN
    rw [e, put_lv lv ps h h1, put_ps lv ps h h2, ho]
    simp
  unfold getLv getPs getE
  rw [if_pos hi, if_pos hi, if_pos hi, e, put_lv lv ps h h1, put_ps lv ps h h2]
  exact ⟨rfl, rfl, rfl⟩
/-- what is got, put again, is the block -/
theorem forth {l : List UInt8} (h : getE l = 0) : putB (getLv l) (getPs l) = l ∧ putE (getLv l) (getPs l) = 0 := by
  have hi : isN l = true := by
    unfold getE at h
    split at h
    · assumption
    · cases h
  unfold getLv getPs putB putE
  rw [if_pos hi, if_pos hi]
  unfold isN at hi
  rw [Bool.and_eq_true] at hi
  rw [if_pos hi.1, if_pos hi.1]
  exact ⟨of_decide_eq_true hi.2, rfl⟩
theorem getE_cases (l : List UInt8) : getE l = 0 ∨ getE l = 250 := by unfold getE; split <;> simp
/-- blocks that are the same are the same nodes' -/
theorem putB_inj {lv lv' : Nat} {ps ps' : List Nat} (h : ps.length = 32) (h' : ps'.length = 32) (ho : okN lv ps = true) (ho' : okN lv' ps' = true) (he : putB lv ps = putB lv' ps') : lv = lv' ∧ ps = ps' := by
  have a := back h ho
  have b := back h' ho'
  rw [he] at a
  exact ⟨a.1.symm.trans b.1, a.2.1.symm.trans b.2.1⟩

def kidsOf (ps : List Nat) : List Nat := ps.filter fun n => n != 0
theorem kids_take (ps : List Nat) (k : Nat) (h : k < ps.length) : kidsOf (ps.take (k + 1)) = if ps[k] = 0 then kidsOf (ps.take k) else kidsOf (ps.take k) ++ [ps[k]] := by
  unfold kidsOf
  rw [List.take_succ_eq_append_getElem h, List.filter_append]
  by_cases h0 : ps[k] = 0
  · rw [if_pos h0]; simp [h0]
  · rw [if_neg h0]; simp [h0]
theorem kids_le (ps : List Nat) : (kidsOf ps).length ≤ ps.length := List.length_filter_le _ _

/-- the place of a page in a node of a level -/
def idx (page level : Nat) : Nat := page / 32 ^ (level - 1) % 32

end Go.Proofs.Ytmbmgncajfamiaa.Node
