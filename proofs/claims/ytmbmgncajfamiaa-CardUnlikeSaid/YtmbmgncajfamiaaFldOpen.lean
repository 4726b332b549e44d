/-
  The walks of End and Open.
-/
import Derived.Test.YtmbmgncajfamiaaFldReader
namespace Go.Proofs.Ytmbmgncajfamiaa.Fld
open Go.RowKit RowLaw Crc
set_option maxRecDepth 100000

theorem fine_q (st : Option (List UInt8 × Nat)) (b : Bool) (hb : st.isSome = b) (p : Nat) (w : World) (hw : RIs w p st) : Calls Try.prog 58 #[.pointer (some ⟨p, 0, none⟩)] w fun e w' => e = .returned (.bool b) ∧ w' = w :=
  (Fine_any st p w hw).mono fun _ _ ⟨he, hw'⟩ => ⟨by rw [he, hb], hw'.symm⟩

theorem blank_q (p off cap m : Nat) (bs : List UInt8) (hb : bs.length = m) (b : Bool) (hv : blankB bs = b) (hm : m ≤ 256) (w : World) (n : Nat) (hc : ∀ j (h : j < bs.length), w.cell? ⟨p, off + j, none⟩ = some (.int .u8 (bs[j].toNat : Int))) :
    Calls Try.prog 59 #[.slice (some ⟨p, off, none⟩) m cap] (w.drewN n) fun e w' => e = .returned (.bool b) ∧ w' = w.drewN n :=
  (blank_len p off cap m bs hb b hv hm (w.drewN n) hc).mono fun _ _ ⟨he, hw⟩ => ⟨he, hw.symm⟩

set_option maxHeartbeats 400000 in
theorem End_nil (w : World) : Calls Try.prog 34 #[.pointer none] w fun e w' => e = .returned (.int .i64 250) ∧ Below w.heap.size w w' := by
  go_enter Try.func34, Try.ntmps34
  go_wp2
  go_quiet ((go_at_call 58; exact Calls.quiet_of_same ((Fine_nil _).mono fun _ _ ⟨he, hw⟩ => ⟨he, hw.symm⟩)))
  go_wp2
  go_ret
  exact ⟨rfl, below_drewN w nq⟩

set_option maxHeartbeats 800000 in
theorem End_any (st : Option (List UInt8 × Nat)) (p : Nat) (w : World) (hw : RIs w p st) : Calls Try.prog 34 #[.pointer (some ⟨p, 0, none⟩)] w fun e w' => e = .returned (.int .i64 (endE st)) ∧ Below w.heap.size w w' := by
  match st, hw with
  | none, hw =>
    go_enter Try.func34, Try.ntmps34
    go_wp2
    go_quiet ((go_at_call 58; exact Calls.quiet_of_same (fine_q none false rfl p _ hw)))
    go_wp2
    go_ret
    exact ⟨rfl, below_drewN w nq⟩
  | some (l, k), hw =>
    obtain ⟨hl, hk1, hk2, ho⟩ := hw
    have hw : RIs w p (some (l, k)) := ⟨hl, hk1, hk2, ho⟩
    have hc := ho.pos hl
    have hlen := piece_length l k (252 - k) (by omega)
    have hcells : ∀ j (h : j < (piece l k (252 - k)).length), w.cell? ⟨p, k + j, none⟩ = some (.int .u8 ((piece l k (252 - k))[j].toNat : Int)) := fun j hj => by
      rw [piece_get l k (252 - k) j (by omega) hj]; exact ho.byte (k + j) (by rw [hlen] at hj; omega)
    have HC := Lib.hid hcells; clear hcells
    have HL := Lib.hid hlen; clear hlen
    have z1 : (k : Int) ≤ 252 := by omega
    have z2 : ¬ 256 = k := by omega
    have z3 : (0 : Int) ≤ (k : Int) := by omega
    rw [show endE (some (l, k)) = if blankB (piece l k (252 - k)) = true then 0 else 250 from rfl]
    cases hb : blankB (piece l k (252 - k))
    all_goals
      have HB := Lib.hid hb; clear hb
      have HW := Lib.hid hw
      clear hw hl
      go_enter Try.func34, Try.ntmps34
      go_wp2
      go_quiet ((first | (go_at_call 58; exact Calls.quiet_of_same (fine_q (some (l, k)) true rfl p _ HW.out)) | (go_at_call 59; exact Calls.quiet_of_same (blank_q p k (256 - k) (252 - k) (piece l k (252 - k)) HL.out _ HB.out (by omega) _ _ HC.out))))
      go_wp2
      go_ret
      exact ⟨rfl, below_drewN w nq⟩

/-! Open -/
theorem infoReader : (Try.prog.info? 95).map (fun i => (i.zero, i.size)) = some (some (.agg (objCells zeros 0)), 257) := by kernel_rfl
def openSt (l : List UInt8) (m : UInt8) : Option (List UInt8 × Nat) := if l.getD 0 0 = m ∧ sealB l = l then some (l, 1) else none
/-- a new reader -/
def NewReader (w : World) (st : Option (List UInt8 × Nat)) (e : Ending) (w' : World) : Prop := ∃ q, w.heap.size ≤ q ∧ e = .returned (.pointer (some ⟨q, 0, none⟩)) ∧ RIs w' q st ∧ Below w.heap.size w w'

set_option maxRecDepth 100000 in
set_option maxHeartbeats 800000 in
theorem Open_other (l : List UInt8) (hl : l.length = 256) (m : UInt8) (hm : (l.getD 0 0).toNat ≠ m.toNat) (w : World) :
    Calls Try.prog 30 #[.agg (cellsOf l), .int .u8 (m.toNat : Int)] w fun e w' => NewReader w none e w' := by
  have hzv := (zero_of_info infoReader).1
  have hA := Holds.new w l
  have hg : l.getD 0 0 = l[0] := by rw [List.getD_eq_getElem?_getD, List.getElem?_eq_getElem (by omega)]; rfl
  rw [hg] at hm
  have hc := hA.cell 0 (by omega)
  have hne : (((l[0].toNat : Int)) != (m.toNat : Int)) = true := by simp; exact_mod_cast hm
  have hlt := l[0].toNat_lt
  generalize l[0].toNat = u at hc hne hm
  have hs0 : (objCells zeros 0).setIfInBounds 256 (.int .i64 0) = objCells zeros 0 := objSet 0 0
  have HS := Lib.hid hs0; clear hs0
  go_enter Try.func30, Try.ntmps30
  go_wp2
  rw [HS.out]
  go_ret
  exact ⟨w.heap.size + 1, by omega, rfl, ⟨zeros, zeros_length, heap_alloc2_new w _ _⟩, ((Below.refl _ _).alloc (Nat.le_refl _) _).alloc (by simp) _⟩

theorem foldl_set : ∀ (L : List Value) (n : Nat) (A : Array Value) (i : Nat), ((L.zipIdx n).foldl (fun cs x => cs.setIfInBounds x.snd x.fst) A)[i]? = if n ≤ i ∧ i < n + L.length ∧ i < A.size then L[i - n]? else A[i]?
  | [], n, A, i => by
    rw [if_neg (by simp; omega)]; rfl
  | v :: L, n, A, i => by
    have ih := foldl_set L (n + 1) (A.setIfInBounds n v) i
    rw [List.zipIdx_cons, List.foldl_cons, ih]
    simp only [Array.size_setIfInBounds, List.length_cons]
    by_cases h1 : n = i
    · subst h1
      rw [if_neg (by omega)]
      by_cases h2 : n < A.size
      · rw [if_pos (by omega), Nat.sub_self]; simp [h2]
      · rw [if_neg (by omega)]; simp [h2]
    · by_cases h2 : n + 1 ≤ i ∧ i < n + 1 + L.length ∧ i < A.size
      · rw [if_pos h2, if_pos (by omega), show i - n = (i - (n + 1)) + 1 from by omega, List.getElem?_cons_succ]
      · rw [if_neg h2, if_neg (by omega), Array.getElem?_setIfInBounds_ne h1]
theorem fill_fold (l : List UInt8) (hl : l.length = 256) : Array.foldl (fun cs x => cs.setIfInBounds x.snd x.fst) (objCells zeros 0) (cellsOf l).zipIdx 0 256 = objCells l 0 := by
  have e : Array.foldl (fun (cs : Array Value) (x : Value × Nat) => cs.setIfInBounds x.snd x.fst) (objCells zeros 0) (cellsOf l).zipIdx 0 256 = ((cellsOf l).toList.zipIdx 0).foldl (fun cs x => cs.setIfInBounds x.snd x.fst) (objCells zeros 0) := by
    have := Array.foldl_toList (fun (cs : Array Value) (x : Value × Nat) => cs.setIfInBounds x.snd x.fst) (init := objCells zeros 0) (xs := (cellsOf l).zipIdx)
    rw [Array.toList_zipIdx] at this
    rw [this]
    congr 1
    simp [cellsOf_size, hl]
  rw [e]
  apply Array.ext_getElem?
  intro i
  rw [foldl_set, objCells_size, zeros_length]
  have hlen : (cellsOf l).toList.length = 256 := by simp [cellsOf, hl]
  rw [hlen]
  by_cases h : i < 256
  · rw [if_pos (by omega), objCells_byte l 0 i (by omega)]
    simp [cellsOf, h, hl]
  · rw [if_neg (by omega)]
    by_cases h6 : i = 256
    · subst h6
      rw [objCells_at zeros 0 zeros_length, objCells_at l 0 hl]
    · rw [Array.getElem?_eq_none (by rw [objCells_size, zeros_length]; omega), Array.getElem?_eq_none (by rw [objCells_size, hl]; omega)]

set_option maxRecDepth 100000 in
set_option maxHeartbeats 800000 in
theorem Open_same (l : List UInt8) (hl : l.length = 256) (m : UInt8) (hm : l.getD 0 0 = m) (good : Bool) (hgood : decide (sealB l = l) = good) (w : World) :
    Calls Try.prog 30 #[.agg (cellsOf l), .int .u8 (m.toNat : Int)] w fun e w' => NewReader w (if good = true then some (l, 1) else none) e w' := by
  have hzv := (zero_of_info infoReader).1
  have hA := Holds.new w l
  have hg : l.getD 0 0 = l[0] := by rw [List.getD_eq_getElem?_getD, List.getElem?_eq_getElem (by omega)]; rfl
  rw [hg] at hm
  have hc := hA.cell 0 (by omega)
  rw [hm] at hc
  have hne : (((m.toNat : Int)) != (m.toNat : Int)) = false := by simp
  have hlt := m.toNat_lt
  have hi := sizeBlock l hl
  have hs0 : (objCells zeros 0).setIfInBounds 256 (.int .i64 0) = objCells zeros 0 := objSet 0 0
  have HS := Lib.hid hs0; clear hs0
  have HG := Lib.hid hgood; clear hgood
  have hsz : (cellsOf l).size = 256 := by rw [cellsOf_size, hl]
  have hoz : (objCells zeros 0).size = 257 := by rw [objCells_size, zeros_length]
  have hff : (Array.foldl (fun (cs : Array Value) (x : Value × Nat) => cs.setIfInBounds x.snd x.fst) (objCells zeros 0) (cellsOf l).zipIdx 0 256).setIfInBounds 256 (.int .i64 1) = objCells l 1 := by
    rw [fill_fold l hl]; exact objCells_setAt l 0 1 hl
  have HF := Lib.hid hff; clear hff
  have hfz : (Array.foldl (fun (cs : Array Value) (x : Value × Nat) => cs.setIfInBounds x.snd x.fst) (objCells zeros 0) (cellsOf l).zipIdx 0 256).size = 257 := by rw [fill_fold l hl, objCells_size, hl]
  clear hm hg
  have HL := Lib.hid hl; clear hl
  have hb : Below w.heap.size w (w.alloc (.cells (cellsOf l) 29)) := (Below.refl _ _).alloc (Nat.le_refl _) _
  cases good
  · show Calls _ _ _ _ fun e w' => NewReader w none e w'
    go_enter Try.func30, Try.ntmps30
    go_wp2_with (first | (refine wpList_load_want rfl 29 _ rfl _ rfl _ _ _ _ hA Try.underlying29 rfl hi ?_) | (go_at_call 54; (with_reducible refine (Good_any l HL.out _).mono ?_); rw [HG.out]; rintro e W1 ⟨rfl, hb1⟩; replace hb := hb.trans (hb1.mono hb.size); replace hA := hA.below hb1 hA.lt; clear hc))
    rw [HS.out]
    go_ret
    exact ⟨W1.heap.size, hb.size, rfl, ⟨zeros, zeros_length, IsObj.new W1 _ zeros 0⟩, hb.alloc hb.size _⟩
  · show Calls _ _ _ _ fun e w' => NewReader w (some (l, 1)) e w'
    go_enter Try.func30, Try.ntmps30
    go_wp2_with (first | (refine wpList_load_want rfl 29 _ rfl _ rfl _ _ _ _ hA Try.underlying29 rfl hi ?_) | (go_at_call 54; (with_reducible refine (Good_any l HL.out _).mono ?_); rw [HG.out]; rintro e W1 ⟨rfl, hb1⟩; replace hb := hb.trans (hb1.mono hb.size); replace hA := hA.below hb1 hA.lt; clear hc) | (refine wpList_load_row rfl 29 _ rfl _ rfl _ _ _ _ hA Try.underlying29 rfl hi ?_))
    rw [HF.out]
    go_ret
    exact ⟨W1.heap.size, hb.size, rfl, ⟨HL.out, by omega, by omega, IsObj.new W1 _ l 1⟩, hb.alloc hb.size _⟩

theorem Open_any (l : List UInt8) (hl : l.length = 256) (m : UInt8) (w : World) :
    Calls Try.prog 30 #[.agg (cellsOf l), .int .u8 (m.toNat : Int)] w fun e w' => NewReader w (openSt l m) e w' := by
  by_cases hm : l.getD 0 0 = m
  · have h := Open_same l hl m hm _ rfl w
    have e : openSt l m = if decide (sealB l = l) = true then some (l, 1) else none := by
      unfold openSt
      by_cases hs : sealB l = l
      · rw [if_pos ⟨hm, hs⟩, if_pos (by simpa using hs)]
      · rw [if_neg (fun h => hs h.2), if_neg (by simpa using hs)]
    rw [e]
    exact h
  · rw [show openSt l m = none from if_neg (fun h => hm h.1)]
    exact Open_other l hl m (fun h => hm (UInt8.toNat_inj.1 h)) w

end Go.Proofs.Ytmbmgncajfamiaa.Fld
