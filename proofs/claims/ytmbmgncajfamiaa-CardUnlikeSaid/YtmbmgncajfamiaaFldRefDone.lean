/-
  The walk of the reference's Done; the bytes of items, one behind the other.
-/
import Derived.Test.YtmbmgncajfamiaaFldItems
namespace Go.Proofs.Ytmbmgncajfamiaa.Fld
open Go.RowKit RowLaw Crc
set_option maxRecDepth 100000

/-- the block of the first k bytes, its magic laid -/
def blkTo (m : UInt8) (s : List UInt8) (k : Nat) : List UInt8 := (fblk (s.take k)).set 0 m
theorem blkTo_length (m : UInt8) (s : List UInt8) (k : Nat) (h : k ≤ 255) : (blkTo m s k).length = 256 := by
  unfold blkTo
  rw [List.length_set, fblk_length]
  rw [List.length_take]; omega
theorem blkTo_zero (m : UInt8) (s : List UInt8) : blkTo m s 0 = zeros.set 0 m := rfl
theorem blkTo_set (m : UInt8) (s : List UInt8) (k : Nat) (hk : k < s.length) (h : k < 255) : (blkTo m s k).set (1 + k) s[k] = blkTo m s (k + 1) := by
  have ht : (s.take k).length = k := by rw [List.length_take]; omega
  unfold blkTo fblk
  rw [List.take_succ_eq_append_getElem hk, List.set_cons_zero, List.set_cons_zero, Nat.add_comm 1 k, List.set_cons_succ, List.set_append_right _ _ (by omega), ht, Nat.sub_self,
    show 255 - k = (255 - (k + 1)) + 1 from by omega, List.replicate_succ, List.set_cons_zero, List.length_append, ht, List.append_assoc]
  rfl

set_option maxRecDepth 100000 in
set_option maxHeartbeats 800000 in
theorem refDone_long (str : ByteArray) (m : UInt8) (hs : str.size ≤ 100000) (hlong : 251 < str.size) (w : World) :
    Calls Try.prog 28 #[.int .u8 (m.toNat : Int), .string str] w fun e w' => e = .returned (.tuple #[.agg (cellsOf zeros), .int .i64 3]) ∧ Below w.heap.size w w' := by
  have hzv := (zero_of_info infoBlock).1
  have hi := sizeBlock zeros zeros_length
  have hA := Holds.new w zeros
  have hb : Below w.heap.size w (w.alloc (.cells (cellsOf zeros) 29)) := (Below.refl _ _).alloc (Nat.le_refl _) _
  have h1 : (252 : Int) < 1 + (str.size : Int) := by omega
  go_enter Try.func28, Try.ntmps28
  go_wp2_with (refine wpList_store_new rfl 29 _ _ rfl _ _ _ rfl rfl hi rfl (cellsOf_one _) ?_; generalize w.alloc (.cells (cellsOf zeros) 29) = W at hA hb ⊢)
  exact bodyPost_ret (results_row_tmp rfl _ _ _ _ _ _ _ rfl hA Try.underlying29 rfl hi) rfl ⟨rfl, hb⟩

set_option maxRecDepth 100000 in
set_option maxHeartbeats 1600000 in
theorem refDone_short (str : ByteArray) (s : List UInt8) (hstr : str.data.toList = s) (m : UInt8) (hshort : s.length ≤ 251) (w : World) :
    Calls Try.prog 28 #[.int .u8 (m.toNat : Int), .string str] w fun e w' => e = .returned (.tuple #[.agg (cellsOf (fdone s m)), .int .i64 0]) ∧ Below w.heap.size w w' := by
  have hzv := (zero_of_info infoBlock).1
  have hi := sizeBlock zeros zeros_length
  have hsz : str.size = s.length := by rw [← hstr, Array.length_toList]; rfl
  obtain ⟨n, hn⟩ : ∃ n, n = str.size := ⟨_, rfl⟩
  have hn251 : str.size ≤ 251 := by omega
  have hZ : Holds ((w.alloc (.cells (cellsOf zeros) 29)).alloc (.cells (cellsOf zeros) 29)) (w.heap.size + 1) zeros := heap_alloc2_new w _ _
  have hA : Holds (((w.alloc (.cells (cellsOf zeros) 29)).alloc (.cells (cellsOf zeros) 29)).setRow (w.heap.size + 1) (cellsOf zeros)) w.heap.size zeros := (setRow_other _ _ _ _ (by omega)).trans ((Holds.new w zeros).alloc _)
  have hB : Holds (((w.alloc (.cells (cellsOf zeros) 29)).alloc (.cells (cellsOf zeros) 29)).setRow (w.heap.size + 1) (cellsOf zeros)) (w.heap.size + 1) zeros := setRow_heap _ _ _ _ _ _ hZ
  have hb : Below w.heap.size w (((w.alloc (.cells (cellsOf zeros) 29)).alloc (.cells (cellsOf zeros) 29)).setRow (w.heap.size + 1) (cellsOf zeros)) := (((Below.refl _ _).alloc (Nat.le_refl _) _).alloc (by simp) _).trans ⟨rfl, rfl, rfl, by simp, fun k hk => setRow_other _ _ _ _ (by omega)⟩
  have HS := Lib.hid hsz; clear hsz
  have HT := Lib.hid hstr; clear hstr
  have HN := Lib.hid hn; clear hn
  go_enter Try.func28, Try.ntmps28
  have h251 : ¬ (252 : Int) < 1 + (str.size : Int) := by omega
  go_wp2_with (refine wpList_store_row rfl 29 _ _ rfl _ _ rfl rfl _ _ hZ hi rfl (cellsOf_one _) ?_; clear hZ; generalize ((w.alloc (.cells (cellsOf zeros) 29)).alloc (.cells (cellsOf zeros) 29)).setRow (w.heap.size + 1) (cellsOf zeros) = W at hA hB hb ⊢; have cB := hB.cell 0 (by rw [zeros_length]; omega); have fB := hB.frozen 0; have hB2 := hB.set_ 0 m; have hA2 := hA.other ⟨w.heap.size + 1, 0, none⟩ (.int .u8 (m.toNat : Int)) (by simp); have hb2 := hb.setCell (p := ⟨w.heap.size + 1, 0, none⟩) (by simp) (.int .u8 (m.toNat : Int)))
  clear hA hB hb cB fB
  go_loopw [7] (fun i wr => ∃ k : Nat, k ≤ str.size ∧ i = .int .i64 k ∧ Holds wr (w.heap.size + 1) (blkTo m s k) ∧ Holds wr w.heap.size zeros ∧ Below w.heap.size w wr) (fun i _ => str.size - (intOf i).toNat)
  case atStart => exact ⟨0, by omega, rfl, hB2, hA2, hb2⟩
  case round =>
    obtain ⟨k, hk, rfl, hB3, hA3, hb3⟩ := hrel
    clear hA2 hB2 hb2
    by_cases hlt : k < str.size
    · have hsl : k < s.length := by rw [← HS.out]; exact hlt
      have hchar : s[k] = str[k] := by
        have := HT.out
        subst this
        rfl
      have hbl := blkTo_length m s k (by omega)
      have hset := blkTo_set m s k hsl (by omega)
      have hB4 := hB3.set_ (1 + k) str[k]
      rw [← hchar, hset, hchar] at hB4
      have hA4 := hA3.other ⟨w.heap.size + 1, 1 + k, none⟩ (.int .u8 (str[k].toNat : Int)) (by simp)
      have hb4 := hb3.setCell (p := ⟨w.heap.size + 1, 1 + k, none⟩) (by simp) (.int .u8 (str[k].toNat : Int))
      obtain ⟨v, c⟩ : ∃ v, wr.cell? ⟨w.heap.size + 1, 1 + k, none⟩ = some v := ⟨_, hB3.cell (1 + k) (by omega)⟩
      have f := hB3.frozen (1 + k)
      clear hset hchar hbl
      go_wp2_with fail
      go_roundw
      case rel => exact ⟨k + 1, by omega, by go_num, hB4, hA4, hb4⟩
      case measure => simp [intOf]; omega
    · obtain rfl : k = str.size := by omega
      have hfull : blkTo m s str.size = (fblk s).set 0 m := by unfold blkTo; rw [HS.out, List.take_length]
      rw [hfull] at hB3
      have hl1 : ((fblk s).set 0 m).length = 256 := by rw [List.length_set, fblk_length _ (by rw [← HS.out]; omega)]
      have hi2 := sizeBlock _ hl1
      have hi3 := sizeBlock _ (sealB_length hl1)
      have hzz : (cellsOf zeros).size = (cellsOf (sealB ((fblk s).set 0 m))).size := by rw [cellsOf_size, cellsOf_size, sealB_length hl1, zeros_length]
      have HL := Lib.hid hl1; clear hl1 hfull
      go_wp2_with (first
        | (refine wpList_load_row rfl 29 _ rfl _ rfl _ _ _ _ hB3 Try.underlying29 rfl hi2 ?_)
        | (go_at_call 16; (with_reducible refine (refSeal_any _ HL.out _).mono ?_); rintro e W3 ⟨rfl, hb5⟩; replace hA3 := hA3.below hb5 hA3.lt; replace hb3 := hb3.trans (hb5.mono hb3.size); clear hb5)
        | (refine wpList_store_row rfl 29 _ _ rfl _ _ rfl rfl _ _ hA3 hi3 hzz (cellsOf_one _) ?_))
      refine bodyPost_ret (results_row_tmp rfl _ _ _ _ _ _ _ rfl (setRow_heap W3 _ _ _ _ _ hA3) Try.underlying29 rfl hi3) rfl ⟨rfl, ?_⟩
      exact Below.trans hb3 ⟨rfl, rfl, rfl, by simp, fun k hk => setRow_other W3 _ _ _ (by omega)⟩

/-! Items, one behind the other -/
def catTo (xs : List It) (k : Nat) : List UInt8 := ((xs.take k).map fun x => (itBytes x).getD []).flatten
def mayTo (xs : List It) (k : Nat) : Bool := (xs.take k).all fun x => (itBytes x).isSome
def stTo (xs : List It) (k : Nat) : Option (List UInt8) := if mayTo xs k = true ∧ (catTo xs k).length ≤ 251 then some (catTo xs k) else none
theorem catTo_zero (xs : List It) : catTo xs 0 = [] := rfl
theorem catTo_succ (xs : List It) (k : Nat) (h : k < xs.length) : catTo xs (k + 1) = catTo xs k ++ (itBytes xs[k]).getD [] := by
  unfold catTo
  rw [List.take_succ_eq_append_getElem h, List.map_append, List.flatten_append]
  simp only [List.map_cons, List.map_nil, List.flatten_cons, List.flatten_nil, List.append_nil]
theorem mayTo_succ (xs : List It) (k : Nat) (h : k < xs.length) : mayTo xs (k + 1) = (mayTo xs k && (itBytes xs[k]).isSome) := by
  unfold mayTo
  rw [List.take_succ_eq_append_getElem h, List.all_append]
  simp
theorem stTo_succ (xs : List It) (k : Nat) (h : k < xs.length) : stTo xs (k + 1) = app (stTo xs k) (itBytes xs[k]) := by
  unfold stTo
  rw [mayTo_succ xs k h, catTo_succ xs k h]
  cases hb : itBytes xs[k] with
  | none =>
    rw [if_neg (by simp)]
    cases hs : (if mayTo xs k = true ∧ (catTo xs k).length ≤ 251 then some (catTo xs k) else none) <;> rfl
  | some bs =>
    by_cases hm : mayTo xs k = true
    · by_cases hc : (catTo xs k).length ≤ 251
      · rw [if_pos (⟨hm, hc⟩ : mayTo xs k = true ∧ (catTo xs k).length ≤ 251)]
        simp [app, hm]
      · have hl : (catTo xs k ++ (some bs).getD []).length = (catTo xs k).length + bs.length := by simp
        rw [if_neg (fun h => by rw [hl] at h; exact hc (by omega)), if_neg (fun h => hc h.2)]; rfl
    · rw [if_neg (fun h => by simp [hm] at h), if_neg (fun h => hm h.1)]; rfl
theorem itBytes_length (x : It) (bs : List UInt8) (h : itBytes x = some bs) : bs.length ≤ 201 := by
  unfold itBytes at h
  split at h
  · unfold textBytes at h
    split at h
    · rename_i hok
      cases h
      rw [textField_length _ _ hok]
      exact textSz_le _
    · cases h
  · unfold numBytes at h
    split at h
    · cases h
      rw [leB_length]
      have := numSz_le x.size
      omega
    · cases h
theorem catTo_length (xs : List It) : ∀ k, k ≤ xs.length → (catTo xs k).length ≤ 201 * k
  | 0, _ => by simp [catTo_zero]
  | k + 1, h => by
    have ih := catTo_length xs k (by omega)
    rw [catTo_succ xs k (by omega), List.length_append]
    cases hb : itBytes xs[k] with
    | none => simp; omega
    | some bs =>
      have := itBytes_length _ _ hb
      simp
      omega

end Go.Proofs.Ytmbmgncajfamiaa.Fld
