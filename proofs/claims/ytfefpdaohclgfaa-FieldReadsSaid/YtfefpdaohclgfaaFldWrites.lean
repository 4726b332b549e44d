/-
  The walk of the law FieldWrites.
-/
import Derived.Test.YtfefpdaohclgfaaFldRefDone
import Derived.Test.YtfefpdaohclgfaaFldHead
namespace Go.Proofs.Ytfefpdaohclgfaa.Fld
open Go.RowKit RowLaw Crc

/-- what Done hands back -/
def doneB (m : UInt8) : Option (List UInt8) → List UInt8
  | some f => fdone f m
  | none => zeros
def doneE : Option (List UInt8) → Int
  | some _ => 0
  | none => 3
def shortSt (f : List UInt8) : Option (List UInt8) := if f.length ≤ 251 then some f else none
theorem fdone_length (f : List UInt8) (m : UInt8) (h : f.length ≤ 251) : (fdone f m).length = 256 := sealB_length (by rw [List.length_set, fblk_length _ (by omega)])
theorem doneB_short (f : List UInt8) (m : UInt8) : (doneB m (shortSt f)).length = 256 := by
  unfold shortSt
  split
  · rename_i h; exact fdone_length f m h
  · exact zeros_length
theorem doneB_length {st : Option (List UInt8)} {w : World} {p : Nat} (h : WIs w p st) (m : UInt8) : (doneB m st).length = 256 := by
  cases st with
  | none => exact zeros_length
  | some f => exact fdone_length f m h.1
theorem Done_any (st : Option (List UInt8)) (p : Nat) (m : UInt8) (w : World) (hw : WIs w p st) :
    Calls Try.prog 25 #[.pointer (some ⟨p, 0, none⟩), .int .u8 (m.toNat : Int)] w fun e w' => e = .returned (.tuple #[.agg (cellsOf (doneB m st)), .int .i64 (doneE st)]) ∧ Below w.heap.size w w' := by
  cases st with
  | none => exact Done_none p _ w hw
  | some f => exact Done_some p f m w hw
theorem refDone_any (f : List UInt8) (hf : f.length ≤ 100000) (m : UInt8) (w : World) :
    Calls Try.prog 26 #[.int .u8 (m.toNat : Int), .string ⟨f.toArray⟩] w fun e w' => e = .returned (.tuple #[.agg (cellsOf (doneB m (shortSt f))), .int .i64 (doneE (shortSt f))]) ∧ Below w.heap.size w w' := by
  have hsz : (⟨f.toArray⟩ : ByteArray).size = f.length := by simp [ByteArray.size]
  unfold shortSt
  by_cases h : f.length ≤ 251
  · rw [if_pos h]
    exact refDone_short ⟨f.toArray⟩ f rfl m h w
  · rw [if_neg h]
    exact refDone_long ⟨f.toArray⟩ m (by omega) (by omega) w

theorem cat_app (f g : List UInt8) : ((⟨f.toArray⟩ : ByteArray) ++ ⟨g.toArray⟩) = ⟨(f ++ g).toArray⟩ := by
  apply ByteArray.ext
  simp

set_option maxRecDepth 100000 in
set_option maxHeartbeats 3200000 in
theorem writes_any (pa : Option Addr) (cap : Nat) (xs : List It) (m : UInt8) (hlen : xs.length ≤ maxLen) (w : World) (hx : Items w pa xs) :
    Calls Try.prog 7 #[.slice pa xs.length cap, .int .u8 (m.toNat : Int)] w fun e w' => e = .returned (.bool true) ∧ Below w.heap.size w w' := by
  have hgreat := great_any pa cap xs hlen w hx
  obtain ⟨n, hn⟩ : ∃ n, n = xs.length := ⟨_, rfl⟩
  rw [← hn] at hgreat ⊢
  have HG := Lib.hid hgreat; clear hgreat
  have HN := Lib.hid hn; clear hn
  have HX := Lib.hid hx; clear hx
  have hzv := (zero_of_info infoBlock).1
  go_enter Try.func7, Try.ntmps7
  go_wp2_with fail
  refine HG.out.mono ?_
  rintro e W0 ⟨⟨g, rfl, hg⟩, rfl⟩
  cases g
  · have hn100 : n ≤ 100 := hg rfl
    clear hg HG
    go_wp2_with fail
    refine (New_any W0).mono ?_
    rintro e W1 ⟨rfl, hw1, hb1⟩
    go_wp2_with fail
    go_loopw [6, 7, 8] (fun s b i wr => ∃ k : Nat, k ≤ n ∧ i = .int .i64 k ∧ s = .string ⟨(catTo xs k).toArray⟩ ∧ b = .bool (mayTo xs k) ∧ WIs wr W0.heap.size (stTo xs k) ∧ Below W0.heap.size W0 wr) (fun _ _ i _ => n - (intOf i).toNat)
    case atStart => exact ⟨0, by omega, rfl, rfl, rfl, hw1, hb1⟩
    case round =>
      obtain ⟨k, hk, rfl, rfl, rfl, hwk, hbk⟩ := hrel
      clear hw1 hb1
      by_cases hlt : k < n
      · have hkl : k < xs.length := by have := HN.out; omega
        have hx2 := HX.out.below hbk
        rcases hx2 with h0 | ⟨b, off, hpa, hbl, hc⟩
        · omega
        · obtain ⟨⟨c0, c1, c2, c3⟩, hnn, hss⟩ := hc k hkl
          clear hc hss
          subst hpa
          have hcl := catTo_length xs k (by omega)
          have hst := stTo_succ xs k hkl
          have hca := catTo_succ xs k hkl
          have hma := mayTo_succ xs k hkl
          have hib := itBytes_length xs[k]
          generalize xs[k] = x at *
          go_wp2_with fail
          refine (put_any _ _ x hnn wr hwk).mono ?_
          rintro e W2 ⟨rfl, hw2, ha2⟩
          rw [← hst] at hw2
          have hb2 := hbk.trans (ha2.below (Nat.le_refl _) hbk.size)
          have hTl : ((itBytes x).getD []).length ≤ 201 := by
            cases hq : itBytes x with
            | none => simp
            | some bs => exact hib bs hq
          have hCl : (catTo xs k).length ≤ 20100 := by omega
          have HCA := Lib.hid hca; clear hca
          have HMA := Lib.hid hma; clear hma
          clear hst hib hcl c0 c1 c2 c3
          cases hm : mayTo xs k
          all_goals
            have HM := Lib.hid hm; clear hm
            go_wp2_with fail
            go_roundw
            case rel => exact ⟨k + 1, by omega, by go_num, by rw [HCA.out, cat_app], by rw [HMA.out, HM.out]; simp, hw2, hb2⟩
            case measure => simp [intOf]; omega
      · obtain rfl : k = n := by omega
        have hcl := catTo_length xs k (by have := HN.out; omega)
        have hC : (catTo xs k).length ≤ 100000 := by omega
        have hd2 := doneB_short (catTo xs k) m
        have hg2 := fun (W : World) (op : BinOp) (x y : Operand) (xs ys : Array Value) => run_eqGuard_agg (P := Try.prog) W op 23 x y xs ys noGuard
        generalize hCe : catTo xs k = C at hC hd2 ⊢
        cases hm : mayTo xs k
        · clear hCe
          have hs0 : stTo xs k = none := by unfold stTo; rw [if_neg (by rw [hm]; simp)]
          rw [hs0] at hwk
          clear hs0 hm
          go_wp2_with fail
          refine (Done_none _ (m.toNat : Int) _ hwk).mono ?_
          rintro e W2 ⟨rfl, hx⟩
          have e1 := Holds.new W2 zeros
          replace hwk : WIs (W2.alloc (.cells (cellsOf zeros) 23)) _ _ := (hwk.below hx).of_block (Below.heap_alloc W2 _ _ (hwk.below hx).lt)
          replace hbk := (hbk.trans (hx.mono hbk.size)).alloc (Nat.le_trans hbk.size hx.size) (.cells (cellsOf zeros) 23)
          clear hx
          have tok : True := trivial
          go_wp2_with (have _t := tok; refine wpList_store_new rfl 23 _ _ rfl _ _ _ rfl rfl (sizeBlock _ zeros_length) rfl (cellsOf_one _) ?_; generalize hbn : W2.heap.size = b1 at e1 ⊢; clear hbn; generalize W2.alloc (.cells (cellsOf zeros) 23) = V1 at e1  hwk hbk ⊢; clear _t tok)
          refine (refDone_any C hC m _).mono ?_
          rintro e W2 ⟨rfl, hx⟩
          generalize doneB m (shortSt C) = B at hd2 ⊢
          generalize doneE (shortSt C) = E at ⊢
          have e2 := Holds.new W2 B
          replace e1 : Holds (W2.alloc (.cells (cellsOf B) 23)) _ _ := (e1.below hx e1.lt).alloc _
          replace hwk : WIs (W2.alloc (.cells (cellsOf B) 23)) _ _ := (hwk.below hx).of_block (Below.heap_alloc W2 _ _ (hwk.below hx).lt)
          replace hbk := (hbk.trans (hx.mono hbk.size)).alloc (Nat.le_trans hbk.size hx.size) (.cells (cellsOf B) 23)
          clear hx
          have tok : True := trivial
          go_wp2_with (have _t := tok; refine wpList_store_new rfl 23 _ _ rfl _ _ _ rfl rfl (sizeBlock _ hd2) (by rw [cellsOf_size, cellsOf_size, hd2, zeros_length]) (cellsOf_one _) ?_; generalize hbn : W2.heap.size = b2 at e2 ⊢; clear hbn; generalize W2.alloc (.cells (cellsOf B) 23) = V2 at e2 e1 hwk hbk ⊢; clear _t tok)
          refine (Done_none _ (m.toNat : Int) _ hwk).mono ?_
          rintro e W2 ⟨rfl, hx⟩
          have e3 := Holds.new W2 zeros
          replace e1 : Holds (W2.alloc (.cells (cellsOf zeros) 23)) _ _ := (e1.below hx e1.lt).alloc _
          replace e2 : Holds (W2.alloc (.cells (cellsOf zeros) 23)) _ _ := (e2.below hx e2.lt).alloc _
          replace hwk : WIs (W2.alloc (.cells (cellsOf zeros) 23)) _ _ := (hwk.below hx).of_block (Below.heap_alloc W2 _ _ (hwk.below hx).lt)
          replace hbk := (hbk.trans (hx.mono hbk.size)).alloc (Nat.le_trans hbk.size hx.size) (.cells (cellsOf zeros) 23)
          clear hx
          have he : ∀ W : World, (Op.equalIn 10000 23 (.agg (cellsOf zeros)) (.agg (cellsOf zeros))).run Try.prog W = .ok true W := fun W => by rw [run_eqBlock W zeros zeros zeros_length zeros_length]; simp
          have tok : True := trivial
          go_wp2_with (first | (have _t := tok; refine wpList_store_new rfl 23 _ _ rfl _ _ _ rfl rfl (sizeBlock _ zeros_length) rfl (cellsOf_one _) ?_; generalize hbn : W2.heap.size = b3 at e3 ⊢; clear hbn; generalize W2.alloc (.cells (cellsOf zeros) 23) = V3 at e3 e1 e2 hwk hbk ⊢; clear _t tok) | (refine wpList_load_row rfl 23 _ rfl b1 rfl _ _ _ _ e1 Try.underlying23 rfl (sizeBlock _ zeros_length) ?_))
          refine (head_any _).mono ?_
          rintro e W2 ⟨rfl, hx⟩
          go_wp2_with fail
          go_ret
          exact ⟨rfl, hbk.trans (hx.mono hbk.size)⟩
        · have hs0 : stTo xs k = shortSt C := by unfold stTo shortSt; rw [hm, hCe]; simp
          rw [hs0] at hwk
          have hDone := Done_any (shortSt C) W0.heap.size m
          clear hs0 hm
          have HDone := Lib.hid hDone; clear hDone
          have hRef := refDone_any C hC m
          generalize doneB m (shortSt C) = B at hd2 HDone hRef
          generalize doneE (shortSt C) = E at HDone hRef
          have HRef := Lib.hid hRef; clear hRef
          go_wp2_with fail
          refine (HDone.out _ hwk).mono ?_
          rintro e W2 ⟨rfl, hx⟩
          have e1 := Holds.new W2 B
          replace hwk : WIs (W2.alloc (.cells (cellsOf B) 23)) _ _ := (hwk.below hx).of_block (Below.heap_alloc W2 _ _ (hwk.below hx).lt)
          replace hbk := (hbk.trans (hx.mono hbk.size)).alloc (Nat.le_trans hbk.size hx.size) (.cells (cellsOf B) 23)
          clear hx
          have tok : True := trivial
          go_wp2_with (have _t := tok; refine wpList_store_new rfl 23 _ _ rfl _ _ _ rfl rfl (sizeBlock _ hd2) (by rw [cellsOf_size, cellsOf_size, hd2, zeros_length]) (cellsOf_one _) ?_; generalize hbn : W2.heap.size = b1 at e1 ⊢; clear hbn; generalize W2.alloc (.cells (cellsOf B) 23) = V1 at e1  hwk hbk ⊢; clear _t tok)
          refine (HRef.out _).mono ?_
          rintro e W2 ⟨rfl, hx⟩
          have e2 := Holds.new W2 B
          replace e1 : Holds (W2.alloc (.cells (cellsOf B) 23)) _ _ := (e1.below hx e1.lt).alloc _
          replace hwk : WIs (W2.alloc (.cells (cellsOf B) 23)) _ _ := (hwk.below hx).of_block (Below.heap_alloc W2 _ _ (hwk.below hx).lt)
          replace hbk := (hbk.trans (hx.mono hbk.size)).alloc (Nat.le_trans hbk.size hx.size) (.cells (cellsOf B) 23)
          clear hx
          have tok : True := trivial
          go_wp2_with (have _t := tok; refine wpList_store_new rfl 23 _ _ rfl _ _ _ rfl rfl (sizeBlock _ hd2) (by rw [cellsOf_size, cellsOf_size, hd2, zeros_length]) (cellsOf_one _) ?_; generalize hbn : W2.heap.size = b2 at e2 ⊢; clear hbn; generalize W2.alloc (.cells (cellsOf B) 23) = V2 at e2 e1 hwk hbk ⊢; clear _t tok)
          refine (HDone.out _ hwk).mono ?_
          rintro e W2 ⟨rfl, hx⟩
          have e3 := Holds.new W2 B
          replace e1 : Holds (W2.alloc (.cells (cellsOf B) 23)) _ _ := (e1.below hx e1.lt).alloc _
          replace e2 : Holds (W2.alloc (.cells (cellsOf B) 23)) _ _ := (e2.below hx e2.lt).alloc _
          replace hwk : WIs (W2.alloc (.cells (cellsOf B) 23)) _ _ := (hwk.below hx).of_block (Below.heap_alloc W2 _ _ (hwk.below hx).lt)
          replace hbk := (hbk.trans (hx.mono hbk.size)).alloc (Nat.le_trans hbk.size hx.size) (.cells (cellsOf B) 23)
          clear hx
          have he : ∀ W : World, (Op.equalIn 10000 23 (.agg (cellsOf B)) (.agg (cellsOf B))).run Try.prog W = .ok true W := fun W => by rw [run_eqBlock W B B hd2 hd2]; simp
          have hEE : (E == E) = true := by simp
          have tok : True := trivial
          go_wp2_with (first | (have _t := tok; refine wpList_store_new rfl 23 _ _ rfl _ _ _ rfl rfl (sizeBlock _ hd2) (by rw [cellsOf_size, cellsOf_size, hd2, zeros_length]) (cellsOf_one _) ?_; generalize hbn : W2.heap.size = b3 at e3 ⊢; clear hbn; generalize W2.alloc (.cells (cellsOf B) 23) = V3 at e3 e1 e2 hwk hbk ⊢; clear _t tok) | (refine wpList_load_row rfl 23 _ rfl b1 rfl _ _ _ _ e1 Try.underlying23 rfl (sizeBlock _ hd2) ?_) | (refine wpList_load_row rfl 23 _ rfl b2 rfl _ _ _ _ e2 Try.underlying23 rfl (sizeBlock _ hd2) ?_) | (refine wpList_load_want rfl 23 _ rfl b1 rfl _ _ _ _ e1 Try.underlying23 rfl (sizeBlock _ hd2) ?_) | (refine wpList_load_want rfl 23 _ rfl b3 rfl _ _ _ _ e3 Try.underlying23 rfl (sizeBlock _ hd2) ?_))
          refine (head_any _).mono ?_
          rintro e W2 ⟨rfl, hx⟩
          go_wp2_with fail
          go_ret
          exact ⟨rfl, hbk.trans (hx.mono hbk.size)⟩
  · go_wp2_with fail
    refine (head_any _).mono ?_
    rintro e W ⟨rfl, hb⟩
    go_wp2_with fail
    go_ret
    exact ⟨rfl, hb⟩

end Go.Proofs.Ytfefpdaohclgfaa.Fld
