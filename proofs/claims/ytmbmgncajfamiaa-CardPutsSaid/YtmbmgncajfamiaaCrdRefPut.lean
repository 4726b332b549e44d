/-
  The walks of the reference's words and Put.
-/
import Derived.Test.YtmbmgncajfamiaaCrdPut
import Derived.Test.YtmbmgncajfamiaaCrdRefMay
import Derived.Test.YtmbmgncajfamiaaFldWrites
namespace Go.Proofs.Ytmbmgncajfamiaa.Crd
open Go.RowKit RowLaw Crc Fld
set_option maxRecDepth 100000

/-- a row of a card's numbers -/
def wordsV (c : Cd) : Array Value := #[.int .u32 (c.left : Int), .int .u32 (c.right : Int), .int .u32 (c.id : Int), .int .u32 (c.parent : Int), .int .u32 (c.root : Int), .int .u32 (c.used : Int), .int .u32 (c.quota : Int)]
theorem wordsV_get (c : Cd) (j : Nat) (hj : j < (nums c).length) : (wordsV c)[j]? = some (.int .u32 ((nums c)[j] : Int)) := by
  rw [nums_length] at hj
  rcases (by omega : j = 0 ∨ j = 1 ∨ j = 2 ∨ j = 3 ∨ j = 4 ∨ j = 5 ∨ j = 6) with rfl | rfl | rfl | rfl | rfl | rfl | rfl <;> rfl
def WordsAns (c : Cd) (w : World) (e : Ending) (w' : World) : Prop :=
  ∃ q, w.heap.size ≤ q ∧ e = .returned (.slice (some ⟨q, 0, none⟩) 7 7) ∧ w'.heap[q]? = some (.cells (wordsV c) 22 (0, 0)) ∧ Below w.heap.size w w'

set_option maxHeartbeats 1600000 in
theorem words_any (c : Cd) (w : World) :
    Calls Try.prog 26 #[.agg (cells c)] w fun e w' => WordsAns c w e w' := by
  have hC := IsCd.new w c
  have hv := hC.vol
  have hzv := (zero_of_info infoV).1
  have hb : Below w.heap.size w ((w.alloc (.cells (cells c) 26)).alloc (.cells (volL c).toArray 24)) := ((Below.refl _ _).alloc (Nat.le_refl _) _).alloc (by simp) _
  have hC2 := hC.alloc (.cells (volL c).toArray 24)
  have hV : IsVol ((w.alloc (.cells (cells c) 26)).alloc (.cells (volL c).toArray 24)) (w.heap.size + 1) c := heap_alloc2_new w _ _
  have tok : True := trivial
  go_enter Try.func26, Try.ntmps26
  go_upto_region 2 with (first
    | (refine wpList_load_mid rfl 24 _ rfl w.heap.size 3 rfl (volL c) _ hv Try.underlying24 rfl (sizeVL c) ?_)
    | (have _t := tok; rw [show w.heap.size + 1 = (w.alloc (.cells (cells c) 26)).heap.size from by simp]; refine wpList_store_new rfl 24 _ _ rfl (volL c).toArray _ _ rfl rfl (sizeV c) rfl (volL_one c) ?_; clear _t tok))
  simp only [Act.put]
  rw [show (w.alloc (.cells (cells c) 26)).heap.size = w.heap.size + 1 from by simp]
  generalize (w.alloc (Obj.cells (cells c) 26)).alloc (.cells (volL c).toArray 24) = W at hC2 hV hb ⊢
  have e1 := hC2.left
  have e2 := hC2.right
  have g0 := hV.id
  have g1 := hV.parent
  have g2 := hV.root
  have g3 := hV.used
  have g4 := hV.quota
  clear hC2 hV hC hv hzv
  go_wp2
  go_ret
  exact ⟨W.heap.size, hb.size, rfl, heap_alloc_new W _, hb.alloc hb.size _⟩

theorem str_app (a b : List UInt8) : ((⟨a.toArray⟩ : ByteArray) ++ ⟨b.toArray⟩) = ⟨(a ++ b).toArray⟩ := by
  apply ByteArray.ext
  simp

set_option maxHeartbeats 1600000 in
theorem refPut_no (c : Cd) (hm : mayB c = false) (w : World) :
    Calls Try.prog 9 #[.agg (cells c)] w fun e w' => e = .returned (.tuple #[.agg (cellsOf zeros), .int .i64 5]) ∧ Below w.heap.size w w' := by
  have hzv := (zero_of_info infoBlock).1
  have hi := sizeBlock zeros zeros_length
  have hK : Kept w [(w.heap.size + 1, blockO zeros), (w.heap.size, cardO c)] ((w.alloc (.cells (cells c) 26)).alloc (.cells (cellsOf zeros) 29)) := by
    have h := ((Kept.start w).alloc (cardO c)).alloc (blockO zeros)
    rw [show (w.alloc (cardO c)).heap.size = w.heap.size + 1 from by simp] at h
    exact h
  have hcall := fun W => refMay_any c W
  rw [hm] at hcall
  go_enter Try.func9, Try.ntmps9
  go_wp2_with (refine wpList_load_row rfl 26 _ rfl (w.heap.size) rfl _ _ _ _ (hK.at_ (q := w.heap.size) (o := cardO c) (by simp)) Try.underlying26 rfl (sizeC c) ?_)
  refine (hcall _).mono ?_
  rintro e W1 ⟨rfl, hx⟩
  replace hK := hK.below hx
  clear hx
  have hR := hK.at_ (q := w.heap.size + 1) (o := blockO zeros) (by simp)
  go_wp2_with (refine wpList_store_row rfl 29 _ _ rfl _ _ rfl rfl _ _ hR hi rfl (cellsOf_one _) ?_)
  exact bodyPost_ret (results_row_tmp rfl _ _ _ _ _ _ _ rfl (setRow_heap _ _ _ _ _ _ hR) Try.underlying29 rfl hi) rfl ⟨rfl, below_row hK.bel (by omega)⟩

theorem getD_text {c : Cd} (h : c.s.size ≤ 24) : (textBytes c.s 24).getD [] = cdTo c 0 ∧ (textBytes c.s 24).isSome = true := by
  have hb : textBytes c.s 24 = some (textField c.s 24) := if_pos (decide_eq_true ⟨by omega, by omega, by omega⟩)
  rw [hb, cdTo_zero]
  exact ⟨rfl, rfl⟩

set_option maxHeartbeats 3200000 in
theorem refPut_yes (c : Cd) (hm : mayB c = true) (hf : c.Fits) (w : World) :
    Calls Try.prog 9 #[.agg (cells c)] w fun e w' => e = .returned (.tuple #[.agg (cellsOf (cdB c)), .int .i64 0]) ∧ Below w.heap.size w w' := by
  have hs := (mayB_iff.1 hm).1.2
  have hlen := cdB_length hs
  have hzv := (zero_of_info infoBlock).1
  have hi := sizeBlock _ hlen
  have hzz : (cellsOf zeros).size = (cellsOf (cdB c)).size := by rw [cellsOf_size, cellsOf_size, hlen, zeros_length]
  have hK : Kept w [(w.heap.size + 1, blockO zeros), (w.heap.size, cardO c)] ((w.alloc (.cells (cells c) 26)).alloc (.cells (cellsOf zeros) 29)) := by
    have h := ((Kept.start w).alloc (cardO c)).alloc (blockO zeros)
    rw [show (w.alloc (cardO c)).heap.size = w.heap.size + 1 from by simp] at h
    exact h
  have hcall := fun W => refMay_any c W
  rw [hm] at hcall
  have htext := fun W => refText_any c.s 24 W
  rw [(getD_text hs).1, (getD_text hs).2] at htext
  have hdone := fun W => refDone_short ⟨(cdF c).toArray⟩ (cdF c) (by simp) 67 (cdF_le hs) W
  rw [show fdone (cdF c) 67 = cdB c from rfl] at hdone
  have hcf : (⟨(cdTo c 7).toArray⟩ : ByteArray) ++ ⟨(leB (flagN c.only) 1).toArray⟩ = ⟨(cdF c).toArray⟩ := str_app _ _
  have HCF := Lib.hid hcf
  have HN := Lib.hid (fun j hj => cdTo_succ c j hj)
  have HT := Lib.hid htext
  have HL := Lib.hid (fun j hj => nums_lt hf j hj)
  have HD := Lib.hid hdone
  have HS := Lib.hid (fun j hj => cdTo_length hs j hj)
  have hFl := cdF_le hs
  generalize cdB c = B at hi hzz HD ⊢
  clear hm hf hs hlen hdone htext hcf
  go_enter Try.func9, Try.ntmps9
  go_wp2_with (refine wpList_load_row rfl 26 _ rfl (w.heap.size) rfl _ _ _ _ (hK.at_ (q := w.heap.size) (o := cardO c) (by simp)) Try.underlying26 rfl (sizeC c) ?_)
  refine (hcall _).mono ?_
  rintro e W1 ⟨rfl, hx⟩
  replace hK := hK.below hx
  clear hx hcall
  have c0 := IsCd.name (hK.at_ (q := w.heap.size) (o := cardO c) (by simp))
  go_wp2_with fail
  refine (HT.out _).mono ?_
  rintro e W2 ⟨rfl, hx⟩
  replace hK := hK.below hx
  clear hx c0
  go_wp2_with (refine wpList_load_row rfl 26 _ rfl (w.heap.size) rfl _ _ _ _ (hK.at_ (q := w.heap.size) (o := cardO c) (by simp)) Try.underlying26 rfl (sizeC c) ?_)
  refine (words_any c _).mono ?_
  rintro e W3 ⟨u, hu, rfl, hpu, hx⟩
  have hK3 : Kept w [(u, .cells (wordsV c) 22 (0, 0)), (w.heap.size + 1, blockO zeros), (w.heap.size, cardO c)] W3 := by
    have h := hK.below hx
    refine ⟨h.bel, fun y hy => ?_⟩
    rcases List.mem_cons.1 hy with rfl | hy
    · exact ⟨Nat.le_trans hK.bel.size hu, hpu⟩
    · exact h.has y hy
  clear hK hu hpu hx
  go_wp2_with fail
  go_loopw [4, 7] (fun s i wr => ∃ j : Nat, j ≤ 7 ∧ i = .int .i64 j ∧ s = .string ⟨(cdTo c j).toArray⟩ ∧ Kept w [(u, .cells (wordsV c) 22 (0, 0)), (w.heap.size + 1, blockO zeros), (w.heap.size, cardO c)] wr) (fun _ i _ => 7 - (intOf i).toNat)
  case atStart => exact ⟨0, by omega, rfl, rfl, hK3⟩
  case round =>
    clear hK3
    obtain ⟨j, hj, rfl, rfl, hK⟩ := hrel
    by_cases hlt : j < 7
    · have hjl : j < (nums c).length := hlt
      have hc : wr.cell? ⟨u, 0 + j, none⟩ = some (.int .u32 ((nums c)[j] : Int)) := (cell_of_row wr u (0 + j) _ _ _ (hK.at_ (q := u) (o := .cells (wordsV c) 22 (0, 0)) (by simp))).trans (by rw [Nat.zero_add]; exact wordsV_get c j hjl)
      rw [Nat.zero_add] at hc
      have hnx := HN.out j hjl
      have hxl := HL.out j hjl
      obtain ⟨x, hx⟩ : ∃ x, x = (nums c)[j] := ⟨_, rfl⟩
      rw [← hx] at hc hnx hxl
      clear hx
      have HNX := Lib.hid hnx; clear hnx
      have z2 : IntKind.u64.wrap (x : Int) = (x : Int) := IntWalk.u64_in _ (by omega)
      have s1 : (cdTo c j).length ≤ 100 := by rw [HS.out j (by omega)]; omega
      have s2 : (leB x 4).length ≤ 4 := by rw [leB_length]; omega
      go_wp2_with fail
      refine (refNum_any 4 x _ (by omega) (by omega)).mono ?_
      rintro e W4 ⟨rfl, hx⟩
      replace hK := hK.below hx
      clear hx hc
      go_wp2_with fail
      go_roundw
      case rel => exact ⟨j + 1, by omega, by go_num, by rw [HNX.out, ← str_app], hK⟩
      case measure => simp [intOf]; omega
    · obtain rfl : j = 7 := by omega
      have c8 := IsCd.only (hK.at_ (q := w.heap.size) (o := cardO c) (by simp))
      have s1 : (cdTo c 7).length ≤ 100 := by rw [HS.out 7 (by omega)]; omega
      generalize cdTo c 7 = T at HCF s1 ⊢
      generalize cdF c = F at HCF HD hFl
      have hnum : ∀ W : World, Calls Try.prog 27 #[.int .u64 (flagN c.only : Int), .int .i64 (1 : Int)] W fun e w' => e = .returned (.string ⟨(leB (flagN c.only) 1).toArray⟩) ∧ Below W.heap.size W w' := fun W => refNum_any 1 (flagN c.only) W (by omega) (by have := flagN_lt c.only; omega)
      have s2 : (leB (flagN c.only) 1).length ≤ 1 := by rw [leB_length]; omega
      generalize leB (flagN c.only) 1 = Y at HCF hnum s2
      cases hb : c.only with
      | false =>
        rw [hb] at c8 hnum
        rw [show ((flagN false : Nat) : Int) = 0 from rfl] at hnum
        go_wp2_with fail
        refine (hnum _).mono ?_
        rintro e W4 ⟨rfl, hx⟩
        replace hK := hK.below hx
        clear hx c8 hnum
        go_wp2_with fail
        rw [HCF.out]
        refine (HD.out _).mono ?_
        rintro e W5 ⟨rfl, hx⟩
        have hK2 := (hK.below hx).alloc (blockO B)
        clear hx hK
        have tok : True := trivial
        have hR := hK2.at_ (q := w.heap.size + 1) (o := blockO zeros) (by simp)
        have hN := hK2.at_ (q := W5.heap.size) (o := blockO B) (by simp)
        unfold blockO at hK2 hR hN
        go_wp2_with (first
          | (have _t := tok; refine wpList_store_new rfl 29 _ _ rfl (cellsOf B) _ _ rfl rfl hi hzz (cellsOf_one _) ?_; generalize W5.heap.size = q6 at hK2 hN ⊢; generalize W5.alloc (.cells (cellsOf B) 29) = W6 at hK2 hR hN ⊢; clear _t tok)
          | (refine wpList_load_row rfl 29 _ rfl q6 rfl _ _ _ _ hN Try.underlying29 rfl hi ?_)
          | (refine wpList_store_row rfl 29 _ _ rfl (w.heap.size + 1) _ rfl rfl _ _ hR hi hzz (cellsOf_one _) ?_))
        exact bodyPost_ret (results_row_tmp rfl _ _ _ _ _ _ _ rfl (setRow_heap _ _ _ _ _ _ hR) Try.underlying29 rfl hi) rfl ⟨rfl, below_row hK2.bel (by omega)⟩
      | true =>
        rw [hb] at c8 hnum
        rw [show ((flagN true : Nat) : Int) = 1 from rfl] at hnum
        go_wp2_with fail
        refine (hnum _).mono ?_
        rintro e W4 ⟨rfl, hx⟩
        replace hK := hK.below hx
        clear hx c8 hnum
        go_wp2_with fail
        rw [HCF.out]
        refine (HD.out _).mono ?_
        rintro e W5 ⟨rfl, hx⟩
        have hK2 := (hK.below hx).alloc (blockO B)
        clear hx hK
        have tok : True := trivial
        have hR := hK2.at_ (q := w.heap.size + 1) (o := blockO zeros) (by simp)
        have hN := hK2.at_ (q := W5.heap.size) (o := blockO B) (by simp)
        unfold blockO at hK2 hR hN
        go_wp2_with (first
          | (have _t := tok; refine wpList_store_new rfl 29 _ _ rfl (cellsOf B) _ _ rfl rfl hi hzz (cellsOf_one _) ?_; generalize W5.heap.size = q6 at hK2 hN ⊢; generalize W5.alloc (.cells (cellsOf B) 29) = W6 at hK2 hR hN ⊢; clear _t tok)
          | (refine wpList_load_row rfl 29 _ rfl q6 rfl _ _ _ _ hN Try.underlying29 rfl hi ?_)
          | (refine wpList_store_row rfl 29 _ _ rfl (w.heap.size + 1) _ rfl rfl _ _ hR hi hzz (cellsOf_one _) ?_))
        exact bodyPost_ret (results_row_tmp rfl _ _ _ _ _ _ _ rfl (setRow_heap _ _ _ _ _ _ hR) Try.underlying29 rfl hi) rfl ⟨rfl, below_row hK2.bel (by omega)⟩

theorem refPut_any (c : Cd) (hf : c.Fits) (w : World) :
    Calls Try.prog 9 #[.agg (cells c)] w fun e w' => e = .returned (.tuple #[.agg (cellsOf (putB c)), .int .i64 (putE c)]) ∧ Below w.heap.size w w' := by
  by_cases hm : mayB c = true
  · rw [putB_yes hm, putE_yes hm]; exact refPut_yes c hm hf w
  · rw [putB_no hm, putE_no hm]; exact refPut_no c (by simpa using hm) w

end Go.Proofs.Ytmbmgncajfamiaa.Crd
