/-
  The walk of the law FieldReads.
-/
import Derived.Test.YtfefpdaohclgfaaFldTakes
import Derived.Test.YtfefpdaohclgfaaFldBack
namespace Go.Proofs.Ytfefpdaohclgfaa.Fld
open Go.RowKit RowLaw Crc

theorem rowV_size (st : Option (List UInt8 × Nat)) (h : ROk st) : (rowV st).size = 258 := by
  match st, h with
  | none, _ => show (rowCells zeros 0 false).size = 258; rw [rowCells_size, zeros_length]
  | some (l, k), h => show (rowCells l k true).size = 258; rw [rowCells_size, (h l k rfl).1]
theorem rowV_one (st : Option (List UInt8 × Nat)) : (rowV st).all (·.oneCell') = true := by
  match st with
  | none => exact rowCells_one _ _ _
  | some (l, k) => exact rowCells_one _ _ _
theorem sizeRowV (st : Option (List UInt8 × Nat)) (h : ROk st) : (Try.prog.info? 55).map (·.size) = some (rowV st).size := by
  have := sizeRow zeros 0 false zeros_length
  rw [rowCells_size, zeros_length] at this
  rw [rowV_size st h]
  exact this

/-- block p holds a reader's state by value -/
def IsQ (w : World) (p : Nat) (st : Option (List UInt8 × Nat)) : Prop := w.heap[p]? = some (.cells (rowV st) 55 (0, 0))

/-- what a round keeps -/
def RBox (w : World) (q1 b1 : Nat) (st : Option (List UInt8 × Nat)) (W : World) : Prop := RIs W q1 st ∧ IsQ W b1 st ∧ Below w.heap.size w W
theorem IsQ.lt {W : World} {b : Nat} {st : Option (List UInt8 × Nat)} (h : IsQ W b st) : b < W.heap.size := (Array.getElem?_eq_some_iff.1 h).1
theorem RBox.below {w W W' : World} {q1 b1 : Nat} {st : Option (List UInt8 × Nat)} (h : RBox w q1 b1 st W) (hb : Below W.heap.size W W') : RBox w q1 b1 st W' := ⟨h.1.below hb, (hb.block b1 h.2.1.lt).trans h.2.1, h.2.2.trans (hb.mono h.2.2.size)⟩
theorem RBox.drew {w W : World} {q1 b1 : Nat} {st : Option (List UInt8 × Nat)} (h : RBox w q1 b1 st W) : RBox w q1 b1 st W.drew := ⟨h.1.of_block rfl, h.2.1, h.2.2.drew⟩
theorem RBox.alloc {w W : World} {q1 b1 : Nat} {st : Option (List UInt8 × Nat)} (h : RBox w q1 b1 st W) (o : Obj) : RBox w q1 b1 st (W.alloc o) := h.below ((Below.refl _ _).alloc (Nat.le_refl _) o)
theorem RBox.setRow {w W : World} {q1 b1 : Nat} {st : Option (List UInt8 × Nat)} (h : RBox w q1 b1 st W) (nb : Nat) (cs : Array Value) (h1 : nb ≠ q1) (h2 : nb ≠ b1) (h3 : w.heap.size ≤ nb) : RBox w q1 b1 st (W.setRow nb cs) :=
  ⟨h.1.of_block (setRow_other _ _ _ _ (Ne.symm h1)), (setRow_other _ _ _ _ (Ne.symm h2)).trans h.2.1, h.2.2.trans ⟨rfl, rfl, rfl, by simp, fun k hk => setRow_other _ _ _ _ (by omega)⟩⟩

theorem IsQ.fineCell {W : World} {b : Nat} {st : Option (List UInt8 × Nat)} (h : IsQ W b st) (hst : ROk st) : W.cell? ⟨b, 257, none⟩ = some (.bool st.isSome) := by
  match st, h, hst with
  | none, h, _ => exact (cell_of_row W b 257 _ _ _ h).trans (rowCells_fine zeros 0 false zeros_length)
  | some (l, k), h, hst => exact (cell_of_row W b 257 _ _ _ h).trans (rowCells_fine l k true (hst l k rfl).1)

set_option maxRecDepth 100000 in
set_option maxHeartbeats 3200000 in
theorem reads_any (l : List UInt8) (hl : l.length = 256) (m : UInt8) (pa : Option Addr) (cap : Nat) (xs : List It) (hlen : xs.length ≤ maxLen) (w : World) (hx : Items w pa xs) :
    Calls Try.prog 8 #[.agg (cellsOf l), .int .u8 (m.toNat : Int), .slice pa xs.length cap] w fun e w' => e = .returned (.bool true) ∧ Below w.heap.size w w' := by
  obtain ⟨n, hn⟩ : ∃ n, n = xs.length := ⟨_, rfl⟩
  rw [← hn] at hlen ⊢
  have HN := Lib.hid hn; clear hn
  have HX := Lib.hid hx; clear hx
  have HL := Lib.hid hl; clear hl
  by_cases hbig : 100 < n
  · go_enter Try.func8, Try.ntmps8
    go_wp2_with fail
    refine (head_any _).mono ?_
    rintro e W3 ⟨rfl, hx⟩
    go_wp2_with fail
    go_ret
    exact ⟨rfl, ((Below.refl _ _).alloc (Nat.le_refl _) _).trans (hx.mono (by simp))⟩
  · have hopen := Open_any l HL.out m
    have hropen := refOpen_any l HL.out m
    have hok0 := openSt_ok l m HL.out
    generalize openSt l m = st0 at hopen hropen hok0
    have HO := Lib.hid hopen; clear hopen
    have HRO := Lib.hid hropen; clear hropen
    have HK := Lib.hid hok0; clear hok0
    have hzr := (zero_of_info infoRow).1
    have e1 := Holds.new w l
    have hbk : Below w.heap.size w (w.alloc (.cells (cellsOf l) 23)) := (Below.refl _ _).alloc (Nat.le_refl _) _
    have hb0 : w.heap.size ≤ w.heap.size := Nat.le_refl _
    have hb1 : w.heap.size < (w.alloc (.cells (cellsOf l) 23)).heap.size := by simp
    go_enter Try.func8, Try.ntmps8
    go_wp2_with (refine wpList_load_row rfl 23 _ rfl w.heap.size rfl _ _ _ _ e1 Try.underlying23 rfl (sizeBlock _ HL.out) ?_)
    refine (HO.out _).mono ?_
    rintro e W4 ⟨q1, hq1, rfl, hr1, hx⟩
    have hbq : w.heap.size < q1 := Nat.lt_of_lt_of_le e1.lt hq1
    replace e1 := e1.below hx e1.lt
    replace hbk := hbk.trans (hx.mono hbk.size)
    clear hx hq1 HO hb1 hb0
    go_wp2_with (refine wpList_load_row rfl 23 _ rfl w.heap.size rfl _ _ _ _ e1 Try.underlying23 rfl (sizeBlock _ HL.out) ?_)
    refine (HRO.out _).mono ?_
    rintro e W5 ⟨rfl, hx⟩
    replace hr1 := hr1.below hx
    replace hbk := hbk.trans (hx.mono hbk.size)
    have hq : IsQ (W5.alloc (.cells (rowV st0) 55)) W5.heap.size st0 := heap_alloc_new W5 _
    have hqq : q1 < W5.heap.size := hr1.lt
    have hbw : w.heap.size < W5.heap.size := by omega
    replace hr1 := hr1.below ((Below.refl _ _).alloc (Nat.le_refl _) (.cells (rowV st0) 55))
    replace hbk := hbk.alloc (Nat.le_of_lt hbw) (.cells (rowV st0) 55)
    clear e1 hx HRO
    have tok : True := trivial
    go_wp2_with (have _t := tok; refine wpList_store_new rfl 55 _ _ rfl _ _ _ rfl rfl (sizeRowV _ HK.out) (by rw [rowV_size _ HK.out, rowCells_size, zeros_length]) (rowV_one _) ?_; generalize hbn : W5.heap.size = b1 at hq hqq hbw ⊢; clear hbn; generalize W5.alloc (.cells (rowV st0) 55) = V1 at hq hr1 hbk ⊢; clear _t tok)
    go_loopw [9] (fun i wr => ∃ (j : Nat) (st : Option (List UInt8 × Nat)), j ≤ n ∧ i = .int .i64 j ∧ ROk st ∧ RBox w q1 b1 st wr) (fun i _ => n - (intOf i).toNat)
    case atStart => exact ⟨0, st0, by omega, rfl, HK.out, hr1, hq, hbk⟩
    case round =>
      obtain ⟨j, st, hj, rfl, hst, hbox⟩ := hrel
      clear hr1 hq hbk
      have HS := Lib.hid hst; clear hst
      by_cases hlt : j < n
      · have hjl : j < xs.length := by have := HN.out; omega
        obtain ⟨b, off, hpa⟩ : ∃ b off, pa = some ⟨b, off, none⟩ := by
          rcases HX.out with h0 | ⟨b, off, hpa, _⟩
          · omega
          · exact ⟨b, off, hpa⟩
        have hc : ∀ W, Below w.heap.size w W → W.cell? ⟨b, off + j * 4, none⟩ = some (.bool xs[j].is) ∧ W.cell? ⟨b, off + j * 4 + 3, none⟩ = some (.int .i64 xs[j].size) := fun W hW => by
          rcases HX.out.below hW with h0 | ⟨b', off', hpa', hbl, hc⟩
          · omega
          · rw [hpa] at hpa'
            cases hpa'
            exact ⟨(hc j hjl).1.1, (hc j hjl).1.2.2.2⟩
        subst hpa
        generalize xs[j] = x at *
        obtain ⟨is, xn, xs_, size⟩ := x
        simp only at hc
        have c0 := (hc wr hbox.2.2).1
        have HC := Lib.hid (fun W hW => (hc W hW).2); clear hc
        cases is with
        | true =>
          have hS2 := takeText_ok st HS.out size
          have hT := fun W => refTakeText_any st HS.out size W
          have hR := fun W hW => RText_any st q1 size W hW
          generalize (takeText st size).2 = st' at hS2 hT hR
          generalize (⟨(takeText st size).1.toArray⟩ : ByteArray) = S1 at hT hR
          have HS2 := Lib.hid hS2; clear hS2
          have HT := Lib.hid hT; clear hT
          have HR := Lib.hid hR; clear hR
          go_wp2_with fail
          refine wp_region_noPanic ?_
          clear c0
          refine wp_region_held_drew (S := RBox w q1 b1 st) (by kernel_rfl) hbox.drew ?_
          intro hS
          replace hbox := trivial
          generalize wr = V at hS ⊢
          refine wpAnyH_take (i := 0) (v := .agg (rowV st)) rfl (by kernel_rfl) (by kernel_rfl) (by kernel_rfl) (fun _ _ _ h => (h : False).elim) (yieldsIf_load_row (by rfl) 55 _ rfl b1 rfl _ _ _ _ (fun _ h => h.2.1) Try.underlying55 rfl (sizeRowV st HS.out)) hS ?_
          change wpAnyH _ _ _ _ _ _ _ (Act.put _ (some 39) _) _
          simp only [Act.put, List.setIfInBounds_toArray, List.set_cons_succ, List.set_cons_zero]
          refine wpAnyH_take (i := 1) (v := .slice (some ⟨b, off, none⟩) n cap) rfl (by kernel_rfl) (by kernel_rfl) (by kernel_rfl) (fun _ _ _ h => (h : False).elim) (Or.inl ⟨by rfl, fun _ _ => by go_simp⟩) hS ?_
          change wpAnyH _ _ _ _ _ _ _ (Act.put _ (some 40) _) _
          simp only [Act.put, List.setIfInBounds_toArray, List.set_cons_succ, List.set_cons_zero]
          refine wpAnyH_take (i := 2) (v := .int .i64 (j : Int)) rfl (by kernel_rfl) (by kernel_rfl) (by kernel_rfl) (fun _ _ _ h => (h : False).elim) (Or.inl ⟨by rfl, fun _ _ => by go_simp⟩) hS ?_
          change wpAnyH _ _ _ _ _ _ _ (Act.put _ (some 41) _) _
          simp only [Act.put, List.setIfInBounds_toArray, List.set_cons_succ, List.set_cons_zero]
          refine wpAnyH_take (i := 3) (v := .pointer (some ⟨b, off + j * 4, none⟩)) rfl (by kernel_rfl) (by kernel_rfl) (by kernel_rfl) (fun _ _ _ h => (h : False).elim) (Or.inl ⟨by rfl, fun _ _ => by go_simp⟩) hS ?_
          change wpAnyH _ _ _ _ _ _ _ (Act.put _ (some 42) _) _
          simp only [Act.put, List.setIfInBounds_toArray, List.set_cons_succ, List.set_cons_zero]
          refine wpAnyH_take (i := 4) (v := .pointer (some ⟨b, off + j * 4 + 3, none⟩)) rfl (by kernel_rfl) (by kernel_rfl) (by kernel_rfl) (fun _ _ _ h => (h : False).elim) (Or.inl ⟨by rfl, fun _ _ => by go_simp⟩) hS ?_
          change wpAnyH _ _ _ _ _ _ _ (Act.put _ (some 43) _) _
          simp only [Act.put, List.setIfInBounds_toArray, List.set_cons_succ, List.set_cons_zero]
          refine wpAnyH_take (i := 5) (v := .int .i64 size) rfl (by kernel_rfl) (by kernel_rfl) (by kernel_rfl) (fun _ _ _ h => (h : False).elim) (Or.inl ⟨by rfl, fun w hw => by have c3 := HC.out _ hw.2.2; go_simp⟩) hS ?_
          change wpAnyH _ _ _ _ _ _ _ (Act.put _ (some 44) _) _
          simp only [Act.put, List.setIfInBounds_toArray, List.set_cons_succ, List.set_cons_zero]
          refine wpAnyH_ready (rs := [6, 10]) (by kernel_rfl) (by simp) ?_
          refine AllReadyH.cons rfl (fun K hK => ?_) (AllReadyH.cons rfl (fun K hK => ?_) AllReadyH.nil)
          · -- the call first
            rw [if_pos (by rfl)]
            go_simp
            refine (HT.out _).mono ?_
            rintro e W5 ⟨rfl, hx⟩
            replace hS := hS.below hx
            dsimp only
            refine hK.out _ _ hS (fun _ => ?_)
            clear hK K hx
            refine wpAnyH_take (i := 7) (v := .tuple #[.string S1, .agg (rowV st')]) rfl (by kernel_rfl) (by kernel_rfl) (by kernel_rfl) (fun _ _ _ h => (h : False).elim) (Or.inl ⟨by rfl, fun _ _ => by go_simp⟩) hS ?_
            change wpAnyH _ _ _ _ _ _ _ (Act.put _ (some 38) _) _
            simp only [Act.put, List.setIfInBounds_toArray, List.set_cons_succ, List.set_cons_zero]
            refine wpAnyH_take (i := 8) (v := .string S1) rfl (by kernel_rfl) (by kernel_rfl) (by kernel_rfl) (fun _ _ _ h => (h : False).elim) (Or.inl ⟨by rfl, fun _ _ => by go_simp⟩) hS ?_
            change wpAnyH _ _ _ _ _ _ _ (Act.put _ (some 46) _) _
            simp only [Act.put, List.setIfInBounds_toArray, List.set_cons_succ, List.set_cons_zero]
            refine wpAnyH_take (i := 9) (v := .agg (rowV st')) rfl (by kernel_rfl) (by kernel_rfl) (by kernel_rfl) (fun _ _ _ h => (h : False).elim) (Or.inl ⟨by rfl, fun _ _ => by go_simp⟩) hS ?_
            change wpAnyH _ _ _ _ _ _ _ (Act.put _ (some 47) _) _
            simp only [Act.put, List.setIfInBounds_toArray, List.set_cons_succ, List.set_cons_zero]
            refine wpAnyH_ready (rs := [10]) (by kernel_rfl) (by simp) ?_
            refine AllReadyH.cons rfl (fun K hK => ?_) AllReadyH.nil
            rw [if_pos (by rfl)]
            go_simp
            have hn1 : W5.heap.size ≠ q1 := by have := hS.1.lt; omega
            have hn2 : W5.heap.size ≠ b1 := by have := hS.2.1.lt; omega
            have hn3 : w.heap.size ≤ W5.heap.size := hS.2.2.size
            have hnb : (W5.alloc (.cells (rowCells zeros 0 false) 55)).heap[W5.heap.size]? = some (.cells (rowCells zeros 0 false) 55 (0, 0)) := heap_alloc_new _ _
            replace hS := hS.alloc (.cells (rowCells zeros 0 false) 55)
            refine hK.out _ _ hS (fun _ => ?_)
            clear hK K
            generalize W5.heap.size = nb at hn1 hn2 hn3 hnb ⊢
            generalize W5.alloc (.cells (rowCells zeros 0 false) 55) = W6 at hS hnb ⊢
            refine wpAnyH_take (i := 11) (v := .string S1) rfl (by kernel_rfl) (by kernel_rfl) (by kernel_rfl) (fun _ _ _ h => (h : False).elim) (Or.inl ⟨by rfl, fun _ _ => by go_simp⟩) hS ?_
            change wpAnyH _ _ _ _ _ _ _ (Act.put _ (some 11) _) _
            simp only [Act.put, List.setIfInBounds_toArray, List.set_cons_succ, List.set_cons_zero]
            refine wpAnyH_ready (rs := [12]) (by kernel_rfl) (by simp) ?_
            refine AllReadyH.cons rfl (fun K hK => ?_) AllReadyH.nil
            rw [if_pos (by rfl)]
            refine wp_store_row 55 _ _ rfl nb (rowV st') rfl rfl _ _ hnb (sizeRowV st' HS2.out) (by rw [rowV_size _ HS2.out, rowCells_size, zeros_length]) (rowV_one _) ?_
            have hq2 : IsQ (W6.setRow nb (rowV st')) nb st' := setRow_heap _ _ _ _ _ _ hnb
            replace hS := hS.setRow nb (rowV st') hn1 hn2 hn3
            generalize W6.setRow nb (rowV st') = W7 at hS hq2 ⊢
            refine hK.out _ _ hS (fun _ => ?_)
            clear hK K hnb
            refine wpAnyH_done (by kernel_rfl) ?_ _
            refine NoPanic.normal ?_
            have c3 := HC.out _ hS.2.2
            have hrS := hS.1
            go_wp2_with (first | (go_at_call 30; (with_reducible refine (HR.out _ hrS).mono ?_); rintro e W8 ⟨rfl, hr8, ha8⟩; have hq8 : IsQ W8 nb st' := (ha8.block nb hq2.lt hn1).trans hq2; have hb8 : IsQ W8 b1 st := (ha8.block b1 hS.2.1.lt (by omega)).trans hS.2.1; have hk8 : Below w.heap.size w W8 := hS.2.2.trans (ha8.below (Nat.le_of_lt hbq) hS.2.2.size); clear hS hq2 hrS c3 ha8) | (refine wpList_load_row rfl 55 _ rfl nb rfl _ _ _ _ hq8 Try.underlying55 rfl (sizeRowV st' HS2.out) ?_) | (refine wpList_store_row rfl 55 _ _ rfl b1 _ rfl rfl _ _ hb8 (sizeRowV st' HS2.out) (by rw [rowV_size _ HS2.out, rowV_size _ HS.out]) (rowV_one _) ?_; have hb9 : IsQ (W8.setRow b1 (rowV st')) b1 st' := setRow_heap _ _ _ _ _ _ hb8; have hbox9 : RBox w q1 b1 st' (W8.setRow b1 (rowV st')) := ⟨hr8.of_block (setRow_other _ _ _ _ (by omega)), hb9, hk8.trans ⟨rfl, rfl, rfl, by simp, fun k hk => setRow_other _ _ _ _ (by omega)⟩⟩; clear hb9 hr8 hk8 hb8 hq8; generalize W8.setRow b1 (rowV st') = W9 at hbox9 ⊢))
            have hF := fun W hW => Fine_any st' q1 W hW
            have hE := fun W hW => End_any st' q1 W hW
            have hRE := fun W => refEnd_any st' HS2.out W
            have hFC := fun W (hW : RBox w q1 b1 st' W) => hW.2.1.fineCell HS2.out
            generalize (st').isSome = g at hF hFC
            generalize endE st' = z at hE hRE
            have HF := Lib.hid hF; clear hF
            have HE := Lib.hid hE; clear hE
            have HRE := Lib.hid hRE; clear hRE
            have HFC := Lib.hid hFC; clear hFC
            refine wp_region_noPanic ?_
            refine wp_region_held_drew (S := RBox w q1 b1 st') (by kernel_rfl) hbox9.drew ?_
            intro hS
            generalize W9.drew = W9 at hS ⊢
            clear hbox9
            refine wpAnyH_take (i := 0) (v := .bool true) rfl (by kernel_rfl) (by kernel_rfl) (by kernel_rfl) (fun _ _ _ h => (h : False).elim) (Or.inl ⟨by rfl, fun _ _ => by go_simp⟩) hS ?_
            change wpAnyH _ _ _ _ _ _ _ (Act.put _ (some 78) _) _
            simp only [Act.put, List.setIfInBounds_toArray, List.set_cons_succ, List.set_cons_zero]
            refine wpAnyH_take (i := 1) (v := .bool false) rfl (by kernel_rfl) (by kernel_rfl) (by kernel_rfl) (fun _ _ _ h => (h : False).elim) (Or.inl ⟨by rfl, fun _ _ => by go_simp⟩) hS ?_
            change wpAnyH _ _ _ _ _ _ _ (Act.put _ (some 79) _) _
            simp only [Act.put, List.setIfInBounds_toArray, List.set_cons_succ, List.set_cons_zero]
            refine wpAnyH_take (i := 2) (v := .bool false) rfl (by kernel_rfl) (by kernel_rfl) (by kernel_rfl) (fun _ _ _ h => (h : False).elim) (Or.inl ⟨by rfl, fun _ _ => by go_simp⟩) hS ?_
            change wpAnyH _ _ _ _ _ _ _ (Act.put _ (some 80) _) _
            simp only [Act.put, List.setIfInBounds_toArray, List.set_cons_succ, List.set_cons_zero]
            refine wpAnyH_take (i := 3) (v := .pointer (some ⟨q1, 0, none⟩)) rfl (by kernel_rfl) (by kernel_rfl) (by kernel_rfl) (fun _ _ _ h => (h : False).elim) (Or.inl ⟨by rfl, fun _ _ => by go_simp⟩) hS ?_
            change wpAnyH _ _ _ _ _ _ _ (Act.put _ (some 81) _) _
            simp only [Act.put, List.setIfInBounds_toArray, List.set_cons_succ, List.set_cons_zero]
            refine wpAnyH_take (i := 5) (v := .pointer (some ⟨b1, 257, none⟩)) rfl (by kernel_rfl) (by kernel_rfl) (by kernel_rfl) (fun _ _ _ h => (h : False).elim) (Or.inl ⟨by rfl, fun _ _ => by go_simp⟩) hS ?_
            change wpAnyH _ _ _ _ _ _ _ (Act.put _ (some 83) _) _
            simp only [Act.put, List.setIfInBounds_toArray, List.set_cons_succ, List.set_cons_zero]
            refine wpAnyH_take (i := 6) (v := .bool g) rfl (by kernel_rfl) (by kernel_rfl) (by kernel_rfl) (fun _ _ _ h => (h : False).elim) (Or.inl ⟨by rfl, fun w hw => by have c7 := HFC.out _ hw; go_simp⟩) hS ?_
            change wpAnyH _ _ _ _ _ _ _ (Act.put _ (some 84) _) _
            simp only [Act.put, List.setIfInBounds_toArray, List.set_cons_succ, List.set_cons_zero]
            refine wpAnyH_ready (rs := [4]) (by kernel_rfl) (by simp) ?_
            refine AllReadyH.cons rfl (fun K hK => ?_) AllReadyH.nil
            rw [if_pos (by rfl)]
            go_simp
            refine (HF.out _ hS.1).mono ?_
            rintro e Wf ⟨rfl, rfl⟩
            dsimp only
            refine hK.out _ _ hS (fun _ => ?_)
            clear hK K
            refine wpAnyH_take (i := 7) (v := .bool false) rfl (by kernel_rfl) (by kernel_rfl) (by kernel_rfl) (fun _ _ _ h => (h : False).elim) (Or.inl ⟨by rfl, fun _ _ => by go_simp⟩) hS ?_
            change wpAnyH _ _ _ _ _ _ _ (Act.put _ (some 85) _) _
            simp only [Act.put, List.setIfInBounds_toArray, List.set_cons_succ, List.set_cons_zero]
            refine wpAnyH_take (i := 8) (v := .bool false) rfl (by kernel_rfl) (by kernel_rfl) (by kernel_rfl) (fun _ _ _ h => (h : False).elim) (Or.inl ⟨by rfl, fun _ _ => by go_simp⟩) hS ?_
            change wpAnyH _ _ _ _ _ _ _ (Act.put _ (some 86) _) _
            simp only [Act.put, List.setIfInBounds_toArray, List.set_cons_succ, List.set_cons_zero]
            refine wpAnyH_take (i := 9) (v := .bool false) rfl (by kernel_rfl) (by kernel_rfl) (by kernel_rfl) (fun _ _ _ h => (h : False).elim) (Or.inl ⟨by rfl, fun _ _ => by go_simp⟩) hS ?_
            change wpAnyH _ _ _ _ _ _ _ (Act.put _ (some 87) _) _
            simp only [Act.put, List.setIfInBounds_toArray, List.set_cons_succ, List.set_cons_zero]
            refine wpAnyH_take (i := 10) (v := .pointer (some ⟨q1, 0, none⟩)) rfl (by kernel_rfl) (by kernel_rfl) (by kernel_rfl) (fun _ _ _ h => (h : False).elim) (Or.inl ⟨by rfl, fun _ _ => by go_simp⟩) hS ?_
            change wpAnyH _ _ _ _ _ _ _ (Act.put _ (some 88) _) _
            simp only [Act.put, List.setIfInBounds_toArray, List.set_cons_succ, List.set_cons_zero]
            refine wpAnyH_take (i := 12) (v := .agg (rowV st')) rfl (by kernel_rfl) (by kernel_rfl) (by kernel_rfl) (fun _ _ _ h => (h : False).elim) (yieldsIf_load_row (by rfl) 55 _ rfl b1 rfl _ _ _ _ (fun _ h => h.2.1) Try.underlying55 rfl (sizeRowV st' HS2.out)) hS ?_
            change wpAnyH _ _ _ _ _ _ _ (Act.put _ (some 90) _) _
            simp only [Act.put, List.setIfInBounds_toArray, List.set_cons_succ, List.set_cons_zero]
            refine wpAnyH_ready (rs := [11]) (by kernel_rfl) (by simp) ?_
            refine AllReadyH.cons rfl (fun K hK => ?_) AllReadyH.nil
            rw [if_pos (by rfl)]
            go_simp
            refine (HE.out _ hS.1).mono ?_
            rintro e We ⟨rfl, hx⟩
            replace hS := hS.below hx
            clear hx
            dsimp only
            refine hK.out _ _ hS (fun _ => ?_)
            clear hK K
            refine wpAnyH_ready (rs := [13]) (by kernel_rfl) (by simp) ?_
            refine AllReadyH.cons rfl (fun K hK => ?_) AllReadyH.nil
            rw [if_pos (by rfl)]
            go_simp
            refine (HRE.out _).mono ?_
            rintro e Wg ⟨rfl, hx⟩
            replace hS := hS.below hx
            clear hx
            dsimp only
            refine hK.out _ _ hS (fun _ => ?_)
            clear hK K
            refine wpAnyH_take (i := 14) (v := .bool false) rfl (by kernel_rfl) (by kernel_rfl) (by kernel_rfl) (fun _ _ _ h => (h : False).elim) (Or.inl ⟨by rfl, fun _ _ => by go_simp⟩) hS ?_
            change wpAnyH _ _ _ _ _ _ _ (Act.put _ (some 92) _) _
            simp only [Act.put, List.setIfInBounds_toArray, List.set_cons_succ, List.set_cons_zero]
            refine wpAnyH_take (i := 15) (v := .bool false) rfl (by kernel_rfl) (by kernel_rfl) (by kernel_rfl) (fun _ _ _ h => (h : False).elim) (Or.inl ⟨by rfl, fun _ _ => by go_simp⟩) hS ?_
            change wpAnyH _ _ _ _ _ _ _ (Act.put _ (some 93) _) _
            simp only [Act.put, List.setIfInBounds_toArray, List.set_cons_succ, List.set_cons_zero]
            refine wpAnyH_done (by kernel_rfl) ?_ _
            refine NoPanic.normal ?_
            go_wp2_with fail
            go_roundw
            case rel => exact ⟨j + 1, st', by omega, by go_num, HS2.out, hS⟩
            case measure => simp [intOf]; omega
          · -- the new place first
            rw [if_pos (by rfl)]
            go_simp
            have hn1 : V.heap.size ≠ q1 := by have : q1 < V.heap.size := hS.1.lt; omega
            have hn2 : V.heap.size ≠ b1 := by have : b1 < V.heap.size := hS.2.1.lt; omega
            have hn3 : w.heap.size ≤ V.heap.size := hS.2.2.size
            have hnb : (V.alloc (.cells (rowCells zeros 0 false) 55)).drew.heap[V.heap.size]? = some (.cells (rowCells zeros 0 false) 55 (0, 0)) := heap_alloc_new V _
            replace hS : RBox w q1 b1 st (V.alloc (.cells (rowCells zeros 0 false) 55)).drew := hS.alloc (.cells (rowCells zeros 0 false) 55)
            refine hK.out _ _ hS (fun _ => ?_)
            clear hK K
            have hnl : V.heap.size < (V.alloc (.cells (rowCells zeros 0 false) 55)).drew.heap.size := by show V.heap.size < (V.alloc (.cells (rowCells zeros 0 false) 55)).heap.size; simp
            generalize V.heap.size = nb at hn1 hn2 hn3 hnb hnl ⊢
            generalize (V.alloc (.cells (rowCells zeros 0 false) 55)).drew = W5 at hS hnb hnl ⊢
            refine wpAnyH_ready (rs := [6]) (by kernel_rfl) (by simp) ?_
            refine AllReadyH.cons rfl (fun K hK => ?_) AllReadyH.nil
            rw [if_pos (by rfl)]
            go_simp
            refine (HT.out _).mono ?_
            rintro e W6 ⟨rfl, hx⟩
            replace hS := hS.below hx
            replace hnb := (hx.block nb hnl).trans hnb
            dsimp only
            refine hK.out _ _ hS (fun _ => ?_)
            clear hK K hx hnl
            refine wpAnyH_take (i := 7) (v := .tuple #[.string S1, .agg (rowV st')]) rfl (by kernel_rfl) (by kernel_rfl) (by kernel_rfl) (fun _ _ _ h => (h : False).elim) (Or.inl ⟨by rfl, fun _ _ => by go_simp⟩) hS ?_
            change wpAnyH _ _ _ _ _ _ _ (Act.put _ (some 38) _) _
            simp only [Act.put, List.setIfInBounds_toArray, List.set_cons_succ, List.set_cons_zero]
            refine wpAnyH_take (i := 8) (v := .string S1) rfl (by kernel_rfl) (by kernel_rfl) (by kernel_rfl) (fun _ _ _ h => (h : False).elim) (Or.inl ⟨by rfl, fun _ _ => by go_simp⟩) hS ?_
            change wpAnyH _ _ _ _ _ _ _ (Act.put _ (some 46) _) _
            simp only [Act.put, List.setIfInBounds_toArray, List.set_cons_succ, List.set_cons_zero]
            refine wpAnyH_take (i := 9) (v := .agg (rowV st')) rfl (by kernel_rfl) (by kernel_rfl) (by kernel_rfl) (fun _ _ _ h => (h : False).elim) (Or.inl ⟨by rfl, fun _ _ => by go_simp⟩) hS ?_
            change wpAnyH _ _ _ _ _ _ _ (Act.put _ (some 47) _) _
            simp only [Act.put, List.setIfInBounds_toArray, List.set_cons_succ, List.set_cons_zero]
            refine wpAnyH_take (i := 11) (v := .string S1) rfl (by kernel_rfl) (by kernel_rfl) (by kernel_rfl) (fun _ _ _ h => (h : False).elim) (Or.inl ⟨by rfl, fun _ _ => by go_simp⟩) hS ?_
            change wpAnyH _ _ _ _ _ _ _ (Act.put _ (some 11) _) _
            simp only [Act.put, List.setIfInBounds_toArray, List.set_cons_succ, List.set_cons_zero]
            refine wpAnyH_ready (rs := [12]) (by kernel_rfl) (by simp) ?_
            refine AllReadyH.cons rfl (fun K hK => ?_) AllReadyH.nil
            rw [if_pos (by rfl)]
            refine wp_store_row 55 _ _ rfl nb (rowV st') rfl rfl _ _ hnb (sizeRowV st' HS2.out) (by rw [rowV_size _ HS2.out, rowCells_size, zeros_length]) (rowV_one _) ?_
            have hq2 : IsQ (W6.setRow nb (rowV st')) nb st' := setRow_heap _ _ _ _ _ _ hnb
            replace hS := hS.setRow nb (rowV st') hn1 hn2 hn3
            generalize W6.setRow nb (rowV st') = W7 at hS hq2 ⊢
            refine hK.out _ _ hS (fun _ => ?_)
            clear hK K hnb
            refine wpAnyH_done (by kernel_rfl) ?_ _
            refine NoPanic.normal ?_
            have c3 := HC.out _ hS.2.2
            have hrS := hS.1
            go_wp2_with (first | (go_at_call 30; (with_reducible refine (HR.out _ hrS).mono ?_); rintro e W8 ⟨rfl, hr8, ha8⟩; have hq8 : IsQ W8 nb st' := (ha8.block nb hq2.lt hn1).trans hq2; have hb8 : IsQ W8 b1 st := (ha8.block b1 hS.2.1.lt (by omega)).trans hS.2.1; have hk8 : Below w.heap.size w W8 := hS.2.2.trans (ha8.below (Nat.le_of_lt hbq) hS.2.2.size); clear hS hq2 hrS c3 ha8) | (refine wpList_load_row rfl 55 _ rfl nb rfl _ _ _ _ hq8 Try.underlying55 rfl (sizeRowV st' HS2.out) ?_) | (refine wpList_store_row rfl 55 _ _ rfl b1 _ rfl rfl _ _ hb8 (sizeRowV st' HS2.out) (by rw [rowV_size _ HS2.out, rowV_size _ HS.out]) (rowV_one _) ?_; have hb9 : IsQ (W8.setRow b1 (rowV st')) b1 st' := setRow_heap _ _ _ _ _ _ hb8; have hbox9 : RBox w q1 b1 st' (W8.setRow b1 (rowV st')) := ⟨hr8.of_block (setRow_other _ _ _ _ (by omega)), hb9, hk8.trans ⟨rfl, rfl, rfl, by simp, fun k hk => setRow_other _ _ _ _ (by omega)⟩⟩; clear hb9 hr8 hk8 hb8 hq8; generalize W8.setRow b1 (rowV st') = W9 at hbox9 ⊢))
            have hF := fun W hW => Fine_any st' q1 W hW
            have hE := fun W hW => End_any st' q1 W hW
            have hRE := fun W => refEnd_any st' HS2.out W
            have hFC := fun W (hW : RBox w q1 b1 st' W) => hW.2.1.fineCell HS2.out
            generalize (st').isSome = g at hF hFC
            generalize endE st' = z at hE hRE
            have HF := Lib.hid hF; clear hF
            have HE := Lib.hid hE; clear hE
            have HRE := Lib.hid hRE; clear hRE
            have HFC := Lib.hid hFC; clear hFC
            refine wp_region_noPanic ?_
            refine wp_region_held_drew (S := RBox w q1 b1 st') (by kernel_rfl) hbox9.drew ?_
            intro hS
            generalize W9.drew = W9 at hS ⊢
            clear hbox9
            refine wpAnyH_take (i := 0) (v := .bool true) rfl (by kernel_rfl) (by kernel_rfl) (by kernel_rfl) (fun _ _ _ h => (h : False).elim) (Or.inl ⟨by rfl, fun _ _ => by go_simp⟩) hS ?_
            change wpAnyH _ _ _ _ _ _ _ (Act.put _ (some 78) _) _
            simp only [Act.put, List.setIfInBounds_toArray, List.set_cons_succ, List.set_cons_zero]
            refine wpAnyH_take (i := 1) (v := .bool false) rfl (by kernel_rfl) (by kernel_rfl) (by kernel_rfl) (fun _ _ _ h => (h : False).elim) (Or.inl ⟨by rfl, fun _ _ => by go_simp⟩) hS ?_
            change wpAnyH _ _ _ _ _ _ _ (Act.put _ (some 79) _) _
            simp only [Act.put, List.setIfInBounds_toArray, List.set_cons_succ, List.set_cons_zero]
            refine wpAnyH_take (i := 2) (v := .bool false) rfl (by kernel_rfl) (by kernel_rfl) (by kernel_rfl) (fun _ _ _ h => (h : False).elim) (Or.inl ⟨by rfl, fun _ _ => by go_simp⟩) hS ?_
            change wpAnyH _ _ _ _ _ _ _ (Act.put _ (some 80) _) _
            simp only [Act.put, List.setIfInBounds_toArray, List.set_cons_succ, List.set_cons_zero]
            refine wpAnyH_take (i := 3) (v := .pointer (some ⟨q1, 0, none⟩)) rfl (by kernel_rfl) (by kernel_rfl) (by kernel_rfl) (fun _ _ _ h => (h : False).elim) (Or.inl ⟨by rfl, fun _ _ => by go_simp⟩) hS ?_
            change wpAnyH _ _ _ _ _ _ _ (Act.put _ (some 81) _) _
            simp only [Act.put, List.setIfInBounds_toArray, List.set_cons_succ, List.set_cons_zero]
            refine wpAnyH_take (i := 5) (v := .pointer (some ⟨b1, 257, none⟩)) rfl (by kernel_rfl) (by kernel_rfl) (by kernel_rfl) (fun _ _ _ h => (h : False).elim) (Or.inl ⟨by rfl, fun _ _ => by go_simp⟩) hS ?_
            change wpAnyH _ _ _ _ _ _ _ (Act.put _ (some 83) _) _
            simp only [Act.put, List.setIfInBounds_toArray, List.set_cons_succ, List.set_cons_zero]
            refine wpAnyH_take (i := 6) (v := .bool g) rfl (by kernel_rfl) (by kernel_rfl) (by kernel_rfl) (fun _ _ _ h => (h : False).elim) (Or.inl ⟨by rfl, fun w hw => by have c7 := HFC.out _ hw; go_simp⟩) hS ?_
            change wpAnyH _ _ _ _ _ _ _ (Act.put _ (some 84) _) _
            simp only [Act.put, List.setIfInBounds_toArray, List.set_cons_succ, List.set_cons_zero]
            refine wpAnyH_ready (rs := [4]) (by kernel_rfl) (by simp) ?_
            refine AllReadyH.cons rfl (fun K hK => ?_) AllReadyH.nil
            rw [if_pos (by rfl)]
            go_simp
            refine (HF.out _ hS.1).mono ?_
            rintro e Wf ⟨rfl, rfl⟩
            dsimp only
            refine hK.out _ _ hS (fun _ => ?_)
            clear hK K
            refine wpAnyH_take (i := 7) (v := .bool false) rfl (by kernel_rfl) (by kernel_rfl) (by kernel_rfl) (fun _ _ _ h => (h : False).elim) (Or.inl ⟨by rfl, fun _ _ => by go_simp⟩) hS ?_
            change wpAnyH _ _ _ _ _ _ _ (Act.put _ (some 85) _) _
            simp only [Act.put, List.setIfInBounds_toArray, List.set_cons_succ, List.set_cons_zero]
            refine wpAnyH_take (i := 8) (v := .bool false) rfl (by kernel_rfl) (by kernel_rfl) (by kernel_rfl) (fun _ _ _ h => (h : False).elim) (Or.inl ⟨by rfl, fun _ _ => by go_simp⟩) hS ?_
            change wpAnyH _ _ _ _ _ _ _ (Act.put _ (some 86) _) _
            simp only [Act.put, List.setIfInBounds_toArray, List.set_cons_succ, List.set_cons_zero]
            refine wpAnyH_take (i := 9) (v := .bool false) rfl (by kernel_rfl) (by kernel_rfl) (by kernel_rfl) (fun _ _ _ h => (h : False).elim) (Or.inl ⟨by rfl, fun _ _ => by go_simp⟩) hS ?_
            change wpAnyH _ _ _ _ _ _ _ (Act.put _ (some 87) _) _
            simp only [Act.put, List.setIfInBounds_toArray, List.set_cons_succ, List.set_cons_zero]
            refine wpAnyH_take (i := 10) (v := .pointer (some ⟨q1, 0, none⟩)) rfl (by kernel_rfl) (by kernel_rfl) (by kernel_rfl) (fun _ _ _ h => (h : False).elim) (Or.inl ⟨by rfl, fun _ _ => by go_simp⟩) hS ?_
            change wpAnyH _ _ _ _ _ _ _ (Act.put _ (some 88) _) _
            simp only [Act.put, List.setIfInBounds_toArray, List.set_cons_succ, List.set_cons_zero]
            refine wpAnyH_take (i := 12) (v := .agg (rowV st')) rfl (by kernel_rfl) (by kernel_rfl) (by kernel_rfl) (fun _ _ _ h => (h : False).elim) (yieldsIf_load_row (by rfl) 55 _ rfl b1 rfl _ _ _ _ (fun _ h => h.2.1) Try.underlying55 rfl (sizeRowV st' HS2.out)) hS ?_
            change wpAnyH _ _ _ _ _ _ _ (Act.put _ (some 90) _) _
            simp only [Act.put, List.setIfInBounds_toArray, List.set_cons_succ, List.set_cons_zero]
            refine wpAnyH_ready (rs := [11]) (by kernel_rfl) (by simp) ?_
            refine AllReadyH.cons rfl (fun K hK => ?_) AllReadyH.nil
            rw [if_pos (by rfl)]
            go_simp
            refine (HE.out _ hS.1).mono ?_
            rintro e We ⟨rfl, hx⟩
            replace hS := hS.below hx
            clear hx
            dsimp only
            refine hK.out _ _ hS (fun _ => ?_)
            clear hK K
            refine wpAnyH_ready (rs := [13]) (by kernel_rfl) (by simp) ?_
            refine AllReadyH.cons rfl (fun K hK => ?_) AllReadyH.nil
            rw [if_pos (by rfl)]
            go_simp
            refine (HRE.out _).mono ?_
            rintro e Wg ⟨rfl, hx⟩
            replace hS := hS.below hx
            clear hx
            dsimp only
            refine hK.out _ _ hS (fun _ => ?_)
            clear hK K
            refine wpAnyH_take (i := 14) (v := .bool false) rfl (by kernel_rfl) (by kernel_rfl) (by kernel_rfl) (fun _ _ _ h => (h : False).elim) (Or.inl ⟨by rfl, fun _ _ => by go_simp⟩) hS ?_
            change wpAnyH _ _ _ _ _ _ _ (Act.put _ (some 92) _) _
            simp only [Act.put, List.setIfInBounds_toArray, List.set_cons_succ, List.set_cons_zero]
            refine wpAnyH_take (i := 15) (v := .bool false) rfl (by kernel_rfl) (by kernel_rfl) (by kernel_rfl) (fun _ _ _ h => (h : False).elim) (Or.inl ⟨by rfl, fun _ _ => by go_simp⟩) hS ?_
            change wpAnyH _ _ _ _ _ _ _ (Act.put _ (some 93) _) _
            simp only [Act.put, List.setIfInBounds_toArray, List.set_cons_succ, List.set_cons_zero]
            refine wpAnyH_done (by kernel_rfl) ?_ _
            refine NoPanic.normal ?_
            go_wp2_with fail
            go_roundw
            case rel => exact ⟨j + 1, st', by omega, by go_num, HS2.out, hS⟩
            case measure => simp [intOf]; omega
        | false =>
          have hS2 := takeNum_ok st HS.out size
          have hT := fun W => refTakeNum_any st HS.out size W
          have hR := fun W hW => RNum_any st q1 size W hW
          generalize (takeNum st size).2 = st' at hS2 hT hR
          generalize (takeNum st size).1 = N1 at hT hR
          have HS2 := Lib.hid hS2; clear hS2
          have HT := Lib.hid hT; clear hT
          have HR := Lib.hid hR; clear hR
          go_wp2_with fail
          refine wp_region_noPanic ?_
          clear c0
          refine wp_region_held_drew (S := RBox w q1 b1 st) (by kernel_rfl) hbox.drew ?_
          intro hS
          replace hbox := trivial
          generalize wr = V at hS ⊢
          refine wpAnyH_take (i := 0) (v := .agg (rowV st)) rfl (by kernel_rfl) (by kernel_rfl) (by kernel_rfl) (fun _ _ _ h => (h : False).elim) (yieldsIf_load_row (by rfl) 55 _ rfl b1 rfl _ _ _ _ (fun _ h => h.2.1) Try.underlying55 rfl (sizeRowV st HS.out)) hS ?_
          change wpAnyH _ _ _ _ _ _ _ (Act.put _ (some 59) _) _
          simp only [Act.put, List.setIfInBounds_toArray, List.set_cons_succ, List.set_cons_zero]
          refine wpAnyH_take (i := 1) (v := .slice (some ⟨b, off, none⟩) n cap) rfl (by kernel_rfl) (by kernel_rfl) (by kernel_rfl) (fun _ _ _ h => (h : False).elim) (Or.inl ⟨by rfl, fun _ _ => by go_simp⟩) hS ?_
          change wpAnyH _ _ _ _ _ _ _ (Act.put _ (some 60) _) _
          simp only [Act.put, List.setIfInBounds_toArray, List.set_cons_succ, List.set_cons_zero]
          refine wpAnyH_take (i := 2) (v := .int .i64 (j : Int)) rfl (by kernel_rfl) (by kernel_rfl) (by kernel_rfl) (fun _ _ _ h => (h : False).elim) (Or.inl ⟨by rfl, fun _ _ => by go_simp⟩) hS ?_
          change wpAnyH _ _ _ _ _ _ _ (Act.put _ (some 61) _) _
          simp only [Act.put, List.setIfInBounds_toArray, List.set_cons_succ, List.set_cons_zero]
          refine wpAnyH_take (i := 3) (v := .pointer (some ⟨b, off + j * 4, none⟩)) rfl (by kernel_rfl) (by kernel_rfl) (by kernel_rfl) (fun _ _ _ h => (h : False).elim) (Or.inl ⟨by rfl, fun _ _ => by go_simp⟩) hS ?_
          change wpAnyH _ _ _ _ _ _ _ (Act.put _ (some 62) _) _
          simp only [Act.put, List.setIfInBounds_toArray, List.set_cons_succ, List.set_cons_zero]
          refine wpAnyH_take (i := 4) (v := .pointer (some ⟨b, off + j * 4 + 3, none⟩)) rfl (by kernel_rfl) (by kernel_rfl) (by kernel_rfl) (fun _ _ _ h => (h : False).elim) (Or.inl ⟨by rfl, fun _ _ => by go_simp⟩) hS ?_
          change wpAnyH _ _ _ _ _ _ _ (Act.put _ (some 63) _) _
          simp only [Act.put, List.setIfInBounds_toArray, List.set_cons_succ, List.set_cons_zero]
          refine wpAnyH_take (i := 5) (v := .int .i64 size) rfl (by kernel_rfl) (by kernel_rfl) (by kernel_rfl) (fun _ _ _ h => (h : False).elim) (Or.inl ⟨by rfl, fun w hw => by have c3 := HC.out _ hw.2.2; go_simp⟩) hS ?_
          change wpAnyH _ _ _ _ _ _ _ (Act.put _ (some 64) _) _
          simp only [Act.put, List.setIfInBounds_toArray, List.set_cons_succ, List.set_cons_zero]
          refine wpAnyH_ready (rs := [6, 10]) (by kernel_rfl) (by simp) ?_
          refine AllReadyH.cons rfl (fun K hK => ?_) (AllReadyH.cons rfl (fun K hK => ?_) AllReadyH.nil)
          · -- the call first
            rw [if_pos (by rfl)]
            go_simp
            refine (HT.out _).mono ?_
            rintro e W5 ⟨rfl, hx⟩
            replace hS := hS.below hx
            dsimp only
            refine hK.out _ _ hS (fun _ => ?_)
            clear hK K hx
            refine wpAnyH_take (i := 7) (v := .tuple #[.int .u64 (N1 : Int), .agg (rowV st')]) rfl (by kernel_rfl) (by kernel_rfl) (by kernel_rfl) (fun _ _ _ h => (h : False).elim) (Or.inl ⟨by rfl, fun _ _ => by go_simp⟩) hS ?_
            change wpAnyH _ _ _ _ _ _ _ (Act.put _ (some 58) _) _
            simp only [Act.put, List.setIfInBounds_toArray, List.set_cons_succ, List.set_cons_zero]
            refine wpAnyH_take (i := 8) (v := .int .u64 (N1 : Int)) rfl (by kernel_rfl) (by kernel_rfl) (by kernel_rfl) (fun _ _ _ h => (h : False).elim) (Or.inl ⟨by rfl, fun _ _ => by go_simp⟩) hS ?_
            change wpAnyH _ _ _ _ _ _ _ (Act.put _ (some 66) _) _
            simp only [Act.put, List.setIfInBounds_toArray, List.set_cons_succ, List.set_cons_zero]
            refine wpAnyH_take (i := 9) (v := .agg (rowV st')) rfl (by kernel_rfl) (by kernel_rfl) (by kernel_rfl) (fun _ _ _ h => (h : False).elim) (Or.inl ⟨by rfl, fun _ _ => by go_simp⟩) hS ?_
            change wpAnyH _ _ _ _ _ _ _ (Act.put _ (some 67) _) _
            simp only [Act.put, List.setIfInBounds_toArray, List.set_cons_succ, List.set_cons_zero]
            refine wpAnyH_ready (rs := [10]) (by kernel_rfl) (by simp) ?_
            refine AllReadyH.cons rfl (fun K hK => ?_) AllReadyH.nil
            rw [if_pos (by rfl)]
            go_simp
            have hn1 : W5.heap.size ≠ q1 := by have := hS.1.lt; omega
            have hn2 : W5.heap.size ≠ b1 := by have := hS.2.1.lt; omega
            have hn3 : w.heap.size ≤ W5.heap.size := hS.2.2.size
            have hnb : (W5.alloc (.cells (rowCells zeros 0 false) 55)).heap[W5.heap.size]? = some (.cells (rowCells zeros 0 false) 55 (0, 0)) := heap_alloc_new _ _
            replace hS := hS.alloc (.cells (rowCells zeros 0 false) 55)
            refine hK.out _ _ hS (fun _ => ?_)
            clear hK K
            generalize W5.heap.size = nb at hn1 hn2 hn3 hnb ⊢
            generalize W5.alloc (.cells (rowCells zeros 0 false) 55) = W6 at hS hnb ⊢
            refine wpAnyH_take (i := 11) (v := .int .u64 (N1 : Int)) rfl (by kernel_rfl) (by kernel_rfl) (by kernel_rfl) (fun _ _ _ h => (h : False).elim) (Or.inl ⟨by rfl, fun _ _ => by go_simp⟩) hS ?_
            change wpAnyH _ _ _ _ _ _ _ (Act.put _ (some 13) _) _
            simp only [Act.put, List.setIfInBounds_toArray, List.set_cons_succ, List.set_cons_zero]
            refine wpAnyH_ready (rs := [12]) (by kernel_rfl) (by simp) ?_
            refine AllReadyH.cons rfl (fun K hK => ?_) AllReadyH.nil
            rw [if_pos (by rfl)]
            refine wp_store_row 55 _ _ rfl nb (rowV st') rfl rfl _ _ hnb (sizeRowV st' HS2.out) (by rw [rowV_size _ HS2.out, rowCells_size, zeros_length]) (rowV_one _) ?_
            have hq2 : IsQ (W6.setRow nb (rowV st')) nb st' := setRow_heap _ _ _ _ _ _ hnb
            replace hS := hS.setRow nb (rowV st') hn1 hn2 hn3
            generalize W6.setRow nb (rowV st') = W7 at hS hq2 ⊢
            refine hK.out _ _ hS (fun _ => ?_)
            clear hK K hnb
            refine wpAnyH_done (by kernel_rfl) ?_ _
            refine NoPanic.normal ?_
            have c3 := HC.out _ hS.2.2
            have hrS := hS.1
            go_wp2_with (first | (go_at_call 32; (with_reducible refine (HR.out _ hrS).mono ?_); rintro e W8 ⟨rfl, hr8, ha8⟩; have hq8 : IsQ W8 nb st' := (ha8.block nb hq2.lt hn1).trans hq2; have hb8 : IsQ W8 b1 st := (ha8.block b1 hS.2.1.lt (by omega)).trans hS.2.1; have hk8 : Below w.heap.size w W8 := hS.2.2.trans (ha8.below (Nat.le_of_lt hbq) hS.2.2.size); clear hS hq2 hrS c3 ha8) | (refine wpList_load_row rfl 55 _ rfl nb rfl _ _ _ _ hq8 Try.underlying55 rfl (sizeRowV st' HS2.out) ?_) | (refine wpList_store_row rfl 55 _ _ rfl b1 _ rfl rfl _ _ hb8 (sizeRowV st' HS2.out) (by rw [rowV_size _ HS2.out, rowV_size _ HS.out]) (rowV_one _) ?_; have hb9 : IsQ (W8.setRow b1 (rowV st')) b1 st' := setRow_heap _ _ _ _ _ _ hb8; have hbox9 : RBox w q1 b1 st' (W8.setRow b1 (rowV st')) := ⟨hr8.of_block (setRow_other _ _ _ _ (by omega)), hb9, hk8.trans ⟨rfl, rfl, rfl, by simp, fun k hk => setRow_other _ _ _ _ (by omega)⟩⟩; clear hb9 hr8 hk8 hb8 hq8; generalize W8.setRow b1 (rowV st') = W9 at hbox9 ⊢))
            have hF := fun W hW => Fine_any st' q1 W hW
            have hE := fun W hW => End_any st' q1 W hW
            have hRE := fun W => refEnd_any st' HS2.out W
            have hFC := fun W (hW : RBox w q1 b1 st' W) => hW.2.1.fineCell HS2.out
            generalize (st').isSome = g at hF hFC
            generalize endE st' = z at hE hRE
            have HF := Lib.hid hF; clear hF
            have HE := Lib.hid hE; clear hE
            have HRE := Lib.hid hRE; clear hRE
            have HFC := Lib.hid hFC; clear hFC
            refine wp_region_noPanic ?_
            refine wp_region_held_drew (S := RBox w q1 b1 st') (by kernel_rfl) hbox9.drew ?_
            intro hS
            generalize W9.drew = W9 at hS ⊢
            clear hbox9
            refine wpAnyH_take (i := 0) (v := .bool true) rfl (by kernel_rfl) (by kernel_rfl) (by kernel_rfl) (fun _ _ _ h => (h : False).elim) (Or.inl ⟨by rfl, fun _ _ => by go_simp⟩) hS ?_
            change wpAnyH _ _ _ _ _ _ _ (Act.put _ (some 78) _) _
            simp only [Act.put, List.setIfInBounds_toArray, List.set_cons_succ, List.set_cons_zero]
            refine wpAnyH_take (i := 1) (v := .bool false) rfl (by kernel_rfl) (by kernel_rfl) (by kernel_rfl) (fun _ _ _ h => (h : False).elim) (Or.inl ⟨by rfl, fun _ _ => by go_simp⟩) hS ?_
            change wpAnyH _ _ _ _ _ _ _ (Act.put _ (some 79) _) _
            simp only [Act.put, List.setIfInBounds_toArray, List.set_cons_succ, List.set_cons_zero]
            refine wpAnyH_take (i := 2) (v := .bool false) rfl (by kernel_rfl) (by kernel_rfl) (by kernel_rfl) (fun _ _ _ h => (h : False).elim) (Or.inl ⟨by rfl, fun _ _ => by go_simp⟩) hS ?_
            change wpAnyH _ _ _ _ _ _ _ (Act.put _ (some 80) _) _
            simp only [Act.put, List.setIfInBounds_toArray, List.set_cons_succ, List.set_cons_zero]
            refine wpAnyH_take (i := 3) (v := .pointer (some ⟨q1, 0, none⟩)) rfl (by kernel_rfl) (by kernel_rfl) (by kernel_rfl) (fun _ _ _ h => (h : False).elim) (Or.inl ⟨by rfl, fun _ _ => by go_simp⟩) hS ?_
            change wpAnyH _ _ _ _ _ _ _ (Act.put _ (some 81) _) _
            simp only [Act.put, List.setIfInBounds_toArray, List.set_cons_succ, List.set_cons_zero]
            refine wpAnyH_take (i := 5) (v := .pointer (some ⟨b1, 257, none⟩)) rfl (by kernel_rfl) (by kernel_rfl) (by kernel_rfl) (fun _ _ _ h => (h : False).elim) (Or.inl ⟨by rfl, fun _ _ => by go_simp⟩) hS ?_
            change wpAnyH _ _ _ _ _ _ _ (Act.put _ (some 83) _) _
            simp only [Act.put, List.setIfInBounds_toArray, List.set_cons_succ, List.set_cons_zero]
            refine wpAnyH_take (i := 6) (v := .bool g) rfl (by kernel_rfl) (by kernel_rfl) (by kernel_rfl) (fun _ _ _ h => (h : False).elim) (Or.inl ⟨by rfl, fun w hw => by have c7 := HFC.out _ hw; go_simp⟩) hS ?_
            change wpAnyH _ _ _ _ _ _ _ (Act.put _ (some 84) _) _
            simp only [Act.put, List.setIfInBounds_toArray, List.set_cons_succ, List.set_cons_zero]
            refine wpAnyH_ready (rs := [4]) (by kernel_rfl) (by simp) ?_
            refine AllReadyH.cons rfl (fun K hK => ?_) AllReadyH.nil
            rw [if_pos (by rfl)]
            go_simp
            refine (HF.out _ hS.1).mono ?_
            rintro e Wf ⟨rfl, rfl⟩
            dsimp only
            refine hK.out _ _ hS (fun _ => ?_)
            clear hK K
            refine wpAnyH_take (i := 7) (v := .bool false) rfl (by kernel_rfl) (by kernel_rfl) (by kernel_rfl) (fun _ _ _ h => (h : False).elim) (Or.inl ⟨by rfl, fun _ _ => by go_simp⟩) hS ?_
            change wpAnyH _ _ _ _ _ _ _ (Act.put _ (some 85) _) _
            simp only [Act.put, List.setIfInBounds_toArray, List.set_cons_succ, List.set_cons_zero]
            refine wpAnyH_take (i := 8) (v := .bool false) rfl (by kernel_rfl) (by kernel_rfl) (by kernel_rfl) (fun _ _ _ h => (h : False).elim) (Or.inl ⟨by rfl, fun _ _ => by go_simp⟩) hS ?_
            change wpAnyH _ _ _ _ _ _ _ (Act.put _ (some 86) _) _
            simp only [Act.put, List.setIfInBounds_toArray, List.set_cons_succ, List.set_cons_zero]
            refine wpAnyH_take (i := 9) (v := .bool false) rfl (by kernel_rfl) (by kernel_rfl) (by kernel_rfl) (fun _ _ _ h => (h : False).elim) (Or.inl ⟨by rfl, fun _ _ => by go_simp⟩) hS ?_
            change wpAnyH _ _ _ _ _ _ _ (Act.put _ (some 87) _) _
            simp only [Act.put, List.setIfInBounds_toArray, List.set_cons_succ, List.set_cons_zero]
            refine wpAnyH_take (i := 10) (v := .pointer (some ⟨q1, 0, none⟩)) rfl (by kernel_rfl) (by kernel_rfl) (by kernel_rfl) (fun _ _ _ h => (h : False).elim) (Or.inl ⟨by rfl, fun _ _ => by go_simp⟩) hS ?_
            change wpAnyH _ _ _ _ _ _ _ (Act.put _ (some 88) _) _
            simp only [Act.put, List.setIfInBounds_toArray, List.set_cons_succ, List.set_cons_zero]
            refine wpAnyH_take (i := 12) (v := .agg (rowV st')) rfl (by kernel_rfl) (by kernel_rfl) (by kernel_rfl) (fun _ _ _ h => (h : False).elim) (yieldsIf_load_row (by rfl) 55 _ rfl b1 rfl _ _ _ _ (fun _ h => h.2.1) Try.underlying55 rfl (sizeRowV st' HS2.out)) hS ?_
            change wpAnyH _ _ _ _ _ _ _ (Act.put _ (some 90) _) _
            simp only [Act.put, List.setIfInBounds_toArray, List.set_cons_succ, List.set_cons_zero]
            refine wpAnyH_ready (rs := [11]) (by kernel_rfl) (by simp) ?_
            refine AllReadyH.cons rfl (fun K hK => ?_) AllReadyH.nil
            rw [if_pos (by rfl)]
            go_simp
            refine (HE.out _ hS.1).mono ?_
            rintro e We ⟨rfl, hx⟩
            replace hS := hS.below hx
            clear hx
            dsimp only
            refine hK.out _ _ hS (fun _ => ?_)
            clear hK K
            refine wpAnyH_ready (rs := [13]) (by kernel_rfl) (by simp) ?_
            refine AllReadyH.cons rfl (fun K hK => ?_) AllReadyH.nil
            rw [if_pos (by rfl)]
            go_simp
            refine (HRE.out _).mono ?_
            rintro e Wg ⟨rfl, hx⟩
            replace hS := hS.below hx
            clear hx
            dsimp only
            refine hK.out _ _ hS (fun _ => ?_)
            clear hK K
            refine wpAnyH_take (i := 14) (v := .bool false) rfl (by kernel_rfl) (by kernel_rfl) (by kernel_rfl) (fun _ _ _ h => (h : False).elim) (Or.inl ⟨by rfl, fun _ _ => by go_simp⟩) hS ?_
            change wpAnyH _ _ _ _ _ _ _ (Act.put _ (some 92) _) _
            simp only [Act.put, List.setIfInBounds_toArray, List.set_cons_succ, List.set_cons_zero]
            refine wpAnyH_take (i := 15) (v := .bool false) rfl (by kernel_rfl) (by kernel_rfl) (by kernel_rfl) (fun _ _ _ h => (h : False).elim) (Or.inl ⟨by rfl, fun _ _ => by go_simp⟩) hS ?_
            change wpAnyH _ _ _ _ _ _ _ (Act.put _ (some 93) _) _
            simp only [Act.put, List.setIfInBounds_toArray, List.set_cons_succ, List.set_cons_zero]
            refine wpAnyH_done (by kernel_rfl) ?_ _
            refine NoPanic.normal ?_
            go_wp2_with fail
            go_roundw
            case rel => exact ⟨j + 1, st', by omega, by go_num, HS2.out, hS⟩
            case measure => simp [intOf]; omega
          · -- the new place first
            rw [if_pos (by rfl)]
            go_simp
            have hn1 : V.heap.size ≠ q1 := by have : q1 < V.heap.size := hS.1.lt; omega
            have hn2 : V.heap.size ≠ b1 := by have : b1 < V.heap.size := hS.2.1.lt; omega
            have hn3 : w.heap.size ≤ V.heap.size := hS.2.2.size
            have hnb : (V.alloc (.cells (rowCells zeros 0 false) 55)).drew.heap[V.heap.size]? = some (.cells (rowCells zeros 0 false) 55 (0, 0)) := heap_alloc_new V _
            replace hS : RBox w q1 b1 st (V.alloc (.cells (rowCells zeros 0 false) 55)).drew := hS.alloc (.cells (rowCells zeros 0 false) 55)
            refine hK.out _ _ hS (fun _ => ?_)
            clear hK K
            have hnl : V.heap.size < (V.alloc (.cells (rowCells zeros 0 false) 55)).drew.heap.size := by show V.heap.size < (V.alloc (.cells (rowCells zeros 0 false) 55)).heap.size; simp
            generalize V.heap.size = nb at hn1 hn2 hn3 hnb hnl ⊢
            generalize (V.alloc (.cells (rowCells zeros 0 false) 55)).drew = W5 at hS hnb hnl ⊢
            refine wpAnyH_ready (rs := [6]) (by kernel_rfl) (by simp) ?_
            refine AllReadyH.cons rfl (fun K hK => ?_) AllReadyH.nil
            rw [if_pos (by rfl)]
            go_simp
            refine (HT.out _).mono ?_
            rintro e W6 ⟨rfl, hx⟩
            replace hS := hS.below hx
            replace hnb := (hx.block nb hnl).trans hnb
            dsimp only
            refine hK.out _ _ hS (fun _ => ?_)
            clear hK K hx hnl
            refine wpAnyH_take (i := 7) (v := .tuple #[.int .u64 (N1 : Int), .agg (rowV st')]) rfl (by kernel_rfl) (by kernel_rfl) (by kernel_rfl) (fun _ _ _ h => (h : False).elim) (Or.inl ⟨by rfl, fun _ _ => by go_simp⟩) hS ?_
            change wpAnyH _ _ _ _ _ _ _ (Act.put _ (some 58) _) _
            simp only [Act.put, List.setIfInBounds_toArray, List.set_cons_succ, List.set_cons_zero]
            refine wpAnyH_take (i := 8) (v := .int .u64 (N1 : Int)) rfl (by kernel_rfl) (by kernel_rfl) (by kernel_rfl) (fun _ _ _ h => (h : False).elim) (Or.inl ⟨by rfl, fun _ _ => by go_simp⟩) hS ?_
            change wpAnyH _ _ _ _ _ _ _ (Act.put _ (some 66) _) _
            simp only [Act.put, List.setIfInBounds_toArray, List.set_cons_succ, List.set_cons_zero]
            refine wpAnyH_take (i := 9) (v := .agg (rowV st')) rfl (by kernel_rfl) (by kernel_rfl) (by kernel_rfl) (fun _ _ _ h => (h : False).elim) (Or.inl ⟨by rfl, fun _ _ => by go_simp⟩) hS ?_
            change wpAnyH _ _ _ _ _ _ _ (Act.put _ (some 67) _) _
            simp only [Act.put, List.setIfInBounds_toArray, List.set_cons_succ, List.set_cons_zero]
            refine wpAnyH_take (i := 11) (v := .int .u64 (N1 : Int)) rfl (by kernel_rfl) (by kernel_rfl) (by kernel_rfl) (fun _ _ _ h => (h : False).elim) (Or.inl ⟨by rfl, fun _ _ => by go_simp⟩) hS ?_
            change wpAnyH _ _ _ _ _ _ _ (Act.put _ (some 13) _) _
            simp only [Act.put, List.setIfInBounds_toArray, List.set_cons_succ, List.set_cons_zero]
            refine wpAnyH_ready (rs := [12]) (by kernel_rfl) (by simp) ?_
            refine AllReadyH.cons rfl (fun K hK => ?_) AllReadyH.nil
            rw [if_pos (by rfl)]
            refine wp_store_row 55 _ _ rfl nb (rowV st') rfl rfl _ _ hnb (sizeRowV st' HS2.out) (by rw [rowV_size _ HS2.out, rowCells_size, zeros_length]) (rowV_one _) ?_
            have hq2 : IsQ (W6.setRow nb (rowV st')) nb st' := setRow_heap _ _ _ _ _ _ hnb
            replace hS := hS.setRow nb (rowV st') hn1 hn2 hn3
            generalize W6.setRow nb (rowV st') = W7 at hS hq2 ⊢
            refine hK.out _ _ hS (fun _ => ?_)
            clear hK K hnb
            refine wpAnyH_done (by kernel_rfl) ?_ _
            refine NoPanic.normal ?_
            have c3 := HC.out _ hS.2.2
            have hrS := hS.1
            go_wp2_with (first | (go_at_call 32; (with_reducible refine (HR.out _ hrS).mono ?_); rintro e W8 ⟨rfl, hr8, ha8⟩; have hq8 : IsQ W8 nb st' := (ha8.block nb hq2.lt hn1).trans hq2; have hb8 : IsQ W8 b1 st := (ha8.block b1 hS.2.1.lt (by omega)).trans hS.2.1; have hk8 : Below w.heap.size w W8 := hS.2.2.trans (ha8.below (Nat.le_of_lt hbq) hS.2.2.size); clear hS hq2 hrS c3 ha8) | (refine wpList_load_row rfl 55 _ rfl nb rfl _ _ _ _ hq8 Try.underlying55 rfl (sizeRowV st' HS2.out) ?_) | (refine wpList_store_row rfl 55 _ _ rfl b1 _ rfl rfl _ _ hb8 (sizeRowV st' HS2.out) (by rw [rowV_size _ HS2.out, rowV_size _ HS.out]) (rowV_one _) ?_; have hb9 : IsQ (W8.setRow b1 (rowV st')) b1 st' := setRow_heap _ _ _ _ _ _ hb8; have hbox9 : RBox w q1 b1 st' (W8.setRow b1 (rowV st')) := ⟨hr8.of_block (setRow_other _ _ _ _ (by omega)), hb9, hk8.trans ⟨rfl, rfl, rfl, by simp, fun k hk => setRow_other _ _ _ _ (by omega)⟩⟩; clear hb9 hr8 hk8 hb8 hq8; generalize W8.setRow b1 (rowV st') = W9 at hbox9 ⊢))
            have hF := fun W hW => Fine_any st' q1 W hW
            have hE := fun W hW => End_any st' q1 W hW
            have hRE := fun W => refEnd_any st' HS2.out W
            have hFC := fun W (hW : RBox w q1 b1 st' W) => hW.2.1.fineCell HS2.out
            generalize (st').isSome = g at hF hFC
            generalize endE st' = z at hE hRE
            have HF := Lib.hid hF; clear hF
            have HE := Lib.hid hE; clear hE
            have HRE := Lib.hid hRE; clear hRE
            have HFC := Lib.hid hFC; clear hFC
            refine wp_region_noPanic ?_
            refine wp_region_held_drew (S := RBox w q1 b1 st') (by kernel_rfl) hbox9.drew ?_
            intro hS
            generalize W9.drew = W9 at hS ⊢
            clear hbox9
            refine wpAnyH_take (i := 0) (v := .bool true) rfl (by kernel_rfl) (by kernel_rfl) (by kernel_rfl) (fun _ _ _ h => (h : False).elim) (Or.inl ⟨by rfl, fun _ _ => by go_simp⟩) hS ?_
            change wpAnyH _ _ _ _ _ _ _ (Act.put _ (some 78) _) _
            simp only [Act.put, List.setIfInBounds_toArray, List.set_cons_succ, List.set_cons_zero]
            refine wpAnyH_take (i := 1) (v := .bool false) rfl (by kernel_rfl) (by kernel_rfl) (by kernel_rfl) (fun _ _ _ h => (h : False).elim) (Or.inl ⟨by rfl, fun _ _ => by go_simp⟩) hS ?_
            change wpAnyH _ _ _ _ _ _ _ (Act.put _ (some 79) _) _
            simp only [Act.put, List.setIfInBounds_toArray, List.set_cons_succ, List.set_cons_zero]
            refine wpAnyH_take (i := 2) (v := .bool false) rfl (by kernel_rfl) (by kernel_rfl) (by kernel_rfl) (fun _ _ _ h => (h : False).elim) (Or.inl ⟨by rfl, fun _ _ => by go_simp⟩) hS ?_
            change wpAnyH _ _ _ _ _ _ _ (Act.put _ (some 80) _) _
            simp only [Act.put, List.setIfInBounds_toArray, List.set_cons_succ, List.set_cons_zero]
            refine wpAnyH_take (i := 3) (v := .pointer (some ⟨q1, 0, none⟩)) rfl (by kernel_rfl) (by kernel_rfl) (by kernel_rfl) (fun _ _ _ h => (h : False).elim) (Or.inl ⟨by rfl, fun _ _ => by go_simp⟩) hS ?_
            change wpAnyH _ _ _ _ _ _ _ (Act.put _ (some 81) _) _
            simp only [Act.put, List.setIfInBounds_toArray, List.set_cons_succ, List.set_cons_zero]
            refine wpAnyH_take (i := 5) (v := .pointer (some ⟨b1, 257, none⟩)) rfl (by kernel_rfl) (by kernel_rfl) (by kernel_rfl) (fun _ _ _ h => (h : False).elim) (Or.inl ⟨by rfl, fun _ _ => by go_simp⟩) hS ?_
            change wpAnyH _ _ _ _ _ _ _ (Act.put _ (some 83) _) _
            simp only [Act.put, List.setIfInBounds_toArray, List.set_cons_succ, List.set_cons_zero]
            refine wpAnyH_take (i := 6) (v := .bool g) rfl (by kernel_rfl) (by kernel_rfl) (by kernel_rfl) (fun _ _ _ h => (h : False).elim) (Or.inl ⟨by rfl, fun w hw => by have c7 := HFC.out _ hw; go_simp⟩) hS ?_
            change wpAnyH _ _ _ _ _ _ _ (Act.put _ (some 84) _) _
            simp only [Act.put, List.setIfInBounds_toArray, List.set_cons_succ, List.set_cons_zero]
            refine wpAnyH_ready (rs := [4]) (by kernel_rfl) (by simp) ?_
            refine AllReadyH.cons rfl (fun K hK => ?_) AllReadyH.nil
            rw [if_pos (by rfl)]
            go_simp
            refine (HF.out _ hS.1).mono ?_
            rintro e Wf ⟨rfl, rfl⟩
            dsimp only
            refine hK.out _ _ hS (fun _ => ?_)
            clear hK K
            refine wpAnyH_take (i := 7) (v := .bool false) rfl (by kernel_rfl) (by kernel_rfl) (by kernel_rfl) (fun _ _ _ h => (h : False).elim) (Or.inl ⟨by rfl, fun _ _ => by go_simp⟩) hS ?_
            change wpAnyH _ _ _ _ _ _ _ (Act.put _ (some 85) _) _
            simp only [Act.put, List.setIfInBounds_toArray, List.set_cons_succ, List.set_cons_zero]
            refine wpAnyH_take (i := 8) (v := .bool false) rfl (by kernel_rfl) (by kernel_rfl) (by kernel_rfl) (fun _ _ _ h => (h : False).elim) (Or.inl ⟨by rfl, fun _ _ => by go_simp⟩) hS ?_
            change wpAnyH _ _ _ _ _ _ _ (Act.put _ (some 86) _) _
            simp only [Act.put, List.setIfInBounds_toArray, List.set_cons_succ, List.set_cons_zero]
            refine wpAnyH_take (i := 9) (v := .bool false) rfl (by kernel_rfl) (by kernel_rfl) (by kernel_rfl) (fun _ _ _ h => (h : False).elim) (Or.inl ⟨by rfl, fun _ _ => by go_simp⟩) hS ?_
            change wpAnyH _ _ _ _ _ _ _ (Act.put _ (some 87) _) _
            simp only [Act.put, List.setIfInBounds_toArray, List.set_cons_succ, List.set_cons_zero]
            refine wpAnyH_take (i := 10) (v := .pointer (some ⟨q1, 0, none⟩)) rfl (by kernel_rfl) (by kernel_rfl) (by kernel_rfl) (fun _ _ _ h => (h : False).elim) (Or.inl ⟨by rfl, fun _ _ => by go_simp⟩) hS ?_
            change wpAnyH _ _ _ _ _ _ _ (Act.put _ (some 88) _) _
            simp only [Act.put, List.setIfInBounds_toArray, List.set_cons_succ, List.set_cons_zero]
            refine wpAnyH_take (i := 12) (v := .agg (rowV st')) rfl (by kernel_rfl) (by kernel_rfl) (by kernel_rfl) (fun _ _ _ h => (h : False).elim) (yieldsIf_load_row (by rfl) 55 _ rfl b1 rfl _ _ _ _ (fun _ h => h.2.1) Try.underlying55 rfl (sizeRowV st' HS2.out)) hS ?_
            change wpAnyH _ _ _ _ _ _ _ (Act.put _ (some 90) _) _
            simp only [Act.put, List.setIfInBounds_toArray, List.set_cons_succ, List.set_cons_zero]
            refine wpAnyH_ready (rs := [11]) (by kernel_rfl) (by simp) ?_
            refine AllReadyH.cons rfl (fun K hK => ?_) AllReadyH.nil
            rw [if_pos (by rfl)]
            go_simp
            refine (HE.out _ hS.1).mono ?_
            rintro e We ⟨rfl, hx⟩
            replace hS := hS.below hx
            clear hx
            dsimp only
            refine hK.out _ _ hS (fun _ => ?_)
            clear hK K
            refine wpAnyH_ready (rs := [13]) (by kernel_rfl) (by simp) ?_
            refine AllReadyH.cons rfl (fun K hK => ?_) AllReadyH.nil
            rw [if_pos (by rfl)]
            go_simp
            refine (HRE.out _).mono ?_
            rintro e Wg ⟨rfl, hx⟩
            replace hS := hS.below hx
            clear hx
            dsimp only
            refine hK.out _ _ hS (fun _ => ?_)
            clear hK K
            refine wpAnyH_take (i := 14) (v := .bool false) rfl (by kernel_rfl) (by kernel_rfl) (by kernel_rfl) (fun _ _ _ h => (h : False).elim) (Or.inl ⟨by rfl, fun _ _ => by go_simp⟩) hS ?_
            change wpAnyH _ _ _ _ _ _ _ (Act.put _ (some 92) _) _
            simp only [Act.put, List.setIfInBounds_toArray, List.set_cons_succ, List.set_cons_zero]
            refine wpAnyH_take (i := 15) (v := .bool false) rfl (by kernel_rfl) (by kernel_rfl) (by kernel_rfl) (fun _ _ _ h => (h : False).elim) (Or.inl ⟨by rfl, fun _ _ => by go_simp⟩) hS ?_
            change wpAnyH _ _ _ _ _ _ _ (Act.put _ (some 93) _) _
            simp only [Act.put, List.setIfInBounds_toArray, List.set_cons_succ, List.set_cons_zero]
            refine wpAnyH_done (by kernel_rfl) ?_ _
            refine NoPanic.normal ?_
            go_wp2_with fail
            go_roundw
            case rel => exact ⟨j + 1, st', by omega, by go_num, HS2.out, hS⟩
            case measure => simp [intOf]; omega
      · obtain rfl : j = n := by omega
        go_wp2_with fail
        have hbox9 := hbox
        clear hbox
        generalize wr = W9 at hbox9 ⊢
        have hF := fun W hW => Fine_any st q1 W hW
        have hE := fun W hW => End_any st q1 W hW
        have hRE := fun W => refEnd_any st HS.out W
        have hFC := fun W (hW : RBox w q1 b1 st W) => hW.2.1.fineCell HS.out
        generalize (st).isSome = g at hF hFC
        generalize endE st = z at hE hRE
        have HF := Lib.hid hF; clear hF
        have HE := Lib.hid hE; clear hE
        have HRE := Lib.hid hRE; clear hRE
        have HFC := Lib.hid hFC; clear hFC
        refine wp_region_noPanic ?_
        refine wp_region_held_drew (S := RBox w q1 b1 st) (by kernel_rfl) hbox9.drew ?_
        intro hS
        generalize W9.drew = W9 at hS ⊢
        clear hbox9
        refine wpAnyH_take (i := 0) (v := .pointer (some ⟨q1, 0, none⟩)) rfl (by kernel_rfl) (by kernel_rfl) (by kernel_rfl) (fun _ _ _ h => (h : False).elim) (Or.inl ⟨by rfl, fun _ _ => by go_simp⟩) hS ?_
        change wpAnyH _ _ _ _ _ _ _ (Act.put _ (some 94) _) _
        simp only [Act.put, List.setIfInBounds_toArray, List.set_cons_succ, List.set_cons_zero]
        refine wpAnyH_take (i := 2) (v := .pointer (some ⟨b1, 257, none⟩)) rfl (by kernel_rfl) (by kernel_rfl) (by kernel_rfl) (fun _ _ _ h => (h : False).elim) (Or.inl ⟨by rfl, fun _ _ => by go_simp⟩) hS ?_
        change wpAnyH _ _ _ _ _ _ _ (Act.put _ (some 96) _) _
        simp only [Act.put, List.setIfInBounds_toArray, List.set_cons_succ, List.set_cons_zero]
        refine wpAnyH_take (i := 3) (v := .bool g) rfl (by kernel_rfl) (by kernel_rfl) (by kernel_rfl) (fun _ _ _ h => (h : False).elim) (Or.inl ⟨by rfl, fun w hw => by have c7 := HFC.out _ hw; go_simp⟩) hS ?_
        change wpAnyH _ _ _ _ _ _ _ (Act.put _ (some 97) _) _
        simp only [Act.put, List.setIfInBounds_toArray, List.set_cons_succ, List.set_cons_zero]
        refine wpAnyH_ready (rs := [1]) (by kernel_rfl) (by simp) ?_
        refine AllReadyH.cons rfl (fun K hK => ?_) AllReadyH.nil
        rw [if_pos (by rfl)]
        go_simp
        refine (HF.out _ hS.1).mono ?_
        rintro e Wf ⟨rfl, rfl⟩
        dsimp only
        refine hK.out _ _ hS (fun _ => ?_)
        clear hK K
        refine wpAnyH_take (i := 4) (v := .bool true) rfl (by kernel_rfl) (by kernel_rfl) (by kernel_rfl) (fun _ _ _ h => (h : False).elim) (Or.inl ⟨by rfl, fun _ _ => by go_simp⟩) hS ?_
        change wpAnyH _ _ _ _ _ _ _ (Act.put _ (some 98) _) _
        simp only [Act.put, List.setIfInBounds_toArray, List.set_cons_succ, List.set_cons_zero]
        refine wpAnyH_take (i := 5) (v := .bool true) rfl (by kernel_rfl) (by kernel_rfl) (by kernel_rfl) (fun _ _ _ h => (h : False).elim) (Or.inl ⟨by rfl, fun _ _ => by go_simp⟩) hS ?_
        change wpAnyH _ _ _ _ _ _ _ (Act.put _ (some 99) _) _
        simp only [Act.put, List.setIfInBounds_toArray, List.set_cons_succ, List.set_cons_zero]
        refine wpAnyH_take (i := 6) (v := .pointer (some ⟨q1, 0, none⟩)) rfl (by kernel_rfl) (by kernel_rfl) (by kernel_rfl) (fun _ _ _ h => (h : False).elim) (Or.inl ⟨by rfl, fun _ _ => by go_simp⟩) hS ?_
        change wpAnyH _ _ _ _ _ _ _ (Act.put _ (some 100) _) _
        simp only [Act.put, List.setIfInBounds_toArray, List.set_cons_succ, List.set_cons_zero]
        refine wpAnyH_take (i := 8) (v := .agg (rowV st)) rfl (by kernel_rfl) (by kernel_rfl) (by kernel_rfl) (fun _ _ _ h => (h : False).elim) (yieldsIf_load_row (by rfl) 55 _ rfl b1 rfl _ _ _ _ (fun _ h => h.2.1) Try.underlying55 rfl (sizeRowV st HS.out)) hS ?_
        change wpAnyH _ _ _ _ _ _ _ (Act.put _ (some 102) _) _
        simp only [Act.put, List.setIfInBounds_toArray, List.set_cons_succ, List.set_cons_zero]
        refine wpAnyH_ready (rs := [7]) (by kernel_rfl) (by simp) ?_
        refine AllReadyH.cons rfl (fun K hK => ?_) AllReadyH.nil
        rw [if_pos (by rfl)]
        go_simp
        refine (HE.out _ hS.1).mono ?_
        rintro e We ⟨rfl, hx⟩
        replace hS := hS.below hx
        clear hx
        dsimp only
        refine hK.out _ _ hS (fun _ => ?_)
        clear hK K
        refine wpAnyH_ready (rs := [9]) (by kernel_rfl) (by simp) ?_
        refine AllReadyH.cons rfl (fun K hK => ?_) AllReadyH.nil
        rw [if_pos (by rfl)]
        go_simp
        refine (HRE.out _).mono ?_
        rintro e Wg ⟨rfl, hx⟩
        replace hS := hS.below hx
        clear hx
        dsimp only
        refine hK.out _ _ hS (fun _ => ?_)
        clear hK K
        refine wpAnyH_take (i := 10) (v := .bool true) rfl (by kernel_rfl) (by kernel_rfl) (by kernel_rfl) (fun _ _ _ h => (h : False).elim) (Or.inl ⟨by rfl, fun _ _ => by go_simp⟩) hS ?_
        change wpAnyH _ _ _ _ _ _ _ (Act.put _ (some 104) _) _
        simp only [Act.put, List.setIfInBounds_toArray, List.set_cons_succ, List.set_cons_zero]
        refine wpAnyH_take (i := 11) (v := .bool true) rfl (by kernel_rfl) (by kernel_rfl) (by kernel_rfl) (fun _ _ _ h => (h : False).elim) (Or.inl ⟨by rfl, fun _ _ => by go_simp⟩) hS ?_
        change wpAnyH _ _ _ _ _ _ _ (Act.put _ (some 105) _) _
        simp only [Act.put, List.setIfInBounds_toArray, List.set_cons_succ, List.set_cons_zero]
        refine wpAnyH_take (i := 12) (v := .bool true) rfl (by kernel_rfl) (by kernel_rfl) (by kernel_rfl) (fun _ _ _ h => (h : False).elim) (Or.inl ⟨by rfl, fun _ _ => by go_simp⟩) hS ?_
        change wpAnyH _ _ _ _ _ _ _ (Act.put _ (some 106) _) _
        simp only [Act.put, List.setIfInBounds_toArray, List.set_cons_succ, List.set_cons_zero]
        refine wpAnyH_ready (rs := [13]) (by kernel_rfl) (by simp) ?_
        refine AllReadyH.cons rfl (fun K hK => ?_) AllReadyH.nil
        rw [if_pos (by rfl)]
        go_simp
        refine (head_any _).mono ?_
        rintro e Wh ⟨rfl, hx⟩
        replace hS := hS.below hx
        clear hx
        dsimp only
        refine hK.out _ _ hS (fun _ => ?_)
        clear hK K
        refine wpAnyH_take (i := 14) (v := .bool true) rfl (by kernel_rfl) (by kernel_rfl) (by kernel_rfl) (fun _ _ _ h => (h : False).elim) (Or.inl ⟨by rfl, fun _ _ => by go_simp⟩) hS ?_
        change wpAnyH _ _ _ _ _ _ _ (Act.put _ (some 108) _) _
        simp only [Act.put, List.setIfInBounds_toArray, List.set_cons_succ, List.set_cons_zero]
        refine wpAnyH_take (i := 15) (v := .bool true) rfl (by kernel_rfl) (by kernel_rfl) (by kernel_rfl) (fun _ _ _ h => (h : False).elim) (Or.inl ⟨by rfl, fun _ _ => by go_simp⟩) hS ?_
        change wpAnyH _ _ _ _ _ _ _ (Act.put _ (some 6) _) _
        simp only [Act.put, List.setIfInBounds_toArray, List.set_cons_succ, List.set_cons_zero]
        refine wpAnyH_done (by kernel_rfl) ?_ _
        refine NoPanic.normal ?_
        go_wp2_with fail
        go_ret
        exact ⟨rfl, hS.2.2⟩

end Go.Proofs.Ytfefpdaohclgfaa.Fld
