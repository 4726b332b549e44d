/-
  The statements' known answers of roots, and the walk of their head.
-/
import Derived.Test.YtdlgdnmmeopkjaaSltPut
import Derived.Test.YtdlgdnmmeopkjaaSltGet
import Derived.Test.YtdlgdnmmeopkjaaSltTorn
import Derived.Test.YtdlgdnmmeopkjaaSltEq
import Derived.Test.YtdlgdnmmeopkjaaMoves
namespace Go.Proofs.Ytdlgdnmmeopkjaa.Slt
open Go.RowKit RowLaw Crc Fld
set_option maxRecDepth 100000

def one0 : Rt := ⟨1, 64, 0, 0, 58, 1, 6, 0⟩
def three0 : Rt := { one0 with gen := 3 }
def none0 : Rt := { one0 with gen := 0 }
def vols0 : Rt := { one0 with vols := 1 }
def far0 : Rt := { one0 with names := 64 }
theorem one0_fits : one0.Fits := ⟨by decide, by decide, by decide, by decide, by decide, by decide, by decide, by decide⟩
theorem three0_fits : three0.Fits := ⟨by decide, by decide, by decide, by decide, by decide, by decide, by decide, by decide⟩
theorem one0_may : mayB one0 = true := by decide +kernel
theorem three0_may : mayB three0 = true := by decide +kernel
theorem none0_may : mayB none0 = false := by decide +kernel
theorem vols0_may : mayB vols0 = false := by decide +kernel
theorem far0_may : mayB far0 = false := by decide +kernel
def B1 : List UInt8 := rtB one0
def B3 : List UInt8 := rtB three0
def want0 : List UInt8 := [82, 1, 0, 0, 0, 0, 0, 0, 0, 64, 0, 0, 0, 0, 0, 0, 0, 0, 0, 0, 0, 58, 0, 0, 0, 1, 0, 0, 0, 6, 0, 0, 0, 0]
theorem B1_len : B1.length = 256 := rtB_length _
theorem B3_len : B3.length = 256 := rtB_length _
theorem B1_want : B1.take 34 = want0 := by decide +kernel
theorem torn1 : getE (tornB B1 B3 1) = 250 := by decide +kernel
theorem torn1R : getR (tornB B1 B3 1) = nil := by
  have h := torn1
  unfold getE at h
  unfold getR
  split at h
  · cases h
  · rename_i h2; exact if_neg h2
theorem torn15 : tornB B1 B3 15 = B3 := by
  apply List.ext_getElem?
  intro i
  by_cases hi : i < 256
  · have ht : Nat.testBit 15 (i / 64) = true := by
      rcases (by omega : i / 64 = 0 ∨ i / 64 = 1 ∨ i / 64 = 2 ∨ i / 64 = 3) with h | h | h | h <;> rw [h] <;> decide
    rw [tornB_get _ _ _ i hi, ht, if_pos rfl, getD_get (by rw [B3_len]; omega)]
  · rw [List.getElem?_eq_none (by rw [tornB_length]; omega), List.getElem?_eq_none (by rw [B3_len]; omega)]
theorem back3 : getR B3 = three0 ∧ getE B3 = 0 := back three0_may three0_fits

theorem conv_at (W : World) (b n : Nat) (B l : List UInt8) (hB : B.length = 256) (hn : n ≤ 256) (ht : B.take n = l) (h : Holds W b B) :
    (convert 55 9 (.slice (some ⟨b, 0, none⟩) n 256)).run Try.prog W = .ok (.string ⟨l.toArray⟩) W := by
  have hl : l.length = n := by rw [← ht, List.length_take]; omega
  have := run_convert_bytes_back (P := Try.prog) W 55 9 5 ⟨b, 0, none⟩ 256 l Try.underlying55 Try.underlying5 Try.underlying9 (fun j hj => by
    have hj2 : j < B.length := by omega
    rw [Addr.add_mid, Nat.zero_add, h.cell j hj2]
    subst ht
    simp)
  rw [hl] at this
  exact this

theorem ne_nil {q : Nat} : ∀ x ∈ ([] : List (Nat × Obj)), x.1 ≠ q := fun _ h => by cases h
theorem ne_cons {q p : Nat} {o : Obj} {K : List (Nat × Obj)} (h : p ≠ q) (hK : ∀ x ∈ K, x.1 ≠ q) : ∀ x ∈ (p, o) :: K, x.1 ≠ q := fun x hx => by
  rcases List.mem_cons.1 hx with rfl | hx
  · exact h
  · exact hK x hx
theorem rot6 {w W : World} {x a b c d e : Nat × Obj} (h : Kept w [x, a, b, c, d, e] W) : Kept w [a, b, c, d, e, x] W := h.less (by
  intro y hy
  simp only [List.mem_cons, List.not_mem_nil, or_false] at hy
  rcases hy with rfl | rfl | rfl | rfl | rfl | rfl <;> simp)
theorem Kept.pick {w W : World} {K K' : List (Nat × Obj)} {x : Nat × Obj} (h : Kept w K W) (hx : x ∈ K) (h' : Kept w K' W) : Kept w (x :: K') W := ⟨h.bel, fun y hy => by
  rcases List.mem_cons.1 hy with rfl | hy
  · exact h.has _ hx
  · exact h'.has y hy⟩
def hfact (B : Nat) : Nat → Value → World → Prop := fun _ v W => ∃ q, v = .pointer (some ⟨q, 0, none⟩) ∧ B ≤ q ∧ W.heap[q]? = some (rootO nil)
theorem hfact_stays (B i : Nat) (v : Value) (W W' : World) (h : hfact B i v W) (hb : Below W.heap.size W W') : hfact B i v W' := by
  obtain ⟨q, h1, h2, h3⟩ := h
  exact ⟨q, h1, h2, (hb.block q (Array.getElem?_eq_some_iff.1 h3).1).trans h3⟩
theorem hfact_lt (B i : Nat) (v : Value) (W : World) (b : Nat) (h : hfact B i v W) (hb : blkOf v = some b) : b < W.heap.size := by
  obtain ⟨q, rfl, h2, h3⟩ := h
  cases hb
  exact (Array.getElem?_eq_some_iff.1 h3).1
theorem Put_one (w : World) : Calls Try.prog 6 #[.agg (cells one0)] w fun e w' => e = .returned (.tuple #[.agg (cellsOf B1), .int .i64 0]) ∧ Below w.heap.size w w' := Put_yes one0 one0_may one0_fits w
theorem Put_three (w : World) : Calls Try.prog 6 #[.agg (cells three0)] w fun e w' => e = .returned (.tuple #[.agg (cellsOf B3), .int .i64 0]) ∧ Below w.heap.size w w' := Put_yes three0 three0_may three0_fits w
theorem Torn_1 (w : World) : Calls Try.prog 14 #[.agg (cellsOf B1), .agg (cellsOf B3), .int .u8 1] w fun e w' => e = .returned (.agg (cellsOf (tornB B1 B3 1))) ∧ Below w.heap.size w w' := Torn_any B1 B3 B1_len B3_len 1 (by omega) w
theorem Torn_15 (w : World) : Calls Try.prog 14 #[.agg (cellsOf B1), .agg (cellsOf B3), .int .u8 15] w fun e w' => e = .returned (.agg (cellsOf B3)) ∧ Below w.heap.size w w' := by
  have := Torn_any B1 B3 B1_len B3_len 15 (by omega) w
  rw [torn15] at this
  exact this
theorem Get_torn (w : World) : Calls Try.prog 11 #[.agg (cellsOf (tornB B1 B3 1))] w fun e w' => e = .returned (.tuple #[.agg (cells nil), .int .i64 250]) ∧ Below w.heap.size w w' := by
  have := Get_any (tornB B1 B3 1) (tornB_length _ _ _) w
  rw [torn1, torn1R] at this
  exact this
theorem Get_three (w : World) : Calls Try.prog 11 #[.agg (cellsOf B3)] w fun e w' => e = .returned (.tuple #[.agg (cells three0), .int .i64 0]) ∧ Below w.heap.size w w' := by
  have := Get_any B3 B3_len w
  rw [back3.1, back3.2] at this
  exact this
theorem build_one (W : World) : (Instr.build 25 #[(0, .int .u64 1), (1, .int .u32 64), (4, .int .u32 58), (5, .int .u32 1), (6, .int .u32 6)]).run Try.prog W = .ok (.agg (cells one0)) W := by
  go_simp
  rfl

set_option maxHeartbeats 6400000 in
theorem head_any (w : World) : Calls Try.prog 10 #[] w fun e w' => e = .returned (.bool true) ∧ Below w.heap.size w w' := by
  have hzc := (zero_of_info infoR).1
  have hzb := (zero_of_info infoBlock).1
  have hi1 := sizeBlock _ B1_len
  have hi3 := sizeBlock _ B3_len
  have hz1 : (cellsOf zeros).size = (cellsOf B1).size := by rw [cellsOf_size, cellsOf_size, B1_len, zeros_length]
  have hz3 : (cellsOf zeros).size = (cellsOf B3).size := by rw [cellsOf_size, cellsOf_size, B3_len, zeros_length]
  have hbo := build_one
  have hk1 := (Kept.start w).alloc (.cells (cells one0) 25)
  have tok : True := trivial
  go_enter Try.func10, Try.ntmps10
  go_wp2_with (first
    | (have _t := tok; refine wpList_store_new rfl 25 _ _ rfl (cells one0) _ _ rfl rfl (sizeR one0) rfl (cells_one _) ?_; generalize w.heap.size = p1 at hk1 ⊢; generalize w.alloc (.cells (cells one0) 25) = W2 at hk1 ⊢; clear _t tok)
    | (refine wpList_load_row rfl 25 _ rfl p1 rfl _ _ _ _ (hk1.at_ (q := p1) (o := .cells (cells one0) 25 (0, 0)) (by simp)) Try.underlying25 rfl (sizeR one0) ?_))
  refine (Put_one _).mono ?_
  rintro e W3 ⟨rfl, hx⟩
  have hk2 := (hk1.below hx).alloc (.cells (cellsOf B1) 27)
  clear hk1 hx hbo
  have tok : True := trivial
  go_upto_region 3 with (have _t := tok; refine wpList_store_new rfl 27 _ _ rfl (cellsOf B1) _ _ rfl rfl hi1 hz1 (cellsOf_one _) ?_; generalize W3.heap.size = p2 at hk2 ⊢; generalize W3.alloc (.cells (cellsOf B1) 27) = W4 at hk2 ⊢; clear _t tok)
  refine wp_region_noPanic ?_
  have hkd := hk2.drew
  clear hk2
  refine wp_region_held_drew (S := fun W => Below W4.drew.heap.size W4.drew W) (by kernel_rfl) (Below.refl _ _) ?_
  intro hS
  generalize W4.drew = V at hS hkd ⊢
  have hSk : ∀ W, Below V.heap.size V W → Kept w [(p2, .cells (cellsOf B1) 27 (0, 0)), (p1, .cells (cells one0) 25 (0, 0))] W := fun W h => hkd.below h
  refine wpAnyH_take (i := 0) (v := .agg (cells one0)) rfl (by kernel_rfl) (by kernel_rfl) (by kernel_rfl) (fun _ _ _ h => (h : False).elim) (yieldsIf_load_row (by rfl) 25 _ rfl p1 rfl _ _ _ _ (fun W hW => Kept.at_ (hSk W hW) (q := p1) (o := (.cells (cells one0) 25 (0, 0))) (by simp)) Try.underlying25 rfl (sizeR one0)) hS ?_
  change wpAnyH _ _ _ _ _ _ _ (Act.put _ (some 21) _) _
  simp only [Act.put, List.setIfInBounds_toArray, List.set_cons_succ, List.set_cons_zero]
  refine wpAnyH_take (i := 1) (v := .agg (cells one0)) rfl (by kernel_rfl) (by kernel_rfl) (by kernel_rfl) (fun _ _ _ h => (h : False).elim) (yieldsIf_load_row (by rfl) 25 _ rfl p1 rfl _ _ _ _ (fun W hW => Kept.at_ (hSk W hW) (q := p1) (o := (.cells (cells one0) 25 (0, 0))) (by simp)) Try.underlying25 rfl (sizeR one0)) hS ?_
  change wpAnyH _ _ _ _ _ _ _ (Act.put _ (some 22) _) _
  simp only [Act.put, List.setIfInBounds_toArray, List.set_cons_succ, List.set_cons_zero]
  refine wpAnyH_take (i := 2) (v := .agg (cells one0)) rfl (by kernel_rfl) (by kernel_rfl) (by kernel_rfl) (fun _ _ _ h => (h : False).elim) (yieldsIf_load_row (by rfl) 25 _ rfl p1 rfl _ _ _ _ (fun W hW => Kept.at_ (hSk W hW) (q := p1) (o := (.cells (cells one0) 25 (0, 0))) (by simp)) Try.underlying25 rfl (sizeR one0)) hS ?_
  change wpAnyH _ _ _ _ _ _ _ (Act.put _ (some 23) _) _
  simp only [Act.put, List.setIfInBounds_toArray, List.set_cons_succ, List.set_cons_zero]
  refine wpAnyH_take (i := 3) (v := .agg (cells one0)) rfl (by kernel_rfl) (by kernel_rfl) (by kernel_rfl) (fun _ _ _ h => (h : False).elim) (yieldsIf_load_row (by rfl) 25 _ rfl p1 rfl _ _ _ _ (fun W hW => Kept.at_ (hSk W hW) (q := p1) (o := (.cells (cells one0) 25 (0, 0))) (by simp)) Try.underlying25 rfl (sizeR one0)) hS ?_
  change wpAnyH _ _ _ _ _ _ _ (Act.put _ (some 24) _) _
  simp only [Act.put, List.setIfInBounds_toArray, List.set_cons_succ, List.set_cons_zero]
  refine wpAnyH_growS V [(4, 4), (5, 5), (6, 6), (7, 7)] [] (hfact V.heap.size) 4 92 rfl (by kernel_rfl) rfl (by decide) (hfact_stays _) (hfact_lt _) (fun _ h => h) hS ?_ ?_
  · intro i d hid a' W K hbel hold hdep hK
    have hgo : K (a'.put (some d) (.pointer (some ⟨W.heap.size, 0, none⟩))) (W.alloc (.cells (cells nil) 25)) := hK _ _ ((Below.refl _ _).alloc (Nat.le_refl _) _) ⟨W.heap.size, rfl, hbel.size, heap_alloc_new W _⟩ (fun b hb => by cases hb; exact Nat.le_refl _)
    simp only [List.mem_cons, Prod.mk.injEq, List.not_mem_nil, or_false] at hid
    rcases hid with ⟨rfl, rfl⟩ | ⟨rfl, rfl⟩ | ⟨rfl, rfl⟩ | ⟨rfl, rfl⟩
    all_goals exact wpOp_alloc _ rfl rfl 25 rfl (cells nil) hzc hgo
  · intro f W hall hG
    obtain ⟨v4, h4⟩ := hall 4 4 (by simp)
    obtain ⟨v5, h5⟩ := hall 5 5 (by simp)
    obtain ⟨v6, h6⟩ := hall 6 6 (by simp)
    obtain ⟨v7, h7⟩ := hall 7 7 (by simp)
    obtain ⟨q4, rfl, g4, k4⟩ := hG.has 4 v4 h4
    obtain ⟨q5, rfl, g5, k5⟩ := hG.has 5 v5 h5
    obtain ⟨q6, rfl, g6, k6⟩ := hG.has 6 v6 h6
    obtain ⟨q7, rfl, g7, k7⟩ := hG.has 7 v7 h7
    have n45 : q5 ≠ q4 := fun e => hG.sep 4 5 _ _ (by decide) h4 h5 q4 rfl (by rw [e]; rfl)
    have n46 : q6 ≠ q4 := fun e => hG.sep 4 6 _ _ (by decide) h4 h6 q4 rfl (by rw [e]; rfl)
    have n47 : q7 ≠ q4 := fun e => hG.sep 4 7 _ _ (by decide) h4 h7 q4 rfl (by rw [e]; rfl)
    have n56 : q6 ≠ q5 := fun e => hG.sep 5 6 _ _ (by decide) h5 h6 q5 rfl (by rw [e]; rfl)
    have n57 : q7 ≠ q5 := fun e => hG.sep 5 7 _ _ (by decide) h5 h7 q5 rfl (by rw [e]; rfl)
    have n67 : q7 ≠ q6 := fun e => hG.sep 6 7 _ _ (by decide) h6 h7 q6 rfl (by rw [e]; rfl)
    have hbel := hG.bel
    simp only [putsF, setB, isF, h4, h5, h6, h7, Option.isSome_some, if_true]
    simp only [Act.put, List.setIfInBounds_toArray, List.set_cons_succ, List.set_cons_zero]
    clear hall hG h4 h5 h6 h7 hS
    have l1 : p1 < V.heap.size := hkd.lt_ (q := p1) (o := (.cells (cells one0) 25 (0, 0))) (by simp)
    have l2 : p2 < V.heap.size := hkd.lt_ (q := p2) (o := (.cells (cellsOf B1) 27 (0, 0))) (by simp)
    have hw := hkd.bel.size
    have m14 : p1 ≠ q4 := by omega
    have m15 : p1 ≠ q5 := by omega
    have m16 : p1 ≠ q6 := by omega
    have m17 : p1 ≠ q7 := by omega
    have m24 : p2 ≠ q4 := by omega
    have m25 : p2 ≠ q5 := by omega
    have m26 : p2 ≠ q6 := by omega
    have m27 : p2 ≠ q7 := by omega
    have w4 : w.heap.size ≤ q4 := by omega
    have w5 : w.heap.size ≤ q5 := by omega
    have w6 : w.heap.size ≤ q6 := by omega
    have w7 : w.heap.size ≤ q7 := by omega
    have hk := hSk W hbel
    replace hk : Kept w [(q4, rootO nil), (q5, rootO nil), (q6, rootO nil), (q7, rootO nil), (p2, (.cells (cellsOf B1) 27 (0, 0))), (p1, (.cells (cells one0) 25 (0, 0)))] W := ⟨hk.bel, fun x hx => by
      simp only [List.mem_cons, List.not_mem_nil, or_false] at hx
      rcases hx with rfl | rfl | rfl | rfl | rfl | rfl
      · exact ⟨w4, k4⟩
      · exact ⟨w5, k5⟩
      · exact ⟨w6, k6⟩
      · exact ⟨w7, k7⟩
      · exact hk.has _ (by simp)
      · exact hk.has _ (by simp)⟩
    have hw2 : V.heap.size ≤ W.heap.size := hbel.size
    clear k4 k5 k6 k7 hkd hSk l1 l2 hw w4 w5 w6 w7
    unfold rootO at hk
    refine wpAnyH_ready (rs := [8]) (by kernel_rfl) (by simp) ?_
    refine AllReadyH.cons rfl (fun K hK => ?_) AllReadyH.nil
    rw [if_pos (by rfl)]
    refine wp_store_row 25 _ _ rfl q4 (cells one0) rfl rfl _ _ (hk.at_ (q := q4) (o := (.cells (cells nil) 25 (0, 0))) (by simp)) (sizeR one0) rfl (cells_one _) ?_
    replace hk := hk.setRow (cs' := cells one0) (ne_cons (n45) (ne_cons (n46) (ne_cons (n47) (ne_cons (m24) (ne_cons (m14) ne_nil)))))
    replace hbel := below_row (cs := cells one0) hbel g4
    generalize World.setRow _ q4 (cells one0) = S0 at hk hbel ⊢
    replace hk := rot6 hk
    refine hK.out _ _ hbel (fun _ => ?_)
    clear hK K
    refine wpAnyH_ready (rs := [9]) (by kernel_rfl) (by simp) ?_
    refine AllReadyH.cons rfl (fun K hK => ?_) AllReadyH.nil
    rw [if_pos (by rfl)]
    refine wp_store_row 25 _ _ rfl q5 (cells one0) rfl rfl _ _ (hk.at_ (q := q5) (o := (.cells (cells nil) 25 (0, 0))) (by simp)) (sizeR one0) rfl (cells_one _) ?_
    replace hk := hk.setRow (cs' := cells one0) (ne_cons (n56) (ne_cons (n57) (ne_cons (m25) (ne_cons (m15) (ne_cons (n45.symm) ne_nil)))))
    replace hbel := below_row (cs := cells one0) hbel g5
    generalize World.setRow _ q5 (cells one0) = S1 at hk hbel ⊢
    replace hk := rot6 hk
    refine hK.out _ _ hbel (fun _ => ?_)
    clear hK K
    refine wpAnyH_ready (rs := [10]) (by kernel_rfl) (by simp) ?_
    refine AllReadyH.cons rfl (fun K hK => ?_) AllReadyH.nil
    rw [if_pos (by rfl)]
    refine wp_store_row 25 _ _ rfl q6 (cells one0) rfl rfl _ _ (hk.at_ (q := q6) (o := (.cells (cells nil) 25 (0, 0))) (by simp)) (sizeR one0) rfl (cells_one _) ?_
    replace hk := hk.setRow (cs' := cells one0) (ne_cons (n67) (ne_cons (m26) (ne_cons (m16) (ne_cons (n46.symm) (ne_cons (n56.symm) ne_nil)))))
    replace hbel := below_row (cs := cells one0) hbel g6
    generalize World.setRow _ q6 (cells one0) = S2 at hk hbel ⊢
    replace hk := rot6 hk
    refine hK.out _ _ hbel (fun _ => ?_)
    clear hK K
    refine wpAnyH_ready (rs := [11]) (by kernel_rfl) (by simp) ?_
    refine AllReadyH.cons rfl (fun K hK => ?_) AllReadyH.nil
    rw [if_pos (by rfl)]
    refine wp_store_row 25 _ _ rfl q7 (cells one0) rfl rfl _ _ (hk.at_ (q := q7) (o := (.cells (cells nil) 25 (0, 0))) (by simp)) (sizeR one0) rfl (cells_one _) ?_
    replace hk := hk.setRow (cs' := cells one0) (ne_cons (m27) (ne_cons (m17) (ne_cons (n47.symm) (ne_cons (n57.symm) (ne_cons (n67.symm) ne_nil)))))
    replace hbel := below_row (cs := cells one0) hbel g7
    generalize World.setRow _ q7 (cells one0) = S3 at hk hbel ⊢
    replace hk := rot6 hk
    refine hK.out _ _ hbel (fun _ => ?_)
    clear hK K
    refine wpAnyH_done (by kernel_rfl) ?_ _
    refine NoPanic.normal ?_
    clear hbel g4 g5 g6 g7 hw2
    replace hk := rot6 hk
    replace hk := rot6 hk
    have cc := IsRt.gen (r := one0) (p := q4) (hk.at_ (q := q4) (o := (.cells (cells one0) 25 (0, 0))) (by simp))
    have ff := IsRt.frozen (r := one0) (p := q4) (hk.at_ (q := q4) (o := (.cells (cells one0) 25 (0, 0))) (by simp)) 0
    replace hk := hk.setCell (j := 0) (v := .int .u64 3) (ne_cons (n45) (ne_cons (n46) (ne_cons (n47) (ne_cons (m24) (ne_cons (m14) ne_nil)))))
    rw [show (cells one0).setIfInBounds 0 (.int .u64 3) = cells three0 from rfl] at hk
    go_upto_region 5 with fail
    generalize World.setCell _ ⟨q4, 0, none⟩ (.int .u64 3) = X0 at hk ⊢
    clear cc ff
    replace hk := rot6 hk
    have cc := IsRt.gen (r := one0) (p := q5) (hk.at_ (q := q5) (o := (.cells (cells one0) 25 (0, 0))) (by simp))
    have ff := IsRt.frozen (r := one0) (p := q5) (hk.at_ (q := q5) (o := (.cells (cells one0) 25 (0, 0))) (by simp)) 0
    replace hk := hk.setCell (j := 0) (v := .int .u64 0) (ne_cons (n56) (ne_cons (n57) (ne_cons (m25) (ne_cons (m15) (ne_cons (n45.symm) ne_nil)))))
    rw [show (cells one0).setIfInBounds 0 (.int .u64 0) = cells none0 from rfl] at hk
    go_upto_region 6 with fail
    generalize World.setCell _ ⟨q5, 0, none⟩ (.int .u64 0) = X1 at hk ⊢
    clear cc ff
    replace hk := rot6 hk
    have cc := IsRt.vols (r := one0) (p := q6) (hk.at_ (q := q6) (o := (.cells (cells one0) 25 (0, 0))) (by simp))
    have ff := IsRt.frozen (r := one0) (p := q6) (hk.at_ (q := q6) (o := (.cells (cells one0) 25 (0, 0))) (by simp)) 7
    replace hk := hk.setCell (j := 7) (v := .int .u8 1) (ne_cons (n67) (ne_cons (m26) (ne_cons (m16) (ne_cons (n46.symm) (ne_cons (n56.symm) ne_nil)))))
    rw [show (cells one0).setIfInBounds 7 (.int .u8 1) = cells vols0 from rfl] at hk
    go_upto_region 7 with fail
    generalize World.setCell _ ⟨q6, 7, none⟩ (.int .u8 1) = X2 at hk ⊢
    clear cc ff
    replace hk := rot6 hk
    have cc := IsRt.names (r := one0) (p := q7) (hk.at_ (q := q7) (o := (.cells (cells one0) 25 (0, 0))) (by simp))
    have ff := IsRt.frozen (r := one0) (p := q7) (hk.at_ (q := q7) (o := (.cells (cells one0) 25 (0, 0))) (by simp)) 3
    replace hk := hk.setCell (j := 3) (v := .int .u32 64) (ne_cons (m27) (ne_cons (m17) (ne_cons (n47.symm) (ne_cons (n57.symm) (ne_cons (n67.symm) ne_nil)))))
    rw [show (cells one0).setIfInBounds 3 (.int .u32 64) = cells far0 from rfl] at hk
    go_upto_region 8 with fail
    generalize World.setCell _ ⟨q7, 3, none⟩ (.int .u32 64) = X3 at hk ⊢
    clear cc ff
    replace hk := rot6 hk
    go_wp2_with (refine wpList_load_row rfl 25 _ rfl q4 rfl _ _ _ _ (hk.at_ (q := q4) (o := (.cells (cells three0) 25 (0, 0))) (by simp)) Try.underlying25 rfl (sizeR three0) ?_)
    refine (Put_three _).mono ?_
    rintro e W3 ⟨rfl, hx⟩
    replace hk := (hk.below hx).alloc (.cells (cellsOf B3) 27)
    clear hx
    have tok : True := trivial
    go_wp2_with (first
      | (have _t := tok; refine wpList_store_new rfl 27 _ _ rfl (cellsOf B3) _ _ rfl rfl hi3 hz3 (cellsOf_one _) ?_; generalize W3.heap.size = p8 at hk ⊢; generalize W3.alloc (.cells (cellsOf B3) 27) = W4 at hk ⊢; clear _t tok)
      | (refine wpList_load_row rfl 27 _ rfl p2 rfl _ _ _ _ (hk.at_ (q := p2) (o := (.cells (cellsOf B1) 27 (0, 0))) (by simp)) Try.underlying27 rfl hi1 ?_)
      | (refine wpList_load_row rfl 27 _ rfl p8 rfl _ _ _ _ (hk.at_ (q := p8) (o := (.cells (cellsOf B3) 27 (0, 0))) (by simp)) Try.underlying27 rfl hi3 ?_))
    refine (Torn_1 _).mono ?_
    rintro e W5 ⟨rfl, hx⟩
    replace hk := hk.below hx
    clear hx
    go_wp2_with fail
    refine (Get_torn _).mono ?_
    rintro e W6 ⟨rfl, hx⟩
    replace hk := (hk.below hx).alloc (.cells (cells nil) 25)
    clear hx
    have tok : True := trivial
    go_wp2_with (first
      | (have _t := tok; refine wpList_store_new rfl 25 _ _ rfl (cells nil) _ _ rfl rfl (sizeR nil) rfl (cells_one _) ?_; generalize W6.heap.size = p10 at hk ⊢; generalize W6.alloc (.cells (cells nil) 25) = W7 at hk ⊢; clear _t tok)
      | (refine wpList_load_row rfl 27 _ rfl p2 rfl _ _ _ _ (hk.at_ (q := p2) (o := (.cells (cellsOf B1) 27 (0, 0))) (by simp)) Try.underlying27 rfl hi1 ?_)
      | (refine wpList_load_row rfl 27 _ rfl p8 rfl _ _ _ _ (hk.at_ (q := p8) (o := (.cells (cellsOf B3) 27 (0, 0))) (by simp)) Try.underlying27 rfl hi3 ?_))
    refine (Torn_15 _).mono ?_
    rintro e W8 ⟨rfl, hx⟩
    replace hk := hk.below hx
    clear hx
    go_wp2_with fail
    refine (Get_three _).mono ?_
    rintro e W9 ⟨rfl, hx⟩
    replace hk := (hk.below hx).alloc (.cells (cells three0) 25)
    clear hx
    have tok : True := trivial
    go_upto_region 12 with (have _t := tok; refine wpList_store_new rfl 25 _ _ rfl (cells three0) _ _ rfl rfl (sizeR three0) rfl (cells_one _) ?_; generalize W9.heap.size = p12 at hk ⊢; generalize W9.alloc (.cells (cells three0) 25) = W10 at hk ⊢; clear _t tok)
    have hcv := conv_at W10 p2 34 B1 _ B1_len (by omega) B1_want (hk.at_ (q := p2) (o := (.cells (cellsOf B1) 27 (0, 0))) (by simp))
    have heq := fun W : World => run_eqRoot W three0 three0
    rw [eqB_iff.2 rfl] at heq
    have hgr := fun (W : World) (op : BinOp) (x y : Operand) (xs ys : Array Value) => run_eqGuard_agg (P := Try.prog) W op 25 x y xs ys noGuardR
    have y1 : ∀ W, Calls Try.prog 8 #[.agg (cells one0)] W fun e w' => e = .returned (.bool true) ∧ Below W.heap.size W w' := fun W => by have := May_any one0 W; rw [one0_may] at this; exact this
    have y2 : ∀ W, Calls Try.prog 8 #[.agg (cells none0)] W fun e w' => e = .returned (.bool false) ∧ Below W.heap.size W w' := fun W => by have := May_any none0 W; rw [none0_may] at this; exact this
    have y3 : ∀ W, Calls Try.prog 8 #[.agg (cells vols0)] W fun e w' => e = .returned (.bool false) ∧ Below W.heap.size W w' := fun W => by have := May_any vols0 W; rw [vols0_may] at this; exact this
    have y4 : ∀ W, Calls Try.prog 8 #[.agg (cells far0)] W fun e w' => e = .returned (.bool false) ∧ Below W.heap.size W w' := fun W => by have := May_any far0 W; rw [far0_may] at this; exact this
    have Y1 := Lib.hid y1
    have Y2 := Lib.hid y2
    have Y3 := Lib.hid y3
    have Y4 := Lib.hid y4
    clear y1 y2 y3 y4
    unfold want0 at hcv
    go_wp2_with (first
      | (refine wpList_load_want (by rfl) 25 _ rfl p12 rfl _ _ _ _ (hk.at_ (q := p12) (o := (.cells (cells three0) 25 (0, 0))) (by simp)) Try.underlying25 rfl (sizeR three0) ?_)
      | (refine wpList_load_want (by rfl) 25 _ rfl q4 rfl _ _ _ _ (hk.at_ (q := q4) (o := (.cells (cells three0) 25 (0, 0))) (by simp)) Try.underlying25 rfl (sizeR three0) ?_)
      | (refine wpList_load_want (by rfl) 25 _ rfl p1 rfl _ _ _ _ (hk.at_ (q := p1) (o := (.cells (cells one0) 25 (0, 0))) (by simp)) Try.underlying25 rfl (sizeR one0) ?_)
      | (refine wpList_load_want (by rfl) 25 _ rfl q5 rfl _ _ _ _ (hk.at_ (q := q5) (o := (.cells (cells none0) 25 (0, 0))) (by simp)) Try.underlying25 rfl (sizeR none0) ?_)
      | (refine wpList_load_want (by rfl) 25 _ rfl q6 rfl _ _ _ _ (hk.at_ (q := q6) (o := (.cells (cells vols0) 25 (0, 0))) (by simp)) Try.underlying25 rfl (sizeR vols0) ?_)
      | (refine wpList_load_want (by rfl) 25 _ rfl q7 rfl _ _ _ _ (hk.at_ (q := q7) (o := (.cells (cells far0) 25 (0, 0))) (by simp)) Try.underlying25 rfl (sizeR far0) ?_)
      | (go_at_call 8; (first | (with_reducible refine (Y1.out _).mono ?_) | (with_reducible refine (Y2.out _).mono ?_) | (with_reducible refine (Y3.out _).mono ?_) | (with_reducible refine (Y4.out _).mono ?_)); rintro e WM ⟨rfl, hx⟩; replace hk := hk.below hx; clear hx))
    go_ret
    exact ⟨rfl, hk.bel⟩

end Go.Proofs.Ytdlgdnmmeopkjaa.Slt
