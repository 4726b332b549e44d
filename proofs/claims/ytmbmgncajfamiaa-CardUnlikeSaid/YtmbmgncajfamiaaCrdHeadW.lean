/-
  The walk of the head of the statements on cards.
-/
import Derived.Test.YtmbmgncajfamiaaCrdHead
import Derived.Deep.RegionHeld3
import Derived.Deep.Cut
namespace Go.Proofs.Ytmbmgncajfamiaa.Crd
open Go.RowKit RowLaw Crc Fld
open Go.Proofs.Ytmbmgncajfamiaa.R32 (Own32 RowAns Row32)
open Go.Proofs.Ytmbmgncajfamiaa.Node (kidsOf)
set_option maxRecDepth 100000

theorem wpAnyH_act {P : Program} {md : Region.Mode} {ops : Array Oper} {Q : Exit → Act → World → Prop} {S : World → Prop} {fuel : Nat} {listed : Array Bool} {a : Act} {w : World} (h : ∀ a0, a0 = a → wpAnyH P md ops Q S fuel listed a0 w) : wpAnyH P md ops Q S fuel listed a w := h a rfl

theorem rot8 {w W : World} {x a b c d e f g : Nat × Obj} (h : Kept w [x, a, b, c, d, e, f, g] W) : Kept w [a, b, c, d, e, f, g, x] W := h.less (by
  intro y hy
  simp only [List.mem_cons, List.not_mem_nil, or_false] at hy
  rcases hy with rfl | rfl | rfl | rfl | rfl | rfl | rfl | rfl <;> simp)
theorem two_of {w W : World} {K : List (Nat × Obj)} {x y : Nat × Obj} (h : Kept w K W) (h1 : x ∈ K) (h2 : y ∈ K) : Kept w [x, y] W := h.less (by
  intro z hz
  simp only [List.mem_cons, List.not_mem_nil, or_false] at hz
  rcases hz with rfl | rfl
  · exact h1
  · exact h2)
theorem ne7 {q a b c d e f g : Nat} {oa ob oc od oe of og : Obj} (ha : a ≠ q) (hb : b ≠ q) (hc : c ≠ q) (hd : d ≠ q) (he : e ≠ q) (hf : f ≠ q) (hg : g ≠ q) : ∀ x ∈ [(a, oa), (b, ob), (c, oc), (d, od), (e, oe), (f, of), (g, og)], x.1 ≠ q := by
  intro x hx
  simp only [List.mem_cons, List.not_mem_nil, or_false] at hx
  rcases hx with rfl | rfl | rfl | rfl | rfl | rfl | rfl
  · exact ha
  · exact hb
  · exact hc
  · exact hd
  · exact he
  · exact hf
  · exact hg

set_option maxHeartbeats 6400000 in
theorem head_any (w : World) : Calls Try.prog 7 #[] w fun e w' => e = .returned (.bool true) ∧ Below w.heap.size w w' := by
  have hzc := (zero_of_info infoC).1
  have hzb := (zero_of_info infoBlock).1
  have hi1 := sizeBlock _ B1_len
  have hz1 : (cellsOf zeros).size = (cellsOf B1).size := by rw [cellsOf_size, cellsOf_size, B1_len, zeros_length]
  go_enter Try.func7, Try.ntmps7
  go_wp2_with fail
  refine (one_any _).mono ?_
  rintro e W1 ⟨rfl, hx⟩
  have hk1 := ((Kept.start w).below hx).alloc (cardO one0)
  clear hx
  unfold cardO at hk1
  have tok : True := trivial
  go_wp2_with (first
    | (have _t := tok; refine wpList_store_new rfl 26 _ _ rfl (cells one0) _ _ rfl rfl (sizeC one0) rfl (cells_one _) ?_; generalize W1.heap.size = p1 at hk1 ⊢; generalize W1.alloc (.cells (cells one0) 26) = W2 at hk1 ⊢; clear _t tok)
    | (refine wpList_load_row rfl 26 _ rfl p1 rfl _ _ _ _ (hk1.at_ (q := p1) (o := .cells (cells one0) 26 (0, 0)) (by simp)) Try.underlying26 rfl (sizeC one0) ?_))
  refine (Put_one _).mono ?_
  rintro e W3 ⟨rfl, hx⟩
  have hk2 := (hk1.below hx).alloc (blockO B1)
  clear hk1 hx
  unfold blockO at hk2
  have tok : True := trivial
  go_upto_region 3 with (have _t := tok; refine wpList_store_new rfl 29 _ _ rfl (cellsOf B1) _ _ rfl rfl hi1 hz1 (cellsOf_one _) ?_; generalize W3.heap.size = p2 at hk2 ⊢; generalize W3.alloc (.cells (cellsOf B1) 29) = W4 at hk2 ⊢; clear _t tok)
  -- the region
  refine wp_region_noPanic ?_
  refine wp_region_held_drew (S := Kept w [(p2, Obj.cells (cellsOf B1) 29 (0, 0)), (p1, Obj.cells (cells one0) 26 (0, 0))]) (by kernel_rfl) hk2.drew ?_
  intro hS
  replace hk2 := trivial
  generalize W4.drew = W5 at hS ⊢
  refine wpAnyH_take (i := 0) (v := .agg (cells one0)) rfl (by kernel_rfl) (by kernel_rfl) (by kernel_rfl) (fun _ _ _ h => (h : False).elim) (yieldsIf_load_row (by rfl) 26 _ rfl p1 rfl _ _ _ _ (fun _ h => h.at_ (q := p1) (o := .cells (cells one0) 26 (0, 0)) (by simp)) Try.underlying26 rfl (sizeC one0)) hS ?_
  change wpAnyH _ _ _ _ _ _ _ (Act.put _ (some 17) _) _
  simp only [Act.put, List.setIfInBounds_toArray, List.set_cons_succ, List.set_cons_zero]
  refine wpAnyH_take (i := 1) (v := .agg (cells one0)) rfl (by kernel_rfl) (by kernel_rfl) (by kernel_rfl) (fun _ _ _ h => (h : False).elim) (yieldsIf_load_row (by rfl) 26 _ rfl p1 rfl _ _ _ _ (fun _ h => h.at_ (q := p1) (o := .cells (cells one0) 26 (0, 0)) (by simp)) Try.underlying26 rfl (sizeC one0)) hS ?_
  change wpAnyH _ _ _ _ _ _ _ (Act.put _ (some 18) _) _
  simp only [Act.put, List.setIfInBounds_toArray, List.set_cons_succ, List.set_cons_zero]
  refine wpAnyH_take (i := 2) (v := .agg (cells one0)) rfl (by kernel_rfl) (by kernel_rfl) (by kernel_rfl) (fun _ _ _ h => (h : False).elim) (yieldsIf_load_row (by rfl) 26 _ rfl p1 rfl _ _ _ _ (fun _ h => h.at_ (q := p1) (o := .cells (cells one0) 26 (0, 0)) (by simp)) Try.underlying26 rfl (sizeC one0)) hS ?_
  change wpAnyH _ _ _ _ _ _ _ (Act.put _ (some 19) _) _
  simp only [Act.put, List.setIfInBounds_toArray, List.set_cons_succ, List.set_cons_zero]
  refine wpAnyH_take (i := 3) (v := .agg (cells one0)) rfl (by kernel_rfl) (by kernel_rfl) (by kernel_rfl) (fun _ _ _ h => (h : False).elim) (yieldsIf_load_row (by rfl) 26 _ rfl p1 rfl _ _ _ _ (fun _ h => h.at_ (q := p1) (o := .cells (cells one0) 26 (0, 0)) (by simp)) Try.underlying26 rfl (sizeC one0)) hS ?_
  change wpAnyH _ _ _ _ _ _ _ (Act.put _ (some 20) _) _
  simp only [Act.put, List.setIfInBounds_toArray, List.set_cons_succ, List.set_cons_zero]
  refine wpAnyH_take (i := 4) (v := .agg (cells one0)) rfl (by kernel_rfl) (by kernel_rfl) (by kernel_rfl) (fun _ _ _ h => (h : False).elim) (yieldsIf_load_row (by rfl) 26 _ rfl p1 rfl _ _ _ _ (fun _ h => h.at_ (q := p1) (o := .cells (cells one0) 26 (0, 0)) (by simp)) Try.underlying26 rfl (sizeC one0)) hS ?_
  change wpAnyH _ _ _ _ _ _ _ (Act.put _ (some 21) _) _
  simp only [Act.put, List.setIfInBounds_toArray, List.set_cons_succ, List.set_cons_zero]
  refine wpAnyH_take (i := 5) (v := .agg (cells one0)) rfl (by kernel_rfl) (by kernel_rfl) (by kernel_rfl) (fun _ _ _ h => (h : False).elim) (yieldsIf_load_row (by rfl) 26 _ rfl p1 rfl _ _ _ _ (fun _ h => h.at_ (q := p1) (o := .cells (cells one0) 26 (0, 0)) (by simp)) Try.underlying26 rfl (sizeC one0)) hS ?_
  change wpAnyH _ _ _ _ _ _ _ (Act.put _ (some 22) _) _
  simp only [Act.put, List.setIfInBounds_toArray, List.set_cons_succ, List.set_cons_zero]
  refine wpAnyH_act fun a0 ha0 => ?_
  have e0 : putAll a0 (fun _ => none) = a0 := by subst ha0; rfl
  rw [← e0]
  clear e0
  refine wpAnyH_allocs 6 12 6 lst6 (putAll a0) (Six w [(p2, Obj.cells (cellsOf B1) 29 (0, 0)), (p1, Obj.cells (cells one0) 26 (0, 0))]) cnt6 ?_ lst6_set cnt6_upd (fun _ _ h => h.kept) ?_ ?_ 6 (fun _ => none) W5 rfl (Six.start hS)
  · clear ha0 hS
    intro f hf
    refine ⟨?_, fun i him => ?_⟩
    · rcases cnt6_none hf with h | h | h | h | h | h
      · exact List.ne_nil_of_mem (mem_ready.2 ⟨(by simp [lst6, h] : (lst6 f).getD 6 true = false), _, rfl, fun e he => by simp at he⟩)
      · exact List.ne_nil_of_mem (mem_ready.2 ⟨(by simp [lst6, h] : (lst6 f).getD 7 true = false), _, rfl, fun e he => by simp at he⟩)
      · exact List.ne_nil_of_mem (mem_ready.2 ⟨(by simp [lst6, h] : (lst6 f).getD 8 true = false), _, rfl, fun e he => by simp at he⟩)
      · exact List.ne_nil_of_mem (mem_ready.2 ⟨(by simp [lst6, h] : (lst6 f).getD 9 true = false), _, rfl, fun e he => by simp at he⟩)
      · exact List.ne_nil_of_mem (mem_ready.2 ⟨(by simp [lst6, h] : (lst6 f).getD 10 true = false), _, rfl, fun e he => by simp at he⟩)
      · exact List.ne_nil_of_mem (mem_ready.2 ⟨(by simp [lst6, h] : (lst6 f).getD 11 true = false), _, rfl, fun e he => by simp at he⟩)
    · obtain ⟨hl, op, hop, hall⟩ := ready_mem him
      have hlt : i < 18 := (Array.getElem?_eq_some_iff.1 hop).1
      clear him
      rcases (by omega : i = 0 ∨ i = 1 ∨ i = 2 ∨ i = 3 ∨ i = 4 ∨ i = 5 ∨ i = 6 ∨ i = 7 ∨ i = 8 ∨ i = 9 ∨ i = 10 ∨ i = 11 ∨ i = 12 ∨ i = 13 ∨ i = 14 ∨ i = 15 ∨ i = 16 ∨ i = 17) with rfl | rfl | rfl | rfl | rfl | rfl | rfl | rfl | rfl | rfl | rfl | rfl | rfl | rfl | rfl | rfl | rfl | rfl
      · exact absurd hl (by simp [lst6])
      · exact absurd hl (by simp [lst6])
      · exact absurd hl (by simp [lst6])
      · exact absurd hl (by simp [lst6])
      · exact absurd hl (by simp [lst6])
      · exact absurd hl (by simp [lst6])
      · exact ⟨by omega, by omega, by cases h : f 6 with | none => rfl | some q => simp [lst6, h] at hl⟩
      · exact ⟨by omega, by omega, by cases h : f 7 with | none => rfl | some q => simp [lst6, h] at hl⟩
      · exact ⟨by omega, by omega, by cases h : f 8 with | none => rfl | some q => simp [lst6, h] at hl⟩
      · exact ⟨by omega, by omega, by cases h : f 9 with | none => rfl | some q => simp [lst6, h] at hl⟩
      · exact ⟨by omega, by omega, by cases h : f 10 with | none => rfl | some q => simp [lst6, h] at hl⟩
      · exact ⟨by omega, by omega, by cases h : f 11 with | none => rfl | some q => simp [lst6, h] at hl⟩
      · cases hop
        have k6 : (lst6 f).getD 6 false = true := hall ⟨6, .phase⟩ (by simp) rfl
        have k7 : (lst6 f).getD 7 false = true := hall ⟨7, .phase⟩ (by simp) rfl
        have k8 : (lst6 f).getD 8 false = true := hall ⟨8, .phase⟩ (by simp) rfl
        have k9 : (lst6 f).getD 9 false = true := hall ⟨9, .phase⟩ (by simp) rfl
        have k10 : (lst6 f).getD 10 false = true := hall ⟨10, .phase⟩ (by simp) rfl
        have k11 : (lst6 f).getD 11 false = true := hall ⟨11, .phase⟩ (by simp) rfl
        refine absurd ?_ hf
        simp only [lst6] at k6 k7 k8 k9 k10 k11
        unfold cnt6
        obtain ⟨x6, e6⟩ := Option.isSome_iff_exists.1 (show (f 6).isSome = true from k6)
        obtain ⟨x7, e7⟩ := Option.isSome_iff_exists.1 (show (f 7).isSome = true from k7)
        obtain ⟨x8, e8⟩ := Option.isSome_iff_exists.1 (show (f 8).isSome = true from k8)
        obtain ⟨x9, e9⟩ := Option.isSome_iff_exists.1 (show (f 9).isSome = true from k9)
        obtain ⟨x10, e10⟩ := Option.isSome_iff_exists.1 (show (f 10).isSome = true from k10)
        obtain ⟨x11, e11⟩ := Option.isSome_iff_exists.1 (show (f 11).isSome = true from k11)
        rw [e6, e7, e8, e9, e10, e11]
        rfl
      · cases hop
        have k : (lst6 f).getD 12 false = true := hall ⟨12, .chain⟩ (by simp) rfl
        simp [lst6] at k
      · cases hop
        have k : (lst6 f).getD 13 false = true := hall ⟨13, .chain⟩ (by simp) rfl
        simp [lst6] at k
      · cases hop
        have k : (lst6 f).getD 14 false = true := hall ⟨14, .chain⟩ (by simp) rfl
        simp [lst6] at k
      · cases hop
        have k : (lst6 f).getD 15 false = true := hall ⟨15, .chain⟩ (by simp) rfl
        simp [lst6] at k
      · cases hop
        have k : (lst6 f).getD 16 false = true := hall ⟨16, .chain⟩ (by simp) rfl
        simp [lst6] at k
  · intro i f W K h1 h2 h3 hI hK
    rcases (by omega : i = 6 ∨ i = 7 ∨ i = 8 ∨ i = 9 ∨ i = 10 ∨ i = 11) with rfl | rfl | rfl | rfl | rfl | rfl
    · exact wpOp_alloc _ rfl rfl 26 rfl (cells nil) hzc ((congrArg (fun x => K x (W.alloc (.cells (cells nil) 26))) (putAll_upd a0 f W.heap.size 6 (by omega) (by omega))).mpr (hK _ _ (hI.step 6)))
    · exact wpOp_alloc _ rfl rfl 26 rfl (cells nil) hzc ((congrArg (fun x => K x (W.alloc (.cells (cells nil) 26))) (putAll_upd a0 f W.heap.size 7 (by omega) (by omega))).mpr (hK _ _ (hI.step 7)))
    · exact wpOp_alloc _ rfl rfl 26 rfl (cells nil) hzc ((congrArg (fun x => K x (W.alloc (.cells (cells nil) 26))) (putAll_upd a0 f W.heap.size 8 (by omega) (by omega))).mpr (hK _ _ (hI.step 8)))
    · exact wpOp_alloc _ rfl rfl 26 rfl (cells nil) hzc ((congrArg (fun x => K x (W.alloc (.cells (cells nil) 26))) (putAll_upd a0 f W.heap.size 9 (by omega) (by omega))).mpr (hK _ _ (hI.step 9)))
    · exact wpOp_alloc _ rfl rfl 26 rfl (cells nil) hzc ((congrArg (fun x => K x (W.alloc (.cells (cells nil) 26))) (putAll_upd a0 f W.heap.size 10 (by omega) (by omega))).mpr (hK _ _ (hI.step 10)))
    · exact wpOp_alloc _ rfl rfl 26 rfl (cells nil) hzc ((congrArg (fun x => K x (W.alloc (.cells (cells nil) 26))) (putAll_upd a0 f W.heap.size 11 (by omega) (by omega))).mpr (hK _ _ (hI.step 11)))
  · intro f W hc hI
    obtain ⟨q4, q5, q6, q7, q8, q9, h6, h7, h8, h9, h10, h11, hk, n4, n5, n6, n7, n8, hn⟩ := hI.all hc
    have m2 := hn (p2, Obj.cells (cellsOf B1) 29 (0, 0)) (by simp)
    have m1 := hn (p1, Obj.cells (cells one0) 26 (0, 0)) (by simp)
    simp only at m1 m2
    clear hn hI hc hS
    unfold putAll lst6
    rw [h6, h7, h8, h9, h10, h11]
    clear h6 h7 h8 h9 h10 h11
    subst ha0
    simp only [vOf, Option.isSome, Act.put, List.setIfInBounds_toArray, List.set_cons_succ, List.set_cons_zero]
    unfold cardO at hk
    refine wpAnyH_ready (rs := [12]) (by kernel_rfl) (by simp) ?_
    refine AllReadyH.cons rfl (fun K hK => ?_) AllReadyH.nil
    rw [if_pos (by rfl)]
    refine wp_store_row 26 _ _ rfl q4 (cells one0) rfl rfl _ _ (hk.at_ (q := q4) (o := .cells (cells nil) 26 (0, 0)) (by simp)) (sizeC one0) rfl (cells_one _) ?_
    replace hk := hk.setRow (cs' := cells one0) (ne7 (((n4.1)).symm) (((n4.2.1)).symm) (((n4.2.2.1)).symm) (((n4.2.2.2.1)).symm) (((n4.2.2.2.2)).symm) (m2.1) (m1.1))
    generalize World.setRow _ q4 (cells one0) = W6 at hk ⊢
    replace hk := rot8 hk
    refine hK.out _ _ (two_of hk (by simp) (by simp)) (fun _ => ?_)
    clear hK K
    refine wpAnyH_ready (rs := [13]) (by kernel_rfl) (by simp) ?_
    refine AllReadyH.cons rfl (fun K hK => ?_) AllReadyH.nil
    rw [if_pos (by rfl)]
    refine wp_store_row 26 _ _ rfl q5 (cells one0) rfl rfl _ _ (hk.at_ (q := q5) (o := .cells (cells nil) 26 (0, 0)) (by simp)) (sizeC one0) rfl (cells_one _) ?_
    replace hk := hk.setRow (cs' := cells one0) (ne7 (((n5.1)).symm) (((n5.2.1)).symm) (((n5.2.2.1)).symm) (((n5.2.2.2)).symm) (m2.2.1) (m1.2.1) ((n4.1)))
    generalize World.setRow _ q5 (cells one0) = W7 at hk ⊢
    replace hk := rot8 hk
    refine hK.out _ _ (two_of hk (by simp) (by simp)) (fun _ => ?_)
    clear hK K
    refine wpAnyH_ready (rs := [14]) (by kernel_rfl) (by simp) ?_
    refine AllReadyH.cons rfl (fun K hK => ?_) AllReadyH.nil
    rw [if_pos (by rfl)]
    refine wp_store_row 26 _ _ rfl q6 (cells one0) rfl rfl _ _ (hk.at_ (q := q6) (o := .cells (cells nil) 26 (0, 0)) (by simp)) (sizeC one0) rfl (cells_one _) ?_
    replace hk := hk.setRow (cs' := cells one0) (ne7 (((n6.1)).symm) (((n6.2.1)).symm) (((n6.2.2)).symm) (m2.2.2.1) (m1.2.2.1) ((n4.2.1)) ((n5.1)))
    generalize World.setRow _ q6 (cells one0) = W8 at hk ⊢
    replace hk := rot8 hk
    refine hK.out _ _ (two_of hk (by simp) (by simp)) (fun _ => ?_)
    clear hK K
    refine wpAnyH_ready (rs := [15]) (by kernel_rfl) (by simp) ?_
    refine AllReadyH.cons rfl (fun K hK => ?_) AllReadyH.nil
    rw [if_pos (by rfl)]
    refine wp_store_row 26 _ _ rfl q7 (cells one0) rfl rfl _ _ (hk.at_ (q := q7) (o := .cells (cells nil) 26 (0, 0)) (by simp)) (sizeC one0) rfl (cells_one _) ?_
    replace hk := hk.setRow (cs' := cells one0) (ne7 (((n7.1)).symm) (((n7.2)).symm) (m2.2.2.2.1) (m1.2.2.2.1) ((n4.2.2.1)) ((n5.2.1)) ((n6.1)))
    generalize World.setRow _ q7 (cells one0) = W9 at hk ⊢
    replace hk := rot8 hk
    refine hK.out _ _ (two_of hk (by simp) (by simp)) (fun _ => ?_)
    clear hK K
    refine wpAnyH_ready (rs := [16]) (by kernel_rfl) (by simp) ?_
    refine AllReadyH.cons rfl (fun K hK => ?_) AllReadyH.nil
    rw [if_pos (by rfl)]
    refine wp_store_row 26 _ _ rfl q8 (cells one0) rfl rfl _ _ (hk.at_ (q := q8) (o := .cells (cells nil) 26 (0, 0)) (by simp)) (sizeC one0) rfl (cells_one _) ?_
    replace hk := hk.setRow (cs' := cells one0) (ne7 (((n8)).symm) (m2.2.2.2.2.1) (m1.2.2.2.2.1) ((n4.2.2.2.1)) ((n5.2.2.1)) ((n6.2.1)) ((n7.1)))
    generalize World.setRow _ q8 (cells one0) = W10 at hk ⊢
    replace hk := rot8 hk
    refine hK.out _ _ (two_of hk (by simp) (by simp)) (fun _ => ?_)
    clear hK K
    refine wpAnyH_ready (rs := [17]) (by kernel_rfl) (by simp) ?_
    refine AllReadyH.cons rfl (fun K hK => ?_) AllReadyH.nil
    rw [if_pos (by rfl)]
    refine wp_store_row 26 _ _ rfl q9 (cells one0) rfl rfl _ _ (hk.at_ (q := q9) (o := .cells (cells nil) 26 (0, 0)) (by simp)) (sizeC one0) rfl (cells_one _) ?_
    replace hk := hk.setRow (cs' := cells one0) (ne7 (m2.2.2.2.2.2) (m1.2.2.2.2.2) ((n4.2.2.2.2)) ((n5.2.2.2)) ((n6.2.2)) ((n7.2)) ((n8)))
    generalize World.setRow _ q9 (cells one0) = W11 at hk ⊢
    replace hk := rot8 hk
    refine hK.out _ _ (two_of hk (by simp) (by simp)) (fun _ => ?_)
    clear hK K
    refine wpAnyH_done (by kernel_rfl) ?_ _
    refine NoPanic.normal ?_
    replace hk := rot8 hk
    replace hk := rot8 hk
    have cc := IsCd.id (c := one0) (p := q4) (hk.at_ (q := q4) (o := .cells (cells one0) 26 (0, 0)) (by simp))
    have ff := IsCd.frozen (c := one0) (p := q4) (hk.at_ (q := q4) (o := .cells (cells one0) 26 (0, 0)) (by simp)) 3
    replace hk := hk.setCell (j := 3) (v := .int .u32 0) (ne7 (((n4.1)).symm) (((n4.2.1)).symm) (((n4.2.2.1)).symm) (((n4.2.2.2.1)).symm) (((n4.2.2.2.2)).symm) (m2.1) (m1.1))
    rw [show (cells one0).setIfInBounds 3 (.int .u32 0) = cells id0 from rfl] at hk
    go_upto_region 5 with fail
    generalize World.setCell _ ⟨q4, 3, none⟩ (.int .u32 0) = X0 at hk ⊢
    clear cc ff
    replace hk := rot8 hk
    have cc := IsCd.used (c := one0) (p := q5) (hk.at_ (q := q5) (o := .cells (cells one0) 26 (0, 0)) (by simp))
    have ff := IsCd.frozen (c := one0) (p := q5) (hk.at_ (q := q5) (o := .cells (cells one0) 26 (0, 0)) (by simp)) 6
    replace hk := hk.setCell (j := 6) (v := .int .u32 6) (ne7 (((n5.1)).symm) (((n5.2.1)).symm) (((n5.2.2.1)).symm) (((n5.2.2.2)).symm) (m2.2.1) (m1.2.1) ((n4.1)))
    rw [show (cells one0).setIfInBounds 6 (.int .u32 6) = cells used0 from rfl] at hk
    go_upto_region 6 with fail
    generalize World.setCell _ ⟨q5, 6, none⟩ (.int .u32 6) = X1 at hk ⊢
    clear cc ff
    replace hk := rot8 hk
    have cc := IsCd.root (c := one0) (p := q6) (hk.at_ (q := q6) (o := .cells (cells one0) 26 (0, 0)) (by simp))
    have ff := IsCd.frozen (c := one0) (p := q6) (hk.at_ (q := q6) (o := .cells (cells one0) 26 (0, 0)) (by simp)) 5
    replace hk := hk.setCell (j := 5) (v := .int .u32 0) (ne7 (((n6.1)).symm) (((n6.2.1)).symm) (((n6.2.2)).symm) (m2.2.2.1) (m1.2.2.1) ((n4.2.1)) ((n5.1)))
    rw [show (cells one0).setIfInBounds 5 (.int .u32 0) = cells root0 from rfl] at hk
    go_upto_region 7 with fail
    generalize World.setCell _ ⟨q6, 5, none⟩ (.int .u32 0) = X2 at hk ⊢
    clear cc ff
    replace hk := rot8 hk
    have cc := IsCd.only (c := one0) (p := q7) (hk.at_ (q := q7) (o := .cells (cells one0) 26 (0, 0)) (by simp))
    have ff := IsCd.frozen (c := one0) (p := q7) (hk.at_ (q := q7) (o := .cells (cells one0) 26 (0, 0)) (by simp)) 8
    replace hk := hk.setCell (j := 8) (v := .bool true) (ne7 (((n7.1)).symm) (((n7.2)).symm) (m2.2.2.2.1) (m1.2.2.2.1) ((n4.2.2.1)) ((n5.2.1)) ((n6.1)))
    rw [show (cells one0).setIfInBounds 8 (.bool true) = cells only0 from rfl] at hk
    go_upto_region 8 with fail
    generalize World.setCell _ ⟨q7, 8, none⟩ (.bool true) = X3 at hk ⊢
    clear cc ff
    replace hk := rot8 hk
    have cc := IsCd.right (c := one0) (p := q8) (hk.at_ (q := q8) (o := .cells (cells one0) 26 (0, 0)) (by simp))
    have ff := IsCd.frozen (c := one0) (p := q8) (hk.at_ (q := q8) (o := .cells (cells one0) 26 (0, 0)) (by simp)) 2
    replace hk := hk.setCell (j := 2) (v := .int .u32 7) (ne7 (((n8)).symm) (m2.2.2.2.2.1) (m1.2.2.2.2.1) ((n4.2.2.2.1)) ((n5.2.2.1)) ((n6.2.1)) ((n7.1)))
    rw [show (cells one0).setIfInBounds 2 (.int .u32 7) = cells right0 from rfl] at hk
    go_upto_region 9 with fail
    generalize World.setCell _ ⟨q8, 2, none⟩ (.int .u32 7) = X4 at hk ⊢
    clear cc ff
    replace hk := rot8 hk
    have cc := IsCd.name (c := one0) (p := q9) (hk.at_ (q := q9) (o := .cells (cells one0) 26 (0, 0)) (by simp))
    have ff := IsCd.frozen (c := one0) (p := q9) (hk.at_ (q := q9) (o := .cells (cells one0) 26 (0, 0)) (by simp)) 0
    replace hk := hk.setCell (j := 0) (v := .string ⟨#[]⟩) (ne7 (m2.2.2.2.2.2) (m1.2.2.2.2.2) ((n4.2.2.2.2)) ((n5.2.2.2)) ((n6.2.2)) ((n7.2)) ((n8)))
    rw [show (cells one0).setIfInBounds 0 (.string ⟨#[]⟩) = cells bare0 from rfl] at hk
    go_upto_region 10 with fail
    generalize World.setCell _ ⟨q9, 0, none⟩ (.string ⟨#[]⟩) = X5 at hk ⊢
    clear cc ff
    replace hk := rot8 hk
    go_wp2_with (refine wpList_load_row rfl 26 _ rfl p1 rfl _ _ _ _ (hk.at_ (q := p1) (o := .cells (cells one0) 26 (0, 0)) (by simp)) Try.underlying26 rfl (sizeC one0) ?_)
    refine (Kids_any one0 _).mono ?_
    rintro e Y ⟨v, rfl, ho, hx⟩
    replace hk := hk.below hx
    clear hx
    rw [kids0] at ho
    obtain ⟨pa, cap, rfl, hc⟩ := ho.row
    rcases hc with hc | ⟨g, off, rfl, hg, hc⟩
    · cases hc
    have k0 : Y.cell? ⟨g, off, none⟩ = some (.int .u32 7) := hc 0 (by decide)
    have k1 : Y.cell? ⟨g, off + 1, none⟩ = some (.int .u32 9) := hc 1 (by decide)
    have hcv := conv_four Y p2 B1 _ B1_len B1_four (hk.at_ (q := p2) (o := .cells (cellsOf B1) 29 (0, 0)) (by simp))
    clear ho hc
    have hm0 := one0_may
    have hm1 := id0_may
    have hm2 := used0_may
    have hm3 := root0_may
    have hm4 := only0_may
    have hm5 := right0_may
    have hm6 := bare0_may
    go_wp2_with (first | (refine wpList_load_want (by rfl) 26 _ rfl p1 rfl _ _ _ _ (hk.at_ (q := p1) (o := .cells (cells one0) 26 (0, 0)) (by simp)) Try.underlying26 rfl (sizeC one0) ?_) | (refine wpList_load_want (by rfl) 26 _ rfl q4 rfl _ _ _ _ (hk.at_ (q := q4) (o := .cells (cells id0) 26 (0, 0)) (by simp)) Try.underlying26 rfl (sizeC id0) ?_) | (refine wpList_load_want (by rfl) 26 _ rfl q5 rfl _ _ _ _ (hk.at_ (q := q5) (o := .cells (cells used0) 26 (0, 0)) (by simp)) Try.underlying26 rfl (sizeC used0) ?_) | (refine wpList_load_want (by rfl) 26 _ rfl q6 rfl _ _ _ _ (hk.at_ (q := q6) (o := .cells (cells root0) 26 (0, 0)) (by simp)) Try.underlying26 rfl (sizeC root0) ?_) | (refine wpList_load_want (by rfl) 26 _ rfl q7 rfl _ _ _ _ (hk.at_ (q := q7) (o := .cells (cells only0) 26 (0, 0)) (by simp)) Try.underlying26 rfl (sizeC only0) ?_) | (refine wpList_load_want (by rfl) 26 _ rfl q8 rfl _ _ _ _ (hk.at_ (q := q8) (o := .cells (cells right0) 26 (0, 0)) (by simp)) Try.underlying26 rfl (sizeC right0) ?_) | (refine wpList_load_want (by rfl) 26 _ rfl q9 rfl _ _ _ _ (hk.at_ (q := q9) (o := .cells (cells bare0) 26 (0, 0)) (by simp)) Try.underlying26 rfl (sizeC bare0) ?_) | (go_at_call 10; (with_reducible refine (May_any _ _).mono ?_); rintro e YY ⟨rfl, hx⟩; replace hk := hk.below hx; clear hx))
    go_ret
    exact ⟨rfl, hk.bel⟩

end Go.Proofs.Ytmbmgncajfamiaa.Crd
