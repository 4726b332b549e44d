/-
  The walk of the law CardGets.
-/
import Derived.Test.YtmbmgncajfamiaaCrdHeadW
import Derived.Test.YtmbmgncajfamiaaCrdGet
import Derived.Test.YtmbmgncajfamiaaCrdRefGet
import Derived.Test.YtmbmgncajfamiaaCrdEq
namespace Go.Proofs.Ytmbmgncajfamiaa.Crd
open Go.RowKit RowLaw Crc Fld
set_option maxRecDepth 100000

set_option maxHeartbeats 6400000 in
theorem gets_any (l : List UInt8) (hl : l.length = 256) (sl : Bool) (w : World) :
    Calls Try.prog 4 #[.agg (cellsOf l), .bool sl] w fun e w' => e = .returned (.bool true) ∧ Below w.heap.size w w' := by
  obtain ⟨L, hL⟩ : ∃ L, L = if sl = true then sealB l else l := ⟨_, rfl⟩
  have hLl : L.length = 256 := by
    rw [hL]
    split
    · exact sealB_length hl
    · exact hl
  have hzc := (zero_of_info infoC).1
  have hzb := (zero_of_info infoBlock).1
  have hi := sizeBlock L hLl
  have hi0 := sizeBlock l hl
  have hz : (cellsOf zeros).size = (cellsOf L).size := by rw [cellsOf_size, cellsOf_size, hLl, zeros_length]
  have hz0 : (cellsOf l).size = (cellsOf L).size := by rw [cellsOf_size, cellsOf_size, hLl, hl]
  have hg := fun W => Get_any L hLl W
  have hrg := fun W => refGet_any L hLl W
  have hp := fun W => Put_any (getC L) (getC_fits L) W
  have hf : getE L = 0 → putB (getC L) = L ∧ putE (getC L) = 0 := forth hLl
  have hE := getE_cases L
  have heqB := fun W : World => run_eqBlock W L L hLl hLl
  rw [decide_eq_true rfl] at heqB
  generalize getE L = E at hg hrg hf hE
  generalize getC L = R at hg hrg hp hf
  have heqC := fun W : World => run_eqCard W R R
  rw [eqB_iff.2 rfl] at heqC
  have hgb := fun (W : World) (op : BinOp) (x y : Operand) (xs ys : Array Value) => run_eqGuard_agg (P := Try.prog) W op 29 x y xs ys noGuard
  have hgc := fun (W : World) (op : BinOp) (x y : Operand) (xs ys : Array Value) => run_eqGuard_agg (P := Try.prog) W op 26 x y xs ys noGuardC
  have hEE : (E != E) = false := by simp
  have hseal := fun W => refSeal_any l hl W
  have HG := Lib.hid hg
  have HRG := Lib.hid hrg
  have HP := Lib.hid hp
  have HF := Lib.hid hf
  have HSL := Lib.hid hseal
  clear hg hrg hp hf hseal
  have hk : Kept w [(w.heap.size, .cells (cellsOf l) 29 (0, 0))] (w.alloc (.cells (cellsOf l) 29)) := (Kept.start w).alloc _
  cases sl with
  | false =>
    rw [if_neg (by decide)] at hL
    rw [← hL] at hk ⊢
    clear HSL hL
    go_enter Try.func4, Try.ntmps4
    go_wp2_with (refine wpList_load_row rfl 29 _ rfl w.heap.size rfl _ _ _ _ (hk.at_ (q := w.heap.size) (o := .cells (cellsOf L) 29 (0, 0)) (by simp)) Try.underlying29 rfl hi ?_)
    refine (HG.out _).mono ?_
    rintro e W3 ⟨rfl, hx⟩
    have h3 := (hk.below hx).alloc (.cells (cells R) 26)
    clear hk hx
    have tok : True := trivial
    go_wp2_with (first | (have _t := tok; refine wpList_store_new rfl 26 _ _ rfl (cells R) _ _ rfl rfl (sizeC R) rfl (cells_one _) ?_; generalize W3.heap.size = q5 at h3 ⊢; generalize W3.alloc (.cells (cells R) 26) = W4 at h3 ⊢; clear _t tok) | (refine wpList_load_row rfl 29 _ rfl w.heap.size rfl _ _ _ _ (h3.at_ (q := w.heap.size) (o := .cells (cellsOf L) 29 (0, 0)) (by simp)) Try.underlying29 rfl hi ?_))
    refine (HRG.out _).mono ?_
    rintro e W5 ⟨rfl, hx⟩
    have h4 := (h3.below hx).alloc (.cells (cells R) 26)
    clear h3 hx
    have tok : True := trivial
    rcases hE with rfl | rfl
    · obtain ⟨y1, y2⟩ := HF.out rfl
      rw [y1, y2] at HP
      clear y1 y2
      go_wp2_with (first | (have _t := tok; refine wpList_store_new rfl 26 _ _ rfl (cells R) _ _ rfl rfl (sizeC R) rfl (cells_one _) ?_; generalize W5.heap.size = q7 at h4 ⊢; generalize W5.alloc (.cells (cells R) 26) = W6 at h4 ⊢; clear _t tok) | (refine wpList_load_row rfl 26 _ rfl q5 rfl _ _ _ _ (h4.at_ (q := q5) (o := .cells (cells R) 26 (0, 0)) (by simp)) Try.underlying26 rfl (sizeC R) ?_) | (refine wpList_load_row rfl 26 _ rfl q7 rfl _ _ _ _ (h4.at_ (q := q7) (o := .cells (cells R) 26 (0, 0)) (by simp)) Try.underlying26 rfl (sizeC R) ?_))
      refine (HP.out _).mono ?_
      rintro e W7 ⟨rfl, hx⟩
      have h5 := (h4.below hx).alloc (.cells (cellsOf L) 29)
      clear h4 hx
      have tok : True := trivial
      go_wp2_with (first | (have _t := tok; refine wpList_store_new rfl 29 _ _ rfl (cellsOf L) _ _ rfl rfl hi hz (cellsOf_one _) ?_; generalize W7.heap.size = q9 at h5 ⊢; generalize W7.alloc (.cells (cellsOf L) 29) = W8 at h5 ⊢; clear _t tok) | (refine wpList_load_row rfl 29 _ rfl q9 rfl _ _ _ _ (h5.at_ (q := q9) (o := .cells (cellsOf L) 29 (0, 0)) (by simp)) Try.underlying29 rfl hi ?_) | (refine wpList_load_row rfl 29 _ rfl w.heap.size rfl _ _ _ _ (h5.at_ (q := w.heap.size) (o := .cells (cellsOf L) 29 (0, 0)) (by simp)) Try.underlying29 rfl hi ?_) | (go_at_call 7; (with_reducible refine (head_any _).mono ?_); rintro e WZ ⟨rfl, hx⟩; have hbel := h5.bel.trans (hx.mono h5.bel.size)))
      go_ret
      exact ⟨rfl, hbel⟩
    · go_wp2_with (first | (have _t := tok; refine wpList_store_new rfl 26 _ _ rfl (cells R) _ _ rfl rfl (sizeC R) rfl (cells_one _) ?_; generalize W5.heap.size = q7 at h4 ⊢; generalize W5.alloc (.cells (cells R) 26) = W6 at h4 ⊢; clear _t tok) | (refine wpList_load_row rfl 26 _ rfl q5 rfl _ _ _ _ (h4.at_ (q := q5) (o := .cells (cells R) 26 (0, 0)) (by simp)) Try.underlying26 rfl (sizeC R) ?_) | (refine wpList_load_row rfl 26 _ rfl q7 rfl _ _ _ _ (h4.at_ (q := q7) (o := .cells (cells R) 26 (0, 0)) (by simp)) Try.underlying26 rfl (sizeC R) ?_) | (go_at_call 7; (with_reducible refine (head_any _).mono ?_); rintro e WZ ⟨rfl, hx⟩; have hbel := h4.bel.trans (hx.mono h4.bel.size)))
      go_ret
      exact ⟨rfl, hbel⟩
  | true =>
    rw [if_pos rfl] at hL
    rw [← hL] at HSL
    clear hL
    go_enter Try.func4, Try.ntmps4
    go_wp2_with (refine wpList_load_row rfl 29 _ rfl w.heap.size rfl _ _ _ _ (hk.at_ (q := w.heap.size) (o := .cells (cellsOf l) 29 (0, 0)) (by simp)) Try.underlying29 rfl hi0 ?_)
    refine (HSL.out _).mono ?_
    rintro e W1 ⟨rfl, hx⟩
    replace hk := hk.below hx
    clear hx
    have hR := hk.at_ (q := w.heap.size) (o := .cells (cellsOf l) 29 (0, 0)) (by simp)
    have hk2 := hk.setRow (cs' := cellsOf L) (by intro x hx; cases hx)
    go_wp2_with (first | (refine wpList_store_row rfl 29 _ _ rfl w.heap.size _ rfl rfl _ _ hR hi hz0 (cellsOf_one _) ?_; generalize World.setRow _ w.heap.size (cellsOf L) = W2 at hk2 ⊢; clear hR hk) | (refine wpList_load_row rfl 29 _ rfl w.heap.size rfl _ _ _ _ (hk2.at_ (q := w.heap.size) (o := .cells (cellsOf L) 29 (0, 0)) (by simp)) Try.underlying29 rfl hi ?_))
    refine (HG.out _).mono ?_
    rintro e W3 ⟨rfl, hx⟩
    have h3 := (hk2.below hx).alloc (.cells (cells R) 26)
    clear hk2 hx
    have tok : True := trivial
    go_wp2_with (first | (have _t := tok; refine wpList_store_new rfl 26 _ _ rfl (cells R) _ _ rfl rfl (sizeC R) rfl (cells_one _) ?_; generalize W3.heap.size = q5 at h3 ⊢; generalize W3.alloc (.cells (cells R) 26) = W4 at h3 ⊢; clear _t tok) | (refine wpList_load_row rfl 29 _ rfl w.heap.size rfl _ _ _ _ (h3.at_ (q := w.heap.size) (o := .cells (cellsOf L) 29 (0, 0)) (by simp)) Try.underlying29 rfl hi ?_))
    refine (HRG.out _).mono ?_
    rintro e W5 ⟨rfl, hx⟩
    have h4 := (h3.below hx).alloc (.cells (cells R) 26)
    clear h3 hx
    have tok : True := trivial
    rcases hE with rfl | rfl
    · obtain ⟨y1, y2⟩ := HF.out rfl
      rw [y1, y2] at HP
      clear y1 y2
      go_wp2_with (first | (have _t := tok; refine wpList_store_new rfl 26 _ _ rfl (cells R) _ _ rfl rfl (sizeC R) rfl (cells_one _) ?_; generalize W5.heap.size = q7 at h4 ⊢; generalize W5.alloc (.cells (cells R) 26) = W6 at h4 ⊢; clear _t tok) | (refine wpList_load_row rfl 26 _ rfl q5 rfl _ _ _ _ (h4.at_ (q := q5) (o := .cells (cells R) 26 (0, 0)) (by simp)) Try.underlying26 rfl (sizeC R) ?_) | (refine wpList_load_row rfl 26 _ rfl q7 rfl _ _ _ _ (h4.at_ (q := q7) (o := .cells (cells R) 26 (0, 0)) (by simp)) Try.underlying26 rfl (sizeC R) ?_))
      refine (HP.out _).mono ?_
      rintro e W7 ⟨rfl, hx⟩
      have h5 := (h4.below hx).alloc (.cells (cellsOf L) 29)
      clear h4 hx
      have tok : True := trivial
      go_wp2_with (first | (have _t := tok; refine wpList_store_new rfl 29 _ _ rfl (cellsOf L) _ _ rfl rfl hi hz (cellsOf_one _) ?_; generalize W7.heap.size = q9 at h5 ⊢; generalize W7.alloc (.cells (cellsOf L) 29) = W8 at h5 ⊢; clear _t tok) | (refine wpList_load_row rfl 29 _ rfl q9 rfl _ _ _ _ (h5.at_ (q := q9) (o := .cells (cellsOf L) 29 (0, 0)) (by simp)) Try.underlying29 rfl hi ?_) | (refine wpList_load_row rfl 29 _ rfl w.heap.size rfl _ _ _ _ (h5.at_ (q := w.heap.size) (o := .cells (cellsOf L) 29 (0, 0)) (by simp)) Try.underlying29 rfl hi ?_) | (go_at_call 7; (with_reducible refine (head_any _).mono ?_); rintro e WZ ⟨rfl, hx⟩; have hbel := h5.bel.trans (hx.mono h5.bel.size)))
      go_ret
      exact ⟨rfl, hbel⟩
    · go_wp2_with (first | (have _t := tok; refine wpList_store_new rfl 26 _ _ rfl (cells R) _ _ rfl rfl (sizeC R) rfl (cells_one _) ?_; generalize W5.heap.size = q7 at h4 ⊢; generalize W5.alloc (.cells (cells R) 26) = W6 at h4 ⊢; clear _t tok) | (refine wpList_load_row rfl 26 _ rfl q5 rfl _ _ _ _ (h4.at_ (q := q5) (o := .cells (cells R) 26 (0, 0)) (by simp)) Try.underlying26 rfl (sizeC R) ?_) | (refine wpList_load_row rfl 26 _ rfl q7 rfl _ _ _ _ (h4.at_ (q := q7) (o := .cells (cells R) 26 (0, 0)) (by simp)) Try.underlying26 rfl (sizeC R) ?_) | (go_at_call 7; (with_reducible refine (head_any _).mono ?_); rintro e WZ ⟨rfl, hx⟩; have hbel := h4.bel.trans (hx.mono h4.bel.size)))
      go_ret
      exact ⟨rfl, hbel⟩

end Go.Proofs.Ytmbmgncajfamiaa.Crd
