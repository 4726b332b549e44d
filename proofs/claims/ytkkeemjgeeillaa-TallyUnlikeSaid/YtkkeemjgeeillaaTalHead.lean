/-
  The statements' known answers of pages, and the walk of their head.
-/
import Derived.Test.YtkkeemjgeeillaaTalPutt
import Derived.Test.YtkkeemjgeeillaaTalGett
import Derived.Test.YtkkeemjgeeillaaTalEq
import Derived.Test.YtkkeemjgeeillaaTalBits
import Derived.Deep.Cut
namespace Go.Proofs.Ytkkeemjgeeillaa.Tal
open Go.RowKit RowLaw Crc Fld
set_option maxRecDepth 100000

def T300 : List Nat := (zs kT).set 0 300
theorem T300_length : T300.length = kT.n := rfl
theorem T300_lt : ∀ j (hj : j < T300.length), T300[j] < 256 ^ kT.wd := fun j hj => by
  have : ∀ x ∈ T300, x < 256 ^ kT.wd := by decide +kernel
  exact this _ (List.getElem_mem hj)
theorem T300_zeros : zerosIn T300 = 63 := by decide +kernel
def B1 : List UInt8 := pgB kT 1 T300
theorem B1_len : B1.length = 256 := pgB_length fT 1 T300_length
theorem B1_eight : B1.take 8 = [84, 1, 0, 0, 0, 44, 1, 0] := by decide +kernel
theorem getE_bad {k : PK} {l : List UInt8} {idx : Nat} (hi : idx < k.lim) (h : getE k l idx ≠ 0) : getE k l idx = 250 := by
  unfold getE at h ⊢
  rw [if_pos hi] at h ⊢
  split
  · rename_i hg; rw [if_pos hg] at h; exact absurd rfl h
  · rfl
theorem got_no {k : PK} {l : List UInt8} {idx : Nat} (h : getE k l idx ≠ 0) : getI k l idx = 0 ∧ getNs k l idx = zs k := ⟨if_neg h, if_neg h⟩
theorem Put_300 (w : World) : Calls Try.prog 6 #[.agg (pgCells .u16 1 T300)] w fun e w' => e = .returned (.tuple #[.agg (cellsOf B1), .int .i64 0]) ∧ Below w.heap.size w w' := Put_anyT 1 T300 T300_length T300_lt w
theorem Get_5 (w : World) : Calls Try.prog 12 #[.agg (cellsOf zeros), .int .u32 5] w fun e w' => e = .returned (.tuple #[.agg (pgCells .u16 5 (zs kT)), .int .i64 0]) ∧ Below w.heap.size w w' := by
  have h := Get_anyT zeros zeros_length 5 w
  have hE : getE kT zeros 5 = 0 := getE_zero.2 ⟨by decide, .inl rfl⟩
  rw [show getI kT zeros 5 = 5 from if_pos hE, show getNs kT zeros 5 = nsOf kT zeros from if_pos hE, hE, nsOf_zerosT] at h
  exact h
theorem Get_far (w : World) : Calls Try.prog 12 #[.agg (cellsOf zeros), .int .u32 16384] w fun e w' => e = .returned (.tuple #[.agg (pgCells .u16 0 (zs kT)), .int .i64 2]) ∧ Below w.heap.size w w' := by
  have h := Get_anyT zeros zeros_length 16384 w
  have hE : getE kT zeros 16384 = 2 := if_neg (by decide)
  have hg := got_no (k := kT) (l := zeros) (idx := 16384) (by rw [hE]; decide)
  rw [hg.1, hg.2, hE] at h
  exact h
theorem Get_2 (w : World) : Calls Try.prog 12 #[.agg (cellsOf B1), .int .u32 2] w fun e w' => e = .returned (.tuple #[.agg (pgCells .u16 0 (zs kT)), .int .i64 250]) ∧ Below w.heap.size w w' := by
  have h := Get_anyT B1 B1_len 2 w
  have h0 : getE kT B1 2 ≠ 0 := back_other fT (by decide) T300_length (by decide) (by decide) (by decide)
  have hE : getE kT B1 2 = 250 := getE_bad (by decide) h0
  have hg := got_no h0
  rw [hg.1, hg.2, hE] at h
  exact h
theorem Zeros_300 (w : World) : Calls Try.prog 10 #[.agg (pgCells .u16 1 T300)] w fun e w' => e = .returned (.int .i64 63) ∧ Below w.heap.size w w' := by
  have h := Zeros_any 1 T300 T300_length w
  rw [T300_zeros] at h
  exact h
theorem conv_eight (W : World) (b : Nat) (B l : List UInt8) (hB : B.length = 256) (ht : B.take 8 = l) (h : Holds W b B) :
    (convert 70 9 (.slice (some ⟨b, 0, none⟩) 8 256)).run Try.prog W = .ok (.string ⟨l.toArray⟩) W := by
  have hl : l.length = 8 := by rw [← ht, List.length_take]; omega
  have := run_convert_bytes_back (P := Try.prog) W 70 9 5 ⟨b, 0, none⟩ 256 l Try.underlying70 Try.underlying5 Try.underlying9 (fun j hj => by
    have hj2 : j < B.length := by omega
    rw [Addr.add_mid, Nat.zero_add, h.cell j hj2]
    subst ht
    simp)
  rw [hl] at this
  exact this

set_option maxHeartbeats 3200000 in
theorem head_any (w : World) : Calls Try.prog 14 #[] w fun e w' => e = .returned (.bool true) ∧ Below w.heap.size w w' := by
  have hzv := (zero_of_info infoBlock).1
  have hzt := (zero_of_info infoT).1
  have hzp := (zero_of_info infoP).1
  have hi1 := sizeBlock _ B1_len
  have hz1 : (cellsOf zeros).size = (cellsOf B1).size := by rw [cellsOf_size, cellsOf_size, B1_len, zeros_length]
  have ht0 := sizeT 0 (zs kT) (zs_length kT)
  have ht1 := sizeT 1 (zs kT) (zs_length kT)
  have ht3 := sizeT 1 T300 T300_length
  have ht5 := sizeT 5 (zs kT) (zs_length kT)
  have hp0 := sizeP 0 (zs kP) (zs_length kP)
  have hp7 := sizeP 0 one70 one70_length
  have hs1 : (pgCells .u16 0 (zs kT)).size = (pgCells .u16 1 (zs kT)).size := by rw [pgCells_size, pgCells_size]
  have hs5 : (pgCells .u16 0 (zs kT)).size = (pgCells .u16 5 (zs kT)).size := by rw [pgCells_size, pgCells_size]
  have hs7 : (pgCells .u64 0 (zs kP)).size = (pgCells .u64 0 one70).size := by rw [pgCells_size, pgCells_size, zs_length, one70_length]
  have hset1 : (pgCells .u16 0 (zs kT)).setIfInBounds 0 (.int .u32 1) = pgCells .u16 1 (zs kT) := pgCells_setIdx 0 1 (zs kT)
  have hset5 : (pgCells .u16 0 (zs kT)).setIfInBounds 0 (.int .u32 5) = pgCells .u16 5 (zs kT) := pgCells_setIdx 0 5 (zs kT)
  have h0 := (Kept.start w).alloc (.cells (pgCells .u16 1 (zs kT)) 26)
  have c0 : (w.alloc (.cells (pgCells .u16 1 (zs kT)) 26)).cell? ⟨w.heap.size, 1, none⟩ = some (.int .u16 0) := (IsPg.new .u16 26 w 1 (zs kT)).num 0 (by decide)
  have f0 : (w.alloc (.cells (pgCells .u16 1 (zs kT)) 26)).frozen? ⟨w.heap.size, 1, none⟩ = false := (IsPg.new .u16 26 w 1 (zs kT)).frozen 1
  have e3 : (pgCells .u16 1 (zs kT)).setIfInBounds 1 (.int .u16 300) = pgCells .u16 1 T300 := pgCells_set 1 (zs kT) 0 300
  have E3 := Lib.hid e3; clear e3
  have hgt := fun (W : World) (op : BinOp) (x y : Operand) (xs ys : Array Value) => run_eqGuard_agg (P := Try.prog) W op 26 x y xs ys noGuardT
  have heq : ∀ W : World, (Op.equalIn 10000 26 (.agg (pgCells .u16 5 (zs kT))) (.agg (pgCells .u16 5 (zs kT)))).run Try.prog W = .ok true W := fun W => by rw [run_eqPgT W 5 5 (zs kT) (zs kT) (zs_length kT) (zs_length kT)]; simp
  have tok : True := trivial
  go_enter Try.func14, Try.ntmps14
  go_wp2_with (first
    | (have _t := tok; refine wpList_store_new rfl 26 _ _ rfl (pgCells .u16 1 (zs kT)) _ _ rfl rfl ht1 hs1 (pgCells_one _ _) ?_; generalize w.heap.size = q1 at h0 c0 f0 ⊢; generalize w.alloc (.cells (pgCells .u16 1 (zs kT)) 26) = W1 at h0 c0 f0 ⊢; clear _t tok; have h1 := h0.setCell (j := 1) (v := .int .u16 300) (fun x hx => by cases hx); rw [E3.out] at h1; clear h0)
    | (refine wpList_load_row rfl 26 _ rfl q1 rfl _ _ _ _ (h1.at_ List.mem_cons_self) Try.underlying26 rfl ht3 ?_; generalize W1.setCell ⟨q1, 1, none⟩ (.int .u16 300) = W2 at h1 ⊢; clear c0 f0))
  refine (Put_300 _).mono ?_
  rintro e W3 ⟨rfl, hx⟩
  have h2 := (h1.below hx).alloc (.cells (cellsOf B1) 32)
  clear h1 hx
  have tok : True := trivial
  go_wp2_with (first
    | (have _t := tok; refine wpList_store_new rfl 32 _ _ rfl (cellsOf B1) _ _ rfl rfl hi1 hz1 (cellsOf_one _) ?_; generalize W3.heap.size = q2 at h2 ⊢; generalize W3.alloc (.cells (cellsOf B1) 32) = W4 at h2 ⊢; clear _t tok))
  refine (Get_5 _).mono ?_
  rintro e W5 ⟨rfl, hx⟩
  have h3 := (h2.below hx).alloc (.cells (pgCells .u16 5 (zs kT)) 26)
  clear h2 hx
  have tok : True := trivial
  go_wp2_with (first
    | (have _t := tok; refine wpList_store_new rfl 26 _ _ rfl (pgCells .u16 5 (zs kT)) _ _ rfl rfl ht5 hs5 (pgCells_one _ _) ?_; generalize W5.heap.size = q4 at h3 ⊢; generalize W5.alloc (.cells (pgCells .u16 5 (zs kT)) 26) = W6 at h3 ⊢; clear _t tok))
  refine (Get_far _).mono ?_
  rintro e W7 ⟨rfl, hx⟩
  have h4 := (h3.below hx).alloc (.cells (pgCells .u16 0 (zs kT)) 26)
  clear h3 hx
  have tok : True := trivial
  go_wp2_with (first
    | (have _t := tok; refine wpList_store_new rfl 26 _ _ rfl (pgCells .u16 0 (zs kT)) _ _ rfl rfl ht0 rfl (pgCells_one _ _) ?_; generalize W7.heap.size = q6 at h4 ⊢; generalize W7.alloc (.cells (pgCells .u16 0 (zs kT)) 26) = W8 at h4 ⊢; clear _t tok)
    | (refine wpList_load_row rfl 32 _ rfl q2 rfl _ _ _ _ (h4.at_ (q := q2) (o := .cells (cellsOf B1) 32) (by simp)) Try.underlying32 rfl hi1 ?_))
  refine (Get_2 _).mono ?_
  rintro e W9 ⟨rfl, hx⟩
  have h5 := (h4.below hx).alloc (.cells (pgCells .u16 0 (zs kT)) 26)
  clear h4 hx
  have tok : True := trivial
  go_wp2_with (first
    | (have _t := tok; refine wpList_store_new rfl 26 _ _ rfl (pgCells .u16 0 (zs kT)) _ _ rfl rfl ht0 rfl (pgCells_one _ _) ?_; generalize W9.heap.size = q8 at h5 ⊢; generalize W9.alloc (.cells (pgCells .u16 0 (zs kT)) 26) = W10 at h5 ⊢; clear _t tok))
  refine (Turn_70 _).mono ?_
  rintro e W11 ⟨rfl, hx⟩
  have h6 := (h5.below hx).alloc (.cells (pgCells .u64 0 one70) 30)
  clear h5 hx
  have tok : True := trivial
  go_wp2_with (first
    | (have _t := tok; refine wpList_store_new rfl 30 _ _ rfl (pgCells .u64 0 one70) _ _ rfl rfl hp7 hs7 (pgCells_one _ _) ?_; generalize W11.heap.size = q10 at h6 ⊢; generalize W11.alloc (.cells (pgCells .u64 0 one70) 30) = W12 at h6 ⊢; clear _t tok)
    | (refine wpList_load_row rfl 30 _ rfl q10 rfl _ _ _ _ (h6.at_ (q := q10) (o := .cells (pgCells .u64 0 one70) 30) (by simp)) Try.underlying30 rfl hp7 ?_))
  refine (Bit_70 _).mono ?_
  rintro e W13 ⟨rfl, hx⟩
  replace h6 := h6.below hx
  clear hx
  go_wp2_with (refine wpList_load_row rfl 30 _ rfl q10 rfl _ _ _ _ (h6.at_ (q := q10) (o := .cells (pgCells .u64 0 one70) 30) (by simp)) Try.underlying30 rfl hp7 ?_)
  refine (Turn_1024 _).mono ?_
  rintro e W14 ⟨rfl, hx⟩
  have h7 := (h6.below hx).alloc (.cells (pgCells .u64 0 (zs kP)) 30)
  clear h6 hx
  have tok : True := trivial
  go_upto_region 10 with (have _t := tok; refine wpList_store_new rfl 30 _ _ rfl (pgCells .u64 0 (zs kP)) _ _ rfl rfl hp0 rfl (pgCells_one _ _) ?_; generalize W14.heap.size = q14 at h7 ⊢; generalize W14.alloc (.cells (pgCells .u64 0 (zs kP)) 30) = WX at h7 ⊢; clear _t tok; have hcv := conv_eight WX q2 B1 _ B1_len B1_eight (h7.at_ (q := q2) (o := .cells (cellsOf B1) 32) (by simp)); have m4 := (h7.at_ (q := q4) (o := .cells (pgCells .u16 5 (zs kT)) 26) (by simp)); have m1 := (h7.at_ (q := q1) (o := .cells (pgCells .u16 1 T300) 26) (by simp)))
  go_wp2_with (first
    | (refine wpList_load_want (by rfl) 26 _ rfl q4 rfl _ _ _ _ m4 Try.underlying26 rfl ht5 ?_)
    | (refine wpList_load_want (by rfl) 26 _ rfl q1 rfl _ _ _ _ m1 Try.underlying26 rfl ht3 ?_))
  refine (Zeros_300 _).mono ?_
  rintro e WZ ⟨rfl, hx⟩
  have hb := (h7.below hx).bel
  clear h7 hx m1 m4 hcv
  go_wp2_with fail
  go_ret
  exact ⟨rfl, hb⟩

end Go.Proofs.Ytkkeemjgeeillaa.Tal
