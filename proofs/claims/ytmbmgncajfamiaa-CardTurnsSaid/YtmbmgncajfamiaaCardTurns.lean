/-
  The walk of the law CardTurns.
-/
import Derived.Test.YtmbmgncajfamiaaCrdHeadW
import Derived.Test.YtmbmgncajfamiaaCrdEq
import Derived.Deep.RegionHeld3
import Derived.Deep.Cut
namespace Go.Proofs.Ytmbmgncajfamiaa.Crd
open Go.RowKit RowLaw Crc Fld
open Go.Proofs.Ytmbmgncajfamiaa.R32 (below_drewN)
set_option maxRecDepth 100000

theorem getOf {l : List UInt8} (i : Nat) (h : i < l.length) : l[i]? = some l[i] := List.getElem?_eq_getElem h

set_option maxHeartbeats 12800000 in
theorem turns_any (c : Cd) (hc : c.Fits) (a b : Nat) (ha : a < 4294967296) (hb : b < 4294967296) (w : World) :
    Calls Try.prog 6 #[.agg (cells c), .int .u32 (a : Int), .int .u32 (b : Int)] w fun e w' => e = .returned (.bool true) ∧ Below w.heap.size w w' := by
  have hk : Kept w [(w.heap.size, .cells (cells c) 26 (0, 0))] (w.alloc (.cells (cells c) 26)) := (Kept.start w).alloc _
  have hzc := (zero_of_info infoC).1
  have hzb := (zero_of_info infoBlock).1
  obtain ⟨d, hd⟩ : ∃ d : Cd, d = { c with left := a, right := b } := ⟨_, rfl⟩
  obtain ⟨g, hgd⟩ : ∃ g : Cd, g = { c with only := !c.only } := ⟨_, rfl⟩
  have hdf : d.Fits := by rw [hd]; exact ⟨ha, hb, hc.id, hc.parent, hc.root, hc.used, hc.quota⟩
  have hgf : g.Fits := by rw [hgd]; exact ⟨hc.left, hc.right, hc.id, hc.parent, hc.root, hc.used, hc.quota⟩
  have hset : ((cells c).setIfInBounds 1 (.int .u32 (a : Int))).setIfInBounds 2 (.int .u32 (b : Int)) = cells d := by rw [hd]; simp [cells]
  have hset2 : (cells c).setIfInBounds 8 (.bool (!c.only)) = cells g := by rw [hgd]; simp [cells]
  have hpc := fun W => Put_any c hc W
  have hpd := fun W => Put_any d hdf W
  have hpg := fun W => Put_any g hgf W
  have hXl := putB_length c
  have hYl := putB_length d
  have hZl := putB_length g
  have hE : putE c = 0 ∨ putE c = 5 := by unfold putE; split <;> simp
  have hF : putE d = 0 ∨ putE d = 5 := by unfold putE; split <;> simp
  have hG : putE g = 0 ∨ putE g = 5 := by unfold putE; split <;> simp
  have hsame : putE c = 0 → putE d = 0 → ∀ i, i < 252 → (i < 26 ∨ 34 ≤ i) → (putB c)[i]? = (putB d)[i]? := fun h1 h2 i hi ho => by
    rw [putB_yes (putE_iff.1 h1), putB_yes (putE_iff.1 h2), hd]
    exact sides_same (mayB_iff.1 (putE_iff.1 h1)).1.2 a b i hi ho
  have honly : putE c = 0 → putE g = 0 → ∀ i, i < 252 → ((putB c)[i]? = (putB g)[i]? ↔ i ≠ 54) := fun h1 h2 i hi => by
    rw [putB_yes (putE_iff.1 h1), putB_yes (putE_iff.1 h2), hgd]
    exact only_turn (mayB_iff.1 (putE_iff.1 h1)).1.2 i hi
  have heq : putE c = 0 → putE d = 0 → decide (putB c = putB d) = eqB c d := fun h1 h2 => by
    rw [putB_yes (putE_iff.1 h1), putB_yes (putE_iff.1 h2), Bool.eq_iff_iff, decide_eq_true_eq, eqB_iff]
    exact ⟨cdB_inj (putE_iff.1 h1) (putE_iff.1 h2) hc hdf, fun h => by rw [h]⟩
  have hiX := sizeBlock _ hXl
  have hiY := sizeBlock _ hYl
  have hiZ := sizeBlock _ hZl
  have hzX : (cellsOf zeros).size = (cellsOf (putB c)).size := by rw [cellsOf_size, cellsOf_size, hXl, zeros_length]
  have hzY : (cellsOf zeros).size = (cellsOf (putB d)).size := by rw [cellsOf_size, cellsOf_size, hYl, zeros_length]
  have hzZ : (cellsOf zeros).size = (cellsOf (putB g)).size := by rw [cellsOf_size, cellsOf_size, hZl, zeros_length]
  have heqB := fun W : World => run_eqBlock W (putB c) (putB d) hXl hYl
  have heqC := fun W : World => run_eqCard W c d
  generalize putB c = X at hpc hXl hsame honly heq hiX hzX heqB
  generalize putB d = Y at hpd hYl hsame heq hiY hzY heqB
  generalize putB g = Z at hpg hZl honly hiZ hzZ
  generalize putE c = E at hpc hE hsame honly heq
  generalize putE d = FE at hpd hF hsame heq
  generalize putE g = GE at hpg hG honly
  have hgb := fun (W : World) (op : BinOp) (x y : Operand) (xs ys : Array Value) => run_eqGuard_agg (P := Try.prog) W op 29 x y xs ys noGuard
  have hgc := fun (W : World) (op : BinOp) (x y : Operand) (xs ys : Array Value) => run_eqGuard_agg (P := Try.prog) W op 26 x y xs ys noGuardC
  have HPC := Lib.hid hpc
  have HPD := Lib.hid hpd
  have HPG := Lib.hid hpg
  have HXL := Lib.hid hXl
  have HYL := Lib.hid hYl
  have HZL := Lib.hid hZl
  have HS := Lib.hid hsame
  have HO := Lib.hid honly
  have HQ := Lib.hid heq
  have HSET := Lib.hid hset
  have HSET2 := Lib.hid hset2
  have HEB := Lib.hid heqB
  have HEC := Lib.hid heqC
  clear hpc hpd hpg hXl hYl hZl hsame honly heq hset hset2 heqB heqC hd hgd hdf hgf hc ha hb
  go_enter Try.func6, Try.ntmps6
  go_upto_region 1 with fail
  generalize w.alloc (Obj.cells (cells c) 26) = W1 at hk ⊢
  have hk2 := hk.alloc (.cells (cells c) 26)
  have hlt := hk.lt_ (q := w.heap.size) (o := .cells (cells c) 26 (0, 0)) (by simp)
  have tok : True := trivial
  go_upto_region 2 with (first | (refine wpList_load_row rfl 26 _ rfl w.heap.size rfl _ _ _ _ (hk.at_ (q := w.heap.size) (o := .cells (cells c) 26 (0, 0)) (by simp)) Try.underlying26 rfl (sizeC c) ?_) | (have _t := tok; refine wpList_store_new rfl 26 _ _ rfl (cells c) _ _ rfl rfl (sizeC c) rfl (cells_one _) ?_; generalize W1.heap.size = q7 at hk2 hlt ⊢; generalize W1.alloc (.cells (cells c) 26) = W2 at hk2 ⊢; clear _t tok))
  have hne : ∀ x ∈ [(w.heap.size, Obj.cells (cells c) 26 (0, 0))], x.1 ≠ q7 := by intro x hx; simp only [List.mem_cons, List.not_mem_nil, or_false] at hx; subst hx; simp only; omega
  have cc := IsCd.left (c := c) (p := q7) (hk2.at_ (q := q7) (o := .cells (cells c) 26 (0, 0)) List.mem_cons_self)
  have ff := IsCd.frozen (c := c) (p := q7) (hk2.at_ (q := q7) (o := .cells (cells c) 26 (0, 0)) List.mem_cons_self) 1
  have hk3 := hk2.setCell (j := 1) (v := .int .u32 (a : Int)) hne
  clear hk2 hk
  go_upto_region 3 with fail
  generalize World.setCell _ ⟨q7, 1, none⟩ (.int .u32 (a : Int)) = W3 at hk3 ⊢
  clear cc ff
  have hq3 := hk3.at_ List.mem_cons_self
  have cc : W3.cell? ⟨q7, 2, none⟩ = some (.int .u32 (c.right : Int)) := (cell_of_row W3 q7 2 _ _ _ hq3).trans (by simp [cells])
  have ff := frozen_of_row W3 q7 2 _ _ hq3
  clear hq3
  have hk4 := hk3.setCell (j := 2) (v := .int .u32 (b : Int)) hne
  rw [HSET.out] at hk4
  clear hk3 hne hlt
  go_upto_region 4 with fail
  generalize World.setCell _ ⟨q7, 2, none⟩ (.int .u32 (b : Int)) = W4 at hk4 ⊢
  clear cc ff
  go_wp2_with (refine wpList_load_row rfl 26 _ rfl w.heap.size rfl _ _ _ _ (hk4.at_ (q := w.heap.size) (o := .cells (cells c) 26 (0, 0)) (by simp)) Try.underlying26 rfl (sizeC c) ?_)
  refine (HPC.out _).mono ?_
  rintro e W5 ⟨rfl, hx⟩
  have h5 := (hk4.below hx).alloc (.cells (cellsOf X) 29)
  clear hk4 hx
  have tok : True := trivial
  go_wp2_with (first | (have _t := tok; refine wpList_store_new rfl 29 _ _ rfl (cellsOf X) _ _ rfl rfl hiX hzX (cellsOf_one _) ?_; generalize W5.heap.size = q8 at h5 ⊢; generalize W5.alloc (.cells (cellsOf X) 29) = W6 at h5 ⊢; clear _t tok) | (refine wpList_load_row rfl 26 _ rfl q7 rfl _ _ _ _ (h5.at_ (q := q7) (o := .cells (cells d) 26 (0, 0)) (by simp)) Try.underlying26 rfl (sizeC d) ?_))
  refine (HPD.out _).mono ?_
  rintro e W7 ⟨rfl, hx⟩
  have h6 := (h5.below hx).alloc (.cells (cellsOf Y) 29)
  clear h5 hx
  have tok : True := trivial
  have n8 := h6.lt_ (q := q8) (o := .cells (cellsOf X) 29 (0, 0)) (by simp)
  go_upto_region 6 with (have _t := tok; refine wpList_store_new rfl 29 _ _ rfl (cellsOf Y) _ _ rfl rfl hiY hzY (cellsOf_one _) ?_; generalize W7.heap.size = q10 at h6 ⊢; generalize W7.alloc (.cells (cellsOf Y) 29) = W8 at h6 ⊢; clear _t tok)
  have c0 := IsCd.name (c := c) (p := w.heap.size) (h6.at_ (q := w.heap.size) (o := .cells (cells c) 26 (0, 0)) (by simp))
  by_cases hlen : 200 < c.s.size
  · have d0 : (200 : Int) < (c.s.size : Int) := by omega
    go_wp2_with (go_at_call 7; (with_reducible refine (head_any _).mono ?_); rintro e WZ ⟨rfl, hx⟩; have hbel := h6.bel.trans (hx.mono h6.bel.size))
    go_ret
    exact ⟨rfl, hbel⟩
  have d0 : ¬ (200 : Int) < (c.s.size : Int) := by omega
  clear hlen
  rcases hE with rfl | rfl
  rotate_left
  · go_wp2_with (go_at_call 7; (with_reducible refine (head_any _).mono ?_); rintro e WZ ⟨rfl, hx⟩; have hbel := h6.bel.trans (hx.mono h6.bel.size))
    go_ret
    exact ⟨rfl, hbel⟩
  rcases hF with rfl | rfl
  rotate_left
  · go_wp2_with (go_at_call 7; (with_reducible refine (head_any _).mono ?_); rintro e WZ ⟨rfl, hx⟩; have hbel := h6.bel.trans (hx.mono h6.bel.size))
    go_ret
    exact ⟨rfl, hbel⟩
  have HS2 := Lib.hid (HS.out rfl rfl)
  have HQ2 := Lib.hid (HQ.out rfl rfl)
  clear HS HQ
  replace h6 : Kept w [(q10, Obj.cells (cellsOf Y) 29 (0, 0)), (q8, Obj.cells (cellsOf X) 29 (0, 0)), (q7, Obj.cells (cells d) 26 (0, 0)), (w.heap.size, Obj.cells (cells c) 26 (0, 0))] W8 := h6
  go_wp2_with fail
  go_loopw [12] (fun i wr => ∃ k : Nat, k ≤ 252 ∧ i = .int .i64 k ∧ Kept w [(q10, Obj.cells (cellsOf Y) 29 (0, 0)), (q8, Obj.cells (cellsOf X) 29 (0, 0)), (q7, Obj.cells (cells d) 26 (0, 0)), (w.heap.size, Obj.cells (cells c) 26 (0, 0))] wr) (fun i _ => 252 - (intOf i).toNat)
  case atStart => exact ⟨0, by omega, rfl, h6⟩
  case round =>
    obtain ⟨k, hk, rfl, hK⟩ := hrel
    clear h6
    by_cases hlt : k < 252
    · skip
      have hx1 : k < X.length := by have := HXL.out; omega
      have hx2 : k < Y.length := by have := HYL.out; omega
      have e1 : wr.cell? ⟨q8, k, none⟩ = some (.int .u8 (X[k].toNat : Int)) := Holds.cell (hK.at_ (q := q8) (o := .cells (cellsOf X) 29 (0, 0)) (by simp)) k hx1
      have e2 : wr.cell? ⟨q10, k, none⟩ = some (.int .u8 (Y[k].toNat : Int)) := Holds.cell (hK.at_ (q := q10) (o := .cells (cellsOf Y) 29 (0, 0)) (by simp)) k hx2
      have i1 : (0 : Int) ≤ (k : Int) := by omega
      have i2 : (k : Int) < 256 := by omega
      have hsk := HS2.out k hlt
      rw [getOf k hx1, getOf k hx2] at hsk
      by_cases hxy : X[k] = Y[k]
      · have d1 : ((X[k].toNat : Int) != (Y[k].toNat : Int)) = false := by rw [hxy]; simp
        clear hsk hxy
        generalize X[k].toNat = x at e1 d1
        generalize Y[k].toNat = y at e2 d1
        go_wp2
        go_quiet (fail)
        go_wp2
        go_roundw
        case rel => exact ⟨k + 1, by omega, by go_num, hK.drewN _⟩
        case measure => simp [intOf]; omega
      · have d1 : ((X[k].toNat : Int) != (Y[k].toNat : Int)) = true := by simp only [bne_iff_ne, ne_eq]; intro h; exact hxy (UInt8.toNat_inj.1 (by exact_mod_cast h))
        have hr : 26 ≤ k ∧ k < 34 := by
          by_cases h : k < 26 ∨ 34 ≤ k
          · exact absurd (Option.some.inj (hsk h)) hxy
          · omega
        have d2 : ¬ (k : Int) < 26 := by omega
        have d3 : ¬ (34 : Int) ≤ (k : Int) := by omega
        clear hsk hxy hr
        generalize X[k].toNat = x at e1 d1
        generalize Y[k].toNat = y at e2 d1
        go_wp2
        go_quiet (fail)
        go_wp2
        go_roundw
        case rel => exact ⟨k + 1, by omega, by go_num, hK.drewN _⟩
        case measure => simp [intOf]; omega
    · obtain rfl : k = 252 := by omega
      clear HS2
      have hk2 := hK.alloc (.cells (cells c) 26)
      have hlt1 := hK.lt_ (q := w.heap.size) (o := .cells (cells c) 26 (0, 0)) (by simp)
      have hlt7 := hK.lt_ (q := q7) (o := .cells (cells d) 26 (0, 0)) (by simp)
      have hlt8 := hK.lt_ (q := q8) (o := .cells (cellsOf X) 29 (0, 0)) (by simp)
      have hlt10 := hK.lt_ (q := q10) (o := .cells (cellsOf Y) 29 (0, 0)) (by simp)
      have tok : True := trivial
      go_upto_region 14 with (first | (refine wpList_load_row rfl 26 _ rfl w.heap.size rfl _ _ _ _ (hK.at_ (q := w.heap.size) (o := .cells (cells c) 26 (0, 0)) (by simp)) Try.underlying26 rfl (sizeC c) ?_) | (have _t := tok; refine wpList_store_new rfl 26 _ _ rfl (cells c) _ _ rfl rfl (sizeC c) rfl (cells_one _) ?_; generalize wr.heap.size = q13 at hk2 hlt1 hlt7 hlt8 hlt10 ⊢; generalize wr.alloc (.cells (cells c) 26) = V2 at hk2 ⊢; clear _t tok))
      have hne : ∀ x ∈ [(q10, Obj.cells (cellsOf Y) 29 (0, 0)), (q8, Obj.cells (cellsOf X) 29 (0, 0)), (q7, Obj.cells (cells d) 26 (0, 0)), (w.heap.size, Obj.cells (cells c) 26 (0, 0))], x.1 ≠ q13 := by intro x hx; simp only [List.mem_cons, List.not_mem_nil, or_false] at hx; rcases hx with rfl | rfl | rfl | rfl <;> (simp only; omega)
      have cc := IsCd.only (c := c) (p := q13) (hk2.at_ (q := q13) (o := .cells (cells c) 26 (0, 0)) List.mem_cons_self)
      have ff := IsCd.frozen (c := c) (p := q13) (hk2.at_ (q := q13) (o := .cells (cells c) 26 (0, 0)) List.mem_cons_self) 8
      have c3 := IsCd.only (c := c) (p := w.heap.size) (hk2.at_ (q := w.heap.size) (o := .cells (cells c) 26 (0, 0)) (by simp))
      have hk3 := hk2.setCell (j := 8) (v := .bool (!c.only)) hne
      rw [HSET2.out] at hk3
      clear hk2 hK
      go_upto_region 15 with fail
      generalize World.setCell _ ⟨q13, 8, none⟩ (.bool (!c.only)) = V3 at hk3 ⊢
      clear cc ff c3 hne hlt1 hlt7 hlt8 hlt10
      go_wp2_with (refine wpList_load_row rfl 26 _ rfl q13 rfl _ _ _ _ (hk3.at_ (q := q13) (o := .cells (cells g) 26 (0, 0)) (by simp)) Try.underlying26 rfl (sizeC g) ?_)
      refine (HPG.out _).mono ?_
      rintro e V4 ⟨rfl, hx⟩
      have h7 := (hk3.below hx).alloc (.cells (cellsOf Z) 29)
      clear hk3 hx
      have tok : True := trivial
      rcases hG with rfl | rfl
      rotate_left
      · go_wp2_with (first | (have _t := tok; refine wpList_store_new rfl 29 _ _ rfl (cellsOf Z) _ _ rfl rfl hiZ hzZ (cellsOf_one _) ?_; generalize V4.heap.size = q14 at h7 ⊢; generalize V4.alloc (.cells (cellsOf Z) 29) = V5 at h7 ⊢; clear _t tok) | (go_at_call 7; (with_reducible refine (head_any _).mono ?_); rintro e WZ ⟨rfl, hx⟩; have hbel := h7.bel.trans (hx.mono h7.bel.size)))
        go_ret
        exact ⟨rfl, hbel⟩
      have HO2 := Lib.hid (HO.out (by trivial) (by trivial))
      clear HO
      go_wp2_with (have _t := tok; refine wpList_store_new rfl 29 _ _ rfl (cellsOf Z) _ _ rfl rfl hiZ hzZ (cellsOf_one _) ?_; generalize V4.heap.size = q14 at h7 ⊢; generalize V4.alloc (.cells (cellsOf Z) 29) = V5 at h7 ⊢; clear _t tok)
      go_loopw [16] (fun i wr => ∃ k : Nat, k ≤ 252 ∧ i = .int .i64 k ∧ Kept w [(q14, Obj.cells (cellsOf Z) 29 (0, 0)), (q13, Obj.cells (cells g) 26 (0, 0)), (q10, Obj.cells (cellsOf Y) 29 (0, 0)), (q8, Obj.cells (cellsOf X) 29 (0, 0)), (q7, Obj.cells (cells d) 26 (0, 0)), (w.heap.size, Obj.cells (cells c) 26 (0, 0))] wr) (fun i _ => 252 - (intOf i).toNat)
      case atStart => exact ⟨0, by omega, rfl, h7⟩
      case round =>
        obtain ⟨k, hk, rfl, hK⟩ := hrel
        clear h7
        by_cases hlt : k < 252
        · skip
          have hx1 : k < X.length := by have := HXL.out; omega
          have hx2 : k < Z.length := by have := HZL.out; omega
          have e1 : wr.cell? ⟨q8, k, none⟩ = some (.int .u8 (X[k].toNat : Int)) := Holds.cell (hK.at_ (q := q8) (o := .cells (cellsOf X) 29 (0, 0)) (by simp)) k hx1
          have e2 : wr.cell? ⟨q14, k, none⟩ = some (.int .u8 (Z[k].toNat : Int)) := Holds.cell (hK.at_ (q := q14) (o := .cells (cellsOf Z) 29 (0, 0)) (by simp)) k hx2
          have i1 : (0 : Int) ≤ (k : Int) := by omega
          have i2 : (k : Int) < 256 := by omega
          have hsk := HO2.out k hlt
          rw [getOf k hx1, getOf k hx2, Option.some.injEq] at hsk
          by_cases h54 : k = 54
          · have d1 : ((X[k].toNat : Int) != (Z[k].toNat : Int)) = true := by simp only [bne_iff_ne, ne_eq]; intro h; exact (hsk.1 (UInt8.toNat_inj.1 (by exact_mod_cast h))) h54
            have d2 : ((k : Int) == 54) = true := by rw [h54]; rfl
            clear hsk h54
            generalize X[k].toNat = x at e1 d1
            generalize Z[k].toNat = y at e2 d1
            go_wp2
            go_quiet (fail)
            go_wp2
            go_roundw
            case rel => exact ⟨k + 1, by omega, by go_num, hK.drewN _⟩
            case measure => simp [intOf]; omega
          · have d1 : ((X[k].toNat : Int) != (Z[k].toNat : Int)) = false := by rw [hsk.2 h54]; simp
            have d2 : ((k : Int) == 54) = false := by simp; omega
            clear hsk h54
            generalize X[k].toNat = x at e1 d1
            generalize Z[k].toNat = y at e2 d1
            go_wp2
            go_quiet (fail)
            go_wp2
            go_roundw
            case rel => exact ⟨k + 1, by omega, by go_num, hK.drewN _⟩
            case measure => simp [intOf]; omega
        · obtain rfl : k = 252 := by omega
          clear HO2
          have heqB := HEB.out
          have heqC := HEC.out
          rw [HQ2.out] at heqB
          generalize eqB c d = bq at heqB heqC
          clear HEB HEC HQ2
          go_wp2_with fail
          refine wp_region_noPanic ?_
          refine wp_region_held_drew (S := fun W => Kept w [(q14, Obj.cells (cellsOf Z) 29 (0, 0)), (q13, Obj.cells (cells g) 26 (0, 0)), (q10, Obj.cells (cellsOf Y) 29 (0, 0)), (q8, Obj.cells (cellsOf X) 29 (0, 0)), (q7, Obj.cells (cells d) 26 (0, 0)), (w.heap.size, Obj.cells (cells c) 26 (0, 0))] W) (by kernel_rfl) hK.drew ?_
          intro hS
          clear hK
          refine wpAnyH_take (i := 0) (v := .agg (cellsOf X)) rfl (by kernel_rfl) (by kernel_rfl) (by kernel_rfl) (fun _ _ _ h => (h : False).elim) (yieldsIf_load_row (by rfl) 29 _ rfl q8 rfl _ _ _ _ (fun W hW => hW.at_ (q := q8) (o := .cells (cellsOf X) 29 (0, 0)) (by simp)) Try.underlying29 rfl hiX) hS ?_
          change wpAnyH _ _ _ _ _ _ _ (Act.put _ (some 93) _) _
          simp only [Act.put, List.setIfInBounds_toArray, List.set_cons_succ, List.set_cons_zero]
          refine wpAnyH_take (i := 1) (v := .agg (cellsOf Y)) rfl (by kernel_rfl) (by kernel_rfl) (by kernel_rfl) (fun _ _ _ h => (h : False).elim) (yieldsIf_load_row (by rfl) 29 _ rfl q10 rfl _ _ _ _ (fun W hW => hW.at_ (q := q10) (o := .cells (cellsOf Y) 29 (0, 0)) (by simp)) Try.underlying29 rfl hiY) hS ?_
          change wpAnyH _ _ _ _ _ _ _ (Act.put _ (some 94) _) _
          simp only [Act.put, List.setIfInBounds_toArray, List.set_cons_succ, List.set_cons_zero]
          refine wpAnyH_take (i := 2) (v := .bool bq) rfl (by kernel_rfl) (by kernel_rfl) (by kernel_rfl) (fun _ _ _ h => (h : False).elim) (Or.inl ⟨by rfl, fun _ _ => by go_simp⟩) hS ?_
          change wpAnyH _ _ _ _ _ _ _ (Act.put _ (some 95) _) _
          simp only [Act.put, List.setIfInBounds_toArray, List.set_cons_succ, List.set_cons_zero]
          refine wpAnyH_take (i := 3) (v := .agg (cells c)) rfl (by kernel_rfl) (by kernel_rfl) (by kernel_rfl) (fun _ _ _ h => (h : False).elim) (yieldsIf_load_row (by rfl) 26 _ rfl w.heap.size rfl _ _ _ _ (fun W hW => hW.at_ (q := w.heap.size) (o := .cells (cells c) 26 (0, 0)) (by simp)) Try.underlying26 rfl (sizeC c)) hS ?_
          change wpAnyH _ _ _ _ _ _ _ (Act.put _ (some 96) _) _
          simp only [Act.put, List.setIfInBounds_toArray, List.set_cons_succ, List.set_cons_zero]
          refine wpAnyH_take (i := 4) (v := .agg (cells d)) rfl (by kernel_rfl) (by kernel_rfl) (by kernel_rfl) (fun _ _ _ h => (h : False).elim) (yieldsIf_load_row (by rfl) 26 _ rfl q7 rfl _ _ _ _ (fun W hW => hW.at_ (q := q7) (o := .cells (cells d) 26 (0, 0)) (by simp)) Try.underlying26 rfl (sizeC d)) hS ?_
          change wpAnyH _ _ _ _ _ _ _ (Act.put _ (some 97) _) _
          simp only [Act.put, List.setIfInBounds_toArray, List.set_cons_succ, List.set_cons_zero]
          refine wpAnyH_take (i := 5) (v := .bool bq) rfl (by kernel_rfl) (by kernel_rfl) (by kernel_rfl) (fun _ _ _ h => (h : False).elim) (Or.inl ⟨by rfl, fun _ _ => by go_simp⟩) hS ?_
          change wpAnyH _ _ _ _ _ _ _ (Act.put _ (some 98) _) _
          simp only [Act.put, List.setIfInBounds_toArray, List.set_cons_succ, List.set_cons_zero]
          refine wpAnyH_take (i := 6) (v := .bool true) rfl (by kernel_rfl) (by kernel_rfl) (by kernel_rfl) (fun _ _ _ h => (h : False).elim) (Or.inl ⟨by rfl, fun _ _ => by go_simp⟩) hS ?_
          change wpAnyH _ _ _ _ _ _ _ (Act.put _ (some 99) _) _
          simp only [Act.put, List.setIfInBounds_toArray, List.set_cons_succ, List.set_cons_zero]
          refine wpAnyH_take (i := 7) (v := .bool true) rfl (by kernel_rfl) (by kernel_rfl) (by kernel_rfl) (fun _ _ _ h => (h : False).elim) (Or.inl ⟨by rfl, fun _ _ => by go_simp⟩) hS ?_
          change wpAnyH _ _ _ _ _ _ _ (Act.put _ (some 100) _) _
          simp only [Act.put, List.setIfInBounds_toArray, List.set_cons_succ, List.set_cons_zero]
          refine wpAnyH_ready (rs := [8]) (by kernel_rfl) (by simp) ?_
          refine AllReadyH.cons rfl (fun K hK => ?_) AllReadyH.nil
          rw [if_pos (by rfl)]
          go_simp
          refine (head_any _).mono ?_
          rintro e WN ⟨rfl, hx⟩
          replace hS := Kept.below hS hx
          clear hx
          dsimp only
          refine hK.out _ _ hS (fun hS => ?_)
          clear hK K
          refine wpAnyH_take (i := 9) (v := .bool true) rfl (by kernel_rfl) (by kernel_rfl) (by kernel_rfl) (fun _ _ _ h => (h : False).elim) (Or.inl ⟨by rfl, fun _ _ => by go_simp⟩) hS ?_
          change wpAnyH _ _ _ _ _ _ _ (Act.put _ (some 102) _) _
          simp only [Act.put, List.setIfInBounds_toArray, List.set_cons_succ, List.set_cons_zero]
          refine wpAnyH_take (i := 10) (v := .bool true) rfl (by kernel_rfl) (by kernel_rfl) (by kernel_rfl) (fun _ _ _ h => (h : False).elim) (Or.inl ⟨by rfl, fun _ _ => by go_simp⟩) hS ?_
          change wpAnyH _ _ _ _ _ _ _ (Act.put _ (some 6) _) _
          simp only [Act.put, List.setIfInBounds_toArray, List.set_cons_succ, List.set_cons_zero]
          refine wpAnyH_done (by kernel_rfl) ?_ _
          refine NoPanic.normal ?_
          have hbel := Kept.bel hS
          clear hS
          go_wp2_with fail
          go_ret
          exact ⟨rfl, hbel⟩

end Go.Proofs.Ytmbmgncajfamiaa.Crd
