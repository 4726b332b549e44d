/-
  The walk of the reference's GetPick.
-/
import Derived.Test.YtkkeemjgeeillaaTalRefGetT
namespace Go.Proofs.Ytkkeemjgeeillaa.Tal
open Go.RowKit RowLaw Crc Fld
set_option maxRecDepth 100000

set_option maxHeartbeats 1600000 in
theorem refGet_noP (l : List UInt8) (idx : Nat) (ho : ¬ idx < kP.lim) (w : World) :
    Calls Try.prog 17 #[.agg (cellsOf l), .int .u32 (idx : Int)] w fun e w' => e = .returned (.tuple #[.agg (pgCells .u64 0 (zs kP)), .int .i64 2]) ∧ Below w.heap.size w w' := by
  have hzv := (zero_of_info infoP).1
  have hi0 := sizeP 0 (zs kP) (zs_length kP)
  have hk : Kept w [(w.heap.size + 1, Obj.cells (pgCells .u64 0 (zs kP)) 30), (w.heap.size, Obj.cells (cellsOf l) 32)] ((w.alloc (Obj.cells (cellsOf l) 32)).alloc (Obj.cells (pgCells .u64 0 (zs kP)) 30)) := by
    have h := ((Kept.start w).alloc (Obj.cells (cellsOf l) 32)).alloc (Obj.cells (pgCells .u64 0 (zs kP)) 30)
    rwa [show (w.alloc (Obj.cells (cellsOf l) 32)).heap.size = w.heap.size + 1 from by simp] at h
  have hR := hk.at_ List.mem_cons_self
  have d1 : (16 : Int) ≤ (idx : Int) := by have : ¬ idx < 16 := ho; omega
  clear ho
  go_enter Try.func17, Try.ntmps17
  go_wp2_with (refine wpList_store_row rfl 30 _ _ rfl _ _ rfl rfl _ _ hR hi0 rfl (pgCells_one _ _) ?_)
  exact bodyPost_ret (results_row_tmp rfl _ _ _ _ _ _ _ rfl (setRow_heap _ _ _ _ _ _ hR) Try.underlying30 rfl hi0) rfl ⟨rfl, below_row hk.bel (by omega)⟩

set_option maxHeartbeats 1600000 in
theorem refGet_zeroP (idx : Nat) (ho : idx < kP.lim) (w : World) :
    Calls Try.prog 17 #[.agg (cellsOf zeros), .int .u32 (idx : Int)] w fun e w' => e = .returned (.tuple #[.agg (pgCells .u64 idx (zs kP)), .int .i64 0]) ∧ Below w.heap.size w w' := by
  obtain ⟨l, hlz⟩ : ∃ l, l = zeros := ⟨_, rfl⟩
  have hl : l.length = 256 := by rw [hlz]; exact zeros_length
  rw [← hlz]
  have hz := fun W => refZero_any l hl W
  rw [decide_eq_true hlz] at hz
  have HZ := Lib.hid hz
  clear hz hlz
  have hzv := (zero_of_info infoP).1
  have hi := sizeBlock l hl
  have hi0 := sizeP 0 (zs kP) (zs_length kP)
  have hi1 := sizeP idx (zs kP) (zs_length kP)
  have hsz : (pgCells .u64 0 (zs kP)).size = (pgCells .u64 idx (zs kP)).size := by rw [pgCells_size, pgCells_size]
  have hne : ∀ x ∈ [(w.heap.size + 1, Obj.cells (pgCells .u64 0 (zs kP)) 30), (w.heap.size, Obj.cells (cellsOf l) 32)], x.1 ≠ w.heap.size + 1 + 1 := by simp; omega
  have hk0 : Kept w [(w.heap.size + 1 + 1, Obj.cells (pgCells .u64 0 (zs kP)) 30), (w.heap.size + 1, Obj.cells (pgCells .u64 0 (zs kP)) 30), (w.heap.size, Obj.cells (cellsOf l) 32)] (((w.alloc (Obj.cells (cellsOf l) 32)).alloc (Obj.cells (pgCells .u64 0 (zs kP)) 30)).alloc (Obj.cells (pgCells .u64 0 (zs kP)) 30)) := by
    have h := (((Kept.start w).alloc (Obj.cells (cellsOf l) 32)).alloc (Obj.cells (pgCells .u64 0 (zs kP)) 30)).alloc (Obj.cells (pgCells .u64 0 (zs kP)) 30)
    rwa [show (w.alloc (Obj.cells (cellsOf l) 32)).heap.size = w.heap.size + 1 from by simp, show ((w.alloc (Obj.cells (cellsOf l) 32)).alloc (Obj.cells (pgCells .u64 0 (zs kP)) 30)).heap.size = w.heap.size + 1 + 1 from by simp] at h
  have hk := hk0.setRow (cs' := pgCells .u64 idx (zs kP)) hne
  have hP0 := hk0.at_ List.mem_cons_self
  clear hk0
  have hset := pgCells_setIdx (K := .u64) 0 idx (zs kP)
  have hlim : idx < 16 := ho
  have d1 : ¬ (16 : Int) ≤ (idx : Int) := by omega
  clear ho
  have tok : True := trivial
  go_enter Try.func17, Try.ntmps17
  go_wp2_with (first
    | (have _t := tok; refine wpList_store_row rfl 30 _ _ rfl _ _ rfl rfl _ _ hP0 hi1 hsz (pgCells_one _ _) ?_; clear _t tok hP0; generalize ((((w.alloc (Obj.cells (cellsOf l) 32)).alloc (Obj.cells (pgCells .u64 0 (zs kP)) 30)).alloc (Obj.cells (pgCells .u64 0 (zs kP)) 30))).setRow (w.heap.size + 1 + 1) (pgCells .u64 idx (zs kP)) = W0 at hk ⊢; have hB := hk.at_ (q := w.heap.size) (o := Obj.cells (cellsOf l) 32) (by simp))
    | (refine wpList_load_row rfl 32 _ rfl w.heap.size rfl _ _ _ _ hB Try.underlying32 rfl hi ?_))
  refine (HZ.out _).mono ?_
  rintro e W1 ⟨rfl, hx⟩
  replace hk := hk.below hx
  clear hx hB
  have hrw : w.heap.size ≤ w.heap.size + 1 := by omega
  have hrb : w.heap.size + 1 ≠ w.heap.size + 1 + 1 := by omega
  generalize w.heap.size + 1 + 1 = p at hk hne hrb ⊢
  generalize hrd : w.heap.size + 1 = r at hk hne hrb hrw ⊢
  clear hrd hset
  obtain ⟨b, hb⟩ : ∃ b, b = w.heap.size := ⟨_, rfl⟩
  rw [← hb] at hk hne ⊢
  clear hb
  have hR := hk.at_ (q := r) (o := Obj.cells (pgCells .u64 0 (zs kP)) 30) (by simp)
  have hP := hk.at_ List.mem_cons_self
  go_wp2_with (first | (refine wpList_load_row rfl 30 _ rfl p rfl _ _ _ _ hP Try.underlying30 rfl hi1 ?_) | (refine wpList_store_row rfl 30 _ _ rfl r _ rfl rfl _ _ hR hi1 hsz (pgCells_one _ _) ?_))
  exact bodyPost_ret (results_row_tmp rfl _ _ _ _ _ _ _ rfl (setRow_heap _ _ _ _ _ _ hR) Try.underlying30 rfl hi1) rfl ⟨rfl, below_row hk.bel hrw⟩

set_option maxHeartbeats 3200000 in
theorem refGet_coreP (l : List UInt8) (hl : l.length = 256) (hlz : l ≠ zeros) (idx : Nat) (ho : idx < kP.lim) (w : World) :
    Calls Try.prog 17 #[.agg (cellsOf l), .int .u32 (idx : Int)] w fun e w' => e = .returned (.tuple #[.agg (if pgB kP idx (nsOf kP l) = l then pgCells .u64 idx (nsOf kP l) else pgCells .u64 0 (zs kP)), .int .i64 (if pgB kP idx (nsOf kP l) = l then 0 else 250)]) ∧ Below w.heap.size w w' := by
  have hz := fun W => refZero_any l hl W
  rw [decide_eq_false hlz] at hz
  have HZ := Lib.hid hz
  have HLn := Lib.hid hl
  have HS := Lib.hid (nsK_set kP true l)
  have HPL := Lib.hid (nsK_length kP true l)
  have HNL := Lib.hid (nsOf_lt fP l hl)
  have HNX := Lib.hid (fun A c h => next_at l A c h)
  have HLT := Lib.hid (fun A c h => part_lt l A c h)
  have HZ0 := Lib.hid (fun j hj h => nsK_nil kP true l j hj h)
  clear hz hlz
  obtain ⟨B, hB⟩ : ∃ B, B = pgB kP idx (nsOf kP l) := ⟨_, rfl⟩
  rw [← hB]
  have HB := Lib.hid hB
  clear hB
  obtain ⟨R, hR⟩ : ∃ R, R = if B = l then pgCells .u64 idx (nsOf kP l) else pgCells .u64 0 (zs kP) := ⟨_, rfl⟩
  obtain ⟨Ev, hEv⟩ : ∃ Ev : Int, Ev = if B = l then 0 else 250 := ⟨_, rfl⟩
  rw [← hR, ← hEv]
  have HR := Lib.hid hR
  have HEv := Lib.hid hEv
  clear hR hEv
  have hzv := (zero_of_info infoP).1
  have hi := sizeBlock l hl
  have hi0 := sizeP 0 (zs kP) (zs_length kP)
  have hi1 := sizeP idx (zs kP) (zs_length kP)
  have hsz : (pgCells .u64 0 (zs kP)).size = (pgCells .u64 idx (zs kP)).size := by rw [pgCells_size, pgCells_size]
  have hne : ∀ x ∈ [(w.heap.size + 1, Obj.cells (pgCells .u64 0 (zs kP)) 30), (w.heap.size, Obj.cells (cellsOf l) 32)], x.1 ≠ w.heap.size + 1 + 1 := by simp; omega
  have hk0 : Kept w [(w.heap.size + 1 + 1, Obj.cells (pgCells .u64 0 (zs kP)) 30), (w.heap.size + 1, Obj.cells (pgCells .u64 0 (zs kP)) 30), (w.heap.size, Obj.cells (cellsOf l) 32)] (((w.alloc (Obj.cells (cellsOf l) 32)).alloc (Obj.cells (pgCells .u64 0 (zs kP)) 30)).alloc (Obj.cells (pgCells .u64 0 (zs kP)) 30)) := by
    have h := (((Kept.start w).alloc (Obj.cells (cellsOf l) 32)).alloc (Obj.cells (pgCells .u64 0 (zs kP)) 30)).alloc (Obj.cells (pgCells .u64 0 (zs kP)) 30)
    rwa [show (w.alloc (Obj.cells (cellsOf l) 32)).heap.size = w.heap.size + 1 from by simp, show ((w.alloc (Obj.cells (cellsOf l) 32)).alloc (Obj.cells (pgCells .u64 0 (zs kP)) 30)).heap.size = w.heap.size + 1 + 1 from by simp] at h
  have hk := hk0.setRow (cs' := pgCells .u64 idx (zs kP)) hne
  have hP0 := hk0.at_ List.mem_cons_self
  clear hk0
  have hset := pgCells_setIdx (K := .u64) 0 idx (zs kP)
  have hlim : idx < 16 := ho
  have d1 : ¬ (16 : Int) ≤ (idx : Int) := by omega
  clear ho
  have tok : True := trivial
  go_enter Try.func17, Try.ntmps17
  go_wp2_with (first
    | (have _t := tok; refine wpList_store_row rfl 30 _ _ rfl _ _ rfl rfl _ _ hP0 hi1 hsz (pgCells_one _ _) ?_; clear _t tok hP0; generalize ((((w.alloc (Obj.cells (cellsOf l) 32)).alloc (Obj.cells (pgCells .u64 0 (zs kP)) 30)).alloc (Obj.cells (pgCells .u64 0 (zs kP)) 30))).setRow (w.heap.size + 1 + 1) (pgCells .u64 idx (zs kP)) = W0 at hk ⊢; have hB := hk.at_ (q := w.heap.size) (o := Obj.cells (cellsOf l) 32) (by simp))
    | (refine wpList_load_row rfl 32 _ rfl w.heap.size rfl _ _ _ _ hB Try.underlying32 rfl hi ?_))
  refine (HZ.out _).mono ?_
  rintro e W1 ⟨rfl, hx⟩
  replace hk := hk.below hx
  clear hx hB
  have hrw : w.heap.size ≤ w.heap.size + 1 := by omega
  have hrb : w.heap.size + 1 ≠ w.heap.size + 1 + 1 := by omega
  generalize w.heap.size + 1 + 1 = p at hk hne hrb ⊢
  generalize hrd : w.heap.size + 1 = r at hk hne hrb hrw ⊢
  clear hrd hset
  obtain ⟨b, hb⟩ : ∃ b, b = w.heap.size := ⟨_, rfl⟩
  rw [← hb] at hk hne ⊢
  clear hb
  go_wp2_with fail
  go_loopw [7] (fun i wr => ∃ j : Nat, j ≤ 16 ∧ i = .int .i64 j ∧ Kept w ((p, .cells (pgCells .u64 idx (nsK kP true l j)) 30) :: [(r, Obj.cells (pgCells .u64 0 (zs kP)) 30), (b, Obj.cells (cellsOf l) 32)]) wr) (fun i _ => 16 - (intOf i).toNat)
  case atStart => exact ⟨0, by omega, rfl, by rw [nsK_zero]; exact hk⟩
  case round =>
    clear hk
    obtain ⟨j, hj, rfl, hk⟩ := hrel
    by_cases hlt : j < 16
    · have hl256 := HLn.out
      have hst := HS.out j hlt
      rw [show valK kP true l j = leNat (piece l (5 + 8 * j + 0) (8 - 0)) from rfl] at hst
      have hpl : (nsK kP true l j).length = 16 := HPL.out j hj
      have hz0 : (nsK kP true l j)[j]'(by omega) = 0 := HZ0.out j hlt (by omega)
      obtain ⟨A, hA⟩ : ∃ A, A = 5 + 8 * j := ⟨_, rfl⟩
      rw [← hA] at hst
      have hstart : Kept w ((p, .cells (pgCells .u64 idx ((nsK kP true l j).set j (leNat (piece l (A + 8) 0)))) 30) :: [(r, Obj.cells (pgCells .u64 0 (zs kP)) 30), (b, Obj.cells (cellsOf l) 32)]) wr := by
        have h1 : leNat (piece l (A + 8) 0) = (nsK kP true l j)[j]'(by omega) := by rw [hz0]; simp [piece, leNat]
        rw [h1, List.set_getElem_self]
        exact hk
      have HST := Lib.hid hst; clear hst hz0 hk
      have m0 : IntKind.i64.wrap (8 * (j : Int)) = 8 * (j : Int) := IntWalk.i64_in _ (by omega)
      have m1 : (5 : Int) + 8 * (j : Int) = (A : Int) := by omega
      have hA2 : IntKind.i64.wrap (A : Int) = (A : Int) := IntWalk.i64_in _ (by omega)
      have hK1 : (j : Int) < 16 := by omega
      have hA5 : A ≤ 125 := by omega
      clear hA
      generalize nsK kP true l j = ns at hpl hstart HST
      go_wp2_with fail
      go_loopw [8] (fun v wi => ∃ m : Nat, m ≤ 8 ∧ v = .int .i64 ((m : Int) - 1) ∧ Kept w ((p, .cells (pgCells .u64 idx (ns.set j (leNat (piece l (A + m) (8 - m))))) 30) :: [(r, Obj.cells (pgCells .u64 0 (zs kP)) 30), (b, Obj.cells (cellsOf l) 32)]) wi) (fun v _ => (intOf v + 1).toNat)
      case atStart => exact ⟨8, by omega, rfl, hstart⟩
      case round =>
        clear hstart
        obtain ⟨m, hm, rfl, hk⟩ := hrel
        cases m with
        | zero =>
          rw [Nat.add_zero, Nat.sub_zero] at hk
          rw [show leNat (piece l A 8) = leNat (piece l (A + 0) (8 - 0)) from rfl, HST.out] at hk
          go_wp2_with fail
          go_roundw
          case rel => exact ⟨j + 1, by omega, by go_num, hk⟩
          case measure => simp [intOf]; omega
        | succ m =>
          have hB : Holds wr b l := hk.at_ (q := b) (o := Obj.cells (cellsOf l) 32) (by simp)
          have hval := HNX.out (A + m) (7 - m) (by omega)
          rw [show 7 - m + 1 = 8 - m from by omega] at hval
          have hx7 := HLT.out (A + m + 1) (7 - m) (by omega)
          rw [show A + (m + 1) = A + m + 1 from by omega, show 8 - (m + 1) = 7 - m from by omega] at hk
          have hP : IsPg .u64 30 wr p idx (ns.set j (leNat (piece l (A + m + 1) (7 - m)))) := hk.at_ List.mem_cons_self
          obtain ⟨C, hC⟩ : ∃ C, C = A + m := ⟨_, rfl⟩
          have m2 : (A : Int) + (m : Int) = (C : Int) := by omega
          simp only [← hC] at hval hx7 hk hP
          have c1 := hP.num j (by rw [List.length_set]; omega)
          rw [List.getElem_set_self] at c1
          obtain ⟨b0, e0⟩ : ∃ b, b = (l[C]'(by omega)) := ⟨_, rfl⟩
          have c0 : wr.cell? ⟨b, C, none⟩ = some (.int .u8 (b0.toNat : Int)) := by rw [e0]; exact hB.cell C (by omega)
          rw [← e0] at hval
          clear e0 hB
          have u0 := b0.toNat_lt
          generalize b0.toNat = n0 at c0 hval u0
          generalize leNat (piece l (C + 1) (7 - m)) = y at hval hx7 hk hP c1
          obtain ⟨x, hx⟩ : ∃ x, leNat (piece l C (8 - m)) = x := ⟨_, rfl⟩
          rw [hx] at hval
          have HXE : Hid (leNat (piece l (A + m) (8 - m)) = x) := Lib.hid (by rw [← hC]; exact hx)
          clear hx
          have h0 : wr.drew.cell? ⟨p, 1 + j, none⟩ = some (.int .u64 (y : Int)) := c1
          have hf : wr.drew.frozen? ⟨p, 1 + j, none⟩ = false := hP.frozen (1 + j)
          have hn := hk.drew.setCell (j := 1 + j) (v := .int .u64 (x : Int)) hne
          rw [pgCells_set, List.set_set] at hn
          rw [show ((m + 1 : Nat) : Int) - 1 = (m : Int) from by omega]
          have hm0 : (0 : Int) ≤ (m : Int) := by omega
          have hC0 : (0 : Int) ≤ (C : Int) := by omega
          have hC1 : (C : Int) < 256 := by omega
          have hC2 : IntKind.i64.wrap (C : Int) = (C : Int) := IntWalk.i64_in _ (by omega)
          have zz0 : IntKind.u64.wrap (n0 : Int) = (n0 : Int) := IntWalk.u64_in _ (by omega)
          have y1 : IntKind.u64.wrap (256 * (y : Int)) = 256 * (y : Int) := IntWalk.u64_in _ (by omega)
          have s1 : IntKind.u64.wrap (256 * (y : Int) + (n0 : Int)) = (x : Int) := by rw [IntWalk.u64_in _ (by omega)]; omega
          have hm8 : m ≤ 7 := by omega
          clear hC hval hx7 hP hm
          go_wp2_with fail
          refine wp_region_still_tail 17 (by kernel_rfl) (by kernel_rfl) ?_
          simp only [List.take_succ_cons, List.take_zero, List.drop_succ_cons, List.drop_zero]
          repeat still_step
          refine wpStill_nil ?_
          change wpList _ _ _ _ _ wr.drew
          clear c0 c1 hk
          generalize wr.drew = W1 at h0 hf hn ⊢
          clear zz0 y1 s1 hC0 hC1 hC2 m2
          go_wp2
          go_roundw
          case rel => exact ⟨m, by omega, by go_num, by rw [HXE.out]; exact hn⟩
          case measure => simp [intOf]
    · obtain rfl : j = 16 := by omega
      rw [show nsK kP true l 16 = nsOf kP l from nsK_all kP l] at hk
      have hnl := nsOf_length kP l
      have hput := fun W => refPut_anyP idx (nsOf kP l) hnl HNL.out W
      rw [show putB kP idx (nsOf kP l) = pgB kP idx (nsOf kP l) from if_pos hlim, show putE kP idx = 0 from if_pos hlim] at hput
      have hpl := pgB_length fP idx hnl
      have hin := sizeP idx (nsOf kP l) hnl
      have hs2 : (pgCells .u64 0 (zs kP)).size = (pgCells .u64 idx (nsOf kP l)).size := by rw [pgCells_size, pgCells_size, zs_length, hnl]
      rw [← HB.out] at hpl
      simp only [← HB.out] at hput
      have hip := sizeBlock B hpl
      have hzz : (cellsOf zeros).size = (cellsOf B).size := by rw [cellsOf_size, cellsOf_size, hpl, zeros_length]
      have hzb := (zero_of_info infoBlock).1
      have hg := fun (W : World) (op : BinOp) (x y : Operand) (xs ys : Array Value) => run_eqGuard_agg (P := Try.prog) W op 32 x y xs ys noGuard
      have heq := fun W : World => run_eqBlock W B l hpl HLn.out
      have HPT := Lib.hid hput
      have hP := hk.at_ List.mem_cons_self
      generalize nsOf kP l = ns at hk HPT hin hs2 hP HR
      clear hput hnl hpl HB
      go_wp2_with (refine wpList_load_row rfl 30 _ rfl p rfl _ _ _ _ hP Try.underlying30 rfl hin ?_)
      refine (HPT.out _).mono ?_
      rintro e W3 ⟨rfl, hx⟩
      have hk2 := (hk.below hx).alloc (.cells (cellsOf B) 32)
      clear hx hk hP
      have tok : True := trivial
      by_cases hBl : B = l
      · rw [decide_eq_true hBl] at heq
        have HBl := Lib.hid hBl; clear hBl
        go_wp2_with (first
          | (have _t := tok; refine wpList_store_new rfl 32 _ _ rfl (cellsOf B) _ _ rfl rfl hip hzz (cellsOf_one _) ?_; generalize W3.heap.size = q7 at hk2 ⊢; generalize W3.alloc (.cells (cellsOf B) 32) = W4 at hk2 ⊢; clear _t tok; have hA := hk2.at_ List.mem_cons_self; have hP := hk2.at_ (q := p) (o := .cells (pgCells .u64 idx ns) 30) (by simp); have hR := hk2.at_ (q := r) (o := Obj.cells (pgCells .u64 0 (zs kP)) 30) (by simp); have hq := hk2.at_ (q := b) (o := Obj.cells (cellsOf l) 32) (by simp))
          | (refine wpList_load_want (by rfl) 32 _ rfl q7 rfl _ _ _ _ hA Try.underlying32 rfl hip ?_)
          | (refine wpList_load_want (by rfl) 32 _ rfl b rfl _ _ _ _ hq Try.underlying32 rfl hi ?_)
          | (refine wpList_load_row rfl 30 _ rfl p rfl _ _ _ _ hP Try.underlying30 rfl hin ?_)
          | (refine wpList_store_row rfl 30 _ _ rfl r _ rfl rfl _ _ hR hin hs2 (pgCells_one _ _) ?_))
        exact bodyPost_ret (results_row_tmp rfl _ _ _ _ _ _ _ rfl (setRow_heap _ _ _ _ _ _ (hk2.at_ (q := r) (o := Obj.cells (pgCells .u64 0 (zs kP)) 30) (by simp))) Try.underlying30 rfl hin) rfl ⟨by rw [HR.out, HEv.out, if_pos HBl.out, if_pos HBl.out]; rfl, below_row hk2.bel hrw⟩
      · rw [decide_eq_false hBl] at heq
        have HBl := Lib.hid hBl; clear hBl
        go_wp2_with (first
          | (have _t := tok; refine wpList_store_new rfl 32 _ _ rfl (cellsOf B) _ _ rfl rfl hip hzz (cellsOf_one _) ?_; generalize W3.heap.size = q7 at hk2 ⊢; generalize W3.alloc (.cells (cellsOf B) 32) = W4 at hk2 ⊢; clear _t tok; have hA := hk2.at_ List.mem_cons_self; have hR := hk2.at_ (q := r) (o := Obj.cells (pgCells .u64 0 (zs kP)) 30) (by simp); have hq := hk2.at_ (q := b) (o := Obj.cells (cellsOf l) 32) (by simp))
          | (refine wpList_load_want (by rfl) 32 _ rfl q7 rfl _ _ _ _ hA Try.underlying32 rfl hip ?_)
          | (refine wpList_load_want (by rfl) 32 _ rfl b rfl _ _ _ _ hq Try.underlying32 rfl hi ?_)
          | (refine wpList_store_row rfl 30 _ _ rfl r _ rfl rfl _ _ hR hi0 rfl (pgCells_one _ _) ?_))
        exact bodyPost_ret (results_row_tmp rfl _ _ _ _ _ _ _ rfl (setRow_heap _ _ _ _ _ _ (hk2.at_ (q := r) (o := Obj.cells (pgCells .u64 0 (zs kP)) 30) (by simp))) Try.underlying30 rfl hi0) rfl ⟨by rw [HR.out, HEv.out, if_neg HBl.out, if_neg HBl.out]; rfl, below_row hk2.bel hrw⟩

theorem refGet_anyP (l : List UInt8) (hl : l.length = 256) (idx : Nat) (w : World) :
    Calls Try.prog 17 #[.agg (cellsOf l), .int .u32 (idx : Int)] w fun e w' => e = .returned (.tuple #[.agg (pgCells .u64 (getI kP l idx) (getNs kP l idx)), .int .i64 (getE kP l idx)]) ∧ Below w.heap.size w w' := by
  by_cases ho : idx < kP.lim
  · by_cases hz : l = zeros
    · have hE : getE kP l idx = 0 := getE_zero.2 ⟨ho, .inl hz⟩
      unfold getI getNs
      rw [hE, if_pos rfl, if_pos rfl, hz, nsOf_zerosP]
      exact refGet_zeroP idx ho w
    · refine (refGet_coreP l hl hz idx ho w).mono fun e w' ⟨he, hb⟩ => ⟨he.trans ?_, hb⟩
      by_cases hp : pgB kP idx (nsOf kP l) = l
      · have hE : getE kP l idx = 0 := getE_zero.2 ⟨ho, .inr hp⟩
        unfold getI getNs
        rw [hE, if_pos rfl, if_pos rfl, if_pos hp, if_pos hp]
      · have hE : getE kP l idx = 250 := by
          have h1 : isG kP l idx = false := by unfold isG; rw [decide_eq_false hz, decide_eq_false hp]; rfl
          unfold getE
          rw [if_pos ho, h1]
          rfl
        unfold getI getNs
        rw [hE, if_neg hp, if_neg hp]
        rfl
  · have hE : getE kP l idx = 2 := if_neg ho
    unfold getI getNs
    rw [hE]
    exact refGet_noP l idx ho w


end Go.Proofs.Ytkkeemjgeeillaa.Tal
