/-
  The walk of the reference's Get.
-/
import Derived.Test.YtkkeemjgeeillaaTalGet
import Derived.Test.YtkkeemjgeeillaaTalRefPut
import Derived.Test.YtkkeemjgeeillaaKept
import Derived.StillTailTactics
namespace Go.Proofs.Ytkkeemjgeeillaa.Tal
open Go.RowKit RowLaw Crc Fld
set_option maxRecDepth 100000

theorem nsOf_lt {k : PK} (hk : k.Fine) (l : List UInt8) (hl : l.length = 256) : ∀ j (hj : j < (nsOf k l).length), (nsOf k l)[j] < 256 ^ k.wd := fun j hj => by
  have := valK_lt hk true l hl j (by rw [nsOf_length] at hj; exact hj)
  rw [nsOf_get]
  exact this
theorem two_at (l : List UInt8) (A : Nat) (h : A + 1 < l.length) : leNat (piece l A 2) = (l[A]'(by omega)).toNat + 256 * (l[A + 1]'(by omega)).toNat := by
  unfold piece
  rw [List.drop_eq_getElem_cons (by omega : A < l.length), List.take_succ_cons, List.drop_eq_getElem_cons (by omega : A + 1 < l.length), List.take_succ_cons, List.take_zero]
  simp only [leNat]
  omega
theorem next_at (l : List UInt8) (A c : Nat) (h : A < l.length) : leNat (piece l A (c + 1)) = (l[A]'(by omega)).toNat + 256 * leNat (piece l (A + 1) c) := by
  unfold piece
  rw [List.drop_eq_getElem_cons (by omega : A < l.length), List.take_succ_cons]
  simp only [leNat]
theorem part_lt (l : List UInt8) (A c : Nat) (h : c ≤ 7) : leNat (piece l A c) < 72057594037927936 := by
  have h1 := leNat_lt (piece l A c)
  have h2 : (piece l A c).length ≤ 7 := by
    unfold piece
    rw [List.length_take]
    omega
  exact Nat.lt_of_lt_of_le h1 (Nat.pow_le_pow_right (by omega) h2)
theorem nsK_nil (k : PK) (ok : Bool) (l : List UInt8) (j : Nat) (hj : j < k.n) (h : j < (nsK k ok l j).length) : (nsK k ok l j)[j] = 0 := by
  cases ok with
  | false => exact List.getElem_replicate (n := k.n) (a := 0) (by rw [List.length_replicate]; exact hj)
  | true =>
    have e : nsK k true l j = nsTo k l j ++ List.replicate (k.n - j) 0 := rfl
    simp only [e]
    rw [List.getElem_append_right (by rw [nsTo_length]; omega)]
    exact List.getElem_replicate _

set_option maxHeartbeats 1600000 in
theorem refGet_noT (l : List UInt8) (idx : Nat) (ho : ¬ idx < kT.lim) (w : World) :
    Calls Try.prog 16 #[.agg (cellsOf l), .int .u32 (idx : Int)] w fun e w' => e = .returned (.tuple #[.agg (pgCells .u16 0 (zs kT)), .int .i64 2]) ∧ Below w.heap.size w w' := by
  have hzv := (zero_of_info infoT).1
  have hi0 := sizeT 0 (zs kT) (zs_length kT)
  have hk : Kept w [(w.heap.size + 1, Obj.cells (pgCells .u16 0 (zs kT)) 26), (w.heap.size, Obj.cells (cellsOf l) 32)] ((w.alloc (Obj.cells (cellsOf l) 32)).alloc (Obj.cells (pgCells .u16 0 (zs kT)) 26)) := by
    have h := ((Kept.start w).alloc (Obj.cells (cellsOf l) 32)).alloc (Obj.cells (pgCells .u16 0 (zs kT)) 26)
    rwa [show (w.alloc (Obj.cells (cellsOf l) 32)).heap.size = w.heap.size + 1 from by simp] at h
  have hR := hk.at_ List.mem_cons_self
  have d1 : (16384 : Int) ≤ (idx : Int) := by have : ¬ idx < 16384 := ho; omega
  clear ho
  go_enter Try.func16, Try.ntmps16
  go_wp2_with (refine wpList_store_row rfl 26 _ _ rfl _ _ rfl rfl _ _ hR hi0 rfl (pgCells_one _ _) ?_)
  exact bodyPost_ret (results_row_tmp rfl _ _ _ _ _ _ _ rfl (setRow_heap _ _ _ _ _ _ hR) Try.underlying26 rfl hi0) rfl ⟨rfl, below_row hk.bel (by omega)⟩

set_option maxHeartbeats 1600000 in
theorem refGet_zeroT (idx : Nat) (ho : idx < kT.lim) (w : World) :
    Calls Try.prog 16 #[.agg (cellsOf zeros), .int .u32 (idx : Int)] w fun e w' => e = .returned (.tuple #[.agg (pgCells .u16 idx (zs kT)), .int .i64 0]) ∧ Below w.heap.size w w' := by
  obtain ⟨l, hlz⟩ : ∃ l, l = zeros := ⟨_, rfl⟩
  have hl : l.length = 256 := by rw [hlz]; exact zeros_length
  rw [← hlz]
  have hz := fun W => refZero_any l hl W
  rw [decide_eq_true hlz] at hz
  have HZ := Lib.hid hz
  clear hz hlz
  have hzv := (zero_of_info infoT).1
  have hi := sizeBlock l hl
  have hi0 := sizeT 0 (zs kT) (zs_length kT)
  have hi1 := sizeT idx (zs kT) (zs_length kT)
  have hsz : (pgCells .u16 0 (zs kT)).size = (pgCells .u16 idx (zs kT)).size := by rw [pgCells_size, pgCells_size]
  have hne : ∀ x ∈ [(w.heap.size + 1, Obj.cells (pgCells .u16 0 (zs kT)) 26), (w.heap.size, Obj.cells (cellsOf l) 32)], x.1 ≠ w.heap.size + 1 + 1 := by simp; omega
  have hk0 : Kept w [(w.heap.size + 1 + 1, Obj.cells (pgCells .u16 0 (zs kT)) 26), (w.heap.size + 1, Obj.cells (pgCells .u16 0 (zs kT)) 26), (w.heap.size, Obj.cells (cellsOf l) 32)] (((w.alloc (Obj.cells (cellsOf l) 32)).alloc (Obj.cells (pgCells .u16 0 (zs kT)) 26)).alloc (Obj.cells (pgCells .u16 0 (zs kT)) 26)) := by
    have h := (((Kept.start w).alloc (Obj.cells (cellsOf l) 32)).alloc (Obj.cells (pgCells .u16 0 (zs kT)) 26)).alloc (Obj.cells (pgCells .u16 0 (zs kT)) 26)
    rwa [show (w.alloc (Obj.cells (cellsOf l) 32)).heap.size = w.heap.size + 1 from by simp, show ((w.alloc (Obj.cells (cellsOf l) 32)).alloc (Obj.cells (pgCells .u16 0 (zs kT)) 26)).heap.size = w.heap.size + 1 + 1 from by simp] at h
  have hk := hk0.setRow (cs' := pgCells .u16 idx (zs kT)) hne
  have hP0 := hk0.at_ List.mem_cons_self
  clear hk0
  have hset := pgCells_setIdx (K := .u16) 0 idx (zs kT)
  have hlim : idx < 16384 := ho
  have d1 : ¬ (16384 : Int) ≤ (idx : Int) := by omega
  clear ho
  have tok : True := trivial
  go_enter Try.func16, Try.ntmps16
  go_wp2_with (first
    | (have _t := tok; refine wpList_store_row rfl 26 _ _ rfl _ _ rfl rfl _ _ hP0 hi1 hsz (pgCells_one _ _) ?_; clear _t tok hP0; generalize ((((w.alloc (Obj.cells (cellsOf l) 32)).alloc (Obj.cells (pgCells .u16 0 (zs kT)) 26)).alloc (Obj.cells (pgCells .u16 0 (zs kT)) 26))).setRow (w.heap.size + 1 + 1) (pgCells .u16 idx (zs kT)) = W0 at hk ⊢; have hB := hk.at_ (q := w.heap.size) (o := Obj.cells (cellsOf l) 32) (by simp))
    | (refine wpList_load_row rfl 32 _ rfl w.heap.size rfl _ _ _ _ hB Try.underlying32 rfl hi ?_))
  refine (HZ.out _).mono ?_
  rintro e W1 ⟨rfl, hx⟩
  replace hk := hk.below hx
  clear hx hB
  have hrw : w.heap.size ≤ w.heap.size + 1 := by omega
  have hrb : w.heap.size + 1 ≠ w.heap.size + 1 + 1 := by omega
  generalize w.heap.size + 1 + 1 = p at hk hne hrb ⊢
  generalize hrd : w.heap.size + 1 = r at hk hne hrb hrw ⊢
  clear hrd hset
  obtain ⟨b, hb⟩ : ∃ b, b = w.heap.size := ⟨_, rfl⟩
  rw [← hb] at hk hne ⊢
  clear hb
  have hR := hk.at_ (q := r) (o := Obj.cells (pgCells .u16 0 (zs kT)) 26) (by simp)
  have hP := hk.at_ List.mem_cons_self
  go_wp2_with (first | (refine wpList_load_row rfl 26 _ rfl p rfl _ _ _ _ hP Try.underlying26 rfl hi1 ?_) | (refine wpList_store_row rfl 26 _ _ rfl r _ rfl rfl _ _ hR hi1 hsz (pgCells_one _ _) ?_))
  exact bodyPost_ret (results_row_tmp rfl _ _ _ _ _ _ _ rfl (setRow_heap _ _ _ _ _ _ hR) Try.underlying26 rfl hi1) rfl ⟨rfl, below_row hk.bel hrw⟩

set_option maxHeartbeats 3200000 in
theorem refGet_coreT (l : List UInt8) (hl : l.length = 256) (hlz : l ≠ zeros) (idx : Nat) (ho : idx < kT.lim) (w : World) :
    Calls Try.prog 16 #[.agg (cellsOf l), .int .u32 (idx : Int)] w fun e w' => e = .returned (.tuple #[.agg (if pgB kT idx (nsOf kT l) = l then pgCells .u16 idx (nsOf kT l) else pgCells .u16 0 (zs kT)), .int .i64 (if pgB kT idx (nsOf kT l) = l then 0 else 250)]) ∧ Below w.heap.size w w' := by
  have hz := fun W => refZero_any l hl W
  rw [decide_eq_false hlz] at hz
  have HZ := Lib.hid hz
  have HLn := Lib.hid hl
  have HS := Lib.hid (nsK_set kT true l)
  have HPL := Lib.hid (nsK_length kT true l)
  have HNL := Lib.hid (nsOf_lt fT l hl)
  have HTW := Lib.hid (fun A h => two_at l A h)
  clear hz hlz
  obtain ⟨B, hB⟩ : ∃ B, B = pgB kT idx (nsOf kT l) := ⟨_, rfl⟩
  rw [← hB]
  have HB := Lib.hid hB
  clear hB
  obtain ⟨R, hR⟩ : ∃ R, R = if B = l then pgCells .u16 idx (nsOf kT l) else pgCells .u16 0 (zs kT) := ⟨_, rfl⟩
  obtain ⟨Ev, hEv⟩ : ∃ Ev : Int, Ev = if B = l then 0 else 250 := ⟨_, rfl⟩
  rw [← hR, ← hEv]
  have HR := Lib.hid hR
  have HEv := Lib.hid hEv
  clear hR hEv
  have hzv := (zero_of_info infoT).1
  have hi := sizeBlock l hl
  have hi0 := sizeT 0 (zs kT) (zs_length kT)
  have hi1 := sizeT idx (zs kT) (zs_length kT)
  have hsz : (pgCells .u16 0 (zs kT)).size = (pgCells .u16 idx (zs kT)).size := by rw [pgCells_size, pgCells_size]
  have hne : ∀ x ∈ [(w.heap.size + 1, Obj.cells (pgCells .u16 0 (zs kT)) 26), (w.heap.size, Obj.cells (cellsOf l) 32)], x.1 ≠ w.heap.size + 1 + 1 := by simp; omega
  have hk0 : Kept w [(w.heap.size + 1 + 1, Obj.cells (pgCells .u16 0 (zs kT)) 26), (w.heap.size + 1, Obj.cells (pgCells .u16 0 (zs kT)) 26), (w.heap.size, Obj.cells (cellsOf l) 32)] (((w.alloc (Obj.cells (cellsOf l) 32)).alloc (Obj.cells (pgCells .u16 0 (zs kT)) 26)).alloc (Obj.cells (pgCells .u16 0 (zs kT)) 26)) := by
    have h := (((Kept.start w).alloc (Obj.cells (cellsOf l) 32)).alloc (Obj.cells (pgCells .u16 0 (zs kT)) 26)).alloc (Obj.cells (pgCells .u16 0 (zs kT)) 26)
    rwa [show (w.alloc (Obj.cells (cellsOf l) 32)).heap.size = w.heap.size + 1 from by simp, show ((w.alloc (Obj.cells (cellsOf l) 32)).alloc (Obj.cells (pgCells .u16 0 (zs kT)) 26)).heap.size = w.heap.size + 1 + 1 from by simp] at h
  have hk := hk0.setRow (cs' := pgCells .u16 idx (zs kT)) hne
  have hP0 := hk0.at_ List.mem_cons_self
  clear hk0
  have hset := pgCells_setIdx (K := .u16) 0 idx (zs kT)
  have hlim : idx < 16384 := ho
  have d1 : ¬ (16384 : Int) ≤ (idx : Int) := by omega
  clear ho
  have tok : True := trivial
  go_enter Try.func16, Try.ntmps16
  go_wp2_with (first
    | (have _t := tok; refine wpList_store_row rfl 26 _ _ rfl _ _ rfl rfl _ _ hP0 hi1 hsz (pgCells_one _ _) ?_; clear _t tok hP0; generalize ((((w.alloc (Obj.cells (cellsOf l) 32)).alloc (Obj.cells (pgCells .u16 0 (zs kT)) 26)).alloc (Obj.cells (pgCells .u16 0 (zs kT)) 26))).setRow (w.heap.size + 1 + 1) (pgCells .u16 idx (zs kT)) = W0 at hk ⊢; have hB := hk.at_ (q := w.heap.size) (o := Obj.cells (cellsOf l) 32) (by simp))
    | (refine wpList_load_row rfl 32 _ rfl w.heap.size rfl _ _ _ _ hB Try.underlying32 rfl hi ?_))
  refine (HZ.out _).mono ?_
  rintro e W1 ⟨rfl, hx⟩
  replace hk := hk.below hx
  clear hx hB
  have hrw : w.heap.size ≤ w.heap.size + 1 := by omega
  have hrb : w.heap.size + 1 ≠ w.heap.size + 1 + 1 := by omega
  generalize w.heap.size + 1 + 1 = p at hk hne hrb ⊢
  generalize hrd : w.heap.size + 1 = r at hk hne hrb hrw ⊢
  clear hrd hset
  obtain ⟨b, hb⟩ : ∃ b, b = w.heap.size := ⟨_, rfl⟩
  rw [← hb] at hk hne ⊢
  clear hb
  go_wp2_with fail
  go_loopw [7] (fun i wr => ∃ j : Nat, j ≤ 64 ∧ i = .int .i64 j ∧ Kept w ((p, .cells (pgCells .u16 idx (nsK kT true l j)) 26) :: [(r, Obj.cells (pgCells .u16 0 (zs kT)) 26), (b, Obj.cells (cellsOf l) 32)]) wr) (fun i _ => 64 - (intOf i).toNat)
  case atStart => exact ⟨0, by omega, rfl, by rw [nsK_zero]; exact hk⟩
  case round =>
    clear hk
    obtain ⟨j, hj, rfl, hk⟩ := hrel
    by_cases hlt : j < 64
    · have hl256 := HLn.out
      have hst := HS.out j hlt
      rw [show valK kT true l j = leNat (piece l (5 + 2 * j) 2) from rfl, HTW.out (5 + 2 * j) (by omega)] at hst
      have hB : Holds wr b l := hk.at_ (q := b) (o := Obj.cells (cellsOf l) 32) (by simp)
      have hP : IsPg .u16 26 wr p idx (nsK kT true l j) := hk.at_ List.mem_cons_self
      obtain ⟨A, hA⟩ : ∃ A, A = 5 + 2 * j := ⟨_, rfl⟩
      obtain ⟨C, hC⟩ : ∃ C, C = 6 + 2 * j := ⟨_, rfl⟩
      simp only [← hA] at hst
      obtain ⟨b0, e0⟩ : ∃ b, b = (l[A]'(by omega)) := ⟨_, rfl⟩
      obtain ⟨b1, e1⟩ : ∃ b, b = (l[A + 1]'(by omega)) := ⟨_, rfl⟩
      have c0 : wr.cell? ⟨b, A, none⟩ = some (.int .u8 (b0.toNat : Int)) := by rw [e0]; exact hB.cell A (by omega)
      have c1 : wr.cell? ⟨b, C, none⟩ = some (.int .u8 (b1.toNat : Int)) := by rw [e1, show C = A + 1 from by omega]; exact hB.cell (A + 1) (by omega)
      rw [← e0, ← e1] at hst
      clear e0 e1 hB
      have u0 := b0.toNat_lt
      have u1 := b1.toNat_lt
      generalize b0.toNat = n0 at c0 hst u0
      generalize b1.toNat = n1 at c1 hst u1
      obtain ⟨x, hx⟩ : ∃ x, x = n0 + 256 * n1 := ⟨_, rfl⟩
      rw [← hx] at hst
      have hpl : (nsK kT true l j).length = 64 := HPL.out j hj
      obtain ⟨v0, h0⟩ : ∃ v0, wr.drew.cell? ⟨p, 1 + j, none⟩ = some v0 := ⟨_, hP.num j (by omega)⟩
      have hf : wr.drew.frozen? ⟨p, 1 + j, none⟩ = false := hP.frozen (1 + j)
      have hn := hk.drew.setCell (j := 1 + j) (v := .int .u16 (x : Int)) hne
      rw [pgCells_set, hst] at hn
      have m1 : (5 : Int) + 2 * (j : Int) = (A : Int) := by omega
      have m2 : (6 : Int) + 2 * (j : Int) = (C : Int) := by omega
      have m0 : IntKind.i64.wrap (2 * (j : Int)) = 2 * (j : Int) := IntWalk.i64_in _ (by omega)
      have hA0 : (0 : Int) ≤ (A : Int) := by omega
      have hC0 : (0 : Int) ≤ (C : Int) := by omega
      have hA1 : (A : Int) < 256 := by omega
      have hC1 : (C : Int) < 256 := by omega
      have hA2 : IntKind.i64.wrap (A : Int) = (A : Int) := IntWalk.i64_in _ (by omega)
      have hC2 : IntKind.i64.wrap (C : Int) = (C : Int) := IntWalk.i64_in _ (by omega)
      have hK1 : (j : Int) < 64 := by omega
      have zz0 : IntKind.u16.wrap (n0 : Int) = (n0 : Int) := IntWalk.u16_in _ (by omega)
      have zz1 : IntKind.u16.wrap (n1 : Int) = (n1 : Int) := IntWalk.u16_in _ (by omega)
      have y1 : IntKind.u16.wrap (256 * (n1 : Int)) = 256 * (n1 : Int) := IntWalk.u16_in _ (by omega)
      have s1 : IntKind.u16.wrap ((n0 : Int) + 256 * (n1 : Int)) = (x : Int) := by rw [IntWalk.u16_in _ (by omega)]; omega
      clear hA hC hx hst hP hpl
      go_wp2_with fail
      refine wp_region_still_tail 17 (by kernel_rfl) (by kernel_rfl) ?_
      simp only [List.take_succ_cons, List.take_zero, List.drop_succ_cons, List.drop_zero]
      repeat still_step
      refine wpStill_nil ?_
      change wpList _ _ _ _ _ wr.drew
      clear c0 c1 hk
      generalize wr.drew = W1 at h0 hf hn ⊢
      clear zz0 zz1 y1 s1 hA0 hA1 hC0 hC1 hA2 hC2 m0 m1 m2
      go_wp2
      go_roundw
      case rel => exact ⟨j + 1, by omega, by go_num, hn⟩
      case measure => simp [intOf]; omega
    · obtain rfl : j = 64 := by omega
      rw [show nsK kT true l 64 = nsOf kT l from nsK_all kT l] at hk
      have hnl := nsOf_length kT l
      have hput := fun W => refPut_anyT idx (nsOf kT l) hnl HNL.out W
      rw [show putB kT idx (nsOf kT l) = pgB kT idx (nsOf kT l) from if_pos hlim, show putE kT idx = 0 from if_pos hlim] at hput
      have hpl := pgB_length fT idx hnl
      have hin := sizeT idx (nsOf kT l) hnl
      have hs2 : (pgCells .u16 0 (zs kT)).size = (pgCells .u16 idx (nsOf kT l)).size := by rw [pgCells_size, pgCells_size, zs_length, hnl]
      rw [← HB.out] at hpl
      simp only [← HB.out] at hput
      have hip := sizeBlock B hpl
      have hzz : (cellsOf zeros).size = (cellsOf B).size := by rw [cellsOf_size, cellsOf_size, hpl, zeros_length]
      have hzb := (zero_of_info infoBlock).1
      have hg := fun (W : World) (op : BinOp) (x y : Operand) (xs ys : Array Value) => run_eqGuard_agg (P := Try.prog) W op 32 x y xs ys noGuard
      have heq := fun W : World => run_eqBlock W B l hpl HLn.out
      have HPT := Lib.hid hput
      have hP := hk.at_ List.mem_cons_self
      generalize nsOf kT l = ns at hk HPT hin hs2 hP HR
      clear hput hnl hpl HB
      go_wp2_with (refine wpList_load_row rfl 26 _ rfl p rfl _ _ _ _ hP Try.underlying26 rfl hin ?_)
      refine (HPT.out _).mono ?_
      rintro e W3 ⟨rfl, hx⟩
      have hk2 := (hk.below hx).alloc (.cells (cellsOf B) 32)
      clear hx hk hP
      have tok : True := trivial
      by_cases hBl : B = l
      · rw [decide_eq_true hBl] at heq
        have HBl := Lib.hid hBl; clear hBl
        go_wp2_with (first
          | (have _t := tok; refine wpList_store_new rfl 32 _ _ rfl (cellsOf B) _ _ rfl rfl hip hzz (cellsOf_one _) ?_; generalize W3.heap.size = q7 at hk2 ⊢; generalize W3.alloc (.cells (cellsOf B) 32) = W4 at hk2 ⊢; clear _t tok; have hA := hk2.at_ List.mem_cons_self; have hP := hk2.at_ (q := p) (o := .cells (pgCells .u16 idx ns) 26) (by simp); have hR := hk2.at_ (q := r) (o := Obj.cells (pgCells .u16 0 (zs kT)) 26) (by simp); have hq := hk2.at_ (q := b) (o := Obj.cells (cellsOf l) 32) (by simp))
          | (refine wpList_load_want (by rfl) 32 _ rfl q7 rfl _ _ _ _ hA Try.underlying32 rfl hip ?_)
          | (refine wpList_load_want (by rfl) 32 _ rfl b rfl _ _ _ _ hq Try.underlying32 rfl hi ?_)
          | (refine wpList_load_row rfl 26 _ rfl p rfl _ _ _ _ hP Try.underlying26 rfl hin ?_)
          | (refine wpList_store_row rfl 26 _ _ rfl r _ rfl rfl _ _ hR hin hs2 (pgCells_one _ _) ?_))
        exact bodyPost_ret (results_row_tmp rfl _ _ _ _ _ _ _ rfl (setRow_heap _ _ _ _ _ _ (hk2.at_ (q := r) (o := Obj.cells (pgCells .u16 0 (zs kT)) 26) (by simp))) Try.underlying26 rfl hin) rfl ⟨by rw [HR.out, HEv.out, if_pos HBl.out, if_pos HBl.out]; rfl, below_row hk2.bel hrw⟩
      · rw [decide_eq_false hBl] at heq
        have HBl := Lib.hid hBl; clear hBl
        go_wp2_with (first
          | (have _t := tok; refine wpList_store_new rfl 32 _ _ rfl (cellsOf B) _ _ rfl rfl hip hzz (cellsOf_one _) ?_; generalize W3.heap.size = q7 at hk2 ⊢; generalize W3.alloc (.cells (cellsOf B) 32) = W4 at hk2 ⊢; clear _t tok; have hA := hk2.at_ List.mem_cons_self; have hR := hk2.at_ (q := r) (o := Obj.cells (pgCells .u16 0 (zs kT)) 26) (by simp); have hq := hk2.at_ (q := b) (o := Obj.cells (cellsOf l) 32) (by simp))
          | (refine wpList_load_want (by rfl) 32 _ rfl q7 rfl _ _ _ _ hA Try.underlying32 rfl hip ?_)
          | (refine wpList_load_want (by rfl) 32 _ rfl b rfl _ _ _ _ hq Try.underlying32 rfl hi ?_)
          | (refine wpList_store_row rfl 26 _ _ rfl r _ rfl rfl _ _ hR hi0 rfl (pgCells_one _ _) ?_))
        exact bodyPost_ret (results_row_tmp rfl _ _ _ _ _ _ _ rfl (setRow_heap _ _ _ _ _ _ (hk2.at_ (q := r) (o := Obj.cells (pgCells .u16 0 (zs kT)) 26) (by simp))) Try.underlying26 rfl hi0) rfl ⟨by rw [HR.out, HEv.out, if_neg HBl.out, if_neg HBl.out]; rfl, below_row hk2.bel hrw⟩

theorem refGet_anyT (l : List UInt8) (hl : l.length = 256) (idx : Nat) (w : World) :
    Calls Try.prog 16 #[.agg (cellsOf l), .int .u32 (idx : Int)] w fun e w' => e = .returned (.tuple #[.agg (pgCells .u16 (getI kT l idx) (getNs kT l idx)), .int .i64 (getE kT l idx)]) ∧ Below w.heap.size w w' := by
  by_cases ho : idx < kT.lim
  · by_cases hz : l = zeros
    · have hE : getE kT l idx = 0 := getE_zero.2 ⟨ho, .inl hz⟩
      unfold getI getNs
      rw [hE, if_pos rfl, if_pos rfl, hz, nsOf_zerosT]
      exact refGet_zeroT idx ho w
    · refine (refGet_coreT l hl hz idx ho w).mono fun e w' ⟨he, hb⟩ => ⟨he.trans ?_, hb⟩
      by_cases hp : pgB kT idx (nsOf kT l) = l
      · have hE : getE kT l idx = 0 := getE_zero.2 ⟨ho, .inr hp⟩
        unfold getI getNs
        rw [hE, if_pos rfl, if_pos rfl, if_pos hp, if_pos hp]
      · have hE : getE kT l idx = 250 := by
          have h1 : isG kT l idx = false := by unfold isG; rw [decide_eq_false hz, decide_eq_false hp]; rfl
          unfold getE
          rw [if_pos ho, h1]
          rfl
        unfold getI getNs
        rw [hE, if_neg hp, if_neg hp]
        rfl
  · have hE : getE kT l idx = 2 := if_neg ho
    unfold getI getNs
    rw [hE]
    exact refGet_noT l idx ho w


end Go.Proofs.Ytkkeemjgeeillaa.Tal
