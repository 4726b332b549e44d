/-
  Slt4: SltRefPut, SltRefGet.
-/
import Derived.Test.YtlojhdnahioicaaSlt1
import Derived.Test.YtlojhdnahioicaaFld3
import Derived.Test.YtlojhdnahioicaaKit1
import Derived.Test.YtlojhdnahioicaaCrc3
/-
  The walk of the reference's Put of roots.
-/
namespace Go.Proofs.Ytlojhdnahioicaa.Slt
open Go.RowKit RowLaw Crc Fld
set_option maxRecDepth 100000

/-- a row of a root's numbers -/
def wordsV (r : Rt) : Array Value := #[.int .u32 (r.size : Int), .int .u32 (r.picks : Int), .int .u32 (r.names : Int), .int .u32 (r.free : Int), .int .u32 (r.next : Int), .int .u32 (r.hint : Int)]
theorem wordsV_get (r : Rt) (j : Nat) (hj : j < (nums r).length) : (wordsV r)[j]? = some (.int .u32 ((nums r)[j] : Int)) := by
  rw [nums_length] at hj
  rcases (by omega : j = 0 ∨ j = 1 ∨ j = 2 ∨ j = 3 ∨ j = 4 ∨ j = 5) with rfl | rfl | rfl | rfl | rfl | rfl <;> rfl

set_option maxHeartbeats 1600000 in
theorem refPut_no (r : Rt) (hm : mayB r = false) (w : World) :
    Calls Try.prog 21 #[.agg (cells r)] w fun e w' => e = .returned (.tuple #[.agg (cellsOf zeros), .int .i64 2]) ∧ Below w.heap.size w w' := by
  have hzv := (zero_of_info infoBlock).1
  have hi := sizeBlock zeros zeros_length
  have hK : Kept w [(w.heap.size + 1, blockO zeros), (w.heap.size, rootO r)] ((w.alloc (.cells (cells r) 34)).alloc (.cells (cellsOf zeros) 49)) := by
    have h := ((Kept.start w).alloc (rootO r)).alloc (blockO zeros)
    rw [show (w.alloc (rootO r)).heap.size = w.heap.size + 1 from by simp] at h
    exact h
  have hcall := fun W => refMay_any r W
  rw [hm] at hcall
  go_enter Try.func21, Try.ntmps21
  go_wp2_with (refine wpList_load_row rfl 34 _ rfl (w.heap.size) rfl _ _ _ _ (hK.at_ (q := w.heap.size) (o := rootO r) (by simp)) Try.underlying34 rfl (sizeR r) ?_)
  refine (hcall _).mono ?_
  rintro e W1 ⟨rfl, hx⟩
  replace hK := hK.below hx
  clear hx
  have hR := hK.at_ (q := w.heap.size + 1) (o := blockO zeros) (by simp)
  go_wp2_with (refine wpList_store_row rfl 49 _ _ rfl _ _ rfl rfl _ _ hR hi rfl (cellsOf_one _) ?_)
  exact bodyPost_ret (results_row_tmp rfl _ _ _ _ _ _ _ rfl (setRow_heap _ _ _ _ _ _ hR) Try.underlying49 rfl hi) rfl ⟨rfl, below_row hK.bel (by omega)⟩

set_option maxHeartbeats 3200000 in
theorem refPut_yes (r : Rt) (hm : mayB r = true) (hf : r.Fits) (w : World) :
    Calls Try.prog 21 #[.agg (cells r)] w fun e w' => e = .returned (.tuple #[.agg (cellsOf (rtB r)), .int .i64 0]) ∧ Below w.heap.size w w' := by
  have hlen := rtB_length r
  have hzv := (zero_of_info infoBlock).1
  have hi := sizeBlock _ hlen
  have hzz : (cellsOf zeros).size = (cellsOf (rtB r)).size := by rw [cellsOf_size, cellsOf_size, hlen, zeros_length]
  have hK : Kept w [(w.heap.size + 1, blockO zeros), (w.heap.size, rootO r)] ((w.alloc (.cells (cells r) 34)).alloc (.cells (cellsOf zeros) 49)) := by
    have h := ((Kept.start w).alloc (rootO r)).alloc (blockO zeros)
    rw [show (w.alloc (rootO r)).heap.size = w.heap.size + 1 from by simp] at h
    exact h
  have hcall := fun W => refMay_any r W
  rw [hm] at hcall
  have hdone := fun W => refDone_short ⟨(rtF r).toArray⟩ (rtF r) (by simp) 82 (rtF_le r) W
  rw [show fdone (rtF r) 82 = rtB r from rfl] at hdone
  have hcf : (⟨(rtTo r 6).toArray⟩ : ByteArray) ++ ⟨(leB r.vols 1).toArray⟩ = ⟨(rtF r).toArray⟩ := str_app _ _
  have HCF := Lib.hid hcf
  have HZ := Lib.hid (rtTo_zero r)
  have HN := Lib.hid (fun j hj => rtTo_succ r j hj)
  have HL := Lib.hid (fun j hj => nums_lt hf j hj)
  have HD := Lib.hid hdone
  have HS := Lib.hid (fun j hj => rtTo_length r j hj)
  have hgl := hf.gen
  have hvl := hf.vols
  have hFl := rtF_le r
  generalize rtB r = B at hi hzz HD ⊢
  clear hm hf hlen hdone hcf
  go_enter Try.func21, Try.ntmps21
  go_wp2_with (refine wpList_load_row rfl 34 _ rfl (w.heap.size) rfl _ _ _ _ (hK.at_ (q := w.heap.size) (o := rootO r) (by simp)) Try.underlying34 rfl (sizeR r) ?_)
  refine (hcall _).mono ?_
  rintro e W1 ⟨rfl, hx⟩
  replace hK := hK.below hx
  clear hx hcall
  have hR : IsRt W1 w.heap.size r := hK.at_ (q := w.heap.size) (o := rootO r) (by simp)
  have e0 := hR.gen
  have e1 := hR.size
  have e2 := hR.picks
  have e3 := hR.names
  have e4 := hR.free
  have e5 := hR.next
  have e6 := hR.hint
  clear hR
  go_upto_region 4 with fail
  have hK3 := hK.alloc (.cells (wordsV r) 22)
  clear hK e1 e2 e3 e4 e5 e6
  unfold wordsV at hK3
  generalize W1.heap.size = u at hK3 ⊢
  have hwl : w.heap.size < W1.heap.size := World.block_lt_of_cell? W1 _ e0
  replace e0 := (Below.cell (p := ⟨w.heap.size, 0, none⟩) ((Below.refl W1.heap.size W1).alloc (Nat.le_refl _) (.cells #[.int .u32 (r.size : Int), .int .u32 (r.picks : Int), .int .u32 (r.names : Int), .int .u32 (r.free : Int), .int .u32 (r.next : Int), .int .u32 (r.hint : Int)] 22)) hwl).trans e0
  clear hwl
  generalize W1.alloc (.cells #[.int .u32 (r.size : Int), .int .u32 (r.picks : Int), .int .u32 (r.names : Int), .int .u32 (r.free : Int), .int .u32 (r.next : Int), .int .u32 (r.hint : Int)] 22) = W2 at hK3 e0 ⊢
  go_wp2_with fail
  refine (refNum_any 8 r.gen _ (by omega) (by omega)).mono ?_
  rintro e W3 ⟨rfl, hx⟩
  replace hK3 : Kept w [(u, .cells (wordsV r) 22 (0, 0)), (w.heap.size + 1, blockO zeros), (w.heap.size, rootO r)] W3 := hK3.below hx
  clear hx e0
  rw [← HZ.out]
  go_wp2_with fail
  go_loopw [5, 6] (fun s i wr => ∃ j : Nat, j ≤ 6 ∧ i = .int .i64 j ∧ s = .string ⟨(rtTo r j).toArray⟩ ∧ Kept w [(u, .cells (wordsV r) 22 (0, 0)), (w.heap.size + 1, blockO zeros), (w.heap.size, rootO r)] wr) (fun _ i _ => 6 - (intOf i).toNat)
  case atStart => exact ⟨0, by omega, rfl, rfl, hK3⟩
  case round =>
    clear hK3
    obtain ⟨j, hj, rfl, rfl, hK⟩ := hrel
    by_cases hlt : j < 6
    · have hjl : j < (nums r).length := hlt
      have hc : wr.cell? ⟨u, j, none⟩ = some (.int .u32 ((nums r)[j] : Int)) := (cell_of_row wr u j _ _ _ (hK.at_ (q := u) (o := .cells (wordsV r) 22 (0, 0)) (by simp))).trans (wordsV_get r j hjl)
      have hnx := HN.out j hjl
      have hxl := HL.out j hjl
      obtain ⟨x, hx⟩ : ∃ x, x = (nums r)[j] := ⟨_, rfl⟩
      rw [← hx] at hc hnx hxl
      clear hx
      have HNX := Lib.hid hnx; clear hnx
      have z2 : IntKind.u64.wrap (x : Int) = (x : Int) := IntWalk.u64_in _ (by omega)
      have s1 : (rtTo r j).length ≤ 100 := by rw [HS.out j (by omega)]; omega
      have s2 : (leB x 4).length ≤ 4 := by rw [leB_length]; omega
      go_wp2_with fail
      refine (refNum_any 4 x _ (by omega) (by omega)).mono ?_
      rintro e W4 ⟨rfl, hx⟩
      replace hK := hK.below hx
      clear hx hc
      go_wp2_with fail
      go_roundw
      case rel => exact ⟨j + 1, by omega, by go_num, by rw [HNX.out, ← str_app], hK⟩
      case measure => simp [intOf]; omega
    · obtain rfl : j = 6 := by omega
      have c8 := IsRt.vols (hK.at_ (q := w.heap.size) (o := rootO r) (by simp))
      have s1 : (rtTo r 6).length ≤ 100 := by rw [HS.out 6 (by omega)]; omega
      have z3 : IntKind.u64.wrap (r.vols : Int) = (r.vols : Int) := IntWalk.u64_in _ (by omega)
      generalize rtTo r 6 = T at HCF s1 ⊢
      generalize rtF r = F at HCF HD hFl
      have s2 : (leB r.vols 1).length ≤ 1 := by rw [leB_length]; omega
      go_wp2_with fail
      refine (refNum_any 1 r.vols _ (by omega) (by omega)).mono ?_
      rintro e W4 ⟨rfl, hx⟩
      replace hK := hK.below hx
      clear hx c8
      go_wp2_with fail
      rw [HCF.out]
      refine (HD.out _).mono ?_
      rintro e W5 ⟨rfl, hx⟩
      have hK2 := (hK.below hx).alloc (blockO B)
      clear hx hK
      have tok : True := trivial
      have hR := hK2.at_ (q := w.heap.size + 1) (o := blockO zeros) (by simp)
      have hN := hK2.at_ (q := W5.heap.size) (o := blockO B) (by simp)
      unfold blockO at hK2 hR hN
      go_wp2_with (first
        | (have _t := tok; refine wpList_store_new rfl 49 _ _ rfl (cellsOf B) _ _ rfl rfl hi hzz (cellsOf_one _) ?_; generalize W5.heap.size = q6 at hK2 hN ⊢; generalize W5.alloc (.cells (cellsOf B) 49) = W6 at hK2 hR hN ⊢; clear _t tok)
        | (refine wpList_load_row rfl 49 _ rfl q6 rfl _ _ _ _ hN Try.underlying49 rfl hi ?_)
        | (refine wpList_store_row rfl 49 _ _ rfl (w.heap.size + 1) _ rfl rfl _ _ hR hi hzz (cellsOf_one _) ?_))
      exact bodyPost_ret (results_row_tmp rfl _ _ _ _ _ _ _ rfl (setRow_heap _ _ _ _ _ _ hR) Try.underlying49 rfl hi) rfl ⟨rfl, below_row hK2.bel (by omega)⟩

theorem refPut_any (r : Rt) (hf : r.Fits) (w : World) :
    Calls Try.prog 21 #[.agg (cells r)] w fun e w' => e = .returned (.tuple #[.agg (cellsOf (putB r)), .int .i64 (putE r)]) ∧ Below w.heap.size w w' := by
  by_cases hm : mayB r = true
  · rw [putB_yes hm, putE_yes hm]; exact refPut_yes r hm hf w
  · rw [putB_no hm, putE_no hm]; exact refPut_no r (by simpa using hm) w

end Go.Proofs.Ytlojhdnahioicaa.Slt

/-
  The walks of the reference's num and Get of roots.
-/
namespace Go.Proofs.Ytlojhdnahioicaa.Slt
open Go.RowKit RowLaw Crc Fld
set_option maxRecDepth 100000

theorem numAt_zero (l : List UInt8) (k : Nat) : numAt l k 0 = 0 := by simp [numAt, piece, leNat]
theorem numAt_step (l : List UInt8) (k m : Nat) (h : k < l.length) : numAt l k (m + 1) = l[k].toNat + 256 * numAt l (k + 1) m := by
  unfold numAt piece
  rw [List.drop_eq_getElem_cons h, List.take_succ_cons]
  rfl
theorem numAt_lt2 (l : List UInt8) (k w : Nat) : numAt l k w < 256 ^ w := by
  refine Nat.lt_of_lt_of_le (leNat_lt _) (Nat.pow_le_pow_right (by omega) ?_)
  unfold piece
  rw [List.length_take]
  exact Nat.min_le_left _ _

theorem wp_yields {P : Program} {Q : Exit → Act → World → Prop} {K : Act → World → Prop} {a : Act} {W : World} (o : Oper) (v : Value) (h : (execOp a.eval o).run P W = .ok (.value v) W) (hk : K (a.put o.dst v) W) : o.wp P a W K Q := by
  unfold Oper.wp
  rw [h]
  exact hk
theorem run_conv32 (W : World) (a : Act) (t : Nat) (x : Nat) (hx : x < 4294967296) (hv : a.eval (.tmp t) = .int .u64 (x : Int)) (o : Oper) (ho : o.op = .convert 32 22 (.tmp t)) : (execOp a.eval o).run Try.prog W = .ok (.value (.int .u32 (x : Int))) W := by
  have z : IntKind.u32.wrap (x : Int) = (x : Int) := IntWalk.u32_in _ (by omega)
  unfold execOp
  simp only [ho, hv]
  go_simp
theorem wp_build_row {P : Program} {Q : Exit → Act → World → Prop} {K : Act → World → Prop} {a : Act} {W : World} (o : Oper) (t : TypeId) (xs : Array (Nat × Operand)) (ho : o.op = .build t xs)
    (ps : Array (Nat × Value)) (hx : (xs.map fun x => (x.1, a.eval x.2)) = ps) (v : Value) (hr : (Instr.build t ps).run P W = .ok v W) (h : K (a.put o.dst v) W) : o.wp P a W K Q := by
  unfold Oper.wp execOp
  simp only [ho, hx, Sem.run_bind, hr, Result.andThen_ok]
  exact h
theorem run_buildR (W : World) (l : List UInt8) : (Instr.build 34 #[(0, .int .u64 (numAt l 1 8 : Int)), (1, .int .u32 (numAt l 9 4 : Int)), (2, .int .u32 (numAt l 13 4 : Int)), (3, .int .u32 (numAt l 17 4 : Int)), (4, .int .u32 (numAt l 21 4 : Int)), (5, .int .u32 (numAt l 25 4 : Int)), (6, .int .u32 (numAt l 29 4 : Int)), (7, .int .u8 (numAt l 33 1 : Int))]).run Try.prog W = .ok (.agg (cells (rawR l))) W := by
  go_simp
  rfl
/-- what the operations of the reference's reading yield -/
def rfact (l : List UInt8) (B : Nat) : Nat → Value → World → Prop
  | 1, v, _ => v = .int .u64 (numAt l 1 8 : Int)
  | 3, v, _ => v = .int .u64 (numAt l 9 4 : Int)
  | 4, v, _ => v = .int .u32 (numAt l 9 4 : Int)
  | 6, v, _ => v = .int .u64 (numAt l 13 4 : Int)
  | 7, v, _ => v = .int .u32 (numAt l 13 4 : Int)
  | 9, v, _ => v = .int .u64 (numAt l 17 4 : Int)
  | 10, v, _ => v = .int .u32 (numAt l 17 4 : Int)
  | 12, v, _ => v = .int .u64 (numAt l 21 4 : Int)
  | 13, v, _ => v = .int .u32 (numAt l 21 4 : Int)
  | 15, v, _ => v = .int .u64 (numAt l 25 4 : Int)
  | 16, v, _ => v = .int .u32 (numAt l 25 4 : Int)
  | 18, v, _ => v = .int .u64 (numAt l 29 4 : Int)
  | 19, v, _ => v = .int .u32 (numAt l 29 4 : Int)
  | 22, v, _ => v = .agg (cells (rawR l))
  | 23, v, W => ∃ q, v = .pointer (some ⟨q, 0, none⟩) ∧ B ≤ q ∧ W.heap[q]? = some (rootO nil)
  | _, _, _ => False
theorem rfact_stays (l : List UInt8) (B : Nat) (i : Nat) (v : Value) (W W' : World) (h : rfact l B i v W) (hb : Below W.heap.size W W') : rfact l B i v W' := by
  unfold rfact at h ⊢
  split at h
  all_goals first
    | exact h
    | (obtain ⟨q, h1, h2, h3⟩ := h; exact ⟨q, h1, h2, (hb.block q (Array.getElem?_eq_some_iff.1 h3).1).trans h3⟩)

end Go.Proofs.Ytlojhdnahioicaa.Slt

