/-
  The walks of slot's Torn and of the reference's.
-/
import Derived.Test.YtdlgdnmmeopkjaaSltMay
import Derived.Laws.CopyOwn
import Derived.StillTailTactics
namespace Go.Proofs.Ytdlgdnmmeopkjaa.Slt
open Go.RowKit RowLaw Crc Fld
set_option maxRecDepth 100000

/-- sector i of new, in old -/
def sect (old new : List UInt8) (i : Nat) : List UInt8 := old.take (i * 64) ++ ((new.drop (i * 64)).take 64 ++ old.drop (i * 64 + 64))
def keepTo (old new : List UInt8) (m : Nat) : Nat → List UInt8
  | 0 => old
  | k + 1 => if m.testBit k then sect (keepTo old new m k) new k else keepTo old new m k
theorem sect_length {old new : List UInt8} (ho : old.length = 256) (hn : new.length = 256) {i : Nat} (hi : i < 4) : (sect old new i).length = 256 := by
  simp [sect, ho, hn]; omega
theorem sect_get {old new : List UInt8} (ho : old.length = 256) (hn : new.length = 256) {i : Nat} (hi : i < 4) (j : Nat) : (sect old new i)[j]? = if j / 64 = i then new[j]? else old[j]? := by
  unfold sect
  by_cases h1 : j < i * 64
  · rw [List.getElem?_append_left (by simp [ho]; omega), if_neg (by omega), List.getElem?_take_of_lt h1]
  · rw [List.getElem?_append_right (by simp [ho]; omega)]
    have e1 : (old.take (i * 64)).length = i * 64 := by simp [ho]; omega
    rw [e1]
    have e2 : ((new.drop (i * 64)).take 64).length = 64 := by simp [hn]; omega
    by_cases h2 : j < i * 64 + 64
    · rw [List.getElem?_append_left (by rw [e2]; omega), if_pos (by omega), List.getElem?_take_of_lt (by omega), List.getElem?_drop]
      congr 1; omega
    · rw [List.getElem?_append_right (by rw [e2]; omega), if_neg (by omega), e2, List.getElem?_drop]
      congr 1; omega
theorem keepTo_length {old new : List UInt8} (ho : old.length = 256) (hn : new.length = 256) (m : Nat) : ∀ k, k ≤ 4 → (keepTo old new m k).length = 256
  | 0, _ => ho
  | k + 1, hk => by
    have ih := keepTo_length ho hn m k (by omega)
    unfold keepTo
    split
    · exact sect_length ih hn (by omega)
    · exact ih
theorem keepTo_get {old new : List UInt8} (ho : old.length = 256) (hn : new.length = 256) (m : Nat) (j : Nat) (hj : j < 256) : ∀ k, k ≤ 4 → (keepTo old new m k)[j]? = if j / 64 < k ∧ m.testBit (j / 64) = true then new[j]? else old[j]?
  | 0, _ => by rw [if_neg (by omega)]; rfl
  | k + 1, hk => by
    have ih := keepTo_get ho hn m j hj k (by omega)
    have hl := keepTo_length ho hn m k (by omega)
    unfold keepTo
    by_cases hb : m.testBit k = true
    · rw [if_pos hb, sect_get hl hn (by omega) j, ih]
      by_cases hjk : j / 64 = k
      · rw [if_pos hjk, if_pos ⟨by omega, by rw [hjk]; exact hb⟩]
      · rw [if_neg hjk]
        by_cases h : j / 64 < k ∧ m.testBit (j / 64) = true
        · rw [if_pos h, if_pos ⟨by omega, h.2⟩]
        · rw [if_neg h, if_neg (fun h' => h ⟨by omega, h'.2⟩)]
    · rw [if_neg hb, ih]
      by_cases h : j / 64 < k ∧ m.testBit (j / 64) = true
      · rw [if_pos h, if_pos ⟨by omega, h.2⟩]
      · rw [if_neg h, if_neg (fun h' => h ⟨by
          have : j / 64 ≠ k := fun e => hb (e ▸ h'.2)
          omega, h'.2⟩)]
theorem keepTo_all {old new : List UInt8} (ho : old.length = 256) (hn : new.length = 256) (m : Nat) : keepTo old new m 4 = tornB old new m := by
  apply List.ext_getElem?
  intro j
  by_cases hj : j < 256
  · rw [keepTo_get ho hn m j hj 4 (Nat.le_refl _), tornB_get old new m j hj]
    by_cases h : m.testBit (j / 64) = true
    · rw [if_pos ⟨by omega, h⟩, if_pos h, getD_get (by omega)]
    · rw [if_neg (fun h' => h h'.2), if_neg h, getD_get (by omega)]
  · rw [List.getElem?_eq_none (by rw [keepTo_length ho hn m 4 (Nat.le_refl _)]; omega), List.getElem?_eq_none (by rw [tornB_length]; omega)]

theorem info8s : ∃ i, Try.prog.info? 5 = some i ∧ i.size = 1 := by
  obtain ⟨i, hi⟩ : ∃ i, Try.prog.info? 5 = some i := Option.isSome_iff_exists.1 (by kernel_rfl)
  refine ⟨i, hi, ?_⟩
  have h : (Try.prog.info? 5).map (·.size) = some 1 := by kernel_rfl
  rw [hi] at h
  simpa using h
theorem run_mid (k : Nat) (hk : k < 4) (b : Nat) (W : World) : (Instr.sliceAt 27 (.pointer (some ⟨b, 0, none⟩)) (some (.int .i64 ((k : Int) * 64))) (some (.int .i64 ((k : Int) * 64 + 64))) none).run Try.prog W = .ok (.slice (some ⟨b, k * 64, none⟩) 64 (256 - k * 64)) W := by
  have z1 : 0 ≤ (k : Int) * 64 := by omega
  have z3 : (k : Int) * 64 + 64 ≤ ((256 : Nat) : Int) := by omega
  have z4 : ((k : Int) * 64).toNat = k * 64 := by omega
  have z5 : ((k : Int) * 64 + 64).toNat = k * 64 + 64 := by omega
  have z6 : ¬ 256 = k * 64 := by omega
  have z7 : k * 64 + 64 - k * 64 = 64 := by omega
  have z8 : (0 : Int) ≤ (k : Int) * 64 + 64 := by omega
  have z9 : (k : Int) * 64 ≤ ((((k : Int) * 64 + 64).toNat : Nat) : Int) := by omega
  have hb : (Instr.sliceBounds false 256 256 (some (.int .i64 ((k : Int) * 64))) (some (.int .i64 ((k : Int) * 64 + 64))) none).run Try.prog W = .ok (k * 64, k * 64 + 64, 256) W := by
    simp only [Instr.sliceBounds, Sem.run_bind, Sem.run_pure, Result.andThen_ok, Option.isSome_none, Bool.false_eq_true, if_false, run_sliceBound W .i64 _ 256 _ z8 z3]
    rw [run_sliceBound W .i64 _ _ _ z1 z9]
    simp only [Result.andThen_ok, z4, z5]
  obtain ⟨i, hi, hi1⟩ := info8s
  unfold Instr.sliceAt
  simp only [Sem.run_bind, run_underlying Try.underlying27, Instr.sureAddr, Sem.run_pure, Result.andThen_ok, hb, sizeOf, typeInfo]
  simp [hi, hi1, z6, z7]
  exact (Addr.add_mid b 0 (k * 64)).trans (by rw [Nat.zero_add])
theorem run_end (k : Nat) (hk : k < 4) (b : Nat) (W : World) : (Instr.sliceAt 27 (.pointer (some ⟨b, 0, none⟩)) (some (.int .i64 ((k : Int) * 64))) none none).run Try.prog W = .ok (.slice (some ⟨b, k * 64, none⟩) (256 - k * 64) (256 - k * 64)) W := by
  have z1 : 0 ≤ (k : Int) * 64 := by omega
  have z3 : (k : Int) * 64 ≤ ((256 : Nat) : Int) := by omega
  have z4 : ((k : Int) * 64).toNat = k * 64 := by omega
  have z6 : ¬ 256 = k * 64 := by omega
  have hb : (Instr.sliceBounds false 256 256 (some (.int .i64 ((k : Int) * 64))) none none).run Try.prog W = .ok (k * 64, 256, 256) W := by
    simp only [Instr.sliceBounds, Sem.run_bind, Sem.run_pure, Result.andThen_ok, Option.isSome_none, Bool.false_eq_true, if_false]
    rw [run_sliceBound W .i64 _ _ _ z1 z3]
    simp only [Result.andThen_ok, z4]
  obtain ⟨i, hi, hi1⟩ := info8s
  unfold Instr.sliceAt
  simp only [Sem.run_bind, run_underlying Try.underlying27, Instr.sureAddr, Sem.run_pure, Result.andThen_ok, hb, sizeOf, typeInfo]
  simp [hi, hi1, z6]
  exact (Addr.add_mid b 0 (k * 64)).trans (by rw [Nat.zero_add])
theorem bit_at : ∀ m : Nat, m < 256 → ∀ k : Nat, k < 4 → (bits BinOp.and IntKind.u8 ((m : Int) / 2 ^ k) 1 == 1) = m.testBit k := by decide +kernel

set_option maxHeartbeats 3200000 in
theorem Torn_any (l m : List UInt8) (hl : l.length = 256) (hm : m.length = 256) (s : Nat) (hs : s < 256) (w : World) :
    Calls Try.prog 14 #[.agg (cellsOf l), .agg (cellsOf m), .int .u8 (s : Int)] w fun e w' => e = .returned (.agg (cellsOf (tornB l m s))) ∧ Below w.heap.size w w' := by
  have hzv := (zero_of_info infoBlock).1
  have hK : Kept w [(w.heap.size, blockO l), (w.heap.size + 1, blockO m), (w.heap.size + 2, blockO zeros)] (((w.alloc (.cells (cellsOf l) 27)).alloc (.cells (cellsOf m) 27)).alloc (.cells (cellsOf zeros) 27)) := by
    have h := (((Kept.start w).alloc (blockO l)).alloc (blockO m)).alloc (blockO zeros)
    rw [show ((w.alloc (blockO l)).alloc (blockO m)).heap.size = w.heap.size + 2 from by simp, show (w.alloc (blockO l)).heap.size = w.heap.size + 1 from by simp] at h
    exact h.less (by intro x hx; simp only [List.mem_cons, List.not_mem_nil, or_false] at hx ⊢; rcases hx with rfl | rfl | rfl <;> simp)
  have HL := Lib.hid hl
  have HM := Lib.hid hm
  have hT := tornB_length l m s
  have HT := Lib.hid (keepTo_all hl hm s)
  have HKL : Hid (∀ k, k ≤ 4 → (keepTo l m s k).length = 256) := Lib.hid (keepTo_length hl hm s)
  clear hl hm
  go_enter Try.func14, Try.ntmps14
  go_wp2
  go_loopw [9] (fun i wr => ∃ k : Nat, k ≤ 4 ∧ i = .int .i64 k ∧ Kept w [(w.heap.size, .cells (cellsOf (keepTo l m s k)) 27 (0, 0)), (w.heap.size + 1, blockO m), (w.heap.size + 2, blockO zeros)] wr) (fun i _ => 4 - (intOf i).toNat)
  case atStart => exact ⟨0, by omega, rfl, hK⟩
  case round =>
    obtain ⟨k, hk, rfl, hbk⟩ := hrel
    clear hK
    by_cases hlt : k < 4
    · have hkb := bit_at s hs k hlt
      obtain ⟨bv, hbv⟩ : ∃ bv, bv = s.testBit k := ⟨_, rfl⟩
      rw [← hbv] at hkb
      cases bv with
      | false =>
        have hn : keepTo l m s (k + 1) = keepTo l m s k := by
          show (if s.testBit k then _ else _) = _
          rw [if_neg (by rw [← hbv]; simp)]
        rw [← hn] at hbk
        clear hbv hn
        go_wp2_with fail
        go_roundw
        case rel => exact ⟨k + 1, by omega, by go_num, hbk⟩
        case measure => simp [intOf]; omega
      | true =>
        have hn : Hid (keepTo l m s (k + 1) = sect (keepTo l m s k) m k) := Lib.hid (by
          show (if s.testBit k then _ else _) = _
          rw [if_pos hbv.symm])
        clear hbv
        go_wp2_with fail
        refine wp_region_still_tail 6 (by kernel_rfl) (by kernel_rfl) ?_
        simp only [List.take_succ_cons, List.take_zero, List.drop_succ_cons, List.drop_zero]
        have hs1 := fun W => run_mid k hlt w.heap.size W
        have hs2 := fun W => run_end k hlt (w.heap.size + 1) W
        have z1 : IntKind.i64.wrap ((k : Int) * 64 + 64) = (k : Int) * 64 + 64 := IntWalk.i64_in _ (by omega)
        have HB := Lib.hid hbk
        clear hbk hkb
        still_step
        still_step
        still_step
        still_step
        still_step
        still_step
        refine wpStill_nil ?_
        change wpList _ _ _ _ _ wr.drew
        have hbk := HB.out.drew
        clear hs1 hs2 z1 HB
        generalize wr.drew = W at hbk ⊢
        have hQ2 := hbk.at_ (q := w.heap.size) (o := .cells (cellsOf (keepTo l m s k)) 27 (0, 0)) (by simp)
        have hN : Holds W (w.heap.size + 1) m := hbk.at_ (q := w.heap.size + 1) (o := blockO m) (by simp)
        have hn64 : (((cellsOf m).toList.drop (k * 64)).take 64).length = 64 := by
          have := HM.out
          simp [cellsOf_size, this]; omega
        have hKl := HKL.out k hk
        refine wpList_copy_own rfl _ _ _ _ rfl 5 (by kernel_rfl) (by kernel_rfl) w.heap.size (k * 64) 64 (256 - k * 64) ⟨w.heap.size + 1, k * 64, none⟩ (256 - k * 64) (256 - k * 64) rfl rfl _ _ hQ2 (((cellsOf m).toList.drop (k * 64)).take 64) (by rw [hn64]; exact (Nat.min_eq_right (by omega)).symm) ?_ (by rw [hn64, cellsOf_size, hKl]; omega) ?_ ?_
        · intro j v hj
          have hj2 : j < 64 := by have := (List.getElem?_eq_some_iff.1 hj).1; omega
          rw [Addr.add_mid, cell_of_row W (w.heap.size + 1) (k * 64 + j) _ _ _ hN]
          rw [List.getElem?_take_of_lt hj2, List.getElem?_drop] at hj
          simpa using hj
        · intro v hv
          have hv2 := List.mem_of_mem_drop (List.mem_of_mem_take hv)
          have h1 := cellsOf_one m
          rw [Array.all_eq_true_iff_forall_mem] at h1
          exact h1 v (by simpa using hv2)
        have e1 : ((cellsOf (keepTo l m s k)).toList.take (k * 64) ++ ((((cellsOf m).toList.drop (k * 64)).take 64) ++ (cellsOf (keepTo l m s k)).toList.drop (k * 64 + (((cellsOf m).toList.drop (k * 64)).take 64).length))).toArray = cellsOf (keepTo l m s (k + 1)) := by
          rw [hn64, hn.out]
          simp [sect, cellsOf, List.map_take, List.map_drop]
        rw [e1]
        have hb2 := hbk.setRow (cs' := cellsOf (keepTo l m s (k + 1))) (by
          intro x hx
          simp only [List.mem_cons, List.not_mem_nil, or_false] at hx
          rcases hx with rfl | rfl
          · show w.heap.size + 1 ≠ _
            omega
          · show w.heap.size + 2 ≠ _
            omega)
        clear e1 hQ2 hN hn64 hKl hbk
        generalize W.setRow w.heap.size (cellsOf (keepTo l m s (k + 1))) = W9 at hb2 ⊢
        go_wp2_with fail
        go_roundw
        case rel => exact ⟨k + 1, by omega, by go_num, hb2⟩
        case measure => simp [intOf]; omega
    · obtain rfl : k = 4 := by omega
      rw [HT.out] at hbk
      have hi := sizeBlock _ hT
      have hzz : (cellsOf zeros).size = (cellsOf (tornB l m s)).size := by rw [cellsOf_size, cellsOf_size, hT, zeros_length]
      have hA := hbk.at_ (q := w.heap.size) (o := .cells (cellsOf (tornB l m s)) 27 (0, 0)) (by simp)
      have hR := hbk.at_ (q := w.heap.size + 2) (o := blockO zeros) (by simp)
      go_wp2_with (first | (refine wpList_load_row rfl 27 _ rfl w.heap.size rfl _ _ _ _ hA Try.underlying27 rfl hi ?_) | (refine wpList_store_row rfl 27 _ _ rfl (w.heap.size + 2) _ rfl rfl _ _ hR hi hzz (cellsOf_one _) ?_))
      exact bodyPost_ret (results_cell_row rfl _ _ _ _ _ _ _ rfl (setRow_heap _ _ _ _ _ _ hR) Try.underlying27 rfl hi) rfl ⟨rfl, below_row hbk.bel (by omega)⟩

/-- byte by byte -/
def refTo (l m : List UInt8) (s i : Nat) : List UInt8 := (List.range 256).map fun j => if j < i ∧ s.testBit (j / 64) = true then m.getD j 0 else l.getD j 0
theorem refTo_length (l m : List UInt8) (s i : Nat) : (refTo l m s i).length = 256 := by simp [refTo]
theorem refTo_get (l m : List UInt8) (s i j : Nat) (hj : j < 256) : (refTo l m s i)[j]? = some (if j < i ∧ s.testBit (j / 64) = true then m.getD j 0 else l.getD j 0) := by simp [refTo, hj]
theorem refTo_zero (l m : List UInt8) (s : Nat) (hl : l.length = 256) : refTo l m s 0 = l := by
  apply List.ext_getElem?
  intro j
  by_cases hj : j < 256
  · rw [refTo_get _ _ _ _ j hj, if_neg (by omega), getD_get (by omega)]
  · rw [List.getElem?_eq_none (by rw [refTo_length]; omega), List.getElem?_eq_none (by omega)]
theorem refTo_all (l m : List UInt8) (s : Nat) : refTo l m s 256 = tornB l m s := by
  apply List.ext_getElem?
  intro j
  by_cases hj : j < 256
  · rw [refTo_get _ _ _ _ j hj, tornB_get _ _ _ j hj]
    by_cases h : s.testBit (j / 64) = true
    · rw [if_pos ⟨hj, h⟩, if_pos h]
    · rw [if_neg (fun h2 => h h2.2), if_neg h]
  · rw [List.getElem?_eq_none (by rw [refTo_length]; omega), List.getElem?_eq_none (by rw [tornB_length]; omega)]
theorem refTo_same (l m : List UInt8) (s i : Nat) (h : s.testBit (i / 64) = false) : refTo l m s (i + 1) = refTo l m s i := by
  apply List.ext_getElem?
  intro j
  by_cases hj : j < 256
  · rw [refTo_get _ _ _ _ j hj, refTo_get _ _ _ _ j hj]
    by_cases hji : j = i
    · subst hji; simp [h]
    · by_cases h3 : j < i
      · simp [h3, show j < i + 1 by omega]
      · simp [h3, show ¬ j < i + 1 by omega]
  · rw [List.getElem?_eq_none (by rw [refTo_length]; omega), List.getElem?_eq_none (by rw [refTo_length]; omega)]
theorem refTo_set (l m : List UInt8) (s i : Nat) (hi : i < 256) (h : s.testBit (i / 64) = true) : (refTo l m s i).set i (m.getD i 0) = refTo l m s (i + 1) := by
  apply List.ext_getElem?
  intro j
  by_cases hj : j < 256
  · rw [List.getElem?_set, refTo_get _ _ _ _ j hj, refTo_get _ _ _ _ j hj, refTo_length]
    by_cases hji : i = j
    · subst hji; simp [h, hi]
    · rw [if_neg hji]
      by_cases h3 : j < i
      · simp [h3, show j < i + 1 by omega]
      · simp [h3, show ¬ j < i + 1 by omega]
  · rw [List.getElem?_eq_none (by rw [List.length_set, refTo_length]; omega), List.getElem?_eq_none (by rw [refTo_length]; omega)]
theorem bit_at2 : ∀ m : Nat, m < 256 → ∀ k : Nat, k < 4 → (((m : Int) / 2 ^ k).tmod 2 == 1) = m.testBit k := by decide +kernel

set_option maxHeartbeats 3200000 in
theorem refTorn_any (l m : List UInt8) (hl : l.length = 256) (hm : m.length = 256) (s : Nat) (hs : s < 256) (w : World) :
    Calls Try.prog 15 #[.agg (cellsOf l), .agg (cellsOf m), .int .u8 (s : Int)] w fun e w' => e = .returned (.agg (cellsOf (tornB l m s))) ∧ Below w.heap.size w w' := by
  have hzv := (zero_of_info infoBlock).1
  have hK : Kept w [(w.heap.size, blockO l), (w.heap.size + 1, blockO m), (w.heap.size + 2, blockO zeros)] (((w.alloc (.cells (cellsOf l) 27)).alloc (.cells (cellsOf m) 27)).alloc (.cells (cellsOf zeros) 27)) := by
    have h := (((Kept.start w).alloc (blockO l)).alloc (blockO m)).alloc (blockO zeros)
    rw [show ((w.alloc (blockO l)).alloc (blockO m)).heap.size = w.heap.size + 2 from by simp, show (w.alloc (blockO l)).heap.size = w.heap.size + 1 from by simp] at h
    exact h.less (by intro x hx; simp only [List.mem_cons, List.not_mem_nil, or_false] at hx ⊢; rcases hx with rfl | rfl | rfl <;> simp)
  have hz := refTo_zero l m s hl
  have HM := Lib.hid hm
  have hT := tornB_length l m s
  have HT := Lib.hid (refTo_all l m s)
  have HSM : Hid (∀ i, s.testBit (i / 64) = false → refTo l m s (i + 1) = refTo l m s i) := Lib.hid (refTo_same l m s)
  have HST : Hid (∀ i, i < 256 → s.testBit (i / 64) = true → (refTo l m s i).set i (m.getD i 0) = refTo l m s (i + 1)) := Lib.hid (refTo_set l m s)
  rw [show blockO l = .cells (cellsOf (refTo l m s 0)) 27 (0, 0) from by rw [hz]; rfl] at hK
  clear hz hl hm
  go_enter Try.func15, Try.ntmps15
  go_wp2
  go_loopw [7] (fun i wr => ∃ k : Nat, k ≤ 256 ∧ i = .int .i64 k ∧ Kept w [(w.heap.size, .cells (cellsOf (refTo l m s k)) 27 (0, 0)), (w.heap.size + 1, blockO m), (w.heap.size + 2, blockO zeros)] wr) (fun i _ => 256 - (intOf i).toNat)
  case atStart => exact ⟨0, by omega, rfl, hK⟩
  case round =>
    obtain ⟨k, hk, rfl, hbk⟩ := hrel
    clear hK
    by_cases hlt : k < 256
    · have hkb := bit_at2 s hs (k / 64) (by omega)
      obtain ⟨bv, hbv⟩ : ∃ bv, bv = s.testBit (k / 64) := ⟨_, rfl⟩
      rw [← hbv] at hkb
      cases bv with
      | false =>
        have hn := HSM.out k hbv.symm
        rw [← hn] at hbk
        clear hbv hn
        go_wp2
        go_roundw
        case rel => exact ⟨k + 1, by omega, by go_num, hbk⟩
        case measure => simp [intOf]; omega
      | true =>
        have hN : Holds wr (w.heap.size + 1) m := hbk.at_ (q := w.heap.size + 1) (o := blockO m) (by simp)
        have hX : Holds wr w.heap.size (refTo l m s k) := hbk.at_ (q := w.heap.size) (o := .cells (cellsOf (refTo l m s k)) 27 (0, 0)) (by simp)
        have hml : k < m.length := by rw [HM.out]; exact hlt
        have c1 := hN.cell k hml
        have c2 := hX.cell k (by rw [refTo_length]; exact hlt)
        have f2 : wr.frozen? ⟨w.heap.size, k, none⟩ = false := frozen_of_row wr w.heap.size k _ _ hX
        have hset := HST.out k hlt hbv.symm
        rw [show m.getD k 0 = m[k] from by rw [List.getD_eq_getElem?_getD, List.getElem?_eq_getElem hml]; rfl] at hset
        have hb2 := hbk.setCell (j := k) (v := .int .u8 (m[k].toNat : Int)) (by
          intro x hx
          simp only [List.mem_cons, List.not_mem_nil, or_false] at hx
          rcases hx with rfl | rfl
          · show w.heap.size + 1 ≠ _
            omega
          · show w.heap.size + 2 ≠ _
            omega)
        rw [cellsOf_set, hset] at hb2
        clear hbv hset hN hX hbk
        generalize m[k].toNat = z at c1 hb2
        generalize (refTo l m s k)[k]'_ = y at c2
        go_wp2
        go_roundw
        case rel => exact ⟨k + 1, by omega, by go_num, hb2⟩
        case measure => simp [intOf]; omega
    · obtain rfl : k = 256 := by omega
      rw [HT.out] at hbk
      have hi := sizeBlock _ hT
      have hzz : (cellsOf zeros).size = (cellsOf (tornB l m s)).size := by rw [cellsOf_size, cellsOf_size, hT, zeros_length]
      have hA := hbk.at_ (q := w.heap.size) (o := .cells (cellsOf (tornB l m s)) 27 (0, 0)) (by simp)
      have hR := hbk.at_ (q := w.heap.size + 2) (o := blockO zeros) (by simp)
      go_wp2_with (first | (refine wpList_load_row rfl 27 _ rfl w.heap.size rfl _ _ _ _ hA Try.underlying27 rfl hi ?_) | (refine wpList_store_row rfl 27 _ _ rfl (w.heap.size + 2) _ rfl rfl _ _ hR hi hzz (cellsOf_one _) ?_))
      exact bodyPost_ret (results_cell_row rfl _ _ _ _ _ _ _ rfl (setRow_heap _ _ _ _ _ _ hR) Try.underlying27 rfl hi) rfl ⟨rfl, below_row hbk.bel (by omega)⟩

end Go.Proofs.Ytdlgdnmmeopkjaa.Slt
