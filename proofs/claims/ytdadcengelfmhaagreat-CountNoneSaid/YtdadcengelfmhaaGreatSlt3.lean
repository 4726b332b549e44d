/-
  Slt3: SltPut, SltGet, SltTorn.
-/
import Derived.Test.YtdadcengelfmhaaGreatSlt2
import Derived.Test.YtdadcengelfmhaaGreatFld3
import Derived.Test.YtdadcengelfmhaaGreatFld2
import Derived.StillTailTactics
import Derived.Deep.QuietTactic
import Derived.BigQuiet
import Derived.Test.YtdadcengelfmhaaGreatSlt1
import Derived.Laws.CopyOwn
/-
  The walks of slot's Put and Get.
-/
namespace Go.Proofs.YtdadcengelfmhaaGreat.Slt
open Go.RowKit RowLaw Crc Fld
set_option maxRecDepth 100000

set_option maxHeartbeats 1600000 in
theorem Put_no (r : Rt) (hm : mayB r = false) (w : World) :
    Calls Tryz.prog 56 #[.agg (cells r)] w fun e w' => e = .returned (.tuple #[.agg (cellsOf zeros), .int .i64 2]) ∧ Below w.heap.size w w' := by
  have hzv := (zero_of_info infoBlock).1
  have hi := sizeBlock zeros zeros_length
  have hK : Kept w [(w.heap.size + 1, blockO zeros), (w.heap.size, rootO r)] ((w.alloc (.cells (cells r) 31)).alloc (.cells (cellsOf zeros) 39)) := by
    have h := ((Kept.start w).alloc (rootO r)).alloc (blockO zeros)
    rw [show (w.alloc (rootO r)).heap.size = w.heap.size + 1 from by simp] at h
    exact h
  have hcall := fun W => May_any r W
  rw [hm] at hcall
  go_enter Tryz.func56, Tryz.ntmps56
  go_wp2_with (refine wpList_load_row rfl 31 _ rfl (w.heap.size) rfl _ _ _ _ (hK.at_ (q := w.heap.size) (o := rootO r) (by simp)) Tryz.underlying31 rfl (sizeR r) ?_)
  refine (hcall _).mono ?_
  rintro e W1 ⟨rfl, hx⟩
  replace hK := hK.below hx
  clear hx
  have hR := hK.at_ (q := w.heap.size + 1) (o := blockO zeros) (by simp)
  go_wp2_with (refine wpList_store_row rfl 39 _ _ rfl _ _ rfl rfl _ _ hR hi rfl (cellsOf_one _) ?_)
  exact bodyPost_ret (results_row_tmp rfl _ _ _ _ _ _ _ rfl (setRow_heap _ _ _ _ _ _ hR) Tryz.underlying39 rfl hi) rfl ⟨rfl, below_row hK.bel (by omega)⟩

set_option maxHeartbeats 3200000 in
theorem Put_yes (r : Rt) (hm : mayB r = true) (hf : r.Fits) (w : World) :
    Calls Tryz.prog 56 #[.agg (cells r)] w fun e w' => e = .returned (.tuple #[.agg (cellsOf (rtB r)), .int .i64 0]) ∧ Below w.heap.size w w' := by
  have hmf : ∀ (fn : Fn) (first cap : Array Value) (w : World), (Instr.makeFunc fn first cap).run Tryz.prog w = .ok (.func fn first cap) w := fun _ _ _ _ => rfl
  have hlen := rtB_length r
  have hzv := (zero_of_info infoBlock).1
  have hi := sizeBlock _ hlen
  have hzz : (cellsOf zeros).size = (cellsOf (rtB r)).size := by rw [cellsOf_size, cellsOf_size, hlen, zeros_length]
  have hK : Kept w [(w.heap.size + 1, blockO zeros), (w.heap.size, rootO r)] ((w.alloc (.cells (cells r) 31)).alloc (.cells (cellsOf zeros) 39)) := by
    have h := ((Kept.start w).alloc (rootO r)).alloc (blockO zeros)
    rw [show (w.alloc (rootO r)).heap.size = w.heap.size + 1 from by simp] at h
    exact h
  have hcall := fun W => May_any r W
  rw [hm] at hcall
  have hcd : fdone (rtF r) 82 = rtB r := rfl
  have HB := Lib.hid hcd
  generalize rtB r = B at hi hzz HB ⊢
  clear hm hlen hcd
  go_enter Tryz.func56, Tryz.ntmps56
  go_wp2_with (refine wpList_load_row rfl 31 _ rfl (w.heap.size) rfl _ _ _ _ (hK.at_ (q := w.heap.size) (o := rootO r) (by simp)) Tryz.underlying31 rfl (sizeR r) ?_)
  refine (hcall _).mono ?_
  rintro e W1 ⟨rfl, hx⟩
  replace hK := hK.below hx
  clear hx hcall
  go_wp2_with fail
  refine (New_any _).mono ?_
  rintro e W2 ⟨rfl, hw, hx⟩
  have hbox : WBox w _ W1.heap.size (some []) W2 := ⟨hK.below hx, hw, hK.bel.size, hK.notin⟩
  clear hK hw hx
  generalize W1.heap.size = q at hbox ⊢
  go_wp2_with fail
  refine (fields_any w.heap.size _).mono ?_
  rintro e W3 ⟨v, rfl, ho, hx⟩
  obtain ⟨g, cap, cur, rfl, hg, hcur, hpl⟩ := own_places ho
  have hbox2 := hbox.more hx hg hcur
  clear hbox hx hg hcur ho
  go_wp2_with fail
  refine (write_any w _ q g cap w.heap.size cur r (by simp) (by simp) hpl hf _ hbox2).mono ?_
  clear hbox2 hpl
  rintro e W4 ⟨rfl, hbk⟩
  go_wp2_with fail
  refine (Done_some _ _ 82 _ hbk.wr).mono ?_
  rintro e W6 ⟨rfl, hb6⟩
  rw [HB.out]
  have hK := hbk.kept.below hb6
  clear hbk hb6
  have hR := hK.at_ (q := w.heap.size + 1) (o := blockO zeros) (by simp)
  go_wp2_with (refine wpList_store_row rfl 39 _ _ rfl _ _ rfl rfl _ _ hR hi hzz (cellsOf_one _) ?_)
  exact bodyPost_ret (results_row_tmp rfl _ _ _ _ _ _ _ rfl (setRow_heap _ _ _ _ _ _ hR) Tryz.underlying39 rfl hi) rfl ⟨rfl, below_row hK.bel (by omega)⟩

theorem Put_any (r : Rt) (hf : r.Fits) (w : World) :
    Calls Tryz.prog 56 #[.agg (cells r)] w fun e w' => e = .returned (.tuple #[.agg (cellsOf (putB r)), .int .i64 (putE r)]) ∧ Below w.heap.size w w' := by
  by_cases hm : mayB r = true
  · rw [putB_yes hm, putE_yes hm]; exact Put_yes r hm hf w
  · rw [putB_no hm, putE_no hm]; exact Put_no r (by simpa using hm) w

end Go.Proofs.YtdadcengelfmhaaGreat.Slt

/-
  The walk of slot's Get.
-/
namespace Go.Proofs.YtdadcengelfmhaaGreat.Slt
open Go.RowKit RowLaw Crc Fld
set_option maxRecDepth 100000

theorem viaR_fits (l : List UInt8) : (viaR l).Fits := ⟨x_first l, x_mid l 1 (by omega) (by omega), x_mid l 2 (by omega) (by omega), x_mid l 3 (by omega) (by omega), x_mid l 4 (by omega) (by omega), x_mid l 5 (by omega) (by omega), x_mid l 6 (by omega) (by omega), x_last l⟩
/-- the reader's answers are the places' -/
theorem via_get {l : List UInt8} (hl : l.length = 256) : (endE (stT l 8) ≠ 0 → getR l = nil ∧ getE l = 250) ∧ (mayB (viaR l) = false → getR l = nil ∧ getE l = 250) ∧ (endE (stT l 8) = 0 → mayB (viaR l) = true → getR l = viaR l ∧ getE l = 0) := by
  have hv := via_iff hl
  have hst : stT l 8 = (voT l).2 := rfl
  rw [hst]
  have hop : endE (voT l).2 = 0 → openSt l 82 = some (l, 1) := fun h => by
    rcases (Node.openSt_cases l 82).symm with h2 | h2
    · exfalso
      have hn : (voT l).2 = none := by unfold voT; rw [stN_none h2 6]; rfl
      rw [hn] at h
      cases h
    · exact h2
  refine ⟨fun h => ?_, fun h => ?_, fun h1 h2 => ?_⟩
  · rw [decide_eq_false h, Bool.false_and] at hv
    exact ⟨by unfold getR; rw [← hv]; rfl, by unfold getE; rw [← hv]; rfl⟩
  · rw [h, Bool.and_false] at hv
    exact ⟨by unfold getR; rw [← hv]; rfl, by unfold getE; rw [← hv]; rfl⟩
  · rw [decide_eq_true h1, h2] at hv
    exact ⟨by unfold getR; rw [← hv, via_open (hop h1)]; rfl, by unfold getE; rw [← hv]; rfl⟩

end Go.Proofs.YtdadcengelfmhaaGreat.Slt

/-
  The walks of slot's Torn and of the reference's.
-/
namespace Go.Proofs.YtdadcengelfmhaaGreat.Slt
open Go.RowKit RowLaw Crc Fld
set_option maxRecDepth 100000

/-- sector i of new, in old -/
def sect (old new : List UInt8) (i : Nat) : List UInt8 := old.take (i * 64) ++ ((new.drop (i * 64)).take 64 ++ old.drop (i * 64 + 64))
def keepTo (old new : List UInt8) (m : Nat) : Nat → List UInt8
  | 0 => old
  | k + 1 => if m.testBit k then sect (keepTo old new m k) new k else keepTo old new m k
theorem sect_length {old new : List UInt8} (ho : old.length = 256) (hn : new.length = 256) {i : Nat} (hi : i < 4) : (sect old new i).length = 256 := by
  simp [sect, ho, hn]; omega
theorem sect_get {old new : List UInt8} (ho : old.length = 256) (hn : new.length = 256) {i : Nat} (hi : i < 4) (j : Nat) : (sect old new i)[j]? = if j / 64 = i then new[j]? else old[j]? := by
  unfold sect
  by_cases h1 : j < i * 64
  · rw [List.getElem?_append_left (by simp [ho]; omega), if_neg (by omega), List.getElem?_take_of_lt h1]
  · rw [List.getElem?_append_right (by simp [ho]; omega)]
    have e1 : (old.take (i * 64)).length = i * 64 := by simp [ho]; omega
    rw [e1]
    have e2 : ((new.drop (i * 64)).take 64).length = 64 := by simp [hn]; omega
    by_cases h2 : j < i * 64 + 64
    · rw [List.getElem?_append_left (by rw [e2]; omega), if_pos (by omega), List.getElem?_take_of_lt (by omega), List.getElem?_drop]
      congr 1; omega
    · rw [List.getElem?_append_right (by rw [e2]; omega), if_neg (by omega), e2, List.getElem?_drop]
      congr 1; omega
theorem keepTo_length {old new : List UInt8} (ho : old.length = 256) (hn : new.length = 256) (m : Nat) : ∀ k, k ≤ 4 → (keepTo old new m k).length = 256
  | 0, _ => ho
  | k + 1, hk => by
    have ih := keepTo_length ho hn m k (by omega)
    unfold keepTo
    split
    · exact sect_length ih hn (by omega)
    · exact ih
theorem keepTo_get {old new : List UInt8} (ho : old.length = 256) (hn : new.length = 256) (m : Nat) (j : Nat) (hj : j < 256) : ∀ k, k ≤ 4 → (keepTo old new m k)[j]? = if j / 64 < k ∧ m.testBit (j / 64) = true then new[j]? else old[j]?
  | 0, _ => by rw [if_neg (by omega)]; rfl
  | k + 1, hk => by
    have ih := keepTo_get ho hn m j hj k (by omega)
    have hl := keepTo_length ho hn m k (by omega)
    unfold keepTo
    by_cases hb : m.testBit k = true
    · rw [if_pos hb, sect_get hl hn (by omega) j, ih]
      by_cases hjk : j / 64 = k
      · rw [if_pos hjk, if_pos ⟨by omega, by rw [hjk]; exact hb⟩]
      · rw [if_neg hjk]
        by_cases h : j / 64 < k ∧ m.testBit (j / 64) = true
        · rw [if_pos h, if_pos ⟨by omega, h.2⟩]
        · rw [if_neg h, if_neg (fun h' => h ⟨by omega, h'.2⟩)]
    · rw [if_neg hb, ih]
      by_cases h : j / 64 < k ∧ m.testBit (j / 64) = true
      · rw [if_pos h, if_pos ⟨by omega, h.2⟩]
      · rw [if_neg h, if_neg (fun h' => h ⟨by
          have : j / 64 ≠ k := fun e => hb (e ▸ h'.2)
          omega, h'.2⟩)]
theorem keepTo_all {old new : List UInt8} (ho : old.length = 256) (hn : new.length = 256) (m : Nat) : keepTo old new m 4 = tornB old new m := by
  apply List.ext_getElem?
  intro j
  by_cases hj : j < 256
  · rw [keepTo_get ho hn m j hj 4 (Nat.le_refl _), tornB_get old new m j hj]
    by_cases h : m.testBit (j / 64) = true
    · rw [if_pos ⟨by omega, h⟩, if_pos h, getD_get (by omega)]
    · rw [if_neg (fun h' => h h'.2), if_neg h, getD_get (by omega)]
  · rw [List.getElem?_eq_none (by rw [keepTo_length ho hn m 4 (Nat.le_refl _)]; omega), List.getElem?_eq_none (by rw [tornB_length]; omega)]

theorem info8s : ∃ i, Tryz.prog.info? 5 = some i ∧ i.size = 1 := by
  obtain ⟨i, hi⟩ : ∃ i, Tryz.prog.info? 5 = some i := Option.isSome_iff_exists.1 (by kernel_rfl)
  refine ⟨i, hi, ?_⟩
  have h : (Tryz.prog.info? 5).map (·.size) = some 1 := by kernel_rfl
  rw [hi] at h
  simpa using h
theorem run_mid (k : Nat) (hk : k < 4) (b : Nat) (W : World) : (Instr.sliceAt 39 (.pointer (some ⟨b, 0, none⟩)) (some (.int .i64 ((k : Int) * 64))) (some (.int .i64 ((k : Int) * 64 + 64))) none).run Tryz.prog W = .ok (.slice (some ⟨b, k * 64, none⟩) 64 (256 - k * 64)) W := by
  have z1 : 0 ≤ (k : Int) * 64 := by omega
  have z3 : (k : Int) * 64 + 64 ≤ ((256 : Nat) : Int) := by omega
  have z4 : ((k : Int) * 64).toNat = k * 64 := by omega
  have z5 : ((k : Int) * 64 + 64).toNat = k * 64 + 64 := by omega
  have z6 : ¬ 256 = k * 64 := by omega
  have z7 : k * 64 + 64 - k * 64 = 64 := by omega
  have z8 : (0 : Int) ≤ (k : Int) * 64 + 64 := by omega
  have z9 : (k : Int) * 64 ≤ ((((k : Int) * 64 + 64).toNat : Nat) : Int) := by omega
  have hb : (Instr.sliceBounds false 256 256 (some (.int .i64 ((k : Int) * 64))) (some (.int .i64 ((k : Int) * 64 + 64))) none).run Tryz.prog W = .ok (k * 64, k * 64 + 64, 256) W := by
    simp only [Instr.sliceBounds, Sem.run_bind, Sem.run_pure, Result.andThen_ok, Option.isSome_none, Bool.false_eq_true, if_false, run_sliceBound W .i64 _ 256 _ z8 z3]
    rw [run_sliceBound W .i64 _ _ _ z1 z9]
    simp only [Result.andThen_ok, z4, z5]
  obtain ⟨i, hi, hi1⟩ := info8s
  unfold Instr.sliceAt
  simp only [Sem.run_bind, run_underlying Tryz.underlying39, Instr.sureAddr, Sem.run_pure, Result.andThen_ok, hb, sizeOf, typeInfo]
  simp [hi, hi1, z6, z7]
  exact (Addr.add_mid b 0 (k * 64)).trans (by rw [Nat.zero_add])
theorem run_end (k : Nat) (hk : k < 4) (b : Nat) (W : World) : (Instr.sliceAt 39 (.pointer (some ⟨b, 0, none⟩)) (some (.int .i64 ((k : Int) * 64))) none none).run Tryz.prog W = .ok (.slice (some ⟨b, k * 64, none⟩) (256 - k * 64) (256 - k * 64)) W := by
  have z1 : 0 ≤ (k : Int) * 64 := by omega
  have z3 : (k : Int) * 64 ≤ ((256 : Nat) : Int) := by omega
  have z4 : ((k : Int) * 64).toNat = k * 64 := by omega
  have z6 : ¬ 256 = k * 64 := by omega
  have hb : (Instr.sliceBounds false 256 256 (some (.int .i64 ((k : Int) * 64))) none none).run Tryz.prog W = .ok (k * 64, 256, 256) W := by
    simp only [Instr.sliceBounds, Sem.run_bind, Sem.run_pure, Result.andThen_ok, Option.isSome_none, Bool.false_eq_true, if_false]
    rw [run_sliceBound W .i64 _ _ _ z1 z3]
    simp only [Result.andThen_ok, z4]
  obtain ⟨i, hi, hi1⟩ := info8s
  unfold Instr.sliceAt
  simp only [Sem.run_bind, run_underlying Tryz.underlying39, Instr.sureAddr, Sem.run_pure, Result.andThen_ok, hb, sizeOf, typeInfo]
  simp [hi, hi1, z6]
  exact (Addr.add_mid b 0 (k * 64)).trans (by rw [Nat.zero_add])
theorem bit_at : ∀ m : Nat, m < 256 → ∀ k : Nat, k < 4 → (bits BinOp.and IntKind.u8 ((m : Int) / 2 ^ k) 1 == 1) = m.testBit k := by decide +kernel

/-- byte by byte -/
def refTo (l m : List UInt8) (s i : Nat) : List UInt8 := (List.range 256).map fun j => if j < i ∧ s.testBit (j / 64) = true then m.getD j 0 else l.getD j 0
theorem refTo_length (l m : List UInt8) (s i : Nat) : (refTo l m s i).length = 256 := by simp [refTo]
theorem refTo_get (l m : List UInt8) (s i j : Nat) (hj : j < 256) : (refTo l m s i)[j]? = some (if j < i ∧ s.testBit (j / 64) = true then m.getD j 0 else l.getD j 0) := by simp [refTo, hj]
theorem refTo_zero (l m : List UInt8) (s : Nat) (hl : l.length = 256) : refTo l m s 0 = l := by
  apply List.ext_getElem?
  intro j
  by_cases hj : j < 256
  · rw [refTo_get _ _ _ _ j hj, if_neg (by omega), getD_get (by omega)]
  · rw [List.getElem?_eq_none (by rw [refTo_length]; omega), List.getElem?_eq_none (by omega)]
theorem refTo_all (l m : List UInt8) (s : Nat) : refTo l m s 256 = tornB l m s := by
  apply List.ext_getElem?
  intro j
  by_cases hj : j < 256
  · rw [refTo_get _ _ _ _ j hj, tornB_get _ _ _ j hj]
    by_cases h : s.testBit (j / 64) = true
    · rw [if_pos ⟨hj, h⟩, if_pos h]
    · rw [if_neg (fun h2 => h h2.2), if_neg h]
  · rw [List.getElem?_eq_none (by rw [refTo_length]; omega), List.getElem?_eq_none (by rw [tornB_length]; omega)]
theorem refTo_same (l m : List UInt8) (s i : Nat) (h : s.testBit (i / 64) = false) : refTo l m s (i + 1) = refTo l m s i := by
  apply List.ext_getElem?
  intro j
  by_cases hj : j < 256
  · rw [refTo_get _ _ _ _ j hj, refTo_get _ _ _ _ j hj]
    by_cases hji : j = i
    · subst hji; simp [h]
    · by_cases h3 : j < i
      · simp [h3, show j < i + 1 by omega]
      · simp [h3, show ¬ j < i + 1 by omega]
  · rw [List.getElem?_eq_none (by rw [refTo_length]; omega), List.getElem?_eq_none (by rw [refTo_length]; omega)]
theorem refTo_set (l m : List UInt8) (s i : Nat) (hi : i < 256) (h : s.testBit (i / 64) = true) : (refTo l m s i).set i (m.getD i 0) = refTo l m s (i + 1) := by
  apply List.ext_getElem?
  intro j
  by_cases hj : j < 256
  · rw [List.getElem?_set, refTo_get _ _ _ _ j hj, refTo_get _ _ _ _ j hj, refTo_length]
    by_cases hji : i = j
    · subst hji; simp [h, hi]
    · rw [if_neg hji]
      by_cases h3 : j < i
      · simp [h3, show j < i + 1 by omega]
      · simp [h3, show ¬ j < i + 1 by omega]
  · rw [List.getElem?_eq_none (by rw [List.length_set, refTo_length]; omega), List.getElem?_eq_none (by rw [refTo_length]; omega)]
theorem bit_at2 : ∀ m : Nat, m < 256 → ∀ k : Nat, k < 4 → (((m : Int) / 2 ^ k).tmod 2 == 1) = m.testBit k := by decide +kernel

end Go.Proofs.YtdadcengelfmhaaGreat.Slt

