/-
  SrtC: SrtPiv, SrtBits, SrtBrk, SrtPar.
-/
import Derived.Test.YtojpcgjmainbfaaGreatSrtA
import Derived.Sort.LotD4
import Derived.Deep.CutRange
import Derived.Sort.LotD1
import Derived.Test.YtojpcgjmainbfaaGreatSrtB
import Derived.Sort.LotA
/-
  A pivot chosen, at uint32.
-/
namespace Go.Proofs.YtojpcgjmainbfaaGreat.Srt
open Go.RowKit RowLaw
open Go.Proofs.YtojpcgjmainbfaaGreat.Dev (Turn)
set_option maxRecDepth 100000
theorem med_adj (d : Array Nat) (a s : Nat) (h : 1 ≤ a) : a ≤ (Sort.medianAdjacent ltN d a s).1 + 1 ∧ (Sort.medianAdjacent ltN d a s).1 ≤ a + 1 ∧ (Sort.medianAdjacent ltN d a s).2 ≤ s + 3 := by
  have h1 := Sort.medianAdjacent_mem ltN d a s
  have h2 := Sort.medianAdjacent_count ltN d a s
  omega
theorem med_of (d : Array Nat) (a b c s lo hi : Nat) (h1 : lo ≤ a ∧ a < hi) (h2 : lo ≤ b ∧ b < hi) (h3 : lo ≤ c ∧ c < hi) : lo ≤ (Sort.median ltN d a b c s).1 ∧ (Sort.median ltN d a b c s).1 < hi ∧ (Sort.median ltN d a b c s).2 ≤ s + 3 := by
  have e1 := Sort.median_mem ltN d a b c s
  have e2 := Sort.median_count ltN d a b c s
  rcases e1 with e | e | e <;> rw [e] <;> exact ⟨by omega, by omega, e2⟩
set_option linter.unusedSimpArgs false in
set_option maxHeartbeats 3200000 in
theorem pivot_any {w : World} {g c a b : Nat} {d : Array Nat} (hr : Rw w g c d) (hab : a + 8 ≤ b) (hb : b ≤ d.size) (hd : d.size ≤ 1000000) :
    Calls Tryz.prog 192 #[.slice (some ⟨g, 0, none⟩) d.size c, .int .i64 (a : Int), .int .i64 (b : Int)] w fun e w' =>
      ∃ p h : Nat, e = .returned (.tuple #[.int .i64 (p : Int), .int .i64 (h : Int)]) ∧ a ≤ p ∧ p < b ∧ h ≤ 2 ∧ Below w.heap.size w w' := by
  have hgl : g < w.heap.size := World.block_lt_of_cell? w _ (hr.cell (i := 0) (by omega))
  obtain ⟨l, hl⟩ : ∃ l, b = a + l := ⟨b - a, by omega⟩
  obtain ⟨t, ht⟩ : ∃ t, t = l / 4 := ⟨_, rfl⟩
  have hl0 : (b : Int) - (a : Int) = (l : Int) := by omega
  have hq : (l : Int).tdiv 4 = (t : Int) := by rw [Int.tdiv_eq_ediv_of_nonneg (by omega)]; omega
  have hq' : (l : Int) / 4 = (t : Int) := by omega
  obtain ⟨m, hm⟩ : ∃ m, m = d.size := ⟨_, rfl⟩
  obtain ⟨i, hi⟩ : ∃ i, i = a + t := ⟨_, rfl⟩
  obtain ⟨j, hj⟩ : ∃ j, j = a + t * 2 := ⟨_, rfl⟩
  obtain ⟨k, hk⟩ : ∃ k, k = a + t * 3 := ⟨_, rfl⟩
  have HA : Hid (∀ W q s x, Rw W g c d → Cnt1 W q s → 1 ≤ x → x + 1 < m → s ≤ 100 → Calls Tryz.prog 209 #[.slice (some ⟨g, 0, none⟩) m c, .int .i64 (x : Int), .pointer (some ⟨q, 0, none⟩)] W fun e w' =>
      ∃ y s' : Nat, e = .returned (.int .i64 (y : Int)) ∧ (x ≤ y + 1 ∧ y ≤ x + 1 ∧ s' ≤ s + 3) ∧ Turn [q] W w' ∧ Cnt1 w' q s') := Lib.hid (fun W q s x h1 h2 h3 h4 h5 => by
    rw [hm]
    exact (adjacent_any h1 h2 h3 (by omega) hd (by omega)).mono fun e w' ⟨e1, e2, e3⟩ => ⟨_, _, e1, med_adj d x s h3, e2, e3⟩)
  have HM : Hid (∀ W q s x y z, Rw W g c d → Cnt1 W q s → (a ≤ x ∧ x < b) → (a ≤ y ∧ y < b) → (a ≤ z ∧ z < b) → s ≤ 100 → Calls Tryz.prog 210 #[.slice (some ⟨g, 0, none⟩) m c, .int .i64 (x : Int), .int .i64 (y : Int), .int .i64 (z : Int), .pointer (some ⟨q, 0, none⟩)] W fun e w' =>
      ∃ u s' : Nat, e = .returned (.int .i64 (u : Int)) ∧ (a ≤ u ∧ u < b ∧ s' ≤ s + 3) ∧ Turn [q] W w' ∧ Cnt1 w' q s') := Lib.hid (fun W q s x y z h1 h2 h3 h4 h5 h6 => by
    rw [hm]
    exact (median_any h1 h2 (by omega) (by omega) (by omega) (by omega)).mono fun e w' ⟨e1, e2, e3⟩ => ⟨_, _, e1, med_of d x y z s a b h3 h4 h5, e2, e3⟩)
  have HRW := Lib.hid hr
  rw [← hm] at hb hd ⊢
  have hi2 : (a : Int) + (t : Int) = (i : Int) := by omega
  have hj2 : (a : Int) + (t : Int) * 2 = (j : Int) := by omega
  have hk2 : (a : Int) + (t : Int) * 3 = (k : Int) := by omega
  have ht1 : t < m := by omega
  have hi3 : 1 ≤ i ∧ a + 2 ≤ i ∧ i + 2 ≤ j := by omega
  have hj3 : j + 2 ≤ k ∧ k + 2 ≤ b := by omega
  have hl8 : (8 : Int) ≤ (l : Int) := by omega
  have HGL := Lib.hid hgl
  clear hr hm hl ht hi hj hk hab hgl
  go_enter Tryz.func192, Tryz.ntmps192
  go_upto_if 32 with fail
  obtain ⟨q, hq0⟩ : ∃ q, q = w.heap.size := ⟨_, rfl⟩
  have hW0 : Cnt1 (w.alloc (.cells #[.int .i64 0] 3)) q 0 := by
    rw [hq0]
    exact (Go.MapKept.heap_alloc w _).1
  have hB0 : Below w.heap.size w (w.alloc (.cells #[.int .i64 0] 3)) := (Below.refl _ _).alloc (Nat.le_refl _) _
  have HR1 : Hid (∀ W, Below w.heap.size w W → Rw W g c d) := Lib.hid (fun W hW => HRW.out.block (hW.block g HGL.out))
  rw [← hq0]
  have HT : Hid (∀ W W', Below w.heap.size w W → Turn [q] W W' → Below w.heap.size w W') := Lib.hid (fun W W' h1 h2 => h1.trans (h2.below (by simp [hq0]) h1.size))
  generalize w.alloc (.cells #[.int .i64 0] 3) = W0 at hW0 hB0 ⊢
  have HW0 := Lib.hid hW0; have HB0 := Lib.hid hB0
  clear hW0 hB0 hq0 HRW HGL
  go_cut [10, 11, 12] from 33 to 48 (fun v10 v11 v12 wx => ∃ u s : Nat, v11 = .int .i64 (u : Int) ∧ (a ≤ u ∧ u < b) ∧ Hid (Below w.heap.size w wx ∧ Cnt1 wx q s))
  case first =>
    by_cases h50 : (50 : Int) ≤ (l : Int)
    · have HAi := Lib.hid (HA.out W0 q 0 i (HR1.out W0 HB0.out) HW0.out (by omega) (by omega) (by omega))
      go_wp2_with fail
      refine HAi.out.mono ?_
      clear HAi
      rintro e W1 ⟨i', s1, rfl, hr1, hT1, hC1⟩
      have HB1 := Lib.hid (HT.out _ _ HB0.out hT1)
      have HAj := Lib.hid (HA.out W1 q s1 j (HR1.out W1 HB1.out) hC1 (by omega) (by omega) (by omega))
      clear HB0 HW0 hT1 hC1
      go_wp2_with fail
      refine HAj.out.mono ?_
      clear HAj
      rintro e W2 ⟨j', s2, rfl, hr2, hT2, hC2⟩
      have HB2 := Lib.hid (HT.out _ _ HB1.out hT2)
      have HAk := Lib.hid (HA.out W2 q s2 k (HR1.out W2 HB2.out) hC2 (by omega) (by omega) (by omega))
      clear HB1 hT2 hC2
      go_wp2_with fail
      refine HAk.out.mono ?_
      clear HAk
      rintro e W3 ⟨k', s3, rfl, hr3, hT3, hC3⟩
      have HB3 := Lib.hid (HT.out _ _ HB2.out hT3)
      have HMm := Lib.hid (HM.out W3 q s3 i' j' k' (HR1.out W3 HB3.out) hC3 (by omega) (by omega) (by omega) (by omega))
      clear HB2 hT3 hC3
      go_wp2_with fail
      refine HMm.out.mono ?_
      clear HMm
      rintro e W4 ⟨u, s4, rfl, hr4, hT4, hC4⟩
      have HB4 := Lib.hid (And.intro (HT.out _ _ HB3.out hT4) hC4)
      clear HB3 hT4 hC4
      go_wp2_with fail
      go_meet
      case rel => exact ⟨u, s4, rfl, ⟨hr4.1, hr4.2.1⟩, HB4⟩
    · have HMm := Lib.hid (HM.out W0 q 0 i j k (HR1.out W0 HB0.out) HW0.out (by omega) (by omega) (by omega) (by omega))
      go_wp2_with fail
      refine HMm.out.mono ?_
      clear HMm
      rintro e W4 ⟨u, s4, rfl, hr4, hT4, hC4⟩
      have HB4 := Lib.hid (And.intro (HT.out _ _ HB0.out hT4) hC4)
      clear hT4 hC4
      go_wp2_with fail
      go_meet
      case rel => exact ⟨u, s4, rfl, ⟨hr4.1, hr4.2.1⟩, HB4⟩
  case rest =>
    obtain ⟨u, s, rfl, hu, hh⟩ := hcut
    have cq : wc.cell? ⟨q, 0, none⟩ = some (.int .i64 (s : Int)) := (cell_of_row wc q 0 _ _ _ hh.out.2).trans rfl
    have HF := Lib.hid hh.out.1
    clear HA HM HR1 HT HW0 HB0 hh
    by_cases h0 : s = 0
    · subst h0
      go_wp2_with fail
      go_ret2
      exact ⟨u, 1, rfl, hu.1, hu.2, by omega, HF.out⟩
    · by_cases h12 : s = 12
      · subst h12
        go_wp2_with fail
        go_ret2
        exact ⟨u, 2, rfl, hu.1, hu.2, by omega, HF.out⟩
      · have h0z : ¬ (s : Int) = 0 := by omega
        have h12z : ¬ (s : Int) = 12 := by omega
        go_wp2_with fail
        go_ret2
        exact ⟨u, 0, rfl, hu.1, hu.2, by omega, HF.out⟩
end Go.Proofs.YtojpcgjmainbfaaGreat.Srt

/-
  How many bits a number has (at most 255); the power of two above it.
-/
namespace Go.Proofs.YtojpcgjmainbfaaGreat.Srt
open Go.RowKit RowLaw
open Go.Proofs.YtojpcgjmainbfaaGreat.Dev (Turn)
set_option maxRecDepth 100000
set_option maxHeartbeats 1600000 in
theorem len_any (n : Nat) (hn : n ≤ 255) (w : World) : Calls Tryz.prog 175 #[.int .u64 (n : Int)] w fun e w' => e = .returned (.int .i64 (Sort.bitsLen n : Int)) ∧ w' = w := by
  have h1 : ¬ 4294967296 ≤ (n : Int) := by omega
  have h2 : ¬ 65536 ≤ (n : Int) := by omega
  have h3 : ¬ 256 ≤ (n : Int) := by omega
  have h4 : (n : Int) < 256 := by omega
  go_enter Tryz.func175, Tryz.ntmps175
  go_wp2
  go_ret
  refine ⟨congrArg (fun z => Ending.returned (.int .i64 z)) ?_, rfl⟩
  rw [← getElem!_pos]
  clear h1 h2 h3 h4 w
  revert n
  decide +kernel
set_option maxHeartbeats 1600000 in
theorem power_any (n : Nat) (hn : n ≤ 255) (w : World) : Calls Tryz.prog 207 #[.int .i64 (n : Int)] w fun e w' => e = .returned (.int .u64 ((2 ^ Sort.bitsLen n : Nat) : Int)) ∧ w' = w := by
  have h1 : IntKind.u64.wrap (n : Int) = (n : Int) := IntWalk.u64_in _ (by omega)
  have hb : Sort.bitsLen n ≤ 8 := (Sort.bitsLen_le_iff n 8).2 (by omega)
  have hL := len_any n hn
  have HL := Lib.hid hL
  have HB := Lib.hid hb
  clear hL
  go_enter Tryz.func207, Tryz.ntmps207
  go_wp2_with ((with_reducible refine (HL.out _).mono ?_); rintro e W1 ⟨rfl, rfl⟩)
  go_ret
  refine ⟨?_, rfl⟩
  refine congrArg (fun z => Ending.returned (.int .u64 z)) ?_
  have h2 : 2 ^ Sort.bitsLen n ≤ 2 ^ 8 := Nat.pow_le_pow_right (by omega) HB.out
  have h3 : (2 : Int) ^ Sort.bitsLen n = ((2 ^ Sort.bitsLen n : Nat) : Int) := by simp
  show IntKind.u64.wrap ((2 : Int) ^ Sort.bitsLen n) = ((2 ^ Sort.bitsLen n : Nat) : Int)
  rw [h3]
  generalize 2 ^ Sort.bitsLen n = P at h2 ⊢
  exact IntWalk.u64_in _ (by omega)
theorem wrap_rng (z : Int) : 0 ≤ IntKind.u64.wrap z ∧ IntKind.u64.wrap z < 18446744073709551616 := by
  rw [IntKind.wrap_u64]
  omega
theorem xor_nat (x y : Int) (hx : 0 ≤ x ∧ x < 18446744073709551616) (hy : 0 ≤ y ∧ y < 18446744073709551616) : ∃ k : Nat, bits BinOp.xor IntKind.u64 x y = (k : Int) ∧ (k : Int) < 18446744073709551616 := by
  obtain ⟨a, rfl⟩ := Int.eq_ofNat_of_zero_le hx.1
  obtain ⟨b, rfl⟩ := Int.eq_ofNat_of_zero_le hy.1
  refine ⟨a ^^^ b, bits_xor_u64_nat a b (by omega) (by omega), ?_⟩
  have := Nat.xor_lt_two_pow (x := a) (y := b) (n := 64) (by omega) (by omega)
  omega
/-- the generator -/
def Xor (W : World) (q : Nat) (z : Nat) : Prop := W.heap[q]? = some (.cells #[.int .u64 (z : Int)] 317 (0, 0))
set_option linter.unusedSimpArgs false in
set_option maxHeartbeats 1600000 in
theorem next_any {w : World} {q : Nat} {z : Nat} (h : Xor w q z) (hz : (z : Int) < 18446744073709551616) : Calls Tryz.prog 208 #[.pointer (some ⟨q, 0, none⟩)] w fun e w' => ∃ z' : Nat, e = .returned (.int .u64 (z' : Int)) ∧ (z' : Int) < 18446744073709551616 ∧ Turn [q] w w' ∧ Xor w' q z' := by
  have c1 : w.cell? ⟨q, 0, none⟩ = some (.int .u64 (z : Int)) := (cell_of_row w q 0 _ _ _ h).trans rfl
  have f1 : ∀ t, w.frozen? ⟨q, t, none⟩ = false := fun t => frozen_of_row w q t _ _ h
  have HH := Lib.hid h
  clear h
  go_enter Tryz.func208, Tryz.ntmps208
  go_upto_region 1 with fail
  go_region
  obtain ⟨z1, hz1, hl1⟩ := xor_nat z (IntKind.u64.wrap ((z : Int) * 8192)) (by omega) (wrap_rng _)
  rw [hz1]
  have h1 : Xor (w.setCell ⟨q, 0, none⟩ (.int .u64 (z1 : Int))).drew q z1 := heap_setCell_same w q 0 _ _ _ HH.out
  have t1 : Turn [q] w (w.setCell ⟨q, 0, none⟩ (.int .u64 (z1 : Int))).drew := (Turn.refl _ _ |>.setCell _ _ (.inl (by simp))).drew
  generalize (w.setCell ⟨q, 0, none⟩ (.int .u64 (z1 : Int))).drew = W1 at h1 t1 ⊢
  clear hz1 c1 f1 HH
  have c1 : W1.cell? ⟨q, 0, none⟩ = some (.int .u64 (z1 : Int)) := (cell_of_row W1 q 0 _ _ _ h1).trans rfl
  have f1 : ∀ t, W1.frozen? ⟨q, t, none⟩ = false := fun t => frozen_of_row W1 q t _ _ h1
  have HH := Lib.hid h1; have HT := Lib.hid t1
  clear h1 t1
  go_upto_region 2 with fail
  go_region
  obtain ⟨z2, hz2, hl2⟩ := xor_nat z1 ((z1 : Int) / 128) (by omega) (by omega)
  rw [hz2]
  have h2 : Xor (W1.setCell ⟨q, 0, none⟩ (.int .u64 (z2 : Int))).drew q z2 := heap_setCell_same W1 q 0 _ _ _ HH.out
  have t2 : Turn [q] w (W1.setCell ⟨q, 0, none⟩ (.int .u64 (z2 : Int))).drew := (HT.out |>.setCell _ _ (.inl (by simp))).drew
  generalize (W1.setCell ⟨q, 0, none⟩ (.int .u64 (z2 : Int))).drew = W2 at h2 t2 ⊢
  clear hz2 c1 f1 HH HT
  have c1 : W2.cell? ⟨q, 0, none⟩ = some (.int .u64 (z2 : Int)) := (cell_of_row W2 q 0 _ _ _ h2).trans rfl
  have f1 : ∀ t, W2.frozen? ⟨q, t, none⟩ = false := fun t => frozen_of_row W2 q t _ _ h2
  have HH := Lib.hid h2; have HT := Lib.hid t2
  clear h2 t2
  go_upto_region 3 with fail
  go_region
  obtain ⟨z3, hz3, hl3⟩ := xor_nat z2 (IntKind.u64.wrap ((z2 : Int) * 131072)) (by omega) (wrap_rng _)
  rw [hz3]
  have h3 : Xor (W2.setCell ⟨q, 0, none⟩ (.int .u64 (z3 : Int))).drew q z3 := heap_setCell_same W2 q 0 _ _ _ HH.out
  have t3 : Turn [q] w (W2.setCell ⟨q, 0, none⟩ (.int .u64 (z3 : Int))).drew := (HT.out |>.setCell _ _ (.inl (by simp))).drew
  generalize (W2.setCell ⟨q, 0, none⟩ (.int .u64 (z3 : Int))).drew = W3 at h3 t3 ⊢
  clear hz3 c1 f1 HH HT
  have c1 : W3.cell? ⟨q, 0, none⟩ = some (.int .u64 (z3 : Int)) := (cell_of_row W3 q 0 _ _ _ h3).trans rfl
  have f1 : ∀ t, W3.frozen? ⟨q, t, none⟩ = false := fun t => frozen_of_row W3 q t _ _ h3
  have HH := Lib.hid h3; have HT := Lib.hid t3
  clear h3 t3
  go_wp2_with fail
  go_ret
  exact ⟨z3, rfl, hl3, HT.out, HH.out⟩
end Go.Proofs.YtojpcgjmainbfaaGreat.Srt

/-
  Patterns broken, at uint32: what comes is a permutation of the range.
-/
namespace Go.Proofs.YtojpcgjmainbfaaGreat.Srt
open Go.RowKit RowLaw
open Go.Proofs.YtojpcgjmainbfaaGreat.Dev (Turn)
set_option maxRecDepth 100000
theorem turn_new {B : List Nat} {q : Nat} {w W W' : World} (h : Turn B w W) (k : Turn [q] W W') (hq : w.heap.size ≤ q) : Turn B w W' :=
  ⟨k.os.trans h.os, k.tape.trans h.tape, k.output.trans h.output, Nat.le_trans h.size k.size, fun i hi hn => (k.block i (Nat.lt_of_lt_of_le hi h.size) (by simp; omega)).trans (h.block i hi hn)⟩
set_option linter.unusedSimpArgs false in
set_option maxHeartbeats 6400000 in
theorem break_any {w : World} {g c a b : Nat} {d : Array Nat} (hr : Rw w g c d) (hab : a + 8 ≤ b) (hb : b ≤ d.size) (hd : d.size ≤ 255) :
    Calls Tryz.prog 191 #[.slice (some ⟨g, 0, none⟩) d.size c, .int .i64 (a : Int), .int .i64 (b : Int)] w fun e w' =>
      e = .returned (.tuple #[]) ∧ ∃ d' : Array Nat, Sort.PermIn a b d d' ∧ Turn [g] w w' ∧ Rw w' g c d' := by
  have hgl : g < w.heap.size := World.block_lt_of_cell? w _ (hr.cell (i := 0) (by omega))
  obtain ⟨l, hl⟩ : ∃ l, b = a + l := ⟨b - a, by omega⟩
  obtain ⟨t, ht⟩ : ∃ t, t = l / 4 := ⟨_, rfl⟩
  obtain ⟨m, hm⟩ : ∃ m, m = d.size := ⟨_, rfl⟩
  have HM : Hid (d.size = m) := Lib.hid hm.symm
  obtain ⟨i0, hi0⟩ : ∃ i, i = a + t * 2 - 1 := ⟨_, rfl⟩
  obtain ⟨P1, hP1⟩ : ∃ P1, P1 = 2 ^ Sort.bitsLen l - 1 := ⟨_, rfl⟩
  have hpw := Sort.two_pow_bitsLen_le (n := l) (by omega)
  have hpl := Sort.lt_two_pow_bitsLen l
  have HPW := Lib.hid (power_any l (by omega))
  obtain ⟨P, hP⟩ : ∃ P, P = 2 ^ Sort.bitsLen l := ⟨_, rfl⟩
  rw [← hP] at hpw hpl HPW hP1
  have hl0 : (b : Int) - (a : Int) = (l : Int) := by omega
  have hq4 : (l : Int).tdiv 4 = (t : Int) := by rw [Int.tdiv_eq_ediv_of_nonneg (by omega)]; omega
  have hq5 : (l : Int) / 4 = (t : Int) := by omega
  have hi2 : (a : Int) + (t : Int) * 2 - 1 = (i0 : Int) := by omega
  have hu1 : IntKind.u64.wrap (l : Int) = (l : Int) := IntWalk.u64_in _ (by omega)
  have hu2 : IntKind.u64.wrap ((P : Int) - 1) = (P1 : Int) := by rw [IntWalk.u64_in _ (by omega)]; omega
  have HRW := Lib.hid hr
  rw [← hm] at hb hd ⊢
  have hb1 : i0 + 3 ≤ b := by omega
  have hb2 : a + 1 ≤ i0 := by omega
  have hb3 : P1 < 2 * l := by omega
  have hb4 : (i0 : Int) + 2 = (a : Int) + (t : Int) * 2 + 1 := by omega
  have hl8 : (8 : Int) ≤ (l : Int) := by omega
  have hlm : a + l ≤ m := by omega
  have hl9 : l ≤ 255 := by omega
  have HGL := Lib.hid hgl
  have HB4 := Lib.hid hb4
  have HBA : Hid (b = a + l) := Lib.hid hl
  clear hr hm hl ht hab hgl hP hpw hP1 hi0 hpl hb4
  go_enter Tryz.func191, Tryz.ntmps191
  go_upto_region 3 with fail
  obtain ⟨q, hq0⟩ : ∃ q, q = w.heap.size := ⟨_, rfl⟩
  have hX0 : Xor (w.alloc (.cells #[.int .u64 (l : Int)] 317)) q l := by
    rw [hq0]
    exact (Go.MapKept.heap_alloc w _).1
  have hB0 : Below w.heap.size w (w.alloc (.cells #[.int .u64 (l : Int)] 317)) := (Below.refl _ _).alloc (Nat.le_refl _) _
  have hgq : g < q := by have := HGL.out; omega
  have HQW : Hid (w.heap.size ≤ q) := Lib.hid (by omega)
  rw [← hq0]
  generalize w.alloc (.cells #[.int .u64 (l : Int)] 317) = W0 at hX0 hB0 ⊢
  have HX0 := Lib.hid hX0
  have HT0 : Hid (Turn [g] w W0 ∧ Rw W0 g c d) := Lib.hid ⟨Turn.of_below hB0, HRW.out.block (hB0.block g HGL.out)⟩
  clear hX0 hB0 hq0 HRW HGL
  go_wp2_with ((with_reducible refine (HPW.out _).mono ?_); rintro e W1 ⟨rfl, rfl⟩)
  go_loopw [9] (fun v9 W => ∃ (i : Nat) (dk : Array Nat) (z : Nat), v9 = .int .i64 (i : Int) ∧ (i0 ≤ i ∧ i ≤ i0 + 3) ∧ Hid (dk.size = m ∧ Sort.PermIn a b d dk ∧ Turn [g] w W ∧ Rw W g c dk ∧ Xor W q z ∧ (z : Int) < 18446744073709551616)) (fun v9 _ => i0 + 3 - (intOf v9).toNat)
  case atStart => exact ⟨i0, d, l, rfl, by omega, Lib.hid ⟨HM.out, Sort.permIn_refl _ _ _, HT0.out.1, HT0.out.2, HX0.out, by omega⟩⟩
  case round =>
    clear HX0 HT0 HM
    obtain ⟨i, dk, z, rfl, hi, hh⟩ := hrel
    by_cases hle : i ≤ i0 + 2
    · have hlz : (i : Int) ≤ (a : Int) + (t : Int) * 2 + 1 := by have := HB4.out; omega
      obtain ⟨hsz, hpm, hT, hW, hX, hz⟩ := hh.out
      have HSZ := Lib.hid hsz; have HPM := Lib.hid hpm; have HTW := Lib.hid (And.intro hT hW)
      have HNX := Lib.hid (next_any hX hz)
      clear hsz hpm hT hW hX hz hh
      go_upto_if 43 with ((with_reducible refine HNX.out.mono ?_); rintro e W2 ⟨z', rfl, hz', hT2, hX2⟩; obtain ⟨o, ho⟩ : ∃ o, o = z' &&& P1 := ⟨_, rfl⟩; have ha : bits BinOp.and IntKind.u64 (z' : Int) (P1 : Int) = (o : Int) := (by rw [ho]; exact bits_and_u64_nat z' P1 (by omega) (by omega)); have hol : o ≤ P1 := (by rw [ho]; exact Nat.and_le_right); clear ho; have HT2 := Lib.hid hT2; have HX2 := Lib.hid hX2; clear hT2 hX2 HNX)
      obtain ⟨r, hr1, hr2, hr3⟩ : ∃ r : Nat, (l ≤ o → (o : Int) - (l : Int) = (r : Int)) ∧ (¬ l ≤ o → o = r) ∧ r < l := by
        by_cases h : l ≤ o
        · exact ⟨o - l, fun _ => by omega, fun h2 => absurd h h2, by omega⟩
        · exact ⟨o, fun h2 => absurd h2 h, fun _ => rfl, by omega⟩
      have HR1 := Lib.hid hr1; have HR2 := Lib.hid hr2
      clear hr1 hr2
      go_cut [10] from 43 to 46 (fun v10 wx => v10 = .int .i64 (r : Int) ∧ wx = W2)
      case first =>
        clear hb3 hlz hi hle hq4 hq5 hi2 hu1 hu2 ha hol hz'
        have hr9 : (r : Int) < 255 := by omega
        clear hr3
        by_cases h : l ≤ o
        · have hz1 : (l : Int) ≤ (o : Int) := by omega
          have he := HR1.out h
          go_wp2_with fail
          go_meet
          case rel => exact ⟨rfl, rfl⟩
        · have hz1 : ¬ (l : Int) ≤ (o : Int) := by omega
          go_wp2_with fail
          go_meet
          case rel => exact ⟨by rw [HR2.out h], rfl⟩
      case rest =>
        obtain ⟨rfl, rfl⟩ := hcut
        have HC2 : Hid (Turn [g] w wc ∧ Rw wc g c dk) := Lib.hid ⟨turn_new HTW.out.1 HT2.out HQW.out, HTW.out.2.block (HT2.out.block g (World.block_lt_of_cell? wr _ (HTW.out.2.cell (i := 0) (by have := HSZ.out; omega))) (by simp; omega))⟩
        have HXK : Hid (∀ V, Turn [g] wc V → Xor V q z') := Lib.hid (fun V hV => (hV.block q (by
          have h1 := HX2.out
          unfold Xor at h1
          exact (Array.getElem?_eq_some_iff.1 h1).1) (by simp; omega)).trans HX2.out)
        have HZ := Lib.hid hz'
        have hir : a ≤ i ∧ i < b := by omega
        have hrr : a + r < b := by have := HBA.out; omega
        clear HR1 HR2 HTW HT2 HX2 hz' hol ha
        have cl : wc.cell? ⟨g, i, none⟩ = some (.int .u32 (dk[i]! : Int)) := HC2.out.2.cell (by have := HSZ.out; omega)
        have cr : wc.cell? ⟨g, (a + r), none⟩ = some (.int .u32 (dk[(a + r)]! : Int)) := HC2.out.2.cell (by have := HSZ.out; omega)
        have fr : ∀ t, wc.frozen? ⟨g, t, none⟩ = false := fun t => HC2.out.2.frozen t
        obtain ⟨fz, hfz⟩ := HC2.out.2.sc (i := i) (j := (a + r)) (by have := HSZ.out; omega) (by have := HSZ.out; omega)
        obtain ⟨xl, hxl⟩ : ∃ z, z = dk[i]! := ⟨_, rfl⟩
        obtain ⟨xr, hxr⟩ : ∃ z, z = dk[(a + r)]! := ⟨_, rfl⟩
        rw [← hxl] at cl
        rw [← hxr] at cr
        have HXL := Lib.hid hxl; have HXR := Lib.hid hxr
        clear hxl hxr
        go_upto_region 10 with fail
        go_region
        have HV : Hid (Turn [g] w ((wc.setCell ⟨g, i, none⟩ (.int .u32 (xr : Int))).setCell ⟨g, (a + r), none⟩ (.int .u32 (xl : Int))).drew ∧ Rw ((wc.setCell ⟨g, i, none⟩ (.int .u32 (xr : Int))).setCell ⟨g, (a + r), none⟩ (.int .u32 (xl : Int))).drew g c (Sort.swp dk i (a + r))) := Lib.hid ⟨(swp_turn HC2.out.1).drew, (Rw.swp HC2.out.2 (by have := HSZ.out; omega) (by have := HSZ.out; omega) rfl rfl HXR.out HXL.out).any rfl⟩
        have HVT := Lib.hid ((swp_turn (g := g) (a := i) (b := a + r) (u := .int .u32 (xr : Int)) (v := .int .u32 (xl : Int)) (Turn.refl [g] wc)).drew)
        clear cl cr fr hfz fz HXL HXR
        generalize ((wc.setCell ⟨g, i, none⟩ (.int .u32 (xr : Int))).setCell ⟨g, (a + r), none⟩ (.int .u32 (xl : Int))).drew = V at HV HVT ⊢
        clear HC2
        have HP2 : Hid (Sort.PermIn a b d (Sort.swp dk i (a + r)) ∧ (Sort.swp dk i (a + r)).size = m) := Lib.hid ⟨Sort.permIn_trans _ _ _ a b HPM.out (Sort.swp_permIn dk a b i (a + r) (by omega) (by omega) (by omega) (by omega) (by have := HSZ.out; omega)), (swp_size _ _ _).trans HSZ.out⟩
        have HXV : Hid (Xor V q z') := Lib.hid (HXK.out _ HVT.out)
        clear HSZ HPM HXK HVT
        go_wp2_with fail
        go_roundw
        case rel => exact ⟨i + 1, Sort.swp dk i (a + r), z', by go_num, by omega, Lib.hid ⟨HP2.out.2, HP2.out.1, HV.out.1, HV.out.2, HXV.out, HZ.out⟩⟩
        case measure => simp [intOf]; omega
    · have hlz : ¬ (i : Int) ≤ (a : Int) + (t : Int) * 2 + 1 := by have := HB4.out; omega
      go_wp2_with fail
      go_end0
      exact ⟨rfl, dk, hh.out.2.1, hh.out.2.2.1, hh.out.2.2.2.1⟩
end Go.Proofs.YtojpcgjmainbfaaGreat.Srt

/-
  Insertion sort, a few steps of it, at uint32.
-/
namespace Go.Proofs.YtojpcgjmainbfaaGreat.Srt
open Go.RowKit RowLaw
open Go.Proofs.YtojpcgjmainbfaaGreat.Dev (Turn)
set_option maxRecDepth 100000
theorem shiftDown_eqN (d : Array Nat) {j k : Nat} (hk : j = k + 1) : Sort.shiftDown ltN j d = if d[j]! < d[k]! then Sort.shiftDown ltN k (Sort.swp d j k) else d := by
  subst hk
  conv => lhs; unfold Sort.shiftDown
  unfold ltN
  by_cases h : d[k + 1]! < d[k]! <;> simp [h]
theorem shiftUp_eq {b : Nat} (d : Array Nat) {j k : Nat} (hk : j = k + 1) (hj : j < b) : Sort.shiftUp ltN b j d = if d[j]! < d[k]! then Sort.shiftUp ltN b (j + 1) (Sort.swp d j k) else d := by
  subst hk
  conv => lhs; unfold Sort.shiftUp
  rw [if_pos hj]
  unfold ltN
  simp only [Nat.add_sub_cancel]
  by_cases h : d[k + 1]! < d[k]! <;> simp [h]
theorem shiftUp_end {b : Nat} (d : Array Nat) {j : Nat} (hj : ¬ j < b) : Sort.shiftUp ltN b j d = d := by
  unfold Sort.shiftUp
  rw [if_neg hj]
theorem shiftDown_size : ∀ (j : Nat) (d : Array Nat), (Sort.shiftDown ltN j d).size = d.size
  | 0, _ => rfl
  | j + 1, d => by
    rw [shiftDown_eqN d rfl]
    split
    · rw [shiftDown_size j, swp_size]
    · rfl
theorem shiftUp_size (b : Nat) : ∀ (n j : Nat) (d : Array Nat), b - j ≤ n → 1 ≤ j → (Sort.shiftUp ltN b j d).size = d.size := by
  intro n
  induction n with
  | zero => intro j d h _; rw [shiftUp_end d (by omega)]
  | succ n ih =>
    intro j d h h1
    by_cases hj : j < b
    · rw [shiftUp_eq d (k := j - 1) (by omega) hj]
      split
      · rw [ih _ _ (by omega) (by omega), swp_size]
      · rfl
    · rw [shiftUp_end d hj]
theorem scanSorted_eq {b : Nat} (d : Array Nat) {i k : Nat} (hk : i = k + 1) : Sort.scanSorted ltN d b i = if i < b ∧ ¬ d[i]! < d[k]! then Sort.scanSorted ltN d b (i + 1) else i := by
  subst hk
  conv => lhs; unfold Sort.scanSorted
  unfold ltN
  simp only [Nat.add_sub_cancel]
  by_cases h1 : k + 1 < b
  · by_cases h : d[k + 1]! < d[k]! <;> simp [h1, h]
  · simp [h1]
theorem scanSorted_rng {b : Nat} (d : Array Nat) : ∀ (n i : Nat), b - i ≤ n → 1 ≤ i → i ≤ b → i ≤ Sort.scanSorted ltN d b i ∧ Sort.scanSorted ltN d b i ≤ b := by
  intro n
  induction n with
  | zero =>
    intro i h h1 h2
    rw [scanSorted_eq d (k := i - 1) (by omega), if_neg (by omega)]
    exact ⟨Nat.le_refl _, h2⟩
  | succ n ih =>
    intro i h h1 h2
    rw [scanSorted_eq d (k := i - 1) (by omega)]
    split
    · rename_i hc
      obtain ⟨q1, q2⟩ := ih (i + 1) (by omega) (by omega) (by omega)
      exact ⟨by omega, q2⟩
    · exact ⟨Nat.le_refl _, h2⟩
set_option linter.unusedSimpArgs false in
set_option maxHeartbeats 25600000 in
theorem partial_any {w : World} {g c a b : Nat} {d : Array Nat} (hr : Rw w g c d) (hab : a < b) (hb : b ≤ d.size) (hd : d.size ≤ 1000000) :
    Calls Tryz.prog 194 #[.slice (some ⟨g, 0, none⟩) d.size c, .int .i64 (a : Int), .int .i64 (b : Int)] w fun e w' =>
      e = .returned (.bool (Sort.partialInsertionSort ltN d a b).2) ∧ Turn [g] w w' ∧ Rw w' g c (Sort.partialInsertionSort ltN d a b).1 := by
  obtain ⟨m, hm⟩ : ∃ m, m = d.size := ⟨_, rfl⟩
  have HM : Hid (d.size = m) := Lib.hid hm.symm
  obtain ⟨RR, hR⟩ : ∃ R, R = Sort.partialInsertionSort ltN d a b := ⟨_, rfl⟩
  have HR : Hid (Sort.partialIns ltN a b 5 (a + 1) d = RR) := Lib.hid (by rw [hR]; rfl)
  have HRW := Lib.hid hr
  rw [← hR, ← hm]
  rw [← hm] at hb hd
  clear hR hm hr
  go_enter Tryz.func194, Tryz.ntmps194
  go_wp2_with fail
  go_loopw [7, 8] (fun v7 v8 W => ∃ (s i0 : Nat) (dk : Array Nat), v8 = .int .i64 (5 - (s : Int)) ∧ v7 = .int .i64 (i0 : Int) ∧ (s ≤ 5 ∧ a < i0 ∧ i0 ≤ b) ∧ Hid (dk.size = m ∧ Turn [g] w W ∧ Rw W g c dk ∧ Sort.partialIns ltN a b s i0 dk = RR)) (fun _ v8 _ => 5 - (intOf v8).toNat)
  case atStart => exact ⟨5, a + 1, d, rfl, by go_num, by omega, Lib.hid ⟨HM.out, Turn.refl _ _, HRW.out, HR.out⟩⟩
  case round =>
    clear HM HR HRW
    obtain ⟨s, i0, dk, rfl, rfl, hsi, hh⟩ := hrel
    obtain ⟨hs5, hi1, hi2⟩ := hsi
    cases s with
    | zero =>
      have hr1 := hh.out.2.2.2
      go_wp2_with fail
      go_ret
      exact ⟨by rw [← hr1]; rfl, hh.out.2.1, by rw [← hr1]; exact hh.out.2.2.1⟩
    | succ s =>
      obtain ⟨js, hjs⟩ : ∃ z : Int, z = 5 - ((s + 1 : Nat) : Int) := ⟨_, rfl⟩
      rw [← hjs]
      have hj1 : 0 ≤ js ∧ js < 5 := by omega
      have HJS := Lib.hid hjs
      have HSZ := Lib.hid hh.out.1
      have HTW0 := Lib.hid (And.intro hh.out.2.1 hh.out.2.2.1)
      have HPE := Lib.hid hh.out.2.2.2
      clear hh hjs
      obtain ⟨I, hI⟩ : ∃ z, z = Sort.scanSorted ltN dk b i0 := ⟨_, rfl⟩
      have HII := Lib.hid hI.symm
      have hbI : i0 ≤ I ∧ I ≤ b := by rw [hI]; exact scanSorted_rng dk _ i0 (Nat.le_refl _) (by omega) (by omega)
      have HQI := Lib.hid hI
      clear hI
      go_wp2_with fail
      go_loopw [7] (fun v7 W => ∃ i : Nat, v7 = .int .i64 (i : Int) ∧ (i0 ≤ i ∧ i ≤ b) ∧ Hid (Turn [g] w W ∧ Rw W g c dk ∧ Sort.scanSorted ltN dk b i = I)) (fun v7 _ => b - (intOf v7).toNat)
      case atStart => exact ⟨i0, rfl, by omega, Lib.hid ⟨HTW0.out.1, HTW0.out.2, HII.out⟩⟩
      case round =>
        clear HTW0 HII
        obtain ⟨i, rfl, hir, hh⟩ := hrel
        obtain ⟨hir1, hir2⟩ := hir
        obtain ⟨hT, hW, hE⟩ := hh.out
        obtain ⟨k, hk⟩ : ∃ k, i = k + 1 := ⟨i - 1, by omega⟩
        have z1 : IntKind.i64.wrap ((i : Int) - 1) = (k : Int) := by rw [IntWalk.i64_in _ (by omega)]; omega
        have hkm : k < m := by omega
        have ck : wr.cell? ⟨g, k, none⟩ = some (.int .u32 (dk[k]! : Int)) := hW.cell (by have := HSZ.out; omega)
        have ci : i < b → wr.cell? ⟨g, i, none⟩ = some (.int .u32 (dk[i]! : Int)) := fun h => hW.cell (by have := HSZ.out; omega)
        obtain ⟨x, hx⟩ : ∃ x, x = dk[i]! := ⟨_, rfl⟩
        obtain ⟨y, hy⟩ : ∃ y, y = dk[k]! := ⟨_, rfl⟩
        obtain ⟨bb, hbb⟩ : ∃ bb : Bool, bb = (decide (i < b) && !decide (x < y)) := ⟨_, rfl⟩
        have HN : Hid (bb = true → i < b ∧ Sort.scanSorted ltN dk b (i + 1) = I) := Lib.hid (fun h => by
          have h2 : i < b ∧ ¬ dk[i]! < dk[k]! := by rw [← hx, ← hy]; rw [hbb] at h; simpa using h
          rw [scanSorted_eq dk hk, if_pos h2] at hE
          exact ⟨h2.1, hE⟩)
        have HS : Hid (bb = false → I = i) := Lib.hid (fun h => by
          have h2 : ¬ (i < b ∧ ¬ dk[i]! < dk[k]!) := by rw [← hx, ← hy]; rw [hbb] at h; simpa using h
          rw [scanSorted_eq dk hk, if_neg h2] at hE
          exact hE.symm)
        rw [← hx] at ci
        rw [← hy] at ck
        have HBB := Lib.hid hbb; have HTW := Lib.hid (And.intro hT hW); have HK := Lib.hid hk
        clear hT hW hE hh hx hy hbb hk
        go_upto_region 5 with fail
        go_cut [32] from 17 to 34 (fun v32 wx => v32 = .bool bb ∧ Hid (Turn [g] w wx ∧ Rw wx g c dk))
        case first =>
          clear HN HS
          by_cases h1 : i < b
          · have h1z : (i : Int) < (b : Int) := by omega
            have him : i < m := by omega
            replace ci := ci h1
            have hbe : bb = !decide (x < y) := by rw [HBB.out, decide_eq_true h1, Bool.true_and]
            have HBE := Lib.hid hbe
            clear hbe
            go_big_quiet (first | (go_at_call 195; refine Calls.quiet_of_same (Less_any _ _ _)))
            go_wp2_with fail
            go_meet
            case rel => exact ⟨by rw [HBE.out], Lib.hid ⟨HTW.out.1.drewN nq, HTW.out.2.any rfl⟩⟩
          · have h1z : decide ((i : Int) < (b : Int)) = false := decide_eq_false (by omega)
            have hbe : bb = false := by rw [HBB.out, decide_eq_false h1, Bool.false_and]
            have HBE := Lib.hid hbe
            clear hbe ci
            go_big_quiet (first | (go_at_call 195; refine Calls.quiet_of_same (Less_any _ _ _)))
            go_wp2_with fail
            go_meet
            case rel => exact ⟨by rw [HBE.out], Lib.hid ⟨HTW.out.1.drewN nq, HTW.out.2.any rfl⟩⟩
        case rest =>
          obtain ⟨rfl, hcc⟩ := hcut
          clear HTW HBB ci ck
          cases hb2 : bb
          · have hv := HS.out hb2
            subst hb2
            subst hv
            clear HN HS
            clear z1
            have HC2 := hcc
            clear hcc
            have HPX : Hid ((I = b → (dk, true) = RR) ∧ (¬ I = b → b - a < 50 → (dk, false) = RR) ∧ (¬ I = b → ¬ b - a < 50 → Sort.partialIns ltN a b s I (Sort.fixUp ltN b I (Sort.fixDown ltN a I (Sort.swp dk I (I - 1)))) = RR)) := Lib.hid (by
              have h := HPE.out
              rw [Sort.partialIns_succ, ← HQI.out] at h
              refine ⟨fun h1 => by rw [if_pos h1] at h; exact h, fun h1 h2 => by rw [if_neg h1, if_pos h2] at h; exact h, fun h1 h2 => by rw [if_neg h1, if_neg h2] at h; exact h⟩)
            clear HPE HQI
            by_cases hib : I = b
            · have hibz : (I : Int) = (b : Int) := by omega
              have hr1 := HPX.out.1 hib
              go_wp2_with fail
              go_ret
              exact ⟨by rw [← hr1]; rfl, HC2.out.1, by rw [← hr1]; exact HC2.out.2⟩
            · have hibz : ¬ (I : Int) = (b : Int) := by omega
              by_cases h50 : b - a < 50
              · have h50z : (b : Int) - (a : Int) < 50 := by omega
                have hr1 := HPX.out.2.1 hib h50
                go_wp2_with fail
                go_ret
                exact ⟨by rw [← hr1]; rfl, HC2.out.1, by rw [← hr1]; exact HC2.out.2⟩
              · have h50z : ¬ (b : Int) - (a : Int) < 50 := by omega
                have HPS := Lib.hid (HPX.out.2.2 hib h50)
                have hi1m : I - 1 < m := by omega
                have hIm : I < m := by omega
                have hi1n : I - 1 < I := by omega
                clear HPX
                have hib2 : I < b := by omega
                have cl : wc.cell? ⟨g, I, none⟩ = some (.int .u32 (dk[I]! : Int)) := HC2.out.2.cell (by have := HSZ.out; omega)
                have cr : wc.cell? ⟨g, (I - 1), none⟩ = some (.int .u32 (dk[(I - 1)]! : Int)) := HC2.out.2.cell (by have := HSZ.out; omega)
                have fr : ∀ t, wc.frozen? ⟨g, t, none⟩ = false := fun t => HC2.out.2.frozen t
                obtain ⟨fz, hfz⟩ := HC2.out.2.sc (i := I) (j := (I - 1)) (by have := HSZ.out; omega) (by have := HSZ.out; omega)
                obtain ⟨xl, hxl⟩ : ∃ z, z = dk[I]! := ⟨_, rfl⟩
                obtain ⟨xr, hxr⟩ : ∃ z, z = dk[(I - 1)]! := ⟨_, rfl⟩
                rw [← hxl] at cl
                rw [← hxr] at cr
                have HXL := Lib.hid hxl; have HXR := Lib.hid hxr
                clear hxl hxr
                go_upto_region 11 with fail
                go_region
                have HV : Hid (Turn [g] w ((wc.setCell ⟨g, I, none⟩ (.int .u32 (xr : Int))).setCell ⟨g, (I - 1), none⟩ (.int .u32 (xl : Int))).drew ∧ Rw ((wc.setCell ⟨g, I, none⟩ (.int .u32 (xr : Int))).setCell ⟨g, (I - 1), none⟩ (.int .u32 (xl : Int))).drew g c (Sort.swp dk I (I - 1))) := Lib.hid ⟨(swp_turn HC2.out.1).drew, (Rw.swp HC2.out.2 (by have := HSZ.out; omega) (by have := HSZ.out; omega) rfl rfl HXR.out HXL.out).any rfl⟩
                clear cl cr fr hfz fz HXL HXR
                generalize ((wc.setCell ⟨g, I, none⟩ (.int .u32 (xr : Int))).setCell ⟨g, (I - 1), none⟩ (.int .u32 (xl : Int))).drew = V at HV ⊢
                clear HC2
                obtain ⟨dk2, hdk2⟩ : ∃ z, z = Sort.swp dk I (I - 1) := ⟨_, rfl⟩
                rw [← hdk2] at HV
                have HA3 : Hid (dk2.size = m ∧ Turn [g] w V ∧ Rw V g c dk2) := Lib.hid ⟨by rw [hdk2, swp_size]; exact HSZ.out, HV.out⟩
                obtain ⟨D3, hD3⟩ : ∃ z, z = Sort.fixDown ltN a I dk2 := ⟨_, rfl⟩
                obtain ⟨D4, hD4⟩ : ∃ z, z = Sort.fixUp ltN b I D3 := ⟨_, rfl⟩
                have HPN : Hid (Sort.partialIns ltN a b s I D4 = RR) := Lib.hid (by rw [hD4, hD3, hdk2]; exact HPS.out)
                have HR3 : Hid ((2 ≤ I - a → D3 = Sort.shiftDown ltN (I - 1) dk2) ∧ (¬ 2 ≤ I - a → D3 = dk2)) := Lib.hid ⟨fun h => by rw [hD3]; unfold Sort.fixDown; rw [if_pos h], fun h => by rw [hD3]; unfold Sort.fixDown; rw [if_neg h]⟩
                have HR4 : Hid ((2 ≤ b - I → D4 = Sort.shiftUp ltN b (I + 1) D3) ∧ (¬ 2 ≤ b - I → D4 = D3)) := Lib.hid ⟨fun h => by rw [hD4]; unfold Sort.fixUp; rw [if_pos h], fun h => by rw [hD4]; unfold Sort.fixUp; rw [if_neg h]⟩
                have HS3 : Hid (D3.size = m) := Lib.hid (by
                  by_cases h : 2 ≤ I - a
                  · rw [HR3.out.1 h, shiftDown_size]; exact HA3.out.1
                  · rw [HR3.out.2 h]; exact HA3.out.1)
                have HS4 : Hid (D4.size = m) := Lib.hid (by
                  by_cases h : 2 ≤ b - I
                  · rw [HR4.out.1 h, shiftUp_size _ _ _ _ (Nat.le_refl _) (by omega)]; exact HS3.out
                  · rw [HR4.out.2 h]; exact HS3.out)
                clear hdk2 hD3 hD4 HV HSZ HPS
                go_upto_if 61 with fail
                go_cut [9] from 35 to 94 (fun v9 wx => Hid (Turn [g] w wx ∧ Rw wx g c D3))
                case first =>
                  by_cases h2 : 2 ≤ I - a
                  · have h2z : (2 : Int) ≤ (I : Int) - (a : Int) := by omega
                    obtain ⟨DD, hDD⟩ : ∃ z, z = Sort.shiftDown ltN (I - 1) dk2 := ⟨_, rfl⟩
                    have HDD := Lib.hid hDD.symm
                    have HSDD : Hid (DD.size = m) := Lib.hid (by rw [hDD, shiftDown_size]; exact HA3.out.1)
                    have HEDD := Lib.hid hDD
                    clear hDD
                    go_wp2_with fail
                    go_loopw [9] (fun v9 W => ∃ (j : Nat) (dd : Array Nat), v9 = .int .i64 (j : Int) ∧ (j < b) ∧ Hid (dd.size = m ∧ Turn [g] w W ∧ Rw W g c dd ∧ Sort.shiftDown ltN j dd = DD)) (fun v9 _ => (intOf v9).toNat)
                    case atStart => exact ⟨(I - 1), dk2, by go_num, by omega, Lib.hid ⟨HA3.out.1, HA3.out.2.1, HA3.out.2.2, HDD.out⟩⟩
                    case round =>
                      clear HDD HA3
                      obtain ⟨j, dd, rfl, hjr, hh⟩ := hrel
                      by_cases hj : 1 ≤ j
                      · have hjz : (1 : Int) ≤ (j : Int) := by omega
                        obtain ⟨k, hk⟩ : ∃ k, j = k + 1 := ⟨j - 1, by omega⟩
                        obtain ⟨hsz, hT, hW, hE⟩ := hh.out
                        have hjm : j < m := by omega
                        have hkm : k < m := by omega
                        have z1 : IntKind.i64.wrap ((j : Int) - 1) = (k : Int) := by rw [IntWalk.i64_in _ (by omega)]; omega
                        have cj : wr.cell? ⟨g, j, none⟩ = some (.int .u32 (dd[j]! : Int)) := hW.cell (by omega)
                        have ck : wr.cell? ⟨g, k, none⟩ = some (.int .u32 (dd[k]! : Int)) := hW.cell (by omega)
                        have HEQ : Hid ((dd[j]! < dd[k]! → Sort.shiftDown ltN k (Sort.swp dd j k) = DD) ∧ (¬ dd[j]! < dd[k]! → dd = DD)) := Lib.hid (by
                          have h1 := shiftDown_eqN dd (j := j) (k := k) hk
                          rw [h1] at hE
                          exact ⟨fun h => by rw [if_pos h] at hE; exact hE, fun h => by rw [if_neg h] at hE; exact hE⟩)
                        obtain ⟨x, hx⟩ : ∃ x, x = dd[j]! := ⟨_, rfl⟩
                        obtain ⟨y, hy⟩ : ∃ y, y = dd[k]! := ⟨_, rfl⟩
                        rw [← hx] at cj HEQ
                        rw [← hy] at ck HEQ
                        have HK := Lib.hid hk; have HSZ := Lib.hid hsz; have HTW := Lib.hid (And.intro hT hW)
                        clear hh hk hsz hT hW hE hx hy
                        by_cases hlt : x < y
                        · have hlz : (x : Int) < (y : Int) := by omega
                          have HNE := Lib.hid (HEQ.out.1 hlt)
                          clear HEQ
                          go_upto_region 16 with fail
                          go_big_quiet (first | (go_at_call 195; refine Calls.quiet_of_same (Less_any _ _ _)))
                          go_wp2_with fail
                          have HC2 : Hid (Turn [g] w (wr.drewN nq) ∧ Rw (wr.drewN nq) g c dd) := Lib.hid ⟨HTW.out.1.drewN nq, HTW.out.2.any rfl⟩
                          clear HTW cj ck
                          generalize wr.drewN nq = W3 at HC2 ⊢
                          clear hlt hlz
                          clear nq
                          have cl : W3.cell? ⟨g, j, none⟩ = some (.int .u32 (dd[j]! : Int)) := HC2.out.2.cell (by have := HSZ.out; omega)
                          have cr : W3.cell? ⟨g, k, none⟩ = some (.int .u32 (dd[k]! : Int)) := HC2.out.2.cell (by have := HSZ.out; omega)
                          have fr : ∀ t, W3.frozen? ⟨g, t, none⟩ = false := fun t => HC2.out.2.frozen t
                          obtain ⟨fz, hfz⟩ := HC2.out.2.sc (i := j) (j := k) (by have := HSZ.out; omega) (by have := HSZ.out; omega)
                          obtain ⟨xl, hxl⟩ : ∃ z, z = dd[j]! := ⟨_, rfl⟩
                          obtain ⟨xr, hxr⟩ : ∃ z, z = dd[k]! := ⟨_, rfl⟩
                          rw [← hxl] at cl
                          rw [← hxr] at cr
                          have HXL := Lib.hid hxl; have HXR := Lib.hid hxr
                          clear hxl hxr
                          go_upto_region 17 with fail
                          go_region
                          have HV : Hid (Turn [g] w ((W3.setCell ⟨g, j, none⟩ (.int .u32 (xr : Int))).setCell ⟨g, k, none⟩ (.int .u32 (xl : Int))).drew ∧ Rw ((W3.setCell ⟨g, j, none⟩ (.int .u32 (xr : Int))).setCell ⟨g, k, none⟩ (.int .u32 (xl : Int))).drew g c (Sort.swp dd j k)) := Lib.hid ⟨(swp_turn HC2.out.1).drew, (Rw.swp HC2.out.2 (by have := HSZ.out; omega) (by have := HSZ.out; omega) rfl rfl HXR.out HXL.out).any rfl⟩
                          clear cl cr fr hfz fz HXL HXR
                          generalize ((W3.setCell ⟨g, j, none⟩ (.int .u32 (xr : Int))).setCell ⟨g, k, none⟩ (.int .u32 (xl : Int))).drew = V at HV ⊢
                          clear HC2
                          have HSZ2 : Hid ((Sort.swp dd j k).size = m) := Lib.hid ((swp_size _ _ _).trans HSZ.out)
                          go_wp2_with fail
                          go_roundw
                          case rel => exact ⟨k, Sort.swp dd j k, by go_num, by have := HK.out; omega, Lib.hid ⟨HSZ2.out, HV.out.1, HV.out.2, HNE.out⟩⟩
                          case measure => have := HK.out; simp [intOf]; omega
                        · have hlz : ¬ (x : Int) < (y : Int) := by omega
                          have HD := Lib.hid (HEQ.out.2 hlt)
                          clear HEQ
                          go_upto_region 16 with fail
                          go_big_quiet (first | (go_at_call 195; refine Calls.quiet_of_same (Less_any _ _ _)))
                          go_wp2_with fail
                          have HFN : Hid (Turn [g] w (wr.drewN nq) ∧ Rw (wr.drewN nq) g c D3) := Lib.hid ⟨HTW.out.1.drewN nq, by rw [HR3.out.1 h2, ← HEDD.out, ← HD.out]; exact HTW.out.2.any rfl⟩
                          go_meet
                          case rel => exact HFN
                      · have hjz : ¬ (1 : Int) ≤ (j : Int) := by omega
                        have HD : Hid (dd = DD) := Lib.hid (by
                          have h1 := hh.out.2.2.2
                          rw [show j = 0 by omega] at h1
                          exact h1)
                        go_wp2_with fail
                        have HFN : Hid (Turn [g] w wr ∧ Rw wr g c D3) := Lib.hid ⟨hh.out.2.1, by rw [HR3.out.1 h2, ← HEDD.out, ← HD.out]; exact hh.out.2.2.1⟩
                        go_meet
                        case rel => exact HFN
                  · have h2z : ¬ (2 : Int) ≤ (I : Int) - (a : Int) := by omega
                    go_wp2_with fail
                    go_meet
                    case rel => exact Lib.hid ⟨HA3.out.2.1, by rw [HR3.out.2 h2]; exact HA3.out.2.2⟩
                case rest =>
                  have HA4 : Hid (D3.size = m ∧ Turn [g] w wc ∧ Rw wc g c D3) := Lib.hid ⟨HS3.out, hcut.out⟩
                  clear HA3 HR3 HS3 hcut dk2
                  go_upto_if 98 with fail
                  by_cases h3 : 2 ≤ b - I
                  · have h3z : (2 : Int) ≤ (b : Int) - (I : Int) := by omega
                    obtain ⟨DU, hDU⟩ : ∃ z, z = Sort.shiftUp ltN b (I + 1) D3 := ⟨_, rfl⟩
                    have HDU := Lib.hid hDU.symm
                    have HSDU : Hid (DU.size = m) := Lib.hid (by rw [hDU, shiftUp_size _ _ _ _ (Nat.le_refl _) (by omega)]; exact HA4.out.1)
                    have HEDU := Lib.hid hDU
                    clear hDU
                    go_wp2_with fail
                    go_loopw [10] (fun v10 W => ∃ (j : Nat) (dd : Array Nat), v10 = .int .i64 (j : Int) ∧ (1 ≤ j ∧ j ≤ b + 1) ∧ Hid (dd.size = m ∧ Turn [g] w W ∧ Rw W g c dd ∧ Sort.shiftUp ltN b j dd = DU)) (fun v10 _ => b + 1 - (intOf v10).toNat)
                    case atStart => exact ⟨(I + 1), D3, by go_num, by omega, Lib.hid ⟨HA4.out.1, HA4.out.2.1, HA4.out.2.2, HDU.out⟩⟩
                    case round =>
                      clear HDU HA4
                      obtain ⟨j, dd, rfl, hjr, hh⟩ := hrel
                      by_cases hj : j < b
                      · have hjz : (j : Int) < (b : Int) := by omega
                        obtain ⟨k, hk⟩ : ∃ k, j = k + 1 := ⟨j - 1, by omega⟩
                        obtain ⟨hsz, hT, hW, hE⟩ := hh.out
                        have hjm : j < m := by omega
                        have hkm : k < m := by omega
                        have z1 : IntKind.i64.wrap ((j : Int) - 1) = (k : Int) := by rw [IntWalk.i64_in _ (by omega)]; omega
                        have cj : wr.cell? ⟨g, j, none⟩ = some (.int .u32 (dd[j]! : Int)) := hW.cell (by omega)
                        have ck : wr.cell? ⟨g, k, none⟩ = some (.int .u32 (dd[k]! : Int)) := hW.cell (by omega)
                        have HEQ : Hid ((dd[j]! < dd[k]! → Sort.shiftUp ltN b (j + 1) (Sort.swp dd j k) = DU) ∧ (¬ dd[j]! < dd[k]! → dd = DU)) := Lib.hid (by
                          have h1 := shiftUp_eq (b := b) dd (j := j) (k := k) hk hj
                          rw [h1] at hE
                          exact ⟨fun h => by rw [if_pos h] at hE; exact hE, fun h => by rw [if_neg h] at hE; exact hE⟩)
                        obtain ⟨x, hx⟩ : ∃ x, x = dd[j]! := ⟨_, rfl⟩
                        obtain ⟨y, hy⟩ : ∃ y, y = dd[k]! := ⟨_, rfl⟩
                        rw [← hx] at cj HEQ
                        rw [← hy] at ck HEQ
                        have HK := Lib.hid hk; have HSZ := Lib.hid hsz; have HTW := Lib.hid (And.intro hT hW)
                        clear hh hk hsz hT hW hE hx hy
                        by_cases hlt : x < y
                        · have hlz : (x : Int) < (y : Int) := by omega
                          have HNE := Lib.hid (HEQ.out.1 hlt)
                          clear HEQ
                          go_upto_region 22 with fail
                          go_big_quiet (first | (go_at_call 195; refine Calls.quiet_of_same (Less_any _ _ _)))
                          go_wp2_with fail
                          have HC2 : Hid (Turn [g] w (wr.drewN nq) ∧ Rw (wr.drewN nq) g c dd) := Lib.hid ⟨HTW.out.1.drewN nq, HTW.out.2.any rfl⟩
                          clear HTW cj ck
                          generalize wr.drewN nq = W3 at HC2 ⊢
                          clear hlt hlz
                          clear nq
                          have cl : W3.cell? ⟨g, j, none⟩ = some (.int .u32 (dd[j]! : Int)) := HC2.out.2.cell (by have := HSZ.out; omega)
                          have cr : W3.cell? ⟨g, k, none⟩ = some (.int .u32 (dd[k]! : Int)) := HC2.out.2.cell (by have := HSZ.out; omega)
                          have fr : ∀ t, W3.frozen? ⟨g, t, none⟩ = false := fun t => HC2.out.2.frozen t
                          obtain ⟨fz, hfz⟩ := HC2.out.2.sc (i := j) (j := k) (by have := HSZ.out; omega) (by have := HSZ.out; omega)
                          obtain ⟨xl, hxl⟩ : ∃ z, z = dd[j]! := ⟨_, rfl⟩
                          obtain ⟨xr, hxr⟩ : ∃ z, z = dd[k]! := ⟨_, rfl⟩
                          rw [← hxl] at cl
                          rw [← hxr] at cr
                          have HXL := Lib.hid hxl; have HXR := Lib.hid hxr
                          clear hxl hxr
                          go_upto_region 23 with fail
                          go_region
                          have HV : Hid (Turn [g] w ((W3.setCell ⟨g, j, none⟩ (.int .u32 (xr : Int))).setCell ⟨g, k, none⟩ (.int .u32 (xl : Int))).drew ∧ Rw ((W3.setCell ⟨g, j, none⟩ (.int .u32 (xr : Int))).setCell ⟨g, k, none⟩ (.int .u32 (xl : Int))).drew g c (Sort.swp dd j k)) := Lib.hid ⟨(swp_turn HC2.out.1).drew, (Rw.swp HC2.out.2 (by have := HSZ.out; omega) (by have := HSZ.out; omega) rfl rfl HXR.out HXL.out).any rfl⟩
                          clear cl cr fr hfz fz HXL HXR
                          generalize ((W3.setCell ⟨g, j, none⟩ (.int .u32 (xr : Int))).setCell ⟨g, k, none⟩ (.int .u32 (xl : Int))).drew = V at HV ⊢
                          clear HC2
                          have HSZ2 : Hid ((Sort.swp dd j k).size = m) := Lib.hid ((swp_size _ _ _).trans HSZ.out)
                          go_wp2_with fail
                          go_roundw
                          case rel => exact ⟨(j + 1), Sort.swp dd j k, by go_num, by have := HK.out; omega, Lib.hid ⟨HSZ2.out, HV.out.1, HV.out.2, HNE.out⟩⟩
                          case measure => have := HK.out; simp [intOf]; omega
                        · have hlz : ¬ (x : Int) < (y : Int) := by omega
                          have HD := Lib.hid (HEQ.out.2 hlt)
                          clear HEQ
                          go_upto_region 22 with fail
                          go_big_quiet (first | (go_at_call 195; refine Calls.quiet_of_same (Less_any _ _ _)))
                          go_wp2_with fail
                          have HFN : Hid (Turn [g] w (wr.drewN nq) ∧ Rw (wr.drewN nq) g c D4) := Lib.hid ⟨HTW.out.1.drewN nq, by rw [HR4.out.1 h3, ← HEDU.out, ← HD.out]; exact HTW.out.2.any rfl⟩
                          go_roundw
                          case rel => exact ⟨s, I, D4, by have := HJS.out; congr 1; omega, rfl, by omega, Lib.hid ⟨HS4.out, HFN.out.1, HFN.out.2, HPN.out⟩⟩
                          case measure => have := HJS.out; simp [intOf]; omega
                      · have hjz : ¬ (j : Int) < (b : Int) := by omega
                        have HD : Hid (dd = DU) := Lib.hid (by
                          have h1 := hh.out.2.2.2
                          rw [shiftUp_end dd hj] at h1
                          exact h1)
                        go_wp2_with fail
                        have HFN : Hid (Turn [g] w wr ∧ Rw wr g c D4) := Lib.hid ⟨hh.out.2.1, by rw [HR4.out.1 h3, ← HEDU.out, ← HD.out]; exact hh.out.2.2.1⟩
                        go_roundw
                        case rel => exact ⟨s, I, D4, by have := HJS.out; congr 1; omega, rfl, by omega, Lib.hid ⟨HS4.out, HFN.out.1, HFN.out.2, HPN.out⟩⟩
                        case measure => have := HJS.out; simp [intOf]; omega
                  · have h3z : ¬ (2 : Int) ≤ (b : Int) - (I : Int) := by omega
                    go_wp2_with fail
                    have HFN : Hid (Turn [g] w wc ∧ Rw wc g c D4) := Lib.hid ⟨HA4.out.2.1, by rw [HR4.out.2 h3]; exact HA4.out.2.2⟩
                    go_roundw
                    case rel => exact ⟨s, I, D4, by have := HJS.out; congr 1; omega, rfl, by omega, Lib.hid ⟨HS4.out, HFN.out.1, HFN.out.2, HPN.out⟩⟩
                    case measure => have := HJS.out; simp [intOf]; omega
          · obtain ⟨hn1, hn2⟩ := HN.out hb2
            have HNE := Lib.hid hn2
            subst hb2
            clear hn2 HN HS
            go_wp2_with fail
            go_roundw
            case rel => exact ⟨i + 1, by go_num, by omega, Lib.hid ⟨hcc.out.1, hcc.out.2, HNE.out⟩⟩
            case measure => simp [intOf]; omega
end Go.Proofs.YtojpcgjmainbfaaGreat.Srt

