/-
  SrtA: SrtLess, SrtOrd, SrtIns, SrtRev.
-/
import Derived.Test.YtojpcgjmainbfaaGreatRowLaws
import Derived.Test.YtojpcgjmainbfaaGreatDev1
import Derived.Sort.Defs
import Derived.Deep.RegionHeld3
import Derived.Deep.Cut
import Derived.StillTailTactics
/-
  Two numbers of type uint32 compared by the standard library's cmp.Less.
-/
namespace Go.Proofs.YtojpcgjmainbfaaGreat.Srt
open Go.RowKit RowLaw
set_option maxRecDepth 100000
theorem isNaN_any (x : Nat) (w : World) : Calls Tryz.prog 211 #[.int .u32 (x : Int)] w fun e w' => e = .returned (.bool false) ∧ w' = w := by
  go_enter Tryz.func211, Tryz.ntmps211
  go_wp2_with fail
  go_ret
  exact ⟨by simp, rfl⟩
theorem Less_any (x y : Nat) (w : World) : Calls Tryz.prog 195 #[.int .u32 (x : Int), .int .u32 (y : Int)] w fun e w' => e = .returned (.bool (decide (x < y))) ∧ w' = w := by
  have hx := fun W => isNaN_any x W
  have hy := fun W => isNaN_any y W
  by_cases h : x < y
  · have h1 : (x : Int) < (y : Int) := by omega
    rw [decide_eq_true h]
    clear h
    go_enter Tryz.func195, Tryz.ntmps195
    go_wp2_with (first
      | ((with_reducible refine (hx _).mono ?_); rintro e W ⟨rfl, rfl⟩)
      | ((with_reducible refine (hy _).mono ?_); rintro e W ⟨rfl, rfl⟩))
    go_ret
    exact ⟨by simp, rfl⟩
  · have h1 : ¬ (x : Int) < (y : Int) := by omega
    rw [decide_eq_false h]
    clear h
    go_enter Tryz.func195, Tryz.ntmps195
    go_wp2_with (first
      | ((with_reducible refine (hx _).mono ?_); rintro e W ⟨rfl, rfl⟩)
      | ((with_reducible refine (hy _).mono ?_); rintro e W ⟨rfl, rfl⟩))
    go_ret
    exact ⟨by simp; omega, rfl⟩
end Go.Proofs.YtojpcgjmainbfaaGreat.Srt

/-
  The sort's small functions at uint32: the order of two places, the middle one of three.
-/
namespace Go.Proofs.YtojpcgjmainbfaaGreat.Srt
open Go.RowKit RowLaw
open Go.Proofs.YtojpcgjmainbfaaGreat.Dev (Turn)
set_option maxRecDepth 100000

/-- the order of the numbers -/
def ltN (x y : Nat) : Bool := decide (x < y)
/-- a row of the numbers d, in block g -/
def Rw (W : World) (g c : Nat) (d : Array Nat) : Prop := W.ownsRow 0 22 1 (.slice (some ⟨g, 0, none⟩) d.size c) d.size (d.toList.map fun n : Nat => .int .u32 (n : Int))
theorem Rw.cell {W : World} {g c : Nat} {d : Array Nat} (h : Rw W g c d) {i : Nat} (hi : i < d.size) : W.cell? ⟨g, i, none⟩ = some (.int .u32 (d[i]! : Int)) := by
  have := h.cellAt i (by omega)
  rw [this, List.getElem?_map, Array.getElem?_toList, Array.getElem?_eq_getElem hi, getElem!_pos d i hi]
  rfl
theorem Rw.block {W W' : World} {g c : Nat} {d : Array Nat} (h : Rw W g c d) (hb : W'.heap[g]? = W.heap[g]?) : Rw W' g c d := Dev.ownsRow_block h (fun k hk => by
  simp only [Value.ownBlock, Option.some.injEq] at hk
  subst hk
  exact hb)
/-- the count of swaps -/
def Cnt1 (W : World) (q : Nat) (s : Nat) : Prop := W.heap[q]? = some (.cells #[.int .i64 (s : Int)] 3 (0, 0))
theorem Rw.ne {W : World} {g c q s : Nat} {d : Array Nat} (h : Rw W g c d) (hq : Cnt1 W q s) : g ≠ q := fun e => by
  subst e
  rcases h.2 with ⟨h1, _⟩ | ⟨g', cap, cur, h1, _, h2, _⟩
  · cases h1
  · cases h1
    unfold Cnt1 at hq
    rw [hq] at h2
    injection h2 with h2
    injection h2 with _ h2
    exact absurd h2 (by decide)

set_option linter.unusedSimpArgs false in
set_option maxHeartbeats 1600000 in
theorem order2_any {w : World} {g c q s a b : Nat} {d : Array Nat} (hr : Rw w g c d) (hq : Cnt1 w q s) (ha : a < d.size) (hb : b < d.size) (hs : s < 1000000) :
    Calls Tryz.prog 214 #[.slice (some ⟨g, 0, none⟩) d.size c, .int .i64 (a : Int), .int .i64 (b : Int), .pointer (some ⟨q, 0, none⟩)] w fun e w' =>
      e = .returned (.tuple #[.int .i64 ((Sort.order2 ltN d a b s).1 : Int), .int .i64 ((Sort.order2 ltN d a b s).2.1 : Int)]) ∧ Turn [q] w w' ∧ Cnt1 w' q (Sort.order2 ltN d a b s).2.2 := by
  have hne := hr.ne hq
  have ca := hr.cell ha
  have cb := hr.cell hb
  obtain ⟨x, hx⟩ : ∃ x, x = d[a]! := ⟨_, rfl⟩
  obtain ⟨y, hy⟩ : ∃ y, y = d[b]! := ⟨_, rfl⟩
  rw [← hx] at ca
  rw [← hy] at cb
  have HO : Hid (Sort.order2 ltN d a b s = if y < x then (b, a, s + 1) else (a, b, s)) := Lib.hid (by
    unfold Sort.order2 ltN
    rw [← hx, ← hy]
    by_cases h : y < x
    · rw [if_pos h, if_pos (decide_eq_true h)]
    · rw [if_neg h, if_neg (by simpa using h)])
  have hS : w.drew.cell? ⟨g, a, none⟩ = some (.int .u32 (x : Int)) ∧ w.drew.cell? ⟨g, b, none⟩ = some (.int .u32 (y : Int)) := ⟨ca, cb⟩
  have HQ : Hid (Cnt1 w.drew q s) := Lib.hid hq
  have hT : Turn [q] w w.drew := (Turn.refl _ _).drew
  have HT := Lib.hid hT
  have HL := Lib.hid (fun W => Less_any y x W)
  have a0 : (0 : Int) ≤ (a : Int) := by omega
  have a1 : (a : Int) < (d.size : Int) := by omega
  have b0 : (0 : Int) ≤ (b : Int) := by omega
  have b1 : (b : Int) < (d.size : Int) := by omega
  clear hr hq ca cb hT hx hy hne
  go_enter Tryz.func214, Tryz.ntmps214
  go_upto_region 1 with fail
  refine wp_region_noPanic ?_
  refine wp_region_held_drew (S := fun W => W.cell? ⟨g, a, none⟩ = some (.int .u32 (x : Int)) ∧ W.cell? ⟨g, b, none⟩ = some (.int .u32 (y : Int))) (by kernel_rfl) hS ?_
  intro hS
  generalize w.drew = W1 at hS HQ HT ⊢
  refine wpAnyH_take (i := 0) (v := .slice (some ⟨g, 0, none⟩) d.size c) rfl (by kernel_rfl) (by kernel_rfl) (by kernel_rfl) (fun _ _ _ h => (h : False).elim) (Or.inl ⟨by rfl, fun _ _ => by go_simp⟩) hS ?_
  change wpAnyH _ _ _ _ _ _ _ (Act.put _ (some 10) _) _
  simp only [Act.put, List.setIfInBounds_toArray, List.set_cons_succ, List.set_cons_zero]
  refine wpAnyH_take (i := 1) (v := .int .i64 (b : Int)) rfl (by kernel_rfl) (by kernel_rfl) (by kernel_rfl) (fun _ _ _ h => (h : False).elim) (Or.inl ⟨by rfl, fun _ _ => by go_simp⟩) hS ?_
  change wpAnyH _ _ _ _ _ _ _ (Act.put _ (some 11) _) _
  simp only [Act.put, List.setIfInBounds_toArray, List.set_cons_succ, List.set_cons_zero]
  refine wpAnyH_take (i := 2) (v := .pointer (some ⟨g, b, none⟩)) rfl (by kernel_rfl) (by kernel_rfl) (by kernel_rfl) (fun _ _ _ h => (h : False).elim) (Or.inl ⟨by rfl, fun _ _ => by go_simp⟩) hS ?_
  change wpAnyH _ _ _ _ _ _ _ (Act.put _ (some 12) _) _
  simp only [Act.put, List.setIfInBounds_toArray, List.set_cons_succ, List.set_cons_zero]
  refine wpAnyH_take (i := 3) (v := .int .u32 (y : Int)) rfl (by kernel_rfl) (by kernel_rfl) (by kernel_rfl) (fun _ _ _ h => (h : False).elim) (Or.inl ⟨by rfl, fun w hw => by have c := hw.2; go_simp⟩) hS ?_
  change wpAnyH _ _ _ _ _ _ _ (Act.put _ (some 13) _) _
  simp only [Act.put, List.setIfInBounds_toArray, List.set_cons_succ, List.set_cons_zero]
  refine wpAnyH_take (i := 4) (v := .slice (some ⟨g, 0, none⟩) d.size c) rfl (by kernel_rfl) (by kernel_rfl) (by kernel_rfl) (fun _ _ _ h => (h : False).elim) (Or.inl ⟨by rfl, fun _ _ => by go_simp⟩) hS ?_
  change wpAnyH _ _ _ _ _ _ _ (Act.put _ (some 14) _) _
  simp only [Act.put, List.setIfInBounds_toArray, List.set_cons_succ, List.set_cons_zero]
  refine wpAnyH_take (i := 5) (v := .int .i64 (a : Int)) rfl (by kernel_rfl) (by kernel_rfl) (by kernel_rfl) (fun _ _ _ h => (h : False).elim) (Or.inl ⟨by rfl, fun _ _ => by go_simp⟩) hS ?_
  change wpAnyH _ _ _ _ _ _ _ (Act.put _ (some 15) _) _
  simp only [Act.put, List.setIfInBounds_toArray, List.set_cons_succ, List.set_cons_zero]
  refine wpAnyH_take (i := 6) (v := .pointer (some ⟨g, a, none⟩)) rfl (by kernel_rfl) (by kernel_rfl) (by kernel_rfl) (fun _ _ _ h => (h : False).elim) (Or.inl ⟨by rfl, fun _ _ => by go_simp⟩) hS ?_
  change wpAnyH _ _ _ _ _ _ _ (Act.put _ (some 16) _) _
  simp only [Act.put, List.setIfInBounds_toArray, List.set_cons_succ, List.set_cons_zero]
  refine wpAnyH_take (i := 7) (v := .int .u32 (x : Int)) rfl (by kernel_rfl) (by kernel_rfl) (by kernel_rfl) (fun _ _ _ h => (h : False).elim) (Or.inl ⟨by rfl, fun w hw => by have c := hw.1; go_simp⟩) hS ?_
  change wpAnyH _ _ _ _ _ _ _ (Act.put _ (some 17) _) _
  simp only [Act.put, List.setIfInBounds_toArray, List.set_cons_succ, List.set_cons_zero]
  refine wpAnyH_ready (rs := [8]) (by kernel_rfl) (by simp) ?_
  refine AllReadyH.cons rfl (fun K hK => ?_) AllReadyH.nil
  rw [if_pos (by rfl)]
  go_simp
  refine (HL.out _).mono ?_
  rintro e W ⟨rfl, hW⟩
  subst hW
  dsimp only
  refine hK _ _ hS (fun _ => ?_)
  clear hK K HL
  try simp only [Act.put, List.setIfInBounds_toArray, List.set_cons_succ, List.set_cons_zero]
  refine wpAnyH_done (by kernel_rfl) ?_ _
  refine NoPanic.normal ?_
  clear hS
  have cq : W.cell? ⟨q, 0, none⟩ = some (.int .i64 (s : Int)) := (cell_of_row W q 0 _ _ _ HQ.out).trans rfl
  have fq : W.frozen? ⟨q, 0, none⟩ = false := frozen_of_row W q 0 _ _ HQ.out
  have z1 : IntKind.i64.wrap ((s : Int) + 1) = (s : Int) + 1 := IntWalk.i64_in _ (by omega)
  by_cases h : y < x
  · have hdec : decide (y < x) = true := decide_eq_true h
    have HO1 : Hid (Sort.order2 ltN d a b s = (b, a, s + 1)) := Lib.hid (by rw [HO.out, if_pos h])
    rw [hdec]
    clear hdec h HO
    go_wp2_with fail
    go_ret2
    rw [HO1.out]
    refine ⟨rfl, HT.out.setCell ⟨q, 0, none⟩ _ (.inl (by simp)), ?_⟩
    exact heap_setCell_same W q 0 _ _ _ HQ.out
  · have hdec : decide (y < x) = false := decide_eq_false h
    have HO1 : Hid (Sort.order2 ltN d a b s = (a, b, s)) := Lib.hid (by rw [HO.out, if_neg h])
    rw [hdec]
    clear hdec h HO
    go_wp2_with fail
    go_ret2
    rw [HO1.out]
    exact ⟨rfl, HT.out, HQ.out⟩
theorem order2_facts {d : Array Nat} {a b s : Nat} (ha : a < d.size) (hb : b < d.size) : (Sort.order2 ltN d a b s).1 < d.size ∧ (Sort.order2 ltN d a b s).2.1 < d.size ∧ (Sort.order2 ltN d a b s).2.2 ≤ s + 1 := by
  unfold Sort.order2
  split
  · exact ⟨hb, ha, Nat.le_refl _⟩
  · exact ⟨ha, hb, Nat.le_succ _⟩
set_option linter.unusedSimpArgs false in
set_option maxHeartbeats 1600000 in
theorem median_any {w : World} {g n q s a b c : Nat} {d : Array Nat} (hr : Rw w g n d) (hq : Cnt1 w q s) (ha : a < d.size) (hb : b < d.size) (hc : c < d.size) (hs : s < 900000) :
    Calls Tryz.prog 210 #[.slice (some ⟨g, 0, none⟩) d.size n, .int .i64 (a : Int), .int .i64 (b : Int), .int .i64 (c : Int), .pointer (some ⟨q, 0, none⟩)] w fun e w' =>
      e = .returned (.int .i64 ((Sort.median ltN d a b c s).1 : Int)) ∧ Turn [q] w w' ∧ Cnt1 w' q (Sort.median ltN d a b c s).2 := by
  have hne := hr.ne hq
  have hgl : g < w.heap.size := World.block_lt_of_cell? w _ (hr.cell ha)
  have h1 := order2_any hr hq ha hb (by omega)
  obtain ⟨f1, f2, f3⟩ := order2_facts (s := s) ha hb
  have HM : Hid (∀ r1 r2 r3, r1 = Sort.order2 ltN d a b s → r2 = Sort.order2 ltN d r1.2.1 c r1.2.2 → r3 = Sort.order2 ltN d r1.1 r2.1 r2.2.2 → Sort.median ltN d a b c s = (r3.2.1, r3.2.2)) := Lib.hid (fun r1 r2 r3 h1 h2 h3 => by subst h3 h2 h1; rfl)
  obtain ⟨r1, e1⟩ : ∃ r, r = Sort.order2 ltN d a b s := ⟨_, rfl⟩
  rw [← e1] at h1 f1 f2 f3
  have H2 := Lib.hid (fun W (hr : Rw W g n d) (hq : Cnt1 W q r1.2.2) => order2_any hr hq f2 hc (by omega))
  obtain ⟨k1, k2, k3⟩ := order2_facts (s := r1.2.2) f2 hc
  obtain ⟨r2, e2⟩ : ∃ r, r = Sort.order2 ltN d r1.2.1 c r1.2.2 := ⟨_, rfl⟩
  rw [← e2] at H2 k1 k2 k3
  have H3 := Lib.hid (fun W (hr : Rw W g n d) (hq : Cnt1 W q r2.2.2) => order2_any hr hq f1 k1 (by omega))
  obtain ⟨r3, e3⟩ : ∃ r, r = Sort.order2 ltN d r1.1 r2.1 r2.2.2 := ⟨_, rfl⟩
  rw [← e3] at H3
  rw [HM.out r1 r2 r3 e1 e2 e3]
  clear e1 e2 e3
  have HR := Lib.hid hr; have H1 := Lib.hid h1; have HNE := Lib.hid hne; have HGL := Lib.hid hgl
  clear hr hq h1 f1 f2 f3 k1 k2 k3 ha hb hc hs hne hgl HM
  go_enter Tryz.func210, Tryz.ntmps210
  go_wp2_with fail
  refine H1.out.mono ?_
  rintro e W1 ⟨rfl, ht, hc1⟩
  have hr1 : Rw W1 g n d := HR.out.block (ht.block g HGL.out (by simp; exact HNE.out))
  have HT1 := Lib.hid ht
  have h2 := H2.out W1 hr1 hc1
  clear ht hc1 H1 H2
  go_wp2_with fail
  refine h2.mono ?_
  clear h2
  rintro e W2 ⟨rfl, ht, hc2⟩
  have hr2 : Rw W2 g n d := hr1.block (ht.block g (Nat.lt_of_lt_of_le HGL.out HT1.out.size) (by simp; exact HNE.out))
  have HT2 := Lib.hid (HT1.out.trans ht)
  have h3 := H3.out W2 hr2 hc2
  clear ht hc2 H3 hr1 HT1
  go_wp2_with fail
  refine h3.mono ?_
  clear h3 hr2
  rintro e W3 ⟨rfl, ht, hc3⟩
  have HT3 := Lib.hid (HT2.out.trans ht)
  have HC3 := Lib.hid hc3
  clear ht hc3 HT2
  go_wp2_with fail
  go_ret
  exact ⟨rfl, HT3.out, HC3.out⟩
set_option linter.unusedSimpArgs false in
theorem adjacent_any {w : World} {g n q s a : Nat} {d : Array Nat} (hr : Rw w g n d) (hq : Cnt1 w q s) (h1 : 1 ≤ a) (ha : a + 1 < d.size) (hd : d.size ≤ 1000000) (hs : s < 900000) :
    Calls Tryz.prog 209 #[.slice (some ⟨g, 0, none⟩) d.size n, .int .i64 (a : Int), .pointer (some ⟨q, 0, none⟩)] w fun e w' =>
      e = .returned (.int .i64 ((Sort.medianAdjacent ltN d a s).1 : Int)) ∧ Turn [q] w w' ∧ Cnt1 w' q (Sort.medianAdjacent ltN d a s).2 := by
  have hm := median_any hr hq (a := a - 1) (b := a) (c := a + 1) (by omega) (by omega) ha hs
  have HE : Hid (Sort.medianAdjacent ltN d a s = Sort.median ltN d (a - 1) a (a + 1) s) := Lib.hid rfl
  rw [HE.out]
  generalize Sort.median ltN d (a - 1) a (a + 1) s = r at hm ⊢
  rw [show ((a - 1 : Nat) : Int) = (a : Int) - 1 from by omega, show ((a + 1 : Nat) : Int) = (a : Int) + 1 from by omega] at hm
  have z1 : IntKind.i64.wrap ((a : Int) - 1) = (a : Int) - 1 := IntWalk.i64_in _ (by omega)
  have z2 : IntKind.i64.wrap ((a : Int) + 1) = (a : Int) + 1 := IntWalk.i64_in _ (by omega)
  have HM := Lib.hid hm
  clear hm hr hq h1 ha hd hs HE
  go_enter Tryz.func209, Tryz.ntmps209
  go_wp2_with fail
  refine HM.out.mono ?_
  rintro e W ⟨rfl, h1, h2⟩
  have H1 := Lib.hid h1; have H2 := Lib.hid h2
  clear h1 h2 HM
  go_wp2_with fail
  go_ret
  exact ⟨rfl, H1.out, H2.out⟩
end Go.Proofs.YtojpcgjmainbfaaGreat.Srt

/-
  Insertion sort at uint32.
-/
namespace Go.Proofs.YtojpcgjmainbfaaGreat.Srt
open Go.RowKit RowLaw
open Go.Proofs.YtojpcgjmainbfaaGreat.Dev (Turn)
set_option maxRecDepth 100000

theorem Rw.put {W : World} {g c : Nat} {d : Array Nat} (h : Rw W g c d) {i : Nat} (hi : i < d.size) (v : Nat) : Rw (W.setCell ⟨g, i, none⟩ (.int .u32 (v : Int))) g c (d.setIfInBounds i v) := by
  obtain ⟨hl, h2⟩ := h
  rcases h2 with ⟨h1, _⟩ | ⟨g', cap, cur, h1, h3, h4, h5, h6, h7, h8⟩
  · cases h1
  · cases h1
    refine ⟨by simp, .inr ⟨g, c, cur.setIfInBounds i (.int .u32 (v : Int)), by simp, Nat.zero_le _, heap_setCell_same W g i _ _ _ h4, by simpa using h5, h6, by simpa using h7, ?_⟩⟩
    refine List.ext_getElem? fun k => ?_
    have hk := congrArg (fun l => l[k]?) h8
    simp only [List.getElem?_take, List.getElem?_map, Array.getElem?_toList] at hk ⊢
    rw [Array.size_setIfInBounds]
    by_cases hki : k = i
    · subst hki
      rw [if_pos (by omega), Array.getElem?_setIfInBounds_self_of_lt (by omega), Array.getElem?_setIfInBounds_self_of_lt hi]
      rfl
    · rw [Array.getElem?_setIfInBounds_ne (fun e => hki e.symm), Array.getElem?_setIfInBounds_ne (fun e => hki e.symm)]
      exact hk
theorem swp_size (d : Array Nat) (i j : Nat) : (Sort.swp d i j).size = d.size := by unfold Sort.swp; simp
theorem Rw.frozen {W : World} {g c : Nat} {d : Array Nat} (h : Rw W g c d) (i : Nat) : W.frozen? ⟨g, i, none⟩ = false := by
  rcases h.2 with ⟨h1, _⟩ | ⟨g', cap, cur, h1, _, h2, _⟩
  · cases h1
  · cases h1
    exact frozen_of_row W g i _ _ h2
theorem insInner_size (a : Nat) : ∀ (j : Nat) (d : Array Nat), (Sort.insInner ltN a j d).size = d.size
  | 0, _ => rfl
  | j + 1, d => by
    unfold Sort.insInner
    split
    · rw [insInner_size a j, swp_size]
    · rfl

set_option linter.unusedSimpArgs false in
set_option maxHeartbeats 3200000 in
theorem insertion_any {w : World} {g c a b : Nat} {d : Array Nat} (hr : Rw w g c d) (hab : a ≤ b) (hb : b ≤ d.size) (hd : d.size ≤ 1000000) :
    Calls Tryz.prog 189 #[.slice (some ⟨g, 0, none⟩) d.size c, .int .i64 (a : Int), .int .i64 (b : Int)] w fun e w' =>
      e = .returned (.tuple #[]) ∧ Turn [g] w w' ∧ Rw w' g c (Sort.insertionSort ltN d a b) := by
  obtain ⟨m, hm⟩ : ∃ m, m = d.size := ⟨_, rfl⟩
  have HM : Hid (d.size = m) := Lib.hid hm.symm
  have HO : Hid (∀ i d', i < b → Sort.insOuter ltN a b i d' = Sort.insOuter ltN a b (i + 1) (Sort.insInner ltN a i d')) := Lib.hid (fun i d' h => by conv => lhs; unfold Sort.insOuter; rw [if_pos h])
  have HE : Hid (∀ i d', ¬ i < b → Sort.insOuter ltN a b i d' = d') := Lib.hid (fun i d' h => by unfold Sort.insOuter; rw [if_neg h])
  obtain ⟨R, hR⟩ : ∃ R, R = Sort.insertionSort ltN d a b := ⟨_, rfl⟩
  have HR : Hid (R = Sort.insOuter ltN a b (a + 1) d) := Lib.hid hR
  have HRW := Lib.hid hr
  rw [← hR, ← hm]
  rw [← hm] at hb hd
  have z0 : IntKind.i64.wrap ((a : Int) + 1) = (a : Int) + 1 := IntWalk.i64_in _ (by omega)
  clear hR hm hr
  go_enter Tryz.func189, Tryz.ntmps189
  go_wp2_with fail
  go_loopw [6] (fun v6 wr => ∃ (i : Nat) (d' : Array Nat), v6 = .int .i64 (i : Int) ∧ i ≤ 1000002 ∧ d'.size = m ∧ Turn [g] w wr ∧ Hid (Rw wr g c d' ∧ Sort.insOuter ltN a b i d' = R)) (fun v6 _ => 1000003 - (intOf v6).toNat)
  case atStart => exact ⟨a + 1, d, by go_num, by omega, HM.out, Turn.refl _ _, Lib.hid ⟨HRW.out, HR.out.symm⟩⟩
  case round =>
    clear z0 HR HRW
    obtain ⟨i, d', rfl, hi, hsz, ht, hh⟩ := hrel
    by_cases hib : i < b
    · have i1 : (i : Int) < (b : Int) := by omega
      obtain ⟨h1, h2⟩ := hh.out
      rw [HO.out i d' hib] at h2
      obtain ⟨D, hD⟩ : ∃ D, D = Sort.insInner ltN a i d' := ⟨_, rfl⟩
      rw [← hD] at h2
      have hDs : D.size = m := by rw [hD, insInner_size, hsz]
      have H2 := Lib.hid h2; have HDD := Lib.hid hD; have HDS := Lib.hid hDs; have HT := Lib.hid ht; have HSZ := Lib.hid hsz; have H1 := Lib.hid h1
      clear hh h1 h2 hD hDs ht hsz
      go_wp2_with fail
      go_loopw [7] (fun v7 W => ∃ (j : Nat) (dd : Array Nat), v7 = .int .i64 (j : Int) ∧ j ≤ i ∧ dd.size = m ∧ Turn [g] w W ∧ Hid (Rw W g c dd ∧ Sort.insInner ltN a j dd = D)) (fun v7 _ => (intOf v7).toNat)
      case atStart => exact ⟨i, d', rfl, Nat.le_refl _, HSZ.out, HT.out, Lib.hid ⟨H1.out, HDD.out.symm⟩⟩
      case round =>
        clear H1 HT HSZ HDD
        obtain ⟨j, dd, rfl, hj, hsz, ht, hh⟩ := hrel
        have HSZ := Lib.hid hsz
        by_cases hja : a < j
        · obtain ⟨k, hk⟩ : ∃ k, j = k + 1 := ⟨j - 1, by omega⟩
          have hjm : j < m := by omega
          have hkm : k < m := by omega
          obtain ⟨h1, h2⟩ := hh.out
          have cj := h1.cell (i := j) (by omega)
          have ck := h1.cell (i := k) (by omega)
          have HIN : Hid (Sort.insInner ltN a j dd = if dd[j]! < dd[k]! then Sort.insInner ltN a k (Sort.swp dd j k) else dd) := Lib.hid (by
            subst hk
            conv => lhs; unfold Sort.insInner
            have e1 : decide (k + 1 > a) = true := decide_eq_true hja
            unfold ltN
            by_cases hlt : dd[k + 1]! < dd[k]!
            · rw [if_pos hlt, if_pos (by rw [e1, decide_eq_true hlt]; rfl)]
            · rw [if_neg hlt, if_neg (by rw [e1, decide_eq_false hlt]; simp)])
          have HSW : Hid (Sort.swp dd j k = (dd.setIfInBounds j dd[k]!).setIfInBounds k dd[j]!) := Lib.hid rfl
          rw [HIN.out] at h2
          obtain ⟨x, hx⟩ : ∃ x, x = dd[j]! := ⟨_, rfl⟩
          obtain ⟨y, hy⟩ : ∃ y, y = dd[k]! := ⟨_, rfl⟩
          rw [← hx] at cj h2 HSW
          rw [← hy] at ck h2 HSW
          have HRD := Lib.hid h1; have H2' := Lib.hid h2; have HT := Lib.hid ht
          have HL := Lib.hid (fun W => Less_any x y W)
          have j0 : (0 : Int) ≤ (j : Int) := by omega
          have j1 : (j : Int) < (m : Int) := by omega
          have k0 : (0 : Int) ≤ (k : Int) := by omega
          have k1 : (k : Int) < (m : Int) := by omega
          have z1 : IntKind.i64.wrap ((j : Int) - 1) = (k : Int) := by rw [IntWalk.i64_in _ (by omega)]; omega
          have ja : (a : Int) < (j : Int) := by omega
          have hS : wr.drew.cell? ⟨g, j, none⟩ = some (.int .u32 (x : Int)) ∧ wr.drew.cell? ⟨g, k, none⟩ = some (.int .u32 (y : Int)) := ⟨cj, ck⟩
          have HK := Lib.hid hk
          clear hh h1 h2 hx hy HIN ht cj ck hk hsz
          go_upto_region 4 with fail
          refine wp_region_noPanic ?_
          refine wp_region_held_drew (S := fun W => W.cell? ⟨g, j, none⟩ = some (.int .u32 (x : Int)) ∧ W.cell? ⟨g, k, none⟩ = some (.int .u32 (y : Int))) (by kernel_rfl) hS ?_
          intro hS
          have HRW : Hid (Rw wr.drew g c dd) := Lib.hid (HRD.out.block rfl)
          have HTW : Hid (Turn [g] w wr.drew) := Lib.hid HT.out.drew
          generalize wr.drew = W1 at hS HRW HTW ⊢
          refine wpAnyH_take (i := 0) (v := .int .i64 (j : Int)) rfl (by kernel_rfl) (by kernel_rfl) (by kernel_rfl) (fun _ _ _ h => (h : False).elim) (Or.inl ⟨by rfl, fun _ _ => by go_simp⟩) hS ?_
          change wpAnyH _ _ _ _ _ _ _ (Act.put _ (some 16) _) _
          simp only [Act.put, List.setIfInBounds_toArray, List.set_cons_succ, List.set_cons_zero]
          refine wpAnyH_take (i := 1) (v := .int .i64 (a : Int)) rfl (by kernel_rfl) (by kernel_rfl) (by kernel_rfl) (fun _ _ _ h => (h : False).elim) (Or.inl ⟨by rfl, fun _ _ => by go_simp⟩) hS ?_
          change wpAnyH _ _ _ _ _ _ _ (Act.put _ (some 17) _) _
          simp only [Act.put, List.setIfInBounds_toArray, List.set_cons_succ, List.set_cons_zero]
          refine wpAnyH_take (i := 2) (v := .bool true) rfl (by kernel_rfl) (by kernel_rfl) (by kernel_rfl) (fun _ _ _ h => (h : False).elim) (Or.inl ⟨by rfl, fun _ _ => by go_simp⟩) hS ?_
          change wpAnyH _ _ _ _ _ _ _ (Act.put _ (some 18) _) _
          simp only [Act.put, List.setIfInBounds_toArray, List.set_cons_succ, List.set_cons_zero]
          refine wpAnyH_take (i := 3) (v := .bool true) rfl (by kernel_rfl) (by kernel_rfl) (by kernel_rfl) (fun _ _ _ h => (h : False).elim) (Or.inl ⟨by rfl, fun _ _ => by go_simp⟩) hS ?_
          change wpAnyH _ _ _ _ _ _ _ (Act.put _ (some 19) _) _
          simp only [Act.put, List.setIfInBounds_toArray, List.set_cons_succ, List.set_cons_zero]
          refine wpAnyH_take (i := 4) (v := .slice (some ⟨g, 0, none⟩) m c) rfl (by kernel_rfl) (by kernel_rfl) (by kernel_rfl) (fun _ _ _ h => (h : False).elim) (Or.inl ⟨by rfl, fun _ _ => by go_simp⟩) hS ?_
          change wpAnyH _ _ _ _ _ _ _ (Act.put _ (some 20) _) _
          simp only [Act.put, List.setIfInBounds_toArray, List.set_cons_succ, List.set_cons_zero]
          refine wpAnyH_take (i := 5) (v := .int .i64 (j : Int)) rfl (by kernel_rfl) (by kernel_rfl) (by kernel_rfl) (fun _ _ _ h => (h : False).elim) (Or.inl ⟨by rfl, fun _ _ => by go_simp⟩) hS ?_
          change wpAnyH _ _ _ _ _ _ _ (Act.put _ (some 21) _) _
          simp only [Act.put, List.setIfInBounds_toArray, List.set_cons_succ, List.set_cons_zero]
          refine wpAnyH_take (i := 6) (v := .pointer (some ⟨g, j, none⟩)) rfl (by kernel_rfl) (by kernel_rfl) (by kernel_rfl) (fun _ _ _ h => (h : False).elim) (Or.inl ⟨by rfl, fun _ _ => by go_simp⟩) hS ?_
          change wpAnyH _ _ _ _ _ _ _ (Act.put _ (some 22) _) _
          simp only [Act.put, List.setIfInBounds_toArray, List.set_cons_succ, List.set_cons_zero]
          refine wpAnyH_take (i := 7) (v := .int .u32 (x : Int)) rfl (by kernel_rfl) (by kernel_rfl) (by kernel_rfl) (fun _ _ _ h => (h : False).elim) (Or.inl ⟨by rfl, fun w hw => by have c := hw.1; go_simp⟩) hS ?_
          change wpAnyH _ _ _ _ _ _ _ (Act.put _ (some 23) _) _
          simp only [Act.put, List.setIfInBounds_toArray, List.set_cons_succ, List.set_cons_zero]
          refine wpAnyH_take (i := 8) (v := .slice (some ⟨g, 0, none⟩) m c) rfl (by kernel_rfl) (by kernel_rfl) (by kernel_rfl) (fun _ _ _ h => (h : False).elim) (Or.inl ⟨by rfl, fun _ _ => by go_simp⟩) hS ?_
          change wpAnyH _ _ _ _ _ _ _ (Act.put _ (some 24) _) _
          simp only [Act.put, List.setIfInBounds_toArray, List.set_cons_succ, List.set_cons_zero]
          refine wpAnyH_take (i := 9) (v := .int .i64 (j : Int)) rfl (by kernel_rfl) (by kernel_rfl) (by kernel_rfl) (fun _ _ _ h => (h : False).elim) (Or.inl ⟨by rfl, fun _ _ => by go_simp⟩) hS ?_
          change wpAnyH _ _ _ _ _ _ _ (Act.put _ (some 25) _) _
          simp only [Act.put, List.setIfInBounds_toArray, List.set_cons_succ, List.set_cons_zero]
          refine wpAnyH_take (i := 10) (v := .int .i64 (k : Int)) rfl (by kernel_rfl) (by kernel_rfl) (by kernel_rfl) (fun _ _ _ h => (h : False).elim) (Or.inl ⟨by rfl, fun _ _ => by go_simp⟩) hS ?_
          change wpAnyH _ _ _ _ _ _ _ (Act.put _ (some 26) _) _
          simp only [Act.put, List.setIfInBounds_toArray, List.set_cons_succ, List.set_cons_zero]
          refine wpAnyH_take (i := 11) (v := .pointer (some ⟨g, k, none⟩)) rfl (by kernel_rfl) (by kernel_rfl) (by kernel_rfl) (fun _ _ _ h => (h : False).elim) (Or.inl ⟨by rfl, fun _ _ => by go_simp⟩) hS ?_
          change wpAnyH _ _ _ _ _ _ _ (Act.put _ (some 27) _) _
          simp only [Act.put, List.setIfInBounds_toArray, List.set_cons_succ, List.set_cons_zero]
          refine wpAnyH_take (i := 12) (v := .int .u32 (y : Int)) rfl (by kernel_rfl) (by kernel_rfl) (by kernel_rfl) (fun _ _ _ h => (h : False).elim) (Or.inl ⟨by rfl, fun w hw => by have c := hw.2; go_simp⟩) hS ?_
          change wpAnyH _ _ _ _ _ _ _ (Act.put _ (some 28) _) _
          simp only [Act.put, List.setIfInBounds_toArray, List.set_cons_succ, List.set_cons_zero]
          refine wpAnyH_ready (rs := [13]) (by kernel_rfl) (by simp) ?_
          refine AllReadyH.cons rfl (fun K hK => ?_) AllReadyH.nil
          rw [if_pos (by rfl)]
          go_simp
          refine (HL.out _).mono ?_
          clear HL
          rintro e W ⟨rfl, hW⟩
          subst hW
          dsimp only
          refine hK _ _ hS (fun _ => ?_)
          clear hK K
          try simp only [Act.put, List.setIfInBounds_toArray, List.set_cons_succ, List.set_cons_zero]
          refine wpAnyH_take (i := 14) (v := .bool (decide (x < y))) rfl (by kernel_rfl) (by kernel_rfl) (by kernel_rfl) (fun _ _ _ h => (h : False).elim) (Or.inl ⟨by rfl, fun _ _ => by go_simp⟩) hS ?_
          change wpAnyH _ _ _ _ _ _ _ (Act.put _ (some 30) _) _
          simp only [Act.put, List.setIfInBounds_toArray, List.set_cons_succ, List.set_cons_zero]
          refine wpAnyH_done (by kernel_rfl) ?_ _
          refine NoPanic.normal ?_
          by_cases hlt : x < y
          · have hdec : decide (x < y) = true := decide_eq_true hlt
            rw [hdec]
            have HN : Hid (Sort.insInner ltN a k (Sort.swp dd j k) = D) := Lib.hid (by have := H2'.out; rwa [if_pos hlt] at this)
            clear hdec hlt H2'
            go_upto_region 6 with fail
            have HRV : Hid (Rw W.drew g c dd) := Lib.hid (HRW.out.block rfl)
            have HTV : Hid (Turn [g] w W.drew) := Lib.hid HTW.out.drew
            have cj : W.drew.cell? ⟨g, j, none⟩ = some (.int .u32 (x : Int)) := hS.1
            have ck : W.drew.cell? ⟨g, k, none⟩ = some (.int .u32 (y : Int)) := hS.2
            have fj : W.drew.frozen? ⟨g, j, none⟩ = false := HRV.out.frozen j
            have fk : W.drew.frozen? ⟨g, k, none⟩ = false := HRV.out.frozen k
            clear HRW HTW hS
            refine wp_region_noPanic ?_
            refine wp_region_held_drew (S := fun _ => True) (by kernel_rfl) trivial ?_
            intro hS
            generalize W.drew = V at cj ck fj fk HRV HTV ⊢
            refine wpAnyH_take (i := 0) (v := .slice (some ⟨g, 0, none⟩) m c) rfl (by kernel_rfl) (by kernel_rfl) (by kernel_rfl) (fun _ _ _ h => (h : False).elim) (Or.inl ⟨by rfl, fun _ _ => by go_simp⟩) hS ?_
            change wpAnyH _ _ _ _ _ _ _ (Act.put _ (some 33) _) _
            simp only [Act.put, List.setIfInBounds_toArray, List.set_cons_succ, List.set_cons_zero]
            refine wpAnyH_take (i := 1) (v := .int .i64 (j : Int)) rfl (by kernel_rfl) (by kernel_rfl) (by kernel_rfl) (fun _ _ _ h => (h : False).elim) (Or.inl ⟨by rfl, fun _ _ => by go_simp⟩) hS ?_
            change wpAnyH _ _ _ _ _ _ _ (Act.put _ (some 34) _) _
            simp only [Act.put, List.setIfInBounds_toArray, List.set_cons_succ, List.set_cons_zero]
            refine wpAnyH_take (i := 2) (v := .slice (some ⟨g, 0, none⟩) m c) rfl (by kernel_rfl) (by kernel_rfl) (by kernel_rfl) (fun _ _ _ h => (h : False).elim) (Or.inl ⟨by rfl, fun _ _ => by go_simp⟩) hS ?_
            change wpAnyH _ _ _ _ _ _ _ (Act.put _ (some 35) _) _
            simp only [Act.put, List.setIfInBounds_toArray, List.set_cons_succ, List.set_cons_zero]
            refine wpAnyH_take (i := 3) (v := .int .i64 (j : Int)) rfl (by kernel_rfl) (by kernel_rfl) (by kernel_rfl) (fun _ _ _ h => (h : False).elim) (Or.inl ⟨by rfl, fun _ _ => by go_simp⟩) hS ?_
            change wpAnyH _ _ _ _ _ _ _ (Act.put _ (some 36) _) _
            simp only [Act.put, List.setIfInBounds_toArray, List.set_cons_succ, List.set_cons_zero]
            refine wpAnyH_take (i := 4) (v := .int .i64 (k : Int)) rfl (by kernel_rfl) (by kernel_rfl) (by kernel_rfl) (fun _ _ _ h => (h : False).elim) (Or.inl ⟨by rfl, fun _ _ => by go_simp⟩) hS ?_
            change wpAnyH _ _ _ _ _ _ _ (Act.put _ (some 37) _) _
            simp only [Act.put, List.setIfInBounds_toArray, List.set_cons_succ, List.set_cons_zero]
            refine wpAnyH_take (i := 5) (v := .slice (some ⟨g, 0, none⟩) m c) rfl (by kernel_rfl) (by kernel_rfl) (by kernel_rfl) (fun _ _ _ h => (h : False).elim) (Or.inl ⟨by rfl, fun _ _ => by go_simp⟩) hS ?_
            change wpAnyH _ _ _ _ _ _ _ (Act.put _ (some 38) _) _
            simp only [Act.put, List.setIfInBounds_toArray, List.set_cons_succ, List.set_cons_zero]
            refine wpAnyH_take (i := 6) (v := .int .i64 (j : Int)) rfl (by kernel_rfl) (by kernel_rfl) (by kernel_rfl) (fun _ _ _ h => (h : False).elim) (Or.inl ⟨by rfl, fun _ _ => by go_simp⟩) hS ?_
            change wpAnyH _ _ _ _ _ _ _ (Act.put _ (some 39) _) _
            simp only [Act.put, List.setIfInBounds_toArray, List.set_cons_succ, List.set_cons_zero]
            refine wpAnyH_take (i := 7) (v := .int .i64 (k : Int)) rfl (by kernel_rfl) (by kernel_rfl) (by kernel_rfl) (fun _ _ _ h => (h : False).elim) (Or.inl ⟨by rfl, fun _ _ => by go_simp⟩) hS ?_
            change wpAnyH _ _ _ _ _ _ _ (Act.put _ (some 40) _) _
            simp only [Act.put, List.setIfInBounds_toArray, List.set_cons_succ, List.set_cons_zero]
            refine wpAnyH_take (i := 8) (v := .pointer (some ⟨g, k, none⟩)) rfl (by kernel_rfl) (by kernel_rfl) (by kernel_rfl) (fun _ _ _ h => (h : False).elim) (Or.inl ⟨by rfl, fun _ _ => by go_simp⟩) hS ?_
            change wpAnyH _ _ _ _ _ _ _ (Act.put _ (some 41) _) _
            simp only [Act.put, List.setIfInBounds_toArray, List.set_cons_succ, List.set_cons_zero]
            refine wpAnyH_take (i := 10) (v := .slice (some ⟨g, 0, none⟩) m c) rfl (by kernel_rfl) (by kernel_rfl) (by kernel_rfl) (fun _ _ _ h => (h : False).elim) (Or.inl ⟨by rfl, fun _ _ => by go_simp⟩) hS ?_
            change wpAnyH _ _ _ _ _ _ _ (Act.put _ (some 43) _) _
            simp only [Act.put, List.setIfInBounds_toArray, List.set_cons_succ, List.set_cons_zero]
            refine wpAnyH_take (i := 11) (v := .int .i64 (j : Int)) rfl (by kernel_rfl) (by kernel_rfl) (by kernel_rfl) (fun _ _ _ h => (h : False).elim) (Or.inl ⟨by rfl, fun _ _ => by go_simp⟩) hS ?_
            change wpAnyH _ _ _ _ _ _ _ (Act.put _ (some 44) _) _
            simp only [Act.put, List.setIfInBounds_toArray, List.set_cons_succ, List.set_cons_zero]
            refine wpAnyH_take (i := 12) (v := .pointer (some ⟨g, j, none⟩)) rfl (by kernel_rfl) (by kernel_rfl) (by kernel_rfl) (fun _ _ _ h => (h : False).elim) (Or.inl ⟨by rfl, fun _ _ => by go_simp⟩) hS ?_
            change wpAnyH _ _ _ _ _ _ _ (Act.put _ (some 45) _) _
            simp only [Act.put, List.setIfInBounds_toArray, List.set_cons_succ, List.set_cons_zero]
            refine wpAnyH_ready (rs := [9, 13]) (by kernel_rfl) (by simp) ?_
            refine AllReadyH.cons rfl (fun K hK => ?_) (AllReadyH.cons rfl (fun K hK => ?_) AllReadyH.nil)
            · rw [if_pos (by rfl)]
              go_simp
              refine hK _ _ trivial (fun _ => ?_)
              clear hK K
              try simp only [Act.put, List.setIfInBounds_toArray, List.set_cons_succ, List.set_cons_zero]
              refine wpAnyH_ready (rs := [13]) (by kernel_rfl) (by simp) ?_
              refine AllReadyH.cons rfl (fun K hK => ?_) AllReadyH.nil
              rw [if_pos (by rfl)]
              go_simp
              refine hK _ _ trivial (fun _ => ?_)
              clear hK K
              try simp only [Act.put, List.setIfInBounds_toArray, List.set_cons_succ, List.set_cons_zero]
              refine wpAnyH_take (i := 14) (v := .pointer (some ⟨g, j, none⟩)) rfl (by kernel_rfl) (by kernel_rfl) (by kernel_rfl) (fun _ _ _ h => (h : False).elim) (Or.inl ⟨by rfl, fun _ _ => by go_simp⟩) hS ?_
              change wpAnyH _ _ _ _ _ _ _ (Act.put _ (some 47) _) _
              simp only [Act.put, List.setIfInBounds_toArray, List.set_cons_succ, List.set_cons_zero]
              refine wpAnyH_ready (rs := [15]) (by kernel_rfl) (by simp) ?_
              refine AllReadyH.cons rfl (fun K hK => ?_) AllReadyH.nil
              rw [if_pos (by rfl)]
              go_simp
              refine hK _ _ trivial (fun _ => ?_)
              clear hK K
              try simp only [Act.put, List.setIfInBounds_toArray, List.set_cons_succ, List.set_cons_zero]
              refine wpAnyH_take (i := 16) (v := .pointer (some ⟨g, k, none⟩)) rfl (by kernel_rfl) (by kernel_rfl) (by kernel_rfl) (fun _ _ _ h => (h : False).elim) (Or.inl ⟨by rfl, fun _ _ => by go_simp⟩) hS ?_
              change wpAnyH _ _ _ _ _ _ _ (Act.put _ (some 48) _) _
              simp only [Act.put, List.setIfInBounds_toArray, List.set_cons_succ, List.set_cons_zero]
              have hp1 := HRV.out.put (i := j) (by have := HSZ.out; omega) y
              have hk1 : k < (dd.setIfInBounds j y).size := by rw [Array.size_setIfInBounds]; have := HSZ.out; omega
              have ck2 := hp1.frozen k
              have ck3 := hp1.cell hk1
              have HT1 := Lib.hid (HTV.out.setCell ⟨g, j, none⟩ (.int .u32 (y : Int)) (.inl (by simp)))
              have HP1 := Lib.hid hp1
              clear hp1 cj ck fj fk HRV HTV
              generalize V.setCell ⟨g, j, none⟩ (.int .u32 (y : Int)) = V1 at ck2 ck3 HT1 HP1 ⊢
              refine wpAnyH_ready (rs := [17]) (by kernel_rfl) (by simp) ?_
              refine AllReadyH.cons rfl (fun K hK => ?_) AllReadyH.nil
              rw [if_pos (by rfl)]
              go_simp
              refine hK _ _ trivial (fun _ => ?_)
              clear hK K ck2 ck3
              have HP2 := Lib.hid (HP1.out.put hk1 x)
              have HT2 := Lib.hid (HT1.out.setCell ⟨g, k, none⟩ (.int .u32 (x : Int)) (.inl (by simp)))
              clear HP1 HT1 hk1
              generalize V1.setCell ⟨g, k, none⟩ (.int .u32 (x : Int)) = V2 at HP2 HT2 ⊢
              try simp only [Act.put, List.setIfInBounds_toArray, List.set_cons_succ, List.set_cons_zero]
              refine wpAnyH_done (by kernel_rfl) ?_ _
              refine NoPanic.normal ?_
              go_wp2_with fail
              go_roundw
              case rel => exact ⟨k, Sort.swp dd j k, by go_num, by have := HK.out; omega, by rw [swp_size]; exact HSZ.out, HT2.out, Lib.hid ⟨by rw [HSW.out]; exact HP2.out, HN.out⟩⟩
              case measure => have := HK.out; simp [intOf]; omega
            · rw [if_pos (by rfl)]
              go_simp
              refine hK _ _ trivial (fun _ => ?_)
              clear hK K
              try simp only [Act.put, List.setIfInBounds_toArray, List.set_cons_succ, List.set_cons_zero]
              refine wpAnyH_ready (rs := [9]) (by kernel_rfl) (by simp) ?_
              refine AllReadyH.cons rfl (fun K hK => ?_) AllReadyH.nil
              rw [if_pos (by rfl)]
              go_simp
              refine hK _ _ trivial (fun _ => ?_)
              clear hK K
              try simp only [Act.put, List.setIfInBounds_toArray, List.set_cons_succ, List.set_cons_zero]
              refine wpAnyH_take (i := 14) (v := .pointer (some ⟨g, j, none⟩)) rfl (by kernel_rfl) (by kernel_rfl) (by kernel_rfl) (fun _ _ _ h => (h : False).elim) (Or.inl ⟨by rfl, fun _ _ => by go_simp⟩) hS ?_
              change wpAnyH _ _ _ _ _ _ _ (Act.put _ (some 47) _) _
              simp only [Act.put, List.setIfInBounds_toArray, List.set_cons_succ, List.set_cons_zero]
              refine wpAnyH_ready (rs := [15]) (by kernel_rfl) (by simp) ?_
              refine AllReadyH.cons rfl (fun K hK => ?_) AllReadyH.nil
              rw [if_pos (by rfl)]
              go_simp
              refine hK _ _ trivial (fun _ => ?_)
              clear hK K
              try simp only [Act.put, List.setIfInBounds_toArray, List.set_cons_succ, List.set_cons_zero]
              refine wpAnyH_take (i := 16) (v := .pointer (some ⟨g, k, none⟩)) rfl (by kernel_rfl) (by kernel_rfl) (by kernel_rfl) (fun _ _ _ h => (h : False).elim) (Or.inl ⟨by rfl, fun _ _ => by go_simp⟩) hS ?_
              change wpAnyH _ _ _ _ _ _ _ (Act.put _ (some 48) _) _
              simp only [Act.put, List.setIfInBounds_toArray, List.set_cons_succ, List.set_cons_zero]
              have hp1 := HRV.out.put (i := j) (by have := HSZ.out; omega) y
              have hk1 : k < (dd.setIfInBounds j y).size := by rw [Array.size_setIfInBounds]; have := HSZ.out; omega
              have ck2 := hp1.frozen k
              have ck3 := hp1.cell hk1
              have HT1 := Lib.hid (HTV.out.setCell ⟨g, j, none⟩ (.int .u32 (y : Int)) (.inl (by simp)))
              have HP1 := Lib.hid hp1
              clear hp1 cj ck fj fk HRV HTV
              generalize V.setCell ⟨g, j, none⟩ (.int .u32 (y : Int)) = V1 at ck2 ck3 HT1 HP1 ⊢
              refine wpAnyH_ready (rs := [17]) (by kernel_rfl) (by simp) ?_
              refine AllReadyH.cons rfl (fun K hK => ?_) AllReadyH.nil
              rw [if_pos (by rfl)]
              go_simp
              refine hK _ _ trivial (fun _ => ?_)
              clear hK K ck2 ck3
              have HP2 := Lib.hid (HP1.out.put hk1 x)
              have HT2 := Lib.hid (HT1.out.setCell ⟨g, k, none⟩ (.int .u32 (x : Int)) (.inl (by simp)))
              clear HP1 HT1 hk1
              generalize V1.setCell ⟨g, k, none⟩ (.int .u32 (x : Int)) = V2 at HP2 HT2 ⊢
              try simp only [Act.put, List.setIfInBounds_toArray, List.set_cons_succ, List.set_cons_zero]
              refine wpAnyH_done (by kernel_rfl) ?_ _
              refine NoPanic.normal ?_
              go_wp2_with fail
              go_roundw
              case rel => exact ⟨k, Sort.swp dd j k, by go_num, by have := HK.out; omega, by rw [swp_size]; exact HSZ.out, HT2.out, Lib.hid ⟨by rw [HSW.out]; exact HP2.out, HN.out⟩⟩
              case measure => have := HK.out; simp [intOf]; omega
          · have hdec : decide (x < y) = false := decide_eq_false hlt
            rw [hdec]
            have HN : Hid (dd = D) := Lib.hid (by have := H2'.out; rwa [if_neg hlt] at this)
            clear hdec hlt H2' hS
            go_wp2_with fail
            exact ⟨⟨i + 1, D, by go_num, by omega, HDS.out, HTW.out, Lib.hid ⟨by rw [← HN.out]; exact HRW.out, H2.out⟩⟩, by simp [intOf]; omega⟩
        · have HN : Hid (dd = D) := Lib.hid (by
            have h2 := hh.out.2
            cases j with
            | zero => exact h2
            | succ k =>
              unfold Sort.insInner at h2
              rw [if_neg (by rw [decide_eq_false (by omega)]; simp)] at h2
              exact h2)
          have HRD : Hid (Rw wr.drew g c dd) := Lib.hid (hh.out.1.block rfl)
          have HT := Lib.hid ht.drew
          have ja : ¬ (a : Int) < (j : Int) := by omega
          clear hh ht hsz hja
          go_upto_region 4 with fail
          refine wp_region_noPanic ?_
          refine wp_region_held_drew (S := fun _ => True) (by kernel_rfl) trivial ?_
          intro hS
          generalize wr.drew = W at HRD HT ⊢
          refine wpAnyH_take (i := 0) (v := .int .i64 (j : Int)) rfl (by kernel_rfl) (by kernel_rfl) (by kernel_rfl) (fun _ _ _ h => (h : False).elim) (Or.inl ⟨by rfl, fun _ _ => by go_simp⟩) hS ?_
          change wpAnyH _ _ _ _ _ _ _ (Act.put _ (some 16) _) _
          simp only [Act.put, List.setIfInBounds_toArray, List.set_cons_succ, List.set_cons_zero]
          refine wpAnyH_take (i := 1) (v := .int .i64 (a : Int)) rfl (by kernel_rfl) (by kernel_rfl) (by kernel_rfl) (fun _ _ _ h => (h : False).elim) (Or.inl ⟨by rfl, fun _ _ => by go_simp⟩) hS ?_
          change wpAnyH _ _ _ _ _ _ _ (Act.put _ (some 17) _) _
          simp only [Act.put, List.setIfInBounds_toArray, List.set_cons_succ, List.set_cons_zero]
          refine wpAnyH_take (i := 2) (v := .bool false) rfl (by kernel_rfl) (by kernel_rfl) (by kernel_rfl) (fun _ _ _ h => (h : False).elim) (Or.inl ⟨by rfl, fun _ _ => by go_simp⟩) hS ?_
          change wpAnyH _ _ _ _ _ _ _ (Act.put _ (some 18) _) _
          simp only [Act.put, List.setIfInBounds_toArray, List.set_cons_succ, List.set_cons_zero]
          refine wpAnyH_take (i := 3) (v := .bool false) rfl (by kernel_rfl) (by kernel_rfl) (by kernel_rfl) (fun _ _ _ h => (h : False).elim) (Or.inl ⟨by rfl, fun _ _ => by go_simp⟩) hS ?_
          change wpAnyH _ _ _ _ _ _ _ (Act.put _ (some 19) _) _
          simp only [Act.put, List.setIfInBounds_toArray, List.set_cons_succ, List.set_cons_zero]
          refine wpAnyH_take (i := 4) (v := undef) rfl (by kernel_rfl) (by kernel_rfl) (by kernel_rfl) (fun _ _ _ h => (h : False).elim) (Or.inr ⟨by rfl, rfl⟩) hS ?_
          change wpAnyH _ _ _ _ _ _ _ (Act.put _ (some 20) _) _
          simp only [Act.put, List.setIfInBounds_toArray, List.set_cons_succ, List.set_cons_zero]
          refine wpAnyH_take (i := 5) (v := undef) rfl (by kernel_rfl) (by kernel_rfl) (by kernel_rfl) (fun _ _ _ h => (h : False).elim) (Or.inr ⟨by rfl, rfl⟩) hS ?_
          change wpAnyH _ _ _ _ _ _ _ (Act.put _ (some 21) _) _
          simp only [Act.put, List.setIfInBounds_toArray, List.set_cons_succ, List.set_cons_zero]
          refine wpAnyH_take (i := 6) (v := undef) rfl (by kernel_rfl) (by kernel_rfl) (by kernel_rfl) (fun _ _ _ h => (h : False).elim) (Or.inr ⟨by rfl, rfl⟩) hS ?_
          change wpAnyH _ _ _ _ _ _ _ (Act.put _ (some 22) _) _
          simp only [Act.put, List.setIfInBounds_toArray, List.set_cons_succ, List.set_cons_zero]
          refine wpAnyH_take (i := 7) (v := undef) rfl (by kernel_rfl) (by kernel_rfl) (by kernel_rfl) (fun _ _ _ h => (h : False).elim) (Or.inr ⟨by rfl, rfl⟩) hS ?_
          change wpAnyH _ _ _ _ _ _ _ (Act.put _ (some 23) _) _
          simp only [Act.put, List.setIfInBounds_toArray, List.set_cons_succ, List.set_cons_zero]
          refine wpAnyH_take (i := 8) (v := undef) rfl (by kernel_rfl) (by kernel_rfl) (by kernel_rfl) (fun _ _ _ h => (h : False).elim) (Or.inr ⟨by rfl, rfl⟩) hS ?_
          change wpAnyH _ _ _ _ _ _ _ (Act.put _ (some 24) _) _
          simp only [Act.put, List.setIfInBounds_toArray, List.set_cons_succ, List.set_cons_zero]
          refine wpAnyH_take (i := 9) (v := undef) rfl (by kernel_rfl) (by kernel_rfl) (by kernel_rfl) (fun _ _ _ h => (h : False).elim) (Or.inr ⟨by rfl, rfl⟩) hS ?_
          change wpAnyH _ _ _ _ _ _ _ (Act.put _ (some 25) _) _
          simp only [Act.put, List.setIfInBounds_toArray, List.set_cons_succ, List.set_cons_zero]
          refine wpAnyH_take (i := 10) (v := undef) rfl (by kernel_rfl) (by kernel_rfl) (by kernel_rfl) (fun _ _ _ h => (h : False).elim) (Or.inr ⟨by rfl, rfl⟩) hS ?_
          change wpAnyH _ _ _ _ _ _ _ (Act.put _ (some 26) _) _
          simp only [Act.put, List.setIfInBounds_toArray, List.set_cons_succ, List.set_cons_zero]
          refine wpAnyH_take (i := 11) (v := undef) rfl (by kernel_rfl) (by kernel_rfl) (by kernel_rfl) (fun _ _ _ h => (h : False).elim) (Or.inr ⟨by rfl, rfl⟩) hS ?_
          change wpAnyH _ _ _ _ _ _ _ (Act.put _ (some 27) _) _
          simp only [Act.put, List.setIfInBounds_toArray, List.set_cons_succ, List.set_cons_zero]
          refine wpAnyH_take (i := 12) (v := undef) rfl (by kernel_rfl) (by kernel_rfl) (by kernel_rfl) (fun _ _ _ h => (h : False).elim) (Or.inr ⟨by rfl, rfl⟩) hS ?_
          change wpAnyH _ _ _ _ _ _ _ (Act.put _ (some 28) _) _
          simp only [Act.put, List.setIfInBounds_toArray, List.set_cons_succ, List.set_cons_zero]
          refine wpAnyH_take (i := 13) (v := undef) rfl (by kernel_rfl) (by kernel_rfl) (by kernel_rfl) (fun _ _ _ h => (h : False).elim) (Or.inr ⟨by rfl, rfl⟩) hS ?_
          change wpAnyH _ _ _ _ _ _ _ (Act.put _ (some 29) _) _
          simp only [Act.put, List.setIfInBounds_toArray, List.set_cons_succ, List.set_cons_zero]
          refine wpAnyH_take (i := 14) (v := .bool false) rfl (by kernel_rfl) (by kernel_rfl) (by kernel_rfl) (fun _ _ _ h => (h : False).elim) (Or.inl ⟨by rfl, fun _ _ => by go_simp⟩) hS ?_
          change wpAnyH _ _ _ _ _ _ _ (Act.put _ (some 30) _) _
          simp only [Act.put, List.setIfInBounds_toArray, List.set_cons_succ, List.set_cons_zero]
          refine wpAnyH_done (by kernel_rfl) ?_ _
          refine NoPanic.normal ?_
          go_wp2_with fail
          exact ⟨⟨i + 1, D, by go_num, by omega, HDS.out, HT.out, Lib.hid ⟨by rw [← HN.out]; exact HRD.out, H2.out⟩⟩, by simp [intOf]; omega⟩
    · have i1 : ¬ (i : Int) < (b : Int) := by omega
      have HF : Hid (Rw wr g c R) := Lib.hid (by obtain ⟨h1, h2⟩ := hh.out; rw [HE.out i d' hib] at h2; rw [← h2]; exact h1)
      have HT := Lib.hid ht
      clear hh ht
      go_wp2_with fail
      go_end0
      exact ⟨rfl, HT.out, HF.out⟩
end Go.Proofs.YtojpcgjmainbfaaGreat.Srt

/-
  A range turned round, at uint32.
-/
namespace Go.Proofs.YtojpcgjmainbfaaGreat.Srt
open Go.RowKit RowLaw
open Go.Proofs.YtojpcgjmainbfaaGreat.Dev (Turn)
set_option maxRecDepth 100000
set_option linter.unusedSimpArgs false in
set_option maxHeartbeats 3200000 in
theorem reverse_any {w : World} {g c a b : Nat} {d : Array Nat} (hr : Rw w g c d) (hab : a < b) (hb : b ≤ d.size) (hd : d.size ≤ 1000000) :
    Calls Tryz.prog 193 #[.slice (some ⟨g, 0, none⟩) d.size c, .int .i64 (a : Int), .int .i64 (b : Int)] w fun e w' =>
      e = .returned (.tuple #[]) ∧ Turn [g] w w' ∧ Rw w' g c (Sort.reverseRange d a b) := by
  obtain ⟨m, hm⟩ : ∃ m, m = d.size := ⟨_, rfl⟩
  have HM : Hid (d.size = m) := Lib.hid hm.symm
  obtain ⟨b', hb'⟩ : ∃ k, b = k + 1 := ⟨b - 1, by omega⟩
  obtain ⟨R, hR⟩ : ∃ R, R = Sort.reverseRange d a b := ⟨_, rfl⟩
  have HR : Hid (R = Sort.reverseLoop a b' d) := Lib.hid (by rw [hR]; unfold Sort.reverseRange; rw [hb']; rfl)
  have HRW := Lib.hid hr
  have HO : Hid (∀ (i j : Nat) (d' : Array Nat), Sort.reverseLoop i j d' = if i < j then Sort.reverseLoop (i + 1) (j - 1) (Sort.swp d' i j) else d') := Lib.hid (fun i j d' => by conv => lhs; unfold Sort.reverseLoop)
  rw [← hR, ← hm]
  rw [← hm] at hb hd
  have z0 : IntKind.i64.wrap ((b : Int) - 1) = (b' : Int) := by rw [IntWalk.i64_in _ (by omega)]; omega
  have hbm : b' < m := by omega
  have hab' : a ≤ b' + 1 := by omega
  clear hR hm hr hb' hab
  go_enter Tryz.func193, Tryz.ntmps193
  go_wp2_with fail
  go_loopw [6, 7] (fun v6 v7 wr => ∃ (i j : Nat) (dd : Array Nat), v6 = .int .i64 (i : Int) ∧ v7 = .int .i64 (j : Int) ∧ (i ≤ j + 1 ∧ j < m) ∧ dd.size = m ∧ Turn [g] w wr ∧ Hid (Rw wr g c dd ∧ Sort.reverseLoop i j dd = R)) (fun _ v7 _ => (intOf v7).toNat)
  case atStart => exact ⟨a, b', d, rfl, rfl, ⟨hab', hbm⟩, HM.out, Turn.refl _ _, Lib.hid ⟨HRW.out, HR.out.symm⟩⟩
  case round =>
    clear z0 HR HRW
    obtain ⟨i, j, dd, rfl, rfl, hij, hsz, ht, hh⟩ := hrel
    obtain ⟨hij1, hjm⟩ := hij
    have HSZ := Lib.hid hsz
    by_cases hlt : i < j
    · obtain ⟨k, hk⟩ : ∃ k, j = k + 1 := ⟨j - 1, by omega⟩
      have HK := Lib.hid hk
      obtain ⟨h1, h2⟩ := hh.out
      have ci : wr.drew.cell? ⟨g, i, none⟩ = some (.int .u32 (dd[i]! : Int)) := h1.cell (i := i) (by omega)
      have cj : wr.drew.cell? ⟨g, j, none⟩ = some (.int .u32 (dd[j]! : Int)) := h1.cell (i := j) (by omega)
      have HN : Hid (Sort.reverseLoop (i + 1) k (Sort.swp dd i j) = R) := Lib.hid (by rw [HO.out, if_pos hlt, hk] at h2; rw [hk]; exact h2)
      have HSW : Hid (Sort.swp dd i j = (dd.setIfInBounds i dd[j]!).setIfInBounds j dd[i]!) := Lib.hid rfl
      generalize dd[i]! = x at ci HSW
      generalize dd[j]! = y at cj HSW
      have fi : wr.drew.frozen? ⟨g, i, none⟩ = false := h1.frozen i
      have fj : wr.drew.frozen? ⟨g, j, none⟩ = false := h1.frozen j
      have HRV : Hid (Rw wr.drew g c dd) := Lib.hid (h1.block rfl)
      have HTV : Hid (Turn [g] w wr.drew) := Lib.hid ht.drew
      have i0 : (0 : Int) ≤ (i : Int) := by omega
      have i1 : (i : Int) < (m : Int) := by omega
      have j0 : (0 : Int) ≤ (j : Int) := by omega
      have j1 : (j : Int) < (m : Int) := by omega
      have l1 : (i : Int) < (j : Int) := by omega
      have z1 : IntKind.i64.wrap ((j : Int) - 1) = (k : Int) := by rw [IntWalk.i64_in _ (by omega)]; omega
      have z2 : IntKind.i64.wrap ((i : Int) + 1) = (i : Int) + 1 := IntWalk.i64_in _ (by omega)
      clear hh h1 h2 hk ht hsz
      obtain ⟨W1, hW1⟩ : ∃ W1, W1 = wr := ⟨_, rfl⟩
      rw [← hW1] at ci cj fi fj HRV HTV ⊢
      clear hW1
      go_upto_region 3 with fail
      refine wp_region_noPanic ?_
      refine wp_region_held_drew (S := fun _ => True) (by kernel_rfl) trivial ?_
      intro hS
      generalize W1.drew = V at ci cj HRV HTV fi fj ⊢
      refine wpAnyH_take (i := 0) (v := .slice (some ⟨g, 0, none⟩) m c) rfl (by kernel_rfl) (by kernel_rfl) (by kernel_rfl) (fun _ _ _ h => (h : False).elim) (Or.inl ⟨by rfl, fun _ _ => by go_simp⟩) hS ?_
      change wpAnyH _ _ _ _ _ _ _ (Act.put _ (some 14) _) _
      simp only [Act.put, List.setIfInBounds_toArray, List.set_cons_succ, List.set_cons_zero]
      refine wpAnyH_take (i := 1) (v := .int .i64 (i : Int)) rfl (by kernel_rfl) (by kernel_rfl) (by kernel_rfl) (fun _ _ _ h => (h : False).elim) (Or.inl ⟨by rfl, fun _ _ => by go_simp⟩) hS ?_
      change wpAnyH _ _ _ _ _ _ _ (Act.put _ (some 15) _) _
      simp only [Act.put, List.setIfInBounds_toArray, List.set_cons_succ, List.set_cons_zero]
      refine wpAnyH_take (i := 2) (v := .slice (some ⟨g, 0, none⟩) m c) rfl (by kernel_rfl) (by kernel_rfl) (by kernel_rfl) (fun _ _ _ h => (h : False).elim) (Or.inl ⟨by rfl, fun _ _ => by go_simp⟩) hS ?_
      change wpAnyH _ _ _ _ _ _ _ (Act.put _ (some 16) _) _
      simp only [Act.put, List.setIfInBounds_toArray, List.set_cons_succ, List.set_cons_zero]
      refine wpAnyH_take (i := 3) (v := .int .i64 (j : Int)) rfl (by kernel_rfl) (by kernel_rfl) (by kernel_rfl) (fun _ _ _ h => (h : False).elim) (Or.inl ⟨by rfl, fun _ _ => by go_simp⟩) hS ?_
      change wpAnyH _ _ _ _ _ _ _ (Act.put _ (some 17) _) _
      simp only [Act.put, List.setIfInBounds_toArray, List.set_cons_succ, List.set_cons_zero]
      refine wpAnyH_take (i := 4) (v := .slice (some ⟨g, 0, none⟩) m c) rfl (by kernel_rfl) (by kernel_rfl) (by kernel_rfl) (fun _ _ _ h => (h : False).elim) (Or.inl ⟨by rfl, fun _ _ => by go_simp⟩) hS ?_
      change wpAnyH _ _ _ _ _ _ _ (Act.put _ (some 18) _) _
      simp only [Act.put, List.setIfInBounds_toArray, List.set_cons_succ, List.set_cons_zero]
      refine wpAnyH_take (i := 5) (v := .int .i64 (j : Int)) rfl (by kernel_rfl) (by kernel_rfl) (by kernel_rfl) (fun _ _ _ h => (h : False).elim) (Or.inl ⟨by rfl, fun _ _ => by go_simp⟩) hS ?_
      change wpAnyH _ _ _ _ _ _ _ (Act.put _ (some 19) _) _
      simp only [Act.put, List.setIfInBounds_toArray, List.set_cons_succ, List.set_cons_zero]
      refine wpAnyH_take (i := 6) (v := .pointer (some ⟨g, j, none⟩)) rfl (by kernel_rfl) (by kernel_rfl) (by kernel_rfl) (fun _ _ _ h => (h : False).elim) (Or.inl ⟨by rfl, fun _ _ => by go_simp⟩) hS ?_
      change wpAnyH _ _ _ _ _ _ _ (Act.put _ (some 20) _) _
      simp only [Act.put, List.setIfInBounds_toArray, List.set_cons_succ, List.set_cons_zero]
      refine wpAnyH_take (i := 8) (v := .slice (some ⟨g, 0, none⟩) m c) rfl (by kernel_rfl) (by kernel_rfl) (by kernel_rfl) (fun _ _ _ h => (h : False).elim) (Or.inl ⟨by rfl, fun _ _ => by go_simp⟩) hS ?_
      change wpAnyH _ _ _ _ _ _ _ (Act.put _ (some 22) _) _
      simp only [Act.put, List.setIfInBounds_toArray, List.set_cons_succ, List.set_cons_zero]
      refine wpAnyH_take (i := 9) (v := .int .i64 (i : Int)) rfl (by kernel_rfl) (by kernel_rfl) (by kernel_rfl) (fun _ _ _ h => (h : False).elim) (Or.inl ⟨by rfl, fun _ _ => by go_simp⟩) hS ?_
      change wpAnyH _ _ _ _ _ _ _ (Act.put _ (some 23) _) _
      simp only [Act.put, List.setIfInBounds_toArray, List.set_cons_succ, List.set_cons_zero]
      refine wpAnyH_take (i := 10) (v := .pointer (some ⟨g, i, none⟩)) rfl (by kernel_rfl) (by kernel_rfl) (by kernel_rfl) (fun _ _ _ h => (h : False).elim) (Or.inl ⟨by rfl, fun _ _ => by go_simp⟩) hS ?_
      change wpAnyH _ _ _ _ _ _ _ (Act.put _ (some 24) _) _
      simp only [Act.put, List.setIfInBounds_toArray, List.set_cons_succ, List.set_cons_zero]
      refine wpAnyH_ready (rs := [7, 11]) (by kernel_rfl) (by simp) ?_
      refine AllReadyH.cons rfl (fun K hK => ?_) (AllReadyH.cons rfl (fun K hK => ?_) AllReadyH.nil)
      · rw [if_pos (by rfl)]
        go_simp
        refine hK _ _ trivial (fun _ => ?_)
        clear hK K
        try simp only [Act.put, List.setIfInBounds_toArray, List.set_cons_succ, List.set_cons_zero]
        refine wpAnyH_ready (rs := [11]) (by kernel_rfl) (by simp) ?_
        refine AllReadyH.cons rfl (fun K hK => ?_) AllReadyH.nil
        rw [if_pos (by rfl)]
        go_simp
        refine hK _ _ trivial (fun _ => ?_)
        clear hK K
        try simp only [Act.put, List.setIfInBounds_toArray, List.set_cons_succ, List.set_cons_zero]
        refine wpAnyH_take (i := 12) (v := .pointer (some ⟨g, i, none⟩)) rfl (by kernel_rfl) (by kernel_rfl) (by kernel_rfl) (fun _ _ _ h => (h : False).elim) (Or.inl ⟨by rfl, fun _ _ => by go_simp⟩) hS ?_
        change wpAnyH _ _ _ _ _ _ _ (Act.put _ (some 26) _) _
        simp only [Act.put, List.setIfInBounds_toArray, List.set_cons_succ, List.set_cons_zero]
        refine wpAnyH_ready (rs := [13]) (by kernel_rfl) (by simp) ?_
        refine AllReadyH.cons rfl (fun K hK => ?_) AllReadyH.nil
        rw [if_pos (by rfl)]
        go_simp
        refine hK _ _ trivial (fun _ => ?_)
        clear hK K
        try simp only [Act.put, List.setIfInBounds_toArray, List.set_cons_succ, List.set_cons_zero]
        refine wpAnyH_take (i := 14) (v := .pointer (some ⟨g, j, none⟩)) rfl (by kernel_rfl) (by kernel_rfl) (by kernel_rfl) (fun _ _ _ h => (h : False).elim) (Or.inl ⟨by rfl, fun _ _ => by go_simp⟩) hS ?_
        change wpAnyH _ _ _ _ _ _ _ (Act.put _ (some 27) _) _
        simp only [Act.put, List.setIfInBounds_toArray, List.set_cons_succ, List.set_cons_zero]
        have hp1 := HRV.out.put (i := i) (by have := HSZ.out; omega) y
        have hk1 : j < (dd.setIfInBounds i y).size := by rw [Array.size_setIfInBounds]; have := HSZ.out; omega
        have ck2 := hp1.frozen j
        have ck3 := hp1.cell hk1
        have HT1 := Lib.hid (HTV.out.setCell ⟨g, i, none⟩ (.int .u32 (y : Int)) (.inl (by simp)))
        have HP1 := Lib.hid hp1
        clear hp1 ci cj fi fj HRV HTV
        generalize V.setCell ⟨g, i, none⟩ (.int .u32 (y : Int)) = V1 at ck2 ck3 HT1 HP1 ⊢
        refine wpAnyH_ready (rs := [15]) (by kernel_rfl) (by simp) ?_
        refine AllReadyH.cons rfl (fun K hK => ?_) AllReadyH.nil
        rw [if_pos (by rfl)]
        go_simp
        refine hK _ _ trivial (fun _ => ?_)
        clear hK K ck2 ck3
        have HP2 := Lib.hid (HP1.out.put hk1 x)
        have HT2 := Lib.hid (HT1.out.setCell ⟨g, j, none⟩ (.int .u32 (x : Int)) (.inl (by simp)))
        clear HP1 HT1 hk1
        generalize V1.setCell ⟨g, j, none⟩ (.int .u32 (x : Int)) = V2 at HP2 HT2 ⊢
        try simp only [Act.put, List.setIfInBounds_toArray, List.set_cons_succ, List.set_cons_zero]
        refine wpAnyH_done (by kernel_rfl) ?_ _
        refine NoPanic.normal ?_
        go_wp2_with fail
        go_roundw
        case rel => exact ⟨i + 1, k, Sort.swp dd i j, by go_num, by go_num, by have := HK.out; omega, by rw [swp_size]; exact HSZ.out, HT2.out, Lib.hid ⟨by rw [HSW.out]; exact HP2.out, HN.out⟩⟩
        case measure => have := HK.out; simp [intOf]; omega
      · rw [if_pos (by rfl)]
        go_simp
        refine hK _ _ trivial (fun _ => ?_)
        clear hK K
        try simp only [Act.put, List.setIfInBounds_toArray, List.set_cons_succ, List.set_cons_zero]
        refine wpAnyH_ready (rs := [7]) (by kernel_rfl) (by simp) ?_
        refine AllReadyH.cons rfl (fun K hK => ?_) AllReadyH.nil
        rw [if_pos (by rfl)]
        go_simp
        refine hK _ _ trivial (fun _ => ?_)
        clear hK K
        try simp only [Act.put, List.setIfInBounds_toArray, List.set_cons_succ, List.set_cons_zero]
        refine wpAnyH_take (i := 12) (v := .pointer (some ⟨g, i, none⟩)) rfl (by kernel_rfl) (by kernel_rfl) (by kernel_rfl) (fun _ _ _ h => (h : False).elim) (Or.inl ⟨by rfl, fun _ _ => by go_simp⟩) hS ?_
        change wpAnyH _ _ _ _ _ _ _ (Act.put _ (some 26) _) _
        simp only [Act.put, List.setIfInBounds_toArray, List.set_cons_succ, List.set_cons_zero]
        refine wpAnyH_ready (rs := [13]) (by kernel_rfl) (by simp) ?_
        refine AllReadyH.cons rfl (fun K hK => ?_) AllReadyH.nil
        rw [if_pos (by rfl)]
        go_simp
        refine hK _ _ trivial (fun _ => ?_)
        clear hK K
        try simp only [Act.put, List.setIfInBounds_toArray, List.set_cons_succ, List.set_cons_zero]
        refine wpAnyH_take (i := 14) (v := .pointer (some ⟨g, j, none⟩)) rfl (by kernel_rfl) (by kernel_rfl) (by kernel_rfl) (fun _ _ _ h => (h : False).elim) (Or.inl ⟨by rfl, fun _ _ => by go_simp⟩) hS ?_
        change wpAnyH _ _ _ _ _ _ _ (Act.put _ (some 27) _) _
        simp only [Act.put, List.setIfInBounds_toArray, List.set_cons_succ, List.set_cons_zero]
        have hp1 := HRV.out.put (i := i) (by have := HSZ.out; omega) y
        have hk1 : j < (dd.setIfInBounds i y).size := by rw [Array.size_setIfInBounds]; have := HSZ.out; omega
        have ck2 := hp1.frozen j
        have ck3 := hp1.cell hk1
        have HT1 := Lib.hid (HTV.out.setCell ⟨g, i, none⟩ (.int .u32 (y : Int)) (.inl (by simp)))
        have HP1 := Lib.hid hp1
        clear hp1 ci cj fi fj HRV HTV
        generalize V.setCell ⟨g, i, none⟩ (.int .u32 (y : Int)) = V1 at ck2 ck3 HT1 HP1 ⊢
        refine wpAnyH_ready (rs := [15]) (by kernel_rfl) (by simp) ?_
        refine AllReadyH.cons rfl (fun K hK => ?_) AllReadyH.nil
        rw [if_pos (by rfl)]
        go_simp
        refine hK _ _ trivial (fun _ => ?_)
        clear hK K ck2 ck3
        have HP2 := Lib.hid (HP1.out.put hk1 x)
        have HT2 := Lib.hid (HT1.out.setCell ⟨g, j, none⟩ (.int .u32 (x : Int)) (.inl (by simp)))
        clear HP1 HT1 hk1
        generalize V1.setCell ⟨g, j, none⟩ (.int .u32 (x : Int)) = V2 at HP2 HT2 ⊢
        try simp only [Act.put, List.setIfInBounds_toArray, List.set_cons_succ, List.set_cons_zero]
        refine wpAnyH_done (by kernel_rfl) ?_ _
        refine NoPanic.normal ?_
        go_wp2_with fail
        go_roundw
        case rel => exact ⟨i + 1, k, Sort.swp dd i j, by go_num, by go_num, by have := HK.out; omega, by rw [swp_size]; exact HSZ.out, HT2.out, Lib.hid ⟨by rw [HSW.out]; exact HP2.out, HN.out⟩⟩
        case measure => have := HK.out; simp [intOf]; omega
    · have l1 : ¬ (i : Int) < (j : Int) := by omega
      have HF : Hid (Rw wr g c R) := Lib.hid (by obtain ⟨h1, h2⟩ := hh.out; rw [HO.out, if_neg hlt] at h2; rw [← h2]; exact h1)
      have HT := Lib.hid ht
      clear hh ht
      go_wp2_with fail
      go_end0
      exact ⟨rfl, HT.out, HF.out⟩
end Go.Proofs.YtojpcgjmainbfaaGreat.Srt

