/-
  SrtB: SrtSift, SrtHeap, SrtPeq, SrtPart.
-/
import Derived.Test.YtojpcgjmainbfaaGreatSrtA
import Derived.BigQuiet
import Derived.CellFam
import Derived.BigCall
import Derived.BigGuard
import Derived.BigRegion
import Derived.Sort.LotC
import Derived.Deep.CutRange
/-
  A number sifted down a heap, at uint32; heaps.
-/
namespace Go.Proofs.YtojpcgjmainbfaaGreat.Srt
open Go.RowKit RowLaw
open Go.Proofs.YtojpcgjmainbfaaGreat.Dev (Turn)
set_option maxRecDepth 100000

theorem Rw.swp {W : World} {g c i j : Nat} {d : Array Nat} (h : Rw W g c d) (hi : i < d.size) (hj : j < d.size) {a b : Nat} (ha : a = i) (hb : b = j) {x y : Nat} (hx : x = d[j]!) (hy : y = d[i]!) :
    Rw ((W.setCell ⟨g, a, none⟩ (.int .u32 (x : Int))).setCell ⟨g, b, none⟩ (.int .u32 (y : Int))) g c (Sort.swp d i j) := by
  subst ha hb hx hy
  unfold Sort.swp
  exact (h.put hi _).put (by rw [Array.size_setIfInBounds]; exact hj) _
theorem _root_.Go.Proofs.YtojpcgjmainbfaaGreat.Dev.Turn.drewN {B : List Nat} {w W : World} (h : Turn B w W) (n : Nat) : Turn B w (W.drewN n) := h.trans (Turn.of_below (below_drewN (Below.refl _ _) n))
theorem Rw.any {W : World} {g c : Nat} {d : Array Nat} (h : Rw W g c d) {W' : World} (hb : W'.heap = W.heap) : Rw W' g c d := h.block (by rw [hb])
theorem swp_turn {w W : World} {g a b : Nat} {u v : Value} (h : Turn [g] w W) : Turn [g] w ((W.setCell ⟨g, a, none⟩ u).setCell ⟨g, b, none⟩ v) :=
  (h.setCell ⟨g, a, none⟩ u (.inl (by simp))).setCell ⟨g, b, none⟩ v (.inl (by simp))

section
variable {hi F root : Nat} (d : Array Nat)
theorem sift_end (h : hi ≤ 2 * root + 1) : Sort.siftDown ltN hi F root d = d := by rw [Sort.siftDown, dif_pos h]
theorem sift_right (h1 : 2 * root + 2 < hi) (h2 : d[F + (2 * root + 1)]! < d[F + (2 * root + 2)]!) :
    Sort.siftDown ltN hi F root d = if d[F + root]! < d[F + (2 * root + 2)]! then Sort.siftDown ltN hi F (2 * root + 2) (Sort.swp d (F + root) (F + (2 * root + 2))) else d := by
  have h3 : ltN d[F + (2 * root + 1)]! d[F + (2 * root + 1) + 1]! = true := by rw [show F + (2 * root + 1) + 1 = F + (2 * root + 2) by omega]; exact decide_eq_true h2
  rw [Sort.siftDown, dif_neg (by omega), h3, decide_eq_true (show 2 * root + 1 + 1 < hi by omega)]
  unfold ltN
  by_cases h : d[F + root]! < d[F + (2 * root + 2)]!
  · simp [h, h1]
  · simp [h]
theorem sift_left (h0 : 2 * root + 1 < hi) (h1 : 2 * root + 2 < hi → ¬ d[F + (2 * root + 1)]! < d[F + (2 * root + 2)]!) :
    Sort.siftDown ltN hi F root d = if d[F + root]! < d[F + (2 * root + 1)]! then Sort.siftDown ltN hi F (2 * root + 1) (Sort.swp d (F + root) (F + (2 * root + 1))) else d := by
  have h3 : (decide (2 * root + 1 + 1 < hi) && ltN d[F + (2 * root + 1)]! d[F + (2 * root + 1) + 1]!) = false := by
    rw [show F + (2 * root + 1) + 1 = F + (2 * root + 2) by omega]
    by_cases h : 2 * root + 2 < hi
    · have := h1 h
      unfold ltN
      simp [this]
    · simp [show ¬ 2 * root + 1 + 1 < hi by omega]
  rw [Sort.siftDown, dif_neg (by omega), h3]
  unfold ltN
  by_cases h : d[F + root]! < d[F + (2 * root + 1)]!
  · simp [h]
  · simp [h]
end

set_option linter.unusedSimpArgs false in
set_option maxHeartbeats 3200000 in
theorem sift_any {w : World} {g c lo hi F : Nat} {d : Array Nat} (hr : Rw w g c d) (hlo : lo ≤ hi) (hb : F + hi ≤ d.size) (hd : d.size ≤ 1000000) :
    Calls Tryz.prog 206 #[.slice (some ⟨g, 0, none⟩) d.size c, .int .i64 (lo : Int), .int .i64 (hi : Int), .int .i64 (F : Int)] w fun e w' =>
      e = .returned (.tuple #[]) ∧ Turn [g] w w' ∧ Rw w' g c (Sort.siftDown ltN hi F lo d) := by
  obtain ⟨m, hm⟩ : ∃ m, m = d.size := ⟨_, rfl⟩
  have HM : Hid (d.size = m) := Lib.hid hm.symm
  obtain ⟨R, hR⟩ : ∃ R, R = Sort.siftDown ltN hi F lo d := ⟨_, rfl⟩
  have HR : Hid (Sort.siftDown ltN hi F lo d = R) := Lib.hid hR.symm
  have HRW := Lib.hid hr
  rw [← hR, ← hm]
  rw [← hm] at hb hd
  clear hR hm hr
  go_enter Tryz.func206, Tryz.ntmps206
  go_wp2_with fail
  go_loopw [8] (fun v8 wr => ∃ (root : Nat) (dk : Array Nat), v8 = .int .i64 (root : Int) ∧ root ≤ hi ∧ Hid (dk.size = m ∧ Turn [g] w wr ∧ Rw wr g c dk ∧ Sort.siftDown ltN hi F root dk = R)) (fun v8 _ => hi - (intOf v8).toNat)
  case atStart => exact ⟨lo, d, rfl, hlo, Lib.hid ⟨HM.out, Turn.refl _ _, HRW.out, HR.out⟩⟩
  case round =>
    clear HM HR HRW hlo
    obtain ⟨root, dk, rfl, hroot, hh⟩ := hrel
    by_cases h0 : hi ≤ 2 * root + 1
    · have h0z : (hi : Int) ≤ 2 * (root : Int) + 1 := by omega
      have HF : Hid (Turn [g] w wr ∧ Rw wr g c R) := Lib.hid (by obtain ⟨h1, h2, h3, h4⟩ := hh.out; rw [sift_end dk h0] at h4; rw [← h4]; exact ⟨h2, h3⟩)
      clear hh h0
      go_wp2_with fail
      go_end0
      exact ⟨rfl, HF.out⟩
    · have h0z : ¬ ((hi : Int) ≤ 2 * (root : Int) + 1) := by omega
      obtain ⟨hsz, hT, hW, hE⟩ := hh.out
      obtain ⟨ch, hch1, hch2, hch3, hch4, hch5⟩ : ∃ ch, (2 * root + 2 < hi ∧ dk[F + (2 * root + 1)]! < dk[F + (2 * root + 2)]! → ch = 2 * root + 2) ∧ (¬ (2 * root + 2 < hi ∧ dk[F + (2 * root + 1)]! < dk[F + (2 * root + 2)]!) → ch = 2 * root + 1) ∧ ch < hi ∧ root < ch ∧
          (Sort.siftDown ltN hi F root dk = if dk[F + root]! < dk[F + ch]! then Sort.siftDown ltN hi F ch (Sort.swp dk (F + root) (F + ch)) else dk) := by
        by_cases h1 : 2 * root + 2 < hi ∧ dk[F + (2 * root + 1)]! < dk[F + (2 * root + 2)]!
        · exact ⟨2 * root + 2, fun _ => rfl, fun h => absurd h1 h, by omega, by omega, sift_right dk h1.1 h1.2⟩
        · exact ⟨2 * root + 1, fun h => absurd h h1, fun _ => rfl, by omega, by omega, sift_left dk (by omega) (fun h2 h3 => h1 ⟨h2, h3⟩)⟩
      rw [hE] at hch5
      have c1 : wr.cell? ⟨g, F + (2 * root + 1), none⟩ = some (.int .u32 (dk[F + (2 * root + 1)]! : Int)) := hW.cell (by omega)
      have c2 : 2 * root + 2 < hi → wr.cell? ⟨g, F + (2 * root + 1) + 1, none⟩ = some (.int .u32 (dk[F + (2 * root + 2)]! : Int)) := fun h => hW.cell (by omega)
      generalize dk[F + (2 * root + 1)]! = x1 at c1 hch1 hch2
      generalize dk[F + (2 * root + 2)]! = x2 at c2 hch1 hch2
      have HH := Lib.hid (And.intro hsz (And.intro hT hW)); have HC5 := Lib.hid hch5
      clear hsz hT hW hE hh hch5
      go_upto_region 3 with fail
      obtain ⟨bb, hbb⟩ : ∃ bb : Bool, bb = decide (2 * root + 2 < hi ∧ x1 < x2) := ⟨_, rfl⟩
      have HB := Lib.hid hbb
      clear hbb
      go_cut [9, 36] from 11 (fun v9 v36 wx => v9 = .int .i64 (2 * (root : Int) + 1) ∧ v36 = .bool bb ∧ Hid (Turn [g] w wx ∧ Rw wx g c dk))
      case first =>
        by_cases h1 : 2 * root + 2 < hi
        · have h1z : 2 * (root : Int) + 1 + 1 < (hi : Int) := by omega
          replace c2 := c2 h1
          have hbe : bb = decide (x1 < x2) := by rw [HB.out]; simp [h1]
          have HBE := Lib.hid hbe
          clear hbe hch1 hch2
          go_big_quiet (first | (go_at_call 195; refine Calls.quiet_of_same (Less_any _ _ _)))
          go_wp2_with fail
          go_meet
          case rel => exact ⟨rfl, by rw [HBE.out], Lib.hid ⟨HH.out.2.1.drewN nq, HH.out.2.2.any rfl⟩⟩
        · have h1z : decide (2 * (root : Int) + 1 + 1 < (hi : Int)) = false := decide_eq_false (by omega)
          have hbe : bb = false := by rw [HB.out]; simp [h1]
          have HBE := Lib.hid hbe
          clear hbe hch1 hch2 c2
          go_big_quiet (first | (go_at_call 195; refine Calls.quiet_of_same (Less_any _ _ _)))
          go_wp2_with fail
          go_meet
          case rel => exact ⟨rfl, by rw [HBE.out], Lib.hid ⟨HH.out.2.1.drewN nq, HH.out.2.2.any rfl⟩⟩
      case rest =>
        obtain ⟨rfl, rfl, hcc⟩ := hcut
        have HSZ := Lib.hid HH.out.1
        clear HH c1 c2
        go_upto_if 36 with fail
        go_cut [9] from 11 (fun v9 wx => v9 = .int .i64 (ch : Int) ∧ Hid (Turn [g] w wx ∧ Rw wx g c dk))
        case first =>
          cases hb2 : bb
          · have hce := hch2 (by have := HB.out; rw [hb2] at this; exact of_decide_eq_false this.symm)
            have HCE := Lib.hid hce
            clear hce hch1 hch2
            go_wp2_with fail
            go_meet
            case rel => exact ⟨by rw [HCE.out]; go_num, hcc⟩
          · have hce := hch1 (by have := HB.out; rw [hb2] at this; exact of_decide_eq_true this.symm)
            have HCE := Lib.hid hce
            clear hce hch1 hch2
            go_wp2_with fail
            go_meet
            case rel => exact ⟨by rw [HCE.out]; go_num, hcc⟩
        case rest =>
          clear hcc
          obtain ⟨rfl, hcc⟩ := hcut
          have hF : F + ch < m := by omega
          have hr0 : F + root < m := by omega
          clear hch1 hch2 h0 h0z HB
          have cr : wc.cell? ⟨g, F + root, none⟩ = some (.int .u32 (dk[F + root]! : Int)) := hcc.out.2.cell (by have := HSZ.out; omega)
          have cc : wc.cell? ⟨g, F + ch, none⟩ = some (.int .u32 (dk[F + ch]! : Int)) := hcc.out.2.cell (by have := HSZ.out; omega)
          have H5 : Hid (∀ x y, x = dk[F + root]! → y = dk[F + ch]! → R = if x < y then Sort.siftDown ltN hi F ch (Sort.swp dk (F + root) (F + ch)) else dk) := Lib.hid (fun x y hx hy => by rw [hx, hy]; exact HC5.out)
          obtain ⟨x, hx⟩ : ∃ x, x = dk[F + root]! := ⟨_, rfl⟩
          obtain ⟨y, hy⟩ : ∃ y, y = dk[F + ch]! := ⟨_, rfl⟩
          rw [← hx] at cr
          rw [← hy] at cc
          have HX := Lib.hid hx; have HY := Lib.hid hy; have H5' := Lib.hid (H5.out x y hx hy)
          clear hx hy HC5 H5
          by_cases hlt : x < y
          · have hlz : (x : Int) < (y : Int) := by omega
            have HR : Hid (Sort.siftDown ltN hi F ch (Sort.swp dk (F + root) (F + ch)) = R) := Lib.hid (by rw [H5'.out, if_pos hlt])
            clear H5'
            go_upto_region 5 with fail
            go_big_quiet (first | (go_at_call 195; refine Calls.quiet_of_same (Less_any _ _ _)))
            go_wp2_with fail
            have cr2 : (wc.drewN nq).cell? ⟨g, F + root, none⟩ = some (.int .u32 (x : Int)) := cr
            have cc2 : (wc.drewN nq).cell? ⟨g, F + ch, none⟩ = some (.int .u32 (y : Int)) := cc
            have HW : Hid (Turn [g] w (wc.drewN nq) ∧ Rw (wc.drewN nq) g c dk) := Lib.hid ⟨hcc.out.1.drewN nq, hcc.out.2.any rfl⟩
            have fr : ∀ t, (wc.drewN nq).frozen? ⟨g, t, none⟩ = false := fun t => HW.out.2.frozen t
            clear cr cc hcc
            generalize wc.drewN nq = W3 at cr2 cc2 HW fr ⊢
            clear nq
            go_region
            go_wp2_with fail
            go_roundw
            case rel => exact ⟨ch, Sort.swp dk (F + root) (F + ch), by go_num, by omega, Lib.hid ⟨(swp_size _ _ _).trans HSZ.out, swp_turn HW.out.1.drew, Rw.swp (HW.out.2.any rfl) (by have := HSZ.out; omega) (by have := HSZ.out; omega) rfl rfl HY.out HX.out, HR.out⟩⟩
            case measure => simp [intOf]; omega
          · have hlz : ¬ (x : Int) < (y : Int) := by omega
            have HR : Hid (dk = R) := Lib.hid (by rw [H5'.out, if_neg hlt])
            clear H5'
            go_upto_region 5 with fail
            go_big_quiet (first | (go_at_call 195; refine Calls.quiet_of_same (Less_any _ _ _)))
            go_wp2_with fail
            (try simp only [Exit.inBlock, Exit.then])
            refine bodyPost_ret (results_none rfl _ _ _) rfl ?_
            exact ⟨rfl, hcc.out.1.drewN nq, by rw [← HR.out]; exact hcc.out.2.any rfl⟩
end Go.Proofs.YtojpcgjmainbfaaGreat.Srt

/-
  Heap sort at uint32.
-/
namespace Go.Proofs.YtojpcgjmainbfaaGreat.Srt
open Go.RowKit RowLaw
open Go.Proofs.YtojpcgjmainbfaaGreat.Dev (Turn)
set_option maxRecDepth 100000
theorem sift_size (hi F : Nat) : ∀ (n root : Nat) (d : Array Nat), hi - root ≤ n → (Sort.siftDown ltN hi F root d).size = d.size := by
  intro n
  induction n with
  | zero => intro root d h; rw [sift_end d (by omega)]
  | succ n ih =>
    intro root d h
    by_cases h0 : hi ≤ 2 * root + 1
    · rw [sift_end d h0]
    · by_cases h1 : 2 * root + 2 < hi ∧ d[F + (2 * root + 1)]! < d[F + (2 * root + 2)]!
      · rw [sift_right d h1.1 h1.2]
        split
        · rw [ih _ _ (by omega), swp_size]
        · rfl
      · rw [sift_left d (by omega) (fun h2 h3 => h1 ⟨h2, h3⟩)]
        split
        · rw [ih _ _ (by omega), swp_size]
        · rfl
set_option linter.unusedSimpArgs false in
set_option maxHeartbeats 3200000 in
theorem heap_any {w : World} {g c a b : Nat} {d : Array Nat} (hr : Rw w g c d) (hab : a < b) (hb : b ≤ d.size) (hd : d.size ≤ 1000000) :
    Calls Tryz.prog 190 #[.slice (some ⟨g, 0, none⟩) d.size c, .int .i64 (a : Int), .int .i64 (b : Int)] w fun e w' =>
      e = .returned (.tuple #[]) ∧ Turn [g] w w' ∧ Rw w' g c (Sort.heapSort ltN d a b) := by
  obtain ⟨m, hm⟩ : ∃ m, m = d.size := ⟨_, rfl⟩
  have HM : Hid (d.size = m) := Lib.hid hm.symm
  obtain ⟨hi, hhi⟩ : ∃ hi, hi = b - a := ⟨_, rfl⟩
  obtain ⟨R, hR⟩ : ∃ R, R = Sort.heapSort ltN d a b := ⟨_, rfl⟩
  have HR : Hid (Sort.heapPop ltN a hi (Sort.heapBuild ltN hi a ((hi - 1) / 2 + 1) d) = R) := Lib.hid (by rw [hR, hhi]; rfl)
  have HRW := Lib.hid hr
  rw [← hR, ← hm]
  rw [← hm] at hb hd
  have hs : (b : Int) - (a : Int) = (hi : Int) := by omega
  have hah : a + hi ≤ m := by omega
  have hq : ((hi : Int) - 1).tdiv 2 = (((hi - 1) / 2 : Nat) : Int) := by rw [Int.tdiv_eq_ediv_of_nonneg (by omega)]; omega
  have z0 : IntKind.i64.wrap ((b : Int) - (a : Int)) = (hi : Int) := by rw [IntWalk.i64_in _ (by omega)]; omega
  have hpos : 0 < hi := by omega
  clear hR hm hr hhi
  go_enter Tryz.func190, Tryz.ntmps190
  go_wp2_with fail
  go_loopw [9] (fun v9 wr => ∃ (k : Nat) (dk : Array Nat), v9 = .int .i64 ((k : Int) - 1) ∧ k ≤ hi ∧ Hid (dk.size = m ∧ Turn [g] w wr ∧ Rw wr g c dk ∧ Sort.heapPop ltN a hi (Sort.heapBuild ltN hi a k dk) = R)) (fun v9 _ => (intOf v9 + 1).toNat)
  case atStart => exact ⟨(hi - 1) / 2 + 1, d, by congr 1; omega, by omega, Lib.hid ⟨HM.out, Turn.refl _ _, HRW.out, HR.out⟩⟩
  case round =>
    clear HM HR HRW z0 hq
    obtain ⟨k, dk, rfl, hk, hh⟩ := hrel
    cases k with
    | zero =>
      have HF : Hid (dk.size = m ∧ Turn [g] w wr ∧ Rw wr g c dk ∧ Sort.heapPop ltN a hi dk = R) := Lib.hid hh.out
      clear hh
      obtain ⟨z, hz⟩ : ∃ z : Int, z = ((0 : Nat) : Int) - 1 := ⟨_, rfl⟩
      rw [← hz]
      have hzn : ¬ 0 ≤ z := by omega
      clear hz
      have z1 : IntKind.i64.wrap ((hi : Int) - 1) = (hi : Int) - 1 := IntWalk.i64_in _ (by omega)
      go_wp2_with fail
      go_loopw [10] (fun v10 wr => ∃ (k : Nat) (dk : Array Nat), v10 = .int .i64 ((k : Int) - 1) ∧ k ≤ hi ∧ Hid (dk.size = m ∧ Turn [g] w wr ∧ Rw wr g c dk ∧ Sort.heapPop ltN a k dk = R)) (fun v10 _ => (intOf v10 + 1).toNat)
      case atStart => exact ⟨hi, dk, rfl, Nat.le_refl _, HF⟩
      case round =>
        clear HF
        obtain ⟨k, dk, rfl, hk, hh⟩ := hrel
        cases k with
        | zero =>
          go_wp2_with fail
          go_end0
          exact ⟨rfl, hh.out.2.1, by have := hh.out.2.2.2; unfold Sort.heapPop at this; rw [← this]; exact hh.out.2.2.1⟩
        | succ j =>
          have hj : ((j + 1 : Nat) : Int) - 1 = (j : Int) := by omega
          rw [hj]
          have hS : (Sort.swp dk a (a + j)).size = m := (swp_size _ _ _).trans hh.out.1
          have H2 : Hid (∀ W, Turn [g] w W → Rw W g c (Sort.swp dk a (a + j)) → Calls Tryz.prog 206 #[.slice (some ⟨g, 0, none⟩) m c, .int .i64 (0 : Int), .int .i64 (j : Int), .int .i64 (a : Int)] W fun e w' =>
              e = .returned (.tuple #[]) ∧ Hid (Turn [g] w w' ∧ ∃ D : Array Nat, D.size = m ∧ Rw w' g c D ∧ Sort.heapPop ltN a j D = R)) := Lib.hid (fun W hT hW => by
            have h := sift_any hW (Nat.zero_le j) (F := a) (by rw [hS]; omega) (by rw [hS]; exact hd)
            rw [hS] at h
            exact h.mono fun e w' ⟨h1, h2, h3⟩ => ⟨h1, Lib.hid ⟨hT.trans h2, _, (sift_size _ _ _ _ _ (Nat.le_refl _)).trans hS, h3, hh.out.2.2.2⟩⟩)
          have c1 : wr.cell? ⟨g, a, none⟩ = some (.int .u32 (dk[a]! : Int)) := hh.out.2.2.1.cell (by have := hh.out.1; omega)
          have c2 : wr.cell? ⟨g, a + j, none⟩ = some (.int .u32 (dk[a + j]! : Int)) := hh.out.2.2.1.cell (by have := hh.out.1; omega)
          have fr : ∀ t, wr.frozen? ⟨g, t, none⟩ = false := fun t => hh.out.2.2.1.frozen t
          obtain ⟨x, hx⟩ : ∃ x, x = dk[a]! := ⟨_, rfl⟩
          obtain ⟨y, hy⟩ : ∃ y, y = dk[a + j]! := ⟨_, rfl⟩
          rw [← hx] at c1
          rw [← hy] at c2
          have HX := Lib.hid hx; have HY := Lib.hid hy
          clear hx hy hj hS
          by_cases hj0 : j = 0
          · subst hj0
            have hxy : x = y := HX.out.trans (by have := HY.out; rw [Nat.add_zero] at this; exact this.symm)
            subst hxy
            replace HY : Hid (x = dk[a]!) := HX
            simp only [Nat.add_zero] at H2
            go_upto_region 10 with fail
            go_region
            have hT1 := (swp_turn hh.out.2.1 (a := a) (b := a) (u := .int .u32 (x : Int)) (v := .int .u32 (x : Int))).drew
            have hW1 := (Rw.swp hh.out.2.2.1 (i := a) (j := a) (by have := hh.out.1; omega) (by have := hh.out.1; omega) (a := a) (b := a) rfl rfl HY.out HX.out).any (W' := ((wr.setCell ⟨g, a, none⟩ (.int .u32 (x : Int))).setCell ⟨g, a, none⟩ (.int .u32 (x : Int))).drew) rfl
            have hcc := H2.out _ hT1 hW1
            have HCC := Lib.hid hcc
            clear hcc hT1 hW1 H2 c1 c2 fr
            generalize ((wr.setCell ⟨g, a, none⟩ (.int .u32 (x : Int))).setCell ⟨g, a, none⟩ (.int .u32 (x : Int))).drew = V at HCC ⊢
            go_wp2_with fail
            refine HCC.out.mono ?_
            rintro e W ⟨rfl, hf⟩
            clear HCC
            go_wp2_with fail
            go_roundw
            case rel =>
              obtain ⟨h1, D, h2, h3, h4⟩ := hf.out
              exact ⟨0, D, rfl, by omega, Lib.hid ⟨h2, h1, h3, h4⟩⟩
            case measure => simp [intOf]
          · have hjp : 0 < j := by omega
            go_upto_region 10 with fail
            go_region
            have hT1 := (swp_turn hh.out.2.1 (a := a) (b := (a + j)) (u := .int .u32 (y : Int)) (v := .int .u32 (x : Int))).drew
            have hW1 := (Rw.swp hh.out.2.2.1 (i := a) (j := a + j) (by have := hh.out.1; omega) (by have := hh.out.1; omega) (a := a) (b := (a + j)) rfl rfl HY.out HX.out).any (W' := ((wr.setCell ⟨g, a, none⟩ (.int .u32 (y : Int))).setCell ⟨g, (a + j), none⟩ (.int .u32 (x : Int))).drew) rfl
            have hcc := H2.out _ hT1 hW1
            have HCC := Lib.hid hcc
            clear hcc hT1 hW1 H2 c1 c2 fr
            generalize ((wr.setCell ⟨g, a, none⟩ (.int .u32 (y : Int))).setCell ⟨g, (a + j), none⟩ (.int .u32 (x : Int))).drew = V at HCC ⊢
            go_wp2_with fail
            refine HCC.out.mono ?_
            rintro e W ⟨rfl, hf⟩
            clear HCC
            go_wp2_with fail
            go_roundw
            case rel =>
              obtain ⟨h1, D, h2, h3, h4⟩ := hf.out
              exact ⟨j, D, rfl, by omega, Lib.hid ⟨h2, h1, h3, h4⟩⟩
            case measure => simp [intOf]
    | succ j =>
      have hj : ((j + 1 : Nat) : Int) - 1 = (j : Int) := by omega
      rw [hj]
      have H2 : Hid (Calls Tryz.prog 206 #[.slice (some ⟨g, 0, none⟩) m c, .int .i64 (j : Int), .int .i64 (hi : Int), .int .i64 (a : Int)] wr fun e w' =>
          e = .returned (.tuple #[]) ∧ Hid (Turn [g] w w' ∧ ∃ D : Array Nat, D.size = m ∧ Rw w' g c D ∧ Sort.heapPop ltN a hi (Sort.heapBuild ltN hi a j D) = R)) := Lib.hid (by
        obtain ⟨h1, h2, h3, h4⟩ := hh.out
        have h := sift_any h3 (lo := j) (hi := hi) (F := a) (by omega) (by rw [h1]; omega) (by rw [h1]; exact hd)
        rw [h1] at h
        exact h.mono fun e w' ⟨k1, k2, k3⟩ => ⟨k1, Lib.hid ⟨h2.trans k2, _, (sift_size _ _ _ _ _ (Nat.le_refl _)).trans h1, k3, h4⟩⟩)
      clear hh hj
      go_wp2_with fail
      refine H2.out.mono ?_
      rintro e W ⟨rfl, hf⟩
      clear H2
      go_wp2_with fail
      go_roundw
      case rel =>
        obtain ⟨h1, D, h2, h3, h4⟩ := hf.out
        exact ⟨j, D, rfl, by omega, Lib.hid ⟨h2, h1, h3, h4⟩⟩
      case measure => simp [intOf]
end Go.Proofs.YtojpcgjmainbfaaGreat.Srt

/-
  Partitions into what is equal and what is greater, at uint32.
-/
namespace Go.Proofs.YtojpcgjmainbfaaGreat.Srt
open Go.RowKit RowLaw
open Go.Proofs.YtojpcgjmainbfaaGreat.Dev (Turn)
set_option maxRecDepth 100000
theorem Rw.sc {W : World} {g c i j : Nat} {d : Array Nat} (h : Rw W g c d) (hi : i < d.size) (hj : j < d.size) : ∃ fz : Nat → Value, ∀ v : Nat, (W.setCell ⟨g, i, none⟩ (.int .u32 (v : Int))).cell? ⟨g, j, none⟩ = some (fz v) :=
  ⟨fun v => .int .u32 ((d.setIfInBounds i v)[j]! : Int), fun v => (h.put hi v).cell (by rw [Array.size_setIfInBounds]; exact hj)⟩
theorem scanUp_eq (p : Nat → Bool) (d : Array Nat) (j i : Nat) : Sort.scanUp p d j i = if i ≤ j ∧ p d[i]! = true then Sort.scanUp p d j (i + 1) else i := by
  conv => lhs; unfold Sort.scanUp
  by_cases h1 : i ≤ j
  · by_cases h2 : p d[i]! = true
    · simp [h1, h2]
    · simp [h1, h2]
  · simp [h1]
theorem scanDown_eq (p : Nat → Bool) (d : Array Nat) (i : Nat) (hi : 1 ≤ i) (j : Nat) : Sort.scanDown p d i j = if i ≤ j ∧ p d[j]! = true then Sort.scanDown p d i (j - 1) else j := by
  cases j with
  | zero =>
    rw [if_neg (fun h => by omega)]
    rfl
  | succ k =>
    conv => lhs; unfold Sort.scanDown
    by_cases h1 : i ≤ k + 1
    · by_cases h2 : p d[k + 1]! = true
      · simp [h1, h2]
      · simp [h1, h2]
    · simp [h1]
theorem scanUp_le (p : Nat → Bool) (d : Array Nat) (j : Nat) : ∀ i, i ≤ j + 1 → Sort.scanUp p d j i ≤ j + 1 := by
  have h : ∀ n i, j + 1 - i = n → i ≤ j + 1 → Sort.scanUp p d j i ≤ j + 1 := by
    intro n
    induction n with
    | zero =>
      intro i h1 h2
      rw [scanUp_eq, if_neg (fun h => by omega)]
      exact h2
    | succ n ih =>
      intro i h1 h2
      rw [scanUp_eq]
      split
      · exact ih _ (by omega) (by omega)
      · exact h2
  exact fun i hi => h _ i rfl hi
theorem scanDown_ge (p : Nat → Bool) (d : Array Nat) (i : Nat) (hi : 1 ≤ i) : ∀ j, i ≤ j + 1 → i ≤ Sort.scanDown p d i j + 1 := by
  intro j
  induction j with
  | zero => intro h; rw [scanDown_eq p d i hi, if_neg (fun h => by omega)]; exact h
  | succ k ih =>
    intro h
    rw [scanDown_eq p d i hi]
    split
    · exact ih (by omega)
    · exact h
theorem scan_ne (p q : Nat → Bool) (hq : ∀ x, q x = !p x) {d : Array Nat} {i j I J : Nat} (h1 : 1 ≤ i) (hI : I = Sort.scanUp p d j i) (hJ : J = Sort.scanDown q d I j) : I ≠ J := fun e => by
  obtain ⟨u1, _, _, u4⟩ := Sort.scanUp_spec p d j _ i rfl
  obtain ⟨v1, _, _, v4⟩ := Sort.scanDown_spec q d I j
  rw [← hI] at u1 u4
  rw [← hJ, ← e] at v1 v4
  have f1 := u4 v1
  have f2 := v4 (Nat.le_refl _) (by omega)
  rw [hq, f1] at f2
  exact absurd f2 (by decide)
set_option linter.unusedSimpArgs false in
set_option maxHeartbeats 6400000 in
theorem partEq_any {w : World} {g c a b pv : Nat} {d : Array Nat} (hr : Rw w g c d) (hap : a ≤ pv) (hpb : pv < b) (hb : b ≤ d.size) (hd : d.size ≤ 1000000) :
    Calls Tryz.prog 196 #[.slice (some ⟨g, 0, none⟩) d.size c, .int .i64 (a : Int), .int .i64 (b : Int), .int .i64 (pv : Int)] w fun e w' =>
      e = .returned (.int .i64 ((Sort.partitionEqual ltN d a b pv).1 : Int)) ∧ Turn [g] w w' ∧ Rw w' g c (Sort.partitionEqual ltN d a b pv).2 := by
  obtain ⟨m, hm⟩ : ∃ m, m = d.size := ⟨_, rfl⟩
  have HSZ : Hid (d.size = m) := Lib.hid hm.symm
  obtain ⟨jb, hjb⟩ : ∃ j, b = j + 1 := ⟨b - 1, by omega⟩
  obtain ⟨RR, hR⟩ : ∃ R, R = Sort.partitionEqual ltN d a b pv := ⟨_, rfl⟩
  have HR : Hid (Sort.partEqLoop ltN a (a + 1) jb (Sort.swp d a pv) = RR) := Lib.hid (by rw [hR, hjb]; rfl)
  have HW0 : Hid (Turn [g] w w ∧ Rw w g c d) := Lib.hid ⟨Turn.refl _ _, hr⟩
  rw [← hR, ← hm]
  rw [← hm] at hb hd
  have z0 : IntKind.i64.wrap ((b : Int) - 1) = (jb : Int) := by rw [IntWalk.i64_in _ (by omega)]; omega
  have hjm : jb < m := by omega
  have hpm : pv < m := by omega
  have haj : a ≤ jb := by omega
  clear hR hm hr hjb hb hpb
  go_enter Tryz.func196, Tryz.ntmps196
  have cl : w.cell? ⟨g, a, none⟩ = some (.int .u32 (d[a]! : Int)) := HW0.out.2.cell (by have := HSZ.out; omega)
  have cr : w.cell? ⟨g, pv, none⟩ = some (.int .u32 (d[pv]! : Int)) := HW0.out.2.cell (by have := HSZ.out; omega)
  have fr : ∀ t, w.frozen? ⟨g, t, none⟩ = false := fun t => HW0.out.2.frozen t
  obtain ⟨fz, hfz⟩ := HW0.out.2.sc (i := a) (j := pv) (by have := HSZ.out; omega) (by have := HSZ.out; omega)
  obtain ⟨xl, hxl⟩ : ∃ z, z = d[a]! := ⟨_, rfl⟩
  obtain ⟨xr, hxr⟩ : ∃ z, z = d[pv]! := ⟨_, rfl⟩
  rw [← hxl] at cl
  rw [← hxr] at cr
  have HXL := Lib.hid hxl; have HXR := Lib.hid hxr
  clear hxl hxr
  go_upto_region 1 with fail
  go_region
  have HV : Hid (Turn [g] w ((w.setCell ⟨g, a, none⟩ (.int .u32 (xr : Int))).setCell ⟨g, pv, none⟩ (.int .u32 (xl : Int))).drew ∧ Rw ((w.setCell ⟨g, a, none⟩ (.int .u32 (xr : Int))).setCell ⟨g, pv, none⟩ (.int .u32 (xl : Int))).drew g c (Sort.swp d a pv)) := Lib.hid ⟨(swp_turn HW0.out.1).drew, (Rw.swp HW0.out.2 (by have := HSZ.out; omega) (by have := HSZ.out; omega) rfl rfl HXR.out HXL.out).any rfl⟩
  clear cl cr fr hfz fz HXL HXR
  generalize ((w.setCell ⟨g, a, none⟩ (.int .u32 (xr : Int))).setCell ⟨g, pv, none⟩ (.int .u32 (xl : Int))).drew = V at HV ⊢
  clear HW0
  have HSD : Hid ((Sort.swp d a pv).size = m) := Lib.hid ((swp_size _ _ _).trans HSZ.out)
  have HRR : Hid (Sort.partEqLoop ltN a (a + 1) jb (Sort.swp d a pv) = RR) := HR
  clear HR HSZ
  generalize Sort.swp d a pv = d1 at HV HSD HRR
  go_wp2_with fail
  go_loopw [9, 10] (fun v9 v10 W => ∃ (i1 j1 : Nat) (dk : Array Nat), v9 = .int .i64 (i1 : Int) ∧ v10 = .int .i64 (j1 : Int) ∧ ((a < i1 ∧ i1 ≤ j1 + 1) ∧ j1 < m) ∧ Hid (dk.size = m ∧ Turn [g] w W ∧ Rw W g c dk ∧ Sort.partEqLoop ltN a i1 j1 dk = RR)) (fun v9 v10 _ => (intOf v10).toNat + 1 - (intOf v9).toNat)
  case atStart => exact ⟨a + 1, jb, d1, by go_num, by go_num, by omega, Lib.hid ⟨HSD.out, HV.out.1, HV.out.2, HRR.out⟩⟩
  case round =>
    clear HV HSD HRR
    obtain ⟨i1, j1, dk, rfl, rfl, hrg, hh⟩ := hrel
    obtain ⟨⟨hrg1, hrg2⟩, hrg3⟩ := hrg
    have HSZ := Lib.hid hh.out.1
    have HTW0 := Lib.hid (And.intro hh.out.2.1 hh.out.2.2.1)
    obtain ⟨px, hpx⟩ : ∃ z, z = dk[a]! := ⟨_, rfl⟩
    have HPX := Lib.hid hpx
    have HPL0 := Lib.hid (hh.out.2.2.2)
    clear hh hpx
    have HPLX : Hid (∀ I1 J1, I1 = Sort.scanUp (fun y => !ltN px y) dk j1 i1 → J1 = Sort.scanDown (fun y => ltN px y) dk I1 j1 → (I1 > J1 → I1 = RR.1 ∧ dk = RR.2) ∧ (¬ I1 > J1 → Sort.partEqLoop ltN a (I1 + 1) (J1 - 1) (Sort.swp dk I1 J1) = RR)) := Lib.hid (fun I1 J1 h1 h2 => by
      have he := HPL0.out
      rw [Sort.partEqLoop_eq, ← HPX.out] at he
      rw [← h1, ← h2] at he
      constructor
      · intro h; rw [if_pos h] at he; rw [← he]; exact ⟨rfl, rfl⟩
      · intro h; rw [if_neg h] at he; exact he)
    clear HPL0
    obtain ⟨I1, hI1⟩ : ∃ z, z = Sort.scanUp (fun y => !ltN px y) dk j1 i1 := ⟨_, rfl⟩
    have HI1 := Lib.hid hI1.symm
    have hbI1 : (i1 ≤ I1 ∧ I1 ≤ j1 + 1) := by
      rw [hI1]
      exact ⟨Sort.scanUp_ge _ _ _ _, scanUp_le _ _ _ _ (by omega)⟩
    have HQI1 := Lib.hid hI1
    clear hI1
    try go_wp2_with fail
    go_loopw [9] (fun v9 W => ∃ i : Nat, v9 = .int .i64 (i : Int) ∧ (i1 ≤ i ∧ i ≤ j1 + 1) ∧ Hid (Turn [g] w W ∧ Rw W g c dk ∧ Sort.scanUp (fun y => !ltN px y) dk j1 i = I1)) (fun v9 _ => j1 + 1 - (intOf v9).toNat)
    case atStart => exact ⟨i1, by go_num, by omega, Lib.hid ⟨HTW0.out.1, HTW0.out.2, HI1.out⟩⟩
    case round =>
      clear HTW0 HI1
      obtain ⟨i, rfl, hir, hh⟩ := hrel
      obtain ⟨hir1, hir2⟩ := hir
      obtain ⟨hT, hW, hE⟩ := hh.out
      have ca : wr.cell? ⟨g, a, none⟩ = some (.int .u32 (px : Int)) := by have := hW.cell (i := a) (by have := HSZ.out; omega); rw [this, HPX.out]
      have cv : i ≤ j1 → wr.cell? ⟨g, i, none⟩ = some (.int .u32 (dk[i]! : Int)) := fun h => hW.cell (by have := HSZ.out; omega)
      obtain ⟨x, hx⟩ : ∃ x, x = dk[i]! := ⟨_, rfl⟩
      obtain ⟨bb, hbb⟩ : ∃ bb : Bool, bb = (decide (i ≤ j1) && (!decide (px < x))) := ⟨_, rfl⟩
      have HN : Hid (bb = true → i ≤ j1 ∧ Sort.scanUp (fun y => !ltN px y) dk j1 (i + 1) = I1) := Lib.hid (fun h => by
        have h2 : i ≤ j1 ∧ (fun y => !ltN px y) dk[i]! = true := by rw [← hx]; rw [hbb] at h; simpa [ltN] using h
        rw [scanUp_eq (fun y => !ltN px y) dk j1 i, if_pos h2] at hE
        exact ⟨h2.1, hE⟩)
      have HS : Hid (bb = false → I1 = i) := Lib.hid (fun h => by
        have h2 : ¬ (i ≤ j1 ∧ (fun y => !ltN px y) dk[i]! = true) := by rw [← hx]; rw [hbb] at h; simpa [ltN] using h
        rw [scanUp_eq (fun y => !ltN px y) dk j1 i, if_neg h2] at hE
        exact hE.symm)
      rw [← hx] at cv
      have HBB := Lib.hid hbb; have HTW := Lib.hid (And.intro hT hW)
      clear hT hW hE hh hx hbb
      go_upto_region 3 with fail
      go_cut [43] from 29 to 45 (fun v43 wx => v43 = .bool bb ∧ Hid (Turn [g] w wx ∧ Rw wx g c dk))
      case first =>
        clear HN HS
        by_cases h1 : i ≤ j1
        · have h1z : (i : Int) ≤ (j1 : Int) := by omega
          replace cv := cv h1
          have hbe : bb = (!decide (px < x)) := by rw [HBB.out, decide_eq_true h1, Bool.true_and]
          have HBE := Lib.hid hbe
          clear hbe
          go_big_quiet (first | (go_at_call 195; refine Calls.quiet_of_same (Less_any _ _ _)))
          go_wp2_with fail
          go_meet
          case rel => exact ⟨by rw [HBE.out], Lib.hid ⟨HTW.out.1.drewN nq, HTW.out.2.any rfl⟩⟩
        · have h1z : decide ((i : Int) ≤ (j1 : Int)) = false := decide_eq_false (by omega)
          have hbe : bb = false := by rw [HBB.out, decide_eq_false h1, Bool.false_and]
          have HBE := Lib.hid hbe
          clear hbe cv
          go_big_quiet (first | (go_at_call 195; refine Calls.quiet_of_same (Less_any _ _ _)))
          go_wp2_with fail
          go_meet
          case rel => exact ⟨by rw [HBE.out], Lib.hid ⟨HTW.out.1.drewN nq, HTW.out.2.any rfl⟩⟩
      case rest =>
        obtain ⟨rfl, hcc⟩ := hcut
        clear HTW HBB ca cv
        cases hb2 : bb
        · have hv := HS.out hb2
          subst hb2
          subst hv
          clear HN HS
          have hone : 1 ≤ I1 := by omega
          have HCC := hcc
          clear hcc
          obtain ⟨J1, hJ1⟩ : ∃ z, z = Sort.scanDown (fun y => ltN px y) dk I1 j1 := ⟨_, rfl⟩
          have HJ1 := Lib.hid hJ1.symm
          have hbJ1 : (I1 ≤ J1 + 1 ∧ J1 ≤ j1) := by
            rw [hJ1]
            exact ⟨scanDown_ge _ _ _ hone _ (by omega), Sort.scanDown_le _ _ _ _⟩
          have HQJ1 := Lib.hid hJ1
          clear hJ1
          try go_wp2_with fail
          go_loopw [10] (fun v10 W => ∃ j : Nat, v10 = .int .i64 (j : Int) ∧ (I1 ≤ j + 1 ∧ j ≤ j1) ∧ Hid (Turn [g] w W ∧ Rw W g c dk ∧ Sort.scanDown (fun y => ltN px y) dk I1 j = J1)) (fun v10 _ => (intOf v10).toNat)
          case atStart => exact ⟨j1, by go_num, by omega, Lib.hid ⟨HCC.out.1, HCC.out.2, HJ1.out⟩⟩
          case round =>
            clear HCC HJ1
            obtain ⟨j, rfl, hir, hh⟩ := hrel
            obtain ⟨hir1, hir2⟩ := hir
            obtain ⟨hT, hW, hE⟩ := hh.out
            have ca : wr.cell? ⟨g, a, none⟩ = some (.int .u32 (px : Int)) := by have := hW.cell (i := a) (by have := HSZ.out; omega); rw [this, HPX.out]
            have cv : I1 ≤ j → wr.cell? ⟨g, j, none⟩ = some (.int .u32 (dk[j]! : Int)) := fun h => hW.cell (by have := HSZ.out; omega)
            obtain ⟨x, hx⟩ : ∃ x, x = dk[j]! := ⟨_, rfl⟩
            obtain ⟨bb, hbb⟩ : ∃ bb : Bool, bb = (decide (I1 ≤ j) && decide (px < x)) := ⟨_, rfl⟩
            have HN : Hid (bb = true → I1 ≤ j ∧ Sort.scanDown (fun y => ltN px y) dk I1 (j - 1) = J1) := Lib.hid (fun h => by
              have h2 : I1 ≤ j ∧ (fun y => ltN px y) dk[j]! = true := by rw [← hx]; rw [hbb] at h; simpa [ltN] using h
              rw [scanDown_eq (fun y => ltN px y) dk I1 hone j, if_pos h2] at hE
              exact ⟨h2.1, hE⟩)
            have HS : Hid (bb = false → J1 = j) := Lib.hid (fun h => by
              have h2 : ¬ (I1 ≤ j ∧ (fun y => ltN px y) dk[j]! = true) := by rw [← hx]; rw [hbb] at h; simpa [ltN] using h
              rw [scanDown_eq (fun y => ltN px y) dk I1 hone j, if_neg h2] at hE
              exact hE.symm)
            rw [← hx] at cv
            have HBB := Lib.hid hbb; have HTW := Lib.hid (And.intro hT hW)
            clear hT hW hE hh hx hbb
            go_upto_region 5 with fail
            go_cut [59] from 46 to 61 (fun v59 wx => v59 = .bool bb ∧ Hid (Turn [g] w wx ∧ Rw wx g c dk))
            case first =>
              clear HN HS
              by_cases h1 : I1 ≤ j
              · have h1z : (I1 : Int) ≤ (j : Int) := by omega
                replace cv := cv h1
                have hbe : bb = decide (px < x) := by rw [HBB.out, decide_eq_true h1, Bool.true_and]
                have HBE := Lib.hid hbe
                clear hbe
                go_big_quiet (first | (go_at_call 195; refine Calls.quiet_of_same (Less_any _ _ _)))
                go_wp2_with fail
                go_meet
                case rel => exact ⟨by rw [HBE.out], Lib.hid ⟨HTW.out.1.drewN nq, HTW.out.2.any rfl⟩⟩
              · have h1z : decide ((I1 : Int) ≤ (j : Int)) = false := decide_eq_false (by omega)
                have hbe : bb = false := by rw [HBB.out, decide_eq_false h1, Bool.false_and]
                have HBE := Lib.hid hbe
                clear hbe cv
                go_big_quiet (first | (go_at_call 195; refine Calls.quiet_of_same (Less_any _ _ _)))
                go_wp2_with fail
                go_meet
                case rel => exact ⟨by rw [HBE.out], Lib.hid ⟨HTW.out.1.drewN nq, HTW.out.2.any rfl⟩⟩
            case rest =>
              obtain ⟨rfl, hcc⟩ := hcut
              clear HTW HBB ca cv
              cases hb2 : bb
              · have hv := HS.out hb2
                subst hb2
                subst hv
                clear HN HS
                have HPL := Lib.hid (HPLX.out I1 J1 HQI1.out HQJ1.out)
                have hne : I1 ≠ J1 := scan_ne (fun y => !ltN px y) (fun y => ltN px y) (fun y => by simp) (by omega) HQI1.out HQJ1.out
                clear HPLX HQI1 HQJ1
                by_cases hgt : I1 > J1
                · have hz : (I1 : Int) > (J1 : Int) := by omega
                  have hfin := HPL.out.1 hgt
                  clear HPL
                  go_wp2_with fail
                  go_ret
                  exact ⟨by rw [← hfin.1]; rfl, hcc.out.1, by rw [← hfin.2]; exact hcc.out.2⟩
                · have hz : ¬ (I1 : Int) > (J1 : Int) := by omega
                  have HP2 := Lib.hid (HPL.out.2 hgt)
                  have HC2 := hcc
                  clear hcc HPL
                  have cl : wc.cell? ⟨g, I1, none⟩ = some (.int .u32 (dk[I1]! : Int)) := HC2.out.2.cell (by have := HSZ.out; omega)
                  have cr : wc.cell? ⟨g, J1, none⟩ = some (.int .u32 (dk[J1]! : Int)) := HC2.out.2.cell (by have := HSZ.out; omega)
                  have fr : ∀ t, wc.frozen? ⟨g, t, none⟩ = false := fun t => HC2.out.2.frozen t
                  obtain ⟨fz, hfz⟩ := HC2.out.2.sc (i := I1) (j := J1) (by have := HSZ.out; omega) (by have := HSZ.out; omega)
                  obtain ⟨xl, hxl⟩ : ∃ z, z = dk[I1]! := ⟨_, rfl⟩
                  obtain ⟨xr, hxr⟩ : ∃ z, z = dk[J1]! := ⟨_, rfl⟩
                  rw [← hxl] at cl
                  rw [← hxr] at cr
                  have HXL := Lib.hid hxl; have HXR := Lib.hid hxr
                  clear hxl hxr
                  go_upto_region 8 with fail
                  go_region
                  have HV : Hid (Turn [g] w ((wc.setCell ⟨g, I1, none⟩ (.int .u32 (xr : Int))).setCell ⟨g, J1, none⟩ (.int .u32 (xl : Int))).drew ∧ Rw ((wc.setCell ⟨g, I1, none⟩ (.int .u32 (xr : Int))).setCell ⟨g, J1, none⟩ (.int .u32 (xl : Int))).drew g c (Sort.swp dk I1 J1)) := Lib.hid ⟨(swp_turn HC2.out.1).drew, (Rw.swp HC2.out.2 (by have := HSZ.out; omega) (by have := HSZ.out; omega) rfl rfl HXR.out HXL.out).any rfl⟩
                  clear cl cr fr hfz fz HXL HXR
                  generalize ((wc.setCell ⟨g, I1, none⟩ (.int .u32 (xr : Int))).setCell ⟨g, J1, none⟩ (.int .u32 (xl : Int))).drew = V at HV ⊢
                  clear HC2
                  have HSZ2 : Hid ((Sort.swp dk I1 J1).size = m) := Lib.hid ((swp_size _ _ _).trans HSZ.out)
                  go_wp2_with fail
                  go_roundw
                  case rel => exact ⟨I1 + 1, J1 - 1, Sort.swp dk I1 J1, by go_num, by congr 1; omega, ⟨⟨by omega, by omega⟩, by omega⟩, Lib.hid ⟨HSZ2.out, HV.out.1, HV.out.2, HP2.out⟩⟩
                  case measure => simp [intOf]; omega
              · obtain ⟨hn1, hn2⟩ := HN.out hb2
                have HNE := Lib.hid hn2
                subst hb2
                clear hn2 HN HS
                go_wp2_with fail
                go_roundw
                case rel => exact ⟨j - 1, by congr 1; omega, by omega, Lib.hid ⟨hcc.out.1, hcc.out.2, HNE.out⟩⟩
                case measure => simp [intOf]; omega
        · obtain ⟨hn1, hn2⟩ := HN.out hb2
          have HNE := Lib.hid hn2
          subst hb2
          clear hn2 HN HS
          go_wp2_with fail
          go_roundw
          case rel => exact ⟨i + 1, by go_num, by omega, Lib.hid ⟨hcc.out.1, hcc.out.2, HNE.out⟩⟩
          case measure => simp [intOf]; omega
end Go.Proofs.YtojpcgjmainbfaaGreat.Srt

/-
  Partitions at uint32.
-/
namespace Go.Proofs.YtojpcgjmainbfaaGreat.Srt
open Go.RowKit RowLaw
open Go.Proofs.YtojpcgjmainbfaaGreat.Dev (Turn)
set_option maxRecDepth 100000
set_option linter.unusedSimpArgs false in
set_option maxHeartbeats 12800000 in
theorem partition_any {w : World} {g c a b pv : Nat} {d : Array Nat} (hr : Rw w g c d) (hap : a ≤ pv) (hpb : pv < b) (hb : b ≤ d.size) (hd : d.size ≤ 1000000) :
    Calls Tryz.prog 197 #[.slice (some ⟨g, 0, none⟩) d.size c, .int .i64 (a : Int), .int .i64 (b : Int), .int .i64 (pv : Int)] w fun e w' =>
      e = .returned (.tuple #[.int .i64 ((Sort.partition ltN d a b pv).1 : Int), .bool (Sort.partition ltN d a b pv).2.1]) ∧ Turn [g] w w' ∧ Rw w' g c (Sort.partition ltN d a b pv).2.2 := by
  obtain ⟨m, hm⟩ : ∃ m, m = d.size := ⟨_, rfl⟩
  have HSZ : Hid (d.size = m) := Lib.hid hm.symm
  obtain ⟨jb, hjb⟩ : ∃ j, b = j + 1 := ⟨b - 1, by omega⟩
  obtain ⟨RR, hR⟩ : ∃ R, R = Sort.partition ltN d a b pv := ⟨_, rfl⟩
  have HRX : Hid (∀ px, px = (Sort.swp d a pv)[a]! → ∀ I J, I = Sort.scanUp (fun y => ltN y px) (Sort.swp d a pv) jb (a + 1) → J = Sort.scanDown (fun y => !ltN y px) (Sort.swp d a pv) I jb →
      (I > J → RR = (J, true, Sort.swp (Sort.swp d a pv) J a)) ∧ (¬ I > J → RR = ((Sort.partLoop ltN a (I + 1) (J - 1) (Sort.swp (Sort.swp d a pv) I J)).1, false, Sort.swp (Sort.partLoop ltN a (I + 1) (J - 1) (Sort.swp (Sort.swp d a pv) I J)).2 (Sort.partLoop ltN a (I + 1) (J - 1) (Sort.swp (Sort.swp d a pv) I J)).1 a))) := Lib.hid (fun px hpx I J hI hJ => by
    have he : RR = if I > J then (J, true, Sort.swp (Sort.swp d a pv) J a) else ((Sort.partLoop ltN a (I + 1) (J - 1) (Sort.swp (Sort.swp d a pv) I J)).1, false, Sort.swp (Sort.partLoop ltN a (I + 1) (J - 1) (Sort.swp (Sort.swp d a pv) I J)).2 (Sort.partLoop ltN a (I + 1) (J - 1) (Sort.swp (Sort.swp d a pv) I J)).1 a) := by
      subst hJ hI hpx
      rw [hR, hjb]
      rfl
    exact ⟨fun h => by rw [he, if_pos h], fun h => by rw [he, if_neg h]⟩)
  have HW0 : Hid (Turn [g] w w ∧ Rw w g c d) := Lib.hid ⟨Turn.refl _ _, hr⟩
  rw [← hR, ← hm]
  rw [← hm] at hb hd
  have z0 : IntKind.i64.wrap ((b : Int) - 1) = (jb : Int) := by rw [IntWalk.i64_in _ (by omega)]; omega
  have hjm : jb < m := by omega
  have hpm : pv < m := by omega
  have haj : a ≤ jb := by omega
  clear hR hm hr hjb hb hpb
  go_enter Tryz.func197, Tryz.ntmps197
  have cl : w.cell? ⟨g, a, none⟩ = some (.int .u32 (d[a]! : Int)) := HW0.out.2.cell (by have := HSZ.out; omega)
  have cr : w.cell? ⟨g, pv, none⟩ = some (.int .u32 (d[pv]! : Int)) := HW0.out.2.cell (by have := HSZ.out; omega)
  have fr : ∀ t, w.frozen? ⟨g, t, none⟩ = false := fun t => HW0.out.2.frozen t
  obtain ⟨fz, hfz⟩ := HW0.out.2.sc (i := a) (j := pv) (by have := HSZ.out; omega) (by have := HSZ.out; omega)
  obtain ⟨xl, hxl⟩ : ∃ z, z = d[a]! := ⟨_, rfl⟩
  obtain ⟨xr, hxr⟩ : ∃ z, z = d[pv]! := ⟨_, rfl⟩
  rw [← hxl] at cl
  rw [← hxr] at cr
  have HXL := Lib.hid hxl; have HXR := Lib.hid hxr
  clear hxl hxr
  go_upto_region 1 with fail
  go_region
  have HV : Hid (Turn [g] w ((w.setCell ⟨g, a, none⟩ (.int .u32 (xr : Int))).setCell ⟨g, pv, none⟩ (.int .u32 (xl : Int))).drew ∧ Rw ((w.setCell ⟨g, a, none⟩ (.int .u32 (xr : Int))).setCell ⟨g, pv, none⟩ (.int .u32 (xl : Int))).drew g c (Sort.swp d a pv)) := Lib.hid ⟨(swp_turn HW0.out.1).drew, (Rw.swp HW0.out.2 (by have := HSZ.out; omega) (by have := HSZ.out; omega) rfl rfl HXR.out HXL.out).any rfl⟩
  clear cl cr fr hfz fz HXL HXR
  generalize ((w.setCell ⟨g, a, none⟩ (.int .u32 (xr : Int))).setCell ⟨g, pv, none⟩ (.int .u32 (xl : Int))).drew = V at HV ⊢
  clear HW0
  have HSD : Hid ((Sort.swp d a pv).size = m) := Lib.hid ((swp_size _ _ _).trans HSZ.out)
  clear HSZ
  generalize Sort.swp d a pv = dk at HV HSD HRX
  have HSZ := HSD
  clear HSD
  obtain ⟨px, hpx⟩ : ∃ z, z = dk[a]! := ⟨_, rfl⟩
  have HPX := Lib.hid hpx
  have HR := Lib.hid (HRX.out px hpx)
  clear hpx HRX
  obtain ⟨I0, hI0⟩ : ∃ z, z = Sort.scanUp (fun y => ltN y px) dk jb (a + 1) := ⟨_, rfl⟩
  have HI0 := Lib.hid hI0.symm
  have hbI0 : ((a + 1) ≤ I0 ∧ I0 ≤ jb + 1) := by
    rw [hI0]
    exact ⟨Sort.scanUp_ge _ _ _ _, scanUp_le _ _ _ _ (by omega)⟩
  have HQI0 := Lib.hid hI0
  clear hI0
  try go_wp2_with fail
  go_loopw [10] (fun v10 W => ∃ i : Nat, v10 = .int .i64 (i : Int) ∧ ((a + 1) ≤ i ∧ i ≤ jb + 1) ∧ Hid (Turn [g] w W ∧ Rw W g c dk ∧ Sort.scanUp (fun y => ltN y px) dk jb i = I0)) (fun v10 _ => jb + 1 - (intOf v10).toNat)
  case atStart => exact ⟨(a + 1), by go_num, by omega, Lib.hid ⟨HV.out.1, HV.out.2, HI0.out⟩⟩
  case round =>
    clear HV HI0
    obtain ⟨i, rfl, hir, hh⟩ := hrel
    obtain ⟨hir1, hir2⟩ := hir
    obtain ⟨hT, hW, hE⟩ := hh.out
    have ca : wr.cell? ⟨g, a, none⟩ = some (.int .u32 (px : Int)) := by have := hW.cell (i := a) (by have := HSZ.out; omega); rw [this, HPX.out]
    have cv : i ≤ jb → wr.cell? ⟨g, i, none⟩ = some (.int .u32 (dk[i]! : Int)) := fun h => hW.cell (by have := HSZ.out; omega)
    obtain ⟨x, hx⟩ : ∃ x, x = dk[i]! := ⟨_, rfl⟩
    obtain ⟨bb, hbb⟩ : ∃ bb : Bool, bb = (decide (i ≤ jb) && decide (x < px)) := ⟨_, rfl⟩
    have HN : Hid (bb = true → i ≤ jb ∧ Sort.scanUp (fun y => ltN y px) dk jb (i + 1) = I0) := Lib.hid (fun h => by
      have h2 : i ≤ jb ∧ (fun y => ltN y px) dk[i]! = true := by rw [← hx]; rw [hbb] at h; simpa [ltN] using h
      rw [scanUp_eq (fun y => ltN y px) dk jb i, if_pos h2] at hE
      exact ⟨h2.1, hE⟩)
    have HS : Hid (bb = false → I0 = i) := Lib.hid (fun h => by
      have h2 : ¬ (i ≤ jb ∧ (fun y => ltN y px) dk[i]! = true) := by rw [← hx]; rw [hbb] at h; simpa [ltN] using h
      rw [scanUp_eq (fun y => ltN y px) dk jb i, if_neg h2] at hE
      exact hE.symm)
    rw [← hx] at cv
    have HBB := Lib.hid hbb; have HTW := Lib.hid (And.intro hT hW)
    clear hT hW hE hh hx hbb
    go_upto_region 3 with fail
    go_cut [43] from 30 to 45 (fun v43 wx => v43 = .bool bb ∧ Hid (Turn [g] w wx ∧ Rw wx g c dk))
    case first =>
      clear HN HS
      by_cases h1 : i ≤ jb
      · have h1z : (i : Int) ≤ (jb : Int) := by omega
        replace cv := cv h1
        have hbe : bb = decide (x < px) := by rw [HBB.out, decide_eq_true h1, Bool.true_and]
        have HBE := Lib.hid hbe
        clear hbe
        go_big_quiet (first | (go_at_call 195; refine Calls.quiet_of_same (Less_any _ _ _)))
        go_wp2_with fail
        go_meet
        case rel => exact ⟨by rw [HBE.out], Lib.hid ⟨HTW.out.1.drewN nq, HTW.out.2.any rfl⟩⟩
      · have h1z : decide ((i : Int) ≤ (jb : Int)) = false := decide_eq_false (by omega)
        have hbe : bb = false := by rw [HBB.out, decide_eq_false h1, Bool.false_and]
        have HBE := Lib.hid hbe
        clear hbe cv
        go_big_quiet (first | (go_at_call 195; refine Calls.quiet_of_same (Less_any _ _ _)))
        go_wp2_with fail
        go_meet
        case rel => exact ⟨by rw [HBE.out], Lib.hid ⟨HTW.out.1.drewN nq, HTW.out.2.any rfl⟩⟩
    case rest =>
      obtain ⟨rfl, hcc⟩ := hcut
      clear HTW HBB ca cv
      cases hb2 : bb
      · have hv := HS.out hb2
        subst hb2
        subst hv
        clear HN HS
        have hone : 1 ≤ I0 := by omega
        have HCC := hcc
        clear hcc
        obtain ⟨J0, hJ0⟩ : ∃ z, z = Sort.scanDown (fun y => !ltN y px) dk I0 jb := ⟨_, rfl⟩
        have HJ0 := Lib.hid hJ0.symm
        have hbJ0 : (I0 ≤ J0 + 1 ∧ J0 ≤ jb) := by
          rw [hJ0]
          exact ⟨scanDown_ge _ _ _ hone _ (by omega), Sort.scanDown_le _ _ _ _⟩
        have HQJ0 := Lib.hid hJ0
        clear hJ0
        try go_wp2_with fail
        go_loopw [11] (fun v11 W => ∃ j : Nat, v11 = .int .i64 (j : Int) ∧ (I0 ≤ j + 1 ∧ j ≤ jb) ∧ Hid (Turn [g] w W ∧ Rw W g c dk ∧ Sort.scanDown (fun y => !ltN y px) dk I0 j = J0)) (fun v11 _ => (intOf v11).toNat)
        case atStart => exact ⟨jb, by go_num, by omega, Lib.hid ⟨HCC.out.1, HCC.out.2, HJ0.out⟩⟩
        case round =>
          clear HCC HJ0
          obtain ⟨j, rfl, hir, hh⟩ := hrel
          obtain ⟨hir1, hir2⟩ := hir
          obtain ⟨hT, hW, hE⟩ := hh.out
          have ca : wr.cell? ⟨g, a, none⟩ = some (.int .u32 (px : Int)) := by have := hW.cell (i := a) (by have := HSZ.out; omega); rw [this, HPX.out]
          have cv : I0 ≤ j → wr.cell? ⟨g, j, none⟩ = some (.int .u32 (dk[j]! : Int)) := fun h => hW.cell (by have := HSZ.out; omega)
          obtain ⟨x, hx⟩ : ∃ x, x = dk[j]! := ⟨_, rfl⟩
          obtain ⟨bb, hbb⟩ : ∃ bb : Bool, bb = (decide (I0 ≤ j) && (!decide (x < px))) := ⟨_, rfl⟩
          have HN : Hid (bb = true → I0 ≤ j ∧ Sort.scanDown (fun y => !ltN y px) dk I0 (j - 1) = J0) := Lib.hid (fun h => by
            have h2 : I0 ≤ j ∧ (fun y => !ltN y px) dk[j]! = true := by rw [← hx]; rw [hbb] at h; simpa [ltN] using h
            rw [scanDown_eq (fun y => !ltN y px) dk I0 hone j, if_pos h2] at hE
            exact ⟨h2.1, hE⟩)
          have HS : Hid (bb = false → J0 = j) := Lib.hid (fun h => by
            have h2 : ¬ (I0 ≤ j ∧ (fun y => !ltN y px) dk[j]! = true) := by rw [← hx]; rw [hbb] at h; simpa [ltN] using h
            rw [scanDown_eq (fun y => !ltN y px) dk I0 hone j, if_neg h2] at hE
            exact hE.symm)
          rw [← hx] at cv
          have HBB := Lib.hid hbb; have HTW := Lib.hid (And.intro hT hW)
          clear hT hW hE hh hx hbb
          go_upto_region 5 with fail
          go_cut [60] from 46 to 62 (fun v60 wx => v60 = .bool bb ∧ Hid (Turn [g] w wx ∧ Rw wx g c dk))
          case first =>
            clear HN HS
            by_cases h1 : I0 ≤ j
            · have h1z : (I0 : Int) ≤ (j : Int) := by omega
              replace cv := cv h1
              have hbe : bb = (!decide (x < px)) := by rw [HBB.out, decide_eq_true h1, Bool.true_and]
              have HBE := Lib.hid hbe
              clear hbe
              go_big_quiet (first | (go_at_call 195; refine Calls.quiet_of_same (Less_any _ _ _)))
              go_wp2_with fail
              go_meet
              case rel => exact ⟨by rw [HBE.out], Lib.hid ⟨HTW.out.1.drewN nq, HTW.out.2.any rfl⟩⟩
            · have h1z : decide ((I0 : Int) ≤ (j : Int)) = false := decide_eq_false (by omega)
              have hbe : bb = false := by rw [HBB.out, decide_eq_false h1, Bool.false_and]
              have HBE := Lib.hid hbe
              clear hbe cv
              go_big_quiet (first | (go_at_call 195; refine Calls.quiet_of_same (Less_any _ _ _)))
              go_wp2_with fail
              go_meet
              case rel => exact ⟨by rw [HBE.out], Lib.hid ⟨HTW.out.1.drewN nq, HTW.out.2.any rfl⟩⟩
          case rest =>
            obtain ⟨rfl, hcc⟩ := hcut
            clear HTW HBB ca cv
            cases hb2 : bb
            · have hv := HS.out hb2
              subst hb2
              subst hv
              clear HN HS
              have HPL := Lib.hid (HR.out I0 J0 HQI0.out HQJ0.out)
              have hne : I0 ≠ J0 := scan_ne (fun y => ltN y px) (fun y => !ltN y px) (fun y => rfl) (by omega) HQI0.out HQJ0.out
              clear HR HQI0 HQJ0
              by_cases hgt : I0 > J0
              · have hz : (I0 : Int) > (J0 : Int) := by omega
                have HFI := Lib.hid (HPL.out.1 hgt)
                have HC2 := hcc
                clear hcc HPL
                go_wp2_with fail
                have cl : wc.cell? ⟨g, J0, none⟩ = some (.int .u32 (dk[J0]! : Int)) := HC2.out.2.cell (by have := HSZ.out; omega)
                have cr : wc.cell? ⟨g, a, none⟩ = some (.int .u32 (dk[a]! : Int)) := HC2.out.2.cell (by have := HSZ.out; omega)
                have fr : ∀ t, wc.frozen? ⟨g, t, none⟩ = false := fun t => HC2.out.2.frozen t
                obtain ⟨fz, hfz⟩ := HC2.out.2.sc (i := J0) (j := a) (by have := HSZ.out; omega) (by have := HSZ.out; omega)
                obtain ⟨xl, hxl⟩ : ∃ z, z = dk[J0]! := ⟨_, rfl⟩
                obtain ⟨xr, hxr⟩ : ∃ z, z = dk[a]! := ⟨_, rfl⟩
                rw [← hxl] at cl
                rw [← hxr] at cr
                have HXL := Lib.hid hxl; have HXR := Lib.hid hxr
                clear hxl hxr
                go_upto_region 8 with fail
                go_region
                have HV : Hid (Turn [g] w ((wc.setCell ⟨g, J0, none⟩ (.int .u32 (xr : Int))).setCell ⟨g, a, none⟩ (.int .u32 (xl : Int))).drew ∧ Rw ((wc.setCell ⟨g, J0, none⟩ (.int .u32 (xr : Int))).setCell ⟨g, a, none⟩ (.int .u32 (xl : Int))).drew g c (Sort.swp dk J0 a)) := Lib.hid ⟨(swp_turn HC2.out.1).drew, (Rw.swp HC2.out.2 (by have := HSZ.out; omega) (by have := HSZ.out; omega) rfl rfl HXR.out HXL.out).any rfl⟩
                clear cl cr fr hfz fz HXL HXR
                generalize ((wc.setCell ⟨g, J0, none⟩ (.int .u32 (xr : Int))).setCell ⟨g, a, none⟩ (.int .u32 (xl : Int))).drew = V at HV ⊢
                clear HC2
                have HFIN : Hid (Turn [g] w V ∧ Rw V g c RR.2.2) := Lib.hid ⟨HV.out.1, by have := HV.out.2; rw [HFI.out]; exact this⟩
                have HF1 : Hid (J0 = RR.1 ∧ true = RR.2.1) := Lib.hid ⟨by rw [HFI.out], by rw [HFI.out]⟩
                clear HV HFI
                go_wp2_with fail
                go_ret2
                exact ⟨by rw [HF1.out.1, HF1.out.2]; rfl, HFIN.out⟩
              · have hz : ¬ (I0 : Int) > (J0 : Int) := by omega
                have HP2 := Lib.hid (HPL.out.2 hgt)
                have HC2 := hcc
                clear hcc HPL
                have cl : wc.cell? ⟨g, I0, none⟩ = some (.int .u32 (dk[I0]! : Int)) := HC2.out.2.cell (by have := HSZ.out; omega)
                have cr : wc.cell? ⟨g, J0, none⟩ = some (.int .u32 (dk[J0]! : Int)) := HC2.out.2.cell (by have := HSZ.out; omega)
                have fr : ∀ t, wc.frozen? ⟨g, t, none⟩ = false := fun t => HC2.out.2.frozen t
                obtain ⟨fz, hfz⟩ := HC2.out.2.sc (i := I0) (j := J0) (by have := HSZ.out; omega) (by have := HSZ.out; omega)
                obtain ⟨xl, hxl⟩ : ∃ z, z = dk[I0]! := ⟨_, rfl⟩
                obtain ⟨xr, hxr⟩ : ∃ z, z = dk[J0]! := ⟨_, rfl⟩
                rw [← hxl] at cl
                rw [← hxr] at cr
                have HXL := Lib.hid hxl; have HXR := Lib.hid hxr
                clear hxl hxr
                go_upto_region 10 with fail
                go_region
                have HV : Hid (Turn [g] w ((wc.setCell ⟨g, I0, none⟩ (.int .u32 (xr : Int))).setCell ⟨g, J0, none⟩ (.int .u32 (xl : Int))).drew ∧ Rw ((wc.setCell ⟨g, I0, none⟩ (.int .u32 (xr : Int))).setCell ⟨g, J0, none⟩ (.int .u32 (xl : Int))).drew g c (Sort.swp dk I0 J0)) := Lib.hid ⟨(swp_turn HC2.out.1).drew, (Rw.swp HC2.out.2 (by have := HSZ.out; omega) (by have := HSZ.out; omega) rfl rfl HXR.out HXL.out).any rfl⟩
                clear cl cr fr hfz fz HXL HXR
                generalize ((wc.setCell ⟨g, I0, none⟩ (.int .u32 (xr : Int))).setCell ⟨g, J0, none⟩ (.int .u32 (xl : Int))).drew = V at HV ⊢
                clear HC2
                have HSD : Hid ((Sort.swp dk I0 J0).size = m) := Lib.hid ((swp_size _ _ _).trans HSZ.out)
                obtain ⟨PL, hPL⟩ : ∃ z, z = Sort.partLoop ltN a (I0 + 1) (J0 - 1) (Sort.swp dk I0 J0) := ⟨_, rfl⟩
                have HPE := Lib.hid hPL.symm
                have HRES : Hid (RR = (PL.1, false, Sort.swp PL.2 PL.1 a)) := Lib.hid (by rw [hPL]; exact HP2.out)
                clear hPL HP2 HSZ HPX
                generalize Sort.swp dk I0 J0 = D at HV HSD HPE
                go_wp2_with fail
                go_loopw [10, 11] (fun v10 v11 W => ∃ (i1 j1 : Nat) (dk : Array Nat), v10 = .int .i64 (i1 : Int) ∧ v11 = .int .i64 (j1 : Int) ∧ ((a < i1 ∧ i1 ≤ j1 + 1) ∧ j1 < m) ∧ Hid (dk.size = m ∧ Turn [g] w W ∧ Rw W g c dk ∧ Sort.partLoop ltN a i1 j1 dk = PL)) (fun v10 v11 _ => (intOf v11).toNat + 1 - (intOf v10).toNat)
                case atStart => exact ⟨I0 + 1, J0 - 1, D, by go_num, by congr 1; omega, ⟨⟨by omega, by omega⟩, by omega⟩, Lib.hid ⟨HSD.out, HV.out.1, HV.out.2, HPE.out⟩⟩
                case round =>
                  clear HV HSD HPE
                  obtain ⟨i1, j1, dk, rfl, rfl, hrg, hh⟩ := hrel
                  obtain ⟨⟨hrg1, hrg2⟩, hrg3⟩ := hrg
                  have HSZ := Lib.hid hh.out.1
                  have HTW0 := Lib.hid (And.intro hh.out.2.1 hh.out.2.2.1)
                  obtain ⟨px, hpx⟩ : ∃ z, z = dk[a]! := ⟨_, rfl⟩
                  have HPX := Lib.hid hpx
                  have HPL0 := Lib.hid (hh.out.2.2.2)
                  clear hh hpx
                  have HPLX : Hid (∀ I1 J1, I1 = Sort.scanUp (fun y => ltN y px) dk j1 i1 → J1 = Sort.scanDown (fun y => !ltN y px) dk I1 j1 → (I1 > J1 → (J1, dk) = PL) ∧ (¬ I1 > J1 → Sort.partLoop ltN a (I1 + 1) (J1 - 1) (Sort.swp dk I1 J1) = PL)) := Lib.hid (fun I1 J1 h1 h2 => by
                    have he := HPL0.out
                    rw [Sort.partLoop_eq, ← HPX.out] at he
                    rw [← h1, ← h2] at he
                    constructor
                    · intro h; rw [if_pos h] at he; exact he
                    · intro h; rw [if_neg h] at he; exact he)
                  clear HPL0
                  obtain ⟨I2, hI2⟩ : ∃ z, z = Sort.scanUp (fun y => ltN y px) dk j1 i1 := ⟨_, rfl⟩
                  have HI2 := Lib.hid hI2.symm
                  have hbI2 : (i1 ≤ I2 ∧ I2 ≤ j1 + 1) := by
                    rw [hI2]
                    exact ⟨Sort.scanUp_ge _ _ _ _, scanUp_le _ _ _ _ (by omega)⟩
                  have HQI2 := Lib.hid hI2
                  clear hI2
                  try go_wp2_with fail
                  go_loopw [10] (fun v10 W => ∃ i : Nat, v10 = .int .i64 (i : Int) ∧ (i1 ≤ i ∧ i ≤ j1 + 1) ∧ Hid (Turn [g] w W ∧ Rw W g c dk ∧ Sort.scanUp (fun y => ltN y px) dk j1 i = I2)) (fun v10 _ => j1 + 1 - (intOf v10).toNat)
                  case atStart => exact ⟨i1, by go_num, by omega, Lib.hid ⟨HTW0.out.1, HTW0.out.2, HI2.out⟩⟩
                  case round =>
                    clear HTW0 HI2
                    obtain ⟨i, rfl, hir, hh⟩ := hrel
                    obtain ⟨hir1, hir2⟩ := hir
                    obtain ⟨hT, hW, hE⟩ := hh.out
                    have ca : wr.cell? ⟨g, a, none⟩ = some (.int .u32 (px : Int)) := by have := hW.cell (i := a) (by have := HSZ.out; omega); rw [this, HPX.out]
                    have cv : i ≤ j1 → wr.cell? ⟨g, i, none⟩ = some (.int .u32 (dk[i]! : Int)) := fun h => hW.cell (by have := HSZ.out; omega)
                    obtain ⟨x, hx⟩ : ∃ x, x = dk[i]! := ⟨_, rfl⟩
                    obtain ⟨bb, hbb⟩ : ∃ bb : Bool, bb = (decide (i ≤ j1) && decide (x < px)) := ⟨_, rfl⟩
                    have HN : Hid (bb = true → i ≤ j1 ∧ Sort.scanUp (fun y => ltN y px) dk j1 (i + 1) = I2) := Lib.hid (fun h => by
                      have h2 : i ≤ j1 ∧ (fun y => ltN y px) dk[i]! = true := by rw [← hx]; rw [hbb] at h; simpa [ltN] using h
                      rw [scanUp_eq (fun y => ltN y px) dk j1 i, if_pos h2] at hE
                      exact ⟨h2.1, hE⟩)
                    have HS : Hid (bb = false → I2 = i) := Lib.hid (fun h => by
                      have h2 : ¬ (i ≤ j1 ∧ (fun y => ltN y px) dk[i]! = true) := by rw [← hx]; rw [hbb] at h; simpa [ltN] using h
                      rw [scanUp_eq (fun y => ltN y px) dk j1 i, if_neg h2] at hE
                      exact hE.symm)
                    rw [← hx] at cv
                    have HBB := Lib.hid hbb; have HTW := Lib.hid (And.intro hT hW)
                    clear hT hW hE hh hx hbb
                    go_upto_region 13 with fail
                    go_cut [112] from 99 to 114 (fun v112 wx => v112 = .bool bb ∧ Hid (Turn [g] w wx ∧ Rw wx g c dk))
                    case first =>
                      clear HN HS
                      by_cases h1 : i ≤ j1
                      · have h1z : (i : Int) ≤ (j1 : Int) := by omega
                        replace cv := cv h1
                        have hbe : bb = decide (x < px) := by rw [HBB.out, decide_eq_true h1, Bool.true_and]
                        have HBE := Lib.hid hbe
                        clear hbe
                        go_big_quiet (first | (go_at_call 195; refine Calls.quiet_of_same (Less_any _ _ _)))
                        go_wp2_with fail
                        go_meet
                        case rel => exact ⟨by rw [HBE.out], Lib.hid ⟨HTW.out.1.drewN nq, HTW.out.2.any rfl⟩⟩
                      · have h1z : decide ((i : Int) ≤ (j1 : Int)) = false := decide_eq_false (by omega)
                        have hbe : bb = false := by rw [HBB.out, decide_eq_false h1, Bool.false_and]
                        have HBE := Lib.hid hbe
                        clear hbe cv
                        go_big_quiet (first | (go_at_call 195; refine Calls.quiet_of_same (Less_any _ _ _)))
                        go_wp2_with fail
                        go_meet
                        case rel => exact ⟨by rw [HBE.out], Lib.hid ⟨HTW.out.1.drewN nq, HTW.out.2.any rfl⟩⟩
                    case rest =>
                      obtain ⟨rfl, hcc⟩ := hcut
                      clear HTW HBB ca cv
                      cases hb2 : bb
                      · have hv := HS.out hb2
                        subst hb2
                        subst hv
                        clear HN HS
                        have hone : 1 ≤ I2 := by omega
                        have HCC := hcc
                        clear hcc
                        obtain ⟨J2, hJ2⟩ : ∃ z, z = Sort.scanDown (fun y => !ltN y px) dk I2 j1 := ⟨_, rfl⟩
                        have HJ2 := Lib.hid hJ2.symm
                        have hbJ2 : (I2 ≤ J2 + 1 ∧ J2 ≤ j1) := by
                          rw [hJ2]
                          exact ⟨scanDown_ge _ _ _ hone _ (by omega), Sort.scanDown_le _ _ _ _⟩
                        have HQJ2 := Lib.hid hJ2
                        clear hJ2
                        try go_wp2_with fail
                        go_loopw [11] (fun v11 W => ∃ j : Nat, v11 = .int .i64 (j : Int) ∧ (I2 ≤ j + 1 ∧ j ≤ j1) ∧ Hid (Turn [g] w W ∧ Rw W g c dk ∧ Sort.scanDown (fun y => !ltN y px) dk I2 j = J2)) (fun v11 _ => (intOf v11).toNat)
                        case atStart => exact ⟨j1, by go_num, by omega, Lib.hid ⟨HCC.out.1, HCC.out.2, HJ2.out⟩⟩
                        case round =>
                          clear HCC HJ2
                          obtain ⟨j, rfl, hir, hh⟩ := hrel
                          obtain ⟨hir1, hir2⟩ := hir
                          obtain ⟨hT, hW, hE⟩ := hh.out
                          have ca : wr.cell? ⟨g, a, none⟩ = some (.int .u32 (px : Int)) := by have := hW.cell (i := a) (by have := HSZ.out; omega); rw [this, HPX.out]
                          have cv : I2 ≤ j → wr.cell? ⟨g, j, none⟩ = some (.int .u32 (dk[j]! : Int)) := fun h => hW.cell (by have := HSZ.out; omega)
                          obtain ⟨x, hx⟩ : ∃ x, x = dk[j]! := ⟨_, rfl⟩
                          obtain ⟨bb, hbb⟩ : ∃ bb : Bool, bb = (decide (I2 ≤ j) && (!decide (x < px))) := ⟨_, rfl⟩
                          have HN : Hid (bb = true → I2 ≤ j ∧ Sort.scanDown (fun y => !ltN y px) dk I2 (j - 1) = J2) := Lib.hid (fun h => by
                            have h2 : I2 ≤ j ∧ (fun y => !ltN y px) dk[j]! = true := by rw [← hx]; rw [hbb] at h; simpa [ltN] using h
                            rw [scanDown_eq (fun y => !ltN y px) dk I2 hone j, if_pos h2] at hE
                            exact ⟨h2.1, hE⟩)
                          have HS : Hid (bb = false → J2 = j) := Lib.hid (fun h => by
                            have h2 : ¬ (I2 ≤ j ∧ (fun y => !ltN y px) dk[j]! = true) := by rw [← hx]; rw [hbb] at h; simpa [ltN] using h
                            rw [scanDown_eq (fun y => !ltN y px) dk I2 hone j, if_neg h2] at hE
                            exact hE.symm)
                          rw [← hx] at cv
                          have HBB := Lib.hid hbb; have HTW := Lib.hid (And.intro hT hW)
                          clear hT hW hE hh hx hbb
                          go_upto_region 15 with fail
                          go_cut [129] from 115 to 131 (fun v129 wx => v129 = .bool bb ∧ Hid (Turn [g] w wx ∧ Rw wx g c dk))
                          case first =>
                            clear HN HS
                            by_cases h1 : I2 ≤ j
                            · have h1z : (I2 : Int) ≤ (j : Int) := by omega
                              replace cv := cv h1
                              have hbe : bb = (!decide (x < px)) := by rw [HBB.out, decide_eq_true h1, Bool.true_and]
                              have HBE := Lib.hid hbe
                              clear hbe
                              go_big_quiet (first | (go_at_call 195; refine Calls.quiet_of_same (Less_any _ _ _)))
                              go_wp2_with fail
                              go_meet
                              case rel => exact ⟨by rw [HBE.out], Lib.hid ⟨HTW.out.1.drewN nq, HTW.out.2.any rfl⟩⟩
                            · have h1z : decide ((I2 : Int) ≤ (j : Int)) = false := decide_eq_false (by omega)
                              have hbe : bb = false := by rw [HBB.out, decide_eq_false h1, Bool.false_and]
                              have HBE := Lib.hid hbe
                              clear hbe cv
                              go_big_quiet (first | (go_at_call 195; refine Calls.quiet_of_same (Less_any _ _ _)))
                              go_wp2_with fail
                              go_meet
                              case rel => exact ⟨by rw [HBE.out], Lib.hid ⟨HTW.out.1.drewN nq, HTW.out.2.any rfl⟩⟩
                          case rest =>
                            obtain ⟨rfl, hcc⟩ := hcut
                            clear HTW HBB ca cv
                            cases hb2 : bb
                            · have hv := HS.out hb2
                              subst hb2
                              subst hv
                              clear HN HS
                              have HPL := Lib.hid (HPLX.out I2 J2 HQI2.out HQJ2.out)
                              have hne : I2 ≠ J2 := scan_ne (fun y => ltN y px) (fun y => !ltN y px) (fun y => rfl) (by omega) HQI2.out HQJ2.out
                              clear HPLX HQI2 HQJ2
                              by_cases hgt : I2 > J2
                              · have hz : (I2 : Int) > (J2 : Int) := by omega
                                have hfin := HPL.out.1 hgt
                                have HFI : Hid ((J2 = RR.1 ∧ false = RR.2.1) ∧ Sort.swp dk J2 a = RR.2.2) := Lib.hid (by
                                  rw [HRES.out]
                                  exact ⟨⟨by rw [← hfin], rfl⟩, by rw [← hfin]⟩)
                                have HC2 := hcc
                                clear hcc HPL hfin HRES
                                go_wp2_with fail
                                have cl : wc.cell? ⟨g, J2, none⟩ = some (.int .u32 (dk[J2]! : Int)) := HC2.out.2.cell (by have := HSZ.out; omega)
                                have cr : wc.cell? ⟨g, a, none⟩ = some (.int .u32 (dk[a]! : Int)) := HC2.out.2.cell (by have := HSZ.out; omega)
                                have fr : ∀ t, wc.frozen? ⟨g, t, none⟩ = false := fun t => HC2.out.2.frozen t
                                obtain ⟨fz, hfz⟩ := HC2.out.2.sc (i := J2) (j := a) (by have := HSZ.out; omega) (by have := HSZ.out; omega)
                                obtain ⟨xl, hxl⟩ : ∃ z, z = dk[J2]! := ⟨_, rfl⟩
                                obtain ⟨xr, hxr⟩ : ∃ z, z = dk[a]! := ⟨_, rfl⟩
                                rw [← hxl] at cl
                                rw [← hxr] at cr
                                have HXL := Lib.hid hxl; have HXR := Lib.hid hxr
                                clear hxl hxr
                                go_upto_region 21 with fail
                                go_region
                                have HV : Hid (Turn [g] w ((wc.setCell ⟨g, J2, none⟩ (.int .u32 (xr : Int))).setCell ⟨g, a, none⟩ (.int .u32 (xl : Int))).drew ∧ Rw ((wc.setCell ⟨g, J2, none⟩ (.int .u32 (xr : Int))).setCell ⟨g, a, none⟩ (.int .u32 (xl : Int))).drew g c (Sort.swp dk J2 a)) := Lib.hid ⟨(swp_turn HC2.out.1).drew, (Rw.swp HC2.out.2 (by have := HSZ.out; omega) (by have := HSZ.out; omega) rfl rfl HXR.out HXL.out).any rfl⟩
                                clear cl cr fr hfz fz HXL HXR
                                generalize ((wc.setCell ⟨g, J2, none⟩ (.int .u32 (xr : Int))).setCell ⟨g, a, none⟩ (.int .u32 (xl : Int))).drew = V at HV ⊢
                                clear HC2
                                have HFIN : Hid (Turn [g] w V ∧ Rw V g c RR.2.2) := Lib.hid ⟨HV.out.1, by have := HV.out.2; rw [HFI.out.2] at this; exact this⟩
                                have HF1 := Lib.hid HFI.out.1
                                clear HV HFI
                                go_wp2_with fail
                                go_ret2
                                exact ⟨by rw [HF1.out.1, HF1.out.2]; rfl, HFIN.out⟩
                              · have hz : ¬ (I2 : Int) > (J2 : Int) := by omega
                                have HP2 := Lib.hid (HPL.out.2 hgt)
                                have HC2 := hcc
                                clear hcc HPL
                                have cl : wc.cell? ⟨g, I2, none⟩ = some (.int .u32 (dk[I2]! : Int)) := HC2.out.2.cell (by have := HSZ.out; omega)
                                have cr : wc.cell? ⟨g, J2, none⟩ = some (.int .u32 (dk[J2]! : Int)) := HC2.out.2.cell (by have := HSZ.out; omega)
                                have fr : ∀ t, wc.frozen? ⟨g, t, none⟩ = false := fun t => HC2.out.2.frozen t
                                obtain ⟨fz, hfz⟩ := HC2.out.2.sc (i := I2) (j := J2) (by have := HSZ.out; omega) (by have := HSZ.out; omega)
                                obtain ⟨xl, hxl⟩ : ∃ z, z = dk[I2]! := ⟨_, rfl⟩
                                obtain ⟨xr, hxr⟩ : ∃ z, z = dk[J2]! := ⟨_, rfl⟩
                                rw [← hxl] at cl
                                rw [← hxr] at cr
                                have HXL := Lib.hid hxl; have HXR := Lib.hid hxr
                                clear hxl hxr
                                go_upto_region 18 with fail
                                go_region
                                have HV : Hid (Turn [g] w ((wc.setCell ⟨g, I2, none⟩ (.int .u32 (xr : Int))).setCell ⟨g, J2, none⟩ (.int .u32 (xl : Int))).drew ∧ Rw ((wc.setCell ⟨g, I2, none⟩ (.int .u32 (xr : Int))).setCell ⟨g, J2, none⟩ (.int .u32 (xl : Int))).drew g c (Sort.swp dk I2 J2)) := Lib.hid ⟨(swp_turn HC2.out.1).drew, (Rw.swp HC2.out.2 (by have := HSZ.out; omega) (by have := HSZ.out; omega) rfl rfl HXR.out HXL.out).any rfl⟩
                                clear cl cr fr hfz fz HXL HXR
                                generalize ((wc.setCell ⟨g, I2, none⟩ (.int .u32 (xr : Int))).setCell ⟨g, J2, none⟩ (.int .u32 (xl : Int))).drew = V at HV ⊢
                                clear HC2
                                have HSZ2 : Hid ((Sort.swp dk I2 J2).size = m) := Lib.hid ((swp_size _ _ _).trans HSZ.out)
                                go_wp2_with fail
                                go_roundw
                                case rel => exact ⟨I2 + 1, J2 - 1, Sort.swp dk I2 J2, by go_num, by congr 1; omega, ⟨⟨by omega, by omega⟩, by omega⟩, Lib.hid ⟨HSZ2.out, HV.out.1, HV.out.2, HP2.out⟩⟩
                                case measure => simp [intOf]; omega
                            · obtain ⟨hn1, hn2⟩ := HN.out hb2
                              have HNE := Lib.hid hn2
                              subst hb2
                              clear hn2 HN HS
                              go_wp2_with fail
                              go_roundw
                              case rel => exact ⟨j - 1, by congr 1; omega, by omega, Lib.hid ⟨hcc.out.1, hcc.out.2, HNE.out⟩⟩
                              case measure => simp [intOf]; omega
                      · obtain ⟨hn1, hn2⟩ := HN.out hb2
                        have HNE := Lib.hid hn2
                        subst hb2
                        clear hn2 HN HS
                        go_wp2_with fail
                        go_roundw
                        case rel => exact ⟨i + 1, by go_num, by omega, Lib.hid ⟨hcc.out.1, hcc.out.2, HNE.out⟩⟩
                        case measure => simp [intOf]; omega
            · obtain ⟨hn1, hn2⟩ := HN.out hb2
              have HNE := Lib.hid hn2
              subst hb2
              clear hn2 HN HS
              go_wp2_with fail
              go_roundw
              case rel => exact ⟨j - 1, by congr 1; omega, by omega, Lib.hid ⟨hcc.out.1, hcc.out.2, HNE.out⟩⟩
              case measure => simp [intOf]; omega
      · obtain ⟨hn1, hn2⟩ := HN.out hb2
        have HNE := Lib.hid hn2
        subst hb2
        clear hn2 HN HS
        go_wp2_with fail
        go_roundw
        case rel => exact ⟨i + 1, by go_num, by omega, Lib.hid ⟨hcc.out.1, hcc.out.2, HNE.out⟩⟩
        case measure => simp [intOf]; omega
end Go.Proofs.YtojpcgjmainbfaaGreat.Srt

