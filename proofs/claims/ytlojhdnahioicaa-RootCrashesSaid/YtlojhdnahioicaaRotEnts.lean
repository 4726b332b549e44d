/-
  The walks of root.entries and root.Mount.
-/
import Derived.Test.YtlojhdnahioicaaRotMount
namespace Go.Proofs.Ytlojhdnahioicaa.Rot
open Go.RowKit RowLaw Crc
set_option maxRecDepth 100000
open Go.Proofs.Ytlojhdnahioicaa.Fld (blockO)
open Go.Proofs.Ytlojhdnahioicaa.Slt (Rt cells rootO infoR sizeR cells_one IsRt getR getE getR_fits getE_cases Get_any)
open Go.Proofs.Ytlojhdnahioicaa.Dev (Dev DS ptr readB readR readE Read_any below_row)

def entR (s : DS) (a : Nat) : Rt := (rootAt s a).getD Slt.nil
def entK (s : DS) (a k : Nat) : Rt := if a < k then entR s a else Slt.nil
theorem entR_no {s : DS} {a : Nat} (h : getE (readB s a) = 250) : entR s a = Slt.nil := by
  unfold entR rootAt
  rw [if_neg (fun h1 => by have := h1.1; rw [h] at this; cases this)]
  rfl
theorem entR_far {s : DS} {a : Nat} (h : (getR (readB s a)).gen % 2 ≠ a) : entR s a = Slt.nil := by
  unfold entR rootAt
  rw [if_neg (fun h1 => h h1.2.1)]
  rfl
theorem entR_bad {s : DS} {a : Nat} (h : mayR (getR (readB s a)) s.n = false) : entR s a = Slt.nil := by
  unfold entR rootAt
  rw [if_neg (fun h1 => by have := h1.2.2; rw [h] at this; cases this)]
  rfl
theorem entR_yes {s : DS} {a : Nat} (h0 : getE (readB s a) = 0) (h1 : (getR (readB s a)).gen % 2 = a) (h2 : mayR (getR (readB s a)) s.n = true) : entR s a = getR (readB s a) := by
  unfold entR rootAt
  rw [if_pos ⟨h0, h1, h2⟩]
  rfl
theorem ne_one {q : Nat} : ∀ x ∈ ([] : List (Nat × Obj)), x.1 ≠ q := fun _ h => by cases h

set_option maxHeartbeats 6400000 in
theorem entries_any {w : World} {p : Nat} {B : List Nat} {s : DS} (hd : Dev w p B s) (hn : planOk s.n = true) (hlen : s.pend.length < 4294967296) :
    Calls Try.prog 42 #[ptr p] w fun e w' => e = .returned (.agg (entC (entR s 0) (entR s 1))) ∧ Below w.heap.size w w' := by
  have hzb := (zero_of_info infoBlock).1
  have hzr := (zero_of_info infoR).1
  have hze := (zero_of_info infoEs).1
  have hn2 : 64 ≤ s.n := by have : 64 ≤ s.n ∧ s.n ≤ 1048576 := by simpa [planOk] using hn
                            exact this.1
  have HB := Lib.hid (fun (r : Rt) (W : World) => mayBe_any hn r W)
  have HRd : Hid (∀ (a : Nat), a < 2 → ∀ W, Below w.heap.size w W → Calls Try.prog 17 #[ptr p, .int .u32 (a : Int)] W fun e w' => e = .returned (.tuple #[.agg (cellsOf (readB s a)), .int .i64 0]) ∧ Below W.heap.size W w') := Lib.hid (fun a ha W hW => by
    have := Read_any (hd.below hW) (a := a) (by omega) hlen
    rw [readR, if_neg (by omega), readE, if_neg (by omega)] at this
    exact this)
  have HSz : Hid (∀ W, Below w.heap.size w W → Calls Try.prog 26 #[ptr p] W fun e w' => e = .returned (.int .u32 (s.n : Int)) ∧ w' = W) := Lib.hid (fun W hW => Size_any (hd.below hW))
  have HL := Lib.hid (fun a => hd.readLen a)
  have hK := (Kept.start w).alloc (entsO Slt.nil Slt.nil)
  clear hd hlen hn
  unfold ptr at HRd HSz ⊢
  go_enter Try.func42, Try.ntmps42
  go_wp2_with fail
  change Code.wp _ _ _ _ (w.alloc (entsO Slt.nil Slt.nil))
  go_loopw [9] (fun i wr => ∃ k : Nat, k ≤ 2 ∧ i = .int .i64 k ∧ Kept w [(w.heap.size, entsO (entK s 0 k) (entK s 1 k))] wr) (fun i _ => 2 - (intOf i).toNat)
  case atStart => exact ⟨0, by omega, rfl, by simpa [entK] using hK⟩
  case round =>
    clear hK
    obtain ⟨k, hk2, rfl, hk⟩ := hrel
    rcases (by omega : k = 0 ∨ k = 1 ∨ k = 2) with rfl | rfl | rfl
    · have hk0 : Kept w [(w.heap.size, .cells (entC Slt.nil Slt.nil) 83 (0, 0))] wr := by simpa [entK, entsO] using hk
      clear hk
      have hlen := HL.out 0
      have hget := Get_any (readB s 0) hlen
      have hcase := getE_cases (readB s 0)
      have hfit := getR_fits hlen
      have hno := entR_no (s := s) (a := 0)
      have hfar := entR_far (s := s) (a := 0)
      have hbad := entR_bad (s := s) (a := 0)
      have hyes := entR_yes (s := s) (a := 0)
      have hrd := HRd.out 0 (by omega)
      generalize readB s 0 = l at hlen hget hcase hfit hno hfar hbad hyes hrd
      generalize getR l = R at hget hfit hfar hbad hyes
      generalize getE l = E at hget hcase hno hyes
      have HNo := Lib.hid hno
      have HFar := Lib.hid hfar
      have HBad := Lib.hid hbad
      have HYes := Lib.hid hyes
      have HG := Lib.hid hget
      have HRD : Hid (∀ W, Below w.heap.size w W → Calls Try.prog 17 #[.pointer (some ⟨p, 0, none⟩), .int .u32 0] W fun e w' => e = .returned (.tuple #[.agg (cellsOf l), .int .i64 0]) ∧ Below W.heap.size W w') := Lib.hid hrd
      clear hno hfar hbad hyes hget hrd hfit
      rw [show ((0 : Nat) : Int) = 0 from rfl]
      go_wp2_with fail
      refine (HRD.out wr hk0.bel).mono ?_
      rintro e W1 ⟨rfl, hx⟩
      have hk1 := (hk0.below hx).alloc (blockO l)
      clear hx hk0
      have hi := sizeBlock l hlen
      have hzz : (cellsOf zeros).size = (cellsOf l).size := by rw [cellsOf_size, cellsOf_size, hlen, zeros_length]
      have tok : True := trivial
      go_wp2_with (first
        | (have _t := tok; refine wpList_store_new rfl 49 _ _ rfl (cellsOf l) _ _ rfl rfl hi hzz (cellsOf_one l) ?_; change wpList _ _ _ _ _ (W1.alloc (blockO l)); generalize W1.heap.size = bB at hk1 ⊢; generalize W1.alloc (blockO l) = W2 at hk1 ⊢; have hgo : W2.heap[bB]? = some (.cells (cellsOf l) 49 (0, 0)) := hk1.at_ (q := bB) (o := blockO l) (by simp); clear _t tok)
        | (refine wpList_load_row rfl 49 _ rfl bB rfl _ _ _ _ hgo Try.underlying49 rfl hi ?_))
      refine (HG.out W2).mono ?_
      rintro e W3 ⟨rfl, hx⟩
      have hk2 := (hk1.below hx).alloc (rootO R)
      clear hx hk1 hgo hi hzz
      have tok : True := trivial
      go_upto_region 7 with (first
        | (have _t := tok; refine wpList_store_new rfl 34 _ _ rfl (cells R) _ _ rfl rfl (sizeR R) rfl (cells_one R) ?_; change wpList _ _ _ _ _ (W3.alloc (rootO R)); clear _t tok))
      change Code.wp _ _ _ _ (W3.alloc (rootO R))
      generalize W3.heap.size = bR at hk2 ⊢
      generalize W3.alloc (rootO R) = W4 at hk2 ⊢
      obtain ⟨KK, hKK⟩ : ∃ KK, KK = [(bR, rootO R), (bB, blockO l), (w.heap.size, Obj.cells (entC Slt.nil Slt.nil) 83 (0, 0))] := ⟨_, rfl⟩
      have hk3 : Kept w KK W4 := by rw [hKK]; exact hk2
      have HX : Hid (∀ W, Kept w KK W → W.heap[bR]? = some (.cells (cells R) 34 (0, 0))) := Lib.hid (fun W h => h.at_ (q := bR) (o := rootO R) (by rw [hKK]; simp))
      have HKK := Lib.hid hKK
      clear hk2 hKK
      have HM := Lib.hid (HB.out R)
      rcases hcase with rfl | rfl
      · have HYes := Lib.hid (HYes.out rfl)
        have hh := fun W => home_any R W
        have hm2 : R.gen % 2 = 0 ∨ R.gen % 2 = 1 := by omega
        generalize hmm : R.gen % 2 = m at hh hm2
        have HMM := Lib.hid hmm
        clear hmm
        rcases hm2 with rfl | rfl
        · have HH : Hid (∀ W, Calls Try.prog 58 #[.agg (cells R)] W fun e w' => e = .returned (.int .u32 0) ∧ Below W.heap.size W w') := Lib.hid hh
          clear hh
          cases hb : mayR R s.n with
          | false =>
            rw [hb] at HM
            have HE := Lib.hid (HBad.out hb)
            clear hb HFar HNo HBad HYes
            go_wp2_with fail
            have hS := hk3.drew
            refine wp_region_class_lit (Kept w KK) (by kernel_rfl) (by kernel_rfl) hS ?_
            haveI : Nonempty {w' : World // Kept w KK w'} := ⟨⟨_, hS⟩⟩
            clear hS hk3
            repeat (first | go_big_quiet_skip | (go_big_quiet_want; first | (refine quiet_load_row 34 _ rfl bR rfl _ _ _ _ HX.out Try.underlying34 rfl (sizeR R) ?_; go_big_quiet_on; simp only [Act.put, List.setIfInBounds_toArray, List.set_cons_zero, List.set_cons_succ]) | (go_big_quiet_op; first | go_big_quiet_on | go_big_quiet_call (first | (intro h1; (with_reducible refine (HH.out _).mono ?_); exact fun _ _ ⟨he, hb⟩ => ⟨he, h1.below hb⟩) | (intro h1; (with_reducible refine (HSz.out _ h1.bel).mono ?_); exact fun _ _ ⟨he, hb⟩ => ⟨he, hb ▸ h1⟩) | (intro h1; (with_reducible refine (HM.out _).mono ?_); exact fun _ _ ⟨he, hb⟩ => ⟨he, h1.below hb⟩) | (intro _; rfl)))))
            refine wpQuiet_nil ?_
            intro w2 hw2
            go_wp2_with fail
            go_roundw
            case rel =>
              refine ⟨1, by omega, rfl, ?_⟩
              have he := HE.out
              have h9 := hw2.less (K' := [(w.heap.size, .cells (entC Slt.nil Slt.nil) 83 (0, 0))]) (by rw [HKK.out]; simp)
              simpa [entK, he, entsO] using h9
            case measure => simp [intOf]
          | true =>
            rw [hb] at HM
            have HE := Lib.hid (HYes.out HMM.out hb)
            clear hb HFar HNo HBad HYes
            go_wp2_with fail
            have hS := hk3.drew
            refine wp_region_class_lit (Kept w KK) (by kernel_rfl) (by kernel_rfl) hS ?_
            haveI : Nonempty {w' : World // Kept w KK w'} := ⟨⟨_, hS⟩⟩
            clear hS hk3
            repeat (first | go_big_quiet_skip | (go_big_quiet_want; first | (refine quiet_load_row 34 _ rfl bR rfl _ _ _ _ HX.out Try.underlying34 rfl (sizeR R) ?_; go_big_quiet_on; simp only [Act.put, List.setIfInBounds_toArray, List.set_cons_zero, List.set_cons_succ]) | (go_big_quiet_op; first | go_big_quiet_on | go_big_quiet_call (first | (intro h1; (with_reducible refine (HH.out _).mono ?_); exact fun _ _ ⟨he, hb⟩ => ⟨he, h1.below hb⟩) | (intro h1; (with_reducible refine (HSz.out _ h1.bel).mono ?_); exact fun _ _ ⟨he, hb⟩ => ⟨he, hb ▸ h1⟩) | (intro h1; (with_reducible refine (HM.out _).mono ?_); exact fun _ _ ⟨he, hb⟩ => ⟨he, h1.below hb⟩) | (intro _; rfl)))))
            refine wpQuiet_nil ?_
            intro w2 hw2
            have hR := HX.out w2 hw2
            have hE : w2.heap[w.heap.size]? = some (.cells (entC Slt.nil Slt.nil) 83 (0, 0)) := hw2.at_ (q := w.heap.size) (o := .cells (entC Slt.nil Slt.nil) 83 (0, 0)) (by rw [HKK.out]; simp)
            have HTH : Hid (w2.there w.heap.size 0 (cells R).size) := Lib.hid (there_block hE 0 8 (by rw [entC_size]; omega))
            have HSE := Lib.hid (sizeE R)
            have HSR := Lib.hid (sizeR R)
            have H1C := Lib.hid (cells_one R)
            obtain ⟨cR, hcR⟩ : ∃ cR, cR = cells R := ⟨_, rfl⟩
            rw [← hcR] at hR HTH HSE HSR H1C
            have HCR := Lib.hid hcR
            clear hcR
            go_wp2_with (first
              | (refine wpList_load_row rfl 34 _ rfl bR rfl _ _ _ _ hR Try.underlying34 rfl HSR.out ?_)
              | (refine wpList_store_mid rfl 82 _ _ rfl w.heap.size 0 cR rfl rfl HTH.out HSE.out H1C.out ?_))
            go_roundw
            case rel =>
              refine ⟨1, by omega, rfl, ?_⟩
              have he := HE.out
              have h9 := Kept.setCells (o := 0) (vs := cR.toList) (hw2.less (K' := [(w.heap.size, .cells (entC Slt.nil Slt.nil) 83 (0, 0))]) (by rw [HKK.out]; simp)) ne_one
              rw [HCR.out, splice0] at h9
              rw [HCR.out]
              simpa [entK, he, entsO] using h9
            case measure => simp [intOf]
        · have HH : Hid (∀ W, Calls Try.prog 58 #[.agg (cells R)] W fun e w' => e = .returned (.int .u32 1) ∧ Below W.heap.size W w') := Lib.hid hh
          clear hh
          have HE := Lib.hid (HFar.out (by rw [HMM.out]; decide))
          clear HFar HNo HBad HYes
          go_wp2_with fail
          have hS := hk3.drew
          refine wp_region_class_lit (Kept w KK) (by kernel_rfl) (by kernel_rfl) hS ?_
          haveI : Nonempty {w' : World // Kept w KK w'} := ⟨⟨_, hS⟩⟩
          clear hS hk3
          repeat (first | go_big_quiet_skip | (go_big_quiet_want; first | (refine quiet_load_row 34 _ rfl bR rfl _ _ _ _ HX.out Try.underlying34 rfl (sizeR R) ?_; go_big_quiet_on; simp only [Act.put, List.setIfInBounds_toArray, List.set_cons_zero, List.set_cons_succ]) | (go_big_quiet_op; first | go_big_quiet_on | go_big_quiet_call (first | (intro h1; (with_reducible refine (HH.out _).mono ?_); exact fun _ _ ⟨he, hb⟩ => ⟨he, h1.below hb⟩) | (intro h1; (with_reducible refine (HSz.out _ h1.bel).mono ?_); exact fun _ _ ⟨he, hb⟩ => ⟨he, hb ▸ h1⟩) | (intro h1; (with_reducible refine (HM.out _).mono ?_); exact fun _ _ ⟨he, hb⟩ => ⟨he, h1.below hb⟩) | (intro _; rfl)))))
          refine wpQuiet_nil ?_
          intro w2 hw2
          go_wp2_with fail
          go_roundw
          case rel =>
            refine ⟨1, by omega, rfl, ?_⟩
            have he := HE.out
            have h9 := hw2.less (K' := [(w.heap.size, .cells (entC Slt.nil Slt.nil) 83 (0, 0))]) (by rw [HKK.out]; simp)
            simpa [entK, he, entsO] using h9
          case measure => simp [intOf]
      · have HE := Lib.hid (HNo.out rfl)
        clear HFar HNo HBad HYes
        have HH : Hid True := Lib.hid trivial
        go_wp2_with fail
        have hS := hk3.drew
        refine wp_region_class_lit (Kept w KK) (by kernel_rfl) (by kernel_rfl) hS ?_
        haveI : Nonempty {w' : World // Kept w KK w'} := ⟨⟨_, hS⟩⟩
        clear hS hk3
        repeat (first | go_big_quiet_skip | (go_big_quiet_want; first | (refine quiet_load_row 34 _ rfl bR rfl _ _ _ _ HX.out Try.underlying34 rfl (sizeR R) ?_; go_big_quiet_on; simp only [Act.put, List.setIfInBounds_toArray, List.set_cons_zero, List.set_cons_succ]) | (go_big_quiet_op; first | go_big_quiet_on | go_big_quiet_call (first | (intro h1; (with_reducible refine (HH.out _).mono ?_); exact fun _ _ ⟨he, hb⟩ => ⟨he, h1.below hb⟩) | (intro h1; (with_reducible refine (HSz.out _ h1.bel).mono ?_); exact fun _ _ ⟨he, hb⟩ => ⟨he, hb ▸ h1⟩) | (intro h1; (with_reducible refine (HM.out _).mono ?_); exact fun _ _ ⟨he, hb⟩ => ⟨he, h1.below hb⟩) | (intro _; rfl)))))
        refine wpQuiet_nil ?_
        intro w2 hw2
        go_wp2_with fail
        go_roundw
        case rel =>
          refine ⟨1, by omega, rfl, ?_⟩
          have he := HE.out
          have h9 := hw2.less (K' := [(w.heap.size, .cells (entC Slt.nil Slt.nil) 83 (0, 0))]) (by rw [HKK.out]; simp)
          simpa [entK, he, entsO] using h9
        case measure => simp [intOf]
    · have hk0 : Kept w [(w.heap.size, .cells (entC (entR s 0) Slt.nil) 83 (0, 0))] wr := by simpa [entK, entsO] using hk
      clear hk
      obtain ⟨x0, hx0⟩ : ∃ x0, x0 = entR s 0 := ⟨_, rfl⟩
      rw [← hx0] at hk0
      have HX0 := Lib.hid hx0
      clear hx0
      have hlen := HL.out 1
      have hget := Get_any (readB s 1) hlen
      have hcase := getE_cases (readB s 1)
      have hfit := getR_fits hlen
      have hno := entR_no (s := s) (a := 1)
      have hfar := entR_far (s := s) (a := 1)
      have hbad := entR_bad (s := s) (a := 1)
      have hyes := entR_yes (s := s) (a := 1)
      have hrd := HRd.out 1 (by omega)
      generalize readB s 1 = l at hlen hget hcase hfit hno hfar hbad hyes hrd
      generalize getR l = R at hget hfit hfar hbad hyes
      generalize getE l = E at hget hcase hno hyes
      have HNo := Lib.hid hno
      have HFar := Lib.hid hfar
      have HBad := Lib.hid hbad
      have HYes := Lib.hid hyes
      have HG := Lib.hid hget
      have HRD : Hid (∀ W, Below w.heap.size w W → Calls Try.prog 17 #[.pointer (some ⟨p, 0, none⟩), .int .u32 1] W fun e w' => e = .returned (.tuple #[.agg (cellsOf l), .int .i64 0]) ∧ Below W.heap.size W w') := Lib.hid hrd
      clear hno hfar hbad hyes hget hrd hfit
      rw [show ((1 : Nat) : Int) = 1 from rfl]
      go_wp2_with fail
      refine (HRD.out wr hk0.bel).mono ?_
      rintro e W1 ⟨rfl, hx⟩
      have hk1 := (hk0.below hx).alloc (blockO l)
      clear hx hk0
      have hi := sizeBlock l hlen
      have hzz : (cellsOf zeros).size = (cellsOf l).size := by rw [cellsOf_size, cellsOf_size, hlen, zeros_length]
      have tok : True := trivial
      go_wp2_with (first
        | (have _t := tok; refine wpList_store_new rfl 49 _ _ rfl (cellsOf l) _ _ rfl rfl hi hzz (cellsOf_one l) ?_; change wpList _ _ _ _ _ (W1.alloc (blockO l)); generalize W1.heap.size = bB at hk1 ⊢; generalize W1.alloc (blockO l) = W2 at hk1 ⊢; have hgo : W2.heap[bB]? = some (.cells (cellsOf l) 49 (0, 0)) := hk1.at_ (q := bB) (o := blockO l) (by simp); clear _t tok)
        | (refine wpList_load_row rfl 49 _ rfl bB rfl _ _ _ _ hgo Try.underlying49 rfl hi ?_))
      refine (HG.out W2).mono ?_
      rintro e W3 ⟨rfl, hx⟩
      have hk2 := (hk1.below hx).alloc (rootO R)
      clear hx hk1 hgo hi hzz
      have tok : True := trivial
      go_upto_region 7 with (first
        | (have _t := tok; refine wpList_store_new rfl 34 _ _ rfl (cells R) _ _ rfl rfl (sizeR R) rfl (cells_one R) ?_; change wpList _ _ _ _ _ (W3.alloc (rootO R)); clear _t tok))
      change Code.wp _ _ _ _ (W3.alloc (rootO R))
      generalize W3.heap.size = bR at hk2 ⊢
      generalize W3.alloc (rootO R) = W4 at hk2 ⊢
      obtain ⟨KK, hKK⟩ : ∃ KK, KK = [(bR, rootO R), (bB, blockO l), (w.heap.size, Obj.cells (entC x0 Slt.nil) 83 (0, 0))] := ⟨_, rfl⟩
      have hk3 : Kept w KK W4 := by rw [hKK]; exact hk2
      have HX : Hid (∀ W, Kept w KK W → W.heap[bR]? = some (.cells (cells R) 34 (0, 0))) := Lib.hid (fun W h => h.at_ (q := bR) (o := rootO R) (by rw [hKK]; simp))
      have HKK := Lib.hid hKK
      clear hk2 hKK
      have HM := Lib.hid (HB.out R)
      rcases hcase with rfl | rfl
      · have HYes := Lib.hid (HYes.out rfl)
        have hh := fun W => home_any R W
        have hm2 : R.gen % 2 = 0 ∨ R.gen % 2 = 1 := by omega
        generalize hmm : R.gen % 2 = m at hh hm2
        have HMM := Lib.hid hmm
        clear hmm
        rcases hm2 with rfl | rfl
        · have HH : Hid (∀ W, Calls Try.prog 58 #[.agg (cells R)] W fun e w' => e = .returned (.int .u32 0) ∧ Below W.heap.size W w') := Lib.hid hh
          clear hh
          have HE := Lib.hid (HFar.out (by rw [HMM.out]; decide))
          clear HFar HNo HBad HYes
          go_wp2_with fail
          have hS := hk3.drew
          refine wp_region_class_lit (Kept w KK) (by kernel_rfl) (by kernel_rfl) hS ?_
          haveI : Nonempty {w' : World // Kept w KK w'} := ⟨⟨_, hS⟩⟩
          clear hS hk3
          repeat (first | go_big_quiet_skip | (go_big_quiet_want; first | (refine quiet_load_row 34 _ rfl bR rfl _ _ _ _ HX.out Try.underlying34 rfl (sizeR R) ?_; go_big_quiet_on; simp only [Act.put, List.setIfInBounds_toArray, List.set_cons_zero, List.set_cons_succ]) | (go_big_quiet_op; first | go_big_quiet_on | go_big_quiet_call (first | (intro h1; (with_reducible refine (HH.out _).mono ?_); exact fun _ _ ⟨he, hb⟩ => ⟨he, h1.below hb⟩) | (intro h1; (with_reducible refine (HSz.out _ h1.bel).mono ?_); exact fun _ _ ⟨he, hb⟩ => ⟨he, hb ▸ h1⟩) | (intro h1; (with_reducible refine (HM.out _).mono ?_); exact fun _ _ ⟨he, hb⟩ => ⟨he, h1.below hb⟩) | (intro _; rfl)))))
          refine wpQuiet_nil ?_
          intro w2 hw2
          go_wp2_with fail
          go_roundw
          case rel =>
            refine ⟨2, by omega, rfl, ?_⟩
            have he := HE.out
            have h9 := hw2.less (K' := [(w.heap.size, .cells (entC x0 Slt.nil) 83 (0, 0))]) (by rw [HKK.out]; simp)
            rw [HX0.out] at h9; simpa [entK, he, entsO] using h9
          case measure => simp [intOf]
        · have HH : Hid (∀ W, Calls Try.prog 58 #[.agg (cells R)] W fun e w' => e = .returned (.int .u32 1) ∧ Below W.heap.size W w') := Lib.hid hh
          clear hh
          cases hb : mayR R s.n with
          | false =>
            rw [hb] at HM
            have HE := Lib.hid (HBad.out hb)
            clear hb HFar HNo HBad HYes
            go_wp2_with fail
            have hS := hk3.drew
            refine wp_region_class_lit (Kept w KK) (by kernel_rfl) (by kernel_rfl) hS ?_
            haveI : Nonempty {w' : World // Kept w KK w'} := ⟨⟨_, hS⟩⟩
            clear hS hk3
            repeat (first | go_big_quiet_skip | (go_big_quiet_want; first | (refine quiet_load_row 34 _ rfl bR rfl _ _ _ _ HX.out Try.underlying34 rfl (sizeR R) ?_; go_big_quiet_on; simp only [Act.put, List.setIfInBounds_toArray, List.set_cons_zero, List.set_cons_succ]) | (go_big_quiet_op; first | go_big_quiet_on | go_big_quiet_call (first | (intro h1; (with_reducible refine (HH.out _).mono ?_); exact fun _ _ ⟨he, hb⟩ => ⟨he, h1.below hb⟩) | (intro h1; (with_reducible refine (HSz.out _ h1.bel).mono ?_); exact fun _ _ ⟨he, hb⟩ => ⟨he, hb ▸ h1⟩) | (intro h1; (with_reducible refine (HM.out _).mono ?_); exact fun _ _ ⟨he, hb⟩ => ⟨he, h1.below hb⟩) | (intro _; rfl)))))
            refine wpQuiet_nil ?_
            intro w2 hw2
            go_wp2_with fail
            go_roundw
            case rel =>
              refine ⟨2, by omega, rfl, ?_⟩
              have he := HE.out
              have h9 := hw2.less (K' := [(w.heap.size, .cells (entC x0 Slt.nil) 83 (0, 0))]) (by rw [HKK.out]; simp)
              rw [HX0.out] at h9; simpa [entK, he, entsO] using h9
            case measure => simp [intOf]
          | true =>
            rw [hb] at HM
            have HE := Lib.hid (HYes.out HMM.out hb)
            clear hb HFar HNo HBad HYes
            go_wp2_with fail
            have hS := hk3.drew
            refine wp_region_class_lit (Kept w KK) (by kernel_rfl) (by kernel_rfl) hS ?_
            haveI : Nonempty {w' : World // Kept w KK w'} := ⟨⟨_, hS⟩⟩
            clear hS hk3
            repeat (first | go_big_quiet_skip | (go_big_quiet_want; first | (refine quiet_load_row 34 _ rfl bR rfl _ _ _ _ HX.out Try.underlying34 rfl (sizeR R) ?_; go_big_quiet_on; simp only [Act.put, List.setIfInBounds_toArray, List.set_cons_zero, List.set_cons_succ]) | (go_big_quiet_op; first | go_big_quiet_on | go_big_quiet_call (first | (intro h1; (with_reducible refine (HH.out _).mono ?_); exact fun _ _ ⟨he, hb⟩ => ⟨he, h1.below hb⟩) | (intro h1; (with_reducible refine (HSz.out _ h1.bel).mono ?_); exact fun _ _ ⟨he, hb⟩ => ⟨he, hb ▸ h1⟩) | (intro h1; (with_reducible refine (HM.out _).mono ?_); exact fun _ _ ⟨he, hb⟩ => ⟨he, h1.below hb⟩) | (intro _; rfl)))))
            refine wpQuiet_nil ?_
            intro w2 hw2
            have hR := HX.out w2 hw2
            have hE : w2.heap[w.heap.size]? = some (.cells (entC x0 Slt.nil) 83 (0, 0)) := hw2.at_ (q := w.heap.size) (o := .cells (entC x0 Slt.nil) 83 (0, 0)) (by rw [HKK.out]; simp)
            have HTH : Hid (w2.there w.heap.size 8 (cells R).size) := Lib.hid (there_block hE 8 8 (by rw [entC_size]; omega))
            have HSE := Lib.hid (sizeE R)
            have HSR := Lib.hid (sizeR R)
            have H1C := Lib.hid (cells_one R)
            obtain ⟨cR, hcR⟩ : ∃ cR, cR = cells R := ⟨_, rfl⟩
            rw [← hcR] at hR HTH HSE HSR H1C
            have HCR := Lib.hid hcR
            clear hcR
            go_wp2_with (first
              | (refine wpList_load_row rfl 34 _ rfl bR rfl _ _ _ _ hR Try.underlying34 rfl HSR.out ?_)
              | (refine wpList_store_mid rfl 82 _ _ rfl w.heap.size 8 cR rfl rfl HTH.out HSE.out H1C.out ?_))
            go_roundw
            case rel =>
              refine ⟨2, by omega, rfl, ?_⟩
              have he := HE.out
              have h9 := Kept.setCells (o := 8) (vs := cR.toList) (hw2.less (K' := [(w.heap.size, .cells (entC x0 Slt.nil) 83 (0, 0))]) (by rw [HKK.out]; simp)) ne_one
              rw [HCR.out, splice1] at h9
              rw [HCR.out]
              rw [HX0.out] at h9; simpa [entK, he, entsO] using h9
            case measure => simp [intOf]
      · have HE := Lib.hid (HNo.out rfl)
        clear HFar HNo HBad HYes
        have HH : Hid True := Lib.hid trivial
        go_wp2_with fail
        have hS := hk3.drew
        refine wp_region_class_lit (Kept w KK) (by kernel_rfl) (by kernel_rfl) hS ?_
        haveI : Nonempty {w' : World // Kept w KK w'} := ⟨⟨_, hS⟩⟩
        clear hS hk3
        repeat (first | go_big_quiet_skip | (go_big_quiet_want; first | (refine quiet_load_row 34 _ rfl bR rfl _ _ _ _ HX.out Try.underlying34 rfl (sizeR R) ?_; go_big_quiet_on; simp only [Act.put, List.setIfInBounds_toArray, List.set_cons_zero, List.set_cons_succ]) | (go_big_quiet_op; first | go_big_quiet_on | go_big_quiet_call (first | (intro h1; (with_reducible refine (HH.out _).mono ?_); exact fun _ _ ⟨he, hb⟩ => ⟨he, h1.below hb⟩) | (intro h1; (with_reducible refine (HSz.out _ h1.bel).mono ?_); exact fun _ _ ⟨he, hb⟩ => ⟨he, hb ▸ h1⟩) | (intro h1; (with_reducible refine (HM.out _).mono ?_); exact fun _ _ ⟨he, hb⟩ => ⟨he, h1.below hb⟩) | (intro _; rfl)))))
        refine wpQuiet_nil ?_
        intro w2 hw2
        go_wp2_with fail
        go_roundw
        case rel =>
          refine ⟨2, by omega, rfl, ?_⟩
          have he := HE.out
          have h9 := hw2.less (K' := [(w.heap.size, .cells (entC x0 Slt.nil) 83 (0, 0))]) (by rw [HKK.out]; simp)
          rw [HX0.out] at h9; simpa [entK, he, entsO] using h9
        case measure => simp [intOf]
    · have hR : wr.heap[w.heap.size]? = some (.cells (entC (entR s 0) (entR s 1)) 83 (0, 0)) := hk.at_ (q := w.heap.size) (o := entsO (entR s 0) (entR s 1)) (by simp [entK])
      have hbel := hk.bel
      clear hk
      obtain ⟨x, hx⟩ : ∃ x, x = entR s 0 := ⟨_, rfl⟩
      obtain ⟨y, hy⟩ : ∃ y, y = entR s 1 := ⟨_, rfl⟩
      rw [← hx, ← hy] at hR
      have HX := Lib.hid hx
      have HY := Lib.hid hy
      clear hx hy
      rw [show ((2 : Nat) : Int) = 2 from rfl]
      go_wp2_with (first
        | (refine wpList_load_row rfl 83 _ rfl w.heap.size rfl _ _ _ _ hR Try.underlying83 rfl (sizeEs x y) ?_)
        | (refine wpList_store_row rfl 83 _ _ rfl w.heap.size _ rfl rfl _ _ hR (sizeEs x y) rfl (entC_one x y) ?_))
      exact bodyPost_ret (results_cell_row rfl _ _ _ _ _ _ _ rfl (setRow_heap _ _ _ _ _ _ hR) Try.underlying83 rfl (sizeEs x y)) rfl ⟨by rw [HX.out, HY.out], below_row hbel (Nat.le_refl _)⟩

end Go.Proofs.Ytlojhdnahioicaa.Rot
