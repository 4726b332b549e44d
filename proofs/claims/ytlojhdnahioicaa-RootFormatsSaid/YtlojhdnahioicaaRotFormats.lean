/-
  The walk of the law RootFormats, by the head's contract.
-/
import Derived.Test.YtlojhdnahioicaaRotNew
import Derived.Test.YtlojhdnahioicaaSlt5
import Derived.Test.YtlojhdnahioicaaSlt4
namespace Go.Proofs.Ytlojhdnahioicaa.Rot
open Go.RowKit RowLaw Crc
set_option maxRecDepth 100000
open Go.Proofs.Ytlojhdnahioicaa.Fld (blockO)
open Go.Proofs.Ytlojhdnahioicaa.Slt (Rt cells rootO rtB rtB_length infoR sizeR cells_one IsRt eqB eqB_iff run_eqRoot noGuardR mayB)
open Go.Proofs.Ytlojhdnahioicaa.Dev (Dev DS ptr Many Live newS putCells readB writeS flushS New_live)

set_option linter.unusedSimpArgs false in
set_option maxHeartbeats 12800000 in
theorem formats_main {w : World} {n : Nat} (hpl : planOk n = true) (hn : n ≤ 300) {pa : Option Addr} {cap : Nat} {xs : List (Nat × List UInt8)} (hxl : xs.length ≤ 60) (hpu : Puts w pa xs)
    (hH : ∀ W, Calls Try.prog 9 #[] W fun e w' => e = .returned (.bool true) ∧ Below W.heap.size W w') :
    Calls Try.prog 5 #[.int .u32 (n : Int), .slice pa xs.length cap] w fun e w' => e = .returned (.bool true) ∧ Below w.heap.size w w' := by
  have hzp := (zero_of_info infoPlan).1
  have hzr := (zero_of_info infoR).1
  have hzb := (zero_of_info infoBlock).1
  obtain ⟨h64, hbig⟩ : 64 ≤ n ∧ n ≤ 1048576 := by simpa [planOk] using hpl
  obtain ⟨sq, hq, hqn, -⟩ := format_there (Calm.new n) (by exact h64) (by exact hbig)
  replace hq : formatF (newS n) = (sq, (fresh n, 0)) := hq
  have HQ := Lib.hid hq
  have HH := Lib.hid hH
  have HPU := Lib.hid hpu
  have HPL := Lib.hid hpl
  clear hq hqn hH hpu hpl
  obtain ⟨m, hm0⟩ : ∃ m, m = xs.length := ⟨_, rfl⟩
  rw [← hm0] at hxl ⊢
  have HM := Lib.hid hm0
  clear hm0
  have i300 : ¬ (300 : Int) < (n : Int) := by omega
  have i60 : ¬ (60 : Int) < (m : Int) := by omega
  go_enter Try.func5, Try.ntmps5
  go_wp2_with fail
  refine (New_live w n h64 hbig).mono ?_
  rintro e W1 ⟨p, rfl, hlive⟩
  have hm := Dev.Many.of_live hlive
  clear hlive
  unfold ptr
  go_wp2_with fail
  refine (Dev.Many.copy hm (i := 0) rfl (show 0 < 4294967296 by omega)).mono ?_
  rintro e W2 ⟨q, rfl, hm2⟩
  clear hm
  unfold ptr
  go_wp2_with fail
  refine (Rot.Many.format hm2 (i := 1) rfl HPL.out (show 0 < 4293000000 by omega) HQ.out).mono ?_
  rintro e W3 ⟨rfl, hx⟩
  have hm := hx.alloc (rootO (fresh n))
  clear hx hm2
  have tok : True := trivial
  go_upto_region 5 with (first | (have _t := tok; refine wpList_store_new rfl 34 _ _ rfl (cells (fresh n)) _ _ rfl rfl (sizeR _) rfl (cells_one _) ?_; change wpList _ _ _ _ _ (W3.alloc (rootO (fresh n))); clear _t tok))
  change Code.wp _ _ _ _ (W3.alloc (rootO (fresh n)))
  generalize W3.heap.size = b7 at hm ⊢
  generalize W3.alloc (rootO (fresh n)) = W4 at hm ⊢
  replace hm : Many w [(p, newS n), (q, sq)] [(b7, rootO (fresh n))] W4 := hm
  clear HQ
  go_wp2_with fail
  go_loopw [9] (fun i wr => ∃ (j : Nat) (s : DS), j ≤ m ∧ i = .int .i64 j ∧ Wr n j s ∧ Many w [(p, s), (q, sq)] [(b7, rootO (fresh n))] wr) (fun i _ => m - (intOf i).toNat)
  case atStart => exact ⟨0, _, Nat.zero_le _, rfl, Wr.new n, hm⟩
  case round =>
    clear hm
    obtain ⟨j, s, hj, rfl, hs, hm⟩ := hrel
    by_cases hjm : j < m
    · have hjl : j < xs.length := by have := HM.out; omega
      rcases HPU.out.2 with h0 | ⟨b, off, rfl, hbl, hat⟩
      · rw [h0] at hjl; simp at hjl
      obtain ⟨hx1, hx2⟩ := HPU.out.1 _ (List.getElem_mem hjl)
      have hr : wr.rangeAt b (off + j * 257) (putCells xs[j]) := fun i v hv => (hm.bel.cell (p := ⟨b, off + j * 257 + i, none⟩) hbl).trans (hat j hjl i v hv)
      have i0 : (0 : Int) ≤ (j : Int) := by omega
      have i1 : (j : Int) < (m : Int) := by omega
      clear hat
      generalize xs[j] = x at hx1 hx2 hr
      obtain ⟨xa, xl⟩ := x
      simp only at hx1 hx2
      have ca : wr.cell? ⟨b, off + j * 257, none⟩ = some (.int .u32 (xa : Int)) := by simpa using hr 0 _ rfl
      have cr : wr.drew.rangeAt b (off + j * 257 + 1) (cellsOf xl).toList := fun i v hv => by
        rw [Nat.add_assoc, Nat.add_comm 1 i]
        exact hr (i + 1) v hv
      have hi := sizeBlock xl hx2
      have n0 : ¬ n = 0 := by omega
      have hdr := hm.drewM
      have hlt : xa % n < n := Nat.mod_lt _ (by omega)
      have hstep := hs.step hlt hx2
      have hw := Dev.Many.write hdr (i := 0) rfl (a := xa % n) (by omega) hx2 (by have := hs.pend; omega)
      replace hw : Calls Try.prog 19 #[.pointer (some ⟨p, 0, none⟩), .int .u32 ((xa : Int).tmod (n : Int)), .agg (cellsOf xl)] wr.drew fun e W' => e = .returned (.int .i64 (Dev.writeE s (xa % n))) ∧ Many w [(p, writeS s (xa % n) xl), (q, sq)] [(b7, rootO (fresh n))] W' := hw
      have HC := Lib.hid cr
      have HW := Lib.hid hw
      have HST := Lib.hid hstep
      clear cr hw hstep hdr hr hm hs hlt
      go_wp2_with fail
      refine wp_region_still_tail 13 (by kernel_rfl) (by kernel_rfl) ?_
      simp only [List.take_succ_cons, List.take_zero, List.drop_succ_cons, List.drop_zero]
      iterate 12 still_step
      refine wpStill_step (fun K hK => ?_)
      rw [if_pos (by rfl)]
      refine still_load_mid 49 _ rfl b (off + j * 257 + 1) rfl (cellsOf xl) _ HC.out Try.underlying49 rfl hi ?_
      refine hK _ ?_
      clear hK K
      refine wpStill_nil ?_
      change wpList _ _ _ _ _ wr.drew
      clear ca HC
      have hw := HW.out
      generalize wr.drew = V1 at hw ⊢
      go_wp2_with fail
      refine hw.mono ?_
      rintro e V2 ⟨rfl, hm2⟩
      clear hw HW
      go_wp2_with fail
      go_roundw
      case rel => exact ⟨j + 1, _, by omega, by go_num, HST.out, hm2⟩
      case measure => simp [intOf]; omega
    · have i1 : ¬ (j : Int) < (m : Int) := by omega
      obtain ⟨hcalm, hsn⟩ := hs.flush
      have hpend := hs.pend
      clear hs
      go_wp2_with fail
      refine (Dev.Many.flush hm (i := 0) rfl (by omega)).mono ?_
      rintro e V1 ⟨rfl, hm2⟩
      clear hm
      generalize flushS s = s1 at hcalm hsn hm2
      replace hm2 : Many w [(p, s1), (q, sq)] [(b7, rootO (fresh n))] V1 := hm2
      obtain ⟨s2, hf, hn2, hp2, hmt, hr1, hro⟩ := format_there hcalm (by rw [hsn]; exact h64) (by rw [hsn]; exact hbig)
      rw [hsn] at hf hn2 hmt hr1 hro
      have HF := Lib.hid hf
      have HN1 := Lib.hid hsn
      have HP1 := Lib.hid hcalm.pend
      have HN2 := Lib.hid hn2
      have HP2 := Lib.hid hp2
      have HMT := Lib.hid hmt
      have HR1 := Lib.hid hr1
      have HRO := Lib.hid hro
      clear hf hsn hcalm hn2 hp2 hmt hr1 hro hpend
      go_wp2_with fail
      refine (Dev.Many.copy hm2 (i := 0) rfl (by rw [HP1.out]; decide)).mono ?_
      rintro e V2 ⟨u, rfl, hm3⟩
      clear hm2
      unfold ptr
      go_wp2_with fail
      refine (Rot.Many.format hm3 (i := 0) rfl (by rw [HN1.out]; exact HPL.out) (by rw [HP1.out]; decide) HF.out).mono ?_
      rintro e V3 ⟨rfl, hx⟩
      have hm := hx.alloc (rootO (fresh n))
      clear hx hm3
      have tok : True := trivial
      go_upto_region 12 with (first | (have _t := tok; refine wpList_store_new rfl 34 _ _ rfl (cells (fresh n)) _ _ rfl rfl (sizeR _) rfl (cells_one _) ?_; change wpList _ _ _ _ _ (V3.alloc (rootO (fresh n))); clear _t tok))
      change Code.wp _ _ _ _ (V3.alloc (rootO (fresh n)))
      generalize V3.heap.size = b11 at hm ⊢
      generalize V3.alloc (rootO (fresh n)) = V4 at hm ⊢
      replace hm : Many w [(p, s2), (q, sq), (u, s1)] [(b11, rootO (fresh n)), (b7, rootO (fresh n))] V4 := hm
      go_wp2_with fail
      refine (Rot.Many.mount hm (i := 0) rfl (by rw [HN2.out]; exact HPL.out) (by rw [HP2.out]; decide) HMT.out).mono ?_
      rintro e V5 ⟨rfl, hx⟩
      replace hm := hx.alloc (rootO (fresh n))
      clear hx
      have tok : True := trivial
      go_upto_region 13 with (first | (have _t := tok; refine wpList_store_new rfl 34 _ _ rfl (cells (fresh n)) _ _ rfl rfl (sizeR _) rfl (cells_one _) ?_; change wpList _ _ _ _ _ (V5.alloc (rootO (fresh n))); clear _t tok))
      change Code.wp _ _ _ _ (V5.alloc (rootO (fresh n)))
      generalize V5.heap.size = b13 at hm ⊢
      generalize V5.alloc (rootO (fresh n)) = V6 at hm ⊢
      have hlay := Layout_yes HPL.out V6
      generalize tlN n = tl at hlay
      generalize pkN n = pk at hlay
      obtain ⟨f, hf⟩ : ∃ f, f = fsN n := ⟨_, rfl⟩
      rw [← hf] at hlay
      have hf2 : f < n := by rw [hf]; exact (plan_facts h64 hbig).2.1
      have HFN := Lib.hid hf
      clear hf
      go_wp2_with fail
      refine hlay.mono ?_
      rintro e V7 ⟨rfl, hx⟩
      replace hm := (hm.below hx).alloc (planO tl pk f)
      clear hx hlay
      have tok : True := trivial
      go_upto_region 14 with (first | (have _t := tok; refine wpList_store_new rfl 24 _ _ rfl (planCells tl pk f) _ _ rfl rfl (sizePlan _ _ _) rfl (planCells_one _ _ _) ?_; change wpList _ _ _ _ _ (V7.alloc (planO tl pk f)); clear _t tok))
      change Code.wp _ _ _ _ (V7.alloc (planO tl pk f))
      generalize V7.heap.size = b15 at hm ⊢
      generalize V7.alloc (planO tl pk f) = V8 at hm ⊢
      have r7 : V8.heap[b7]? = some (.cells (cells (fresh n)) 34 (0, 0)) := hm.at_ (q := b7) (o := rootO (fresh n)) (by simp)
      have r11 : V8.heap[b11]? = some (.cells (cells (fresh n)) 34 (0, 0)) := hm.at_ (q := b11) (o := rootO (fresh n)) (by simp)
      have r13 : V8.heap[b13]? = some (.cells (cells (fresh n)) 34 (0, 0)) := hm.at_ (q := b13) (o := rootO (fresh n)) (by simp)
      have hg2 := fun (W : World) (op : BinOp) (x y : Operand) (xs ys : Array Value) => run_eqGuard_agg (P := Try.prog) W op 34 x y xs ys noGuardR
      have e4 : ∀ W, (Op.equalIn 10000 34 (.agg (cells (fresh n))) (.agg (cells (fresh n)))).run Try.prog W = .ok true W := fun W => by rw [run_eqRoot, eqB_iff.2 rfl]
      have hpn := Dev.Many.pending hm (i := 0) rfl
      rw [HP2.out] at hpn
      replace hpn : Calls Try.prog 18 #[.pointer (some ⟨p, 0, none⟩)] V8 fun e W' => e = .returned (.int .i64 0) ∧ W' = V8 := hpn
      go_wp2_with (first
        | (refine wpList_load_want (by rfl) 34 (.tmp 7) rfl b7 rfl _ _ _ _ r7 Try.underlying34 rfl (sizeR _) ?_)
        | (refine wpList_load_want (by rfl) 34 (.tmp 11) rfl b11 rfl _ _ _ _ r11 Try.underlying34 rfl (sizeR _) ?_)
        | (refine wpList_load_want (by rfl) 34 (.tmp 13) rfl b13 rfl _ _ _ _ r13 Try.underlying34 rfl (sizeR _) ?_)
        | (with_reducible refine hpn.mono ?_; rintro e V9 ⟨rfl, rfl⟩))
      clear r7 r11 r13 hpn e4 hg2
      go_loopw [17] (fun i wr => ∃ k : Nat, k ≤ n ∧ i = .int .u32 k ∧ Many w [(p, s2), (q, sq), (u, s1)] [(b15, planO tl pk f), (b13, rootO (fresh n)), (b11, rootO (fresh n)), (b7, rootO (fresh n))] wr) (fun i _ => n - (intOf i).toNat)
      case atStart => exact ⟨0, Nat.zero_le _, rfl, hm⟩
      case round =>
        clear hm
        obtain ⟨k, hk, rfl, hm⟩ := hrel
        by_cases hkn : k < n
        · have i2 : (k : Int) < (n : Int) := by omega
          have hrd := Dev.Many.readB_ hm (i := 0) rfl (a := k) (by rw [HN2.out]; exact hkn) (by rw [HP2.out]; decide)
          obtain ⟨hlG, _⟩ := hm.okG (i := 0) rfl
          obtain ⟨hlG1, _⟩ := hm.okG (i := 2) rfl
          have hX : (readB s2 k).length = 256 := by rw [readB_nil HP2.out]; exact hlG k
          have hY : (readB s1 k).length = 256 := by rw [readB_nil HP1.out]; exact hlG1 k
          have hro := HRO.out k
          rw [← HFN.out] at hro
          generalize readB s2 k = X at hrd hX hro
          replace hrd : Calls Try.prog 17 #[.pointer (some ⟨p, 0, none⟩), .int .u32 (k : Int)] wr fun e W' => e = .returned (.tuple #[.agg (cellsOf X), .int .i64 0]) ∧ Many w [(p, s2), (q, sq), (u, s1)] [(b15, planO tl pk f), (b13, rootO (fresh n)), (b11, rootO (fresh n)), (b7, rootO (fresh n))] W' := hrd
          have hiX := sizeBlock X hX
          have hzX : (cellsOf zeros).size = (cellsOf X).size := by rw [cellsOf_size, cellsOf_size, hX, zeros_length]
          go_wp2_with fail
          refine hrd.mono ?_
          rintro e U1 ⟨rfl, hx⟩
          have hm2 := hx.alloc (blockO X)
          clear hx hm hrd
          have tok : True := trivial
          go_upto_region 20 with (first | (have _t := tok; refine wpList_store_new rfl 49 _ _ rfl (cellsOf X) _ _ rfl rfl hiX hzX (cellsOf_one _) ?_; change wpList _ _ _ _ _ (U1.alloc (blockO X)); clear _t tok))
          change Code.wp _ _ _ _ (U1.alloc (blockO X))
          generalize U1.heap.size = b18 at hm2 ⊢
          generalize U1.alloc (blockO X) = U2 at hm2 ⊢
          have hrd := Dev.Many.readB_ hm2 (i := 2) rfl (a := k) (by rw [HN1.out]; exact hkn) (by rw [HP1.out]; decide)
          generalize readB s1 k = Y at hrd hY hro
          replace hrd : Calls Try.prog 17 #[.pointer (some ⟨u, 0, none⟩), .int .u32 (k : Int)] U2 fun e W' => e = .returned (.tuple #[.agg (cellsOf Y), .int .i64 0]) ∧ Many w [(p, s2), (q, sq), (u, s1)] [(b18, blockO X), (b15, planO tl pk f), (b13, rootO (fresh n)), (b11, rootO (fresh n)), (b7, rootO (fresh n))] W' := hrd
          have hiY := sizeBlock Y hY
          have hzY : (cellsOf zeros).size = (cellsOf Y).size := by rw [cellsOf_size, cellsOf_size, hY, zeros_length]
          go_wp2_with fail
          refine hrd.mono ?_
          rintro e U3 ⟨rfl, hx⟩
          have hm := hx.alloc (blockO Y)
          clear hx hm2 hrd
          have tok : True := trivial
          go_upto_region 21 with (first | (have _t := tok; refine wpList_store_new rfl 49 _ _ rfl (cellsOf Y) _ _ rfl rfl hiY hzY (cellsOf_one _) ?_; change wpList _ _ _ _ _ (U3.alloc (blockO Y)); clear _t tok))
          change Code.wp _ _ _ _ (U3.alloc (blockO Y))
          generalize U3.heap.size = b20 at hm ⊢
          generalize U3.alloc (blockO Y) = U4 at hm ⊢
          have rX : U4.heap[b18]? = some (.cells (cellsOf X) 49 (0, 0)) := hm.at_ (q := b18) (o := blockO X) (by simp)
          have rY : U4.heap[b20]? = some (.cells (cellsOf Y) 49 (0, 0)) := hm.at_ (q := b20) (o := blockO Y) (by simp)
          have cf : U4.cell? ⟨b15, 2, none⟩ = some (.int .u32 (f : Int)) := (cell_of_row U4 b15 2 _ _ _ (hm.at_ (q := b15) (o := planO tl pk f) (by simp))).trans rfl
          have hfin : Many w [(p, s2), (q, sq), (u, s1)] [(b15, planO tl pk f), (b13, rootO (fresh n)), (b11, rootO (fresh n)), (b7, rootO (fresh n))] U4 := hm.less (by simp)
          clear hm
          have hg3 := fun (W : World) (op : BinOp) (x y : Operand) (xs ys : Array Value) => run_eqGuard_agg (P := Try.prog) W op 49 x y xs ys noGuard
          by_cases hkf : k < f
          · have d0 : ¬ (f : Int) ≤ (k : Int) := by omega
            have d1 : (k : Int) < (f : Int) := by omega
            by_cases hk1 : k = 1
            · subst hk1
              clear hro
              rw [show ((1 : Nat) : Int) = 1 from rfl] at *
              go_wp2_with fail
              go_roundw
              case rel => exact ⟨2, by omega, by rfl, hfin⟩
              case measure => simp [intOf]; omega
            · have d2 : ((k : Int) != 1) = true := by simp; omega
              rw [if_pos hkf] at hro
              have hXz := hro hk1
              subst hXz
              have he : ∀ W, (Op.equalIn 10000 49 (.agg (cellsOf zeros)) (.agg (cellsOf zeros))).run Try.prog W = .ok true W := fun W => by rw [run_eqBlock W _ _ zeros_length zeros_length, decide_eq_true rfl]
              clear hro hk1
              go_wp2_with (first
                | (refine wpList_load_want (by rfl) 49 (.tmp 18) rfl b18 rfl _ _ _ _ rX Try.underlying49 rfl hiX ?_))
              go_roundw
              case rel => exact ⟨k + 1, by omega, by go_num, hfin⟩
              case measure => simp [intOf]; omega
          · have d0 : (f : Int) ≤ (k : Int) := by omega
            have d1 : ¬ (k : Int) < (f : Int) := by omega
            have hf6 : 1 < f := by rw [HFN.out]; have := (plan_facts h64 hbig).1; omega
            rw [if_neg hkf] at hro
            have hXY := hro (by omega)
            subst hXY
            have he : ∀ W, (Op.equalIn 10000 49 (.agg (cellsOf X)) (.agg (cellsOf X))).run Try.prog W = .ok true W := fun W => by rw [run_eqBlock W _ _ hX hX, decide_eq_true rfl]
            clear hro
            go_wp2_with (first
              | (refine wpList_load_want (by rfl) 49 (.tmp 18) rfl b18 rfl _ _ _ _ rX Try.underlying49 rfl hiX ?_)
              | (refine wpList_load_want (by rfl) 49 (.tmp 20) rfl b20 rfl _ _ _ _ rY Try.underlying49 rfl hiX ?_))
            go_roundw
            case rel => exact ⟨k + 1, by omega, by go_num, hfin⟩
            case measure => simp [intOf]; omega
        · have i2 : ¬ (k : Int) < (n : Int) := by omega
          have hrd := Dev.Many.readB_ hm (i := 0) rfl (a := 1) (by rw [HN2.out]; omega) (by rw [HP2.out]; decide)
          rw [HR1.out] at hrd
          have hlr := rtB_length (fresh n)
          have hput := Slt.refPut_yes (fresh n) (fresh_good h64 hbig).mayB (fresh_good h64 hbig).1
          have HPut := Lib.hid hput
          clear hput
          generalize rtB (fresh n) = RB at hrd hlr HPut
          replace hrd : Calls Try.prog 17 #[.pointer (some ⟨p, 0, none⟩), .int .u32 1] wr fun e W' => e = .returned (.tuple #[.agg (cellsOf RB), .int .i64 0]) ∧ Many w [(p, s2), (q, sq), (u, s1)] [(b15, planO tl pk f), (b13, rootO (fresh n)), (b11, rootO (fresh n)), (b7, rootO (fresh n))] W' := hrd
          have hiR := sizeBlock RB hlr
          have hzR : (cellsOf zeros).size = (cellsOf RB).size := by rw [cellsOf_size, cellsOf_size, hlr, zeros_length]
          go_wp2_with fail
          refine hrd.mono ?_
          rintro e U1 ⟨rfl, hx⟩
          have hm2 := hx.alloc (blockO RB)
          clear hx hm hrd
          have tok : True := trivial
          go_upto_region 24 with (first | (have _t := tok; refine wpList_store_new rfl 49 _ _ rfl (cellsOf RB) _ _ rfl rfl hiR hzR (cellsOf_one _) ?_; change wpList _ _ _ _ _ (U1.alloc (blockO RB)); clear _t tok))
          change Code.wp _ _ _ _ (U1.alloc (blockO RB))
          generalize U1.heap.size = b22 at hm2 ⊢
          generalize U1.alloc (blockO RB) = U2 at hm2 ⊢
          have r11 : U2.heap[b11]? = some (.cells (cells (fresh n)) 34 (0, 0)) := hm2.at_ (q := b11) (o := rootO (fresh n)) (by simp)
          go_wp2_with (refine wpList_load_row rfl 34 _ rfl b11 rfl _ _ _ _ r11 Try.underlying34 rfl (sizeR _) ?_)
          refine (HPut.out U2).mono ?_
          rintro e U3 ⟨rfl, hx⟩
          have hm := (hm2.below hx).alloc (blockO RB)
          clear hx hm2 r11
          have tok : True := trivial
          go_upto_region 25 with (first | (have _t := tok; refine wpList_store_new rfl 49 _ _ rfl (cellsOf RB) _ _ rfl rfl hiR hzR (cellsOf_one _) ?_; change wpList _ _ _ _ _ (U3.alloc (blockO RB)); clear _t tok))
          change Code.wp _ _ _ _ (U3.alloc (blockO RB))
          generalize U3.heap.size = b24 at hm ⊢
          generalize U3.alloc (blockO RB) = U4 at hm ⊢
          have r22 : U4.heap[b22]? = some (.cells (cellsOf RB) 49 (0, 0)) := hm.at_ (q := b22) (o := blockO RB) (by simp)
          have r24 : U4.heap[b24]? = some (.cells (cellsOf RB) 49 (0, 0)) := hm.at_ (q := b24) (o := blockO RB) (by simp)
          have hg3 := fun (W : World) (op : BinOp) (x y : Operand) (xs ys : Array Value) => run_eqGuard_agg (P := Try.prog) W op 49 x y xs ys noGuard
          have he : ∀ W, (Op.equalIn 10000 49 (.agg (cellsOf RB)) (.agg (cellsOf RB))).run Try.prog W = .ok true W := fun W => by rw [run_eqBlock W _ _ hlr hlr, decide_eq_true rfl]
          have hbel := hm.bel
          clear hm
          go_wp2_with (first
            | (refine wpList_load_want (by rfl) 49 (.tmp 22) rfl b22 rfl _ _ _ _ r22 Try.underlying49 rfl hiR ?_)
            | (refine wpList_load_want (by rfl) 49 (.tmp 24) rfl b24 rfl _ _ _ _ r24 Try.underlying49 rfl hiR ?_)
            | (with_reducible refine (HH.out _).mono ?_))
          rintro e U5 ⟨rfl, hx⟩
          clear r22 r24 he
          go_wp2_with fail
          go_ret
          exact ⟨rfl, hbel.trans (hx.mono hbel.size)⟩

end Go.Proofs.Ytlojhdnahioicaa.Rot
