/-
  The walk of root.Format.
-/
import Derived.Test.YtlojhdnahioicaaRotCmt
namespace Go.Proofs.Ytlojhdnahioicaa.Rot
open Go.RowKit RowLaw Crc
set_option maxRecDepth 100000
open Go.Proofs.Ytlojhdnahioicaa.Slt (Rt cells rootO rtB rtB_length infoR sizeR cells_one mayB IsRt)
open Go.Proofs.Ytlojhdnahioicaa.Dev (Dev DS ptr putCells pendCells Box Step Turn readB)

theorem formatF_eq (s : DS) : formatF s = if (replF s (toZero (readB s) (fsN s.n)) (fresh s.n)).2 = 0 then ((replF s (toZero (readB s) (fsN s.n)) (fresh s.n)).1, (fresh s.n, 0)) else ((replF s (toZero (readB s) (fsN s.n)) (fresh s.n)).1, (Slt.nil, (replF s (toZero (readB s) (fsN s.n)) (fresh s.n)).2)) := by
  have hg : (fresh s.n).gen % 2 = 1 := rfl
  unfold formatF replF
  rw [hg]
  by_cases h : (writeF s (toZero (readB s) (fsN s.n))).2 = 0
  · rw [if_pos h, if_pos h]
  · rw [if_neg h, if_neg h, if_neg h]

set_option maxHeartbeats 6400000 in
theorem Format_any {w : World} {p : Nat} {B : List Nat} {s : DS} (hd : Dev w p B s) (hpl : planOk s.n = true) (hlen : s.pend.length < 4293000000) :
    Calls Try.prog 11 #[ptr p] w fun e w' => e = .returned (.tuple #[.agg (cells (formatF s).2.1), .int .i64 (formatF s).2.2]) ∧ ∃ C, Dev w' p C (formatF s).1 ∧ Step B w w' C := by
  have hzr := (zero_of_info infoR).1
  obtain ⟨h64, hbig⟩ : 64 ≤ s.n ∧ s.n ≤ 1048576 := by simpa [planOk] using hpl
  obtain ⟨-, f2, -⟩ := plan_facts h64 hbig
  have HEx : Hid (∀ W, Below w.heap.size w W → Calls Try.prog 24 #[ptr p] W fun e w' => e = .returned (.bool true) ∧ w' = W) := Lib.hid (fun W hW => exists_any (hd.below hW))
  have HSz : Hid (∀ W, Below w.heap.size w W → Calls Try.prog 26 #[ptr p] W fun e w' => e = .returned (.int .u32 (s.n : Int)) ∧ w' = W) := Lib.hid (fun W hW => Size_any (hd.below hW))
  have HFi := Lib.hid (fun W => first_any hpl W)
  have hgood := fresh_good h64 hbig
  have hmay : mayB (fresh s.n) = true := by
    have := hgood.2
    unfold mayR at this
    rw [Bool.and_eq_true] at this
    exact this.1
  have hfit := hgood.1
  have hhint : (fresh s.n).hint = fsN s.n := rfl
  have hll := toZero_length (readB s) (fsN s.n)
  have hlm : ∀ x ∈ toZero (readB s) (fsN s.n), x.1 < 4294967296 ∧ x.2.length = 256 := fun x hx => by
    have := toZero_mem hx
    exact ⟨by omega, by rw [this.2]; exact zeros_length⟩
  have hZ : Hid (∀ W C, Dev W p C s → Calls Try.prog 29 #[ptr p, .int .u32 (fsN s.n : Int)] W fun e w' => ∃ v, e = .returned v ∧ w'.ownsRow W.heap.size 53 257 v (toZero (readB s) (fsN s.n)).length (pendCells (toZero (readB s) (fsN s.n))) ∧ Below W.heap.size W w') := Lib.hid (fun W C h => zeros_any h (by omega) (by omega))
  rw [formatF_eq]
  have hB0 := Box.start hd
  clear hd hpl hgood
  generalize fresh s.n = R at hmay hfit hhint HFi ⊢
  rw [← hhint] at hll hlm hZ ⊢
  have HHI := Lib.hid hhint
  clear hhint
  generalize toZero (readB s) R.hint = l at hll hlm hZ ⊢
  have HMAY := Lib.hid hmay
  have HFIT := Lib.hid hfit
  have HLL := Lib.hid hll
  have HLM := Lib.hid hlm
  clear hmay hfit hll hlm
  obtain ⟨z, hz⟩ : ∃ z, z = (replF s l R).2 := ⟨_, rfl⟩
  rw [← hz]
  have HZZ := Lib.hid hz
  clear hz
  obtain ⟨F, hF⟩ : ∃ F : DS × (Rt × Int), F = if z = 0 then ((replF s l R).1, (R, 0)) else ((replF s l R).1, (Slt.nil, z)) := ⟨_, rfl⟩
  rw [← hF]
  have HF := Lib.hid hF
  clear hF
  have hB := hB0.alloc (rootO Slt.nil)
  have hb0 : Below w.heap.size w (w.alloc (rootO Slt.nil)) := (Below.refl _ _).alloc (Nat.le_refl _) _
  clear hB0
  unfold ptr at HEx HSz hZ ⊢
  go_enter Try.func11, Try.ntmps11
  go_upto_region 1 with fail
  change Code.wp _ _ _ _ (w.alloc (rootO Slt.nil))
  generalize w.alloc (rootO Slt.nil) = W0 at hB hb0 ⊢
  go_wp2_with fail
  refine (HEx.out W0 hb0).mono ?_
  rintro e W1 ⟨rfl, rfl⟩
  go_wp2_with fail
  refine (HSz.out _ hb0).mono ?_
  rintro e W2 ⟨rfl, rfl⟩
  go_wp2_with fail
  refine (HFi.out _).mono ?_
  rintro e W3 ⟨rfl, hx⟩
  have hB3 := (hB.below hx).alloc (rootO R)
  clear hB hb0 hx
  have tok : True := trivial
  go_upto_region 4 with (first
    | (have _t := tok; refine wpList_store_new rfl 34 _ _ rfl (cells R) _ _ rfl rfl (sizeR R) rfl (cells_one R) ?_; change wpList _ _ _ _ _ (W3.alloc (rootO R)); clear _t tok))
  change Code.wp _ _ _ _ (W3.alloc (rootO R))
  generalize W3.heap.size = q at hB3 ⊢
  generalize W3.alloc (rootO R) = W4 at hB3 ⊢
  go_wp2_with fail
  have hS := hB3.drew
  clear hB3
  have tr : ∀ W', (∃ s', Box w B p s' [(q, rootO R), (w.heap.size, rootO Slt.nil)] W') → IsRt W' q R := fun W' ⟨_, h⟩ => h.at_ (q := q) (o := rootO R) (by simp)
  refine wp_region_noPanic ?_
  refine wp_region_held_drew (S := fun W' => ∃ s', Box w B p s' [(q, rootO R), (w.heap.size, rootO Slt.nil)] W') (by kernel_rfl) ⟨_, hS⟩ ?_
  intro hT
  generalize W4.drew = V at hS hT ⊢
  refine wpAnyH_take (i := 0) (v := .pointer (some ⟨p, 0, none⟩)) rfl (by kernel_rfl) (by kernel_rfl) (by kernel_rfl) (fun _ _ _ h => (h : False).elim) (Or.inl ⟨by rfl, fun _ _ => by go_simp⟩) hT ?_
  change wpAnyH _ _ _ _ _ _ _ (Act.put _ (some 13) _) _
  simp only [Act.put, List.setIfInBounds_toArray, List.set_cons_succ, List.set_cons_zero]
  refine wpAnyH_take (i := 1) (v := .pointer (some ⟨p, 0, none⟩)) rfl (by kernel_rfl) (by kernel_rfl) (by kernel_rfl) (fun _ _ _ h => (h : False).elim) (Or.inl ⟨by rfl, fun _ _ => by go_simp⟩) hT ?_
  change wpAnyH _ _ _ _ _ _ _ (Act.put _ (some 14) _) _
  simp only [Act.put, List.setIfInBounds_toArray, List.set_cons_succ, List.set_cons_zero]
  refine wpAnyH_take (i := 2) (v := .pointer (some ⟨q, 6, none⟩)) rfl (by kernel_rfl) (by kernel_rfl) (by kernel_rfl) (fun _ _ _ h => (h : False).elim) (Or.inl ⟨by rfl, fun _ _ => by go_simp⟩) hT ?_
  change wpAnyH _ _ _ _ _ _ _ (Act.put _ (some 15) _) _
  simp only [Act.put, List.setIfInBounds_toArray, List.set_cons_succ, List.set_cons_zero]
  refine wpAnyH_take (i := 3) (v := .int .u32 (R.hint : Int)) rfl (by kernel_rfl) (by kernel_rfl) (by kernel_rfl) (fun _ _ _ h => (h : False).elim) (Or.inl ⟨by rfl, fun w hw => by have c3 := (tr w hw).hint; go_simp⟩) hT ?_
  change wpAnyH _ _ _ _ _ _ _ (Act.put _ (some 16) _) _
  simp only [Act.put, List.setIfInBounds_toArray, List.set_cons_succ, List.set_cons_zero]
  refine wpAnyH_take (i := 5) (v := .agg (cells R)) rfl (by kernel_rfl) (by kernel_rfl) (by kernel_rfl) (fun _ _ _ h => (h : False).elim) (yieldsIf_load_row (by rfl) 34 _ rfl q rfl _ _ _ _ tr Try.underlying34 rfl (sizeR R)) hT ?_
  change wpAnyH _ _ _ _ _ _ _ (Act.put _ (some 18) _) _
  simp only [Act.put, List.setIfInBounds_toArray, List.set_cons_succ, List.set_cons_zero]
  obtain ⟨C, hdC, hstC, hKC⟩ := hS
  have hlB := hdC.ltB
  refine wpAnyH_ready (rs := [4]) (by kernel_rfl) (by simp) ?_
  refine AllReadyH.cons rfl (fun K hK => ?_) AllReadyH.nil
  go_simp
  refine (hZ.out V C hdC).mono ?_
  rintro e V1 ⟨v, rfl, hown, hx1⟩
  dsimp only
  obtain ⟨s0, hT0⟩ := hT
  refine hK _ _ ⟨_, hT0.below hx1⟩ (fun _ => ?_)
  clear hK K
  obtain ⟨pa, cap, rfl, hpu, hpa⟩ := puts_of_row rfl hown HLM.out
  have hd1 := hdC.below hx1
  have hap : Apart pa l C := fun _ a ha hm => by
    have h1 := (hpa a ha).1
    have h2 := hlB _ hm
    omega
  clear hown hpa
  have hrep := replace_any V1 p pa l.length cap R (by have := HLL.out; have := HFIT.out.hint; omega)
  unfold ptr at hrep
  refine wpAnyH_ready (rs := [6]) (by kernel_rfl) (by simp) ?_
  refine AllReadyH.cons rfl (fun K hK => ?_) AllReadyH.nil
  go_simp
  refine hrep.mono ?_
  rintro e V2 ⟨g, c2, pb, lb, rb, is, hil, rfl, hTd⟩
  dsimp only
  refine hK _ _ ⟨_, (hT0.below hx1).below hTd.bel⟩ (fun _ => ?_)
  clear hK K hrep
  have hrun : Calls Try.prog 27 #[.slice (some ⟨g, 0, none⟩) (l.length + 3) c2] V2 fun e V3 => e = .returned (.int .i64 z) ∧ Box w B p (replF s l R).1 [(q, rootO R), (w.heap.size, rootO Slt.nil)] V3 := by
    rw [HZZ.out]
    refine (runTodo_any hd1 hil hTd hpu hap HMAY.out HFIT.out (by have := HLL.out; have := HHI.out; omega)).mono fun e V3 ⟨he, D, hD, hs⟩ => ⟨he, D, hD, ?_, fun x hx => ?_⟩
    · exact (hstC.trans (Step.of_turn (Turn.of_below (hx1.trans (hTd.bel.mono hx1.size))))).trans hs
    · have h1 := hKC x hx
      have hlt := (Array.getElem?_eq_some_iff.1 h1.2.1).1
      have hlt2 : x.1 < V2.heap.size := Nat.lt_of_lt_of_le hlt (Nat.le_trans hx1.size hTd.bel.size)
      refine ⟨h1.1, ?_, hs.notIn hlt2 h1.2.2⟩
      rw [hs.turn.block _ hlt2 h1.2.2, hTd.bel.block _ (Nat.lt_of_lt_of_le hlt hx1.size), hx1.block _ hlt]
      exact h1.2.1
  clear hd1 hil hTd hpu hap hx1 hlB hKC hstC hdC hT0 tr
  refine wpAnyH_ready (rs := [7]) (by kernel_rfl) (by simp) ?_
  refine AllReadyH.cons rfl (fun K hK => ?_) AllReadyH.nil
  go_simp
  refine hrun.mono ?_
  rintro e V3 ⟨rfl, hB3⟩
  dsimp only
  refine hK _ _ ⟨_, hB3⟩ (fun _ => ?_)
  clear hK K hrun
  refine wpAnyH_ready (rs := [8]) (by kernel_rfl) (by simp) ?_
  refine AllReadyH.cons rfl (fun K hK => ?_) AllReadyH.nil
  go_simp
  refine hK _ _ ⟨_, hB3⟩ (fun _ => ?_)
  clear hK K
  refine wpAnyH_done (by kernel_rfl) ?_ _
  refine NoPanic.normal ?_
  have hR : V3.heap[w.heap.size]? = some (.cells (cells Slt.nil) 34 (0, 0)) := hB3.at_ (q := w.heap.size) (o := rootO Slt.nil) (by simp)
  have hQ : V3.heap[q]? = some (.cells (cells R) 34 (0, 0)) := hB3.at_ (q := q) (o := rootO R) (by simp)
  have hres := fun (cs : Array Value) => Box.setRow (cs' := cs) (hB3.less (K' := [(w.heap.size, .cells (cells Slt.nil) 34 (0, 0))]) (by simp [rootO])) (by simp)
  have HRES := Lib.hid hres
  clear hres hB3
  by_cases h0 : z = 0
  · replace HF := Lib.hid (HF.out.trans (if_pos h0))
    subst h0
    go_wp2_with (first
      | (refine wpList_load_row rfl 34 _ rfl q rfl _ _ _ _ hQ Try.underlying34 rfl (sizeR R) ?_)
      | (refine wpList_store_row rfl 34 _ _ rfl w.heap.size (cells R) rfl rfl _ _ hR (sizeR R) rfl (cells_one R) ?_))
    exact bodyPost_ret (results_row_tmp rfl _ _ _ _ _ _ _ rfl (setRow_heap _ _ _ _ _ _ hR) Try.underlying34 rfl (sizeR R)) rfl ⟨by rw [HF.out]; rfl, by rw [HF.out]; exact (HRES.out _).out⟩
  · replace HF := Lib.hid (HF.out.trans (if_neg h0))
    have d0 : (z != 0) = true := by simpa using h0
    clear h0
    go_wp2_with (first
      | (refine wpList_store_row rfl 34 _ _ rfl w.heap.size (cells Slt.nil) rfl rfl _ _ hR (sizeR Slt.nil) rfl (cells_one Slt.nil) ?_))
    exact bodyPost_ret (results_row_tmp rfl _ _ _ _ _ _ _ rfl (setRow_heap _ _ _ _ _ _ hR) Try.underlying34 rfl (sizeR Slt.nil)) rfl ⟨by rw [HF.out]; rfl, by rw [HF.out]; exact (HRES.out _).out⟩

end Go.Proofs.Ytlojhdnahioicaa.Rot
