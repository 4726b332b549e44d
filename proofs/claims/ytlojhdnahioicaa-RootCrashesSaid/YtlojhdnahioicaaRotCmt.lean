/-
  The walks of root.Commit and root.Format, whole.
-/
import Derived.Test.YtlojhdnahioicaaRotCom
namespace Go.Proofs.Ytlojhdnahioicaa.Rot
open Go.RowKit RowLaw Crc
set_option maxRecDepth 100000
open Go.Proofs.Ytlojhdnahioicaa.Slt (Rt cells rootO rtB rtB_length infoR sizeR cells_one mayB)
open Go.Proofs.Ytlojhdnahioicaa.Dev (Dev DS ptr putCells pendCells Box Step Turn readB)

theorem commitF_yes {s : DS} {l : List (Nat × List UInt8)} {r : Rt} (h : commitOk s.n l r = true) : commitF s l r = replF s l r := by
  unfold commitF
  rw [if_pos h]
  rfl

set_option maxHeartbeats 3200000 in
theorem Commit_any {w : World} {p : Nat} {B : List Nat} {s : DS} (hd : Dev w p B s) (hpl : planOk s.n = true) {pa : Option Addr} {c : Nat} {l : List (Nat × List UInt8)} {r : Rt} (hpu : Puts w pa l) (hap : Apart pa l B) (hf : r.Fits) (hlen : s.pend.length + l.length < 4294967290) :
    Calls Try.prog 12 #[ptr p, .slice pa l.length c, .agg (cells r)] w fun e w' => e = .returned (.int .i64 (commitF s l r).2) ∧ ∃ C, Dev w' p C (commitF s l r).1 ∧ Step B w w' C := by
  have hmf : ∀ (fn : Fn) (first cap : Array Value) (w : World), (Instr.makeFunc fn first cap).run Try.prog w = .ok (.func fn first cap) w := fun _ _ _ _ => rfl
  obtain ⟨m, hm⟩ : ∃ m, m = l.length := ⟨_, rfl⟩
  have HEx : Hid (∀ W, Below w.heap.size w W → Calls Try.prog 24 #[ptr p] W fun e w' => e = .returned (.bool true) ∧ w' = W) := Lib.hid (fun W hW => exists_any (hd.below hW))
  have HSz : Hid (∀ W, Below w.heap.size w W → Calls Try.prog 26 #[ptr p] W fun e w' => e = .returned (.int .u32 (s.n : Int)) ∧ w' = W) := Lib.hid (fun W hW => Size_any (hd.below hW))
  have HMay := Lib.hid (fun W => mayBe_any hpl r W)
  have HC : Hid (∀ nb W, Below w.heap.size w W → W.cell? ⟨nb, 0, none⟩ = some (.int .u32 (s.n : Int)) → Calls Try.prog 31 #[.slice pa m c, badF nb] W fun e w' => e = .returned (.bool (l.any (badP s.n))) ∧ Below W.heap.size W w') := Lib.hid (fun nb W hW hc => by rw [hm]; exact ContainsFunc_any (by omega) W (hpu.below hW) hc)
  have HRep : Hid (∀ W, Below w.heap.size w W → Calls Try.prog 28 #[ptr p, .slice pa m c, .agg (cells r)] W fun e W' => mayB r = true → ∃ g c2, e = .returned (.slice (some ⟨g, 0, none⟩) (m + 3) c2) ∧ Below w.heap.size w W' ∧
      Calls Try.prog 27 #[.slice (some ⟨g, 0, none⟩) (m + 3) c2] W' fun e w' => e = .returned (.int .i64 (replF s l r).2) ∧ ∃ C, Dev w' p C (replF s l r).1 ∧ Step B w w' C) := Lib.hid (fun W hW => by
    rw [hm]
    refine (replace_any W p pa l.length c r (by omega)).mono fun e W' ⟨g, c2, pb, lb, rb, is, hil, he, hT⟩ hmay => ⟨g, c2, he, hW.trans (hT.bel.mono hW.size), ?_⟩
    refine (runTodo_any (hd.below hW) hil hT (hpu.below hW) hap hmay hf hlen).mono fun e w' ⟨he, C, hd', hs⟩ => ⟨he, C, hd', ?_⟩
    exact (Step.of_turn (Turn.of_below (hW.trans (hT.bel.mono hW.size)))).trans hs)
  have hok := ok_bad s.n l r
  have hbadS : commitOk s.n l r = false → commitF s l r = (s, 2) := commit_bad
  have hyesS : commitOk s.n l r = true → commitF s l r = replF s l r := commitF_yes
  have hmr : mayR r s.n = true → mayB r = true := fun h => by unfold mayR at h; rw [Bool.and_eq_true] at h; exact h.1
  have hdw := hd
  rw [← hm]
  clear hd hpl hpu hap hf hlen hm
  generalize l.any (badP s.n) = bad at hok HC
  generalize mayR r s.n = may at hok hmr HMay
  rw [hok] at hbadS hyesS
  clear hok
  have HB := Lib.hid hbadS
  have HY := Lib.hid hyesS
  have HMR := Lib.hid hmr
  have HD := Lib.hid hdw
  clear hbadS hyesS hmr hdw
  have hK := (Kept.start w).alloc (rootO r)
  unfold ptr at HEx HSz HRep ⊢
  go_enter Try.func12, Try.ntmps12
  go_upto_region 1 with fail
  change Code.wp _ _ _ _ (w.alloc (rootO r))
  generalize w.alloc (rootO r) = W0 at hK ⊢
  go_wp2_with fail
  refine (HEx.out W0 hK.bel).mono ?_
  rintro e W1 ⟨rfl, rfl⟩
  go_wp2_with fail
  refine (HSz.out _ hK.bel).mono ?_
  rintro e W2 ⟨rfl, rfl⟩
  have hK2 := hK.alloc (.cells #[.int .u32 (s.n : Int)] 22)
  clear hK
  go_upto_region 4 with fail
  change Code.wp _ _ _ _ (W2.alloc (.cells #[.int .u32 (s.n : Int)] 22))
  generalize W2.alloc (.cells #[.int .u32 (s.n : Int)] 22) = W3 at hK2 ⊢
  generalize W2.heap.size = nb at hK2 ⊢
  have hR : W3.heap[w.heap.size]? = some (.cells (cells r) 34 (0, 0)) := hK2.at_ (q := w.heap.size) (o := rootO r) (by simp)
  have cn : W3.cell? ⟨nb, 0, none⟩ = some (.int .u32 (s.n : Int)) := (cell_of_row W3 nb 0 _ _ _ (hK2.at_ (q := nb) (o := .cells #[.int .u32 (s.n : Int)] 22) (by simp))).trans rfl
  cases may with
  | false =>
    replace HB := Lib.hid (HB.out rfl)
    clear HY HMR HC HRep
    go_wp2_with (refine wpList_load_row rfl 34 _ rfl w.heap.size rfl _ _ _ _ hR Try.underlying34 rfl (sizeR r) ?_)
    refine (HMay.out W3).mono ?_
    rintro e W4 ⟨rfl, hx⟩
    have hb := hK2.bel.trans (hx.mono hK2.bel.size)
    clear hx hR cn hK2
    go_wp2_with fail
    go_ret
    rw [HB.out]
    exact ⟨rfl, B, HD.out.below hb, Step.of_turn (Turn.of_below hb)⟩
  | true =>
    replace HMR := Lib.hid (HMR.out rfl)
    go_wp2_with (refine wpList_load_row rfl 34 _ rfl w.heap.size rfl _ _ _ _ hR Try.underlying34 rfl (sizeR r) ?_)
    refine (HMay.out W3).mono ?_
    rintro e W4 ⟨rfl, hx⟩
    have hK4 := hK2.below hx
    have cn4 : W4.cell? ⟨nb, 0, none⟩ = some (.int .u32 (s.n : Int)) := (hx.cell (p := ⟨nb, 0, none⟩) (hK2.lt_ (q := nb) (o := .cells #[.int .u32 (s.n : Int)] 22) (by simp))).trans cn
    clear hx hR cn hK2
    have hCC := HC.out nb W4 hK4.bel cn4
    unfold badF ptr at hCC
    go_wp2_with fail
    refine hCC.mono ?_
    rintro e W5 ⟨rfl, hx⟩
    have hK5 := hK4.below hx
    clear hx cn4 hK4 hCC
    cases bad with
    | true =>
      replace HB := Lib.hid (HB.out rfl)
      clear HY HRep
      go_wp2_with fail
      go_ret
      rw [HB.out]
      exact ⟨rfl, B, HD.out.below hK5.bel, Step.of_turn (Turn.of_below hK5.bel)⟩
    | false =>
      replace HY := Lib.hid (HY.out rfl)
      clear HB
      have hR5 : W5.heap[w.heap.size]? = some (.cells (cells r) 34 (0, 0)) := hK5.at_ (q := w.heap.size) (o := rootO r) (by simp)
      go_wp2_with (refine wpList_load_row rfl 34 _ rfl w.heap.size rfl _ _ _ _ hR5 Try.underlying34 rfl (sizeR r) ?_)
      refine (HRep.out W5 hK5.bel).mono ?_
      intro e W6 h6
      obtain ⟨g, c2, rfl, _, hrun⟩ := h6 HMR.out
      clear h6 hR5 hK5
      go_wp2_with fail
      refine hrun.mono ?_
      clear hrun
      rintro e W7 ⟨rfl, hfin⟩
      have HF := Lib.hid hfin
      clear hfin
      go_wp2_with fail
      go_ret
      rw [HY.out]
      exact ⟨rfl, HF.out⟩

end Go.Proofs.Ytlojhdnahioicaa.Rot
