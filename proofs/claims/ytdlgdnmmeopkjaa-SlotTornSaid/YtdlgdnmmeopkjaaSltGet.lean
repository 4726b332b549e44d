/-
  The walk of slot's Get.
-/
import Derived.Test.YtdlgdnmmeopkjaaSltPut
namespace Go.Proofs.Ytdlgdnmmeopkjaa.Slt
open Go.RowKit RowLaw Crc Fld
set_option maxRecDepth 100000

theorem viaR_fits (l : List UInt8) : (viaR l).Fits := ⟨x_first l, x_mid l 1 (by omega) (by omega), x_mid l 2 (by omega) (by omega), x_mid l 3 (by omega) (by omega), x_mid l 4 (by omega) (by omega), x_mid l 5 (by omega) (by omega), x_mid l 6 (by omega) (by omega), x_last l⟩
/-- the reader's answers are the places' -/
theorem via_get {l : List UInt8} (hl : l.length = 256) : (endE (stT l 8) ≠ 0 → getR l = nil ∧ getE l = 250) ∧ (mayB (viaR l) = false → getR l = nil ∧ getE l = 250) ∧ (endE (stT l 8) = 0 → mayB (viaR l) = true → getR l = viaR l ∧ getE l = 0) := by
  have hv := via_iff hl
  have hst : stT l 8 = (voT l).2 := rfl
  rw [hst]
  have hop : endE (voT l).2 = 0 → openSt l 82 = some (l, 1) := fun h => by
    rcases (Node.openSt_cases l 82).symm with h2 | h2
    · exfalso
      have hn : (voT l).2 = none := by unfold voT; rw [stN_none h2 6]; rfl
      rw [hn] at h
      cases h
    · exact h2
  refine ⟨fun h => ?_, fun h => ?_, fun h1 h2 => ?_⟩
  · rw [decide_eq_false h, Bool.false_and] at hv
    exact ⟨by unfold getR; rw [← hv]; rfl, by unfold getE; rw [← hv]; rfl⟩
  · rw [h, Bool.and_false] at hv
    exact ⟨by unfold getR; rw [← hv]; rfl, by unfold getE; rw [← hv]; rfl⟩
  · rw [decide_eq_true h1, h2] at hv
    exact ⟨by unfold getR; rw [← hv, via_open (hop h1)]; rfl, by unfold getE; rw [← hv]; rfl⟩

set_option maxHeartbeats 3200000 in
theorem Get_any (l : List UInt8) (hl : l.length = 256) (w : World) :
    Calls Try.prog 11 #[.agg (cellsOf l)] w fun e w' => e = .returned (.tuple #[.agg (cells (getR l)), .int .i64 (getE l)]) ∧ Below w.heap.size w w' := by
  have hmf : ∀ (fn : Fn) (first cap : Array Value) (w : World), (Instr.makeFunc fn first cap).run Try.prog w = .ok (.func fn first cap) w := fun _ _ _ _ => rfl
  have hzc := (zero_of_info infoR).1
  have hi := sizeBlock l hl
  have HCS := Lib.hid (via_get hl)
  have hK : Kept w [(w.heap.size + 2, rootO nil), (w.heap.size + 1, rootO nil), (w.heap.size, blockO l)] (((w.alloc (.cells (cellsOf l) 27)).alloc (.cells (cells nil) 25)).alloc (.cells (cells nil) 25)) := by
    have h := (((Kept.start w).alloc (blockO l)).alloc (rootO nil)).alloc (rootO nil)
    rw [show ((w.alloc (blockO l)).alloc (rootO nil)).heap.size = w.heap.size + 2 from by simp, show (w.alloc (blockO l)).heap.size = w.heap.size + 1 from by simp] at h
    exact h
  go_enter Try.func11, Try.ntmps11
  go_wp2_with (refine wpList_load_row rfl 27 _ rfl (w.heap.size) rfl _ _ _ _ (hK.at_ (q := w.heap.size) (o := blockO l) (by simp)) Try.underlying27 rfl hi ?_)
  refine (Open_any l hl 82 _).mono ?_
  rintro e W1 ⟨q, hq, rfl, hr, hx⟩
  have hbox : RBox w _ q (stT l 0) W1 := ⟨hK.below hx, hr, Nat.le_trans hK.bel.size hq, fun x hx => by have := hK.lt_ (q := x.1) (o := x.2) hx; omega⟩
  clear hK hr hx hq
  go_wp2_with fail
  refine (fields_any (w.heap.size + 2) _).mono ?_
  rintro e W2 ⟨v, rfl, ho, hx⟩
  obtain ⟨g, cap, cur, rfl, hg, hcur, hpl⟩ := own_places ho
  have hlt : w.heap.size + 2 < W1.heap.size := hbox.kept.lt_ (q := w.heap.size + 2) (o := rootO nil) (by simp)
  have hbox2 := swap2 (hbox.more hx hg hcur)
  clear hbox hx hcur ho
  go_wp2_with fail
  refine (read_any w _ q g cap (w.heap.size + 2) cur l (by simp) (by
    intro x hx
    simp only [List.mem_cons, List.not_mem_nil, or_false] at hx
    rcases hx with rfl | rfl | rfl
    · show g ≠ _
      omega
    · show w.heap.size + 1 ≠ _
      omega
    · show w.heap.size ≠ _
      omega) hpl _ hbox2).mono ?_
  clear hbox2 hpl
  rintro e W3 ⟨rfl, hbk⟩
  rw [rd_all] at hbk
  go_wp2_with fail
  refine (End_any _ q _ hbk.rd).mono ?_
  rintro e W4 ⟨rfl, hx⟩
  have hK := hbk.kept.below hx
  clear hbk hx hlt hg
  generalize endE (stT l 8) = E at HCS ⊢
  have hm := fun W => May_any (viaR l) W
  generalize viaR l = R at hK HCS hm
  generalize mayB R = m at HCS hm
  have hgo := hK.at_ (q := w.heap.size + 2) (o := .cells (cells R) 25 (0, 0)) (by simp)
  have hR := hK.at_ (q := w.heap.size + 1) (o := rootO nil) (by simp)
  by_cases h0 : E = 0
  · subst h0
    cases m with
    | false =>
      have HG := Lib.hid (HCS.out.2.1 rfl)
      go_wp2_with (first
        | (refine wpList_load_want (by rfl) 25 _ rfl (w.heap.size + 2) rfl _ _ _ _ hgo Try.underlying25 rfl (sizeR R) ?_)
        | (go_at_call 8; (with_reducible refine (hm _).mono ?_); rintro e W5 ⟨rfl, hx⟩; replace hK := hK.below hx; clear hx hgo hR; have hR := hK.at_ (q := w.heap.size + 1) (o := rootO nil) (by simp))
        | (refine wpList_store_row rfl 25 _ _ rfl (w.heap.size + 1) _ rfl rfl _ _ hR (sizeR nil) rfl (cells_one _) ?_))
      exact bodyPost_ret (results_row_tmp rfl _ _ _ _ _ _ _ rfl (setRow_heap _ _ _ _ _ _ hR) Try.underlying25 rfl (sizeR nil)) rfl ⟨by rw [HG.out.1, HG.out.2]; rfl, below_row hK.bel (by omega)⟩
    | true =>
      have HG := Lib.hid (HCS.out.2.2 rfl rfl)
      go_wp2_with (first
        | (refine wpList_load_want (by rfl) 25 _ rfl (w.heap.size + 2) rfl _ _ _ _ hgo Try.underlying25 rfl (sizeR R) ?_)
        | (go_at_call 8; (with_reducible refine (hm _).mono ?_); rintro e W5 ⟨rfl, hx⟩; replace hK := hK.below hx; clear hx hgo hR; have hR := hK.at_ (q := w.heap.size + 1) (o := rootO nil) (by simp); have hgo := hK.at_ (q := w.heap.size + 2) (o := .cells (cells R) 25 (0, 0)) (by simp))
        | (refine wpList_load_row rfl 25 _ rfl (w.heap.size + 2) rfl _ _ _ _ hgo Try.underlying25 rfl (sizeR R) ?_)
        | (refine wpList_store_row rfl 25 _ _ rfl (w.heap.size + 1) _ rfl rfl _ _ hR (sizeR R) rfl (cells_one _) ?_))
      exact bodyPost_ret (results_row_tmp rfl _ _ _ _ _ _ _ rfl (setRow_heap _ _ _ _ _ _ hR) Try.underlying25 rfl (sizeR R)) rfl ⟨by rw [HG.out.1, HG.out.2]; rfl, below_row hK.bel (by omega)⟩
  · have d0 : (E != 0) = true := by simpa using h0
    have HG := Lib.hid (HCS.out.1 h0)
    clear h0
    go_wp2_with (refine wpList_store_row rfl 25 _ _ rfl (w.heap.size + 1) _ rfl rfl _ _ hR (sizeR nil) rfl (cells_one _) ?_)
    exact bodyPost_ret (results_row_tmp rfl _ _ _ _ _ _ _ rfl (setRow_heap _ _ _ _ _ _ hR) Try.underlying25 rfl (sizeR nil)) rfl ⟨by rw [HG.out.1, HG.out.2]; rfl, below_row hK.bel (by omega)⟩

end Go.Proofs.Ytdlgdnmmeopkjaa.Slt
