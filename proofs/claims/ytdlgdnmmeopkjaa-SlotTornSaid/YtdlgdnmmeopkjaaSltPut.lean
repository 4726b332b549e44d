/-
  The walks of slot's Put and Get.
-/
import Derived.Test.YtdlgdnmmeopkjaaSltWrite
import Derived.Test.YtdlgdnmmeopkjaaFld3
import Derived.Test.YtdlgdnmmeopkjaaFld2
import Derived.StillTailTactics
import Derived.Deep.QuietTactic
import Derived.BigQuiet
namespace Go.Proofs.Ytdlgdnmmeopkjaa.Slt
open Go.RowKit RowLaw Crc Fld
set_option maxRecDepth 100000

set_option maxHeartbeats 1600000 in
theorem Put_no (r : Rt) (hm : mayB r = false) (w : World) :
    Calls Try.prog 6 #[.agg (cells r)] w fun e w' => e = .returned (.tuple #[.agg (cellsOf zeros), .int .i64 2]) ∧ Below w.heap.size w w' := by
  have hzv := (zero_of_info infoBlock).1
  have hi := sizeBlock zeros zeros_length
  have hK : Kept w [(w.heap.size + 1, blockO zeros), (w.heap.size, rootO r)] ((w.alloc (.cells (cells r) 25)).alloc (.cells (cellsOf zeros) 27)) := by
    have h := ((Kept.start w).alloc (rootO r)).alloc (blockO zeros)
    rw [show (w.alloc (rootO r)).heap.size = w.heap.size + 1 from by simp] at h
    exact h
  have hcall := fun W => May_any r W
  rw [hm] at hcall
  go_enter Try.func6, Try.ntmps6
  go_wp2_with (refine wpList_load_row rfl 25 _ rfl (w.heap.size) rfl _ _ _ _ (hK.at_ (q := w.heap.size) (o := rootO r) (by simp)) Try.underlying25 rfl (sizeR r) ?_)
  refine (hcall _).mono ?_
  rintro e W1 ⟨rfl, hx⟩
  replace hK := hK.below hx
  clear hx
  have hR := hK.at_ (q := w.heap.size + 1) (o := blockO zeros) (by simp)
  go_wp2_with (refine wpList_store_row rfl 27 _ _ rfl _ _ rfl rfl _ _ hR hi rfl (cellsOf_one _) ?_)
  exact bodyPost_ret (results_row_tmp rfl _ _ _ _ _ _ _ rfl (setRow_heap _ _ _ _ _ _ hR) Try.underlying27 rfl hi) rfl ⟨rfl, below_row hK.bel (by omega)⟩

set_option maxHeartbeats 3200000 in
theorem Put_yes (r : Rt) (hm : mayB r = true) (hf : r.Fits) (w : World) :
    Calls Try.prog 6 #[.agg (cells r)] w fun e w' => e = .returned (.tuple #[.agg (cellsOf (rtB r)), .int .i64 0]) ∧ Below w.heap.size w w' := by
  have hmf : ∀ (fn : Fn) (first cap : Array Value) (w : World), (Instr.makeFunc fn first cap).run Try.prog w = .ok (.func fn first cap) w := fun _ _ _ _ => rfl
  have hlen := rtB_length r
  have hzv := (zero_of_info infoBlock).1
  have hi := sizeBlock _ hlen
  have hzz : (cellsOf zeros).size = (cellsOf (rtB r)).size := by rw [cellsOf_size, cellsOf_size, hlen, zeros_length]
  have hK : Kept w [(w.heap.size + 1, blockO zeros), (w.heap.size, rootO r)] ((w.alloc (.cells (cells r) 25)).alloc (.cells (cellsOf zeros) 27)) := by
    have h := ((Kept.start w).alloc (rootO r)).alloc (blockO zeros)
    rw [show (w.alloc (rootO r)).heap.size = w.heap.size + 1 from by simp] at h
    exact h
  have hcall := fun W => May_any r W
  rw [hm] at hcall
  have hcd : fdone (rtF r) 82 = rtB r := rfl
  have HB := Lib.hid hcd
  generalize rtB r = B at hi hzz HB ⊢
  clear hm hlen hcd
  go_enter Try.func6, Try.ntmps6
  go_wp2_with (refine wpList_load_row rfl 25 _ rfl (w.heap.size) rfl _ _ _ _ (hK.at_ (q := w.heap.size) (o := rootO r) (by simp)) Try.underlying25 rfl (sizeR r) ?_)
  refine (hcall _).mono ?_
  rintro e W1 ⟨rfl, hx⟩
  replace hK := hK.below hx
  clear hx hcall
  go_wp2_with fail
  refine (New_any _).mono ?_
  rintro e W2 ⟨rfl, hw, hx⟩
  have hbox : WBox w _ W1.heap.size (some []) W2 := ⟨hK.below hx, hw, hK.bel.size, hK.notin⟩
  clear hK hw hx
  generalize W1.heap.size = q at hbox ⊢
  go_wp2_with fail
  refine (fields_any w.heap.size _).mono ?_
  rintro e W3 ⟨v, rfl, ho, hx⟩
  obtain ⟨g, cap, cur, rfl, hg, hcur, hpl⟩ := own_places ho
  have hbox2 := hbox.more hx hg hcur
  clear hbox hx hg hcur ho
  go_wp2_with fail
  refine (write_any w _ q g cap w.heap.size cur r (by simp) (by simp) hpl hf _ hbox2).mono ?_
  clear hbox2 hpl
  rintro e W4 ⟨rfl, hbk⟩
  go_wp2_with fail
  refine (Done_some _ _ 82 _ hbk.wr).mono ?_
  rintro e W6 ⟨rfl, hb6⟩
  rw [HB.out]
  have hK := hbk.kept.below hb6
  clear hbk hb6
  have hR := hK.at_ (q := w.heap.size + 1) (o := blockO zeros) (by simp)
  go_wp2_with (refine wpList_store_row rfl 27 _ _ rfl _ _ rfl rfl _ _ hR hi hzz (cellsOf_one _) ?_)
  exact bodyPost_ret (results_row_tmp rfl _ _ _ _ _ _ _ rfl (setRow_heap _ _ _ _ _ _ hR) Try.underlying27 rfl hi) rfl ⟨rfl, below_row hK.bel (by omega)⟩

theorem Put_any (r : Rt) (hf : r.Fits) (w : World) :
    Calls Try.prog 6 #[.agg (cells r)] w fun e w' => e = .returned (.tuple #[.agg (cellsOf (putB r)), .int .i64 (putE r)]) ∧ Below w.heap.size w w' := by
  by_cases hm : mayB r = true
  · rw [putB_yes hm, putE_yes hm]; exact Put_yes r hm hf w
  · rw [putB_no hm, putE_no hm]; exact Put_no r (by simpa using hm) w

end Go.Proofs.Ytdlgdnmmeopkjaa.Slt
