/-
  The law CountCommits, walked.
-/
import Derived.Test.YtojpcgjmainbfaaGreatCntI
namespace Go.Proofs.YtojpcgjmainbfaaGreat.Cnt
open Go.RowKit Go.Maps Go.MapKept RowLaw Crc
open Go.Proofs.YtojpcgjmainbfaaGreat.Dev (Dev DS ptr newS)
open Go.Proofs.YtojpcgjmainbfaaGreat.Slt (Rt cells rootO cells_one)
open Go.Proofs.YtojpcgjmainbfaaGreat.Rot (planOk tlN pkN fsN plan_facts)
set_option maxRecDepth 100000
set_option linter.unusedSimpArgs false in
set_option maxHeartbeats 12800000 in
theorem CountCommits_any {n m cap : Nat} {xs : List St} {pa : Option Addr} (hm : m = xs.length) {w : World} (hx : Sts w pa xs) (hn32 : n < 4294967296) :
    Calls Tryz.prog 3 #[.int .u32 (n : Int), .slice pa m cap] w fun e w' => e = .returned (.bool true) ∧ Below w.heap.size w w' := by
  have HH := Lib.hid (head_any w)
  by_cases hin : 64 ≤ n ∧ n ≤ 5000
  · obtain ⟨h64, h5k⟩ := hin
    obtain ⟨s2, hf, hcalm, hn2, hS, _, _⟩ := format_sound (s := newS n) (Rot.Calm.new n) h64 (by show n ≤ 1048576; omega)
    have HF : Hid (Rot.formatF (newS n) = (s2, (rg 1 n 0, 0))) := Lib.hid hf
    have HCA := Lib.hid hcalm; have HN : Hid (s2.n = n) := Lib.hid hn2; have HS := Lib.hid hS
    have HX := Lib.hid hx; have HM := Lib.hid hm
    have hz1 : ¬ (n : Int) < 64 := by omega
    have hz2 : ¬ (5000 : Int) < (n : Int) := by omega
    have HP0 : Hid (planOk (newS n).n = true) := Lib.hid (by show decide _ = true; exact decide_eq_true (by show 64 ≤ n ∧ n ≤ 1048576; omega))
    have HHD : Hid (∀ W, Calls Tryz.prog 9 #[] W fun e w' => e = .returned (.bool true) ∧ Below W.heap.size W w') := Lib.hid head_any
    clear hf hcalm hn2 hS hx hm HH
    go_enter Tryz.func3, Tryz.ntmps3
    go_wp2_with fail
    refine (Dev.New_any w n h64 (by omega)).mono ?_
    rintro e W1 ⟨p, B, rfl, hd, hB, hb⟩
    have hmm : Hall w [.dev p (newS n)] [] W1 := (Hall.start w).push hb (x := .dev p (newS n)) hd hB
    clear hd hB hb
    have hc := Hall.format hmm (i := 0) rfl HP0.out (by show 0 < 4293000000; omega) HF.out
    unfold ptr at hc ⊢
    have HC := Lib.hid hc
    clear hc hmm
    go_wp2_with fail
    refine HC.out.mono ?_
    clear HC HP0 HF
    rintro e W2 ⟨rfl, hmm⟩
    replace hmm : Hall w [.dev p s2] [] W2 := hmm
    have hm3 := hmm.alloc (rootO (rg 1 n 0))
    have tok : True := trivial
    have HSZ := Lib.hid hmm.size
    clear hmm
    go_upto_region 5 with (have _t := tok; refine wpList_store_new rfl 31 _ _ rfl (cells (rg 1 n 0)) _ _ rfl rfl (Slt.sizeR _) rfl (cells_one _) ?_; change wpList _ _ _ _ _ (W2.alloc (rootO (rg 1 n 0))); clear _t tok)
    change Code.wp _ _ _ _ (W2.alloc (rootO (rg 1 n 0)))
    generalize W2.heap.size = q7 at hm3 HSZ ⊢
    generalize W2.alloc (rootO (rg 1 n 0)) = W3 at hm3 ⊢
    have HM3 := Lib.hid hm3
    clear hm3
    go_wp2_with fail
    refine commits_loop HM.out HX.out ⟨h64, h5k⟩ HSZ.out HM3.out HCA.out HN.out HS.out ?_
    intro _ _ _ _ _ _ _ _ _ _ _ _ _ _ _ _ _ _ _ _ _ _ _ _ _ _ _ _ _ _ _ _ _ _ _ _ _ _ _ _ _ _ _ _ _ _ _ _ _ _ _ _ _ _ _ _ _ _ _ _ _ _ _ _ _ _ _ _ _ _ _ _ _ _ _ _ _ _ _ _ _ _ _ _ _ _ _ _ _ _ _ _ _ _ _ _ _ _ _ _ _ _ _ _ _ _ _ _ _ _ _ _ _ _ _ _ _ _ _ _ _ _ _ _ _ _ _ _ _ _ _ _ _ _ _ _ _ _ _ _ _ _ _ _ _ _ _ _ _ _ _ _ _ _ _ _ _ _ _ _ _ _ _ _ _ _ _ _ _ _ _ _ _ _ _ _ _ _ _ _ _ _ _ _ _ _ _ _ _ _ _ _ _ _ _ _ _ _ _ _ _ _ _ _ _ _ _ _ _ _ _ _ _ _ _ _ _ _ _ _ W4 hb
    have HB := Lib.hid hb
    have HC := Lib.hid (HHD.out W4)
    clear hb HM3 HCA HN HS HSZ HX HM HHD
    go_wp2_with fail
    refine HC.out.mono ?_
    clear HC
    rintro e W5 ⟨rfl, hb⟩
    have HB2 := Lib.hid (HB.out.trans (hb.mono HB.out.size))
    clear hb HB
    go_wp2_with fail
    go_ret
    exact ⟨rfl, HB2.out⟩
  · have HB : Hid (n < 64 ∨ 5000 < n) := Lib.hid (by omega)
    clear hx hm
    rcases HB.out with hlt | hgt
    · have hz1 : (n : Int) < 64 := by omega
      go_enter Tryz.func3, Tryz.ntmps3
      go_wp2_with fail
      refine HH.out.mono ?_
      rintro e W1 ⟨rfl, hb⟩
      go_wp2_with fail
      go_ret
      exact ⟨rfl, hb⟩
    · have hz1 : ¬ (n : Int) < 64 := by omega
      have hz2 : (5000 : Int) < (n : Int) := by omega
      go_enter Tryz.func3, Tryz.ntmps3
      go_wp2_with fail
      refine HH.out.mono ?_
      rintro e W1 ⟨rfl, hb⟩
      go_wp2_with fail
      go_ret
      exact ⟨rfl, hb⟩
end Go.Proofs.YtojpcgjmainbfaaGreat.Cnt
