/-
  The walks of package node's Index and of the reference's.
-/
import Derived.Test.YtdhfpmnkffdjaaaNodeRefGet
import Derived.ScopeJumps
namespace Go.Proofs.Ytdhfpmnkffdjaaa.Node
open Go.RowKit RowLaw Crc Fld

theorem isLevel_as (lv : Nat) (b : Bool) (hb : lvB lv = b) (w : World) :
    Calls Try.prog 31 #[.int .u8 (lv : Int)] w fun e w' => e = .returned (.bool b) ∧ w' = w := hb ▸ isLevel_any lv w

theorem idx_step (page lv : Nat) (h : 1 < lv) : idx page lv = idx (page / 32) (lv - 1) := by
  unfold idx
  obtain ⟨k, rfl⟩ : ∃ k, lv = k + 2 := ⟨lv - 2, by omega⟩
  rw [show k + 2 - 1 = k + 1 from by omega, show k + 1 - 1 = k from by omega, Nat.pow_succ, Nat.mul_comm, Nat.div_div_eq_div_mul]

theorem Index_no (page lv : Nat) (h : 32768 ≤ page ∨ lvB lv = false) (w : World) :
    Calls Try.prog 16 #[.int .u32 (page : Int), .int .u8 (lv : Int)] w fun e w' => e = .returned (.tuple #[.int .i64 0, .int .i64 2]) ∧ w' = w := by
  by_cases h1 : 32768 ≤ page
  · have d1 : (32768 : Int) ≤ (page : Int) := by omega
    have d2 : decide ((32768 : Int) ≤ (page : Int)) = true := decide_eq_true d1
    clear h h1
    go_enter Try.func16, Try.ntmps16
    go_wp2
    refine wp_scope_jumps 0 (fun _ _ => False) (fun _ _ => 0) rfl ?_ (fun _ _ h => h.elim)
    go_wp2
    simp only [Exit.jump]
    go_ret2
    exact ⟨rfl, rfl⟩
  · have hb : lvB lv = false := by rcases h with h | h; · exact absurd h h1
                                   · exact h
    have d1 : ¬ (32768 : Int) ≤ (page : Int) := by omega
    have d2 : decide ((32768 : Int) ≤ (page : Int)) = false := decide_eq_false d1
    have HB := Lib.hid hb
    clear h h1 hb
    go_enter Try.func16, Try.ntmps16
    go_wp2
    refine wp_scope_jumps 0 (fun _ _ => False) (fun _ _ => 0) rfl ?_ (fun _ _ h => h.elim)
    go_wp2_with (go_at_call 31; (with_reducible refine (isLevel_as lv false HB.out _).mono ?_); rintro e W ⟨rfl, rfl⟩)
    simp only [Exit.jump]
    go_ret2
    exact ⟨rfl, rfl⟩

set_option maxHeartbeats 800000 in
theorem Index_yes (page lv : Nat) (h : page < 32768) (hb : lvB lv = true) (w : World) :
    Calls Try.prog 16 #[.int .u32 (page : Int), .int .u8 (lv : Int)] w fun e w' => e = .returned (.tuple #[.int .i64 (idx page lv : Int), .int .i64 0]) ∧ w' = w := by
  have d1 : ¬ (32768 : Int) ≤ (page : Int) := by omega
  have d2 : decide ((32768 : Int) ≤ (page : Int)) = false := decide_eq_false d1
  have HB := Lib.hid hb
  clear hb
  have hlv : 1 ≤ lv ∧ lv ≤ 3 := of_decide_eq_true HB.out
  obtain ⟨hlo, hhi⟩ := hlv
  obtain ⟨r, hr⟩ : ∃ r, r = idx page lv := ⟨_, rfl⟩
  rw [← hr]
  have HR := Lib.hid hr; clear hr
  go_enter Try.func16, Try.ntmps16
  go_wp2
  refine wp_scope_jumps 0 (fun a' w' => ∃ (pg l : Nat) (u6 u7 u8 u9 u10 u11 u12 u13 u14 u15 u16 u17 u18 u19 u20 u21 : Value), pg < 32768 ∧ 1 ≤ l ∧ l ≤ 3 ∧ Hid (r = idx pg l) ∧ a' = { tmps := #[.int .u32 (pg : Int), .int .u8 (l : Int), undef, undef, .int .i64 0, .int .i64 0, u6, u7, u8, u9, u10, u11, u12, u13, u14, u15, u16, u17, u18, u19, u20, u21], defers := [] } ∧ w' = w) (fun a' _ => (intOf (a'.tmps.getD 1 undef)).toNat) rfl ?_ ?_
  · go_wp2_with (go_at_call 31; (with_reducible refine (isLevel_as lv true HB.out _).mono ?_); rintro e W ⟨rfl, rfl⟩)
    go_step3
    by_cases h1 : lv = 1
    · subst h1
      go_wp2
      simp only [Exit.jump]
      go_ret2
      refine ⟨?_, rfl⟩
      have hr := HR.out
      unfold idx at hr
      rw [show (r : Int) = (page : Int) % 32 from by rw [hr]; simp]
      rfl
    · have h2 : (1 : Int) < (lv : Int) := by omega
      clear h1
      go_wp2
      rw [show (page : Int) / 32 = ((page / 32 : Nat) : Int) from by omega, show (lv : Int) - 1 = ((lv - 1 : Nat) : Int) from by omega]
      go_step3
      have hr := HR.out
      rw [idx_step page lv (by omega)] at hr
      exact ⟨rfl, page / 32, lv - 1, _, _, _, _, _, _, _, _, _, _, _, _, _, _, _, _, by omega, by omega, by omega, Lib.hid hr, rfl, rfl⟩
  · rintro a' w1 ⟨pg, l, u6, u7, u8, u9, u10, u11, u12, u13, u14, u15, u16, u17, u18, u19, u20, u21, hpg, hl1, hl3, hrl, rfl, rfl⟩
    by_cases h1 : l = 1
    · subst h1
      go_wp2
      simp only [Exit.jump]
      go_ret2
      refine ⟨?_, rfl⟩
      have hr := hrl.out
      unfold idx at hr
      rw [show (r : Int) = (pg : Int) % 32 from by rw [hr]; simp]
      rfl
    · have h2 : (1 : Int) < (l : Int) := by omega
      clear h1
      go_wp2
      rw [show (pg : Int) / 32 = ((pg / 32 : Nat) : Int) from by omega, show (l : Int) - 1 = ((l - 1 : Nat) : Int) from by omega]
      go_step3
      have hr := hrl.out
      rw [idx_step pg l (by omega)] at hr
      refine ⟨rfl, ⟨pg / 32, l - 1, _, _, _, _, _, _, _, _, _, _, _, _, _, _, _, _, by omega, by omega, by omega, Lib.hid hr, rfl, rfl⟩, ?_⟩
      simp [intOf]
      omega

def idxR (page lv : Nat) : Int := if page < 32768 ∧ lvB lv = true then (idx page lv : Int) else 0
def idxE (page lv : Nat) : Int := if page < 32768 ∧ lvB lv = true then 0 else 2
theorem Index_any (page lv : Nat) (w : World) :
    Calls Try.prog 16 #[.int .u32 (page : Int), .int .u8 (lv : Int)] w fun e w' => e = .returned (.tuple #[.int .i64 (idxR page lv), .int .i64 (idxE page lv)]) ∧ w' = w := by
  unfold idxR idxE
  by_cases h : page < 32768 ∧ lvB lv = true
  · rw [if_pos h, if_pos h]; exact Index_yes page lv h.1 h.2 w
  · rw [if_neg h, if_neg h]
    refine Index_no page lv ?_ w
    by_cases h1 : page < 32768
    · right
      rcases Bool.eq_false_or_eq_true (lvB lv) with h2 | h2
      · exact absurd ⟨h1, h2⟩ h
      · exact h2
    · left; omega

set_option maxHeartbeats 800000 in
theorem refIndex_any (page lv : Nat) (w : World) :
    Calls Try.prog 17 #[.int .u32 (page : Int), .int .u8 (lv : Int)] w fun e w' => e = .returned (.tuple #[.int .i64 (idxR page lv), .int .i64 (idxE page lv)]) ∧ w' = w := by
  by_cases h : page < 32768 ∧ lvB lv = true
  · have hR : idxR page lv = (idx page lv : Int) := if_pos h
    have hE : idxE page lv = 0 := if_pos h
    rw [hR, hE]
    obtain ⟨h1, h2⟩ := h
    have hlv : 1 ≤ lv ∧ lv ≤ 3 := of_decide_eq_true h2
    obtain ⟨hlo, hhi⟩ := hlv
    have d1 : ¬ (32768 : Int) ≤ (page : Int) := by omega
    have d2 : decide ((32768 : Int) ≤ (page : Int)) = false := decide_eq_false d1
    have d3 : decide ((lv : Int) < 1) = false := decide_eq_false (by omega)
    have d4 : decide ((3 : Int) < (lv : Int)) = false := decide_eq_false (by omega)
    clear hR hE h2
    go_enter Try.func17, Try.ntmps17
    go_wp2
    go_loop [6, 7] (fun n k => ∃ j pg : Nat, 1 ≤ j ∧ j ≤ lv ∧ pg < 32768 ∧ k = .int .u8 (j : Int) ∧ n = .int .u32 (pg : Int) ∧ Hid (pg = page / 32 ^ (j - 1))) (fun _ k => lv - (intOf k).toNat)
    case atStart => exact ⟨1, page, by omega, by omega, h1, rfl, rfl, Lib.hid (by simp)⟩
    case round =>
      obtain ⟨j, pg, hj1, hj2, hpg, rfl, rfl, hp⟩ := hrel
      by_cases hlt : j < lv
      · have i1 : (j : Int) < (lv : Int) := by omega
        go_wp2
        go_round
        case rel =>
          refine ⟨j + 1, pg / 32, by omega, by omega, by omega, by go_num, by go_num, Lib.hid ?_⟩
          rw [hp.out, Nat.div_div_eq_div_mul, ← Nat.pow_succ, show j + 1 - 1 = (j - 1).succ from by omega]
        case measure => simp [intOf]; omega
      · obtain rfl : j = lv := by omega
        go_wp2
        go_ret2
        refine ⟨?_, rfl⟩
        have hr := hp.out
        rw [show ((idx page j : Nat) : Int) = (pg : Int) % 32 from by unfold idx; rw [← hr]; simp]
        rfl
  · have hR : idxR page lv = 0 := if_neg h
    have hE : idxE page lv = 2 := if_neg h
    rw [hR, hE]
    have hn : ¬ (page < 32768 ∧ 1 ≤ lv ∧ lv ≤ 3) := fun hh => h ⟨hh.1, decide_eq_true hh.2⟩
    clear h hR hE
    by_cases h1 : 32768 ≤ page
    · have d1 : (32768 : Int) ≤ (page : Int) := by omega
      have d2 : decide ((32768 : Int) ≤ (page : Int)) = true := decide_eq_true d1
      clear hn
      go_enter Try.func17, Try.ntmps17
      go_wp2
      go_ret2
      exact ⟨rfl, rfl⟩
    · have d1 : ¬ (32768 : Int) ≤ (page : Int) := by omega
      have d2 : decide ((32768 : Int) ≤ (page : Int)) = false := decide_eq_false d1
      by_cases h2 : lv < 1
      · have d3 : decide ((lv : Int) < 1) = true := decide_eq_true (by omega)
        clear hn
        go_enter Try.func17, Try.ntmps17
        go_wp2
        go_ret2
        exact ⟨rfl, rfl⟩
      · have d3 : decide ((lv : Int) < 1) = false := decide_eq_false (by omega)
        have d4 : decide ((3 : Int) < (lv : Int)) = true := decide_eq_true (by omega)
        have d5 : (3 : Int) < (lv : Int) := by omega
        clear hn
        go_enter Try.func17, Try.ntmps17
        go_wp2
        go_ret2
        exact ⟨rfl, rfl⟩

end Go.Proofs.Ytdhfpmnkffdjaaa.Node
