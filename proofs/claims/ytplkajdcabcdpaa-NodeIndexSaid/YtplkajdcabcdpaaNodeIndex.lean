/-
  The walk of the law NodeIndex.
-/
import Derived.Test.YtplkajdcabcdpaaNodeHeadW
namespace Go.Proofs.Ytplkajdcabcdpaa.Node
open Go.RowKit RowLaw Crc Fld

theorem Index_as (page lv x : Nat) (hp : page < 32768) (hl : 1 ≤ lv) (hl3 : lv ≤ 3) (hx : page / 32 ^ (lv - 1) % 32 = x) (w : World) :
    Calls Try.prog 16 #[.int .u32 (page : Int), .int .u8 (lv : Int)] w fun e w' => e = .returned (.tuple #[.int .i64 (x : Int), .int .i64 0]) ∧ w' = w := by
  subst hx
  exact Index_yes page lv hp (decide_eq_true ⟨hl, hl3⟩) w

set_option maxRecDepth 100000 in
set_option maxHeartbeats 3200000 in
theorem index_any (page other lv : Nat) (w : World) :
    Calls Try.prog 5 #[.int .u32 (page : Int), .int .u32 (other : Int), .int .u8 (lv : Int)] w fun e w' => e = .returned (.bool true) ∧ Below w.heap.size w w' := by
  have hI := fun W => Index_any page lv W
  have hR := fun W => refIndex_any page lv W
  generalize idxR page lv = X at hI hR
  generalize idxE page lv = E at hI hR
  have HI := Lib.hid hI; clear hI
  have HR := Lib.hid hR; clear hR
  by_cases hp : 32768 ≤ page
  · have d1 : (32768 : Int) ≤ (page : Int) := by omega
    have d2 : decide ((32768 : Int) ≤ (page : Int)) = true := decide_eq_true d1
    go_enter Try.func5, Try.ntmps5
    go_wp2_with (first
      | (go_at_call 16; (with_reducible refine (HI.out _).mono ?_); rintro e W ⟨rfl, rfl⟩)
      | (go_at_call 17; (with_reducible refine (HR.out _).mono ?_); rintro e W ⟨rfl, rfl⟩)
      | (go_at_call 12; (with_reducible refine (head_any _).mono ?_); rintro e W3 ⟨rfl, hx⟩))
    go_ret
    exact ⟨rfl, hx⟩
  · have d1 : ¬ (32768 : Int) ≤ (page : Int) := by omega
    have d2 : decide ((32768 : Int) ≤ (page : Int)) = false := decide_eq_false d1
    by_cases ho : 32768 ≤ other
    · have d3 : (32768 : Int) ≤ (other : Int) := by omega
      have d4 : decide ((32768 : Int) ≤ (other : Int)) = true := decide_eq_true d3
      go_enter Try.func5, Try.ntmps5
      go_wp2_with (first
        | (go_at_call 16; (with_reducible refine (HI.out _).mono ?_); rintro e W ⟨rfl, rfl⟩)
        | (go_at_call 17; (with_reducible refine (HR.out _).mono ?_); rintro e W ⟨rfl, rfl⟩)
        | (go_at_call 12; (with_reducible refine (head_any _).mono ?_); rintro e W3 ⟨rfl, hx⟩))
      go_ret
      exact ⟨rfl, hx⟩
    · have d3 : ¬ (32768 : Int) ≤ (other : Int) := by omega
      have d4 : decide ((32768 : Int) ≤ (other : Int)) = false := decide_eq_false d3
      go_enter Try.func5, Try.ntmps5
      go_wp2_with (first
        | (go_at_call 16; (with_reducible refine (HI.out _).mono ?_); rintro e W ⟨rfl, rfl⟩)
        | (go_at_call 17; (with_reducible refine (HR.out _).mono ?_); rintro e W ⟨rfl, rfl⟩))
      go_loop [11, 12, 13] (fun s b k => ∃ j : Nat, j ≤ 3 ∧ k = .int .u8 (j : Int) ∧ s = .int .i64 ((page / 32 ^ j : Nat) : Int) ∧ b = .bool (decide (page / 32 ^ j = other / 32 ^ j))) (fun _ _ k => (intOf k).toNat)
      case atStart => exact ⟨3, by omega, rfl, by rw [show page / 32 ^ 3 = 0 from by omega]; rfl, by rw [show page / 32 ^ 3 = 0 from by omega, show other / 32 ^ 3 = 0 from by omega]; rfl⟩
      case round =>
        obtain ⟨j, hj, rfl, rfl, rfl⟩ := hrel
        by_cases hj0 : 1 ≤ j
        · obtain ⟨p1, hp1⟩ : ∃ p, p = page / 32 ^ (j - 1) := ⟨_, rfl⟩
          obtain ⟨o1, ho1⟩ : ∃ o, o = other / 32 ^ (j - 1) := ⟨_, rfl⟩
          have ha : page / 32 ^ j = p1 / 32 := by rw [hp1, Nat.div_div_eq_div_mul, ← Nat.pow_succ, show (j - 1).succ = j from by omega]
          have hb : other / 32 ^ j = o1 / 32 := by rw [ho1, Nat.div_div_eq_div_mul, ← Nat.pow_succ, show (j - 1).succ = j from by omega]
          have hpl : p1 < 32768 := by rw [hp1]; exact Nat.lt_of_le_of_lt (Nat.div_le_self _ _) (by omega)
          rw [ha, hb]
          clear ha hb
          obtain ⟨a, haa⟩ : ∃ a, a = p1 / 32 := ⟨_, rfl⟩
          obtain ⟨b, hbb⟩ : ∃ b, b = o1 / 32 := ⟨_, rfl⟩
          obtain ⟨x, hx⟩ : ∃ x, x = p1 % 32 := ⟨_, rfl⟩
          obtain ⟨y, hy⟩ : ∃ y, y = o1 % 32 := ⟨_, rfl⟩
          rw [← haa, ← hbb]
          have hpi := fun W => Index_as page j x (by omega) (by omega) hj (by rw [← hp1, hx]) W
          have hoi := fun W => Index_as other j y (by omega) (by omega) hj (by rw [← ho1, hy]) W
          have HPI := Lib.hid hpi; clear hpi
          have HOI := Lib.hid hoi; clear hoi
          have hx31 : x ≤ 31 := by omega
          have ha1 : a ≤ 1024 := by omega
          have hsum : 32 * (a : Int) + (x : Int) = (p1 : Int) := by omega
          have q1 : decide ((x : Int) < 0) = false := decide_eq_false (by omega)
          have q2 : decide ((31 : Int) < (x : Int)) = false := decide_eq_false (by omega)
          have q3 : ¬ (31 : Int) < (x : Int) := by omega
          have q4 : ¬ (x : Int) < 0 := by omega
          have q5 : (1 : Int) ≤ (j : Int) := by omega
          have hrel2 : (decide (p1 = o1)) = (decide (a = b) && ((x : Int) == (y : Int))) := by
            rw [Bool.eq_iff_iff, Bool.and_eq_true, decide_eq_true_iff, decide_eq_true_iff, beq_iff_eq]
            omega
          have HP1 := Lib.hid hp1; clear hp1
          have HO1 := Lib.hid ho1; clear ho1
          have HX := Lib.hid (And.intro haa (And.intro hbb (And.intro hx hy)))
          clear haa hbb hx hy
          have HR2 := Lib.hid hrel2; clear hrel2
          by_cases hab : a = b
          · have q6 : decide (a = b) = true := decide_eq_true hab
            rw [q6] at HR2 ⊢
            clear hab q6
            go_wp2_with (first
              | (go_at_call 16; (with_reducible refine (HPI.out _).mono ?_); rintro e W ⟨rfl, rfl⟩)
              | (go_at_call 16; (with_reducible refine (HOI.out _).mono ?_); rintro e W ⟨rfl, rfl⟩))
            go_round
            case rel => exact ⟨j - 1, by omega, by rw [show ((j - 1 : Nat) : Int) = (j : Int) - 1 from by omega], by rw [← HP1.out], by rw [← HP1.out, ← HO1.out, HR2.out]; rfl⟩
            case measure => simp [intOf]; omega
          · have q6 : decide (a = b) = false := decide_eq_false hab
            rw [q6] at HR2 ⊢
            clear hab q6
            go_wp2_with (first
              | (go_at_call 16; (with_reducible refine (HPI.out _).mono ?_); rintro e W ⟨rfl, rfl⟩)
              | (go_at_call 16; (with_reducible refine (HOI.out _).mono ?_); rintro e W ⟨rfl, rfl⟩))
            go_round
            case rel => exact ⟨j - 1, by omega, by rw [show ((j - 1 : Nat) : Int) = (j : Int) - 1 from by omega], by rw [← HP1.out], by rw [← HP1.out, ← HO1.out, HR2.out]; rfl⟩
            case measure => simp [intOf]; omega
        · obtain rfl : j = 0 := by omega
          rw [show page / 32 ^ 0 = page from by simp, show other / 32 ^ 0 = other from by simp]
          by_cases hpo : page = other
          · have q1 : decide (page = other) = true := decide_eq_true hpo
            have q2 : ((page : Int) == (other : Int)) = true := by rw [hpo]; simp
            rw [q1]
            clear hpo q1
            go_wp2_with (go_at_call 12; (with_reducible refine (head_any _).mono ?_); rintro e W3 ⟨rfl, hx⟩)
            go_ret
            exact ⟨rfl, hx⟩
          · have q1 : decide (page = other) = false := decide_eq_false hpo
            have q2 : ((page : Int) == (other : Int)) = false := by simp; omega
            rw [q1]
            clear hpo q1
            go_wp2_with (go_at_call 12; (with_reducible refine (head_any _).mono ?_); rintro e W3 ⟨rfl, hx⟩)
            go_ret
            exact ⟨rfl, hx⟩

end Go.Proofs.Ytplkajdcabcdpaa.Node
