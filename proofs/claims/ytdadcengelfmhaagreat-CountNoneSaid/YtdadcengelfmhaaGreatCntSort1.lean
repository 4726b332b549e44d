/-
  Sorting the numbers of a slice: what is asked of it; at most one number.
-/
import Derived.Test.YtdadcengelfmhaaGreatCntColl
import Derived.Test.YtdadcengelfmhaaGreatDev1
namespace Go.Proofs.YtdadcengelfmhaaGreat.Cnt
open Go.RowKit RowLaw
open Go.Proofs.YtdadcengelfmhaaGreat.Dev (Turn)
set_option maxRecDepth 100000

/-- slices of at most N numbers are sorted -/
def SortOk (N : Nat) : Prop := ∀ (base : Nat) (v : Value) (ss : List Nat) (W : World), W.ownsRow base 22 1 v ss.length (ss.map encN) → ss.length ≤ N → (∀ x ∈ ss, x < 4294967296) →
  Calls Tryz.prog 89 #[v] W fun e w' => e = .returned (.tuple #[]) ∧ ∃ ss' : List Nat, ss'.Perm ss ∧ ss'.Pairwise (· ≤ ·) ∧ w'.ownsRow base 22 1 v ss'.length (ss'.map encN) ∧ Turn v.ownBlock.toList W w'

theorem len0 (w : World) : Calls Tryz.prog 111 #[.int .u64 0] w fun e w' => e = .returned (.int .i64 0) ∧ w' = w := by
  go_enter Tryz.func111, Tryz.ntmps111
  go_wp2
  go_ret
  exact ⟨congrArg (fun z => Ending.returned (.int .i64 z)) (by decide +kernel), rfl⟩
theorem len1 (w : World) : Calls Tryz.prog 111 #[.int .u64 1] w fun e w' => e = .returned (.int .i64 1) ∧ w' = w := by
  go_enter Tryz.func111, Tryz.ntmps111
  go_wp2
  go_ret
  exact ⟨congrArg (fun z => Ending.returned (.int .i64 z)) (by decide +kernel), rfl⟩
theorem insertion1 (v : Value) (n : Int) (hn : n ≤ 1) (w : World) : Calls Tryz.prog 123 #[v, .int .i64 0, .int .i64 n] w fun e w' => e = .returned (.tuple #[]) ∧ w' = w := by
  have h1 : ¬ 1 < n := by omega
  go_enter Tryz.func123, Tryz.ntmps123
  go_wp2
  go_loopw [6] (fun i wr => i = .int .i64 1 ∧ wr = w) (fun _ _ => 0)
  case atStart => exact ⟨rfl, rfl⟩
  case round =>
    obtain ⟨rfl, rfl⟩ := hrel
    go_wp2
    go_end0
    exact ⟨rfl, rfl⟩
theorem pdq1 (v : Value) (n z : Int) (h0 : 0 ≤ n) (hn : n ≤ 1) (w : World) : Calls Tryz.prog 110 #[v, .int .i64 0, .int .i64 n, .int .i64 z] w fun e w' => e = .returned (.tuple #[]) ∧ w' = w := by
  have h1 : n ≤ 12 := by omega
  have hI := insertion1 v n hn w
  have HI := Lib.hid hI
  clear hI hn
  go_enter Tryz.func110, Tryz.ntmps110
  go_wp2
  go_loopw [1, 2, 3] (fun a b c wr => a = .int .i64 0 ∧ b = .int .i64 n ∧ wr = w) (fun _ _ _ _ => 0)
  case atStart => exact ⟨rfl, rfl, rfl⟩
  case round =>
    obtain ⟨rfl, rfl, rfl⟩ := hrel
    go_wp2_with (with_reducible refine HI.out.mono ?_)
    rintro e W1 ⟨rfl, rfl⟩
    go_wp2
    exact bodyPost_ret (results_none rfl _ _ _) rfl ⟨rfl, rfl⟩
theorem sortOk1 : SortOk 1 := fun base v ss W hown hlen _ => by
  have hp : Calls Tryz.prog 89 #[v] W fun e w' => e = .returned (.tuple #[]) ∧ w' = W := by
    rcases hown.2 with ⟨rfl, hz⟩ | ⟨g, cap, cur, rfl, _⟩
    · have hP := pdq1 (.slice none 0 0) 0 0 (by omega) (by omega) W
      have hL := len0 W
      clear hown hz
      go_enter Tryz.func89, Tryz.ntmps89
      go_wp2_with (first | ((with_reducible refine hL.mono ?_); rintro e W1 ⟨rfl, rfl⟩) | ((with_reducible refine hP.mono ?_); rintro e W1 ⟨rfl, rfl⟩))
      go_end0
      exact ⟨rfl, rfl⟩
    · clear hown
      obtain ⟨m, hm⟩ : ∃ m, m = ss.length := ⟨_, rfl⟩
      rw [← hm] at hlen ⊢
      clear hm
      obtain rfl | rfl : m = 0 ∨ m = 1 := by omega
      · have hP := pdq1 (.slice (some ⟨g, 0, none⟩) 0 cap) 0 0 (by omega) (by omega) W
        have hL := len0 W
        go_enter Tryz.func89, Tryz.ntmps89
        go_wp2_with (first | ((with_reducible refine hL.mono ?_); rintro e W1 ⟨rfl, rfl⟩) | ((with_reducible refine hP.mono ?_); rintro e W1 ⟨rfl, rfl⟩))
        go_end0
        exact ⟨rfl, rfl⟩
      · have hP := pdq1 (.slice (some ⟨g, 0, none⟩) 1 cap) 1 1 (by omega) (by omega) W
        have hL := len1 W
        go_enter Tryz.func89, Tryz.ntmps89
        go_wp2_with (first | ((with_reducible refine hL.mono ?_); rintro e W1 ⟨rfl, rfl⟩) | ((with_reducible refine hP.mono ?_); rintro e W1 ⟨rfl, rfl⟩))
        go_end0
        exact ⟨rfl, rfl⟩
  refine hp.mono fun e w' ⟨he, hw⟩ => ⟨he, ss, List.Perm.refl _, ?_, by rw [hw]; exact hown, by rw [hw]; exact Turn.refl _ _⟩
  cases ss with
  | nil => exact List.Pairwise.nil
  | cons x r =>
    cases r with
    | nil => exact List.pairwise_singleton _ _
    | cons y r => simp at hlen
end Go.Proofs.YtdadcengelfmhaaGreat.Cnt
