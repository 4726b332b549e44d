/-
  The laws RootPlans and RootFormats, for all arguments.
-/
import Derived.Test.YtlojhdnahioicaaRotHead
import Derived.Test.YtlojhdnahioicaaRotPlans
import Derived.Test.YtlojhdnahioicaaRotFormats
namespace Go.Proofs.Ytlojhdnahioicaa.Rot
open Go.RowKit RowLaw Crc
set_option maxRecDepth 100000
open Go.Proofs.Ytlojhdnahioicaa.Dev (ptr New_live)

theorem plans_w {n : Nat} (hn : n < 4294967296) (w : World) : Calls Try.prog 3 #[.int .u32 (n : Int)] w fun e w' => e = .returned (.bool true) ∧ Below w.heap.size w w' :=
  plans_any hn (fun W => Layout_any hn W) head_any w

set_option maxHeartbeats 1600000 in
theorem formats_none {n m : Nat} (hn : n < 4294967296) (h : planOk n = false) (pa : Option Addr) (cap : Nat) (w : World) : Calls Try.prog 5 #[.int .u32 (n : Int), .slice pa m cap] w fun e w' => e = .returned (.bool true) ∧ Below w.heap.size w w' := by
  have hN := New_no hn h w
  clear h
  go_enter Try.func5, Try.ntmps5
  go_wp2_with fail
  refine hN.mono ?_
  rintro e W1 ⟨rfl, hb⟩
  clear hN
  go_wp2_with (with_reducible refine (head_any _).mono ?_)
  rintro e W2 ⟨rfl, hx⟩
  go_wp2_with fail
  go_ret
  exact ⟨rfl, hb.trans (hx.mono hb.size)⟩
set_option maxHeartbeats 1600000 in
theorem formats_far {n m : Nat} (h : planOk n = true) (hm : m ≤ 9223372036854775807) (hf : 300 < n ∨ 60 < m) (pa : Option Addr) (cap : Nat) (w : World) : Calls Try.prog 5 #[.int .u32 (n : Int), .slice pa m cap] w fun e w' => e = .returned (.bool true) ∧ Below w.heap.size w w' := by
  obtain ⟨h64, hbig⟩ : 64 ≤ n ∧ n ≤ 1048576 := by simpa [planOk] using h
  by_cases h3 : 300 < n
  · have i1 : (300 : Int) < (n : Int) := by omega
    clear h hf h3
    go_enter Try.func5, Try.ntmps5
    go_wp2_with fail
    refine (New_live w n h64 hbig).mono ?_
    rintro e W1 ⟨p, rfl, hl⟩
    have hb := hl.bel
    clear hl
    unfold ptr
    go_wp2_with (with_reducible refine (head_any _).mono ?_)
    rintro e W2 ⟨rfl, hx⟩
    go_wp2_with fail
    go_ret
    exact ⟨rfl, hb.trans (hx.mono hb.size)⟩
  · have i1 : ¬ (300 : Int) < (n : Int) := by omega
    have i2 : (60 : Int) < (m : Int) := by omega
    clear h hf h3
    go_enter Try.func5, Try.ntmps5
    go_wp2_with fail
    refine (New_live w n h64 hbig).mono ?_
    rintro e W1 ⟨p, rfl, hl⟩
    have hb := hl.bel
    clear hl
    unfold ptr
    go_wp2_with (with_reducible refine (head_any _).mono ?_)
    rintro e W2 ⟨rfl, hx⟩
    go_wp2_with fail
    go_ret
    exact ⟨rfl, hb.trans (hx.mono hb.size)⟩
theorem formats_w {n : Nat} (hn : n < 4294967296) {pa : Option Addr} {cap : Nat} {xs : List (Nat × List UInt8)} (hl : xs.length ≤ maxLen) (w : World) (hpu : Puts w pa xs) :
    Calls Try.prog 5 #[.int .u32 (n : Int), .slice pa xs.length cap] w fun e w' => e = .returned (.bool true) ∧ Below w.heap.size w w' := by
  unfold maxLen at hl
  cases h : planOk n with
  | false => exact formats_none hn h pa cap w
  | true =>
    by_cases h1 : 300 < n ∨ 60 < xs.length
    · exact formats_far h (by omega) h1 pa cap w
    · exact formats_main h (by omega) (by omega) hpu head_any

end Go.Proofs.Ytlojhdnahioicaa.Rot
