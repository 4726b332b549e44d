/-
  great; acts out of the argument.
-/
import Derived.Test.YtlgjgobelceheaaDevHead
import Derived.Test.YtlgjgobelceheaaDevOpen
namespace Go.Proofs.Ytlgjgobelceheaa.Dev
open Go.RowKit RowLaw

theorem Ac.val_length (x : Ac) : x.val.length = 5 := rfl
theorem sizeAct (x : Ac) : (Try.prog.info? 32).map (·.size) = some x.val.length := by rw [Ac.val_length]; exact (by kernel_rfl : (Try.prog.info? 32).map (·.size) = some 5)
/-- the acts of the argument, in whatever world keeps old memory -/
theorem acts_at {w W : World} {b off : Nat} {xs : List Ac} (h : ActsAt w b off xs) (hb : b < w.heap.size) (hbel : Below w.heap.size w W) {i : Nat} (hi : i < xs.length) :
    W.cell? ⟨b, off + i * 5, none⟩ = some (.int .u8 (xs[i].what : Int)) ∧ W.cell? ⟨b, off + i * 5 + 1, none⟩ = some (.int .u32 (xs[i].a : Int)) ∧ W.cell? ⟨b, off + i * 5 + 3, none⟩ = some (.slice xs[i].pa xs[i].keep.length xs[i].cap) ∧ W.rangeAt b (off + i * 5) xs[i].val := by
  have hr : W.rangeAt b (off + i * 5) xs[i].val := fun j v hj => (World.cell?_of_block (w := w) (a := ⟨b, off + i * 5 + j, none⟩) (hbel.block b hb)).trans (h i hi j v hj)
  exact ⟨hr 0 _ rfl, hr 1 _ rfl, hr 3 _ rfl, hr⟩

/-- what great may answer of n acts -/
def GreatAns (n : Nat) (e : Ending) : Prop := ∃ b : Bool, e = .returned (.bool b) ∧ (b = false → n ≤ 60)

set_option maxHeartbeats 1600000 in
theorem great_any {w : World} {pa : Option Addr} {cap : Nat} {xs : List Ac} (hl : xs.length ≤ maxLen) (hx : Acts w pa xs) (W : World) (hbel : Below w.heap.size w W) :
    Calls Try.prog 7 #[.slice pa xs.length cap] W fun e W' => GreatAns xs.length e ∧ W' = W := by
  obtain ⟨n, hn⟩ : ∃ n, n = xs.length := ⟨_, rfl⟩
  rw [← hn] at hl ⊢
  have hl' : n ≤ 9223372036854775807 := by unfold maxLen at hl; omega
  have HN := Lib.hid hn; clear hn hl
  have HX := Lib.hid hx; clear hx
  have HB := Lib.hid hbel; clear hbel
  go_enter Try.func7, Try.ntmps7
  go_wp2_with fail
  go_loopw [3, 4] (fun s i wr => ∃ (k : Nat) (z : Int), k ≤ n ∧ i = .int .i64 k ∧ s = .int .i64 z ∧ wr = W) (fun _ i _ => n - (intOf i).toNat)
  case atStart => exact ⟨0, 0, Nat.zero_le _, rfl, rfl, rfl⟩
  case round =>
    obtain ⟨k, z, hk, rfl, rfl, rfl⟩ := hrel
    by_cases hkn : k < n
    · have hkl : k < xs.length := by have := HN.out; omega
      rcases HX.out.2 with h0 | ⟨b, off, rfl, hb, hat⟩
      · rw [h0] at hkl; exact absurd hkl (by simp)
      obtain ⟨c0, c1, c3, _⟩ := acts_at hat hb HB.out hkl
      clear hat c0 c1
      go_wp2_with fail
      go_roundw
      case rel => exact ⟨k + 1, _, by omega, by go_num, rfl, trivial⟩
      case measure => simp [intOf]; omega
    · have hkk : k = n := by omega
      subst hkk
      by_cases h60 : 60 < k
      · have i1 : (60 : Int) < (k : Int) := by omega
        go_wp2_with fail
        go_ret
        exact ⟨⟨_, rfl, fun h => by cases h⟩, rfl⟩
      · have i1 : ¬ (60 : Int) < (k : Int) := by omega
        go_wp2_with fail
        all_goals (go_ret; exact ⟨⟨_, rfl, fun _ => by omega⟩, rfl⟩)

end Go.Proofs.Ytlgjgobelceheaa.Dev
