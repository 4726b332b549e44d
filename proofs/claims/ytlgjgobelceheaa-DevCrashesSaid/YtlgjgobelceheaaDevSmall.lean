/-
  The small functions of package dev.
-/
import Derived.Test.YtlgjgobelceheaaDevObj
import Derived.Test.YtlgjgobelceheaaRows
import Derived.WalkKit
import Derived.WalkSpells
import Derived.WalkLawsBesides
import Derived.ScopeJumps
import Derived.WalkMore
namespace Go.Proofs.Ytlgjgobelceheaa.Dev
open Go.RowKit RowLaw

def ptr (p : Nat) : Value := .pointer (some ⟨p, 0, none⟩)

section
variable {w : World} {p : Nat} {B : List Nat} {s : DS}

theorem exists_yes (h : Dev w p B s) : Calls Try.prog 27 #[ptr p] w fun e w' => e = .returned (.bool true) ∧ w' = w := by
  obtain ⟨bm, pv, h⟩ := h
  have c0 : w.cell? ⟨p, 0, none⟩ = some (.int .u32 (s.n : Int)) := h.cell 0
  have hn : ((s.n : Int) != 0) = true := by have := h.okN; simp; omega
  clear h
  unfold ptr
  go_enter Try.func27, Try.ntmps27
  go_wp2
  go_ret
  exact ⟨rfl, rfl⟩
theorem exists_nil (w : World) : Calls Try.prog 27 #[.pointer none] w fun e w' => e = .returned (.bool false) ∧ w' = w := by
  go_enter Try.func27, Try.ntmps27
  go_wp2
  go_ret
  exact ⟨rfl, rfl⟩
theorem exists_zero (c0 : w.cell? ⟨p, 0, none⟩ = some (.int .u32 0)) : Calls Try.prog 27 #[ptr p] w fun e w' => e = .returned (.bool false) ∧ w' = w := by
  unfold ptr
  go_enter Try.func27, Try.ntmps27
  go_wp2
  go_ret
  exact ⟨rfl, rfl⟩

theorem isUp_any (h : Dev w p B s) : Calls Try.prog 33 #[ptr p] w fun e w' => e = .returned (.bool (!s.down)) ∧ w' = w := by
  obtain ⟨bm, pv, h⟩ := h
  have c0 : w.cell? ⟨p, 4, none⟩ = some (.bool s.down) := h.cell 4
  clear h
  unfold ptr
  go_enter Try.func33, Try.ntmps33
  go_wp2
  go_ret
  exact ⟨rfl, rfl⟩

theorem has_any (a : Nat) (w : World) : Calls Try.prog 36 #[.int .u32 (a : Int)] w fun e w' => e = .returned (.func (.func 48) #[] #[.pointer (some ⟨w.heap.size, 0, none⟩)]) ∧ w' = w.alloc (.cells #[.int .u32 (a : Int)] 30) := by
  have hmf : ∀ (fn : Fn) (first cap : Array Value) (w : World), (Instr.makeFunc fn first cap).run Try.prog w = .ok (.func fn first cap) w := fun _ _ _ _ => rfl
  go_enter Try.func36, Try.ntmps36
  go_wp2
  go_ret
  exact ⟨rfl, rfl⟩

theorem has1_any (h : Dev w p B s) {q a : Nat} (hc : w.cell? ⟨q, 0, none⟩ = some (.int .u32 (a : Int))) : Calls Try.prog 48 #[ptr p, .pointer (some ⟨q, 0, none⟩)] w fun e w' => e = .returned (.bool (decide (a < s.n))) ∧ Below w.heap.size w w' := by
  obtain ⟨bm, pv, h⟩ := h
  have c0 : w.cell? ⟨p, 0, none⟩ = some (.int .u32 (s.n : Int)) := h.cell 0
  clear h
  unfold ptr
  go_enter Try.func48, Try.ntmps48
  go_wp2
  go_region
  all_goals (try go_wp2)
  all_goals go_ret
  all_goals exact ⟨by simp, (Below.refl _ _).drew⟩

theorem fuse1_any {q : Nat} {z : Int} (d : Value) (hc : w.cell? ⟨q, 0, none⟩ = some (.int .i64 z)) : Calls Try.prog 40 #[d, .pointer (some ⟨q, 0, none⟩)] w fun e w' => e = .returned (.bool (decide (0 ≤ z))) ∧ w' = w := by
  go_enter Try.func40, Try.ntmps40
  go_wp2
  go_ret
  exact ⟨rfl, rfl⟩

theorem fuse2_any (h : Dev w p B s) {q : Nat} {z : Int} (hz : 0 ≤ z ∧ z < 9223372036854775808) (hc : w.cell? ⟨q, 0, none⟩ = some (.int .i64 z)) :
    Calls Try.prog 41 #[ptr p, .pointer (some ⟨q, 0, none⟩)] w fun e w' => e = .returned (.bool true) ∧ Dev w' p B { s with left := z } ∧ Turn B w w' := by
  obtain ⟨bm, pv, h⟩ := h
  have f0 := h.frozen 3
  have hs := h.setField 3 (.int .i64 z) { s with left := z } pv rfl rfl rfl (.inl ⟨rfl, rfl⟩) ⟨by show (-1 : Int) ≤ z; omega, hz.2⟩
  have ht : Turn B w (w.setCell ⟨p, 3, none⟩ (.int .i64 z)) := (Turn.refl _ _).setCell _ _ (.inl h.inP)
  have c0 : w.cell? ⟨p, 3, none⟩ = some (.int .i64 s.left) := h.cell 3
  clear h
  unfold ptr
  go_enter Try.func41, Try.ntmps41
  go_wp2
  go_ret
  exact ⟨rfl, ⟨bm, pv, hs⟩, ht⟩

def succB (s : DS) : Bool := decide (s.left ≠ 0)
def succS (s : DS) : DS := if s.left = 0 then { s with down := true } else { s with left := if s.left = -1 then -1 else s.left - 1, writes := s.writes + 1 }

theorem wrapU64 (x : Nat) : IntKind.u64.wrap (((x % 18446744073709551616 : Nat) : Int) + 1) = (((x + 1) % 18446744073709551616 : Nat) : Int) := by
  rw [IntKind.wrap_u64]
  omega

set_option maxHeartbeats 800000 in
theorem succeed_any (h : Dev w p B s) : Calls Try.prog 34 #[ptr p] w fun e w' => e = .returned (.bool (succB s)) ∧ Dev w' p B (succS s) ∧ Turn B w w' := by
  obtain ⟨bm, pv, h⟩ := h
  have c3 : w.cell? ⟨p, 3, none⟩ = some (.int .i64 s.left) := h.cell 3
  have c4 : w.cell? ⟨p, 4, none⟩ = some (.bool s.down) := h.cell 4
  have c5 : w.cell? ⟨p, 5, none⟩ = some (.int .u64 ((s.writes % 18446744073709551616 : Nat) : Int)) := h.cell 5
  have f3 := h.frozen 3
  have f4 := h.frozen 4
  have f5 := h.frozen 5
  have hl := h.okL
  unfold ptr
  by_cases h0 : s.left = 0
  · have hs := h.setField 4 (.bool true) { s with down := true } pv rfl rfl rfl (.inl ⟨rfl, rfl⟩) hl
    have ht : Turn B w (w.setCell ⟨p, 4, none⟩ (.bool true)) := (Turn.refl _ _).setCell _ _ (.inl h.inP)
    have e1 : succB s = false := by simp [succB, h0]
    have e2 : succS s = { s with down := true } := if_pos h0
    rw [e1, e2]
    rw [h0] at c3
    clear h
    go_enter Try.func34, Try.ntmps34
    go_wp2
    go_ret
    exact ⟨rfl, ⟨bm, pv, hs⟩, ht⟩
  · have e1 : succB s = true := by simp [succB, h0]
    by_cases h1 : s.left = -1
    · have e2 : succS s = { s with left := -1, writes := s.writes + 1 } := by simp [succS, h1]
      have hs := h.setField 5 (.int .u64 (((s.writes + 1) % 18446744073709551616 : Nat) : Int)) { s with left := -1, writes := s.writes + 1 } pv (by unfold devCells; rw [h1]; rfl) rfl rfl (.inl ⟨rfl, rfl⟩) ⟨by show (-1 : Int) ≤ -1; omega, by show (-1 : Int) < _; omega⟩
      have ht : Turn B w (w.setCell ⟨p, 5, none⟩ (.int .u64 (((s.writes + 1) % 18446744073709551616 : Nat) : Int))) := (Turn.refl _ _).setCell _ _ (.inl h.inP)
      rw [e1, e2]
      rw [h1] at c3
      rw [← wrapU64] at hs ht
      generalize ((s.writes % 18446744073709551616 : Nat) : Int) = z at c5 hs ht
      clear h
      go_enter Try.func34, Try.ntmps34
      go_wp2
      go_ret
      exact ⟨rfl, ⟨bm, pv, hs⟩, ht⟩
    · have e2 : succS s = { s with left := s.left - 1, writes := s.writes + 1 } := by simp [succS, h0, h1]
      have z1 : IntKind.i64.wrap (s.left - 1) = s.left - 1 := IntWalk.i64_in _ (by omega)
      have hs0 := h.setField 3 (.int .i64 (s.left - 1)) { s with left := s.left - 1 } pv rfl rfl rfl (.inl ⟨rfl, rfl⟩) ⟨by show (-1 : Int) ≤ s.left - 1; omega, by show s.left - 1 < _; omega⟩
      have c5' := hs0.cell 5
      have f5' := hs0.frozen 5
      have hs := hs0.setField 5 (.int .u64 (((s.writes + 1) % 18446744073709551616 : Nat) : Int)) { s with left := s.left - 1, writes := s.writes + 1 } pv rfl rfl rfl (.inl ⟨rfl, rfl⟩) ⟨by show (-1 : Int) ≤ s.left - 1; omega, by show s.left - 1 < _; omega⟩
      have ht : Turn B w ((w.setCell ⟨p, 3, none⟩ (.int .i64 (s.left - 1))).setCell ⟨p, 5, none⟩ (.int .u64 (((s.writes + 1) % 18446744073709551616 : Nat) : Int))) := ((Turn.refl _ _).setCell _ _ (.inl h.inP)).setCell _ _ (.inl h.inP)
      rw [e1, e2]
      have c5'' : (w.setCell ⟨p, 3, none⟩ (.int .i64 (s.left - 1))).cell? ⟨p, 5, none⟩ = some (.int .u64 ((s.writes % 18446744073709551616 : Nat) : Int)) := c5'
      rw [← wrapU64] at hs ht
      generalize ((s.writes % 18446744073709551616 : Nat) : Int) = z at c5 c5'' hs ht
      clear h hs0 c5'
      generalize s.left = L at *
      go_enter Try.func34, Try.ntmps34
      go_wp2
      go_ret
      exact ⟨rfl, ⟨bm, pv, hs⟩, ht⟩

/-! what is asked -/
theorem Size_any (h : Dev w p B s) : Calls Try.prog 19 #[ptr p] w fun e w' => e = .returned (.int .u32 (s.n : Int)) ∧ w' = w := by
  obtain ⟨bm, pv, h⟩ := h
  have c0 : w.cell? ⟨p, 0, none⟩ = some (.int .u32 (s.n : Int)) := h.cell 0
  clear h
  unfold ptr
  go_enter Try.func19, Try.ntmps19
  go_wp2
  go_ret
  exact ⟨rfl, rfl⟩
theorem Down_any (h : Dev w p B s) : Calls Try.prog 20 #[ptr p] w fun e w' => e = .returned (.bool s.down) ∧ w' = w := by
  obtain ⟨bm, pv, h⟩ := h
  have c0 : w.cell? ⟨p, 4, none⟩ = some (.bool s.down) := h.cell 4
  clear h
  unfold ptr
  go_enter Try.func20, Try.ntmps20
  go_wp2
  go_ret
  exact ⟨rfl, rfl⟩
theorem Writes_any (h : Dev w p B s) : Calls Try.prog 21 #[ptr p] w fun e w' => e = .returned (.int .u64 ((s.writes % 18446744073709551616 : Nat) : Int)) ∧ w' = w := by
  obtain ⟨bm, pv, h⟩ := h
  have c0 : w.cell? ⟨p, 5, none⟩ = some (.int .u64 ((s.writes % 18446744073709551616 : Nat) : Int)) := h.cell 5
  clear h
  generalize ((s.writes % 18446744073709551616 : Nat) : Int) = z at c0 ⊢
  unfold ptr
  go_enter Try.func21, Try.ntmps21
  go_wp2
  go_ret
  exact ⟨rfl, rfl⟩
theorem DevAt.pvIs {w : World} {p bm : Nat} {pv : Value} {B : List Nat} {s : DS} (h : DevAt w p bm pv B s) : ∃ ao cap, pv = .slice ao s.pend.length cap := by
  rcases h.row.2 with ⟨he, h0⟩ | ⟨gr, cap, cur, he, _⟩
  · exact ⟨none, 0, by rw [h0]; exact he⟩
  · exact ⟨_, cap, he⟩
theorem Pending_any (h : Dev w p B s) : Calls Try.prog 12 #[ptr p] w fun e w' => e = .returned (.int .i64 (s.pend.length : Int)) ∧ w' = w := by
  obtain ⟨bm, pv, h⟩ := h
  obtain ⟨ao, cap, hpv⟩ := h.pvIs
  have c0 : w.cell? ⟨p, 2, none⟩ = some pv := h.cell 2
  rw [hpv] at c0
  clear h hpv
  unfold ptr
  go_enter Try.func12, Try.ntmps12
  go_wp2
  go_ret
  exact ⟨rfl, rfl⟩
end

end Go.Proofs.Ytlgjgobelceheaa.Dev
