/-
  A device that can't be made; writes on a calm device, and what a format leaves of it.
-/
import Derived.Test.YtdadcengelfmhaaRotHeadM
namespace Go.Proofs.Ytdadcengelfmhaa.Rot
open Go.RowKit RowLaw Crc
set_option maxRecDepth 100000
open Go.Proofs.Ytdadcengelfmhaa.Slt (Rt cells rootO rtB)
open Go.Proofs.Ytdadcengelfmhaa.Dev (Dev DS ptr Many newS readB writeS flushS flushE writeE applyP)

theorem New_no {n : Nat} (hn : n < 4294967296) (h : planOk n = false) (w : World) : Calls Try.prog 4 #[.int .u32 (n : Int)] w fun e w' => e = .returned (.tuple #[.pointer none, .int .i64 2]) ∧ Below w.heap.size w w' := by
  have hr : ¬ (64 ≤ n ∧ n ≤ 1048576) := by simpa [planOk] using h
  clear h
  by_cases h1 : n < 64
  · have z1 : (n : Int) < 64 := by omega
    clear hr h1
    go_enter Try.func4, Try.ntmps4
    go_wp2
    go_ret2
    exact ⟨rfl, Below.refl _ _⟩
  · have z1 : ¬ (n : Int) < 64 := by omega
    have z2 : (1048576 : Int) < (n : Int) := by omega
    clear hr h1
    go_enter Try.func4, Try.ntmps4
    go_wp2
    go_ret2
    exact ⟨rfl, Below.refl _ _⟩

/-- behind at most j writes on a calm device -/
structure Wr (n j : Nat) (s : DS) : Prop where
  n : s.n = n
  down : s.down = false
  left : s.left = -1
  pend : s.pend.length ≤ j
  lenP : ∀ x ∈ s.pend, x.2.length = 256
  lenG : ∀ a, (s.g a).length = 256
theorem Wr.new (n : Nat) : Wr n 0 (newS n) := ⟨rfl, rfl, rfl, Nat.le_refl _, (fun x hx => by cases hx), fun _ => zeros_length⟩
theorem Wr.step {n j a : Nat} {s : DS} {b : List UInt8} (h : Wr n j s) (ha : a < n) (hb : b.length = 256) : Wr n (j + 1) (writeS s a b) := by
  have e : writeS s a b = { s with pend := s.pend ++ [(a, b)], left := -1, writes := s.writes + 1 } := by
    unfold writeS
    rw [if_neg (by rw [h.n]; omega), if_neg (by rw [h.down]; simp)]
    unfold Dev.succS Dev.pushS
    rw [if_neg (by rw [h.left]; decide), if_pos h.left]
  rw [e]
  refine ⟨h.n, h.down, rfl, ?_, fun x hx => ?_, h.lenG⟩
  · show (s.pend ++ [(a, b)]).length ≤ j + 1
    have := h.pend
    simp
    omega
  · rcases List.mem_append.1 hx with hx | hx
    · exact h.lenP x hx
    · simp only [List.mem_singleton] at hx; subst hx; exact hb
theorem Wr.flush {n j : Nat} {s : DS} (h : Wr n j s) : Calm (flushS s) ∧ (flushS s).n = n := by
  have e := (flush_good h.down (by rw [h.left]; decide)).1
  rw [if_pos h.left] at e
  rw [e]
  exact ⟨⟨h.down, rfl, rfl, fun a => applyP_len _ _ h.lenG h.lenP a⟩, h.n⟩
/-- what is there behind a format of a calm device -/
theorem format_there {s : DS} (h : Calm s) (h1 : 64 ≤ s.n) (h2 : s.n ≤ 1048576) : ∃ s2, formatF s = (s2, (fresh s.n, 0)) ∧ s2.n = s.n ∧ s2.pend = [] ∧ mountS s2 = some (fresh s.n) ∧ readB s2 1 = rtB (fresh s.n) ∧
    ∀ a, a ≠ 1 → readB s2 a = if a < fsN s.n then zeros else readB s a := by
  obtain ⟨k, e⟩ := format_calm h h1 h2
  have hg : ∀ a, Dev.upd (applyP s.g (toZero s.g (fsN s.n))) 1 (rtB (fresh s.n)) a = if a = 1 then rtB (fresh s.n) else if a < fsN s.n then zeros else s.g a := fun a => by
    unfold Dev.upd
    rw [toZero_apply]
  obtain ⟨f1, f2, _⟩ := plan_facts h1 h2
  refine ⟨_, e, rfl, h.pend, ?_, ?_, fun a ha => ?_⟩
  · refine later_one (a := 1) (by omega) (rootAt_is h.pend (fresh_good h1 h2) rfl ?_) (rootAt_none h.pend ?_)
    · show Dev.upd (applyP s.g (toZero s.g (fsN s.n))) 1 (rtB (fresh s.n)) 1 = _
      rw [hg, if_pos rfl]
    · show Slt.getE (Dev.upd (applyP s.g (toZero s.g (fsN s.n))) 1 (rtB (fresh s.n)) 0) = 250
      rw [hg, if_neg (by omega), if_pos (by omega)]
      exact zeros_none
  · refine (readB_nil (s := { s with g := Dev.upd (applyP s.g (toZero s.g (fsN s.n))) 1 (rtB (fresh s.n)), writes := k }) h.pend 1).trans ?_
    show Dev.upd (applyP s.g (toZero s.g (fsN s.n))) 1 (rtB (fresh s.n)) 1 = _
    rw [hg, if_pos rfl]
  · refine (readB_nil (s := { s with g := Dev.upd (applyP s.g (toZero s.g (fsN s.n))) 1 (rtB (fresh s.n)), writes := k }) h.pend a).trans ?_
    show Dev.upd (applyP s.g (toZero s.g (fsN s.n))) 1 (rtB (fresh s.n)) a = _
    rw [hg, if_neg ha, readB_nil h.pend]
end Go.Proofs.Ytdadcengelfmhaa.Rot
