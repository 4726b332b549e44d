/-
  Write, whole.
-/
import Derived.Test.YtlgjgobelceheaaDevWrite
namespace Go.Proofs.Ytlgjgobelceheaa.Dev
open Go.RowKit RowLaw

theorem heap2 (w : World) (o0 o1 : Obj) : ((w.alloc o0).alloc o1).heap[w.heap.size]? = some o0 ∧ ((w.alloc o0).alloc o1).heap[w.heap.size + 1]? = some o1 ∧ ((w.alloc o0).alloc o1).heap.size = w.heap.size + 1 + 1 := by
  refine ⟨?_, ?_, by simp⟩
  · rw [Below.heap_alloc _ o1 _ (by simp)]; exact heap_alloc_new w o0
  · have := heap_alloc_new (w.alloc o0) o1; simpa using this
theorem heap3 (w : World) (o0 o1 o2 : Obj) : (((w.alloc o0).alloc o1).alloc o2).heap[w.heap.size]? = some o0 ∧ (((w.alloc o0).alloc o1).alloc o2).heap[w.heap.size + 1]? = some o1 ∧ (((w.alloc o0).alloc o1).alloc o2).heap[w.heap.size + 1 + 1]? = some o2 ∧ (((w.alloc o0).alloc o1).alloc o2).heap.size = w.heap.size + 1 + 1 + 1 := by
  obtain ⟨h0, h1, h2⟩ := heap2 w o0 o1
  refine ⟨?_, ?_, ?_, by simp⟩
  · rw [Below.heap_alloc _ o2 _ (by rw [h2]; omega)]; exact h0
  · rw [Below.heap_alloc _ o2 _ (by rw [h2]; omega)]; exact h1
  · have := heap_alloc_new ((w.alloc o0).alloc o1) o2; rw [h2] at this; exact this
theorem heap4 (w : World) (o0 o1 o2 o3 : Obj) : ((((w.alloc o0).alloc o1).alloc o2).alloc o3).heap[w.heap.size]? = some o0 ∧ ((((w.alloc o0).alloc o1).alloc o2).alloc o3).heap[w.heap.size + 1]? = some o1 ∧ ((((w.alloc o0).alloc o1).alloc o2).alloc o3).heap[w.heap.size + 1 + 1]? = some o2 ∧ ((((w.alloc o0).alloc o1).alloc o2).alloc o3).heap[w.heap.size + 1 + 1 + 1]? = some o3 ∧ ((((w.alloc o0).alloc o1).alloc o2).alloc o3).heap.size = w.heap.size + 1 + 1 + 1 + 1 := by
  obtain ⟨h0, h1, h2, h3⟩ := heap3 w o0 o1 o2
  refine ⟨?_, ?_, ?_, ?_, by simp⟩
  · rw [Below.heap_alloc _ o3 _ (by rw [h3]; omega)]; exact h0
  · rw [Below.heap_alloc _ o3 _ (by rw [h3]; omega)]; exact h1
  · rw [Below.heap_alloc _ o3 _ (by rw [h3]; omega)]; exact h2
  · have := heap_alloc_new (((w.alloc o0).alloc o1).alloc o2) o3; rw [h3] at this; exact this

theorem enterHas1 : ∀ (args : Array Value) (W : World), (callFunc 48 args).run Try.prog W = .ok (.enter 48 args) W := fun _ _ => by simp [go_sem]
theorem enterWrite1 : ∀ (args : Array Value) (W : World), (callFunc 39 args).run Try.prog W = .ok (.enter 39 args) W := fun _ _ => by simp [go_sem]

def pushS (s : DS) (a : Nat) (l : List UInt8) : DS := { s with pend := s.pend ++ [(a, l)] }
/-- Write's answer, and what is there then -/
def writeE (s : DS) (a : Nat) : Int := if s.n ≤ a then 2 else if s.down = true ∨ s.left = 0 then 30 else 0
def writeS (s : DS) (a : Nat) (l : List UInt8) : DS := if s.n ≤ a then s else if s.down = true then s else succS (pushS s a l)

set_option maxRecDepth 100000 in
set_option maxHeartbeats 1600000 in
theorem Write_any {w : World} {p : Nat} {B : List Nat} {s : DS} (hd : Dev w p B s) {a : Nat} (ha : a < 4294967296) {l : List UInt8} (hl : l.length = 256) (hlen : s.pend.length < 4294967295) :
    Calls Try.prog 17 #[ptr p, .int .u32 (a : Int), .agg (cellsOf l)] w fun e w' => e = .returned (.int .i64 (writeE s a)) ∧ ∃ C, Dev w' p C (writeS s a l) ∧ Step B w w' C := by
  have hzs := (zero_of_info infoStep).1
  have hmf : ∀ (fn : Fn) (first cap : Array Value) (w : World), (Instr.makeFunc fn first cap).run Try.prog w = .ok (.func fn first cap) w := fun _ _ _ _ => rfl
  go_enter Try.func17, Try.ntmps17
  go_wp2_with ((with_reducible refine (has_any a _).mono ?_); rintro e W2 ⟨rfl, rfl⟩)
  have hs0 : Step B w ((((w.alloc (.cells #[.int .u32 (a : Int)] 30)).alloc (.cells (cellsOf l) 47)).alloc (.cells #[.int .u32 (a : Int)] 30)).alloc (.cells #[.func (.func 27) #[] #[], .int .i64 1, .func (.func 48) #[] #[.pointer (some ⟨w.heap.size + 1 + 1, 0, none⟩)], .int .i64 2, .func (.func 33) #[] #[], .int .i64 30, .func (.func 39) #[] #[.pointer (some ⟨w.heap.size, 0, none⟩), .pointer (some ⟨w.heap.size + 1, 0, none⟩)], .int .i64 0, .func (.func 34) #[] #[], .int .i64 30] 76)) B := Step.of_turn (Turn.alloc (Turn.alloc (Turn.alloc (Turn.alloc (Turn.refl _ _) _) _) _) _)
  obtain ⟨x0, x1, x2, x3, xs⟩ := heap4 w (.cells #[.int .u32 (a : Int)] 30) (.cells (cellsOf l) 47) (.cells #[.int .u32 (a : Int)] 30) (.cells #[.func (.func 27) #[] #[], .int .i64 1, .func (.func 48) #[] #[.pointer (some ⟨w.heap.size + 1 + 1, 0, none⟩)], .int .i64 2, .func (.func 33) #[] #[], .int .i64 30, .func (.func 39) #[] #[.pointer (some ⟨w.heap.size, 0, none⟩), .pointer (some ⟨w.heap.size + 1, 0, none⟩)], .int .i64 0, .func (.func 34) #[] #[], .int .i64 30] 76)
  have hlt := hd.ltB
  replace hd := hd.turn (C := []) (Turn.mono (C := []) (B := []) (Turn.alloc (Turn.alloc (Turn.alloc (Turn.alloc (Turn.refl [] _) (.cells #[.int .u32 (a : Int)] 30)) (.cells (cellsOf l) 47)) (.cells #[.int .u32 (a : Int)] 30)) (.cells #[.func (.func 27) #[] #[], .int .i64 1, .func (.func 48) #[] #[.pointer (some ⟨w.heap.size + 1 + 1, 0, none⟩)], .int .i64 2, .func (.func 33) #[] #[], .int .i64 30, .func (.func 39) #[] #[.pointer (some ⟨w.heap.size, 0, none⟩), .pointer (some ⟨w.heap.size + 1, 0, none⟩)], .int .i64 0, .func (.func 34) #[] #[], .int .i64 30] 76)) (fun _ h => h)) (by simp)
  generalize (((w.alloc (.cells #[.int .u32 (a : Int)] 30)).alloc (.cells (cellsOf l) 47)).alloc (.cells #[.int .u32 (a : Int)] 30)).alloc (.cells #[.func (.func 27) #[] #[], .int .i64 1, .func (.func 48) #[] #[.pointer (some ⟨w.heap.size + 1 + 1, 0, none⟩)], .int .i64 2, .func (.func 33) #[] #[], .int .i64 30, .func (.func 39) #[] #[.pointer (some ⟨w.heap.size, 0, none⟩), .pointer (some ⟨w.heap.size + 1, 0, none⟩)], .int .i64 0, .func (.func 34) #[] #[], .int .i64 30] 76) = W1 at hd hs0 x0 x1 x2 x3 xs ⊢
  obtain ⟨q0, hq0⟩ : ∃ z, z = w.heap.size := ⟨_, rfl⟩
  obtain ⟨q1, hq1⟩ : ∃ z, z = q0 + 1 := ⟨_, rfl⟩
  obtain ⟨q2, hq2⟩ : ∃ z, z = q1 + 1 := ⟨_, rfl⟩
  obtain ⟨sb, hsb⟩ : ∃ z, z = q2 + 1 := ⟨_, rfl⟩
  simp only [← hq0, ← hq1, ← hq2, ← hsb] at x0 x1 x2 x3 ⊢
  have n0 : q0 ∉ B := fun hm => by have := hlt _ hm; omega
  have n1 : q1 ∉ B := fun hm => by have := hlt _ hm; omega
  have n2 : q2 ∉ B := fun hm => by have := hlt _ hm; omega
  have ns : sb ∉ B := fun hm => by have := hlt _ hm; omega
  have l0 : q0 < W1.heap.size := by omega
  have l1 : q1 < W1.heap.size := by omega
  have l2 : q2 < W1.heap.size := by omega
  have c0 := cell_of_row W1 q0 0 _ _ _ x0
  have c2 := cell_of_row W1 q2 0 _ _ _ x2
  refine (steps_any (by omega) (fun k => match k with | 0 => 27 | 1 => 48 | 2 => 33 | 3 => 39 | _ => 34)
    (fun k => match k with | 0 => #[] | 1 => #[.pointer (some ⟨q2, 0, none⟩)] | 2 => #[] | 3 => #[.pointer (some ⟨q0, 0, none⟩), .pointer (some ⟨q1, 0, none⟩)] | _ => #[]) (fun k => match k with | 0 => 1 | 1 => 2 | 2 => 30 | 3 => 0 | _ => 30)
    (fun k => match k with | 0 => true | 1 => decide (a < s.n) | 2 => !s.down | 3 => true | _ => succB (pushS s a l))
    (fun k => match k with | 0 => s | 1 => s | 2 => s | 3 => s | 4 => pushS s a l | _ => succS (pushS s a l)) hd (by omega) ns
    (fun k hk => match k, hk with
      | 0, _ => ⟨cell_of_row W1 sb 0 _ _ _ x3, cell_of_row W1 sb 1 _ _ _ x3⟩
      | 1, _ => ⟨cell_of_row W1 sb 2 _ _ _ x3, cell_of_row W1 sb 3 _ _ _ x3⟩
      | 2, _ => ⟨cell_of_row W1 sb 4 _ _ _ x3, cell_of_row W1 sb 5 _ _ _ x3⟩
      | 3, _ => ⟨cell_of_row W1 sb 6 _ _ _ x3, cell_of_row W1 sb 7 _ _ _ x3⟩
      | 4, _ => ⟨cell_of_row W1 sb 8 _ _ _ x3, cell_of_row W1 sb 9 _ _ _ x3⟩)
    (fun k hk => match k, hk with
      | 0, _ => enterExists
      | 1, _ => enterHas1
      | 2, _ => enterIsUp
      | 3, _ => enterWrite1
      | 4, _ => enterSucceed)
    (fun k hk => match k, hk with
      | 0, _ => fun _ W C hC _ => (exists_yes hC).mono fun _ _ ⟨he, hw⟩ => ⟨he, step_eq hC hw⟩
      | 1, _ => fun _ W C hC hS => (has1_any hC ((hS.turn.cell (q := ⟨q2, 0, none⟩) l2 n2).trans c2)).mono fun _ _ ⟨he, hw⟩ => ⟨he, step_same hC hw⟩
      | 2, _ => fun _ W C hC _ => (isUp_any hC).mono fun _ _ ⟨he, hw⟩ => ⟨he, step_eq hC hw⟩
      | 3, _ => fun _ W C hC hS => (write1_any (s := s) hC ha hl ((hS.turn.cell (q := ⟨q0, 0, none⟩) l0 n0).trans c0) ((hS.turn.block q1 l1 n1).trans x1) ⟨hS.notIn l0 n0, Nat.lt_of_lt_of_le l0 hS.turn.size⟩ (hS.notIn l1 n1) (by omega)).mono fun _ _ h => h
      | 4, _ => fun _ W C hC _ => (succeed_any hC).mono fun _ _ ⟨he, h1, h2⟩ => ⟨he, step_turn h1 h2⟩)).mono ?_
  rintro e W2 ⟨m, z, rfl, hend, C, hC, hS⟩
  have key : z = writeE s a ∧ Dev W2 p C (writeS s a l) := by
    by_cases hn : s.n ≤ a
    · obtain ⟨rfl, rfl⟩ := runEnd_stop hend 1 (by omega) (fun k hk => by obtain rfl : k = 0 := by omega
                                                                         rfl) (decide_eq_false (by omega))
      exact ⟨(if_pos hn).symm, by rw [show writeS s a l = s from if_pos hn]; exact hC⟩
    · have hn' : decide (a < s.n) = true := decide_eq_true (by omega)
      by_cases h1 : s.down = true
      · obtain ⟨rfl, rfl⟩ := runEnd_stop hend 2 (by omega) (fun k hk => by
          have hk' : k = 0 ∨ k = 1 := by omega
          rcases hk' with rfl | rfl
          · rfl
          · exact hn') (by simp [h1])
        exact ⟨by rw [writeE, if_neg hn, if_pos (.inl h1)]; rfl, by rw [show writeS s a l = s from by rw [writeS, if_neg hn, if_pos h1]]; exact hC⟩
      · have h1' : s.down = false := by simpa using h1
        have e2 : writeS s a l = succS (pushS s a l) := by rw [writeS, if_neg hn, if_neg h1]
        have h4 : ∀ k, k < 4 → (match k with | 0 => true | 1 => decide (a < s.n) | 2 => !s.down | 3 => true | _ => succB (pushS s a l)) = true := fun k hk => by
          have hk' : k = 0 ∨ k = 1 ∨ k = 2 ∨ k = 3 := by omega
          rcases hk' with rfl | rfl | rfl | rfl
          · rfl
          · exact hn'
          · show (!s.down) = true; rw [h1']; rfl
          · rfl
        by_cases h2 : s.left = 0
        · obtain ⟨rfl, rfl⟩ := runEnd_stop hend 4 (by omega) h4 (by simp [succB, pushS, h2])
          exact ⟨by rw [writeE, if_neg hn, if_pos (.inr h2)]; rfl, by rw [e2]; exact hC⟩
        · obtain ⟨rfl, rfl⟩ := runEnd_all hend (fun k hk => by
            by_cases hk4 : k < 4
            · exact h4 k hk4
            · obtain rfl : k = 4 := by omega
              show succB (pushS s a l) = true
              simp [succB, pushS, h2])
          exact ⟨by rw [writeE, if_neg hn, if_neg (by rw [h1']; simp [h2])], by rw [e2]; exact hC⟩
  obtain ⟨rfl, hC2⟩ := key
  have hS2 := hs0.trans hS
  clear hend hC hd hs0 hS x0 x1 x2 x3 c0 c2
  go_wp2
  go_ret
  exact ⟨rfl, C, hC2, hS2⟩

end Go.Proofs.Ytlgjgobelceheaa.Dev
