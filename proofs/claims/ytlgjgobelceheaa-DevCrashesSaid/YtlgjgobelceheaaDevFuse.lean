/-
  Fuse; New.
-/
import Derived.Test.YtlgjgobelceheaaDevPut
namespace Go.Proofs.Ytlgjgobelceheaa.Dev
open Go.RowKit RowLaw

theorem enterFuse1 : ∀ (args : Array Value) (W : World), (callFunc 40 args).run Try.prog W = .ok (.enter 40 args) W := fun _ _ => by simp [go_sem]
theorem enterFuse2 : ∀ (args : Array Value) (W : World), (callFunc 41 args).run Try.prog W = .ok (.enter 41 args) W := fun _ _ => by simp [go_sem]

/-- Fuse's answer, and what is there then -/
def fuseE (s : DS) (z : Int) : Int := if z < 0 then 2 else if s.down = true then 30 else 0
def fuseS (s : DS) (z : Int) : DS := if z < 0 then s else if s.down = true then s else { s with left := z }

/-- the last step; a fuse below 0 never comes to it -/
theorem fuse_last {W : World} {p q : Nat} {C : List Nat} {s : DS} {z : Int} (hz : z < 9223372036854775808) (hC : Dev W p C s) (hc : W.cell? ⟨q, 0, none⟩ = some (.int .i64 z)) (h0 : 0 ≤ z) :
    Calls Try.prog 41 #[ptr p, .pointer (some ⟨q, 0, none⟩)] W fun e W' => e = .returned (.bool true) ∧ ∃ D, Dev W' p D { s with left := z } ∧ Step C W W' D :=
  (fuse2_any hC ⟨h0, hz⟩ hc).mono fun _ _ ⟨he, h1, h2⟩ => ⟨he, step_turn h1 h2⟩

set_option maxRecDepth 100000 in
set_option maxHeartbeats 1600000 in
theorem Fuse_any {w : World} {p : Nat} {B : List Nat} {s : DS} (hd : Dev w p B s) {z0 : Int} (hz : z0 < 9223372036854775808) :
    Calls Try.prog 18 #[ptr p, .int .i64 z0] w fun e w' => e = .returned (.int .i64 (fuseE s z0)) ∧ ∃ C, Dev w' p C (fuseS s z0) ∧ Step B w w' C := by
  have hzs := (zero_of_info infoStep).1
  have hmf : ∀ (fn : Fn) (first cap : Array Value) (w : World), (Instr.makeFunc fn first cap).run Try.prog w = .ok (.func fn first cap) w := fun _ _ _ _ => rfl
  go_enter Try.func18, Try.ntmps18
  go_wp2_with fail
  have hs0 : Step B w ((w.alloc (.cells #[.int .i64 z0] 3)).alloc (.cells #[.func (.func 27) #[] #[], .int .i64 1, .func (.func 40) #[] #[.pointer (some ⟨w.heap.size, 0, none⟩)], .int .i64 2, .func (.func 33) #[] #[], .int .i64 30, .func (.func 41) #[] #[.pointer (some ⟨w.heap.size, 0, none⟩)], .int .i64 0] 76)) B := Step.of_turn (Turn.alloc (Turn.alloc (Turn.refl _ _) _) _)
  obtain ⟨x0, x1, xs⟩ := heap2 w (.cells #[.int .i64 z0] 3) (.cells #[.func (.func 27) #[] #[], .int .i64 1, .func (.func 40) #[] #[.pointer (some ⟨w.heap.size, 0, none⟩)], .int .i64 2, .func (.func 33) #[] #[], .int .i64 30, .func (.func 41) #[] #[.pointer (some ⟨w.heap.size, 0, none⟩)], .int .i64 0] 76)
  have hlt := hd.ltB
  replace hd := hd.turn (C := []) (Turn.mono (C := []) (B := []) (Turn.alloc (Turn.alloc (Turn.refl [] _) (.cells #[.int .i64 z0] 3)) (.cells #[.func (.func 27) #[] #[], .int .i64 1, .func (.func 40) #[] #[.pointer (some ⟨w.heap.size, 0, none⟩)], .int .i64 2, .func (.func 33) #[] #[], .int .i64 30, .func (.func 41) #[] #[.pointer (some ⟨w.heap.size, 0, none⟩)], .int .i64 0] 76)) (fun _ h => h)) (by simp)
  generalize (w.alloc (.cells #[.int .i64 z0] 3)).alloc (.cells #[.func (.func 27) #[] #[], .int .i64 1, .func (.func 40) #[] #[.pointer (some ⟨w.heap.size, 0, none⟩)], .int .i64 2, .func (.func 33) #[] #[], .int .i64 30, .func (.func 41) #[] #[.pointer (some ⟨w.heap.size, 0, none⟩)], .int .i64 0] 76) = W1 at hd hs0 x0 x1 xs ⊢
  obtain ⟨q0, hq0⟩ : ∃ z, z = w.heap.size := ⟨_, rfl⟩
  obtain ⟨sb, hsb⟩ : ∃ z, z = q0 + 1 := ⟨_, rfl⟩
  simp only [← hq0, ← hsb] at x0 x1 ⊢
  have n0 : q0 ∉ B := fun hm => by have := hlt _ hm; omega
  have ns : sb ∉ B := fun hm => by have := hlt _ hm; omega
  have l0 : q0 < W1.heap.size := by omega
  have c0 := cell_of_row W1 q0 0 _ _ _ x0
  refine (steps_any (by omega) (fun k => match k with | 0 => 27 | 1 => 40 | 2 => 33 | _ => 41)
      (fun k => match k with | 0 => #[] | 1 => #[.pointer (some ⟨q0, 0, none⟩)] | 2 => #[] | _ => #[.pointer (some ⟨q0, 0, none⟩)]) (fun k => match k with | 0 => 1 | 1 => 2 | 2 => 30 | _ => 0)
      (fun k => match k with | 0 => true | 1 => decide (0 ≤ z0) | 2 => !s.down | _ => true) (fun k => match k with | 0 => s | 1 => s | 2 => s | 3 => s | _ => { s with left := z0 }) hd (by omega) ns
      (fun k hk => match k, hk with
        | 0, _ => ⟨cell_of_row W1 sb 0 _ _ _ x1, cell_of_row W1 sb 1 _ _ _ x1⟩
        | 1, _ => ⟨cell_of_row W1 sb 2 _ _ _ x1, cell_of_row W1 sb 3 _ _ _ x1⟩
        | 2, _ => ⟨cell_of_row W1 sb 4 _ _ _ x1, cell_of_row W1 sb 5 _ _ _ x1⟩
        | 3, _ => ⟨cell_of_row W1 sb 6 _ _ _ x1, cell_of_row W1 sb 7 _ _ _ x1⟩)
      (fun k hk => match k, hk with
      | 0, _ => enterExists
      | 1, _ => enterFuse1
      | 2, _ => enterIsUp
      | 3, _ => enterFuse2)
      (fun k hk => match k, hk with
      | 0, _ => fun _ W C hC _ => (exists_yes hC).mono fun _ _ ⟨he, hw⟩ => ⟨he, step_eq hC hw⟩
      | 1, _ => fun _ W C hC hS => (fuse1_any _ ((hS.turn.cell (q := ⟨q0, 0, none⟩) l0 n0).trans c0)).mono fun _ _ ⟨he, hw⟩ => ⟨he, step_eq hC hw⟩
      | 2, _ => fun _ W C hC _ => (isUp_any hC).mono fun _ _ ⟨he, hw⟩ => ⟨he, step_eq hC hw⟩
      | 3, _ => fun hb W C hC hS => fuse_last (s := s) hz hC ((hS.turn.cell (q := ⟨q0, 0, none⟩) l0 n0).trans c0) (of_decide_eq_true (hb 1 (by omega))))).mono ?_
  rintro e W2 ⟨m, z, rfl, hend, C, hC, hS⟩
  have key : z = fuseE s z0 ∧ Dev W2 p C (fuseS s z0) := by
    by_cases hn : z0 < 0
    · obtain ⟨rfl, rfl⟩ := runEnd_stop hend 1 (by omega) (fun k hk => by obtain rfl : k = 0 := by omega
                                                                         rfl) (decide_eq_false (by omega))
      exact ⟨(if_pos hn).symm, by rw [show fuseS s z0 = s from if_pos hn]; exact hC⟩
    · have hn' : decide (0 ≤ z0) = true := decide_eq_true (by omega)
      by_cases h1 : s.down = true
      · obtain ⟨rfl, rfl⟩ := runEnd_stop hend 2 (by omega) (fun k hk => by
          have hk' : k = 0 ∨ k = 1 := by omega
          rcases hk' with rfl | rfl
          · rfl
          · exact hn') (by simp [h1])
        exact ⟨by rw [fuseE, if_neg hn, if_pos h1]; rfl, by rw [show fuseS s z0 = s from by rw [fuseS, if_neg hn, if_pos h1]]; exact hC⟩
      · have h1' : s.down = false := by simpa using h1
        obtain ⟨rfl, rfl⟩ := runEnd_all hend (fun k hk => by
          have hk' : k = 0 ∨ k = 1 ∨ k = 2 ∨ k = 3 := by omega
          rcases hk' with rfl | rfl | rfl | rfl
          · rfl
          · exact hn'
          · show (!s.down) = true; rw [h1']; rfl
          · rfl)
        refine ⟨by rw [fuseE, if_neg hn, if_neg h1], ?_⟩
        have e : fuseS s z0 = { s with left := z0 } := by rw [fuseS, if_neg hn, if_neg h1]
        rw [e]; exact hC
  obtain ⟨rfl, hC2⟩ := key
  have hS2 := hs0.trans hS
  clear hend hC hd hs0 hS x0 x1 c0
  go_wp2
  go_ret
  exact ⟨rfl, C, hC2, hS2⟩

/-- a new device's state -/
def newS (n : Nat) : DS := { n := n, g := fun _ => zeros, pend := [], left := -1, down := false, writes := 0 }

set_option maxHeartbeats 800000 in
theorem New_any (w : World) (n : Nat) (h1 : 64 ≤ n) (h2 : n ≤ 1048576) :
    Calls Try.prog 9 #[.int .u32 (n : Int)] w fun e w' => ∃ p B, e = .returned (.tuple #[ptr p, .int .i64 0]) ∧ Dev w' p B (newS n) ∧ (∀ k ∈ B, w.heap.size ≤ k) ∧ Below w.heap.size w w' := by
  have hmm := @run_makeMap Try.prog
  have z1 : ¬ (n : Int) < 64 := by omega
  have z2 : ¬ (1048576 : Int) < (n : Int) := by omega
  obtain ⟨x0, x1, xs⟩ := heap2 w (.map #[] 0) (.cells (devCells (newS n) w.heap.size (.slice none 0 0)) 54)
  have hm : MapIs ((w.alloc (.map #[] 0)).alloc (.cells (devCells (newS n) w.heap.size (.slice none 0 0)) 54)) w.heap.size (fun _ => zeros) := (MapIs.made w).kept (x0.trans (MapKept.heap_alloc w _).1.symm)
  have hd : DevAt ((w.alloc (.map #[] 0)).alloc (.cells (devCells (newS n) w.heap.size (.slice none 0 0)) 54)) (w.heap.size + 1) w.heap.size (.slice none 0 0) [w.heap.size, w.heap.size + 1] (newS n) :=
    ⟨x1, hm, World.ownsRow_nil _ _ _ _, by simp, by simp, (fun k hk => by cases hk), (fun k hk => by simp only [List.mem_cons, List.not_mem_nil, or_false] at hk; omega), (fun x hx => by cases hx), (fun x hx => by cases hx), fun _ => zeros_length, ⟨by show 0 < n; omega, by show n < _; omega⟩, ⟨by show (-1 : Int) ≤ -1; omega, by show (-1 : Int) < _; omega⟩⟩
  have hb : Below w.heap.size w ((w.alloc (.map #[] 0)).alloc (.cells (devCells (newS n) w.heap.size (.slice none 0 0)) 54)) := ((Below.refl _ _).alloc (Nat.le_refl _) _).alloc (by simp) _
  clear x0 x1 xs hm
  go_enter Try.func9, Try.ntmps9
  go_wp2
  go_ret2
  exact ⟨_, rfl, _, ⟨_, _, hd⟩, (fun k hk => by simp only [List.mem_cons, List.not_mem_nil, or_false] at hk; omega), hb⟩

end Go.Proofs.Ytlgjgobelceheaa.Dev
