/-
  Cards in memory; the conditions of a card, one by one.
-/
import Derived.Test.YtmbmgncajfamiaaCrdForth
import Derived.Test.YtmbmgncajfamiaaFldRefDone
import Derived.Test.YtmbmgncajfamiaaFldOpen
import Derived.Deep.QuietTactic
import Derived.BigQuiet
namespace Go.Proofs.Ytmbmgncajfamiaa.Crd
open Go.RowKit RowLaw Crc Fld
set_option maxRecDepth 100000

theorem infoC : (Try.prog.info? 26).map (fun i => (i.zero, i.size)) = some (some (.agg (cells nil)), 9) := by kernel_rfl
theorem sizeC (c : Cd) : (Try.prog.info? 26).map (·.size) = some (cells c).size := (zero_of_info infoC).2

/-- block p is a card -/
def IsCd (w : World) (p : Nat) (c : Cd) : Prop := w.heap[p]? = some (.cells (cells c) 26 (0, 0))
section
variable {w : World} {p : Nat} {c : Cd}
theorem IsCd.lt (h : IsCd w p c) : p < w.heap.size := by
  rcases Nat.lt_or_ge p w.heap.size with hlt | hge
  · exact hlt
  · unfold IsCd at h; rw [Array.getElem?_eq_none hge] at h; cases h
theorem IsCd.name (h : IsCd w p c) : w.cell? ⟨p, 0, none⟩ = some (.string c.s) := (cell_of_row w p 0 _ _ _ h).trans rfl
theorem IsCd.left (h : IsCd w p c) : w.cell? ⟨p, 1, none⟩ = some (.int .u32 (c.left : Int)) := (cell_of_row w p 1 _ _ _ h).trans rfl
theorem IsCd.right (h : IsCd w p c) : w.cell? ⟨p, 2, none⟩ = some (.int .u32 (c.right : Int)) := (cell_of_row w p 2 _ _ _ h).trans rfl
theorem IsCd.id (h : IsCd w p c) : w.cell? ⟨p, 3, none⟩ = some (.int .u32 (c.id : Int)) := (cell_of_row w p 3 _ _ _ h).trans rfl
theorem IsCd.parent (h : IsCd w p c) : w.cell? ⟨p, 4, none⟩ = some (.int .u32 (c.parent : Int)) := (cell_of_row w p 4 _ _ _ h).trans rfl
theorem IsCd.root (h : IsCd w p c) : w.cell? ⟨p, 5, none⟩ = some (.int .u32 (c.root : Int)) := (cell_of_row w p 5 _ _ _ h).trans rfl
theorem IsCd.used (h : IsCd w p c) : w.cell? ⟨p, 6, none⟩ = some (.int .u32 (c.used : Int)) := (cell_of_row w p 6 _ _ _ h).trans rfl
theorem IsCd.quota (h : IsCd w p c) : w.cell? ⟨p, 7, none⟩ = some (.int .u32 (c.quota : Int)) := (cell_of_row w p 7 _ _ _ h).trans rfl
theorem IsCd.only (h : IsCd w p c) : w.cell? ⟨p, 8, none⟩ = some (.bool c.only) := (cell_of_row w p 8 _ _ _ h).trans rfl
theorem IsCd.num (h : IsCd w p c) (j : Nat) (hj : j < (nums c).length) : w.cell? ⟨p, 1 + j, none⟩ = some (.int .u32 ((nums c)[j] : Int)) := by
  rw [nums_length] at hj
  rcases (by omega : j = 0 ∨ j = 1 ∨ j = 2 ∨ j = 3 ∨ j = 4 ∨ j = 5 ∨ j = 6) with rfl | rfl | rfl | rfl | rfl | rfl | rfl
  · exact h.left
  · exact h.right
  · exact h.id
  · exact h.parent
  · exact h.root
  · exact h.used
  · exact h.quota
theorem IsCd.frozen (h : IsCd w p c) (j : Nat) : w.frozen? ⟨p, j, none⟩ = false := frozen_of_row w p j _ _ h
theorem IsCd.other (h : IsCd w p c) (a : Addr) (v : Value) (ha : p ≠ a.block) : IsCd (w.setCell a v) p c := (heap_setCell_other w a p v ha).trans h
theorem IsCd.alloc (h : IsCd w p c) (o : Obj) : IsCd (w.alloc o) p c := (Below.heap_alloc w o p h.lt).trans h
theorem IsCd.drewN (h : IsCd w p c) (n : Nat) : IsCd (w.drewN n) p c := h
theorem IsCd.below {B : Nat} {w' : World} (h : IsCd w p c) (hb : Below B w w') (hB : p < B) : IsCd w' p c := (hb.block p hB).trans h
theorem IsCd.apart {w' : World} {q : Nat} (h : IsCd w p c) (ha : Apart q w w') (hq : p ≠ q) : IsCd w' p c := (ha.block p h.lt hq).trans h
theorem IsCd.new (w : World) (c : Cd) : IsCd (w.alloc (.cells (cells c) 26)) w.heap.size c := heap_alloc_new w _
end

/-! The conditions, one by one: what each closure answers; it leaves all as it was. -/
def Says (w : World) (b : Bool) (e : Ending) (w' : World) : Prop := e = .returned (.bool b) ∧ ∃ n, w' = w.drewN n
theorem says0 (w : World) (b b' : Bool) (h : b = b') : Says w b' (.returned (.bool b)) w := ⟨by rw [h], 0, rfl⟩
theorem saysN (w : World) (b b' : Bool) (n : Nat) (h : b = b') : Says w b' (.returned (.bool b)) (w.drewN n) := ⟨by rw [h], n, rfl⟩

set_option maxHeartbeats 800000 in
theorem cond1 (q : Addr) (p : Nat) (c : Cd) (w : World) (hq : w.cell? q = some (.pointer (some ⟨p, 0, none⟩))) (hc : IsCd w p c) :
    Calls Try.prog 47 #[.pointer (some q)] w fun e w' => Says w (sizeOkB c) e w' := by
  have c0 := hc.name
  have he : sizeOkB c = decide (1 ≤ c.s.size ∧ c.s.size ≤ 24) := rfl
  rw [he]
  clear he
  generalize c.s = s at c0 ⊢
  by_cases h : 1 ≤ s.size
  · have d : (1 : Int) ≤ (s.size : Int) := by omega
    by_cases h2 : s.size ≤ 24
    · have d2 : (s.size : Int) ≤ 24 := by omega
      rw [decide_eq_true (show 1 ≤ s.size ∧ s.size ≤ 24 from ⟨h, h2⟩)]
      clear h h2
      go_enter Try.func47, Try.ntmps47
      go_wp2
      go_ret
      exact says0 _ _ _ rfl
    · have d2 : ¬ (s.size : Int) ≤ 24 := by omega
      rw [decide_eq_false (show ¬ (1 ≤ s.size ∧ s.size ≤ 24) from fun h3 => h2 h3.2)]
      clear h h2
      go_enter Try.func47, Try.ntmps47
      go_wp2
      go_ret
      exact says0 _ _ _ rfl
  · have d : ¬ (1 : Int) ≤ (s.size : Int) := by omega
    rw [decide_eq_false (show ¬ (1 ≤ s.size ∧ s.size ≤ 24) from fun h3 => h h3.1)]
    clear h
    go_enter Try.func47, Try.ntmps47
    go_wp2
    go_ret
    exact says0 _ _ _ rfl

set_option maxHeartbeats 1600000 in
theorem cond2 (q : Addr) (p : Nat) (c : Cd) (w : World) (hq : w.cell? q = some (.pointer (some ⟨p, 0, none⟩))) (hc : IsCd w p c) :
    Calls Try.prog 48 #[.pointer (some q)] w fun e w' => Says w (sidesB c) e w' := by
  have c1 := hc.left
  have c2 := hc.right
  by_cases h : c.left = c.right
  · have d1 : ((c.left : Int) != (c.right : Int)) = false := by rw [h]; simp
    by_cases h2 : c.left = 0
    · have d2 : ((c.left : Int) == 0) = true := by rw [h2]; rfl
      have hs : sidesB c = true := decide_eq_true (.inr h2)
      rw [hs]
      clear h h2 hs
      go_enter Try.func48, Try.ntmps48
      go_wp2
      go_quiet (fail)
      go_wp2
      go_ret
      exact saysN _ _ _ _ rfl
    · have d2 : ((c.left : Int) == 0) = false := by simp; omega
      have hs : sidesB c = false := decide_eq_false (by rintro (h3 | h3); exact h3 h; exact h2 h3)
      rw [hs]
      clear h h2 hs
      go_enter Try.func48, Try.ntmps48
      go_wp2
      go_quiet (fail)
      go_wp2
      go_ret
      exact saysN _ _ _ _ rfl
  · have d1 : ((c.left : Int) != (c.right : Int)) = true := by simp; omega
    have hs : sidesB c = true := decide_eq_true (.inl h)
    rw [hs]
    clear h hs
    go_enter Try.func48, Try.ntmps48
    go_wp2
    go_quiet (fail)
    go_wp2
    go_ret
    exact saysN _ _ _ _ rfl

set_option maxHeartbeats 1600000 in
theorem cond3 (q : Addr) (p : Nat) (c : Cd) (w : World) (hq : w.cell? q = some (.pointer (some ⟨p, 3, none⟩))) (hc : IsCd w p c) :
    Calls Try.prog 49 #[.pointer (some q)] w fun e w' => Says w (idB c) e w' := by
  have c1 := hc.id
  have c2 := hc.parent
  by_cases h : c.id = 0
  · have d1 : ((c.id : Int) != 0) = false := by rw [h]; rfl
    have hs : idB c = false := decide_eq_false (fun h3 => h3.1 h)
    rw [hs]
    clear h hs
    go_enter Try.func49, Try.ntmps49
    go_wp2
    go_quiet (fail)
    go_wp2
    go_ret
    exact saysN _ _ _ _ rfl
  · have d1 : ((c.id : Int) != 0) = true := by simp; omega
    by_cases h2 : c.parent = c.id
    · have d2 : ((c.parent : Int) != (c.id : Int)) = false := by rw [h2]; simp
      have hs : idB c = false := decide_eq_false (fun h3 => h3.2 h2)
      rw [hs]
      clear h h2 hs
      go_enter Try.func49, Try.ntmps49
      go_wp2
      go_quiet (fail)
      go_wp2
      go_ret
      exact saysN _ _ _ _ rfl
    · have d2 : ((c.parent : Int) != (c.id : Int)) = true := by simp; omega
      have hs : idB c = true := decide_eq_true ⟨h, h2⟩
      rw [hs]
      clear h h2 hs
      go_enter Try.func49, Try.ntmps49
      go_wp2
      go_quiet (fail)
      go_wp2
      go_ret
      exact saysN _ _ _ _ rfl

set_option maxHeartbeats 800000 in
theorem cond4 (q : Addr) (p : Nat) (c : Cd) (w : World) (hq : w.cell? q = some (.pointer (some ⟨p, 3, none⟩))) (hc : IsCd w p c) :
    Calls Try.prog 50 #[.pointer (some q)] w fun e w' => Says w (quotaB c) e w' := by
  have c1 := hc.quota
  have he : quotaB c = decide (1 ≤ c.quota ∧ c.quota ≤ 32768) := rfl
  rw [he]
  clear he
  generalize c.quota = n at c1 ⊢
  by_cases h : 1 ≤ n
  · have d : (1 : Int) ≤ (n : Int) := by omega
    by_cases h2 : n ≤ 32768
    · have d2 : (n : Int) ≤ 32768 := by omega
      rw [decide_eq_true (show 1 ≤ n ∧ n ≤ 32768 from ⟨h, h2⟩)]
      clear h h2
      go_enter Try.func50, Try.ntmps50
      go_wp2
      go_ret
      exact says0 _ _ _ rfl
    · have d2 : ¬ (n : Int) ≤ 32768 := by omega
      rw [decide_eq_false (show ¬ (1 ≤ n ∧ n ≤ 32768) from fun h3 => h2 h3.2)]
      clear h h2
      go_enter Try.func50, Try.ntmps50
      go_wp2
      go_ret
      exact says0 _ _ _ rfl
  · have d : ¬ (1 : Int) ≤ (n : Int) := by omega
    rw [decide_eq_false (show ¬ (1 ≤ n ∧ n ≤ 32768) from fun h3 => h h3.1)]
    clear h
    go_enter Try.func50, Try.ntmps50
    go_wp2
    go_ret
    exact says0 _ _ _ rfl

set_option maxHeartbeats 800000 in
theorem cond5 (q : Addr) (p : Nat) (c : Cd) (w : World) (hq : w.cell? q = some (.pointer (some ⟨p, 3, none⟩))) (hc : IsCd w p c) :
    Calls Try.prog 51 #[.pointer (some q)] w fun e w' => Says w (usedB c) e w' := by
  have c1 := hc.quota
  have c2 := hc.used
  have he : usedB c = decide (c.used ≤ c.quota) := rfl
  rw [he]
  clear he
  generalize c.quota = n at c1 ⊢
  generalize c.used = m at c2 ⊢
  by_cases h : m ≤ n
  · have d : (m : Int) ≤ (n : Int) := by omega
    rw [decide_eq_true h]
    clear h
    go_enter Try.func51, Try.ntmps51
    go_wp2
    go_quiet (fail)
    go_wp2
    go_ret
    exact saysN _ _ _ _ rfl
  · have d : ¬ (m : Int) ≤ (n : Int) := by omega
    rw [decide_eq_false h]
    have hh := decide_eq_false h
    clear h
    go_enter Try.func51, Try.ntmps51
    go_wp2
    go_quiet (fail)
    go_wp2
    go_ret
    exact saysN _ _ _ _ rfl

set_option maxHeartbeats 800000 in
theorem cond6 (q : Addr) (p : Nat) (c : Cd) (w : World) (hq : w.cell? q = some (.pointer (some ⟨p, 3, none⟩))) (hc : IsCd w p c) :
    Calls Try.prog 52 #[.pointer (some q)] w fun e w' => Says w (rootB c) e w' := by
  have c1 := hc.root
  have c2 := hc.used
  have he : rootB c = (((c.root : Int) == 0) == ((c.used : Int) == 0)) := by
    unfold rootB
    rw [Bool.eq_iff_iff, decide_eq_true_eq, beq_iff_eq, Bool.eq_iff_iff, beq_iff_eq, beq_iff_eq]
    omega
  rw [he]
  clear he
  go_enter Try.func52, Try.ntmps52
  go_wp2
  go_quiet (fail)
  go_wp2
  go_ret
  exact saysN _ _ _ _ rfl

set_option maxHeartbeats 800000 in
theorem cond7 (q : Addr) (p : Nat) (c : Cd) (w : World) (hq : w.cell? q = some (.pointer (some ⟨p, 3, none⟩))) (hc : IsCd w p c) :
    Calls Try.prog 53 #[.pointer (some q)] w fun e w' => Says w (onlyB c) e w' := by
  have c1 := hc.only
  have c2 := hc.parent
  have he : onlyB c = decide (c.only = true → c.parent ≠ 0) := rfl
  rw [he]
  clear he
  generalize c.only = b at c1 ⊢
  generalize c.parent = n at c2 ⊢
  cases b
  · rw [decide_eq_true (show (false = true → n ≠ 0) from fun h => by cases h)]
    go_enter Try.func53, Try.ntmps53
    go_wp2
    go_ret
    exact says0 _ _ _ rfl
  · by_cases h : n = 0
    · have d1 : ((n : Int) != 0) = false := by rw [h]; rfl
      rw [decide_eq_false (show ¬ (true = true → n ≠ 0) from fun h3 => h3 rfl h)]
      clear h
      go_enter Try.func53, Try.ntmps53
      go_wp2
      go_ret
      exact says0 _ _ _ rfl
    · have d1 : ((n : Int) != 0) = true := by simp; omega
      rw [decide_eq_true (show (true = true → n ≠ 0) from fun _ => h)]
      clear h
      go_enter Try.func53, Try.ntmps53
      go_wp2
      go_ret
      exact says0 _ _ _ rfl

end Go.Proofs.Ytmbmgncajfamiaa.Crd
