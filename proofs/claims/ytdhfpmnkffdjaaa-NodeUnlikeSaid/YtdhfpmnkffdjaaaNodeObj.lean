/-
  Nodes in memory; the small functions of package node and of the reference.
-/
import Derived.Test.YtdhfpmnkffdjaaaNodeMath
import Derived.Test.YtdhfpmnkffdjaaaFldRefDone
import Derived.Test.YtdhfpmnkffdjaaaFldOpen
namespace Go.Proofs.Ytdhfpmnkffdjaaa.Node
open Go.RowKit RowLaw Crc Fld

def zeros32 : List Nat := List.replicate 32 0
theorem zeros32_length : zeros32.length = 32 := List.length_replicate
theorem infoNode : (Try.prog.info? 25).map (fun i => (i.zero, i.size)) = some (some (.agg (nodeCells 0 zeros32)), 33) := by kernel_rfl
theorem sizeNode (lv : Nat) (ps : List Nat) (h : ps.length = 32) : (Try.prog.info? 25).map (·.size) = some (nodeCells lv ps).size := by rw [nodeCells_size, h]; exact (zero_of_info infoNode).2

/-- block p is a node -/
def IsNode (w : World) (p : Nat) (lv : Nat) (ps : List Nat) : Prop := w.heap[p]? = some (.cells (nodeCells lv ps) 25 (0, 0))
section
variable {w : World} {p lv : Nat} {ps : List Nat}
theorem IsNode.lt (h : IsNode w p lv ps) : p < w.heap.size := by
  rcases Nat.lt_or_ge p w.heap.size with hlt | hge
  · exact hlt
  · unfold IsNode at h; rw [Array.getElem?_eq_none hge] at h; cases h
theorem IsNode.level (h : IsNode w p lv ps) : w.cell? ⟨p, 0, none⟩ = some (.int .u8 (lv : Int)) := (cell_of_row w p 0 _ _ _ h).trans (nodeCells_lv lv ps)
theorem IsNode.ptr (h : IsNode w p lv ps) (j : Nat) (hj : j < ps.length) : w.cell? ⟨p, 1 + j, none⟩ = some (.int .u32 (ps[j] : Int)) := (cell_of_row w p (1 + j) _ _ _ h).trans (nodeCells_ptr lv ps j hj)
theorem IsNode.frozen (h : IsNode w p lv ps) (j : Nat) : w.frozen? ⟨p, j, none⟩ = false := frozen_of_row w p j _ _ h
theorem IsNode.setPtr (h : IsNode w p lv ps) (j n : Nat) : IsNode (w.setCell ⟨p, 1 + j, none⟩ (.int .u32 (n : Int))) p lv (ps.set j n) := by
  unfold IsNode
  rw [← nodeCells_set lv ps j n]
  exact heap_setCell_same w p (1 + j) _ _ _ h
theorem IsNode.other (h : IsNode w p lv ps) (a : Addr) (v : Value) (ha : p ≠ a.block) : IsNode (w.setCell a v) p lv ps := (heap_setCell_other w a p v ha).trans h
theorem IsNode.alloc (h : IsNode w p lv ps) (o : Obj) : IsNode (w.alloc o) p lv ps := (Below.heap_alloc w o p h.lt).trans h
theorem IsNode.below {B : Nat} {w' : World} (h : IsNode w p lv ps) (hb : Below B w w') (hB : p < B) : IsNode w' p lv ps := (hb.block p hB).trans h
theorem IsNode.apart {w' : World} {q : Nat} (h : IsNode w p lv ps) (ha : Apart q w w') (hq : p ≠ q) : IsNode w' p lv ps := (ha.block p h.lt hq).trans h
theorem IsNode.new (w : World) (lv : Nat) (ps : List Nat) : IsNode (w.alloc (.cells (nodeCells lv ps) 25)) w.heap.size lv ps := heap_alloc_new w _
end

theorem isLevel_any (lv : Nat) (w : World) :
    Calls Try.prog 31 #[.int .u8 (lv : Int)] w fun e w' => e = .returned (.bool (lvB lv)) ∧ w' = w := by
  by_cases h1 : 1 ≤ lv
  · have d1 : decide ((1 : Int) ≤ (lv : Int)) = true := decide_eq_true (by omega)
    go_enter Try.func31, Try.ntmps31
    go_wp2
    go_ret
    exact ⟨ret_bool (decide_eq_decide.2 (by omega)), rfl⟩
  · have d1 : decide ((1 : Int) ≤ (lv : Int)) = false := decide_eq_false (by omega)
    go_enter Try.func31, Try.ntmps31
    go_wp2
    go_ret
    exact ⟨by rw [show lvB lv = false from decide_eq_false (by omega)]; rfl, rfl⟩

set_option maxHeartbeats 800000 in
theorem valid_any (p lv : Nat) (ps : List Nat) (hp : ps.length = 32) (w : World) (hw : IsNode w p lv ps) :
    Calls Try.prog 18 #[.pointer (some ⟨p, 0, none⟩)] w fun e w' => e = .returned (.bool (okN lv ps)) ∧ w' = w := by
  have hcl := hw.level
  have HP := Lib.hid hp; clear hp
  go_enter Try.func18, Try.ntmps18
  go_wp2
  go_loop [8] (fun i => ∃ k : Nat, k ≤ 32 ∧ i = .int .i64 k ∧ Hid (∀ j (hj : j < ps.length), j < k → ps[j] < 1048576)) (fun i => 32 - (intOf i).toNat)
  case atStart => exact ⟨0, by omega, rfl, Lib.hid (fun _ _ h => absurd h (by omega))⟩
  case round =>
    obtain ⟨k, hk, rfl, hall⟩ := hrel
    by_cases hlt : k < 32
    · have hkl : k < ps.length := by have := HP.out; omega
      have hc := hw.ptr k hkl
      obtain ⟨x, hx⟩ : ∃ x, x = ps[k] := ⟨_, rfl⟩
      rw [← hx] at hc
      have HX := Lib.hid hx; clear hx
      by_cases hb : x < 1048576
      · have hb2 : ¬ (1048576 : Int) ≤ (x : Int) := by omega
        go_wp2
        go_round
        case rel =>
          refine ⟨k + 1, by omega, by go_num, Lib.hid (fun j hj h => ?_)⟩
          by_cases e : j = k
          · subst e; have := HX.out; omega
          · exact hall.out j hj (by omega)
        case measure => simp [intOf]; omega
      · have hb2 : (1048576 : Int) ≤ (x : Int) := by omega
        go_wp2
        go_ret
        have hno : okN lv ps = false := by
          unfold okN
          rw [okPs_no k hkl (by have := HX.out; omega)]
          rfl
        exact ⟨by rw [hno]; rfl, rfl⟩
    · go_wp2_with (go_at_call 31; (with_reducible refine (isLevel_any lv _).mono ?_); rintro e w' ⟨rfl, rfl⟩)
      go_ret
      have hyes : okPs ps = true := okPs_yes (fun j hj => hall.out j hj (by have := HP.out; omega))
      exact ⟨ret_bool (by unfold okN; rw [hyes]; rfl), rfl⟩

end Go.Proofs.Ytdhfpmnkffdjaaa.Node
