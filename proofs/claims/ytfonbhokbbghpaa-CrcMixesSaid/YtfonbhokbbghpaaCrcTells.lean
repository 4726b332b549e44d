/-
  The walk of the law CrcTells: sums and seals are the reference's.
-/
import Derived.Test.YtfonbhokbbghpaaCrcHead
namespace Go.Proofs.Ytfonbhokbbghpaa.Crc
open Go.RowKit RowLaw

theorem refSum_below (s : ByteArray) (hs : s.size ≤ maxLen) (w : World) :
    Calls Try.prog 9 #[.string s] w fun e w' => e = .returned (.int .u32 ((crc s.data.toList).toNat : Int)) ∧ Below w.heap.size w w' :=
  (refSum_any s hs w).mono fun _ _ ⟨he, hw⟩ => ⟨he, by rw [← hw]; exact Below.refl _ _⟩

set_option maxHeartbeats 1600000 in
theorem tells_any (s : ByteArray) (hs : s.size ≤ maxLen) (l : List UInt8) (hl : l.length = 256) (w : World) :
    Calls Try.prog 3 #[.string s, .agg (cellsOf l)] w fun e w' => e = .returned (.bool true) ∧ Below w.heap.size w w' := by
  by_cases hlong : 3000 < s.size
  · have hsz : s.size ≤ 9223372036854775807 := by unfold maxLen at hs; omega
    have hb0 := Box.start w l
    go_enter Try.func3, Try.ntmps3
    go_wp2_with (go_at_call 7; refine (head_any _).mono ?_; rintro e W1 ⟨rfl, hb⟩; replace hb0 := hb0.below hb; clear hb)
    go_ret
    exact ⟨rfl, hb0.2⟩
  · have hsz : s.size ≤ 9223372036854775807 := by unfold maxLen at hs; omega
    have hi : (Try.prog.info? 23).map (·.size) = some (cellsOf l).size := by rw [cellsOf_size, hl]; exact (zero_of_info infoBlock).2
    have hg := fun (W : World) (op : BinOp) (x y : Operand) (xs ys : Array Value) => run_eqGuard_agg (P := Try.prog) W op 23 x y xs ys noGuard
    have he : ∀ W : World, (Op.equalIn 10000 23 (.agg (cellsOf (sealB l))) (.agg (cellsOf (sealB l)))).run Try.prog W = .ok true W := fun W => by
      rw [run_eqBlock W (sealB l) (sealB l) (sealB_length hl) (sealB_length hl)]; simp
    have hbox := (Box.start w l).drew
    go_enter Try.func3, Try.ntmps3
    go_wp2_with fail
    refine wp_region_class_lit (Box w l) (by kernel_rfl) (by kernel_rfl) hbox ?_
    haveI : Nonempty {w' : World // Box w l w'} := ⟨⟨_, hbox⟩⟩
    clear hbox
    repeat (first | go_big_quiet_skip | (go_big_quiet_want; first | (refine quiet_load_row 23 _ rfl w.heap.size rfl _ _ _ _ (fun _ h => h.1) Try.underlying23 rfl hi ?_; go_big_quiet_on; simp only [Act.put, List.setIfInBounds_toArray, List.set_cons_zero, List.set_cons_succ]) | (go_big_quiet_op; first | go_big_quiet_on | go_big_quiet_call (first | (intro h1; exact (Sum_any s hs _).mono fun _ _ ⟨he, hb⟩ => ⟨he, h1.below hb⟩) | (intro h1; exact (refSum_below s hs _).mono fun _ _ ⟨he, hb⟩ => ⟨he, h1.below hb⟩) | (intro h1; exact (Seal_any l hl _).mono fun _ _ ⟨he, hb⟩ => ⟨he, h1.below hb⟩) | (intro h1; exact (refSeal_any l hl _).mono fun _ _ ⟨he, hb⟩ => ⟨he, h1.below hb⟩) | (intro h1; exact (Good_any l hl _).mono fun _ _ ⟨he, hb⟩ => ⟨he, h1.below hb⟩) | (intro h1; exact (refGood_any l hl _).mono fun _ _ ⟨he, hb⟩ => ⟨he, h1.below hb⟩) | (intro h1; exact (Zero_any l hl _).mono fun _ _ ⟨he, hb⟩ => ⟨he, h1.below hb⟩) | (intro h1; exact (refZero_any l hl _).mono fun _ _ ⟨he, hb⟩ => ⟨he, h1.below hb⟩) | (intro h1; exact (head_any _).mono fun _ _ ⟨he, hb⟩ => ⟨he, h1.below hb⟩) | (intro _; rfl)))))
    refine wpQuiet_nil ?_
    intro w2 hw2
    go_wp2_with fail
    go_ret
    exact ⟨rfl, hw2.2⟩

end Go.Proofs.Ytfonbhokbbghpaa.Crc
