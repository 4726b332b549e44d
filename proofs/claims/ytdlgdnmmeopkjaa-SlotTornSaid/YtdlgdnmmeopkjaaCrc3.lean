/-
  Crc3: CrcGood, CrcHead, CrcBursts.
-/
import Derived.Test.YtdlgdnmmeopkjaaCrc2
import Derived.ChangeKeysEq
/-
  The walks of Good and Zero (crc and reference): comparing blocks by value.
-/
namespace Go.Proofs.Ytdlgdnmmeopkjaa.Crc
open Go.RowKit RowLaw

theorem cellsOf8 : Try.prog.cellsOf 5 = 1 := by kernel_rfl
theorem noGuard : Try.prog.eqGuardType Try.prog.depth 27 = false := by kernel_rfl

theorem run_part8 (w : World) (l : List UInt8) (i : Nat) (h : i < l.length) : (part 5 (cellsOf l) i).run Try.prog w = .ok (.int .u8 (l[i].toNat : Int)) w := by
  have hg := cellsOf_get l i h
  simp [part, isAgg, run_underlying Try.underlying5, hg]

theorem run_eqItems8 (w : World) (d : Nat) (l m : List UInt8) (hl : l.length = 256) (hm : m.length = 256) : ∀ is : List Nat, (∀ i ∈ is, i < 256) →
    (Op.eqItems (d + 1) 5 1 (cellsOf l) (cellsOf m) is).run Try.prog w = .ok (is.all fun i => l[i]? == m[i]?) w
  | [], _ => by simp [Op.eqItems]
  | i :: is, h => by
    have hi : i < 256 := h i (by simp)
    have ih := run_eqItems8 w d l m hl hm is (fun j hj => h j (by simp [hj]))
    have e1 := run_part8 w l i (by omega)
    have e2 := run_part8 w m i (by omega)
    have e3 := run_equalIn_int (P := Try.prog) w d 5 .u8 .u8 (l[i].toNat : Int) (m[i].toNat : Int) Try.underlying5
    have e4 : (((l[i].toNat : Int) == (m[i].toNat : Int)) = (l[i]? == m[i]?)) := by
      rw [List.getElem?_eq_getElem (by omega), List.getElem?_eq_getElem (by omega), Bool.eq_iff_iff]
      simp
      exact ⟨fun h => UInt8.toNat_inj.1 (by exact_mod_cast h), fun h => by rw [h]⟩
    simp only [Op.eqItems, Sem.run_bind, Nat.mul_one, e1, e2, e3, Result.andThen_ok, List.all_cons, e4]
    cases hb : (l[i]? == m[i]?)
    · simp
    · simpa using ih

theorem run_eqBlock (w : World) (l m : List UInt8) (hl : l.length = 256) (hm : m.length = 256) :
    (Op.equalIn 10000 27 (.agg (cellsOf l)) (.agg (cellsOf m))).run Try.prog w = .ok (decide (l = m)) w := by
  obtain ⟨i, hi⟩ : ∃ i, Try.prog.info? 5 = some i := Option.isSome_iff_exists.1 (by kernel_rfl)
  rw [show (10000 : Nat) = 9998 + 1 + 1 from rfl, run_equalIn_array w (9998 + 1) (cellsOf l) (cellsOf m) Try.underlying27 hi, cellsOf8, run_eqItems8 w 9998 l m hl hm _ (by simp)]
  refine congrArg (Result.ok · w) ?_
  rw [Bool.eq_iff_iff]
  simp only [List.all_eq_true, List.mem_range, beq_iff_eq, decide_eq_true_eq]
  constructor
  · intro h
    apply List.ext_getElem?
    intro i
    by_cases hi : i < 256
    · exact h i hi
    · rw [List.getElem?_eq_none (by omega), List.getElem?_eq_none (by omega)]
  · intro h i _
    rw [h]

/-- block b holds the bytes l, above what was there before; below it all is as it was in w -/
def Box (w : World) (l : List UInt8) (w' : World) : Prop := Holds w' w.heap.size l ∧ Below w.heap.size w w'
theorem Box.start (w : World) (l : List UInt8) : Box w l (w.alloc (.cells (cellsOf l) 27)) := ⟨Holds.new w l, (Below.refl _ _).alloc (Nat.le_refl _) _⟩
theorem Box.drew {w w' : World} {l : List UInt8} (h : Box w l w') : Box w l w'.drew := ⟨h.1, h.2.drew⟩
theorem Box.below {w w' w'' : World} {l : List UInt8} (h : Box w l w') (hb : Below w'.heap.size w' w'') : Box w l w'' := ⟨h.1.below hb h.1.lt, h.2.trans (hb.mono h.2.size)⟩

set_option maxHeartbeats 800000 in
theorem Good_any (l : List UInt8) (hl : l.length = 256) (w : World) :
    Calls Try.prog 38 #[.agg (cellsOf l)] w fun e w' => e = .returned (.bool (decide (sealB l = l))) ∧ Below w.heap.size w w' := by
  have hi : (Try.prog.info? 27).map (·.size) = some (cellsOf l).size := by rw [cellsOf_size, hl]; exact (zero_of_info infoBlock).2
  have hg := fun (W : World) (op : BinOp) (x y : Operand) (xs ys : Array Value) => run_eqGuard_agg (P := Try.prog) W op 27 x y xs ys noGuard
  have he := fun (W : World) => run_eqBlock W (sealB l) l (sealB_length hl) hl
  have hbox := (Box.start w l).drew
  go_enter Try.func38, Try.ntmps38
  go_wp2_with fail
  refine wp_region_class_lit (Box w l) (by kernel_rfl) (by kernel_rfl) hbox ?_
  haveI : Nonempty {w' : World // Box w l w'} := ⟨⟨_, hbox⟩⟩
  repeat (first | go_big_quiet_skip | (go_big_quiet_want; first | (refine quiet_load_row 27 _ rfl w.heap.size rfl _ _ _ _ (fun _ h => h.1) Try.underlying27 rfl hi ?_; go_big_quiet_on; simp only [Act.put, List.setIfInBounds_toArray, List.set_cons_zero, List.set_cons_succ]) | (go_big_quiet_op; first | go_big_quiet_on | go_big_quiet_call (first | (intro h1; exact (Seal_any l hl _).mono fun _ _ ⟨he, hb⟩ => ⟨he, h1.below hb⟩) | (intro _; rfl)))))
  refine wpQuiet_nil ?_
  intro w2 hw2
  go_wp2_with fail
  go_ret
  exact ⟨rfl, hw2.2⟩

end Go.Proofs.Ytdlgdnmmeopkjaa.Crc

/-
  The walk of the laws' own head: the sums and blocks that the document fixes.
-/
namespace Go.Proofs.Ytdlgdnmmeopkjaa.Crc
open Go.RowKit RowLaw

theorem crc_nil : crc [] = 0#32 := by decide
theorem crc_nine : crc [49, 50, 51, 52, 53, 54, 55, 56, 57] = 0xfc891918#32 := by decide +kernel
theorem zeros_not : sealB zeros ≠ zeros := by decide +kernel

theorem Good_sealed (w : World) : Calls Try.prog 38 #[.agg (cellsOf (sealB zeros))] w fun e w' => e = .returned (.bool true) ∧ Below w.heap.size w w' := by
  have := Good_any (sealB zeros) (sealB_length zeros_length) w
  rw [show decide (sealB (sealB zeros) = sealB zeros) = true from decide_eq_true (sealB_sealB zeros_length)] at this
  exact this
theorem Good_zeros (w : World) : Calls Try.prog 38 #[.agg (cellsOf zeros)] w fun e w' => e = .returned (.bool false) ∧ Below w.heap.size w w' := by
  have := Good_any zeros zeros_length w
  rw [show decide (sealB zeros = zeros) = false from decide_eq_false zeros_not] at this
  exact this
end Go.Proofs.Ytdlgdnmmeopkjaa.Crc

/-
  The walk of the law CrcBursts: a burst breaks a seal.
-/
namespace Go.Proofs.Ytdlgdnmmeopkjaa.Crc
open Go.RowKit RowLaw

theorem flip_set (l : List UInt8) (p : Nat) (h : p / 8 < l.length) : flip l p = l.set (p / 8) (UInt8.ofNat (l[p / 8].toNat ^^^ 128 / 2 ^ (p % 8))) := by
  unfold flip
  apply List.ext_getElem?
  intro i
  rw [List.getElem?_modify, List.getElem?_set]
  by_cases hi : p / 8 = i
  · subst hi
    rw [List.getElem?_eq_getElem h]
    simp [h]
  · simp [hi]
theorem burst_yes (l : List UInt8) (k n j : Nat) (h : n.testBit j = true) : burst l k n (j + 1) = flip (burst l k n j) (k + j) := by
  show (if n.testBit j then flip (burst l k n j) (k + j) else burst l k n j) = _
  rw [if_pos h]
theorem burst_no (l : List UInt8) (k n j : Nat) (h : n.testBit j = false) : burst l k n (j + 1) = burst l k n j := by
  show (if n.testBit j then flip (burst l k n j) (k + j) else burst l k n j) = _
  rw [if_neg (by simp [h])]
theorem xor_pow (u : UInt8) (r : Nat) (_h : r < 8) : bits .xor .u8 (u.toNat : Int) (128 / 2 ^ r) = ((UInt8.ofNat (u.toNat ^^^ 128 / 2 ^ r)).toNat : Int) := by
  have hu := u.toNat_lt
  have e : ((128 : Int) / 2 ^ r) = ((128 / 2 ^ r : Nat) : Int) := by rw [Int.natCast_ediv]; congr 1
  have hd : 128 / 2 ^ r < 256 := Nat.lt_of_le_of_lt (Nat.div_le_self _ _) (by omega)
  rw [e, u8_xor_nat _ _ hu hd, UInt8.toNat_ofNat', Nat.mod_eq_of_lt (Nat.xor_lt_two_pow (n := 8) hu hd)]

end Go.Proofs.Ytdlgdnmmeopkjaa.Crc

