/-
  The walk of the law DevNone.
-/
import Derived.Test.YtlgjgobelceheaaDevNone
import Derived.Test.YtlgjgobelceheaaDevOpen
namespace Go.Proofs.Ytlgjgobelceheaa.Dev
open Go.RowKit RowLaw

theorem quiet_load_u32 {I : World → Prop} {K : Act → Prop} {o : Oper} {a : Act} (x : Operand) (ho : o.op = .load 30 x) (ad : Addr) (hx : a.eval x = .pointer (some ad)) (v : Value) (hc : ∀ w : World, I w → w.cell? ad = some v)
    (hk : K (a.put o.dst v)) : o.quiet Try.prog a (fun w' => ∃ x : {w' : World // I w'}, w' = x.1) K :=
  ⟨v, fun w hw => by
    obtain ⟨y, rfl⟩ := hw
    have h := hc y.1 y.2
    unfold Oper.quietAt execOp
    simp only [ho, hx]
    go_simp, hk⟩
theorem quiet_load_keeps {I : World → Prop} {K : Act → Prop} {o : Oper} {a : Act} (x : Operand) (ho : o.op = .load 23 x) (ad : Addr) (hx : a.eval x = .pointer (some ad)) (v : Value) (hc : ∀ w : World, I w → w.cell? ad = some v)
    (hk : K (a.put o.dst v)) : o.quiet Try.prog a (fun w' => ∃ x : {w' : World // I w'}, w' = x.1) K :=
  ⟨v, fun w hw => by
    obtain ⟨y, rfl⟩ := hw
    have h := hc y.1 y.2
    unfold Oper.quietAt execOp
    simp only [ho, hx]
    go_simp, hk⟩
theorem quiet_load_int {I : World → Prop} {K : Act → Prop} {o : Oper} {a : Act} (x : Operand) (ho : o.op = .load 3 x) (ad : Addr) (hx : a.eval x = .pointer (some ad)) (v : Value) (hc : ∀ w : World, I w → w.cell? ad = some v)
    (hk : K (a.put o.dst v)) : o.quiet Try.prog a (fun w' => ∃ x : {w' : World // I w'}, w' = x.1) K :=
  ⟨v, fun w hw => by
    obtain ⟨y, rfl⟩ := hw
    have h := hc y.1 y.2
    unfold Oper.quietAt execOp
    simp only [ho, hx]
    go_simp, hk⟩

theorem infoAct : (Try.prog.info? 32).map (fun i => (i.zero, i.size)) = some (some (.agg #[.int .u8 0, .int .u32 0, .int .u8 0, .slice none 0 0, .int .i64 0]), 5) := by kernel_rfl

def zeroDev : Array Value := #[.int .u32 0, .map none, .slice none 0 0, .int .i64 0, .bool false, .int .u64 0]
/-- what the law has in memory: the act; a zero device; the row of the two that are none -/
structure NBox (w : World) (A : Array Value) (q0 q1 q2 : Nat) (W : World) : Prop where
  act : W.heap[q0]? = some (.cells A 32 (0, 0))
  dev : W.heap[q1]? = some (.cells zeroDev 54 (0, 0))
  row : W.heap[q2]? = some (.cells #[.pointer none, .pointer (some ⟨q1, 0, none⟩)] 26 (0, 0))
  bel : Below w.heap.size w W
theorem lt_of_heap {W : World} {q : Nat} {o : Obj} (h : W.heap[q]? = some o) : q < W.heap.size := (Array.getElem?_eq_some_iff.1 h).1
theorem NBox.below {w W W' : World} {A : Array Value} {q0 q1 q2 : Nat} (h : NBox w A q0 q1 q2 W) (hb : Below W.heap.size W W') : NBox w A q0 q1 q2 W' :=
  ⟨(hb.block _ (lt_of_heap h.act)).trans h.act, (hb.block _ (lt_of_heap h.dev)).trans h.dev, (hb.block _ (lt_of_heap h.row)).trans h.row, h.bel.trans (hb.mono h.bel.size)⟩
/-- .. and the block that was read -/
structure NBox7 (w : World) (A : Array Value) (q0 q1 q2 q7 : Nat) (W : World) : Prop where
  box : NBox w A q0 q1 q2 W
  blk : Holds W q7 zeros
theorem NBox7.below {w W W' : World} {A : Array Value} {q0 q1 q2 q7 : Nat} (h : NBox7 w A q0 q1 q2 q7 W) (hb : Below W.heap.size W W') : NBox7 w A q0 q1 q2 q7 W' := ⟨h.box.below hb, h.blk.below hb h.blk.lt⟩

set_option linter.unusedSimpArgs false in
set_option maxRecDepth 100000 in
set_option maxHeartbeats 12800000 in
theorem none_any (what a : Nat) (c : UInt8) (pa : Option Addr) (ln cap : Nat) (z : Int) (w : World) :
    Calls Try.prog 4 #[.agg (actV what a c (.slice pa ln cap) z)] w fun e w' => e = .returned (.bool true) ∧ Below w.heap.size w w' := by
  have hzv := (zero_of_info infoBlock).1
  have hzd := (zero_of_info infoDev).1
  have hiz := sizeBlock _ zeros_length
  have hia := (zero_of_info infoAct).2
  obtain ⟨x0, x1, x2, xs_⟩ := heap3 w (.cells (actV what a c (.slice pa ln cap) z) 32) (.cells zeroDev 54) (.cells #[.pointer none, .pointer (some ⟨w.heap.size + 1, 0, none⟩)] 26)
  have hb0 : Below w.heap.size w (((w.alloc (.cells (actV what a c (.slice pa ln cap) z) 32)).alloc (.cells zeroDev 54)).alloc (.cells #[.pointer none, .pointer (some ⟨w.heap.size + 1, 0, none⟩)] 26)) := (((Below.refl _ _).alloc (Nat.le_refl _) _).alloc (by simp) _).alloc (by simp; omega) _
  have hbox : NBox w (actV what a c (.slice pa ln cap) z) w.heap.size (w.heap.size + 1) (w.heap.size + 1 + 1) _ := ⟨x0, x1, x2, hb0⟩
  clear x0 x1 x2 xs_ hb0
  have hg := fun (W : World) (op : BinOp) (x y : Operand) (xs ys : Array Value) => run_eqGuard_agg (P := Try.prog) W op 47 x y xs ys noGuard
  have he : ∀ W : World, (Op.equalIn 10000 47 (.agg (cellsOf zeros)) (.agg (cellsOf zeros))).run Try.prog W = .ok true W := fun W => by rw [run_eqBlock W zeros zeros zeros_length zeros_length]; simp
  go_enter Try.func4, Try.ntmps4
  go_wp2_with fail
  unfold zeroDev at hbox
  unfold actV at hbox ⊢
  clear hzd
  obtain ⟨q0, hq0⟩ : ∃ q, q = w.heap.size := ⟨_, rfl⟩
  obtain ⟨q1, hq1⟩ : ∃ q, q = q0 + 1 := ⟨_, rfl⟩
  obtain ⟨q2, hq2⟩ : ∃ q, q = q1 + 1 := ⟨_, rfl⟩
  simp only [← hq0, ← hq1, ← hq2] at hbox ⊢
  generalize ((w.alloc _).alloc _).alloc _ = W at hbox ⊢
  clear hq0 hq1 hq2
  go_loopw [5] (fun i wr => ∃ k : Nat, k ≤ 2 ∧ i = .int .i64 k ∧ NBox w #[.int .u8 (what : Int), .int .u32 (a : Int), .int .u8 (c.toNat : Int), .slice pa ln cap, .int .i64 z] q0 q1 q2 wr) (fun i _ => 2 - (intOf i).toNat)
  case atStart => exact ⟨0, by omega, rfl, hbox⟩
  case round =>
    obtain ⟨k, hk, rfl, hb⟩ := hrel
    clear hbox
    have hk' : k = 0 ∨ k = 1 ∨ k = 2 := by omega
    rcases hk' with rfl | rfl | rfl
    · rw [show ((0 : Nat) : Int) = 0 from rfl]
      have c0 : wr.cell? ⟨q2, 0, none⟩ = some (.pointer none) := cell_of_row _ q2 0 _ _ _ hb.row
      have ca : wr.cell? ⟨q0, 1, none⟩ = some (.int .u32 (a : Int)) := cell_of_row _ q0 1 _ _ _ hb.act
      go_wp2_with fail
      refine (Read_none (d := .pointer none) (NoDev.nil _) a).mono ?_
      rintro e V ⟨rfl, hx⟩
      replace hb := hb.below hx
      clear hx c0 ca
      have hb7 : NBox7 w #[.int .u8 (what : Int), .int .u32 (a : Int), .int .u8 (c.toNat : Int), .slice pa ln cap, .int .i64 z] q0 q1 q2 V.heap.size (V.alloc (.cells (cellsOf zeros) 47)) := ⟨hb.below ((Below.refl _ _).alloc (Nat.le_refl _) _), Holds.new V zeros⟩
      clear hb
      have tok : True := trivial
      go_wp2_with (have _t := tok; refine wpList_store_new rfl 47 _ _ rfl (cellsOf zeros) _ _ rfl rfl hiz rfl (cellsOf_one _) ?_; generalize V.heap.size = q7 at hb7 ⊢; generalize V.alloc (.cells (cellsOf zeros) 47) = V1 at hb7 ⊢; clear _t tok)
      have hbd := hb7.below (W' := V1.drew) ⟨rfl, rfl, rfl, Nat.le_refl _, fun _ _ => rfl⟩
      refine wp_region_class_lit (NBox7 w #[.int .u8 (what : Int), .int .u32 (a : Int), .int .u8 (c.toNat : Int), .slice pa ln cap, .int .i64 z] q0 q1 q2 q7) (by kernel_rfl) (by kernel_rfl) hbd ?_
      haveI : Nonempty {w' : World // (NBox7 w #[.int .u8 (what : Int), .int .u32 (a : Int), .int .u8 (c.toNat : Int), .slice pa ln cap, .int .i64 z] q0 q1 q2 q7) w'} := ⟨⟨_, hbd⟩⟩
      have H7 : ∀ W : World, (NBox7 w #[.int .u8 (what : Int), .int .u32 (a : Int), .int .u8 (c.toNat : Int), .slice pa ln cap, .int .i64 z] q0 q1 q2 q7) W → W.heap[q7]? = some (.cells (cellsOf zeros) 47 (0, 0)) := fun _ h => h.blk
      have HA : ∀ W : World, (NBox7 w #[.int .u8 (what : Int), .int .u32 (a : Int), .int .u8 (c.toNat : Int), .slice pa ln cap, .int .i64 z] q0 q1 q2 q7) W → W.heap[q0]? = some (.cells #[.int .u8 (what : Int), .int .u32 (a : Int), .int .u8 (c.toNat : Int), .slice pa ln cap, .int .i64 z] 32 (0, 0)) := fun _ h => h.box.act
      have HC1 : ∀ W : World, (NBox7 w #[.int .u8 (what : Int), .int .u32 (a : Int), .int .u8 (c.toNat : Int), .slice pa ln cap, .int .i64 z] q0 q1 q2 q7) W → W.cell? ⟨q0, 1, none⟩ = some (.int .u32 (a : Int)) := fun W h => cell_of_row W q0 1 _ _ _ (HA W h)
      have HC3 : ∀ W : World, (NBox7 w #[.int .u8 (what : Int), .int .u32 (a : Int), .int .u8 (c.toNat : Int), .slice pa ln cap, .int .i64 z] q0 q1 q2 q7) W → W.cell? ⟨q0, 3, none⟩ = some (.slice pa ln cap) := fun W h => cell_of_row W q0 3 _ _ _ (HA W h)
      have HC4 : ∀ W : World, (NBox7 w #[.int .u8 (what : Int), .int .u32 (a : Int), .int .u8 (c.toNat : Int), .slice pa ln cap, .int .i64 z] q0 q1 q2 q7) W → W.cell? ⟨q0, 4, none⟩ = some (.int .i64 z) := fun W h => cell_of_row W q0 4 _ _ _ (HA W h)
      have HD : ∀ W : World, (NBox7 w #[.int .u8 (what : Int), .int .u32 (a : Int), .int .u8 (c.toNat : Int), .slice pa ln cap, .int .i64 z] q0 q1 q2 q7) W → NoDev (.pointer none) W := fun W h => NoDev.nil _
      clear hbd hb7
      repeat (first | go_big_quiet_skip | (go_big_quiet_want; first | (refine quiet_load_row 47 _ rfl q7 rfl _ _ _ _ H7 Try.underlying47 rfl hiz ?_; go_big_quiet_on; simp only [Act.put, List.setIfInBounds_toArray, List.set_cons_zero, List.set_cons_succ]) | (refine quiet_load_row 32 _ rfl q0 rfl _ _ _ _ HA Try.underlying32 rfl hia ?_; go_big_quiet_on; simp only [Act.put, List.setIfInBounds_toArray, List.set_cons_zero, List.set_cons_succ]) | (refine quiet_load_u32 _ rfl ⟨q0, 1, none⟩ rfl _ HC1 ?_; go_big_quiet_on; simp only [Act.put, List.setIfInBounds_toArray, List.set_cons_zero, List.set_cons_succ]) | (refine quiet_load_keeps _ rfl ⟨q0, 3, none⟩ rfl _ HC3 ?_; go_big_quiet_on; simp only [Act.put, List.setIfInBounds_toArray, List.set_cons_zero, List.set_cons_succ]) | (refine quiet_load_int _ rfl ⟨q0, 4, none⟩ rfl _ HC4 ?_; go_big_quiet_on; simp only [Act.put, List.setIfInBounds_toArray, List.set_cons_zero, List.set_cons_succ]) | (go_big_quiet_op; first | go_big_quiet_on | go_big_quiet_call (first | (intro h1; exact (block_any what a c (.slice pa ln cap) z _).mono fun _ _ ⟨he, hb⟩ => ⟨he, h1.below hb⟩) | (intro h1; exact (Write_none (HD _ h1) a (blockB c)).mono fun _ _ ⟨he, hb⟩ => ⟨he, h1.below hb⟩) | (intro h1; exact (Flush_none (HD _ h1)).mono fun _ _ ⟨he, hb⟩ => ⟨he, h1.below hb⟩) | (intro h1; exact (Crash_none (HD _ h1) pa ln cap).mono fun _ _ ⟨he, hb⟩ => ⟨he, h1.below hb⟩) | (intro h1; exact (Fuse_none (HD _ h1) z).mono fun _ _ ⟨he, hb⟩ => ⟨he, h1.below hb⟩) | (intro h1; exact (Copy_none (HD _ h1)).mono fun _ _ ⟨he, hb⟩ => ⟨he, h1.below hb⟩) | (intro h1; exact (Size_nil _).mono fun _ _ ⟨he, hb⟩ => ⟨he, h1.below hb⟩) | (intro h1; exact (Pending_nil _).mono fun _ _ ⟨he, hb⟩ => ⟨he, h1.below hb⟩) | (intro h1; exact (Down_nil _).mono fun _ _ ⟨he, hb⟩ => ⟨he, h1.below hb⟩) | (intro h1; exact (Writes_nil _).mono fun _ _ ⟨he, hb⟩ => ⟨he, h1.below hb⟩) | (intro _; rfl)))))
      refine wpQuiet_nil ?_
      intro w2 hw2
      have hb := hw2.box
      clear hw2 H7 HA HC1 HC3 HC4 HD
      go_wp2_with fail
      go_roundw
      case rel => exact ⟨1, by omega, by go_num, hb⟩
      case measure => simp [intOf]
    · rw [show ((1 : Nat) : Int) = 1 from rfl]
      have c0 : wr.cell? ⟨q2, 1, none⟩ = some (.pointer (some ⟨q1, 0, none⟩)) := cell_of_row _ q2 1 _ _ _ hb.row
      have ca : wr.cell? ⟨q0, 1, none⟩ = some (.int .u32 (a : Int)) := cell_of_row _ q0 1 _ _ _ hb.act
      go_wp2_with fail
      refine (Read_none (d := .pointer (some ⟨q1, 0, none⟩)) (NoDev.zero (p := q1) (cell_of_row _ q1 0 _ _ _ hb.dev)) a).mono ?_
      rintro e V ⟨rfl, hx⟩
      replace hb := hb.below hx
      clear hx c0 ca
      have hb7 : NBox7 w #[.int .u8 (what : Int), .int .u32 (a : Int), .int .u8 (c.toNat : Int), .slice pa ln cap, .int .i64 z] q0 q1 q2 V.heap.size (V.alloc (.cells (cellsOf zeros) 47)) := ⟨hb.below ((Below.refl _ _).alloc (Nat.le_refl _) _), Holds.new V zeros⟩
      clear hb
      have tok : True := trivial
      go_wp2_with (have _t := tok; refine wpList_store_new rfl 47 _ _ rfl (cellsOf zeros) _ _ rfl rfl hiz rfl (cellsOf_one _) ?_; generalize V.heap.size = q7 at hb7 ⊢; generalize V.alloc (.cells (cellsOf zeros) 47) = V1 at hb7 ⊢; clear _t tok)
      have hbd := hb7.below (W' := V1.drew) ⟨rfl, rfl, rfl, Nat.le_refl _, fun _ _ => rfl⟩
      refine wp_region_class_lit (NBox7 w #[.int .u8 (what : Int), .int .u32 (a : Int), .int .u8 (c.toNat : Int), .slice pa ln cap, .int .i64 z] q0 q1 q2 q7) (by kernel_rfl) (by kernel_rfl) hbd ?_
      haveI : Nonempty {w' : World // (NBox7 w #[.int .u8 (what : Int), .int .u32 (a : Int), .int .u8 (c.toNat : Int), .slice pa ln cap, .int .i64 z] q0 q1 q2 q7) w'} := ⟨⟨_, hbd⟩⟩
      have H7 : ∀ W : World, (NBox7 w #[.int .u8 (what : Int), .int .u32 (a : Int), .int .u8 (c.toNat : Int), .slice pa ln cap, .int .i64 z] q0 q1 q2 q7) W → W.heap[q7]? = some (.cells (cellsOf zeros) 47 (0, 0)) := fun _ h => h.blk
      have HA : ∀ W : World, (NBox7 w #[.int .u8 (what : Int), .int .u32 (a : Int), .int .u8 (c.toNat : Int), .slice pa ln cap, .int .i64 z] q0 q1 q2 q7) W → W.heap[q0]? = some (.cells #[.int .u8 (what : Int), .int .u32 (a : Int), .int .u8 (c.toNat : Int), .slice pa ln cap, .int .i64 z] 32 (0, 0)) := fun _ h => h.box.act
      have HC1 : ∀ W : World, (NBox7 w #[.int .u8 (what : Int), .int .u32 (a : Int), .int .u8 (c.toNat : Int), .slice pa ln cap, .int .i64 z] q0 q1 q2 q7) W → W.cell? ⟨q0, 1, none⟩ = some (.int .u32 (a : Int)) := fun W h => cell_of_row W q0 1 _ _ _ (HA W h)
      have HC3 : ∀ W : World, (NBox7 w #[.int .u8 (what : Int), .int .u32 (a : Int), .int .u8 (c.toNat : Int), .slice pa ln cap, .int .i64 z] q0 q1 q2 q7) W → W.cell? ⟨q0, 3, none⟩ = some (.slice pa ln cap) := fun W h => cell_of_row W q0 3 _ _ _ (HA W h)
      have HC4 : ∀ W : World, (NBox7 w #[.int .u8 (what : Int), .int .u32 (a : Int), .int .u8 (c.toNat : Int), .slice pa ln cap, .int .i64 z] q0 q1 q2 q7) W → W.cell? ⟨q0, 4, none⟩ = some (.int .i64 z) := fun W h => cell_of_row W q0 4 _ _ _ (HA W h)
      have HD : ∀ W : World, (NBox7 w #[.int .u8 (what : Int), .int .u32 (a : Int), .int .u8 (c.toNat : Int), .slice pa ln cap, .int .i64 z] q0 q1 q2 q7) W → NoDev (.pointer (some ⟨q1, 0, none⟩)) W := fun W h => NoDev.zero (p := q1) (cell_of_row _ q1 0 _ _ _ h.box.dev)
      clear hbd hb7
      repeat (first | go_big_quiet_skip | (go_big_quiet_want; first | (refine quiet_load_row 47 _ rfl q7 rfl _ _ _ _ H7 Try.underlying47 rfl hiz ?_; go_big_quiet_on; simp only [Act.put, List.setIfInBounds_toArray, List.set_cons_zero, List.set_cons_succ]) | (refine quiet_load_row 32 _ rfl q0 rfl _ _ _ _ HA Try.underlying32 rfl hia ?_; go_big_quiet_on; simp only [Act.put, List.setIfInBounds_toArray, List.set_cons_zero, List.set_cons_succ]) | (refine quiet_load_u32 _ rfl ⟨q0, 1, none⟩ rfl _ HC1 ?_; go_big_quiet_on; simp only [Act.put, List.setIfInBounds_toArray, List.set_cons_zero, List.set_cons_succ]) | (refine quiet_load_keeps _ rfl ⟨q0, 3, none⟩ rfl _ HC3 ?_; go_big_quiet_on; simp only [Act.put, List.setIfInBounds_toArray, List.set_cons_zero, List.set_cons_succ]) | (refine quiet_load_int _ rfl ⟨q0, 4, none⟩ rfl _ HC4 ?_; go_big_quiet_on; simp only [Act.put, List.setIfInBounds_toArray, List.set_cons_zero, List.set_cons_succ]) | (go_big_quiet_op; first | go_big_quiet_on | go_big_quiet_call (first | (intro h1; exact (block_any what a c (.slice pa ln cap) z _).mono fun _ _ ⟨he, hb⟩ => ⟨he, h1.below hb⟩) | (intro h1; exact (Write_none (HD _ h1) a (blockB c)).mono fun _ _ ⟨he, hb⟩ => ⟨he, h1.below hb⟩) | (intro h1; exact (Flush_none (HD _ h1)).mono fun _ _ ⟨he, hb⟩ => ⟨he, h1.below hb⟩) | (intro h1; exact (Crash_none (HD _ h1) pa ln cap).mono fun _ _ ⟨he, hb⟩ => ⟨he, h1.below hb⟩) | (intro h1; exact (Fuse_none (HD _ h1) z).mono fun _ _ ⟨he, hb⟩ => ⟨he, h1.below hb⟩) | (intro h1; exact (Copy_none (HD _ h1)).mono fun _ _ ⟨he, hb⟩ => ⟨he, h1.below hb⟩) | (intro h1; exact (Size_zero (p := q1) (cell_of_row _ q1 0 _ _ _ h1.box.dev)).mono fun _ _ ⟨he, hb⟩ => ⟨he, h1.below hb⟩) | (intro h1; exact (Pending_zero (p := q1) (cell_of_row _ q1 2 _ _ _ h1.box.dev)).mono fun _ _ ⟨he, hb⟩ => ⟨he, h1.below hb⟩) | (intro h1; exact (Down_zero (p := q1) (cell_of_row _ q1 4 _ _ _ h1.box.dev)).mono fun _ _ ⟨he, hb⟩ => ⟨he, h1.below hb⟩) | (intro h1; exact (Writes_zero (p := q1) (cell_of_row _ q1 5 _ _ _ h1.box.dev)).mono fun _ _ ⟨he, hb⟩ => ⟨he, h1.below hb⟩) | (intro _; rfl)))))
      refine wpQuiet_nil ?_
      intro w2 hw2
      have hb := hw2.box
      clear hw2 H7 HA HC1 HC3 HC4 HD
      go_wp2_with fail
      go_roundw
      case rel => exact ⟨2, by omega, by go_num, hb⟩
      case measure => simp [intOf]
    · rw [show ((2 : Nat) : Int) = 2 from rfl]
      have hbel := hb.bel
      clear hb
      go_wp2_with fail
      refine (head_any _).mono ?_
      rintro e V ⟨rfl, hx⟩
      have hf := hbel.trans (hx.mono hbel.size)
      go_wp2
      go_ret
      exact ⟨rfl, hf⟩

theorem none_walk (w : World) (x : Ac) : Calls Try.prog 4 #[.agg x.val.toArray] w fun e w' => e = .returned (.bool true) ∧ Below w.heap.size w w' := none_any x.what x.a x.c x.pa x.keep.length x.cap x.z w

end Go.Proofs.Ytlgjgobelceheaa.Dev
