/-
  Blocks that the laws make: full of one byte; an act's.
-/
import Derived.Test.YtlgjgobelceheaaDevCrash
namespace Go.Proofs.Ytlgjgobelceheaa.Dev
open Go.RowKit RowLaw

def fullB (c : UInt8) : List UInt8 := List.replicate 256 c
def fullTo (c : UInt8) (k : Nat) : List UInt8 := List.replicate k c ++ List.replicate (256 - k) 0
theorem fullTo_length (c : UInt8) {k : Nat} (hk : k ≤ 256) : (fullTo c k).length = 256 := by simp [fullTo]; omega
theorem fullB_length (c : UInt8) : (fullB c).length = 256 := List.length_replicate
theorem fullTo_zero (c : UInt8) : fullTo c 0 = zeros := by unfold fullTo zeros; rw [Nat.sub_zero, List.replicate_zero, List.nil_append]
theorem fullTo_all (c : UInt8) : fullTo c 256 = fullB c := by unfold fullTo fullB; rw [Nat.sub_self, List.replicate_zero, List.append_nil]
theorem fullTo_set (c : UInt8) {k : Nat} (hk : k < 256) : (fullTo c k).set k c = fullTo c (k + 1) := by
  apply List.ext_getElem?
  intro j
  rw [List.getElem?_set]
  simp only [fullTo, List.length_append, List.length_replicate]
  by_cases hj : k = j
  · subst hj
    rw [if_pos rfl, if_pos (by omega), List.getElem?_append_left (by simp), List.getElem?_replicate, if_pos (by omega)]
  · rw [if_neg hj]
    by_cases h1 : j < k
    · rw [List.getElem?_append_left (by simp; omega), List.getElem?_append_left (by simp; omega), List.getElem?_replicate, List.getElem?_replicate, if_pos h1, if_pos (by omega)]
    · rw [List.getElem?_append_right (by simp; omega), List.getElem?_append_right (by simp; omega), List.getElem?_replicate, List.getElem?_replicate]
      simp only [List.length_replicate]
      by_cases h2 : j < 256
      · rw [if_pos (by omega), if_pos (by omega)]
      · rw [if_neg (by omega), if_neg (by omega)]

/-- two new blocks of bytes -/
structure TwoBox (w : World) (b0 b1 : Nat) (l : List UInt8) (W : World) : Prop where
  res : Holds W b0 zeros
  cur : Holds W b1 l
  ne : b0 ≠ b1
  ge0 : w.heap.size ≤ b0
  ge1 : w.heap.size ≤ b1
  bel : Below w.heap.size w W

set_option maxRecDepth 100000 in
set_option maxHeartbeats 1600000 in
theorem full_any (c : UInt8) (w : World) : Calls Try.prog 22 #[.int .u8 (c.toNat : Int)] w fun e w' => e = .returned (.agg (cellsOf (fullB c))) ∧ Below w.heap.size w w' := by
  have hzv := (zero_of_info infoBlock).1
  have hbox : TwoBox w w.heap.size (w.heap.size + 1) (fullTo c 0) ((w.alloc (.cells (cellsOf zeros) 47)).alloc (.cells (cellsOf zeros) 47)) :=
    ⟨(Holds.new w zeros).alloc _, by rw [fullTo_zero]; exact heap_alloc2_new w _ _, by omega, Nat.le_refl _, by omega, ((Below.refl _ _).alloc (Nat.le_refl _) _).alloc (by simp) _⟩
  go_enter Try.func22, Try.ntmps22
  go_wp2_with fail
  generalize w.heap.size + 1 = b1 at hbox ⊢
  obtain ⟨b0, hb0⟩ : ∃ b0, b0 = w.heap.size := ⟨_, rfl⟩
  rw [← hb0] at hbox
  simp only [← hb0]
  clear hb0
  generalize (w.alloc (.cells (cellsOf zeros) 47)).alloc (.cells (cellsOf zeros) 47) = W at hbox ⊢
  clear hzv
  go_loopw [4] (fun i wr => ∃ k : Nat, k ≤ 256 ∧ i = .int .i64 k ∧ TwoBox w b0 b1 (fullTo c k) wr) (fun i _ => 256 - (intOf i).toNat)
  case atStart => exact ⟨0, by omega, rfl, hbox⟩
  case round =>
    obtain ⟨k, hk, rfl, hb⟩ := hrel
    clear hbox
    by_cases hlt : k < 256
    · have hl := fullTo_length c hk
      have hc := hb.cur.cell k (by omega)
      have hf := hb.cur.frozen k
      have hb2 : TwoBox w b0 b1 (fullTo c (k + 1)) (wr.setCell ⟨b1, k, none⟩ (.int .u8 (c.toNat : Int))) :=
        ⟨hb.res.other _ _ hb.ne, by rw [← fullTo_set c hlt]; exact hb.cur.set_ k c, hb.ne, hb.ge0, hb.ge1, hb.bel.setCell (p := ⟨b1, k, none⟩) hb.ge1 _⟩
      clear hb
      go_wp2_with fail
      go_roundw
      case rel => exact ⟨k + 1, by omega, by go_num, hb2⟩
      case measure => simp [intOf]; omega
    · obtain rfl : k = 256 := by omega
      rw [fullTo_all] at hb
      have hi := sizeBlock _ (fullB_length c)
      have hcur := hb.cur
      have hres := hb.res
      have hbel := hb.bel
      have hge := hb.ge0
      clear hb
      go_wp2_with (first | (refine wpList_load_row rfl 47 _ rfl b1 rfl _ _ _ _ hcur Try.underlying47 rfl hi ?_) | (refine wpList_store_row rfl 47 _ _ rfl b0 _ rfl rfl _ _ hres hi (by rw [cellsOf_size, cellsOf_size, fullB_length, zeros_length]) (cellsOf_one _) ?_))
      refine bodyPost_ret (v := .agg (cellsOf (fullB c))) ?_ rfl ⟨rfl, below_row hbel hge⟩
      exact results_cell_row rfl _ _ _ _ _ _ _ rfl (setRow_heap wr _ _ _ _ _ hres) Try.underlying47 rfl hi

/-- an act's block: its byte at the beginning, and the next ones at the beginnings of the sectors -/
def blockTo (c : UInt8) : Nat → List UInt8
  | 0 => zeros
  | k + 1 => (blockTo c k).set (64 * k) (c + UInt8.ofNat k)
def blockB (c : UInt8) : List UInt8 := blockTo c 4
theorem blockTo_length (c : UInt8) : ∀ k, (blockTo c k).length = 256
  | 0 => zeros_length
  | k + 1 => by unfold blockTo; rw [List.length_set]; exact blockTo_length c k
theorem blockB_length (c : UInt8) : (blockB c).length = 256 := blockTo_length c 4

def actV (what a : Nat) (c : UInt8) (lv : Value) (k : Int) : Array Value := #[.int .u8 (what : Int), .int .u32 (a : Int), .int .u8 (c.toNat : Int), lv, .int .i64 k]

theorem blockTo_one (c : UInt8) : cellsOf (blockTo c 1) = (cellsOf zeros).setIfInBounds 0 (.int .u8 (c.toNat : Int)) := by
  have e : blockTo c 1 = zeros.set 0 c := by
    show zeros.set (64 * 0) (c + UInt8.ofNat 0) = zeros.set 0 c
    rw [Nat.mul_zero]
    congr 1
    exact UInt8.add_zero c
  rw [e, ← cellsOf_set]
theorem u8_plus (c : UInt8) (k : Nat) (hk : k < 256) : IntKind.u8.wrap ((c.toNat : Int) + (k : Int)) = ((c + UInt8.ofNat k).toNat : Int) := by
  rw [IntKind.wrap_u8, UInt8.toNat_add, UInt8.toNat_ofNat', Nat.mod_eq_of_lt (by omega : k < 2 ^ 8)]
  omega

set_option maxRecDepth 100000 in
set_option maxHeartbeats 1600000 in
theorem block_any (what a : Nat) (c : UInt8) (lv : Value) (z : Int) (w : World) : Calls Try.prog 16 #[.agg (actV what a c lv z)] w fun e w' => e = .returned (.agg (cellsOf (blockB c))) ∧ Below w.heap.size w w' := by
  have hzv := (zero_of_info infoBlock).1
  have hz0 : (cellsOf zeros)[0]? = some (.int .u8 0) := cellsOf_get zeros 0 (by rw [zeros_length]; omega)
  obtain ⟨x0, x1, x2, xs⟩ := heap3 w (.cells (actV what a c lv z) 32) (.cells (cellsOf zeros) 47) (.cells ((cellsOf zeros).setIfInBounds 0 (.int .u8 (c.toNat : Int))) 47)
  have hbel : Below w.heap.size w (((w.alloc (.cells (actV what a c lv z) 32)).alloc (.cells (cellsOf zeros) 47)).alloc (.cells ((cellsOf zeros).setIfInBounds 0 (.int .u8 (c.toNat : Int))) 47)) := (((Below.refl _ _).alloc (Nat.le_refl _) _).alloc (by simp) _).alloc (by simp; omega) _
  have hbox : TwoBox w (w.heap.size + 1) (w.heap.size + 1 + 1) (blockTo c 1) _ := ⟨x1, (by unfold Holds; rw [blockTo_one]; exact x2), by omega, by omega, by omega, hbel⟩
  have cC := cell_of_row _ w.heap.size 2 _ _ _ x0
  clear x0 x1 x2 xs hbel
  go_enter Try.func16, Try.ntmps16
  unfold actV at hbox cC ⊢
  go_wp2_with fail
  clear hz0 hzv
  obtain ⟨q0, hq0⟩ : ∃ q, q = w.heap.size := ⟨_, rfl⟩
  obtain ⟨b0, hb0⟩ : ∃ q, q = q0 + 1 := ⟨_, rfl⟩
  obtain ⟨b1, hb1⟩ : ∃ q, q = b0 + 1 := ⟨_, rfl⟩
  simp only [← hq0, ← hb0, ← hb1] at hbox cC ⊢
  generalize ((w.alloc _).alloc _).alloc _ = W at hbox cC ⊢
  have hq1 : q0 ≠ b1 := by omega
  have hge1 : w.heap.size ≤ b1 := by omega
  clear hq0 hb0 hb1
  replace cC : W.cell? ⟨q0, 2, none⟩ = some (.int .u8 (c.toNat : Int)) := cC
  go_loopw [4] (fun i wr => ∃ k : Nat, k ≤ 4 ∧ 1 ≤ k ∧ i = .int .i64 k ∧ TwoBox w b0 b1 (blockTo c k) wr ∧ wr.cell? ⟨q0, 2, none⟩ = some (.int .u8 (c.toNat : Int))) (fun i _ => 4 - (intOf i).toNat)
  case atStart => exact ⟨1, by omega, by omega, rfl, hbox, cC⟩
  case round =>
    obtain ⟨k, hk, hk1, rfl, hb, hC⟩ := hrel
    clear hbox cC
    by_cases hlt : k < 4
    · have hl := blockTo_length c k
      have hcl := hb.cur.cell (64 * k) (by omega)
      have hf := hb.cur.frozen (64 * k)
      have z1 : (64 * (k : Int)).toNat = 64 * k := by omega
      have z2 : IntKind.i64.wrap (64 * (k : Int)) = 64 * (k : Int) := IntWalk.i64_in _ (by omega)
      have z3 : IntKind.u8.wrap (k : Int) = (k : Int) := IntWalk.u8_in _ (by omega)
      have z4 := u8_plus c k (by omega)
      have z5 : ((c.toNat : Int) + (k : Int)) % 256 = ((c + UInt8.ofNat k).toNat : Int) := by rw [← z4, IntKind.wrap_u8]
      have z6 : 64 * (k : Int) < 256 := by omega
      have z7 : 0 ≤ 64 * (k : Int) := by omega
      have z8 : (k : Int) % 256 = (k : Int) := by omega
      have hb2 : TwoBox w b0 b1 (blockTo c (k + 1)) (wr.setCell ⟨b1, 64 * k, none⟩ (.int .u8 ((c + UInt8.ofNat k).toNat : Int))) :=
        ⟨hb.res.other _ _ hb.ne, hb.cur.set_ (64 * k) _, hb.ne, hb.ge0, hb.ge1, hb.bel.setCell (p := ⟨b1, 64 * k, none⟩) hb.ge1 _⟩
      have hC2 : (wr.setCell ⟨b1, 64 * k, none⟩ (.int .u8 ((c + UInt8.ofNat k).toNat : Int))).cell? ⟨q0, 2, none⟩ = some (.int .u8 (c.toNat : Int)) := (World.cell?_of_block (w := wr) (a := ⟨q0, 2, none⟩) (heap_setCell_other wr ⟨b1, 64 * k, none⟩ q0 _ hq1)).trans hC
      clear hb
      generalize (c + UInt8.ofNat k).toNat = d at z4 z5 hb2 hC2
      go_wp2_with fail
      go_roundw
      case rel => exact ⟨k + 1, by omega, by omega, by go_num, hb2, hC2⟩
      case measure => simp [intOf]; omega
    · obtain rfl : k = 4 := by omega
      replace hb : TwoBox w b0 b1 (blockB c) wr := hb
      have hi := sizeBlock _ (blockB_length c)
      have hcur := hb.cur
      have hres := hb.res
      have hbel := hb.bel
      have hge := hb.ge0
      clear hb
      go_wp2_with (first | (refine wpList_load_row rfl 47 _ rfl b1 rfl _ _ _ _ hcur Try.underlying47 rfl hi ?_) | (refine wpList_store_row rfl 47 _ _ rfl b0 _ rfl rfl _ _ hres hi (by rw [cellsOf_size, cellsOf_size, blockB_length, zeros_length]) (cellsOf_one _) ?_))
      refine bodyPost_ret (v := .agg (cellsOf (blockB c))) ?_ rfl ⟨rfl, below_row hbel hge⟩
      exact results_cell_row rfl _ _ _ _ _ _ _ rfl (setRow_heap wr _ _ _ _ _ hres) Try.underlying47 rfl hi

end Go.Proofs.Ytlgjgobelceheaa.Dev
