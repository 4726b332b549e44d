/-
  The walk of package node's Put.
-/
import Derived.Test.YtdhfpmnkffdjaaaNodeObj
namespace Go.Proofs.Ytdhfpmnkffdjaaa.Node
open Go.RowKit RowLaw Crc Fld

theorem numBytes4 (n : Nat) : numBytes n 4 = some (leB n 4) := by unfold numBytes; rw [if_pos (by decide)]; rfl
theorem numBytes1 (n : Nat) : numBytes n 1 = some (leB n 1) := by unfold numBytes; rw [if_pos (by decide)]; rfl
theorem app_at (f bs : List UInt8) (h : f.length + bs.length ≤ 251) : app (some f) (some bs) = some (f ++ bs) := if_pos h
theorem app_first (lv : Nat) (ps : List Nat) : app (some []) (numBytes lv 1) = some (nodeTo lv ps 0) := by
  rw [numBytes1, app_at _ _ (by rw [leB_length]; simp), List.nil_append, nodeTo_zero]
theorem app_next (lv : Nat) (ps : List Nat) (h : ps.length = 32) (k : Nat) (hk : k < ps.length) : app (some (nodeTo lv ps k)) (numBytes ps[k] 4) = some (nodeTo lv ps (k + 1)) := by
  rw [numBytes4, app_at _ _ (by rw [leB_length, nodeTo_length _ _ _ (by omega)]; omega), nodeTo_succ lv ps k hk]

/-- what Put has in memory: the node n, the result r, the writer q -/
structure PutBox (w : World) (n r q lv : Nat) (ps : List Nat) (f : Option (List UInt8)) (W : World) : Prop where
  node : IsNode W n lv ps
  res : Holds W r zeros
  wr : WIs W q f
  bel : Below w.heap.size w W
  ne : n ≠ q ∧ r ≠ q ∧ w.heap.size ≤ q ∧ w.heap.size ≤ n ∧ w.heap.size ≤ r
theorem PutBox.step {w W W' : World} {n r q lv : Nat} {ps : List Nat} {f f' : Option (List UInt8)} (h : PutBox w n r q lv ps f W) (hw : WIs W' q f') (ha : Apart q W W') : PutBox w n r q lv ps f' W' :=
  ⟨h.node.apart ha h.ne.1, holds_apart h.res ha h.ne.2.1, hw, h.bel.trans (ha.below h.ne.2.2.1 h.bel.size), h.ne⟩
theorem PutBox.num {w W : World} {n r q lv : Nat} {ps : List Nat} {f f' : Option (List UInt8)} (h : PutBox w n r q lv ps f W) (x : Nat) (width : Int) (hf : app f (numBytes x width) = f') :
    Calls Try.prog 20 #[.pointer (some ⟨q, 0, none⟩), .int .u64 (x : Int), .int .i64 width] W fun e W' => e = .returned (.tuple #[]) ∧ PutBox w n r q lv ps f' W' := by
  subst hf
  exact (Num_any f q x width W h.wr).mono fun _ _ ⟨he, h1, h2⟩ => ⟨he, h.step h1 h2⟩

theorem below_row {w W : World} {B q : Nat} {cs : Array Value} (h : Below B w W) (hq : B ≤ q) : Below B w (W.setRow q cs) :=
  h.trans ⟨rfl, rfl, rfl, by simp, fun k hk => setRow_other W _ _ _ (by omega)⟩

set_option maxRecDepth 100000 in
set_option maxHeartbeats 1600000 in
theorem Put_no (lv : Nat) (ps : List Nat) (hp : ps.length = 32) (ho : okN lv ps = false) (w : World) :
    Calls Try.prog 7 #[.agg (nodeCells lv ps)] w fun e w' => e = .returned (.tuple #[.agg (cellsOf zeros), .int .i64 2]) ∧ Below w.heap.size w w' := by
  have hzv := (zero_of_info infoBlock).1
  have hi := sizeBlock zeros zeros_length
  have hN : IsNode ((w.alloc (.cells (nodeCells lv ps) 25)).alloc (.cells (cellsOf zeros) 27)) w.heap.size lv ps := (IsNode.new w lv ps).alloc _
  have hR : Holds ((w.alloc (.cells (nodeCells lv ps) 25)).alloc (.cells (cellsOf zeros) 27)) (w.heap.size + 1) zeros := heap_alloc2_new w _ _
  have hb : Below w.heap.size w ((w.alloc (.cells (nodeCells lv ps) 25)).alloc (.cells (cellsOf zeros) 27)) := ((Below.refl _ _).alloc (Nat.le_refl _) _).alloc (by simp) _
  have hv := valid_any w.heap.size lv ps hp _ hN
  rw [ho] at hv
  have HV := Lib.hid hv; clear hv
  have HP := Lib.hid hp; clear hp
  go_enter Try.func7, Try.ntmps7
  go_wp2_with (first
    | (go_at_call 18; (with_reducible refine HV.out.mono ?_); rintro e W ⟨rfl, rfl⟩; clear HV; clear hN; generalize ((w.alloc (.cells (nodeCells lv ps) 25)).alloc (.cells (cellsOf zeros) 27)) = W at hR hb ⊢)
    | (refine wpList_store_row rfl 27 _ _ rfl _ _ rfl rfl _ _ hR hi rfl (cellsOf_one _) ?_))
  exact bodyPost_ret (results_row_tmp rfl _ _ _ _ _ _ _ rfl (setRow_heap W _ _ _ _ _ hR) Try.underlying27 rfl hi) rfl ⟨rfl, below_row hb (by omega)⟩

set_option maxRecDepth 100000 in
set_option maxHeartbeats 1600000 in
theorem Put_yes (lv : Nat) (ps : List Nat) (hp : ps.length = 32) (ho : okN lv ps = true) (w : World) :
    Calls Try.prog 7 #[.agg (nodeCells lv ps)] w fun e w' => e = .returned (.tuple #[.agg (cellsOf (fdone (nodeTo lv ps 32) 78)), .int .i64 0]) ∧ Below w.heap.size w w' := by
  have hzv := (zero_of_info infoBlock).1
  have hlen := fdone_length (nodeTo lv ps 32) 78 (by rw [nodeTo_length _ _ _ (by omega)]; omega)
  have hi := sizeBlock _ hlen
  have hzz : (cellsOf zeros).size = (cellsOf (fdone (nodeTo lv ps 32) 78)).size := by rw [cellsOf_size, cellsOf_size, hlen, zeros_length]
  have hN : IsNode ((w.alloc (.cells (nodeCells lv ps) 25)).alloc (.cells (cellsOf zeros) 27)) w.heap.size lv ps := (IsNode.new w lv ps).alloc _
  have hR : Holds ((w.alloc (.cells (nodeCells lv ps) 25)).alloc (.cells (cellsOf zeros) 27)) (w.heap.size + 1) zeros := heap_alloc2_new w _ _
  have hb : Below w.heap.size w ((w.alloc (.cells (nodeCells lv ps) 25)).alloc (.cells (cellsOf zeros) 27)) := ((Below.refl _ _).alloc (Nat.le_refl _) _).alloc (by simp) _
  have hv := valid_any w.heap.size lv ps hp _ hN
  rw [ho] at hv
  obtain ⟨l1, l2⟩ := okN_lt ho
  have hnext := fun k hk => app_next lv ps hp k hk
  have HN := Lib.hid hnext; clear hnext
  have HV := Lib.hid hv; clear hv
  have HP := Lib.hid hp; clear hp
  have HL := Lib.hid l2; clear l2 hlen
  obtain ⟨B, hB⟩ : ∃ B, B = fdone (nodeTo lv ps 32) 78 := ⟨_, rfl⟩
  rw [← hB] at hi hzz ⊢
  have HB := Lib.hid hB; clear hB
  have z1 : IntKind.u64.wrap (lv : Int) = (lv : Int) := IntWalk.u64_in _ (by omega)
  go_enter Try.func7, Try.ntmps7
  go_wp2_with fail
  refine HV.out.mono ?_
  clear HV
  rintro e W ⟨rfl, rfl⟩
  go_wp2_with fail
  refine (New_any _).mono ?_
  rintro e W1 ⟨rfl, hw1, hb1⟩
  have hbox : PutBox w w.heap.size (w.heap.size + 1) (w.heap.size + 2) lv ps (some []) W1 :=
    ⟨hN.below hb1 hN.lt, hR.below hb1 hR.lt, by simpa using hw1, hb.trans (hb1.mono hb.size), by omega⟩
  clear hN hR hb hw1 hb1
  have cl := hbox.node.level
  rw [show ((w.alloc (.cells (nodeCells lv ps) 25)).alloc (.cells (cellsOf zeros) 27)).heap.size = w.heap.size + 2 from by simp]
  go_wp2_with fail
  refine (hbox.num lv 1 (app_first lv ps)).mono ?_
  clear hbox cl
  rintro e W2 ⟨rfl, hbox⟩
  go_wp2_with fail
  go_loopw [17] (fun i wr => ∃ k : Nat, k ≤ 32 ∧ i = .int .i64 k ∧ PutBox w w.heap.size (w.heap.size + 1) (w.heap.size + 2) lv ps (some (nodeTo lv ps k)) wr) (fun i _ => 32 - (intOf i).toNat)
  case atStart => exact ⟨0, by omega, rfl, hbox⟩
  case round =>
    obtain ⟨k, hk, rfl, hbk⟩ := hrel
    clear hbox
    by_cases hlt : k < 32
    · have hkl : k < ps.length := by have := HP.out; omega
      have hc := hbk.node.ptr k hkl
      have hnx := HN.out k hkl
      have hxl := HL.out k hkl
      obtain ⟨x, hx⟩ : ∃ x, x = ps[k] := ⟨_, rfl⟩
      rw [← hx] at hc hnx hxl
      clear hx
      have HNX := Lib.hid hnx; clear hnx
      have z2 : IntKind.u64.wrap (x : Int) = (x : Int) := IntWalk.u64_in _ (by omega)
      go_wp2_with fail
      refine (hbk.num x 4 HNX.out).mono ?_
      clear hbk hc
      rintro e W3 ⟨rfl, hbk⟩
      go_wp2_with fail
      go_roundw
      case rel => exact ⟨k + 1, by omega, by go_num, hbk⟩
      case measure => simp [intOf]; omega
    · obtain rfl : k = 32 := by omega
      go_wp2_with fail
      refine (Done_some _ _ 78 _ hbk.wr).mono ?_
      rintro e W3 ⟨rfl, hb3⟩
      have hR := hbk.res.below hb3 hbk.res.lt
      have hb := hbk.bel.trans (hb3.mono hbk.bel.size)
      clear hbk hb3
      rw [← HB.out]
      go_wp2_with (refine wpList_store_row rfl 27 _ _ rfl _ _ rfl rfl _ _ hR hi hzz (cellsOf_one _) ?_)
      exact bodyPost_ret (results_row_tmp rfl _ _ _ _ _ _ _ rfl (setRow_heap W3 _ _ _ _ _ hR) Try.underlying27 rfl hi) rfl ⟨rfl, below_row hb (by omega)⟩

theorem Put_any (lv : Nat) (ps : List Nat) (hp : ps.length = 32) (w : World) :
    Calls Try.prog 7 #[.agg (nodeCells lv ps)] w fun e w' => e = .returned (.tuple #[.agg (cellsOf (putB lv ps)), .int .i64 (putE lv ps)]) ∧ Below w.heap.size w w' := by
  unfold putB putE
  cases ho : okN lv ps with
  | true => simpa using Put_yes lv ps hp ho w
  | false => simpa using Put_no lv ps hp ho w

end Go.Proofs.Ytdhfpmnkffdjaaa.Node
