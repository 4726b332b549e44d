/-
  The walk of the reference's Get.
-/
import Derived.Test.YtdhfpmnkffdjaaaNodeGet
import Derived.StillTailTactics
namespace Go.Proofs.Ytdhfpmnkffdjaaa.Node
open Go.RowKit RowLaw Crc Fld

theorem lvOf_at (l : List UInt8) (hl : l.length = 256) : lvOf l = (l[1]'(by omega)).toNat := by
  unfold lvOf piece
  rw [List.drop_eq_getElem_cons (by omega : 1 < l.length), List.take_succ_cons, List.take_zero]
  simp [leNat]
theorem four_at (l : List UInt8) (A : Nat) (h : A + 3 < l.length) :
    leNat (piece l A 4) = (l[A]'(by omega)).toNat + 256 * (l[A + 1]'(by omega)).toNat + 65536 * (l[A + 2]'(by omega)).toNat + 16777216 * (l[A + 3]'(by omega)).toNat := by
  unfold piece
  rw [List.drop_eq_getElem_cons (by omega : A < l.length), List.take_succ_cons, List.drop_eq_getElem_cons (by omega : A + 1 < l.length), List.take_succ_cons, List.drop_eq_getElem_cons (by omega : A + 1 + 1 < l.length), List.take_succ_cons, List.drop_eq_getElem_cons (by omega : A + 1 + 1 + 1 < l.length), List.take_succ_cons, List.take_zero]
  simp only [leNat]
  show _ = (l[A]'(by omega)).toNat + 256 * (l[A + 1]'(by omega)).toNat + 65536 * (l[A + 1 + 1]'(by omega)).toNat + 16777216 * (l[A + 1 + 1 + 1]'(by omega)).toNat
  omega

/-- what the reference's Get has in memory: the block q, the result r, the node n -/
structure RefBox (w : World) (l : List UInt8) (q r n : Nat) (ps : List Nat) (W : World) : Prop where
  blk : Holds W q l
  res : IsNode W r 0 zeros32
  node : IsNode W n (lvOf l) ps
  bel : Below w.heap.size w W
  ne : n ≠ q ∧ n ≠ r ∧ w.heap.size ≤ q ∧ w.heap.size ≤ n ∧ w.heap.size ≤ r
theorem RefBox.setPtr {w W : World} {l : List UInt8} {q r n : Nat} {ps : List Nat} (h : RefBox w l q r n ps W) (j x : Nat) : RefBox w l q r n (ps.set j x) (W.setCell ⟨n, 1 + j, none⟩ (.int .u32 (x : Int))) :=
  ⟨h.blk.other _ _ (fun e => h.ne.1 e.symm), h.res.other _ _ (fun e => h.ne.2.1 e.symm), h.node.setPtr j x, h.bel.setCell h.ne.2.2.2.1 _, h.ne⟩
theorem RefBox.drew {w W : World} {l : List UInt8} {q r n : Nat} {ps : List Nat} (h : RefBox w l q r n ps W) : RefBox w l q r n ps W.drew := ⟨h.blk, h.res, h.node, h.bel.drew, h.ne⟩

set_option maxRecDepth 100000 in
set_option maxHeartbeats 3200000 in
theorem refGet_any (l : List UInt8) (hl : l.length = 256) (w : World) :
    Calls Try.prog 15 #[.agg (cellsOf l)] w fun e w' => e = .returned (.tuple #[.agg (nodeCells (getLv l) (getPs l)), .int .i64 (getE l)]) ∧ Below w.heap.size w w' := by
  have hzv := (zero_of_info infoNode).1
  have hi := sizeBlock l hl
  have hN0 : IsNode (((w.alloc (.cells (cellsOf l) 27)).alloc (.cells (nodeCells 0 zeros32) 25)).alloc (.cells (nodeCells 0 zeros32) 25)) (w.heap.size + 1 + 1) 0 zeros32 := by
    have := heap_alloc_new ((w.alloc (.cells (cellsOf l) 27)).alloc (.cells (nodeCells 0 zeros32) 25)) (.cells (nodeCells 0 zeros32) 25)
    rw [show ((w.alloc (.cells (cellsOf l) 27)).alloc (.cells (nodeCells 0 zeros32) 25)).heap.size = w.heap.size + 1 + 1 from by simp] at this
    exact this
  have hbox : RefBox w l w.heap.size (w.heap.size + 1) (w.heap.size + 1 + 1) zeros32 ((((w.alloc (.cells (cellsOf l) 27)).alloc (.cells (nodeCells 0 zeros32) 25)).alloc (.cells (nodeCells 0 zeros32) 25)).setRow (w.heap.size + 1 + 1) (nodeCells (lvOf l) zeros32)) :=
    ⟨(setRow_other _ _ _ _ (by omega)).trans (((Holds.new w l).alloc _).alloc _), (setRow_other _ _ _ _ (by omega)).trans (IsNode.alloc (heap_alloc2_new w _ _) _), setRow_heap _ _ _ _ _ _ hN0,
      below_row ((((Below.refl _ _).alloc (Nat.le_refl _) _).alloc (by simp) _).alloc (by simp; omega) _) (by omega), by omega⟩
  have c1 : ((w.alloc (.cells (cellsOf l) 27)).alloc (.cells (nodeCells 0 zeros32) 25)).cell? ⟨w.heap.size, 1, none⟩ = some (.int .u8 (lvOf l : Int)) := by
    rw [lvOf_at l hl]
    exact ((Holds.new w l).alloc _).cell 1 (by omega)
  have hset0 := nodeCells_setLv 0 (lvOf l) zeros32
  have hsz1 : (nodeCells 0 zeros32).size = (nodeCells (lvOf l) zeros32).size := by rw [nodeCells_size, nodeCells_size]
  have hin1 := sizeNode (lvOf l) zeros32 zeros32_length
  have hin0 := sizeNode 0 zeros32 zeros32_length
  have hset := psK_set true l
  have hplen := psK_length true l
  have hfour := fun A h => four_at l A h
  have HS := Lib.hid hset; clear hset
  have HPL := Lib.hid hplen; clear hplen
  have HF := Lib.hid hfour; clear hfour
  have HLn := Lib.hid hl; clear hl
  go_enter Try.func15, Try.ntmps15
  go_wp2_with (refine wpList_store_row rfl 25 _ _ rfl _ _ rfl rfl _ _ hN0 hin1 hsz1 (nodeCells_one _ _) ?_; clear hN0; generalize (((w.alloc (.cells (cellsOf l) 27)).alloc (.cells (nodeCells 0 zeros32) 25)).alloc (.cells (nodeCells 0 zeros32) 25)).setRow (w.heap.size + 1 + 1) (nodeCells (lvOf l) zeros32) = W0 at hbox ⊢)
  clear c1 hset0 hsz1 hin1
  go_loopw [5] (fun i wr => ∃ k : Nat, k ≤ 32 ∧ i = .int .i64 k ∧ RefBox w l w.heap.size (w.heap.size + 1) (w.heap.size + 1 + 1) (psK true l k) wr) (fun i _ => 32 - (intOf i).toNat)
  case atStart => exact ⟨0, by omega, rfl, by rw [psK_zero]; exact hbox⟩
  case round =>
    obtain ⟨k, hk, rfl, hbk⟩ := hrel
    clear hbox
    by_cases hlt : k < 32
    · have hl256 := HLn.out
      obtain ⟨A, hA⟩ : ∃ A, A = 2 + 4 * k := ⟨_, rfl⟩
      have hA3 : A + 3 < l.length := by omega
      have hst := HS.out k hlt
      have hval : valK true l k = leNat (piece l A 4) := by rw [hA]; rfl
      rw [hval, HF.out A hA3] at hst
      clear hval
      obtain ⟨b0, e0⟩ : ∃ b, b = (l[A]'(by omega)) := ⟨_, rfl⟩
      obtain ⟨b1, e1⟩ : ∃ b, b = (l[A + 1]'(by omega)) := ⟨_, rfl⟩
      obtain ⟨b2, e2⟩ : ∃ b, b = (l[A + 2]'(by omega)) := ⟨_, rfl⟩
      obtain ⟨b3, e3⟩ : ∃ b, b = (l[A + 3]'(by omega)) := ⟨_, rfl⟩
      have c0 : wr.cell? ⟨w.heap.size, A, none⟩ = some (.int .u8 (b0.toNat : Int)) := by rw [e0]; exact hbk.blk.cell A (by omega)
      have c1 : wr.cell? ⟨w.heap.size, A + 1, none⟩ = some (.int .u8 (b1.toNat : Int)) := by rw [e1]; exact hbk.blk.cell (A + 1) (by omega)
      have c2 : wr.cell? ⟨w.heap.size, A + 2, none⟩ = some (.int .u8 (b2.toNat : Int)) := by rw [e2]; exact hbk.blk.cell (A + 2) (by omega)
      have c3 : wr.cell? ⟨w.heap.size, A + 3, none⟩ = some (.int .u8 (b3.toNat : Int)) := by rw [e3]; exact hbk.blk.cell (A + 3) (by omega)
      rw [← e0, ← e1, ← e2, ← e3] at hst
      clear e0 e1 e2 e3
      have u0 := b0.toNat_lt
      have u1 := b1.toNat_lt
      have u2 := b2.toNat_lt
      have u3 := b3.toNat_lt
      generalize b0.toNat = n0 at c0 hst u0
      generalize b1.toNat = n1 at c1 hst u1
      generalize b2.toNat = n2 at c2 hst u2
      generalize b3.toNat = n3 at c3 hst u3
      obtain ⟨x, hx⟩ : ∃ x, x = n0 + 256 * n1 + 65536 * n2 + 16777216 * n3 := ⟨_, rfl⟩
      rw [← hx] at hst
      have hpl := HPL.out k (by omega)
      have hbd := hbk.drew
      obtain ⟨v0, h0⟩ : ∃ v0, wr.drew.cell? ⟨w.heap.size + 1 + 1, 1 + k, none⟩ = some v0 := ⟨_, hbd.node.ptr k (by omega)⟩
      have hf := hbd.node.frozen (1 + k)
      have hn := hbd.setPtr k x
      rw [hst] at hn
      have m1 : (2 : Int) + 4 * (k : Int) = (A : Int) := by omega
      have hA0 : (0 : Int) ≤ (A : Int) := by omega
      have hA1 : (0 : Int) ≤ (A : Int) + 1 := by omega
      have hA2 : (0 : Int) ≤ (A : Int) + 2 := by omega
      have hA3 : (0 : Int) ≤ (A : Int) + 3 := by omega
      have hB0 : (A : Int) < 256 := by omega
      have hB1 : (A : Int) + 1 < 256 := by omega
      have hB2 : (A : Int) + 2 < 256 := by omega
      have hB3 : (A : Int) + 3 < 256 := by omega
      have hC1 : ((A : Int) + 1).toNat = A + 1 := by omega
      have hC2 : ((A : Int) + 2).toNat = A + 2 := by omega
      have hC3 : ((A : Int) + 3).toNat = A + 3 := by omega
      have hK1 : (k : Int) < 32 := by omega
      have zz0 : IntKind.u32.wrap (n0 : Int) = (n0 : Int) := IntWalk.u32_in _ (by omega)
      have zz1 : IntKind.u32.wrap (n1 : Int) = (n1 : Int) := IntWalk.u32_in _ (by omega)
      have zz2 : IntKind.u32.wrap (n2 : Int) = (n2 : Int) := IntWalk.u32_in _ (by omega)
      have zz3 : IntKind.u32.wrap (n3 : Int) = (n3 : Int) := IntWalk.u32_in _ (by omega)
      have y1 : IntKind.u32.wrap (256 * (n1 : Int)) = 256 * (n1 : Int) := IntWalk.u32_in _ (by omega)
      have y2 : IntKind.u32.wrap (65536 * (n2 : Int)) = 65536 * (n2 : Int) := IntWalk.u32_in _ (by omega)
      have y3 : IntKind.u32.wrap (16777216 * (n3 : Int)) = 16777216 * (n3 : Int) := IntWalk.u32_in _ (by omega)
      have s1 : IntKind.u32.wrap ((n0 : Int) + 256 * (n1 : Int)) = (n0 : Int) + 256 * (n1 : Int) := IntWalk.u32_in _ (by omega)
      have s2 : IntKind.u32.wrap ((n0 : Int) + 256 * (n1 : Int) + 65536 * (n2 : Int)) = (n0 : Int) + 256 * (n1 : Int) + 65536 * (n2 : Int) := IntWalk.u32_in _ (by omega)
      have s3 : IntKind.u32.wrap ((n0 : Int) + 256 * (n1 : Int) + 65536 * (n2 : Int) + 16777216 * (n3 : Int)) = (x : Int) := by rw [IntWalk.u32_in _ (by omega)]; omega
      have t1 : IntKind.i64.wrap ((A : Int) + 1) = (A : Int) + 1 := IntWalk.i64_in _ (by omega)
      have t2 : IntKind.i64.wrap ((A : Int) + 2) = (A : Int) + 2 := IntWalk.i64_in _ (by omega)
      have t3 : IntKind.i64.wrap ((A : Int) + 3) = (A : Int) + 3 := IntWalk.i64_in _ (by omega)
      clear hA hx hst
      go_wp2
      clear m1
      refine wp_region_still_tail 28 (by kernel_rfl) (by kernel_rfl) ?_
      simp only [List.take_succ_cons, List.take_zero, List.drop_succ_cons, List.drop_zero]
      repeat still_step
      refine wpStill_nil ?_
      change wpList _ _ _ _ _ wr.drew
      clear c0 c1 c2 c3 hbk hbd
      generalize wr.drew = W1 at h0 hf hn ⊢
      clear zz0 zz1 zz2 zz3 y1 y2 y3 s1 s2 s3 t1 t2 t3 hA0 hA1 hA2 hA3 hB0 hB1 hB2 hB3 hC1 hC2 hC3
      go_wp2
      go_roundw
      case rel => exact ⟨k + 1, by omega, by go_num, hn⟩
      case measure => simp [intOf]; omega
    · obtain rfl : k = 32 := by omega
      rw [psK_all] at hbk
      have hin := sizeNode (lvOf l) (psOf l) (psOf_length l)
      have hNn := hbk.node
      have hpl := putB_length (lvOf l) (psOf l) (psOf_length l)
      have hip := sizeBlock _ hpl
      have hzz : (cellsOf zeros).size = (cellsOf (putB (lvOf l) (psOf l))).size := by rw [cellsOf_size, cellsOf_size, hpl, zeros_length]
      have hzb := (zero_of_info infoBlock).1
      have hg := fun (W : World) (op : BinOp) (x y : Operand) (xs ys : Array Value) => run_eqGuard_agg (P := Try.prog) W op 27 x y xs ys noGuard
      have hput := fun W => refPut_any (lvOf l) (psOf l) (psOf_length l) W
      obtain ⟨B, hB⟩ : ∃ B, B = putB (lvOf l) (psOf l) := ⟨_, rfl⟩
      rw [← hB] at hpl hip hzz
      simp only [← hB] at hput
      cases ho : okN (lvOf l) (psOf l) with
      | false =>
        have hno : isN l = false := by unfold isN; rw [ho]; rfl
        have hans : getLv l = 0 ∧ getPs l = zeros32 ∧ getE l = 250 := by
          unfold getLv getPs getE
          rw [hno]
          exact ⟨rfl, rfl, rfl⟩
        have hpe : putE (lvOf l) (psOf l) = 2 := by unfold putE; rw [ho]; rfl
        rw [hpe] at hput
        have HPT := Lib.hid hput
        have HANS := Lib.hid hans
        clear hput hno hans hpe ho hB
        go_wp2_with (refine wpList_load_row rfl 25 _ rfl _ rfl _ _ _ _ hNn Try.underlying25 rfl hin ?_)
        refine (HPT.out _).mono ?_
        rintro e W3 ⟨rfl, hx⟩
        have hq := (hbk.blk.below hx hbk.blk.lt).alloc (.cells (cellsOf B) 27)
        have hr := (hbk.res.below hx hbk.res.lt).alloc (.cells (cellsOf B) 27)
        have hn := (hbk.node.below hx hbk.node.lt).alloc (.cells (cellsOf B) 27)
        have hb := (hbk.bel.trans (hx.mono hbk.bel.size)).alloc (hbk.bel.trans (hx.mono hbk.bel.size)).size (.cells (cellsOf B) 27)
        have hA : Holds (W3.alloc (.cells (cellsOf B) 27)) W3.heap.size B := Holds.new W3 B
        clear hx hbk hNn
        have tok : True := trivial
        go_wp2_with (first | (have _t := tok; refine wpList_store_new rfl 27 _ _ rfl (cellsOf B) _ _ rfl rfl hip hzz (cellsOf_one _) ?_; generalize W3.heap.size = q7 at hA ⊢; generalize W3.alloc (.cells (cellsOf B) 27) = W4 at hA hq hr hn hb ⊢; clear _t tok) | (refine wpList_store_row rfl 25 _ _ rfl _ _ rfl rfl _ _ hr hin0 rfl (nodeCells_one _ _) ?_))
        refine bodyPost_ret (results_row_tmp rfl _ _ _ _ _ _ _ rfl (setRow_heap W4 _ _ _ _ _ hr) Try.underlying25 rfl hin0) rfl ⟨?_, below_row hb (by omega)⟩
        rw [HANS.out.1, HANS.out.2.1, HANS.out.2.2]
        rfl
      | true =>
        have hpe : putE (lvOf l) (psOf l) = 0 := by unfold putE; rw [ho]; rfl
        have hBd : B = fdone (nodeTo (lvOf l) (psOf l) 32) 78 := by rw [hB]; unfold putB; rw [ho]; rfl
        rw [hpe] at hput
        have heq := fun W : World => run_eqBlock W B l hpl HLn.out
        have HPT := Lib.hid hput
        clear hput hpe hB
        by_cases hBl : B = l
        · have hyes : isN l = true := by unfold isN; rw [ho, ← hBd, hBl]; simp
          have hans : getLv l = lvOf l ∧ getPs l = psOf l ∧ getE l = 0 := by
            unfold getLv getPs getE
            rw [hyes]
            exact ⟨rfl, rfl, rfl⟩
          have HANS := Lib.hid hans
          rw [decide_eq_true hBl] at heq
          have hszn : (nodeCells 0 zeros32).size = (nodeCells (lvOf l) (psOf l)).size := by rw [nodeCells_size, nodeCells_size, psOf_length, zeros32_length]
          clear hyes hans ho hBd hBl
          go_wp2_with (refine wpList_load_row rfl 25 _ rfl _ rfl _ _ _ _ hNn Try.underlying25 rfl hin ?_)
          refine (HPT.out _).mono ?_
          rintro e W3 ⟨rfl, hx⟩
          have hq := (hbk.blk.below hx hbk.blk.lt).alloc (.cells (cellsOf B) 27)
          have hr := (hbk.res.below hx hbk.res.lt).alloc (.cells (cellsOf B) 27)
          have hn := (hbk.node.below hx hbk.node.lt).alloc (.cells (cellsOf B) 27)
          have hb := (hbk.bel.trans (hx.mono hbk.bel.size)).alloc (hbk.bel.trans (hx.mono hbk.bel.size)).size (.cells (cellsOf B) 27)
          have hA : Holds (W3.alloc (.cells (cellsOf B) 27)) W3.heap.size B := Holds.new W3 B
          clear hx hbk hNn
          have tok : True := trivial
          go_wp2_with (first | (have _t := tok; refine wpList_store_new rfl 27 _ _ rfl (cellsOf B) _ _ rfl rfl hip hzz (cellsOf_one _) ?_; generalize W3.heap.size = q7 at hA ⊢; generalize W3.alloc (.cells (cellsOf B) 27) = W4 at hA hq hr hn hb ⊢; clear _t tok) | (refine wpList_load_want (by rfl) 27 _ rfl q7 rfl _ _ _ _ hA Try.underlying27 rfl hip ?_) | (refine wpList_load_want (by rfl) 27 _ rfl w.heap.size rfl _ _ _ _ hq Try.underlying27 rfl hi ?_) | (refine wpList_load_row rfl 25 _ rfl _ rfl _ _ _ _ hn Try.underlying25 rfl hin ?_) | (refine wpList_store_row rfl 25 _ _ rfl _ _ rfl rfl _ _ hr hin hszn (nodeCells_one _ _) ?_))
          refine bodyPost_ret (results_row_tmp rfl _ _ _ _ _ _ _ rfl (setRow_heap W4 _ _ _ _ _ hr) Try.underlying25 rfl hin) rfl ⟨?_, below_row hb (by omega)⟩
          rw [HANS.out.1, HANS.out.2.1, HANS.out.2.2]
          rfl
        · have hno : isN l = false := by unfold isN; rw [ho, ← hBd, decide_eq_false hBl]; rfl
          have hans : getLv l = 0 ∧ getPs l = zeros32 ∧ getE l = 250 := by
            unfold getLv getPs getE
            rw [hno]
            exact ⟨rfl, rfl, rfl⟩
          have HANS := Lib.hid hans
          rw [decide_eq_false hBl] at heq
          clear hno hans ho hBd hBl
          go_wp2_with (refine wpList_load_row rfl 25 _ rfl _ rfl _ _ _ _ hNn Try.underlying25 rfl hin ?_)
          refine (HPT.out _).mono ?_
          rintro e W3 ⟨rfl, hx⟩
          have hq := (hbk.blk.below hx hbk.blk.lt).alloc (.cells (cellsOf B) 27)
          have hr := (hbk.res.below hx hbk.res.lt).alloc (.cells (cellsOf B) 27)
          have hn := (hbk.node.below hx hbk.node.lt).alloc (.cells (cellsOf B) 27)
          have hb := (hbk.bel.trans (hx.mono hbk.bel.size)).alloc (hbk.bel.trans (hx.mono hbk.bel.size)).size (.cells (cellsOf B) 27)
          have hA : Holds (W3.alloc (.cells (cellsOf B) 27)) W3.heap.size B := Holds.new W3 B
          clear hx hbk hNn
          have tok : True := trivial
          go_wp2_with (first | (have _t := tok; refine wpList_store_new rfl 27 _ _ rfl (cellsOf B) _ _ rfl rfl hip hzz (cellsOf_one _) ?_; generalize W3.heap.size = q7 at hA ⊢; generalize W3.alloc (.cells (cellsOf B) 27) = W4 at hA hq hr hn hb ⊢; clear _t tok) | (refine wpList_load_want (by rfl) 27 _ rfl q7 rfl _ _ _ _ hA Try.underlying27 rfl hip ?_) | (refine wpList_load_want (by rfl) 27 _ rfl w.heap.size rfl _ _ _ _ hq Try.underlying27 rfl hi ?_) | (refine wpList_store_row rfl 25 _ _ rfl _ _ rfl rfl _ _ hr hin0 rfl (nodeCells_one _ _) ?_))
          refine bodyPost_ret (results_row_tmp rfl _ _ _ _ _ _ _ rfl (setRow_heap W4 _ _ _ _ _ hr) Try.underlying25 rfl hin0) rfl ⟨?_, below_row hb (by omega)⟩
          rw [HANS.out.1, HANS.out.2.1, HANS.out.2.2]
          rfl

end Go.Proofs.Ytdhfpmnkffdjaaa.Node
