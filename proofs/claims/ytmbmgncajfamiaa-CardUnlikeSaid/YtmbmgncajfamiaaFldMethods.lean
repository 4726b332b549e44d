/-
  The walks of New, Num, Text and Done.
-/
import Derived.Test.YtmbmgncajfamiaaFldWriter
import Derived.Deep.MidRow
namespace Go.Proofs.Ytmbmgncajfamiaa.Fld
open Go.RowKit RowLaw Crc
set_option maxRecDepth 100000

theorem infoWriter : (Try.prog.info? 88).map (fun i => (i.zero, i.size)) = some (some (.agg (objCells zeros 0)), 257) := by kernel_rfl
theorem objSet (k k' : Nat) : (objCells zeros k).setIfInBounds 256 (.int .i64 (k' : Int)) = objCells zeros k' := objCells_setAt zeros k k' zeros_length

set_option maxRecDepth 100000 in
set_option maxHeartbeats 400000 in
theorem New_any (w : World) :
    Calls Try.prog 19 #[] w fun e w' => e = .returned (.pointer (some ⟨w.heap.size, 0, none⟩)) ∧ WIs w' w.heap.size (some []) ∧ Below w.heap.size w w' := by
  have hzv := (zero_of_info infoWriter).1
  go_enter Try.func19, Try.ntmps19
  go_wp2
  go_ret
  have e : (objCells zeros 0).setIfInBounds 256 (.int .i64 1) = objCells zeros 1 := objSet 0 1
  rw [e]
  exact ⟨rfl, ⟨by simp, IsObj.new w _ zeros 1⟩, (Below.refl _ _).alloc (Nat.le_refl _) _⟩

set_option maxHeartbeats 400000 in
theorem Num_any (st : Option (List UInt8)) (p n : Nat) (width : Int) (w : World) (hw : WIs w p st) :
    Calls Try.prog 22 #[.pointer (some ⟨p, 0, none⟩), .int .u64 (n : Int), .int .i64 width] w fun e w' => e = .returned (.tuple #[]) ∧ WIs w' p (app st (numBytes n width)) ∧ Apart p w w' := by
  have hmf : ∀ (fn : Fn) (first cap : Array Value) (w : World), (Instr.makeFunc fn first cap).run Try.prog w = .ok (.func fn first cap) w := fun _ _ _ _ => rfl
  have hlt := hw.lt
  have h1 : WIs (w.alloc (.cells #[.int .u64 (n : Int)] 59)) p st := hw.of_block (Below.heap_alloc w _ p hlt)
  have hc : (w.alloc (.cells #[.int .u64 (n : Int)] 59)).cell? ⟨w.heap.size, 0, none⟩ = some (.int .u64 (n : Int)) := by go_simp
  go_enter Try.func22, Try.ntmps22
  go_wp2_with (first | (go_at_call 43; (with_reducible refine (numSize_any width _).mono ?_); rintro e W1 ⟨rfl, rfl⟩) | (go_at_call 40; (with_reducible refine (add_num st p n width ⟨w.heap.size, 0, none⟩ _ h1 hc (by simp; omega) (by simp)).mono ?_); rintro e W2 ⟨⟨b, rfl⟩, h2, ha⟩))
  go_end0
  exact ⟨rfl, h2, ((Apart.refl _ _).alloc _).trans ha⟩

set_option maxHeartbeats 400000 in
theorem Num_nil (n : Nat) (width : Int) (w : World) :
    Calls Try.prog 22 #[.pointer none, .int .u64 (n : Int), .int .i64 width] w fun e w' => e = .returned (.tuple #[]) ∧ Below w.heap.size w w' := by
  have hmf : ∀ (fn : Fn) (first cap : Array Value) (w : World), (Instr.makeFunc fn first cap).run Try.prog w = .ok (.func fn first cap) w := fun _ _ _ _ => rfl
  go_enter Try.func22, Try.ntmps22
  go_wp2_with (first | (go_at_call 43; (with_reducible refine (numSize_any width _).mono ?_); rintro e W1 ⟨rfl, rfl⟩) | (go_at_call 40; (with_reducible refine (add_nil _ _ _).mono ?_); rintro e W2 ⟨rfl, hb⟩))
  go_end0
  exact ⟨rfl, ((Below.refl _ _).alloc (Nat.le_refl _) _).trans (hb.mono (by simp))⟩

set_option maxHeartbeats 400000 in
theorem Text_any (st : Option (List UInt8)) (p : Nat) (s : ByteArray) (room : Int) (w : World) (hw : WIs w p st) :
    Calls Try.prog 20 #[.pointer (some ⟨p, 0, none⟩), .string s, .int .i64 room] w fun e w' => e = .returned (.tuple #[]) ∧ WIs w' p (app st (textBytes s room)) ∧ Apart p w w' := by
  have hmf : ∀ (fn : Fn) (first cap : Array Value) (w : World), (Instr.makeFunc fn first cap).run Try.prog w = .ok (.func fn first cap) w := fun _ _ _ _ => rfl
  have hlt := hw.lt
  have h1 : WIs ((w.alloc (.cells #[.string s] 9)).alloc (.cells #[.int .i64 room] 3)) p st := (hw.of_block (w' := w.alloc (.cells #[.string s] 9)) (Below.heap_alloc w _ p hlt)).of_block (Below.heap_alloc _ _ p (by simp; omega))
  have hc : ((w.alloc (.cells #[.string s] 9)).alloc (.cells #[.int .i64 room] 3)).cell? ⟨w.heap.size, 0, none⟩ = some (.string s) := by go_simp
  have hc2 : ((w.alloc (.cells #[.string s] 9)).alloc (.cells #[.int .i64 room] 3)).cell? ⟨w.heap.size + 1, 0, none⟩ = some (.int .i64 room) := by go_simp
  go_enter Try.func20, Try.ntmps20
  go_wp2_with (first | (go_at_call 41; (with_reducible refine (textSize_any room _).mono ?_); rintro e W1 ⟨rfl, rfl⟩) | (go_at_call 40; (with_reducible refine (add_text st p s room ⟨w.heap.size, 0, none⟩ ⟨w.heap.size + 1, 0, none⟩ _ h1 hc hc2 (by simp; omega) (by simp; omega) (by simp; omega) (by simp)).mono ?_); rintro e W2 ⟨⟨b, rfl⟩, h2, ha⟩))
  go_end0
  exact ⟨rfl, h2, (((Apart.refl _ _).alloc _).alloc _).trans ha⟩

set_option maxHeartbeats 400000 in
theorem Text_nil (s : ByteArray) (room : Int) (w : World) :
    Calls Try.prog 20 #[.pointer none, .string s, .int .i64 room] w fun e w' => e = .returned (.tuple #[]) ∧ Below w.heap.size w w' := by
  have hmf : ∀ (fn : Fn) (first cap : Array Value) (w : World), (Instr.makeFunc fn first cap).run Try.prog w = .ok (.func fn first cap) w := fun _ _ _ _ => rfl
  go_enter Try.func20, Try.ntmps20
  go_wp2_with (first | (go_at_call 41; (with_reducible refine (textSize_any room _).mono ?_); rintro e W1 ⟨rfl, rfl⟩) | (go_at_call 40; (with_reducible refine (add_nil _ _ _).mono ?_); rintro e W2 ⟨rfl, hb⟩))
  go_end0
  exact ⟨rfl, (((Below.refl _ _).alloc (Nat.le_refl _) _).alloc (by simp) _).trans (hb.mono (by simp; omega))⟩

theorem results_row_tmp {P : Program} {fn : Func} {p u : Tmp} {ty : TypeId} (h : fn.results = #[.cell p ty, .tmp u]) (tmps : Array Value) (w : World) (g : Nat) (t : TypeId) (cs : Array Value) (fr : Nat × Nat) (d : TypeDesc)
    (hp : tmps.getD p undef = .pointer (some ⟨g, 0, none⟩)) (hg : w.heap[g]? = some (.cells cs t fr))
    (hu : P.underlying ty = some d) (hd : (match d with | .struct _ | .array _ _ => true | _ => false) = true) (hi : (P.info? ty).map (·.size) = some cs.size) :
    (results fn tmps).run P w = .ok (.tuple #[.agg cs, tmps.getD u undef]) w := by
  rw [results_cell_tmp h, hp]
  simp only [asAddr, Sem.run_pure, Result.andThen_ok, run_loadVar_row w g t ty cs fr d hg hu hd hi]

theorem sizeBlock (l : List UInt8) (hl : l.length = 256) : (Try.prog.info? 29).map (·.size) = some (cellsOf l).size := by rw [cellsOf_size, hl]; exact (zero_of_info infoBlock).2

set_option maxRecDepth 100000 in
set_option maxHeartbeats 400000 in
theorem Done_nil (m : Int) (w : World) :
    Calls Try.prog 24 #[.pointer none, .int .u8 m] w fun e w' => e = .returned (.tuple #[.agg (cellsOf zeros), .int .i64 3]) ∧ Below w.heap.size w w' := by
  have hzv := (zero_of_info infoBlock).1
  have hi := sizeBlock zeros zeros_length
  have hA := Holds.new w zeros
  have hb : Below w.heap.size w (w.alloc (.cells (cellsOf zeros) 29)) := (Below.refl _ _).alloc (Nat.le_refl _) _
  go_enter Try.func24, Try.ntmps24
  go_wp2_with (refine wpList_store_new rfl 29 _ _ rfl _ _ _ rfl rfl hi rfl (cellsOf_one _) ?_; generalize w.alloc (.cells (cellsOf zeros) 29) = W at hA hb ⊢)
  exact bodyPost_ret (results_row_tmp rfl _ _ _ _ _ _ _ rfl hA Try.underlying29 rfl hi) rfl ⟨rfl, hb⟩

set_option maxRecDepth 100000 in
set_option maxHeartbeats 400000 in
theorem Done_none (p : Nat) (m : Int) (w : World) (hw : WIs w p none) :
    Calls Try.prog 24 #[.pointer (some ⟨p, 0, none⟩), .int .u8 m] w fun e w' => e = .returned (.tuple #[.agg (cellsOf zeros), .int .i64 3]) ∧ Below w.heap.size w w' := by
  obtain ⟨l, hl, ho⟩ := hw
  have hzv := (zero_of_info infoBlock).1
  have hi := sizeBlock zeros zeros_length
  have hA := Holds.new w zeros
  have hb : Below w.heap.size w (w.alloc (.cells (cellsOf zeros) 29)) := (Below.refl _ _).alloc (Nat.le_refl _) _
  have hc := (ho.alloc (.cells (cellsOf zeros) 29)).pos hl
  have HL := Lib.hid hl; clear hl
  go_enter Try.func24, Try.ntmps24
  go_wp2_with (refine wpList_store_new rfl 29 _ _ rfl _ _ _ rfl rfl hi rfl (cellsOf_one _) ?_; generalize w.alloc (.cells (cellsOf zeros) 29) = W at hA hb hc ⊢)
  exact bodyPost_ret (results_row_tmp rfl _ _ _ _ _ _ _ rfl hA Try.underlying29 rfl hi) rfl ⟨rfl, hb⟩

/-- the block that an object holds, by value -/
theorem wpList_load_obj {T : TypeId} {p k : Nat} {l : List UInt8} {ops : Array Oper} {rest : List Oper} {op : Oper} {a : Act} {w : World} {Q : Exit → Act → World → Prop} (hgd : op.guard = none) (x : Operand) (ho : op.op = .load 29 x)
    (hx : a.eval x = .pointer (some ⟨p, 0, none⟩)) (hw : IsObj T w p l k) (hl : l.length = 256)
    (h : wpList Try.prog ops Q rest (a.put op.dst (.agg (cellsOf l))) w) : wpList Try.prog ops Q (op :: rest) a w := by
  refine wpList_load_mid hgd 29 x ho p 0 hx (vals l) _ (fun j v hv => ?_) Try.underlying29 rfl (by rw [sizeBlock l hl]; simp [vals, cellsOf]) h
  have hj : j < l.length := by
    have := (List.getElem?_eq_some_iff.1 hv).1
    simpa [vals] using this
  rw [Nat.zero_add, hw.byte j hj]
  simpa [vals, hj] using hv

/-- the block of fields -/
def fdone (f : List UInt8) (m : UInt8) : List UInt8 := sealB ((fblk f).set 0 m)

set_option maxRecDepth 100000 in
set_option maxHeartbeats 800000 in
theorem Done_some (p : Nat) (f : List UInt8) (m : UInt8) (w : World) (hw : WIs w p (some f)) :
    Calls Try.prog 24 #[.pointer (some ⟨p, 0, none⟩), .int .u8 (m.toNat : Int)] w fun e w' => e = .returned (.tuple #[.agg (cellsOf (fdone f m)), .int .i64 0]) ∧ Below w.heap.size w w' := by
  obtain ⟨hf, ho⟩ := hw
  have hlen := fblk_length f (by omega)
  have hk0 : ((((1 + f.length : Nat) : Int)) == 0) = false := by simp; omega
  have hzv := (zero_of_info infoBlock).1
  obtain ⟨l, hl⟩ : ∃ l, l = fblk f := ⟨_, rfl⟩
  obtain ⟨k, hk⟩ : ∃ k, k = 1 + f.length := ⟨_, rfl⟩
  unfold fdone
  rw [← hl] at ho hlen ⊢
  rw [← hk] at ho hk0
  clear hf hl hk
  have hsl : (l.set 0 m).length = 256 := by rw [List.length_set, hlen]
  have hi := sizeBlock l hlen
  have hi2 := sizeBlock _ hsl
  have hi3 := sizeBlock _ (sealB_length hsl)
  have hzz : (cellsOf zeros).size = (cellsOf (sealB (l.set 0 m))).size := by rw [cellsOf_size, cellsOf_size, sealB_length hsl, zeros_length]
  have hz0 : (cellsOf zeros).size = (cellsOf l).size := by rw [cellsOf_size, cellsOf_size, hlen, zeros_length]
  have ho1 := ho.alloc (.cells (cellsOf zeros) 29)
  have hc := ho1.pos hlen
  have hZ : Holds ((w.alloc (.cells (cellsOf zeros) 29)).alloc (.cells (cellsOf zeros) 29)) (w.heap.size + 1) zeros := heap_alloc2_new w _ _
  have hA : Holds (((w.alloc (.cells (cellsOf zeros) 29)).alloc (.cells (cellsOf zeros) 29)).setRow (w.heap.size + 1) (cellsOf l)) w.heap.size zeros := (setRow_other _ _ _ _ (by omega)).trans ((Holds.new w zeros).alloc _)
  have hB : Holds (((w.alloc (.cells (cellsOf zeros) 29)).alloc (.cells (cellsOf zeros) 29)).setRow (w.heap.size + 1) (cellsOf l)) (w.heap.size + 1) l := setRow_heap _ _ _ _ _ _ hZ
  have hb : Below w.heap.size w (((w.alloc (.cells (cellsOf zeros) 29)).alloc (.cells (cellsOf zeros) 29)).setRow (w.heap.size + 1) (cellsOf l)) := (((Below.refl _ _).alloc (Nat.le_refl _) _).alloc (by simp) _).trans ⟨rfl, rfl, rfl, by simp, fun k hk => setRow_other _ _ _ _ (by omega)⟩
  have HL := Lib.hid hlen; clear hlen
  have HS := Lib.hid hsl; clear hsl
  go_enter Try.func24, Try.ntmps24
  go_wp2_with (first
    | (with_reducible refine wpList_load_obj rfl _ rfl rfl ho1 HL.out ?_)
    | (refine wpList_store_row rfl 29 _ _ rfl _ _ rfl rfl _ _ hZ hi hz0 (cellsOf_one _) ?_; clear hZ; generalize ((w.alloc (.cells (cellsOf zeros) 29)).alloc (.cells (cellsOf zeros) 29)).setRow (w.heap.size + 1) (cellsOf l) = W at hA hB hb ⊢; have cB := hB.cell 0 (by rw [HL.out]; omega); have fB := hB.frozen 0; have hB2 := hB.set_ 0 m; have hA2 := hA.other ⟨w.heap.size + 1, 0, none⟩ (.int .u8 (m.toNat : Int)) (by simp); have hb2 := hb.setCell (p := ⟨w.heap.size + 1, 0, none⟩) (by simp) (.int .u8 (m.toNat : Int)))
    | (refine wpList_load_row rfl 29 _ rfl _ rfl _ _ _ _ hB2 Try.underlying29 rfl hi2 ?_; generalize W.setCell ⟨w.heap.size + 1, 0, none⟩ (.int .u8 (m.toNat : Int)) = W2 at hA2 hB2 hb2 ⊢)
    | (go_at_call 46; (with_reducible refine (Seal_any _ HS.out _).mono ?_); rintro e W3 ⟨rfl, hb3⟩; replace hA2 := hA2.below hb3 hA2.lt; replace hb2 := hb2.trans (hb3.mono hb2.size); clear hb3)
    | (refine wpList_store_row rfl 29 _ _ rfl _ _ rfl rfl _ _ hA2 hi3 hzz (cellsOf_one _) ?_))
  refine bodyPost_ret (results_row_tmp rfl _ _ _ _ _ _ _ rfl (setRow_heap W3 _ _ _ _ _ hA2) Try.underlying29 rfl hi3) rfl ⟨rfl, ?_⟩
  exact Below.trans hb2 ⟨rfl, rfl, rfl, by simp, fun k hk => setRow_other W3 _ _ _ (by omega)⟩

end Go.Proofs.Ytmbmgncajfamiaa.Fld
