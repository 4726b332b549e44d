/-
  The walk of the field laws' own head: the blocks that the document fixes.
-/
import Derived.Test.YtmbmgncajfamiaaFldOpen
import Derived.Deep.RegionHeld
namespace Go.Proofs.Ytmbmgncajfamiaa.Fld
open Go.RowKit RowLaw Crc
set_option maxRecDepth 100000

/-- A load of a whole array yields in every world that holds it. -/
theorem yieldsIf_load_row {P : Program} {ops : Array Oper} {S : World → Prop} {op : Oper} {a : Act} (hw : Region.wanted op (yielded ops a.tmps) = true) (ty : TypeId) (x : Operand) (ho : op.op = .load ty x)
    (g : Nat) (hx : a.eval x = .pointer (some ⟨g, 0, none⟩)) (t : TypeId) (cs : Array Value) (fr : Nat × Nat) (d : TypeDesc) (hS : ∀ w, S w → w.heap[g]? = some (.cells cs t fr))
    (hu : P.underlying ty = some d) (hd : (match d with | .struct _ | .array _ _ => true | _ => false) = true) (hi : (P.info? ty).map (·.size) = some cs.size) : YieldsIf P ops S op (.agg cs) a :=
  .inl ⟨hw, fun w hw' => by
    unfold execOp
    simp only [ho, hx, Instr.loadAt, Instr.sureAddr, Sem.run_bind, Sem.run_pure, Result.andThen_ok, run_loadVar_row w g t ty cs fr d (hS w hw') hu hd hi]⟩

def hB : List UInt8 := fdone [44, 1, 5] 7
theorem hB_len : hB.length = 256 := sealB_length (by rw [List.length_set, fblk_length _ (by decide)])
theorem hB_open7 : openSt hB 7 = some (hB, 1) := by decide +kernel
theorem hB_open8 : openSt hB 8 = none := by decide +kernel
theorem hB_num2 : takeNum (some (hB, 1)) 2 = (300, some (hB, 3)) := by decide +kernel
theorem hB_num1 : takeNum (some (hB, 3)) 1 = (5, some (hB, 4)) := by decide +kernel
theorem hB_num3 : takeNum (some (hB, 1)) 3 = (0, none) := by decide +kernel
theorem hB_end4 : endE (some (hB, 4)) = 0 := by decide +kernel
theorem hB_end3 : endE (some (hB, 3)) = 250 := by decide +kernel
theorem hB_at0 : hB.getD 0 0 = 7 ∧ hB.getD 1 0 = 44 ∧ hB.getD 2 0 = 1 ∧ hB.getD 3 0 = 5 := by decide +kernel

theorem hB_cells (w : World) (b : Nat) (h : Holds w b hB) : w.cell? ⟨b, 0, none⟩ = some (.int .u8 7) ∧ w.cell? ⟨b, 1, none⟩ = some (.int .u8 44) ∧ w.cell? ⟨b, 2, none⟩ = some (.int .u8 1) ∧ w.cell? ⟨b, 3, none⟩ = some (.int .u8 5) := by
  have hl := hB_len
  have g : ∀ j (hj : j < hB.length), hB[j] = hB.getD j 0 := fun j hj => by rw [List.getD_eq_getElem?_getD, List.getElem?_eq_getElem hj]; rfl
  obtain ⟨e0, e1, e2, e3⟩ := hB_at0
  refine ⟨?_, ?_, ?_, ?_⟩
  · rw [h.cell 0 (by omega), g, e0]; rfl
  · rw [h.cell 1 (by omega), g, e1]; rfl
  · rw [h.cell 2 (by omega), g, e2]; rfl
  · rw [h.cell 3 (by omega), g, e3]; rfl
theorem W_300 (p : Nat) (w : World) (hw : WIs w p (some [])) : Calls Try.prog 22 #[.pointer (some ⟨p, 0, none⟩), .int .u64 300, .int .i64 2] w fun e w' => e = .returned (.tuple #[]) ∧ WIs w' p (some [44, 1]) ∧ Apart p w w' :=
  (show app (some []) (numBytes 300 2) = some [44, 1] from by decide) ▸ Num_any (some []) p 300 2 w hw
theorem W_5 (p : Nat) (w : World) (hw : WIs w p (some [44, 1])) : Calls Try.prog 22 #[.pointer (some ⟨p, 0, none⟩), .int .u64 5, .int .i64 1] w fun e w' => e = .returned (.tuple #[]) ∧ WIs w' p (some [44, 1, 5]) ∧ Apart p w w' :=
  (show app (some [44, 1]) (numBytes 5 1) = some [44, 1, 5] from by decide) ▸ Num_any (some [44, 1]) p 5 1 w hw
theorem W_abc (p : Nat) (w : World) (hw : WIs w p (some [44, 1, 5])) : Calls Try.prog 20 #[.pointer (some ⟨p, 0, none⟩), .string ⟨#[97, 98, 99]⟩, .int .i64 2] w fun e w' => e = .returned (.tuple #[]) ∧ WIs w' p none ∧ Apart p w w' :=
  (show app (some [44, 1, 5]) (textBytes ⟨#[97, 98, 99]⟩ 2) = none from by decide) ▸ Text_any (some [44, 1, 5]) p ⟨#[97, 98, 99]⟩ 2 w hw
theorem W_done (p : Nat) (w : World) (hw : WIs w p (some [44, 1, 5])) : Calls Try.prog 24 #[.pointer (some ⟨p, 0, none⟩), .int .u8 7] w fun e w' => e = .returned (.tuple #[.agg (cellsOf hB), .int .i64 0]) ∧ Below w.heap.size w w' :=
  Done_some p [44, 1, 5] 7 w hw
theorem W_fail (p : Nat) (w : World) (hw : WIs w p none) : Calls Try.prog 24 #[.pointer (some ⟨p, 0, none⟩), .int .u8 7] w fun e w' => e = .returned (.tuple #[.agg (cellsOf zeros), .int .i64 3]) ∧ Below w.heap.size w w' :=
  Done_none p 7 w hw
theorem R_open7 (w : World) : Calls Try.prog 30 #[.agg (cellsOf hB), .int .u8 7] w fun e w' => NewReader w (some (hB, 1)) e w' := hB_open7 ▸ Open_any hB hB_len 7 w
theorem R_open8 (w : World) : Calls Try.prog 30 #[.agg (cellsOf hB), .int .u8 8] w fun e w' => NewReader w none e w' := hB_open8 ▸ Open_any hB hB_len 8 w
theorem R_2 (p : Nat) (w : World) (hw : RIs w p (some (hB, 1))) : Calls Try.prog 57 #[.pointer (some ⟨p, 0, none⟩), .int .i64 2] w fun e w' => e = .returned (.int .u64 300) ∧ RIs w' p (some (hB, 3)) ∧ Apart p w w' := by
  have := RNum_any (some (hB, 1)) p 2 w hw
  rw [hB_num2] at this
  exact this
theorem R_1 (p : Nat) (w : World) (hw : RIs w p (some (hB, 3))) : Calls Try.prog 57 #[.pointer (some ⟨p, 0, none⟩), .int .i64 1] w fun e w' => e = .returned (.int .u64 5) ∧ RIs w' p (some (hB, 4)) ∧ Apart p w w' := by
  have := RNum_any (some (hB, 3)) p 1 w hw
  rw [hB_num1] at this
  exact this
theorem R_3 (p : Nat) (w : World) (hw : RIs w p (some (hB, 1))) : Calls Try.prog 57 #[.pointer (some ⟨p, 0, none⟩), .int .i64 3] w fun e w' => e = .returned (.int .u64 0) ∧ RIs w' p none ∧ Apart p w w' := by
  have := RNum_any (some (hB, 1)) p 3 w hw
  rw [hB_num3] at this
  exact this
theorem R_end4 (p : Nat) (w : World) (hw : RIs w p (some (hB, 4))) : Calls Try.prog 34 #[.pointer (some ⟨p, 0, none⟩)] w fun e w' => e = .returned (.int .i64 0) ∧ Below w.heap.size w w' := hB_end4 ▸ End_any (some (hB, 4)) p w hw
theorem R_end3 (p : Nat) (w : World) (hw : RIs w p (some (hB, 3))) : Calls Try.prog 34 #[.pointer (some ⟨p, 0, none⟩)] w fun e w' => e = .returned (.int .i64 250) ∧ Below w.heap.size w w' := hB_end3 ▸ End_any (some (hB, 3)) p w hw
theorem R_none (p : Nat) (w : World) (hw : RIs w p none) : Calls Try.prog 58 #[.pointer (some ⟨p, 0, none⟩)] w fun e w' => e = .returned (.bool false) ∧ w = w' := Fine_any none p w hw

end Go.Proofs.Ytmbmgncajfamiaa.Fld
