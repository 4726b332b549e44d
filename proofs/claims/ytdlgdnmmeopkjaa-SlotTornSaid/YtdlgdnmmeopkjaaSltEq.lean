/-
  Roots compared by '=='.
-/
import Derived.Test.YtdlgdnmmeopkjaaSltMay
import Derived.Test.YtdlgdnmmeopkjaaCrc3
import Derived.Test.YtdlgdnmmeopkjaaKit1
namespace Go.Proofs.Ytdlgdnmmeopkjaa.Slt
open Go.RowKit RowLaw Crc Fld
set_option maxRecDepth 100000

theorem noGuardR : Try.prog.eqGuardType Try.prog.depth 25 = false := by kernel_rfl
theorem fieldsR : Try.prog.underlying 25 = some (.struct (Try.prog.fieldsOf 25)) := by kernel_rfl
theorem fieldsAreR : ((Try.prog.fieldsOf 25).toList.map fun f => (decide (f.name ≠ "_"), f.type, f.offset)) = [(true, 22, 0), (true, 23, 1), (true, 23, 2), (true, 23, 3), (true, 23, 4), (true, 23, 5), (true, 23, 6), (true, 5, 7)] := by kernel_rfl
theorem stoodR : Try.prog.stoodInHeld 25 = false := by kernel_rfl
theorem part64 (w : World) (cs : Array Value) (i : Nat) (z : Int) (h : cs[i]? = some (.int .u64 z)) : (part 22 cs i).run Try.prog w = .ok (.int .u64 z) w := by
  simp [part, isAgg, run_underlying Try.underlying22, h]
theorem part8 (w : World) (cs : Array Value) (i : Nat) (z : Int) (h : cs[i]? = some (.int .u8 z)) : (part 5 cs i).run Try.prog w = .ok (.int .u8 z) w := by
  simp [part, isAgg, run_underlying Try.underlying5, h]
/-- are two roots the same? -/
def eqB (r s : Rt) : Bool := (((r.gen : Int) == (s.gen : Int)) && (((r.size : Int) == (s.size : Int)) && (((r.picks : Int) == (s.picks : Int)) && (((r.names : Int) == (s.names : Int)) && (((r.free : Int) == (s.free : Int)) && (((r.next : Int) == (s.next : Int)) && (((r.hint : Int) == (s.hint : Int)) && (((r.vols : Int) == (s.vols : Int)) && true))))))))
theorem eqB_iff {r s : Rt} : eqB r s = true ↔ r = s := by
  unfold eqB
  simp only [Bool.and_eq_true, beq_iff_eq, Bool.and_true]
  constructor
  · rintro ⟨h0, h1, h2, h3, h4, h5, h6, h7⟩
    cases r; cases s
    simp only at h0 h1 h2 h3 h4 h5 h6 h7
    simp only [Rt.mk.injEq]
    omega
  · rintro rfl
    simp
theorem run_eqRoot (w : World) (r s : Rt) : (Op.equalIn 10000 25 (.agg (cells r)) (.agg (cells s))).run Try.prog w = .ok (eqB r s) w := by
  rw [show (10000 : Nat) = 9998 + 1 + 1 from rfl, run_equalIn_struct w (9998 + 1) 25 _ _ fieldsR stoodR]
  have q := fun (T : TypeId) (k : IntKind) (h : Try.prog.underlying T = some (.int k)) (a b : Nat) => run_equalIn_int (P := Try.prog) w 9998 T k k (a : Int) (b : Int) h
  refine eqF_cons w (9998 + 1) _ _ _ 22 0 [(23, 1), (23, 2), (23, 3), (23, 4), (23, 5), (23, 6), (5, 7)] _ _ _ _ fieldsAreR (part64 w _ 0 _ rfl) (part64 w _ 0 _ rfl) (q 22 .u64 Try.underlying22 _ _) fun fs1 h1 => ?_
  refine eqF_cons w (9998 + 1) _ _ _ 23 1 [(23, 2), (23, 3), (23, 4), (23, 5), (23, 6), (5, 7)] _ _ _ _ h1 (part32 w _ 1 _ rfl) (part32 w _ 1 _ rfl) (q 23 .u32 Try.underlying23 _ _) fun fs2 h2 => ?_
  refine eqF_cons w (9998 + 1) _ _ _ 23 2 [(23, 3), (23, 4), (23, 5), (23, 6), (5, 7)] _ _ _ _ h2 (part32 w _ 2 _ rfl) (part32 w _ 2 _ rfl) (q 23 .u32 Try.underlying23 _ _) fun fs3 h3 => ?_
  refine eqF_cons w (9998 + 1) _ _ _ 23 3 [(23, 4), (23, 5), (23, 6), (5, 7)] _ _ _ _ h3 (part32 w _ 3 _ rfl) (part32 w _ 3 _ rfl) (q 23 .u32 Try.underlying23 _ _) fun fs4 h4 => ?_
  refine eqF_cons w (9998 + 1) _ _ _ 23 4 [(23, 5), (23, 6), (5, 7)] _ _ _ _ h4 (part32 w _ 4 _ rfl) (part32 w _ 4 _ rfl) (q 23 .u32 Try.underlying23 _ _) fun fs5 h5 => ?_
  refine eqF_cons w (9998 + 1) _ _ _ 23 5 [(23, 6), (5, 7)] _ _ _ _ h5 (part32 w _ 5 _ rfl) (part32 w _ 5 _ rfl) (q 23 .u32 Try.underlying23 _ _) fun fs6 h6 => ?_
  refine eqF_cons w (9998 + 1) _ _ _ 23 6 [(5, 7)] _ _ _ _ h6 (part32 w _ 6 _ rfl) (part32 w _ 6 _ rfl) (q 23 .u32 Try.underlying23 _ _) fun fs7 h7 => ?_
  exact eqF_cons w (9998 + 1) _ _ _ 5 7 [] _ _ _ _ h7 (part8 w _ 7 _ rfl) (part8 w _ 7 _ rfl) (q 5 .u8 Try.underlying5 _ _) fun fs8 h8 => eqF_nil w _ _ _ fs8 h8

end Go.Proofs.Ytdlgdnmmeopkjaa.Slt
