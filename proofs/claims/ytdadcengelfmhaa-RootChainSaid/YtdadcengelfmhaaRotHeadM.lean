/-
  What the law's head (layer 8) asks, by value.
-/
import Derived.Test.YtdadcengelfmhaaRotD
import Derived.Test.YtdadcengelfmhaaSlt5
namespace Go.Proofs.Ytdadcengelfmhaa.Rot
open Go.RowKit RowLaw Crc
set_option maxRecDepth 100000
open Go.Proofs.Ytdadcengelfmhaa.Fld (blockO)
open Go.Proofs.Ytdadcengelfmhaa.Slt (Rt cells rootO rtB rtB_length infoR sizeR cells_one IsRt)
open Go.Proofs.Ytdadcengelfmhaa.Dev (Dev DS ptr Many Live newS putCells readB)

theorem L64 (W : World) : Calls Try.prog 12 #[.int .u32 64] W fun e w' => e = .returned (.tuple #[.agg (planCells 1 1 6), .int .i64 0]) ∧ Below W.heap.size W w' := Layout_yes (n := 64) (by decide) W
theorem L65 (W : World) : Calls Try.prog 12 #[.int .u32 65] W fun e w' => e = .returned (.tuple #[.agg (planCells 2 1 8), .int .i64 0]) ∧ Below W.heap.size W w' := Layout_yes (n := 65) (by decide) W
theorem LBig (W : World) : Calls Try.prog 12 #[.int .u32 1048576] W fun e w' => e = .returned (.tuple #[.agg (planCells 16384 16 32802), .int .i64 0]) ∧ Below W.heap.size W w' := Layout_yes (n := 1048576) (by decide) W
theorem L63 (W : World) : Calls Try.prog 12 #[.int .u32 63] W fun e w' => e = .returned (.tuple #[.agg (planCells 0 0 0), .int .i64 2]) ∧ Below W.heap.size W w' := Layout_no (n := 63) (by omega) (by decide) W
theorem fresh64_cells : cells (fresh 64) = #[.int .u64 1, .int .u32 64, .int .u32 0, .int .u32 0, .int .u32 58, .int .u32 1, .int .u32 6, .int .u8 0] := rfl
theorem two0_good : Good two0 64 := ⟨⟨by decide, by decide, by decide, by decide, by decide, by decide, by decide, by decide⟩, by decide +kernel⟩
theorem none0_fits : none0.Fits := ⟨by decide, by decide, by decide, by decide, by decide, by decide, by decide, by decide⟩
/-- what the head's calls answer -/
theorem head_math : ∃ k sC, formatF (newS 64) = (s64 k, (fresh 64, 0)) ∧ commitF (s64 k) [(9, seven0)] two0 = (sC, 0) ∧ mountS sC = some two0 ∧ readB sC 9 = seven0 ∧ sC.n = 64 ∧ sC.pend = [] ∧ commitF sC [] none0 = (sC, 2) ∧ commitF sC [(1, zeros)] two0 = (sC, 2) := by
  obtain ⟨k, hk⟩ := format64
  have ok : commitOk (s64 k).n [(9, seven0)] two0 = true := by
    show commitOk 64 [(9, seven0)] two0 = true
    unfold commitOk
    rw [two0_good.2]
    rfl
  obtain ⟨j, e⟩ := commit_calm (calm64 k) ok (by show 2 ≤ 64; omega)
  have hm := mount_commit (calm64 k) ok (by show 2 ≤ 64; omega) two0_good.1 (was := fresh 64) fresh64 (by decide) (by decide) (slot64 k)
  have hr := read_commit (calm64 k) ok (by show 2 ≤ 64; omega) 9 (by omega)
  rw [e] at hm hr
  refine ⟨k, _, hk, e, hm, ?_, rfl, rfl, commit_bad ?_, commit_bad ?_⟩
  · rw [hr]
    show Dev.upd (s64 k).g 9 seven0 9 = seven0
    unfold Dev.upd
    rw [if_pos rfl]
  · show commitOk 64 [] none0 = false
    decide +kernel
  · show commitOk 64 [(1, zeros)] two0 = false
    unfold commitOk
    rw [two0_good.2]
    rfl

theorem infoPut2 : (Try.prog.info? 40).map (fun i => (i.zero, i.size)) = some (some (.agg (putCells (0, zeros)).toArray), 257) := by kernel_rfl
theorem sizeP (x : Nat × List UInt8) (h : x.2.length = 256) : (Try.prog.info? 40).map (·.size) = some (putCells x).toArray.size := by
  rw [Dev.size_of_putCells h]; exact (zero_of_info infoPut2).2
theorem set_seven : (putCells (9, zeros)).toArray.setIfInBounds 1 (.int .u8 7) = (putCells (9, seven0)).toArray := by
  simp [putCells, seven0, cellsOf, zeros, List.replicate_succ]
/-- a put in a block of its own -/
def putO (x : Nat × List UInt8) : Obj := .cells (putCells x).toArray 40 (0, 0)
theorem puts_of_block {W : World} {b : Nat} {x : Nat × List UInt8} (h : W.heap[b]? = some (putO x)) (h1 : x.1 < 4294967296) (h2 : x.2.length = 256) : Puts W (some ⟨b, 0, none⟩) [x] := by
  refine ⟨fun y hy => ?_, .inr ⟨b, 0, rfl, (Array.getElem?_eq_some_iff.1 h).1, fun i hi j v hv => ?_⟩⟩
  · simp only [List.mem_singleton] at hy; subst hy; exact ⟨h1, h2⟩
  · have h0 : i = 0 := by simp at hi; omega
    subst h0
    simp only [Nat.zero_mul, Nat.zero_add]
    rw [cell_of_row W b j _ _ _ h]
    simpa using hv


/-- a guarded load out of the middle of a block, its guard decided -/
theorem wpList_load_mid_want {P : Program} {ops : Array Oper} {rest : List Oper} {o : Oper} {a : Act} {w : World} {Q : Exit → Act → World → Prop} (hw : Region.wanted o (yielded ops a.tmps) = true) (ty : TypeId) (x : Operand) (ho : o.op = .load ty x)
    (b off : Nat) (hx : a.eval x = .pointer (some ⟨b, off, none⟩)) (cs : List Value) (d : TypeDesc) (hc : w.rangeAt b off cs) (hu : P.underlying ty = some d) (hd : d.isRow = true) (hi : (P.info? ty).map (·.size) = some cs.length)
    (h : wpList P ops Q rest (a.put o.dst (.agg cs.toArray)) w) : wpList P ops Q (o :: rest) a w :=
  BigFrame.wpList_want hw fun _ hK => wp_load_mid ty x ho b off hx cs d hc hu hd hi (hK _ _ h)
theorem exec_buildP0 {o : Oper} {ac : Act} (x : Operand) (ho : o.op = .build 40 #[(0, x)]) (a : Nat) (hx : ac.eval x = .int .u32 (a : Int)) (w : World) :
    (execOp ac.eval o).run Try.prog w = .ok (.value (.agg (putCells (a, zeros)).toArray)) w := by
  unfold execOp
  simp only [ho, List.map_toArray, List.map_cons, List.map_nil, hx, Sem.run_bind, Sem.run_pure, run_buildP0 w a, Result.andThen_ok]
/-- the two commits that are refused, and the row of the second, in whatever order they come up -/
def HInv (w : World) (p : Nat) (s : DS) (K : List (Nat × Obj)) (f : Nat → Option Value) (W : World) : Prop :=
  (∀ v, f 2 = some v → v = .int .i64 2) ∧ (∀ v, f 7 = some v → v = .int .i64 2) ∧ ((f 5 = none ∧ Many w [(p, s)] K W) ∨ ∃ b, f 5 = some (.slice (some ⟨b, 0, none⟩) 1 1) ∧ Many w [(p, s)] ((b, putO (1, zeros)) :: K) W)
theorem HInv.start {w : World} {p : Nat} {s : DS} {K : List (Nat × Obj)} {W : World} (h : Many w [(p, s)] K W) : HInv w p s K (fun _ => none) W :=
  ⟨fun _ h => (by cases h), fun _ h => (by cases h), .inl ⟨rfl, h⟩⟩
theorem HInv.many {w : World} {p : Nat} {s : DS} {K : List (Nat × Obj)} {f : Nat → Option Value} {W : World} (h : HInv w p s K f W) : Many w [(p, s)] K W := by
  rcases h.2.2 with h | ⟨b, _, h⟩
  · exact h.2
  · exact h.less (fun x hx => List.mem_cons_of_mem _ hx)

end Go.Proofs.Ytdadcengelfmhaa.Rot
