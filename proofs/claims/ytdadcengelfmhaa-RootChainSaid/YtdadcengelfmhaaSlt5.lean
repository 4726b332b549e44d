/-
  Slt5: SltEq, SltHead.
-/
import Derived.Test.YtdadcengelfmhaaSlt1
import Derived.Test.YtdadcengelfmhaaCrc3
import Derived.Test.YtdadcengelfmhaaKit1
import Derived.Test.YtdadcengelfmhaaSlt3
/-
  Roots compared by '=='.
-/
namespace Go.Proofs.Ytdadcengelfmhaa.Slt
open Go.RowKit RowLaw Crc Fld
set_option maxRecDepth 100000

theorem noGuardR : Try.prog.eqGuardType Try.prog.depth 25 = false := by kernel_rfl
theorem fieldsR : Try.prog.underlying 25 = some (.struct (Try.prog.fieldsOf 25)) := by kernel_rfl
theorem fieldsAreR : ((Try.prog.fieldsOf 25).toList.map fun f => (decide (f.name ≠ "_"), f.type, f.offset)) = [(true, 22, 0), (true, 23, 1), (true, 23, 2), (true, 23, 3), (true, 23, 4), (true, 23, 5), (true, 23, 6), (true, 5, 7)] := by kernel_rfl
theorem stoodR : Try.prog.stoodInHeld 25 = false := by kernel_rfl
theorem part64 (w : World) (cs : Array Value) (i : Nat) (z : Int) (h : cs[i]? = some (.int .u64 z)) : (part 22 cs i).run Try.prog w = .ok (.int .u64 z) w := by
  simp [part, isAgg, run_underlying Try.underlying22, h]
theorem part8 (w : World) (cs : Array Value) (i : Nat) (z : Int) (h : cs[i]? = some (.int .u8 z)) : (part 5 cs i).run Try.prog w = .ok (.int .u8 z) w := by
  simp [part, isAgg, run_underlying Try.underlying5, h]
/-- are two roots the same? -/
def eqB (r s : Rt) : Bool := (((r.gen : Int) == (s.gen : Int)) && (((r.size : Int) == (s.size : Int)) && (((r.picks : Int) == (s.picks : Int)) && (((r.names : Int) == (s.names : Int)) && (((r.free : Int) == (s.free : Int)) && (((r.next : Int) == (s.next : Int)) && (((r.hint : Int) == (s.hint : Int)) && (((r.vols : Int) == (s.vols : Int)) && true))))))))
theorem eqB_iff {r s : Rt} : eqB r s = true ↔ r = s := by
  unfold eqB
  simp only [Bool.and_eq_true, beq_iff_eq, Bool.and_true]
  constructor
  · rintro ⟨h0, h1, h2, h3, h4, h5, h6, h7⟩
    cases r; cases s
    simp only at h0 h1 h2 h3 h4 h5 h6 h7
    simp only [Rt.mk.injEq]
    omega
  · rintro rfl
    simp
theorem run_eqRoot (w : World) (r s : Rt) : (Op.equalIn 10000 25 (.agg (cells r)) (.agg (cells s))).run Try.prog w = .ok (eqB r s) w := by
  rw [show (10000 : Nat) = 9998 + 1 + 1 from rfl, run_equalIn_struct w (9998 + 1) 25 _ _ fieldsR stoodR]
  have q := fun (T : TypeId) (k : IntKind) (h : Try.prog.underlying T = some (.int k)) (a b : Nat) => run_equalIn_int (P := Try.prog) w 9998 T k k (a : Int) (b : Int) h
  refine eqF_cons w (9998 + 1) _ _ _ 22 0 [(23, 1), (23, 2), (23, 3), (23, 4), (23, 5), (23, 6), (5, 7)] _ _ _ _ fieldsAreR (part64 w _ 0 _ rfl) (part64 w _ 0 _ rfl) (q 22 .u64 Try.underlying22 _ _) fun fs1 h1 => ?_
  refine eqF_cons w (9998 + 1) _ _ _ 23 1 [(23, 2), (23, 3), (23, 4), (23, 5), (23, 6), (5, 7)] _ _ _ _ h1 (part32 w _ 1 _ rfl) (part32 w _ 1 _ rfl) (q 23 .u32 Try.underlying23 _ _) fun fs2 h2 => ?_
  refine eqF_cons w (9998 + 1) _ _ _ 23 2 [(23, 3), (23, 4), (23, 5), (23, 6), (5, 7)] _ _ _ _ h2 (part32 w _ 2 _ rfl) (part32 w _ 2 _ rfl) (q 23 .u32 Try.underlying23 _ _) fun fs3 h3 => ?_
  refine eqF_cons w (9998 + 1) _ _ _ 23 3 [(23, 4), (23, 5), (23, 6), (5, 7)] _ _ _ _ h3 (part32 w _ 3 _ rfl) (part32 w _ 3 _ rfl) (q 23 .u32 Try.underlying23 _ _) fun fs4 h4 => ?_
  refine eqF_cons w (9998 + 1) _ _ _ 23 4 [(23, 5), (23, 6), (5, 7)] _ _ _ _ h4 (part32 w _ 4 _ rfl) (part32 w _ 4 _ rfl) (q 23 .u32 Try.underlying23 _ _) fun fs5 h5 => ?_
  refine eqF_cons w (9998 + 1) _ _ _ 23 5 [(23, 6), (5, 7)] _ _ _ _ h5 (part32 w _ 5 _ rfl) (part32 w _ 5 _ rfl) (q 23 .u32 Try.underlying23 _ _) fun fs6 h6 => ?_
  refine eqF_cons w (9998 + 1) _ _ _ 23 6 [(5, 7)] _ _ _ _ h6 (part32 w _ 6 _ rfl) (part32 w _ 6 _ rfl) (q 23 .u32 Try.underlying23 _ _) fun fs7 h7 => ?_
  exact eqF_cons w (9998 + 1) _ _ _ 5 7 [] _ _ _ _ h7 (part8 w _ 7 _ rfl) (part8 w _ 7 _ rfl) (q 5 .u8 Try.underlying5 _ _) fun fs8 h8 => eqF_nil w _ _ _ fs8 h8

end Go.Proofs.Ytdadcengelfmhaa.Slt

/-
  The statements' known answers of roots, and the walk of their head.
-/
namespace Go.Proofs.Ytdadcengelfmhaa.Slt
open Go.RowKit RowLaw Crc Fld
set_option maxRecDepth 100000

def one0 : Rt := ⟨1, 64, 0, 0, 58, 1, 6, 0⟩
def three0 : Rt := { one0 with gen := 3 }
def none0 : Rt := { one0 with gen := 0 }
def vols0 : Rt := { one0 with vols := 1 }
def far0 : Rt := { one0 with names := 64 }
theorem one0_fits : one0.Fits := ⟨by decide, by decide, by decide, by decide, by decide, by decide, by decide, by decide⟩
theorem three0_fits : three0.Fits := ⟨by decide, by decide, by decide, by decide, by decide, by decide, by decide, by decide⟩
theorem one0_may : mayB one0 = true := by decide +kernel
theorem three0_may : mayB three0 = true := by decide +kernel
theorem none0_may : mayB none0 = false := by decide +kernel
theorem vols0_may : mayB vols0 = false := by decide +kernel
theorem far0_may : mayB far0 = false := by decide +kernel
def B1 : List UInt8 := rtB one0
def B3 : List UInt8 := rtB three0
def want0 : List UInt8 := [82, 1, 0, 0, 0, 0, 0, 0, 0, 64, 0, 0, 0, 0, 0, 0, 0, 0, 0, 0, 0, 58, 0, 0, 0, 1, 0, 0, 0, 6, 0, 0, 0, 0]
theorem B1_len : B1.length = 256 := rtB_length _
theorem B3_len : B3.length = 256 := rtB_length _
theorem B1_want : B1.take 34 = want0 := by decide +kernel
theorem torn1 : getE (tornB B1 B3 1) = 250 := by decide +kernel
theorem torn1R : getR (tornB B1 B3 1) = nil := by
  have h := torn1
  unfold getE at h
  unfold getR
  split at h
  · cases h
  · rename_i h2; exact if_neg h2
theorem torn15 : tornB B1 B3 15 = B3 := by
  apply List.ext_getElem?
  intro i
  by_cases hi : i < 256
  · have ht : Nat.testBit 15 (i / 64) = true := by
      rcases (by omega : i / 64 = 0 ∨ i / 64 = 1 ∨ i / 64 = 2 ∨ i / 64 = 3) with h | h | h | h <;> rw [h] <;> decide
    rw [tornB_get _ _ _ i hi, ht, if_pos rfl, getD_get (by rw [B3_len]; omega)]
  · rw [List.getElem?_eq_none (by rw [tornB_length]; omega), List.getElem?_eq_none (by rw [B3_len]; omega)]
theorem back3 : getR B3 = three0 ∧ getE B3 = 0 := back three0_may three0_fits

theorem conv_at (W : World) (b n : Nat) (B l : List UInt8) (hB : B.length = 256) (hn : n ≤ 256) (ht : B.take n = l) (h : Holds W b B) :
    (convert 100 9 (.slice (some ⟨b, 0, none⟩) n 256)).run Try.prog W = .ok (.string ⟨l.toArray⟩) W := by
  have hl : l.length = n := by rw [← ht, List.length_take]; omega
  have := run_convert_bytes_back (P := Try.prog) W 100 9 5 ⟨b, 0, none⟩ 256 l Try.underlying100 Try.underlying5 Try.underlying9 (fun j hj => by
    have hj2 : j < B.length := by omega
    rw [Addr.add_mid, Nat.zero_add, h.cell j hj2]
    subst ht
    simp)
  rw [hl] at this
  exact this

theorem ne_nil {q : Nat} : ∀ x ∈ ([] : List (Nat × Obj)), x.1 ≠ q := fun _ h => by cases h
theorem ne_cons {q p : Nat} {o : Obj} {K : List (Nat × Obj)} (h : p ≠ q) (hK : ∀ x ∈ K, x.1 ≠ q) : ∀ x ∈ (p, o) :: K, x.1 ≠ q := fun x hx => by
  rcases List.mem_cons.1 hx with rfl | hx
  · exact h
  · exact hK x hx
theorem rot6 {w W : World} {x a b c d e : Nat × Obj} (h : Kept w [x, a, b, c, d, e] W) : Kept w [a, b, c, d, e, x] W := h.less (by
  intro y hy
  simp only [List.mem_cons, List.not_mem_nil, or_false] at hy
  rcases hy with rfl | rfl | rfl | rfl | rfl | rfl <;> simp)
theorem Kept.pick {w W : World} {K K' : List (Nat × Obj)} {x : Nat × Obj} (h : Kept w K W) (hx : x ∈ K) (h' : Kept w K' W) : Kept w (x :: K') W := ⟨h.bel, fun y hy => by
  rcases List.mem_cons.1 hy with rfl | hy
  · exact h.has _ hx
  · exact h'.has y hy⟩
def hfact (B : Nat) : Nat → Value → World → Prop := fun _ v W => ∃ q, v = .pointer (some ⟨q, 0, none⟩) ∧ B ≤ q ∧ W.heap[q]? = some (rootO nil)
theorem hfact_stays (B i : Nat) (v : Value) (W W' : World) (h : hfact B i v W) (hb : Below W.heap.size W W') : hfact B i v W' := by
  obtain ⟨q, h1, h2, h3⟩ := h
  exact ⟨q, h1, h2, (hb.block q (Array.getElem?_eq_some_iff.1 h3).1).trans h3⟩
theorem hfact_lt (B i : Nat) (v : Value) (W : World) (b : Nat) (h : hfact B i v W) (hb : blkOf v = some b) : b < W.heap.size := by
  obtain ⟨q, rfl, h2, h3⟩ := h
  cases hb
  exact (Array.getElem?_eq_some_iff.1 h3).1
theorem Put_one (w : World) : Calls Try.prog 41 #[.agg (cells one0)] w fun e w' => e = .returned (.tuple #[.agg (cellsOf B1), .int .i64 0]) ∧ Below w.heap.size w w' := Put_yes one0 one0_may one0_fits w
theorem Put_three (w : World) : Calls Try.prog 41 #[.agg (cells three0)] w fun e w' => e = .returned (.tuple #[.agg (cellsOf B3), .int .i64 0]) ∧ Below w.heap.size w w' := Put_yes three0 three0_may three0_fits w
theorem Get_torn (w : World) : Calls Try.prog 46 #[.agg (cellsOf (tornB B1 B3 1))] w fun e w' => e = .returned (.tuple #[.agg (cells nil), .int .i64 250]) ∧ Below w.heap.size w w' := by
  have := Get_any (tornB B1 B3 1) (tornB_length _ _ _) w
  rw [torn1, torn1R] at this
  exact this
theorem Get_three (w : World) : Calls Try.prog 46 #[.agg (cellsOf B3)] w fun e w' => e = .returned (.tuple #[.agg (cells three0), .int .i64 0]) ∧ Below w.heap.size w w' := by
  have := Get_any B3 B3_len w
  rw [back3.1, back3.2] at this
  exact this
theorem build_one (W : World) : (Instr.build 25 #[(0, .int .u64 1), (1, .int .u32 64), (4, .int .u32 58), (5, .int .u32 1), (6, .int .u32 6)]).run Try.prog W = .ok (.agg (cells one0)) W := by
  go_simp
  rfl

end Go.Proofs.Ytdadcengelfmhaa.Slt

