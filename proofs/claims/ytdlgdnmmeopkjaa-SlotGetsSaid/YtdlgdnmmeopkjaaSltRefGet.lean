/-
  The walks of the reference's num and Get of roots.
-/
import Derived.Test.YtdlgdnmmeopkjaaSltRefPut
import Derived.Test.YtdlgdnmmeopkjaaMoves
import Derived.Test.YtdlgdnmmeopkjaaCrc3
namespace Go.Proofs.Ytdlgdnmmeopkjaa.Slt
open Go.RowKit RowLaw Crc Fld
set_option maxRecDepth 100000

theorem numAt_zero (l : List UInt8) (k : Nat) : numAt l k 0 = 0 := by simp [numAt, piece, leNat]
theorem numAt_step (l : List UInt8) (k m : Nat) (h : k < l.length) : numAt l k (m + 1) = l[k].toNat + 256 * numAt l (k + 1) m := by
  unfold numAt piece
  rw [List.drop_eq_getElem_cons h, List.take_succ_cons]
  rfl
theorem numAt_lt2 (l : List UInt8) (k w : Nat) : numAt l k w < 256 ^ w := by
  refine Nat.lt_of_lt_of_le (leNat_lt _) (Nat.pow_le_pow_right (by omega) ?_)
  unfold piece
  rw [List.length_take]
  exact Nat.min_le_left _ _

set_option maxHeartbeats 1600000 in
theorem refNumAt_any (l : List UInt8) (hl : l.length = 256) (at_ wd : Nat) (hw : wd ≤ 8) (h : at_ + wd ≤ 256) (w : World) :
    Calls Try.prog 28 #[.agg (cellsOf l), .int .i64 (at_ : Int), .int .i64 (wd : Int)] w fun e w' => e = .returned (.int .u64 (numAt l at_ wd : Int)) ∧ Below w.heap.size w w' := by
  have hA := Holds.new w l
  have hb : Below w.heap.size w (w.alloc (.cells (cellsOf l) 27)) := (Below.refl _ _).alloc (Nat.le_refl _) _
  have HL := Lib.hid hl; clear hl
  have HZ := Lib.hid (numAt_zero l)
  go_enter Try.func28, Try.ntmps28
  go_upto_region 3 with fail
  generalize w.alloc (.cells (cellsOf l) 27) = W at hA hb ⊢
  go_loopw [7, 8] (fun n i wr => ∃ j : Nat, j ≤ wd ∧ i = .int .i64 ((j : Int) - 1) ∧ n = .int .u64 ((numAt l (at_ + j) (wd - j) : Nat) : Int) ∧ W = wr) (fun _ i _ => (intOf i + 1).toNat)
  case atStart => exact ⟨wd, Nat.le_refl _, rfl, by rw [Nat.sub_self, HZ.out]; rfl, rfl⟩
  case round =>
    obtain ⟨j, hj, rfl, rfl, rfl⟩ := hrel
    by_cases h0 : j = 0
    · subst h0
      rw [show (((0 : Nat) : Int)) - 1 = -1 from rfl, Nat.add_zero, Nat.sub_zero]
      go_wp2
      go_ret
      exact ⟨rfl, hb⟩
    · obtain ⟨k, rfl⟩ : ∃ k, j = k + 1 := ⟨j - 1, by omega⟩
      rw [show (((k + 1 : Nat) : Int)) - 1 = (k : Int) from by omega]
      have hkl : at_ + k < l.length := by rw [HL.out]; omega
      have c1 := hA.cell (at_ + k) hkl
      have hst := numAt_step l (at_ + k) (wd - (k + 1)) hkl
      rw [show wd - (k + 1) + 1 = wd - k from by omega, show at_ + k + 1 = at_ + (k + 1) from by omega] at hst
      have hlt : numAt l (at_ + (k + 1)) (wd - (k + 1)) < 256 ^ 7 := Nat.lt_of_lt_of_le (numAt_lt2 _ _ _) (Nat.pow_le_pow_right (by omega) (by omega))
      rw [show (256 : Nat) ^ 7 = 72057594037927936 from by decide] at hlt
      have hz := l[at_ + k].toNat_lt
      generalize l[at_ + k].toNat = z at c1 hst hz
      have HST := Lib.hid hst; clear hst
      generalize numAt l (at_ + (k + 1)) (wd - (k + 1)) = n at hlt HST ⊢
      have z0 : IntKind.u64.wrap (256 * (n : Int)) = 256 * (n : Int) := IntWalk.u64_in _ (by omega)
      have z1 : IntKind.u64.wrap (z : Int) = (z : Int) := IntWalk.u64_in _ (by omega)
      have z2 : IntKind.u64.wrap (256 * (n : Int) + (z : Int)) = 256 * (n : Int) + (z : Int) := IntWalk.u64_in _ (by omega)
      have z3 : IntKind.i64.wrap ((at_ : Int) + (k : Int)) = (at_ : Int) + (k : Int) := IntWalk.i64_in _ (by omega)
      have z4 : ((at_ : Int) + (k : Int)).toNat = at_ + k := by omega
      have z5 : IntKind.i64.wrap ((k : Int) - 1) = (k : Int) - 1 := IntWalk.i64_in _ (by omega)
      go_wp2
      go_roundw
      case rel => exact ⟨k, by omega, rfl, by rw [HST.out]; congr 1; omega, trivial⟩
      case measure => simp [intOf]

theorem wp_yields {P : Program} {Q : Exit → Act → World → Prop} {K : Act → World → Prop} {a : Act} {W : World} (o : Oper) (v : Value) (h : (execOp a.eval o).run P W = .ok (.value v) W) (hk : K (a.put o.dst v) W) : o.wp P a W K Q := by
  unfold Oper.wp
  rw [h]
  exact hk
theorem run_conv32 (W : World) (a : Act) (t : Nat) (x : Nat) (hx : x < 4294967296) (hv : a.eval (.tmp t) = .int .u64 (x : Int)) (o : Oper) (ho : o.op = .convert 22 23 (.tmp t)) : (execOp a.eval o).run Try.prog W = .ok (.value (.int .u32 (x : Int))) W := by
  have z : IntKind.u32.wrap (x : Int) = (x : Int) := IntWalk.u32_in _ (by omega)
  unfold execOp
  simp only [ho, hv]
  go_simp
theorem wp_build_row {P : Program} {Q : Exit → Act → World → Prop} {K : Act → World → Prop} {a : Act} {W : World} (o : Oper) (t : TypeId) (xs : Array (Nat × Operand)) (ho : o.op = .build t xs)
    (ps : Array (Nat × Value)) (hx : (xs.map fun x => (x.1, a.eval x.2)) = ps) (v : Value) (hr : (Instr.build t ps).run P W = .ok v W) (h : K (a.put o.dst v) W) : o.wp P a W K Q := by
  unfold Oper.wp execOp
  simp only [ho, hx, Sem.run_bind, hr, Result.andThen_ok]
  exact h
theorem run_buildR (W : World) (l : List UInt8) : (Instr.build 25 #[(0, .int .u64 (numAt l 1 8 : Int)), (1, .int .u32 (numAt l 9 4 : Int)), (2, .int .u32 (numAt l 13 4 : Int)), (3, .int .u32 (numAt l 17 4 : Int)), (4, .int .u32 (numAt l 21 4 : Int)), (5, .int .u32 (numAt l 25 4 : Int)), (6, .int .u32 (numAt l 29 4 : Int)), (7, .int .u8 (numAt l 33 1 : Int))]).run Try.prog W = .ok (.agg (cells (rawR l))) W := by
  go_simp
  rfl
/-- what the operations of the reference's reading yield -/
def rfact (l : List UInt8) (B : Nat) : Nat → Value → World → Prop
  | 1, v, _ => v = .int .u64 (numAt l 1 8 : Int)
  | 3, v, _ => v = .int .u64 (numAt l 9 4 : Int)
  | 4, v, _ => v = .int .u32 (numAt l 9 4 : Int)
  | 6, v, _ => v = .int .u64 (numAt l 13 4 : Int)
  | 7, v, _ => v = .int .u32 (numAt l 13 4 : Int)
  | 9, v, _ => v = .int .u64 (numAt l 17 4 : Int)
  | 10, v, _ => v = .int .u32 (numAt l 17 4 : Int)
  | 12, v, _ => v = .int .u64 (numAt l 21 4 : Int)
  | 13, v, _ => v = .int .u32 (numAt l 21 4 : Int)
  | 15, v, _ => v = .int .u64 (numAt l 25 4 : Int)
  | 16, v, _ => v = .int .u32 (numAt l 25 4 : Int)
  | 18, v, _ => v = .int .u64 (numAt l 29 4 : Int)
  | 19, v, _ => v = .int .u32 (numAt l 29 4 : Int)
  | 22, v, _ => v = .agg (cells (rawR l))
  | 23, v, W => ∃ q, v = .pointer (some ⟨q, 0, none⟩) ∧ B ≤ q ∧ W.heap[q]? = some (rootO nil)
  | _, _, _ => False
theorem rfact_stays (l : List UInt8) (B : Nat) (i : Nat) (v : Value) (W W' : World) (h : rfact l B i v W) (hb : Below W.heap.size W W') : rfact l B i v W' := by
  unfold rfact at h ⊢
  split at h
  all_goals first
    | exact h
    | (obtain ⟨q, h1, h2, h3⟩ := h; exact ⟨q, h1, h2, (hb.block q (Array.getElem?_eq_some_iff.1 h3).1).trans h3⟩)

set_option maxHeartbeats 6400000 in
theorem refGet_any (l : List UInt8) (hl : l.length = 256) (w : World) :
    Calls Try.prog 13 #[.agg (cellsOf l)] w fun e w' => e = .returned (.tuple #[.agg (cells (getR l)), .int .i64 (getE l)]) ∧ Below w.heap.size w w' := by
  have hzc := (zero_of_info infoR).1
  have hi := sizeBlock l hl
  have hK : Kept w [(w.heap.size + 1, rootO nil), (w.heap.size, blockO l)] ((w.alloc (.cells (cellsOf l) 27)).alloc (.cells (cells nil) 25)) := by
    have h := ((Kept.start w).alloc (blockO l)).alloc (rootO nil)
    rw [show (w.alloc (blockO l)).heap.size = w.heap.size + 1 from by simp] at h
    exact h
  have hfits := rawR_fits hl
  go_enter Try.func13, Try.ntmps13
  go_upto_region 1 with fail
  refine wp_region_noPanic ?_
  generalize (w.alloc (.cells (cellsOf l) 27)).alloc (.cells (cells nil) 25) = W0 at hK ⊢
  have hk0 := hK.drew
  clear hK
  refine wp_region_held_drew (S := fun W => Below W0.drew.heap.size W0.drew W) (by kernel_rfl) (Below.refl _ _) ?_
  intro hS
  generalize W0.drew = V at hS hk0 ⊢
  have hA : V.heap[w.heap.size]? = some (.cells (cellsOf l) 27 (0, 0)) := hk0.at_ (q := w.heap.size) (o := blockO l) (by simp)
  have hAlt : w.heap.size < V.heap.size := hk0.lt_ (q := w.heap.size) (o := blockO l) (by simp)
  have hAs : ∀ W, Below V.heap.size V W → W.heap[w.heap.size]? = some (.cells (cellsOf l) 27 (0, 0)) := fun W hW => (hW.block _ hAlt).trans hA
  have c33 : ∀ W, Below V.heap.size V W → W.cell? ⟨w.heap.size, 33, none⟩ = some (.int .u8 (numAt l 33 1 : Int)) := fun W hW => by
    have h : Holds W w.heap.size l := hAs W hW
    have h1 := numAt_step l 33 0 (by omega)
    rw [numAt_zero, Nat.mul_zero, Nat.add_zero] at h1
    rw [h1]
    exact h.cell 33 (by omega)
  refine wpAnyH_take (i := 0) (v := .agg (cellsOf l)) rfl (by kernel_rfl) (by kernel_rfl) (by kernel_rfl) (fun _ _ _ h => (h : False).elim) (yieldsIf_load_row (by rfl) 27 _ rfl w.heap.size rfl _ _ _ _ (fun W hW => hAs W hW) Try.underlying27 rfl hi) hS ?_
  change wpAnyH _ _ _ _ _ _ _ (Act.put _ (some 7) _) _
  simp only [Act.put, List.setIfInBounds_toArray, List.set_cons_succ, List.set_cons_zero]
  refine wpAnyH_take (i := 2) (v := .agg (cellsOf l)) rfl (by kernel_rfl) (by kernel_rfl) (by kernel_rfl) (fun _ _ _ h => (h : False).elim) (yieldsIf_load_row (by rfl) 27 _ rfl w.heap.size rfl _ _ _ _ (fun W hW => hAs W hW) Try.underlying27 rfl hi) hS ?_
  change wpAnyH _ _ _ _ _ _ _ (Act.put _ (some 9) _) _
  simp only [Act.put, List.setIfInBounds_toArray, List.set_cons_succ, List.set_cons_zero]
  refine wpAnyH_take (i := 5) (v := .agg (cellsOf l)) rfl (by kernel_rfl) (by kernel_rfl) (by kernel_rfl) (fun _ _ _ h => (h : False).elim) (yieldsIf_load_row (by rfl) 27 _ rfl w.heap.size rfl _ _ _ _ (fun W hW => hAs W hW) Try.underlying27 rfl hi) hS ?_
  change wpAnyH _ _ _ _ _ _ _ (Act.put _ (some 12) _) _
  simp only [Act.put, List.setIfInBounds_toArray, List.set_cons_succ, List.set_cons_zero]
  refine wpAnyH_take (i := 8) (v := .agg (cellsOf l)) rfl (by kernel_rfl) (by kernel_rfl) (by kernel_rfl) (fun _ _ _ h => (h : False).elim) (yieldsIf_load_row (by rfl) 27 _ rfl w.heap.size rfl _ _ _ _ (fun W hW => hAs W hW) Try.underlying27 rfl hi) hS ?_
  change wpAnyH _ _ _ _ _ _ _ (Act.put _ (some 15) _) _
  simp only [Act.put, List.setIfInBounds_toArray, List.set_cons_succ, List.set_cons_zero]
  refine wpAnyH_take (i := 11) (v := .agg (cellsOf l)) rfl (by kernel_rfl) (by kernel_rfl) (by kernel_rfl) (fun _ _ _ h => (h : False).elim) (yieldsIf_load_row (by rfl) 27 _ rfl w.heap.size rfl _ _ _ _ (fun W hW => hAs W hW) Try.underlying27 rfl hi) hS ?_
  change wpAnyH _ _ _ _ _ _ _ (Act.put _ (some 18) _) _
  simp only [Act.put, List.setIfInBounds_toArray, List.set_cons_succ, List.set_cons_zero]
  refine wpAnyH_take (i := 14) (v := .agg (cellsOf l)) rfl (by kernel_rfl) (by kernel_rfl) (by kernel_rfl) (fun _ _ _ h => (h : False).elim) (yieldsIf_load_row (by rfl) 27 _ rfl w.heap.size rfl _ _ _ _ (fun W hW => hAs W hW) Try.underlying27 rfl hi) hS ?_
  change wpAnyH _ _ _ _ _ _ _ (Act.put _ (some 21) _) _
  simp only [Act.put, List.setIfInBounds_toArray, List.set_cons_succ, List.set_cons_zero]
  refine wpAnyH_take (i := 17) (v := .agg (cellsOf l)) rfl (by kernel_rfl) (by kernel_rfl) (by kernel_rfl) (fun _ _ _ h => (h : False).elim) (yieldsIf_load_row (by rfl) 27 _ rfl w.heap.size rfl _ _ _ _ (fun W hW => hAs W hW) Try.underlying27 rfl hi) hS ?_
  change wpAnyH _ _ _ _ _ _ _ (Act.put _ (some 24) _) _
  simp only [Act.put, List.setIfInBounds_toArray, List.set_cons_succ, List.set_cons_zero]
  refine wpAnyH_take (i := 20) (v := .pointer (some ⟨w.heap.size, 33, none⟩)) rfl (by kernel_rfl) (by kernel_rfl) (by kernel_rfl) (fun _ _ _ h => (h : False).elim) (Or.inl ⟨by rfl, fun _ _ => by go_simp⟩) hS ?_
  change wpAnyH _ _ _ _ _ _ _ (Act.put _ (some 27) _) _
  simp only [Act.put, List.setIfInBounds_toArray, List.set_cons_succ, List.set_cons_zero]
  refine wpAnyH_take (i := 21) (v := .int .u8 (numAt l 33 1 : Int)) rfl (by kernel_rfl) (by kernel_rfl) (by kernel_rfl) (fun _ _ _ h => (h : False).elim) (Or.inl ⟨by rfl, fun W hW => by have c := c33 W hW; go_simp⟩) hS ?_
  change wpAnyH _ _ _ _ _ _ _ (Act.put _ (some 28) _) _
  simp only [Act.put, List.setIfInBounds_toArray, List.set_cons_succ, List.set_cons_zero]
  clear c33
  refine wpAnyH_grow V [(22, 29), (19, 26), (18, 25), (16, 23), (15, 22), (13, 20), (12, 19), (10, 17), (9, 16), (7, 14), (6, 13), (4, 11), (3, 10), (1, 8), (23, 4)] [(3, 1), (4, 3), (6, 3), (7, 6), (9, 6), (10, 9), (12, 9), (13, 12), (15, 12), (16, 15), (18, 15), (19, 18), (22, 1), (22, 4), (22, 7), (22, 10), (22, 13), (22, 16), (22, 19)] (rfact l V.heap.size) 1 44 rfl (by kernel_rfl) rfl (by decide) (rfact_stays l V.heap.size) (fun _ h => h) hS ?_ ?_
  · intro i d hid a' W K hbel hold hdep hK
    simp only [List.mem_cons, Prod.mk.injEq, List.not_mem_nil, or_false] at hid
    rcases hid with ⟨rfl, rfl⟩ | ⟨rfl, rfl⟩ | ⟨rfl, rfl⟩ | ⟨rfl, rfl⟩ | ⟨rfl, rfl⟩ | ⟨rfl, rfl⟩ | ⟨rfl, rfl⟩ | ⟨rfl, rfl⟩ | ⟨rfl, rfl⟩ | ⟨rfl, rfl⟩ | ⟨rfl, rfl⟩ | ⟨rfl, rfl⟩ | ⟨rfl, rfl⟩ | ⟨rfl, rfl⟩ | ⟨rfl, rfl⟩
    · have h8 : a'.eval (.tmp 8) = .int .u64 (numAt l 1 8 : Int) := hdep 1 8 (by simp) (by simp)
      have h11 : a'.eval (.tmp 11) = .int .u32 (numAt l 9 4 : Int) := hdep 4 11 (by simp) (by simp)
      have h14 : a'.eval (.tmp 14) = .int .u32 (numAt l 13 4 : Int) := hdep 7 14 (by simp) (by simp)
      have h17 : a'.eval (.tmp 17) = .int .u32 (numAt l 17 4 : Int) := hdep 10 17 (by simp) (by simp)
      have h20 : a'.eval (.tmp 20) = .int .u32 (numAt l 21 4 : Int) := hdep 13 20 (by simp) (by simp)
      have h23 : a'.eval (.tmp 23) = .int .u32 (numAt l 25 4 : Int) := hdep 16 23 (by simp) (by simp)
      have h26 : a'.eval (.tmp 26) = .int .u32 (numAt l 29 4 : Int) := hdep 19 26 (by simp) (by simp)
      have h28 : a'.eval (.tmp 28) = .int .u8 (numAt l 33 1 : Int) := (hold 28 (by decide)).trans rfl
      refine wpOp_row _ rfl rfl (wp_build_row _ 25 _ rfl _ (by simp only [List.map_toArray, List.map_cons, List.map_nil, h8, h11, h14, h17, h20, h23, h26, h28]) _ (run_buildR W l) (hK _ _ (Below.refl _ _) rfl))
    · have hv : a'.eval (.tmp 25) = .int .u64 (numAt l 29 4 : Int) := hdep 18 25 (by simp) (by simp)
      have hx : numAt l 29 4 < 4294967296 := numAt_lt4 hl 29 (by omega)
      refine wpOp_row _ rfl rfl (wp_yields _ (.int .u32 (numAt l 29 4 : Int)) (run_conv32 W a' 25 _ hx hv _ rfl) (hK _ _ (Below.refl _ _) rfl))
    · refine wpOp_row _ rfl rfl (wp_call_fn _ 28 #[.tmp 24, .const (.int .i64 29), .const (.int .i64 4)] _ rfl #[.agg (cellsOf l), .int .i64 29, .int .i64 4] (by simp [hold 24 (by decide)]; exact ⟨rfl, rfl, rfl⟩) (by simp [go_sem]) (refNumAt_any l hl 29 4 (by omega) (by omega) W) ?_)
      rintro e W' ⟨rfl, hb⟩
      exact ⟨_, rfl, hK _ _ hb rfl⟩
    · have hv : a'.eval (.tmp 22) = .int .u64 (numAt l 25 4 : Int) := hdep 15 22 (by simp) (by simp)
      have hx : numAt l 25 4 < 4294967296 := numAt_lt4 hl 25 (by omega)
      refine wpOp_row _ rfl rfl (wp_yields _ (.int .u32 (numAt l 25 4 : Int)) (run_conv32 W a' 22 _ hx hv _ rfl) (hK _ _ (Below.refl _ _) rfl))
    · refine wpOp_row _ rfl rfl (wp_call_fn _ 28 #[.tmp 21, .const (.int .i64 25), .const (.int .i64 4)] _ rfl #[.agg (cellsOf l), .int .i64 25, .int .i64 4] (by simp [hold 21 (by decide)]; exact ⟨rfl, rfl, rfl⟩) (by simp [go_sem]) (refNumAt_any l hl 25 4 (by omega) (by omega) W) ?_)
      rintro e W' ⟨rfl, hb⟩
      exact ⟨_, rfl, hK _ _ hb rfl⟩
    · have hv : a'.eval (.tmp 19) = .int .u64 (numAt l 21 4 : Int) := hdep 12 19 (by simp) (by simp)
      have hx : numAt l 21 4 < 4294967296 := numAt_lt4 hl 21 (by omega)
      refine wpOp_row _ rfl rfl (wp_yields _ (.int .u32 (numAt l 21 4 : Int)) (run_conv32 W a' 19 _ hx hv _ rfl) (hK _ _ (Below.refl _ _) rfl))
    · refine wpOp_row _ rfl rfl (wp_call_fn _ 28 #[.tmp 18, .const (.int .i64 21), .const (.int .i64 4)] _ rfl #[.agg (cellsOf l), .int .i64 21, .int .i64 4] (by simp [hold 18 (by decide)]; exact ⟨rfl, rfl, rfl⟩) (by simp [go_sem]) (refNumAt_any l hl 21 4 (by omega) (by omega) W) ?_)
      rintro e W' ⟨rfl, hb⟩
      exact ⟨_, rfl, hK _ _ hb rfl⟩
    · have hv : a'.eval (.tmp 16) = .int .u64 (numAt l 17 4 : Int) := hdep 9 16 (by simp) (by simp)
      have hx : numAt l 17 4 < 4294967296 := numAt_lt4 hl 17 (by omega)
      refine wpOp_row _ rfl rfl (wp_yields _ (.int .u32 (numAt l 17 4 : Int)) (run_conv32 W a' 16 _ hx hv _ rfl) (hK _ _ (Below.refl _ _) rfl))
    · refine wpOp_row _ rfl rfl (wp_call_fn _ 28 #[.tmp 15, .const (.int .i64 17), .const (.int .i64 4)] _ rfl #[.agg (cellsOf l), .int .i64 17, .int .i64 4] (by simp [hold 15 (by decide)]; exact ⟨rfl, rfl, rfl⟩) (by simp [go_sem]) (refNumAt_any l hl 17 4 (by omega) (by omega) W) ?_)
      rintro e W' ⟨rfl, hb⟩
      exact ⟨_, rfl, hK _ _ hb rfl⟩
    · have hv : a'.eval (.tmp 13) = .int .u64 (numAt l 13 4 : Int) := hdep 6 13 (by simp) (by simp)
      have hx : numAt l 13 4 < 4294967296 := numAt_lt4 hl 13 (by omega)
      refine wpOp_row _ rfl rfl (wp_yields _ (.int .u32 (numAt l 13 4 : Int)) (run_conv32 W a' 13 _ hx hv _ rfl) (hK _ _ (Below.refl _ _) rfl))
    · refine wpOp_row _ rfl rfl (wp_call_fn _ 28 #[.tmp 12, .const (.int .i64 13), .const (.int .i64 4)] _ rfl #[.agg (cellsOf l), .int .i64 13, .int .i64 4] (by simp [hold 12 (by decide)]; exact ⟨rfl, rfl, rfl⟩) (by simp [go_sem]) (refNumAt_any l hl 13 4 (by omega) (by omega) W) ?_)
      rintro e W' ⟨rfl, hb⟩
      exact ⟨_, rfl, hK _ _ hb rfl⟩
    · have hv : a'.eval (.tmp 10) = .int .u64 (numAt l 9 4 : Int) := hdep 3 10 (by simp) (by simp)
      have hx : numAt l 9 4 < 4294967296 := numAt_lt4 hl 9 (by omega)
      refine wpOp_row _ rfl rfl (wp_yields _ (.int .u32 (numAt l 9 4 : Int)) (run_conv32 W a' 10 _ hx hv _ rfl) (hK _ _ (Below.refl _ _) rfl))
    · refine wpOp_row _ rfl rfl (wp_call_fn _ 28 #[.tmp 9, .const (.int .i64 9), .const (.int .i64 4)] _ rfl #[.agg (cellsOf l), .int .i64 9, .int .i64 4] (by simp [hold 9 (by decide)]; exact ⟨rfl, rfl, rfl⟩) (by simp [go_sem]) (refNumAt_any l hl 9 4 (by omega) (by omega) W) ?_)
      rintro e W' ⟨rfl, hb⟩
      exact ⟨_, rfl, hK _ _ hb rfl⟩
    · refine wpOp_row _ rfl rfl (wp_call_fn _ 28 #[.tmp 7, .const (.int .i64 1), .const (.int .i64 8)] _ rfl #[.agg (cellsOf l), .int .i64 1, .int .i64 8] (by simp [hold 7 (by decide)]; exact ⟨rfl, rfl, rfl⟩) (by simp [go_sem]) (refNumAt_any l hl 1 8 (by omega) (by omega) W) ?_)
      rintro e W' ⟨rfl, hb⟩
      exact ⟨_, rfl, hK _ _ hb rfl⟩
    · refine wpOp_alloc _ rfl rfl 25 rfl (cells nil) hzc (hK _ _ ((Below.refl _ _).alloc (Nat.le_refl _) _) ⟨W.heap.size, rfl, hbel.size, heap_alloc_new W _⟩)
  · intro f W hall hbel hfact
    obtain ⟨v1, h1⟩ := hall 1 8 (by simp)
    obtain ⟨v3, h3⟩ := hall 3 10 (by simp)
    obtain ⟨v4, h4⟩ := hall 4 11 (by simp)
    obtain ⟨v6, h6⟩ := hall 6 13 (by simp)
    obtain ⟨v7, h7⟩ := hall 7 14 (by simp)
    obtain ⟨v9, h9⟩ := hall 9 16 (by simp)
    obtain ⟨v10, h10⟩ := hall 10 17 (by simp)
    obtain ⟨v12, h12⟩ := hall 12 19 (by simp)
    obtain ⟨v13, h13⟩ := hall 13 20 (by simp)
    obtain ⟨v15, h15⟩ := hall 15 22 (by simp)
    obtain ⟨v16, h16⟩ := hall 16 23 (by simp)
    obtain ⟨v18, h18⟩ := hall 18 25 (by simp)
    obtain ⟨v19, h19⟩ := hall 19 26 (by simp)
    obtain ⟨v22, h22⟩ := hall 22 29 (by simp)
    obtain ⟨v23, h23⟩ := hall 23 4 (by simp)
    obtain ⟨q, hq1, hq2, hq3⟩ := hfact 23 v23 h23
    subst hq1
    have e22 : v22 = .agg (cells (rawR l)) := hfact 22 v22 h22
    subst e22
    simp only [putsF, setB, isF, h1, h3, h4, h6, h7, h9, h10, h12, h13, h15, h16, h18, h19, h22, h23, Option.isSome_some, if_true]
    simp only [Act.put, List.setIfInBounds_toArray, List.set_cons_succ, List.set_cons_zero]
    clear hall hfact h1 h3 h4 h6 h7 h9 h10 h12 h13 h15 h16 h18 h19 h22 h23 hS
    have hkW := hk0.below hbel
    have hqV : w.heap.size ≤ q := Nat.le_trans hk0.bel.size hq2
    have hnz : ∀ x ∈ [(w.heap.size + 1, rootO nil), (w.heap.size, blockO l)], x.1 ≠ q := fun x hx => by
      have := hk0.lt_ (q := x.1) (o := x.2) hx
      omega
    have hkq : Kept w ((q, .cells (cells nil) 25 (0, 0)) :: [(w.heap.size + 1, rootO nil), (w.heap.size, blockO l)]) W := ⟨hkW.bel, fun x hx => by
      rcases List.mem_cons.1 hx with rfl | hx
      · exact ⟨hqV, hq3⟩
      · exact hkW.has x hx⟩
    refine wpAnyH_ready (rs := [24]) (by kernel_rfl) (by simp) ?_
    refine AllReadyH.cons rfl (fun K hK => ?_) AllReadyH.nil
    rw [if_pos (by rfl)]
    refine wp_store_row 25 _ _ rfl q (cells (rawR l)) rfl rfl _ _ hq3 (sizeR _) rfl (cells_one _) ?_
    have hk2 := hkq.setRow (cs' := cells (rawR l)) hnz
    refine hK.out _ _ (below_row hbel hq2) (fun _ => ?_)
    clear hK K hkq hkW hq3 hbel hnz hk0 hA hAs hAlt hq2
    simp only [Act.put]
    generalize W.setRow q (cells (rawR l)) = W2 at hk2 ⊢
    refine wpAnyH_done (by kernel_rfl) ?_ _
    refine NoPanic.normal ?_
    have hzb := (zero_of_info infoBlock).1
    have hXl := putB_length (rawR l)
    have hiX := sizeBlock (putB (rawR l)) hXl
    have hzX : (cellsOf zeros).size = (cellsOf (putB (rawR l))).size := by rw [cellsOf_size, cellsOf_size, hXl, zeros_length]
    have hp := fun W => refPut_any (rawR l) hfits W
    have heqB := fun W : World => run_eqBlock W (putB (rawR l)) l hXl hl
    have hgb := fun (W : World) (op : BinOp) (x y : Operand) (xs ys : Array Value) => run_eqGuard_agg (P := Try.prog) W op 27 x y xs ys noGuard
    have hE : (putE (rawR l) = 0 ∧ putB (rawR l) = l ∧ getR l = rawR l ∧ getE l = 0) ∨ (getR l = nil ∧ getE l = 250 ∧ (putE (rawR l) = 2 ∨ putE (rawR l) = 0 ∧ putB (rawR l) ≠ l)) := by
      by_cases h1 : mayB (rawR l) = true
      · by_cases h2 : rtB (rawR l) = l
        · have hi : isR l = true := by unfold isR; rw [h1, decide_eq_true h2]; rfl
          exact .inl ⟨putE_yes h1, by rw [putB_yes h1]; exact h2, if_pos hi, if_pos hi⟩
        · have hi : ¬ isR l = true := by unfold isR; rw [h1, decide_eq_false h2]; simp
          exact .inr ⟨if_neg hi, if_neg hi, .inr ⟨putE_yes h1, by rw [putB_yes h1]; exact h2⟩⟩
      · have hi : ¬ isR l = true := by unfold isR; rw [Bool.eq_false_iff.2 h1]; simp
        exact .inr ⟨if_neg hi, if_neg hi, .inl (putE_no h1)⟩
    have hiL := sizeBlock l hl
    generalize putB (rawR l) = X at hXl hiX hzX hp heqB hE
    generalize putE (rawR l) = E at hp hE
    generalize rawR l = R at hk2 hp hE
    have HE := Lib.hid hE
    clear hE hfits hi
    go_wp2_with (refine wpList_load_row rfl 25 _ rfl q rfl _ _ _ _ (hk2.at_ (q := q) (o := .cells (cells R) 25 (0, 0)) (by simp)) Try.underlying25 rfl (sizeR R) ?_)
    refine (hp _).mono ?_
    rintro e W3 ⟨rfl, hx⟩
    have hk3 := (hk2.below hx).alloc (.cells (cellsOf X) 27)
    clear hk2 hx hp
    have tok : True := trivial
    rcases HE.out with ⟨rfl, hXe, hG1, hG2⟩ | ⟨hG1, hG2, rfl | ⟨rfl, hXe⟩⟩
    · rw [decide_eq_true hXe] at heqB
      have HG := Lib.hid (And.intro hG1 hG2)
      clear hG1 hG2 hXe HE
      go_upto_region 3 with (have _t := tok; refine wpList_store_new rfl 27 _ _ rfl (cellsOf X) _ _ rfl rfl hiX hzX (cellsOf_one _) ?_; generalize W3.heap.size = q5 at hk3 ⊢; generalize W3.alloc (.cells (cellsOf X) 27) = W4 at hk3 ⊢; clear _t tok)
      have hR := hk3.at_ (q := w.heap.size + 1) (o := rootO nil) (by simp)
      have hA5 := hk3.at_ (q := q5) (o := .cells (cellsOf X) 27 (0, 0)) (by simp)
      have hA0 := hk3.at_ (q := w.heap.size) (o := blockO l) (by simp)
      go_wp2_with (first | (refine wpList_load_want (by rfl) 27 _ rfl q5 rfl _ _ _ _ hA5 Try.underlying27 rfl hiX ?_) | (refine wpList_load_want (by rfl) 27 _ rfl w.heap.size rfl _ _ _ _ hA0 Try.underlying27 rfl hiL ?_) | (refine wpList_load_row rfl 25 _ rfl q rfl _ _ _ _ (hk3.at_ (q := q) (o := .cells (cells R) 25 (0, 0)) (by simp)) Try.underlying25 rfl (sizeR R) ?_) | (refine wpList_store_row rfl 25 _ _ rfl (w.heap.size + 1) _ rfl rfl _ _ hR (sizeR R) rfl (cells_one _) ?_))
      exact bodyPost_ret (results_row_tmp rfl _ _ _ _ _ _ _ rfl (setRow_heap _ _ _ _ _ _ hR) Try.underlying25 rfl (sizeR R)) rfl ⟨by rw [HG.out.1, HG.out.2]; rfl, below_row hk3.bel (by omega)⟩
    · have HG := Lib.hid (And.intro hG1 hG2)
      clear hG1 hG2 HE heqB hgb
      go_upto_region 3 with (have _t := tok; refine wpList_store_new rfl 27 _ _ rfl (cellsOf X) _ _ rfl rfl hiX hzX (cellsOf_one _) ?_; generalize W3.heap.size = q5 at hk3 ⊢; generalize W3.alloc (.cells (cellsOf X) 27) = W4 at hk3 ⊢; clear _t tok)
      have hR := hk3.at_ (q := w.heap.size + 1) (o := rootO nil) (by simp)
      go_wp2_with (refine wpList_store_row rfl 25 _ _ rfl (w.heap.size + 1) _ rfl rfl _ _ hR (sizeR nil) rfl (cells_one _) ?_)
      exact bodyPost_ret (results_row_tmp rfl _ _ _ _ _ _ _ rfl (setRow_heap _ _ _ _ _ _ hR) Try.underlying25 rfl (sizeR nil)) rfl ⟨by rw [HG.out.1, HG.out.2]; rfl, below_row hk3.bel (by omega)⟩
    · rw [decide_eq_false hXe] at heqB
      have HG := Lib.hid (And.intro hG1 hG2)
      clear hG1 hG2 hXe HE
      go_upto_region 3 with (have _t := tok; refine wpList_store_new rfl 27 _ _ rfl (cellsOf X) _ _ rfl rfl hiX hzX (cellsOf_one _) ?_; generalize W3.heap.size = q5 at hk3 ⊢; generalize W3.alloc (.cells (cellsOf X) 27) = W4 at hk3 ⊢; clear _t tok)
      have hR := hk3.at_ (q := w.heap.size + 1) (o := rootO nil) (by simp)
      have hA5 := hk3.at_ (q := q5) (o := .cells (cellsOf X) 27 (0, 0)) (by simp)
      have hA0 := hk3.at_ (q := w.heap.size) (o := blockO l) (by simp)
      go_wp2_with (first | (refine wpList_load_want (by rfl) 27 _ rfl q5 rfl _ _ _ _ hA5 Try.underlying27 rfl hiX ?_) | (refine wpList_load_want (by rfl) 27 _ rfl w.heap.size rfl _ _ _ _ hA0 Try.underlying27 rfl hiL ?_) | (refine wpList_store_row rfl 25 _ _ rfl (w.heap.size + 1) _ rfl rfl _ _ hR (sizeR nil) rfl (cells_one _) ?_))
      exact bodyPost_ret (results_row_tmp rfl _ _ _ _ _ _ _ rfl (setRow_heap _ _ _ _ _ _ hR) Try.underlying25 rfl (sizeR nil)) rfl ⟨by rw [HG.out.1, HG.out.2]; rfl, below_row hk3.bel (by omega)⟩

end Go.Proofs.Ytdlgdnmmeopkjaa.Slt
