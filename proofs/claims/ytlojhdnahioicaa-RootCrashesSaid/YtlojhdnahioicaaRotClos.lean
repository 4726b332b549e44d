/-
  The steps of root.replace: the closures' walks.
-/
import Derived.Test.YtlojhdnahioicaaRotSteps
import Derived.Test.YtlojhdnahioicaaSlt3
import Derived.StillTailTactics
namespace Go.Proofs.Ytlojhdnahioicaa.Rot
open Go.RowKit RowLaw Crc
set_option maxRecDepth 100000
open Go.Proofs.Ytlojhdnahioicaa.Fld (blockO)
open Go.Proofs.Ytlojhdnahioicaa.Slt (Rt cells rootO rtB rtB_length infoR sizeR cells_one mayB)
open Go.Proofs.Ytlojhdnahioicaa.Dev (Dev DS ptr writeS writeE flushS flushE putCells Box)

theorem still_load_mid {P : Program} {w : World} {K : Act → Prop} {o : Oper} {a : Act} (ty : TypeId) (x : Operand) (ho : o.op = .load ty x) (b off : Nat) (hx : a.eval x = .pointer (some ⟨b, off, none⟩)) (cs : Array Value) (d : TypeDesc) (hc : w.rangeAt b off cs.toList)
    (hu : P.underlying ty = some d) (hd : d.isRow = true) (hi : (P.info? ty).map (·.size) = some cs.size) (hk : K (a.put o.dst (.agg cs))) : o.still P a w K := by
  unfold Oper.still execOp
  have h := run_loadVar_mid (P := P) w b off ty cs.toList d hc hu hd (by simpa using hi)
  simp only [ho, hx, Instr.loadAt, Instr.sureAddr, Sem.run_bind, Sem.run_pure, Result.andThen_ok, h]
  simpa [Oper.stillUpon] using hk

section
variable {w W : World} {B : List Nat} {p : Nat} {s : DS}

set_option maxHeartbeats 1600000 in
theorem step1_any (h : Box w B p s [] W) {pb lb ib b off n cap k : Nat} {x : Nat × List UInt8} (c0 : W.cell? ⟨pb, 0, none⟩ = some (ptr p)) (c1 : W.cell? ⟨lb, 0, none⟩ = some (.slice (some ⟨b, off, none⟩) n cap)) (c2 : W.cell? ⟨ib, 0, none⟩ = some (.int .i64 (k : Int)))
    (hk : k < n) (hr : W.rangeAt b (off + k * 257) (putCells x)) (hx : x.1 < 4294967296) (hl : x.2.length = 256) (hlen : s.pend.length < 4294967295) :
    Calls Try.prog 54 #[ptr pb, ptr lb, ptr ib] W fun e W' => e = .returned (.int .i64 (writeE s x.1)) ∧ Box w B p (writeS s x.1 x.2) [] W' := by
  have hi := sizeBlock _ hl
  obtain ⟨xa, xl⟩ := x
  simp only at hx hl hi ⊢
  have ca : W.cell? ⟨b, off + k * 257, none⟩ = some (.int .u32 (xa : Int)) := by simpa using hr 0 _ rfl
  have cr : W.drew.rangeAt b (off + k * 257 + 1) (cellsOf xl).toList := fun j v hv => by
    rw [Nat.add_assoc, Nat.add_comm 1 j]
    exact hr (j + 1) v hv
  have i0 : (0 : Int) ≤ (k : Int) := by omega
  have i1 : (k : Int) < (n : Int) := by omega
  have hB := h.drew
  clear hr h
  unfold ptr at c0 ⊢
  go_enter Try.func54, Try.ntmps54
  go_wp2_with fail
  refine wp_region_still_tail 11 (by kernel_rfl) (by kernel_rfl) ?_
  simp only [List.take_succ_cons, List.take_zero, List.drop_succ_cons, List.drop_zero]
  have HB := Lib.hid hB
  have HC := Lib.hid cr
  clear hB cr
  iterate 10 still_step
  refine wpStill_step (fun K hK => ?_)
  rw [if_pos (by rfl)]
  refine still_load_mid 49 _ rfl b (off + k * 257 + 1) rfl (cellsOf xl) _ HC.out Try.underlying49 rfl hi ?_
  refine hK _ ?_
  clear hK K
  refine wpStill_nil ?_
  change wpList _ _ _ _ _ W.drew
  have hw := HB.out.write (a := xa) hx (l := xl) hl hlen
  unfold ptr at hw
  clear c0 c1 c2 ca HB HC
  generalize W.drew = W1 at hw ⊢
  go_wp2_with (with_reducible refine hw.mono ?_; rintro e W2 ⟨rfl, hb2⟩)
  go_ret
  exact ⟨rfl, hb2⟩

theorem step2_any (h : Box w B p s [] W) {pb : Nat} (c0 : W.cell? ⟨pb, 0, none⟩ = some (ptr p)) (hlen : s.pend.length < 4294967296) :
    Calls Try.prog 55 #[ptr pb] W fun e W' => e = .returned (.int .i64 (flushE s)) ∧ Box w B p (flushS s) [] W' := by
  have hw := h.flush hlen
  unfold ptr at c0 hw ⊢
  go_enter Try.func55, Try.ntmps55
  go_wp2_with (with_reducible refine hw.mono ?_; rintro e W2 ⟨rfl, hb2⟩)
  go_ret
  exact ⟨rfl, hb2⟩

set_option maxHeartbeats 1600000 in
theorem step3_any (h : Box w B p s [] W) {pb rb : Nat} {r : Rt} (c1 : W.heap[rb]? = some (.cells (cells r) 34 (0, 0))) (hold : ∀ W' K s', Box w B p s' K W' → W'.cell? ⟨pb, 0, none⟩ = some (ptr p) ∧ W'.heap[rb]? = some (.cells (cells r) 34 (0, 0)))
    (hm : mayB r = true) (hf : r.Fits) (hlen : s.pend.length < 4294967295) :
    Calls Try.prog 56 #[ptr rb, ptr pb] W fun e W' => e = .returned (.int .i64 (writeE s (r.gen % 2))) ∧ Box w B p (writeS s (r.gen % 2) (rtB r)) [] W' := by
  have hzb := (zero_of_info infoBlock).1
  have hlr := rtB_length r
  have hi := sizeBlock _ hlr
  have hzz : (cellsOf zeros).size = (cellsOf (rtB r)).size := by rw [cellsOf_size, cellsOf_size, hlr, zeros_length]
  have hPut := Slt.Put_yes r hm hf
  have hHome := home_any r
  have hgen : r.gen % 2 < 4294967296 := by omega
  generalize r.gen % 2 = m at hHome hgen ⊢
  generalize rtB r = L at hlr hi hzz hPut ⊢
  have HO := Lib.hid hold
  have HH := Lib.hid hHome
  clear hold hm hf hHome
  unfold ptr at HO ⊢
  go_enter Try.func56, Try.ntmps56
  go_wp2_with (refine wpList_load_row rfl 34 _ rfl rb rfl _ _ _ _ c1 Try.underlying34 rfl (sizeR r) ?_)
  refine (hPut W).mono ?_
  rintro e W1 ⟨rfl, hx⟩
  have hB := (h.below hx).alloc (blockO L)
  clear hx h c1 hPut
  have tok : True := trivial
  go_upto_region 2 with (first
    | (have _t := tok; refine wpList_store_new rfl 49 _ _ rfl (cellsOf L) _ _ rfl rfl hi hzz (cellsOf_one _) ?_; change wpList _ _ _ _ _ (W1.alloc (blockO L)); clear _t tok))
  change Code.wp _ _ _ _ (W1.alloc (blockO L))
  generalize W1.heap.size = q at hB ⊢
  generalize W1.alloc (blockO L) = W2 at hB ⊢
  go_wp2_with fail
  have hS := hB.drew
  clear hB
  have tk : ∀ W', (∃ s', Box w B p s' [(q, blockO L)] W') → W'.heap[q]? = some (.cells (cellsOf L) 49 (0, 0)) := fun W' ⟨_, h⟩ => h.at_ (q := q) (o := blockO L) (by simp)
  refine wp_region_noPanic ?_
  refine wp_region_held_drew (S := fun W' => ∃ s', Box w B p s' [(q, blockO L)] W') (by kernel_rfl) ⟨_, hS⟩ ?_
  intro hT
  generalize W2.drew = V at hS hT ⊢
  refine wpAnyH_take (i := 0) (v := .pointer (some ⟨p, 0, none⟩)) rfl (by kernel_rfl) (by kernel_rfl) (by kernel_rfl) (fun _ _ _ h => (h : False).elim) (Or.inl ⟨by rfl, fun w ⟨_, hw⟩ => by have c3 := (HO.out _ _ _ hw).1; go_simp⟩) hT ?_
  change wpAnyH _ _ _ _ _ _ _ (Act.put _ (some 10) _) _
  simp only [Act.put, List.setIfInBounds_toArray, List.set_cons_succ, List.set_cons_zero]
  refine wpAnyH_take (i := 1) (v := .agg (cells r)) rfl (by kernel_rfl) (by kernel_rfl) (by kernel_rfl) (fun _ _ _ h => (h : False).elim) (yieldsIf_load_row (by rfl) 34 _ rfl rb rfl _ _ _ _ (fun _ ⟨_, h⟩ => (HO.out _ _ _ h).2) Try.underlying34 rfl (sizeR r)) hT ?_
  change wpAnyH _ _ _ _ _ _ _ (Act.put _ (some 11) _) _
  simp only [Act.put, List.setIfInBounds_toArray, List.set_cons_succ, List.set_cons_zero]
  refine wpAnyH_take (i := 3) (v := .agg (cellsOf L)) rfl (by kernel_rfl) (by kernel_rfl) (by kernel_rfl) (fun _ _ _ h => (h : False).elim) (yieldsIf_load_row (by rfl) 49 _ rfl q rfl _ _ _ _ tk Try.underlying49 rfl hi) hT ?_
  change wpAnyH _ _ _ _ _ _ _ (Act.put _ (some 13) _) _
  simp only [Act.put, List.setIfInBounds_toArray, List.set_cons_succ, List.set_cons_zero]
  refine wpAnyH_ready (rs := [2]) (by kernel_rfl) (by simp) ?_
  refine AllReadyH.cons rfl (fun K hK => ?_) AllReadyH.nil
  go_simp
  refine (HH.out V).mono ?_
  rintro e V1 ⟨rfl, hx⟩
  dsimp only
  refine hK _ _ ⟨_, hS.below hx⟩ (fun _ => ?_)
  have hw := (hS.below hx).write (a := m) hgen (l := L) hlr hlen
  clear hK K hS hx hT
  unfold ptr at hw
  refine wpAnyH_ready (rs := [4]) (by kernel_rfl) (by simp) ?_
  refine AllReadyH.cons rfl (fun K hK => ?_) AllReadyH.nil
  go_simp
  refine hw.mono ?_
  rintro e V2 ⟨rfl, hx⟩
  dsimp only
  refine hK _ _ ⟨_, hx⟩ (fun _ => ?_)
  clear hK K hw
  refine wpAnyH_ready (rs := [5]) (by kernel_rfl) (by simp) ?_
  refine AllReadyH.cons rfl (fun K hK => ?_) AllReadyH.nil
  go_simp
  refine hK _ _ ⟨_, hx⟩ (fun _ => ?_)
  clear hK K
  refine wpAnyH_done (by kernel_rfl) ?_ _
  refine NoPanic.normal ?_
  go_wp2_with fail
  go_ret
  exact ⟨rfl, hx.less (fun _ h => by cases h)⟩

end

end Go.Proofs.Ytlojhdnahioicaa.Rot
