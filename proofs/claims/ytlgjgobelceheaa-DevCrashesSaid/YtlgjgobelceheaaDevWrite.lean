/-
  Write.
-/
import Derived.Test.YtlgjgobelceheaaDevFlush
import Derived.Great.BuildSlice
import Derived.Deep.AppendLies
import Derived.Deep.RegionHeld3
namespace Go.Proofs.Ytlgjgobelceheaa.Dev
open Go.RowKit RowLaw

theorem size_of_putCells {x : Nat × List UInt8} (h : x.2.length = 256) : (putCells x).toArray.size = 257 := by
  simp only [List.size_toArray]; exact putCells_length h

theorem fill_one {place : Nat → Option (Nat × Nat)} {i off size : Nat} {cells : Array Value} {v : Value} {rest : List (Nat × Value)} (hp : place i = some (off, size)) (hs : v.cells.size = size) (hf : off + size ≤ cells.size) :
    Instr.fill place cells ((i, v) :: rest) = Instr.fill place ((v.cells.toList.zipIdx 0).foldl (fun cs (x : Value × Nat) => cs.setIfInBounds (off + x.2) x.1) cells) rest := by
  conv => lhs; unfold Instr.fill
  simp only [hp]
  rw [if_neg (by simp; omega)]
  congr 1
  rw [← Array.foldl_toList, Array.toList_zipIdx]

/-- a write by value is put together -/
theorem built_put (a : Nat) (l : List UInt8) (hl : l.length = 256) : Try.prog.built 72 [(0, .int .u32 (a : Int)), (1, .agg (cellsOf l))] = some (putCells (a, l)).toArray := by
  obtain ⟨it, hit, hz⟩ : ∃ it, Try.prog.info? 72 = some it ∧ it.zero = some (.agg (putCells (0, zeros)).toArray) := by
    have h := infoPut
    cases hq : Try.prog.info? 72 with
    | none => rw [hq] at h; cases h
    | some it =>
      rw [hq] at h
      simp only [Option.map_some, Option.some.injEq, Prod.mk.injEq] at h
      exact ⟨it, rfl, h.1⟩
  unfold Program.built
  rw [hit, Try.underlying72]
  simp only [hz]
  have hp : (List.mapM (fun f : Field => (Try.prog.info? f.type).map fun i => (f.offset, i.size)) [{ name := "At", type := 30, offset := 0, embedded := false, tag := "", pkgPath := "", byteOffset := 0 }, { name := "B", type := 47, offset := 1, embedded := false, tag := "", pkgPath := "", byteOffset := 4 }]) = some [(0, 1), (1, 256)] := by kernel_rfl
  rw [hp]
  have h0 := size_of_putCells (x := (0, zeros)) zeros_length
  have hl' := size_of_putCells (x := (a, l)) hl
  have hcl : (cellsOf l).size = 256 := by rw [cellsOf_size, hl]
  show Instr.fill _ (putCells (0, zeros)).toArray _ = _
  rw [fill_one (off := 0) (size := 1) rfl rfl (by rw [h0]; omega)]
  obtain ⟨z1, z2⟩ := Great.foldl_set 0 (Value.cells (.int .u32 (a : Int))).toList 0 (putCells (0, zeros)).toArray
  generalize ((Value.cells (.int .u32 (a : Int))).toList.zipIdx 0).foldl (fun cs (x : Value × Nat) => cs.setIfInBounds (0 + x.2) x.1) (putCells (0, zeros)).toArray = r1 at z1 z2 ⊢
  rw [fill_one (v := .agg (cellsOf l)) (off := 1) (size := 256) rfl hcl (by rw [z1, h0]; exact Nat.le_refl _)]
  obtain ⟨y1, y2⟩ := Great.foldl_set 1 (Value.cells (.agg (cellsOf l))).toList 0 r1
  generalize ((Value.cells (.agg (cellsOf l))).toList.zipIdx 0).foldl (fun cs (x : Value × Nat) => cs.setIfInBounds (1 + x.2) x.1) r1 = r2 at y1 y2 ⊢
  show some r2 = _
  congr 1
  have hcl' : (Value.cells (.agg (cellsOf l))).toList.length = 256 := by show (cellsOf l).toList.length = 256; simpa using hcl
  have hc0 : (Value.cells (.int .u32 (a : Int))).toList.length = 1 := rfl
  apply Array.ext_getElem?
  intro k
  rw [y2 k, z2 k]
  rw [hcl', hc0, z1, h0]
  match k with
  | 0 => rfl
  | k + 1 =>
    by_cases hk : k < 256
    · rw [if_pos (by omega)]
      simp only [Nat.add_zero, Nat.add_sub_cancel]
      simp [putCells, Value.cells]
    · rw [if_neg (by omega), if_neg (by omega), Array.getElem?_eq_none (by omega), Array.getElem?_eq_none (by omega)]

/-- a slice of one write is laid -/
theorem run_buildPut (w : World) (x : Nat × List UInt8) (hx : x.2.length = 256) : (Instr.buildSlice 33 1 #[(0, .agg (putCells x).toArray)]).run Try.prog w = .ok (.slice (some ⟨w.heap.size, 0, none⟩) 1 1) (w.alloc (.cells (putCells x).toArray 72)) := by
  obtain ⟨it, hit, hz, hs, hb⟩ := info_parts infoPut
  have h0 := size_of_putCells (x := (0, zeros)) zeros_length
  have hf := Great.fill_whole (s := 257) (by omega) [.agg (putCells x).toArray] ((Array.range (1 * 257)).map ((Value.agg (putCells (0, zeros)).toArray).cells[· % (Value.agg (putCells (0, zeros)).toArray).cells.size]!)) (fun v hv => by
    simp only [List.mem_singleton] at hv; subst hv; exact size_of_putCells hx) (by simp)
  refine run_buildSlice w _ _ 1 _ (putCells x).toArray it _ Try.underlying33 hit hz (by rw [hs]; omega) (by rw [hs]; omega) ?_
  rw [hs]
  refine Eq.trans ?_ (hf.trans ?_)
  · rfl
  · simp [Value.cells]

/-- a write has been added to the row of those that are pending -/
theorem DevAt.pushed {w w1 : World} {p bm g cap : Nat} {pv : Value} {B : List Nat} {s : DS} (h : DevAt w p bm pv B s) {a : Nat} {l : List UInt8} (ha : a < 4294967296) (hl : l.length = 256)
    (hown : w1.ownsRow 0 72 257 (.slice (some ⟨g, 0, none⟩) (s.pend.length + 1) cap) (s.pend.length + 1) (pendCells s.pend ++ putCells (a, l))) (hg : w.grownBy w1 pv.ownBlock) (hat : pv.ownBlock = some g ∨ g = w.heap.size) (hlt : g < w1.heap.size) :
    DevAt (w1.setCell ⟨p, 2, none⟩ (.slice (some ⟨g, 0, none⟩) (s.pend.length + 1) cap)) p bm (.slice (some ⟨g, 0, none⟩) (s.pend.length + 1) cap) (g :: B) { s with pend := s.pend ++ [(a, l)] } ∧
    Step B w (w1.setCell ⟨p, 2, none⟩ (.slice (some ⟨g, 0, none⟩) (s.pend.length + 1) cap)) (g :: B) ∧ w1.cell? ⟨p, 2, none⟩ = some pv ∧ w1.frozen? ⟨p, 2, none⟩ = false := by
  have hp1 : w1.heap[p]? = w.heap[p]? := hg.block p (h.ltB p h.inP) (fun e => h.neR e.symm)
  have ho1 := hp1.trans h.obj
  have hgp : g ≠ p := by
    rcases hat with hat | hat
    · exact fun e => h.neR (by rw [hat, e])
    · have := h.ltB p h.inP; omega
  have ho := heap_setCell_same w1 p 2 _ _ (.slice (some ⟨g, 0, none⟩) (s.pend.length + 1) cap) ho1
  have hb1 : w1.heap[bm]? = w.heap[bm]? := hg.block bm (h.ltB bm h.inM) (fun e => h.neMR e.symm)
  refine ⟨⟨ho, ?_, ?_, ?_, ?_, ?_, ?_, ?_, ?_, h.okG, h.okN, h.okL⟩, ⟨?_, ?_⟩, cell_of_row w1 p 2 _ _ _ ho1, frozen_of_row w1 p 2 _ _ ho1⟩
  · exact h.map.kept ((heap_setCell_other w1 _ _ _ h.neM).trans hb1)
  · rw [List.length_append, pendCells_append]
    have e : pendCells [(a, l)] = putCells (a, l) := by simp [pendCells]
    rw [e]
    exact ownsRow_block hown (fun k hk => heap_setCell_other w1 _ _ _ (by cases hk; exact hgp))
  · exact List.mem_cons_of_mem _ h.inP
  · exact List.mem_cons_of_mem _ h.inM
  · intro k hk; cases hk; exact List.mem_cons_self
  · intro k hk
    have hsz : (w1.setCell ⟨p, 2, none⟩ (.slice (some ⟨g, 0, none⟩) (s.pend.length + 1) cap)).heap.size = w1.heap.size := by simp [World.setCell]
    rw [hsz]
    rcases List.mem_cons.1 hk with rfl | hk
    · exact hlt
    · exact Nat.lt_of_lt_of_le (h.ltB k hk) hg.size
  · intro x hx
    rcases List.mem_append.1 hx with hx | hx
    · exact h.okP x hx
    · simp only [List.mem_singleton] at hx; subst hx; exact hl
  · intro x hx
    rcases List.mem_append.1 hx with hx | hx
    · exact h.okA x hx
    · simp only [List.mem_singleton] at hx; subst hx; exact ha
  · exact (Turn.of_grown' hg h.inR).setCell _ _ (.inl h.inP)
  · intro k hk
    rcases List.mem_cons.1 hk with rfl | hk
    · rcases hat with hat | hat
      · exact .inl (h.inR _ hat)
      · exact .inr (by omega)
    · exact .inl hk

theorem wp_new_put {o : Oper} {ac : Act} {w : World} {K : Act → World → Prop} {Q : Exit → Act → World → Prop} (d : Tmp) (ho : o.op = .buildSlice 33 1 #[(0, .tmp d)]) (x : Nat × List UInt8) (hx : x.2.length = 256) (hv : ac.eval (.tmp d) = .agg (putCells x).toArray)
    (h : K (ac.put o.dst (.slice (some ⟨w.heap.size, 0, none⟩) 1 1)) (w.alloc (.cells (putCells x).toArray 72))) : o.wp Try.prog ac w K Q := by
  unfold Oper.wp execOp
  simp only [ho, List.map_toArray, List.map_cons, List.map_nil, hv, Sem.run_bind, run_buildPut w x hx, Result.andThen_ok]
  exact h

theorem yieldsIf_load_row {P : Program} {ops : Array Oper} {S : World → Prop} {op : Oper} {a : Act} (hw : Region.wanted op (yielded ops a.tmps) = true) (ty : TypeId) (x : Operand) (ho : op.op = .load ty x)
    (g : Nat) (hx : a.eval x = .pointer (some ⟨g, 0, none⟩)) (t : TypeId) (cs : Array Value) (fr : Nat × Nat) (d : TypeDesc) (hS : ∀ w, S w → w.heap[g]? = some (.cells cs t fr))
    (hu : P.underlying ty = some d) (hd : (match d with | .struct _ | .array _ _ => true | _ => false) = true) (hi : (P.info? ty).map (·.size) = some cs.size) : YieldsIf P ops S op (.agg cs) a :=
  .inl ⟨hw, fun w hw' => by
    unfold execOp
    simp only [ho, hx, Instr.loadAt, Instr.sureAddr, Sem.run_bind, Sem.run_pure, Result.andThen_ok, run_loadVar_row w g t ty cs fr d (hS w hw') hu hd hi]⟩

theorem exec_build {o : Oper} {ac : Act} (d0 d1 : Tmp) (ho : o.op = .build 72 #[(0, .tmp d0), (1, .tmp d1)]) (a : Nat) (l : List UInt8) (hl : l.length = 256) (h0 : ac.eval (.tmp d0) = .int .u32 (a : Int)) (h1 : ac.eval (.tmp d1) = .agg (cellsOf l)) (w : World) :
    (execOp ac.eval o).run Try.prog w = .ok (.value (.agg (putCells (a, l)).toArray)) w := by
  unfold execOp
  simp only [ho, List.map_toArray, List.map_cons, List.map_nil, h0, h1, Sem.run_bind, Sem.run_pure, run_build w _ _ _ (built_put a l hl), Result.andThen_ok]

/-- what the region keeps -/
def WBox (q0 q1 a : Nat) (l : List UInt8) (W : World) : Prop := W.cell? ⟨q0, 0, none⟩ = some (.int .u32 (a : Int)) ∧ Holds W q1 l

theorem WBox.alloc {q0 q1 a : Nat} {l : List UInt8} {W : World} (h : WBox q0 q1 a l W) (o : Obj) : WBox q0 q1 a l (W.alloc o) :=
  ⟨(World.cell?_of_block (w := W) (a := ⟨q0, 0, none⟩) (Below.heap_alloc W o q0 (World.block_lt_of_cell? W _ h.1))).trans h.1, h.2.alloc o⟩

set_option linter.unusedSimpArgs false in
set_option maxRecDepth 100000 in
set_option maxHeartbeats 3200000 in
theorem write1_any {w : World} {p : Nat} {B : List Nat} {s : DS} (hd : Dev w p B s) {q0 q1 a : Nat} {l : List UInt8} (ha : a < 4294967296) (hl : l.length = 256) (h0 : w.cell? ⟨q0, 0, none⟩ = some (.int .u32 (a : Int))) (h1 : Holds w q1 l) (hq0 : q0 ∉ B ∧ q0 < w.heap.size) (hq1 : q1 ∉ B) (hlen : s.pend.length < 4294967296) :
    Calls Try.prog 39 #[ptr p, .pointer (some ⟨q0, 0, none⟩), .pointer (some ⟨q1, 0, none⟩)] w fun e w' => e = .returned (.bool true) ∧ ∃ C, Dev w' p C { s with pend := s.pend ++ [(a, l)] } ∧ Step B w w' C := by
  obtain ⟨bm, pv, h⟩ := hd
  have hi := sizeBlock l hl
  obtain ⟨i0, hi0, hz0, hz1, hz2⟩ := info_parts infoPut
  have hl1 := putCells_length (x := (a, l)) hl
  have hS : WBox q0 q1 a l w.drew := ⟨h0, h1⟩
  have h' := h.drew
  have hst : Turn B w w.drew := (Turn.refl _ _).drew
  have hq0' : q0 ∉ B ∧ q0 < w.drew.heap.size := hq0
  have c2 : w.drew.cell? ⟨p, 2, none⟩ = some pv := h'.cell 2
  clear h h0 h1
  go_enter Try.func39, Try.ntmps39
  unfold ptr
  go_wp2_with fail
  refine wp_region_noPanic ?_
  refine wp_region_held_drew (S := WBox q0 q1 a l) (by kernel_rfl) hS ?_
  intro hS
  generalize w.drew = V at hS h' hst c2 hq0' ⊢
  refine wpAnyH_take (i := 0) (v := .pointer (some ⟨p, 0, none⟩)) rfl (by kernel_rfl) (by kernel_rfl) (by kernel_rfl) (fun _ _ _ h => (h : False).elim) (Or.inl ⟨by rfl, fun _ _ => by go_simp⟩) hS ?_
  change wpAnyH _ _ _ _ _ _ _ (Act.put _ (some 5) _) _
  simp only [Act.put, List.setIfInBounds_toArray, List.set_cons_succ, List.set_cons_zero]
  refine wpAnyH_take (i := 1) (v := .pointer (some ⟨p, 0, none⟩)) rfl (by kernel_rfl) (by kernel_rfl) (by kernel_rfl) (fun _ _ _ h => (h : False).elim) (Or.inl ⟨by rfl, fun _ _ => by go_simp⟩) hS ?_
  change wpAnyH _ _ _ _ _ _ _ (Act.put _ (some 6) _) _
  simp only [Act.put, List.setIfInBounds_toArray, List.set_cons_succ, List.set_cons_zero]
  refine wpAnyH_take (i := 2) (v := .pointer (some ⟨p, 0, none⟩)) rfl (by kernel_rfl) (by kernel_rfl) (by kernel_rfl) (fun _ _ _ h => (h : False).elim) (Or.inl ⟨by rfl, fun _ _ => by go_simp⟩) hS ?_
  change wpAnyH _ _ _ _ _ _ _ (Act.put _ (some 7) _) _
  simp only [Act.put, List.setIfInBounds_toArray, List.set_cons_succ, List.set_cons_zero]
  refine wpAnyH_take (i := 3) (v := .pointer (some ⟨p, 2, none⟩)) rfl (by kernel_rfl) (by kernel_rfl) (by kernel_rfl) (fun _ _ _ h => (h : False).elim) (Or.inl ⟨by rfl, fun _ _ => by go_simp⟩) hS ?_
  change wpAnyH _ _ _ _ _ _ _ (Act.put _ (some 8) _) _
  simp only [Act.put, List.setIfInBounds_toArray, List.set_cons_succ, List.set_cons_zero]
  refine wpAnyH_take (i := 5) (v := .int .u32 (a : Int)) rfl (by kernel_rfl) (by kernel_rfl) (by kernel_rfl) (fun _ _ _ h => (h : False).elim) (Or.inl ⟨by rfl, fun w hw => by have c3 := hw.1; go_simp⟩) hS ?_
  change wpAnyH _ _ _ _ _ _ _ (Act.put _ (some 10) _) _
  simp only [Act.put, List.setIfInBounds_toArray, List.set_cons_succ, List.set_cons_zero]
  refine wpAnyH_take (i := 6) (v := .agg (cellsOf l)) rfl (by kernel_rfl) (by kernel_rfl) (by kernel_rfl) (fun _ _ _ h => (h : False).elim) (yieldsIf_load_row (by rfl) 47 _ rfl q1 rfl _ _ _ _ (fun _ h => h.2) Try.underlying47 rfl hi) hS ?_
  change wpAnyH _ _ _ _ _ _ _ (Act.put _ (some 11) _) _
  simp only [Act.put, List.setIfInBounds_toArray, List.set_cons_succ, List.set_cons_zero]
  refine wpAnyH_take (i := 7) (v := .agg (putCells (a, l)).toArray) rfl (by kernel_rfl) (by kernel_rfl) (by kernel_rfl) (fun _ _ _ h => (h : False).elim) (Or.inl ⟨by rfl, fun w _ => exec_build 10 11 rfl a l hl rfl rfl w⟩) hS ?_
  change wpAnyH _ _ _ _ _ _ _ (Act.put _ (some 12) _) _
  simp only [Act.put, List.setIfInBounds_toArray, List.set_cons_succ, List.set_cons_zero]
  refine wpAnyH_ready (rs := [4, 8]) (by kernel_rfl) (by simp) ?_
  refine AllReadyH.cons rfl (fun K hK => ?_) (AllReadyH.cons rfl (fun K hK => ?_) AllReadyH.nil)
  · rw [if_pos (by rfl)]
    go_simp
    refine hK.out _ _ hS (fun _ => ?_)
    clear hK K
    refine wpAnyH_ready (rs := [8]) (by kernel_rfl) (by simp) ?_
    refine AllReadyH.cons rfl (fun K hK => ?_) AllReadyH.nil
    rw [if_pos (by rfl)]
    refine wp_new_put 12 rfl (a, l) hl rfl ?_
    have hS2 := hS.alloc (.cells (putCells (a, l)).toArray 72)
    refine hK.out _ _ hS2 (fun _ => ?_)
    clear hK K
    change wpAnyH _ _ _ _ _ _ _ (Act.put _ (some 13) _) _
    simp only [Act.put, List.setIfInBounds_toArray, List.set_cons_succ, List.set_cons_zero]
    have hd1 := h'.alloc (.cells (putCells (a, l)).toArray 72)
    have hst1 : Step B w (V.alloc (.cells (putCells (a, l)).toArray 72)) B := Step.of_turn (hst.alloc _)
    have hnew : ∀ j u, (putCells (a, l))[j]? = some u → (V.alloc (.cells (putCells (a, l)).toArray 72)).cell? ((⟨V.heap.size, 0, none⟩ : Addr).add j) = some u := fun j u hj => by
      rw [Addr.add_mid, Nat.zero_add]
      exact (cell_of_row _ V.heap.size j _ _ _ (heap_alloc_new V _)).trans (by simpa using hj)
    have hq0s : q0 ∉ B ∧ q0 < (V.alloc (.cells (putCells (a, l)).toArray 72)).heap.size := ⟨hq0.1, by have := hq0'.2; simp; omega⟩
    clear h' hst c2
    generalize V.heap.size = b1 at hnew ⊢
    generalize V.alloc (.cells (putCells (a, l)).toArray 72) = V1 at hS2 hd1 hst1 hnew hq0s ⊢
    have hown := hd1.row
    refine wpAnyH_ready (rs := [9]) (by kernel_rfl) (by simp) ?_
    refine AllReadyH.cons rfl (fun K hK => ?_) AllReadyH.nil
    rw [if_pos (by rfl)]
    refine wp_append_lies V1 _ _ 33 (by rfl) 0 72 i0 (.agg (putCells (0, zeros)).toArray) 257 260 Try.underlying33 hi0 hz0 hz1 hz2 (size_of_putCells zeros_length) (by omega) pv s.pend.length (pendCells s.pend) (by rfl) hown ⟨b1, 0, none⟩ 1 1 (putCells (a, l)) (by rfl) (by rw [hl1]) hnew (putCells_one _) (by omega) (by unfold maxLen; omega) (by omega) (Nat.zero_le _) V1.heap.size rfl ?_
    intro g cap w1 hown1 hgrow hat hlt
    obtain ⟨hdev, hstep, c2n, f2n⟩ := hd1.pushed ha hl hown1 hgrow hat hlt
    have hS3 : WBox q0 q1 a l w1 := ⟨(World.cell?_of_block (w := V1) (a := ⟨q0, 0, none⟩) (hgrow.block q0 hq0s.2 (fun e => hq0s.1 (hd1.inR q0 e.symm)))).trans hS2.1, (hgrow.block q1 hS2.2.lt (fun e => hq1 (hd1.inR q1 e.symm))).trans hS2.2⟩
    refine hK.out _ _ hS3 (fun hS => ?_)
    clear hK K hgrow hown1 hat hown hS2 hS3 hnew hq0'
    refine wpAnyH_take (i := 10) (v := .pointer (some ⟨p, 0, none⟩)) rfl (by kernel_rfl) (by kernel_rfl) (by kernel_rfl) (fun _ _ _ h => (h : False).elim) (Or.inl ⟨by rfl, fun _ _ => by go_simp⟩) hS ?_
    change wpAnyH _ _ _ _ _ _ _ (Act.put _ (some 15) _) _
    simp only [Act.put, List.setIfInBounds_toArray, List.set_cons_succ, List.set_cons_zero]
    refine wpAnyH_take (i := 11) (v := .pointer (some ⟨p, 2, none⟩)) rfl (by kernel_rfl) (by kernel_rfl) (by kernel_rfl) (fun _ _ _ h => (h : False).elim) (Or.inl ⟨by rfl, fun _ _ => by go_simp⟩) hS ?_
    change wpAnyH _ _ _ _ _ _ _ (Act.put _ (some 16) _) _
    simp only [Act.put, List.setIfInBounds_toArray, List.set_cons_succ, List.set_cons_zero]
    refine wpAnyH_ready (rs := [12]) (by kernel_rfl) (by simp) ?_
    refine AllReadyH.cons rfl (fun K hK => ?_) AllReadyH.nil
    rw [if_pos (by rfl)]
    go_simp
    have hS4 : WBox q0 q1 a l (w1.setCell ⟨p, 2, none⟩ (.slice (some ⟨g, 0, none⟩) (s.pend.length + 1) cap)) := ⟨(World.cell?_of_block (w := w1) (a := ⟨q0, 0, none⟩) (heap_setCell_other w1 ⟨p, 2, none⟩ q0 _ (fun e => hq0.1 (by have e' : q0 = p := e; rw [e']; exact hd1.inP)))).trans hS.1, (heap_setCell_other w1 ⟨p, 2, none⟩ q1 _ (fun e => hq1 (by have e' : q1 = p := e; rw [e']; exact hd1.inP))).trans hS.2⟩
    refine hK.out _ _ hS4 (fun _ => ?_)
    clear hK K
    have hs2 := hst1.trans hstep
    clear hd1 hstep hst1 c2n f2n hS hS4
    refine wpAnyH_done (by kernel_rfl) ?_ _
    refine NoPanic.normal ?_
    generalize w1.setCell ⟨p, 2, none⟩ (.slice (some ⟨g, 0, none⟩) (s.pend.length + 1) cap) = W9 at hdev hs2 ⊢
    go_wp2
    go_ret
    exact ⟨rfl, _, ⟨bm, _, hdev⟩, hs2⟩
  · rw [if_pos (by rfl)]
    refine wp_new_put 12 rfl (a, l) hl rfl ?_
    have hS2 := hS.alloc (.cells (putCells (a, l)).toArray 72)
    refine hK.out _ _ hS2 (fun _ => ?_)
    clear hK K
    change wpAnyH _ _ _ _ _ _ _ (Act.put _ (some 13) _) _
    simp only [Act.put, List.setIfInBounds_toArray, List.set_cons_succ, List.set_cons_zero]
    have c2' : (V.alloc (.cells (putCells (a, l)).toArray 72)).cell? ⟨p, 2, none⟩ = some pv := (h'.alloc _).cell 2
    refine wpAnyH_ready (rs := [4]) (by kernel_rfl) (by simp) ?_
    refine AllReadyH.cons rfl (fun K hK => ?_) AllReadyH.nil
    rw [if_pos (by rfl)]
    go_simp
    refine hK.out _ _ hS2 (fun _ => ?_)
    clear hK K c2'
    have hd1 := h'.alloc (.cells (putCells (a, l)).toArray 72)
    have hst1 : Step B w (V.alloc (.cells (putCells (a, l)).toArray 72)) B := Step.of_turn (hst.alloc _)
    have hnew : ∀ j u, (putCells (a, l))[j]? = some u → (V.alloc (.cells (putCells (a, l)).toArray 72)).cell? ((⟨V.heap.size, 0, none⟩ : Addr).add j) = some u := fun j u hj => by
      rw [Addr.add_mid, Nat.zero_add]
      exact (cell_of_row _ V.heap.size j _ _ _ (heap_alloc_new V _)).trans (by simpa using hj)
    have hq0s : q0 ∉ B ∧ q0 < (V.alloc (.cells (putCells (a, l)).toArray 72)).heap.size := ⟨hq0.1, by have := hq0'.2; simp; omega⟩
    clear h' hst c2
    generalize V.heap.size = b1 at hnew ⊢
    generalize V.alloc (.cells (putCells (a, l)).toArray 72) = V1 at hS2 hd1 hst1 hnew hq0s ⊢
    have hown := hd1.row
    refine wpAnyH_ready (rs := [9]) (by kernel_rfl) (by simp) ?_
    refine AllReadyH.cons rfl (fun K hK => ?_) AllReadyH.nil
    rw [if_pos (by rfl)]
    refine wp_append_lies V1 _ _ 33 (by rfl) 0 72 i0 (.agg (putCells (0, zeros)).toArray) 257 260 Try.underlying33 hi0 hz0 hz1 hz2 (size_of_putCells zeros_length) (by omega) pv s.pend.length (pendCells s.pend) (by rfl) hown ⟨b1, 0, none⟩ 1 1 (putCells (a, l)) (by rfl) (by rw [hl1]) hnew (putCells_one _) (by omega) (by unfold maxLen; omega) (by omega) (Nat.zero_le _) V1.heap.size rfl ?_
    intro g cap w1 hown1 hgrow hat hlt
    obtain ⟨hdev, hstep, c2n, f2n⟩ := hd1.pushed ha hl hown1 hgrow hat hlt
    have hS3 : WBox q0 q1 a l w1 := ⟨(World.cell?_of_block (w := V1) (a := ⟨q0, 0, none⟩) (hgrow.block q0 hq0s.2 (fun e => hq0s.1 (hd1.inR q0 e.symm)))).trans hS2.1, (hgrow.block q1 hS2.2.lt (fun e => hq1 (hd1.inR q1 e.symm))).trans hS2.2⟩
    refine hK.out _ _ hS3 (fun hS => ?_)
    clear hK K hgrow hown1 hat hown hS2 hS3 hnew hq0'
    refine wpAnyH_take (i := 10) (v := .pointer (some ⟨p, 0, none⟩)) rfl (by kernel_rfl) (by kernel_rfl) (by kernel_rfl) (fun _ _ _ h => (h : False).elim) (Or.inl ⟨by rfl, fun _ _ => by go_simp⟩) hS ?_
    change wpAnyH _ _ _ _ _ _ _ (Act.put _ (some 15) _) _
    simp only [Act.put, List.setIfInBounds_toArray, List.set_cons_succ, List.set_cons_zero]
    refine wpAnyH_take (i := 11) (v := .pointer (some ⟨p, 2, none⟩)) rfl (by kernel_rfl) (by kernel_rfl) (by kernel_rfl) (fun _ _ _ h => (h : False).elim) (Or.inl ⟨by rfl, fun _ _ => by go_simp⟩) hS ?_
    change wpAnyH _ _ _ _ _ _ _ (Act.put _ (some 16) _) _
    simp only [Act.put, List.setIfInBounds_toArray, List.set_cons_succ, List.set_cons_zero]
    refine wpAnyH_ready (rs := [12]) (by kernel_rfl) (by simp) ?_
    refine AllReadyH.cons rfl (fun K hK => ?_) AllReadyH.nil
    rw [if_pos (by rfl)]
    go_simp
    have hS4 : WBox q0 q1 a l (w1.setCell ⟨p, 2, none⟩ (.slice (some ⟨g, 0, none⟩) (s.pend.length + 1) cap)) := ⟨(World.cell?_of_block (w := w1) (a := ⟨q0, 0, none⟩) (heap_setCell_other w1 ⟨p, 2, none⟩ q0 _ (fun e => hq0.1 (by have e' : q0 = p := e; rw [e']; exact hd1.inP)))).trans hS.1, (heap_setCell_other w1 ⟨p, 2, none⟩ q1 _ (fun e => hq1 (by have e' : q1 = p := e; rw [e']; exact hd1.inP))).trans hS.2⟩
    refine hK.out _ _ hS4 (fun _ => ?_)
    clear hK K
    have hs2 := hst1.trans hstep
    clear hd1 hstep hst1 c2n f2n hS hS4
    refine wpAnyH_done (by kernel_rfl) ?_ _
    refine NoPanic.normal ?_
    generalize w1.setCell ⟨p, 2, none⟩ (.slice (some ⟨g, 0, none⟩) (s.pend.length + 1) cap) = W9 at hdev hs2 ⊢
    go_wp2
    go_ret
    exact ⟨rfl, _, ⟨bm, _, hdev⟩, hs2⟩

end Go.Proofs.Ytlgjgobelceheaa.Dev
