/-
  The walk of slot.fields: the places of a root's fields.
-/
import Derived.Test.YtdlgdnmmeopkjaaSltPlaces
namespace Go.Proofs.Ytdlgdnmmeopkjaa.Slt
open Go.RowKit RowLaw Crc Fld
set_option maxRecDepth 100000

/-- pointers to n cells of block p, from cell k on -/
def PtrsAt (p k n : Nat) (v : Value) (W : World) : Prop := ∃ u, v = .slice (some ⟨u, 0, none⟩) n n ∧ u < W.heap.size ∧ ∀ j, j < n → W.cell? ⟨u, j, none⟩ = some (.pointer (some ⟨p, k + j, none⟩))
theorem PtrsAt.below {p k n : Nat} {v : Value} {W W' : World} (h : PtrsAt p k n v W) (hb : Below W.heap.size W W') : PtrsAt p k n v W' := by
  obtain ⟨u, rfl, hu, hc⟩ := h
  exact ⟨u, rfl, Nat.lt_of_lt_of_le hu hb.size, fun j hj => (hb.cell (p := ⟨u, j, none⟩) hu).trans (hc j hj)⟩
def fact (w : World) (p : Nat) : Nat → Value → World → Prop
  | 3, v, W => PtrsAt p 0 1 v W
  | 4, v, W => OwnP w.heap.size (pls 92 p 0 1 8) v W
  | 23, v, W => PtrsAt p 1 6 v W
  | 24, v, W => OwnP w.heap.size (pls 95 p 1 6 4) v W
  | 28, v, W => PtrsAt p 7 1 v W
  | 29, v, W => OwnP w.heap.size (pls 98 p 7 1 1) v W
  | _, _, _ => False
theorem fact_stays (w : World) (p : Nat) (i : Nat) (v : Value) (W W' : World) (h : fact w p i v W) (hb : Below W.heap.size W W') : fact w p i v W' := by
  unfold fact at h ⊢
  split at h
  · exact PtrsAt.below h hb
  · exact OwnP.below h hb
  · exact PtrsAt.below h hb
  · exact OwnP.below h hb
  · exact PtrsAt.below h hb
  · exact OwnP.below h hb
  · exact h.elim
theorem nils (n : Nat) : (Array.range (n * 1)).map (fun i => (Value.pointer none).cells[i % (Value.pointer none).cells.size]!) = Array.replicate n (.pointer none) := by
  apply Array.ext
  · simp
  · intro i h1 h2
    simp [Value.cells, Nat.mod_one]
theorem ptr1 (T E : TypeId) (hT : Try.prog.underlying T = some (.slice E)) (hi : (Try.prog.info? E).map (fun i => (i.zero, i.size)) = some (some (.pointer none), 1)) (p k : Nat) (W : World) :
    (Instr.buildSlice T 1 #[(0, .pointer (some ⟨p, k, none⟩))]).run Try.prog W = .ok (.slice (some ⟨W.heap.size, 0, none⟩) 1 1) (W.alloc (.cells #[.pointer (some ⟨p, k, none⟩)] E)) := by
  have hz := zero_of_info hi
  obtain ⟨it, hit, hzz, hs⟩ : ∃ it, Try.prog.info? E = some it ∧ it.zero = some (.pointer none) ∧ it.size = 1 := by
    cases h : Try.prog.info? E with
    | none => rw [h] at hi; cases hi
    | some it => rw [h] at hi; simp only [Option.map_some, Option.some.injEq, Prod.mk.injEq] at hi; exact ⟨it, rfl, hi.1, hi.2⟩
  refine run_buildSlice W _ _ 1 _ #[.pointer (some ⟨p, k, none⟩)] it _ hT hit hzz (by rw [hs]; omega) (by rw [hs]; omega) ?_
  rw [hs, nils]
  rfl
theorem ptr6 (p : Nat) (W : World) :
    (Instr.buildSlice 93 6 #[(0, .pointer (some ⟨p, 1, none⟩)), (1, .pointer (some ⟨p, 2, none⟩)), (2, .pointer (some ⟨p, 3, none⟩)), (3, .pointer (some ⟨p, 4, none⟩)), (4, .pointer (some ⟨p, 5, none⟩)), (5, .pointer (some ⟨p, 6, none⟩))]).run Try.prog W = .ok (.slice (some ⟨W.heap.size, 0, none⟩) 6 6) (W.alloc (.cells #[.pointer (some ⟨p, 1, none⟩), .pointer (some ⟨p, 2, none⟩), .pointer (some ⟨p, 3, none⟩), .pointer (some ⟨p, 4, none⟩), .pointer (some ⟨p, 5, none⟩), .pointer (some ⟨p, 6, none⟩)] 75)) := by
  have hi : (Try.prog.info? 75).map (fun i => (i.zero, i.size)) = some (some (.pointer none), 1) := by kernel_rfl
  obtain ⟨it, hit, hzz, hs⟩ : ∃ it, Try.prog.info? 75 = some it ∧ it.zero = some (.pointer none) ∧ it.size = 1 := by
    cases h : Try.prog.info? 75 with
    | none => rw [h] at hi; cases hi
    | some it => rw [h] at hi; simp only [Option.map_some, Option.some.injEq, Prod.mk.injEq] at hi; exact ⟨it, rfl, hi.1, hi.2⟩
  refine run_buildSlice W _ _ 6 _ #[.pointer (some ⟨p, 1, none⟩), .pointer (some ⟨p, 2, none⟩), .pointer (some ⟨p, 3, none⟩), .pointer (some ⟨p, 4, none⟩), .pointer (some ⟨p, 5, none⟩), .pointer (some ⟨p, 6, none⟩)] it _ Try.underlying93 hit hzz (by rw [hs]; omega) (by rw [hs]; omega) ?_
  rw [hs, nils, show Array.replicate 6 (Value.pointer none) = #[.pointer none, .pointer none, .pointer none, .pointer none, .pointer none, .pointer none] from rfl]
  simp [Instr.fill, Value.cells]
theorem ptrs1 (p k : Nat) (E : TypeId) (W : World) : PtrsAt p k 1 (.slice (some ⟨W.heap.size, 0, none⟩) 1 1) (W.alloc (.cells #[.pointer (some ⟨p, k, none⟩)] E)) :=
  ⟨W.heap.size, rfl, by simp, fun j hj => (cell_of_row _ W.heap.size j _ _ _ (heap_alloc_new W _)).trans (by obtain rfl : j = 0 := by omega
                                                                                                             rfl)⟩
theorem ptrs6 (p : Nat) (W : World) : PtrsAt p 1 6 (.slice (some ⟨W.heap.size, 0, none⟩) 6 6) (W.alloc (.cells #[.pointer (some ⟨p, 1, none⟩), .pointer (some ⟨p, 2, none⟩), .pointer (some ⟨p, 3, none⟩), .pointer (some ⟨p, 4, none⟩), .pointer (some ⟨p, 5, none⟩), .pointer (some ⟨p, 6, none⟩)] 75)) :=
  ⟨W.heap.size, rfl, by simp, fun j hj => (cell_of_row _ W.heap.size j _ _ _ (heap_alloc_new W _)).trans (by
    rcases (by omega : j = 0 ∨ j = 1 ∨ j = 2 ∨ j = 3 ∨ j = 4 ∨ j = 5) with rfl | rfl | rfl | rfl | rfl | rfl <;> rfl)⟩

/-- the places of a root's fields -/
def fieldPls (p : Nat) : List Pl := [pls 92 p 0 1 8, pls 95 p 1 6 4, pls 98 p 7 1 1].flatten
theorem fieldPls_length (p : Nat) : (fieldPls p).length = 8 := rfl

set_option maxHeartbeats 6400000 in
theorem fields_any (p : Nat) (w : World) :
    Calls Try.prog 18 #[.pointer (some ⟨p, 0, none⟩)] w fun e w' => ∃ v, e = .returned v ∧ OwnP w.heap.size (fieldPls p) v w' ∧ Below w.heap.size w w' := by
  go_enter Try.func18, Try.ntmps18
  go_upto_region 1 with fail
  refine wp_region_noPanic ?_
  refine wp_region_held_drew (S := fun W => Below w.heap.size w W) (by kernel_rfl) (Below.refl _ _).drew ?_
  intro hS
  generalize w.drew = W0 at hS ⊢
  refine wpAnyH_take (i := 0) (v := .pointer (some ⟨p, 0, none⟩)) rfl (by kernel_rfl) (by kernel_rfl) (by kernel_rfl) (fun _ _ _ h => (h : False).elim) (Or.inl ⟨by rfl, fun _ _ => by go_simp⟩) hS ?_
  change wpAnyH _ _ _ _ _ _ _ (Act.put _ (some 3) _) _
  simp only [Act.put, List.setIfInBounds_toArray, List.set_cons_succ, List.set_cons_zero]
  refine wpAnyH_take (i := 1) (v := .pointer (some ⟨p, 0, none⟩)) rfl (by kernel_rfl) (by kernel_rfl) (by kernel_rfl) (fun _ _ _ h => (h : False).elim) (Or.inl ⟨by rfl, fun _ _ => by go_simp⟩) hS ?_
  change wpAnyH _ _ _ _ _ _ _ (Act.put _ (some 4) _) _
  simp only [Act.put, List.setIfInBounds_toArray, List.set_cons_succ, List.set_cons_zero]
  refine wpAnyH_take (i := 2) (v := .pointer (some ⟨p, 0, none⟩)) rfl (by kernel_rfl) (by kernel_rfl) (by kernel_rfl) (fun _ _ _ h => (h : False).elim) (Or.inl ⟨by rfl, fun _ _ => by go_simp⟩) hS ?_
  change wpAnyH _ _ _ _ _ _ _ (Act.put _ (some 5) _) _
  simp only [Act.put, List.setIfInBounds_toArray, List.set_cons_succ, List.set_cons_zero]
  refine wpAnyH_take (i := 5) (v := .pointer (some ⟨p, 0, none⟩)) rfl (by kernel_rfl) (by kernel_rfl) (by kernel_rfl) (fun _ _ _ h => (h : False).elim) (Or.inl ⟨by rfl, fun _ _ => by go_simp⟩) hS ?_
  change wpAnyH _ _ _ _ _ _ _ (Act.put _ (some 8) _) _
  simp only [Act.put, List.setIfInBounds_toArray, List.set_cons_succ, List.set_cons_zero]
  refine wpAnyH_take (i := 6) (v := .pointer (some ⟨p, 0, none⟩)) rfl (by kernel_rfl) (by kernel_rfl) (by kernel_rfl) (fun _ _ _ h => (h : False).elim) (Or.inl ⟨by rfl, fun _ _ => by go_simp⟩) hS ?_
  change wpAnyH _ _ _ _ _ _ _ (Act.put _ (some 9) _) _
  simp only [Act.put, List.setIfInBounds_toArray, List.set_cons_succ, List.set_cons_zero]
  refine wpAnyH_take (i := 7) (v := .pointer (some ⟨p, 1, none⟩)) rfl (by kernel_rfl) (by kernel_rfl) (by kernel_rfl) (fun _ _ _ h => (h : False).elim) (Or.inl ⟨by rfl, fun _ _ => by go_simp⟩) hS ?_
  change wpAnyH _ _ _ _ _ _ _ (Act.put _ (some 10) _) _
  simp only [Act.put, List.setIfInBounds_toArray, List.set_cons_succ, List.set_cons_zero]
  refine wpAnyH_take (i := 8) (v := .pointer (some ⟨p, 0, none⟩)) rfl (by kernel_rfl) (by kernel_rfl) (by kernel_rfl) (fun _ _ _ h => (h : False).elim) (Or.inl ⟨by rfl, fun _ _ => by go_simp⟩) hS ?_
  change wpAnyH _ _ _ _ _ _ _ (Act.put _ (some 11) _) _
  simp only [Act.put, List.setIfInBounds_toArray, List.set_cons_succ, List.set_cons_zero]
  refine wpAnyH_take (i := 9) (v := .pointer (some ⟨p, 0, none⟩)) rfl (by kernel_rfl) (by kernel_rfl) (by kernel_rfl) (fun _ _ _ h => (h : False).elim) (Or.inl ⟨by rfl, fun _ _ => by go_simp⟩) hS ?_
  change wpAnyH _ _ _ _ _ _ _ (Act.put _ (some 12) _) _
  simp only [Act.put, List.setIfInBounds_toArray, List.set_cons_succ, List.set_cons_zero]
  refine wpAnyH_take (i := 10) (v := .pointer (some ⟨p, 2, none⟩)) rfl (by kernel_rfl) (by kernel_rfl) (by kernel_rfl) (fun _ _ _ h => (h : False).elim) (Or.inl ⟨by rfl, fun _ _ => by go_simp⟩) hS ?_
  change wpAnyH _ _ _ _ _ _ _ (Act.put _ (some 13) _) _
  simp only [Act.put, List.setIfInBounds_toArray, List.set_cons_succ, List.set_cons_zero]
  refine wpAnyH_take (i := 11) (v := .pointer (some ⟨p, 0, none⟩)) rfl (by kernel_rfl) (by kernel_rfl) (by kernel_rfl) (fun _ _ _ h => (h : False).elim) (Or.inl ⟨by rfl, fun _ _ => by go_simp⟩) hS ?_
  change wpAnyH _ _ _ _ _ _ _ (Act.put _ (some 14) _) _
  simp only [Act.put, List.setIfInBounds_toArray, List.set_cons_succ, List.set_cons_zero]
  refine wpAnyH_take (i := 12) (v := .pointer (some ⟨p, 0, none⟩)) rfl (by kernel_rfl) (by kernel_rfl) (by kernel_rfl) (fun _ _ _ h => (h : False).elim) (Or.inl ⟨by rfl, fun _ _ => by go_simp⟩) hS ?_
  change wpAnyH _ _ _ _ _ _ _ (Act.put _ (some 15) _) _
  simp only [Act.put, List.setIfInBounds_toArray, List.set_cons_succ, List.set_cons_zero]
  refine wpAnyH_take (i := 13) (v := .pointer (some ⟨p, 3, none⟩)) rfl (by kernel_rfl) (by kernel_rfl) (by kernel_rfl) (fun _ _ _ h => (h : False).elim) (Or.inl ⟨by rfl, fun _ _ => by go_simp⟩) hS ?_
  change wpAnyH _ _ _ _ _ _ _ (Act.put _ (some 16) _) _
  simp only [Act.put, List.setIfInBounds_toArray, List.set_cons_succ, List.set_cons_zero]
  refine wpAnyH_take (i := 14) (v := .pointer (some ⟨p, 0, none⟩)) rfl (by kernel_rfl) (by kernel_rfl) (by kernel_rfl) (fun _ _ _ h => (h : False).elim) (Or.inl ⟨by rfl, fun _ _ => by go_simp⟩) hS ?_
  change wpAnyH _ _ _ _ _ _ _ (Act.put _ (some 17) _) _
  simp only [Act.put, List.setIfInBounds_toArray, List.set_cons_succ, List.set_cons_zero]
  refine wpAnyH_take (i := 15) (v := .pointer (some ⟨p, 0, none⟩)) rfl (by kernel_rfl) (by kernel_rfl) (by kernel_rfl) (fun _ _ _ h => (h : False).elim) (Or.inl ⟨by rfl, fun _ _ => by go_simp⟩) hS ?_
  change wpAnyH _ _ _ _ _ _ _ (Act.put _ (some 18) _) _
  simp only [Act.put, List.setIfInBounds_toArray, List.set_cons_succ, List.set_cons_zero]
  refine wpAnyH_take (i := 16) (v := .pointer (some ⟨p, 4, none⟩)) rfl (by kernel_rfl) (by kernel_rfl) (by kernel_rfl) (fun _ _ _ h => (h : False).elim) (Or.inl ⟨by rfl, fun _ _ => by go_simp⟩) hS ?_
  change wpAnyH _ _ _ _ _ _ _ (Act.put _ (some 19) _) _
  simp only [Act.put, List.setIfInBounds_toArray, List.set_cons_succ, List.set_cons_zero]
  refine wpAnyH_take (i := 17) (v := .pointer (some ⟨p, 0, none⟩)) rfl (by kernel_rfl) (by kernel_rfl) (by kernel_rfl) (fun _ _ _ h => (h : False).elim) (Or.inl ⟨by rfl, fun _ _ => by go_simp⟩) hS ?_
  change wpAnyH _ _ _ _ _ _ _ (Act.put _ (some 20) _) _
  simp only [Act.put, List.setIfInBounds_toArray, List.set_cons_succ, List.set_cons_zero]
  refine wpAnyH_take (i := 18) (v := .pointer (some ⟨p, 0, none⟩)) rfl (by kernel_rfl) (by kernel_rfl) (by kernel_rfl) (fun _ _ _ h => (h : False).elim) (Or.inl ⟨by rfl, fun _ _ => by go_simp⟩) hS ?_
  change wpAnyH _ _ _ _ _ _ _ (Act.put _ (some 21) _) _
  simp only [Act.put, List.setIfInBounds_toArray, List.set_cons_succ, List.set_cons_zero]
  refine wpAnyH_take (i := 19) (v := .pointer (some ⟨p, 5, none⟩)) rfl (by kernel_rfl) (by kernel_rfl) (by kernel_rfl) (fun _ _ _ h => (h : False).elim) (Or.inl ⟨by rfl, fun _ _ => by go_simp⟩) hS ?_
  change wpAnyH _ _ _ _ _ _ _ (Act.put _ (some 22) _) _
  simp only [Act.put, List.setIfInBounds_toArray, List.set_cons_succ, List.set_cons_zero]
  refine wpAnyH_take (i := 20) (v := .pointer (some ⟨p, 0, none⟩)) rfl (by kernel_rfl) (by kernel_rfl) (by kernel_rfl) (fun _ _ _ h => (h : False).elim) (Or.inl ⟨by rfl, fun _ _ => by go_simp⟩) hS ?_
  change wpAnyH _ _ _ _ _ _ _ (Act.put _ (some 23) _) _
  simp only [Act.put, List.setIfInBounds_toArray, List.set_cons_succ, List.set_cons_zero]
  refine wpAnyH_take (i := 21) (v := .pointer (some ⟨p, 0, none⟩)) rfl (by kernel_rfl) (by kernel_rfl) (by kernel_rfl) (fun _ _ _ h => (h : False).elim) (Or.inl ⟨by rfl, fun _ _ => by go_simp⟩) hS ?_
  change wpAnyH _ _ _ _ _ _ _ (Act.put _ (some 24) _) _
  simp only [Act.put, List.setIfInBounds_toArray, List.set_cons_succ, List.set_cons_zero]
  refine wpAnyH_take (i := 22) (v := .pointer (some ⟨p, 6, none⟩)) rfl (by kernel_rfl) (by kernel_rfl) (by kernel_rfl) (fun _ _ _ h => (h : False).elim) (Or.inl ⟨by rfl, fun _ _ => by go_simp⟩) hS ?_
  change wpAnyH _ _ _ _ _ _ _ (Act.put _ (some 25) _) _
  simp only [Act.put, List.setIfInBounds_toArray, List.set_cons_succ, List.set_cons_zero]
  refine wpAnyH_take (i := 25) (v := .pointer (some ⟨p, 0, none⟩)) rfl (by kernel_rfl) (by kernel_rfl) (by kernel_rfl) (fun _ _ _ h => (h : False).elim) (Or.inl ⟨by rfl, fun _ _ => by go_simp⟩) hS ?_
  change wpAnyH _ _ _ _ _ _ _ (Act.put _ (some 28) _) _
  simp only [Act.put, List.setIfInBounds_toArray, List.set_cons_succ, List.set_cons_zero]
  refine wpAnyH_take (i := 26) (v := .pointer (some ⟨p, 0, none⟩)) rfl (by kernel_rfl) (by kernel_rfl) (by kernel_rfl) (fun _ _ _ h => (h : False).elim) (Or.inl ⟨by rfl, fun _ _ => by go_simp⟩) hS ?_
  change wpAnyH _ _ _ _ _ _ _ (Act.put _ (some 29) _) _
  simp only [Act.put, List.setIfInBounds_toArray, List.set_cons_succ, List.set_cons_zero]
  refine wpAnyH_take (i := 27) (v := .pointer (some ⟨p, 7, none⟩)) rfl (by kernel_rfl) (by kernel_rfl) (by kernel_rfl) (fun _ _ _ h => (h : False).elim) (Or.inl ⟨by rfl, fun _ _ => by go_simp⟩) hS ?_
  change wpAnyH _ _ _ _ _ _ _ (Act.put _ (some 30) _) _
  simp only [Act.put, List.setIfInBounds_toArray, List.set_cons_succ, List.set_cons_zero]
  refine wpAnyH_grow w [(4, 7), (3, 6), (24, 27), (23, 26), (29, 32), (28, 31)] [(4, 3), (24, 23), (29, 28)] (fact w p) 3 35 rfl (by kernel_rfl) rfl (by decide) (fact_stays w p) (fun _ h => h) hS ?_ ?_
  · intro i d hid a' W K hbel hold hdep hK
    simp only [List.mem_cons, Prod.mk.injEq, List.not_mem_nil, or_false] at hid
    rcases hid with ⟨rfl, rfl⟩ | ⟨rfl, rfl⟩ | ⟨rfl, rfl⟩ | ⟨rfl, rfl⟩ | ⟨rfl, rfl⟩ | ⟨rfl, rfl⟩
    · obtain ⟨u, hv, hu, hc⟩ := hdep 3 6 (by simp) (by simp)
      refine wpOp_row _ rfl rfl (wp_call_fn _ 30 #[.const (.int .i64 8), .tmp 6] _ rfl #[.int .i64 8, .slice (some ⟨u, 0, none⟩) 1 1] (by simp [hv]; rfl) (by simp [go_sem]) (places64_any p 0 1 8 u (by omega) W hu hc) ?_)
      rintro e W' ⟨v, rfl, ho, hb⟩
      exact ⟨v, rfl, hK _ _ hb (OwnP.mono ho hbel.size)⟩
    · refine wpOp_row _ rfl rfl (wp_slice_row _ 90 1 #[(0, .tmp 5)] rfl #[(0, .pointer (some ⟨p, 0, none⟩))] (by simp [hold 5 (by decide)]; rfl) _ (ptr1 _ 73 Try.underlying90 (by kernel_rfl) p 0 W) (hK _ _ ((Below.refl _ _).alloc (Nat.le_refl _) _) (ptrs1 p 0 _ W)))
    · obtain ⟨u, hv, hu, hc⟩ := hdep 23 26 (by simp) (by simp)
      refine wpOp_row _ rfl rfl (wp_call_fn _ 31 #[.const (.int .i64 4), .tmp 26] _ rfl #[.int .i64 4, .slice (some ⟨u, 0, none⟩) 6 6] (by simp [hv]; rfl) (by simp [go_sem]) (places32_any p 1 6 4 u (by omega) W hu hc) ?_)
      rintro e W' ⟨v, rfl, ho, hb⟩
      exact ⟨v, rfl, hK _ _ hb (OwnP.mono ho hbel.size)⟩
    · refine wpOp_row _ rfl rfl (wp_slice_row _ 93 6 #[(0, .tmp 10), (1, .tmp 13), (2, .tmp 16), (3, .tmp 19), (4, .tmp 22), (5, .tmp 25)] rfl #[(0, .pointer (some ⟨p, 1, none⟩)), (1, .pointer (some ⟨p, 2, none⟩)), (2, .pointer (some ⟨p, 3, none⟩)), (3, .pointer (some ⟨p, 4, none⟩)), (4, .pointer (some ⟨p, 5, none⟩)), (5, .pointer (some ⟨p, 6, none⟩))] (by simp [hold 10 (by decide), hold 13 (by decide), hold 16 (by decide), hold 19 (by decide), hold 22 (by decide), hold 25 (by decide)]; exact ⟨rfl, rfl, rfl, rfl, rfl, rfl⟩) _ (ptr6 p W) (hK _ _ ((Below.refl _ _).alloc (Nat.le_refl _) _) (ptrs6 p W)))
    · obtain ⟨u, hv, hu, hc⟩ := hdep 28 31 (by simp) (by simp)
      refine wpOp_row _ rfl rfl (wp_call_fn _ 32 #[.const (.int .i64 1), .tmp 31] _ rfl #[.int .i64 1, .slice (some ⟨u, 0, none⟩) 1 1] (by simp [hv]; rfl) (by simp [go_sem]) (places8_any p 7 1 1 u (by omega) W hu hc) ?_)
      rintro e W' ⟨v, rfl, ho, hb⟩
      exact ⟨v, rfl, hK _ _ hb (OwnP.mono ho hbel.size)⟩
    · refine wpOp_row _ rfl rfl (wp_slice_row _ 96 1 #[(0, .tmp 30)] rfl #[(0, .pointer (some ⟨p, 7, none⟩))] (by simp [hold 30 (by decide)]; rfl) _ (ptr1 _ 77 Try.underlying96 (by kernel_rfl) p 7 W) (hK _ _ ((Below.refl _ _).alloc (Nat.le_refl _) _) (ptrs1 p 7 _ W)))
  · intro f W hall hbel hfact
    obtain ⟨v3, h3⟩ := hall 3 6 (by simp)
    obtain ⟨v4, h4⟩ := hall 4 7 (by simp)
    obtain ⟨v23, h23⟩ := hall 23 26 (by simp)
    obtain ⟨v24, h24⟩ := hall 24 27 (by simp)
    obtain ⟨v28, h28⟩ := hall 28 31 (by simp)
    obtain ⟨v29, h29⟩ := hall 29 32 (by simp)
    have o4 : OwnP w.heap.size _ v4 W := hfact 4 v4 h4
    have o24 : OwnP w.heap.size _ v24 W := hfact 24 v24 h24
    have o29 : OwnP w.heap.size _ v29 W := hfact 29 v29 h29
    simp only [putsF, setB, isF, h3, h4, h23, h24, h28, h29, Option.isSome_some, if_true]
    simp only [Act.put, List.setIfInBounds_toArray, List.set_cons_succ, List.set_cons_zero]
    clear hall hfact h3 h4 h23 h24 h28 h29 hS
    have r4 := o4.row (by simp [pls])
    have r24 := o24.row (by simp [pls])
    have r29 := o29.row (by simp [pls])
    clear o4 o24 o29
    obtain ⟨g4, c4, rfl, _⟩ := id r4
    obtain ⟨g24, c24, rfl, _⟩ := id r24
    obtain ⟨g29, c29, rfl, _⟩ := id r29
    refine wpAnyH_ready (rs := [30]) (by kernel_rfl) (by simp) ?_
    refine AllReadyH.cons rfl (fun K hK => ?_) AllReadyH.nil
    rw [if_pos (by rfl)]
    go_simp
    refine hK _ _ (hbel.alloc hbel.size _) (fun hS => ?_)
    clear hK K
    have hu : (W.alloc (Obj.cells #[Value.slice (some ⟨g4, 0, none⟩) (pls 92 p 0 1 8).length c4, Value.slice (some ⟨g24, 0, none⟩) (pls 95 p 1 6 4).length c24, Value.slice (some ⟨g29, 0, none⟩) (pls 98 p 7 1 1).length c29] 47)).heap[W.heap.size]? = some (.cells [Value.slice (some ⟨g4, 0, none⟩) (pls 92 p 0 1 8).length c4, Value.slice (some ⟨g24, 0, none⟩) (pls 95 p 1 6 4).length c24, Value.slice (some ⟨g29, 0, none⟩) (pls 98 p 7 1 1).length c29].toArray 47 (0, 0)) := heap_alloc_new W _
    have hb2 : Below W.heap.size W (W.alloc (Obj.cells #[Value.slice (some ⟨g4, 0, none⟩) (pls 92 p 0 1 8).length c4, Value.slice (some ⟨g24, 0, none⟩) (pls 95 p 1 6 4).length c24, Value.slice (some ⟨g29, 0, none⟩) (pls 98 p 7 1 1).length c29] 47)) := (Below.refl _ _).alloc (Nat.le_refl _) _
    have q4 := r4.below hb2
    have q24 := r24.below hb2
    have q29 := r29.below hb2
    clear r4 r24 r29 hb2
    have hcon := concat_any [pls 92 p 0 1 8, pls 95 p 1 6 4, pls 98 p 7 1 1] [Value.slice (some ⟨g4, 0, none⟩) (pls 92 p 0 1 8).length c4, Value.slice (some ⟨g24, 0, none⟩) (pls 95 p 1 6 4).length c24, Value.slice (some ⟨g29, 0, none⟩) (pls 98 p 7 1 1).length c29] rfl (by simp) (by simp [pls]) (by simp [pls]) W.heap.size _ hu (fun i hi => by
      rcases (by simp at hi; omega : i = 0 ∨ i = 1 ∨ i = 2) with rfl | rfl | rfl
      · exact q4
      · exact q24
      · exact q29)
    clear q4 q24 q29 hu
    have hle : w.heap.size ≤ (W.alloc (Obj.cells #[Value.slice (some ⟨g4, 0, none⟩) (pls 92 p 0 1 8).length c4, Value.slice (some ⟨g24, 0, none⟩) (pls 95 p 1 6 4).length c24, Value.slice (some ⟨g29, 0, none⟩) (pls 98 p 7 1 1).length c29] 47)).heap.size := by simp; have := hbel.size; omega
    generalize W.alloc (Obj.cells #[Value.slice (some ⟨g4, 0, none⟩) (pls 92 p 0 1 8).length c4, Value.slice (some ⟨g24, 0, none⟩) (pls 95 p 1 6 4).length c24, Value.slice (some ⟨g29, 0, none⟩) (pls 98 p 7 1 1).length c29] 47) = W2 at hcon hS hle ⊢
    have HC := Lib.hid hcon; clear hcon
    refine wpAnyH_ready (rs := [31]) (by kernel_rfl) (by simp) ?_
    refine AllReadyH.cons rfl (fun K hK => ?_) AllReadyH.nil
    rw [if_pos (by rfl)]
    go_simp
    refine (HC.out).mono ?_
    rintro e W3 ⟨v, rfl, ho, hb⟩
    dsimp only
    have hb3 := Below.trans hS (hb.mono hle)
    refine hK _ _ hb3 (fun hS => ?_)
    clear hK K
    refine wpAnyH_take (i := 32) (v := v) rfl (by kernel_rfl) (by kernel_rfl) (by kernel_rfl) (fun _ _ _ h => (h : False).elim) (Or.inl ⟨by rfl, fun _ _ => by go_simp⟩) hS ?_
    change wpAnyH _ _ _ _ _ _ _ (Act.put _ (some 2) _) _
    simp only [Act.put, List.setIfInBounds_toArray, List.set_cons_succ, List.set_cons_zero]
    refine wpAnyH_done (by kernel_rfl) ?_ _
    refine NoPanic.normal ?_
    have HO : Hid (OwnP w.heap.size (fieldPls p) v W3) := Lib.hid (OwnP.mono ho hle)
    clear ho
    go_wp2
    go_ret
    exact ⟨v, rfl, HO.out, hb3⟩

end Go.Proofs.Ytdlgdnmmeopkjaa.Slt
