/-
  Copy.
-/
import Derived.Test.YtlgjgobelceheaaDevRead
import Derived.Laws.Externs
import Derived.Laws.Cover3
namespace Go.Proofs.Ytlgjgobelceheaa.Dev
open Go.RowKit RowLaw

set_option maxHeartbeats 1600000 in
theorem mapsClone_any {w : World} {bm : Nat} {g : Nat → List UInt8} (h : MapIs w bm g) :
    Calls Try.prog 28 #[.map (some bm)] w fun e w' => ∃ b, e = .returned (.map (some b)) ∧ MapIs w' b g ∧ w.heap.size ≤ b ∧ Below w.heap.size w w' := by
  obtain ⟨w2, hrun, hm2, hg2, hs2⟩ := h.clone (P := Try.prog) 52
  have hb : Below w.heap.size w w2 := ⟨hg2.os, hg2.tape, hg2.output, hg2.size, fun k hk => hg2.block k hk (by simp)⟩
  have hq : ∀ W : World, (binOp .eql 52 (.map (some bm)) (.map none)).run Try.prog W = .ok (.bool false) W := fun W => by
    simp only [binOp]
    simp [run_equal_map_nil W _ _ _ (some bm) Try.underlying52]
  have hc : (callFunc 45 #[.iface 52 (.map (some bm))]).run Try.prog w = .ok (.value (.iface 52 (.map (some w.heap.size)))) w2 := by
    rw [run_callFunc_extern Try.func45 (by kernel_rfl) (by kernel_rfl) (by kernel_rfl) (e := Extern.MapsClone.clone) (by kernel_rfl), hrun]
    rfl
  have ht : ∀ (v : Value) (W : World), (Instr.typeAssert (.iface 52 v) 20 52 false).run Try.prog W = .ok v W := fun v W => by
    simp [Instr.typeAssert, run_underlying Try.underlying52, go_sem, Result.andThen]
  go_enter Try.func28, Try.ntmps28
  go_wp2
  go_ret
  exact ⟨_, rfl, hm2, Nat.le_refl _, hb⟩

set_option maxHeartbeats 1600000 in
theorem slicesClone_any {w : World} {pv : Value} {n : Nat} {xs : List Value} (h : w.ownsRow 0 72 257 pv n xs) (hn : n < 4294967296) (h1 : ∀ u ∈ xs, u.oneCell' = true) :
    Calls Try.prog 29 #[pv] w fun e w' => ∃ v, e = .returned v ∧ w'.ownsRow w.heap.size 72 257 v n xs ∧ Below w.heap.size w w' := by
  obtain ⟨i0, hi0, hz0, hz1, hz2⟩ := info_parts infoPut
  have hq : ∀ (a : Option Addr) (l c : Nat) (W : World), (binOp .eql 33 (.slice a l c) (.slice none 0 0)).run Try.prog W = .ok (.bool a.isNone) W := fun a l c W => by
    simp only [binOp]
    simp [run_equal_slice_nil W _ _ a l c Try.underlying33]
  rcases h.2 with ⟨rfl, rfl⟩ | ⟨gr, cap, cur, rfl, h3, h4, h5, h6, h7, h8⟩
  · have hx : xs = [] := List.eq_nil_of_length_eq_zero (by simpa using h.1)
    subst hx
    go_enter Try.func29, Try.ntmps29
    go_wp2
    go_ret
    exact ⟨_, rfl, World.ownsRow_nil _ _ _ _, Below.refl _ _⟩
  · have hnew := (h.alloc (.cells #[] 72)).cells (g := gr) rfl
    have hown : (w.alloc (.cells #[] 72)).ownsRow w.heap.size 72 257 (.slice (some ⟨w.heap.size, 0, none⟩) 0 0) 0 [] :=
      ⟨rfl, .inr ⟨w.heap.size, 0, #[], rfl, Nat.le_refl _, heap_alloc_new w _, Nat.le_refl _, Nat.zero_le _, rfl, rfl⟩⟩
    have hb0 : Below w.heap.size w (w.alloc (.cells #[] 72)) := (Below.refl _ _).alloc (Nat.le_refl _) _
    have hln := h.1
    have hsz : w.heap.size ≤ (w.alloc (.cells #[] 72)).heap.size := hb0.size
    clear h h3 h4 h5 h6 h7 h8
    go_enter Try.func29, Try.ntmps29
    go_wp2_with (at_builtin; refine wpList_append_own _ rfl _ _ 33 rfl w.heap.size 72 i0 (.agg (putCells (0, zeros)).toArray) 257 260 Try.underlying33 hi0 hz0 hz1 hz2 (size_of_putCells zeros_length) (by omega) _ 0 [] rfl hown ⟨gr, 0, none⟩ n cap xs rfl hln hnew h1 (by unfold maxLen; omega) (by omega) hsz ?_; intro v' w1 hown1 hgrow hnil)
    go_ret
    refine ⟨_, rfl, by simpa using hown1, hb0.trans ⟨hgrow.os, hgrow.tape, hgrow.output, hgrow.size, fun k hk => hgrow.block k (by omega) (fun e => by
      simp only [Value.ownBlock] at e
      injection e with e
      have e' : k = w.heap.size := e
      omega)⟩⟩

theorem pendCells_one (l : List (Nat × List UInt8)) : ∀ u ∈ pendCells l, u.oneCell' = true := by
  intro u hu
  obtain ⟨x, _, hx⟩ := List.mem_flatMap.1 hu
  exact putCells_one x u hx
theorem infoDev : (Try.prog.info? 54).map (fun i => (i.zero, i.size)) = some (some (.agg #[.int .u32 0, .map none, .slice none 0 0, .int .i64 0, .bool false, .int .u64 0]), 6) := by kernel_rfl
theorem ownsRow_base {w : World} {b b' : Nat} {e : TypeId} {size : Nat} {v : Value} {n : Nat} {xs : List Value} (h : w.ownsRow b e size v n xs) (hb : b' ≤ b) : w.ownsRow b' e size v n xs := by
  obtain ⟨h1, h2⟩ := h
  refine ⟨h1, ?_⟩
  rcases h2 with h2 | ⟨g, cap, cur, h3, h4, h5⟩
  · exact .inl h2
  · exact .inr ⟨g, cap, cur, h3, Nat.le_trans hb h4, h5⟩

set_option maxRecDepth 100000 in
set_option maxHeartbeats 3200000 in
theorem Copy_any {w : World} {p : Nat} {B : List Nat} {s : DS} (hd : Dev w p B s) (hlen : s.pend.length < 4294967296) :
    Calls Try.prog 11 #[ptr p] w fun e w' => ∃ q C, e = .returned (ptr q) ∧ Dev w' q C s ∧ (∀ k ∈ C, w.heap.size ≤ k) ∧ Below w.heap.size w w' := by
  have hzd := (zero_of_info infoDev).1
  have hid := (zero_of_info infoDev).2
  go_enter Try.func11, Try.ntmps11
  go_wp2_with fail
  refine (exists_yes hd).mono ?_
  rintro e W ⟨rfl, hw⟩
  subst W
  obtain ⟨bm, pv, h⟩ := hd
  have h1 := h.alloc (.cells (devCells s bm pv) 54)
  have hX := heap_alloc_new w (.cells (devCells s bm pv) 54)
  have ho := h.obj
  have hb : Below w.heap.size w (w.alloc (.cells (devCells s bm pv) 54)) := (Below.refl _ _).alloc (Nat.le_refl _) _
  have hone : (devCells s bm pv).all (·.oneCell') = true := by
    rcases h.row.2 with ⟨rfl, _⟩ | ⟨gr, cap, cur, rfl, _⟩ <;> simp [devCells, Value.oneCell']
  have c1 : (w.alloc (.cells (devCells s bm pv) 54)).cell? ⟨p, 1, none⟩ = some (.map (some bm)) := h1.cell 1
  have hq1 : w.heap.size < (w.alloc (.cells (devCells s bm pv) 54)).heap.size := by simp
  have hqB : ∀ k ∈ B, k < w.heap.size := h.ltB
  unfold ptr
  have tok : True := trivial
  go_wp2_with (first | (refine wpList_load_row rfl 54 _ rfl p rfl _ _ _ _ ho Try.underlying54 rfl hid ?_) | (have _t := tok; refine wpList_store_new rfl 54 _ _ rfl (devCells s bm pv) _ _ rfl rfl hid rfl hone ?_; clear _t tok))
  clear h ho hone c1
  generalize hqn : w.heap.size = q at hX hb hq1 hqB ⊢
  generalize w.alloc (.cells (devCells s bm pv) 54) = V at h1 hX hb hq1 ⊢
  refine (mapsClone_any h1.map).mono ?_
  rintro e W2 ⟨b, rfl, hm2, hge2, hb2⟩
  have h2 := h1.below hb2
  have hX2 := (hb2.block q hq1).trans hX
  have c1 := cell_of_row W2 q 1 _ _ _ hX2
  have f1 := frozen_of_row W2 q 1 _ _ hX2
  have ht3 : Turn [q] W2 (W2.setCell ⟨q, 1, none⟩ (.map (some b))) := (Turn.refl _ _).setCell _ _ (.inl (by simp))
  have hqd : ∀ k ∈ B, k ∉ [q] := fun k hk hm => by
    simp only [List.mem_singleton] at hm
    have := hqB k hk
    omega
  have h3 := h2.turn ht3 hqd
  have hX3 := heap_setCell_same W2 q 1 _ _ (.map (some b)) hX2
  have hm3 : MapIs (W2.setCell ⟨q, 1, none⟩ (.map (some b))) b s.g := hm2.kept (heap_setCell_other W2 ⟨q, 1, none⟩ b _ (by show b ≠ q; omega))
  have hb3 : Below q w (W2.setCell ⟨q, 1, none⟩ (.map (some b))) := (hb.trans (hb2.mono (Nat.le_of_lt hq1))).setCell (p := ⟨q, 1, none⟩) (Nat.le_refl _) _
  have c2 := h3.cell 2
  replace c2 : (W2.setCell ⟨q, 1, none⟩ (.map (some b))).cell? ⟨p, 2, none⟩ = some pv := c2
  have hlt3 : b < (W2.setCell ⟨q, 1, none⟩ (.map (some b))).heap.size := hm3.lt
  have hgb : q < b := by omega
  clear h1 hX hb hb2 h2 hm2 ht3 hge2
  go_wp2_with fail
  clear c1 f1 c2 hX2
  generalize W2.setCell ⟨q, 1, none⟩ (.map (some b)) = W3 at h3 hX3 hm3 hb3 hlt3 ⊢
  refine (slicesClone_any h3.row hlen (pendCells_one _)).mono ?_
  rintro e W4 ⟨v, rfl, hown, hb4⟩
  obtain ⟨ao, vn, vc, hvs⟩ : ∃ ao n c, v = .slice ao n c := by
    rcases hown.2 with ⟨hv, _⟩ | ⟨g, c, cur, hv, _⟩
    · exact ⟨_, _, _, hv⟩
    · exact ⟨_, _, _, hv⟩
  have hX4 := (hb4.block q (by omega)).trans hX3
  have hm4 := hm3.kept (hb4.block b hlt3)
  have c2 := cell_of_row W4 q 2 _ _ _ hX4
  have f2 := frozen_of_row W4 q 2 _ _ hX4
  have hX5 := heap_setCell_same W4 q 2 _ _ v hX4
  have hm5 : MapIs (W4.setCell ⟨q, 2, none⟩ v) b s.g := hm4.kept (heap_setCell_other W4 ⟨q, 2, none⟩ b _ (by show b ≠ q; omega))
  have hvl : ∀ k, v.ownBlock = some k → W3.heap.size ≤ k ∧ k < W4.heap.size := hown.lt
  have hown5 : (W4.setCell ⟨q, 2, none⟩ v).ownsRow 0 72 257 v s.pend.length (pendCells s.pend) :=
    ownsRow_base (ownsRow_block hown (fun k hk => heap_setCell_other W4 ⟨q, 2, none⟩ k _ (by have := hvl k hk; show k ≠ q; omega))) (Nat.zero_le _)
  have hb5 : Below q w (W4.setCell ⟨q, 2, none⟩ v) := (hb3.trans (hb4.mono (by omega))).setCell (p := ⟨q, 2, none⟩) (Nat.le_refl _) _
  have hsz5 : (W4.setCell ⟨q, 2, none⟩ v).heap.size = W4.heap.size := by simp [World.setCell]
  have hsz4 := hb4.size
  have hfin : DevAt (W4.setCell ⟨q, 2, none⟩ v) q b v (q :: b :: v.ownBlock.toList) s :=
    ⟨hX5, hm5, hown5, by simp, by simp, (fun k hk => by simp [hk]), (fun k hk => by
      rw [hsz5]
      simp only [List.mem_cons, Option.mem_toList] at hk
      rcases hk with rfl | rfl | hk
      · omega
      · omega
      · exact (hvl k hk).2), h3.okP, h3.okA, h3.okG, h3.okN, h3.okL⟩
  have hC : ∀ k ∈ (q :: b :: v.ownBlock.toList), q ≤ k := fun k hk => by
    simp only [List.mem_cons, Option.mem_toList] at hk
    rcases hk with rfl | rfl | hk
    · exact Nat.le_refl _
    · omega
    · have := (hvl k hk).1; omega
  subst hvs
  clear h3 hX3 hm3 hb3 hown hb4 hm4 hX4 hX5 hm5 hown5 hvl
  go_wp2_with fail
  go_ret
  subst hqn
  exact ⟨_, _, rfl, ⟨_, _, hfin⟩, hC, hb5⟩

end Go.Proofs.Ytlgjgobelceheaa.Dev
