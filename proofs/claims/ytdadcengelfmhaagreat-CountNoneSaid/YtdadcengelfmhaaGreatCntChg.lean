/-
  The changed blocks of a tally.
-/
import Derived.Test.YtdadcengelfmhaaGreatCntOpen
import Derived.Test.YtdadcengelfmhaaGreatCntKeys
namespace Go.Proofs.YtdadcengelfmhaaGreat.Cnt
open Go.RowKit Go.Maps Go.MapKept RowLaw Crc
open Go.Proofs.YtdadcengelfmhaaGreat.Dev (Dev DS ptr Turn Step)
open Go.Proofs.YtdadcengelfmhaaGreat.Rot (planOk tlN pkN fsN)
open Go.Proofs.YtdadcengelfmhaaGreat.Tal (pgCells IsPg)
set_option maxRecDepth 100000

def differs (T : TD) (p i : Nat) : Bool := decide ((T.now p).getD i 0 ≠ (T.TV p).getD i 0)
/-- the changed blocks of the first k of a tally -/
def chgTo (T : TD) (p k : Nat) : List Nat := ((List.range k).filter (differs T p)).map fun i => p * 64 + i
def chg (T : TD) (p : Nat) : List Nat := chgTo T p 64
theorem chgTo_succ (T : TD) (p k : Nat) : chgTo T p (k + 1) = if differs T p k = true then chgTo T p k ++ [p * 64 + k] else chgTo T p k := by
  unfold chgTo
  rw [List.range_succ, List.filter_append]
  cases h : differs T p k with
  | true => simp [h]
  | false => simp [h]
theorem chgTo_len (T : TD) (p k : Nat) : (chgTo T p k).length ≤ k := by
  unfold chgTo
  rw [List.length_map]
  exact Nat.le_trans (List.length_filter_le _ _) (by simp)
/-- a change by value: the tally, its changed blocks -/
def chV (p : Nat) (v : Value) : Array Value := #[.int .u32 (p : Int), v]
theorem sizeCh (p : Nat) (v : Value) : (Tryz.prog.info? 94).map (·.size) = some (chV p v).size := by kernel_rfl
theorem zeroCh (W : World) : (zeroValue 94).run Tryz.prog W = .ok (.agg (chV 0 (.slice none 0 0))) W := by kernel_rfl
theorem exec_look {P : Program} {k e ty : TypeId} {o : Oper} {ac : Act} {w : World} {b : Nat} {f : Nat → Option Nat} {m x : Operand} (hop : o.op = Op.lookup ty m x false) (hk : P.underlying k = some (.int .u32)) (ht : P.underlying ty = some (.map k e)) (hz : (zeroValue e).run P w = .ok (.pointer none) w)
    (h : PMap w b f) {a q : Nat} (ha : a < 4294967296) (hf : f a = some q) (hm : ac.eval m = .map (some b)) (hx : ac.eval x = .int .u32 (a : Int)) : (execOp ac.eval o).run P w = .ok (.value (.pointer (some ⟨q, 0, none⟩))) w := by
  have hrun := h.look hk ht hz ha
  rw [hf] at hrun
  unfold pv at hrun
  unfold execOp
  simp only [hop, hm, hx, hrun, Sem.run_bind, Sem.run_pure, Result.andThen_ok]
theorem own_ne {W : World} {base : Nat} {e T : TypeId} {size : Nat} {v : Value} {n : Nat} {xs : List Value} {j : Nat} {cs : Array Value} {fr : Nat × Nat} (h : W.ownsRow base e size v n xs) (hj : W.heap[j]? = some (.cells cs T fr)) (hne : T ≠ e) : some j ≠ v.ownBlock := fun he => by
  rcases h.2 with ⟨rfl, _⟩ | ⟨g, cap, cur, rfl, _, hg, _⟩
  · cases he
  · simp only [Value.ownBlock, Option.some.injEq] at he
    rw [← he, hj] at hg
    injection hg with hg
    injection hg with _ hg
    exact hne hg

theorem chV_one (p : Nat) {v : Value} (h : v.oneCell' = true) : (chV p v).all (·.oneCell') = true := by
  simp only [chV, List.all_toArray, List.all_cons, List.all_nil, h]
  rfl
theorem own_one {W : World} {base : Nat} {e : TypeId} {size : Nat} {v : Value} {n : Nat} {xs : List Value} (h : W.ownsRow base e size v n xs) : v.oneCell' = true := by
  rcases h.2 with ⟨rfl, _⟩ | ⟨g, cap, cur, rfl, _⟩ <;> rfl

section
variable {w : World} {t bp bt bc : Nat} {fp ft fc : Nat → Option Nat} {B C : List Nat} {T : TD} {s : DS}
set_option linter.unusedSimpArgs false in
set_option maxHeartbeats 6400000 in
theorem change_any (hT : TabAt w t bp bt bc fp ft fc B T) {k : Nat} {ns : List Nat} (hc : T.C k = some ns) :
    Calls Tryz.prog 62 #[ptr t, .int .u32 (k : Int)] w fun e w' => ∃ v, e = .returned (.agg (chV k v)) ∧ w'.ownsRow w.heap.size 22 1 v (chg T k).length ((chg T k).map encN) ∧ Below w.heap.size w w' := by
  obtain ⟨q7, hf7, hp7⟩ := hT.fc_some hc
  obtain ⟨q6, hf6⟩ := hT.has k q7 hf7
  obtain ⟨hp6, hB6⟩ := hT.pt k q6 hf6
  obtain ⟨_, hB7⟩ := hT.pc k q7 hf7
  have hkn := hT.ok.ck k ns hc
  obtain ⟨n1, n2⟩ := plan_of hT.ok.plan
  have npl := Rot.plan_facts n1 n2
  have hk16 : k < 16384 := by omega
  have hk32 : k < 4294967296 := by omega
  have hlo := hT.ok.tl k
  have hln := (hT.ok.now k).1
  have hnow := now_some hc
  rw [← hnow] at hp7
  obtain ⟨i0, hi, hz0, hz1, hz2⟩ := info_parts info32
  have hzc := zeroCh
  have HC7 : Hid (∀ W, Below w.heap.size w W → ∀ j, j < 64 → W.cell? ⟨q7, 1 + j, none⟩ = some (.int .u16 ((T.now k).getD j 0 : Int))) := Lib.hid (fun W hW j hj => by
    have h1 : IsPg .u16 68 W q7 k (T.now k) := (hW.block q7 (hT.ltB q7 hB7)).trans hp7
    rw [h1.num j (by omega), List.getD_eq_getElem?_getD, List.getElem?_eq_getElem (by omega)]
    rfl)
  have HC6 : Hid (∀ W, Below w.heap.size w W → ∀ j, j < 64 → W.cell? ⟨q6, 1 + j, none⟩ = some (.int .u16 ((T.TV k).getD j 0 : Int))) := Lib.hid (fun W hW j hj => by
    have h1 : IsPg .u16 68 W q6 k (T.TV k) := (hW.block q6 (hT.ltB q6 hB6)).trans hp6
    rw [h1.num j (by omega), List.getD_eq_getElem?_getD, List.getElem?_eq_getElem (by omega)]
    rfl)
  have hlt : t < w.heap.size := hT.ltB t hT.inB.1
  have h4 : (w.alloc (.cells (chV 0 (.slice none 0 0)) 94)).heap[w.heap.size]? = some (.cells (chV 0 (.slice none 0 0)) 94 (0, 0)) := heap_alloc_new w _
  have hT1 := hT.alloc (.cells (chV 0 (.slice none 0 0)) 94)
  have hb1 : Below w.heap.size w (w.alloc (.cells (chV 0 (.slice none 0 0)) 94)) := (Below.refl _ _).alloc (Nat.le_refl _) _
  have HTo := Lib.hid (chgTo_succ T k)
  have HTl := Lib.hid (chgTo_len T k)
  have HZ : Hid (chgTo T k 0 = []) := Lib.hid rfl
  have HE : Hid (chg T k = chgTo T k 64) := Lib.hid rfl
  have HD : Hid (∀ i, differs T k i = decide ((T.now k).getD i 0 ≠ (T.TV k).getD i 0)) := Lib.hid (fun _ => rfl)
  clear hp6 hp7 hlo hln hnow hB6 hB7 hkn n1 n2 npl hc hT
  unfold ptr
  go_enter Tryz.func62, Tryz.ntmps62
  go_upto_region 1 with fail
  change Code.wp _ _ _ _ (w.alloc (.cells (chV 0 (.slice none 0 0)) 94))
  obtain ⟨b4, hb4⟩ : ∃ b4, b4 = w.heap.size := ⟨_, rfl⟩
  have hge4 : w.heap.size ≤ b4 := by omega
  rw [← hb4] at h4
  rw [← hb4]
  clear hb4
  generalize w.alloc (.cells (chV 0 (.slice none 0 0)) 94) = W1 at h4 hT1 hb1 ⊢
  have h4' : (W1.alloc (.cells (chV k (.slice none 0 0)) 94)).heap[b4]? = some (.cells (chV 0 (.slice none 0 0)) 94 (0, 0)) := (Below.heap_alloc _ _ b4 (Array.getElem?_eq_some_iff.1 h4).1).trans h4
  have h5 : (W1.alloc (.cells (chV k (.slice none 0 0)) 94)).heap[W1.heap.size]? = some (.cells (chV k (.slice none 0 0)) 94 (0, 0)) := heap_alloc_new W1 _
  have n45 : b4 ≠ W1.heap.size := fun e => by have := (Array.getElem?_eq_some_iff.1 h4).1; omega
  have hT2 := hT1.alloc (.cells (chV k (.slice none 0 0)) 94)
  have hb2 : Below w.heap.size w (W1.alloc (.cells (chV k (.slice none 0 0)) 94)) := hb1.alloc hb1.size _
  have hge5 : w.heap.size ≤ W1.heap.size := hb1.size
  clear h4 hT1 hb1
  have tok : True := trivial
  go_upto_region 2 with (have _t := tok; refine wpList_store_new rfl 94 _ _ rfl (chV k (.slice none 0 0)) _ _ rfl rfl (sizeCh _ _) rfl (by simp [chV, Value.oneCell']) ?_; change wpList _ _ _ _ _ (W1.alloc (.cells (chV k (.slice none 0 0)) 94)); clear _t tok)
  change Code.wp _ _ _ _ (W1.alloc (.cells (chV k (.slice none 0 0)) 94))
  generalize W1.heap.size = b5 at h5 n45 hge5 ⊢
  generalize W1.alloc (.cells (chV k (.slice none 0 0)) 94) = W2 at h4' h5 hT2 hb2 ⊢
  have hS : (W2.drew.cell? ⟨t, 6, none⟩ = some (.map (some bt)) ∧ W2.drew.cell? ⟨t, 7, none⟩ = some (.map (some bc))) ∧ PMap W2.drew bt ft ∧ PMap W2.drew bc fc := ⟨⟨(hT2.drew.cell 6).trans rfl, (hT2.drew.cell 7).trans rfl⟩, hT2.drew.mt, hT2.drew.mc⟩
  have h4d : W2.drew.heap[b4]? = some (.cells (chV 0 (.slice none 0 0)) 94 (0, 0)) := h4'
  have h5d : W2.drew.heap[b5]? = some (.cells (chV k (.slice none 0 0)) 94 (0, 0)) := h5
  have hbd : Below w.heap.size w W2.drew := ⟨hb2.os, hb2.tape, hb2.output, hb2.size, hb2.block⟩
  clear h4' h5 hT2 hb2
  refine wp_region_noPanic ?_
  refine wp_region_held_drew (S := fun W => (W.cell? ⟨t, 6, none⟩ = some (.map (some bt)) ∧ W.cell? ⟨t, 7, none⟩ = some (.map (some bc))) ∧ PMap W bt ft ∧ PMap W bc fc) (by kernel_rfl) hS ?_
  intro hS
  generalize W2.drew = V at hS h4d h5d hbd ⊢
  refine wpAnyH_take (i := 0) (v := .pointer (some ⟨t, 0, none⟩)) rfl (by kernel_rfl) (by kernel_rfl) (by kernel_rfl) (fun _ _ _ h => (h : False).elim) (Or.inl ⟨by rfl, fun _ _ => by go_simp⟩) hS ?_
  change wpAnyH _ _ _ _ _ _ _ (Act.put _ (some 11) _) _
  simp only [Act.put, List.setIfInBounds_toArray, List.set_cons_succ, List.set_cons_zero]
  refine wpAnyH_take (i := 1) (v := .pointer (some ⟨t, 0, none⟩)) rfl (by kernel_rfl) (by kernel_rfl) (by kernel_rfl) (fun _ _ _ h => (h : False).elim) (Or.inl ⟨by rfl, fun _ _ => by go_simp⟩) hS ?_
  change wpAnyH _ _ _ _ _ _ _ (Act.put _ (some 12) _) _
  simp only [Act.put, List.setIfInBounds_toArray, List.set_cons_succ, List.set_cons_zero]
  refine wpAnyH_take (i := 2) (v := .pointer (some ⟨t, 6, none⟩)) rfl (by kernel_rfl) (by kernel_rfl) (by kernel_rfl) (fun _ _ _ h => (h : False).elim) (Or.inl ⟨by rfl, fun _ _ => by go_simp⟩) hS ?_
  change wpAnyH _ _ _ _ _ _ _ (Act.put _ (some 13) _) _
  simp only [Act.put, List.setIfInBounds_toArray, List.set_cons_succ, List.set_cons_zero]
  refine wpAnyH_take (i := 3) (v := .map (some bt)) rfl (by kernel_rfl) (by kernel_rfl) (by kernel_rfl) (fun _ _ _ h => (h : False).elim) (Or.inl ⟨by rfl, fun w hw => by have c := hw.1.1; go_simp⟩) hS ?_
  change wpAnyH _ _ _ _ _ _ _ (Act.put _ (some 14) _) _
  simp only [Act.put, List.setIfInBounds_toArray, List.set_cons_succ, List.set_cons_zero]
  refine wpAnyH_take (i := 4) (v := .int .u32 (k : Int)) rfl (by kernel_rfl) (by kernel_rfl) (by kernel_rfl) (fun _ _ _ h => (h : False).elim) (Or.inl ⟨by rfl, fun _ _ => by go_simp⟩) hS ?_
  change wpAnyH _ _ _ _ _ _ _ (Act.put _ (some 15) _) _
  simp only [Act.put, List.setIfInBounds_toArray, List.set_cons_succ, List.set_cons_zero]
  refine wpAnyH_take (i := 5) (v := .pointer (some ⟨q6, 0, none⟩)) rfl (by kernel_rfl) (by kernel_rfl) (by kernel_rfl) (fun _ _ _ h => (h : False).elim) (Or.inl ⟨by rfl, fun W hw => exec_look rfl Tryz.underlying22 Tryz.underlying55 (zeroT _) hw.2.1 hk32 hf6 rfl rfl⟩) hS ?_
  change wpAnyH _ _ _ _ _ _ _ (Act.put _ (some 16) _) _
  simp only [Act.put, List.setIfInBounds_toArray, List.set_cons_succ, List.set_cons_zero]
  refine wpAnyH_take (i := 6) (v := .pointer (some ⟨t, 0, none⟩)) rfl (by kernel_rfl) (by kernel_rfl) (by kernel_rfl) (fun _ _ _ h => (h : False).elim) (Or.inl ⟨by rfl, fun _ _ => by go_simp⟩) hS ?_
  change wpAnyH _ _ _ _ _ _ _ (Act.put _ (some 17) _) _
  simp only [Act.put, List.setIfInBounds_toArray, List.set_cons_succ, List.set_cons_zero]
  refine wpAnyH_take (i := 7) (v := .pointer (some ⟨t, 0, none⟩)) rfl (by kernel_rfl) (by kernel_rfl) (by kernel_rfl) (fun _ _ _ h => (h : False).elim) (Or.inl ⟨by rfl, fun _ _ => by go_simp⟩) hS ?_
  change wpAnyH _ _ _ _ _ _ _ (Act.put _ (some 18) _) _
  simp only [Act.put, List.setIfInBounds_toArray, List.set_cons_succ, List.set_cons_zero]
  refine wpAnyH_take (i := 8) (v := .pointer (some ⟨t, 7, none⟩)) rfl (by kernel_rfl) (by kernel_rfl) (by kernel_rfl) (fun _ _ _ h => (h : False).elim) (Or.inl ⟨by rfl, fun _ _ => by go_simp⟩) hS ?_
  change wpAnyH _ _ _ _ _ _ _ (Act.put _ (some 19) _) _
  simp only [Act.put, List.setIfInBounds_toArray, List.set_cons_succ, List.set_cons_zero]
  refine wpAnyH_take (i := 9) (v := .map (some bc)) rfl (by kernel_rfl) (by kernel_rfl) (by kernel_rfl) (fun _ _ _ h => (h : False).elim) (Or.inl ⟨by rfl, fun w hw => by have c := hw.1.2; go_simp⟩) hS ?_
  change wpAnyH _ _ _ _ _ _ _ (Act.put _ (some 20) _) _
  simp only [Act.put, List.setIfInBounds_toArray, List.set_cons_succ, List.set_cons_zero]
  refine wpAnyH_take (i := 10) (v := .int .u32 (k : Int)) rfl (by kernel_rfl) (by kernel_rfl) (by kernel_rfl) (fun _ _ _ h => (h : False).elim) (Or.inl ⟨by rfl, fun _ _ => by go_simp⟩) hS ?_
  change wpAnyH _ _ _ _ _ _ _ (Act.put _ (some 21) _) _
  simp only [Act.put, List.setIfInBounds_toArray, List.set_cons_succ, List.set_cons_zero]
  refine wpAnyH_take (i := 11) (v := .pointer (some ⟨q7, 0, none⟩)) rfl (by kernel_rfl) (by kernel_rfl) (by kernel_rfl) (fun _ _ _ h => (h : False).elim) (Or.inl ⟨by rfl, fun W hw => exec_look rfl Tryz.underlying22 Tryz.underlying55 (zeroT _) hw.2.2 hk32 hf7 rfl rfl⟩) hS ?_
  change wpAnyH _ _ _ _ _ _ _ (Act.put _ (some 22) _) _
  simp only [Act.put, List.setIfInBounds_toArray, List.set_cons_succ, List.set_cons_zero]
  refine wpAnyH_take (i := 12) (v := .pointer (some ⟨q6, 0, none⟩)) rfl (by kernel_rfl) (by kernel_rfl) (by kernel_rfl) (fun _ _ _ h => (h : False).elim) (Or.inl ⟨by rfl, fun _ _ => by go_simp⟩) hS ?_
  change wpAnyH _ _ _ _ _ _ _ (Act.put _ (some 6) _) _
  simp only [Act.put, List.setIfInBounds_toArray, List.set_cons_succ, List.set_cons_zero]
  refine wpAnyH_take (i := 13) (v := .pointer (some ⟨q7, 0, none⟩)) rfl (by kernel_rfl) (by kernel_rfl) (by kernel_rfl) (fun _ _ _ h => (h : False).elim) (Or.inl ⟨by rfl, fun _ _ => by go_simp⟩) hS ?_
  change wpAnyH _ _ _ _ _ _ _ (Act.put _ (some 7) _) _
  simp only [Act.put, List.setIfInBounds_toArray, List.set_cons_succ, List.set_cons_zero]
  clear hS
  refine wpAnyH_done (by kernel_rfl) ?_ _
  refine NoPanic.normal ?_
  have HF4 := Lib.hid h4d
  have hp5 : ∃ v, V.heap[b5]? = some (.cells (chV k v) 94 (0, 0)) ∧ V.ownsRow w.heap.size 22 1 v (chgTo T k 0).length ((chgTo T k 0).map encN) := ⟨_, h5d, by rw [HZ.out]; exact World.ownsRow_nil _ _ _ _⟩
  clear h5d h4d HZ
  go_wp2_with fail
  go_loopw [23] (fun i wr => ∃ j : Nat, j ≤ 64 ∧ i = .int .i64 j ∧ Below w.heap.size w wr ∧ wr.heap[b4]? = some (.cells (chV 0 (.slice none 0 0)) 94 (0, 0)) ∧ ∃ v, wr.heap[b5]? = some (.cells (chV k v) 94 (0, 0)) ∧ wr.ownsRow w.heap.size 22 1 v (chgTo T k j).length ((chgTo T k j).map encN)) (fun i _ => 64 - (intOf i).toNat)
  case atStart => exact ⟨0, by omega, rfl, hbd, HF4.out, hp5⟩
  case round =>
    clear hbd HF4 hp5
    obtain ⟨j, hj, rfl, hb, h4, v, h5, hrow⟩ := hrel
    by_cases hlt : j < 64
    · have c7 := HC7.out wr hb j hlt
      have c6 := HC6.out wr hb j hlt
      have hto := HTo.out j
      have hdf := HD.out j
      have hll := HTl.out j
      have j0 : (0 : Int) ≤ (j : Int) := by omega
      have j1 : (j : Int) < 64 := by omega
      generalize (T.now k).getD j 0 = a at c7 hdf
      generalize (T.TV k).getD j 0 = b at c6 hdf
      generalize differs T k j = df at hto hdf
      generalize chgTo T k j = l at hto hll hrow
      have HTO := Lib.hid hto
      clear hto
      by_cases hab : a = b
      · have d0 : ((a : Int) != (b : Int)) = false := by simp [hab]
        have hd0 : df = false := by rw [hdf]; simp [hab]
        have HDF := Lib.hid hd0
        clear hab hdf hd0
        go_wp2_with fail
        go_quiet (fail)
        go_wp2_with fail
        go_roundw
        case rel => exact ⟨j + 1, by omega, by go_num, ⟨hb.os, hb.tape, hb.output, hb.size, hb.block⟩, h4, v, h5, by rw [HTO.out, HDF.out, if_neg (by simp)]; exact hrow⟩
        case measure => simp [intOf]; omega
      · have d0 : ((a : Int) != (b : Int)) = true := by rw [bne_iff_ne]; omega
        have hd0 : df = true := by rw [hdf]; exact decide_eq_true hab
        have HDF := Lib.hid hd0
        clear hab hdf hd0
        go_wp2_with fail
        go_quiet (fail)
        have hbW : Below w.heap.size w (wr.drewN nq) := ⟨hb.os, hb.tape, hb.output, hb.size, hb.block⟩
        have h4W : (wr.drewN nq).heap[b4]? = some (.cells (chV 0 (.slice none 0 0)) 94 (0, 0)) := h4
        have h5W : (wr.drewN nq).heap[b5]? = some (.cells (chV k v) 94 (0, 0)) := h5
        have hrowW : (wr.drewN nq).ownsRow w.heap.size 22 1 v l.length (l.map encN) := hrow
        generalize wr.drewN nq = W at hbW h4W h5W hrowW ⊢
        clear hb h4 h5 hrow c6 c7
        have c5 : W.cell? ⟨b5, 1, none⟩ = some v := (cell_of_row W b5 1 _ _ _ h5W).trans rfl
        have hrow2 := World.ownsRow.alloc hrowW (.cells #[.int .u32 ((k : Int) * 64 + (j : Int))] 22)
        have n4 := own_ne hrowW h4W (by decide)
        have n5 := own_ne hrowW h5W (by decide)
        have H4 := Lib.hid h4W; have H5 := Lib.hid h5W; have HBW := Lib.hid hbW; have HR2 := Lib.hid hrow2; have HN4 := Lib.hid n4; have HN5 := Lib.hid n5
        have hlt4 : b4 < W.heap.size := (Array.getElem?_eq_some_iff.1 h4W).1
        have hlt5 : b5 < W.heap.size := (Array.getElem?_eq_some_iff.1 h5W).1
        clear h4W h5W hbW hrow2 hrowW n4 n5
        go_wp2_with (at_builtin; refine wpList_append_own _ rfl _ _ 59 rfl w.heap.size 22 i0 (.int .u32 0) 1 4 Tryz.underlying59 hi hz0 hz1 hz2 rfl (by decide) v l.length (l.map encN) rfl HR2.out ⟨W.heap.size, 0, none⟩ 1 1 [.int .u32 ((k : Int) * 64 + (j : Int))] rfl rfl (cell_one_new _ _ _) (by simp [Value.oneCell']) (Nat.le_trans (show l.length + 1 ≤ 65 by omega) (by decide)) (by omega) (by have := HBW.out.size; simp; omega) ?_; intro v' w1 hown' hgrow _; obtain ⟨g', cap', rfl⟩ := ownsRow_succ hown'; have h5a : w1.heap[b5]? = some (.cells (chV k v) 94 (0, 0)) := ((hgrow.block b5 (by simp; omega) HN5.out).trans (Below.heap_alloc _ _ b5 hlt5)).trans H5.out; have c5a : w1.cell? ⟨b5, 1, none⟩ = some v := (cell_of_row w1 b5 1 _ _ _ h5a).trans rfl; have f5a : w1.frozen? ⟨b5, 1, none⟩ = false := frozen_of_row w1 b5 1 _ _ h5a; have HG : Hid ((W.alloc (.cells #[.int .u32 ((k : Int) * 64 + (j : Int))] 22)).grownBy w1 v.ownBlock) := Lib.hid hgrow; have HO := Lib.hid hown'; have H5A := Lib.hid h5a; clear hgrow hown' h5a)
        go_roundw
        case rel =>
          have h4a : w1.heap[b4]? = some (.cells (chV 0 (.slice none 0 0)) 94 (0, 0)) := ((HG.out.block b4 (by simp; omega) HN4.out).trans (Below.heap_alloc _ _ b4 hlt4)).trans H4.out
          have hb1 : Below w.heap.size w w1 := (HBW.out.alloc HBW.out.size _).grown HG.out (by have := HBW.out.size; simp; omega) (fun x e => (HR2.out.lt x e).1)
          have ne5 := own_ne HO.out H5A.out (by decide)
          refine ⟨j + 1, by omega, by go_num, hb1.setCell (p := ⟨b5, 1, none⟩) hge5 _, (heap_setCell_other w1 _ _ _ n45).trans h4a, _, heap_setCell_same w1 b5 1 _ _ _ H5A.out, ?_⟩
          rw [HTO.out, if_pos HDF.out, List.map_append, List.length_append]
          exact Dev.ownsRow_block HO.out (fun x hx => heap_setCell_other w1 _ _ _ (fun e => ne5 (by rw [hx, e])))
        case measure => simp [intOf]; omega
    · obtain rfl : j = 64 := by omega
      have c5 : wr.cell? ⟨b5, 1, none⟩ = some v := (cell_of_row wr b5 1 _ _ _ h5).trans rfl
      rw [← HE.out] at hrow
      clear HC6 HC7 HTo HTl HD HE
      have tok : True := trivial
      go_wp2_with (first
        | (refine wpList_load_row rfl 94 _ rfl b5 rfl _ _ _ _ h5 Tryz.underlying94 rfl (sizeCh _ _) ?_)
        | (have _t := tok; refine wpList_store_row rfl 94 _ _ rfl b4 _ rfl rfl _ _ h4 (sizeCh _ _) rfl (chV_one k (own_one hrow)) ?_; clear _t tok))
      refine bodyPost_ret (v := .agg (chV k v)) ?_ rfl ⟨v, rfl, ?_, below_row hb hge4⟩
      · exact results_cell_row rfl _ _ _ _ _ _ _ rfl (setRow_heap wr _ _ _ _ _ h4) Tryz.underlying94 rfl (sizeCh _ _)
      · exact Dev.ownsRow_block hrow (fun x hx => setRow_other wr _ _ _ (fun e => own_ne hrow h4 (by decide) (by rw [hx, e])))
end
end Go.Proofs.YtdadcengelfmhaaGreat.Cnt
