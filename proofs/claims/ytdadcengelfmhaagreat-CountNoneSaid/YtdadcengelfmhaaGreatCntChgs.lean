/-
  All tallies with changed blocks.
-/
import Derived.Test.YtdadcengelfmhaaGreatCntChg
namespace Go.Proofs.YtdadcengelfmhaaGreat.Cnt
open Go.RowKit Go.Maps Go.MapKept RowLaw Crc
open Go.Proofs.YtdadcengelfmhaaGreat.Dev (Dev DS ptr Turn Step)
set_option maxRecDepth 100000

theorem own_slice {W : World} {base : Nat} {e : TypeId} {size : Nat} {v : Value} {n : Nat} {xs : List Value} (h : W.ownsRow base e size v n xs) : ∃ pk ck, v = .slice pk n ck ∧ ∀ j u, xs[j]? = some u → j < n * size → ∃ g, pk = some ⟨g, 0, none⟩ ∧ W.cell? ⟨g, j, none⟩ = some u := by
  rcases h.2 with ⟨rfl, rfl⟩ | ⟨g, cap, cur, rfl, _, hg, _⟩
  · exact ⟨none, 0, rfl, fun j u hu hj => by omega⟩
  · refine ⟨some ⟨g, 0, none⟩, cap, rfl, fun j u hu hj => ⟨g, rfl, ?_⟩⟩
    rw [h.cellAt j hj, hu]
theorem own_base {W : World} {base base' : Nat} {e : TypeId} {size : Nat} {v : Value} {n : Nat} {xs : List Value} (h : W.ownsRow base e size v n xs) (hb : base' ≤ base) : W.ownsRow base' e size v n xs := by
  obtain ⟨h1, h2⟩ := h
  refine ⟨h1, ?_⟩
  rcases h2 with h2 | ⟨g, cap, cur, rfl, h3, h4⟩
  · exact .inl h2
  · exact .inr ⟨g, cap, cur, rfl, Nat.le_trans hb h3, h4⟩
theorem own_kept {W W' : World} {base : Nat} {e : TypeId} {size : Nat} {v : Value} {n : Nat} {xs : List Value} (h : W.ownsRow base e size v n xs) (hb : Below W.heap.size W W') : W'.ownsRow base e size v n xs :=
  Dev.ownsRow_block h (fun k hk => hb.block k (h.lt k hk).2)
/-- rows of unlike elements lie in unlike blocks -/
theorem own_grown {W W' : World} {base base' : Nat} {e e' : TypeId} {size size' : Nat} {v v' : Value} {n n' : Nat} {xs xs' : List Value} (h : W.ownsRow base e size v n xs) (h' : W.ownsRow base' e' size' v' n' xs') (hne : e ≠ e') (hg : W.grownBy W' v'.ownBlock) : W'.ownsRow base e size v n xs :=
  Dev.ownsRow_block h (fun k hk => hg.block k (h.lt k hk).2 (by
    rcases h.2 with ⟨rfl, _⟩ | ⟨g, cap, cur, rfl, _, hgb, _⟩
    · cases hk
    · simp only [Value.ownBlock, Option.some.injEq] at hk
      exact own_ne h' (hk ▸ hgb) hne))

def chCells (L : List (Nat × Value)) : List Value := L.flatMap fun x => [.int .u32 (x.1 : Int), x.2]
theorem chCells_app (L M : List (Nat × Value)) : chCells (L ++ M) = chCells L ++ chCells M := by simp [chCells]
theorem chCells_len (L : List (Nat × Value)) : (chCells L).length = L.length * 2 := by
  induction L with
  | nil => rfl
  | cons x L ih => simp only [chCells, List.flatMap_cons, List.length_append, List.length_cons, List.length_nil] at ih ⊢; omega
theorem chCells_at : ∀ (L : List (Nat × Value)) (i : Nat) (h : i < L.length), (chCells L)[i * 2]? = some (.int .u32 (L[i].1 : Int)) ∧ (chCells L)[i * 2 + 1]? = some L[i].2
  | x :: L, 0, _ => ⟨rfl, rfl⟩
  | x :: L, i + 1, h => by
    have := chCells_at L i (by simpa using h)
    have e : chCells (x :: L) = [.int .u32 (x.1 : Int), x.2] ++ chCells L := rfl
    rw [e, show (i + 1) * 2 = 2 + i * 2 from by omega, show 2 + i * 2 + 1 = 2 + (i * 2 + 1) from by omega, List.getElem?_append_right (by simp), List.getElem?_append_right (by simp)]
    simp only [List.length_cons, List.length_nil, Nat.zero_add, Nat.add_sub_cancel_left, List.getElem_cons_succ]
    exact this
/-- a row of changes, each with its blocks -/
structure ChL (W : World) (base : Nat) (v : Value) (L : List (Nat × Value)) (G : Nat → List Nat) : Prop where
  row : W.ownsRow base 94 2 v L.length (chCells L)
  each : ∀ x ∈ L, W.ownsRow base 22 1 x.2 (G x.1).length ((G x.1).map encN)
theorem ChL.kept {W W' : World} {base : Nat} {v : Value} {L : List (Nat × Value)} {G : Nat → List Nat} (h : ChL W base v L G) (hb : Below W.heap.size W W') : ChL W' base v L G := ⟨own_kept h.row hb, fun x hx => own_kept (h.each x hx) hb⟩
theorem infoCh : (Tryz.prog.info? 94).map (fun i => (i.zero, i.size, i.bytes)) = some (some (.agg (chV 0 (.slice none 0 0))), 2, 32) := by kernel_rfl
theorem run_buildCh (W : World) (p : Nat) (v : Value) : (Instr.buildSlice 91 1 #[(0, .agg (chV p v))]).run Tryz.prog W = .ok (.slice (some ⟨W.heap.size, 0, none⟩) 1 1) (W.alloc (.cells (chV p v) 94)) := by kernel_rfl

/-- a scope with one label, whose rest is walked once -/
theorem wp_scope_loop {P : Program} {a : Act} {w : World} {Q : Exit → Act → World → Prop} {c X : Code} (l : Nat) (J : Act → World → Prop) (μ : Act → World → Nat) (hf : findLabel c l = some (Code.skip.seq X))
    (pass : ∀ a w, J a w → X.wp P (Exit.jump l (fun a' w' => J a' w' ∧ μ a' w' < μ a w) Q) a w)
    (first : (∀ a w, J a w → X.wp P (Exit.jump l J Q) a w) → c.wp P (Exit.jump l J Q) a w) : (Code.scope c).wp P Q a w :=
  wp_scope_jumps l J μ hf (first fun a w h => Code.wp_mono (fun e a' w' he => by
    cases e with
    | goto l' => exact ⟨he.1, he.2.1⟩
    | _ => exact he) (pass a w h)) (fun a w h => wp_seq (wp_skip (pass a w h)))
def lenV : Value → Nat
  | .slice _ n _ => n
  | _ => 0
/-- between two rounds of changes -/
def ChJ (w : World) (t bc : Nat) (T : TD) (a' : Act) (w' : World) : Prop :=
  ∃ (pk : Option Addr) (n ck : Nat) (ks : List Nat) (j : Nat) (L : List (Nat × Value)) (v3 u6 u13 u14 u15 u16 u17 u18 u19 u20 u21 u22 u23 u24 u25 u26 u27 u28 u29 u30 u31 u32 u33 : Value),
    a' = { tmps := List.toArray (.pointer (some ⟨t, 0, none⟩) :: undef :: .slice none 0 0 :: v3 :: .slice pk n ck :: .int .i64 (j : Int) :: u6 :: .pointer (some ⟨t, 0, none⟩) :: .pointer (some ⟨t, 0, none⟩) :: .pointer (some ⟨t, 7, none⟩) :: .map (some bc) :: keysF w.heap.size :: .slice pk n ck :: u13 :: u14 :: u15 :: u16 :: u17 :: u18 :: u19 :: u20 :: u21 :: u22 :: u23 :: u24 :: u25 :: u26 :: u27 :: u28 :: u29 :: u30 :: u31 :: u32 :: u33 :: []), defers := [] } ∧
    j ≤ n ∧ Below w.heap.size w w' ∧ w'.ownsRow w.heap.size 22 1 (.slice pk n ck) n (ks.map encN) ∧ ChL w' w.heap.size v3 L (chg T) ∧
    Hid (n = ks.length ∧ ks.Pairwise (· < ·) ∧ (∀ a, a ∈ ks ↔ (T.C a).isSome = true) ∧ L.map (·.1) = (ks.take j).filter (fun p => decide (chg T p ≠ [])))

section
variable {w : World} {t bp bt bc : Nat} {fp ft fc : Nat → Option Nat} {B C : List Nat} {T : TD} {s : DS}
theorem TabAt.keys (h : TabAt w t bp bt bc fp ft fc B T) (a : Nat) : (fc a).isSome = true ↔ (T.C a).isSome = true := by
  cases hc : T.C a with
  | none => rw [h.fc_none hc]; simp
  | some ns => obtain ⟨q, hq, _⟩ := h.fc_some hc; rw [hq]; simp

set_option linter.unusedSimpArgs false in
set_option maxHeartbeats 6400000 in
theorem changes_any {N : Nat} (hS : SortOk N) (hT : TabAt w t bp bt bc fp ft fc B T) (hN : ∀ ss : List Nat, ss.Nodup → (∀ a, a ∈ ss ↔ (T.C a).isSome = true) → ss.length ≤ N) :
    Calls Tryz.prog 31 #[ptr t] w fun e w' => ∃ (v : Value) (L : List (Nat × Value)) (ks : List Nat), e = .returned v ∧ ks.Pairwise (· < ·) ∧ (∀ a, a ∈ ks ↔ (T.C a).isSome = true) ∧ L.map (·.1) = ks.filter (fun p => decide (chg T p ≠ [])) ∧
      ChL w' w.heap.size v L (chg T) ∧ Below w.heap.size w w' := by
  have c7 : w.cell? ⟨t, 7, none⟩ = some (.map (some bc)) := (hT.cell 7).trans rfl
  have hkeys := fun a => hT.keys a
  have hmc := hT.mc
  have hmc1 : PMap (w.alloc (.cells #[.map (some bc)] 55)) bc fc := hmc.kept (Below.heap_alloc _ _ _ hmc.lt)
  have hq1 : (w.alloc (.cells #[.map (some bc)] 55)).cell? ⟨w.heap.size, 0, none⟩ = some (.map (some bc)) := (cell_of_row _ _ 0 _ _ _ (heap_alloc_new w _)).trans rfl
  have hK := keys_any bc w
  have hSo := Sorted_any hS hmc1 hq1 (by simp) (fun ss h1 h2 => hN ss h1 (fun a => by rw [h2, hkeys]))
  have HT := Lib.hid hT
  have HK := Lib.hid hK
  have HSo := Lib.hid hSo
  have HKEYS := Lib.hid hkeys
  clear hT hkeys hmc hmc1 hq1 hK hSo hS hN
  unfold ptr
  go_enter Tryz.func31, Tryz.ntmps31
  go_wp2_with fail
  refine wp_scope_loop 0 (ChJ w t bc T) (fun a' _ => lenV (a'.tmps.getD 4 undef) - (intOf (a'.tmps.getD 5 undef)).toNat) rfl ?_ ?_
  · rintro a' w1 ⟨pk, n, ck, ks, j, L, v3, u6, u13, u14, u15, u16, u17, u18, u19, u20, u21, u22, u23, u24, u25, u26, u27, u28, u29, u30, u31, u32, u33, rfl, hj, hb, hrow, hL, HI⟩
    obtain ⟨hn, hpw, hmem, hLk⟩ := HI.out
    have HT := HT.out
    have hsm : ∀ x ∈ ks, x < 16384 := fun x hx => by
      obtain ⟨ns, hns⟩ := Option.isSome_iff_exists.1 ((hmem x).1 hx)
      have h1 := HT.ok.ck x ns hns
      obtain ⟨n1, n2⟩ := plan_of HT.ok.plan
      have h2 := Rot.plan_facts n1 n2
      omega
    have hks : ks.length ≤ 16384 := nodup_len 16384 ks (hpw.imp fun h => Nat.ne_of_lt h) hsm
    have hn16 : n ≤ 16384 := by rw [hn]; exact hks
    have hLl : L.length ≤ j := by
      have := congrArg List.length hLk
      rw [List.length_map] at this
      rw [this]
      exact Nat.le_trans (List.length_filter_le _ _) (by rw [List.length_take]; omega)
    by_cases hlt : j < n
    · have hjl : j < ks.length := by omega
      obtain ⟨pk', ck', he, hcell⟩ := own_slice hrow
      cases he
      obtain ⟨g, rfl, cj⟩ := hcell j (encN ks[j]) (by simp [hjl]) (by omega)
      obtain ⟨ns, hns⟩ := Option.isSome_iff_exists.1 ((hmem ks[j]).1 (List.getElem_mem hjl))
      have hch := change_any (HT.below hb) hns
      have htk := List.take_succ_eq_append_getElem hjl
      have hk16 := hsm _ (List.getElem_mem hjl)
      obtain ⟨k, hk⟩ : ∃ k, k = ks[j] := ⟨_, rfl⟩
      rw [← hk] at cj hch htk hk16
      have hLs : ∀ M : List (Nat × Value), (M.map (·.1) = if chg T k ≠ [] then [k] else []) → (L ++ M).map (·.1) = (ks.take (j + 1)).filter (fun p => decide (chg T p ≠ [])) := fun M hM => by
        rw [htk, List.filter_append, List.map_append, hLk, hM]
        congr 1
        by_cases h0 : chg T k = [] <;> simp [h0]
      have HLS := Lib.hid hLs; have HCH := Lib.hid hch; have HF := Lib.hid (show n = ks.length ∧ ks.Pairwise (· < ·) ∧ (∀ a, a ∈ ks ↔ (T.C a).isSome = true) from ⟨hn, hpw, hmem⟩)
      have i0 : (0 : Int) ≤ (j : Int) := by omega
      have i1 : (j : Int) < (n : Int) := by omega
      have z1 : IntKind.i64.wrap ((j : Int) + 1) = (j : Int) + 1 := IntWalk.i64_in _ (by omega)
      clear hLs hch hns hn hpw hmem hLk htk hk hsm hjl hcell HI HK HSo HKEYS c7 HT
      unfold ptr at HCH
      go_wp2_with fail
      refine HCH.out.mono ?_
      clear HCH
      rintro e W2 ⟨v, rfl, hown, hx⟩
      have hb2 := hb.trans (hx.mono hb.size)
      have hrow2 := own_kept hrow hx
      have hL2 := hL.kept hx
      have hown2 := own_base hown hb.size
      clear hb hrow hL hx hown cj
      obtain ⟨pv', cv, rfl, _⟩ := own_slice hown2
      obtain ⟨v, hv⟩ : ∃ v, v = Value.slice pv' (chg T k).length cv := ⟨_, rfl⟩
      have hone := chV_one k (own_one hown2)
      rw [← hv] at hown2 hone ⊢
      have hb3 := hb2.alloc hb2.size (.cells (chV k v) 94)
      have hrow3 := World.ownsRow.alloc hrow2 (.cells (chV k v) 94)
      have hL3 := hL2.kept ((Below.refl _ _).alloc (Nat.le_refl _) (.cells (chV k v) 94))
      have hown3 := World.ownsRow.alloc hown2 (.cells (chV k v) 94)
      have h6 : (W2.alloc (.cells (chV k v) 94)).heap[W2.heap.size]? = some (.cells (chV k v) 94 (0, 0)) := heap_alloc_new W2 _
      have HV := Lib.hid hv
      clear hb2 hrow2 hL2 hown2 hv
      have hzc := zeroCh
      have tok : True := trivial
      go_upto_region 6 with (have _t := tok; refine wpList_store_new rfl 94 _ _ rfl (chV k v) _ _ rfl rfl (sizeCh _ _) rfl hone ?_; change wpList _ _ _ _ _ (W2.alloc (.cells (chV k v) 94)); clear _t tok)
      change Code.wp _ _ _ _ (W2.alloc (.cells (chV k v) 94))
      generalize W2.heap.size = b6 at h6 ⊢
      generalize W2.alloc (.cells (chV k v) 94) = W3 at h6 hb3 hrow3 hL3 hown3 ⊢
      clear hzc
      have c6 : W3.cell? ⟨b6, 1, none⟩ = some (.slice pv' (chg T k).length cv) := by rw [← HV.out]; exact (cell_of_row W3 b6 1 _ _ _ h6).trans rfl
      by_cases h0 : chg T k = []
      · have hz : (chg T k).length = 0 := by rw [h0]; rfl
        have hM := HLS.out [] (by simp [h0])
        rw [List.append_nil] at hM
        have HM := Lib.hid hM
        rw [hz] at c6
        clear hM h0 hz hown3 HLS
        go_wp2_with fail
        go_step3
        refine ⟨rfl, ⟨some ⟨g, 0, none⟩, n, ck, ks, j + 1, L, v3, _, _, _, _, _, _, _, _, _, _, _, _, _, _, _, _, _, _, _, _, _, _, by go_num, by omega, hb3, hrow3, hL3, Lib.hid ⟨HF.out.1, HF.out.2.1, HF.out.2.2, HM.out⟩⟩, ?_⟩
        simp [intOf, lenV]
        omega
      · have hz : (((chg T k).length : Int) != 0) = true := by
          rw [bne_iff_ne]
          have : (chg T k).length ≠ 0 := fun e => h0 (List.eq_nil_of_length_eq_zero e)
          omega
        have hM := HLS.out [(k, v)] (by simp [h0])
        have HM := Lib.hid hM
        clear hM h0 HLS
        obtain ⟨ik, hik0, hik1, hik2, hik3⟩ := info_parts infoCh
        have hsz : (chV k v).size = 2 := rfl
        have hrowA := World.ownsRow.alloc hL3.row (.cells (chV k v) 94)
        have hrow4 := World.ownsRow.alloc hrow3 (.cells (chV k v) 94)
        have hL4 := hL3.kept ((Below.refl _ _).alloc (Nat.le_refl _) (.cells (chV k v) 94))
        have hown4 := World.ownsRow.alloc hown3 (.cells (chV k v) 94)
        have hb4 := hb3.alloc hb3.size (.cells (chV k v) 94)
        have HRA := Lib.hid hrowA; have HR4 := Lib.hid hrow4; have HL4 := Lib.hid hL4; have HO4 := Lib.hid hown4; have HB4 := Lib.hid hb4
        have HNW := Lib.hid (Dev.new_cells W3 [.int .u32 (k : Int), v] 94)
        have HONE : Hid (∀ u ∈ ([.int .u32 (k : Int), v] : List Value), u.oneCell' = true) := Lib.hid (fun u hu => by
          simp only [List.mem_cons, List.not_mem_nil, or_false] at hu
          rcases hu with rfl | rfl
          · rfl
          · exact own_one hown3)
        clear hrowA hrow3 hL3 hown3 hb3 hrow4 hL4 hown4 hb4 hone
        go_wp2_with (first
          | (refine wpList_load_row rfl 94 _ rfl b6 rfl _ _ _ _ h6 Tryz.underlying94 rfl (sizeCh _ _) ?_)
          | (at_builtin; refine wpList_append_own _ rfl _ _ 91 rfl w.heap.size 94 ik (.agg (chV 0 (.slice none 0 0))) 2 32 Tryz.underlying91 hik0 hik1 hik2 hik3 rfl (by decide) v3 L.length (chCells L) rfl HRA.out ⟨W3.heap.size, 0, none⟩ 1 1 [.int .u32 (k : Int), v] rfl rfl HNW.out HONE.out (Nat.le_trans (show L.length + 1 ≤ 16385 by omega) (by decide)) (by omega) HB4.out.size ?_; intro v' w1 hown' hgrow _; have HG : Hid ((W3.alloc (.cells (chV k v) 94)).grownBy w1 v3.ownBlock) := Lib.hid hgrow; have HO := Lib.hid hown'; clear hgrow hown'))
        go_step3
        have hbF := HB4.out.grown HG.out HB4.out.size (fun x e => (HRA.out.lt x e).1)
        have hrowF := own_grown HR4.out HRA.out (by decide) HG.out
        refine ⟨rfl, ⟨some ⟨g, 0, none⟩, n, ck, ks, j + 1, L ++ [(k, v)], v', _, _, _, _, _, _, _, _, _, _, _, _, _, _, _, _, _, _, _, _, _, _, by go_num, by omega, hbF, hrowF, ⟨?_, fun x hx => ?_⟩, Lib.hid ⟨HF.out.1, HF.out.2.1, HF.out.2.2, HM.out⟩⟩, ?_⟩
        · rw [List.length_append, chCells_app]
          exact HO.out
        · rcases List.mem_append.1 hx with hx | hx
          · exact own_grown (HL4.out.each x hx) HRA.out (by decide) HG.out
          · simp only [List.mem_singleton] at hx
            subst hx
            exact own_grown HO4.out HRA.out (by decide) HG.out
        · simp [intOf, lenV]
          omega
    · obtain rfl : j = n := by omega
      have i1 : ¬ (j : Int) < (j : Int) := by omega
      have hLk' : L.map (·.1) = ks.filter (fun p => decide (chg T p ≠ [])) := by rw [hLk, hn, List.take_length]
      have HX := Lib.hid (show ks.Pairwise (· < ·) ∧ (∀ a, a ∈ ks ↔ (T.C a).isSome = true) ∧ L.map (·.1) = ks.filter (fun p => decide (chg T p ≠ [])) from ⟨hpw, hmem, hLk'⟩)
      clear hn hpw hmem hLk hLk' hsm hks hLl HI HK HSo HKEYS c7 HT
      go_wp2_with fail
      simp only [Exit.jump]
      go_ret
      exact ⟨v3, L, ks, rfl, HX.out.1, HX.out.2.1, HX.out.2.2, hL, hb⟩
  · intro hpass
    have HPASS := Lib.hid hpass
    clear hpass
    go_wp2_with fail
    refine HK.out.mono ?_
    clear HK c7
    rintro e W1 ⟨rfl, hW1⟩
    subst hW1
    go_wp2_with fail
    refine HSo.out.mono ?_
    clear HSo
    rintro e W2 ⟨v4, ks, rfl, hpw, hmem, hrow, hb⟩
    replace hb : Below w.heap.size w W2 := ((Below.refl _ w).alloc (Nat.le_refl _) _).trans (hb.mono (by simp))
    replace hrow : W2.ownsRow w.heap.size 22 1 v4 ks.length (ks.map encN) := own_base hrow (by simp)
    obtain ⟨pk, ck, rfl, _⟩ := own_slice hrow
    have hmem2 : ∀ a, a ∈ ks ↔ (T.C a).isSome = true := fun a => by rw [hmem, HKEYS.out]
    go_wp2_with fail
    go_step3
    simp only [Exit.then]
    refine (by assumption : ∀ (a : Act) (w : World), _ → _) _ _ (HPASS.out _ _ ⟨pk, ks.length, ck, ks, 0, [], _, _, _, _, _, _, _, _, _, _, _, _, _, _, _, _, _, _, _, _, _, _, _, rfl, Nat.zero_le _, hb, hrow, ⟨World.ownsRow_nil _ _ _ _, fun x hx => by cases hx⟩, Lib.hid ⟨rfl, hpw, hmem2, rfl⟩⟩)
end
end Go.Proofs.YtdadcengelfmhaaGreat.Cnt
