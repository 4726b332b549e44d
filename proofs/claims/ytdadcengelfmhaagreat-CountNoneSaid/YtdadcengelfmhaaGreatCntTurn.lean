/-
  The pick with the bits of the changed tallies inverted (tallies of the first pick).
-/
import Derived.Test.YtdadcengelfmhaaGreatCntMove
import Derived.Test.YtdadcengelfmhaaGreatCntPage
import Derived.Great.BuildSlice
import Derived.BigQuiet
import Derived.Deep.MidRow
namespace Go.Proofs.YtdadcengelfmhaaGreat.Cnt
open Go.RowKit Go.Maps Go.MapKept RowLaw Crc
open Go.Proofs.YtdadcengelfmhaaGreat.Dev (Dev DS ptr Turn Step new_cells)
open Go.Proofs.YtdadcengelfmhaaGreat.Tal (pgCells pgCells_size pgCells_one IsPg kT kP infoP zs zs_length sizeP)
open Go.Proofs.YtdadcengelfmhaaGreat.Rot (planOk tlN pkN fsN wpList_build_run)
set_option maxRecDepth 100000

def turnAll (ns : List Nat) (ps : List Nat) : List Nat := ps.foldl turnBit ns
theorem turnAll_length (ps : List Nat) : ∀ ns : List Nat, (turnAll ns ps).length = ns.length := by
  induction ps with
  | nil => intro ns; rfl
  | cons p ps ih => intro ns; exact (ih _).trans (turnBit_length _ _)
theorem turnBit_lt {ns : List Nat} (hn : ∀ x ∈ ns, x < 18446744073709551616) (i : Nat) : ∀ x ∈ turnBit ns i, x < 18446744073709551616 := fun x hx => by
  rcases List.mem_or_eq_of_mem_set hx with hx | rfl
  · exact hn x hx
  · refine Nat.xor_lt_two_pow (n := 64) ?_ (Nat.pow_lt_pow_right (a := 2) (by omega) (by omega))
    rw [List.getD_eq_getElem?_getD]
    by_cases h : i / 64 < ns.length
    · rw [List.getElem?_eq_getElem h]
      exact hn _ (List.getElem_mem h)
    · rw [List.getElem?_eq_none (by omega)]
      show 0 < 2 ^ 64
      omega
theorem turnAll_lt (ps : List Nat) : ∀ ns : List Nat, (∀ x ∈ ns, x < 18446744073709551616) → ∀ x ∈ turnAll ns ps, x < 18446744073709551616 := by
  induction ps with
  | nil => intro ns h; exact h
  | cons p ps ih => intro ns h; exact ih _ (turnBit_lt h p)
theorem turnAll_snoc (ns ps : List Nat) (p : Nat) : turnAll ns (ps ++ [p]) = turnBit (turnAll ns ps) p := by unfold turnAll; rw [List.foldl_append]; rfl

theorem infoPk : (Tryz.prog.info? 73).map (fun i => (i.zero, i.size, i.bytes)) = some (some (.agg (pgCells .u64 0 (zs kP))), 17, 136) := by kernel_rfl
theorem size_of_pick {k : Nat} {ns : List Nat} (h : ns.length = 16) : (pgCells .u64 k ns).size = 17 := by rw [pgCells_size, h]
theorem run_buildPk (w : World) (k : Nat) (ns : List Nat) (h : ns.length = 16) : (Instr.buildSlice 99 1 #[(0, .agg (pgCells .u64 k ns))]).run Tryz.prog w = .ok (.slice (some ⟨w.heap.size, 0, none⟩) 1 1) (w.alloc (.cells (pgCells .u64 k ns) 73)) := by
  obtain ⟨it, hit, hz, hs, hb⟩ := info_parts infoPk
  have h0 := size_of_pick (k := 0) (ns := zs kP) (zs_length kP)
  have hf := Great.fill_whole (s := 17) (by omega) [.agg (pgCells .u64 k ns)] ((Array.range (1 * 17)).map ((Value.agg (pgCells .u64 0 (zs kP))).cells[· % (Value.agg (pgCells .u64 0 (zs kP))).cells.size]!)) (fun v hv => by
    simp only [List.mem_singleton] at hv; subst hv; exact size_of_pick h) (by simp)
  refine run_buildSlice w _ _ 1 _ (pgCells .u64 k ns) it _ Tryz.underlying99 hit hz (by rw [hs]; omega) (by rw [hs]; omega) ?_
  rw [hs]
  refine Eq.trans ?_ (hf.trans ?_)
  · rfl
  · simp [Value.cells]

theorem cell_setCells_other (q o : Nat) (vs : List Value) (a : Addr) : ∀ (W : World), a.block ≠ q → (W.setCells q o vs).cell? a = W.cell? a := by
  induction vs generalizing o with
  | nil => intro W h; rfl
  | cons v vs ih =>
    intro W h
    show ((W.setCell ⟨q, o, none⟩ v).setCells q (o + 1) vs).cell? a = _
    rw [ih (o + 1) _ h]
    unfold World.cell?
    rw [heap_setCell_other W ⟨q, o, none⟩ a.block v h]
theorem chCells_get : ∀ (M : List (Nat × Value)) (j : Nat) (hj : j < M.length) (i : Nat), i < 2 → (chCells M)[j * 2 + i]? = [Value.int .u32 (M[j].1 : Int), M[j].2][i]?
  | [], j, hj, i, hi => absurd hj (by simp)
  | x :: M, 0, hj, i, hi => by
    show (([.int .u32 (x.1 : Int), x.2] : List Value) ++ chCells M)[0 * 2 + i]? = _
    rw [Nat.zero_mul, Nat.zero_add, List.getElem?_append_left (by simpa using hi)]
    rfl
  | x :: M, j + 1, hj, i, hi => by
    show (([.int .u32 (x.1 : Int), x.2] : List Value) ++ chCells M)[(j + 1) * 2 + i]? = _
    rw [List.getElem?_append_right (by simp; omega), show (j + 1) * 2 + i - ([Value.int .u32 (x.1 : Int), x.2] : List Value).length = j * 2 + i from by simp; omega]
    exact chCells_get M j (by simpa using hj) i hi
/-- what the row of picks is behind j tallies -/
def PkRow (W : World) (base : Nat) (v : Value) (j : Nat) (ns : List Nat) : Prop := (j = 0 → v = .slice none 0 0) ∧ (0 < j → W.ownsRow base 73 17 v 1 (pgCells .u64 0 ns).toList)
theorem PkRow.kept {W W' : World} {base : Nat} {v : Value} {j : Nat} {ns : List Nat} (h : PkRow W base v j ns) (hb : Below W.heap.size W W') : PkRow W' base v j ns := ⟨h.1, fun hj => own_kept (h.2 hj) hb⟩
theorem range_own {W : World} {base g : Nat} {e : TypeId} {size n c : Nat} {xs : List Value} (h : W.ownsRow base e size (.slice (some ⟨g, 0, none⟩) n c) n xs) : W.rangeAt g 0 xs := fun j u hu => by
  have hl : j < xs.length := (List.getElem?_eq_some_iff.1 hu).1
  rw [Nat.zero_add, h.cellAt j (by rw [← h.1]; exact hl), hu]
theorem there_own {W : World} {base g : Nat} {e : TypeId} {size n c : Nat} {xs : List Value} (h : W.ownsRow base e size (.slice (some ⟨g, 0, none⟩) n c) n xs) : W.there g 0 xs.length := fun j hj => by
  refine ⟨?_, ?_⟩
  · rw [range_own h j xs[j] (List.getElem?_eq_getElem hj)]
    rfl
  · rcases h.2 with ⟨hn, _⟩ | ⟨g', cap, cur, he, _, hg, _⟩
    · cases hn
    · cases he
      exact frozen_of_row W g (0 + j) _ _ hg
theorem own_setAll {W : World} {base g : Nat} {e : TypeId} {size n c : Nat} {xs vs : List Value} (h : W.ownsRow base e size (.slice (some ⟨g, 0, none⟩) n c) n xs) (hv : vs.length = xs.length) : (W.setCells g 0 vs).ownsRow base e size (.slice (some ⟨g, 0, none⟩) n c) n vs ∧ (base ≤ g → ∀ w : World, Below base w W → Below base w (W.setCells g 0 vs)) := by
  rcases h with ⟨hl, ⟨hn, _⟩ | ⟨g', cap, cur, he, h3, hg, h5, h6, h7, h8⟩⟩
  · cases hn
  · cases he
    obtain ⟨i1, i2, i3, i4, i5, i6⟩ := setCells_block g e vs cur 0 W hg
    have hle : n * size ≤ cur.size := by rw [h7]; exact Nat.mul_le_mul_right _ h5
    refine ⟨⟨hv.trans hl, .inr ⟨g, c, _, rfl, h3, i1, h5, h6, (splice_size _ _ _).trans h7, ?_⟩⟩, fun hb w hw => hw.trans ⟨i3, i4, i5, by rw [i6]; exact Nat.le_refl _, fun k hk => i2 k (by omega)⟩⟩
    refine List.ext_getElem? fun i => ?_
    rw [List.getElem?_take]
    by_cases hi : i < n * size
    · rw [if_pos hi, Array.getElem?_toList, splice_get vs cur 0 i (by omega), if_pos ⟨Nat.zero_le _, by omega⟩, Nat.sub_zero]
    · rw [if_neg hi, List.getElem?_eq_none (by omega)]

theorem wp_load_arr {P : Program} {op : Oper} {a : Act} {w : World} {K : Act → World → Prop} {Q : Exit → Act → World → Prop} (ty : TypeId) (x : Operand) (ho : op.op = .load ty x)
    (b o : Nat) (hx : a.eval x = .pointer (some ⟨b, o, none⟩)) (A : Array Value) (d : TypeDesc) (hc : w.rangeAt b o A.toList)
    (hu : P.underlying ty = some d) (hd : d.isRow = true) (hi : (P.info? ty).map (·.size) = some A.size) (h : K (a.put op.dst (.agg A)) w) : op.wp P a w K Q :=
  wp_load_mid ty x ho b o hx A.toList d hc hu hd (by rw [Array.length_toList]; exact hi) (by rw [Array.toArray_toList]; exact h)

section
variable {w : World} {t bp bt bc : Nat} {fp ft fc : Nat → Option Nat} {B C : List Nat} {T : TD} {s : DS}
set_option linter.unusedSimpArgs false in
set_option maxHeartbeats 6400000 in
theorem turned_any {base : Nat} {v : Value} {M : List (Nat × Value)} {G : Nat → List Nat} (hT : TabAt w t bp bt bc fp ft fc B T) (hd : Dev w T.d C s) (hr : Reads s T) (hM : ChL w base v M G) (hlt : ∀ x ∈ M, x.1 < 1024) {q0 : Nat} (hq0 : M ≠ [] → fp 0 = some q0) (hlen : M.length ≤ 16384) :
    Calls Tryz.prog 35 #[ptr t, v] w fun e w' => ∃ vp, e = .returned vp ∧ PkRow w' w.heap.size vp M.length (turnAll (T.PV 0) (M.map (·.1))) ∧ Below w.heap.size w w' := by
  obtain ⟨n1, n2⟩ := plan_of hT.ok.plan
  have npl := Rot.plan_facts n1 n2
  have hpk : 0 < pkN T.n := by omega
  clear npl n1 n2
  obtain ⟨pv, cv, hv, hcell⟩ := own_slice hM.row
  subst hv
  have HP : Hid (∀ W, Below w.heap.size w W → M ≠ [] → Calls Tryz.prog 63 #[ptr t, .int .u32 0] W fun e w' => e = .returned (.tuple #[ptr q0, .int .i64 0]) ∧ Below W.heap.size W w') := Lib.hid (fun W hW hne => (pick_any (hT.below hW) (hd.below hW) hr hpk).mono fun e w' h => by
    obtain ⟨q, fp', B', he, _, _, _, hh⟩ := h
    obtain ⟨rfl, hb⟩ := hh q0 (hq0 hne)
    exact ⟨he, hb⟩)
  have HQ : Hid (∀ W, Below w.heap.size w W → M ≠ [] → IsPg .u64 73 W q0 0 (T.PV 0)) := Lib.hid (fun W hW hne => ((hT.below hW).pp 0 q0 (hq0 hne)).1)
  have hpl := hT.ok.pl 0
  have hpn := hT.ok.pn 0
  have HM := Lib.hid hM; have HLT := Lib.hid hlt
  have HC : Hid (∀ W, Below w.heap.size w W → ∀ j (hj : j < M.length), ∃ g, pv = some ⟨g, 0, none⟩ ∧ W.rangeAt g (j * 2) [.int .u32 (M[j].1 : Int), M[j].2] ∧ M[j].2.oneCell' = true) := Lib.hid (fun W hW j hj => by
    have hM' := hM.kept hW
    obtain ⟨pv', cv', he, hc⟩ := own_slice hM'.row
    cases he
    have hcc : ∀ i, i < 2 → (chCells M)[j * 2 + i]? = [Value.int .u32 (M[j].1 : Int), M[j].2][i]? := fun i hi => chCells_get M j hj i hi
    obtain ⟨g, hg, _⟩ := hc (j * 2) (.int .u32 (M[j].1 : Int)) (hcc 0 (by omega)) (by omega)
    refine ⟨g, hg, fun i u hu => ?_, own_one (hM'.each _ (List.getElem_mem hj))⟩
    have hi : i < 2 := (List.getElem?_eq_some_iff.1 hu).1
    obtain ⟨g', hg', hcu⟩ := hc (j * 2 + i) u ((hcc i hi).trans hu) (by omega)
    rw [hg] at hg'
    cases hg'
    exact hcu)
  generalize T.PV 0 = P0 at HQ hpl hpn ⊢
  have hip := sizeP 0 P0 hpl
  have hzc := zeroCh
  have hiu : (Tryz.prog.info? 94).map (·.size) = some 2 := by kernel_rfl
  have HTL : Hid (∀ ps, (turnAll P0 ps).length = 16) := Lib.hid (fun ps => (turnAll_length ps P0).trans hpl)
  have HTN : Hid (∀ ps, ∀ x ∈ turnAll P0 ps, x < 18446744073709551616) := Lib.hid (fun ps => turnAll_lt ps P0 hpn)
  have HBT : Hid (∀ (ps : List Nat) (p : Nat), p < 1024 → ∀ W, Calls Tryz.prog 66 #[.agg (pgCells .u64 0 (turnAll P0 ps)), .int .i64 (p : Int)] W fun e w' => e = .returned (.tuple #[.agg (pgCells .u64 0 (turnAll P0 (ps ++ [p]))), .int .i64 0]) ∧ Below W.heap.size W w') := Lib.hid (fun ps p hp W => by
    rw [turnAll_snoc]
    exact Turn_any (HTL.out ps) (HTN.out ps) hp W)
  have HPS : Hid (∀ j (hj : j < M.length), (M.map (·.1)).take (j + 1) = (M.map (·.1)).take j ++ [M[j].1]) := Lib.hid (fun j hj => by rw [List.take_succ_eq_append_getElem (by simpa using hj)]; simp)
  obtain ⟨ik, hik0, hik1, hik2, hik3⟩ := info_parts infoPk
  have HALL : Hid (turnAll P0 ((M.map (·.1)).take M.length) = turnAll P0 (M.map (·.1))) := Lib.hid (by rw [List.take_of_length_le (by simp)])
  generalize M.map (·.1) = PS at HPS HALL ⊢
  clear hcell hT hd hr hM hlt hq0 hpk
  unfold ptr
  go_enter Tryz.func35, Tryz.ntmps35
  go_wp2_with fail
  go_loopw [5, 13] (fun v5 i wr => ∃ j : Nat, j ≤ M.length ∧ i = .int .i64 j ∧ Below w.heap.size w wr ∧ PkRow wr w.heap.size v5 j (turnAll P0 (PS.take j))) (fun _ i _ => M.length - (intOf i).toNat)
  case atStart => exact ⟨0, Nat.zero_le _, rfl, Below.refl _ _, ⟨fun _ => rfl, fun h => absurd h (by omega)⟩⟩
  case round =>
    obtain ⟨j, hj, rfl, hb, hp⟩ := hrel
    by_cases hlt : j < M.length
    · have hne : M ≠ [] := fun e => by rw [e] at hlt; exact absurd hlt (by simp)
      obtain ⟨g, hg, hrg, hone⟩ := HC.out wr hb j hlt
      have hp1024 : M[j].1 < 1024 := HLT.out _ (List.getElem_mem hlt)
      have hps := HPS.out j hlt
      generalize M[j].2 = vx at hrg hone
      generalize M[j].1 = p at hrg hp1024 hps
      have HPQ := Lib.hid hps
      have HB1 : Hid (Below w.heap.size w (wr.alloc (.cells (chV p vx) 94))) := Lib.hid (hb.alloc hb.size _)
      have HP1 : Hid (PkRow (wr.alloc (.cells (chV p vx) 94)) w.heap.size u5 j (turnAll P0 (PS.take j))) := Lib.hid (hp.kept ((Below.refl _ _).alloc (Nat.le_refl _) _))
      have h7 : (wr.alloc (.cells (chV p vx) 94)).heap[wr.heap.size]? = some (.cells (chV p vx) 94 (0, 0)) := heap_alloc_new wr _
      have hvo := chV_one p hone
      have i0 : (0 : Int) ≤ (j : Int) := by omega
      have i1 : (j : Int) < (M.length : Int) := by omega
      have z1 : IntKind.i64.wrap ((j : Int) + 1) = (j : Int) + 1 := IntWalk.i64_in _ (by omega)
      subst hg
      clear hb hp hps
      have tok : True := trivial
      go_upto_region 5 with (first
        | (refine wpList_load_mid rfl 94 _ rfl g (j * 2) rfl _ _ hrg Tryz.underlying94 rfl hiu ?_)
        | (have _t := tok; refine wpList_store_new rfl 94 _ _ rfl (chV p vx) _ _ rfl rfl (sizeCh _ _) rfl hvo ?_; change wpList _ _ _ _ _ (wr.alloc (.cells (chV p vx) 94)); clear _t tok))
      change Code.wp _ _ _ _ (wr.alloc (.cells (chV p vx) 94))
      generalize wr.heap.size = b7 at h7 ⊢
      generalize wr.alloc (.cells (chV p vx) 94) = W1 at HB1 HP1 h7 ⊢
      clear hrg hvo
      have c7 : W1.cell? ⟨b7, 0, none⟩ = some (.int .u32 (p : Int)) := (cell_of_row W1 b7 0 _ _ _ h7).trans rfl
      have d1 : (p : Int) / 1024 = 0 := by omega
      have d2 : Int.tdiv (p : Int) 1024 = 0 := by rw [Int.tdiv_eq_ediv_of_nonneg (by omega)]; omega
      have hpc := HP.out W1 HB1.out hne
      unfold ptr at hpc
      go_wp2_with fail
      refine hpc.mono ?_
      clear hpc c7 d1 d2
      rintro e W2 ⟨rfl, hx⟩
      have HB2 : Hid (Below w.heap.size w W2) := Lib.hid (HB1.out.trans (hx.mono HB1.out.size))
      have HP2 := Lib.hid (HP1.out.kept hx)
      have h7' : W2.heap[b7]? = some (.cells (chV p vx) 94 (0, 0)) := (hx.block b7 (Array.getElem?_eq_some_iff.1 h7).1).trans h7
      have hpg := HQ.out W2 HB2.out hne
      clear HB1 HP1 h7 hx
      by_cases hj0 : j = 0
      · have h5 := HP2.out.1 hj0
        have HJ0 := Lib.hid hj0
        rw [h5]
        clear HP2 h5 hj0
        go_wp2_with fail
        go_quiet (fail)
        have HB3 : Hid (Below w.heap.size w (W2.drewN nq)) := Lib.hid ⟨HB2.out.os, HB2.out.tape, HB2.out.output, HB2.out.size, HB2.out.block⟩
        have h73 : (W2.drewN nq).heap[b7]? = some (.cells (chV p vx) 94 (0, 0)) := h7'
        have hpg3 : (W2.drewN nq).heap[q0]? = some (.cells (pgCells .u64 0 P0) 73 (0, 0)) := hpg
        generalize W2.drewN nq = W3 at HB3 h73 hpg3 ⊢
        clear h7' hpg HB2
        have HNC := Lib.hid (new_cells W3 (pgCells .u64 0 P0).toList 73)
        have HBU := Lib.hid (run_buildPk W3 0 P0 hpl)
        have HNL : Hid ((pgCells .u64 0 P0).toList.length = 1 * 17) := Lib.hid (by rw [Array.length_toList, size_of_pick hpl])
        have HON : Hid (∀ u ∈ (pgCells .u64 0 P0).toList, u.oneCell' = true) := Lib.hid (fun u hu => Array.all_eq_true_iff_forall_mem.1 (pgCells_one (K := .u64) 0 P0) u (by simpa using hu))
        have HBA : Hid (Below w.heap.size w (W3.alloc (.cells (pgCells .u64 0 P0) 73))) := Lib.hid (HB3.out.alloc HB3.out.size _)
        have h74 : (W3.alloc (.cells (pgCells .u64 0 P0) 73)).heap[b7]? = some (.cells (chV p vx) 94 (0, 0)) := (Below.heap_alloc _ _ b7 (Array.getElem?_eq_some_iff.1 h73).1).trans h73
        have H74 := Lib.hid h74
        rw [Array.toArray_toList] at HNC
        have HPE : Hid (P0 = turnAll P0 (PS.take j)) := Lib.hid (by rw [HJ0.out]; rfl)
        have hown0 : (W3.alloc (.cells (pgCells .u64 0 P0) 73)).ownsRow w.heap.size 73 17 (.slice none 0 0) 0 [] := World.ownsRow_nil _ _ _ _
        have HW0 := Lib.hid hown0
        have HG1 := Lib.hid (show w.heap.size ≤ (W3.alloc (.cells (pgCells .u64 0 P0) 73)).heap.size from HBA.out.size)
        clear h73 h74 hown0 HB3
        obtain ⟨pc, hpc⟩ : ∃ pc, pc = pgCells .u64 0 P0 := ⟨_, rfl⟩
        rw [← hpc] at hpg3 HBU HNC HNL HON HBA H74 HW0 HG1 hip
        have HPC := Lib.hid hpc
        clear hpc
        go_upto_region 8 with (first
          | (refine wpList_load_row rfl 73 _ rfl q0 rfl _ _ _ _ hpg3 Tryz.underlying73 rfl hip ?_)
          | (refine wpList_build_run rfl 99 1 #[(0, .tmp 45)] rfl #[(0, .agg pc)] (by first | rfl | (simp [Act.eval]; done) | (simp [Act.eval]; rfl)) _ HBU.out ?_; clear hpg3 HBU)
          | (at_builtin; refine wpList_append_own _ rfl _ _ 99 rfl w.heap.size 73 ik (.agg (pgCells .u64 0 (zs kP))) 17 136 Tryz.underlying99 hik0 hik1 hik2 hik3 rfl (by decide) (.slice none 0 0) 0 [] rfl HW0.out ⟨W3.heap.size, 0, none⟩ 1 1 pc.toList rfl HNL.out HNC.out HON.out (by decide) (by decide) HG1.out ?_; intro v5 W4 hown hgr _; have HGR := Lib.hid hgr; have HO4 := Lib.hid hown; clear hgr hown))
        obtain ⟨pv5, c5, rfl, hc5⟩ := own_slice HO4.out
        obtain ⟨g5, rfl, _⟩ := hc5 0 (.int .u32 0) (by rw [HPC.out]; simp [pgCells]) (by omega)
        have h74 : W4.heap[b7]? = some (.cells (chV p vx) 94 (0, 0)) := (HGR.out.block b7 (Array.getElem?_eq_some_iff.1 H74.out).1 (by simp [Value.ownBlock])).trans H74.out
        have HB4 : Hid (Below w.heap.size w W4) := Lib.hid (HBA.out.grown HGR.out HBA.out.size (fun x e => by simp [Value.ownBlock] at e))
        replace HO4 : Hid (W4.ownsRow w.heap.size 73 17 (.slice (some ⟨g5, 0, none⟩) 1 c5) 1 (pgCells .u64 0 (turnAll P0 (PS.take j))).toList) := Lib.hid (by rw [← HPE.out, ← HPC.out]; exact HO4.out)
        clear hc5 HGR H74 HBA HNC HNL HON HW0 HG1 HPE HPC
        have hns := HTL.out (PS.take j)
        have hbt := HBT.out (PS.take j) p hp1024
        rw [← HPQ.out] at hbt
        have hns' := HTL.out (PS.take (j + 1))
        obtain ⟨ns, hn0⟩ : ∃ n', n' = turnAll P0 (PS.take j) := ⟨_, rfl⟩
        rw [← hn0] at HO4 hns hbt
        obtain ⟨ns', hns2⟩ : ∃ n', n' = turnAll P0 (PS.take (j + 1)) := ⟨_, rfl⟩
        rw [← hns2] at hns' hbt
        have HBT4 := Lib.hid hbt
        have HNS2 := Lib.hid hns2
        clear hbt hns2 hn0
        go_upto_region 9 with fail
        have hS : W4.drew.cell? ⟨b7, 0, none⟩ = some (.int .u32 (p : Int)) := (cell_of_row W4.drew b7 0 _ _ _ h74).trans rfl
        have HB5 : Hid (Below w.heap.size w W4.drew) := Lib.hid ⟨HB4.out.os, HB4.out.tape, HB4.out.output, HB4.out.size, HB4.out.block⟩
        have HO5 : Hid (W4.drew.ownsRow w.heap.size 73 17 (.slice (some ⟨g5, 0, none⟩) 1 c5) 1 (pgCells .u64 0 ns).toList) := Lib.hid (own_kept HO4.out ⟨rfl, rfl, rfl, Nat.le_refl _, fun _ _ => rfl⟩)
        have h75 : W4.drew.heap[b7]? = some (.cells (chV p vx) 94 (0, 0)) := h74
        have e1 : (p : Int) % 1024 = (p : Int) := by omega
        have e2 : Int.tmod (p : Int) 1024 = (p : Int) := by rw [Int.tmod_eq_emod_of_nonneg (by omega)]; omega
        have e3 : IntKind.i64.wrap (p : Int) = (p : Int) := IntWalk.i64_in _ (by omega)
        refine wp_region_noPanic ?_
        refine wp_region_held_drew (S := fun W => W.cell? ⟨b7, 0, none⟩ = some (.int .u32 (p : Int))) (by kernel_rfl) hS ?_
        intro hS
        generalize W4.drew = W5 at hS HB5 HO5 h75 ⊢
        clear HB4 HO4 h74
        refine wpAnyH_take (i := 0) (v := .pointer (some ⟨g5, 0, none⟩)) rfl (by kernel_rfl) (by kernel_rfl) (by kernel_rfl) (fun _ _ _ h => (h : False).elim) (Or.inl ⟨by rfl, fun _ _ => by go_simp⟩) hS ?_
        change wpAnyH _ _ _ _ _ _ _ (Act.put _ (some 54) _) _
        simp only [Act.put, List.setIfInBounds_toArray, List.set_cons_succ, List.set_cons_zero]
        refine wpAnyH_take (i := 1) (v := .pointer (some ⟨g5, 0, none⟩)) rfl (by kernel_rfl) (by kernel_rfl) (by kernel_rfl) (fun _ _ _ h => (h : False).elim) (Or.inl ⟨by rfl, fun _ _ => by go_simp⟩) hS ?_
        change wpAnyH _ _ _ _ _ _ _ (Act.put _ (some 55) _) _
        simp only [Act.put, List.setIfInBounds_toArray, List.set_cons_succ, List.set_cons_zero]
        refine wpAnyH_take (i := 2) (v := .pointer (some ⟨g5, 0, none⟩)) rfl (by kernel_rfl) (by kernel_rfl) (by kernel_rfl) (fun _ _ _ h => (h : False).elim) (Or.inl ⟨by rfl, fun _ _ => by go_simp⟩) hS ?_
        change wpAnyH _ _ _ _ _ _ _ (Act.put _ (some 56) _) _
        simp only [Act.put, List.setIfInBounds_toArray, List.set_cons_succ, List.set_cons_zero]
        refine wpAnyH_take (i := 4) (v := .pointer (some ⟨b7, 0, none⟩)) rfl (by kernel_rfl) (by kernel_rfl) (by kernel_rfl) (fun _ _ _ h => (h : False).elim) (Or.inl ⟨by rfl, fun _ _ => by go_simp⟩) hS ?_
        change wpAnyH _ _ _ _ _ _ _ (Act.put _ (some 58) _) _
        simp only [Act.put, List.setIfInBounds_toArray, List.set_cons_succ, List.set_cons_zero]
        refine wpAnyH_take (i := 5) (v := .int .u32 (p : Int)) rfl (by kernel_rfl) (by kernel_rfl) (by kernel_rfl) (fun _ _ _ h => (h : False).elim) (Or.inl ⟨by rfl, fun w hw => by go_simp⟩) hS ?_
        change wpAnyH _ _ _ _ _ _ _ (Act.put _ (some 59) _) _
        simp only [Act.put, List.setIfInBounds_toArray, List.set_cons_succ, List.set_cons_zero]
        refine wpAnyH_take (i := 6) (v := .int .u32 (p : Int)) rfl (by kernel_rfl) (by kernel_rfl) (by kernel_rfl) (fun _ _ _ h => (h : False).elim) (Or.inl ⟨by rfl, fun _ _ => by go_simp⟩) hS ?_
        change wpAnyH _ _ _ _ _ _ _ (Act.put _ (some 60) _) _
        simp only [Act.put, List.setIfInBounds_toArray, List.set_cons_succ, List.set_cons_zero]
        refine wpAnyH_take (i := 7) (v := .int .i64 (p : Int)) rfl (by kernel_rfl) (by kernel_rfl) (by kernel_rfl) (fun _ _ _ h => (h : False).elim) (Or.inl ⟨by rfl, fun _ _ => by go_simp⟩) hS ?_
        change wpAnyH _ _ _ _ _ _ _ (Act.put _ (some 61) _) _
        simp only [Act.put, List.setIfInBounds_toArray, List.set_cons_succ, List.set_cons_zero]
        clear e1 e2 e3
        have hrg := range_own HO5.out
        refine wpAnyH_ready (rs := [3]) (by kernel_rfl) (by simp) ?_
        refine AllReadyH.cons rfl (fun K hK => ?_) AllReadyH.nil
        rw [if_pos (by rfl)]
        refine wp_load_arr 73 _ rfl g5 0 rfl (pgCells .u64 0 ns) _ hrg Tryz.underlying73 rfl (sizeP 0 ns hns) ?_
        refine hK _ _ hS (fun _ => ?_)
        clear hK K hrg
        try simp only [Act.put, List.setIfInBounds_toArray, List.set_cons_succ, List.set_cons_zero]
        refine wpAnyH_ready (rs := [8]) (by kernel_rfl) (by simp) ?_
        refine AllReadyH.cons rfl (fun K hK => ?_) AllReadyH.nil
        rw [if_pos (by rfl)]
        go_simp
        refine (HBT4.out _).mono ?_
        clear HBT4
        rintro e W6 ⟨rfl, hx⟩
        dsimp only
        have hS6 : W6.cell? ⟨b7, 0, none⟩ = some (.int .u32 (p : Int)) := (cell_of_row W6 b7 0 _ _ _ ((hx.block b7 (Array.getElem?_eq_some_iff.1 h75).1).trans h75)).trans rfl
        have HB6 : Hid (Below w.heap.size w W6) := Lib.hid (HB5.out.trans (hx.mono HB5.out.size))
        have HO6 := Lib.hid (own_kept HO5.out hx)
        have HNE : Hid (b7 ≠ g5) := Lib.hid (fun e => own_ne HO5.out h75 (by decide) (by rw [e]; rfl))
        refine hK _ _ hS6 (fun _ => ?_)
        clear hK K hS h75 HB5 HO5 hx
        have hS := hS6
        clear hS6
        try simp only [Act.put, List.setIfInBounds_toArray, List.set_cons_succ, List.set_cons_zero]
        refine wpAnyH_take (i := 9) (v := .tuple #[.agg (pgCells .u64 0 ns'), .int .i64 0]) rfl (by kernel_rfl) (by kernel_rfl) (by kernel_rfl) (fun _ _ _ h => (h : False).elim) (Or.inl ⟨by rfl, fun _ _ => by go_simp⟩) hS ?_
        change wpAnyH _ _ _ _ _ _ _ (Act.put _ (some 53) _) _
        simp only [Act.put, List.setIfInBounds_toArray, List.set_cons_succ, List.set_cons_zero]
        refine wpAnyH_take (i := 10) (v := .agg (pgCells .u64 0 ns')) rfl (by kernel_rfl) (by kernel_rfl) (by kernel_rfl) (fun _ _ _ h => (h : False).elim) (Or.inl ⟨by rfl, fun _ _ => by go_simp⟩) hS ?_
        change wpAnyH _ _ _ _ _ _ _ (Act.put _ (some 63) _) _
        simp only [Act.put, List.setIfInBounds_toArray, List.set_cons_succ, List.set_cons_zero]
        refine wpAnyH_take (i := 11) (v := .int .i64 0) rfl (by kernel_rfl) (by kernel_rfl) (by kernel_rfl) (fun _ _ _ h => (h : False).elim) (Or.inl ⟨by rfl, fun _ _ => by go_simp⟩) hS ?_
        change wpAnyH _ _ _ _ _ _ _ (Act.put _ (some 64) _) _
        simp only [Act.put, List.setIfInBounds_toArray, List.set_cons_succ, List.set_cons_zero]
        refine wpAnyH_take (i := 12) (v := .pointer (some ⟨g5, 0, none⟩)) rfl (by kernel_rfl) (by kernel_rfl) (by kernel_rfl) (fun _ _ _ h => (h : False).elim) (Or.inl ⟨by rfl, fun _ _ => by go_simp⟩) hS ?_
        change wpAnyH _ _ _ _ _ _ _ (Act.put _ (some 65) _) _
        simp only [Act.put, List.setIfInBounds_toArray, List.set_cons_succ, List.set_cons_zero]
        refine wpAnyH_ready (rs := [13]) (by kernel_rfl) (by simp) ?_
        refine AllReadyH.cons rfl (fun K hK => ?_) AllReadyH.nil
        rw [if_pos (by rfl)]
        have hth := there_own HO6.out
        rw [Array.length_toList, size_of_pick hns, ← size_of_pick (k := 0) hns'] at hth
        refine wp_store_mid 73 _ _ rfl g5 0 (pgCells .u64 0 ns') rfl rfl hth (sizeP 0 ns' hns') (pgCells_one _ _) ?_
        have h7o := own_setAll HO6.out (vs := (pgCells .u64 0 ns').toList) (by rw [Array.length_toList, Array.length_toList, size_of_pick hns, size_of_pick hns'])
        have hge : w.heap.size ≤ g5 := (HO6.out.lt g5 rfl).1
        have hSF : (W6.setCells g5 0 (pgCells .u64 0 ns').toList).cell? ⟨b7, 0, none⟩ = some (.int .u32 (p : Int)) := by
          rw [cell_setCells_other _ _ _ _ _ HNE.out]
          exact hS
        refine hK _ _ hSF (fun _ => ?_)
        clear hK K hSF hS hth
        have HOF := Lib.hid h7o.1
        have HBF := Lib.hid (h7o.2 hge w HB6.out)
        clear h7o HO6 HB6
        generalize W6.setCells g5 0 (pgCells .u64 0 ns').toList = WF at HOF HBF ⊢
        try simp only [Act.put, List.setIfInBounds_toArray, List.set_cons_succ, List.set_cons_zero]
        refine wpAnyH_done (by kernel_rfl) ?_ _
        refine NoPanic.normal ?_
        go_wp2_with fail
        go_roundw
        case rel => exact ⟨j + 1, by omega, by go_num, HBF.out, ⟨fun h => absurd h (by omega), fun _ => by rw [← HNS2.out]; exact HOF.out⟩⟩
        case measure => simp [intOf]; omega

      · have h5 := HP2.out.2 (Nat.pos_of_ne_zero hj0)
        obtain ⟨pv5, c5, rfl, hc5⟩ := own_slice h5
        obtain ⟨g5, rfl, c50⟩ := hc5 0 (.int .u32 0) (by simp [pgCells]) (by omega)
        clear hc5 HP2 hj0
        have cq := hpg.index
        have HO3 := Lib.hid h5
        have HPG := Lib.hid hpg
        clear h5 hpg
        go_wp2_with fail
        go_quiet (fail)
        have HB4 : Hid (Below w.heap.size w (W2.drewN nq)) := Lib.hid ⟨HB2.out.os, HB2.out.tape, HB2.out.output, HB2.out.size, HB2.out.block⟩
        have h74 : (W2.drewN nq).heap[b7]? = some (.cells (chV p vx) 94 (0, 0)) := h7'
        have HO4 : Hid ((W2.drewN nq).ownsRow w.heap.size 73 17 (.slice (some ⟨g5, 0, none⟩) 1 c5) 1 (pgCells .u64 0 (turnAll P0 (PS.take j))).toList) := Lib.hid (own_kept HO3.out ⟨rfl, rfl, rfl, Nat.le_refl _, fun _ _ => rfl⟩)
        generalize W2.drewN nq = W4 at HB4 h74 HO4 ⊢
        clear h7' HPG HB2 HO3 cq c50
        have hns := HTL.out (PS.take j)
        have hbt := HBT.out (PS.take j) p hp1024
        rw [← HPQ.out] at hbt
        have hns' := HTL.out (PS.take (j + 1))
        obtain ⟨ns, hn0⟩ : ∃ n', n' = turnAll P0 (PS.take j) := ⟨_, rfl⟩
        rw [← hn0] at HO4 hns hbt
        obtain ⟨ns', hns2⟩ : ∃ n', n' = turnAll P0 (PS.take (j + 1)) := ⟨_, rfl⟩
        rw [← hns2] at hns' hbt
        have HBT4 := Lib.hid hbt
        have HNS2 := Lib.hid hns2
        clear hbt hns2 hn0
        go_upto_region 9 with fail
        have hS : W4.drew.cell? ⟨b7, 0, none⟩ = some (.int .u32 (p : Int)) := (cell_of_row W4.drew b7 0 _ _ _ h74).trans rfl
        have HB5 : Hid (Below w.heap.size w W4.drew) := Lib.hid ⟨HB4.out.os, HB4.out.tape, HB4.out.output, HB4.out.size, HB4.out.block⟩
        have HO5 : Hid (W4.drew.ownsRow w.heap.size 73 17 (.slice (some ⟨g5, 0, none⟩) 1 c5) 1 (pgCells .u64 0 ns).toList) := Lib.hid (own_kept HO4.out ⟨rfl, rfl, rfl, Nat.le_refl _, fun _ _ => rfl⟩)
        have h75 : W4.drew.heap[b7]? = some (.cells (chV p vx) 94 (0, 0)) := h74
        have e1 : (p : Int) % 1024 = (p : Int) := by omega
        have e2 : Int.tmod (p : Int) 1024 = (p : Int) := by rw [Int.tmod_eq_emod_of_nonneg (by omega)]; omega
        have e3 : IntKind.i64.wrap (p : Int) = (p : Int) := IntWalk.i64_in _ (by omega)
        refine wp_region_noPanic ?_
        refine wp_region_held_drew (S := fun W => W.cell? ⟨b7, 0, none⟩ = some (.int .u32 (p : Int))) (by kernel_rfl) hS ?_
        intro hS
        generalize W4.drew = W5 at hS HB5 HO5 h75 ⊢
        clear HB4 HO4 h74
        refine wpAnyH_take (i := 0) (v := .pointer (some ⟨g5, 0, none⟩)) rfl (by kernel_rfl) (by kernel_rfl) (by kernel_rfl) (fun _ _ _ h => (h : False).elim) (Or.inl ⟨by rfl, fun _ _ => by go_simp⟩) hS ?_
        change wpAnyH _ _ _ _ _ _ _ (Act.put _ (some 54) _) _
        simp only [Act.put, List.setIfInBounds_toArray, List.set_cons_succ, List.set_cons_zero]
        refine wpAnyH_take (i := 1) (v := .pointer (some ⟨g5, 0, none⟩)) rfl (by kernel_rfl) (by kernel_rfl) (by kernel_rfl) (fun _ _ _ h => (h : False).elim) (Or.inl ⟨by rfl, fun _ _ => by go_simp⟩) hS ?_
        change wpAnyH _ _ _ _ _ _ _ (Act.put _ (some 55) _) _
        simp only [Act.put, List.setIfInBounds_toArray, List.set_cons_succ, List.set_cons_zero]
        refine wpAnyH_take (i := 2) (v := .pointer (some ⟨g5, 0, none⟩)) rfl (by kernel_rfl) (by kernel_rfl) (by kernel_rfl) (fun _ _ _ h => (h : False).elim) (Or.inl ⟨by rfl, fun _ _ => by go_simp⟩) hS ?_
        change wpAnyH _ _ _ _ _ _ _ (Act.put _ (some 56) _) _
        simp only [Act.put, List.setIfInBounds_toArray, List.set_cons_succ, List.set_cons_zero]
        refine wpAnyH_take (i := 4) (v := .pointer (some ⟨b7, 0, none⟩)) rfl (by kernel_rfl) (by kernel_rfl) (by kernel_rfl) (fun _ _ _ h => (h : False).elim) (Or.inl ⟨by rfl, fun _ _ => by go_simp⟩) hS ?_
        change wpAnyH _ _ _ _ _ _ _ (Act.put _ (some 58) _) _
        simp only [Act.put, List.setIfInBounds_toArray, List.set_cons_succ, List.set_cons_zero]
        refine wpAnyH_take (i := 5) (v := .int .u32 (p : Int)) rfl (by kernel_rfl) (by kernel_rfl) (by kernel_rfl) (fun _ _ _ h => (h : False).elim) (Or.inl ⟨by rfl, fun w hw => by go_simp⟩) hS ?_
        change wpAnyH _ _ _ _ _ _ _ (Act.put _ (some 59) _) _
        simp only [Act.put, List.setIfInBounds_toArray, List.set_cons_succ, List.set_cons_zero]
        refine wpAnyH_take (i := 6) (v := .int .u32 (p : Int)) rfl (by kernel_rfl) (by kernel_rfl) (by kernel_rfl) (fun _ _ _ h => (h : False).elim) (Or.inl ⟨by rfl, fun _ _ => by go_simp⟩) hS ?_
        change wpAnyH _ _ _ _ _ _ _ (Act.put _ (some 60) _) _
        simp only [Act.put, List.setIfInBounds_toArray, List.set_cons_succ, List.set_cons_zero]
        refine wpAnyH_take (i := 7) (v := .int .i64 (p : Int)) rfl (by kernel_rfl) (by kernel_rfl) (by kernel_rfl) (fun _ _ _ h => (h : False).elim) (Or.inl ⟨by rfl, fun _ _ => by go_simp⟩) hS ?_
        change wpAnyH _ _ _ _ _ _ _ (Act.put _ (some 61) _) _
        simp only [Act.put, List.setIfInBounds_toArray, List.set_cons_succ, List.set_cons_zero]
        clear e1 e2 e3
        have hrg := range_own HO5.out
        refine wpAnyH_ready (rs := [3]) (by kernel_rfl) (by simp) ?_
        refine AllReadyH.cons rfl (fun K hK => ?_) AllReadyH.nil
        rw [if_pos (by rfl)]
        refine wp_load_arr 73 _ rfl g5 0 rfl (pgCells .u64 0 ns) _ hrg Tryz.underlying73 rfl (sizeP 0 ns hns) ?_
        refine hK _ _ hS (fun _ => ?_)
        clear hK K hrg
        try simp only [Act.put, List.setIfInBounds_toArray, List.set_cons_succ, List.set_cons_zero]
        refine wpAnyH_ready (rs := [8]) (by kernel_rfl) (by simp) ?_
        refine AllReadyH.cons rfl (fun K hK => ?_) AllReadyH.nil
        rw [if_pos (by rfl)]
        go_simp
        refine (HBT4.out _).mono ?_
        clear HBT4
        rintro e W6 ⟨rfl, hx⟩
        dsimp only
        have hS6 : W6.cell? ⟨b7, 0, none⟩ = some (.int .u32 (p : Int)) := (cell_of_row W6 b7 0 _ _ _ ((hx.block b7 (Array.getElem?_eq_some_iff.1 h75).1).trans h75)).trans rfl
        have HB6 : Hid (Below w.heap.size w W6) := Lib.hid (HB5.out.trans (hx.mono HB5.out.size))
        have HO6 := Lib.hid (own_kept HO5.out hx)
        have HNE : Hid (b7 ≠ g5) := Lib.hid (fun e => own_ne HO5.out h75 (by decide) (by rw [e]; rfl))
        refine hK _ _ hS6 (fun _ => ?_)
        clear hK K hS h75 HB5 HO5 hx
        have hS := hS6
        clear hS6
        try simp only [Act.put, List.setIfInBounds_toArray, List.set_cons_succ, List.set_cons_zero]
        refine wpAnyH_take (i := 9) (v := .tuple #[.agg (pgCells .u64 0 ns'), .int .i64 0]) rfl (by kernel_rfl) (by kernel_rfl) (by kernel_rfl) (fun _ _ _ h => (h : False).elim) (Or.inl ⟨by rfl, fun _ _ => by go_simp⟩) hS ?_
        change wpAnyH _ _ _ _ _ _ _ (Act.put _ (some 53) _) _
        simp only [Act.put, List.setIfInBounds_toArray, List.set_cons_succ, List.set_cons_zero]
        refine wpAnyH_take (i := 10) (v := .agg (pgCells .u64 0 ns')) rfl (by kernel_rfl) (by kernel_rfl) (by kernel_rfl) (fun _ _ _ h => (h : False).elim) (Or.inl ⟨by rfl, fun _ _ => by go_simp⟩) hS ?_
        change wpAnyH _ _ _ _ _ _ _ (Act.put _ (some 63) _) _
        simp only [Act.put, List.setIfInBounds_toArray, List.set_cons_succ, List.set_cons_zero]
        refine wpAnyH_take (i := 11) (v := .int .i64 0) rfl (by kernel_rfl) (by kernel_rfl) (by kernel_rfl) (fun _ _ _ h => (h : False).elim) (Or.inl ⟨by rfl, fun _ _ => by go_simp⟩) hS ?_
        change wpAnyH _ _ _ _ _ _ _ (Act.put _ (some 64) _) _
        simp only [Act.put, List.setIfInBounds_toArray, List.set_cons_succ, List.set_cons_zero]
        refine wpAnyH_take (i := 12) (v := .pointer (some ⟨g5, 0, none⟩)) rfl (by kernel_rfl) (by kernel_rfl) (by kernel_rfl) (fun _ _ _ h => (h : False).elim) (Or.inl ⟨by rfl, fun _ _ => by go_simp⟩) hS ?_
        change wpAnyH _ _ _ _ _ _ _ (Act.put _ (some 65) _) _
        simp only [Act.put, List.setIfInBounds_toArray, List.set_cons_succ, List.set_cons_zero]
        refine wpAnyH_ready (rs := [13]) (by kernel_rfl) (by simp) ?_
        refine AllReadyH.cons rfl (fun K hK => ?_) AllReadyH.nil
        rw [if_pos (by rfl)]
        have hth := there_own HO6.out
        rw [Array.length_toList, size_of_pick hns, ← size_of_pick (k := 0) hns'] at hth
        refine wp_store_mid 73 _ _ rfl g5 0 (pgCells .u64 0 ns') rfl rfl hth (sizeP 0 ns' hns') (pgCells_one _ _) ?_
        have h7o := own_setAll HO6.out (vs := (pgCells .u64 0 ns').toList) (by rw [Array.length_toList, Array.length_toList, size_of_pick hns, size_of_pick hns'])
        have hge : w.heap.size ≤ g5 := (HO6.out.lt g5 rfl).1
        have hSF : (W6.setCells g5 0 (pgCells .u64 0 ns').toList).cell? ⟨b7, 0, none⟩ = some (.int .u32 (p : Int)) := by
          rw [cell_setCells_other _ _ _ _ _ HNE.out]
          exact hS
        refine hK _ _ hSF (fun _ => ?_)
        clear hK K hSF hS hth
        have HOF := Lib.hid h7o.1
        have HBF := Lib.hid (h7o.2 hge w HB6.out)
        clear h7o HO6 HB6
        generalize W6.setCells g5 0 (pgCells .u64 0 ns').toList = WF at HOF HBF ⊢
        try simp only [Act.put, List.setIfInBounds_toArray, List.set_cons_succ, List.set_cons_zero]
        refine wpAnyH_done (by kernel_rfl) ?_ _
        refine NoPanic.normal ?_
        go_wp2_with fail
        go_roundw
        case rel => exact ⟨j + 1, by omega, by go_num, HBF.out, ⟨fun h => absurd h (by omega), fun _ => by rw [← HNS2.out]; exact HOF.out⟩⟩
        case measure => simp [intOf]; omega

    · obtain rfl : j = M.length := by omega
      have i1 : ¬ (M.length : Int) < (M.length : Int) := by omega
      have HF : Hid (PkRow wr w.heap.size u5 M.length (turnAll P0 PS)) := Lib.hid (by rw [← HALL.out]; exact hp)
      clear hp
      go_wp2_with fail
      go_ret
      exact ⟨u5, rfl, HF.out, hb⟩
end
end Go.Proofs.YtdadcengelfmhaaGreat.Cnt
