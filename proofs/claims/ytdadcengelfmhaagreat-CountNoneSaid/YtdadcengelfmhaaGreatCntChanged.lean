/-
  The blocks whose count is not the one that the root gives (devices of one pick).
-/
import Derived.Test.YtdadcengelfmhaaGreatCntSeal
namespace Go.Proofs.YtdadcengelfmhaaGreat.Cnt
open Go.RowKit Go.Maps Go.MapKept RowLaw Crc
open Go.Proofs.YtdadcengelfmhaaGreat.Dev (Dev DS ptr Turn Step)
open Go.Proofs.YtdadcengelfmhaaGreat.Rot (planOk tlN pkN fsN)
set_option maxRecDepth 100000

theorem chg_le (T : TD) (p : Nat) : (chg T p).length ≤ 64 := chgTo_len T p 64
theorem flat_le (T : TD) (ps : List Nat) : (ps.flatMap (chg T)).length ≤ 64 * ps.length := by
  induction ps with
  | nil => simp
  | cons p ps ih =>
    have := chg_le T p
    simp only [List.flatMap_cons, List.length_append, List.length_cons]
    omega
def changedL (T : TD) (ks : List Nat) : List Nat := (chs T ks).flatMap (chg T)
section
variable {w : World} {t bp bt bc : Nat} {fp ft fc : Nat → Option Nat} {B C : List Nat} {T : TD} {s : DS}
set_option linter.unusedSimpArgs false in
set_option maxHeartbeats 6400000 in
theorem Changed_any {N : Nat} (hS : SortOk N) (hT : TabAt w t bp bt bc fp ft fc B T) (hN : ∀ ss : List Nat, ss.Nodup → (∀ a, a ∈ ss ↔ (T.C a).isSome = true) → ss.length ≤ N) :
    Calls Tryz.prog 17 #[ptr t] w fun e w' => ∃ (v : Value) (ks : List Nat), e = .returned v ∧ ks.Pairwise (· < ·) ∧ (∀ a, a ∈ ks ↔ (T.C a).isSome = true) ∧
      w'.ownsRow w.heap.size 22 1 v (changedL T ks).length ((changedL T ks).map encN) ∧ Below w.heap.size w w' := by
  have hE := exists_yesT hT
  have HCH := Lib.hid (fun W (hW : Below w.heap.size w W) => changes_any hS (hT.below hW) hN)
  obtain ⟨n1, n2⟩ := plan_of hT.ok.plan
  have npl := Rot.plan_facts n1 n2
  have htl : tlN T.n ≤ 16384 := by omega
  have HCK : Hid (∀ p, (T.C p).isSome = true → p < 16384) := Lib.hid (fun p hp => by
    obtain ⟨ns, hns⟩ := Option.isSome_iff_exists.1 hp
    have := hT.ok.ck p ns hns
    omega)
  clear npl n1 n2 hT hN hS htl
  have hzc := zeroCh
  have hiu : (Tryz.prog.info? 94).map (·.size) = some 2 := by kernel_rfl
  obtain ⟨i0, hi, hz0, hz1, hz2⟩ := info_parts info32
  unfold ptr at hE ⊢
  have HE := Lib.hid hE
  clear hE
  go_enter Tryz.func17, Tryz.ntmps17
  go_wp2_with ((with_reducible refine HE.out.mono ?_); rintro e W1 ⟨rfl, rfl⟩)
  have hcc := HCH.out W1 (Below.refl _ _)
  unfold ptr at hcc
  refine hcc.mono ?_
  clear hcc HCH HE
  rintro e W2 ⟨vc, M, ks, rfl, hpw, hmem, hMk, hM, hx⟩
  obtain ⟨pv, cv, hv, hcell⟩ := own_slice hM.row
  subst hv
  have hMs : ∀ j (hj : j < M.length), (T.C M[j].1).isSome = true ∧ chg T M[j].1 ≠ [] := fun j hj => by
    have h1 : M[j].1 ∈ M.map (·.1) := List.mem_map.2 ⟨_, List.getElem_mem hj, rfl⟩
    rw [hMk, List.mem_filter] at h1
    exact ⟨(hmem _).1 h1.1, of_decide_eq_true h1.2⟩
  have hMn : M.length ≤ 16384 := by
    have h1 : (M.map (·.1)).Nodup := by
      rw [hMk]
      exact ((hpw.imp fun h => Nat.ne_of_lt h).filter _)
    have h2 := nodup_len 16384 _ h1 (fun x hx' => by
      obtain ⟨y, hy, rfl⟩ := List.mem_map.1 hx'
      obtain ⟨j, hj, rfl⟩ := List.getElem_of_mem hy
      exact HCK.out _ (hMs j hj).1)
    rwa [List.length_map] at h2
  have HC : Hid (∀ W, Below W2.heap.size W2 W → ∀ j (hj : j < M.length), ∃ g g' c', pv = some ⟨g, 0, none⟩ ∧ W.rangeAt g (j * 2) [.int .u32 (M[j].1 : Int), M[j].2] ∧ M[j].2.oneCell' = true ∧ M[j].2 = .slice (some ⟨g', 0, none⟩) (chg T M[j].1).length c' ∧
      ∀ i u, ((chg T M[j].1).map encN)[i]? = some u → W.cell? (Addr.add ⟨g', 0, none⟩ i) = some u) := Lib.hid (fun W hW j hj => by
    have hM' := hM.kept hW
    obtain ⟨pv', cv', he, hc⟩ := own_slice hM'.row
    cases he
    have hcc : ∀ i, i < 2 → (chCells M)[j * 2 + i]? = [Value.int .u32 (M[j].1 : Int), M[j].2][i]? := fun i hi => chCells_get M j hj i hi
    obtain ⟨g, hg, _⟩ := hc (j * 2) (.int .u32 (M[j].1 : Int)) (hcc 0 (by omega)) (by omega)
    have hrow := hM'.each _ (List.getElem_mem hj)
    have hpos : 0 < (chg T M[j].1).length := List.length_pos_iff.2 (hMs j hj).2
    obtain ⟨pk', c', he', hc'⟩ := own_slice hrow
    obtain ⟨g', hg', _⟩ := hc' 0 (encN (chg T M[j].1)[0]) (by rw [List.getElem?_map, List.getElem?_eq_getElem hpos]; rfl) (by omega)
    refine ⟨g, g', c', hg, fun i u hu => ?_, own_one hrow, by rw [he', hg'], fun i u hu => ?_⟩
    · have hi : i < 2 := (List.getElem?_eq_some_iff.1 hu).1
      obtain ⟨g2, hg2, hcu⟩ := hc (j * 2 + i) u ((hcc i hi).trans hu) (by omega)
      rw [hg] at hg2
      cases hg2
      exact hcu
    · have hil : i < (chg T M[j].1).length := by simpa using (List.getElem?_eq_some_iff.1 hu).1
      obtain ⟨g2, hg2, hcu⟩ := hc' i u hu (by omega)
      rw [hg'] at hg2
      cases hg2
      rw [Addr.add_mid, Nat.zero_add]
      exact hcu)
  have HMK := Lib.hid hMk; have HPW := Lib.hid hpw; have HMEM := Lib.hid hmem; have HX := Lib.hid hx
  have HPS : Hid (∀ j (hj : j < M.length), (M.map (·.1)).take (j + 1) = (M.map (·.1)).take j ++ [M[j].1]) := Lib.hid (fun j hj => by rw [List.take_succ_eq_append_getElem (by simpa using hj)]; simp)
  have HALL : Hid ((M.map (·.1)).take M.length = M.map (·.1)) := Lib.hid (by rw [List.take_of_length_le (by simp)])
  have HLE : Hid (∀ j, j ≤ M.length → (((M.map (·.1)).take j).flatMap (chg T)).length ≤ 64 * 16384) := Lib.hid (fun j hj => by
    have h1 := flat_le T ((M.map (·.1)).take j)
    have h2 : ((M.map (·.1)).take j).length ≤ 16384 := by rw [List.length_take, List.length_map]; omega
    omega)
  have hbs : Below W2.heap.size W2 W2 := Below.refl _ _
  have hr0 : W2.ownsRow W2.heap.size 22 1 (.slice none 0 0) (((M.map (·.1)).take 0).flatMap (chg T)).length ((((M.map (·.1)).take 0).flatMap (chg T)).map encN) := World.ownsRow_nil _ _ _ _
  clear hMk hpw hmem hM hMs hcell hx
  go_wp2_with fail
  go_loopw [3, 12] (fun v3 i wr => ∃ j : Nat, j ≤ M.length ∧ i = .int .i64 j ∧ Below W2.heap.size W2 wr ∧ wr.ownsRow W2.heap.size 22 1 v3 (((M.map (·.1)).take j).flatMap (chg T)).length ((((M.map (·.1)).take j).flatMap (chg T)).map encN)) (fun _ i _ => M.length - (intOf i).toNat)
  case atStart => exact ⟨0, Nat.zero_le _, rfl, hbs, hr0⟩
  case round =>
    clear hbs hr0
    obtain ⟨j, hj, rfl, hb, hrow⟩ := hrel
    by_cases hlt : j < M.length
    · obtain ⟨g, g', c', hg, hrg, hone, hvx, hcells⟩ := HC.out wr hb j hlt
      have hps := HPS.out j hlt
      have hle := HLE.out j hj
      generalize M[j].2 = vx at hrg hone hvx
      generalize M[j].1 = p at hrg hps hvx hcells
      have hcl := chg_le T p
      have hb1 : Below W2.heap.size W2 (wr.alloc (.cells (chV p vx) 94)) := hb.alloc hb.size _
      have hr1 := own_kept hrow ((Below.refl _ _).alloc (Nat.le_refl _) (.cells (chV p vx) 94))
      have h5 : (wr.alloc (.cells (chV p vx) 94)).heap[wr.heap.size]? = some (.cells (chV p vx) 94 (0, 0)) := heap_alloc_new wr _
      have hcells1 : ∀ i u, ((chg T p).map encN)[i]? = some u → (wr.alloc (.cells (chV p vx) 94)).cell? (Addr.add ⟨g', 0, none⟩ i) = some u := fun i u hu => by
        have := hcells i u hu
        exact (World.cell?_alloc_lt _ _ _ (World.block_lt_of_cell? wr _ this)).trans this
      have hvo := chV_one p hone
      have hfl : ((M.map (·.1)).take (j + 1)).flatMap (chg T) = ((M.map (·.1)).take j).flatMap (chg T) ++ chg T p := by rw [hps, List.flatMap_append]; simp
      generalize ((M.map (·.1)).take j).flatMap (chg T) = fl at hr1 hle hfl
      have HFL := Lib.hid hfl; have HB1 := Lib.hid hb1; have HR1 := Lib.hid hr1; have HCL := Lib.hid hcells1; have HVX := Lib.hid hvx
      have i1 : (0 : Int) ≤ (j : Int) := by omega
      have i2 : (j : Int) < (M.length : Int) := by omega
      have z1 : IntKind.i64.wrap ((j : Int) + 1) = (j : Int) + 1 := IntWalk.i64_in _ (by omega)
      subst hg
      clear hb hrow hps hb1 hr1 hcells hcells1 hfl hvx
      have tok : True := trivial
      go_upto_region 7 with (first
        | (refine wpList_load_mid rfl 94 _ rfl g (j * 2) rfl _ _ hrg Tryz.underlying94 rfl hiu ?_)
        | (have _t := tok; refine wpList_store_new rfl 94 _ _ rfl (chV p vx) _ _ rfl rfl (sizeCh _ _) rfl hvo ?_; change wpList _ _ _ _ _ (wr.alloc (.cells (chV p vx) 94)); clear _t tok))
      change Code.wp _ _ _ _ (wr.alloc (.cells (chV p vx) 94))
      generalize wr.heap.size = b5 at h5 ⊢
      generalize wr.alloc (.cells (chV p vx) 94) = W3 at HB1 HR1 HCL h5 ⊢
      clear hrg hvo
      have c5 : W3.cell? ⟨b5, 1, none⟩ = some (.slice (some ⟨g', 0, none⟩) (chg T p).length c') := by rw [← HVX.out]; exact (cell_of_row W3 b5 1 _ _ _ h5).trans rfl
      obtain ⟨news, hnews⟩ : ∃ x, x = chg T p := ⟨_, rfl⟩
      rw [← hnews] at c5 HCL HFL hcl
      clear hnews
      have HONE : Hid (∀ u ∈ news.map encN, u.oneCell' = true) := Lib.hid (fun u hu => by
        obtain ⟨x, _, rfl⟩ := List.mem_map.1 hu
        rfl)
      have HNL : Hid ((news.map encN).length = news.length * 1) := Lib.hid (by simp)
      have tst := fun ops rest o a Q hgd s1 x1 ho hs hx h => wpList_append_own (P := Tryz.prog) (ops := ops) (rest := rest) (o := o) (a := a) (Q := Q) _ hgd s1 x1 59 ho W2.heap.size 22 i0 (.int .u32 0) 1 4 Tryz.underlying59 hi hz0 hz1 hz2 rfl (by decide) u3 fl.length (fl.map encN) hs HR1.out ⟨g', 0, none⟩ news.length c' (news.map encN) hx HNL.out HCL.out HONE.out (Nat.le_trans (show fl.length + news.length ≤ 64 * 16384 + 64 by omega) (by decide)) (by omega) (by have := HB1.out.size; exact this) h
      have HAP := Lib.hid tst
      clear tst
      go_wp2_with (at_builtin; refine HAP.out _ _ _ _ _ rfl _ _ rfl rfl rfl ?_; intro v8 W8 hown hgr _; have HGR := Lib.hid hgr; have HO8 := Lib.hid hown; clear hgr hown)
      go_roundw
      case rel =>
        refine ⟨j + 1, by omega, by go_num, HB1.out.grown HGR.out HB1.out.size (fun x e => (HR1.out.lt x e).1), ?_⟩
        rw [HFL.out, List.length_append, List.map_append]
        exact HO8.out
      case measure => simp [intOf]; omega
    · obtain rfl : j = M.length := by omega
      have i1 : ¬ (M.length : Int) < (M.length : Int) := by omega
      have hfull := HALL.out
      rw [hfull] at hrow
      have HR := Lib.hid hrow; have HBF := Lib.hid hb
      clear hrow hb hfull HC HPS HLE
      go_wp2_with fail
      go_ret
      have hcs : chs T ks = M.map (·.1) := HMK.out.symm
      refine ⟨_, rfl, ks, HPW.out, HMEM.out, ?_, HX.out.trans (HBF.out.mono HX.out.size)⟩
      unfold changedL
      rw [hcs]
      exact own_base HR.out HX.out.size
end
end Go.Proofs.YtdadcengelfmhaaGreat.Cnt
