/-
  What has to be written for a root with the present counts (devices of one pick).
-/
import Derived.Test.YtdadcengelfmhaaGreatCntTurn
import Derived.Test.YtdadcengelfmhaaGreatKit1
import Derived.Deep.AppendLies
import Derived.OwnWalk
namespace Go.Proofs.YtdadcengelfmhaaGreat.Cnt
open Go.RowKit Go.Maps Go.MapKept RowLaw Crc
open Go.Proofs.YtdadcengelfmhaaGreat.Dev (Dev DS ptr Turn Step new_cells putCells putCells_one putCells_length pendCells pendCells_append infoPut sizePut size_of_putCells run_buildPut)
open Go.Proofs.YtdadcengelfmhaaGreat.Tal (pgCells pgCells_size pgCells_one IsPg kT kP fT fP infoP infoT zs zs_length sizeP sizeT putB putB_length)
open Go.Proofs.YtdadcengelfmhaaGreat.Rot (planOk tlN pkN fsN wpList_build_run)
set_option maxRecDepth 100000

def chs (T : TD) (ks : List Nat) : List Nat := ks.filter (fun p => decide (chg T p ≠ []))
def tlPut (T : TD) (p : Nat) : Nat × List UInt8 := (other (tlAt T p), putB kT p (T.now p))
def pkPut (T : TD) (ps : List Nat) : Nat × List UInt8 := (other (pkAt T 0), putB kP 0 (turnAll (T.PV 0) ps))
def sealL (T : TD) (ks : List Nat) : List (Nat × List UInt8) := (chs T ks).map (tlPut T) ++ (if chs T ks = [] then [] else [pkPut T (chs T ks)])
def sealCh (T : TD) (ks : List Nat) : Nat := if chs T ks = [] then T.ch else other T.ch
theorem tlPut_len {T : TD} (h : TOk T) (p : Nat) : (tlPut T p).2.length = 256 := putB_length fT p (h.now p).1
theorem pkPut_len {T : TD} (h : TOk T) (ps : List Nat) : (pkPut T ps).2.length = 256 := putB_length fP 0 ((turnAll_length ps _).trans (h.pl 0))

theorem wpList_load_arr {P : Program} {ops : Array Oper} {rest : List Oper} {op : Oper} {a : Act} {w : World} {Q : Exit → Act → World → Prop} (hgd : op.guard = none) (ty : TypeId) (x : Operand) (ho : op.op = .load ty x)
    (b o : Nat) (hx : a.eval x = .pointer (some ⟨b, o, none⟩)) (A : Array Value) (d : TypeDesc) (hc : w.rangeAt b o A.toList)
    (hu : P.underlying ty = some d) (hd : d.isRow = true) (hi : (P.info? ty).map (·.size) = some A.size) (h : wpList P ops Q rest (a.put op.dst (.agg A)) w) : wpList P ops Q (op :: rest) a w :=
  wpList_plain hgd fun _ hK => wp_load_arr ty x ho b o hx A d hc hu hd hi (hK _ _ h)

section
variable {w : World} {t bp bt bc : Nat} {fp ft fc : Nat → Option Nat} {B C : List Nat} {T : TD} {s : DS}
/-- what the table has of a tally in which counts were set -/
theorem TabAt.set_facts (hT : TabAt w t bp bt bc fp ft fc B T) {p : Nat} (h : (T.C p).isSome = true) : ∃ q7, fc p = some q7 ∧ p < tlN T.n ∧ (∃ x, fp (p / 1024) = some x) ∧ ∀ W, Below w.heap.size w W → IsPg .u16 68 W q7 p (T.now p) := by
  obtain ⟨ns, hns⟩ := Option.isSome_iff_exists.1 h
  obtain ⟨q7, hq, hp⟩ := hT.fc_some hns
  obtain ⟨q6, hf6⟩ := hT.has p q7 hq
  refine ⟨q7, hq, hT.ok.ck p ns hns, hT.hasP p q6 hf6, fun W hW => ?_⟩
  rw [now_some hns]
  exact (hW.block q7 (hT.ltB q7 (hT.pc p q7 hq).2)).trans hp

set_option linter.unusedSimpArgs false in
set_option maxHeartbeats 12800000 in
theorem Seal_any {N : Nat} (hS : SortOk N) (hT : TabAt w t bp bt bc fp ft fc B T) (hd : Dev w T.d C s) (hr : Reads s T) (hN : ∀ ss : List Nat, ss.Nodup → (∀ a, a ∈ ss ↔ (T.C a).isSome = true) → ss.length ≤ N) (hsm : T.n ≤ 65536) :
    Calls Tryz.prog 12 #[ptr t] w fun e w' => ∃ (v : Value) (ks : List Nat), e = .returned (.tuple #[v, .int .u32 (sealCh T ks : Int), .int .i64 0]) ∧ ks.Pairwise (· < ·) ∧ (∀ a, a ∈ ks ↔ (T.C a).isSome = true) ∧
      w'.ownsRow w.heap.size 65 257 v (sealL T ks).length (pendCells (sealL T ks)) ∧ Below w.heap.size w w' := by
  have hE := exists_yesT hT
  obtain ⟨n1, n2⟩ := plan_of hT.ok.plan
  have npl := Rot.plan_facts n1 n2
  have htl : tlN T.n ≤ 1024 := by omega
  have hpk : 0 < pkN T.n := by omega
  clear npl n1 n2
  have HCH := Lib.hid (fun W (hW : Below w.heap.size w W) => changes_any hS (hT.below hW) hN)
  have HTA : Hid (∀ W, Below w.heap.size w W → ∀ p, (T.C p).isSome = true → Calls Tryz.prog 32 #[ptr t, .int .u32 (p : Int)] W fun e w' => e = .returned (.tuple #[.int .u32 (tlAt T p : Int), .int .i64 0]) ∧ Below W.heap.size W w') := Lib.hid (fun W hW p hp => by
    obtain ⟨q7, _, hlt, ⟨x, hx⟩, _⟩ := hT.set_facts hp
    exact (tallyAt_any (hT.below hW) (hd.below hW) hr hlt).mono fun e w' h => by
      obtain ⟨he, _, _, _, _, _, hh⟩ := h
      exact ⟨he, hh x hx⟩)
  have HPA : Hid (∀ W, Below w.heap.size w W → Calls Tryz.prog 36 #[ptr t, .int .u32 0] W fun e w' => e = .returned (.tuple #[.int .u32 (pkAt T 0 : Int), .int .i64 0]) ∧ w' = W) := Lib.hid (fun W hW => pickAt_any (hT.below hW) hpk)
  have HMT : Hid (∀ p W, (T.C p).isSome = true → Calls Tryz.prog 33 #[.agg (pgCells .u16 p (T.now p)), .int .u32 (tlAt T p : Int), .func (.func 34) #[] #[]] W fun e w' => e = .returned (.agg (putCells (tlPut T p)).toArray) ∧ Below W.heap.size W w') := Lib.hid (fun p W hp => by
    obtain ⟨q7, _, hlt, _, _⟩ := hT.set_facts hp
    have h1 := tlAt_lt hT.ok hlt
    have h2 := (plan_of hT.ok.plan).2
    exact moveT_any p (T.now p) (hT.ok.now p).1 (fun j hj => (hT.ok.now p).2 _ (List.getElem_mem hj)) (by omega) W)
  have HMP : Hid (∀ ps W, Calls Tryz.prog 37 #[.agg (pgCells .u64 0 (turnAll (T.PV 0) ps)), .int .u32 (pkAt T 0 : Int), .func (.func 38) #[] #[]] W fun e w' => e = .returned (.agg (putCells (pkPut T ps)).toArray) ∧ Below W.heap.size W w') := Lib.hid (fun ps W => by
    have h1 := pkAt_lt hT.ok hpk
    have h2 := (plan_of hT.ok.plan).2
    exact moveP_any 0 (turnAll (T.PV 0) ps) ((turnAll_length ps _).trans (hT.ok.pl 0)) (fun j hj => turnAll_lt ps _ (hT.ok.pn 0) _ (List.getElem_mem hj)) (by omega) W)
  have HMC : Hid (∀ W, Below w.heap.size w W → PMap W bc fc ∧ W.cell? ⟨t, 7, none⟩ = some (.map (some bc)) ∧ W.cell? ⟨t, 4, none⟩ = some (.int .u32 (T.ch : Int))) := Lib.hid (fun W hW => ⟨(hT.below hW).mc, ((hT.below hW).cell 7).trans rfl, ((hT.below hW).cell 4).trans rfl⟩)
  have HFC := Lib.hid (fun p (hp : (T.C p).isSome = true) => hT.set_facts hp)
  have HTU := Lib.hid (fun W (hW : Below w.heap.size w W) v M (hM : ChL W w.heap.size v M (chg T)) hlt q0 hq0 hlen => turned_any (hT.below hW) (hd.below hW) hr hM hlt (q0 := q0) hq0 hlen)
  have HLT := Lib.hid (fun p => tlPut_len hT.ok p); have HLP := Lib.hid (fun ps => pkPut_len hT.ok ps)
  have HTN : Hid (∀ ps, (turnAll (T.PV 0) ps).length = 16) := Lib.hid (fun ps => (turnAll_length ps _).trans (hT.ok.pl 0))
  have hch := hT.ok.ch
  have hl6 := fun p => (hT.ok.now p).1
  clear hT hd hr hN hS hpk
  have hzc := zeroCh
  have hzp := (zero_of_info infoP).1
  have hiu : (Tryz.prog.info? 94).map (·.size) = some 2 := by kernel_rfl
  obtain ⟨ik, hik0, hik1, hik2, hik3⟩ := info_parts infoPut
  have hz0 : (Value.agg (putCells (0, zeros)).toArray).cells.size = 257 := by
    show (putCells (0, zeros)).toArray.size = 257
    rw [List.size_toArray, putCells_length zeros_length]
  unfold ptr at hE HTA HPA ⊢
  have HE := Lib.hid hE
  clear hE
  go_enter Tryz.func12, Tryz.ntmps12
  go_upto_region 4 with ((with_reducible refine HE.out.mono ?_); rintro e W1 ⟨rfl, rfl⟩)
  have hS0 : W1.drew.cell? ⟨t, 4, none⟩ = some (.int .u32 (T.ch : Int)) := (HMC.out W1 (Below.refl _ _)).2.2
  have hcc := HCH.out W1.drew ⟨rfl, rfl, rfl, Nat.le_refl _, fun _ _ => rfl⟩
  clear HE HCH
  unfold ptr at hcc
  have HCC := Lib.hid hcc
  clear hcc
  refine wp_region_noPanic ?_
  refine wp_region_held_drew (S := fun W => W.cell? ⟨t, 4, none⟩ = some (.int .u32 (T.ch : Int))) (by kernel_rfl) hS0 ?_
  intro hS
  clear hS0
  refine wpAnyH_take (i := 0) (v := .pointer (some ⟨t, 0, none⟩)) rfl (by kernel_rfl) (by kernel_rfl) (by kernel_rfl) (fun _ _ _ h => (h : False).elim) (Or.inl ⟨by rfl, fun _ _ => by go_simp⟩) hS ?_
  change wpAnyH _ _ _ _ _ _ _ (Act.put _ (some 19) _) _
  simp only [Act.put, List.setIfInBounds_toArray, List.set_cons_succ, List.set_cons_zero]
  refine wpAnyH_take (i := 2) (v := .pointer (some ⟨t, 0, none⟩)) rfl (by kernel_rfl) (by kernel_rfl) (by kernel_rfl) (fun _ _ _ h => (h : False).elim) (Or.inl ⟨by rfl, fun _ _ => by go_simp⟩) hS ?_
  change wpAnyH _ _ _ _ _ _ _ (Act.put _ (some 21) _) _
  simp only [Act.put, List.setIfInBounds_toArray, List.set_cons_succ, List.set_cons_zero]
  refine wpAnyH_take (i := 3) (v := .pointer (some ⟨t, 0, none⟩)) rfl (by kernel_rfl) (by kernel_rfl) (by kernel_rfl) (fun _ _ _ h => (h : False).elim) (Or.inl ⟨by rfl, fun _ _ => by go_simp⟩) hS ?_
  change wpAnyH _ _ _ _ _ _ _ (Act.put _ (some 22) _) _
  simp only [Act.put, List.setIfInBounds_toArray, List.set_cons_succ, List.set_cons_zero]
  refine wpAnyH_take (i := 4) (v := .pointer (some ⟨t, 4, none⟩)) rfl (by kernel_rfl) (by kernel_rfl) (by kernel_rfl) (fun _ _ _ h => (h : False).elim) (Or.inl ⟨by rfl, fun _ _ => by go_simp⟩) hS ?_
  change wpAnyH _ _ _ _ _ _ _ (Act.put _ (some 23) _) _
  simp only [Act.put, List.setIfInBounds_toArray, List.set_cons_succ, List.set_cons_zero]
  refine wpAnyH_take (i := 5) (v := .int .u32 (T.ch : Int)) rfl (by kernel_rfl) (by kernel_rfl) (by kernel_rfl) (fun _ _ _ h => (h : False).elim) (Or.inl ⟨by rfl, fun w hw => by go_simp⟩) hS ?_
  change wpAnyH _ _ _ _ _ _ _ (Act.put _ (some 24) _) _
  simp only [Act.put, List.setIfInBounds_toArray, List.set_cons_succ, List.set_cons_zero]
  refine wpAnyH_ready (rs := [1]) (by kernel_rfl) (by simp) ?_
  refine AllReadyH.cons rfl (fun K hK => ?_) AllReadyH.nil
  rw [if_pos (by rfl)]
  go_simp
  refine HCC.out.mono ?_
  clear HCC
  rintro e W2 ⟨vc, M, ks, rfl, hpw, hmem, hMk, hM, hx⟩
  dsimp only
  replace hx : Below W1.heap.size W1 W2 := (Below.refl _ W1).drew.trans hx
  replace hM : ChL W2 W1.heap.size vc M (chg T) := hM
  have hS2 : W2.cell? ⟨t, 4, none⟩ = some (.int .u32 (T.ch : Int)) := (HMC.out W2 hx).2.2
  refine hK _ _ hS2 (fun _ => ?_)
  clear hK K hS
  have hS := hS2
  clear hS2
  try simp only [Act.put, List.setIfInBounds_toArray, List.set_cons_succ, List.set_cons_zero]
  refine wpAnyH_take (i := 6) (v := vc) rfl (by kernel_rfl) (by kernel_rfl) (by kernel_rfl) (fun _ _ _ h => (h : False).elim) (Or.inl ⟨by rfl, fun _ _ => by go_simp⟩) hS ?_
  change wpAnyH _ _ _ _ _ _ _ (Act.put _ (some 6) _) _
  simp only [Act.put, List.setIfInBounds_toArray, List.set_cons_succ, List.set_cons_zero]
  refine wpAnyH_take (i := 7) (v := .int .u32 (T.ch : Int)) rfl (by kernel_rfl) (by kernel_rfl) (by kernel_rfl) (fun _ _ _ h => (h : False).elim) (Or.inl ⟨by rfl, fun _ _ => by go_simp⟩) hS ?_
  change wpAnyH _ _ _ _ _ _ _ (Act.put _ (some 7) _) _
  simp only [Act.put, List.setIfInBounds_toArray, List.set_cons_succ, List.set_cons_zero]
  refine wpAnyH_done (by kernel_rfl) ?_ _
  refine NoPanic.normal ?_
  clear hS
  obtain ⟨pv, cv, hv, hcell⟩ := own_slice hM.row
  subst hv
  have hMs : ∀ j (hj : j < M.length), (T.C M[j].1).isSome = true := fun j hj => by
    have h1 : M[j].1 ∈ M.map (·.1) := List.mem_map.2 ⟨_, List.getElem_mem hj, rfl⟩
    rw [hMk, List.mem_filter] at h1
    exact (hmem _).1 h1.1
  have hMlt : ∀ x ∈ M, x.1 < 1024 := fun x hx' => by
    obtain ⟨j, hj, rfl⟩ := List.getElem_of_mem hx'
    obtain ⟨_, _, h1, _⟩ := HFC.out _ (hMs j hj)
    omega
  have hMn : M.length ≤ 1024 := by
    have h1 : (M.map (·.1)).Nodup := by
      rw [hMk]
      exact ((hpw.imp fun h => Nat.ne_of_lt h).filter _)
    have h2 := nodup_len 1024 _ h1 (fun x hx' => by
      obtain ⟨y, hy, rfl⟩ := List.mem_map.1 hx'
      exact hMlt y hy)
    rwa [List.length_map] at h2
  have HC : Hid (∀ W, Below W2.heap.size W2 W → ∀ j (hj : j < M.length), ∃ g, pv = some ⟨g, 0, none⟩ ∧ W.rangeAt g (j * 2) [.int .u32 (M[j].1 : Int), M[j].2] ∧ M[j].2.oneCell' = true) := Lib.hid (fun W hW j hj => by
    have hM' := hM.kept hW
    obtain ⟨pv', cv', he, hc⟩ := own_slice hM'.row
    cases he
    have hcc : ∀ i, i < 2 → (chCells M)[j * 2 + i]? = [Value.int .u32 (M[j].1 : Int), M[j].2][i]? := fun i hi => chCells_get M j hj i hi
    obtain ⟨g, hg, _⟩ := hc (j * 2) (.int .u32 (M[j].1 : Int)) (hcc 0 (by omega)) (by omega)
    refine ⟨g, hg, fun i u hu => ?_, own_one (hM'.each _ (List.getElem_mem hj))⟩
    have hi : i < 2 := (List.getElem?_eq_some_iff.1 hu).1
    obtain ⟨g', hg', hcu⟩ := hc (j * 2 + i) u ((hcc i hi).trans hu) (by omega)
    rw [hg] at hg'
    cases hg'
    exact hcu)
  have HMK := Lib.hid hMk; have HPW := Lib.hid hpw; have HMEM := Lib.hid hmem; have HM := Lib.hid hM; have HMS := Lib.hid hMs; have HML := Lib.hid hMlt; have HX := Lib.hid hx
  have HPS : Hid (∀ j (hj : j < M.length), (M.map (·.1)).take (j + 1) = (M.map (·.1)).take j ++ [M[j].1]) := Lib.hid (fun j hj => by rw [List.take_succ_eq_append_getElem (by simpa using hj)]; simp)
  have HALL : Hid ((M.map (·.1)).take M.length = M.map (·.1)) := Lib.hid (by rw [List.take_of_length_le (by simp)])
  have HLEN : Hid (∀ j, j ≤ M.length → (((M.map (·.1)).take j).map (tlPut T)).length = j) := Lib.hid (fun j hj => by simp; omega)
  have hbs : Below W2.heap.size W2 W2 := Below.refl _ _
  have hr0 : W2.ownsRow W1.heap.size 65 257 (.slice none 0 0) 0 (pendCells []) := World.ownsRow_nil _ _ _ _
  clear hMk hpw hmem hM hMs hMlt hcell hx
  have HXB : Hid (∀ W, Below W2.heap.size W2 W → Below W1.heap.size W1 W) := Lib.hid (fun W hW => HX.out.trans (hW.mono HX.out.size))
  have hr0 : W2.ownsRow W2.heap.size 65 257 (.slice none 0 0) 0 (pendCells (((M.map (·.1)).take 0).map (tlPut T))) := World.ownsRow_nil _ _ _ _
  go_wp2_with fail
  go_loopw [5, 27] (fun v5 i wr => ∃ j : Nat, j ≤ M.length ∧ i = .int .i64 j ∧ Below W2.heap.size W2 wr ∧ wr.ownsRow W2.heap.size 65 257 v5 j (pendCells (((M.map (·.1)).take j).map (tlPut T)))) (fun _ i _ => M.length - (intOf i).toNat)
  case atStart => exact ⟨0, Nat.zero_le _, rfl, hbs, hr0⟩
  case round =>
    clear hbs hr0
    obtain ⟨j, hj, rfl, hb, hrow⟩ := hrel
    by_cases hlt : j < M.length
    · obtain ⟨g, hg, hrg, hone⟩ := HC.out wr hb j hlt
      have hsome := HMS.out j hlt
      have hps := HPS.out j hlt
      have hp10 := HML.out _ (List.getElem_mem hlt)
      generalize M[j].2 = vx at hrg hone
      generalize M[j].1 = p at hrg hsome hps hp10
      obtain ⟨q7, hf7, hlt7, _, hp7⟩ := HFC.out p hsome
      have HPQ := Lib.hid hps
      have HB1 : Hid (Below W2.heap.size W2 (wr.alloc (.cells (chV p vx) 94))) := Lib.hid (hb.alloc hb.size _)
      have HR1 : Hid ((wr.alloc (.cells (chV p vx) 94)).ownsRow W2.heap.size 65 257 u5 j (pendCells (((M.map (·.1)).take j).map (tlPut T)))) := Lib.hid (own_kept hrow ((Below.refl _ _).alloc (Nat.le_refl _) _))
      have h9 : (wr.alloc (.cells (chV p vx) 94)).heap[wr.heap.size]? = some (.cells (chV p vx) 94 (0, 0)) := heap_alloc_new wr _
      have hvo := chV_one p hone
      have i0 : (0 : Int) ≤ (j : Int) := by omega
      have i1 : (j : Int) < (M.length : Int) := by omega
      have z1 : IntKind.i64.wrap ((j : Int) + 1) = (j : Int) + 1 := IntWalk.i64_in _ (by omega)
      have hp32 : p < 4294967296 := by omega
      have HF7 := Lib.hid hf7; have HP7 := Lib.hid hp7; have HSOME := Lib.hid hsome
      subst hg
      clear hb hrow hps hf7 hp7 hsome
      have tok : True := trivial
      go_upto_region 8 with (first
        | (refine wpList_load_mid rfl 94 _ rfl g (j * 2) rfl _ _ hrg Tryz.underlying94 rfl hiu ?_)
        | (have _t := tok; refine wpList_store_new rfl 94 _ _ rfl (chV p vx) _ _ rfl rfl (sizeCh _ _) rfl hvo ?_; change wpList _ _ _ _ _ (wr.alloc (.cells (chV p vx) 94)); clear _t tok))
      change Code.wp _ _ _ _ (wr.alloc (.cells (chV p vx) 94))
      generalize wr.heap.size = b9 at h9 ⊢
      generalize wr.alloc (.cells (chV p vx) 94) = W3 at HB1 HR1 h9 ⊢
      clear hrg hvo
      have c9 : W3.cell? ⟨b9, 0, none⟩ = some (.int .u32 (p : Int)) := (cell_of_row W3 b9 0 _ _ _ h9).trans rfl
      have hta := HTA.out W3 (HXB.out W3 HB1.out) p HSOME.out
      go_wp2_with fail
      refine hta.mono ?_
      clear hta c9
      rintro e W4 ⟨rfl, hx⟩
      have HB4 : Hid (Below W2.heap.size W2 W4) := Lib.hid (HB1.out.trans (hx.mono HB1.out.size))
      have HR4 := Lib.hid (own_kept HR1.out hx)
      have H94 : Hid (W4.heap[b9]? = some (.cells (chV p vx) 94 (0, 0))) := Lib.hid ((hx.block b9 (Array.getElem?_eq_some_iff.1 h9).1).trans h9)
      clear HB1 HR1 h9 hx
      go_upto_region 9 with fail
      have hBd : Below W2.heap.size W2 W4.drew := ⟨HB4.out.os, HB4.out.tape, HB4.out.output, HB4.out.size, HB4.out.block⟩
      have hS : Below W2.heap.size W2 W4.drew ∧ W4.drew.heap[b9]? = some (.cells (chV p vx) 94 (0, 0)) := ⟨hBd, H94.out⟩
      have HR5 : Hid (W4.drew.ownsRow W2.heap.size 65 257 u5 j (pendCells (((M.map (·.1)).take j).map (tlPut T)))) := Lib.hid (own_kept HR4.out ⟨rfl, rfl, rfl, Nat.le_refl _, fun _ _ => rfl⟩)
      have hmt := fun W => HMT.out p W HSOME.out
      have hpl := HLT.out p
      have hszT := sizeT p (T.now p) (hl6 p)
      have hnow : (T.now p).length = 64 := hl6 p
      obtain ⟨pu, hpu⟩ : ∃ x, x = tlPut T p := ⟨_, rfl⟩
      rw [← hpu] at hmt hpl
      obtain ⟨nw, hnw⟩ : ∃ x, x = T.now p := ⟨_, rfl⟩
      rw [← hnw] at hmt hszT
      have HMV := Lib.hid hmt
      have HP7' : Hid (∀ W, Below W2.heap.size W2 W → IsPg .u16 68 W q7 p nw) := Lib.hid (fun W hW => by rw [hnw]; exact HP7.out W (HXB.out W hW))
      have HPU := Lib.hid hpu
      obtain ⟨ta, hta⟩ : ∃ x, x = tlAt T p := ⟨_, rfl⟩
      rw [← hta] at HMV ⊢
      clear hBd hpu hnw hmt hta HB4 HR4 H94 HP7 hnow
      refine wp_region_noPanic ?_
      refine wp_region_held_drew (S := fun W => Below W2.heap.size W2 W ∧ W.heap[b9]? = some (.cells (chV p vx) 94 (0, 0))) (by kernel_rfl) hS ?_
      intro hS
      generalize W4.drew = W5 at hS HR5 ⊢
      refine wpAnyH_take (i := 0) (v := u5) rfl (by kernel_rfl) (by kernel_rfl) (by kernel_rfl) (fun _ _ _ h => (h : False).elim) (Or.inl ⟨by rfl, fun _ _ => by go_simp⟩) hS ?_
      change wpAnyH _ _ _ _ _ _ _ (Act.put _ (some 38) _) _
      simp only [Act.put, List.setIfInBounds_toArray, List.set_cons_succ, List.set_cons_zero]
      refine wpAnyH_take (i := 1) (v := .pointer (some ⟨t, 0, none⟩)) rfl (by kernel_rfl) (by kernel_rfl) (by kernel_rfl) (fun _ _ _ h => (h : False).elim) (Or.inl ⟨by rfl, fun _ _ => by go_simp⟩) hS ?_
      change wpAnyH _ _ _ _ _ _ _ (Act.put _ (some 39) _) _
      simp only [Act.put, List.setIfInBounds_toArray, List.set_cons_succ, List.set_cons_zero]
      refine wpAnyH_take (i := 2) (v := .pointer (some ⟨t, 0, none⟩)) rfl (by kernel_rfl) (by kernel_rfl) (by kernel_rfl) (fun _ _ _ h => (h : False).elim) (Or.inl ⟨by rfl, fun _ _ => by go_simp⟩) hS ?_
      change wpAnyH _ _ _ _ _ _ _ (Act.put _ (some 40) _) _
      simp only [Act.put, List.setIfInBounds_toArray, List.set_cons_succ, List.set_cons_zero]
      refine wpAnyH_take (i := 3) (v := .pointer (some ⟨t, 7, none⟩)) rfl (by kernel_rfl) (by kernel_rfl) (by kernel_rfl) (fun _ _ _ h => (h : False).elim) (Or.inl ⟨by rfl, fun _ _ => by go_simp⟩) hS ?_
      change wpAnyH _ _ _ _ _ _ _ (Act.put _ (some 41) _) _
      simp only [Act.put, List.setIfInBounds_toArray, List.set_cons_succ, List.set_cons_zero]
      refine wpAnyH_take (i := 4) (v := .map (some bc)) rfl (by kernel_rfl) (by kernel_rfl) (by kernel_rfl) (fun _ _ _ h => (h : False).elim) (Or.inl ⟨by rfl, fun w hw => by have c := (HMC.out w (HXB.out w hw.1)).2.1; go_simp⟩) hS ?_
      change wpAnyH _ _ _ _ _ _ _ (Act.put _ (some 42) _) _
      simp only [Act.put, List.setIfInBounds_toArray, List.set_cons_succ, List.set_cons_zero]
      refine wpAnyH_take (i := 5) (v := .pointer (some ⟨b9, 0, none⟩)) rfl (by kernel_rfl) (by kernel_rfl) (by kernel_rfl) (fun _ _ _ h => (h : False).elim) (Or.inl ⟨by rfl, fun _ _ => by go_simp⟩) hS ?_
      change wpAnyH _ _ _ _ _ _ _ (Act.put _ (some 43) _) _
      simp only [Act.put, List.setIfInBounds_toArray, List.set_cons_succ, List.set_cons_zero]
      refine wpAnyH_take (i := 6) (v := .int .u32 (p : Int)) rfl (by kernel_rfl) (by kernel_rfl) (by kernel_rfl) (fun _ _ _ h => (h : False).elim) (Or.inl ⟨by rfl, fun w hw => by have c : w.cell? ⟨b9, 0, none⟩ = some (.int .u32 (p : Int)) := (cell_of_row w b9 0 _ _ _ hw.2).trans rfl; go_simp⟩) hS ?_
      change wpAnyH _ _ _ _ _ _ _ (Act.put _ (some 44) _) _
      simp only [Act.put, List.setIfInBounds_toArray, List.set_cons_succ, List.set_cons_zero]
      refine wpAnyH_take (i := 7) (v := .pointer (some ⟨q7, 0, none⟩)) rfl (by kernel_rfl) (by kernel_rfl) (by kernel_rfl) (fun _ _ _ h => (h : False).elim) (Or.inl ⟨by rfl, fun W hw => exec_look rfl Tryz.underlying22 Tryz.underlying55 (zeroT _) (HMC.out W (HXB.out W hw.1)).1 hp32 HF7.out rfl rfl⟩) hS ?_
      change wpAnyH _ _ _ _ _ _ _ (Act.put _ (some 45) _) _
      simp only [Act.put, List.setIfInBounds_toArray, List.set_cons_succ, List.set_cons_zero]
      refine wpAnyH_take (i := 8) (v := .pointer (some ⟨q7, 0, none⟩)) rfl (by kernel_rfl) (by kernel_rfl) (by kernel_rfl) (fun _ _ _ h => (h : False).elim) (Or.inl ⟨by rfl, fun _ _ => by go_simp⟩) hS ?_
      change wpAnyH _ _ _ _ _ _ _ (Act.put _ (some 46) _) _
      simp only [Act.put, List.setIfInBounds_toArray, List.set_cons_succ, List.set_cons_zero]
      refine wpAnyH_take (i := 9) (v := .agg (pgCells .u16 p nw)) rfl (by kernel_rfl) (by kernel_rfl) (by kernel_rfl) (fun _ _ _ h => (h : False).elim) (yieldsIf_load_row (by rfl) 68 _ rfl q7 rfl _ _ _ _ (fun W hW => HP7'.out W hW.1) Tryz.underlying68 rfl hszT) hS ?_
      change wpAnyH _ _ _ _ _ _ _ (Act.put _ (some 47) _) _
      simp only [Act.put, List.setIfInBounds_toArray, List.set_cons_succ, List.set_cons_zero]
      refine wpAnyH_take (i := 10) (v := .int .u32 (ta : Int)) rfl (by kernel_rfl) (by kernel_rfl) (by kernel_rfl) (fun _ _ _ h => (h : False).elim) (Or.inl ⟨by rfl, fun _ _ => by go_simp⟩) hS ?_
      change wpAnyH _ _ _ _ _ _ _ (Act.put _ (some 48) _) _
      simp only [Act.put, List.setIfInBounds_toArray, List.set_cons_succ, List.set_cons_zero]
      refine wpAnyH_ready (rs := [11]) (by kernel_rfl) (by simp) ?_
      refine AllReadyH.cons rfl (fun K hK => ?_) AllReadyH.nil
      rw [if_pos (by rfl)]
      go_simp
      refine (HMV.out _).mono ?_
      clear HMV
      rintro e W6 ⟨rfl, hx⟩
      dsimp only
      have hS6 : Below W2.heap.size W2 W6 ∧ W6.heap[b9]? = some (.cells (chV p vx) 94 (0, 0)) := ⟨hS.1.trans (hx.mono hS.1.size), (hx.block b9 (Array.getElem?_eq_some_iff.1 hS.2).1).trans hS.2⟩
      have HR6 := Lib.hid (own_kept HR5.out hx)
      refine hK _ _ hS6 (fun _ => ?_)
      clear hK K hS HR5 hx
      have hS := hS6
      clear hS6
      try simp only [Act.put, List.setIfInBounds_toArray, List.set_cons_succ, List.set_cons_zero]
      refine wpAnyH_ready (rs := [12]) (by kernel_rfl) (by simp) ?_
      refine AllReadyH.cons rfl (fun K hK => ?_) AllReadyH.nil
      rw [if_pos (by rfl)]
      refine wp_slice_row _ 44 1 #[(0, .tmp 49)] rfl #[(0, .agg (putCells pu).toArray)] (by first | rfl | (simp [Act.eval]; done) | (simp [Act.eval]; rfl)) _ (run_buildPut W6 pu hpl) ?_
      have hSA : Below W2.heap.size W2 (W6.alloc (.cells (putCells pu).toArray 65)) ∧ (W6.alloc (.cells (putCells pu).toArray 65)).heap[b9]? = some (.cells (chV p vx) 94 (0, 0)) := ⟨hS.1.alloc hS.1.size _, (Below.heap_alloc _ _ b9 (Array.getElem?_eq_some_iff.1 hS.2).1).trans hS.2⟩
      have HRA := Lib.hid (own_kept HR6.out ((Below.refl _ _).alloc (Nat.le_refl _) (.cells (putCells pu).toArray 65)))
      refine hK _ _ hSA (fun _ => ?_)
      clear hK K
      try simp only [Act.put, List.setIfInBounds_toArray, List.set_cons_succ, List.set_cons_zero]
      refine wpAnyH_ready (rs := [13]) (by kernel_rfl) (by simp) ?_
      refine AllReadyH.cons rfl (fun K hK => ?_) AllReadyH.nil
      rw [if_pos (by rfl)]
      refine wp_append_lies _ _ _ 44 rfl W2.heap.size 65 ik (.agg (putCells (0, zeros)).toArray) 257 260 Tryz.underlying44 hik0 hik1 hik2 hik3 hz0 (by decide) u5 j (pendCells (((M.map (·.1)).take j).map (tlPut T))) rfl HRA.out ⟨W6.heap.size, 0, none⟩ 1 1 (putCells pu) rfl (by rw [putCells_length hpl]) (new_cells W6 (putCells pu) 65) (putCells_one pu) (by decide) (Nat.le_trans (show j + 1 ≤ 1025 by omega) (by decide)) (by omega) (by have := hSA.1.size; exact this) _ rfl ?_
      intro g5 cap W7 hown hgr _ _
      have hSB : Below W2.heap.size W2 W7 ∧ W7.heap[b9]? = some (.cells (chV p vx) 94 (0, 0)) := ⟨hSA.1.grown hgr hSA.1.size (fun x e => (HRA.out.lt x e).1), (hgr.block b9 (Array.getElem?_eq_some_iff.1 hSA.2).1 (own_ne HRA.out hSA.2 (by decide))).trans hSA.2⟩
      refine hK _ _ hSB (fun _ => ?_)
      clear hK K hSA hS HRA HR6
      have HO := Lib.hid hown
      clear hown hgr
      have hS := hSB
      clear hSB
      try simp only [Act.put, List.setIfInBounds_toArray, List.set_cons_succ, List.set_cons_zero]
      refine wpAnyH_take (i := 14) (v := .slice (some ⟨g5, 0, none⟩) (j + 1) cap) rfl (by kernel_rfl) (by kernel_rfl) (by kernel_rfl) (fun _ _ _ h => (h : False).elim) (Or.inl ⟨by rfl, fun _ _ => by go_simp⟩) hS ?_
      change wpAnyH _ _ _ _ _ _ _ (Act.put _ (some 5) _) _
      simp only [Act.put, List.setIfInBounds_toArray, List.set_cons_succ, List.set_cons_zero]
      refine wpAnyH_done (by kernel_rfl) ?_ _
      refine NoPanic.normal ?_
      have HBF := Lib.hid hS.1
      clear hS
      go_wp2_with fail
      go_roundw
      case rel =>
        refine ⟨j + 1, by omega, by go_num, HBF.out, ?_⟩
        rw [HPQ.out, List.map_append, pendCells_append, List.map_cons, List.map_nil, ← HPU.out, show pendCells [pu] = putCells pu from by simp [pendCells]]
        exact HO.out
      case measure => simp [intOf]; omega
    · obtain rfl : j = M.length := by omega
      have i1 : ¬ (M.length : Int) < (M.length : Int) := by omega
      have hfull := HALL.out
      rw [hfull] at hrow
      have HCS : Hid (chs T ks = M.map (·.1)) := Lib.hid HMK.out.symm
      have HB1 := Lib.hid hb; have HR1 := Lib.hid hrow
      have HCM := Lib.hid (HM.out.kept hb)
      have HQ0 : Hid (M ≠ [] → ∃ q0, fp 0 = some q0) := Lib.hid (fun h => by
        have hj : 0 < M.length := List.length_pos_iff.2 h
        obtain ⟨_, _, _, ⟨x, hx⟩, _⟩ := HFC.out _ (HMS.out 0 hj)
        rw [Nat.div_eq_of_lt (HML.out _ (List.getElem_mem hj))] at hx
        exact ⟨x, hx⟩)
      clear hb hrow hfull HC HPS HLEN HTA HMT HMC HFC
      by_cases hM0 : M = []
      · have htu := HTU.out wr (HXB.out wr HB1.out) _ M HCM.out HML.out 0 (fun h => absurd hM0 h) (by omega)
        unfold ptr at htu
        have hml : M.length = 0 := by rw [hM0]; rfl
        have HML0 := Lib.hid hml; have HM0 := Lib.hid hM0
        have HTX := Lib.hid htu
        clear htu hM0 hml
        go_wp2_with fail
        refine HTX.out.mono ?_
        clear HTX
        rintro e W4 ⟨vp, rfl, hpk, hx⟩
        obtain rfl := hpk.1 HML0.out
        have HBF : Hid (Below W2.heap.size W2 W4) := Lib.hid (HB1.out.trans (hx.mono HB1.out.size))
        have HRF := Lib.hid (own_kept HR1.out hx)
        clear hpk hx
        go_wp2_with fail
        go_loopw [5, 7, 57] (fun v5 c i W => v5 = u5 ∧ c = .int .u32 (T.ch : Int) ∧ i = .int .i64 0 ∧ W = W4) (fun _ _ _ _ => 0)
        case atStart => exact ⟨rfl, rfl, rfl, rfl⟩
        case round =>
          obtain ⟨rfl, rfl, rfl, rfl⟩ := hrel
          go_wp2_with fail
          go_ret3
          have e1 : sealCh T ks = T.ch := by unfold sealCh; rw [HCS.out, HM0.out]; simp
          have e2 : sealL T ks = (M.map (·.1)).map (tlPut T) := by unfold sealL; rw [HCS.out, HM0.out]; simp
          refine ⟨_, ks, by rw [e1]; rfl, HPW.out, HMEM.out, ?_, HXB.out _ HBF.out⟩
          rw [e2, show ((M.map (·.1)).map (tlPut T)).length = M.length from by simp]
          exact own_base HRF.out HX.out.size
      · obtain ⟨q0, hq0⟩ := HQ0.out hM0
        have htu := HTU.out wr (HXB.out wr HB1.out) _ M HCM.out HML.out q0 (fun _ => hq0) (by omega)
        unfold ptr at htu
        have hml : 0 < M.length := List.length_pos_iff.2 hM0
        have HML0 := Lib.hid hml; have HM0 := Lib.hid hM0
        have HTX := Lib.hid htu
        clear htu hM0 hml hq0
        go_wp2_with fail
        refine HTX.out.mono ?_
        clear HTX
        rintro e W4 ⟨vp, rfl, hpk, hx⟩
        have hpr := own_base (hpk.2 HML0.out) HB1.out.size
        obtain ⟨pv5, c5, rfl, hc5⟩ := own_slice hpr
        obtain ⟨g5, rfl, _⟩ := hc5 0 (.int .u32 0) (by simp [pgCells]) (by omega)
        have hns := HTN.out (M.map (·.1))
        have hmp := fun W => HMP.out (M.map (·.1)) W
        have hpl := HLP.out (M.map (·.1))
        obtain ⟨pu, hpu⟩ : ∃ x, x = pkPut T (M.map (·.1)) := ⟨_, rfl⟩
        rw [← hpu] at hmp hpl
        have HPU := Lib.hid hpu
        have HBF : Hid (Below W2.heap.size W2 W4) := Lib.hid (HB1.out.trans (hx.mono HB1.out.size))
        have HRF := Lib.hid (own_kept HR1.out hx)
        obtain ⟨ns, hnn⟩ : ∃ x, x = turnAll (T.PV 0) (M.map (·.1)) := ⟨_, rfl⟩
        rw [← hnn] at hpr hns hmp
        obtain ⟨pa, hpa⟩ : ∃ x, x = pkAt T 0 := ⟨_, rfl⟩
        rw [← hpa] at hmp HPA
        have HMV := Lib.hid hmp; have HPR := Lib.hid hpr
        have hx1 := xor_u32 T.ch 1 hch (by decide)
        have hoa : T.ch ^^^ 1 = other T.ch := rfl
        rw [hoa] at hx1
        have HX1 := Lib.hid hx1
        clear hpk hx hc5 hpu hnn hpa hmp hpr hx1 hoa
        go_wp2_with fail
        go_loopw [5, 7, 57] (fun v5 c i W => Below W2.heap.size W2 W ∧ W.ownsRow W2.heap.size 73 17 (.slice (some ⟨g5, 0, none⟩) 1 c5) 1 (pgCells .u64 0 ns).toList ∧ ((i = .int .i64 0 ∧ c = .int .u32 (T.ch : Int) ∧ W.ownsRow W2.heap.size 65 257 v5 M.length (pendCells ((M.map (·.1)).map (tlPut T)))) ∨ (i = .int .i64 1 ∧ c = .int .u32 (other T.ch : Int) ∧ W.ownsRow W2.heap.size 65 257 v5 (M.length + 1) (pendCells ((M.map (·.1)).map (tlPut T) ++ [pu]))))) (fun _ _ i _ => 1 - (intOf i).toNat)
        case atStart => exact ⟨HBF.out, HPR.out, .inl ⟨rfl, rfl, HRF.out⟩⟩
        case round =>
          clear HBF HPR HRF
          obtain ⟨hb, hpr, ⟨rfl, rfl, hrow⟩ | ⟨rfl, rfl, hrow⟩⟩ := hrel
          · have hrg := range_own hpr
            have hip := sizeP 0 ns hns
            have hzz : (pgCells .u64 0 (zs kP)).size = (pgCells .u64 0 ns).size := by rw [size_of_pick hns, size_of_pick (zs_length kP)]
            have HB6 : Hid (Below W2.heap.size W2 (wr.alloc (.cells (pgCells .u64 0 ns) 73))) := Lib.hid (hb.alloc hb.size _)
            have HP6 := Lib.hid (own_kept hpr ((Below.refl _ _).alloc (Nat.le_refl _) (.cells (pgCells .u64 0 ns) 73)))
            have HR6 := Lib.hid (own_kept hrow ((Below.refl _ _).alloc (Nat.le_refl _) (.cells (pgCells .u64 0 ns) 73)))
            have h13 := IsPg.new .u64 73 wr 0 ns
            clear hb hpr hrow
            have tok : True := trivial
            go_upto_region 14 with (first
              | (refine wpList_load_arr rfl 73 _ rfl g5 0 rfl (pgCells .u64 0 ns) _ hrg Tryz.underlying73 rfl hip ?_)
              | (have _t := tok; refine wpList_store_new rfl 73 _ _ rfl (pgCells .u64 0 ns) _ _ rfl rfl hip hzz (pgCells_one _ _) ?_; change wpList _ _ _ _ _ (wr.alloc (.cells (pgCells .u64 0 ns) 73)); clear _t tok))
            change Code.wp _ _ _ _ (wr.alloc (.cells (pgCells .u64 0 ns) 73))
            generalize wr.heap.size = b13 at h13 ⊢
            generalize wr.alloc (.cells (pgCells .u64 0 ns) 73) = W6 at HB6 HP6 HR6 h13 ⊢
            clear hrg hzz
            have c13 : W6.cell? ⟨b13, 0, none⟩ = some (.int .u32 0) := h13.index
            have hpc := HPA.out W6 (HXB.out W6 HB6.out)
            go_wp2_with fail
            refine hpc.mono ?_
            clear hpc
            rintro e W ⟨rfl, hW⟩
            subst hW
            have r13 : W.heap[b13]? = some (.cells (pgCells .u64 0 ns) 73 (0, 0)) := h13
            go_wp2_with (refine wpList_load_row rfl 73 _ rfl b13 rfl _ _ _ _ r13 Tryz.underlying73 rfl hip ?_)
            refine (HMV.out _).mono ?_
            clear HMV c13 h13
            rintro e W7 ⟨rfl, hx⟩
            have HB7 : Hid (Below W2.heap.size W2 (W7.alloc (.cells (putCells pu).toArray 65))) := Lib.hid ((HB6.out.trans (hx.mono HB6.out.size)).alloc (Nat.le_trans HB6.out.size hx.size) _)
            have HP7 := Lib.hid (own_kept (own_kept HP6.out hx) ((Below.refl _ _).alloc (Nat.le_refl _) (.cells (putCells pu).toArray 65)))
            have HR7 := Lib.hid (own_kept (own_kept HR6.out hx) ((Below.refl _ _).alloc (Nat.le_refl _) (.cells (putCells pu).toArray 65)))
            have H13 : Hid ((W7.alloc (.cells (putCells pu).toArray 65)).heap[b13]? = some (.cells (pgCells .u64 0 ns) 73 (0, 0))) := Lib.hid (by
              have h1 := (hx.block b13 (Array.getElem?_eq_some_iff.1 r13).1).trans r13
              exact (Below.heap_alloc _ _ b13 (Array.getElem?_eq_some_iff.1 h1).1).trans h1)
            have HBU := Lib.hid (run_buildPut W7 pu hpl)
            have HNC := Lib.hid (new_cells W7 (putCells pu) 65)
            have HN1 := Lib.hid (putCells_one pu)
            have HNL : Hid ((putCells pu).length = 1 * 257) := Lib.hid (by rw [putCells_length hpl])
            have HPD : Hid (pendCells [pu] = putCells pu) := Lib.hid (by simp [pendCells])
            obtain ⟨pc, hpc⟩ : ∃ x, x = putCells pu := ⟨_, rfl⟩
            rw [← hpc] at HB7 HP7 HR7 H13 HBU HNC HN1 HNL HPD ⊢
            clear HB6 HP6 HR6 r13 hx hpc
            have tst4 := fun ops rest o a Q hgd s1 x1 ho hs hx h => wpList_append_own (P := Tryz.prog) (ops := ops) (rest := rest) (o := o) (a := a) (Q := Q) _ hgd s1 x1 44 ho W2.heap.size 65 ik (.agg (putCells (0, zeros)).toArray) 257 260 Tryz.underlying44 hik0 hik1 hik2 hik3 hz0 (by decide) u5 M.length (pendCells ((M.map (·.1)).map (tlPut T))) hs HR7.out ⟨W7.heap.size, 0, none⟩ 1 1 pc hx HNL.out HNC.out HN1.out (Nat.le_trans (show M.length + 1 ≤ 1025 by omega) (by decide)) (by omega) (by have := HB7.out.size; exact this) h
            have HAP := Lib.hid tst4
            clear tst4
            go_upto_region 16 with (first
              | (refine wpList_build_run rfl 44 1 #[(0, .tmp 71)] rfl #[(0, .agg pc.toArray)] (by first | rfl | (simp [Act.eval]; done) | (simp [Act.eval]; rfl)) _ HBU.out ?_; clear HBU)
              | (at_builtin; refine HAP.out _ _ _ _ _ rfl _ _ rfl rfl rfl ?_; intro v8 W8 hown hgr _; have HGR := Lib.hid hgr; have HO8 := Lib.hid hown; clear hgr hown))
            have c13 : W8.cell? ⟨b13, 0, none⟩ = some (.int .u32 0) := (cell_of_row W8 b13 0 _ _ _ ((HGR.out.block b13 (Array.getElem?_eq_some_iff.1 H13.out).1 (own_ne HR7.out H13.out (by decide))).trans H13.out)).trans rfl
            have HB8 : Hid (Below W2.heap.size W2 W8) := Lib.hid (HB7.out.grown HGR.out HB7.out.size (fun x e => (HR7.out.lt x e).1))
            have HP8 := Lib.hid (own_grown HP7.out HR7.out (by decide) HGR.out)
            have hx2 : bits .xor .u32 (T.ch : Int) 1 = (other T.ch : Int) := HX1.out
            clear HB7 HP7 HR7 H13 HGR HNC HN1 HNL
            go_wp2_with fail
            go_roundw
            case rel =>
              refine ⟨HB8.out, HP8.out, .inr ⟨by go_num, rfl, ?_⟩⟩
              rw [pendCells_append, HPD.out]
              exact HO8.out
            case measure => simp [intOf]
          · go_wp2_with fail
            go_ret3
            have hne : M.map (·.1) ≠ [] := fun e => HM0.out (List.map_eq_nil_iff.1 e)
            have e1 : sealCh T ks = other T.ch := by unfold sealCh; rw [HCS.out, if_neg hne]
            have e2 : sealL T ks = (M.map (·.1)).map (tlPut T) ++ [pu] := by unfold sealL; rw [HCS.out, if_neg hne, HPU.out]
            refine ⟨_, ks, by rw [e1]; rfl, HPW.out, HMEM.out, ?_, HXB.out _ hb⟩
            rw [e2, show ((M.map (·.1)).map (tlPut T) ++ [pu]).length = M.length + 1 from by simp]
            exact own_base hrow HX.out.size

end
end Go.Proofs.YtdadcengelfmhaaGreat.Cnt
