/-
  A page of a table that is read when it is needed for the first time, and kept; where tallies stand.
-/
import Derived.Test.YtdadcengelfmhaaGreatCntBits
import Derived.Test.YtdadcengelfmhaaGreatTal2
import Derived.StillTailTactics
namespace Go.Proofs.YtdadcengelfmhaaGreat.Cnt
open Go.RowKit RowLaw Crc
open Go.Proofs.YtdadcengelfmhaaGreat.Dev (Dev DS ptr Turn Step readB readR readE Read_any)
open Go.Proofs.YtdadcengelfmhaaGreat.Rot (planOk tlN pkN fsN)
open Go.Proofs.YtdadcengelfmhaaGreat.Tal (pgCells pgCells_size pgCells_one IsPg kT kP fT fP getE getNs getI getNs_length sizeT sizeP infoT infoP zs zs_length Get_anyT Get_anyP)
open Go.Proofs.YtdadcengelfmhaaGreat.Fld (blockO)
set_option maxRecDepth 100000

theorem _root_.Go.Proofs.YtdadcengelfmhaaGreat.Dev.Step.push {B B1 : List Nat} {w W : World} {q : Nat} (h : Step B w W B1) (hq : w.heap.size ≤ q) : Step B w W (q :: B1) := ⟨h.turn, fun k hk => by
  rcases List.mem_cons.1 hk with rfl | hk
  · exact .inr hq
  · exact h.sub k hk⟩
theorem _root_.Go.Proofs.YtdadcengelfmhaaGreat.Dev.Step.below' {B B1 : List Nat} {w W W' : World} (h : Step B w W B1) (hb : Below W.heap.size W W') : Step B w W' B1 := h.trans (Step.of_turn (Turn.of_below hb))

section
variable {w : World} {t bp bt bc : Nat} {fp ft fc : Nat → Option Nat} {B C : List Nat} {T : TD} {s : DS}

theorem neP (p : Nat) (W : World) : (binOp .neq 127 (.pointer (some ⟨p, 0, none⟩)) (.pointer none)).run Tryz.prog W = .ok (.bool true) W := by kernel_rfl
theorem zeroP (W : World) : (zeroValue 127).run Tryz.prog W = .ok (.pointer none) W := by kernel_rfl
set_option linter.unusedSimpArgs false in
set_option maxHeartbeats 3200000 in
theorem pageP_any (hT : TabAt w t bp bt bc fp ft fc B T) (hd : Dev w T.d C s) (hr : Reads s T) {k : Nat} (hk : k < pkN T.n)
     :
    Calls Tryz.prog 91 #[ptr T.d, .map (some bp), .int .u32 (k : Int), .func (.func 36) #[ptr t] #[], .func (.func 92) #[] #[]] w fun e w' => ∃ q fp' B', e = .returned (.tuple #[ptr q, .int .i64 0]) ∧ TabAt w' t bp bt bc fp' ft fc B' T ∧ Step B w w' B' ∧ fp' k = some q ∧ ∀ x, fp k = some x → q = x ∧ Below w.heap.size w w' := by
  obtain ⟨n1, n2⟩ := plan_of hT.ok.plan
  have npl := Rot.plan_facts n1 n2
  have hk32 : k < 4294967296 := by omega
  have hat : pkAt T k < T.n := pkAt_lt hT.ok hk
  clear npl
  cases hf : fp k with
  | some q =>
    have hne := neP q w
    have hm := hT.mp
    unfold ptr
    go_enter Tryz.func91, Tryz.ntmps91
    go_wp2_with (refine wpList_look_some rfl _ _ rfl Tryz.underlying22 Tryz.underlying54 (zeroP _) hm hk32 hf rfl rfl ?_)
    go_ret2
    exact ⟨q, fp, B, rfl, hT, Step.refl _ _, hf, fun x hx => ⟨Option.some.inj hx, Below.refl _ _⟩⟩
  | none =>
    have hm := hT.mp
    have hzv := (zero_of_info infoP).1
    have hzb := (zero_of_info infoBlock).1
    have hfind := pickAt_any hT hk
    have HFI := Lib.hid hfind
    clear hfind
    obtain ⟨hg1, hg2⟩ := hr.pick k hk
    have hlen : s.pend.length < 4294967296 := hr.pend
    have hsn : pkAt T k < s.n := by rw [hr.n]; exact hat
    have hrl := hd.readLen (pkAt T k)
    have hrR : readR s (pkAt T k) = readB s (pkAt T k) := by rw [readR, if_neg (by omega)]
    have hrE : readE s (pkAt T k) = 0 := by rw [readE, if_neg (by omega)]
    have ha32 : pkAt T k < 4294967296 := by omega
    have hgi : getI kP (readB s (pkAt T k)) k = k := by unfold getI; rw [if_pos hg1]
    have hns : (T.PV k).length = kP.n := hT.ok.pl k
    have HR : Hid (∀ W, Dev W T.d C s → Calls Tryz.prog 58 #[ptr T.d, .int .u32 (pkAt T k : Int)] W fun e w' => e = .returned (.tuple #[.agg (cellsOf (readB s (pkAt T k))), .int .i64 0]) ∧ Below W.heap.size W w') := Lib.hid (fun W hW => by
      have := Read_any hW ha32 hlen
      rw [hrR, hrE] at this
      exact this)
    have HG : Hid (∀ W, Calls Tryz.prog 92 #[.agg (cellsOf (readB s (pkAt T k))), .int .u32 (k : Int)] W fun e w' => e = .returned (.tuple #[.agg (pgCells .u64 k (T.PV k)), .int .i64 0]) ∧ Below W.heap.size W w') := Lib.hid (fun W => by
      have := Get_anyP (readB s (pkAt T k)) hrl k W
      rw [hgi, hg1, hg2] at this
      exact this)
    clear hg1 hg2 hrR hrE hgi hat hsn hlen hr ha32 n1 n2
    generalize readB s (pkAt T k) = l at HR HG hrl
    have hil := sizeBlock l hrl
    have hzl : (cellsOf zeros).size = (cellsOf l).size := by rw [cellsOf_size, cellsOf_size, hrl, zeros_length]
    have hip := sizeP k (T.PV k) hns
    have hzp : (pgCells .u64 0 (zs kP)).size = (pgCells .u64 k (T.PV k)).size := by rw [pgCells_size, pgCells_size, hns, zs_length]
    unfold ptr at HFI HR ⊢
    go_enter Tryz.func91, Tryz.ntmps91
    go_wp2_with (refine wpList_look_none rfl _ _ rfl Tryz.underlying22 Tryz.underlying54 (zeroP _) hm hk32 hf rfl rfl ?_)
    refine HFI.out.mono ?_
    clear HFI hm
    rintro e W1 ⟨rfl, hW1⟩
    have h1 : TabAt W1 t bp bt bc fp ft fc B T := by rw [hW1]; exact hT
    have hd1 : Dev W1 T.d C s := by rw [hW1]; exact hd
    have hs1 : Step B w W1 B := by rw [hW1]; exact Step.refl _ _
    have hw1 : w.heap.size ≤ W1.heap.size := by rw [hW1]; exact Nat.le_refl _
    clear hW1
    obtain ⟨B1, hB1⟩ : ∃ B1, B1 = B := ⟨_, rfl⟩
    have hs1 : Step B w W1 B1 := by rw [hB1]; exact hs1
    have h1 : TabAt W1 t bp bt bc fp ft fc B1 T := by rw [hB1]; exact h1
    clear hB1
    clear hT hd
    have hrd := HR.out W1 hd1
    clear HR hd1
    go_wp2_with fail
    refine hrd.mono ?_
    clear hrd
    rintro e W2 ⟨rfl, hx⟩
    have h2 := h1.below hx
    have hs2 := hs1.below' hx
    have hw2 := Nat.le_trans hw1 hx.size
    clear h1 hs1 hx hw1
    have h3 := h2.alloc (blockO l)
    have hs3 := hs2.below' ((Below.refl _ _).alloc (Nat.le_refl _) (blockO l))
    have hb3 : (W2.alloc (blockO l)).heap[W2.heap.size]? = some (.cells (cellsOf l) 39 (0, 0)) := heap_alloc_new _ _
    have hw3 : w.heap.size ≤ (W2.alloc (blockO l)).heap.size := by simp; omega
    clear h2 hs2
    have tok : True := trivial
    go_upto_region 8 with (first | (have _t := tok; refine wpList_store_new rfl 39 _ _ rfl (cellsOf l) _ _ rfl rfl hil hzl (cellsOf_one _) ?_; change wpList _ _ _ _ _ (W2.alloc (blockO l)); clear _t tok))
    change Code.wp _ _ _ _ (W2.alloc (blockO l))
    generalize W2.heap.size = b15 at hb3 ⊢
    generalize W2.alloc (blockO l) = W3 at h3 hs3 hb3 hw3 ⊢
    clear hzl hw2
    go_wp2_with (refine wpList_load_row rfl 39 _ rfl b15 rfl _ _ _ _ hb3 Tryz.underlying39 rfl hil ?_)
    refine (HG.out _).mono ?_
    clear HG hb3 hil
    rintro e W4 ⟨rfl, hx⟩
    have h4 := (h3.below hx).alloc (.cells (pgCells .u64 k (T.PV k)) 73)
    have hs4 := (hs3.below' hx).below' ((Below.refl _ _).alloc (Nat.le_refl _) (.cells (pgCells .u64 k (T.PV k)) 73))
    have hqB : W4.heap.size ∉ B1 := fun hm => by have := (h3.below hx).ltB _ hm; omega
    have hq := IsPg.new .u64 73 W4 k (T.PV k)
    have hqw : w.heap.size ≤ W4.heap.size := Nat.le_trans hw3 hx.size
    clear h3 hs3 hw3 hx
    have tok : True := trivial
    go_upto_region 9 with (first | (have _t := tok; refine wpList_store_new rfl 73 _ _ rfl (pgCells .u64 k (T.PV k)) _ _ rfl rfl hip hzp (pgCells_one _ _) ?_; change wpList _ _ _ _ _ (W4.alloc (.cells (pgCells .u64 k (T.PV k)) 73)); clear _t tok))
    change Code.wp _ _ _ _ (W4.alloc (.cells (pgCells .u64 k (T.PV k)) 73))
    generalize W4.heap.size = q at hqB hq hqw ⊢
    generalize W4.alloc (.cells (pgCells .u64 k (T.PV k)) 73) = W5 at h4 hs4 hq ⊢
    clear hip hzp hzv hzb
    have hm := h4.mp
    have HS := Lib.hid hs4; have HQ := Lib.hid hqw
    clear hs4 hqw
    have h5 := h4
    clear h4
    go_wp2_with (refine wpList_putP rfl _ _ _ rfl Tryz.underlying22 Tryz.underlying54 hm hk32 rfl rfl rfl ?_; intro W6 hm6 hg6 _; have HM := Lib.hid hm6; have HG := Lib.hid hg6; clear hm6 hg6)
    go_ret2
    exact ⟨q, setP fp k q, q :: B1, rfl, h5.addP hq hqB HM.out HG.out, (HS.out.trans (Step.of_turn (Turn.of_grown HG.out h5.inB.2.1))).push HQ.out, setP_self _ _ _, fun x hx => by cases hx⟩

set_option linter.unusedSimpArgs false in
set_option maxHeartbeats 3200000 in
theorem pick_any (hT : TabAt w t bp bt bc fp ft fc B T) (hd : Dev w T.d C s) (hr : Reads s T) {k : Nat} (hk : k < pkN T.n) :
    Calls Tryz.prog 63 #[ptr t, .int .u32 (k : Int)] w fun e w' => ∃ q fp' B', e = .returned (.tuple #[ptr q, .int .i64 0]) ∧ TabAt w' t bp bt bc fp' ft fc B' T ∧ Step B w w' B' ∧ fp' k = some q ∧ ∀ x, fp k = some x → q = x ∧ Below w.heap.size w w' := by
  have h' := hT.drew
  have hd' : Dev w.drew T.d C s := hd.below ⟨rfl, rfl, rfl, Nat.le_refl _, fun _ _ => rfl⟩
  have hP := pageP_any h' hd' hr hk
  have HP := Lib.hid hP
  have hSt : Step B w w.drew B := Step.of_turn ((Turn.refl _ _).drew)
  have HST := Lib.hid hSt
  have hS : w.drew.cell? ⟨t, 0, none⟩ = some (ptr T.d) ∧ w.drew.cell? ⟨t, 5, none⟩ = some (.map (some bp)) := ⟨(h'.cell 0).trans rfl, (h'.cell 5).trans rfl⟩
  have hmf : ∀ (fn : Fn) (first cap : Array Value) (w : World), (Instr.makeFunc fn first cap).run Tryz.prog w = .ok (.func fn first cap) w := fun _ _ _ _ => rfl
  clear hP h' hd' hr hd hT hSt
  unfold ptr at hS HP ⊢
  go_enter Tryz.func63, Tryz.ntmps63
  go_wp2_with fail
  refine wp_region_noPanic ?_
  refine wp_region_held_drew (S := fun W => W.cell? ⟨t, 0, none⟩ = some (.pointer (some ⟨T.d, 0, none⟩)) ∧ W.cell? ⟨t, 5, none⟩ = some (.map (some bp))) (by kernel_rfl) hS ?_
  intro hS
  refine wpAnyH_take (i := 0) (v := .pointer (some ⟨t, 0, none⟩)) rfl (by kernel_rfl) (by kernel_rfl) (by kernel_rfl) (fun _ _ _ h => (h : False).elim) (Or.inl ⟨by rfl, fun _ _ => by go_simp⟩) hS ?_
  change wpAnyH _ _ _ _ _ _ _ (Act.put _ (some 6) _) _
  simp only [Act.put, List.setIfInBounds_toArray, List.set_cons_succ, List.set_cons_zero]
  refine wpAnyH_take (i := 1) (v := .pointer (some ⟨t, 0, none⟩)) rfl (by kernel_rfl) (by kernel_rfl) (by kernel_rfl) (fun _ _ _ h => (h : False).elim) (Or.inl ⟨by rfl, fun _ _ => by go_simp⟩) hS ?_
  change wpAnyH _ _ _ _ _ _ _ (Act.put _ (some 7) _) _
  simp only [Act.put, List.setIfInBounds_toArray, List.set_cons_succ, List.set_cons_zero]
  refine wpAnyH_take (i := 2) (v := .pointer (some ⟨t, 0, none⟩)) rfl (by kernel_rfl) (by kernel_rfl) (by kernel_rfl) (fun _ _ _ h => (h : False).elim) (Or.inl ⟨by rfl, fun _ _ => by go_simp⟩) hS ?_
  change wpAnyH _ _ _ _ _ _ _ (Act.put _ (some 8) _) _
  simp only [Act.put, List.setIfInBounds_toArray, List.set_cons_succ, List.set_cons_zero]
  refine wpAnyH_take (i := 3) (v := .pointer (some ⟨T.d, 0, none⟩)) rfl (by kernel_rfl) (by kernel_rfl) (by kernel_rfl) (fun _ _ _ h => (h : False).elim) (Or.inl ⟨by rfl, fun w hw => by have c := hw.1; go_simp⟩) hS ?_
  change wpAnyH _ _ _ _ _ _ _ (Act.put _ (some 9) _) _
  simp only [Act.put, List.setIfInBounds_toArray, List.set_cons_succ, List.set_cons_zero]
  refine wpAnyH_take (i := 4) (v := .pointer (some ⟨t, 0, none⟩)) rfl (by kernel_rfl) (by kernel_rfl) (by kernel_rfl) (fun _ _ _ h => (h : False).elim) (Or.inl ⟨by rfl, fun _ _ => by go_simp⟩) hS ?_
  change wpAnyH _ _ _ _ _ _ _ (Act.put _ (some 10) _) _
  simp only [Act.put, List.setIfInBounds_toArray, List.set_cons_succ, List.set_cons_zero]
  refine wpAnyH_take (i := 5) (v := .pointer (some ⟨t, 0, none⟩)) rfl (by kernel_rfl) (by kernel_rfl) (by kernel_rfl) (fun _ _ _ h => (h : False).elim) (Or.inl ⟨by rfl, fun _ _ => by go_simp⟩) hS ?_
  change wpAnyH _ _ _ _ _ _ _ (Act.put _ (some 11) _) _
  simp only [Act.put, List.setIfInBounds_toArray, List.set_cons_succ, List.set_cons_zero]
  refine wpAnyH_take (i := 6) (v := .pointer (some ⟨t, 5, none⟩)) rfl (by kernel_rfl) (by kernel_rfl) (by kernel_rfl) (fun _ _ _ h => (h : False).elim) (Or.inl ⟨by rfl, fun _ _ => by go_simp⟩) hS ?_
  change wpAnyH _ _ _ _ _ _ _ (Act.put _ (some 12) _) _
  simp only [Act.put, List.setIfInBounds_toArray, List.set_cons_succ, List.set_cons_zero]
  refine wpAnyH_take (i := 7) (v := .map (some bp)) rfl (by kernel_rfl) (by kernel_rfl) (by kernel_rfl) (fun _ _ _ h => (h : False).elim) (Or.inl ⟨by rfl, fun w hw => by have c := hw.2; go_simp⟩) hS ?_
  change wpAnyH _ _ _ _ _ _ _ (Act.put _ (some 13) _) _
  simp only [Act.put, List.setIfInBounds_toArray, List.set_cons_succ, List.set_cons_zero]
  refine wpAnyH_take (i := 8) (v := .int .u32 (k : Int)) rfl (by kernel_rfl) (by kernel_rfl) (by kernel_rfl) (fun _ _ _ h => (h : False).elim) (Or.inl ⟨by rfl, fun _ _ => by go_simp⟩) hS ?_
  change wpAnyH _ _ _ _ _ _ _ (Act.put _ (some 14) _) _
  simp only [Act.put, List.setIfInBounds_toArray, List.set_cons_succ, List.set_cons_zero]
  refine wpAnyH_take (i := 9) (v := .pointer (some ⟨t, 0, none⟩)) rfl (by kernel_rfl) (by kernel_rfl) (by kernel_rfl) (fun _ _ _ h => (h : False).elim) (Or.inl ⟨by rfl, fun _ _ => by go_simp⟩) hS ?_
  change wpAnyH _ _ _ _ _ _ _ (Act.put _ (some 15) _) _
  simp only [Act.put, List.setIfInBounds_toArray, List.set_cons_succ, List.set_cons_zero]
  refine wpAnyH_take (i := 10) (v := .func (.func 36) #[.pointer (some ⟨t, 0, none⟩)] #[]) rfl (by kernel_rfl) (by kernel_rfl) (by kernel_rfl) (fun _ _ _ h => (h : False).elim) (Or.inl ⟨by rfl, fun w _ => by go_simp⟩) hS ?_
  change wpAnyH _ _ _ _ _ _ _ (Act.put _ (some 16) _) _
  simp only [Act.put, List.setIfInBounds_toArray, List.set_cons_succ, List.set_cons_zero]
  refine wpAnyH_ready (rs := [11]) (by kernel_rfl) (by simp) ?_
  refine AllReadyH.cons rfl (fun K hK => ?_) AllReadyH.nil
  go_simp
  refine HP.out.mono ?_
  clear HP hS
  rintro e W ⟨q, fp1, B1, rfl, h1, hs1, hq1, hbb⟩
  have HBB := Lib.hid hbb; clear hbb
  dsimp only
  refine hK _ _ ⟨(h1.cell 0).trans rfl, (h1.cell 5).trans rfl⟩ (fun _ => ?_)
  have hS : W.cell? ⟨t, 0, none⟩ = some (.pointer (some ⟨T.d, 0, none⟩)) ∧ W.cell? ⟨t, 5, none⟩ = some (.map (some bp)) := ⟨(h1.cell 0).trans rfl, (h1.cell 5).trans rfl⟩
  clear hK K
  refine wpAnyH_take (i := 12) (v := .pointer (some ⟨q, 0, none⟩)) rfl (by kernel_rfl) (by kernel_rfl) (by kernel_rfl) (fun _ _ _ h => (h : False).elim) (Or.inl ⟨by rfl, fun _ _ => by go_simp⟩) hS ?_
  change wpAnyH _ _ _ _ _ _ _ (Act.put _ (some 18) _) _
  simp only [Act.put, List.setIfInBounds_toArray, List.set_cons_succ, List.set_cons_zero]
  refine wpAnyH_take (i := 13) (v := .int .i64 0) rfl (by kernel_rfl) (by kernel_rfl) (by kernel_rfl) (fun _ _ _ h => (h : False).elim) (Or.inl ⟨by rfl, fun _ _ => by go_simp⟩) hS ?_
  change wpAnyH _ _ _ _ _ _ _ (Act.put _ (some 19) _) _
  simp only [Act.put, List.setIfInBounds_toArray, List.set_cons_succ, List.set_cons_zero]
  refine wpAnyH_take (i := 14) (v := .pointer (some ⟨q, 0, none⟩)) rfl (by kernel_rfl) (by kernel_rfl) (by kernel_rfl) (fun _ _ _ h => (h : False).elim) (Or.inl ⟨by rfl, fun _ _ => by go_simp⟩) hS ?_
  change wpAnyH _ _ _ _ _ _ _ (Act.put _ (some 4) _) _
  simp only [Act.put, List.setIfInBounds_toArray, List.set_cons_succ, List.set_cons_zero]
  refine wpAnyH_take (i := 15) (v := .int .i64 0) rfl (by kernel_rfl) (by kernel_rfl) (by kernel_rfl) (fun _ _ _ h => (h : False).elim) (Or.inl ⟨by rfl, fun _ _ => by go_simp⟩) hS ?_
  change wpAnyH _ _ _ _ _ _ _ (Act.put _ (some 5) _) _
  simp only [Act.put, List.setIfInBounds_toArray, List.set_cons_succ, List.set_cons_zero]
  refine wpAnyH_done (by kernel_rfl) ?_ _
  refine NoPanic.normal ?_
  go_wp2_with fail
  go_ret2
  exact ⟨q, fp1, B1, rfl, h1, HST.out.trans hs1, hq1, fun x hx => ⟨(HBB.out x hx).1, (Below.refl _ w).drew.trans (HBB.out x hx).2⟩⟩

set_option maxHeartbeats 1600000 in
theorem tallyAt_any (hT : TabAt w t bp bt bc fp ft fc B T) (hd : Dev w T.d C s) (hr : Reads s T) {k : Nat} (hk : k < tlN T.n) :
    Calls Tryz.prog 32 #[ptr t, .int .u32 (k : Int)] w fun e w' => e = .returned (.tuple #[.int .u32 (tlAt T k : Int), .int .i64 0]) ∧ ∃ fp' B', TabAt w' t bp bt bc fp' ft fc B' T ∧ Step B w w' B' ∧ (∃ x, fp' (k / 1024) = some x) ∧ ∀ x, fp (k / 1024) = some x → Below w.heap.size w w' := by
  have hkp := pick_of_tally hT.ok hk
  have hP := pick_any hT hd hr hkp
  have hlt := tlAt_lt hT.ok hk
  obtain ⟨h1, h2⟩ := plan_of hT.ok.plan
  have hpl := Rot.plan_facts h1 h2
  have hlen := hT.ok.pl (k / 1024)
  have hnn := hT.ok.pn (k / 1024)
  have hip := sizeP (k / 1024) (T.PV (k / 1024)) hlen
  have hkm : k % 1024 < 1024 := Nat.mod_lt _ (by omega)
  have HB := Lib.hid (fun W => Bit_any (k := k / 1024) hlen hnn hkm W)
  have hat : tlAt T k = 2 + 2 * (pkN T.n + k) + bitAt (T.PV (k / 1024)) (k % 1024) := rfl
  have hb2 := bitAt_lt (T.PV (k / 1024)) (k % 1024)
  obtain ⟨hk16, hp16⟩ : k < 16384 ∧ pkN T.n ≤ 16 := by omega
  obtain ⟨m, hm⟩ : ∃ m, m = k / 1024 := ⟨_, rfl⟩
  obtain ⟨j, hj⟩ : ∃ j, j = k % 1024 := ⟨_, rfl⟩
  rw [← hm] at hP hip HB hat hb2 ⊢
  rw [← hj] at HB hat hb2 hkm
  have d1 : (k : Int) / 1024 = (m : Int) := by omega
  have d2 : (k : Int) % 1024 = (j : Int) := by omega
  generalize bitAt (T.PV m) j = b at HB hat hb2
  generalize tlAt T k = at' at hat hlt ⊢
  have HA := Lib.hid hat
  have hpk : (pkN T.n : Int) ≤ 16 := by omega
  have HP := Lib.hid hP
  clear hP hT hd hr hat hlen hnn hpl h1 h2 hkp hm hj
  unfold ptr at HP ⊢
  go_enter Tryz.func32, Tryz.ntmps32
  go_wp2_with fail
  refine HP.out.mono ?_
  clear HP
  rintro e W1 ⟨q, fp1, B1, rfl, h1, hs1, hq1, hbb⟩
  have HBB := Lib.hid hbb
  have HQ1 := Lib.hid hq1
  clear hbb
  have hpg : W1.heap[q]? = some (.cells (pgCells .u64 m (T.PV m)) 73 (0, 0)) := (h1.pp m q hq1).1
  go_wp2_with (refine wpList_load_row rfl 73 _ rfl q rfl _ _ _ _ hpg Tryz.underlying73 rfl hip ?_)
  refine (HB.out _).mono ?_
  clear HB hpg hip
  rintro e W2 ⟨rfl, hx⟩
  have h2 := h1.below hx
  have hs2 := hs1.below' hx
  have HX := Lib.hid hx
  clear h1 hs1 hx
  have c2 : W2.cell? ⟨t, 2, none⟩ = some (.int .u32 (pkN T.n : Int)) := (h2.cell 2).trans rfl
  generalize pkN T.n = pn at c2 hpk hp16 HA
  have e1 : (2 + 2 * ((pn : Int) + (k : Int)) + (b : Int)) % 4294967296 = 2 + 2 * ((pn : Int) + (k : Int)) + b := by omega
  go_wp2_with fail
  go_ret2
  refine ⟨?_, fp1, B1, h2, hs2, ⟨q, HQ1.out⟩, fun x hx => (HBB.out x hx).2.trans (HX.out.mono (HBB.out x hx).2.size)⟩
  rw [HA.out]
  rfl

theorem neT (p : Nat) (W : World) : (binOp .neq 88 (.pointer (some ⟨p, 0, none⟩)) (.pointer none)).run Tryz.prog W = .ok (.bool true) W := by kernel_rfl
theorem zeroT (W : World) : (zeroValue 88).run Tryz.prog W = .ok (.pointer none) W := by kernel_rfl
set_option linter.unusedSimpArgs false in
set_option maxHeartbeats 3200000 in
theorem pageT_any (hT : TabAt w t bp bt bc fp ft fc B T) (hd : Dev w T.d C s) (hr : Reads s T) (hdis : ∀ k ∈ C, k ∉ B) {k : Nat} (hk : k < tlN T.n)
    (hfind : Calls Tryz.prog 32 #[ptr t, .int .u32 (k : Int)] w fun e w' => e = .returned (.tuple #[.int .u32 (tlAt T k : Int), .int .i64 0]) ∧ ∃ fp' B', TabAt w' t bp bt bc fp' ft fc B' T ∧ Step B w w' B' ∧ (∃ x, fp' (k / 1024) = some x) ∧ ∀ x, fp (k / 1024) = some x → Below w.heap.size w w') :
    Calls Tryz.prog 71 #[ptr T.d, .map (some bt), .int .u32 (k : Int), .func (.func 32) #[ptr t] #[], .func (.func 72) #[] #[]] w fun e w' => ∃ q fp' ft' B', e = .returned (.tuple #[ptr q, .int .i64 0]) ∧ TabAt w' t bp bt bc fp' ft' fc B' T ∧ Step B w w' B' ∧ ft' k = some q := by
  obtain ⟨n1, n2⟩ := plan_of hT.ok.plan
  have npl := Rot.plan_facts n1 n2
  have hk32 : k < 4294967296 := by omega
  have hat : tlAt T k < T.n := tlAt_lt hT.ok hk
  clear npl
  cases hf : ft k with
  | some q =>
    have hne := neT q w
    have hm := hT.mt
    unfold ptr
    go_enter Tryz.func71, Tryz.ntmps71
    go_wp2_with (refine wpList_look_some rfl _ _ rfl Tryz.underlying22 Tryz.underlying55 (zeroT _) hm hk32 hf rfl rfl ?_)
    go_ret2
    exact ⟨q, fp, ft, B, rfl, hT, Step.refl _ _, hf⟩
  | none =>
    have hm := hT.mt
    have hzv := (zero_of_info infoT).1
    have hzb := (zero_of_info infoBlock).1
    have HFI := Lib.hid hfind
    clear hfind
    obtain ⟨hg1, hg2⟩ := hr.tally k hk
    have hlen : s.pend.length < 4294967296 := hr.pend
    have hsn : tlAt T k < s.n := by rw [hr.n]; exact hat
    have hrl := hd.readLen (tlAt T k)
    have hrR : readR s (tlAt T k) = readB s (tlAt T k) := by rw [readR, if_neg (by omega)]
    have hrE : readE s (tlAt T k) = 0 := by rw [readE, if_neg (by omega)]
    have ha32 : tlAt T k < 4294967296 := by omega
    have hgi : getI kT (readB s (tlAt T k)) k = k := by unfold getI; rw [if_pos hg1]
    have hns : (T.TV k).length = kT.n := hT.ok.tl k
    have HR : Hid (∀ W, Dev W T.d C s → Calls Tryz.prog 58 #[ptr T.d, .int .u32 (tlAt T k : Int)] W fun e w' => e = .returned (.tuple #[.agg (cellsOf (readB s (tlAt T k))), .int .i64 0]) ∧ Below W.heap.size W w') := Lib.hid (fun W hW => by
      have := Read_any hW ha32 hlen
      rw [hrR, hrE] at this
      exact this)
    have HG : Hid (∀ W, Calls Tryz.prog 72 #[.agg (cellsOf (readB s (tlAt T k))), .int .u32 (k : Int)] W fun e w' => e = .returned (.tuple #[.agg (pgCells .u16 k (T.TV k)), .int .i64 0]) ∧ Below W.heap.size W w') := Lib.hid (fun W => by
      have := Get_anyT (readB s (tlAt T k)) hrl k W
      rw [hgi, hg1, hg2] at this
      exact this)
    clear hg1 hg2 hrR hrE hgi hat hsn hlen hr ha32 n1 n2
    generalize readB s (tlAt T k) = l at HR HG hrl
    have hil := sizeBlock l hrl
    have hzl : (cellsOf zeros).size = (cellsOf l).size := by rw [cellsOf_size, cellsOf_size, hrl, zeros_length]
    have hip := sizeT k (T.TV k) hns
    have hzp : (pgCells .u16 0 (zs kT)).size = (pgCells .u16 k (T.TV k)).size := by rw [pgCells_size, pgCells_size, hns, zs_length]
    unfold ptr at HFI HR ⊢
    go_enter Tryz.func71, Tryz.ntmps71
    go_wp2_with (refine wpList_look_none rfl _ _ rfl Tryz.underlying22 Tryz.underlying55 (zeroT _) hm hk32 hf rfl rfl ?_)
    refine HFI.out.mono ?_
    clear HFI hm
    rintro e W1 ⟨rfl, fp1, B1, h1, hs1, hqp, -⟩
    have HQP := Lib.hid hqp
    clear hqp
    have hd1 := hd.turn hs1.turn hdis
    have hw1 := hs1.turn.size
    clear hT hd hdis
    have hrd := HR.out W1 hd1
    clear HR hd1
    go_wp2_with fail
    refine hrd.mono ?_
    clear hrd
    rintro e W2 ⟨rfl, hx⟩
    have h2 := h1.below hx
    have hs2 := hs1.below' hx
    have hw2 := Nat.le_trans hw1 hx.size
    clear h1 hs1 hx hw1
    have h3 := h2.alloc (blockO l)
    have hs3 := hs2.below' ((Below.refl _ _).alloc (Nat.le_refl _) (blockO l))
    have hb3 : (W2.alloc (blockO l)).heap[W2.heap.size]? = some (.cells (cellsOf l) 39 (0, 0)) := heap_alloc_new _ _
    have hw3 : w.heap.size ≤ (W2.alloc (blockO l)).heap.size := by simp; omega
    clear h2 hs2
    have tok : True := trivial
    go_upto_region 8 with (first | (have _t := tok; refine wpList_store_new rfl 39 _ _ rfl (cellsOf l) _ _ rfl rfl hil hzl (cellsOf_one _) ?_; change wpList _ _ _ _ _ (W2.alloc (blockO l)); clear _t tok))
    change Code.wp _ _ _ _ (W2.alloc (blockO l))
    generalize W2.heap.size = b15 at hb3 ⊢
    generalize W2.alloc (blockO l) = W3 at h3 hs3 hb3 hw3 ⊢
    clear hzl hw2
    go_wp2_with (refine wpList_load_row rfl 39 _ rfl b15 rfl _ _ _ _ hb3 Tryz.underlying39 rfl hil ?_)
    refine (HG.out _).mono ?_
    clear HG hb3 hil
    rintro e W4 ⟨rfl, hx⟩
    have h4 := (h3.below hx).alloc (.cells (pgCells .u16 k (T.TV k)) 68)
    have hs4 := (hs3.below' hx).below' ((Below.refl _ _).alloc (Nat.le_refl _) (.cells (pgCells .u16 k (T.TV k)) 68))
    have hqB : W4.heap.size ∉ B1 := fun hm => by have := (h3.below hx).ltB _ hm; omega
    have hq := IsPg.new .u16 68 W4 k (T.TV k)
    have hqw : w.heap.size ≤ W4.heap.size := Nat.le_trans hw3 hx.size
    clear h3 hs3 hw3 hx
    have tok : True := trivial
    go_upto_region 9 with (first | (have _t := tok; refine wpList_store_new rfl 68 _ _ rfl (pgCells .u16 k (T.TV k)) _ _ rfl rfl hip hzp (pgCells_one _ _) ?_; change wpList _ _ _ _ _ (W4.alloc (.cells (pgCells .u16 k (T.TV k)) 68)); clear _t tok))
    change Code.wp _ _ _ _ (W4.alloc (.cells (pgCells .u16 k (T.TV k)) 68))
    generalize W4.heap.size = q at hqB hq hqw ⊢
    generalize W4.alloc (.cells (pgCells .u16 k (T.TV k)) 68) = W5 at h4 hs4 hq ⊢
    clear hip hzp hzv hzb
    have hm := h4.mt
    have HS := Lib.hid hs4; have HQ := Lib.hid hqw
    clear hs4 hqw
    have h5 := h4
    clear h4
    go_wp2_with (refine wpList_putP rfl _ _ _ rfl Tryz.underlying22 Tryz.underlying55 hm hk32 rfl rfl rfl ?_; intro W6 hm6 hg6 _; have HM := Lib.hid hm6; have HG := Lib.hid hg6; clear hm6 hg6)
    go_ret2
    exact ⟨q, fp1, setP ft k q, q :: B1, rfl, h5.addT HQP.out hq hqB HM.out HG.out, (HS.out.trans (Step.of_turn (Turn.of_grown HG.out h5.inB.2.2.1))).push HQ.out, setP_self _ _ _⟩

set_option linter.unusedSimpArgs false in
set_option maxHeartbeats 3200000 in
theorem old_any (hT : TabAt w t bp bt bc fp ft fc B T) (hd : Dev w T.d C s) (hr : Reads s T) (hdis : ∀ k ∈ C, k ∉ B) {k : Nat} (hk : k < tlN T.n) :
    Calls Tryz.prog 47 #[ptr t, .int .u32 (k : Int)] w fun e w' => ∃ q fp' ft' B', e = .returned (.tuple #[ptr q, .int .i64 0]) ∧ TabAt w' t bp bt bc fp' ft' fc B' T ∧ Step B w w' B' ∧ ft' k = some q := by
  have h' := hT.drew
  have hd' : Dev w.drew T.d C s := hd.below ⟨rfl, rfl, rfl, Nat.le_refl _, fun _ _ => rfl⟩
  have hP := pageT_any h' hd' hr hdis hk (tallyAt_any h' hd' hr hk)
  have HP := Lib.hid hP
  have hSt : Step B w w.drew B := Step.of_turn ((Turn.refl _ _).drew)
  have HST := Lib.hid hSt
  have hS : w.drew.cell? ⟨t, 0, none⟩ = some (ptr T.d) ∧ w.drew.cell? ⟨t, 6, none⟩ = some (.map (some bt)) := ⟨(h'.cell 0).trans rfl, (h'.cell 6).trans rfl⟩
  have hmf : ∀ (fn : Fn) (first cap : Array Value) (w : World), (Instr.makeFunc fn first cap).run Tryz.prog w = .ok (.func fn first cap) w := fun _ _ _ _ => rfl
  clear hP h' hd' hr hdis hd hT hSt
  unfold ptr at hS HP ⊢
  go_enter Tryz.func47, Tryz.ntmps47
  go_wp2_with fail
  refine wp_region_noPanic ?_
  refine wp_region_held_drew (S := fun W => W.cell? ⟨t, 0, none⟩ = some (.pointer (some ⟨T.d, 0, none⟩)) ∧ W.cell? ⟨t, 6, none⟩ = some (.map (some bt))) (by kernel_rfl) hS ?_
  intro hS
  refine wpAnyH_take (i := 0) (v := .pointer (some ⟨t, 0, none⟩)) rfl (by kernel_rfl) (by kernel_rfl) (by kernel_rfl) (fun _ _ _ h => (h : False).elim) (Or.inl ⟨by rfl, fun _ _ => by go_simp⟩) hS ?_
  change wpAnyH _ _ _ _ _ _ _ (Act.put _ (some 6) _) _
  simp only [Act.put, List.setIfInBounds_toArray, List.set_cons_succ, List.set_cons_zero]
  refine wpAnyH_take (i := 1) (v := .pointer (some ⟨t, 0, none⟩)) rfl (by kernel_rfl) (by kernel_rfl) (by kernel_rfl) (fun _ _ _ h => (h : False).elim) (Or.inl ⟨by rfl, fun _ _ => by go_simp⟩) hS ?_
  change wpAnyH _ _ _ _ _ _ _ (Act.put _ (some 7) _) _
  simp only [Act.put, List.setIfInBounds_toArray, List.set_cons_succ, List.set_cons_zero]
  refine wpAnyH_take (i := 2) (v := .pointer (some ⟨t, 0, none⟩)) rfl (by kernel_rfl) (by kernel_rfl) (by kernel_rfl) (fun _ _ _ h => (h : False).elim) (Or.inl ⟨by rfl, fun _ _ => by go_simp⟩) hS ?_
  change wpAnyH _ _ _ _ _ _ _ (Act.put _ (some 8) _) _
  simp only [Act.put, List.setIfInBounds_toArray, List.set_cons_succ, List.set_cons_zero]
  refine wpAnyH_take (i := 3) (v := .pointer (some ⟨T.d, 0, none⟩)) rfl (by kernel_rfl) (by kernel_rfl) (by kernel_rfl) (fun _ _ _ h => (h : False).elim) (Or.inl ⟨by rfl, fun w hw => by have c := hw.1; go_simp⟩) hS ?_
  change wpAnyH _ _ _ _ _ _ _ (Act.put _ (some 9) _) _
  simp only [Act.put, List.setIfInBounds_toArray, List.set_cons_succ, List.set_cons_zero]
  refine wpAnyH_take (i := 4) (v := .pointer (some ⟨t, 0, none⟩)) rfl (by kernel_rfl) (by kernel_rfl) (by kernel_rfl) (fun _ _ _ h => (h : False).elim) (Or.inl ⟨by rfl, fun _ _ => by go_simp⟩) hS ?_
  change wpAnyH _ _ _ _ _ _ _ (Act.put _ (some 10) _) _
  simp only [Act.put, List.setIfInBounds_toArray, List.set_cons_succ, List.set_cons_zero]
  refine wpAnyH_take (i := 5) (v := .pointer (some ⟨t, 0, none⟩)) rfl (by kernel_rfl) (by kernel_rfl) (by kernel_rfl) (fun _ _ _ h => (h : False).elim) (Or.inl ⟨by rfl, fun _ _ => by go_simp⟩) hS ?_
  change wpAnyH _ _ _ _ _ _ _ (Act.put _ (some 11) _) _
  simp only [Act.put, List.setIfInBounds_toArray, List.set_cons_succ, List.set_cons_zero]
  refine wpAnyH_take (i := 6) (v := .pointer (some ⟨t, 6, none⟩)) rfl (by kernel_rfl) (by kernel_rfl) (by kernel_rfl) (fun _ _ _ h => (h : False).elim) (Or.inl ⟨by rfl, fun _ _ => by go_simp⟩) hS ?_
  change wpAnyH _ _ _ _ _ _ _ (Act.put _ (some 12) _) _
  simp only [Act.put, List.setIfInBounds_toArray, List.set_cons_succ, List.set_cons_zero]
  refine wpAnyH_take (i := 7) (v := .map (some bt)) rfl (by kernel_rfl) (by kernel_rfl) (by kernel_rfl) (fun _ _ _ h => (h : False).elim) (Or.inl ⟨by rfl, fun w hw => by have c := hw.2; go_simp⟩) hS ?_
  change wpAnyH _ _ _ _ _ _ _ (Act.put _ (some 13) _) _
  simp only [Act.put, List.setIfInBounds_toArray, List.set_cons_succ, List.set_cons_zero]
  refine wpAnyH_take (i := 8) (v := .int .u32 (k : Int)) rfl (by kernel_rfl) (by kernel_rfl) (by kernel_rfl) (fun _ _ _ h => (h : False).elim) (Or.inl ⟨by rfl, fun _ _ => by go_simp⟩) hS ?_
  change wpAnyH _ _ _ _ _ _ _ (Act.put _ (some 14) _) _
  simp only [Act.put, List.setIfInBounds_toArray, List.set_cons_succ, List.set_cons_zero]
  refine wpAnyH_take (i := 9) (v := .pointer (some ⟨t, 0, none⟩)) rfl (by kernel_rfl) (by kernel_rfl) (by kernel_rfl) (fun _ _ _ h => (h : False).elim) (Or.inl ⟨by rfl, fun _ _ => by go_simp⟩) hS ?_
  change wpAnyH _ _ _ _ _ _ _ (Act.put _ (some 15) _) _
  simp only [Act.put, List.setIfInBounds_toArray, List.set_cons_succ, List.set_cons_zero]
  refine wpAnyH_take (i := 10) (v := .func (.func 32) #[.pointer (some ⟨t, 0, none⟩)] #[]) rfl (by kernel_rfl) (by kernel_rfl) (by kernel_rfl) (fun _ _ _ h => (h : False).elim) (Or.inl ⟨by rfl, fun w _ => by go_simp⟩) hS ?_
  change wpAnyH _ _ _ _ _ _ _ (Act.put _ (some 16) _) _
  simp only [Act.put, List.setIfInBounds_toArray, List.set_cons_succ, List.set_cons_zero]
  refine wpAnyH_ready (rs := [11]) (by kernel_rfl) (by simp) ?_
  refine AllReadyH.cons rfl (fun K hK => ?_) AllReadyH.nil
  go_simp
  refine HP.out.mono ?_
  clear HP hS
  rintro e W ⟨q, fp1, ft1, B1, rfl, h1, hs1, hq1⟩
  skip
  dsimp only
  refine hK _ _ ⟨(h1.cell 0).trans rfl, (h1.cell 6).trans rfl⟩ (fun _ => ?_)
  have hS : W.cell? ⟨t, 0, none⟩ = some (.pointer (some ⟨T.d, 0, none⟩)) ∧ W.cell? ⟨t, 6, none⟩ = some (.map (some bt)) := ⟨(h1.cell 0).trans rfl, (h1.cell 6).trans rfl⟩
  clear hK K
  refine wpAnyH_take (i := 12) (v := .pointer (some ⟨q, 0, none⟩)) rfl (by kernel_rfl) (by kernel_rfl) (by kernel_rfl) (fun _ _ _ h => (h : False).elim) (Or.inl ⟨by rfl, fun _ _ => by go_simp⟩) hS ?_
  change wpAnyH _ _ _ _ _ _ _ (Act.put _ (some 18) _) _
  simp only [Act.put, List.setIfInBounds_toArray, List.set_cons_succ, List.set_cons_zero]
  refine wpAnyH_take (i := 13) (v := .int .i64 0) rfl (by kernel_rfl) (by kernel_rfl) (by kernel_rfl) (fun _ _ _ h => (h : False).elim) (Or.inl ⟨by rfl, fun _ _ => by go_simp⟩) hS ?_
  change wpAnyH _ _ _ _ _ _ _ (Act.put _ (some 19) _) _
  simp only [Act.put, List.setIfInBounds_toArray, List.set_cons_succ, List.set_cons_zero]
  refine wpAnyH_take (i := 14) (v := .pointer (some ⟨q, 0, none⟩)) rfl (by kernel_rfl) (by kernel_rfl) (by kernel_rfl) (fun _ _ _ h => (h : False).elim) (Or.inl ⟨by rfl, fun _ _ => by go_simp⟩) hS ?_
  change wpAnyH _ _ _ _ _ _ _ (Act.put _ (some 4) _) _
  simp only [Act.put, List.setIfInBounds_toArray, List.set_cons_succ, List.set_cons_zero]
  refine wpAnyH_take (i := 15) (v := .int .i64 0) rfl (by kernel_rfl) (by kernel_rfl) (by kernel_rfl) (fun _ _ _ h => (h : False).elim) (Or.inl ⟨by rfl, fun _ _ => by go_simp⟩) hS ?_
  change wpAnyH _ _ _ _ _ _ _ (Act.put _ (some 5) _) _
  simp only [Act.put, List.setIfInBounds_toArray, List.set_cons_succ, List.set_cons_zero]
  refine wpAnyH_done (by kernel_rfl) ?_ _
  refine NoPanic.normal ?_
  go_wp2_with fail
  go_ret2
  exact ⟨q, fp1, ft1, B1, rfl, h1, HST.out.trans hs1, hq1⟩

end
end Go.Proofs.YtdadcengelfmhaaGreat.Cnt
