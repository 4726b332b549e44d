/-
  Counts, read and set.
-/
import Derived.Test.YtdadcengelfmhaaGreatCntPage
namespace Go.Proofs.YtdadcengelfmhaaGreat.Cnt
open Go.RowKit RowLaw Crc
open Go.Proofs.YtdadcengelfmhaaGreat.Dev (Dev DS ptr Turn Step readB)
open Go.Proofs.YtdadcengelfmhaaGreat.Rot (planOk tlN pkN fsN)
open Go.Proofs.YtdadcengelfmhaaGreat.Tal (pgCells pgCells_size pgCells_one IsPg kT kP sizeT infoT zs zs_length)
set_option maxRecDepth 100000

def cntV (f : Nat → List Nat) (n a : Nat) : Nat := if fsN n ≤ a ∧ a < n then (f (a / 64)).getD (a % 64) 0 else 0
def cntE (n a : Nat) : Int := if n ≤ a then 2 else 0
def TD.oldC (T : TD) (a : Nat) : Nat := cntV T.TV T.n a
def TD.nowC (T : TD) (a : Nat) : Nat := cntV T.now T.n a
theorem setC_self {T : TD} {p : Nat} {ns : List Nat} (h : T.C p = some ns) : setC T p ns = T := by
  cases T with
  | mk d n ch PV TV C =>
    unfold setC
    congr 1
    funext x
    split
    · rename_i e; rw [e]; exact h.symm
    · rfl
theorem now_some {T : TD} {p : Nat} {ns : List Nat} (h : T.C p = some ns) : T.now p = ns := by unfold TD.now; rw [h]; rfl
theorem now_none {T : TD} {p : Nat} (h : T.C p = none) : T.now p = T.TV p := by unfold TD.now; rw [h]; rfl
theorem TOk.now {T : TD} (h : TOk T) (p : Nat) : (T.now p).length = 64 ∧ ∀ x ∈ T.now p, x < 65536 := by
  cases hc : T.C p with
  | none => rw [now_none hc]; exact ⟨h.tl p, h.tn p⟩
  | some ns => rw [now_some hc]; exact h.cl p ns hc

section
variable {w : World} {t bp bt bc : Nat} {fp ft fc : Nat → Option Nat} {B C : List Nat} {T : TD} {s : DS}
theorem TabAt.fc_some (h : TabAt w t bp bt bc fp ft fc B T) {p : Nat} {ns : List Nat} (hc : T.C p = some ns) : ∃ q, fc p = some q ∧ IsPg .u16 68 w q p ns := by
  cases hf : fc p with
  | none => rw [h.nc p hf] at hc; cases hc
  | some q =>
    obtain ⟨⟨ns', h1, h2⟩, _⟩ := h.pc p q hf
    rw [hc] at h1
    cases h1
    exact ⟨q, rfl, h2⟩
theorem TabAt.fc_none (h : TabAt w t bp bt bc fp ft fc B T) {p : Nat} (hc : T.C p = none) : fc p = none := by
  cases hf : fc p with
  | none => rfl
  | some q =>
    obtain ⟨⟨ns', h1, h2⟩, _⟩ := h.pc p q hf
    rw [hc] at h1
    cases h1

set_option linter.unusedSimpArgs false in
set_option maxHeartbeats 1600000 in
theorem current_any (hT : TabAt w t bp bt bc fp ft fc B T) (hd : Dev w T.d C s) (hr : Reads s T) (hdis : ∀ k ∈ C, k ∉ B) {k : Nat} (hk : k < tlN T.n) :
    Calls Tryz.prog 46 #[ptr t, .int .u32 (k : Int)] w fun e w' => ∃ q fp' ft' B', e = .returned (.tuple #[ptr q, .int .i64 0]) ∧ TabAt w' t bp bt bc fp' ft' fc B' T ∧ Step B w w' B' ∧ IsPg .u16 68 w' q k (T.now k) := by
  obtain ⟨n1, n2⟩ := plan_of hT.ok.plan
  have npl := Rot.plan_facts n1 n2
  have hk32 : k < 4294967296 := by omega
  have hm := hT.mc
  have c7 : w.cell? ⟨t, 7, none⟩ = some (.map (some bc)) := (hT.cell 7).trans rfl
  clear npl n1 n2
  cases hc : T.C k with
  | some ns =>
    obtain ⟨q, hf, hp⟩ := hT.fc_some hc
    have hne := neT q w
    rw [now_some hc]
    clear hd hr hdis hk
    unfold ptr
    go_enter Tryz.func46, Tryz.ntmps46
    go_wp2_with (refine wpList_look_some rfl _ _ rfl Tryz.underlying22 Tryz.underlying55 (zeroT _) hm hk32 hf rfl rfl ?_)
    go_ret2
    exact ⟨q, fp, ft, B, rfl, hT, Step.refl _ _, hp⟩
  | none =>
    have hf := hT.fc_none hc
    rw [now_none hc]
    have hO := old_any hT hd hr hdis hk
    have HO := Lib.hid hO
    clear hO hd hr hdis hk hT
    unfold ptr at HO ⊢
    go_enter Tryz.func46, Tryz.ntmps46
    go_wp2_with (refine wpList_look_none rfl _ _ rfl Tryz.underlying22 Tryz.underlying55 (zeroT _) hm hk32 hf rfl rfl ?_)
    refine HO.out.mono ?_
    clear HO hm c7
    rintro e W1 ⟨q, fp1, ft1, B1, rfl, h1, hs1, hq1⟩
    go_wp2_with fail
    go_ret2
    exact ⟨q, fp1, ft1, B1, rfl, h1, hs1, (h1.pt k q hq1).1⟩

theorem eqT (p : Nat) (W : World) : (binOp .eql 88 (.pointer (some ⟨p, 0, none⟩)) (.pointer none)).run Tryz.prog W = .ok (.bool false) W := by kernel_rfl
set_option linter.unusedSimpArgs false in
set_option maxHeartbeats 3200000 in
theorem own_any (hT : TabAt w t bp bt bc fp ft fc B T) (hd : Dev w T.d C s) (hr : Reads s T) (hdis : ∀ k ∈ C, k ∉ B) {k : Nat} (hk : k < tlN T.n) :
    Calls Tryz.prog 30 #[ptr t, .int .u32 (k : Int)] w fun e w' => ∃ q fp' ft' fc' B', e = .returned (.tuple #[ptr q, .int .i64 0]) ∧ TabAt w' t bp bt bc fp' ft' fc' B' (setC T k (T.now k)) ∧ Step B w w' B' ∧ fc' k = some q := by
  obtain ⟨n1, n2⟩ := plan_of hT.ok.plan
  have npl := Rot.plan_facts n1 n2
  have hk32 : k < 4294967296 := by omega
  have hm := hT.mc
  have c7 : w.cell? ⟨t, 7, none⟩ = some (.map (some bc)) := (hT.cell 7).trans rfl
  clear npl n1 n2
  cases hc : T.C k with
  | some ns =>
    obtain ⟨q, hf, hp⟩ := hT.fc_some hc
    have hne := eqT q w
    rw [now_some hc, setC_self hc]
    clear hd hr hdis hk hp
    unfold ptr
    go_enter Tryz.func30, Tryz.ntmps30
    go_wp2_with (refine wpList_look_some rfl _ _ rfl Tryz.underlying22 Tryz.underlying55 (zeroT _) hm hk32 hf rfl rfl ?_)
    go_ret2
    exact ⟨q, fp, ft, fc, B, rfl, hT, Step.refl _ _, hf⟩
  | none =>
    have hf := hT.fc_none hc
    have hno := hT.ok.now k
    rw [now_none hc] at hno ⊢
    have hO := old_any hT hd hr hdis hk
    have HO := Lib.hid hO
    have hzv := (zero_of_info infoT).1
    have hip := sizeT k (T.TV k) hno.1
    have hzp : (pgCells .u16 0 (zs kT)).size = (pgCells .u16 k (T.TV k)).size := by rw [pgCells_size, pgCells_size, hno.1, zs_length]; rfl
    clear hO hd hr hdis hT
    unfold ptr at HO ⊢
    go_enter Tryz.func30, Tryz.ntmps30
    go_wp2_with (refine wpList_look_none rfl _ _ rfl Tryz.underlying22 Tryz.underlying55 (zeroT _) hm hk32 hf rfl rfl ?_)
    refine HO.out.mono ?_
    clear HO hm c7
    rintro e W1 ⟨q0, fp1, ft1, B1, rfl, h1, hs1, hq1⟩
    have hpg : W1.heap[q0]? = some (.cells (pgCells .u16 k (T.TV k)) 68 (0, 0)) := (h1.pt k q0 hq1).1
    have h2 := h1.alloc (.cells (pgCells .u16 k (T.TV k)) 68)
    have hs2 := hs1.below' ((Below.refl _ _).alloc (Nat.le_refl _) (.cells (pgCells .u16 k (T.TV k)) 68))
    have hqB : W1.heap.size ∉ B1 := fun hm => by have := h1.ltB _ hm; omega
    have hq := IsPg.new .u16 68 W1 k (T.TV k)
    have hqw : w.heap.size ≤ W1.heap.size := hs1.turn.size
    clear h1 hs1
    have tok : True := trivial
    go_upto_region 6 with (first
      | (refine wpList_load_row rfl 68 _ rfl q0 rfl _ _ _ _ hpg Tryz.underlying68 rfl hip ?_)
      | (have _t := tok; refine wpList_store_new rfl 68 _ _ rfl (pgCells .u16 k (T.TV k)) _ _ rfl rfl hip hzp (pgCells_one _ _) ?_; change wpList _ _ _ _ _ (W1.alloc (.cells (pgCells .u16 k (T.TV k)) 68)); clear _t tok))
    change Code.wp _ _ _ _ (W1.alloc (.cells (pgCells .u16 k (T.TV k)) 68))
    clear hpg
    generalize W1.heap.size = q at hqB hq hqw ⊢
    generalize W1.alloc (.cells (pgCells .u16 k (T.TV k)) 68) = W2 at h2 hs2 hq ⊢
    clear hip hzp hzv
    have hm := h2.mc
    have c7 : W2.cell? ⟨t, 7, none⟩ = some (.map (some bc)) := (h2.cell 7).trans rfl
    have HS := Lib.hid hs2; have HQ := Lib.hid hqw
    clear hs2 hqw
    go_upto_region 7 with (refine wpList_putP rfl _ _ _ rfl Tryz.underlying22 Tryz.underlying55 hm hk32 rfl rfl rfl ?_; intro W3 hm3 hg3 _; have h3 := h2.addC hno.1 hno.2 hk hq hqB ⟨q0, hq1⟩ hm3 hg3; have hs3 := (HS.out.trans (Step.of_turn (Turn.of_grown hg3 h2.inB.2.2.2))).push HQ.out; clear hm3 hg3)
    clear hm c7 HS HQ hq hqB
    have hm := h3.mc
    have c7 : W3.cell? ⟨t, 7, none⟩ = some (.map (some bc)) := (h3.cell 7).trans rfl
    have hf3 : setP fc k q k = some q := setP_self _ _ _
    go_wp2_with (refine wpList_look_some rfl _ _ rfl Tryz.underlying22 Tryz.underlying55 (zeroT _) hm hk32 hf3 rfl rfl ?_)
    go_ret2
    exact ⟨q, fp1, ft1, setP fc k q, q :: B1, rfl, h3, hs3, hf3⟩

set_option linter.unusedSimpArgs false in
set_option maxHeartbeats 3200000 in
theorem countOld_any (hT : TabAt w t bp bt bc fp ft fc B T) (hd : Dev w T.d C s) (hr : Reads s T) (hdis : ∀ k ∈ C, k ∉ B) {a : Nat} (ha : a < 4294967296) :
    Calls Tryz.prog 45 #[ptr t, .int .u32 (a : Int), .func (.func 47) #[] #[]] w fun e w' => e = .returned (.tuple #[.int .u16 (T.oldC a : Int), .int .i64 (cntE T.n a)]) ∧ ∃ fp' ft' B', TabAt w' t bp bt bc fp' ft' fc B' T ∧ Step B w w' B' := by
  have hE := exists_yesT hT
  have hSz := Size_anyT hT hd hr.n
  have c3 : w.cell? ⟨t, 3, none⟩ = some (.int .u32 (fsN T.n : Int)) := (hT.cell 3).trans rfl
  obtain ⟨n1, n2⟩ := plan_of hT.ok.plan
  have npl := Rot.plan_facts n1 n2
  have HV := Lib.hid (show T.oldC a = if fsN T.n ≤ a ∧ a < T.n then (T.TV (a / 64)).getD (a % 64) 0 else 0 from rfl)
  have HE := Lib.hid (show cntE T.n a = if T.n ≤ a then 2 else 0 from rfl)
  by_cases hn : T.n ≤ a
  · have i1 : (T.n : Int) ≤ (a : Int) := by omega
    rw [HV.out, if_neg (by omega), HE.out, if_pos hn]
    clear HV HE hd hr hdis c3 npl n1 n2
    unfold ptr at hE hSz ⊢
    go_enter Tryz.func45, Tryz.ntmps45
    go_wp2_with (first
      | ((with_reducible refine hE.mono ?_); rintro e W1 ⟨rfl, rfl⟩)
      | ((with_reducible refine hSz.mono ?_); rintro e W1 ⟨rfl, rfl⟩))
    go_ret2
    exact ⟨rfl, fp, ft, B, hT, Step.refl _ _⟩
  · have i1 : ¬ (T.n : Int) ≤ (a : Int) := by omega
    by_cases hf : a < fsN T.n
    · have i2 : (a : Int) < (fsN T.n : Int) := by omega
      rw [HV.out, if_neg (by omega), HE.out, if_neg hn]
      clear HV HE hd hr hdis npl n1 n2
      unfold ptr at hE hSz ⊢
      go_enter Tryz.func45, Tryz.ntmps45
      go_wp2_with (first
        | ((with_reducible refine hE.mono ?_); rintro e W1 ⟨rfl, rfl⟩)
        | ((with_reducible refine hSz.mono ?_); rintro e W1 ⟨rfl, rfl⟩))
      go_ret2
      exact ⟨rfl, fp, ft, B, hT, Step.refl _ _⟩
    · have i2 : ¬ (a : Int) < (fsN T.n : Int) := by omega
      have hk : a / 64 < tlN T.n := by omega
      have hlen : (T.TV (a / 64)).length = 64 := hT.ok.tl (a / 64)
      have hj : a % 64 < (T.TV (a / 64)).length := by rw [hlen]; omega
      have hval : (T.TV (a / 64)).getD (a % 64) 0 = (T.TV (a / 64))[a % 64] := by rw [List.getD_eq_getElem?_getD, List.getElem?_eq_getElem hj]; rfl
      rw [HV.out, if_pos ⟨by omega, by omega⟩, HE.out, if_neg hn, hval]
      have hO := old_any hT hd hr hdis hk
      have HO := Lib.hid hO
      have hcell : ∀ W q, IsPg .u16 68 W q (a / 64) (T.TV (a / 64)) → W.cell? ⟨q, 1 + a % 64, none⟩ = some (.int .u16 ((T.TV (a / 64))[a % 64] : Int)) := fun W q h => h.num (a % 64) hj
      have HC := Lib.hid hcell
      generalize (T.TV (a / 64))[a % 64] = v at HC ⊢
      obtain ⟨m, hm⟩ : ∃ m, m = a / 64 := ⟨_, rfl⟩
      obtain ⟨j, hjj⟩ : ∃ j, j = a % 64 := ⟨_, rfl⟩
      rw [← hm] at HO HC
      rw [← hjj] at HC
      have d1 : (a : Int) / 64 = (m : Int) := by omega
      have d2 : (a : Int) % 64 = (j : Int) := by omega
      have j0 : (0 : Int) ≤ (j : Int) := by omega
      have j1 : (j : Int) < 64 := by omega
      have HT := Lib.hid hT
      clear hO hcell HV HE hd hr hdis npl n1 n2 hlen hj hval hm hjj hk hT hn hf
      unfold ptr at hE hSz HO ⊢
      go_enter Tryz.func45, Tryz.ntmps45
      go_wp2_with (first
        | ((with_reducible refine hE.mono ?_); rintro e W1 ⟨rfl, rfl⟩)
        | ((with_reducible refine hSz.mono ?_); rintro e W1 ⟨rfl, rfl⟩))
      refine HO.out.mono ?_
      clear HO hE hSz c3 HT
      rintro e W1 ⟨q, fp1, ft1, B1, rfl, h1, hs1, hq1⟩
      have c := HC.out W1 q (h1.pt _ q hq1).1
      clear HC
      go_wp2_with fail
      go_ret2
      exact ⟨rfl, fp1, ft1, B1, h1, hs1⟩
theorem Old_any (hT : TabAt w t bp bt bc fp ft fc B T) (hd : Dev w T.d C s) (hr : Reads s T) (hdis : ∀ k ∈ C, k ∉ B) {a : Nat} (ha : a < 4294967296) :
    Calls Tryz.prog 16 #[ptr t, .int .u32 (a : Int)] w fun e w' => e = .returned (.tuple #[.int .u16 (T.oldC a : Int), .int .i64 (cntE T.n a)]) ∧ ∃ fp' ft' B', TabAt w' t bp bt bc fp' ft' fc B' T ∧ Step B w w' B' := by
  have hO := countOld_any hT hd hr hdis ha
  have HO := Lib.hid hO
  clear hO hT hd hr hdis
  unfold ptr at HO ⊢
  go_enter Tryz.func16, Tryz.ntmps16
  go_wp2_with fail
  refine HO.out.mono ?_
  rintro e W1 ⟨rfl, h1⟩
  go_wp2_with fail
  go_ret2
  exact ⟨rfl, h1⟩

set_option linter.unusedSimpArgs false in
set_option maxHeartbeats 3200000 in
theorem countGet_any (hT : TabAt w t bp bt bc fp ft fc B T) (hd : Dev w T.d C s) (hr : Reads s T) (hdis : ∀ k ∈ C, k ∉ B) {a : Nat} (ha : a < 4294967296) :
    Calls Tryz.prog 45 #[ptr t, .int .u32 (a : Int), .func (.func 46) #[] #[]] w fun e w' => e = .returned (.tuple #[.int .u16 (T.nowC a : Int), .int .i64 (cntE T.n a)]) ∧ ∃ fp' ft' B', TabAt w' t bp bt bc fp' ft' fc B' T ∧ Step B w w' B' := by
  have hE := exists_yesT hT
  have hSz := Size_anyT hT hd hr.n
  have c3 : w.cell? ⟨t, 3, none⟩ = some (.int .u32 (fsN T.n : Int)) := (hT.cell 3).trans rfl
  obtain ⟨n1, n2⟩ := plan_of hT.ok.plan
  have npl := Rot.plan_facts n1 n2
  have HV := Lib.hid (show T.nowC a = if fsN T.n ≤ a ∧ a < T.n then (T.now (a / 64)).getD (a % 64) 0 else 0 from rfl)
  have HE := Lib.hid (show cntE T.n a = if T.n ≤ a then 2 else 0 from rfl)
  by_cases hn : T.n ≤ a
  · have i1 : (T.n : Int) ≤ (a : Int) := by omega
    rw [HV.out, if_neg (by omega), HE.out, if_pos hn]
    clear HV HE hd hr hdis c3 npl n1 n2
    unfold ptr at hE hSz ⊢
    go_enter Tryz.func45, Tryz.ntmps45
    go_wp2_with (first
      | ((with_reducible refine hE.mono ?_); rintro e W1 ⟨rfl, rfl⟩)
      | ((with_reducible refine hSz.mono ?_); rintro e W1 ⟨rfl, rfl⟩))
    go_ret2
    exact ⟨rfl, fp, ft, B, hT, Step.refl _ _⟩
  · have i1 : ¬ (T.n : Int) ≤ (a : Int) := by omega
    by_cases hf : a < fsN T.n
    · have i2 : (a : Int) < (fsN T.n : Int) := by omega
      rw [HV.out, if_neg (by omega), HE.out, if_neg hn]
      clear HV HE hd hr hdis npl n1 n2
      unfold ptr at hE hSz ⊢
      go_enter Tryz.func45, Tryz.ntmps45
      go_wp2_with (first
        | ((with_reducible refine hE.mono ?_); rintro e W1 ⟨rfl, rfl⟩)
        | ((with_reducible refine hSz.mono ?_); rintro e W1 ⟨rfl, rfl⟩))
      go_ret2
      exact ⟨rfl, fp, ft, B, hT, Step.refl _ _⟩
    · have i2 : ¬ (a : Int) < (fsN T.n : Int) := by omega
      have hk : a / 64 < tlN T.n := by omega
      have hlen : (T.now (a / 64)).length = 64 := (hT.ok.now (a / 64)).1
      have hj : a % 64 < (T.now (a / 64)).length := by rw [hlen]; omega
      have hval : (T.now (a / 64)).getD (a % 64) 0 = (T.now (a / 64))[a % 64] := by rw [List.getD_eq_getElem?_getD, List.getElem?_eq_getElem hj]; rfl
      rw [HV.out, if_pos ⟨by omega, by omega⟩, HE.out, if_neg hn, hval]
      have hO := current_any hT hd hr hdis hk
      have HO := Lib.hid hO
      have hcell : ∀ W q, IsPg .u16 68 W q (a / 64) (T.now (a / 64)) → W.cell? ⟨q, 1 + a % 64, none⟩ = some (.int .u16 ((T.now (a / 64))[a % 64] : Int)) := fun W q h => h.num (a % 64) hj
      have HC := Lib.hid hcell
      generalize (T.now (a / 64))[a % 64] = v at HC ⊢
      obtain ⟨m, hm⟩ : ∃ m, m = a / 64 := ⟨_, rfl⟩
      obtain ⟨j, hjj⟩ : ∃ j, j = a % 64 := ⟨_, rfl⟩
      rw [← hm] at HO HC
      rw [← hjj] at HC
      have d1 : (a : Int) / 64 = (m : Int) := by omega
      have d2 : (a : Int) % 64 = (j : Int) := by omega
      have j0 : (0 : Int) ≤ (j : Int) := by omega
      have j1 : (j : Int) < 64 := by omega
      have HT := Lib.hid hT
      clear hO hcell HV HE hd hr hdis npl n1 n2 hlen hj hval hm hjj hk hT hn hf
      unfold ptr at hE hSz HO ⊢
      go_enter Tryz.func45, Tryz.ntmps45
      go_wp2_with (first
        | ((with_reducible refine hE.mono ?_); rintro e W1 ⟨rfl, rfl⟩)
        | ((with_reducible refine hSz.mono ?_); rintro e W1 ⟨rfl, rfl⟩))
      refine HO.out.mono ?_
      clear HO hE hSz c3 HT
      rintro e W1 ⟨q, fp1, ft1, B1, rfl, h1, hs1, hq1⟩
      have c := HC.out W1 q hq1
      clear HC
      go_wp2_with fail
      go_ret2
      exact ⟨rfl, fp1, ft1, B1, h1, hs1⟩
theorem Get_any (hT : TabAt w t bp bt bc fp ft fc B T) (hd : Dev w T.d C s) (hr : Reads s T) (hdis : ∀ k ∈ C, k ∉ B) {a : Nat} (ha : a < 4294967296) :
    Calls Tryz.prog 15 #[ptr t, .int .u32 (a : Int)] w fun e w' => e = .returned (.tuple #[.int .u16 (T.nowC a : Int), .int .i64 (cntE T.n a)]) ∧ ∃ fp' ft' B', TabAt w' t bp bt bc fp' ft' fc B' T ∧ Step B w w' B' := by
  have hO := countGet_any hT hd hr hdis ha
  have HO := Lib.hid hO
  clear hO hT hd hr hdis
  unfold ptr at HO ⊢
  go_enter Tryz.func15, Tryz.ntmps15
  go_wp2_with fail
  refine HO.out.mono ?_
  rintro e W1 ⟨rfl, h1⟩
  go_wp2_with fail
  go_ret2
  exact ⟨rfl, h1⟩

/-- what Set does -/
def setS (T : TD) (a v : Nat) : TD := if fsN T.n ≤ a ∧ a < T.n then setC T (a / 64) ((T.now (a / 64)).set (a % 64) v) else T
def setE (n a : Nat) : Int := if fsN n ≤ a ∧ a < n then 0 else 2
theorem setC_setC (T : TD) (p : Nat) (ns ns' : List Nat) : setC (setC T p ns) p ns' = setC T p ns' := by
  unfold setC
  congr 1
  funext x
  simp only
  split <;> rfl
set_option linter.unusedSimpArgs false in
set_option maxHeartbeats 3200000 in
theorem Set_any (hT : TabAt w t bp bt bc fp ft fc B T) (hd : Dev w T.d C s) (hr : Reads s T) (hdis : ∀ k ∈ C, k ∉ B) {a v : Nat} (ha : a < 4294967296) (hv : v < 65536) :
    Calls Tryz.prog 10 #[ptr t, .int .u32 (a : Int), .int .u16 (v : Int)] w fun e w' => e = .returned (.int .i64 (setE T.n a)) ∧ ∃ fp' ft' fc' B', TabAt w' t bp bt bc fp' ft' fc' B' (setS T a v) ∧ Step B w w' B' := by
  have hE := exists_yesT hT
  have hSz := Size_anyT hT hd hr.n
  have c3 : w.cell? ⟨t, 3, none⟩ = some (.int .u32 (fsN T.n : Int)) := (hT.cell 3).trans rfl
  obtain ⟨n1, n2⟩ := plan_of hT.ok.plan
  have npl := Rot.plan_facts n1 n2
  by_cases hin : fsN T.n ≤ a ∧ a < T.n
  · have hk : a / 64 < tlN T.n := by omega
    rw [show setE T.n a = 0 from if_pos hin, show setS T a v = setC T (a / 64) ((T.now (a / 64)).set (a % 64) v) from if_pos hin]
    have i1 : ¬ (T.n : Int) ≤ (a : Int) := by omega
    have i2 : ¬ (a : Int) < (fsN T.n : Int) := by omega
    have hlen := (hT.ok.now (a / 64)).1
    have hO := own_any hT hd hr hdis hk
    have HO := Lib.hid hO
    obtain ⟨ns, hns⟩ : ∃ ns, ns = T.now (a / 64) := ⟨_, rfl⟩
    rw [← hns] at HO hlen ⊢
    obtain ⟨m, hm⟩ : ∃ m, m = a / 64 := ⟨_, rfl⟩
    obtain ⟨j, hjj⟩ : ∃ j, j = a % 64 := ⟨_, rfl⟩
    rw [← hm] at HO ⊢
    rw [← hjj]
    have d1 : (a : Int) / 64 = (m : Int) := by omega
    have d2 : (a : Int) % 64 = (j : Int) := by omega
    have j0 : (0 : Int) ≤ (j : Int) := by omega
    have j1 : (j : Int) < 64 := by omega
    have jl : j < ns.length := by omega
    have HJL := Lib.hid jl; have HLEN := Lib.hid hlen
    clear hO hd hr hdis npl n1 n2 hm hjj hk hT hin hns hlen jl
    unfold ptr at hE hSz HO ⊢
    go_enter Tryz.func10, Tryz.ntmps10
    go_wp2_with (first
      | ((with_reducible refine hE.mono ?_); rintro e W1 ⟨rfl, rfl⟩)
      | ((with_reducible refine hSz.mono ?_); rintro e W1 ⟨rfl, rfl⟩))
    refine HO.out.mono ?_
    clear HO hE hSz c3
    rintro e W1 ⟨q, fp1, ft1, fc1, B1, rfl, h1, hs1, hq1⟩
    obtain ⟨⟨ns1, hn1, hpg⟩, _⟩ := h1.pc m q hq1
    obtain rfl : ns = ns1 := by
      have : (setC T m ns).C m = some ns := if_pos rfl
      rw [this] at hn1
      exact Option.some.inj hn1
    have c := hpg.num j HJL.out
    have f := hpg.frozen (1 + j)
    obtain ⟨h2, hs2⟩ := h1.setNum (j := j) (n := v) hq1 hn1 hv
    rw [setC_setC] at h2
    generalize ns[j]'HJL.out = v0 at c
    clear h1 hpg hn1
    go_wp2_with fail
    go_ret
    exact ⟨rfl, fp1, ft1, fc1, B1, h2, hs1.trans hs2⟩
  · rw [show setE T.n a = 2 from if_neg hin, show setS T a v = T from if_neg hin]
    clear hd hr hdis npl n1 n2
    unfold ptr at hE hSz ⊢
    by_cases hf : a < fsN T.n
    · have i2 : (a : Int) < (fsN T.n : Int) := by omega
      clear hin
      go_enter Tryz.func10, Tryz.ntmps10
      go_wp2_with (first
        | ((with_reducible refine hE.mono ?_); rintro e W1 ⟨rfl, rfl⟩)
        | ((with_reducible refine hSz.mono ?_); rintro e W1 ⟨rfl, rfl⟩))
      go_ret
      exact ⟨rfl, fp, ft, fc, B, hT, Step.refl _ _⟩
    · have i2 : ¬ (a : Int) < (fsN T.n : Int) := by omega
      have i1 : (T.n : Int) ≤ (a : Int) := by omega
      clear hin hf
      go_enter Tryz.func10, Tryz.ntmps10
      go_wp2_with (first
        | ((with_reducible refine hE.mono ?_); rintro e W1 ⟨rfl, rfl⟩)
        | ((with_reducible refine hSz.mono ?_); rintro e W1 ⟨rfl, rfl⟩))
      go_ret
      exact ⟨rfl, fp, ft, fc, B, hT, Step.refl _ _⟩
end
end Go.Proofs.YtdadcengelfmhaaGreat.Cnt
