/-
  The law CountApart, walked.
-/
import Derived.Test.YtojpcgjmainbfaaGreatCntH
import Derived.Test.YtojpcgjmainbfaaGreatSrtD
import Derived.Deep.CutRange
namespace Go.Proofs.YtojpcgjmainbfaaGreat.Cnt
open Go.RowKit Go.Maps Go.MapKept RowLaw Crc
open Go.Proofs.YtojpcgjmainbfaaGreat.Dev (Dev DS ptr newS)
open Go.Proofs.YtojpcgjmainbfaaGreat.Slt (Rt cells rootO cells_one)
open Go.Proofs.YtojpcgjmainbfaaGreat.Rot (planOk tlN pkN fsN plan_facts)
open Go.Proofs.YtojpcgjmainbfaaGreat.Tal (kT kP zs)
set_option maxRecDepth 100000

/-- a formatted device and its table -/
theorem apart_facts {n : Nat} (h1 : 64 ≤ n) (h2 : n ≤ 5000) : ∃ s2, Rot.formatF (newS n) = (s2, (Rot.fresh n, 0)) ∧ s2.n = n ∧ planOk s2.n = true ∧ ∀ p, Good s2 (tdOf p s2 0) ∧ (tdOf p s2 0).n = n ∧ (tdOf p s2 0).d = p ∧ NowIs (tdOf p s2 0) (List.replicate n 0) := by
  obtain ⟨s2, hf, _, hn, hS, hPV, hTV⟩ := format_sound (s := newS n) (Rot.Calm.new n) h1 (by show n ≤ 1048576; omega)
  have hn' : s2.n = n := hn
  have hok := fun p => tdOf_ok (d := p) (ch := 0) hS.plan (by omega)
  have hz : ∀ p q, q < tlN n → (tdOf p s2 0).now q = zs kT := fun p q hq => by rw [now_none rfl]; exact hTV p q hq
  have hpf := plan_facts h1 (by omega)
  refine ⟨s2, hf, hn', hS.plan, fun p => ⟨⟨⟨rfl, rfl, rfl, rfl⟩, hok p, hS.reads p, fun q i hq hi hh => ?_, hPV p 0 ?_, fun q hq => hTV p q (by rwa [show (tdOf p s2 0).n = n from hn'] at hq)⟩, hn', rfl, ⟨by rw [List.length_replicate]; exact hn'.symm, fun a ha => ?_⟩⟩⟩
  · rw [hz p q (by rwa [show (tdOf p s2 0).n = n from hn'] at hq), zs_getD]
  · show 0 < pkN n
    omega
  · have e : (List.replicate n 0).getD a 0 = 0 := by
      rw [List.getD_eq_getElem?_getD, List.getElem?_replicate]
      split <;> rfl
    rw [e]
    unfold TD.nowC cntV
    split
    · rename_i hr
      rw [show (tdOf p s2 0).n = n from hn'] at hr
      rw [hz p _ (by omega), zs_getD]
    · rfl
section
variable {w W : World} {l : List Thing} {K : List (Nat × Obj)} {i t : Nat} {T : TD}
theorem Hall.first (h : Hall w l K W) (hi : l[i]? = some (.tab t T)) : Calls Tryz.prog 14 #[ptr t] W fun e W' => e = .returned (.int .u32 (fsN T.n : Int)) ∧ W' = W := by
  obtain ⟨_, f, h2, _⟩ := h
  obtain ⟨bp, bt, bc, fp, ft, fc, hT⟩ := (h2 i _ hi).1
  exact First_anyT hT
end
theorem seal_lens {T : TD} (h : TOk T) (ks : List Nat) : ∀ x ∈ sealL T ks, x.2.length = 256 := fun x hx => by
  unfold sealL at hx
  rcases List.mem_append.1 hx with hx | hx
  · obtain ⟨p, _, rfl⟩ := List.mem_map.1 hx
    exact tlPut_len h p
  · split at hx
    · cases hx
    · rw [List.mem_singleton] at hx
      rw [hx]
      exact pkPut_len h _
theorem pend_at : ∀ (l : List (Nat × List UInt8)) (j : Nat) (hj : j < l.length), (∀ x ∈ l, x.2.length = 256) → (Dev.pendCells l)[j * 257]? = some (.int .u32 (l[j].1 : Int))
  | x :: r, 0, _, _ => rfl
  | x :: r, j + 1, hj, h => by
    have e : Dev.pendCells (x :: r) = Dev.putCells x ++ Dev.pendCells r := rfl
    have hl : (Dev.putCells x).length = 257 := Dev.putCells_length (h x List.mem_cons_self)
    rw [e, List.getElem?_append_right (by omega), show (j + 1) * 257 - (Dev.putCells x).length = j * 257 by omega]
    exact pend_at r j (by simpa using hj) (fun y hy => h y (List.mem_cons_of_mem _ hy))
set_option linter.unusedSimpArgs false in
set_option maxHeartbeats 12800000 in
theorem CountApart_any {n m cap : Nat} {xs : List St} {pa : Option Addr} (hm : m = xs.length) {w : World} (hx : Sts w pa xs) (hn32 : n < 4294967296) :
    Calls Tryz.prog 4 #[.int .u32 (n : Int), .slice pa m cap] w fun e w' => e = .returned (.bool true) ∧ Below w.heap.size w w' := by
  have HH := Lib.hid (head_any w)
  by_cases hin : 64 ≤ n ∧ n ≤ 5000
  · obtain ⟨h64, h5k⟩ := hin
    obtain ⟨s2, hf, hn2, hpl2, hT⟩ := apart_facts h64 h5k
    have HF := Lib.hid hf; have HT := Lib.hid hT; have HN := Lib.hid hn2; have HPL := Lib.hid hpl2
    have HX := Lib.hid hx; have HM := Lib.hid hm
    have hz1 : ¬ (n : Int) < 64 := by omega
    have hz2 : ¬ (5000 : Int) < (n : Int) := by omega
    have HP0 : Hid (planOk (newS n).n = true) := Lib.hid (by show decide _ = true; exact decide_eq_true (by show 64 ≤ n ∧ n ≤ 1048576; omega))
    clear hf hT hn2 hpl2 hx hm HH
    go_enter Tryz.func4, Tryz.ntmps4
    go_wp2_with fail
    refine (Dev.New_any w n h64 (by omega)).mono ?_
    rintro e W1 ⟨p, B, rfl, hd, hB, hb⟩
    have hmm : Hall w [.dev p (newS n)] [] W1 := (Hall.start w).push hb (x := .dev p (newS n)) hd hB
    clear hd hB hb
    have hc := Hall.format hmm (i := 0) rfl HP0.out (by show 0 < 4293000000; omega) HF.out
    unfold ptr at hc ⊢
    have HC := Lib.hid hc
    clear hc hmm
    go_wp2_with fail
    refine HC.out.mono ?_
    clear HC HP0
    rintro e W2 ⟨rfl, hmm⟩
    replace hmm : Hall w [.dev p s2] [] W2 := hmm
    have hm3 := hmm.alloc (rootO (Rot.fresh n))
    have tok : True := trivial
    clear hmm
    go_upto_region 5 with (have _t := tok; refine wpList_store_new rfl 31 _ _ rfl (cells (Rot.fresh n)) _ _ rfl rfl (Slt.sizeR _) rfl (cells_one _) ?_; change wpList _ _ _ _ _ (W2.alloc (rootO (Rot.fresh n))); clear _t tok)
    change Code.wp _ _ _ _ (W2.alloc (rootO (Rot.fresh n)))
    generalize W2.heap.size = q3 at hm3 ⊢
    generalize W2.alloc (rootO (Rot.fresh n)) = W3 at hm3 ⊢
    have o3 : W3.heap[q3]? = some (.cells (cells (Rot.fresh n)) 31 (0, 0)) := hm3.at_ (q := q3) (o := rootO (Rot.fresh n)) List.mem_cons_self
    obtain ⟨hG, hTn, hTd, hA⟩ := HT.out p
    clear HT HF
    have hc : Calls Tryz.prog 12 #[.pointer (some ⟨p, 0, none⟩), .agg (cells (Rot.fresh n))] W3 fun e W' => ∃ t, e = .returned (.tuple #[.pointer (some ⟨t, 0, none⟩), .int .i64 0]) ∧ Hall w [.dev p s2, .tab t (tdOf p s2 0)] [(q3, rootO (Rot.fresh n))] W' :=
      Hall.open_ hm3 (i := 0) rfl HPL.out (r := Rot.fresh n) HN.out.symm (by show 0 < 4294967296; omega)
    have HC := Lib.hid hc
    clear hc hm3
    generalize tdOf p s2 0 = T0 at hG hTn hTd hA HC
    have HG := Lib.hid hG; have HA := Lib.hid hA; have HTN := Lib.hid hTn; have HTD := Lib.hid hTd
    clear hG hA hTn hTd
    go_wp2_with (refine wpList_load_row rfl 31 _ rfl q3 rfl _ _ _ _ o3 Tryz.underlying31 rfl (Slt.sizeR _) ?_)
    refine HC.out.mono ?_
    clear HC o3
    rintro e W4 ⟨t, rfl, hh⟩
    have heq := eqTab t
    obtain ⟨W5, g, c, hmk, hgW, hrow, hb⟩ := make_16 W4 n (by omega)
    have HM5 : Hid (Hall w [.dev p s2, .tab t T0] [(g, nowO (List.replicate n 0)), (q3, rootO (Rot.fresh n))] W5) := Lib.hid (hh.more hb (by omega) hrow)
    have HQ : Hid (w.heap.size ≤ g ∧ q3 ≠ g) := Lib.hid ⟨by rw [hgW]; exact hh.size, fun e => by have := hh.lt_ (q := q3) (o := rootO (Rot.fresh n)) (by simp); omega⟩
    clear hh hgW hrow hb
    go_wp2_with fail
    refine apart_sets HM.out HX.out ⟨h64, h5k⟩ HQ.out.1 (fun x hx => by simp only [List.mem_singleton] at hx; subst hx; exact HQ.out.2) HM5.out HG.out HA.out HTN.out HTD.out ?_
    intro _ _ _ _ _ _ _ _ _ _ _ _ _ _ _ _ _ _ _ _ _ _ _ _ _ _ _ _ _ _ _ _ _ _ _ _ _ _ W6 T1 A hh hG hA hTn hTd
    clear HG HA HTN HTD HM5 T0
    have HG := Lib.hid hG; have HA := Lib.hid hA; have HTN := Lib.hid hTn; have HTD := Lib.hid hTd
    clear hG hA hTn hTd hmk heq
    obtain ⟨q, hq⟩ : ∃ q, q = n / 64 := ⟨_, rfl⟩
    obtain ⟨mT, hmT⟩ : ∃ m, m = n / 64 + 1 := ⟨_, rfl⟩
    have HMT := Lib.hid hmT
    have hq1 : (n : Int) / 64 = (q : Int) := by omega
    have hq2 : (n : Int).tdiv 64 = (q : Int) := by rw [Int.tdiv_eq_ediv_of_nonneg (by omega)]; exact hq1
    have hq3 : (q : Int) + 1 = (mT : Int) := by omega
    have hm100 : mT ≤ 100 := by omega
    have zq : IntKind.u32.wrap (mT : Int) = (mT : Int) := IntWalk.u32_in _ (by omega)
    obtain ⟨W7, gT, cT, hmk, hgW, hrow, hb⟩ := make_bl W6 mT (by omega)
    have HM7 : Hid (Hall w [.dev p s2, .tab t T1] [(gT, tcO (fun _ => false) mT), (g, nowO A), (q3, rootO (Rot.fresh n))] W7) := Lib.hid (hh.more hb (by omega) hrow)
    have HQ2 : Hid (w.heap.size ≤ gT ∧ g ≠ gT ∧ q3 ≠ gT) := Lib.hid ⟨by rw [hgW]; exact hh.size, fun e => by have := hh.lt_ (q := g) (o := nowO A) (by simp); omega, fun e => by have := hh.lt_ (q := q3) (o := rootO (Rot.fresh n)) (by simp); omega⟩
    have HFI := Lib.hid (HM7.out.first (i := 1) rfl)
    obtain ⟨fs, hfs⟩ : ∃ f, f = fsN n := ⟨_, rfl⟩
    rw [HTN.out, ← hfs] at HFI
    unfold ptr at HFI
    have HFS := Lib.hid hfs
    have hpf := plan_facts h64 (show n ≤ 1048576 by omega)
    have hfn : fs < n := by omega
    clear hh hgW hrow hb hq hmT hfs hpf
    go_wp2_with fail
    refine HFI.out.mono ?_
    clear HFI
    rintro e W8 ⟨rfl, hW⟩
    subst hW
    clear hmk hq1 hq2 hq3 zq
    go_wp2_with fail
    refine apart_reads ⟨h64, h5k⟩ HMT.out HQ2.out.1 HQ2.out.2.1 (fun x hx => by simp only [List.mem_singleton] at hx; subst hx; exact HQ2.out.2.2) HG.out HA.out HTN.out HTD.out HM7.out ?_
    intro _ _ _ _ _ _ _ _ _ _ _ _ _ _ _ _ _ _ _ _ _ _ _ _ _ _ _ _ _ _ _ _ _ _ _ _ _ _ _ _ _ _ _ _ W9 hh
    clear HM7 HQ HQ2
    have HS : Hid (Calls Tryz.prog 15 #[.pointer (some ⟨t, 0, none⟩)] W9 fun e W' => (∃ (v : Value) (ks : List Nat), e = .returned (.tuple #[v, .int .u32 (sealCh T1 ks : Int), .int .i64 0]) ∧ ks.Pairwise (· < ·) ∧ (∀ a, a ∈ ks ↔ (T1.C a).isSome = true) ∧
        W'.ownsRow W9.heap.size 55 257 v (sealL T1 ks).length (Dev.pendCells (sealL T1 ks))) ∧ Hall w [.dev p s2, .tab t T1] [(gT, tcO (tch A n) mT), (g, nowO A), (q3, rootO (Rot.fresh n))] W' ∧ Below W9.heap.size W9 W') :=
      Lib.hid (Hall.sealed sortOk hh (i := 1) (j := 0) (T := T1) (s := s2) rfl (by rw [HTD.out]; rfl) HG.out.reads (HG.out.keys (by rw [HTN.out]; exact h5k)) (by rw [HTN.out]; omega))
    have hcn : ∀ ks : List Nat, ks.Pairwise (· < ·) → (∀ a, a ∈ ks ↔ (T1.C a).isSome = true) → (chs T1 ks).length = cnt A n mT := fun ks h1 h2 => by
      rw [chs_touched HG.out HA.out h1 h2, HTN.out, HMT.out]
      rfl
    have HCN := Lib.hid hcn
    clear hh hcn
    generalize cnt A n mT = pg at HCN ⊢
    go_wp2_with fail
    refine HS.out.mono ?_
    clear HS
    rintro e W10 ⟨⟨v, ks, rfl, hks, hmem, hrow⟩, hh, _⟩
    have HSL := Good.seal_len (T := T1) ks
    obtain ⟨pv, cv, hv, hcell⟩ := own_slice hrow
    subst hv
    have hcl := HCN.out ks hks hmem
    rw [hcl] at HSL
    obtain ⟨len, hlen⟩ : ∃ len, len = (sealL T1 ks).length := ⟨_, rfl⟩
    obtain ⟨sc, hsc⟩ : ∃ sc, sc = sealCh T1 ks := ⟨_, rfl⟩
    have hse := HG.out.sealCh ks
    rw [← hsc] at hse
    have hsc2 : sc = if pg = 0 then 0 else 1 := by
      rw [hse, ← hcl]
      by_cases h : chs T1 ks = []
      · rw [if_pos h, h]; rfl
      · rw [if_neg h, if_neg (fun e => h (List.eq_nil_of_length_eq_zero e))]
    rw [← hlen] at HSL hcell ⊢
    rw [← hsc]
    have hpg : pg ≤ 100 := by
      rw [← hcl, chs_touched HG.out HA.out hks hmem, HTN.out]
      exact Nat.le_trans (List.length_filter_le _ _) (by rw [List.length_range]; omega)
    obtain ⟨atF, hatF⟩ : ∃ f : Nat → Nat, ∀ j, f j = ((sealL T1 ks)[j]?.map (·.1)).getD 0 := ⟨_, fun _ => rfl⟩
    have HAT : Hid (∀ j, j < len → 2 ≤ atF j ∧ atF j < fs) := Lib.hid (fun j hj => by
      rw [hatF]
      have h := (HG.out.seal_at (by rw [HTN.out]; exact h5k) hks hmem).1 j (by omega)
      rw [List.getElem?_eq_getElem (by omega)]
      rw [HTN.out, ← HFS.out] at h
      exact h)
    have HUP : Hid (∀ j, j + 1 < len → j + 1 < pg → atF j < atF (j + 1)) := Lib.hid (fun j hj hp => by
      rw [hatF, hatF]
      have h := (HG.out.seal_at (by rw [HTN.out]; exact h5k) hks hmem).2 j (by omega) (by rw [hcl]; exact hp)
      rw [List.getElem?_eq_getElem (by omega), List.getElem?_eq_getElem (by omega)]
      exact h)
    have HCE : Hid (∀ W, Below W10.heap.size W10 W → ∀ j, j < len → ∃ g, pv = some ⟨g, 0, none⟩ ∧ W.cell? ⟨g, j * 257, none⟩ = some (.int .u32 (atF j : Int))) := Lib.hid (fun W hW j hj => by
      rw [hatF]
      obtain ⟨pv', cv', he, hc⟩ := own_slice (own_kept hrow hW)
      cases he
      have hjl : j < (sealL T1 ks).length := by omega
      rw [List.getElem?_eq_getElem hjl]
      exact hc (j * 257) _ (pend_at _ j hjl (seal_lens HG.out.ok ks)) (by omega))
    have HSC := Lib.hid hsc2; have HSLL := Lib.hid HSL; have HMB := Lib.hid hh
    clear hse hsc2 HSL hh hcell hrow hcl hlen hsc hks hmem HCN HA
    clear hatF
    go_upto_region 26 with fail
    go_cut [165] from 148 to 165 (fun v165 wx => v165 = .bool false ∧ wx = W10)
    case first =>
      by_cases h0 : pg = 0
      · subst h0
        have e1 : len = 0 := HSLL.out
        have e2 : sc = 0 := HSC.out
        subst e1 e2
        go_wp2_with fail
        go_meet
        exact ⟨rfl, rfl⟩
      · by_cases h1 : pg = 1
        · subst h1
          have e1 : len = 2 := HSLL.out
          have e2 : sc = 1 := HSC.out
          subst e1 e2
          go_wp2_with fail
          go_meet
          exact ⟨rfl, rfl⟩
        · have e1 : len = pg + 1 := by rw [HSLL.out, Nat.min_eq_right (by omega)]
          have e2 : sc = 1 := by rw [HSC.out, if_neg h0]
          subst e1 e2
          have hmin : ¬ (pg : Int) ≤ 1 := by omega
          have h0z : ¬ (pg : Int) = 0 := by omega
          have h0b : ((pg : Int) == 0) = false := by rw [beq_eq_false_iff_ne]; exact h0z
          go_wp2_with fail
          go_meet
          exact ⟨by simp [h0b], rfl⟩
    case rest =>
      obtain ⟨rfl, hW⟩ := hcut
      subst hW
      have hlen100 : len ≤ 1000 := by
        have := HSLL.out
        have := Nat.min_le_right pg 1
        omega
      clear HSC HSLL
      go_wp2_with fail
      refine apart_puts hlen100 HAT.out HUP.out HMB.out HCE.out ?_
      intro _ _ _ _ _ _ _ _ _ _ _ _ _ _ _ _ _ _ _ _ _ _ _ _ _ _ _ _ _ _ _ _ _ _ _ _ _ _ _ _ _ _ _ _ _ _ W11 hh
      clear HAT HUP HCE HMB
      go_wp2_with fail
      refine apart_back ⟨h64, h5k⟩ HFS.out (by omega) hh HG.out HTN.out HTD.out ?_
      intro _ _ _ _ _ _ _ _ _ W12 T2 hh hG hTn hTd hz
      clear HG HTN HTD
      obtain ⟨K2, hK2⟩ : ∃ K2, K2 = [(gT, tcO (tch A n) mT), (g, nowO A), (q3, rootO (Rot.fresh n))] := ⟨_, rfl⟩
      rw [← hK2] at hh
      clear hK2
      have HNN : Hid (∀ ks : List Nat, ks.Pairwise (· < ·) → (∀ a, a ∈ ks ↔ (T2.C a).isSome = true) → chs T2 ks = []) := Lib.hid (fun ks h1 h2 => chs_none hG h1 h2 (by rw [hTn]; exact hz))
      have HS : Hid (Calls Tryz.prog 15 #[.pointer (some ⟨t, 0, none⟩)] W12 fun e W' => ∃ pv cv, e = .returned (.tuple #[.slice pv 0 cv, .int .u32 0, .int .i64 0]) ∧ Hall w [.dev p s2, .tab t T2] K2 W') := Lib.hid (by
        refine (Hall.sealed sortOk hh (i := 1) (j := 0) (T := T2) (s := s2) rfl (by rw [hTd]; rfl) hG.reads (hG.keys (by rw [hTn]; exact h5k)) (by rw [hTn]; omega)).mono ?_
        rintro e W' ⟨⟨v, ks, rfl, h1, h2, hr⟩, hh', _⟩
        have hc := HNN.out ks h1 h2
        obtain ⟨pv, cv, hv, _⟩ := own_slice hr
        have e1 : sealL T2 ks = [] := by unfold sealL; rw [hc]; rfl
        have e2 : sealCh T2 ks = 0 := by rw [hG.sealCh, if_pos hc]
        rw [e1] at hv
        rw [e2, hv]
        exact ⟨pv, cv, rfl, hh'⟩)
      have HCG : Hid (∀ W, Hall w [.dev p s2, .tab t T2] K2 W → Calls Tryz.prog 20 #[.pointer (some ⟨t, 0, none⟩)] W fun e W' => ∃ pv cv, e = .returned (.slice pv 0 cv) ∧ Hall w [.dev p s2, .tab t T2] K2 W') := Lib.hid (fun W hW => by
        refine (Hall.changed sortOk hW (i := 1) (T := T2) rfl (hG.keys (by rw [hTn]; exact h5k))).mono ?_
        rintro e W' ⟨⟨v, ks, rfl, h1, h2, hr⟩, hh', _⟩
        have hc := HNN.out ks h1 h2
        obtain ⟨pv, cv, hv, _⟩ := own_slice hr
        have e1 : changedL T2 ks = [] := by unfold changedL; rw [hc]; rfl
        rw [e1] at hv
        rw [hv]
        exact ⟨pv, cv, rfl, hh'⟩)
      have HHD : Hid (∀ W, Calls Tryz.prog 9 #[] W fun e w' => e = .returned (.bool true) ∧ Below W.heap.size W w') := Lib.hid head_any
      clear hh hG hTn hTd hz HNN
      go_wp2_with fail
      refine HS.out.mono ?_
      clear HS
      rintro e W13 ⟨pv2, cv2, rfl, hh⟩
      have HC := Lib.hid (HCG.out _ hh)
      clear HCG hh
      go_wp2_with fail
      refine HC.out.mono ?_
      clear HC
      rintro e W14 ⟨pv3, cv3, rfl, hh⟩
      have HC := Lib.hid (HHD.out W14)
      have HB := Lib.hid hh.bel
      clear HHD hh
      go_wp2_with fail
      refine HC.out.mono ?_
      clear HC
      rintro e W15 ⟨rfl, hb⟩
      have HB2 := Lib.hid (HB.out.trans (hb.mono HB.out.size))
      clear hb HB
      go_wp2_with fail
      go_ret
      exact ⟨rfl, HB2.out⟩
  · have HB : Hid (n < 64 ∨ 5000 < n) := Lib.hid (by omega)
    clear hx hm
    rcases HB.out with hlt | hgt
    · have hz1 : (n : Int) < 64 := by omega
      go_enter Tryz.func4, Tryz.ntmps4
      go_wp2_with fail
      refine HH.out.mono ?_
      rintro e W1 ⟨rfl, hb⟩
      go_wp2_with fail
      go_ret
      exact ⟨rfl, hb⟩
    · have hz1 : ¬ (n : Int) < 64 := by omega
      have hz2 : (5000 : Int) < (n : Int) := by omega
      go_enter Tryz.func4, Tryz.ntmps4
      go_wp2_with fail
      refine HH.out.mono ?_
      rintro e W1 ⟨rfl, hb⟩
      go_wp2_with fail
      go_ret
      exact ⟨rfl, hb⟩
end Go.Proofs.YtojpcgjmainbfaaGreat.Cnt
