/-
  The walk of the law RootCrashes, by the head's contract.
-/
import Derived.Test.YtlojhdnahioicaaRotCrLoop
import Derived.Test.YtlojhdnahioicaaRotHead
namespace Go.Proofs.Ytlojhdnahioicaa.Rot
open Go.RowKit RowLaw Crc
set_option maxRecDepth 100000
open Go.Proofs.Ytlojhdnahioicaa.Fld (blockO)
open Go.Proofs.Ytlojhdnahioicaa.Slt (Rt cells rootO rtB rtB_length infoR sizeR cells_one IsRt eqB eqB_iff run_eqRoot noGuardR mayB)
open Go.Proofs.Ytlojhdnahioicaa.Dev (Dev DS ptr Many Live newS putCells readB writeS flushS crashS applyP New_more Keeps Turn)

section
variable {w : World} {r0 : Rt} {pa : Option Addr} {cap : Nat} {xs : List (Nat × List UInt8)} {f : Nat} {pk : Option Addr} {ck : Nat} {ks : List (Nat × Nat)}
set_option linter.unusedSimpArgs false in
set_option maxHeartbeats 25600000 in
theorem crashes_main (hr0 : r0.Fits) (hpu : Puts w pa xs) (hxl : xs.length ≤ 60) (hf : f < 256) (hkp : Keeps w pk ks) (hko : ks ≠ [] → ∀ a, pk = some a → a.block < w.heap.size) (hkl : ks.length ≤ 100)
    (hH : ∀ W, Calls Try.prog 9 #[] W fun e w' => e = .returned (.bool true) ∧ Below W.heap.size W w') :
    Calls Try.prog 4 #[.agg (cells r0), .slice pa xs.length cap, .agg (xV f pk ks.length ck)] w fun e w' => e = .returned (.bool true) ∧ Below w.heap.size w w' := by
  have hzr := (zero_of_info infoR).1
  have hzb := (zero_of_info infoBlock).1
  have HH := Lib.hid hH
  have HPU := Lib.hid hpu
  have HKP := Lib.hid hkp
  have HKO := Lib.hid hko
  have hpuL : ∀ x ∈ xs, x.2.length = 256 := fun x hx => (hpu.1 x hx).2
  have HPL := Lib.hid hpuL
  have hhere : ∀ K : List (Nat × Obj), Here w K pa xs := fun K hne a ha => by
    rcases hpu.2 with h0 | ⟨b, off, hp, hb, _⟩
    · exact absurd h0 hne
    · rw [hp] at ha; cases ha; exact .inl hb
  have HHERE := Lib.hid hhere
  clear hH hpu hkp hko hpuL hhere
  obtain ⟨n, hn⟩ : ∃ n, n = xs.length := ⟨_, rfl⟩
  obtain ⟨m, hm0⟩ : ∃ m, m = ks.length := ⟨_, rfl⟩
  rw [← hn] at hxl ⊢
  rw [← hm0] at hkl ⊢
  have HN := Lib.hid hn
  have HM := Lib.hid hm0
  clear hn hm0
  have i60 : ¬ (60 : Int) < (n : Int) := by omega
  have i100 : ¬ (100 : Int) < (m : Int) := by omega
  have hK : Kept w [(w.heap.size + 1, xO f pk m ck), (w.heap.size, rootO r0)] ((w.alloc (rootO r0)).alloc (xO f pk m ck)) := by
    have h := ((Kept.start w).alloc (rootO r0)).alloc (xO f pk m ck)
    rw [show (w.alloc (rootO r0)).heap.size = w.heap.size + 1 from by simp] at h
    exact h
  obtain ⟨kk, hfo⟩ := format64
  have HF := Lib.hid hfo
  clear hfo
  go_enter Try.func4, Try.ntmps4
  go_upto_region 1 with fail
  change Code.wp _ _ _ _ ((w.alloc (rootO r0)).alloc (xO f pk m ck))
  generalize (w.alloc (rootO r0)).alloc (xO f pk m ck) = W0 at hK ⊢
  have n35 : w.heap.size + 1 ≠ w.heap.size := by omega
  have w3 : w.heap.size ≤ w.heap.size := Nat.le_refl _
  generalize w.heap.size + 1 = b5 at hK n35 ⊢
  obtain ⟨b3, hb3⟩ : ∃ b3, b3 = w.heap.size := ⟨_, rfl⟩
  have hK' : Kept w [(b5, xO f pk m ck), (b3, rootO r0)] W0 := by rw [hb3]; exact hK
  have n35' : b5 ≠ b3 := by rw [hb3]; exact n35
  have w3' : w.heap.size ≤ b3 := by rw [hb3]; exact w3
  rw [← hb3]
  clear hb3 hK n35 w3
  go_wp2_with fail
  refine (New_more W0 hK'.bel (fun x hx => ⟨hK'.at_ (q := x.1) (o := x.2) hx, hK'.lt_ (q := x.1) (o := x.2) hx⟩) 64 (by omega) (by omega)).mono ?_
  rintro e W5 ⟨p, rfl, hlive⟩
  have hm := Many.of_live_more hlive
  have ck1 : W5.cell? ⟨b5, 1, none⟩ = some (.slice pk m ck) := (cell_of_row W5 b5 1 _ _ _ (hm.at_ (q := b5) (o := xO f pk m ck) (by simp))).trans rfl
  clear hlive hK'
  unfold ptr
  go_wp2_with fail
  refine (Rot.Many.format hm (i := 0) rfl (by decide) (by decide) HF.out).mono ?_
  rintro e W6 ⟨rfl, hx⟩
  have n39 : ∀ x ∈ [(b5, xO f pk m ck), (b3, rootO r0)], x.1 ≠ W6.heap.size := hx.notin
  replace hm := hx.alloc (rootO (fresh 64))
  clear hx ck1
  have tok : True := trivial
  go_upto_region 5 with (first | (have _t := tok; refine wpList_store_new rfl 34 _ _ rfl (cells (fresh 64)) _ _ rfl rfl (sizeR _) rfl (cells_one _) ?_; change wpList _ _ _ _ _ (W6.alloc (rootO (fresh 64))); clear _t tok))
  change Code.wp _ _ _ _ (W6.alloc (rootO (fresh 64)))
  generalize W6.heap.size = b9 at hm n39 ⊢
  generalize W6.alloc (rootO (fresh 64)) = W7 at hm ⊢
  have n9 : b9 ≠ b3 := fun e => n39 (b3, rootO r0) (by simp) e.symm
  have hne3 : ∀ (o o' : Obj), ∀ x ∈ [(b9, o), (b5, o')], x.1 ≠ b3 := fun o o' x hx => by
    simp only [List.mem_cons, List.not_mem_nil, or_false] at hx
    rcases hx with rfl | rfl
    · exact n9
    · exact n35'
  have N3 := Lib.hid hne3
  clear hne3 n39 n9 n35'
  have hm3 : Many w [(p, s64 kk)] [(b3, .cells (cells r0) 34 (0, 0)), (b9, rootO (fresh 64)), (b5, xO f pk m ck)] W7 := hm.less (by simp [rootO])
  clear hm
  have cc := IsRt.gen (r := r0) (p := b3) (hm3.at_ List.mem_cons_self)
  have ff := IsRt.frozen (r := r0) (p := b3) (hm3.at_ List.mem_cons_self) 0
  have hm4 := Many.setCell (j := 0) (v := .int .u64 2) hm3 w3' (N3.out _ _)
  rw [show (cells r0).setIfInBounds 0 (.int .u64 2) = cells { r0 with gen := 2 } from rfl] at hm4
  go_upto_region 8 with fail
  generalize World.setCell _ ⟨b3, 0, none⟩ (.int .u64 2) = W8 at hm4 ⊢
  clear cc ff hm3
  have cc := IsRt.size (r := { r0 with gen := 2 }) (p := b3) (hm4.at_ List.mem_cons_self)
  have ff := IsRt.frozen (r := { r0 with gen := 2 }) (p := b3) (hm4.at_ List.mem_cons_self) 1
  have hm5 := Many.setCell (j := 1) (v := .int .u32 64) hm4 w3' (N3.out _ _)
  rw [show (cells { r0 with gen := 2 }).setIfInBounds 1 (.int .u32 64) = cells { r0 with gen := 2, size := 64 } from rfl] at hm5
  go_upto_region 9 with fail
  generalize World.setCell _ ⟨b3, 1, none⟩ (.int .u32 64) = W9 at hm5 ⊢
  clear cc ff hm4
  have hrf : ({ r0 with gen := 2, size := 64 } : Rt).Fits := ⟨by show (2 : Nat) < _; omega, by show (64 : Nat) < _; omega, hr0.picks, hr0.names, hr0.free, hr0.next, hr0.hint, hr0.vols⟩
  have hrg : ({ r0 with gen := 2, size := 64 } : Rt).gen = 2 := rfl
  clear hr0
  generalize ({ r0 with gen := 2, size := 64 } : Rt) = r at hm5 hrf hrg
  have HRF := Lib.hid hrf
  have HRG := Lib.hid hrg
  clear hrf hrg
  obtain ⟨K3, hK3⟩ : ∃ K3, K3 = [(b3, Obj.cells (cells r) 34 (0, 0)), (b9, rootO (fresh 64)), (b5, xO f pk m ck)] := ⟨_, rfl⟩
  have hmK : Many w [(p, s64 kk)] K3 W9 := by rw [hK3]; exact hm5
  have m3 : (b3, Obj.cells (cells r) 34 (0, 0)) ∈ K3 := by rw [hK3]; simp
  have m9 : (b9, rootO (fresh 64)) ∈ K3 := by rw [hK3]; simp
  have m5 : (b5, xO f pk m ck) ∈ K3 := by rw [hK3]; simp
  clear hm5 hK3
  obtain ⟨ok, hok⟩ : ∃ ok, ok = commitOk 64 xs r := ⟨_, rfl⟩
  obtain ⟨sX, zX, hcX, hzX⟩ : ∃ sX zX, commitF (s64 kk) xs r = (sX, zX) ∧ zX = if ok = true then 0 else 2 := by
    cases ho : ok with
    | false =>
      rw [ho] at hok
      exact ⟨s64 kk, 2, commit_bad hok.symm, rfl⟩
    | true =>
      rw [ho] at hok
      obtain ⟨j, e⟩ := commit_calm (calm64 kk) (l := xs) (r := r) hok.symm (by show 2 ≤ 64; omega)
      exact ⟨_, 0, e, rfl⟩
  have HCX := Lib.hid hcX
  have HOK := Lib.hid hok
  clear hcX hok
  go_wp2_with fail
  refine wp_region_noPanic ?_
  refine wp_region_held_drew (S := fun W => ∃ l, Many w l K3 W) (by kernel_rfl) ⟨_, hmK.drewM⟩ ?_
  intro hT
  have hS := hmK.drewM
  clear hmK
  generalize W9.drew = V at hT hS ⊢
  refine wpAnyH_take (i := 0) (v := .pointer (some ⟨p, 0, none⟩)) rfl (by kernel_rfl) (by kernel_rfl) (by kernel_rfl) (fun _ _ _ h => (h : False).elim) (Or.inl ⟨by rfl, fun _ _ => by go_simp⟩) hT ?_
  change wpAnyH _ _ _ _ _ _ _ (Act.put _ (some 56) _) _
  simp only [Act.put, List.setIfInBounds_toArray, List.set_cons_succ, List.set_cons_zero]
  refine wpAnyH_take (i := 2) (v := .slice pa n cap) rfl (by kernel_rfl) (by kernel_rfl) (by kernel_rfl) (fun _ _ _ h => (h : False).elim) (Or.inl ⟨by rfl, fun _ _ => by go_simp⟩) hT ?_
  change wpAnyH _ _ _ _ _ _ _ (Act.put _ (some 58) _) _
  simp only [Act.put, List.setIfInBounds_toArray, List.set_cons_succ, List.set_cons_zero]
  refine wpAnyH_take (i := 3) (v := .agg (cells r)) rfl (by kernel_rfl) (by kernel_rfl) (by kernel_rfl) (fun _ _ _ h => (h : False).elim) (yieldsIf_load_row (by rfl) 34 _ rfl b3 rfl _ _ _ _ (fun _ ⟨_, h⟩ => h.at_ m3) Try.underlying34 rfl (sizeR _)) hT ?_
  change wpAnyH _ _ _ _ _ _ _ (Act.put _ (some 59) _) _
  simp only [Act.put, List.setIfInBounds_toArray, List.set_cons_succ, List.set_cons_zero]
  have hcopy := Dev.Many.copy hS (i := 0) rfl (show 0 < 4294967296 by omega)
  unfold ptr at hcopy
  refine wpAnyH_ready (rs := [1]) (by kernel_rfl) (by simp) ?_
  refine AllReadyH.cons rfl (fun K hK => ?_) AllReadyH.nil
  go_simp
  refine hcopy.mono ?_
  rintro e V1 ⟨q, rfl, h2⟩
  dsimp only
  refine hK _ _ ⟨_, h2⟩ (fun _ => ?_)
  clear hK K hcopy hT hS
  have hcom := Rot.Many.commit h2 (i := 1) rfl (show planOk 64 = true by decide) (n := n) (c := cap) HN.out (HPU.out.below h2.bel) (HHERE.out _) HRF.out (by show 0 + xs.length < 4294967290; rw [← HN.out]; omega) HCX.out
  unfold ptr at hcom
  refine wpAnyH_ready (rs := [4]) (by kernel_rfl) (by simp) ?_
  refine AllReadyH.cons rfl (fun K hK => ?_) AllReadyH.nil
  go_simp
  refine hcom.mono ?_
  rintro e V2 ⟨rfl, h3⟩
  dsimp only
  refine hK _ _ ⟨_, h3⟩ (fun _ => ?_)
  clear hK K hcom h2
  replace h3 : Many w [(p, s64 kk), (q, sX)] K3 V2 := h3
  cases ok with
  | false =>
    rw [if_neg (by simp)] at hzX
    subst hzX
    refine wpAnyH_ready (rs := [5]) (by kernel_rfl) (by simp) ?_
    refine AllReadyH.cons rfl (fun K hK => ?_) AllReadyH.nil
    go_simp
    refine hK _ _ ⟨_, h3⟩ (fun _ => ?_)
    clear hK K
    refine wpAnyH_done (by kernel_rfl) ?_ _
    refine NoPanic.normal ?_
    have hbel := h3.bel
    clear h3
    go_wp2_with (with_reducible refine (HH.out _).mono ?_)
    rintro e V3 ⟨rfl, hx⟩
    go_wp2_with fail
    go_ret
    exact ⟨rfl, hbel.trans (hx.mono hbel.size)⟩
  | true =>
    rw [if_pos rfl] at hzX
    subst hzX
    obtain ⟨z, hz⟩ : ∃ z : Nat, z = f % 70 := ⟨_, rfl⟩
    have z1 : (f : Int) % 70 = (z : Int) := by omega
    have z2 : Int.tmod (f : Int) 70 = (z : Int) := by rw [Int.tmod_eq_emod_of_nonneg (by omega)]; exact z1
    have hz70 : z < 70 := by omega
    clear hz
    obtain ⟨s1, g, s3, now, hc1, hmt, hnow, hg0, hc3, hm3, hp3, hn3, hn2, G, hGl, hGr⟩ := crash_math (k := kk) HRF.out HRG.out HPL.out HOK.out.symm (z : Int) (by omega) ks
    have HC1 := Lib.hid hc1
    have HMT := Lib.hid hmt
    have HNOW := Lib.hid hnow
    have HG0 := Lib.hid hg0
    have HC3 := Lib.hid hc3
    have HM3 := Lib.hid hm3
    have HP3 := Lib.hid hp3
    have HN3 := Lib.hid hn3
    have HN2 := Lib.hid hn2
    have HGL := Lib.hid hGl
    have HGR := Lib.hid hGr
    clear hc1 hmt hnow hg0 hc3 hm3 hp3 hn3 hn2 hGl hGr
    refine wpAnyH_ready (rs := [5]) (by kernel_rfl) (by simp) ?_
    refine AllReadyH.cons rfl (fun K hK => ?_) AllReadyH.nil
    go_simp
    refine hK _ _ ⟨_, h3⟩ (fun _ => ?_)
    clear hK K
    refine wpAnyH_done (by kernel_rfl) ?_ _
    refine NoPanic.normal ?_
    have cf : V2.cell? ⟨b5, 0, none⟩ = some (.int .u8 (f : Int)) := (cell_of_row V2 b5 0 _ _ _ (h3.at_ m5)).trans rfl
    have hfu := Dev.Many.fuse h3 (i := 0) rfl (z := (z : Int)) (by omega)
    have e1 : Dev.fuseS (s64 kk) (z : Int) = { s64 kk with left := (z : Int) } := by
      unfold Dev.fuseS
      rw [if_neg (by omega), if_neg (by show ¬ (false = true); simp)]
    rw [e1] at hfu
    unfold ptr at hfu
    clear h3 e1
    go_wp2_with fail
    refine hfu.mono ?_
    rintro e V3 ⟨rfl, h4⟩
    clear hfu cf
    replace h4 : Many w [(p, { s64 kk with left := (z : Int) }), (q, sX)] K3 V3 := h4
    have r3 : V3.heap[b3]? = some (.cells (cells r) 34 (0, 0)) := h4.at_ m3
    go_wp2_with (refine wpList_load_row rfl 34 _ rfl b3 rfl _ _ _ _ r3 Try.underlying34 rfl (sizeR _) ?_)
    refine (Rot.Many.commit h4 (i := 0) rfl (show planOk 64 = true by decide) (n := n) (c := cap) HN.out (HPU.out.below h4.bel) (HHERE.out _) HRF.out (by show 0 + xs.length < 4294967290; rw [← HN.out]; omega) HC1.out).mono ?_
    rintro e V4 ⟨rfl, h5⟩
    clear r3 h4
    replace h5 : Many w [(p, s1), (q, sX)] K3 V4 := h5
    have ck1 : V4.cell? ⟨b5, 1, none⟩ = some (.slice pk m ck) := (cell_of_row V4 b5 1 _ _ _ (h5.at_ m5)).trans rfl
    go_wp2_with fail
    refine (Dev.Many.crash h5 (i := 0) rfl (n := m) (cap := ck) HM.out (by rw [← HM.out]; omega) (Keeps.below HKP.out h5.bel) (fun hne a ha => .inl (HKO.out hne a ha))).mono ?_
    rintro e V5 ⟨rfl, h6⟩
    clear ck1 h5
    replace h6 : Many w [(p, crashS s1 ks), (q, sX)] K3 V5 := h6
    have HP2 : Hid ((crashS s1 ks).pend = []) := Lib.hid rfl
    generalize crashS s1 ks = s2 at h6 HMT HC3 HN2 HP2
    go_wp2_with fail
    refine (Rot.Many.mount h6 (i := 0) rfl (by rw [HN2.out]; decide) (by rw [HP2.out]; decide) HMT.out).mono ?_
    rintro e V6 ⟨rfl, hx⟩
    have hm := hx.alloc (rootO now)
    clear hx h6
    have tok : True := trivial
    go_upto_region 15 with (first | (have _t := tok; refine wpList_store_new rfl 34 _ _ rfl (cells now) _ _ rfl rfl (sizeR _) rfl (cells_one _) ?_; change wpList _ _ _ _ _ (V6.alloc (rootO now)); clear _t tok))
    change Code.wp _ _ _ _ (V6.alloc (rootO now))
    generalize V6.heap.size = b12 at hm ⊢
    generalize V6.alloc (rootO now) = V7 at hm ⊢
    replace hm : Many w [(p, s2), (q, sX)] ((b12, rootO now) :: K3) V7 := hm
    have r12 : V7.heap[b12]? = some (.cells (cells now) 34 (0, 0)) := hm.at_ (q := b12) (o := rootO now) List.mem_cons_self
    have r3 : V7.heap[b3]? = some (.cells (cells r) 34 (0, 0)) := hm.at_ (List.mem_cons_of_mem _ m3)
    have r9 : V7.heap[b9]? = some (.cells (cells (fresh 64)) 34 (0, 0)) := hm.at_ (q := b9) (o := rootO (fresh 64)) (List.mem_cons_of_mem _ m9)
    have hg2 := fun (W : World) (op : BinOp) (x y : Operand) (xs ys : Array Value) => run_eqGuard_agg (P := Try.prog) W op 34 x y xs ys noGuardR
    have hne : ∀ s : Rt, fresh 64 ≠ s → eqB s (fresh 64) = false ∧ eqB (fresh 64) s = false := fun s h => ⟨by
      rw [Bool.eq_false_iff]; exact fun h2 => h (eqB_iff.1 h2).symm, by
      rw [Bool.eq_false_iff]; exact fun h2 => h (eqB_iff.1 h2)⟩
    have hfr : fresh 64 ≠ r := fun e => by have h1 := HRG.out; rw [← e] at h1; exact absurd h1 (by decide)
    have e1 : ∀ W (s t : Rt), (Op.equalIn 10000 34 (.agg (cells s)) (.agg (cells t))).run Try.prog W = .ok (eqB s t) W := fun W s t => run_eqRoot W s t
    have e2 : ∀ s : Rt, eqB s s = true := fun s => eqB_iff.2 rfl
    obtain ⟨e3, e4⟩ := hne r hfr
    clear hne
    have HFR := Lib.hid hfr
    clear hfr
    go_cut [102] from 82 (fun b wx => b = .bool false ∧ Many w [(p, s2), (q, sX)] ((b12, rootO now) :: K3) wx)
    case first =>
      rcases HNOW.out with rfl | rfl
      · have hgne : g ≠ 0 := fun h => HFR.out (HG0.out h)
        have d0 : (g == 0) = false := by simpa using hgne
        clear hgne HG0 HNOW
        go_wp2_with (first
          | (refine wpList_load_want (by rfl) 34 (.tmp 12) rfl b12 rfl _ _ _ _ r12 Try.underlying34 rfl (sizeR _) ?_)
          | (refine wpList_load_want (by rfl) 34 (.tmp 9) rfl b9 rfl _ _ _ _ r9 Try.underlying34 rfl (sizeR _) ?_)
          | (refine wpList_load_want (by rfl) 34 (.tmp 3) rfl b3 rfl _ _ _ _ r3 Try.underlying34 rfl (sizeR _) ?_))
        go_meet
        case rel => exact ⟨rfl, hm⟩
      · clear HG0 HNOW
        by_cases hg : g = 0
        · subst hg
          go_wp2_with (first
            | (refine wpList_load_want (by rfl) 34 (.tmp 12) rfl b12 rfl _ _ _ _ r12 Try.underlying34 rfl (sizeR _) ?_)
            | (refine wpList_load_want (by rfl) 34 (.tmp 9) rfl b9 rfl _ _ _ _ r9 Try.underlying34 rfl (sizeR _) ?_)
            | (refine wpList_load_want (by rfl) 34 (.tmp 3) rfl b3 rfl _ _ _ _ r3 Try.underlying34 rfl (sizeR _) ?_))
          go_meet
          case rel => exact ⟨rfl, hm⟩
        · have d0 : (g == 0) = false := by simpa using hg
          clear hg
          go_wp2_with (first
            | (refine wpList_load_want (by rfl) 34 (.tmp 12) rfl b12 rfl _ _ _ _ r12 Try.underlying34 rfl (sizeR _) ?_)
            | (refine wpList_load_want (by rfl) 34 (.tmp 9) rfl b9 rfl _ _ _ _ r9 Try.underlying34 rfl (sizeR _) ?_)
            | (refine wpList_load_want (by rfl) 34 (.tmp 3) rfl b3 rfl _ _ _ _ r3 Try.underlying34 rfl (sizeR _) ?_))
          go_meet
          case rel => exact ⟨rfl, hm⟩
    case rest =>
      clear hm r12 r3 r9 HG0 HNOW HFR e3 e4
      obtain ⟨rfl, hc⟩ := hcut
      have hm := hc.less (K' := K3) (fun x hx => List.mem_cons_of_mem _ hx)
      clear hc
      have r3 : wc.heap[b3]? = some (.cells (cells r) 34 (0, 0)) := hm.at_ m3
      go_wp2_with (refine wpList_load_row rfl 34 _ rfl b3 rfl _ _ _ _ r3 Try.underlying34 rfl (sizeR _) ?_)
      refine (Rot.Many.commit hm (i := 0) rfl (by rw [HN2.out]; decide) (n := n) (c := cap) HN.out (HPU.out.below hm.bel) (HHERE.out _) HRF.out (by rw [HP2.out, ← HN.out]; show 0 + n < _; omega) HC3.out).mono ?_
      rintro e V8 ⟨rfl, hx⟩
      replace hx : Many w [(p, s3), (q, sX)] K3 V8 := hx
      clear r3 hm
      go_wp2_with fail
      refine (Rot.Many.mount hx (i := 0) rfl (by rw [HN3.out]; decide) (by rw [HP3.out]; decide) HM3.out).mono ?_
      rintro e V9 ⟨rfl, hy⟩
      have hm := hy.alloc (rootO r)
      clear hx hy
      have tok : True := trivial
      go_upto_region 20 with (first | (have _t := tok; refine wpList_store_new rfl 34 _ _ rfl (cells r) _ _ rfl rfl (sizeR _) rfl (cells_one _) ?_; change wpList _ _ _ _ _ (V9.alloc (rootO r)); clear _t tok))
      change Code.wp _ _ _ _ (V9.alloc (rootO r))
      generalize V9.heap.size = b14 at hm ⊢
      generalize V9.alloc (rootO r) = X0 at hm ⊢
      replace hm : Many w [(p, s3), (q, sX)] ((b14, rootO r) :: K3) X0 := hm
      have hokj : Hid (∀ j (hj : j < xs.length), 2 ≤ xs[j].1 ∧ xs[j].1 < 64) := Lib.hid (fun j hj => by
        have h := HOK.out
        unfold commitOk at h
        have h2 := (Bool.and_eq_true _ _).mp h.symm
        have h3 := List.all_eq_true.1 h2.2 _ (List.getElem_mem hj)
        simp at h3
        exact ⟨h3.1, h3.2⟩)
      have HG2 := Lib.hid hg2
      have HE1 := Lib.hid e1
      have HE2 := Lib.hid e2
      clear hg2 e1 e2 HHERE HC3 HM3 HCX HC1 HMT HN2 HP2 HKP HKO HM HF i60 i100
      go_wp2_with fail
      refine outer_loop (G := G) HN.out hxl HPU.out (hi := rfl) ⟨HN3.out, HP3.out⟩ hokj.out HGL.out HGR.out hm ?_
      clear hm
      intro _ _ _ _ _ _ _ _ _ _ _ _ _ _ _ _ _ _ _ _ _ _ _ _ _ _ _ _ _ _ _ _ _ _ _ _ _ _ _ _ _ _ _ _ _ _ _ _ _ _ _ _ W hm
      have r14 : W.heap[b14]? = some (.cells (cells r) 34 (0, 0)) := hm.at_ (q := b14) (o := rootO r) List.mem_cons_self
      have r3 : W.heap[b3]? = some (.cells (cells r) 34 (0, 0)) := hm.at_ (List.mem_cons_of_mem _ m3)
      have hpn := Dev.Many.pending hm (i := 0) rfl
      rw [HP3.out] at hpn
      replace hpn : Calls Try.prog 18 #[.pointer (some ⟨p, 0, none⟩)] W fun e W' => e = .returned (.int .i64 0) ∧ W' = W := hpn
      have hbel := hm.bel
      have hg2 := HG2.out
      have e1 := HE1.out
      have e2 := HE2.out
      clear hm
      go_wp2_with (first
        | (refine wpList_load_want (by rfl) 34 (.tmp 14) rfl b14 rfl _ _ _ _ r14 Try.underlying34 rfl (sizeR _) ?_)
        | (refine wpList_load_want (by rfl) 34 (.tmp 3) rfl b3 rfl _ _ _ _ r3 Try.underlying34 rfl (sizeR _) ?_)
        | (refine wpList_load_row rfl 34 (.tmp 14) rfl b14 rfl _ _ _ _ r14 Try.underlying34 rfl (sizeR _) ?_)
        | (refine wpList_load_row rfl 34 (.tmp 3) rfl b3 rfl _ _ _ _ r3 Try.underlying34 rfl (sizeR _) ?_)
        | (with_reducible refine hpn.mono ?_; rintro e V9 ⟨rfl, rfl⟩)
        | (with_reducible refine (HH.out _).mono ?_))
      rintro e V9 ⟨rfl, hx⟩
      go_wp2_with fail
      go_ret
      exact ⟨rfl, hbel.trans (hx.mono hbel.size)⟩

/-- the law, at any arguments -/
theorem crashes_w (hr0 : r0.Fits) (hpu : Puts w pa xs) (hxl : xs.length ≤ 9223372036854775807) (hf : f < 256) (hkp : Keeps w pk ks) (hko : ks ≠ [] → ∀ a, pk = some a → a.block < w.heap.size) (hkl : ks.length ≤ 9223372036854775807) :
    Calls Try.prog 4 #[.agg (cells r0), .slice pa xs.length cap, .agg (xV f pk ks.length ck)] w fun e w' => e = .returned (.bool true) ∧ Below w.heap.size w w' := by
  by_cases h1 : xs.length ≤ 60
  · by_cases h2 : ks.length ≤ 100
    · exact crashes_main hr0 hpu h1 hf hkp hko h2 head_any
    · exact crashes_far (.inr (by omega)) hxl hkl head_any
  · exact crashes_far (.inl (by omega)) hxl hkl head_any
end

end Go.Proofs.Ytlojhdnahioicaa.Rot
