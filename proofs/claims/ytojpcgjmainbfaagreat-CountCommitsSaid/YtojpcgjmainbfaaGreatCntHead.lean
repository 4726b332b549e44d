/-
  The law's example: a table that the document has.
-/
import Derived.Test.YtojpcgjmainbfaaGreatCntF
import Derived.Test.YtojpcgjmainbfaaGreatTal3
namespace Go.Proofs.YtojpcgjmainbfaaGreat.Cnt
open Go.RowKit Go.Maps Go.MapKept RowLaw Crc
open Go.Proofs.YtojpcgjmainbfaaGreat.Dev (Dev DS ptr newS putCells putCells_length pendCells)
open Go.Proofs.YtojpcgjmainbfaaGreat.Tal (pgCells pgCells_size pgCells_one IsPg kT kP fT fP infoP infoT zs zs_length sizeP sizeT putB putB_yes putB_length back refGet_anyT refGet_anyP getI getE getNs)
open Go.Proofs.YtojpcgjmainbfaaGreat.Slt (Rt cells rootO cells_one)
open Go.Proofs.YtojpcgjmainbfaaGreat.Rot (planOk)
set_option maxRecDepth 100000

theorem eqTab (t : Nat) (W : World) : (binOp .eql 34 (.pointer (some ⟨t, 0, none⟩)) (.pointer none)).run Tryz.prog W = .ok (.bool false) W := by kernel_rfl
theorem Reads.setC {s : DS} {T : TD} (h : Reads s T) (p : Nat) (ns : List Nat) : Reads s (Cnt.setC T p ns) := ⟨h.n, h.pend, h.pick, h.tally⟩
/-- what the example's device and tables are -/
theorem head_facts : ∃ s2, Rot.formatF (newS 64) = (s2, (Rot.fresh 64, 0)) ∧ s2.n = 64 ∧ planOk s2.n = true ∧ ∀ p, ∃ T1 T2, Head (tdOf p s2 0) T1 T2 ∧ (tdOf p s2 0).n = 64 ∧ (tdOf p s2 0).d = p ∧ Reads s2 (tdOf p s2 0) ∧ Reads s2 T1 ∧ Reads s2 T2 := by
  obtain ⟨s2, hf, _, hn, hS, hPV, hTV⟩ := format_sound (s := newS 64) (Rot.Calm.new 64) (by show 64 ≤ 64; omega) (by show 64 ≤ 1048576; omega)
  have hn' : s2.n = 64 := hn
  refine ⟨s2, hf, hn', hS.plan, fun p => ?_⟩
  have h0 : tdOf p s2 0 = ⟨p, 64, 0, (tdOf p s2 0).PV, (tdOf p s2 0).TV, fun _ => none⟩ := by
    have : tdOf p s2 0 = ⟨p, s2.n, 0, (tdOf p s2 0).PV, (tdOf p s2 0).TV, fun _ => none⟩ := rfl
    rwa [hn'] at this
  have hr := hS.reads p
  have hH := head_calls (d := p) (hPV p 0 (by decide)) (hTV p 0 (by decide))
  rw [← h0] at hH
  exact ⟨_, _, hH, hn', rfl, hr, hr.setC 0 _, hr.setC 0 _⟩

theorem two9_len : two9.length = 64 := by decide
theorem one0_len : one0.length = 16 := by decide
theorem two9_lt : ∀ j (hj : j < two9.length), two9[j] < 256 ^ kT.wd := by decide +kernel
theorem one0_lt : ∀ j (hj : j < one0.length), one0[j] < 256 ^ kP.wd := by decide +kernel
/-- what lies in a row of two puts -/
theorem two_puts {W : World} {g x y : Nat} {cur : Array Value} {b1 b2 : List UInt8} (h1 : b1.length = 256) (h : W.heap[g]? = some (.cells cur 55 (0, 0))) (ht : cur.toList.take (2 * 257) = pendCells [(x, b1), (y, b2)]) :
    W.cell? ⟨g, 0, none⟩ = some (.int .u32 (x : Int)) ∧ W.cell? ⟨g, 257, none⟩ = some (.int .u32 (y : Int)) ∧ W.rangeAt g 1 (cellsOf b1).toList ∧ W.rangeAt g 258 (cellsOf b2).toList := by
  have hc : ∀ j v, (pendCells [(x, b1), (y, b2)])[j]? = some v → W.cell? ⟨g, j, none⟩ = some v := fun j v hv => by
    rw [← ht, List.getElem?_take] at hv
    split at hv
    · rw [cell_of_row W g j _ _ _ h, ← hv, Array.getElem?_toList]
    · cases hv
  have e : pendCells [(x, b1), (y, b2)] = (.int .u32 (x : Int) :: (cellsOf b1).toList) ++ (.int .u32 (y : Int) :: (cellsOf b2).toList) := by simp [pendCells, putCells]
  have hl1 : (cellsOf b1).toList.length = 256 := by rw [Array.length_toList, cellsOf_size, h1]
  rw [e] at hc
  refine ⟨hc 0 _ rfl, hc 257 _ ?_, fun j v hv => ?_, fun j v hv => ?_⟩
  · rw [List.getElem?_append_right (by simp [hl1])]
    simp [hl1]
  · refine hc (1 + j) v ?_
    have hj := (List.getElem?_eq_some_iff.1 hv).1
    rw [List.getElem?_append_left (by simp only [List.length_cons]; omega), Nat.add_comm, List.getElem?_cons_succ]
    exact hv
  · refine hc (258 + j) v ?_
    rw [List.getElem?_append_right (by simp only [List.length_cons, hl1]; omega)]
    simp only [List.length_cons, hl1]
    rw [show 258 + j - (256 + 1) = j + 1 by omega, List.getElem?_cons_succ]
    exact hv
set_option linter.unusedSimpArgs false in
set_option maxHeartbeats 6400000 in
theorem head_any (w : World) : Calls Tryz.prog 9 #[] w fun e w' => e = .returned (.bool true) ∧ Below w.heap.size w w' := by
  obtain ⟨s2, hf, hn2, hpl2, hT⟩ := head_facts
  have HF := Lib.hid hf; have HT := Lib.hid hT; have HN := Lib.hid hn2; have HPL := Lib.hid hpl2
  clear hf hT hn2 hpl2
  have hzr := (zero_of_info Slt.infoR).1
  go_enter Tryz.func9, Tryz.ntmps9
  go_wp2_with fail
  refine (Dev.New_any w 64 (by omega) (by omega)).mono ?_
  rintro e W1 ⟨p, B, rfl, hd, hB, hb⟩
  have hm : Hall w [.dev p (newS 64)] [] W1 := (Hall.start w).push hb (x := .dev p (newS 64)) hd hB
  clear hd hB hb
  have hc := Hall.format hm (i := 0) rfl (show planOk 64 = true by decide) (by show 0 < 4293000000; omega) HF.out
  unfold ptr at hc ⊢
  go_wp2_with fail
  refine hc.mono ?_
  clear hc hm
  rintro e W2 ⟨rfl, hm⟩
  replace hm : Hall w [.dev p s2] [] W2 := hm
  have hm3 := hm.alloc (rootO (Rot.fresh 64))
  have tok : True := trivial
  go_upto_region 3 with (have _t := tok; refine wpList_store_new rfl 31 _ _ rfl (cells (Rot.fresh 64)) _ _ rfl rfl (Slt.sizeR _) rfl (cells_one _) ?_; change wpList _ _ _ _ _ (W2.alloc (rootO (Rot.fresh 64))); clear _t tok)
  change Code.wp _ _ _ _ (W2.alloc (rootO (Rot.fresh 64)))
  clear hm
  generalize W2.heap.size = q3 at hm3 ⊢
  generalize W2.alloc (rootO (Rot.fresh 64)) = W3 at hm3 ⊢
  have o3 : W3.heap[q3]? = some (.cells (cells (Rot.fresh 64)) 31 (0, 0)) := hm3.at_ (q := q3) (o := rootO (Rot.fresh 64)) List.mem_cons_self
  obtain ⟨T1, T2, HD, hn0, hd0, hr0, hr1, hr2⟩ := HT.out p
  clear HT HF
  have hc : Calls Tryz.prog 12 #[.pointer (some ⟨p, 0, none⟩), .agg (cells (Rot.fresh 64))] W3 fun e W' => ∃ t, e = .returned (.tuple #[.pointer (some ⟨t, 0, none⟩), .int .i64 0]) ∧ Hall w [.dev p s2, .tab t (tdOf p s2 0)] [(q3, rootO (Rot.fresh 64))] W' :=
    Hall.open_ hm3 (i := 0) rfl HPL.out (r := Rot.fresh 64) HN.out.symm (by show 0 < 4294967296; omega)
  go_wp2_with (refine wpList_load_row rfl 31 _ rfl q3 rfl _ _ _ _ o3 Tryz.underlying31 rfl (Slt.sizeR _) ?_)
  refine hc.mono ?_
  clear hc hm3 o3
  rintro e W4 ⟨t, rfl, hm⟩
  have heq := eqTab t
  generalize tdOf p s2 0 = T0 at HD hn0 hd0 hr0 hm
  have H1 := HD.d1; have H2 := HD.d2
  have HHD := Lib.hid HD; have HR0 := Lib.hid hr0; have HR1 := Lib.hid hr1; have HR2 := Lib.hid hr2
  have HD0 := Lib.hid hd0; have HN0 := Lib.hid hn0; have HD1 := Lib.hid (H1.trans hd0); have HD2 := Lib.hid (H2.trans hd0)
  clear HD hn0 hd0 hr0 hr1 hr2 H1 H2
  go_wp2_with fail
  have hm5 := hm
  clear hm heq
  obtain ⟨W5, hW5⟩ : ∃ W5, W5 = W4 := ⟨_, rfl⟩
  rw [← hW5] at hm5 ⊢
  clear hW5
  have hc : Calls Tryz.prog 18 #[.pointer (some ⟨t, 0, none⟩), .int .u32 9] W5 fun e W' => e = .returned (.tuple #[.int .u16 0, .int .i64 0]) ∧ Hall w [.dev p s2, .tab t T0] [(q3, rootO (Rot.fresh 64))] W' := by
    have h := Hall.get hm5 (i := 1) (j := 0) (T := T0) (s := s2) rfl (by rw [HD0.out]; rfl) (by decide) HR0.out (a := 9) (by omega)
    rw [HHD.out.a, HN0.out, HHD.out.c9] at h
    exact h
  go_wp2_with fail
  refine hc.mono ?_
  clear hc hm5
  rintro e W6 ⟨rfl, hm6⟩
  have hc : Calls Tryz.prog 13 #[.pointer (some ⟨t, 0, none⟩), .int .u32 9, .int .u16 2] W6 fun e W' => e = .returned (.int .i64 0) ∧ Hall w [.dev p s2, .tab t T1] [(q3, rootO (Rot.fresh 64))] W' := by
    have h := Hall.set_ hm6 (i := 1) (j := 0) (T := T0) (s := s2) rfl (by rw [HD0.out]; rfl) (by decide) HR0.out (a := 9) (v := 2) (by omega) (by omega)
    rw [HHD.out.t1, HN0.out, HHD.out.e9] at h
    exact h
  go_wp2_with fail
  refine hc.mono ?_
  clear hc hm6
  rintro e W7 ⟨rfl, hm7⟩
  have hc : Calls Tryz.prog 18 #[.pointer (some ⟨t, 0, none⟩), .int .u32 9] W7 fun e W' => e = .returned (.tuple #[.int .u16 2, .int .i64 0]) ∧ Hall w [.dev p s2, .tab t T1] [(q3, rootO (Rot.fresh 64))] W' := by
    have h := Hall.get hm7 (i := 1) (j := 0) (T := T1) (s := s2) rfl (by rw [HD1.out]; rfl) (by decide) HR1.out (a := 9) (by omega)
    rw [HHD.out.b, HHD.out.n1, HHD.out.c9] at h
    exact h
  go_wp2_with fail
  refine hc.mono ?_
  clear hc hm7
  rintro e W8 ⟨rfl, hm8⟩
  have hc : Calls Tryz.prog 19 #[.pointer (some ⟨t, 0, none⟩), .int .u32 9] W8 fun e W' => e = .returned (.tuple #[.int .u16 0, .int .i64 0]) ∧ Hall w [.dev p s2, .tab t T1] [(q3, rootO (Rot.fresh 64))] W' := by
    have h := Hall.old hm8 (i := 1) (j := 0) (T := T1) (s := s2) rfl (by rw [HD1.out]; rfl) (by decide) HR1.out (a := 9) (by omega)
    rw [HHD.out.c, HHD.out.n1, HHD.out.c9] at h
    exact h
  go_wp2_with fail
  refine hc.mono ?_
  clear hc hm8
  rintro e W9 ⟨rfl, hm9⟩
  have hc := Hall.changed sortOk1 hm9 (i := 1) (T := T1) rfl HHD.out.m1
  unfold ptr at hc
  go_wp2_with fail
  refine hc.mono ?_
  clear hc
  rintro e W10 ⟨⟨v10, ks, rfl, h1, h2, hrow⟩, -, hb⟩
  obtain rfl := HHD.out.k1 ks h1 h2
  rw [HHD.out.l] at hrow
  obtain ⟨g10, c10, cur10, hv10, hcur10, hm10⟩ := hm9.row hb (Nat.le_refl _) hrow (by decide)
  have HV10 := Lib.hid hv10; have HCUR10 := Lib.hid hcur10
  clear h1 h2 hrow hb hm9 hv10 hcur10
  have hc : Calls Tryz.prog 13 #[.pointer (some ⟨t, 0, none⟩), .int .u32 5, .int .u16 1] W10 fun e W' => e = .returned (.int .i64 2) ∧ Hall w [.dev p s2, .tab t T1] ((g10, .cells cur10 22 (0, 0)) :: [(q3, rootO (Rot.fresh 64))]) W' := by
    have h := Hall.set_ hm10 (i := 1) (j := 0) (T := T1) (s := s2) rfl (by rw [HD1.out]; rfl) (by decide) HR1.out (a := 5) (v := 1) (by omega) (by omega)
    rw [HHD.out.t5, HHD.out.n1, HHD.out.e5] at h
    exact h
  go_wp2_with fail
  refine hc.mono ?_
  clear hc hm10
  rintro e W11 ⟨rfl, hm11⟩
  have hc := Hall.sealed sortOk1 hm11 (i := 1) (j := 0) (T := T1) (s := s2) rfl (by rw [HD1.out]; rfl) HR1.out HHD.out.m1 (by rw [HHD.out.n1]; omega)
  unfold ptr at hc
  go_wp2_with fail
  refine hc.mono ?_
  clear hc
  rintro e W12 ⟨⟨v12, ks, he, h1, h2, hrow⟩, -, hb⟩
  obtain rfl := HHD.out.k1 ks h1 h2
  rw [HHD.out.ch1] at he
  rw [HHD.out.p] at hrow
  replace he : e = .returned (.tuple #[v12, .int .u32 1, .int .i64 0]) := he
  subst he
  obtain ⟨g12, c12, cur12, hv12, hcur12, hm12⟩ := hm11.row hb (Nat.le_refl _) hrow (by decide)
  replace hv12 : v12 = .slice (some ⟨g12, 0, none⟩) 2 c12 := hv12
  subst hv12
  replace hcur12 : cur12.toList.take (2 * 257) = pendCells [(5, putB kT 0 two9), (3, putB kP 0 one0)] := hcur12
  have HCUR12 := Lib.hid hcur12
  clear h1 h2 hrow hb hm11 hcur12
  have hc : Calls Tryz.prog 13 #[.pointer (some ⟨t, 0, none⟩), .int .u32 9, .int .u16 0] W12 fun e W' => e = .returned (.int .i64 0) ∧ Hall w [.dev p s2, .tab t T2] ((g12, .cells cur12 55 (0, 0)) :: (g10, .cells cur10 22 (0, 0)) :: [(q3, rootO (Rot.fresh 64))]) W' := by
    have h := Hall.set_ hm12 (i := 1) (j := 0) (T := T1) (s := s2) rfl (by rw [HD1.out]; rfl) (by decide) HR1.out (a := 9) (v := 0) (by omega) (by omega)
    rw [HHD.out.t2, HHD.out.n1, HHD.out.e9] at h
    exact h
  go_wp2_with fail
  refine hc.mono ?_
  clear hc hm12
  rintro e W13 ⟨rfl, hm13⟩
  have hc := Hall.sealed sortOk1 hm13 (i := 1) (j := 0) (T := T2) (s := s2) rfl (by rw [HD2.out]; rfl) HR2.out HHD.out.m2 (by rw [HHD.out.n2]; omega)
  unfold ptr at hc
  go_wp2_with fail
  refine hc.mono ?_
  clear hc
  rintro e W14 ⟨⟨v14, ks, he, h1, h2, hrow⟩, hm14, hb⟩
  obtain rfl := HHD.out.k2 ks h1 h2
  rw [HHD.out.ch2] at he
  rw [HHD.out.q] at hrow
  replace he : e = .returned (.tuple #[v14, .int .u32 0, .int .i64 0]) := he
  subst he
  obtain ⟨pk14, c14, hv14, _⟩ := own_slice hrow
  replace hv14 : v14 = .slice pk14 0 c14 := hv14
  subst hv14
  clear h1 h2 hrow hb hm13
  have o3 : W14.heap[q3]? = some (.cells (cells (Rot.fresh 64)) 31 (0, 0)) := hm14.at_ (q := q3) (o := rootO (Rot.fresh 64)) (by simp)
  go_wp2_with (refine wpList_load_row rfl 31 _ rfl q3 rfl _ _ _ _ o3 Tryz.underlying31 rfl (Slt.sizeR _) ?_)
  refine (Open_nil (Rot.fresh 64) W14).mono ?_
  clear o3
  rintro e W15 ⟨rfl, hb⟩
  have hm15 := hm14.below hb
  clear hm14 hb
  have o12 := hm15.at_ (q := g12) (o := .cells cur12 55 (0, 0)) (by simp)
  obtain ⟨b1, hb1⟩ : ∃ b, b = putB kT 0 two9 := ⟨_, rfl⟩
  obtain ⟨b2, hb2⟩ : ∃ b, b = putB kP 0 one0 := ⟨_, rfl⟩
  have hl1 : b1.length = 256 := by rw [hb1]; exact putB_length fT 0 two9_len
  have hl2 : b2.length = 256 := by rw [hb2]; exact putB_length fP 0 one0_len
  have hcu := HCUR12.out
  rw [← hb1, ← hb2] at hcu
  have HCU := Lib.hid hcu
  obtain ⟨_, _, hr12, _⟩ := two_puts hl1 o12 hcu
  have hG1 : getI kT b1 0 = 0 ∧ getNs kT b1 0 = two9 ∧ getE kT b1 0 = 0 := by
    rw [hb1, putB_yes _ (by decide)]
    exact back fT two9_len two9_lt (by decide)
  have hG2 : getI kP b2 0 = 0 ∧ getNs kP b2 0 = one0 ∧ getE kP b2 0 = 0 := by
    rw [hb2, putB_yes _ (by decide)]
    exact back fP one0_len one0_lt (by decide)
  have HG1 : Hid (∀ W, Calls Tryz.prog 35 #[.agg (cellsOf b1), .int .u32 0] W fun e w' => e = .returned (.tuple #[.agg (pgCells .u16 0 two9), .int .i64 0]) ∧ Below W.heap.size W w') := Lib.hid (fun W => by
    have h := refGet_anyT b1 hl1 0 W
    rw [hG1.1, hG1.2.1, hG1.2.2] at h
    exact h)
  have HG2 : Hid (∀ W, Calls Tryz.prog 36 #[.agg (cellsOf b2), .int .u32 0] W fun e w' => e = .returned (.tuple #[.agg (pgCells .u64 0 one0), .int .i64 0]) ∧ Below W.heap.size W w') := Lib.hid (fun W => by
    have h := refGet_anyP b2 hl2 0 W
    rw [hG2.1, hG2.2.1, hG2.2.2] at h
    exact h)
  clear hcu hb1 hb2 hG1 hG2 o12
  go_wp2_with (refine wpList_load_arr rfl 39 _ rfl g12 1 rfl (cellsOf b1) _ hr12 Tryz.underlying39 rfl (sizeBlock b1 hl1) ?_)
  refine (HG1.out _).mono ?_
  clear HG1 hr12
  rintro e W16 ⟨rfl, hb⟩
  have hm16 := (hm15.below hb).alloc (.cells (pgCells .u16 0 two9) 98)
  have hzv := (zero_of_info infoT).1
  have hzz : (pgCells .u16 0 (zs kT)).size = (pgCells .u16 0 two9).size := by rw [pgCells_size, pgCells_size, two9_len, zs_length]; rfl
  clear hm15 hb
  have tok : True := trivial
  go_upto_region 19 with (have _t := tok; refine wpList_store_new rfl 98 _ _ rfl (pgCells .u16 0 two9) _ _ rfl rfl (sizeT 0 two9 two9_len) hzz (pgCells_one _ _) ?_; change wpList _ _ _ _ _ (W16.alloc (.cells (pgCells .u16 0 two9) 98)); clear _t tok)
  change Code.wp _ _ _ _ (W16.alloc (.cells (pgCells .u16 0 two9) 98))
  generalize W16.heap.size = q25 at hm16 ⊢
  generalize W16.alloc (.cells (pgCells .u16 0 two9) 98) = W17 at hm16 ⊢
  clear hzv hzz
  have o12 := hm16.at_ (q := g12) (o := .cells cur12 55 (0, 0)) (by simp)
  obtain ⟨_, _, _, hr12⟩ := two_puts hl1 o12 HCU.out
  clear o12
  go_wp2_with (refine wpList_load_arr rfl 39 _ rfl g12 258 rfl (cellsOf b2) _ hr12 Tryz.underlying39 rfl (sizeBlock b2 hl2) ?_)
  refine (HG2.out _).mono ?_
  clear HG2 hr12
  rintro e W18 ⟨rfl, hb⟩
  have hm18 := (hm16.below hb).alloc (.cells (pgCells .u64 0 one0) 103)
  have hzv := (zero_of_info infoP).1
  have hzz : (pgCells .u64 0 (zs kP)).size = (pgCells .u64 0 one0).size := by rw [pgCells_size, pgCells_size, one0_len, zs_length]; rfl
  clear hm16 hb
  have tok : True := trivial
  go_upto_region 20 with (have _t := tok; refine wpList_store_new rfl 103 _ _ rfl (pgCells .u64 0 one0) _ _ rfl rfl (sizeP 0 one0 one0_len) hzz (pgCells_one _ _) ?_; change wpList _ _ _ _ _ (W18.alloc (.cells (pgCells .u64 0 one0) 103)); clear _t tok)
  change Code.wp _ _ _ _ (W18.alloc (.cells (pgCells .u64 0 one0) 103))
  generalize W18.heap.size = q27 at hm18 ⊢
  generalize W18.alloc (.cells (pgCells .u64 0 one0) 103) = W19 at hm18 ⊢
  clear hzv hzz
  have o10 := hm18.at_ (q := g10) (o := .cells cur10 22 (0, 0)) (by simp)
  have hc10 : W19.cell? ⟨g10, 0, none⟩ = some (.int .u32 9) := by
    have h0 : (cur10.toList.take (1 * 1))[0]? = some (.int .u32 9) := by rw [show cur10.toList.take (1 * 1) = [encN 9] from HCUR10.out]; rfl
    rw [List.getElem?_take] at h0
    rw [cell_of_row W19 g10 0 _ _ _ o10, ← h0]
    simp
  have hlt10 : g10 < W19.heap.size := (Array.getElem?_eq_some_iff.1 o10).1
  have hv10 : v10 = .slice (some ⟨g10, 0, none⟩) 1 c10 := HV10.out
  subst hv10
  have hr1 : Row32 [9] (.slice (some ⟨g10, 0, none⟩) 1 c10) (W19.alloc (.cells #[.int .u32 9] 22)) := ⟨_, _, rfl, .inr ⟨g10, 0, rfl, by simp; omega, fun k hk => by
    obtain rfl : k = 0 := by simp at hk; omega
    exact (World.cell?_alloc_lt _ _ _ hlt10).trans hc10⟩⟩
  have hr2 : Row32 [9] (.slice (some ⟨W19.heap.size, 0, none⟩) 1 1) (W19.alloc (.cells #[.int .u32 9] 22)) := ⟨_, _, rfl, .inr ⟨W19.heap.size, 0, rfl, by simp, fun k hk => by
    obtain rfl : k = 0 := by simp at hk; omega
    exact (cell_of_row _ _ 0 _ _ _ (heap_alloc_new W19 _)).trans rfl⟩⟩
  have hS := Same_any [9] [9] _ _ _ hr1 hr2 (by simp)
  have hmA := hm18.below ((Below.refl _ _).alloc (Nat.le_refl _) (.cells #[.int .u32 9] 22))
  have HMA := Lib.hid hmA; have HS := Lib.hid hS
  clear hm18 hmA hS hr1 hr2 hc10 hlt10 o10 HV10 HCUR10
  refine wp_region_list ?_
  conv => arg 4; simp only [List.append_eq, List.cons_append, List.nil_append, List.toList_toArray]
  go_wp2_with fail
  refine HS.out.mono ?_
  rintro e W20 ⟨rfl, hb⟩
  have hm20 := HMA.out.below hb
  clear HS HMA hb
  obtain ⟨d0, d257, _, _⟩ := two_puts hl1 (hm20.at_ (q := g12) (o := .cells cur12 55 (0, 0)) (by simp)) HCU.out
  replace d0 : W20.cell? ⟨g12, 0, none⟩ = some (.int .u32 5) := d0
  replace d257 : W20.cell? ⟨g12, 257, none⟩ = some (.int .u32 3) := d257
  have d25 : W20.cell? ⟨q25, 10, none⟩ = some (.int .u16 2) := by
    have h := IsPg.num (K := .u16) (t := 98) (idx := 0) (ns := two9) (hm20.at_ (q := q25) (o := .cells (pgCells .u16 0 two9) 98 (0, 0)) (by simp)) 9 (by decide)
    rw [show two9[9]'(by decide) = 2 from by decide] at h
    exact h
  have d27 : W20.cell? ⟨q27, 1, none⟩ = some (.int .u64 1) := by
    have h := IsPg.num (K := .u64) (t := 103) (idx := 0) (ns := one0) (hm20.at_ (q := q27) (o := .cells (pgCells .u64 0 one0) 103 (0, 0)) (by simp)) 0 (by decide)
    rw [show one0[0]'(by decide) = 1 from by decide] at h
    exact h
  have hbel := hm20.bel
  clear hm20
  go_wp2_with fail
  go_ret
  exact ⟨by simp, hbel⟩
end Go.Proofs.YtojpcgjmainbfaaGreat.Cnt
