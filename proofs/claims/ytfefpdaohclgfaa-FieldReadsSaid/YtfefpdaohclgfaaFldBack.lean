/-
  The walk of the law FieldBack.
-/
import Derived.Test.YtfefpdaohclgfaaFldCut
import Derived.Deep.RegionHeld3
namespace Go.Proofs.Ytfefpdaohclgfaa.Fld
open Go.RowKit RowLaw Crc

theorem lt_of_some {w : World} {b o : Nat} {v : Value} (h : w.cell? ⟨b, o, none⟩ = some v) : b < w.heap.size := by
  rcases Nat.lt_or_ge b w.heap.size with hlt | hge
  · exact hlt
  · exfalso
    unfold World.cell? at h
    rw [Array.getElem?_eq_none hge] at h
    simp at h
theorem _root_.Go.Proofs.Ytfefpdaohclgfaa.Crc.Holds.drew_apart {w w' : World} {p b : Nat} {l : List UInt8} (h : Holds w b l) (ha : Apart p w.drew w') (hp : b ≠ p) : Holds w' b l := (ha.block b h.lt hp).trans h
theorem turn_val (u : UInt8) (T : Nat) : bits .xor .u8 (u.toNat : Int) (2 ^ (T % 8) % 256) = ((UInt8.ofNat (u.toNat ^^^ 2 ^ (T % 8))).toNat : Int) := by
  have h8 : T % 8 < 8 := Nat.mod_lt _ (by omega)
  generalize T % 8 = r at h8
  obtain ⟨P, hP⟩ : ∃ P, P = 2 ^ r := ⟨_, rfl⟩
  have hp : P < 256 := by rw [hP]; exact Nat.lt_of_lt_of_le (Nat.pow_lt_pow_right (by omega) h8) (by decide)
  have hu := u.toNat_lt
  have e : ((2 : Int) ^ r % 256) = (P : Int) := by
    have e1 : ((2 : Int) ^ r) = (P : Int) := by rw [hP, Int.natCast_pow]; rfl
    rw [e1]
    omega
  rw [← hP]
  have hx : u.toNat ^^^ P < 256 := Nat.xor_lt_two_pow (n := 8) hu hp
  rw [e, u8_xor_nat _ _ hu hp, UInt8.toNat_ofNat', Nat.mod_eq_of_lt hx]
theorem ne_next (m : UInt8) : m ≠ m + 1 := by
  intro h
  have := congrArg UInt8.toNat h
  have hm := m.toNat_lt
  rw [UInt8.toNat_add] at this
  have h1 : (1 : UInt8).toNat = 1 := rfl
  rw [h1] at this
  omega
theorem wrap_next (m : UInt8) : IntKind.u8.wrap ((m.toNat : Int) + 1) = ((m + 1).toNat : Int) := by
  rw [IntKind.wrap_u8, UInt8.toNat_add]
  have h1 : (1 : UInt8).toNat = 1 := rfl
  rw [h1]
  omega
theorem mayTo_at (xs : List It) (n : Nat) (hm : mayTo xs n = true) (j : Nat) (hj : j < n) (hn : n ≤ xs.length) : ∃ bs, itBytes (xs[j]'(by omega)) = some bs := by
  obtain ⟨d, rfl⟩ : ∃ d, n = (j + 1) + d := ⟨n - (j + 1), by omega⟩
  have h1 := mayTo_prefix xs (j + 1) d hn hm
  rw [mayTo_succ xs j (by omega), Bool.and_eq_true] at h1
  exact Option.isSome_iff_exists.1 h1.2
theorem stTo_some (xs : List It) (n : Nat) (F : List UInt8) (h : stTo xs n = some F) : mayTo xs n = true ∧ F = catTo xs n ∧ F.length ≤ 251 := by
  unfold stTo at h
  split at h
  · rename_i hc
    cases h
    exact ⟨hc.1, rfl, hc.2⟩
  · cases h

set_option maxRecDepth 100000 in
set_option maxHeartbeats 3200000 in
theorem back_any (pa : Option Addr) (cap : Nat) (xs : List It) (m : UInt8) (t : Nat) (ht : t < 65536) (hlen : xs.length ≤ maxLen) (w : World) (hx : Items w pa xs) :
    Calls Try.prog 9 #[.slice pa xs.length cap, .int .u8 (m.toNat : Int), .int .u16 (t : Int)] w fun e w' => e = .returned (.bool true) ∧ Below w.heap.size w w' := by
  have hgreat := great_any pa cap xs hlen w hx
  obtain ⟨n, hn⟩ : ∃ n, n = xs.length := ⟨_, rfl⟩
  rw [← hn] at hgreat ⊢
  have HG := Lib.hid hgreat; clear hgreat
  have HN := Lib.hid hn; clear hn
  have HX := Lib.hid hx; clear hx
  have hzv := (zero_of_info infoBlock).1
  go_enter Try.func9, Try.ntmps9
  go_wp2_with fail
  refine HG.out.mono ?_
  rintro e W0 ⟨⟨g, rfl, hg⟩, rfl⟩
  cases g
  · have hn100 : n ≤ 100 := hg rfl
    clear hg HG
    go_wp2_with fail
    refine (New_any W0).mono ?_
    rintro e W1 ⟨rfl, hw1, hb1⟩
    go_wp2_with fail
    go_loopw [8] (fun i wr => ∃ j : Nat, j ≤ n ∧ i = .int .i64 j ∧ WIs wr W0.heap.size (stTo xs j) ∧ Below W0.heap.size W0 wr) (fun i _ => n - (intOf i).toNat)
    case atStart => exact ⟨0, by omega, rfl, hw1, hb1⟩
    case round =>
      obtain ⟨j, hj, rfl, hw, hbk⟩ := hrel
      clear hw1 hb1
      by_cases hlt : j < n
      · have hjl : j < xs.length := by have := HN.out; omega
        rcases HX.out.below hbk with h0 | ⟨b, off, hpa, hbl, hc⟩
        · omega
        · obtain ⟨⟨c0, c1, c2, c3⟩, hnn, hss⟩ := hc j hjl
          clear hc hss
          subst hpa
          have hst := stTo_succ xs j hjl
          generalize xs[j] = x at *
          go_wp2_with fail
          refine (put_any _ _ x hnn wr hw).mono ?_
          rintro e W3 ⟨rfl, hw3, ha3⟩
          rw [← hst] at hw3
          have hbk3 := hbk.trans (ha3.below (Nat.le_refl _) hbk.size)
          clear hst c0 c1 c2 c3
          go_wp2_with fail
          go_roundw
          case rel => exact ⟨j + 1, by omega, by go_num, hw3, hbk3⟩
          case measure => simp [intOf]; omega
      · obtain rfl : j = n := by omega
        cases hst : stTo xs j with
        | none =>
          rw [hst] at hw
          clear hst
          go_wp2_with fail
          refine (Done_none _ (m.toNat : Int) _ hw).mono ?_
          rintro e W3 ⟨rfl, hx⟩
          replace hbk := (hbk.trans (hx.mono hbk.size)).alloc (Nat.le_trans hbk.size hx.size) (.cells (cellsOf zeros) 23)
          clear hx
          have tok : True := trivial
          go_wp2_with (have _t := tok; refine wpList_store_new rfl 23 _ _ rfl _ _ _ rfl rfl (sizeBlock _ zeros_length) rfl (cellsOf_one _) ?_; generalize W3.alloc (.cells (cellsOf zeros) 23) = V1 at hbk ⊢; clear _t tok)
          refine (head_any _).mono ?_
          rintro e W3 ⟨rfl, hx⟩
          go_wp2_with fail
          go_ret
          exact ⟨rfl, hbk.trans (hx.mono hbk.size)⟩
        | some F =>
          rw [hst] at hw
          obtain ⟨hmay, hFc, hF251⟩ := stTo_some xs j F hst
          clear hst
          have hlF := fdone_length F m hF251
          have hDF := Done_some W0.heap.size F m
          have hopen := Open_any (fdone F m) hlF m
          rw [open_back F m hF251] at hopen
          obtain ⟨BF, hBF⟩ : ∃ BF, BF = fdone F m := ⟨_, rfl⟩
          rw [← hBF] at hlF hDF hopen
          have HBF := Lib.hid hBF; clear hBF
          have HDF := Lib.hid hDF; clear hDF
          have HO := Lib.hid hopen; clear hopen
          have HM := Lib.hid hmay; clear hmay
          have HFC := Lib.hid hFc; clear hFc
          go_wp2_with fail
          refine (HDF.out _ hw).mono ?_
          rintro e W3 ⟨rfl, hx⟩
          have e1 := Holds.new W3 BF
          replace hbk := (hbk.trans (hx.mono hbk.size)).alloc (Nat.le_trans hbk.size hx.size) (.cells (cellsOf BF) 23)
          have hb1 : W0.heap.size ≤ W3.heap.size := Nat.le_trans (by have := hw.lt; omega) hx.size
          clear hx hw HDF
          have tok : True := trivial
          go_wp2_with (first | (have _t := tok; refine wpList_store_new rfl 23 _ _ rfl _ _ _ rfl rfl (sizeBlock _ hlF) (by rw [cellsOf_size, cellsOf_size, hlF, zeros_length]) (cellsOf_one _) ?_; generalize hbn : W3.heap.size = b1 at e1 hb1 ⊢; clear hbn; generalize W3.alloc (.cells (cellsOf BF) 23) = V1 at e1 hbk ⊢; clear _t tok) | (refine wpList_load_row rfl 23 _ rfl b1 rfl _ _ _ _ e1 Try.underlying23 rfl (sizeBlock _ hlF) ?_))
          refine (HO.out _).mono ?_
          rintro e W4 ⟨q1, hq1, rfl, hr1, hx⟩
          have hbq : b1 < q1 := Nat.lt_of_lt_of_le e1.lt hq1
          have hqb : W0.heap.size ≤ q1 := by omega
          have HQB := Lib.hid hqb; clear hqb
          replace e1 := e1.below hx e1.lt
          replace hbk := hbk.trans (hx.mono hbk.size)
          clear hx hq1 HO
          go_wp2_with fail
          go_loopw [12] (fun i wr => ∃ k : Nat, k ≤ j ∧ i = .int .i64 k ∧ RIs wr q1 (some (BF, 1 + (catTo xs k).length)) ∧ Holds wr b1 BF ∧ Below W0.heap.size W0 wr) (fun i _ => j - (intOf i).toNat)
          case atStart => exact ⟨0, by omega, rfl, hr1, e1, hbk⟩
          case round =>
            obtain ⟨k, hk, rfl, hr, e2, hbk2⟩ := hrel
            clear hr1 e1 hbk
            by_cases hlt2 : k < j
            · have hkl : k < xs.length := by have := HN.out; omega
              obtain ⟨bs, hbs⟩ := mayTo_at xs j HM.out k hlt2 (by have := HN.out; omega)
              obtain ⟨r, hFr⟩ := catTo_prefix xs (k + 1) (j - (k + 1)) (by have := HN.out; omega)
              rw [show k + 1 + (j - (k + 1)) = j from by omega, ← HFC.out] at hFr
              have hca := catTo_succ xs k hkl
              rcases HX.out.below hbk2 with h0 | ⟨b, off, hpa, hbl, hc⟩
              · omega
              · obtain ⟨⟨c0, c1, c2, c3⟩, hnn, hss⟩ := hc k hkl
                clear hc hss
                subst hpa
                generalize xs[k] = x at *
                obtain ⟨is, xn, xs_, size⟩ := x
                simp only at c0 c1 c2 c3 hnn
                rw [hbs] at hca
                simp only [Option.getD_some] at hca
                rw [hca] at hFr
                have hB2 := HBF.out
                rw [hFr] at hB2
                have hF2 := hF251
                rw [hFr] at hF2
                have hlen2 : (catTo xs (k + 1)).length = (catTo xs k ++ bs).length := by rw [hca]
                have HL2 := Lib.hid hlen2; clear hlen2 hca
                have HFr := Lib.hid hFr; clear hFr
                cases is with
                | true =>
                  have hT : ∀ W, RIs W q1 (some (BF, 1 + (catTo xs k).length)) → Calls Try.prog 30 #[.pointer (some ⟨q1, 0, none⟩), .int .i64 size] W fun e W' => e = .returned (.string xs_) ∧ RIs W' q1 (some (BF, 1 + (catTo xs (k + 1)).length)) ∧ Apart q1 W W' := fun W hW => by
                    have h1 := RText_any (some (BF, 1 + (catTo xs k).length)) q1 size W hW
                    have h2 := takeText_back (catTo xs k) r m xs_ size bs hbs hF2
                    rw [← hB2] at h2
                    rw [h2] at h1
                    rw [HL2.out]
                    exact h1
                  have HT := Lib.hid hT; clear hT hbs hB2 hF2
                  have d0 : (wr.alloc (.cells (itCells ⟨true, xn, xs_, size⟩) 45)).cell? ⟨wr.heap.size, 0, none⟩ = some (.bool true) := (cell_of_row _ _ 0 _ _ _ (heap_alloc_new _ _)).trans rfl
                  have d2 : (wr.alloc (.cells (itCells ⟨true, xn, xs_, size⟩) 45)).cell? ⟨wr.heap.size, 2, none⟩ = some (.string xs_) := (cell_of_row _ _ 2 _ _ _ (heap_alloc_new _ _)).trans rfl
                  have d3 : (wr.alloc (.cells (itCells ⟨true, xn, xs_, size⟩) 45)).cell? ⟨wr.heap.size, 3, none⟩ = some (.int .i64 size) := (cell_of_row _ _ 3 _ _ _ (heap_alloc_new _ _)).trans rfl
                  have hr5 := hr.of_block (w' := wr.alloc (.cells (itCells ⟨true, xn, xs_, size⟩) 45)) (Below.heap_alloc wr _ _ hr.lt)
                  have e5 := e2.alloc (.cells (itCells ⟨true, xn, xs_, size⟩) 45)
                  have hbk5 := hbk2.alloc hbk2.size (.cells (itCells ⟨true, xn, xs_, size⟩) 45)
                  have hqi : q1 ≠ wr.heap.size := by have := hr.lt; omega
                  unfold itCells at d0 d2 d3 hr5 e5 hbk5
                  go_wp2_with fail
                  generalize wr.heap.size = bi at d0 d2 d3 hqi ⊢
                  generalize wr.alloc (.cells #[.bool true, .int .u64 (xn : Int), .string xs_, .int .i64 size] 45) = V at d0 d2 d3 hr5 e5 hbk5 ⊢
                  have hlV : bi < V.heap.size := lt_of_some d0
                  refine wp_region_noPanic ?_
                  refine wp_region_held_drew (S := fun w' => w'.cell? ⟨bi, 0, none⟩ = some (.bool true) ∧ w'.cell? ⟨bi, 2, none⟩ = some (.string xs_) ∧ w'.cell? ⟨bi, 3, none⟩ = some (.int .i64 size)) (by kernel_rfl) ⟨d0, d2, d3⟩ ?_
                  intro hS
                  refine wpAnyH_take (i := 0) (v := .pointer (some ⟨bi, 0, none⟩)) rfl (by kernel_rfl) (by kernel_rfl) (by kernel_rfl) (fun _ _ _ h => (h : False).elim) (Or.inl ⟨by rfl, fun _ _ => by go_simp⟩) hS ?_
                  change wpAnyH _ _ _ _ _ _ _ (Act.put _ (some 64) _) _
                  simp only [Act.put, List.setIfInBounds_toArray, List.set_cons_succ, List.set_cons_zero]
                  refine wpAnyH_take (i := 1) (v := .bool true) rfl (by kernel_rfl) (by kernel_rfl) (by kernel_rfl) (fun _ _ _ h => (h : False).elim) (Or.inl ⟨by rfl, fun w hw => by obtain ⟨c0, c2, c3⟩ := hw; go_simp⟩) hS ?_
                  change wpAnyH _ _ _ _ _ _ _ (Act.put _ (some 65) _) _
                  simp only [Act.put, List.setIfInBounds_toArray, List.set_cons_succ, List.set_cons_zero]
                  refine wpAnyH_take (i := 2) (v := .bool true) rfl (by kernel_rfl) (by kernel_rfl) (by kernel_rfl) (fun _ _ _ h => (h : False).elim) (Or.inl ⟨by rfl, fun _ _ => by go_simp⟩) hS ?_
                  change wpAnyH _ _ _ _ _ _ _ (Act.put _ (some 66) _) _
                  simp only [Act.put, List.setIfInBounds_toArray, List.set_cons_succ, List.set_cons_zero]
                  refine wpAnyH_take (i := 3) (v := .pointer (some ⟨q1, 0, none⟩)) rfl (by kernel_rfl) (by kernel_rfl) (by kernel_rfl) (fun _ _ _ h => (h : False).elim) (Or.inl ⟨by rfl, fun _ _ => by go_simp⟩) hS ?_
                  change wpAnyH _ _ _ _ _ _ _ (Act.put _ (some 67) _) _
                  simp only [Act.put, List.setIfInBounds_toArray, List.set_cons_succ, List.set_cons_zero]
                  refine wpAnyH_take (i := 4) (v := .pointer (some ⟨bi, 3, none⟩)) rfl (by kernel_rfl) (by kernel_rfl) (by kernel_rfl) (fun _ _ _ h => (h : False).elim) (Or.inl ⟨by rfl, fun _ _ => by go_simp⟩) hS ?_
                  change wpAnyH _ _ _ _ _ _ _ (Act.put _ (some 68) _) _
                  simp only [Act.put, List.setIfInBounds_toArray, List.set_cons_succ, List.set_cons_zero]
                  refine wpAnyH_take (i := 5) (v := .int .i64 size) rfl (by kernel_rfl) (by kernel_rfl) (by kernel_rfl) (fun _ _ _ h => (h : False).elim) (Or.inl ⟨by rfl, fun w hw => by obtain ⟨c0, c2, c3⟩ := hw; go_simp⟩) hS ?_
                  change wpAnyH _ _ _ _ _ _ _ (Act.put _ (some 69) _) _
                  simp only [Act.put, List.setIfInBounds_toArray, List.set_cons_succ, List.set_cons_zero]
                  refine wpAnyH_take (i := 7) (v := .pointer (some ⟨bi, 2, none⟩)) rfl (by kernel_rfl) (by kernel_rfl) (by kernel_rfl) (fun _ _ _ h => (h : False).elim) (Or.inl ⟨by rfl, fun _ _ => by go_simp⟩) hS ?_
                  change wpAnyH _ _ _ _ _ _ _ (Act.put _ (some 71) _) _
                  simp only [Act.put, List.setIfInBounds_toArray, List.set_cons_succ, List.set_cons_zero]
                  refine wpAnyH_take (i := 8) (v := .string xs_) rfl (by kernel_rfl) (by kernel_rfl) (by kernel_rfl) (fun _ _ _ h => (h : False).elim) (Or.inl ⟨by rfl, fun w hw => by obtain ⟨c0, c2, c3⟩ := hw; go_simp⟩) hS ?_
                  change wpAnyH _ _ _ _ _ _ _ (Act.put _ (some 72) _) _
                  simp only [Act.put, List.setIfInBounds_toArray, List.set_cons_succ, List.set_cons_zero]
                  refine wpAnyH_ready (rs := [6]) (by kernel_rfl) (by simp) ?_
                  refine AllReadyH.cons rfl (fun K hK => ?_) AllReadyH.nil
                  go_simp
                  refine (HT.out V.drew hr5).mono ?_
                  rintro e W5 ⟨rfl, hr6, ha6⟩
                  replace hS : W5.cell? ⟨bi, 0, none⟩ = some (.bool true) ∧ W5.cell? ⟨bi, 2, none⟩ = some (.string xs_) ∧ W5.cell? ⟨bi, 3, none⟩ = some (.int .i64 size) := ⟨(ha6.cell (q := ⟨bi, 0, none⟩) hlV (Ne.symm hqi)).trans d0, (ha6.cell (q := ⟨bi, 2, none⟩) hlV (Ne.symm hqi)).trans d2, (ha6.cell (q := ⟨bi, 3, none⟩) hlV (Ne.symm hqi)).trans d3⟩
                  dsimp only
                  refine hK.out _ _ hS (fun _ => ?_)
                  clear hK K
                  refine wpAnyH_take (i := 9) (v := .bool false) rfl (by kernel_rfl) (by kernel_rfl) (by kernel_rfl) (fun _ _ _ h => (h : False).elim) (Or.inl ⟨by rfl, fun _ _ => by go_simp⟩) hS ?_
                  change wpAnyH _ _ _ _ _ _ _ (Act.put _ (some 73) _) _
                  simp only [Act.put, List.setIfInBounds_toArray, List.set_cons_succ, List.set_cons_zero]
                  refine wpAnyH_take (i := 10) (v := .bool false) rfl (by kernel_rfl) (by kernel_rfl) (by kernel_rfl) (fun _ _ _ h => (h : False).elim) (Or.inl ⟨by rfl, fun _ _ => by go_simp⟩) hS ?_
                  change wpAnyH _ _ _ _ _ _ _ (Act.put _ (some 74) _) _
                  simp only [Act.put, List.setIfInBounds_toArray, List.set_cons_succ, List.set_cons_zero]
                  refine wpAnyH_take (i := 11) (v := .bool false) rfl (by kernel_rfl) (by kernel_rfl) (by kernel_rfl) (fun _ _ _ h => (h : False).elim) (Or.inl ⟨by rfl, fun _ _ => by go_simp⟩) hS ?_
                  change wpAnyH _ _ _ _ _ _ _ (Act.put _ (some 75) _) _
                  simp only [Act.put, List.setIfInBounds_toArray, List.set_cons_succ, List.set_cons_zero]
                  refine wpAnyH_take (i := 12) (v := .pointer (some ⟨bi, 0, none⟩)) rfl (by kernel_rfl) (by kernel_rfl) (by kernel_rfl) (fun _ _ _ h => (h : False).elim) (Or.inl ⟨by rfl, fun _ _ => by go_simp⟩) hS ?_
                  change wpAnyH _ _ _ _ _ _ _ (Act.put _ (some 76) _) _
                  simp only [Act.put, List.setIfInBounds_toArray, List.set_cons_succ, List.set_cons_zero]
                  refine wpAnyH_take (i := 13) (v := .bool true) rfl (by kernel_rfl) (by kernel_rfl) (by kernel_rfl) (fun _ _ _ h => (h : False).elim) (Or.inl ⟨by rfl, fun w hw => by obtain ⟨c0, c2, c3⟩ := hw; go_simp⟩) hS ?_
                  change wpAnyH _ _ _ _ _ _ _ (Act.put _ (some 77) _) _
                  simp only [Act.put, List.setIfInBounds_toArray, List.set_cons_succ, List.set_cons_zero]
                  refine wpAnyH_take (i := 14) (v := .bool false) rfl (by kernel_rfl) (by kernel_rfl) (by kernel_rfl) (fun _ _ _ h => (h : False).elim) (Or.inl ⟨by rfl, fun _ _ => by go_simp⟩) hS ?_
                  change wpAnyH _ _ _ _ _ _ _ (Act.put _ (some 78) _) _
                  simp only [Act.put, List.setIfInBounds_toArray, List.set_cons_succ, List.set_cons_zero]
                  refine wpAnyH_take (i := 15) (v := .bool false) rfl (by kernel_rfl) (by kernel_rfl) (by kernel_rfl) (fun _ _ _ h => (h : False).elim) (Or.inl ⟨by rfl, fun _ _ => by go_simp⟩) hS ?_
                  change wpAnyH _ _ _ _ _ _ _ (Act.put _ (some 79) _) _
                  simp only [Act.put, List.setIfInBounds_toArray, List.set_cons_succ, List.set_cons_zero]
                  refine wpAnyH_take (i := 16) (v := undef) rfl (by kernel_rfl) (by kernel_rfl) (by kernel_rfl) (fun _ _ _ h => (h : False).elim) (Or.inr ⟨by rfl, rfl⟩) hS ?_
                  change wpAnyH _ _ _ _ _ _ _ (Act.put _ (some 80) _) _
                  simp only [Act.put, List.setIfInBounds_toArray, List.set_cons_succ, List.set_cons_zero]
                  refine wpAnyH_take (i := 17) (v := undef) rfl (by kernel_rfl) (by kernel_rfl) (by kernel_rfl) (fun _ _ _ h => (h : False).elim) (Or.inr ⟨by rfl, rfl⟩) hS ?_
                  change wpAnyH _ _ _ _ _ _ _ (Act.put _ (some 81) _) _
                  simp only [Act.put, List.setIfInBounds_toArray, List.set_cons_succ, List.set_cons_zero]
                  refine wpAnyH_take (i := 18) (v := undef) rfl (by kernel_rfl) (by kernel_rfl) (by kernel_rfl) (fun _ _ _ h => (h : False).elim) (Or.inr ⟨by rfl, rfl⟩) hS ?_
                  change wpAnyH _ _ _ _ _ _ _ (Act.put _ (some 82) _) _
                  simp only [Act.put, List.setIfInBounds_toArray, List.set_cons_succ, List.set_cons_zero]
                  refine wpAnyH_take (i := 19) (v := undef) rfl (by kernel_rfl) (by kernel_rfl) (by kernel_rfl) (fun _ _ _ h => (h : False).elim) (Or.inr ⟨by rfl, rfl⟩) hS ?_
                  change wpAnyH _ _ _ _ _ _ _ (Act.put _ (some 83) _) _
                  simp only [Act.put, List.setIfInBounds_toArray, List.set_cons_succ, List.set_cons_zero]
                  refine wpAnyH_take (i := 20) (v := undef) rfl (by kernel_rfl) (by kernel_rfl) (by kernel_rfl) (fun _ _ _ h => (h : False).elim) (Or.inr ⟨by rfl, rfl⟩) hS ?_
                  change wpAnyH _ _ _ _ _ _ _ (Act.put _ (some 84) _) _
                  simp only [Act.put, List.setIfInBounds_toArray, List.set_cons_succ, List.set_cons_zero]
                  refine wpAnyH_take (i := 21) (v := undef) rfl (by kernel_rfl) (by kernel_rfl) (by kernel_rfl) (fun _ _ _ h => (h : False).elim) (Or.inr ⟨by rfl, rfl⟩) hS ?_
                  change wpAnyH _ _ _ _ _ _ _ (Act.put _ (some 85) _) _
                  simp only [Act.put, List.setIfInBounds_toArray, List.set_cons_succ, List.set_cons_zero]
                  refine wpAnyH_take (i := 22) (v := undef) rfl (by kernel_rfl) (by kernel_rfl) (by kernel_rfl) (fun _ _ _ h => (h : False).elim) (Or.inr ⟨by rfl, rfl⟩) hS ?_
                  change wpAnyH _ _ _ _ _ _ _ (Act.put _ (some 86) _) _
                  simp only [Act.put, List.setIfInBounds_toArray, List.set_cons_succ, List.set_cons_zero]
                  refine wpAnyH_take (i := 23) (v := undef) rfl (by kernel_rfl) (by kernel_rfl) (by kernel_rfl) (fun _ _ _ h => (h : False).elim) (Or.inr ⟨by rfl, rfl⟩) hS ?_
                  change wpAnyH _ _ _ _ _ _ _ (Act.put _ (some 87) _) _
                  simp only [Act.put, List.setIfInBounds_toArray, List.set_cons_succ, List.set_cons_zero]
                  refine wpAnyH_take (i := 24) (v := undef) rfl (by kernel_rfl) (by kernel_rfl) (by kernel_rfl) (fun _ _ _ h => (h : False).elim) (Or.inr ⟨by rfl, rfl⟩) hS ?_
                  change wpAnyH _ _ _ _ _ _ _ (Act.put _ (some 88) _) _
                  simp only [Act.put, List.setIfInBounds_toArray, List.set_cons_succ, List.set_cons_zero]
                  refine wpAnyH_take (i := 25) (v := undef) rfl (by kernel_rfl) (by kernel_rfl) (by kernel_rfl) (fun _ _ _ h => (h : False).elim) (Or.inr ⟨by rfl, rfl⟩) hS ?_
                  change wpAnyH _ _ _ _ _ _ _ (Act.put _ (some 89) _) _
                  simp only [Act.put, List.setIfInBounds_toArray, List.set_cons_succ, List.set_cons_zero]
                  refine wpAnyH_take (i := 26) (v := .bool false) rfl (by kernel_rfl) (by kernel_rfl) (by kernel_rfl) (fun _ _ _ h => (h : False).elim) (Or.inl ⟨by rfl, fun _ _ => by go_simp⟩) hS ?_
                  change wpAnyH _ _ _ _ _ _ _ (Act.put _ (some 90) _) _
                  simp only [Act.put, List.setIfInBounds_toArray, List.set_cons_succ, List.set_cons_zero]
                  refine wpAnyH_take (i := 27) (v := .bool false) rfl (by kernel_rfl) (by kernel_rfl) (by kernel_rfl) (fun _ _ _ h => (h : False).elim) (Or.inl ⟨by rfl, fun _ _ => by go_simp⟩) hS ?_
                  change wpAnyH _ _ _ _ _ _ _ (Act.put _ (some 91) _) _
                  simp only [Act.put, List.setIfInBounds_toArray, List.set_cons_succ, List.set_cons_zero]
                  refine wpAnyH_done (by kernel_rfl) ?_ _
                  refine NoPanic.normal ?_
                  go_wp2_with fail
                  go_roundw
                  case rel => exact ⟨k + 1, by omega, by go_num, hr6, e5.drew_apart ha6 (by omega), hbk5.drew.trans (ha6.below HQB.out hbk5.size)⟩
                  case measure => simp [intOf]; omega
                | false =>
                  have hwd : widthB size = true := by
                    have hq : (numBytes xn size).isSome = true := by
                      have : itBytes ⟨false, xn, xs_, size⟩ = numBytes xn size := rfl
                      rw [← this, hbs]; rfl
                    rw [numBytes_some] at hq
                    exact hq
                  have hT : ∀ W, RIs W q1 (some (BF, 1 + (catTo xs k).length)) → Calls Try.prog 32 #[.pointer (some ⟨q1, 0, none⟩), .int .i64 size] W fun e W' => e = .returned (.int .u64 ((xn % 256 ^ numSz size : Nat) : Int)) ∧ RIs W' q1 (some (BF, 1 + (catTo xs (k + 1)).length)) ∧ Apart q1 W W' := fun W hW => by
                    have h1 := RNum_any (some (BF, 1 + (catTo xs k).length)) q1 size W hW
                    have h2 := takeNum_back (catTo xs k) r m xn size bs hbs hF2
                    rw [← hB2] at h2
                    rw [h2] at h1
                    rw [HL2.out]
                    exact h1
                  have hC : ∀ W, Calls Try.prog 36 #[.int .u64 (xn : Int), .int .i64 size] W fun e W' => e = .returned (.int .u64 ((xn % 256 ^ numSz size : Nat) : Int)) ∧ W = W' := fun W => cut_any xn hnn size hwd W
                  generalize xn % 256 ^ numSz size = y at hT hC
                  have HT := Lib.hid hT; clear hT hbs hB2 hF2
                  have HC := Lib.hid hC; clear hC
                  have d0 : (wr.alloc (.cells (itCells ⟨false, xn, xs_, size⟩) 45)).cell? ⟨wr.heap.size, 0, none⟩ = some (.bool false) := (cell_of_row _ _ 0 _ _ _ (heap_alloc_new _ _)).trans rfl
                  have d2 : (wr.alloc (.cells (itCells ⟨false, xn, xs_, size⟩) 45)).cell? ⟨wr.heap.size, 1, none⟩ = some (.int .u64 (xn : Int)) := (cell_of_row _ _ 1 _ _ _ (heap_alloc_new _ _)).trans rfl
                  have d3 : (wr.alloc (.cells (itCells ⟨false, xn, xs_, size⟩) 45)).cell? ⟨wr.heap.size, 3, none⟩ = some (.int .i64 size) := (cell_of_row _ _ 3 _ _ _ (heap_alloc_new _ _)).trans rfl
                  have hr5 := hr.of_block (w' := wr.alloc (.cells (itCells ⟨false, xn, xs_, size⟩) 45)) (Below.heap_alloc wr _ _ hr.lt)
                  have e5 := e2.alloc (.cells (itCells ⟨false, xn, xs_, size⟩) 45)
                  have hbk5 := hbk2.alloc hbk2.size (.cells (itCells ⟨false, xn, xs_, size⟩) 45)
                  have hqi : q1 ≠ wr.heap.size := by have := hr.lt; omega
                  unfold itCells at d0 d2 d3 hr5 e5 hbk5
                  go_wp2_with fail
                  generalize wr.heap.size = bi at d0 d2 d3 hqi ⊢
                  generalize wr.alloc (.cells #[.bool false, .int .u64 (xn : Int), .string xs_, .int .i64 size] 45) = V at d0 d2 d3 hr5 e5 hbk5 ⊢
                  have hlV : bi < V.heap.size := lt_of_some d0
                  refine wp_region_noPanic ?_
                  refine wp_region_held_drew (S := fun w' => w'.cell? ⟨bi, 0, none⟩ = some (.bool false) ∧ w'.cell? ⟨bi, 1, none⟩ = some (.int .u64 (xn : Int)) ∧ w'.cell? ⟨bi, 3, none⟩ = some (.int .i64 size)) (by kernel_rfl) ⟨d0, d2, d3⟩ ?_
                  intro hS
                  refine wpAnyH_take (i := 0) (v := .pointer (some ⟨bi, 0, none⟩)) rfl (by kernel_rfl) (by kernel_rfl) (by kernel_rfl) (fun _ _ _ h => (h : False).elim) (Or.inl ⟨by rfl, fun _ _ => by go_simp⟩) hS ?_
                  change wpAnyH _ _ _ _ _ _ _ (Act.put _ (some 64) _) _
                  simp only [Act.put, List.setIfInBounds_toArray, List.set_cons_succ, List.set_cons_zero]
                  refine wpAnyH_take (i := 1) (v := .bool false) rfl (by kernel_rfl) (by kernel_rfl) (by kernel_rfl) (fun _ _ _ h => (h : False).elim) (Or.inl ⟨by rfl, fun w hw => by obtain ⟨c0, c2, c3⟩ := hw; go_simp⟩) hS ?_
                  change wpAnyH _ _ _ _ _ _ _ (Act.put _ (some 65) _) _
                  simp only [Act.put, List.setIfInBounds_toArray, List.set_cons_succ, List.set_cons_zero]
                  refine wpAnyH_take (i := 2) (v := .bool false) rfl (by kernel_rfl) (by kernel_rfl) (by kernel_rfl) (fun _ _ _ h => (h : False).elim) (Or.inl ⟨by rfl, fun _ _ => by go_simp⟩) hS ?_
                  change wpAnyH _ _ _ _ _ _ _ (Act.put _ (some 66) _) _
                  simp only [Act.put, List.setIfInBounds_toArray, List.set_cons_succ, List.set_cons_zero]
                  refine wpAnyH_take (i := 3) (v := undef) rfl (by kernel_rfl) (by kernel_rfl) (by kernel_rfl) (fun _ _ _ h => (h : False).elim) (Or.inr ⟨by rfl, rfl⟩) hS ?_
                  change wpAnyH _ _ _ _ _ _ _ (Act.put _ (some 67) _) _
                  simp only [Act.put, List.setIfInBounds_toArray, List.set_cons_succ, List.set_cons_zero]
                  refine wpAnyH_take (i := 4) (v := undef) rfl (by kernel_rfl) (by kernel_rfl) (by kernel_rfl) (fun _ _ _ h => (h : False).elim) (Or.inr ⟨by rfl, rfl⟩) hS ?_
                  change wpAnyH _ _ _ _ _ _ _ (Act.put _ (some 68) _) _
                  simp only [Act.put, List.setIfInBounds_toArray, List.set_cons_succ, List.set_cons_zero]
                  refine wpAnyH_take (i := 5) (v := undef) rfl (by kernel_rfl) (by kernel_rfl) (by kernel_rfl) (fun _ _ _ h => (h : False).elim) (Or.inr ⟨by rfl, rfl⟩) hS ?_
                  change wpAnyH _ _ _ _ _ _ _ (Act.put _ (some 69) _) _
                  simp only [Act.put, List.setIfInBounds_toArray, List.set_cons_succ, List.set_cons_zero]
                  refine wpAnyH_take (i := 6) (v := undef) rfl (by kernel_rfl) (by kernel_rfl) (by kernel_rfl) (fun _ _ _ h => (h : False).elim) (Or.inr ⟨by rfl, rfl⟩) hS ?_
                  change wpAnyH _ _ _ _ _ _ _ (Act.put _ (some 70) _) _
                  simp only [Act.put, List.setIfInBounds_toArray, List.set_cons_succ, List.set_cons_zero]
                  refine wpAnyH_take (i := 7) (v := undef) rfl (by kernel_rfl) (by kernel_rfl) (by kernel_rfl) (fun _ _ _ h => (h : False).elim) (Or.inr ⟨by rfl, rfl⟩) hS ?_
                  change wpAnyH _ _ _ _ _ _ _ (Act.put _ (some 71) _) _
                  simp only [Act.put, List.setIfInBounds_toArray, List.set_cons_succ, List.set_cons_zero]
                  refine wpAnyH_take (i := 8) (v := undef) rfl (by kernel_rfl) (by kernel_rfl) (by kernel_rfl) (fun _ _ _ h => (h : False).elim) (Or.inr ⟨by rfl, rfl⟩) hS ?_
                  change wpAnyH _ _ _ _ _ _ _ (Act.put _ (some 72) _) _
                  simp only [Act.put, List.setIfInBounds_toArray, List.set_cons_succ, List.set_cons_zero]
                  refine wpAnyH_take (i := 9) (v := undef) rfl (by kernel_rfl) (by kernel_rfl) (by kernel_rfl) (fun _ _ _ h => (h : False).elim) (Or.inr ⟨by rfl, rfl⟩) hS ?_
                  change wpAnyH _ _ _ _ _ _ _ (Act.put _ (some 73) _) _
                  simp only [Act.put, List.setIfInBounds_toArray, List.set_cons_succ, List.set_cons_zero]
                  refine wpAnyH_take (i := 10) (v := .bool false) rfl (by kernel_rfl) (by kernel_rfl) (by kernel_rfl) (fun _ _ _ h => (h : False).elim) (Or.inl ⟨by rfl, fun _ _ => by go_simp⟩) hS ?_
                  change wpAnyH _ _ _ _ _ _ _ (Act.put _ (some 74) _) _
                  simp only [Act.put, List.setIfInBounds_toArray, List.set_cons_succ, List.set_cons_zero]
                  refine wpAnyH_take (i := 11) (v := .bool false) rfl (by kernel_rfl) (by kernel_rfl) (by kernel_rfl) (fun _ _ _ h => (h : False).elim) (Or.inl ⟨by rfl, fun _ _ => by go_simp⟩) hS ?_
                  change wpAnyH _ _ _ _ _ _ _ (Act.put _ (some 75) _) _
                  simp only [Act.put, List.setIfInBounds_toArray, List.set_cons_succ, List.set_cons_zero]
                  refine wpAnyH_take (i := 12) (v := .pointer (some ⟨bi, 0, none⟩)) rfl (by kernel_rfl) (by kernel_rfl) (by kernel_rfl) (fun _ _ _ h => (h : False).elim) (Or.inl ⟨by rfl, fun _ _ => by go_simp⟩) hS ?_
                  change wpAnyH _ _ _ _ _ _ _ (Act.put _ (some 76) _) _
                  simp only [Act.put, List.setIfInBounds_toArray, List.set_cons_succ, List.set_cons_zero]
                  refine wpAnyH_take (i := 13) (v := .bool false) rfl (by kernel_rfl) (by kernel_rfl) (by kernel_rfl) (fun _ _ _ h => (h : False).elim) (Or.inl ⟨by rfl, fun w hw => by obtain ⟨c0, c2, c3⟩ := hw; go_simp⟩) hS ?_
                  change wpAnyH _ _ _ _ _ _ _ (Act.put _ (some 77) _) _
                  simp only [Act.put, List.setIfInBounds_toArray, List.set_cons_succ, List.set_cons_zero]
                  refine wpAnyH_take (i := 14) (v := .bool true) rfl (by kernel_rfl) (by kernel_rfl) (by kernel_rfl) (fun _ _ _ h => (h : False).elim) (Or.inl ⟨by rfl, fun _ _ => by go_simp⟩) hS ?_
                  change wpAnyH _ _ _ _ _ _ _ (Act.put _ (some 78) _) _
                  simp only [Act.put, List.setIfInBounds_toArray, List.set_cons_succ, List.set_cons_zero]
                  refine wpAnyH_take (i := 15) (v := .bool true) rfl (by kernel_rfl) (by kernel_rfl) (by kernel_rfl) (fun _ _ _ h => (h : False).elim) (Or.inl ⟨by rfl, fun _ _ => by go_simp⟩) hS ?_
                  change wpAnyH _ _ _ _ _ _ _ (Act.put _ (some 79) _) _
                  simp only [Act.put, List.setIfInBounds_toArray, List.set_cons_succ, List.set_cons_zero]
                  refine wpAnyH_take (i := 16) (v := .pointer (some ⟨q1, 0, none⟩)) rfl (by kernel_rfl) (by kernel_rfl) (by kernel_rfl) (fun _ _ _ h => (h : False).elim) (Or.inl ⟨by rfl, fun _ _ => by go_simp⟩) hS ?_
                  change wpAnyH _ _ _ _ _ _ _ (Act.put _ (some 80) _) _
                  simp only [Act.put, List.setIfInBounds_toArray, List.set_cons_succ, List.set_cons_zero]
                  refine wpAnyH_take (i := 17) (v := .pointer (some ⟨bi, 3, none⟩)) rfl (by kernel_rfl) (by kernel_rfl) (by kernel_rfl) (fun _ _ _ h => (h : False).elim) (Or.inl ⟨by rfl, fun _ _ => by go_simp⟩) hS ?_
                  change wpAnyH _ _ _ _ _ _ _ (Act.put _ (some 81) _) _
                  simp only [Act.put, List.setIfInBounds_toArray, List.set_cons_succ, List.set_cons_zero]
                  refine wpAnyH_take (i := 18) (v := .int .i64 size) rfl (by kernel_rfl) (by kernel_rfl) (by kernel_rfl) (fun _ _ _ h => (h : False).elim) (Or.inl ⟨by rfl, fun w hw => by obtain ⟨c0, c2, c3⟩ := hw; go_simp⟩) hS ?_
                  change wpAnyH _ _ _ _ _ _ _ (Act.put _ (some 82) _) _
                  simp only [Act.put, List.setIfInBounds_toArray, List.set_cons_succ, List.set_cons_zero]
                  refine wpAnyH_take (i := 20) (v := .pointer (some ⟨bi, 1, none⟩)) rfl (by kernel_rfl) (by kernel_rfl) (by kernel_rfl) (fun _ _ _ h => (h : False).elim) (Or.inl ⟨by rfl, fun _ _ => by go_simp⟩) hS ?_
                  change wpAnyH _ _ _ _ _ _ _ (Act.put _ (some 84) _) _
                  simp only [Act.put, List.setIfInBounds_toArray, List.set_cons_succ, List.set_cons_zero]
                  refine wpAnyH_take (i := 21) (v := .int .u64 (xn : Int)) rfl (by kernel_rfl) (by kernel_rfl) (by kernel_rfl) (fun _ _ _ h => (h : False).elim) (Or.inl ⟨by rfl, fun w hw => by obtain ⟨c0, c2, c3⟩ := hw; go_simp⟩) hS ?_
                  change wpAnyH _ _ _ _ _ _ _ (Act.put _ (some 85) _) _
                  simp only [Act.put, List.setIfInBounds_toArray, List.set_cons_succ, List.set_cons_zero]
                  refine wpAnyH_take (i := 22) (v := .pointer (some ⟨bi, 3, none⟩)) rfl (by kernel_rfl) (by kernel_rfl) (by kernel_rfl) (fun _ _ _ h => (h : False).elim) (Or.inl ⟨by rfl, fun _ _ => by go_simp⟩) hS ?_
                  change wpAnyH _ _ _ _ _ _ _ (Act.put _ (some 86) _) _
                  simp only [Act.put, List.setIfInBounds_toArray, List.set_cons_succ, List.set_cons_zero]
                  refine wpAnyH_take (i := 23) (v := .int .i64 size) rfl (by kernel_rfl) (by kernel_rfl) (by kernel_rfl) (fun _ _ _ h => (h : False).elim) (Or.inl ⟨by rfl, fun w hw => by obtain ⟨c0, c2, c3⟩ := hw; go_simp⟩) hS ?_
                  change wpAnyH _ _ _ _ _ _ _ (Act.put _ (some 87) _) _
                  simp only [Act.put, List.setIfInBounds_toArray, List.set_cons_succ, List.set_cons_zero]
                  refine wpAnyH_ready (rs := [19]) (by kernel_rfl) (by simp) ?_
                  refine AllReadyH.cons rfl (fun K hK => ?_) AllReadyH.nil
                  go_simp
                  refine (HT.out V.drew hr5).mono ?_
                  rintro e W5 ⟨rfl, hr6, ha6⟩
                  replace hS : W5.cell? ⟨bi, 0, none⟩ = some (.bool false) ∧ W5.cell? ⟨bi, 1, none⟩ = some (.int .u64 (xn : Int)) ∧ W5.cell? ⟨bi, 3, none⟩ = some (.int .i64 size) := ⟨(ha6.cell (q := ⟨bi, 0, none⟩) hlV (Ne.symm hqi)).trans d0, (ha6.cell (q := ⟨bi, 1, none⟩) hlV (Ne.symm hqi)).trans d2, (ha6.cell (q := ⟨bi, 3, none⟩) hlV (Ne.symm hqi)).trans d3⟩
                  dsimp only
                  refine hK.out _ _ hS (fun _ => ?_)
                  clear hK K
                  refine wpAnyH_ready (rs := [24]) (by kernel_rfl) (by simp) ?_
                  refine AllReadyH.cons rfl (fun K hK => ?_) AllReadyH.nil
                  go_simp
                  refine (HC.out W5).mono ?_
                  rintro e W6 ⟨rfl, rfl⟩
                  dsimp only
                  refine hK.out _ _ hS (fun _ => ?_)
                  clear hK K
                  refine wpAnyH_take (i := 25) (v := .bool false) rfl (by kernel_rfl) (by kernel_rfl) (by kernel_rfl) (fun _ _ _ h => (h : False).elim) (Or.inl ⟨by rfl, fun _ _ => by go_simp⟩) hS ?_
                  change wpAnyH _ _ _ _ _ _ _ (Act.put _ (some 89) _) _
                  simp only [Act.put, List.setIfInBounds_toArray, List.set_cons_succ, List.set_cons_zero]
                  refine wpAnyH_take (i := 26) (v := .bool false) rfl (by kernel_rfl) (by kernel_rfl) (by kernel_rfl) (fun _ _ _ h => (h : False).elim) (Or.inl ⟨by rfl, fun _ _ => by go_simp⟩) hS ?_
                  change wpAnyH _ _ _ _ _ _ _ (Act.put _ (some 90) _) _
                  simp only [Act.put, List.setIfInBounds_toArray, List.set_cons_succ, List.set_cons_zero]
                  refine wpAnyH_take (i := 27) (v := .bool false) rfl (by kernel_rfl) (by kernel_rfl) (by kernel_rfl) (fun _ _ _ h => (h : False).elim) (Or.inl ⟨by rfl, fun _ _ => by go_simp⟩) hS ?_
                  change wpAnyH _ _ _ _ _ _ _ (Act.put _ (some 91) _) _
                  simp only [Act.put, List.setIfInBounds_toArray, List.set_cons_succ, List.set_cons_zero]
                  refine wpAnyH_done (by kernel_rfl) ?_ _
                  refine NoPanic.normal ?_
                  go_wp2_with fail
                  go_roundw
                  case rel => exact ⟨k + 1, by omega, by go_num, hr6, e5.drew_apart ha6 (by omega), hbk5.drew.trans (ha6.below HQB.out hbk5.size)⟩
                  case measure => simp [intOf]; omega
            · obtain rfl : k = j := by omega
              have hgood : sealB BF = BF := by rw [HBF.out]; exact fdone_good F m hF251
              have hend := End_any (some (BF, 1 + (catTo xs k).length)) q1
              rw [show endE (some (BF, 1 + (catTo xs k).length)) = 0 from by rw [HBF.out, ← HFC.out]; exact end_back F m hF251] at hend
              generalize 1 + (catTo xs k).length = L at hr hend
              have HE := Lib.hid hend; clear hend
              obtain ⟨T, hT⟩ : ∃ T, T = t % 2048 := ⟨_, rfl⟩
              have hk8 : T < 2048 := by omega
              have hturn := turn_bad hlF hgood T hk8
              have hq8 : T / 8 < BF.length := by omega
              have hTi : (t : Int) % 2048 = (T : Int) := by omega
              have HT := Lib.hid hT; clear hT
              have HTU := Lib.hid hturn; clear hturn
              have HGD := Lib.hid hgood; clear hgood
              have tok : True := trivial
              have e3 := Holds.new wr BF
              have e2' := e2.alloc (.cells (cellsOf BF) 23)
              have hr2 := hr.of_block (w' := wr.alloc (.cells (cellsOf BF) 23)) (Below.heap_alloc wr _ _ hr.lt)
              have hbk4 := hbk2.alloc hbk2.size (.cells (cellsOf BF) 23)
              have hb12 : b1 < wr.heap.size := e2.lt
              have hq12 : q1 < wr.heap.size := hr.lt
              go_wp2_with (first | (have _t := tok; refine wpList_store_new rfl 23 _ _ rfl _ _ _ rfl rfl (sizeBlock _ hlF) (by rw [cellsOf_size, cellsOf_size, hlF, zeros_length]) (cellsOf_one _) ?_; generalize hbn : wr.heap.size = b2 at e3 hb12 hq12 ⊢; clear hbn; generalize wr.alloc (.cells (cellsOf BF) 23) = V1 at e3 e2' hr2 hbk4 ⊢; clear _t tok; have cT := e3.cell (T / 8) hq8; have fT := e3.frozen (T / 8)) | (refine wpList_load_row rfl 23 _ rfl b1 rfl _ _ _ _ e2 Try.underlying23 rfl (sizeBlock _ hlF) ?_))
              rw [turn_val BF[T / 8] T]
              have e5 := e3.set_ (T / 8) (UInt8.ofNat (BF[T / 8].toNat ^^^ 2 ^ (T % 8)))
              have e6 := e2'.other ⟨b2, T / 8, none⟩ (.int .u8 ((UInt8.ofNat (BF[T / 8].toNat ^^^ 2 ^ (T % 8))).toNat : Int)) (by simp; omega)
              replace hr2 := hr2.of_block (w' := V1.setCell ⟨b2, T / 8, none⟩ (.int .u8 ((UInt8.ofNat (BF[T / 8].toNat ^^^ 2 ^ (T % 8))).toNat : Int))) (heap_setCell_other V1 _ _ _ (by simp; omega))
              have hb02 : W0.heap.size ≤ b2 := by omega
              replace hbk4 := hbk4.setCell (p := ⟨b2, T / 8, none⟩) hb02 (.int .u8 ((UInt8.ofNat (BF[T / 8].toNat ^^^ 2 ^ (T % 8))).toNat : Int))
              have hCl : (BF.set (T / 8) (UInt8.ofNat (BF[T / 8].toNat ^^^ 2 ^ (T % 8)))).length = 256 := by rw [List.length_set, hlF]
              have hO2 := Open_any BF hlF (m + 1)
              rw [show openSt BF (m + 1) = none from by rw [HBF.out]; exact open_next F m (m + 1) (ne_next m)] at hO2
              have hO3 := Open_any _ hCl m
              rw [show openSt (BF.set (T / 8) (UInt8.ofNat (BF[T / 8].toNat ^^^ 2 ^ (T % 8)))) m = none from if_neg (fun h => HTU.out h.2)] at hO3
              generalize V1.setCell ⟨b2, T / 8, none⟩ (.int .u8 ((UInt8.ofNat (BF[T / 8].toNat ^^^ 2 ^ (T % 8))).toNat : Int)) = V2 at e5 e6 hr2 hbk4 ⊢
              clear cT fT e2 e2' e3 hr hbk2 HTU
              generalize BF.set (T / 8) (UInt8.ofNat (BF[T / 8].toNat ^^^ 2 ^ (T % 8))) = C at e5 hCl hO3
              have hm1 : IntKind.u8.wrap ((m.toNat : Int) + 1) = ((m + 1).toNat : Int) := wrap_next m
              have hm2 : ((m.toNat : Int) + 1) % 256 = ((m + 1).toNat : Int) := by rw [← hm1, IntKind.wrap_u8]
              generalize m + 1 = m1 at hm1 hm2 hO2
              have HO2 := Lib.hid hO2; clear hO2
              have HO3 := Lib.hid hO3; clear hO3
              refine wp_region_noPanic ?_
              refine wp_region_held_drew (S := fun w' => Holds w' b1 BF ∧ Holds w' b2 C) (by kernel_rfl) ⟨e6, e5⟩ ?_
              intro hS
              have hr1' : RIs V2.drew q1 (some (BF, L)) := hr2
              clear hr2
              replace hbk4 := hbk4.drew
              clear e5 e6
              generalize V2.drew = V3 at hS hr1' hbk4 ⊢
              have hv3 : W0.heap.size ≤ V3.heap.size := hbk4.size
              refine wpAnyH_take (i := 0) (v := .agg (cellsOf BF)) rfl (by kernel_rfl) (by kernel_rfl) (by kernel_rfl) (fun _ _ _ h => (h : False).elim) (yieldsIf_load_row (by rfl) 23 _ rfl b1 rfl _ _ _ _ (fun _ h => h.1) Try.underlying23 rfl (sizeBlock _ hlF)) hS ?_
              change wpAnyH _ _ _ _ _ _ _ (Act.put _ (some 108) _) _
              simp only [Act.put, List.setIfInBounds_toArray, List.set_cons_succ, List.set_cons_zero]
              refine wpAnyH_take (i := 1) (v := .int .u8 (m.toNat : Int)) rfl (by kernel_rfl) (by kernel_rfl) (by kernel_rfl) (fun _ _ _ h => (h : False).elim) (Or.inl ⟨by rfl, fun _ _ => by go_simp⟩) hS ?_
              change wpAnyH _ _ _ _ _ _ _ (Act.put _ (some 109) _) _
              simp only [Act.put, List.setIfInBounds_toArray, List.set_cons_succ, List.set_cons_zero]
              refine wpAnyH_take (i := 2) (v := .int .u8 (m1.toNat : Int)) rfl (by kernel_rfl) (by kernel_rfl) (by kernel_rfl) (fun _ _ _ h => (h : False).elim) (Or.inl ⟨by rfl, fun _ _ => by go_simp⟩) hS ?_
              change wpAnyH _ _ _ _ _ _ _ (Act.put _ (some 110) _) _
              simp only [Act.put, List.setIfInBounds_toArray, List.set_cons_succ, List.set_cons_zero]
              refine wpAnyH_take (i := 4) (v := .agg (cellsOf C)) rfl (by kernel_rfl) (by kernel_rfl) (by kernel_rfl) (fun _ _ _ h => (h : False).elim) (yieldsIf_load_row (by rfl) 23 _ rfl b2 rfl _ _ _ _ (fun _ h => h.2) Try.underlying23 rfl (sizeBlock _ hCl)) hS ?_
              change wpAnyH _ _ _ _ _ _ _ (Act.put _ (some 112) _) _
              simp only [Act.put, List.setIfInBounds_toArray, List.set_cons_succ, List.set_cons_zero]
              refine wpAnyH_take (i := 5) (v := .int .u8 (m.toNat : Int)) rfl (by kernel_rfl) (by kernel_rfl) (by kernel_rfl) (fun _ _ _ h => (h : False).elim) (Or.inl ⟨by rfl, fun _ _ => by go_simp⟩) hS ?_
              change wpAnyH _ _ _ _ _ _ _ (Act.put _ (some 113) _) _
              simp only [Act.put, List.setIfInBounds_toArray, List.set_cons_succ, List.set_cons_zero]
              refine wpAnyH_ready (rs := [3]) (by kernel_rfl) (by simp) ?_
              refine AllReadyH.cons rfl (fun K hK => ?_) AllReadyH.nil
              go_simp
              refine (HO2.out _).mono ?_
              rintro e W8 ⟨q2, hq2, rfl, hr2, hx⟩
              have hz2 : q2 < W8.heap.size := hr2.lt
              replace hS : Holds W8 b1 BF ∧ Holds W8 b2 C := ⟨hS.1.below hx hS.1.lt, hS.2.below hx hS.2.lt⟩
              replace hr1' := hr1'.below hx
              replace hbk4 := hbk4.trans (hx.mono hbk4.size)
              dsimp only
              refine hK.out _ _ hS (fun _ => ?_)
              clear hK K hx
              refine wpAnyH_ready (rs := [6]) (by kernel_rfl) (by simp) ?_
              refine AllReadyH.cons rfl (fun K hK => ?_) AllReadyH.nil
              go_simp
              refine (HO3.out _).mono ?_
              rintro e W8 ⟨q3, hq3, rfl, hr3, hx⟩
              have hz3 : q3 < W8.heap.size := hr3.lt
              replace hr2 := hr2.below hx
              replace hS : Holds W8 b1 BF ∧ Holds W8 b2 C := ⟨hS.1.below hx hS.1.lt, hS.2.below hx hS.2.lt⟩
              replace hr1' := hr1'.below hx
              replace hbk4 := hbk4.trans (hx.mono hbk4.size)
              dsimp only
              refine hK.out _ _ hS (fun _ => ?_)
              clear hK K hx
              refine wpAnyH_take (i := 7) (v := .pointer (some ⟨q2, 0, none⟩)) rfl (by kernel_rfl) (by kernel_rfl) (by kernel_rfl) (fun _ _ _ h => (h : False).elim) (Or.inl ⟨by rfl, fun _ _ => by go_simp⟩) hS ?_
              change wpAnyH _ _ _ _ _ _ _ (Act.put _ (some 16) _) _
              simp only [Act.put, List.setIfInBounds_toArray, List.set_cons_succ, List.set_cons_zero]
              refine wpAnyH_take (i := 8) (v := .pointer (some ⟨q3, 0, none⟩)) rfl (by kernel_rfl) (by kernel_rfl) (by kernel_rfl) (fun _ _ _ h => (h : False).elim) (Or.inl ⟨by rfl, fun _ _ => by go_simp⟩) hS ?_
              change wpAnyH _ _ _ _ _ _ _ (Act.put _ (some 17) _) _
              simp only [Act.put, List.setIfInBounds_toArray, List.set_cons_succ, List.set_cons_zero]
              refine wpAnyH_done (by kernel_rfl) ?_ _
              refine NoPanic.normal ?_
              have e1' := hS.1
              have hq32 : q2 ≠ q3 := by omega
              have hq20 : W0.heap.size ≤ q2 := by omega
              clear hS hq2 hq3 hz2 hz3
              go_wp2_with fail
              refine (Fine_any _ q1 _ hr1').mono ?_
              rintro e W9 ⟨rfl, rfl⟩
              rw [show (some (BF, L)).isSome = true from rfl]
              go_wp2_with fail
              refine (HE.out _ hr1').mono ?_
              rintro e W9 ⟨rfl, hx⟩
              replace e1' := e1'.below hx e1'.lt
              replace hr2 := hr2.below hx
              replace hr3 := hr3.below hx
              replace hbk4 := hbk4.trans (hx.mono hbk4.size)
              clear hx hr1'
              go_wp2_with (refine wpList_load_want rfl 23 _ rfl b1 rfl _ _ _ _ e1' Try.underlying23 rfl (sizeBlock _ hlF) ?_)
              refine (refGood_any BF hlF _).mono ?_
              rw [decide_eq_true HGD.out]
              rintro e W9' ⟨rfl, hx⟩
              replace hr2 := hr2.below hx
              replace hr3 := hr3.below hx
              replace hbk4 := hbk4.trans (hx.mono hbk4.size)
              clear hx e1'
              go_wp2_with fail
              refine (R_none q2 _ hr2).mono ?_
              rintro e W9 ⟨rfl, rfl⟩
              go_wp2_with fail
              refine (R_none q3 _ hr3).mono ?_
              rintro e W9 ⟨rfl, rfl⟩
              go_wp2_with fail
              refine (RNum_any none q2 1 _ hr2).mono ?_
              rintro e W9 ⟨rfl, hr2', hx⟩
              replace hr3 := hr3.apart hx (by omega)
              replace hbk4 := hbk4.trans (hx.below (by omega) hbk4.size)
              clear hx hr2 hr2'
              rw [show ((takeNum none 1).1 : Int) = 0 from rfl]
              go_wp2_with fail
              refine (End_any none q3 _ hr3).mono ?_
              rintro e W9 ⟨rfl, hx⟩
              rw [show endE none = 250 from rfl]
              replace hbk4 := hbk4.trans (hx.mono hbk4.size)
              clear hx
              go_wp2_with fail
              refine (head_any _).mono ?_
              rintro e W9 ⟨rfl, hx⟩
              go_wp2_with fail
              go_ret
              exact ⟨rfl, hbk4.trans (hx.mono hbk4.size)⟩
  · go_wp2_with fail
    refine (head_any _).mono ?_
    rintro e W ⟨rfl, hb⟩
    go_wp2_with fail
    go_ret
    exact ⟨rfl, hb⟩

end Go.Proofs.Ytfefpdaohclgfaa.Fld
