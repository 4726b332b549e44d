/-
  The walk of the law FieldPrefix.
-/
import Derived.Test.YtfefpdaohclgfaaFldDoneMath
namespace Go.Proofs.Ytfefpdaohclgfaa.Fld
open Go.RowKit RowLaw Crc

theorem ret_true {b : Bool} (h : b = true) : Ending.returned (.bool b) = .returned (.bool true) := by rw [h]
theorem kmod (c : UInt8) (n : Nat) : ((c.toNat : Int) % ((n : Int) + 1)) = ((c.toNat % (n + 1) : Nat) : Int) := by
  rw [Int.natCast_emod]; rfl

theorem conv_front (V : World) (b : Nat) (B l : List UInt8) (L : Nat) (hB : B.length = 256) (ht : B.take (1 + L) = l) (hl : l.length = 1 + L) (h : Holds V b B) (nq : Nat) :
    (convert 35 9 (.slice (some ⟨b, 0, none⟩) (1 + L) 256)).run Try.prog (V.drewN nq) = .ok (.string ⟨l.toArray⟩) (V.drewN nq) := by
  have hLB : 1 + L ≤ 256 := by rw [← ht, List.length_take] at hl; omega
  have := run_convert_bytes_back (P := Try.prog) (V.drewN nq) 35 9 5 ⟨b, 0, none⟩ 256 l Try.underlying35 Try.underlying5 Try.underlying9 (fun j hj => by
    have hj2 : j < B.length := by omega
    have hh : Holds (V.drewN nq) b B := h
    rw [Addr.add_mid, Nat.zero_add, hh.cell j hj2]
    subst ht
    simp)
  rw [hl] at this
  exact this

set_option maxRecDepth 100000 in
set_option maxHeartbeats 3200000 in
theorem prefix_any (pa : Option Addr) (cap : Nat) (xs : List It) (m c : UInt8) (hlen : xs.length ≤ maxLen) (w : World) (hx : Items w pa xs) :
    Calls Try.prog 11 #[.slice pa xs.length cap, .int .u8 (m.toNat : Int), .int .u8 (c.toNat : Int)] w fun e w' => e = .returned (.bool true) ∧ Below w.heap.size w w' := by
  have hgreat := great_any pa cap xs hlen w hx
  obtain ⟨n, hn⟩ : ∃ n, n = xs.length := ⟨_, rfl⟩
  rw [← hn] at hgreat ⊢
  have HG := Lib.hid hgreat; clear hgreat
  have HN := Lib.hid hn; clear hn
  have HX := Lib.hid hx; clear hx
  have hzv := (zero_of_info infoBlock).1
  go_enter Try.func11, Try.ntmps11
  go_wp2_with fail
  refine HG.out.mono ?_
  rintro e W0 ⟨⟨g, rfl, hg⟩, rfl⟩
  cases g
  · have hn100 : n ≤ 100 := hg rfl
    have hcl := c.toNat_lt
    clear hg HG
    go_wp2_with fail
    refine (New_any W0).mono ?_
    rintro e W1 ⟨rfl, hw1, hb1⟩
    go_wp2_with fail
    refine (New_any W1).mono ?_
    rintro e W2 ⟨rfl, hv2, hb2⟩
    have hw2 := hw1.below hb2
    have hp12 := hw1.lt
    replace hb2 := hb1.trans (hb2.mono hb1.size)
    clear hw1 hb1
    generalize hp2 : W1.heap.size = p2 at hv2 hp12 ⊢
    clear hp2
    go_wp2_with fail
    rw [kmod]
    have hKn : c.toNat % (n + 1) ≤ n := by have := Nat.mod_lt c.toNat (show 0 < n + 1 by omega); omega
    generalize c.toNat % (n + 1) = K at hKn ⊢
    go_loopw [10, 11] (fun t i wr => ∃ j : Nat, j ≤ n ∧ i = .int .i64 j ∧ t = .int .i64 ((catTo xs (min j K)).length : Int) ∧ WIs wr W0.heap.size (stTo xs j) ∧ WIs wr p2 (stTo xs (min j K)) ∧ Below W0.heap.size W0 wr) (fun _ i _ => n - (intOf i).toNat)
    case atStart => exact ⟨0, by omega, rfl, by rw [Nat.zero_min]; rfl, hw2, by rw [Nat.zero_min]; exact hv2, hb2⟩
    case round =>
      obtain ⟨j, hj, rfl, rfl, hw, hv, hbk⟩ := hrel
      clear hw2 hv2 hb2
      by_cases hlt : j < n
      · have hjl : j < xs.length := by have := HN.out; omega
        rcases HX.out.below hbk with h0 | ⟨b, off, hpa, hbl, hc⟩
        · omega
        · obtain ⟨⟨c0, c1, c2, c3⟩, hnn, hss⟩ := hc j hjl
          clear hc hss
          subst hpa
          have hst := stTo_succ xs j hjl
          have hca := catTo_succ xs j hjl
          have hcl2 := catTo_length xs (min j K) (by omega)
          have hib := itBytes_length xs[j]
          generalize xs[j] = x at *
          have hbW : b < wr.heap.size := hbl
          have hbo : b ≠ W0.heap.size ∧ b ≠ p2 := by
            rcases HX.out with h0 | ⟨b', off', hpa', hbl', _⟩
            · omega
            · simp only [Option.some.injEq, Addr.mk.injEq] at hpa'
              omega
          obtain ⟨hbo1, hbo2⟩ := hbo
          go_wp2_with fail
          refine (put_any _ _ x hnn wr hw).mono ?_
          rintro e W3 ⟨rfl, hw3, ha3⟩
          rw [← hst] at hw3
          have hv3 := hv.apart ha3 (by omega)
          have hbk3 := hbk.trans (ha3.below (Nat.le_refl _) hbk.size)
          have hTl : ((itBytes x).getD []).length ≤ 201 := by
            cases hq : itBytes x with
            | none => simp
            | some bs => exact hib bs hq
          have d0 := (ha3.cell (q := ⟨b, off + j * 4, none⟩) hbW hbo1).trans c0
          have d1 := (ha3.cell (q := ⟨b, off + j * 4 + 1, none⟩) hbW hbo1).trans c1
          have d2 := (ha3.cell (q := ⟨b, off + j * 4 + 2, none⟩) hbW hbo1).trans c2
          have d3 := (ha3.cell (q := ⟨b, off + j * 4 + 3, none⟩) hbW hbo1).trans c3
          clear c0 c1 c2 c3 hib
          by_cases hjK : j < K
          · have hm1 : min j K = j := by omega
            have hm2 : min (j + 1) K = j + 1 := by omega
            rw [hm1] at hcl2 hv3 ⊢
            have hlen2 : (catTo xs (j + 1)).length = (catTo xs j).length + ((itBytes x).getD []).length := by rw [hca, List.length_append]
            have HL := Lib.hid hlen2; clear hlen2 hca
            have HS := Lib.hid hst; clear hst
            have HM := Lib.hid hm2; clear hm2 hm1
            go_wp2_with fail
            refine (put_any _ _ x hnn W3 hv3).mono ?_
            rintro e W4 ⟨rfl, hv4, ha4⟩
            rw [← HS.out] at hv4
            have hw4 := hw3.apart ha4 (by omega)
            have hbk4 := hbk3.trans (ha4.below (by omega) hbk3.size)
            have hcl3 : (catTo xs j).length ≤ 20100 := by omega
            go_wp2_with fail
            go_roundw
            case rel => exact ⟨j + 1, by omega, by go_num, by rw [HM.out, HL.out]; go_num, hw4, by rw [HM.out]; exact hv4, hbk4⟩
            case measure => simp [intOf]; omega
          · have hm2 : min (j + 1) K = min j K := by omega
            have HM := Lib.hid hm2; clear hm2 hca hst
            have hle : (K : Int) ≤ (j : Int) := by omega
            go_wp2_with fail
            go_roundw
            case rel => exact ⟨j + 1, by omega, by go_num, by rw [HM.out], hw3, by rw [HM.out]; exact hv3, hbk3⟩
            case measure => simp [intOf]; omega
      · obtain rfl : j = n := by omega
        have hmK : min j K = K := by omega
        rw [hmK] at hv ⊢
        clear hmK
        cases hst : stTo xs j with
        | none =>
          rw [hst] at hw
          have hd2 := doneB_length hv m
          have hDone := Done_any (stTo xs K) p2 m
          generalize stTo xs K = sK at hv hd2 hDone
          generalize doneB m sK = B at hd2 hDone
          generalize doneE sK = E at hDone
          have HDone := Lib.hid hDone; clear hDone
          clear hst
          generalize (catTo xs K).length = L at *
          go_wp2_with fail
          refine (Done_none _ (m.toNat : Int) _ hw).mono ?_
          rintro e W3 ⟨rfl, hx⟩
          have e1 := Holds.new W3 zeros
          replace hw : WIs (W3.alloc (.cells (cellsOf zeros) 23)) _ _ := (hw.below hx).of_block (Below.heap_alloc W3 _ _ (hw.below hx).lt)
          replace hv : WIs (W3.alloc (.cells (cellsOf zeros) 23)) _ _ := (hv.below hx).of_block (Below.heap_alloc W3 _ _ (hv.below hx).lt)
          replace hbk := (hbk.trans (hx.mono hbk.size)).alloc (Nat.le_trans hbk.size hx.size) (.cells (cellsOf zeros) 23)
          clear hx
          have tok : True := trivial
          go_wp2_with (have _t := tok; refine wpList_store_new rfl 23 _ _ rfl _ _ _ rfl rfl (sizeBlock _ zeros_length) rfl (cellsOf_one _) ?_; generalize hbn : W3.heap.size = b1 at e1 ⊢; clear hbn; generalize W3.alloc (.cells (cellsOf zeros) 23) = V1 at e1  hw hv hbk ⊢; clear _t tok)
          refine (HDone.out _ hv).mono ?_
          rintro e W3 ⟨rfl, hx⟩
          have e2 := Holds.new W3 B
          replace e1 : Holds (W3.alloc (.cells (cellsOf B) 23)) _ _ := (e1.below hx e1.lt).alloc _
          replace hw : WIs (W3.alloc (.cells (cellsOf B) 23)) _ _ := (hw.below hx).of_block (Below.heap_alloc W3 _ _ (hw.below hx).lt)
          replace hv : WIs (W3.alloc (.cells (cellsOf B) 23)) _ _ := (hv.below hx).of_block (Below.heap_alloc W3 _ _ (hv.below hx).lt)
          replace hbk := (hbk.trans (hx.mono hbk.size)).alloc (Nat.le_trans hbk.size hx.size) (.cells (cellsOf B) 23)
          clear hx
          have tok : True := trivial
          go_wp2_with (have _t := tok; refine wpList_store_new rfl 23 _ _ rfl _ _ _ rfl rfl (sizeBlock _ hd2) (by rw [cellsOf_size, cellsOf_size, hd2, zeros_length]) (cellsOf_one _) ?_; generalize hbn : W3.heap.size = b2 at e2 ⊢; clear hbn; generalize W3.alloc (.cells (cellsOf B) 23) = V2 at e2 e1 hw hv hbk ⊢; clear _t tok)
          refine (head_any _).mono ?_
          rintro e W3 ⟨rfl, hx⟩
          go_wp2_with fail
          go_ret
          exact ⟨rfl, hbk.trans (hx.mono hbk.size)⟩
        | some F =>
          obtain ⟨r, hsK, hFr, hF251⟩ := stTo_prefix xs K j hKn (by have := HN.out; omega) F hst
          rw [hst] at hw
          rw [hsK] at hv
          generalize catTo xs K = G at hsK hFr hv ⊢
          have hG251 : G.length ≤ 251 := by rw [hFr, List.length_append] at hF251; omega
          have hlF := fdone_length F m hF251
          have hlG := fdone_length G m hG251
          have htF := fdone_take F m G.length (by rw [hFr, List.length_append]; omega) hG251
          have htG := fdone_take G m G.length (Nat.le_refl _) hG251
          rw [hFr, List.take_left, ← hFr] at htF
          rw [List.take_length] at htG
          have hz := fdone_zero G m
          have hDF := Done_some W0.heap.size F m
          have hDG := Done_some p2 G m
          generalize fdone F m = BF at hlF htF hDF
          generalize fdone G m = BG at hlG htG hz hDG
          clear hst hsK
          obtain ⟨L, hL⟩ : ∃ L, L = G.length := ⟨_, rfl⟩
          rw [← hL] at htF htG hz hG251 ⊢
          have HDF := Lib.hid hDF; clear hDF
          have HDG := Lib.hid hDG; clear hDG
          have HTF := Lib.hid htF; clear htF
          have HTG := Lib.hid htG; clear htG
          have HZ := Lib.hid hz; clear hz
          have HL := Lib.hid hL; clear hL
          have HFR := Lib.hid hFr; clear hFr
          go_wp2_with fail
          refine (HDF.out _ hw).mono ?_
          rintro e W3 ⟨rfl, hx⟩
          have e1 := Holds.new W3 BF
          replace hw : WIs (W3.alloc (.cells (cellsOf BF) 23)) _ _ := (hw.below hx).of_block (Below.heap_alloc W3 _ _ (hw.below hx).lt)
          replace hv : WIs (W3.alloc (.cells (cellsOf BF) 23)) _ _ := (hv.below hx).of_block (Below.heap_alloc W3 _ _ (hv.below hx).lt)
          replace hbk := (hbk.trans (hx.mono hbk.size)).alloc (Nat.le_trans hbk.size hx.size) (.cells (cellsOf BF) 23)
          clear hx
          have tok : True := trivial
          go_wp2_with (have _t := tok; refine wpList_store_new rfl 23 _ _ rfl _ _ _ rfl rfl (sizeBlock _ hlF) (by rw [cellsOf_size, cellsOf_size, hlF, zeros_length]) (cellsOf_one _) ?_; generalize hbn : W3.heap.size = b1 at e1 ⊢; clear hbn; generalize W3.alloc (.cells (cellsOf BF) 23) = V1 at e1  hw hv hbk ⊢; clear _t tok)
          refine (HDG.out _ hv).mono ?_
          rintro e W3 ⟨rfl, hx⟩
          have e2 := Holds.new W3 BG
          replace e1 : Holds (W3.alloc (.cells (cellsOf BG) 23)) _ _ := (e1.below hx e1.lt).alloc _
          replace hw : WIs (W3.alloc (.cells (cellsOf BG) 23)) _ _ := (hw.below hx).of_block (Below.heap_alloc W3 _ _ (hw.below hx).lt)
          replace hv : WIs (W3.alloc (.cells (cellsOf BG) 23)) _ _ := (hv.below hx).of_block (Below.heap_alloc W3 _ _ (hv.below hx).lt)
          replace hbk := (hbk.trans (hx.mono hbk.size)).alloc (Nat.le_trans hbk.size hx.size) (.cells (cellsOf BG) 23)
          clear hx
          have tok : True := trivial
          go_wp2_with (have _t := tok; refine wpList_store_new rfl 23 _ _ rfl _ _ _ rfl rfl (sizeBlock _ hlG) (by rw [cellsOf_size, cellsOf_size, hlG, zeros_length]) (cellsOf_one _) ?_; generalize hbn : W3.heap.size = b2 at e2 ⊢; clear hbn; generalize W3.alloc (.cells (cellsOf BG) 23) = V2 at e2 e1 hw hv hbk ⊢; clear _t tok)
          have f1 := fun nq => conv_front V2 b1 BF (m :: G) L hlF (by rw [HTF.out]) (by rw [List.length_cons, HL.out]; omega) e1 nq
          have f2 := fun nq => conv_front V2 b2 BG (m :: G) L hlG (by rw [HTG.out]) (by rw [List.length_cons, HL.out]; omega) e2 nq
          generalize (⟨(m :: G).toArray⟩ : ByteArray) = S at f1 f2
          have z1 : IntKind.i64.wrap (1 + (L : Int)) = 1 + (L : Int) := IntWalk.i64_in _ (by omega)
          have z2 : (1 + (L : Int)).toNat = 1 + L := by omega
          have z3 : 0 ≤ 1 + (L : Int) := by omega
          have z4 : 1 + (L : Int) ≤ 256 := by omega
          go_quiet (fail)
          go_wp2_with fail
          replace e2 : Holds (V2.drewN nq) b2 BG := e2
          replace hbk : Below W0.heap.size W0 (V2.drewN nq) := ⟨hbk.os, hbk.tape, hbk.output, hbk.size, hbk.block⟩
          clear f1 f2 z1 z2 z3 z4
          generalize V2.drewN nq = V3 at e2 hbk ⊢
          go_loop [18] (fun i => ∃ k : Nat, 1 + L ≤ k ∧ k ≤ 252 ∧ i = .int .i64 k) (fun i => 252 - (intOf i).toNat)
          case atStart => exact ⟨1 + L, by omega, by omega, by go_num⟩
          case round =>
            obtain ⟨k, hk1, hk2, rfl⟩ := hrel
            by_cases hlt : k < 252
            · have hc : V3.cell? ⟨b2, k, none⟩ = some (.int .u8 0) := by
                have hz := HZ.out k (by have := HL.out; omega) hlt
                rw [e2.cell k (by omega)]
                have hk0 : BG[k] = 0 := by rw [List.getElem?_eq_getElem (by omega)] at hz; exact Option.some.inj hz
                rw [hk0]; rfl
              go_wp2_with fail
              go_round
              case rel => exact ⟨k + 1, by omega, by omega, by go_num⟩
              case measure => simp [intOf]; omega
            · obtain rfl : k = 252 := by omega
              rw [show ((252 : Nat) : Int) = 252 from rfl]
              go_wp2_with fail
              refine (head_any _).mono ?_
              rintro e W3 ⟨rfl, hx⟩
              go_wp2_with fail
              go_ret
              exact ⟨rfl, hbk.trans (hx.mono hbk.size)⟩
  · go_wp2_with fail
    refine (head_any _).mono ?_
    rintro e W ⟨rfl, hb⟩
    go_wp2_with fail
    go_ret
    exact ⟨rfl, hb⟩

end Go.Proofs.Ytfefpdaohclgfaa.Fld
