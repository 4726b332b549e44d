/-
  The walks of card's Kids, of the reference's, and of the law's same.
-/
import Derived.Test.YtmbmgncajfamiaaCrdPut
import Derived.Test.YtmbmgncajfamiaaRows32
namespace Go.Proofs.Ytmbmgncajfamiaa.Crd
open Go.RowKit RowLaw Crc Fld
open Go.Proofs.Ytmbmgncajfamiaa.R32 (u32s u32s_snoc infoU32 new_cells below_own one_u32 Own32 RowAns Row32 below_drewN)
open Go.Proofs.Ytmbmgncajfamiaa.Node (kidsOf kids_take kids_le)
set_option maxRecDepth 100000

/-- where a card leads -/
def leads (c : Cd) : List Nat := [c.left, c.right, c.root]
def leadsV (c : Cd) : Array Value := #[.int .u32 (c.left : Int), .int .u32 (c.right : Int), .int .u32 (c.root : Int)]
theorem leadsV_get (c : Cd) (j : Nat) (hj : j < (leads c).length) : (leadsV c)[j]? = some (.int .u32 ((leads c)[j] : Int)) := by
  have hj3 : j < 3 := hj
  rcases (by omega : j = 0 ∨ j = 1 ∨ j = 2) with rfl | rfl | rfl <;> rfl
theorem run_index3 (w : World) (cs : Array Value) (k : Nat) (hk : k < 3) (v : Value) (hv : cs[k]? = some v) : (Instr.index 68 (.agg cs) (.int .i64 (k : Int))).run Try.prog w = .ok v w := by
  have hs : (sizeOf 22).run Try.prog w = .ok 1 w := by
    have : (Try.prog.info? 22).map (·.size) = some 1 := by kernel_rfl
    cases hq : Try.prog.info? 22 with
    | none => rw [hq] at this; cases this
    | some q =>
      rw [hq] at this
      have h2 : q.size = 1 := by simpa using this
      simp [sizeOf, typeInfo, hq, h2]
  unfold Instr.index
  simp [asIntOf, run_underlying Try.underlying68, hs, part, isAgg, run_underlying Try.underlying22, hv]
  omega
theorem wpList_index3 {w : World} {ops : Array Oper} {rest : List Oper} {o : Oper} {a : Act} {Q : Exit → Act → World → Prop} (hgd : o.guard = none) (x i : Operand) (ho : o.op = .index 68 x i) (cs : Array Value) (k : Nat) (hk : k < 3) (v : Value)
    (hx : a.eval x = .agg cs) (hi : a.eval i = .int .i64 (k : Int)) (hv : cs[k]? = some v) (h : wpList Try.prog ops Q rest (a.put o.dst v) w) : wpList Try.prog ops Q (o :: rest) a w := by
  refine wpList_plain hgd fun K hK => ?_
  unfold Oper.wp execOp
  simp only [ho, hx, hi, run_index3 w cs k hk v hv, Sem.run_bind, Sem.run_pure, Result.andThen_ok]
  exact hK _ _ h

set_option maxHeartbeats 1600000 in
theorem Kids_any (c : Cd) (w : World) :
    Calls Try.prog 13 #[.agg (cells c)] w fun e w' => RowAns w (kidsOf (leads c)) e w' := by
  have hw := IsCd.new w c
  have hb0 : Below w.heap.size w (w.alloc (.cells (cells c) 26)) := (Below.refl _ _).alloc (Nat.le_refl _) _
  have hlt := hw.lt
  have c1 := hw.left
  have c2 := hw.right
  have c5 := hw.root
  obtain ⟨ik, hik0, hik1, hik2, hik3⟩ := info_parts infoU32
  go_enter Try.func13, Try.ntmps13
  go_wp2
  generalize w.alloc (.cells (cells c) 26) = W0 at hw hb0 hlt ⊢
  clear c1 c2 c5 hw
  go_loopw [3, 14] (fun v i wr => ∃ k : Nat, k ≤ 3 ∧ i = .int .i64 k ∧ Own32 W0.heap.size (kidsOf ((leads c).take k)) v wr ∧ Below W0.heap.size W0 wr) (fun _ i _ => 3 - (intOf i).toNat)
  case atStart => exact ⟨0, by omega, rfl, R32.Own32.nil _ _, Below.refl _ _⟩
  case round =>
    obtain ⟨k, hk, rfl, hown, hb⟩ := hrel
    by_cases hlt2 : k < 3
    · have hkl : k < (leads c).length := hlt2
      have hv := leadsV_get c k hkl
      have hnext := kids_take (leads c) k hkl
      have hle := kids_le ((leads c).take k)
      rw [List.length_take] at hle
      have hle2 : (kidsOf ((leads c).take k)).length ≤ 32 := by omega
      clear hle
      generalize kidsOf ((leads c).take k) = xs at hown hnext hle2
      obtain ⟨x, hx⟩ : ∃ x, x = (leads c)[k] := ⟨_, rfl⟩
      rw [← hx] at hnext hv
      clear hx
      by_cases h0 : x = 0
      · have d1 : ((x : Int) != 0) = false := by rw [h0]; rfl
        have d2 : ((x : Int) == 0) = true := by rw [h0]; rfl
        rw [if_pos h0] at hnext
        have HNX := Lib.hid hnext
        clear h0 hnext
        go_wp2_with (refine wpList_index3 rfl _ _ rfl _ k hlt2 _ rfl rfl hv ?_)
        go_roundw
        case rel => exact ⟨k + 1, by omega, by go_num, by rw [HNX.out]; exact hown, hb⟩
        case measure => simp [intOf]; omega
      · have d1 : ((x : Int) != 0) = true := by simp; omega
        have d2 : ((x : Int) == 0) = false := by simp; omega
        rw [if_neg h0] at hnext
        have HNX := Lib.hid hnext
        clear h0 hnext
        have hown2 : (wr.alloc (.cells [Value.int .u32 (x : Int)].toArray 22)).ownsRow W0.heap.size 22 1 _ xs.length (u32s xs) := World.ownsRow.alloc hown _
        have hnew := new_cells wr [Value.int .u32 (x : Int)] 22
        have hb2 : Below W0.heap.size W0 (wr.alloc (.cells [Value.int .u32 (x : Int)].toArray 22)) := hb.alloc hb.size _
        clear hown hb
        go_wp2_with (first | (refine wpList_index3 rfl _ _ rfl _ k hlt2 _ rfl rfl hv ?_) | (at_builtin; refine wpList_append_own _ rfl _ _ 37 rfl W0.heap.size 22 ik (.int .u32 0) 1 4 Try.underlying37 hik0 hik1 hik2 hik3 rfl (by omega) _ xs.length (u32s xs) rfl hown2 ⟨wr.heap.size, 0, none⟩ 1 1 [Value.int .u32 (x : Int)] rfl rfl hnew (one_u32 x) (by unfold maxLen; omega) (by omega) hb2.size ?_; intro v' w1 hown1 hgrow hnil))
        go_roundw
        case rel =>
          refine ⟨k + 1, by omega, by go_num, ?_, hb2.trans (below_own hown2 hgrow hb2.size)⟩
          rw [HNX.out]
          unfold Own32
          rw [u32s_snoc, List.length_append]
          exact hown1
        case measure => simp [intOf]; omega
    · have hall : (leads c).take k = leads c := List.take_of_length_le (by show 3 ≤ k; omega)
      rw [hall] at hown
      clear hall
      go_wp2
      go_ret
      exact ⟨_, rfl, hown.mono hb0.size, hb0.trans (hb.mono hb0.size)⟩

set_option maxHeartbeats 1600000 in
theorem refKids_any (c : Cd) (w : World) :
    Calls Try.prog 14 #[.agg (cells c)] w fun e w' => RowAns w (kidsOf (leads c)) e w' := by
  have hw := IsCd.new w c
  have hb0 : Below w.heap.size w (w.alloc (.cells (cells c) 26)) := (Below.refl _ _).alloc (Nat.le_refl _) _
  have hlt := hw.lt
  have c1 := hw.left
  have c2 := hw.right
  have c5 := hw.root
  obtain ⟨ik, hik0, hik1, hik2, hik3⟩ := info_parts infoU32
  go_enter Try.func14, Try.ntmps14
  go_wp2
  have hG : ((w.alloc (.cells (cells c) 26)).alloc (.cells (leadsV c) 22)).heap[w.heap.size + 1]? = some (.cells (leadsV c) 22 (0, 0)) := heap_alloc2_new w _ _
  replace hb0 := hb0.alloc hb0.size (.cells (leadsV c) 22)
  unfold leadsV at hG hb0
  generalize (w.alloc (.cells (cells c) 26)).alloc (.cells #[.int .u32 (c.left : Int), .int .u32 (c.right : Int), .int .u32 (c.root : Int)] 22) = W0 at hG hb0 ⊢
  clear c1 c2 c5 hw hlt
  have hlt : w.heap.size + 1 < W0.heap.size := (Array.getElem?_eq_some_iff.1 hG).1
  go_loopw [3, 5] (fun v i wr => ∃ k : Nat, k ≤ 3 ∧ i = .int .i64 k ∧ Own32 W0.heap.size (kidsOf ((leads c).take k)) v wr ∧ Below W0.heap.size W0 wr) (fun _ i _ => 3 - (intOf i).toNat)
  case atStart => exact ⟨0, by omega, rfl, R32.Own32.nil _ _, Below.refl _ _⟩
  case round =>
    obtain ⟨k, hk, rfl, hown, hb⟩ := hrel
    by_cases hlt2 : k < 3
    · have hkl : k < (leads c).length := hlt2
      have hv := leadsV_get c k hkl
      have hc := (hb.cell (p := ⟨w.heap.size + 1, k, none⟩) hlt).trans ((cell_of_row W0 (w.heap.size + 1) k _ _ _ hG).trans hv)
      have hnext := kids_take (leads c) k hkl
      have hle := kids_le ((leads c).take k)
      rw [List.length_take] at hle
      have hle2 : (kidsOf ((leads c).take k)).length ≤ 32 := by omega
      clear hle
      generalize kidsOf ((leads c).take k) = xs at hown hnext hle2
      obtain ⟨x, hx⟩ : ∃ x, x = (leads c)[k] := ⟨_, rfl⟩
      rw [← hx] at hnext hc
      clear hx hv
      by_cases h0 : x = 0
      · have d1 : ((x : Int) != 0) = false := by rw [h0]; rfl
        have d2 : ((x : Int) == 0) = true := by rw [h0]; rfl
        rw [if_pos h0] at hnext
        have HNX := Lib.hid hnext
        clear h0 hnext
        go_wp2
        go_roundw
        case rel => exact ⟨k + 1, by omega, by go_num, by rw [HNX.out]; exact hown, hb⟩
        case measure => simp [intOf]; omega
      · have d1 : ((x : Int) != 0) = true := by simp; omega
        have d2 : ((x : Int) == 0) = false := by simp; omega
        rw [if_neg h0] at hnext
        have HNX := Lib.hid hnext
        clear h0 hnext
        have hown2 : (wr.alloc (.cells [Value.int .u32 (x : Int)].toArray 22)).ownsRow W0.heap.size 22 1 _ xs.length (u32s xs) := World.ownsRow.alloc hown _
        have hnew := new_cells wr [Value.int .u32 (x : Int)] 22
        have hb2 : Below W0.heap.size W0 (wr.alloc (.cells [Value.int .u32 (x : Int)].toArray 22)) := hb.alloc hb.size _
        clear hown hb
        go_wp2_with (first | (at_builtin; refine wpList_append_own _ rfl _ _ 37 rfl W0.heap.size 22 ik (.int .u32 0) 1 4 Try.underlying37 hik0 hik1 hik2 hik3 rfl (by omega) _ xs.length (u32s xs) rfl hown2 ⟨wr.heap.size, 0, none⟩ 1 1 [Value.int .u32 (x : Int)] rfl rfl hnew (one_u32 x) (by unfold maxLen; omega) (by omega) hb2.size ?_; intro v' w1 hown1 hgrow hnil))
        go_roundw
        case rel =>
          refine ⟨k + 1, by omega, by go_num, ?_, hb2.trans (below_own hown2 hgrow hb2.size)⟩
          rw [HNX.out]
          unfold Own32
          rw [u32s_snoc, List.length_append]
          exact hown1
        case measure => simp [intOf]; omega
    · have hall : (leads c).take k = leads c := List.take_of_length_le (by show 3 ≤ k; omega)
      rw [hall] at hown
      clear hall
      go_wp2
      go_ret
      exact ⟨_, rfl, hown.mono hb0.size, hb0.trans (hb.mono hb0.size)⟩

set_option maxHeartbeats 1600000 in
theorem same_any (xs ys : List Nat) (v u : Value) (w : World) (hx : Row32 xs v w) (hy : Row32 ys u w) (hxl : xs.length ≤ 1000) :
    Calls Try.prog 12 #[v, u] w fun e w' => e = .returned (.bool (decide (xs = ys))) ∧ Below w.heap.size w w' := by
  obtain ⟨pa, ca, rfl, hx⟩ := hx
  obtain ⟨pb, cb, rfl, hy⟩ := hy
  have HX := Lib.hid hx; clear hx
  have HY := Lib.hid hy; clear hy
  obtain ⟨n, hn⟩ : ∃ n, n = xs.length := ⟨_, rfl⟩
  obtain ⟨m, hm⟩ : ∃ m, m = ys.length := ⟨_, rfl⟩
  rw [← hn] at hxl ⊢
  rw [← hm]
  by_cases hnm : n = m
  · have d1 : ((n : Int) != (m : Int)) = false := by rw [hnm]; simp
    have d2 : ((n : Int) == (m : Int)) = true := by rw [hnm]; simp
    have HN := Lib.hid hn
    have HM := Lib.hid hm
    have HNM := Lib.hid hnm
    clear hn hm hnm
    go_enter Try.func12, Try.ntmps12
    go_wp2
    go_loopw [5] (fun i wr => ∃ k : Nat, k ≤ n ∧ i = .int .i64 k ∧ Hid (xs.take k = ys.take k) ∧ Below w.heap.size w wr) (fun i _ => n - (intOf i).toNat)
    case atStart => exact ⟨0, by omega, rfl, Lib.hid (by simp), Below.refl _ _⟩
    case round =>
      obtain ⟨k, hk, rfl, hsame, hb⟩ := hrel
      by_cases hlt : k < n
      · have hkx : k < xs.length := by have := HN.out; omega
        have hky : k < ys.length := by have := HM.out; have := HNM.out; omega
        rcases HX.out with h | ⟨g, off, rfl, hg, hc⟩
        · rw [h] at hkx; exact absurd hkx (by simp)
        rcases HY.out with h | ⟨g2, off2, rfl, hg2, hc2⟩
        · rw [h] at hky; exact absurd hky (by simp)
        have c1 := (hb.cell (p := ⟨g, off + k, none⟩) hg).trans (hc k hkx)
        have c2 := (hb.cell (p := ⟨g2, off2 + k, none⟩) hg2).trans (hc2 k hky)
        have e1 := List.take_succ_eq_append_getElem hkx
        have e2 := List.take_succ_eq_append_getElem hky
        clear hc hc2
        have HE1 := Lib.hid e1
        have HE2 := Lib.hid e2
        clear e1 e2
        obtain ⟨x, hxx⟩ : ∃ x, x = xs[k] := ⟨_, rfl⟩
        obtain ⟨y, hyy⟩ : ∃ y, y = ys[k] := ⟨_, rfl⟩
        rw [← hxx] at c1 HE1
        rw [← hyy] at c2 HE2
        have HXX := Lib.hid hxx; clear hxx
        have HYY := Lib.hid hyy; clear hyy
        have i1 : (k : Int) < (n : Int) := by omega
        have i2 : (k : Int) < (m : Int) := by have := HNM.out; omega
        have i3 : (0 : Int) ≤ (k : Int) := by omega
        by_cases hxy : x = y
        · have q1 : ((x : Int) != (y : Int)) = false := by rw [hxy]; simp
          have q2 : ((x : Int) == (y : Int)) = true := by rw [hxy]; simp
          have HXY := Lib.hid hxy; clear hxy
          go_wp2
          go_quiet (fail)
          go_wp2
          go_roundw
          case rel => exact ⟨k + 1, by omega, by go_num, Lib.hid (by rw [HE1.out, HE2.out, hsame.out, HXY.out]), below_drewN hb _⟩
          case measure => simp [intOf]; omega
        · have q1 : ((x : Int) != (y : Int)) = true := by simp; omega
          have q2 : ((x : Int) == (y : Int)) = false := by simp; omega
          have HXY := Lib.hid hxy; clear hxy
          go_wp2
          go_quiet (fail)
          go_wp2
          go_ret
          refine ⟨?_, below_drewN hb _⟩
          rw [decide_eq_false (fun e => HXY.out (by rw [HXX.out, HYY.out]; simp only [e]))]
          rfl
      · have hall : xs = ys := by
          have := hsame.out
          rwa [List.take_of_length_le (by have := HN.out; omega), List.take_of_length_le (by have := HM.out; have := HNM.out; omega)] at this
        have HA := Lib.hid hall; clear hall
        go_wp2
        go_ret
        exact ⟨by rw [decide_eq_true HA.out]; rfl, hb⟩
  · have d1 : ((n : Int) != (m : Int)) = true := by simp; omega
    have d2 : ((n : Int) == (m : Int)) = false := by simp; omega
    have hne : decide (xs = ys) = false := decide_eq_false (fun e => hnm (by rw [hn, hm, e]))
    rw [hne]
    clear hne hn hm hnm
    go_enter Try.func12, Try.ntmps12
    go_wp2
    go_ret
    exact ⟨rfl, Below.refl _ _⟩

end Go.Proofs.Ytmbmgncajfamiaa.Crd
