/-
  The walks of package node's Kids, of the reference's, and of its Same: rows of uint32.
-/
import Derived.Test.YtdhfpmnkffdjaaaNodeIdx
import Derived.Deep.AppendLies
import Derived.Deep.QuietTactic
import Derived.BigQuiet
namespace Go.Proofs.Ytdhfpmnkffdjaaa.Node
open Go.RowKit RowLaw Crc Fld

def u32s (xs : List Nat) : List Value := xs.map fun n : Nat => Value.int .u32 (n : Int)
theorem u32s_snoc (xs : List Nat) (n : Nat) : u32s (xs ++ [n]) = u32s xs ++ [.int .u32 (n : Int)] := by simp [u32s]
theorem infoU32 : (Try.prog.info? 22).map (fun i => (i.zero, i.size, i.bytes)) = some (some (.int .u32 0), 1, 4) := by kernel_rfl
theorem new_cells (W : World) (cs : List Value) (T : TypeId) : ∀ j u, cs[j]? = some u → (W.alloc (.cells cs.toArray T)).cell? (Addr.add ⟨W.heap.size, 0, none⟩ j) = some u := fun j u hj => by
  rw [Addr.add_mid, Nat.zero_add, cell_of_row _ W.heap.size j _ _ _ (heap_alloc_new W _)]
  simpa using hj
theorem below_own {W W1 : World} {base : Nat} {e : TypeId} {size n : Nat} {v : Value} {xs : List Value} (h : W.ownsRow base e size v n xs) (hg : W.grownBy W1 v.ownBlock) (hb : base ≤ W.heap.size) : Below base W W1 :=
  ⟨hg.os, hg.tape, hg.output, hg.size, fun k hk => hg.block k (by omega) (fun e2 => by
    rcases h.2 with ⟨rfl, _⟩ | ⟨g, cap, cur, rfl, h5, _⟩
    · cases e2
    · cases e2; have hk' : g < base := hk; omega)⟩
theorem one_u32 (n : Nat) : ∀ u ∈ [Value.int .u32 (n : Int)], u.oneCell' = true := fun u hu => by
  simp only [List.mem_singleton] at hu
  subst hu
  rfl

/-- a row of the call's own with these numbers -/
def Own32 (base : Nat) (xs : List Nat) (v : Value) (W : World) : Prop := W.ownsRow base 22 1 v xs.length (u32s xs)
theorem Own32.mono {base b : Nat} {xs : List Nat} {v : Value} {W : World} (h : Own32 base xs v W) (hb : b ≤ base) : Own32 b xs v W := by
  refine ⟨h.1, ?_⟩
  rcases h.2 with hn | ⟨g, cap, cur, rfl, h5, rest⟩
  · exact .inl hn
  · exact .inr ⟨g, cap, cur, rfl, Nat.le_trans hb h5, rest⟩
/-- a row is answered -/
def RowAns (w : World) (xs : List Nat) (e : Ending) (w' : World) : Prop := ∃ v, e = .returned v ∧ Own32 w.heap.size xs v w' ∧ Below w.heap.size w w'
theorem Own32.nil (base : Nat) (W : World) : Own32 base [] (.slice none 0 0) W := World.ownsRow_nil _ _ _ _
theorem Own32.below {base : Nat} {xs : List Nat} {v : Value} {W W' : World} (h : Own32 base xs v W) (hb : Below W.heap.size W W') : Own32 base xs v W' := by
  refine ⟨h.1, ?_⟩
  rcases h.2 with hn | ⟨g, cap, cur, rfl, h5, h6, rest⟩
  · exact .inl hn
  · exact .inr ⟨g, cap, cur, rfl, h5, (hb.block g (Array.getElem?_eq_some_iff.1 h6).1).trans h6, rest⟩

/-- a slice value that reads as these numbers -/
def Row32 (xs : List Nat) (v : Value) (W : World) : Prop := ∃ pa cap, v = .slice pa xs.length cap ∧ (xs = [] ∨ ∃ g off, pa = some ⟨g, off, none⟩ ∧ g < W.heap.size ∧ ∀ j (hj : j < xs.length), W.cell? ⟨g, off + j, none⟩ = some (.int .u32 (xs[j] : Int)))
theorem Own32.row {base : Nat} {xs : List Nat} {v : Value} {W : World} (h : Own32 base xs v W) : Row32 xs v W := by
  rcases h.2 with ⟨rfl, h0⟩ | ⟨g, cap, cur, rfl, h5, h6, h7, h8, h9, h10⟩
  · exact ⟨none, 0, by rw [h0], .inl (List.eq_nil_of_length_eq_zero h0)⟩
  · refine ⟨_, _, rfl, .inr ⟨g, 0, rfl, (Array.getElem?_eq_some_iff.1 h6).1, fun j hj => ?_⟩⟩
    rw [cell_of_row W g (0 + j) _ _ _ h6, Nat.zero_add]
    have hk : (u32s xs)[j]? = some (.int .u32 (xs[j] : Int)) := by unfold u32s; rw [List.getElem?_map, List.getElem?_eq_getElem hj]; rfl
    rw [← h10, List.getElem?_take] at hk
    split at hk
    · rw [← Array.getElem?_toList]; exact hk
    · cases hk
theorem Row32.below {xs : List Nat} {v : Value} {W W' : World} (h : Row32 xs v W) (hb : Below W.heap.size W W') : Row32 xs v W' := by
  obtain ⟨pa, cap, rfl, h⟩ := h
  refine ⟨pa, cap, rfl, ?_⟩
  rcases h with h | ⟨g, off, rfl, hg, hc⟩
  · exact .inl h
  · exact .inr ⟨g, off, rfl, Nat.lt_of_lt_of_le hg hb.size, fun j hj => (hb.cell (p := ⟨g, off + j, none⟩) hg).trans (hc j hj)⟩

set_option maxHeartbeats 1600000 in
theorem present_any (p lv : Nat) (ps : List Nat) (hp : ps.length = 32) (w : World) (hw : IsNode w p lv ps) :
    Calls Try.prog 25 #[.pointer (some ⟨p, 1, none⟩)] w fun e w' => RowAns w (kidsOf ps) e w' := by
  have HP := Lib.hid hp; clear hp
  have hlt := hw.lt
  obtain ⟨ik, hik0, hik1, hik2, hik3⟩ := info_parts infoU32
  go_enter Try.func25, Try.ntmps25
  go_wp2
  go_loopw [4, 8] (fun v i wr => ∃ k : Nat, k ≤ 32 ∧ i = .int .i64 k ∧ Own32 w.heap.size (kidsOf (ps.take k)) v wr ∧ Below w.heap.size w wr) (fun _ i _ => 32 - (intOf i).toNat)
  case atStart => exact ⟨0, by omega, rfl, Own32.nil _ _, Below.refl _ _⟩
  case round =>
    obtain ⟨k, hk, rfl, hown, hb⟩ := hrel
    by_cases hlt2 : k < 32
    · have hkl : k < ps.length := by have := HP.out; omega
      have hN := hw.below hb hlt
      have hc := hN.ptr k hkl
      have hnext := kids_take ps k hkl
      have hle := kids_le (ps.take k)
      rw [List.length_take] at hle
      have hle2 : (kidsOf (ps.take k)).length ≤ 32 := by omega
      clear hle
      generalize kidsOf (ps.take k) = xs at hown hnext hle2
      obtain ⟨x, hx⟩ : ∃ x, x = ps[k] := ⟨_, rfl⟩
      rw [← hx] at hc hnext
      clear hx hN
      by_cases h0 : x = 0
      · have d1 : ((x : Int) != 0) = false := by rw [h0]; rfl
        have d2 : ((x : Int) == 0) = true := by rw [h0]; rfl
        rw [if_pos h0] at hnext
        have HNX := Lib.hid hnext
        clear h0 hnext
        go_wp2
        go_roundw
        case rel => exact ⟨k + 1, by omega, by go_num, by rw [HNX.out]; exact hown, hb⟩
        case measure => simp [intOf]; omega
      · have d1 : ((x : Int) != 0) = true := by simp; omega
        have d2 : ((x : Int) == 0) = false := by simp; omega
        rw [if_neg h0] at hnext
        have HNX := Lib.hid hnext
        clear h0 hnext
        have hown2 : (wr.alloc (.cells [Value.int .u32 (x : Int)].toArray 22)).ownsRow w.heap.size 22 1 _ xs.length (u32s xs) := World.ownsRow.alloc hown _
        have hnew := new_cells wr [Value.int .u32 (x : Int)] 22
        have hb2 : Below w.heap.size w (wr.alloc (.cells [Value.int .u32 (x : Int)].toArray 22)) := hb.alloc hb.size _
        clear hown hb
        go_wp2_with (at_builtin; refine wpList_append_own _ rfl _ _ 34 rfl w.heap.size 22 ik (.int .u32 0) 1 4 Try.underlying34 hik0 hik1 hik2 hik3 rfl (by omega) _ xs.length (u32s xs) rfl hown2 ⟨wr.heap.size, 0, none⟩ 1 1 [Value.int .u32 (x : Int)] rfl rfl hnew (one_u32 x) (by unfold maxLen; omega) (by omega) hb2.size ?_; intro v' w1 hown1 hgrow hnil)
        go_roundw
        case rel =>
          refine ⟨k + 1, by omega, by go_num, ?_, hb2.trans (below_own hown2 hgrow hb2.size)⟩
          rw [HNX.out]
          unfold Own32
          rw [u32s_snoc, List.length_append]
          exact hown1
        case measure => simp [intOf]; omega
    · have hall : ps.take k = ps := List.take_of_length_le (by have := HP.out; omega)
      rw [hall] at hown
      clear hall
      go_wp2
      go_ret
      exact ⟨_, rfl, hown, hb⟩

set_option maxHeartbeats 800000 in
theorem Kids_any (lv : Nat) (ps : List Nat) (hp : ps.length = 32) (w : World) :
    Calls Try.prog 10 #[.agg (nodeCells lv ps)] w fun e w' => RowAns w (kidsOf ps) e w' := by
  have hN := IsNode.new w lv ps
  have hb : Below w.heap.size w (w.alloc (.cells (nodeCells lv ps) 25)) := (Below.refl _ _).alloc (Nat.le_refl _) _
  have hcall := present_any w.heap.size lv ps hp _ hN
  have HC := Lib.hid hcall; clear hcall hN hp
  go_enter Try.func10, Try.ntmps10
  go_wp2_with fail
  refine HC.out.mono ?_
  rintro e W ⟨v, rfl, ho, hb2⟩
  go_wp2
  go_ret
  exact ⟨v, rfl, ho.mono hb.size, hb.trans (hb2.mono hb.size)⟩

set_option maxHeartbeats 1600000 in
theorem refKids_any (lv : Nat) (ps : List Nat) (hp : ps.length = 32) (w : World) :
    Calls Try.prog 11 #[.agg (nodeCells lv ps)] w fun e w' => RowAns w (kidsOf ps) e w' := by
  have hw := IsNode.new w lv ps
  have hb0 : Below w.heap.size w (w.alloc (.cells (nodeCells lv ps) 25)) := (Below.refl _ _).alloc (Nat.le_refl _) _
  have hlt := hw.lt
  have HP := Lib.hid hp; clear hp
  obtain ⟨ik, hik0, hik1, hik2, hik3⟩ := info_parts infoU32
  go_enter Try.func11, Try.ntmps11
  go_wp2
  generalize w.alloc (.cells (nodeCells lv ps) 25) = W0 at hw hb0 hlt ⊢
  go_loopw [3, 4] (fun v i wr => ∃ k : Nat, k ≤ 32 ∧ i = .int .i64 k ∧ Own32 W0.heap.size (kidsOf (ps.take k)) v wr ∧ Below W0.heap.size W0 wr) (fun _ i _ => 32 - (intOf i).toNat)
  case atStart => exact ⟨0, by omega, rfl, Own32.nil _ _, Below.refl _ _⟩
  case round =>
    obtain ⟨k, hk, rfl, hown, hb⟩ := hrel
    by_cases hlt2 : k < 32
    · have hkl : k < ps.length := by have := HP.out; omega
      have hN := hw.below hb hlt
      have hc := hN.ptr k hkl
      have hnext := kids_take ps k hkl
      have hle := kids_le (ps.take k)
      rw [List.length_take] at hle
      have hle2 : (kidsOf (ps.take k)).length ≤ 32 := by omega
      clear hle
      generalize kidsOf (ps.take k) = xs at hown hnext hle2
      obtain ⟨x, hx⟩ : ∃ x, x = ps[k] := ⟨_, rfl⟩
      rw [← hx] at hc hnext
      clear hx hN
      by_cases h0 : x = 0
      · have d1 : ((x : Int) != 0) = false := by rw [h0]; rfl
        have d2 : ((x : Int) == 0) = true := by rw [h0]; rfl
        rw [if_pos h0] at hnext
        have HNX := Lib.hid hnext
        clear h0 hnext
        go_wp2
        go_roundw
        case rel => exact ⟨k + 1, by omega, by go_num, by rw [HNX.out]; exact hown, hb⟩
        case measure => simp [intOf]; omega
      · have d1 : ((x : Int) != 0) = true := by simp; omega
        have d2 : ((x : Int) == 0) = false := by simp; omega
        rw [if_neg h0] at hnext
        have HNX := Lib.hid hnext
        clear h0 hnext
        have hown2 : (wr.alloc (.cells [Value.int .u32 (x : Int)].toArray 22)).ownsRow W0.heap.size 22 1 _ xs.length (u32s xs) := World.ownsRow.alloc hown _
        have hnew := new_cells wr [Value.int .u32 (x : Int)] 22
        have hb2 : Below W0.heap.size W0 (wr.alloc (.cells [Value.int .u32 (x : Int)].toArray 22)) := hb.alloc hb.size _
        clear hown hb
        go_wp2_with (at_builtin; refine wpList_append_own _ rfl _ _ 34 rfl W0.heap.size 22 ik (.int .u32 0) 1 4 Try.underlying34 hik0 hik1 hik2 hik3 rfl (by omega) _ xs.length (u32s xs) rfl hown2 ⟨wr.heap.size, 0, none⟩ 1 1 [Value.int .u32 (x : Int)] rfl rfl hnew (one_u32 x) (by unfold maxLen; omega) (by omega) hb2.size ?_; intro v' w1 hown1 hgrow hnil)
        go_roundw
        case rel =>
          refine ⟨k + 1, by omega, by go_num, ?_, hb2.trans (below_own hown2 hgrow hb2.size)⟩
          rw [HNX.out]
          unfold Own32
          rw [u32s_snoc, List.length_append]
          exact hown1
        case measure => simp [intOf]; omega
    · have hall : ps.take k = ps := List.take_of_length_le (by have := HP.out; omega)
      rw [hall] at hown
      clear hall
      go_wp2
      go_ret
      exact ⟨_, rfl, hown.mono hb0.size, hb0.trans (hb.mono hb0.size)⟩

set_option maxHeartbeats 1600000 in
theorem Same_any (xs ys : List Nat) (v u : Value) (w : World) (hx : Row32 xs v w) (hy : Row32 ys u w) (hxl : xs.length ≤ 1000) :
    Calls Try.prog 9 #[v, u] w fun e w' => e = .returned (.bool (decide (xs = ys))) ∧ Below w.heap.size w w' := by
  obtain ⟨pa, ca, rfl, hx⟩ := hx
  obtain ⟨pb, cb, rfl, hy⟩ := hy
  have HX := Lib.hid hx; clear hx
  have HY := Lib.hid hy; clear hy
  obtain ⟨n, hn⟩ : ∃ n, n = xs.length := ⟨_, rfl⟩
  obtain ⟨m, hm⟩ : ∃ m, m = ys.length := ⟨_, rfl⟩
  rw [← hn] at hxl ⊢
  rw [← hm]
  by_cases hnm : n = m
  · have d1 : ((n : Int) != (m : Int)) = false := by rw [hnm]; simp
    have d2 : ((n : Int) == (m : Int)) = true := by rw [hnm]; simp
    have HN := Lib.hid hn
    have HM := Lib.hid hm
    have HNM := Lib.hid hnm
    clear hn hm hnm
    go_enter Try.func9, Try.ntmps9
    go_wp2
    go_loopw [5] (fun i wr => ∃ k : Nat, k ≤ n ∧ i = .int .i64 k ∧ Hid (xs.take k = ys.take k) ∧ Below w.heap.size w wr) (fun i _ => n - (intOf i).toNat)
    case atStart => exact ⟨0, by omega, rfl, Lib.hid (by simp), Below.refl _ _⟩
    case round =>
      obtain ⟨k, hk, rfl, hsame, hb⟩ := hrel
      by_cases hlt : k < n
      · have hkx : k < xs.length := by have := HN.out; omega
        have hky : k < ys.length := by have := HM.out; have := HNM.out; omega
        rcases HX.out with h | ⟨g, off, rfl, hg, hc⟩
        · rw [h] at hkx; exact absurd hkx (by simp)
        rcases HY.out with h | ⟨g2, off2, rfl, hg2, hc2⟩
        · rw [h] at hky; exact absurd hky (by simp)
        have c1 := (hb.cell (p := ⟨g, off + k, none⟩) hg).trans (hc k hkx)
        have c2 := (hb.cell (p := ⟨g2, off2 + k, none⟩) hg2).trans (hc2 k hky)
        have e1 := List.take_succ_eq_append_getElem hkx
        have e2 := List.take_succ_eq_append_getElem hky
        clear hc hc2
        have HE1 := Lib.hid e1
        have HE2 := Lib.hid e2
        clear e1 e2
        obtain ⟨x, hxx⟩ : ∃ x, x = xs[k] := ⟨_, rfl⟩
        obtain ⟨y, hyy⟩ : ∃ y, y = ys[k] := ⟨_, rfl⟩
        rw [← hxx] at c1 HE1
        rw [← hyy] at c2 HE2
        have HXX := Lib.hid hxx; clear hxx
        have HYY := Lib.hid hyy; clear hyy
        have i1 : (k : Int) < (n : Int) := by omega
        have i2 : (k : Int) < (m : Int) := by have := HNM.out; omega
        have i3 : (0 : Int) ≤ (k : Int) := by omega
        by_cases hxy : x = y
        · have q1 : ((x : Int) != (y : Int)) = false := by rw [hxy]; simp
          have q2 : ((x : Int) == (y : Int)) = true := by rw [hxy]; simp
          have HXY := Lib.hid hxy; clear hxy
          go_wp2
          go_quiet (fail)
          go_wp2
          go_roundw
          case rel => exact ⟨k + 1, by omega, by go_num, Lib.hid (by rw [HE1.out, HE2.out, hsame.out, HXY.out]), below_drewN hb _⟩
          case measure => simp [intOf]; omega
        · have q1 : ((x : Int) != (y : Int)) = true := by simp; omega
          have q2 : ((x : Int) == (y : Int)) = false := by simp; omega
          have HXY := Lib.hid hxy; clear hxy
          go_wp2
          go_quiet (fail)
          go_wp2
          go_ret
          refine ⟨?_, below_drewN hb _⟩
          rw [decide_eq_false (fun e => HXY.out (by rw [HXX.out, HYY.out]; simp only [e]))]
          rfl
      · have hall : xs = ys := by
          have := hsame.out
          rwa [List.take_of_length_le (by have := HN.out; omega), List.take_of_length_le (by have := HM.out; have := HNM.out; omega)] at this
        have HA := Lib.hid hall; clear hall
        go_wp2
        go_ret
        exact ⟨by rw [decide_eq_true HA.out]; rfl, hb⟩
  · have d1 : ((n : Int) != (m : Int)) = true := by simp; omega
    have d2 : ((n : Int) == (m : Int)) = false := by simp; omega
    have hne : decide (xs = ys) = false := decide_eq_false (fun e => hnm (by rw [hn, hm, e]))
    rw [hne]
    clear hne hn hm hnm
    go_enter Try.func9, Try.ntmps9
    go_wp2
    go_ret
    exact ⟨rfl, Below.refl _ _⟩

end Go.Proofs.Ytdhfpmnkffdjaaa.Node
