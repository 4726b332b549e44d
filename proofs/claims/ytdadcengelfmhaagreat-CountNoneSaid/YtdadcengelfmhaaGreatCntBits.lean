/-
  Bits of picks: one of them, and a pick in which one is turned.
-/
import Derived.Test.YtdadcengelfmhaaGreatCntSmall
import Derived.Test.YtdadcengelfmhaaGreatTal4
import Derived.StillTailTactics
namespace Go.Proofs.YtdadcengelfmhaaGreat.Cnt
open Go.RowKit RowLaw Crc
open Go.Proofs.YtdadcengelfmhaaGreat.Tal (pgCells pgCells_size pgCells_one IsPg kT kP infoP zs zs_length sizeP)
set_option maxRecDepth 100000
theorem isBit_any {i : Nat} (hi : i < 1024) (w : World) : Calls Tryz.prog 93 #[.int .i64 (i : Int)] w fun e w' => e = .returned (.bool true) ∧ w' = w := by
  have h0 : (0 : Int) ≤ (i : Int) := by omega
  have h1 : (i : Int) < 1024 := by omega
  go_enter Tryz.func93, Tryz.ntmps93
  go_wp2
  go_ret
  exact ⟨rfl, rfl⟩
theorem Bit_any {k i : Nat} {ns : List Nat} (hl : ns.length = 16) (hn : ∀ x ∈ ns, x < 18446744073709551616) (hi : i < 1024) (w : World) :
    Calls Tryz.prog 64 #[.agg (pgCells .u64 k ns), .int .i64 (i : Int)] w fun e w' => e = .returned (.tuple #[.int .i64 (bitAt ns i : Int), .int .i64 0]) ∧ Below w.heap.size w w' := by
  have hN := IsPg.new .u64 73 w k ns
  have hb : Below w.heap.size w (w.alloc (.cells (pgCells .u64 k ns) 73)) := (Below.refl _ _).alloc (Nat.le_refl _) _
  have hj : i / 64 < ns.length := by omega
  have hc : (w.alloc (.cells (pgCells .u64 k ns) 73)).cell? ⟨w.heap.size, 1 + i / 64, none⟩ = some (.int .u64 (ns[i / 64] : Int)) := hN.num (i / 64) hj
  have hx : ns[i / 64] < 18446744073709551616 := hn _ (List.getElem_mem hj)
  have hbd : bitAt ns i = ns[i / 64] / 2 ^ (i % 64) % 2 := by
    unfold bitAt
    rw [List.getD_eq_getElem?_getD, List.getElem?_eq_getElem hj]
    rfl
  generalize ns[i / 64] = x at hc hx hbd
  have hbit := and_one64 (x / 2 ^ (i % 64)) (shr_lt _ hx)
  rw [← shr_cast] at hbit
  have hb2 : x / 2 ^ (i % 64) % 2 < 2 := Nat.mod_lt _ (by omega)
  generalize x / 2 ^ (i % 64) % 2 = b at hbit hb2 hbd
  rw [hbd]
  clear hbd hN hn
  obtain ⟨q, hq⟩ : ∃ q, q = i / 64 := ⟨_, rfl⟩
  obtain ⟨r, hr⟩ : ∃ r, r = i % 64 := ⟨_, rfl⟩
  rw [← hq] at hc
  rw [← hr] at hbit
  have d1 : Int.tdiv (i : Int) 64 = (q : Int) := by rw [Int.tdiv_eq_ediv_of_nonneg (by omega)]; omega
  have d2 : Int.tmod (i : Int) 64 = (r : Int) := by rw [Int.tmod_eq_emod_of_nonneg (by omega)]; omega
  have d3 : (i : Int) / 64 = (q : Int) := by omega
  have d4 : (i : Int) % 64 = (r : Int) := by omega
  have hq16 : q < 16 := by omega
  have hr64 : r < 64 := by omega
  clear hq hr
  go_enter Tryz.func64, Tryz.ntmps64
  go_wp2_with (go_at_call 93; (with_reducible refine (isBit_any hi _).mono ?_); rintro e W ⟨rfl, rfl⟩)
  go_ret2
  exact ⟨rfl, hb⟩

def turnBit (ns : List Nat) (i : Nat) : List Nat := ns.set (i / 64) (ns.getD (i / 64) 0 ^^^ 2 ^ (i % 64))
theorem turnBit_length (ns : List Nat) (i : Nat) : (turnBit ns i).length = ns.length := by simp [turnBit]
set_option linter.unusedSimpArgs false in
set_option maxHeartbeats 1600000 in
theorem Turn_any {k i : Nat} {ns : List Nat} (hl : ns.length = 16) (hn : ∀ x ∈ ns, x < 18446744073709551616) (hi : i < 1024) (w : World) :
    Calls Tryz.prog 66 #[.agg (pgCells .u64 k ns), .int .i64 (i : Int)] w fun e w' => e = .returned (.tuple #[.agg (pgCells .u64 k (turnBit ns i)), .int .i64 0]) ∧ Below w.heap.size w w' := by
  have hzv := (zero_of_info infoP).1
  have hi1 := sizeP k (turnBit ns i) (by rw [turnBit_length]; exact hl)
  have hsz : (pgCells .u64 0 (zs kP)).size = (pgCells .u64 k (turnBit ns i)).size := by rw [pgCells_size, pgCells_size, zs_length, turnBit_length, hl]; rfl
  have hk : Kept w [(w.heap.size + 1, .cells (pgCells .u64 0 (zs kP)) 73), (w.heap.size, .cells (pgCells .u64 k ns) 73)] ((w.alloc (.cells (pgCells .u64 k ns) 73)).alloc (.cells (pgCells .u64 0 (zs kP)) 73)) := by
    have h := ((Kept.start w).alloc (.cells (pgCells .u64 k ns) 73)).alloc (.cells (pgCells .u64 0 (zs kP)) 73)
    rwa [show (w.alloc (.cells (pgCells .u64 k ns) 73)).heap.size = w.heap.size + 1 from by simp] at h
  have hP0 : IsPg .u64 73 ((w.alloc (.cells (pgCells .u64 k ns) 73)).alloc (.cells (pgCells .u64 0 (zs kP)) 73)) w.heap.size k ns := hk.at_ (List.mem_cons_of_mem _ List.mem_cons_self)
  have hB := Lib.hid (fun W => isBit_any hi W)
  go_enter Tryz.func66, Tryz.ntmps66
  go_wp2_with (go_at_call 93; (with_reducible refine (hB.out _).mono ?_); rintro e W ⟨rfl, rfl⟩; generalize (w.alloc (.cells (pgCells .u64 k ns) 73)).alloc (.cells (pgCells .u64 0 (zs kP)) 73) = W at hk hP0 ⊢)
  have hj : i / 64 < ns.length := by omega
  have hx : ns[i / 64] < 18446744073709551616 := hn _ (List.getElem_mem hj)
  have hg : ns.getD (i / 64) 0 = ns[i / 64] := by rw [List.getD_eq_getElem?_getD, List.getElem?_eq_getElem hj]; rfl
  have hc : W.drew.cell? ⟨w.heap.size, 1 + i / 64, none⟩ = some (.int .u64 (ns[i / 64] : Int)) := hP0.num (i / 64) hj
  have hf : W.drew.frozen? ⟨w.heap.size, 1 + i / 64, none⟩ = false := hP0.frozen (1 + i / 64)
  have hpw : 2 ^ (i % 64) < 18446744073709551616 := Nat.pow_lt_pow_right (a := 2) (by omega) (show i % 64 < 64 by omega)
  have hP : IsPg .u64 73 (W.drew.setCell ⟨w.heap.size, 1 + i / 64, none⟩ (.int .u64 ((ns[i / 64] ^^^ 2 ^ (i % 64) : Nat) : Int))) w.heap.size k (turnBit ns i) := by
    have h : IsPg .u64 73 W.drew w.heap.size k ns := hP0
    have := h.setNum (i / 64) (ns[i / 64] ^^^ 2 ^ (i % 64))
    unfold turnBit
    rw [hg]
    exact this
  have hxor := bits_xor_u64_nat _ _ hx hpw
  have hR : (W.drew.setCell ⟨w.heap.size, 1 + i / 64, none⟩ (.int .u64 ((ns[i / 64] ^^^ 2 ^ (i % 64) : Nat) : Int))).heap[w.heap.size + 1]? = some (.cells (pgCells .u64 0 (zs kP)) 73 (0, 0)) := (heap_setCell_other W.drew _ _ _ (show w.heap.size + 1 ≠ w.heap.size by omega)).trans (hk.at_ List.mem_cons_self)
  have hb : Below w.heap.size w (W.drew.setCell ⟨w.heap.size, 1 + i / 64, none⟩ (.int .u64 ((ns[i / 64] ^^^ 2 ^ (i % 64) : Nat) : Int))) := hk.bel.drew.setCell (Nat.le_refl _) _
  obtain ⟨ns', hns⟩ : ∃ n', n' = turnBit ns i := ⟨_, rfl⟩
  rw [← hns] at hP hi1 hsz
  replace hns := Lib.hid hns
  generalize ns[i / 64] ^^^ 2 ^ (i % 64) = y at hP hR hb hxor
  generalize ns[i / 64] = x at hc hx hxor
  obtain ⟨q, hq⟩ : ∃ q, q = i / 64 := ⟨_, rfl⟩
  obtain ⟨r, hr⟩ : ∃ r, r = i % 64 := ⟨_, rfl⟩
  rw [← hq] at hc hf hP hR hb
  rw [← hr] at hxor hpw
  have d1 : Int.tdiv (i : Int) 64 = (q : Int) := by rw [Int.tdiv_eq_ediv_of_nonneg (by omega)]; omega
  have d2 : Int.tmod (i : Int) 64 = (r : Int) := by rw [Int.tmod_eq_emod_of_nonneg (by omega)]; omega
  have d3 : (i : Int) / 64 = (q : Int) := by omega
  have d4 : (i : Int) % 64 = (r : Int) := by omega
  have hq16 : q < 16 := by omega
  have hr64 : r < 64 := by omega
  clear hk hP0 hq hr hj hg hn hl
  have hq0 : (0 : Int) ≤ (q : Int) := by omega
  have hq1 : (q : Int) < 16 := by omega
  have hr0 : (0 : Int) ≤ (r : Int) := by omega
  have hr1 : (r : Int) < 64 := by omega
  have wq : IntKind.i64.wrap (q : Int) = q := IntWalk.i64_in _ (by omega)
  have wr : IntKind.i64.wrap (r : Int) = r := IntWalk.i64_in _ (by omega)
  have wp2 : IntKind.u64.wrap ((2 : Int) ^ r) = ((2 ^ r : Nat) : Int) := by rw [show ((2 : Int) ^ r) = ((2 ^ r : Nat) : Int) from by push_cast; rfl]; exact IntWalk.u64_in _ ⟨Int.natCast_nonneg _, Int.ofNat_le.mpr (Nat.le_of_lt_succ hpw)⟩
  refine wp_region_still_tail 11 (by kernel_rfl) (by kernel_rfl) ?_
  simp only [List.take_succ_cons, List.take_zero, List.drop_succ_cons, List.drop_zero]
  repeat still_step
  refine wpStill_nil ?_
  change wpList _ _ _ _ _ W.drew
  rw [show ((2 ^ r : Nat) : Int) = (2 : Int) ^ r from by push_cast; rfl] at hxor
  rw [hxor]
  clear hxor wp2 hpw hx
  generalize W.drew = W1 at hc hf hP hR hb ⊢
  go_wp2_with (first | (refine wpList_load_row rfl 73 _ rfl w.heap.size rfl _ _ _ _ hP Tryz.underlying73 rfl hi1 ?_) | (refine wpList_store_row rfl 73 _ _ rfl (w.heap.size + 1) _ rfl rfl _ _ hR hi1 hsz (pgCells_one _ _) ?_))
  exact bodyPost_ret (results_row_tmp rfl _ _ _ _ _ _ _ rfl (setRow_heap _ _ _ _ _ _ hR) Tryz.underlying73 rfl hi1) rfl ⟨by rw [← hns.out]; rfl, below_row hb (by omega)⟩
end Go.Proofs.YtdadcengelfmhaaGreat.Cnt
