/-
  The walk of root.Commit.
-/
import Derived.Test.YtlojhdnahioicaaRotZero
namespace Go.Proofs.Ytlojhdnahioicaa.Rot
open Go.RowKit RowLaw Crc
set_option maxRecDepth 100000
open Go.Proofs.Ytlojhdnahioicaa.Slt (Rt cells rootO rtB rtB_length infoR sizeR cells_one mayB)
open Go.Proofs.Ytlojhdnahioicaa.Dev (Dev DS ptr putCells pendCells putCells_length putCells_one infoPut size_of_putCells sizePut Box Step Turn)

/-- a block that may not be put -/
def badP (n : Nat) (x : Nat × List UInt8) : Bool := decide (x.1 < 2) || decide (n ≤ x.1)
theorem ok_bad (n : Nat) (l : List (Nat × List UInt8)) (r : Rt) : commitOk n l r = (mayR r n && !(l.any (badP n))) := by
  unfold commitOk
  congr 1
  rw [List.not_any_eq_all_not]
  congr 1
  funext x
  rw [Bool.eq_iff_iff]
  simp [badP]

theorem isBad_any {nb n : Nat} {x : Nat × List UInt8} (hl : x.2.length = 256) (w : World) (hc : w.cell? ⟨nb, 0, none⟩ = some (.int .u32 (n : Int))) :
    Calls Try.prog 32 #[.agg (putCells x).toArray, ptr nb] w fun e w' => e = .returned (.bool (badP n x)) ∧ Below w.heap.size w w' := by
  have hlt := World.block_lt_of_cell? w _ hc
  have hK := (Kept.start w).alloc (.cells (putCells x).toArray 53)
  have hb := hK.bel
  have c0 : (w.alloc (.cells (putCells x).toArray 53)).cell? ⟨w.heap.size, 0, none⟩ = some (.int .u32 (x.1 : Int)) := (cell_of_row _ w.heap.size 0 _ _ _ (hK.at_ (q := w.heap.size) (o := .cells (putCells x).toArray 53) (by simp))).trans rfl
  have c1 : (w.alloc (.cells (putCells x).toArray 53)).cell? ⟨nb, 0, none⟩ = some (.int .u32 (n : Int)) := (hb.cell (p := ⟨nb, 0, none⟩) hlt).trans hc
  obtain ⟨ans, ha⟩ : ∃ ans, ans = badP n x := ⟨_, rfl⟩
  rw [← ha]
  unfold badP at ha
  have HA := Lib.hid ha
  unfold ptr
  clear ha hK hc hlt
  obtain ⟨xa, xl⟩ := x
  simp only at c0 HA hl
  by_cases h2 : xa < 2
  · have d0 : (xa : Int) < 2 := by omega
    have H2 := Lib.hid h2
    clear h2
    go_enter Try.func32, Try.ntmps32
    go_upto_region 1 with fail
    change Code.wp _ _ _ _ (w.alloc (.cells (putCells (xa, xl)).toArray 53))
    generalize w.alloc (.cells (putCells (xa, xl)).toArray 53) = W at c0 c1 hb ⊢
    go_wp2
    go_ret
    exact ⟨by rw [HA.out, decide_eq_true H2.out]; rfl, hb⟩
  · have d0 : ¬ (xa : Int) < 2 := by omega
    have H2 := Lib.hid h2
    clear h2
    by_cases h3 : n ≤ xa
    · have d1 : (n : Int) ≤ (xa : Int) := by omega
      have H3 := Lib.hid h3
      clear h3
      go_enter Try.func32, Try.ntmps32
      go_upto_region 1 with fail
      change Code.wp _ _ _ _ (w.alloc (.cells (putCells (xa, xl)).toArray 53))
      generalize w.alloc (.cells (putCells (xa, xl)).toArray 53) = W at c0 c1 hb ⊢
      go_wp2
      go_ret
      exact ⟨by rw [HA.out]; simp [H3.out], hb⟩
    · have d1 : ¬ (n : Int) ≤ (xa : Int) := by omega
      have H3 := Lib.hid h3
      clear h3
      go_enter Try.func32, Try.ntmps32
      go_upto_region 1 with fail
      change Code.wp _ _ _ _ (w.alloc (.cells (putCells (xa, xl)).toArray 53))
      generalize w.alloc (.cells (putCells (xa, xl)).toArray 53) = W at c0 c1 hb ⊢
      go_wp2
      go_ret
      exact ⟨by rw [HA.out, decide_eq_false H2.out, decide_eq_false H3.out]; simp, hb⟩

def badF (nb : Nat) : Value := .func (.func 32) #[] #[ptr nb]
set_option maxHeartbeats 1600000 in
theorem IndexFunc_any {nb n : Nat} {pa : Option Addr} {c : Nat} {l : List (Nat × List UInt8)} (hn : l.length < 4294967296) (w : World) (hp : Puts w pa l) (hc : w.cell? ⟨nb, 0, none⟩ = some (.int .u32 (n : Int))) :
    Calls Try.prog 60 #[.slice pa l.length c, badF nb] w fun e w' => ∃ z : Int, e = .returned (.int .i64 z) ∧ decide (0 ≤ z) = l.any (badP n) ∧ Below w.heap.size w w' := by
  have hlt := World.block_lt_of_cell? w _ hc
  have HC : Hid (∀ x : Nat × List UInt8, x.2.length = 256 → ∀ W, Below w.heap.size w W → Calls Try.prog 32 #[.agg (putCells x).toArray, ptr nb] W fun e w' => e = .returned (.bool (badP n x)) ∧ Below W.heap.size W w') := Lib.hid (fun x hx W hW => isBad_any hx W ((hW.cell (p := ⟨nb, 0, none⟩) hlt).trans hc))
  have HP := Lib.hid hp
  clear hp hc hlt
  unfold badF ptr
  unfold ptr at HC
  obtain ⟨m, hm⟩ : ∃ m, m = l.length := ⟨_, rfl⟩
  rw [← hm] at hn ⊢
  have HM := Lib.hid hm
  clear hm
  go_enter Try.func60, Try.ntmps60
  go_wp2_with fail
  go_loopw [8] (fun i wr => ∃ k : Nat, k ≤ m ∧ i = .int .i64 k ∧ Below w.heap.size w wr ∧ Hid (∀ j (hj : j < l.length), j < k → badP n l[j] = false)) (fun i _ => m - (intOf i).toNat)
  case atStart => exact ⟨0, Nat.zero_le _, rfl, Below.refl _ _, show ∀ j (hj : j < l.length), j < 0 → badP n l[j] = false from fun j _ h => absurd h (by omega)⟩
  case round =>
    obtain ⟨k, hk, rfl, hb, hno⟩ := hrel
    by_cases hkl : k < m
    · have hkl' : k < l.length := by have := HM.out; omega
      have i0 : (k : Int) < (m : Int) := by omega
      rcases HP.out.2 with h0 | ⟨b, off, rfl, hbl, hat⟩
      · rw [h0] at hkl'; simp at hkl'
      have hxl := (HP.out.1 _ (List.getElem_mem hkl')).2
      have hr : wr.rangeAt b (off + k * 257) (putCells l[k]) := fun j v hv => (hb.cell (p := ⟨b, off + k * 257 + j, none⟩) hbl).trans (hat k hkl' j v hv)
      have hcall := HC.out _ hxl wr hb
      have hsz := sizePut l[k] hxl
      obtain ⟨bb, hbb⟩ : ∃ bb, bb = badP n l[k] := ⟨_, rfl⟩
      rw [← hbb] at hcall
      have HBB := Lib.hid hbb
      have HSZ := Lib.hid hsz
      clear hbb hat hbl hsz hxl
      generalize putCells l[k] = pc at hr hcall HSZ
      cases bb with
      | true =>
        go_wp2_with (first
          | (refine wpList_load_mid rfl 53 _ rfl b (off + k * 257) rfl pc _ hr Try.underlying53 rfl (by simpa using HSZ.out) ?_)
          | (with_reducible refine hcall.mono ?_; rintro e W1 ⟨rfl, hx⟩))
        go_ret
        refine ⟨k, rfl, ?_, hb.trans (hx.mono hb.size)⟩
        rw [decide_eq_true (by omega : (0 : Int) ≤ k)]
        exact (List.any_eq_true.2 ⟨_, List.getElem_mem hkl', HBB.out.symm⟩).symm
      | false =>
        go_wp2_with (first
          | (refine wpList_load_mid rfl 53 _ rfl b (off + k * 257) rfl pc _ hr Try.underlying53 rfl (by simpa using HSZ.out) ?_)
          | (with_reducible refine hcall.mono ?_; rintro e W1 ⟨rfl, hx⟩))
        go_roundw
        case rel => exact ⟨k + 1, by omega, by go_num, hb.trans (hx.mono hb.size), show ∀ j (hj : j < l.length), j < k + 1 → badP n l[j] = false from fun j hj hjk => by
          by_cases e : j = k
          · subst e; exact HBB.out.symm
          · exact hno.out j hj (by omega)⟩
        case measure => simp [intOf]; omega
    · go_wp2_with fail
      go_ret
      refine ⟨-1, rfl, ?_, hb⟩
      rw [decide_eq_false (by omega)]
      symm
      rw [List.any_eq_false]
      intro x hx
      obtain ⟨j, hj, rfl⟩ := List.mem_iff_getElem.1 hx
      rw [hno.out j hj (by have := HM.out; omega)]
      simp

theorem ContainsFunc_any {nb n : Nat} {pa : Option Addr} {c : Nat} {l : List (Nat × List UInt8)} (hn : l.length < 4294967296) (w : World) (hp : Puts w pa l) (hc : w.cell? ⟨nb, 0, none⟩ = some (.int .u32 (n : Int))) :
    Calls Try.prog 31 #[.slice pa l.length c, badF nb] w fun e w' => e = .returned (.bool (l.any (badP n))) ∧ Below w.heap.size w w' := by
  have hI := IndexFunc_any (c := c) hn w hp hc
  unfold badF ptr at hI ⊢
  generalize l.any (badP n) = a at hI ⊢
  go_enter Try.func31, Try.ntmps31
  go_wp2_with fail
  refine hI.mono ?_
  rintro e W ⟨z, rfl, hz, hb⟩
  have HZ := Lib.hid hz
  clear hz hI
  go_wp2_with fail
  go_ret
  exact ⟨congrArg (fun b => Ending.returned (Value.bool b)) HZ.out, hb⟩

end Go.Proofs.Ytlojhdnahioicaa.Rot
