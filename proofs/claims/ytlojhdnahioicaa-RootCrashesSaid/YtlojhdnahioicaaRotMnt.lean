/-
  The walk of root.Mount.
-/
import Derived.Test.YtlojhdnahioicaaRotEnts
namespace Go.Proofs.Ytlojhdnahioicaa.Rot
open Go.RowKit RowLaw Crc
set_option maxRecDepth 100000
open Go.Proofs.Ytlojhdnahioicaa.Slt (Rt cells rootO infoR sizeR cells_one IsRt getR getE getR_fits getE_cases Get_any)
open Go.Proofs.Ytlojhdnahioicaa.Dev (Dev DS ptr readB readR readE Read_any below_row)

/-- which root that is -/
theorem max_mount (s : DS) : (rootAt s 0 = none ∧ rootAt s 1 = none → maxR (entR s 0) (entR s 1) = Slt.nil) ∧ (mountS s).getD Slt.nil = maxR (entR s 0) (entR s 1) := by
  have hpos : ∀ a r, rootAt s a = some r → 1 ≤ r.gen := fun a r h => by
    unfold rootAt at h
    split at h
    · rename_i hc
      obtain ⟨_, _, hm⟩ := hc
      cases h
      unfold mayR at hm
      rw [Bool.and_eq_true] at hm
      exact (Slt.mayB_iff.1 hm.1).1
    · cases h
  refine ⟨fun ⟨h0, h1⟩ => by unfold maxR entR; rw [h0, h1]; rfl, ?_⟩
  unfold mountS entR maxR later
  cases h0 : rootAt s 0 with
  | none =>
    cases h1 : rootAt s 1 with
    | none => rfl
    | some y =>
      have := hpos 1 y h1
      show y = if (0 : Nat) < y.gen then y else Slt.nil
      rw [if_pos (by omega)]
  | some x =>
    cases h1 : rootAt s 1 with
    | none => rfl
    | some y =>
      show (if x.gen < y.gen then some y else some x).getD Slt.nil = if x.gen < y.gen then y else x
      split <;> rfl
theorem mount_pos {s : DS} : ((mountS s).getD Slt.nil).gen = 0 ↔ mountS s = none := by
  have hpos : ∀ a r, rootAt s a = some r → 1 ≤ r.gen := fun a r h => by
    unfold rootAt at h
    split at h
    · rename_i hc
      obtain ⟨_, _, hm⟩ := hc
      cases h
      unfold mayR at hm
      rw [Bool.and_eq_true] at hm
      exact (Slt.mayB_iff.1 hm.1).1
    · cases h
  constructor
  · intro h
    cases hm : mountS s with
    | none => rfl
    | some r =>
      exfalso
      rw [hm] at h
      have h1 : 1 ≤ r.gen := by
        unfold mountS later at hm
        split at hm
        · exact hpos 1 _ hm
        · rename_i h0 h1 e; cases hm; exact hpos 0 _ (by assumption)
        · split at hm
          · cases hm; exact hpos 1 _ (by assumption)
          · cases hm; exact hpos 0 _ (by assumption)
      have h2 : r.gen = 0 := h
      omega
  · intro h; rw [h]; rfl
/-- what Mount answers -/
def mountE (s : DS) : Int := if mountS s = none then 80 else 0

set_option maxHeartbeats 1600000 in
theorem Mount_any {w : World} {p : Nat} {B : List Nat} {s : DS} (hd : Dev w p B s) (hn : planOk s.n = true) (hlen : s.pend.length < 4294967296) :
    Calls Try.prog 16 #[ptr p] w fun e w' => e = .returned (.tuple #[.agg (cells ((mountS s).getD Slt.nil)), .int .i64 (mountE s)]) ∧ Below w.heap.size w w' := by
  have hzr := (zero_of_info infoR).1
  have hze := (zero_of_info infoE).1
  have hzes := (zero_of_info infoEs).1
  have hms := (max_mount s).2
  have hmp := mount_pos (s := s)
  unfold mountE
  generalize hres : (mountS s).getD Slt.nil = R at hms hmp ⊢
  obtain ⟨z, hz⟩ : ∃ z : Int, z = if mountS s = none then 80 else 0 := ⟨_, rfl⟩
  rw [← hz]
  have HZ := Lib.hid hz
  have hnil : R.gen = 0 → R = Slt.nil := fun h => by rw [← hres, hmp.1 h]; rfl
  have HNIL := Lib.hid hnil
  have HP := Lib.hid hmp
  have hEn : ∀ W, Below w.heap.size w W → Calls Try.prog 42 #[ptr p] W fun e w' => e = .returned (.agg (entC (entR s 0) (entR s 1))) ∧ Below W.heap.size W w' := fun W hW => entries_any (hd.below hW) hn hlen
  have HEx : Hid (∀ W, Below w.heap.size w W → Calls Try.prog 24 #[ptr p] W fun e w' => e = .returned (.bool true) ∧ w' = W) := Lib.hid (fun W hW => exists_any (hd.below hW))
  generalize entR s 0 = x at hms hEn
  generalize entR s 1 = y at hms hEn
  have HEn := Lib.hid hEn
  have HM := Lib.hid hms
  clear hd hn hlen hz hmp hres hEn hms hnil
  have hK := (Kept.start w).alloc (rootO Slt.nil)
  unfold ptr at HEn HEx ⊢
  go_enter Try.func16, Try.ntmps16
  go_upto_region 1 with fail
  change Code.wp _ _ _ _ (w.alloc (rootO Slt.nil))
  generalize w.alloc (rootO Slt.nil) = W0 at hK ⊢
  go_wp2_with fail
  refine (HEx.out W0 hK.bel).mono ?_
  rintro e W1 ⟨rfl, rfl⟩
  go_wp2_with fail
  refine (HEn.out _ hK.bel).mono ?_
  rintro e W2 ⟨rfl, hx⟩
  have hK2 := (hK.below hx).alloc (entsO x y)
  clear hx hK
  have tok : True := trivial
  go_wp2_with (first
    | (have _t := tok; refine wpList_store_new rfl 83 _ _ rfl (entC x y) _ _ rfl rfl (sizeEs x y) rfl (entC_one x y) ?_; change wpList _ _ _ _ _ (W2.alloc (entsO x y)); generalize W2.heap.size = bE at hK2 ⊢; generalize W2.alloc (entsO x y) = W3 at hK2 ⊢; clear _t tok))
  have hQ : W3.heap[bE]? = some (.cells (entC x y) 83 (0, 0)) := hK2.at_ (q := bE) (o := entsO x y) (by simp)
  refine (MaxFunc_two W3 hQ).mono ?_
  rw [← HM.out]
  rintro e W4 ⟨rfl, hx⟩
  have hK3 := (hK2.below hx).alloc (entryO R)
  clear hx hK2 hQ
  have tok : True := trivial
  by_cases hg : R.gen = 0
  · have hR := HNIL.out hg
    subst hR
    have hz0 : z = 80 := by rw [HZ.out, if_pos (HP.out.1 rfl)]
    subst hz0
    go_wp2_with (first
      | (have _t := tok; refine wpList_store_new rfl 82 _ _ rfl (cells Slt.nil) _ _ rfl rfl (sizeE Slt.nil) rfl (cells_one Slt.nil) ?_; change wpList _ _ _ _ _ (W4.alloc (entryO Slt.nil)); generalize W4.heap.size = bM at hK3 ⊢; generalize W4.alloc (entryO Slt.nil) = W5 at hK3 ⊢; have c0 : W5.cell? ⟨bM, 0, none⟩ = some (.int .u64 0) := (cell_of_row W5 bM 0 _ _ _ (hK3.at_ (q := bM) (o := entryO Slt.nil) (by simp))).trans rfl; have hT : W5.heap[w.heap.size]? = some (.cells (cells Slt.nil) 34 (0, 0)) := hK3.at_ (q := w.heap.size) (o := rootO Slt.nil) (by simp); clear _t tok)
      | (refine wpList_store_row rfl 34 _ _ rfl w.heap.size (cells Slt.nil) rfl rfl _ _ hT (sizeR Slt.nil) rfl (cells_one Slt.nil) ?_))
    exact bodyPost_ret (results_row_tmp rfl _ _ _ _ _ _ _ rfl (setRow_heap _ _ _ _ _ _ hT) Try.underlying34 rfl (sizeR Slt.nil)) rfl ⟨rfl, below_row hK3.bel (Nat.le_refl _)⟩
  · have hz0 : z = 0 := by rw [HZ.out, if_neg (fun h => hg (HP.out.2 h))]
    subst hz0
    have d0 : ((R.gen : Int) == 0) = false := by rw [beq_eq_false_iff_ne]; omega
    clear hg
    go_wp2_with (first
      | (have _t := tok; refine wpList_store_new rfl 82 _ _ rfl (cells R) _ _ rfl rfl (sizeE R) rfl (cells_one R) ?_; change wpList _ _ _ _ _ (W4.alloc (entryO R)); generalize W4.heap.size = bM at hK3 ⊢; generalize W4.alloc (entryO R) = W5 at hK3 ⊢; have hM : W5.heap[bM]? = some (.cells (cells R) 82 (0, 0)) := hK3.at_ (q := bM) (o := entryO R) (by simp); have c0 : W5.cell? ⟨bM, 0, none⟩ = some (.int .u64 (R.gen : Int)) := (cell_of_row W5 bM 0 _ _ _ hM).trans rfl; have hT : W5.heap[w.heap.size]? = some (.cells (cells Slt.nil) 34 (0, 0)) := hK3.at_ (q := w.heap.size) (o := rootO Slt.nil) (by simp); clear _t tok)
      | (refine wpList_load_row rfl 82 _ rfl bM rfl _ _ _ _ hM Try.underlying82 rfl (sizeE R) ?_)
      | (refine wpList_store_row rfl 34 _ _ rfl w.heap.size (cells R) rfl rfl _ _ hT (sizeR R) rfl (cells_one R) ?_))
    exact bodyPost_ret (results_row_tmp rfl _ _ _ _ _ _ _ rfl (setRow_heap _ _ _ _ _ _ hT) Try.underlying34 rfl (sizeR R)) rfl ⟨rfl, below_row hK3.bel (Nat.le_refl _)⟩

theorem Mount_nil (w : World) : Calls Try.prog 16 #[.pointer none] w fun e w' => e = .returned (.tuple #[.agg (cells Slt.nil), .int .i64 1]) ∧ Below w.heap.size w w' := by
  have hzr := (zero_of_info infoR).1
  have hK := (Kept.start w).alloc (rootO Slt.nil)
  go_enter Try.func16, Try.ntmps16
  go_upto_region 1 with fail
  change Code.wp _ _ _ _ (w.alloc (rootO Slt.nil))
  generalize w.alloc (rootO Slt.nil) = W0 at hK ⊢
  have hT : W0.heap[w.heap.size]? = some (.cells (cells Slt.nil) 34 (0, 0)) := hK.at_ (q := w.heap.size) (o := rootO Slt.nil) (by simp)
  go_wp2_with fail
  refine (exists_nil W0).mono ?_
  rintro e W1 ⟨rfl, rfl⟩
  go_wp2_with (refine wpList_store_row rfl 34 _ _ rfl w.heap.size (cells Slt.nil) rfl rfl _ _ hT (sizeR Slt.nil) rfl (cells_one Slt.nil) ?_)
  exact bodyPost_ret (results_row_tmp rfl _ _ _ _ _ _ _ rfl (setRow_heap _ _ _ _ _ _ hT) Try.underlying34 rfl (sizeR Slt.nil)) rfl ⟨rfl, below_row hK.bel (Nat.le_refl _)⟩

end Go.Proofs.Ytlojhdnahioicaa.Rot
