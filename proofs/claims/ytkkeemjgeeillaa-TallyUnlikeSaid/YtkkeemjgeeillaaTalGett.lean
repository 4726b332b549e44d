/-
  The walks of tally.Get and tally.GetPick.
-/
import Derived.Test.YtkkeemjgeeillaaTalGet
import Derived.Test.YtkkeemjgeeillaaKept
import Derived.Test.YtkkeemjgeeillaaRowBlocks
import Derived.Test.YtkkeemjgeeillaaFldHead
namespace Go.Proofs.Ytkkeemjgeeillaa.Tal
open Go.RowKit RowLaw Crc Fld
set_option maxRecDepth 100000

theorem Kept.turn {w W W' : World} {K : List (Nat × Obj)} {q : Nat} {o o' : Obj} (h : Kept w ((q, o) :: K) W) (ha : Apart q W W') (hne : ∀ x ∈ K, x.1 ≠ q) (hq : W'.heap[q]? = some o') : Kept w ((q, o') :: K) W' := by
  have h0 := h.has _ List.mem_cons_self
  refine ⟨h.bel.trans (ha.below h0.1 h.bel.size), fun x hx => ?_⟩
  rcases List.mem_cons.1 hx with rfl | hx
  · exact ⟨h0.1, hq⟩
  · have h1 := h.has x (List.mem_cons_of_mem _ hx)
    exact ⟨h1.1, (ha.block _ (Array.getElem?_eq_some_iff.1 h1.2).1 (hne x hx)).trans h1.2⟩

set_option maxHeartbeats 1600000 in
theorem Get_anyT (l : List UInt8) (hl : l.length = 256) (idx : Nat) (w : World) :
    Calls Try.prog 12 #[.agg (cellsOf l), .int .u32 (idx : Int)] w fun e w' => e = .returned (.tuple #[.agg (pgCells .u16 (getI kT l idx) (getNs kT l idx)), .int .i64 (getE kT l idx)]) ∧ Below w.heap.size w w' := by
  have hzv := (zero_of_info infoT).1
  have hi := sizeBlock l hl
  have hi0 := sizeT 0 (zs kT) (zs_length kT)
  have hi1 := sizeT idx (zs kT) (zs_length kT)
  have hsz : (pgCells .u16 0 (zs kT)).size = (pgCells .u16 idx (zs kT)).size := by rw [pgCells_size, pgCells_size]
  have hne : ∀ x ∈ [(w.heap.size + 1, Obj.cells (pgCells .u16 0 (zs kT)) 26), (w.heap.size, Obj.cells (cellsOf l) 32)], x.1 ≠ w.heap.size + 1 + 1 := by simp; omega
  have hk0 : Kept w [(w.heap.size + 1 + 1, Obj.cells (pgCells .u16 0 (zs kT)) 26), (w.heap.size + 1, Obj.cells (pgCells .u16 0 (zs kT)) 26), (w.heap.size, Obj.cells (cellsOf l) 32)] (((w.alloc (Obj.cells (cellsOf l) 32)).alloc (Obj.cells (pgCells .u16 0 (zs kT)) 26)).alloc (Obj.cells (pgCells .u16 0 (zs kT)) 26)) := by
    have h := (((Kept.start w).alloc (Obj.cells (cellsOf l) 32)).alloc (Obj.cells (pgCells .u16 0 (zs kT)) 26)).alloc (Obj.cells (pgCells .u16 0 (zs kT)) 26)
    rwa [show (w.alloc (Obj.cells (cellsOf l) 32)).heap.size = w.heap.size + 1 from by simp, show ((w.alloc (Obj.cells (cellsOf l) 32)).alloc (Obj.cells (pgCells .u16 0 (zs kT)) 26)).heap.size = w.heap.size + 1 + 1 from by simp] at h
  have hk := hk0.setRow (cs' := pgCells .u16 idx (zs kT)) hne
  have hP0 := hk0.at_ List.mem_cons_self
  clear hk0
  have hset := pgCells_setIdx (K := .u16) 0 idx (zs kT)
  have hget := fun W (hW : IsPg .u16 26 W (w.heap.size + 1 + 1) idx (zs kT)) => get_anyT l hl (w.heap.size + 1 + 1) idx idx W hW
  have hcs := getE_cases kT l idx
  have HI := Lib.hid (show getI kT l idx = if getE kT l idx = 0 then idx else 0 from rfl)
  have HNS := Lib.hid (show getNs kT l idx = if getE kT l idx = 0 then nsOf kT l else zs kT from rfl)
  generalize getI kT l idx = gi at HI ⊢
  generalize getNs kT l idx = gn at HNS ⊢
  generalize getE kT l idx = E at HI HNS hget hcs ⊢
  have HGT := Lib.hid hget
  have HC := Lib.hid hcs
  clear hget hcs hl
  have tok : True := trivial
  go_enter Try.func12, Try.ntmps12
  go_wp2_with (have _t := tok; refine wpList_store_row rfl 26 _ _ rfl _ _ rfl rfl _ _ hP0 hi1 hsz (pgCells_one _ _) ?_; clear _t tok hP0; generalize ((((w.alloc (Obj.cells (cellsOf l) 32)).alloc (Obj.cells (pgCells .u16 0 (zs kT)) 26)).alloc (Obj.cells (pgCells .u16 0 (zs kT)) 26))).setRow (w.heap.size + 1 + 1) (pgCells .u16 idx (zs kT)) = W0 at hk ⊢)
  have hrw : w.heap.size ≤ w.heap.size + 1 := by omega
  have hrb : w.heap.size + 1 ≠ w.heap.size + 1 + 1 := by omega
  generalize w.heap.size + 1 + 1 = p at hk hne HGT hrb ⊢
  generalize hrd : w.heap.size + 1 = r at hk hne hrb hrw ⊢
  clear hrd hset
  obtain ⟨b, hb⟩ : ∃ b, b = w.heap.size := ⟨_, rfl⟩
  rw [← hb] at hk hne ⊢
  clear hb
  refine wp_region_noPanic ?_
  refine wp_region_held_drew (S := fun W => Kept w [(r, Obj.cells (pgCells .u16 0 (zs kT)) 26), (b, Obj.cells (cellsOf l) 32)] W) (by kernel_rfl) (hk.less (fun x hx => List.mem_cons_of_mem _ hx)).drew ?_
  intro hS
  replace hk := hk.drew
  generalize W0.drew = W1 at hk hS ⊢
  refine wpAnyH_take (i := 0) (v := .agg #[.int .u8 84, .int .u32 16384]) rfl (by kernel_rfl) (by kernel_rfl) (by kernel_rfl) (fun _ _ _ h => (h : False).elim) (Or.inl ⟨by rfl, fun _ _ => by go_simp⟩) hS ?_
  change wpAnyH _ _ _ _ _ _ _ (Act.put _ (some 10) _) _
  simp only [Act.put, List.setIfInBounds_toArray, List.set_cons_succ, List.set_cons_zero]
  refine wpAnyH_take (i := 1) (v := .agg (cellsOf l)) rfl (by kernel_rfl) (by kernel_rfl) (by kernel_rfl) (fun _ _ _ h => (h : False).elim) (yieldsIf_load_row (by rfl) 32 _ rfl b rfl _ _ _ _ (fun W hW => hW.at_ (List.mem_cons_of_mem _ List.mem_cons_self)) Try.underlying32 rfl hi) hS ?_
  change wpAnyH _ _ _ _ _ _ _ (Act.put _ (some 11) _) _
  simp only [Act.put, List.setIfInBounds_toArray, List.set_cons_succ, List.set_cons_zero]
  refine wpAnyH_take (i := 2) (v := .int .u32 (idx : Int)) rfl (by kernel_rfl) (by kernel_rfl) (by kernel_rfl) (fun _ _ _ h => (h : False).elim) (Or.inl ⟨by rfl, fun _ _ => by go_simp⟩) hS ?_
  change wpAnyH _ _ _ _ _ _ _ (Act.put _ (some 12) _) _
  simp only [Act.put, List.setIfInBounds_toArray, List.set_cons_succ, List.set_cons_zero]
  refine wpAnyH_take (i := 3) (v := .pointer (some ⟨p, 1, none⟩)) rfl (by kernel_rfl) (by kernel_rfl) (by kernel_rfl) (fun _ _ _ h => (h : False).elim) (Or.inl ⟨by rfl, fun _ _ => by go_simp⟩) hS ?_
  change wpAnyH _ _ _ _ _ _ _ (Act.put _ (some 13) _) _
  simp only [Act.put, List.setIfInBounds_toArray, List.set_cons_succ, List.set_cons_zero]
  refine wpAnyH_take (i := 4) (v := .slice (some ⟨p, 1, none⟩) 64 64) rfl (by kernel_rfl) (by kernel_rfl) (by kernel_rfl) (fun _ _ _ h => (h : False).elim) (Or.inl ⟨by rfl, fun _ _ => by go_simp⟩) hS ?_
  change wpAnyH _ _ _ _ _ _ _ (Act.put _ (some 14) _) _
  simp only [Act.put, List.setIfInBounds_toArray, List.set_cons_succ, List.set_cons_zero]
  refine wpAnyH_ready (rs := [5]) (by kernel_rfl) (by simp) ?_
  refine AllReadyH.cons rfl (fun K hK => ?_) AllReadyH.nil
  rw [if_pos (by rfl)]
  go_simp
  refine (HGT.out W1 (hk.at_ List.mem_cons_self)).mono ?_
  rintro e W2 ⟨rfl, ⟨ns, hns, hpg, hE⟩, ha⟩
  replace hk := Kept.turn hk ha hne hpg
  replace hS := hk.less (K' := [(r, Obj.cells (pgCells .u16 0 (zs kT)) 26), (b, Obj.cells (cellsOf l) 32)]) (fun x hx => List.mem_cons_of_mem _ hx)
  clear ha hpg
  dsimp only
  refine hK.out _ _ hS (fun hS => ?_)
  clear hK K
  refine wpAnyH_take (i := 6) (v := .int .i64 E) rfl (by kernel_rfl) (by kernel_rfl) (by kernel_rfl) (fun _ _ _ h => (h : False).elim) (Or.inl ⟨by rfl, fun _ _ => by go_simp⟩) hS ?_
  change wpAnyH _ _ _ _ _ _ _ (Act.put _ (some 7) _) _
  simp only [Act.put, List.setIfInBounds_toArray, List.set_cons_succ, List.set_cons_zero]
  refine wpAnyH_done (by kernel_rfl) ?_ _
  refine NoPanic.normal ?_
  have hR := hk.at_ (q := r) (o := Obj.cells (pgCells .u16 0 (zs kT)) 26) (by simp)
  have hP := hk.at_ List.mem_cons_self
  rcases HC.out with h | h | h
  · subst h
    have e := hE rfl
    rw [e] at hP hns
    have hi2 := sizeT idx (nsOf kT l) hns
    have hs2 : (pgCells .u16 0 (zs kT)).size = (pgCells .u16 idx (nsOf kT l)).size := by rw [pgCells_size, pgCells_size, zs_length, hns]
    clear hE e
    go_wp2_with (first | (refine wpList_load_row rfl 26 _ rfl _ rfl _ _ _ _ hP Try.underlying26 rfl hi2 ?_) | (refine wpList_store_row rfl 26 _ _ rfl _ _ rfl rfl _ _ hR hi2 hs2 (pgCells_one _ _) ?_))
    exact bodyPost_ret (results_row_tmp rfl _ _ _ _ _ _ _ rfl (setRow_heap _ _ _ _ _ _ hR) Try.underlying26 rfl hi2) rfl ⟨by rw [HI.out, HNS.out]; rfl, below_row hk.bel hrw⟩
  · subst h
    go_wp2_with (refine wpList_store_row rfl 26 _ _ rfl _ _ rfl rfl _ _ hR hi0 rfl (pgCells_one _ _) ?_)
    exact bodyPost_ret (results_row_tmp rfl _ _ _ _ _ _ _ rfl (setRow_heap _ _ _ _ _ _ hR) Try.underlying26 rfl hi0) rfl ⟨by rw [HI.out, HNS.out]; rfl, below_row hk.bel hrw⟩
  · subst h
    go_wp2_with (refine wpList_store_row rfl 26 _ _ rfl _ _ rfl rfl _ _ hR hi0 rfl (pgCells_one _ _) ?_)
    exact bodyPost_ret (results_row_tmp rfl _ _ _ _ _ _ _ rfl (setRow_heap _ _ _ _ _ _ hR) Try.underlying26 rfl hi0) rfl ⟨by rw [HI.out, HNS.out]; rfl, below_row hk.bel hrw⟩

set_option maxHeartbeats 1600000 in
theorem Get_anyP (l : List UInt8) (hl : l.length = 256) (idx : Nat) (w : World) :
    Calls Try.prog 13 #[.agg (cellsOf l), .int .u32 (idx : Int)] w fun e w' => e = .returned (.tuple #[.agg (pgCells .u64 (getI kP l idx) (getNs kP l idx)), .int .i64 (getE kP l idx)]) ∧ Below w.heap.size w w' := by
  have hzv := (zero_of_info infoP).1
  have hi := sizeBlock l hl
  have hi0 := sizeP 0 (zs kP) (zs_length kP)
  have hi1 := sizeP idx (zs kP) (zs_length kP)
  have hsz : (pgCells .u64 0 (zs kP)).size = (pgCells .u64 idx (zs kP)).size := by rw [pgCells_size, pgCells_size]
  have hne : ∀ x ∈ [(w.heap.size + 1, Obj.cells (pgCells .u64 0 (zs kP)) 30), (w.heap.size, Obj.cells (cellsOf l) 32)], x.1 ≠ w.heap.size + 1 + 1 := by simp; omega
  have hk0 : Kept w [(w.heap.size + 1 + 1, Obj.cells (pgCells .u64 0 (zs kP)) 30), (w.heap.size + 1, Obj.cells (pgCells .u64 0 (zs kP)) 30), (w.heap.size, Obj.cells (cellsOf l) 32)] (((w.alloc (Obj.cells (cellsOf l) 32)).alloc (Obj.cells (pgCells .u64 0 (zs kP)) 30)).alloc (Obj.cells (pgCells .u64 0 (zs kP)) 30)) := by
    have h := (((Kept.start w).alloc (Obj.cells (cellsOf l) 32)).alloc (Obj.cells (pgCells .u64 0 (zs kP)) 30)).alloc (Obj.cells (pgCells .u64 0 (zs kP)) 30)
    rwa [show (w.alloc (Obj.cells (cellsOf l) 32)).heap.size = w.heap.size + 1 from by simp, show ((w.alloc (Obj.cells (cellsOf l) 32)).alloc (Obj.cells (pgCells .u64 0 (zs kP)) 30)).heap.size = w.heap.size + 1 + 1 from by simp] at h
  have hk := hk0.setRow (cs' := pgCells .u64 idx (zs kP)) hne
  have hP0 := hk0.at_ List.mem_cons_self
  clear hk0
  have hset := pgCells_setIdx (K := .u64) 0 idx (zs kP)
  have hget := fun W (hW : IsPg .u64 30 W (w.heap.size + 1 + 1) idx (zs kP)) => get_anyP l hl (w.heap.size + 1 + 1) idx idx W hW
  have hcs := getE_cases kP l idx
  have HI := Lib.hid (show getI kP l idx = if getE kP l idx = 0 then idx else 0 from rfl)
  have HNS := Lib.hid (show getNs kP l idx = if getE kP l idx = 0 then nsOf kP l else zs kP from rfl)
  generalize getI kP l idx = gi at HI ⊢
  generalize getNs kP l idx = gn at HNS ⊢
  generalize getE kP l idx = E at HI HNS hget hcs ⊢
  have HGT := Lib.hid hget
  have HC := Lib.hid hcs
  clear hget hcs hl
  have tok : True := trivial
  go_enter Try.func13, Try.ntmps13
  go_wp2_with (have _t := tok; refine wpList_store_row rfl 30 _ _ rfl _ _ rfl rfl _ _ hP0 hi1 hsz (pgCells_one _ _) ?_; clear _t tok hP0; generalize ((((w.alloc (Obj.cells (cellsOf l) 32)).alloc (Obj.cells (pgCells .u64 0 (zs kP)) 30)).alloc (Obj.cells (pgCells .u64 0 (zs kP)) 30))).setRow (w.heap.size + 1 + 1) (pgCells .u64 idx (zs kP)) = W0 at hk ⊢)
  have hrw : w.heap.size ≤ w.heap.size + 1 := by omega
  have hrb : w.heap.size + 1 ≠ w.heap.size + 1 + 1 := by omega
  generalize w.heap.size + 1 + 1 = p at hk hne HGT hrb ⊢
  generalize hrd : w.heap.size + 1 = r at hk hne hrb hrw ⊢
  clear hrd hset
  obtain ⟨b, hb⟩ : ∃ b, b = w.heap.size := ⟨_, rfl⟩
  rw [← hb] at hk hne ⊢
  clear hb
  refine wp_region_noPanic ?_
  refine wp_region_held_drew (S := fun W => Kept w [(r, Obj.cells (pgCells .u64 0 (zs kP)) 30), (b, Obj.cells (cellsOf l) 32)] W) (by kernel_rfl) (hk.less (fun x hx => List.mem_cons_of_mem _ hx)).drew ?_
  intro hS
  replace hk := hk.drew
  generalize W0.drew = W1 at hk hS ⊢
  refine wpAnyH_take (i := 0) (v := .agg #[.int .u8 80, .int .u32 16]) rfl (by kernel_rfl) (by kernel_rfl) (by kernel_rfl) (fun _ _ _ h => (h : False).elim) (Or.inl ⟨by rfl, fun _ _ => by go_simp⟩) hS ?_
  change wpAnyH _ _ _ _ _ _ _ (Act.put _ (some 10) _) _
  simp only [Act.put, List.setIfInBounds_toArray, List.set_cons_succ, List.set_cons_zero]
  refine wpAnyH_take (i := 1) (v := .agg (cellsOf l)) rfl (by kernel_rfl) (by kernel_rfl) (by kernel_rfl) (fun _ _ _ h => (h : False).elim) (yieldsIf_load_row (by rfl) 32 _ rfl b rfl _ _ _ _ (fun W hW => hW.at_ (List.mem_cons_of_mem _ List.mem_cons_self)) Try.underlying32 rfl hi) hS ?_
  change wpAnyH _ _ _ _ _ _ _ (Act.put _ (some 11) _) _
  simp only [Act.put, List.setIfInBounds_toArray, List.set_cons_succ, List.set_cons_zero]
  refine wpAnyH_take (i := 2) (v := .int .u32 (idx : Int)) rfl (by kernel_rfl) (by kernel_rfl) (by kernel_rfl) (fun _ _ _ h => (h : False).elim) (Or.inl ⟨by rfl, fun _ _ => by go_simp⟩) hS ?_
  change wpAnyH _ _ _ _ _ _ _ (Act.put _ (some 12) _) _
  simp only [Act.put, List.setIfInBounds_toArray, List.set_cons_succ, List.set_cons_zero]
  refine wpAnyH_take (i := 3) (v := .pointer (some ⟨p, 1, none⟩)) rfl (by kernel_rfl) (by kernel_rfl) (by kernel_rfl) (fun _ _ _ h => (h : False).elim) (Or.inl ⟨by rfl, fun _ _ => by go_simp⟩) hS ?_
  change wpAnyH _ _ _ _ _ _ _ (Act.put _ (some 13) _) _
  simp only [Act.put, List.setIfInBounds_toArray, List.set_cons_succ, List.set_cons_zero]
  refine wpAnyH_take (i := 4) (v := .slice (some ⟨p, 1, none⟩) 16 16) rfl (by kernel_rfl) (by kernel_rfl) (by kernel_rfl) (fun _ _ _ h => (h : False).elim) (Or.inl ⟨by rfl, fun _ _ => by go_simp⟩) hS ?_
  change wpAnyH _ _ _ _ _ _ _ (Act.put _ (some 14) _) _
  simp only [Act.put, List.setIfInBounds_toArray, List.set_cons_succ, List.set_cons_zero]
  refine wpAnyH_ready (rs := [5]) (by kernel_rfl) (by simp) ?_
  refine AllReadyH.cons rfl (fun K hK => ?_) AllReadyH.nil
  rw [if_pos (by rfl)]
  go_simp
  refine (HGT.out W1 (hk.at_ List.mem_cons_self)).mono ?_
  rintro e W2 ⟨rfl, ⟨ns, hns, hpg, hE⟩, ha⟩
  replace hk := Kept.turn hk ha hne hpg
  replace hS := hk.less (K' := [(r, Obj.cells (pgCells .u64 0 (zs kP)) 30), (b, Obj.cells (cellsOf l) 32)]) (fun x hx => List.mem_cons_of_mem _ hx)
  clear ha hpg
  dsimp only
  refine hK.out _ _ hS (fun hS => ?_)
  clear hK K
  refine wpAnyH_take (i := 6) (v := .int .i64 E) rfl (by kernel_rfl) (by kernel_rfl) (by kernel_rfl) (fun _ _ _ h => (h : False).elim) (Or.inl ⟨by rfl, fun _ _ => by go_simp⟩) hS ?_
  change wpAnyH _ _ _ _ _ _ _ (Act.put _ (some 7) _) _
  simp only [Act.put, List.setIfInBounds_toArray, List.set_cons_succ, List.set_cons_zero]
  refine wpAnyH_done (by kernel_rfl) ?_ _
  refine NoPanic.normal ?_
  have hR := hk.at_ (q := r) (o := Obj.cells (pgCells .u64 0 (zs kP)) 30) (by simp)
  have hP := hk.at_ List.mem_cons_self
  rcases HC.out with h | h | h
  · subst h
    have e := hE rfl
    rw [e] at hP hns
    have hi2 := sizeP idx (nsOf kP l) hns
    have hs2 : (pgCells .u64 0 (zs kP)).size = (pgCells .u64 idx (nsOf kP l)).size := by rw [pgCells_size, pgCells_size, zs_length, hns]
    clear hE e
    go_wp2_with (first | (refine wpList_load_row rfl 30 _ rfl _ rfl _ _ _ _ hP Try.underlying30 rfl hi2 ?_) | (refine wpList_store_row rfl 30 _ _ rfl _ _ rfl rfl _ _ hR hi2 hs2 (pgCells_one _ _) ?_))
    exact bodyPost_ret (results_row_tmp rfl _ _ _ _ _ _ _ rfl (setRow_heap _ _ _ _ _ _ hR) Try.underlying30 rfl hi2) rfl ⟨by rw [HI.out, HNS.out]; rfl, below_row hk.bel hrw⟩
  · subst h
    go_wp2_with (refine wpList_store_row rfl 30 _ _ rfl _ _ rfl rfl _ _ hR hi0 rfl (pgCells_one _ _) ?_)
    exact bodyPost_ret (results_row_tmp rfl _ _ _ _ _ _ _ rfl (setRow_heap _ _ _ _ _ _ hR) Try.underlying30 rfl hi0) rfl ⟨by rw [HI.out, HNS.out]; rfl, below_row hk.bel hrw⟩
  · subst h
    go_wp2_with (refine wpList_store_row rfl 30 _ _ rfl _ _ rfl rfl _ _ hR hi0 rfl (pgCells_one _ _) ?_)
    exact bodyPost_ret (results_row_tmp rfl _ _ _ _ _ _ _ rfl (setRow_heap _ _ _ _ _ _ hR) Try.underlying30 rfl hi0) rfl ⟨by rw [HI.out, HNS.out]; rfl, below_row hk.bel hrw⟩


end Go.Proofs.Ytkkeemjgeeillaa.Tal
