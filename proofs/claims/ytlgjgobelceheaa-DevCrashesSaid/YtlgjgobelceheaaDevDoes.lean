/-
  does, of a device that is live: the reference's answer is not looked at.
-/
import Derived.Test.YtlgjgobelceheaaDevRefZero
namespace Go.Proofs.Ytlgjgobelceheaa.Dev
open Go.RowKit RowLaw

/-- what an act does to a device -/
def actS (s : DS) (x : Ac) : DS := if x.what % 5 = 2 then flushS s else if x.what % 5 = 3 then crashS s x.keep else writeS s x.a (blockB x.c)
def actK (what a : Nat) (c : UInt8) (s : DS) (ks : List (Nat × Nat)) : DS := if what % 5 = 2 then flushS s else if what % 5 = 3 then crashS s ks else writeS s a (blockB c)

section
variable {w W : World} {p : Nat} {s : DS} {K : List (Nat × Obj)}
/-- a block beside the device is written with what it holds -/
theorem Live.same {q : Nat} {cs : Array Value} {T : TypeId} (h : Live w p s K W) (hq : (q, Obj.cells cs T) ∈ K) (hw : w.heap.size ≤ q) : Live w p s K (W.setRow q cs) := by
  obtain ⟨B, h1, h2, h3, h4⟩ := h
  obtain ⟨k1, k2, k3⟩ := h4 _ hq
  have ht : Turn [q] W (W.setRow q cs) := ⟨rfl, rfl, rfl, by simp, fun k _ hk => setRow_other W q k cs (by simpa using hk)⟩
  refine ⟨B, h1.turn ht (fun k hk hm => by simp only [List.mem_singleton] at hm; subst hm; exact k2 hk), h2, below_row h3 hw, fun x hx => ?_⟩
  obtain ⟨j1, j2, j3⟩ := h4 x hx
  refine ⟨?_, j2, by simpa using j3⟩
  by_cases e : x.1 = q
  · have e2 : x.2 = .cells cs T := by rw [e] at j1; exact Option.some.inj (j1.symm.trans k1)
    rw [e, e2]
    exact setRow_heap W q _ _ _ _ k1
  · exact (setRow_other W q x.1 cs e).trans j1
/-- .. or with something else, and is told of no more -/
theorem Live.put {q : Nat} {cs cs' : Array Value} {T : TypeId} {K' : List (Nat × Obj)} (h : Live w p s K W) (hq : (q, Obj.cells cs T) ∈ K) (hw : w.heap.size ≤ q) (hk : ∀ x ∈ K', x ∈ K) (hne : ∀ x ∈ K', x.1 ≠ q) : Live w p s K' (W.setRow q cs') := by
  obtain ⟨B, h1, h2, h3, h4⟩ := h
  obtain ⟨k1, k2, k3⟩ := h4 _ hq
  have ht : Turn [q] W (W.setRow q cs') := ⟨rfl, rfl, rfl, by simp, fun k _ hk => setRow_other W q k cs' (by simpa using hk)⟩
  refine ⟨B, h1.turn ht (fun k hk hm => by simp only [List.mem_singleton] at hm; subst hm; exact k2 hk), h2, below_row h3 hw, fun x hx => ?_⟩
  obtain ⟨j1, j2, j3⟩ := h4 x (hk x hx)
  exact ⟨(setRow_other W q x.1 cs' (hne x hx)).trans j1, j2, by simpa using j3⟩
theorem Crash_liveN (h : Live w p s K W) {pa : Option Addr} {n cap : Nat} {xs : List (Nat × Nat)} (hn : n = xs.length) (hxl : xs.length ≤ maxLen) (hx : Keeps w pa xs) (ho : xs ≠ [] → ∀ q, pa = some q → q.block < w.heap.size) :
    Calls Try.prog 13 #[ptr p, .slice pa n cap] W fun e W' => e = .returned (.int .i64 0) ∧ Live w p (crashS s xs) K W' := by
  subst hn
  exact Crash_live h (by unfold maxLen at hxl; omega) (hx.turn (Turn.of_below (B := []) h.bel) (fun _ _ _ hm => by cases hm)) (fun hne a ha => .inl (ho hne a ha))
theorem rCrash_zeroN (h : Below w.heap.size w W) {pa : Option Addr} {n cap : Nat} {xs : List (Nat × Nat)} (hn : n = xs.length) (hxl : xs.length ≤ maxLen) (hx : Keeps w pa xs) :
    Calls Try.prog 25 #[.agg rq0, .slice pa n cap] W fun e W' => e = .returned (.agg rq0) ∧ Below W.heap.size W W' := by
  subst hn
  exact rCrash_zero hxl (hx.turn (Turn.of_below (B := []) h) (fun _ _ _ hm => by cases hm))
end

set_option linter.unusedSimpArgs false in
set_option maxRecDepth 100000 in
set_option maxHeartbeats 12800000 in
theorem does_any (what a : Nat) (c : UInt8) (pa : Option Addr) (cap : Nat) (z : Int) {ks : List (Nat × Nat)} {w W : World} {p : Nat} {s : DS} {K0 : List (Nat × Obj)} (h : Live w p s K0 W) (hlen : s.pend.length < 4294967295) (ha : a < 4294967296) (hkl : ks.length ≤ maxLen) (hk : Keeps w pa ks) (hold : ks ≠ [] → ∀ q, pa = some q → q.block < w.heap.size) (hwhat : what < 256) (hw4 : what % 5 < 4) :
    Calls Try.prog 10 #[ptr p, .agg rq0, .agg (actV what a c (.slice pa ks.length cap) z)] W fun e W' => (∃ v, e = .returned v) ∧ Live w p (actK what a c s ks) K0 W' := by
  have hzq := (zero_of_info infoRQ).1
  have hi0 := size0
  have hi1 := size1
  have hia := (zero_of_info infoAct).2
  have hge := h.bel.size
  have hlow : ∀ x ∈ K0, x.1 < W.heap.size := fun x hx => h.lt_ (q := x.1) (o := x.2) hx
  have h3 := ((h.alloc (.cells rq0 36)).alloc (.cells (actV what a c (.slice pa ks.length cap) z) 32)).alloc (.cells rq0 36)
  rw [show ((W.alloc (.cells rq0 36)).alloc (.cells (actV what a c (.slice pa ks.length cap) z) 32)).heap.size = W.heap.size + 1 + 1 by simp, show (W.alloc (.cells rq0 36)).heap.size = W.heap.size + 1 by simp] at h3
  unfold rq0 at *
  unfold rq1 at *
  unfold actV at *
  obtain ⟨n, hn⟩ : ∃ n, n = ks.length := ⟨_, rfl⟩
  simp only [← hn] at hkl h3 ⊢
  have HN := Lib.hid hn; clear hn
  have HK := Lib.hid hk; clear hk
  have HKO := Lib.hid hold; clear hold
  have HI := Lib.hid (And.intro hi0 (And.intro hi1 hia)); clear hi0 hi1 hia
  clear h
  have hcase : what % 5 = 0 ∨ what % 5 = 1 ∨ what % 5 = 2 ∨ what % 5 = 3 := by omega
  obtain ⟨k, hk5⟩ : ∃ k, k = what % 5 := ⟨_, rfl⟩
  have m1 : (what : Int) % 5 = (k : Int) := by omega
  have m2 : Int.tmod (what : Int) 5 = (k : Int) := by rw [Int.tmod_eq_emod_of_nonneg (by omega)]; exact m1
  rw [← hk5] at hcase
  have hact : actK what a c s ks = if k = 2 then flushS s else if k = 3 then crashS s ks else writeS s a (blockB c) := by rw [hk5]; rfl
  rw [hact]
  clear hk5 hw4 hact
  unfold ptr
  go_enter Try.func10, Try.ntmps10
  rcases hcase with rfl | rfl | rfl | rfl
  · go_wp2_with fail
    obtain ⟨q0, hq0⟩ : ∃ q, q = W.heap.size := ⟨_, rfl⟩
    obtain ⟨q1, hq1⟩ : ∃ q, q = q0 + 1 := ⟨_, rfl⟩
    obtain ⟨q2, hq2⟩ : ∃ q, q = q1 + 1 := ⟨_, rfl⟩
    simp only [← hq0, ← hq1, ← hq2] at h3 hge hlow ⊢
    generalize ((W.alloc _).alloc _).alloc _ = W1 at h3 ⊢
    have HQ := Lib.hid (show w.heap.size ≤ q0 ∧ w.heap.size ≤ q1 ∧ w.heap.size ≤ q2 ∧ q0 < q1 ∧ q1 < q2 by omega)
    clear hq0 hq1 hq2 hge
    have HI0 := HI.out.1
    have HIA := HI.out.2.2
    have HS : ∀ W : World, W.heap[q1]? = some (.cells #[.int .u8 (what : Int), .int .u32 (a : Int), .int .u8 (c.toNat : Int), .slice pa n cap, .int .i64 z] 32 (0, 0)) → W.heap[q1]? = some (.cells #[.int .u8 (what : Int), .int .u32 (a : Int), .int .u8 (c.toNat : Int), .slice pa n cap, .int .i64 z] 32 (0, 0)) := fun _ h => h
    refine wp_region_noPanic ?_
    have hl' := h3.drew
    have hS : W1.drew.heap[q1]? = some (.cells #[.int .u8 (what : Int), .int .u32 (a : Int), .int .u8 (c.toNat : Int), .slice pa n cap, .int .i64 z] 32 (0, 0)) := hl'.at_ (by simp)
    clear h3
    refine wp_region_held_drew (S := fun W => W.heap[q1]? = some (.cells #[.int .u8 (what : Int), .int .u32 (a : Int), .int .u8 (c.toNat : Int), .slice pa n cap, .int .i64 z] 32 (0, 0))) (by kernel_rfl) hS ?_
    intro hS
    generalize W1.drew = V at hS hl' ⊢
    refine wpAnyH_take (i := 0) (v := .pointer (some ⟨p, 0, none⟩)) rfl (by kernel_rfl) (by kernel_rfl) (by kernel_rfl) (fun _ _ _ h => (h : False).elim) (Or.inl ⟨by rfl, fun _ _ => by go_simp⟩) hS ?_
    change wpAnyH _ _ _ _ _ _ _ (Act.put _ (some 27) _) _
    simp only [Act.put, List.setIfInBounds_toArray, List.set_cons_succ, List.set_cons_zero]
    refine wpAnyH_take (i := 1) (v := .pointer (some ⟨q1, 1, none⟩)) rfl (by kernel_rfl) (by kernel_rfl) (by kernel_rfl) (fun _ _ _ h => (h : False).elim) (Or.inl ⟨by rfl, fun _ _ => by go_simp⟩) hS ?_
    change wpAnyH _ _ _ _ _ _ _ (Act.put _ (some 28) _) _
    simp only [Act.put, List.setIfInBounds_toArray, List.set_cons_succ, List.set_cons_zero]
    refine wpAnyH_take (i := 2) (v := .int .u32 (a : Int)) rfl (by kernel_rfl) (by kernel_rfl) (by kernel_rfl) (fun _ _ _ h => (h : False).elim) (Or.inl ⟨by rfl, fun W hW => by have c1 : W.cell? ⟨q1, 1, none⟩ = some (.int .u32 (a : Int)) := cell_of_row W q1 1 _ _ _ (HS _ hW); go_simp⟩) hS ?_
    change wpAnyH _ _ _ _ _ _ _ (Act.put _ (some 29) _) _
    simp only [Act.put, List.setIfInBounds_toArray, List.set_cons_succ, List.set_cons_zero]
    refine wpAnyH_take (i := 3) (v := .agg #[.int .u8 (what : Int), .int .u32 (a : Int), .int .u8 (c.toNat : Int), .slice pa n cap, .int .i64 z]) rfl (by kernel_rfl) (by kernel_rfl) (by kernel_rfl) (fun _ _ _ h => (h : False).elim) (yieldsIf_load_row (by rfl) 32 _ rfl q1 rfl _ _ _ _ (fun W hW => hW) Try.underlying32 rfl HIA) hS ?_
    change wpAnyH _ _ _ _ _ _ _ (Act.put _ (some 30) _) _
    simp only [Act.put, List.setIfInBounds_toArray, List.set_cons_succ, List.set_cons_zero]
    refine wpAnyH_ready (rs := [4]) (by kernel_rfl) (by simp) ?_
    refine AllReadyH.cons rfl (fun K hK => ?_) AllReadyH.nil
    rw [if_pos (by rfl)]
    go_simp
    refine (block_any what a c (.slice pa n cap) z V).mono ?_
    rintro e V2 ⟨rfl, hbb⟩
    have hl2 := hl'.below hbb
    clear hl' hbb
    dsimp only
    refine hK.out _ _ (hl2.at_ (by simp)) (fun _ => ?_)
    clear hK K
    refine wpAnyH_ready (rs := [5]) (by kernel_rfl) (by simp) ?_
    refine AllReadyH.cons rfl (fun K hK => ?_) AllReadyH.nil
    rw [if_pos (by rfl)]
    go_simp
    refine (Write_live hl2 ha (blockB_length c) hlen).mono ?_
    rintro e V4 ⟨rfl, hl⟩
    clear hl2
    dsimp only
    refine hK.out _ _ (hl.at_ (by simp)) (fun hS => ?_)
    clear hK K
    refine wpAnyH_take (i := 6) (v := .int .i64 (writeE s a)) rfl (by kernel_rfl) (by kernel_rfl) (by kernel_rfl) (fun _ _ _ h => (h : False).elim) (Or.inl ⟨by rfl, fun _ _ => by go_simp⟩) hS ?_
    change wpAnyH _ _ _ _ _ _ _ (Act.put _ (some 8) _) _
    simp only [Act.put, List.setIfInBounds_toArray, List.set_cons_succ, List.set_cons_zero]
    refine wpAnyH_done (by kernel_rfl) ?_ _
    refine NoPanic.normal ?_
    clear hS HS
    obtain ⟨s2, hs2⟩ : ∃ s2, s2 = writeS s a (blockB c) := ⟨_, rfl⟩
    rw [← hs2] at hl
    have HS2 := Lib.hid hs2; clear hs2
    generalize writeE s a = we at ⊢
    go_wp2_with fail
    refine wp_region_noPanic ?_
    have hS : Live w p s2 ((q2, .cells #[.int .u32 0, .slice none 0 0, .slice none 0 0, .bool false, .int .i64 0, .bool false, .int .u64 0] 36) :: (q1, .cells #[.int .u8 (what : Int), .int .u32 (a : Int), .int .u8 (c.toNat : Int), .slice pa n cap, .int .i64 z] 32) :: (q0, .cells #[.int .u32 0, .slice none 0 0, .slice none 0 0, .bool false, .int .i64 0, .bool false, .int .u64 0] 36) :: K0) V4.drew := hl.drew
    have HS0 : ∀ W : World, Live w p s2 ((q2, .cells #[.int .u32 0, .slice none 0 0, .slice none 0 0, .bool false, .int .i64 0, .bool false, .int .u64 0] 36) :: (q1, .cells #[.int .u8 (what : Int), .int .u32 (a : Int), .int .u8 (c.toNat : Int), .slice pa n cap, .int .i64 z] 32) :: (q0, .cells #[.int .u32 0, .slice none 0 0, .slice none 0 0, .bool false, .int .i64 0, .bool false, .int .u64 0] 36) :: K0) W → W.heap[q0]? = some (.cells #[.int .u32 0, .slice none 0 0, .slice none 0 0, .bool false, .int .i64 0, .bool false, .int .u64 0] 36 (0, 0)) := fun _ h => h.at_ (by simp)
    have HS1 : ∀ W : World, Live w p s2 ((q2, .cells #[.int .u32 0, .slice none 0 0, .slice none 0 0, .bool false, .int .i64 0, .bool false, .int .u64 0] 36) :: (q1, .cells #[.int .u8 (what : Int), .int .u32 (a : Int), .int .u8 (c.toNat : Int), .slice pa n cap, .int .i64 z] 32) :: (q0, .cells #[.int .u32 0, .slice none 0 0, .slice none 0 0, .bool false, .int .i64 0, .bool false, .int .u64 0] 36) :: K0) W → W.heap[q1]? = some (.cells #[.int .u8 (what : Int), .int .u32 (a : Int), .int .u8 (c.toNat : Int), .slice pa n cap, .int .i64 z] 32 (0, 0)) := fun _ h => h.at_ (by simp)
    clear hl
    refine wp_region_held_drew (S := fun W => Live w p s2 ((q2, .cells #[.int .u32 0, .slice none 0 0, .slice none 0 0, .bool false, .int .i64 0, .bool false, .int .u64 0] 36) :: (q1, .cells #[.int .u8 (what : Int), .int .u32 (a : Int), .int .u8 (c.toNat : Int), .slice pa n cap, .int .i64 z] 32) :: (q0, .cells #[.int .u32 0, .slice none 0 0, .slice none 0 0, .bool false, .int .i64 0, .bool false, .int .u64 0] 36) :: K0) W) (by kernel_rfl) hS ?_
    intro hS
    generalize V4.drew = V at hS ⊢
    refine wpAnyH_take (i := 0) (v := .agg #[.int .u32 0, .slice none 0 0, .slice none 0 0, .bool false, .int .i64 0, .bool false, .int .u64 0]) rfl (by kernel_rfl) (by kernel_rfl) (by kernel_rfl) (fun _ _ _ h => (h : False).elim) (yieldsIf_load_row (by rfl) 36 _ rfl q0 rfl _ _ _ _ (fun W hW => HS0 _ hW) Try.underlying36 rfl HI0) hS ?_
    change wpAnyH _ _ _ _ _ _ _ (Act.put _ (some 34) _) _
    simp only [Act.put, List.setIfInBounds_toArray, List.set_cons_succ, List.set_cons_zero]
    refine wpAnyH_take (i := 1) (v := .pointer (some ⟨q1, 1, none⟩)) rfl (by kernel_rfl) (by kernel_rfl) (by kernel_rfl) (fun _ _ _ h => (h : False).elim) (Or.inl ⟨by rfl, fun _ _ => by go_simp⟩) hS ?_
    change wpAnyH _ _ _ _ _ _ _ (Act.put _ (some 35) _) _
    simp only [Act.put, List.setIfInBounds_toArray, List.set_cons_succ, List.set_cons_zero]
    refine wpAnyH_take (i := 2) (v := .int .u32 (a : Int)) rfl (by kernel_rfl) (by kernel_rfl) (by kernel_rfl) (fun _ _ _ h => (h : False).elim) (Or.inl ⟨by rfl, fun W hW => by have c1 : W.cell? ⟨q1, 1, none⟩ = some (.int .u32 (a : Int)) := cell_of_row W q1 1 _ _ _ (HS1 _ hW); go_simp⟩) hS ?_
    change wpAnyH _ _ _ _ _ _ _ (Act.put _ (some 36) _) _
    simp only [Act.put, List.setIfInBounds_toArray, List.set_cons_succ, List.set_cons_zero]
    refine wpAnyH_take (i := 3) (v := .agg #[.int .u8 (what : Int), .int .u32 (a : Int), .int .u8 (c.toNat : Int), .slice pa n cap, .int .i64 z]) rfl (by kernel_rfl) (by kernel_rfl) (by kernel_rfl) (fun _ _ _ h => (h : False).elim) (yieldsIf_load_row (by rfl) 32 _ rfl q1 rfl _ _ _ _ (fun W hW => HS1 _ hW) Try.underlying32 rfl HIA) hS ?_
    change wpAnyH _ _ _ _ _ _ _ (Act.put _ (some 37) _) _
    simp only [Act.put, List.setIfInBounds_toArray, List.set_cons_succ, List.set_cons_zero]
    refine wpAnyH_ready (rs := [4]) (by kernel_rfl) (by simp) ?_
    refine AllReadyH.cons rfl (fun K hK => ?_) AllReadyH.nil
    rw [if_pos (by rfl)]
    go_simp
    refine (block_any what a c (.slice pa n cap) z V).mono ?_
    rintro e V2 ⟨rfl, hbb⟩
    have hl2 := hS.below hbb
    clear hbb hS
    dsimp only
    refine hK.out _ _ hl2 (fun _ => ?_)
    clear hK K
    refine wpAnyH_ready (rs := [5]) (by kernel_rfl) (by simp) ?_
    refine AllReadyH.cons rfl (fun K hK => ?_) AllReadyH.nil
    rw [if_pos (by rfl)]
    go_simp
    refine (rWrite_zero a (blockB c) V2).mono ?_
    rintro e V5 ⟨rfl, hbb⟩
    unfold rq0
    have hl := hl2.below hbb
    clear hl2 hbb
    dsimp only
    refine hK.out _ _ hl (fun hS => ?_)
    clear hK K
    refine wpAnyH_take (i := 6) (v := .tuple #[.agg #[.int .u32 0, .slice none 0 0, .slice none 0 0, .bool false, .int .i64 0, .bool false, .int .u64 0], .int .i64 2]) rfl (by kernel_rfl) (by kernel_rfl) (by kernel_rfl) (fun _ _ _ h => (h : False).elim) (Or.inl ⟨by rfl, fun _ _ => by go_simp⟩) hS ?_
    change wpAnyH _ _ _ _ _ _ _ (Act.put _ (some 33) _) _
    simp only [Act.put, List.setIfInBounds_toArray, List.set_cons_succ, List.set_cons_zero]
    refine wpAnyH_take (i := 7) (v := .agg #[.int .u32 0, .slice none 0 0, .slice none 0 0, .bool false, .int .i64 0, .bool false, .int .u64 0]) rfl (by kernel_rfl) (by kernel_rfl) (by kernel_rfl) (fun _ _ _ h => (h : False).elim) (Or.inl ⟨by rfl, fun _ _ => by go_simp⟩) hS ?_
    change wpAnyH _ _ _ _ _ _ _ (Act.put _ (some 40) _) _
    simp only [Act.put, List.setIfInBounds_toArray, List.set_cons_succ, List.set_cons_zero]
    refine wpAnyH_take (i := 8) (v := .int .i64 2) rfl (by kernel_rfl) (by kernel_rfl) (by kernel_rfl) (fun _ _ _ h => (h : False).elim) (Or.inl ⟨by rfl, fun _ _ => by go_simp⟩) hS ?_
    change wpAnyH _ _ _ _ _ _ _ (Act.put _ (some 41) _) _
    simp only [Act.put, List.setIfInBounds_toArray, List.set_cons_succ, List.set_cons_zero]
    refine wpAnyH_ready (rs := [9]) (by kernel_rfl) (by simp) ?_
    refine AllReadyH.cons rfl (fun K hK => ?_) AllReadyH.nil
    rw [if_pos (by rfl)]
    refine wp_store_row 36 _ _ rfl q0 #[.int .u32 0, .slice none 0 0, .slice none 0 0, .bool false, .int .i64 0, .bool false, .int .u64 0] rfl rfl _ _ (HS0 _ hS) HI0 rfl (by simp [Value.oneCell']) ?_
    have hl2 := hS.same (q := q0) (cs := #[.int .u32 0, .slice none 0 0, .slice none 0 0, .bool false, .int .i64 0, .bool false, .int .u64 0]) (T := 36) (by simp) HQ.out.1
    clear hl hS
    refine hK.out _ _ hl2 (fun hS => ?_)
    clear hK K hl2
    refine wpAnyH_take (i := 10) (v := .int .i64 2) rfl (by kernel_rfl) (by kernel_rfl) (by kernel_rfl) (fun _ _ _ h => (h : False).elim) (Or.inl ⟨by rfl, fun _ _ => by go_simp⟩) hS ?_
    change wpAnyH _ _ _ _ _ _ _ (Act.put _ (some 9) _) _
    simp only [Act.put, List.setIfInBounds_toArray, List.set_cons_succ, List.set_cons_zero]
    refine wpAnyH_done (by kernel_rfl) ?_ _
    refine NoPanic.normal ?_
    have y0 := HS0 _ hS
    have y2 : (V5.setRow q0 #[.int .u32 0, .slice none 0 0, .slice none 0 0, .bool false, .int .i64 0, .bool false, .int .u64 0]).heap[q2]? = some (.cells #[.int .u32 0, .slice none 0 0, .slice none 0 0, .bool false, .int .i64 0, .bool false, .int .u64 0] 36 (0, 0)) := hS.at_ (by simp)
    generalize V5.setRow q0 #[.int .u32 0, .slice none 0 0, .slice none 0 0, .bool false, .int .i64 0, .bool false, .int .u64 0] = V6 at hS y0 y2 ⊢
    clear HS0 HS1 HIA
    go_wp2_with (first | (refine wpList_load_want (by rfl) 36 _ rfl q0 rfl _ _ _ _ y0 Try.underlying36 rfl HI0 ?_) | (refine wpList_store_row rfl 36 _ _ rfl q2 #[.int .u32 0, .slice none 0 0, .slice none 0 0, .bool false, .int .i64 0, .bool false, .int .u64 0] rfl rfl _ _ y2 HI0 rfl (by simp [Value.oneCell']) ?_))
    refine bodyPost_ret (results_row_tmp rfl _ _ _ _ _ _ _ rfl (setRow_heap _ _ _ _ _ _ y2) Try.underlying36 rfl HI0) rfl ⟨⟨_, rfl⟩, ?_⟩
    rw [HS2.out] at hS
    exact hS.put (cs := #[.int .u32 0, .slice none 0 0, .slice none 0 0, .bool false, .int .i64 0, .bool false, .int .u64 0]) (q := q2) (T := 36) (K' := K0) (by simp) HQ.out.2.2.1 (fun x hx => List.mem_cons_of_mem _ (List.mem_cons_of_mem _ (List.mem_cons_of_mem _ hx))) (fun x hx => by have := hlow x hx; have := HQ.out; omega)
  · go_wp2_with fail
    obtain ⟨q0, hq0⟩ : ∃ q, q = W.heap.size := ⟨_, rfl⟩
    obtain ⟨q1, hq1⟩ : ∃ q, q = q0 + 1 := ⟨_, rfl⟩
    obtain ⟨q2, hq2⟩ : ∃ q, q = q1 + 1 := ⟨_, rfl⟩
    simp only [← hq0, ← hq1, ← hq2] at h3 hge hlow ⊢
    generalize ((W.alloc _).alloc _).alloc _ = W1 at h3 ⊢
    have HQ := Lib.hid (show w.heap.size ≤ q0 ∧ w.heap.size ≤ q1 ∧ w.heap.size ≤ q2 ∧ q0 < q1 ∧ q1 < q2 by omega)
    clear hq0 hq1 hq2 hge
    have HI0 := HI.out.1
    have HIA := HI.out.2.2
    have HS : ∀ W : World, W.heap[q1]? = some (.cells #[.int .u8 (what : Int), .int .u32 (a : Int), .int .u8 (c.toNat : Int), .slice pa n cap, .int .i64 z] 32 (0, 0)) → W.heap[q1]? = some (.cells #[.int .u8 (what : Int), .int .u32 (a : Int), .int .u8 (c.toNat : Int), .slice pa n cap, .int .i64 z] 32 (0, 0)) := fun _ h => h
    refine wp_region_noPanic ?_
    have hl' := h3.drew
    have hS : W1.drew.heap[q1]? = some (.cells #[.int .u8 (what : Int), .int .u32 (a : Int), .int .u8 (c.toNat : Int), .slice pa n cap, .int .i64 z] 32 (0, 0)) := hl'.at_ (by simp)
    clear h3
    refine wp_region_held_drew (S := fun W => W.heap[q1]? = some (.cells #[.int .u8 (what : Int), .int .u32 (a : Int), .int .u8 (c.toNat : Int), .slice pa n cap, .int .i64 z] 32 (0, 0))) (by kernel_rfl) hS ?_
    intro hS
    generalize W1.drew = V at hS hl' ⊢
    refine wpAnyH_take (i := 0) (v := .pointer (some ⟨p, 0, none⟩)) rfl (by kernel_rfl) (by kernel_rfl) (by kernel_rfl) (fun _ _ _ h => (h : False).elim) (Or.inl ⟨by rfl, fun _ _ => by go_simp⟩) hS ?_
    change wpAnyH _ _ _ _ _ _ _ (Act.put _ (some 27) _) _
    simp only [Act.put, List.setIfInBounds_toArray, List.set_cons_succ, List.set_cons_zero]
    refine wpAnyH_take (i := 1) (v := .pointer (some ⟨q1, 1, none⟩)) rfl (by kernel_rfl) (by kernel_rfl) (by kernel_rfl) (fun _ _ _ h => (h : False).elim) (Or.inl ⟨by rfl, fun _ _ => by go_simp⟩) hS ?_
    change wpAnyH _ _ _ _ _ _ _ (Act.put _ (some 28) _) _
    simp only [Act.put, List.setIfInBounds_toArray, List.set_cons_succ, List.set_cons_zero]
    refine wpAnyH_take (i := 2) (v := .int .u32 (a : Int)) rfl (by kernel_rfl) (by kernel_rfl) (by kernel_rfl) (fun _ _ _ h => (h : False).elim) (Or.inl ⟨by rfl, fun W hW => by have c1 : W.cell? ⟨q1, 1, none⟩ = some (.int .u32 (a : Int)) := cell_of_row W q1 1 _ _ _ (HS _ hW); go_simp⟩) hS ?_
    change wpAnyH _ _ _ _ _ _ _ (Act.put _ (some 29) _) _
    simp only [Act.put, List.setIfInBounds_toArray, List.set_cons_succ, List.set_cons_zero]
    refine wpAnyH_take (i := 3) (v := .agg #[.int .u8 (what : Int), .int .u32 (a : Int), .int .u8 (c.toNat : Int), .slice pa n cap, .int .i64 z]) rfl (by kernel_rfl) (by kernel_rfl) (by kernel_rfl) (fun _ _ _ h => (h : False).elim) (yieldsIf_load_row (by rfl) 32 _ rfl q1 rfl _ _ _ _ (fun W hW => hW) Try.underlying32 rfl HIA) hS ?_
    change wpAnyH _ _ _ _ _ _ _ (Act.put _ (some 30) _) _
    simp only [Act.put, List.setIfInBounds_toArray, List.set_cons_succ, List.set_cons_zero]
    refine wpAnyH_ready (rs := [4]) (by kernel_rfl) (by simp) ?_
    refine AllReadyH.cons rfl (fun K hK => ?_) AllReadyH.nil
    rw [if_pos (by rfl)]
    go_simp
    refine (block_any what a c (.slice pa n cap) z V).mono ?_
    rintro e V2 ⟨rfl, hbb⟩
    have hl2 := hl'.below hbb
    clear hl' hbb
    dsimp only
    refine hK.out _ _ (hl2.at_ (by simp)) (fun _ => ?_)
    clear hK K
    refine wpAnyH_ready (rs := [5]) (by kernel_rfl) (by simp) ?_
    refine AllReadyH.cons rfl (fun K hK => ?_) AllReadyH.nil
    rw [if_pos (by rfl)]
    go_simp
    refine (Write_live hl2 ha (blockB_length c) hlen).mono ?_
    rintro e V4 ⟨rfl, hl⟩
    clear hl2
    dsimp only
    refine hK.out _ _ (hl.at_ (by simp)) (fun hS => ?_)
    clear hK K
    refine wpAnyH_take (i := 6) (v := .int .i64 (writeE s a)) rfl (by kernel_rfl) (by kernel_rfl) (by kernel_rfl) (fun _ _ _ h => (h : False).elim) (Or.inl ⟨by rfl, fun _ _ => by go_simp⟩) hS ?_
    change wpAnyH _ _ _ _ _ _ _ (Act.put _ (some 8) _) _
    simp only [Act.put, List.setIfInBounds_toArray, List.set_cons_succ, List.set_cons_zero]
    refine wpAnyH_done (by kernel_rfl) ?_ _
    refine NoPanic.normal ?_
    clear hS HS
    obtain ⟨s2, hs2⟩ : ∃ s2, s2 = writeS s a (blockB c) := ⟨_, rfl⟩
    rw [← hs2] at hl
    have HS2 := Lib.hid hs2; clear hs2
    generalize writeE s a = we at ⊢
    go_wp2_with fail
    refine wp_region_noPanic ?_
    have hS : Live w p s2 ((q2, .cells #[.int .u32 0, .slice none 0 0, .slice none 0 0, .bool false, .int .i64 0, .bool false, .int .u64 0] 36) :: (q1, .cells #[.int .u8 (what : Int), .int .u32 (a : Int), .int .u8 (c.toNat : Int), .slice pa n cap, .int .i64 z] 32) :: (q0, .cells #[.int .u32 0, .slice none 0 0, .slice none 0 0, .bool false, .int .i64 0, .bool false, .int .u64 0] 36) :: K0) V4.drew := hl.drew
    have HS0 : ∀ W : World, Live w p s2 ((q2, .cells #[.int .u32 0, .slice none 0 0, .slice none 0 0, .bool false, .int .i64 0, .bool false, .int .u64 0] 36) :: (q1, .cells #[.int .u8 (what : Int), .int .u32 (a : Int), .int .u8 (c.toNat : Int), .slice pa n cap, .int .i64 z] 32) :: (q0, .cells #[.int .u32 0, .slice none 0 0, .slice none 0 0, .bool false, .int .i64 0, .bool false, .int .u64 0] 36) :: K0) W → W.heap[q0]? = some (.cells #[.int .u32 0, .slice none 0 0, .slice none 0 0, .bool false, .int .i64 0, .bool false, .int .u64 0] 36 (0, 0)) := fun _ h => h.at_ (by simp)
    have HS1 : ∀ W : World, Live w p s2 ((q2, .cells #[.int .u32 0, .slice none 0 0, .slice none 0 0, .bool false, .int .i64 0, .bool false, .int .u64 0] 36) :: (q1, .cells #[.int .u8 (what : Int), .int .u32 (a : Int), .int .u8 (c.toNat : Int), .slice pa n cap, .int .i64 z] 32) :: (q0, .cells #[.int .u32 0, .slice none 0 0, .slice none 0 0, .bool false, .int .i64 0, .bool false, .int .u64 0] 36) :: K0) W → W.heap[q1]? = some (.cells #[.int .u8 (what : Int), .int .u32 (a : Int), .int .u8 (c.toNat : Int), .slice pa n cap, .int .i64 z] 32 (0, 0)) := fun _ h => h.at_ (by simp)
    clear hl
    refine wp_region_held_drew (S := fun W => Live w p s2 ((q2, .cells #[.int .u32 0, .slice none 0 0, .slice none 0 0, .bool false, .int .i64 0, .bool false, .int .u64 0] 36) :: (q1, .cells #[.int .u8 (what : Int), .int .u32 (a : Int), .int .u8 (c.toNat : Int), .slice pa n cap, .int .i64 z] 32) :: (q0, .cells #[.int .u32 0, .slice none 0 0, .slice none 0 0, .bool false, .int .i64 0, .bool false, .int .u64 0] 36) :: K0) W) (by kernel_rfl) hS ?_
    intro hS
    generalize V4.drew = V at hS ⊢
    refine wpAnyH_take (i := 0) (v := .agg #[.int .u32 0, .slice none 0 0, .slice none 0 0, .bool false, .int .i64 0, .bool false, .int .u64 0]) rfl (by kernel_rfl) (by kernel_rfl) (by kernel_rfl) (fun _ _ _ h => (h : False).elim) (yieldsIf_load_row (by rfl) 36 _ rfl q0 rfl _ _ _ _ (fun W hW => HS0 _ hW) Try.underlying36 rfl HI0) hS ?_
    change wpAnyH _ _ _ _ _ _ _ (Act.put _ (some 34) _) _
    simp only [Act.put, List.setIfInBounds_toArray, List.set_cons_succ, List.set_cons_zero]
    refine wpAnyH_take (i := 1) (v := .pointer (some ⟨q1, 1, none⟩)) rfl (by kernel_rfl) (by kernel_rfl) (by kernel_rfl) (fun _ _ _ h => (h : False).elim) (Or.inl ⟨by rfl, fun _ _ => by go_simp⟩) hS ?_
    change wpAnyH _ _ _ _ _ _ _ (Act.put _ (some 35) _) _
    simp only [Act.put, List.setIfInBounds_toArray, List.set_cons_succ, List.set_cons_zero]
    refine wpAnyH_take (i := 2) (v := .int .u32 (a : Int)) rfl (by kernel_rfl) (by kernel_rfl) (by kernel_rfl) (fun _ _ _ h => (h : False).elim) (Or.inl ⟨by rfl, fun W hW => by have c1 : W.cell? ⟨q1, 1, none⟩ = some (.int .u32 (a : Int)) := cell_of_row W q1 1 _ _ _ (HS1 _ hW); go_simp⟩) hS ?_
    change wpAnyH _ _ _ _ _ _ _ (Act.put _ (some 36) _) _
    simp only [Act.put, List.setIfInBounds_toArray, List.set_cons_succ, List.set_cons_zero]
    refine wpAnyH_take (i := 3) (v := .agg #[.int .u8 (what : Int), .int .u32 (a : Int), .int .u8 (c.toNat : Int), .slice pa n cap, .int .i64 z]) rfl (by kernel_rfl) (by kernel_rfl) (by kernel_rfl) (fun _ _ _ h => (h : False).elim) (yieldsIf_load_row (by rfl) 32 _ rfl q1 rfl _ _ _ _ (fun W hW => HS1 _ hW) Try.underlying32 rfl HIA) hS ?_
    change wpAnyH _ _ _ _ _ _ _ (Act.put _ (some 37) _) _
    simp only [Act.put, List.setIfInBounds_toArray, List.set_cons_succ, List.set_cons_zero]
    refine wpAnyH_ready (rs := [4]) (by kernel_rfl) (by simp) ?_
    refine AllReadyH.cons rfl (fun K hK => ?_) AllReadyH.nil
    rw [if_pos (by rfl)]
    go_simp
    refine (block_any what a c (.slice pa n cap) z V).mono ?_
    rintro e V2 ⟨rfl, hbb⟩
    have hl2 := hS.below hbb
    clear hbb hS
    dsimp only
    refine hK.out _ _ hl2 (fun _ => ?_)
    clear hK K
    refine wpAnyH_ready (rs := [5]) (by kernel_rfl) (by simp) ?_
    refine AllReadyH.cons rfl (fun K hK => ?_) AllReadyH.nil
    rw [if_pos (by rfl)]
    go_simp
    refine (rWrite_zero a (blockB c) V2).mono ?_
    rintro e V5 ⟨rfl, hbb⟩
    unfold rq0
    have hl := hl2.below hbb
    clear hl2 hbb
    dsimp only
    refine hK.out _ _ hl (fun hS => ?_)
    clear hK K
    refine wpAnyH_take (i := 6) (v := .tuple #[.agg #[.int .u32 0, .slice none 0 0, .slice none 0 0, .bool false, .int .i64 0, .bool false, .int .u64 0], .int .i64 2]) rfl (by kernel_rfl) (by kernel_rfl) (by kernel_rfl) (fun _ _ _ h => (h : False).elim) (Or.inl ⟨by rfl, fun _ _ => by go_simp⟩) hS ?_
    change wpAnyH _ _ _ _ _ _ _ (Act.put _ (some 33) _) _
    simp only [Act.put, List.setIfInBounds_toArray, List.set_cons_succ, List.set_cons_zero]
    refine wpAnyH_take (i := 7) (v := .agg #[.int .u32 0, .slice none 0 0, .slice none 0 0, .bool false, .int .i64 0, .bool false, .int .u64 0]) rfl (by kernel_rfl) (by kernel_rfl) (by kernel_rfl) (fun _ _ _ h => (h : False).elim) (Or.inl ⟨by rfl, fun _ _ => by go_simp⟩) hS ?_
    change wpAnyH _ _ _ _ _ _ _ (Act.put _ (some 40) _) _
    simp only [Act.put, List.setIfInBounds_toArray, List.set_cons_succ, List.set_cons_zero]
    refine wpAnyH_take (i := 8) (v := .int .i64 2) rfl (by kernel_rfl) (by kernel_rfl) (by kernel_rfl) (fun _ _ _ h => (h : False).elim) (Or.inl ⟨by rfl, fun _ _ => by go_simp⟩) hS ?_
    change wpAnyH _ _ _ _ _ _ _ (Act.put _ (some 41) _) _
    simp only [Act.put, List.setIfInBounds_toArray, List.set_cons_succ, List.set_cons_zero]
    refine wpAnyH_ready (rs := [9]) (by kernel_rfl) (by simp) ?_
    refine AllReadyH.cons rfl (fun K hK => ?_) AllReadyH.nil
    rw [if_pos (by rfl)]
    refine wp_store_row 36 _ _ rfl q0 #[.int .u32 0, .slice none 0 0, .slice none 0 0, .bool false, .int .i64 0, .bool false, .int .u64 0] rfl rfl _ _ (HS0 _ hS) HI0 rfl (by simp [Value.oneCell']) ?_
    have hl2 := hS.same (q := q0) (cs := #[.int .u32 0, .slice none 0 0, .slice none 0 0, .bool false, .int .i64 0, .bool false, .int .u64 0]) (T := 36) (by simp) HQ.out.1
    clear hl hS
    refine hK.out _ _ hl2 (fun hS => ?_)
    clear hK K hl2
    refine wpAnyH_take (i := 10) (v := .int .i64 2) rfl (by kernel_rfl) (by kernel_rfl) (by kernel_rfl) (fun _ _ _ h => (h : False).elim) (Or.inl ⟨by rfl, fun _ _ => by go_simp⟩) hS ?_
    change wpAnyH _ _ _ _ _ _ _ (Act.put _ (some 9) _) _
    simp only [Act.put, List.setIfInBounds_toArray, List.set_cons_succ, List.set_cons_zero]
    refine wpAnyH_done (by kernel_rfl) ?_ _
    refine NoPanic.normal ?_
    have y0 := HS0 _ hS
    have y2 : (V5.setRow q0 #[.int .u32 0, .slice none 0 0, .slice none 0 0, .bool false, .int .i64 0, .bool false, .int .u64 0]).heap[q2]? = some (.cells #[.int .u32 0, .slice none 0 0, .slice none 0 0, .bool false, .int .i64 0, .bool false, .int .u64 0] 36 (0, 0)) := hS.at_ (by simp)
    generalize V5.setRow q0 #[.int .u32 0, .slice none 0 0, .slice none 0 0, .bool false, .int .i64 0, .bool false, .int .u64 0] = V6 at hS y0 y2 ⊢
    clear HS0 HS1 HIA
    go_wp2_with (first | (refine wpList_load_want (by rfl) 36 _ rfl q0 rfl _ _ _ _ y0 Try.underlying36 rfl HI0 ?_) | (refine wpList_store_row rfl 36 _ _ rfl q2 #[.int .u32 0, .slice none 0 0, .slice none 0 0, .bool false, .int .i64 0, .bool false, .int .u64 0] rfl rfl _ _ y2 HI0 rfl (by simp [Value.oneCell']) ?_))
    refine bodyPost_ret (results_row_tmp rfl _ _ _ _ _ _ _ rfl (setRow_heap _ _ _ _ _ _ y2) Try.underlying36 rfl HI0) rfl ⟨⟨_, rfl⟩, ?_⟩
    rw [HS2.out] at hS
    exact hS.put (cs := #[.int .u32 0, .slice none 0 0, .slice none 0 0, .bool false, .int .i64 0, .bool false, .int .u64 0]) (q := q2) (T := 36) (K' := K0) (by simp) HQ.out.2.2.1 (fun x hx => List.mem_cons_of_mem _ (List.mem_cons_of_mem _ (List.mem_cons_of_mem _ hx))) (fun x hx => by have := hlow x hx; have := HQ.out; omega)
  · go_wp2_with fail
    obtain ⟨q0, hq0⟩ : ∃ q, q = W.heap.size := ⟨_, rfl⟩
    obtain ⟨q1, hq1⟩ : ∃ q, q = q0 + 1 := ⟨_, rfl⟩
    obtain ⟨q2, hq2⟩ : ∃ q, q = q1 + 1 := ⟨_, rfl⟩
    simp only [← hq0, ← hq1, ← hq2] at h3 hge hlow ⊢
    generalize ((W.alloc _).alloc _).alloc _ = W1 at h3 ⊢
    have HQ := Lib.hid (show w.heap.size ≤ q0 ∧ w.heap.size ≤ q1 ∧ w.heap.size ≤ q2 ∧ q0 < q1 ∧ q1 < q2 by omega)
    clear hq0 hq1 hq2 hge
    refine (Flush_live h3 (by omega)).mono ?_
    clear h3
    rintro e V ⟨rfl, hl⟩
    have y0 : V.heap[q0]? = some (.cells #[.int .u32 0, .slice none 0 0, .slice none 0 0, .bool false, .int .i64 0, .bool false, .int .u64 0] 36 (0, 0)) := hl.at_ (by simp)
    have HI0 := HI.out.1
    go_wp2_with (refine wpList_load_want (by rfl) 36 _ rfl q0 rfl _ _ _ _ y0 Try.underlying36 rfl HI0 ?_)
    refine (rFlush_zero _).mono ?_
    clear y0 HI0
    rintro e V2 ⟨rfl, hbb⟩
    have hl2 := hl.below hbb
    clear hl hbb
    have y0 : V2.heap[q0]? = some (.cells #[.int .u32 0, .slice none 0 0, .slice none 0 0, .bool false, .int .i64 0, .bool false, .int .u64 0] 36 (0, 0)) := hl2.at_ (by simp)
    have HI1 := HI.out.2.1
    unfold rq1
    have hl3 := hl2.put (cs := #[.int .u32 0, .slice none 0 0, .slice none 0 0, .bool false, .int .i64 0, .bool false, .int .u64 0]) (cs' := #[.int .u32 0, .slice none 0 0, .slice none 0 0, .bool false, .int .i64 0, .bool false, .int .u64 1]) (q := q0) (T := 36) (K' := (q2, .cells #[.int .u32 0, .slice none 0 0, .slice none 0 0, .bool false, .int .i64 0, .bool false, .int .u64 0] 36) :: K0) (by simp) HQ.out.1 (fun x hx => by simp only [List.mem_cons] at hx ⊢; rcases hx with h | h <;> simp [h]) (fun x hx => by
      rcases List.mem_cons.1 hx with h | h
      · subst h; have := HQ.out; show q2 ≠ q0; omega
      · have := hlow x h; omega)
    have y1 := setRow_heap V2 q0 _ #[.int .u32 0, .slice none 0 0, .slice none 0 0, .bool false, .int .i64 0, .bool false, .int .u64 1] _ _ y0
    have y2 : (V2.setRow q0 #[.int .u32 0, .slice none 0 0, .slice none 0 0, .bool false, .int .i64 0, .bool false, .int .u64 1]).heap[q2]? = some (.cells #[.int .u32 0, .slice none 0 0, .slice none 0 0, .bool false, .int .i64 0, .bool false, .int .u64 0] 36 (0, 0)) := hl3.at_ (by simp)
    have tok : True := trivial
    clear hl2
    go_wp2_with (first | (have _t := tok; refine wpList_store_row rfl 36 _ _ rfl q0 #[.int .u32 0, .slice none 0 0, .slice none 0 0, .bool false, .int .i64 0, .bool false, .int .u64 1] rfl rfl _ _ y0 HI1 rfl (by simp [Value.oneCell']) ?_; clear y0 _t tok; generalize V2.setRow q0 #[.int .u32 0, .slice none 0 0, .slice none 0 0, .bool false, .int .i64 0, .bool false, .int .u64 1] = V2 at y1 y2 hl3 ⊢) | (refine wpList_load_want (by rfl) 36 _ rfl q0 rfl _ _ _ _ y1 Try.underlying36 rfl HI1 ?_) | (refine wpList_store_row rfl 36 _ _ rfl q2 #[.int .u32 0, .slice none 0 0, .slice none 0 0, .bool false, .int .i64 0, .bool false, .int .u64 1] rfl rfl _ _ y2 HI1 rfl (by simp [Value.oneCell']) ?_))
    refine bodyPost_ret (results_row_tmp rfl _ _ _ _ _ _ _ rfl (setRow_heap _ _ _ _ _ _ y2) Try.underlying36 rfl HI1) rfl ⟨⟨_, rfl⟩, ?_⟩
    exact hl3.put (cs := #[.int .u32 0, .slice none 0 0, .slice none 0 0, .bool false, .int .i64 0, .bool false, .int .u64 0]) (q := q2) (T := 36) (by simp) HQ.out.2.2.1 (fun x hx => by simp [hx]) (fun x hx => by have := hlow x hx; have := HQ.out; omega)
  · go_wp2_with fail
    obtain ⟨q0, hq0⟩ : ∃ q, q = W.heap.size := ⟨_, rfl⟩
    obtain ⟨q1, hq1⟩ : ∃ q, q = q0 + 1 := ⟨_, rfl⟩
    obtain ⟨q2, hq2⟩ : ∃ q, q = q1 + 1 := ⟨_, rfl⟩
    simp only [← hq0, ← hq1, ← hq2] at h3 hge hlow ⊢
    generalize ((W.alloc _).alloc _).alloc _ = W1 at h3 ⊢
    have HQ := Lib.hid (show w.heap.size ≤ q0 ∧ w.heap.size ≤ q1 ∧ w.heap.size ≤ q2 ∧ q0 < q1 ∧ q1 < q2 by omega)
    clear hq0 hq1 hq2 hge
    refine (Crash_liveN h3 HN.out (by rw [← HN.out]; exact hkl) HK.out HKO.out).mono ?_
    clear h3
    rintro e V ⟨rfl, hl⟩
    have y0 : V.heap[q0]? = some (.cells #[.int .u32 0, .slice none 0 0, .slice none 0 0, .bool false, .int .i64 0, .bool false, .int .u64 0] 36 (0, 0)) := hl.at_ (by simp)
    have y1 : V.heap[q1]? = some (.cells #[.int .u8 (what : Int), .int .u32 (a : Int), .int .u8 (c.toNat : Int), .slice pa n cap, .int .i64 z] 32 (0, 0)) := hl.at_ (by simp)
    have c3 : V.cell? ⟨q1, 3, none⟩ = some (.slice pa n cap) := cell_of_row V q1 3 _ _ _ y1
    have HI0 := HI.out.1
    clear y1
    go_wp2_with (refine wpList_load_want (by rfl) 36 _ rfl q0 rfl _ _ _ _ y0 Try.underlying36 rfl HI0 ?_)
    refine (rCrash_zeroN hl.bel HN.out (by rw [← HN.out]; exact hkl) HK.out).mono ?_
    clear y0 c3
    rintro e V2 ⟨rfl, hbb⟩
    have hl2 := hl.below hbb
    clear hl hbb
    have y0 : V2.heap[q0]? = some (.cells #[.int .u32 0, .slice none 0 0, .slice none 0 0, .bool false, .int .i64 0, .bool false, .int .u64 0] 36 (0, 0)) := hl2.at_ (by simp)
    unfold rq0
    have hl3 := hl2.same (cs := #[.int .u32 0, .slice none 0 0, .slice none 0 0, .bool false, .int .i64 0, .bool false, .int .u64 0]) (q := q0) (T := 36) (by simp) HQ.out.1
    have y1 := setRow_heap V2 q0 _ #[.int .u32 0, .slice none 0 0, .slice none 0 0, .bool false, .int .i64 0, .bool false, .int .u64 0] _ _ y0
    have y2 : (V2.setRow q0 #[.int .u32 0, .slice none 0 0, .slice none 0 0, .bool false, .int .i64 0, .bool false, .int .u64 0]).heap[q2]? = some (.cells #[.int .u32 0, .slice none 0 0, .slice none 0 0, .bool false, .int .i64 0, .bool false, .int .u64 0] 36 (0, 0)) := hl3.at_ (by simp)
    have tok : True := trivial
    clear hl2
    go_wp2_with (first | (have _t := tok; refine wpList_store_row rfl 36 _ _ rfl q0 #[.int .u32 0, .slice none 0 0, .slice none 0 0, .bool false, .int .i64 0, .bool false, .int .u64 0] rfl rfl _ _ y0 HI0 rfl (by simp [Value.oneCell']) ?_; clear y0 _t tok; generalize V2.setRow q0 #[.int .u32 0, .slice none 0 0, .slice none 0 0, .bool false, .int .i64 0, .bool false, .int .u64 0] = V2 at y1 y2 hl3 ⊢) | (refine wpList_load_want (by rfl) 36 _ rfl q0 rfl _ _ _ _ y1 Try.underlying36 rfl HI0 ?_) | (refine wpList_store_row rfl 36 _ _ rfl q2 #[.int .u32 0, .slice none 0 0, .slice none 0 0, .bool false, .int .i64 0, .bool false, .int .u64 0] rfl rfl _ _ y2 HI0 rfl (by simp [Value.oneCell']) ?_))
    refine bodyPost_ret (results_row_tmp rfl _ _ _ _ _ _ _ rfl (setRow_heap _ _ _ _ _ _ y2) Try.underlying36 rfl HI0) rfl ⟨⟨_, rfl⟩, ?_⟩
    exact hl3.put (cs := #[.int .u32 0, .slice none 0 0, .slice none 0 0, .bool false, .int .i64 0, .bool false, .int .u64 0]) (q := q2) (T := 36) (by simp) HQ.out.2.2.1 (fun x hx => by simp [hx]) (fun x hx => by have := hlow x hx; have := HQ.out; omega)

end Go.Proofs.Ytlgjgobelceheaa.Dev
