/-
  The walk of the law DevFuses.
-/
import Derived.Test.YtbgigahgcekpjaaDevGreat
namespace Go.Proofs.Ytbgigahgcekpjaa.Dev
open Go.RowKit RowLaw

/-- a device behind i writes and flushes, with a fuse of k -/
structure FS (k i : Nat) (s : DS) : Prop where
  n : s.n = 64
  left : s.left = (k : Int) - ((min i k : Nat) : Int)
  down : s.down = decide (k < i)
  writes : s.writes = min i k
  pend : s.pend.length ≤ i
def fusE (k i : Nat) : Int := if i < k then 0 else 30
theorem FS.succ {k i : Nat} {s : DS} (h : FS k i s) (hd : s.down = false) : FS k (i + 1) (succS s) ∧ (s.left = 0 ↔ k ≤ i) := by
  have hki : ¬ k < i := by have := h.down; rw [hd] at this; simpa using this.symm
  have hl := h.left
  have e1 : s.left = 0 ↔ k ≤ i := by omega
  refine ⟨?_, e1⟩
  unfold succS
  by_cases h0 : s.left = 0
  · rw [if_pos h0]
    have hik : k = i := by omega
    exact ⟨h.n, by show s.left = _; omega, by show true = _; simp; omega, by show s.writes = _; rw [h.writes]; omega, by show s.pend.length ≤ _; have := h.pend; omega⟩
  · rw [if_neg h0]
    have h1 : ¬ s.left = -1 := by omega
    exact ⟨h.n, by show (if s.left = -1 then (-1 : Int) else s.left - 1) = _; rw [if_neg h1]; omega, by show s.down = _; rw [hd]; simp; omega, by show s.writes + 1 = _; rw [h.writes]; omega, by show s.pend.length ≤ _; have := h.pend; omega⟩
theorem FS.stay {k i : Nat} {s : DS} (h : FS k i s) (hd : s.down = true) : FS k (i + 1) s ∧ k ≤ i := by
  have hki : k < i := by have := h.down; rw [hd] at this; simpa using this.symm
  exact ⟨⟨h.n, by have := h.left; omega, by rw [hd]; simp; omega, by rw [h.writes]; omega, by have := h.pend; omega⟩, by omega⟩
theorem FS.flush {k i : Nat} {s : DS} (h : FS k i s) : FS k (i + 1) (flushS s) ∧ flushE s = fusE k i := by
  by_cases hd : s.down = true
  · obtain ⟨h1, h2⟩ := h.stay hd
    exact ⟨by rw [flushS, if_pos hd]; exact h1, by rw [flushE, if_pos (.inl hd), fusE, if_neg (by omega)]⟩
  · have hd' : s.down = false := by simpa using hd
    obtain ⟨h1, h2⟩ := h.succ hd'
    by_cases h0 : s.left = 0
    · have e : flushS s = succS s := by rw [flushS, if_neg hd, if_pos h0, succS, if_pos h0]
      exact ⟨by rw [e]; exact h1, by rw [flushE, if_pos (.inr h0), fusE, if_neg (by omega)]⟩
    · have e : flushS s = flushed (succS s) := by rw [flushS, if_neg hd, if_neg h0]
      exact ⟨by rw [e]; exact ⟨h1.n, h1.left, h1.down, h1.writes, Nat.zero_le _⟩, by rw [flushE, if_neg (by simp [hd', h0]), fusE, if_pos (by omega)]⟩
theorem FS.write {k i : Nat} {s : DS} (h : FS k i s) {a : Nat} (ha : a < 64) (l : List UInt8) : FS k (i + 1) (writeS s a l) ∧ writeE s a = fusE k i := by
  have hn : ¬ s.n ≤ a := by rw [h.n]; omega
  by_cases hd : s.down = true
  · obtain ⟨h1, h2⟩ := h.stay hd
    exact ⟨by rw [writeS, if_neg hn, if_pos hd]; exact h1, by rw [writeE, if_neg hn, if_pos (.inl hd), fusE, if_neg (by omega)]⟩
  · have hd' : s.down = false := by simpa using hd
    obtain ⟨h1, h2⟩ := h.succ hd'
    have e : writeS s a l = succS (pushS s a l) := by rw [writeS, if_neg hn, if_neg hd]
    have e2 : FS k (i + 1) (succS (pushS s a l)) := by
      have hpl : (succS (pushS s a l)).pend.length = s.pend.length + 1 := by unfold succS; split <;> simp [pushS]
      have q1 : (succS (pushS s a l)).n = (succS s).n := by unfold succS; show (if s.left = 0 then _ else _ : DS).n = (if s.left = 0 then _ else _ : DS).n; split <;> rfl
      have q2 : (succS (pushS s a l)).left = (succS s).left := by unfold succS; show (if s.left = 0 then _ else _ : DS).left = (if s.left = 0 then _ else _ : DS).left; split <;> rfl
      have q3 : (succS (pushS s a l)).down = (succS s).down := by unfold succS; show (if s.left = 0 then _ else _ : DS).down = (if s.left = 0 then _ else _ : DS).down; split <;> rfl
      have q4 : (succS (pushS s a l)).writes = (succS s).writes := by unfold succS; show (if s.left = 0 then _ else _ : DS).writes = (if s.left = 0 then _ else _ : DS).writes; split <;> rfl
      exact ⟨by rw [q1]; exact h1.n, by rw [q2]; exact h1.left, by rw [q3]; exact h1.down, by rw [q4]; exact h1.writes, by rw [hpl]; have := h.pend; omega⟩
    by_cases h0 : s.left = 0
    · exact ⟨by rw [e]; exact e2, by rw [writeE, if_neg hn, if_pos (.inr h0), fusE, if_neg (by omega)]⟩
    · exact ⟨by rw [e]; exact e2, by rw [writeE, if_neg hn, if_neg (by simp [hd', h0]), fusE, if_pos (by omega)]⟩

/-- a device of this law -/
def LiveF (w : World) (p k i : Nat) (W : World) : Prop := ∃ s, FS k i s ∧ Live w p s [] W
theorem LiveF.bel {w W : World} {p k i : Nat} (h : LiveF w p k i W) : Below w.heap.size w W := by obtain ⟨_, _, h⟩ := h; exact h.bel
section
variable {w W : World} {p k i : Nat}
theorem Flush_F (h : LiveF w p k i W) (hi : i ≤ 60) : Calls Try.prog 14 #[ptr p] W fun e W' => e = .returned (.int .i64 (fusE k i)) ∧ LiveF w p k (i + 1) W' := by
  obtain ⟨s, hs, hl⟩ := h
  obtain ⟨h1, h2⟩ := hs.flush
  exact (Flush_live hl (by have := hs.pend; omega)).mono fun _ _ ⟨he, hl2⟩ => ⟨by rw [he, h2], _, h1, hl2⟩
theorem Write_F (h : LiveF w p k i W) (hi : i ≤ 60) {a : Nat} (ha : a < 64) {l : List UInt8} (hlen : l.length = 256) : Calls Try.prog 17 #[ptr p, .int .u32 (a : Int), .agg (cellsOf l)] W fun e W' => e = .returned (.int .i64 (fusE k i)) ∧ LiveF w p k (i + 1) W' := by
  obtain ⟨s, hs, hl⟩ := h
  obtain ⟨h1, h2⟩ := hs.write ha l
  exact (Write_live hl (by omega) hlen (by have := hs.pend; omega)).mono fun _ _ ⟨he, hl2⟩ => ⟨by rw [he, h2], _, h1, hl2⟩
theorem Read_F (h : LiveF w p k i W) (hi : i ≤ 61) {a : Nat} (ha : a < 64) : Calls Try.prog 15 #[ptr p, .int .u32 (a : Int)] W fun e W' => (∃ l : List UInt8, l.length = 256 ∧ e = .returned (.tuple #[.agg (cellsOf l), .int .i64 0])) ∧ LiveF w p k i W' := by
  obtain ⟨s, hs, hl⟩ := h
  have hn : ¬ s.n ≤ a := by rw [hs.n]; omega
  have hlen : (readR s a).length = 256 := by
    rw [readR, if_neg hn]
    obtain ⟨B, hd, _⟩ := hl
    exact hd.readLen a
  exact (Read_live hl (by omega) (by have := hs.pend; omega)).mono fun _ _ ⟨he, hl2⟩ => ⟨⟨_, hlen, by rw [he, readE, if_neg hn]⟩, s, hs, hl2⟩
theorem Down_F (h : LiveF w p k i W) : Calls Try.prog 20 #[ptr p] W fun e W' => e = .returned (.bool (decide (k < i))) ∧ LiveF w p k i W' := by
  obtain ⟨s, hs, hl⟩ := h
  exact (Down_live hl).mono fun _ _ ⟨he, hl2⟩ => ⟨by rw [he, hs.down], s, hs, hl2⟩
theorem Writes_F (h : LiveF w p k i W) (hk : k < 256) : Calls Try.prog 21 #[ptr p] W fun e W' => e = .returned (.int .u64 ((min i k : Nat) : Int)) ∧ LiveF w p k i W' := by
  obtain ⟨s, hs, hl⟩ := h
  exact (Writes_live hl).mono fun _ _ ⟨he, hl2⟩ => ⟨by rw [he, hs.writes, Nat.mod_eq_of_lt (by omega)], s, hs, hl2⟩
end

set_option linter.unusedSimpArgs false in
set_option maxRecDepth 100000 in
set_option maxHeartbeats 12800000 in
theorem fuses_any (k : Nat) (hk : k < 256) {w : World} {pa : Option Addr} {cap : Nat} {xs : List Ac} (hl : xs.length ≤ maxLen) (hx : Acts w pa xs) :
    Calls Try.prog 5 #[.int .u8 (k : Int), .slice pa xs.length cap] w fun e w' => e = .returned (.bool true) ∧ Below w.heap.size w w' := by
  have hg := fun W hW => great_any (w := w) (cap := cap) hl hx W hW
  obtain ⟨n, hn⟩ : ∃ n, n = xs.length := ⟨_, rfl⟩
  rw [← hn] at hg ⊢
  have HN := Lib.hid hn; clear hn
  have HX := Lib.hid hx; clear hx hl
  have HG := Lib.hid hg; clear hg
  have hzv := (zero_of_info infoBlock).1
  go_enter Try.func5, Try.ntmps5
  go_wp2_with fail
  refine (New_live w 64 (by omega) (by omega)).mono ?_
  rintro e V ⟨p, rfl, hl⟩
  unfold ptr
  go_wp2_with fail
  refine (HG.out V hl.bel).mono ?_
  rintro e V2 ⟨⟨g, rfl, hg60⟩, hV⟩
  subst hV
  cases g with
  | true =>
    have hb := hl.bel
    clear hl hg60
    go_wp2_with fail
    refine (head_any _).mono ?_
    rintro e V3 ⟨rfl, hx3⟩
    have hf := hb.trans (hx3.mono hb.size)
    go_wp2_with fail
    go_ret
    exact ⟨rfl, hf⟩
  | false =>
    have hn60 : n ≤ 60 := hg60 rfl
    clear hg60
    have z1 : IntKind.i64.wrap (k : Int) = (k : Int) := IntWalk.i64_in _ (by omega)
    go_wp2_with fail
    refine (fuse_as (s' := { newS 64 with left := (k : Int) }) (e' := 0) hl (by omega) (by rw [fuseS, if_neg (by omega)]; rfl) (by rw [fuseE, if_neg (by omega)]; rfl)).mono ?_
    clear hl
    rintro e V3 ⟨rfl, hl⟩
    have hF : LiveF w p k 0 V3 := ⟨_, ⟨rfl, by show (k : Int) = (k : Int) - ((min 0 k : Nat) : Int); simp, by show false = _; simp, by show 0 = _; simp, Nat.zero_le _⟩, hl⟩
    clear hl
    go_wp2_with fail
    go_loopw [7] (fun i wr => ∃ j : Nat, j ≤ n ∧ i = .int .i64 j ∧ LiveF w p k j wr) (fun i _ => n - (intOf i).toNat)
    case atStart => exact ⟨0, Nat.zero_le _, rfl, hF⟩
    case round =>
      obtain ⟨j, hj, rfl, hl⟩ := hrel
      clear hF
      by_cases hjn : j < n
      · have hjl : j < xs.length := by have := HN.out; omega
        rcases HX.out.2 with h0 | ⟨b, off, rfl, hb, hat⟩
        · rw [h0] at hjl; exact absurd hjl (by simp)
        have hcs := fun W hW => acts_at (w := w) (W := W) hat hb hW hjl
        have hok := HX.out.1 _ (List.getElem_mem hjl)
        clear hat
        generalize xs[j] = x at hcs hok
        obtain ⟨c0, c1, _, _⟩ := hcs wr hl.bel
        have hw := hok.what
        have hxa := hok.a
        have HC := Lib.hid hcs; clear hcs
        have HOK := Lib.hid hok; clear hok
        obtain ⟨am, ham⟩ : ∃ am, am = x.a % 64 := ⟨_, rfl⟩
        have hmod : am < 64 := by rw [ham]; exact Nat.mod_lt _ (by omega)
        have m1 : (x.a : Int) % 64 = (am : Int) := by omega
        have m2 : Int.tmod (x.a : Int) 64 = (am : Int) := by rw [Int.tmod_eq_emod_of_nonneg (by omega)]; exact m1
        clear ham
        have z2 : IntKind.i64.wrap ((j : Int) + 1) = (j : Int) + 1 := IntWalk.i64_in _ (by omega)
        by_cases h2 : x.what % 2 = 0
        · have e1 : (x.what : Int) % 2 = 0 := by omega
          have e2 : Int.tmod (x.what : Int) 2 = 0 := by rw [Int.tmod_eq_emod_of_nonneg (by omega)]; exact e1
          by_cases hjk : j < k
          · have hfe : fusE k j = 0 := if_pos hjk
            have i1 : (j : Int) < (k : Int) := by omega
            go_wp2_with fail
            refine (Flush_F hl (by omega)).mono ?_
            clear hl c0 c1 e1 e2
            rintro e V4 ⟨rfl, hl⟩
            rw [hfe]
            obtain ⟨c0, c1, _, _⟩ := HC.out V4 hl.bel
            go_wp2_with fail
            clear c0 c1
            refine (Read_F hl (by omega) hmod).mono ?_
            clear hl
            rintro e V5 ⟨⟨rl, hrl, rfl⟩, hl⟩
            have hir := sizeBlock rl hrl
            have hl2 : LiveF w p k (j + 1) (V5.alloc (.cells (cellsOf rl) 47)) := by
              obtain ⟨s, hs, hl⟩ := hl
              exact ⟨s, hs, (hl.alloc _).less (by simp)⟩
            clear hl
            have tok : True := trivial
            go_wp2_with (have _t := tok; refine wpList_store_new rfl 47 _ _ rfl (cellsOf rl) _ _ rfl rfl hir (by rw [cellsOf_size, cellsOf_size, hrl, zeros_length]) (cellsOf_one _) ?_; generalize V5.heap.size = q9 at hl2 ⊢; generalize V5.alloc (.cells (cellsOf rl) 47) = V6 at hl2 ⊢; clear _t tok)
            refine (Down_F hl2).mono ?_
            clear hl2
            rintro e V7 ⟨rfl, hl⟩
            have hdn : decide (k < j + 1) = false := decide_eq_false (by omega)
            rw [hdn]
            go_wp2_with fail
            refine (Writes_F hl hk).mono ?_
            clear hl
            rintro e V8 ⟨rfl, hl⟩
            have hmn : min (j + 1) k = j + 1 := by omega
            rw [hmn]
            go_wp2_with fail
            go_roundw
            case rel => exact ⟨j + 1, by omega, by go_num, hl⟩
            case measure => simp [intOf]; omega
          · have hfe : fusE k j = 30 := if_neg hjk
            have i1 : ¬ (j : Int) < (k : Int) := by omega
            go_wp2_with fail
            refine (Flush_F hl (by omega)).mono ?_
            clear hl c0 c1 e1 e2
            rintro e V4 ⟨rfl, hl⟩
            rw [hfe]
            obtain ⟨c0, c1, _, _⟩ := HC.out V4 hl.bel
            go_wp2_with fail
            clear c0 c1
            refine (Read_F hl (by omega) hmod).mono ?_
            clear hl
            rintro e V5 ⟨⟨rl, hrl, rfl⟩, hl⟩
            have hir := sizeBlock rl hrl
            have hl2 : LiveF w p k (j + 1) (V5.alloc (.cells (cellsOf rl) 47)) := by
              obtain ⟨s, hs, hl⟩ := hl
              exact ⟨s, hs, (hl.alloc _).less (by simp)⟩
            clear hl
            have tok : True := trivial
            go_wp2_with (have _t := tok; refine wpList_store_new rfl 47 _ _ rfl (cellsOf rl) _ _ rfl rfl hir (by rw [cellsOf_size, cellsOf_size, hrl, zeros_length]) (cellsOf_one _) ?_; generalize V5.heap.size = q9 at hl2 ⊢; generalize V5.alloc (.cells (cellsOf rl) 47) = V6 at hl2 ⊢; clear _t tok)
            refine (Down_F hl2).mono ?_
            clear hl2
            rintro e V7 ⟨rfl, hl⟩
            have hdn : decide (k < j + 1) = true := decide_eq_true (by omega)
            rw [hdn]
            go_wp2_with fail
            refine (Writes_F hl hk).mono ?_
            clear hl
            rintro e V8 ⟨rfl, hl⟩
            have hmn : min (j + 1) k = k := by omega
            rw [hmn]
            go_wp2_with fail
            go_roundw
            case rel => exact ⟨j + 1, by omega, by go_num, hl⟩
            case measure => simp [intOf]; omega
        · have e1 : (x.what : Int) % 2 = 1 := by omega
          have e2 : Int.tmod (x.what : Int) 2 = 1 := by rw [Int.tmod_eq_emod_of_nonneg (by omega)]; exact e1
          have i0 : (j : Int) < (n : Int) := by omega
          go_wp2_with fail
          clear c0 c1 e1 e2
          refine wp_region_noPanic ?_
          have hS : Below w.heap.size w wr.drew := hl.bel.drew
          have hl' : LiveF w p k j wr.drew := by
            obtain ⟨s, hs, hl⟩ := hl
            exact ⟨s, hs, hl.drew⟩
          clear hl
          refine wp_region_held_drew (S := fun W => Below w.heap.size w W) (by kernel_rfl) hS ?_
          intro hS
          generalize wr.drew = V at hS hl' ⊢
          refine wpAnyH_take (i := 0) (v := .pointer (some ⟨p, 0, none⟩)) rfl (by kernel_rfl) (by kernel_rfl) (by kernel_rfl) (fun _ _ _ h => (h : False).elim) (Or.inl ⟨by rfl, fun _ _ => by go_simp⟩) hS ?_
          change wpAnyH _ _ _ _ _ _ _ (Act.put _ (some 50) _) _
          simp only [Act.put, List.setIfInBounds_toArray, List.set_cons_succ, List.set_cons_zero]
          refine wpAnyH_take (i := 1) (v := .slice (some ⟨b, off, none⟩) n cap) rfl (by kernel_rfl) (by kernel_rfl) (by kernel_rfl) (fun _ _ _ h => (h : False).elim) (Or.inl ⟨by rfl, fun _ _ => by go_simp⟩) hS ?_
          change wpAnyH _ _ _ _ _ _ _ (Act.put _ (some 51) _) _
          simp only [Act.put, List.setIfInBounds_toArray, List.set_cons_succ, List.set_cons_zero]
          refine wpAnyH_take (i := 2) (v := .int .i64 (j : Int)) rfl (by kernel_rfl) (by kernel_rfl) (by kernel_rfl) (fun _ _ _ h => (h : False).elim) (Or.inl ⟨by rfl, fun _ _ => by go_simp⟩) hS ?_
          change wpAnyH _ _ _ _ _ _ _ (Act.put _ (some 52) _) _
          simp only [Act.put, List.setIfInBounds_toArray, List.set_cons_succ, List.set_cons_zero]
          refine wpAnyH_take (i := 3) (v := .pointer (some ⟨b, off + j * 5, none⟩)) rfl (by kernel_rfl) (by kernel_rfl) (by kernel_rfl) (fun _ _ _ h => (h : False).elim) (Or.inl ⟨by rfl, fun _ _ => by go_simp⟩) hS ?_
          change wpAnyH _ _ _ _ _ _ _ (Act.put _ (some 53) _) _
          simp only [Act.put, List.setIfInBounds_toArray, List.set_cons_succ, List.set_cons_zero]
          refine wpAnyH_take (i := 4) (v := .pointer (some ⟨b, off + j * 5 + 1, none⟩)) rfl (by kernel_rfl) (by kernel_rfl) (by kernel_rfl) (fun _ _ _ h => (h : False).elim) (Or.inl ⟨by rfl, fun _ _ => by go_simp⟩) hS ?_
          change wpAnyH _ _ _ _ _ _ _ (Act.put _ (some 54) _) _
          simp only [Act.put, List.setIfInBounds_toArray, List.set_cons_succ, List.set_cons_zero]
          refine wpAnyH_take (i := 5) (v := .int .u32 (x.a : Int)) rfl (by kernel_rfl) (by kernel_rfl) (by kernel_rfl) (fun _ _ _ h => (h : False).elim) (Or.inl ⟨by rfl, fun W hW => by obtain ⟨_, c1, _, _⟩ := HC.out W hW; go_simp⟩) hS ?_
          change wpAnyH _ _ _ _ _ _ _ (Act.put _ (some 55) _) _
          simp only [Act.put, List.setIfInBounds_toArray, List.set_cons_succ, List.set_cons_zero]
          refine wpAnyH_take (i := 6) (v := .int .u32 (am : Int)) rfl (by kernel_rfl) (by kernel_rfl) (by kernel_rfl) (fun _ _ _ h => (h : False).elim) (Or.inl ⟨by rfl, fun _ _ => by go_simp⟩) hS ?_
          change wpAnyH _ _ _ _ _ _ _ (Act.put _ (some 56) _) _
          simp only [Act.put, List.setIfInBounds_toArray, List.set_cons_succ, List.set_cons_zero]
          refine wpAnyH_take (i := 7) (v := .slice (some ⟨b, off, none⟩) n cap) rfl (by kernel_rfl) (by kernel_rfl) (by kernel_rfl) (fun _ _ _ h => (h : False).elim) (Or.inl ⟨by rfl, fun _ _ => by go_simp⟩) hS ?_
          change wpAnyH _ _ _ _ _ _ _ (Act.put _ (some 57) _) _
          simp only [Act.put, List.setIfInBounds_toArray, List.set_cons_succ, List.set_cons_zero]
          refine wpAnyH_take (i := 8) (v := .int .i64 (j : Int)) rfl (by kernel_rfl) (by kernel_rfl) (by kernel_rfl) (fun _ _ _ h => (h : False).elim) (Or.inl ⟨by rfl, fun _ _ => by go_simp⟩) hS ?_
          change wpAnyH _ _ _ _ _ _ _ (Act.put _ (some 58) _) _
          simp only [Act.put, List.setIfInBounds_toArray, List.set_cons_succ, List.set_cons_zero]
          refine wpAnyH_take (i := 9) (v := .pointer (some ⟨b, off + j * 5, none⟩)) rfl (by kernel_rfl) (by kernel_rfl) (by kernel_rfl) (fun _ _ _ h => (h : False).elim) (Or.inl ⟨by rfl, fun _ _ => by go_simp⟩) hS ?_
          change wpAnyH _ _ _ _ _ _ _ (Act.put _ (some 59) _) _
          simp only [Act.put, List.setIfInBounds_toArray, List.set_cons_succ, List.set_cons_zero]
          refine wpAnyH_take (i := 10) (v := .agg x.val.toArray) rfl (by kernel_rfl) (by kernel_rfl) (by kernel_rfl) (fun _ _ _ h => (h : False).elim) (yieldsIf_load_mid (by rfl) 32 _ rfl b (off + j * 5) rfl x.val _ (fun W hW => (HC.out W hW).2.2.2) Try.underlying32 rfl (sizeAct x)) hS ?_
          change wpAnyH _ _ _ _ _ _ _ (Act.put _ (some 60) _) _
          simp only [Act.put, List.setIfInBounds_toArray, List.set_cons_succ, List.set_cons_zero]
          refine wpAnyH_ready (rs := [11]) (by kernel_rfl) (by simp) ?_
          refine AllReadyH.cons rfl (fun K hK => ?_) AllReadyH.nil
          rw [if_pos (by rfl)]
          go_simp
          refine (block_any x.what x.a x.c (.slice x.pa x.keep.length x.cap) x.z V).mono ?_
          rintro e V2 ⟨rfl, hbb⟩
          have hl2 : LiveF w p k j V2 := by
            obtain ⟨s, hs, hl⟩ := hl'
            exact ⟨s, hs, hl.below hbb⟩
          clear hl' hbb
          dsimp only
          refine hK.out _ _ hl2.bel (fun _ => ?_)
          clear hK K
          refine wpAnyH_ready (rs := [12]) (by kernel_rfl) (by simp) ?_
          refine AllReadyH.cons rfl (fun K hK => ?_) AllReadyH.nil
          rw [if_pos (by rfl)]
          go_simp
          refine (Write_F hl2 (by omega) hmod (blockB_length x.c)).mono ?_
          rintro e V4 ⟨rfl, hl⟩
          clear hl2
          dsimp only
          refine hK.out _ _ hl.bel (fun hS => ?_)
          clear hK K
          refine wpAnyH_take (i := 13) (v := .int .i64 (fusE k j)) rfl (by kernel_rfl) (by kernel_rfl) (by kernel_rfl) (fun _ _ _ h => (h : False).elim) (Or.inl ⟨by rfl, fun _ _ => by go_simp⟩) hS ?_
          change wpAnyH _ _ _ _ _ _ _ (Act.put _ (some 8) _) _
          simp only [Act.put, List.setIfInBounds_toArray, List.set_cons_succ, List.set_cons_zero]
          refine wpAnyH_done (by kernel_rfl) ?_ _
          refine NoPanic.normal ?_
          obtain ⟨c0, c1, _, _⟩ := HC.out V4 hl.bel
          by_cases hjk : j < k
          · have hfe : fusE k j = 0 := if_pos hjk
            have i1 : (j : Int) < (k : Int) := by omega
            rw [hfe]
            go_wp2_with fail
            clear c0 c1
            refine (Read_F hl (by omega) hmod).mono ?_
            clear hl
            rintro e V5 ⟨⟨rl, hrl, rfl⟩, hl⟩
            have hir := sizeBlock rl hrl
            have hl2 : LiveF w p k (j + 1) (V5.alloc (.cells (cellsOf rl) 47)) := by
              obtain ⟨s, hs, hl⟩ := hl
              exact ⟨s, hs, (hl.alloc _).less (by simp)⟩
            clear hl
            have tok : True := trivial
            go_wp2_with (have _t := tok; refine wpList_store_new rfl 47 _ _ rfl (cellsOf rl) _ _ rfl rfl hir (by rw [cellsOf_size, cellsOf_size, hrl, zeros_length]) (cellsOf_one _) ?_; generalize V5.heap.size = q9 at hl2 ⊢; generalize V5.alloc (.cells (cellsOf rl) 47) = V6 at hl2 ⊢; clear _t tok)
            refine (Down_F hl2).mono ?_
            clear hl2
            rintro e V7 ⟨rfl, hl⟩
            have hdn : decide (k < j + 1) = false := decide_eq_false (by omega)
            rw [hdn]
            go_wp2_with fail
            refine (Writes_F hl hk).mono ?_
            clear hl
            rintro e V8 ⟨rfl, hl⟩
            have hmn : min (j + 1) k = j + 1 := by omega
            rw [hmn]
            go_wp2_with fail
            go_roundw
            case rel => exact ⟨j + 1, by omega, by go_num, hl⟩
            case measure => simp [intOf]; omega
          · have hfe : fusE k j = 30 := if_neg hjk
            have i1 : ¬ (j : Int) < (k : Int) := by omega
            rw [hfe]
            go_wp2_with fail
            clear c0 c1
            refine (Read_F hl (by omega) hmod).mono ?_
            clear hl
            rintro e V5 ⟨⟨rl, hrl, rfl⟩, hl⟩
            have hir := sizeBlock rl hrl
            have hl2 : LiveF w p k (j + 1) (V5.alloc (.cells (cellsOf rl) 47)) := by
              obtain ⟨s, hs, hl⟩ := hl
              exact ⟨s, hs, (hl.alloc _).less (by simp)⟩
            clear hl
            have tok : True := trivial
            go_wp2_with (have _t := tok; refine wpList_store_new rfl 47 _ _ rfl (cellsOf rl) _ _ rfl rfl hir (by rw [cellsOf_size, cellsOf_size, hrl, zeros_length]) (cellsOf_one _) ?_; generalize V5.heap.size = q9 at hl2 ⊢; generalize V5.alloc (.cells (cellsOf rl) 47) = V6 at hl2 ⊢; clear _t tok)
            refine (Down_F hl2).mono ?_
            clear hl2
            rintro e V7 ⟨rfl, hl⟩
            have hdn : decide (k < j + 1) = true := decide_eq_true (by omega)
            rw [hdn]
            go_wp2_with fail
            refine (Writes_F hl hk).mono ?_
            clear hl
            rintro e V8 ⟨rfl, hl⟩
            have hmn : min (j + 1) k = k := by omega
            rw [hmn]
            go_wp2_with fail
            go_roundw
            case rel => exact ⟨j + 1, by omega, by go_num, hl⟩
            case measure => simp [intOf]; omega
      · have hjj : j = n := by omega
        subst hjj
        obtain ⟨s, hs, hl⟩ := hl
        go_wp2_with fail
        refine (Crash_live (xs := []) (pa := none) (cap := 0) hl (by simp) (.inl rfl) (by simp)).mono ?_
        clear hl
        rintro e V4 ⟨rfl, hl⟩
        go_wp2_with fail
        refine (down_as (b := false) hl rfl).mono ?_
        clear hl
        rintro e V5 ⟨rfl, hl⟩
        go_wp2_with fail
        refine (flush_as (e' := 0) hl (by simp [crashS]) rfl rfl).mono ?_
        clear hl
        rintro e V6 ⟨rfl, hl⟩
        go_wp2_with fail
        refine (pending_as (n := 0) hl rfl).mono ?_
        clear hl
        rintro e V7 ⟨rfl, hl⟩
        have hb := hl.bel
        clear hl
        go_wp2_with fail
        refine (head_any _).mono ?_
        rintro e V8 ⟨rfl, hx3⟩
        have hf := hb.trans (hx3.mono hb.size)
        clear hb hx3
        go_wp2_with fail
        go_ret
        exact ⟨rfl, hf⟩

end Go.Proofs.Ytbgigahgcekpjaa.Dev
