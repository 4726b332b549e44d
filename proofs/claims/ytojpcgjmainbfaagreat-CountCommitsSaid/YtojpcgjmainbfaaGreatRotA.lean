/-
  RotA: RotMath, RotForm.
-/
import Derived.Test.YtojpcgjmainbfaaGreatPln
import Derived.Test.YtojpcgjmainbfaaGreatSlt3
import Derived.Test.YtojpcgjmainbfaaGreatDev3
import Derived.Test.YtojpcgjmainbfaaGreatDev2
/-
  Roots of devices: plans, which root a device has, commits by value, what a crash in a commit leaves. Plain mathematics.
-/
namespace Go.Proofs.YtojpcgjmainbfaaGreat.Rot
open Go.RowKit Crc Fld
set_option maxRecDepth 100000
open Go.Proofs.YtojpcgjmainbfaaGreat.Slt (Rt mayB getR getE putB putE rtB rtB_length tornB tornB_get tornB_length torn_none torn_all torn_one getE_open rtB_good rtB_first rtB_zero getD_get back)
open Go.Proofs.YtojpcgjmainbfaaGreat.Dev (DS applyP upd keepB keepB_get keepB_length keepG crashG crashS writeS writeE flushS flushE flushed succS pushS readB newS)

/-! Which root a device has. -/
def mayR (r : Rt) (n : Nat) : Bool := mayB r && (decide (r.size = n) && (decide (r.picks / 2 ^ pkN n = 0) && (decide (fsN n ≤ r.hint) && decide (r.free ≤ n - fsN n))))
/-- the root in slot a -/
def rootAt (s : DS) (a : Nat) : Option Rt := if getE (readB s a) = 0 ∧ (getR (readB s a)).gen % 2 = a ∧ mayR (getR (readB s a)) s.n = true then some (getR (readB s a)) else none
def later : Option Rt → Option Rt → Option Rt
  | none, y => y
  | some x, none => some x
  | some x, some y => if x.gen < y.gen then some y else some x
def mountS (s : DS) : Option Rt := later (rootAt s 0) (rootAt s 1)

/-! Commits, by value. -/
def writeAll : DS → List (Nat × List UInt8) → DS × Int
  | s, [] => (s, 0)
  | s, x :: l => if writeE s x.1 = 0 then writeAll (writeS s x.1 x.2) l else (writeS s x.1 x.2, writeE s x.1)
def writeF (s : DS) (l : List (Nat × List UInt8)) : DS × Int := if (writeAll s l).2 = 0 then (flushS (writeAll s l).1, flushE (writeAll s l).1) else writeAll s l
def commitOk (n : Nat) (l : List (Nat × List UInt8)) (r : Rt) : Bool := mayR r n && l.all fun x => decide (2 ≤ x.1) && decide (x.1 < n)
def commitF (s : DS) (l : List (Nat × List UInt8)) (r : Rt) : DS × Int :=
  if commitOk s.n l r = true then (if (writeF s l).2 = 0 then writeF (writeF s l).1 [(r.gen % 2, rtB r)] else writeF s l) else (s, 2)

/-- a device whose fuse has k left (or none: -1) -/
theorem writeAll_ok : ∀ (l : List (Nat × List UInt8)) (s : DS), s.down = false → (∀ x ∈ l, x.1 < s.n) → (s.left = -1 ∨ (l.length : Int) ≤ s.left) →
    writeAll s l = ({ s with pend := s.pend ++ l, left := if s.left = -1 then -1 else s.left - l.length, writes := s.writes + l.length }, 0)
  | [], s, _, _, _ => by
    unfold writeAll
    simp only [List.append_nil, List.length_nil, Nat.add_zero]
    cases s
    simp
  | x :: l, s, hd, ha, hl => by
    have hx := ha x List.mem_cons_self
    have hl0 : s.left ≠ 0 := by
      simp only [List.length_cons] at hl
      omega
    have hE : writeE s x.1 = 0 := by unfold writeE; rw [if_neg (by omega), if_neg (by rw [hd]; simp [hl0])]
    have hS : writeS s x.1 x.2 = { s with pend := s.pend ++ [x], left := if s.left = -1 then -1 else s.left - 1, writes := s.writes + 1 } := by
      unfold writeS
      rw [if_neg (by omega), if_neg (by rw [hd]; simp)]
      unfold succS pushS
      rw [if_neg hl0]
    have ih := writeAll_ok l (writeS s x.1 x.2) (by rw [hS]; exact hd) (by rw [hS]; exact fun y hy => ha y (List.mem_cons_of_mem _ hy)) (by
      rw [hS]
      simp only [List.length_cons] at hl
      rcases hl with h | h
      · left; exact if_pos h
      · right
        show (l.length : Int) ≤ if s.left = -1 then -1 else s.left - 1
        rw [if_neg (by omega)]; omega)
    unfold writeAll
    rw [if_pos hE, ih, hS]
    simp only [List.append_assoc, List.singleton_append, List.length_cons, Prod.mk.injEq, and_true, DS.mk.injEq, true_and]
    refine ⟨?_, by omega⟩
    rcases hl with h | h
    · rw [if_pos h, if_pos rfl, if_pos h]
    · simp only [List.length_cons] at h
      rw [if_neg (by omega), if_neg (by omega), if_neg (by omega)]
      omega
theorem writeAll_down : ∀ (l : List (Nat × List UInt8)) (s : DS) (k : Nat), s.down = false → (∀ x ∈ l, x.1 < s.n) → s.left = (k : Int) → k < l.length →
    writeAll s l = ({ s with pend := s.pend ++ l.take (k + 1), left := 0, down := true, writes := s.writes + k }, 30)
  | [], _, _, _, _, _, h => by simp at h
  | x :: l, s, 0, hd, ha, hk, _ => by
    have hx := ha x List.mem_cons_self
    have hE : writeE s x.1 = 30 := by unfold writeE; rw [if_neg (by omega), if_pos (by rw [hk]; simp)]
    unfold writeAll
    rw [if_neg (by rw [hE]; decide), hE]
    unfold writeS
    rw [if_neg (by omega), if_neg (by rw [hd]; simp)]
    unfold succS pushS
    rw [if_pos (by rw [hk]; rfl)]
    simp
    exact hk
  | x :: l, s, k + 1, hd, ha, hk, hl => by
    have hx := ha x List.mem_cons_self
    have hE : writeE s x.1 = 0 := by unfold writeE; rw [if_neg (by omega), if_neg (by rw [hd, hk]; simp; omega)]
    have hS : writeS s x.1 x.2 = { s with pend := s.pend ++ [x], left := (k : Int), writes := s.writes + 1 } := by
      unfold writeS
      rw [if_neg (by omega), if_neg (by rw [hd]; simp)]
      unfold succS pushS
      rw [if_neg (by rw [hk]; simp; omega), if_neg (by rw [hk]; omega)]
      simp only [hk]
      congr 1
      omega
    have ih := writeAll_down l (writeS s x.1 x.2) k (by rw [hS]; exact hd) (by rw [hS]; exact fun y hy => ha y (List.mem_cons_of_mem _ hy)) (by rw [hS]) (by simpa using hl)
    unfold writeAll
    rw [if_pos hE, ih, hS]
    simp
    omega

/-! What a crash leaves. -/
theorem keep_torn (o n : List UInt8) (ho : o.length = 256) (hn : n.length = 256) (m : Nat) : keepB o n m = tornB o n m := by
  apply List.ext_getElem?
  intro j
  by_cases hj : j < 256
  · rw [keepB_get ho hn m j hj, tornB_get o n m j hj]
    split
    · exact getD_get (by omega)
    · exact getD_get (by omega)
  · rw [List.getElem?_eq_none (by rw [keepB_length ho hn]; omega), List.getElem?_eq_none (by rw [tornB_length]; omega)]
theorem torn_torn (o n : List UInt8) (m k : Nat) : tornB (tornB o n m) n k = tornB o n (m ||| k) := by
  apply List.ext_getElem?
  intro j
  by_cases hj : j < 256
  · rw [tornB_get _ _ _ j hj, tornB_get _ _ _ j hj, Nat.testBit_or]
    have h1 : (tornB o n m).getD j 0 = if m.testBit (j / 64) = true then n.getD j 0 else o.getD j 0 := by
      rw [List.getD_eq_getElem?_getD, tornB_get _ _ _ j hj]; rfl
    rw [h1]
    cases m.testBit (j / 64) <;> cases k.testBit (j / 64) <;> simp
  · rw [List.getElem?_eq_none (by rw [tornB_length]; omega), List.getElem?_eq_none (by rw [tornB_length]; omega)]
theorem crashG_nil (g : Nat → List UInt8) : ∀ xs : List (Nat × Nat), crashG [] g xs = g
  | [] => rfl
  | x :: xs => by
    have e : crashG [] g (x :: xs) = crashG [] (keepG [] g x) xs := rfl
    rw [e]
    exact crashG_nil g xs
theorem crashG_other {pend : List (Nat × List UInt8)} {c : Nat} (hp : ∀ y ∈ pend, y.1 ≠ c) : ∀ (xs : List (Nat × Nat)) (g : Nat → List UInt8), crashG pend g xs c = g c
  | [], _ => rfl
  | x :: xs, g => by
    have e : crashG pend g (x :: xs) = crashG pend (keepG pend g x) xs := rfl
    rw [e, crashG_other hp xs]
    unfold keepG
    cases h : pend[x.1]? with
    | none => rfl
    | some y =>
      have hy := hp y (List.mem_of_getElem? h)
      show upd g y.1 _ c = g c
      unfold upd
      rw [if_neg (fun e => hy e.symm)]
theorem crashG_one {a : Nat} {R : List UInt8} (hR : R.length = 256) : ∀ (xs : List (Nat × Nat)) (g : Nat → List UInt8), (g a).length = 256 → ∃ M, crashG [(a, R)] g xs a = tornB (g a) R M
  | [], g, hg => ⟨0, (torn_none _ _ hg).symm⟩
  | x :: xs, g, hg => by
    have e : crashG [(a, R)] g (x :: xs) = crashG [(a, R)] (keepG [(a, R)] g x) xs := rfl
    rw [e]
    have hk : keepG [(a, R)] g x a = g a ∨ ∃ m, keepG [(a, R)] g x a = tornB (g a) R m := by
      unfold keepG
      cases h : ([(a, R)] : List (Nat × List UInt8))[x.1]? with
      | none => exact .inl rfl
      | some y =>
        have hy : y = (a, R) := by
          have := List.mem_of_getElem? h
          simpa using this
        subst hy
        refine .inr ⟨x.2, ?_⟩
        show upd g a _ a = _
        unfold upd
        rw [if_pos rfl, keep_torn _ _ hg hR]
    rcases hk with hk | ⟨m, hk⟩
    · obtain ⟨M, hM⟩ := crashG_one hR xs (keepG [(a, R)] g x) (by rw [hk]; exact hg)
      exact ⟨M, by rw [hM, hk]⟩
    · obtain ⟨M, hM⟩ := crashG_one hR xs (keepG [(a, R)] g x) (by rw [hk]; exact tornB_length _ _ _)
      exact ⟨m ||| M, by rw [hM, hk, torn_torn]⟩
theorem applyP_other {c : Nat} : ∀ (l : List (Nat × List UInt8)) (g : Nat → List UInt8), (∀ y ∈ l, y.1 ≠ c) → applyP g l c = g c
  | [], _, _ => rfl
  | x :: l, g, h => by
    have e : applyP g (x :: l) = applyP (upd g x.1 x.2) l := rfl
    rw [e, applyP_other l _ (fun y hy => h y (List.mem_cons_of_mem _ hy))]
    unfold upd
    rw [if_neg (fun e => h x List.mem_cons_self e.symm)]
theorem applyP_len : ∀ (l : List (Nat × List UInt8)) (g : Nat → List UInt8), (∀ a, (g a).length = 256) → (∀ x ∈ l, x.2.length = 256) → ∀ a, (applyP g l a).length = 256
  | [], _, hg, _ => hg
  | x :: l, g, hg, hl => by
    have e : applyP g (x :: l) = applyP (upd g x.1 x.2) l := rfl
    rw [e]
    refine applyP_len l _ (fun a => ?_) (fun y hy => hl y (List.mem_cons_of_mem _ hy))
    unfold upd
    split
    · exact hl x List.mem_cons_self
    · exact hg a

theorem zeros_getD (i : Nat) : zeros.getD i 0 = 0 := by
  rw [List.getD_eq_getElem?_getD]
  unfold zeros
  rw [List.getElem?_replicate]
  split <;> rfl
/-- a torn root over zeros or over another root: what was there, the root, or none -/
theorem torn_zero (r : Rt) (M : Nat) : getE (tornB zeros (rtB r) M) = 250 ∨ tornB zeros (rtB r) M = rtB r := by
  by_cases h0 : M.testBit 0 = true
  · by_cases hs : sealB (tornB zeros (rtB r) M) = tornB zeros (rtB r) M
    · right
      have h : (tornB zeros (rtB r) M).take 252 = (rtB r).take 252 := by
        apply List.ext_getElem?
        intro i
        by_cases hi : i < 252
        · rw [List.getElem?_take_of_lt hi, List.getElem?_take_of_lt hi, tornB_get _ _ _ i (by omega), getD_get (show i < (rtB r).length by rw [rtB_length]; omega)]
          by_cases h : i < 64
          · rw [show i / 64 = 0 from by omega, if_pos h0]
          · rw [rtB_zero r i (by omega) hi]
            rw [zeros_getD, ite_self]
        · rw [List.getElem?_eq_none (by rw [List.length_take, tornB_length]; omega), List.getElem?_eq_none (by rw [List.length_take]; omega)]
      have e := sealB_congr h
      rw [hs] at e
      rw [e]
      exact rtB_good r
    · exact .inl (getE_open hs)
  · left
    have hf : (tornB zeros (rtB r) M).getD 0 0 = 0 := by
      rw [List.getD_eq_getElem?_getD, tornB_get _ _ _ 0 (by omega), show 0 / 64 = 0 from rfl, if_neg h0]
      exact zeros_getD 0
    have hi : ¬ Slt.isR (tornB zeros (rtB r) M) = true := by
      unfold Slt.isR
      rw [Bool.and_eq_true, decide_eq_true_eq]
      rintro ⟨_, he⟩
      have := rtB_first (Slt.rawR (tornB zeros (rtB r) M))
      rw [he, hf] at this
      cases this
    exact if_neg hi

/-- THE COMMIT AND THE CRASH. Whatever the fuse lets, whatever is kept: the other slot is as it was, the root's slot is torn of what it was and the root; all of the root if the commit told OK -/
structure Crashed (s s2 : DS) (l : List (Nat × List UInt8)) (r : Rt) (e : Int) : Prop where
  n : s2.n = s.n
  pend : s2.pend = []
  left : s2.left = -1
  down : s2.down = false
  other : s2.g (1 - r.gen % 2) = s.g (1 - r.gen % 2)
  slot : ∃ M, s2.g (r.gen % 2) = tornB (s.g (r.gen % 2)) (rtB r) M
  ok : e = 0 → s2.g (r.gen % 2) = rtB r
  len : ∀ a, (s2.g a).length = 256
  rest : ∀ c, 2 ≤ c → (∀ y ∈ l, y.1 ≠ c) → s2.g c = s.g c
  data : (∀ c, c < 2 → s2.g c = s.g c) ∨ ∀ c, 2 ≤ c → s2.g c = applyP s.g l c
theorem flush_fail {s : DS} (hd : s.down = false) (h : s.left = 0) : flushS s = { s with down := true } ∧ flushE s = 30 := by
  unfold flushS flushE
  rw [if_neg (by rw [hd]; simp), if_pos h, if_pos (.inr h)]
  exact ⟨rfl, rfl⟩
theorem flush_good {s : DS} (hd : s.down = false) (h : s.left ≠ 0) : flushS s = { s with g := applyP s.g s.pend, pend := [], left := if s.left = -1 then -1 else s.left - 1, writes := s.writes + 1 } ∧ flushE s = 0 := by
  constructor
  · unfold flushS
    rw [if_neg (by rw [hd]; simp), if_neg h]
    unfold flushed succS
    rw [if_neg h]
  · unfold flushE
    rw [if_neg (by rw [hd]; simp [h])]
theorem no30 : ¬ (30 : Int) = 0 := by decide
theorem writeF_down {s : DS} {l : List (Nat × List UInt8)} (hd : s.down = false) (hp : s.pend = []) (ha : ∀ x ∈ l, x.1 < s.n) (h0 : 0 ≤ s.left) (h1 : s.left ≤ l.length) :
    ∃ j n, writeF s l = ({ s with pend := l.take j, left := 0, down := true, writes := n }, 30) := by
  obtain ⟨k, hk⟩ : ∃ k : Nat, s.left = (k : Int) := ⟨s.left.toNat, by omega⟩
  rcases Nat.lt_or_ge k l.length with h | h
  · have e := writeAll_down l s k hd ha hk h
    refine ⟨k + 1, s.writes + k, ?_⟩
    unfold writeF
    rw [e, if_neg no30, hp]
    rfl
  · have e := writeAll_ok l s hd ha (.inr (by omega))
    refine ⟨l.length, s.writes + l.length, ?_⟩
    have hz : (if s.left = -1 then (-1 : Int) else s.left - l.length) = 0 := by rw [if_neg (by omega)]; omega
    rw [hz, hp] at e
    unfold writeF
    rw [e, if_pos rfl]
    have hf := flush_fail (s := { s with pend := [] ++ l, left := 0, writes := s.writes + l.length }) hd rfl
    rw [hf.1, hf.2]
    simp
theorem writeF_ok {s : DS} {l : List (Nat × List UInt8)} (hd : s.down = false) (hp : s.pend = []) (ha : ∀ x ∈ l, x.1 < s.n) (h : s.left = -1 ∨ (l.length : Int) + 1 ≤ s.left) :
    writeF s l = ({ s with g := applyP s.g l, pend := [], left := if s.left = -1 then -1 else s.left - l.length - 1, writes := s.writes + l.length + 1 }, 0) := by
  have e := writeAll_ok l s hd ha (h.imp id (by omega))
  obtain ⟨q, hq⟩ : ∃ q : Int, q = if s.left = -1 then -1 else s.left - l.length := ⟨_, rfl⟩
  have hz : q ≠ 0 := by
    rcases h with h | h
    · rw [hq, if_pos h]; decide
    · rw [hq, if_neg (by omega)]; omega
  have hq2 : (if q = -1 then (-1 : Int) else q - 1) = if s.left = -1 then -1 else s.left - l.length - 1 := by
    rcases h with h | h
    · rw [hq, if_pos h, if_pos rfl, if_pos h]
    · rw [hq, if_neg (by omega), if_neg (by omega), if_neg (by omega)]
  rw [← hq, hp] at e
  rw [← hq2]
  unfold writeF
  rw [e, if_pos rfl]
  have hf := flush_good (s := { s with pend := [] ++ l, left := q, writes := s.writes + l.length }) hd hz
  rw [hf.1, hf.2]
  simp

theorem commit_crash {s : DS} {l : List (Nat × List UInt8)} {r : Rt} (hd : s.down = false) (hp : s.pend = []) (hk : -1 ≤ s.left) (hg : ∀ a, (s.g a).length = 256) (hl : ∀ x ∈ l, x.2.length = 256) (hn : 2 ≤ s.n)
    (ok : commitOk s.n l r = true) (xs : List (Nat × Nat)) : Crashed s (crashS (commitF s l r).1 xs) l r (commitF s l r).2 := by
  have ha : ∀ x ∈ l, 2 ≤ x.1 ∧ x.1 < s.n := fun x hx => by
    unfold commitOk at ok
    rw [Bool.and_eq_true] at ok
    have := List.all_eq_true.1 ok.2 x hx
    simpa using this
  have hR := rtB_length r
  have hm : r.gen % 2 < 2 := Nat.mod_lt _ (by omega)
  have hne : ∀ (c : Nat), c < 2 → ∀ y ∈ l, y.1 ≠ c := fun c hc y hy => by have := (ha y hy).1; omega
  have hcrash : ∀ (P : List (Nat × List UInt8)) (g : Nat → List UInt8), (∀ a, (g a).length = 256) → (∀ x ∈ P, x.2.length = 256) → ∀ a, (crashG P g xs a).length = 256 := fun P g hg hP => by
    unfold crashG
    revert g
    induction xs with
    | nil => exact fun g hg => hg
    | cons x xs ih =>
      intro g hg
      refine ih (keepG P g x) (fun a => ?_)
      unfold keepG
      cases h : P[x.1]? with
      | none => exact hg a
      | some y =>
        show (upd g y.1 _ a).length = 256
        unfold upd
        split
        · exact keepB_length (hg _) (hP y (List.mem_of_getElem? h)) _
        · exact hg a
  unfold commitF
  rw [if_pos ok]
  by_cases h1 : 0 ≤ s.left ∧ s.left ≤ l.length
  · obtain ⟨j, n, e⟩ := writeF_down hd hp (fun x hx => (ha x hx).2) h1.1 h1.2
    rw [e, if_neg no30]
    have ho : ∀ c, c < 2 → crashG (l.take j) s.g xs c = s.g c := fun c hc => crashG_other (fun y hy => hne c hc y (List.mem_of_mem_take hy)) xs s.g
    exact ⟨rfl, rfl, rfl, rfl, ho _ (by omega), ⟨0, by rw [torn_none _ _ (hg _)]; exact ho _ hm⟩, fun h => (by cases h), hcrash _ _ hg (fun x hx => hl x (List.mem_of_mem_take hx)), fun c _ hc => crashG_other (fun y hy => hc y (List.mem_of_mem_take hy)) xs s.g, .inl ho⟩
  · have e := writeF_ok hd hp (fun x hx => (ha x hx).2) (by omega : s.left = -1 ∨ (l.length : Int) + 1 ≤ s.left)
    rw [e, if_pos rfl]
    have hA : ∀ c, c < 2 → applyP s.g l c = s.g c := fun c hc => applyP_other l s.g (hne c hc)
    have hAl := applyP_len l s.g hg hl
    have hz : ∀ x ∈ [(r.gen % 2, rtB r)], x.1 < s.n := fun x hx => by
      simp only [List.mem_singleton] at hx
      subst hx
      show r.gen % 2 < s.n
      omega
    obtain ⟨q, hq⟩ : ∃ q : Int, q = if s.left = -1 then -1 else s.left - l.length - 1 := ⟨_, rfl⟩
    have hq1 : -1 ≤ q := by rw [hq]; split <;> omega
    rw [← hq]
    clear hq e
    by_cases h2 : 0 ≤ q ∧ q ≤ ([(r.gen % 2, rtB r)] : List (Nat × List UInt8)).length
    · obtain ⟨j, n, e⟩ := writeF_down (s := { s with g := applyP s.g l, pend := [], left := q, writes := s.writes + l.length + 1 }) hd rfl hz h2.1 h2.2
      rw [e]
      have hj : ([(r.gen % 2, rtB r)] : List (Nat × List UInt8)).take j = [] ∨ ([(r.gen % 2, rtB r)] : List (Nat × List UInt8)).take j = [(r.gen % 2, rtB r)] := by
        cases j with
        | zero => exact .inl rfl
        | succ j => exact .inr (by simp)
      refine ⟨rfl, rfl, rfl, rfl, ?_, ?_, fun h => (by cases h), hcrash _ _ hAl (fun x hx => ?_), fun c h2 hc => ?_, .inr fun c h2 => ?_⟩
      · show crashG (([(r.gen % 2, rtB r)] : List (Nat × List UInt8)).take j) (applyP s.g l) xs (1 - r.gen % 2) = _
        rw [crashG_other (fun y hy => ?_) xs, hA _ (by omega)]
        have := List.mem_of_mem_take hy
        simp only [List.mem_singleton] at this
        subst this
        show r.gen % 2 ≠ _
        omega
      · show ∃ M, crashG (([(r.gen % 2, rtB r)] : List (Nat × List UInt8)).take j) (applyP s.g l) xs (r.gen % 2) = _
        rcases hj with hj | hj
        · rw [hj, crashG_nil, hA _ hm]
          exact ⟨0, (torn_none _ _ (hg _)).symm⟩
        · rw [hj]
          obtain ⟨M, hM⟩ := crashG_one hR xs (applyP s.g l) (hAl _)
          exact ⟨M, by rw [hM, hA _ hm]⟩
      · have := List.mem_of_mem_take hx
        simp only [List.mem_singleton] at this
        subst this
        exact hR
      · show crashG (([(r.gen % 2, rtB r)] : List (Nat × List UInt8)).take j) (applyP s.g l) xs c = _
        rw [crashG_other (fun y hy => ?_) xs, applyP_other l s.g hc]
        have := List.mem_of_mem_take hy
        simp only [List.mem_singleton] at this
        subst this
        show r.gen % 2 ≠ c
        omega
      · show crashG (([(r.gen % 2, rtB r)] : List (Nat × List UInt8)).take j) (applyP s.g l) xs c = _
        rw [crashG_other (fun y hy => ?_) xs]
        have := List.mem_of_mem_take hy
        simp only [List.mem_singleton] at this
        subst this
        show r.gen % 2 ≠ c
        omega
    · have e := writeF_ok (s := { s with g := applyP s.g l, pend := [], left := q, writes := s.writes + l.length + 1 }) (l := [(r.gen % 2, rtB r)]) hd rfl hz (by
        simp only [List.length_singleton] at h2 ⊢
        show q = -1 ∨ _ ≤ q
        omega)
      rw [e]
      have hU : applyP (applyP s.g l) [(r.gen % 2, rtB r)] = upd (applyP s.g l) (r.gen % 2) (rtB r) := rfl
      have hs : applyP (applyP s.g l) [(r.gen % 2, rtB r)] (r.gen % 2) = rtB r := by rw [hU]; unfold upd; rw [if_pos rfl]
      have hc' : crashG [] (applyP (applyP s.g l) [(r.gen % 2, rtB r)]) xs = applyP (applyP s.g l) [(r.gen % 2, rtB r)] := crashG_nil _ xs
      refine ⟨rfl, rfl, rfl, rfl, ?_, ⟨255, ?_⟩, fun _ => ?_, fun a => ?_, fun c h2 hc => ?_, .inr fun c h2 => ?_⟩
      · show crashG [] (applyP (applyP s.g l) [(r.gen % 2, rtB r)]) xs (1 - r.gen % 2) = _
        rw [hc', hU]
        unfold upd
        rw [if_neg (by omega), hA _ (by omega)]
      · show crashG [] (applyP (applyP s.g l) [(r.gen % 2, rtB r)]) xs (r.gen % 2) = _
        rw [hc', hs, torn_all _ _ hR]
      · show crashG [] (applyP (applyP s.g l) [(r.gen % 2, rtB r)]) xs (r.gen % 2) = _
        rw [hc', hs]
      · show (crashG [] (applyP (applyP s.g l) [(r.gen % 2, rtB r)]) xs a).length = 256
        rw [hc']
        exact applyP_len _ _ hAl (fun x hx => by simp only [List.mem_singleton] at hx; subst hx; exact hR) a
      · show crashG [] (applyP (applyP s.g l) [(r.gen % 2, rtB r)]) xs c = _
        rw [hc', hU]
        unfold upd
        rw [if_neg (by omega), applyP_other l s.g hc]
      · show crashG [] (applyP (applyP s.g l) [(r.gen % 2, rtB r)]) xs c = _
        rw [hc', hU]
        unfold upd
        rw [if_neg (by omega)]

/-! Which root it has then. -/
/-- a root that is one of a device of n blocks -/
structure Good (r : Rt) (n : Nat) : Prop where
  fits : r.Fits
  may : mayR r n = true
theorem Good.mayB {r : Rt} {n : Nat} (h : Good r n) : Slt.mayB r = true := by
  have := h.may
  unfold mayR at this
  rw [Bool.and_eq_true] at this
  exact this.1
theorem Good.gen {r : Rt} {n : Nat} (h : Good r n) : 1 ≤ r.gen := (Slt.mayB_iff.1 h.mayB).1
theorem readB_nil {s : DS} (hp : s.pend = []) (a : Nat) : readB s a = s.g a := by unfold readB; rw [hp]; rfl
theorem rootAt_is {s : DS} {r : Rt} {a : Nat} (hp : s.pend = []) (h : Good r s.n) (ha : r.gen % 2 = a) (hg : s.g a = rtB r) : rootAt s a = some r := by
  unfold rootAt
  rw [readB_nil hp, hg, (back h.mayB h.fits).1, (back h.mayB h.fits).2, if_pos ⟨rfl, ha, h.may⟩]
theorem rootAt_none {s : DS} {a : Nat} (hp : s.pend = []) (hg : getE (s.g a) = 250) : rootAt s a = none := by
  unfold rootAt
  rw [readB_nil hp, hg, if_neg (fun h => by cases h.1)]
/-- what a slot may hold ahead of a commit: zeros, or an elder root -/
def Elder (o : List UInt8) (r : Rt) (n : Nat) : Prop := o = zeros ∨ ∃ r', Good r' n ∧ o = rtB r' ∧ r'.gen % 2 = r.gen % 2 ∧ r'.gen + 1 < r.gen
theorem zeros_none : getE zeros = 250 := by
  have h := torn_zero Slt.nil 0
  rw [torn_none _ _ zeros_length] at h
  rcases h with h | h
  · exact h
  · have h1 := congrArg (fun l : List UInt8 => l.getD 0 0) h
    simp only [zeros_getD, rtB_first] at h1
    cases h1
theorem torn_slot {o : List UInt8} {r : Rt} {n : Nat} (ho : Elder o r n) (M : Nat) : getE (tornB o (rtB r) M) = 250 ∨ tornB o (rtB r) M = o ∨ tornB o (rtB r) M = rtB r := by
  rcases ho with rfl | ⟨r', _, rfl, _, _⟩
  · rcases torn_zero r M with h | h
    · exact .inl h
    · exact .inr (.inr h)
  · exact torn_one r' r M
theorem later_other {x y : Rt} {a : Nat} (ha : a < 2) {s : DS} (h1 : rootAt s a = some x) (h2 : rootAt s (1 - a) = some y) (hlt : y.gen < x.gen) : mountS s = some x := by
  unfold mountS
  rcases (by omega : a = 0 ∨ a = 1) with rfl | rfl
  · rw [h1, show rootAt s 1 = some y from h2]
    show (if x.gen < y.gen then some y else some x) = some x
    rw [if_neg (by omega)]
  · rw [h1, show rootAt s 0 = some y from h2]
    show (if y.gen < x.gen then some x else some y) = some x
    rw [if_pos hlt]
theorem later_one {x : Rt} {a : Nat} (ha : a < 2) {s : DS} (h1 : rootAt s a = some x) (h2 : rootAt s (1 - a) = none) : mountS s = some x := by
  unfold mountS
  rcases (by omega : a = 0 ∨ a = 1) with rfl | rfl
  · rw [h1, show rootAt s 1 = none from h2]; rfl
  · rw [h1, show rootAt s 0 = none from h2]; rfl
/-- behind a crash in a commit of the next generation: the root that was, or the committed one; that one if the commit told OK -/
theorem crash_root {s s2 : DS} {r was : Rt} {e : Int} {l : List (Nat × List UInt8)} (h : Crashed s s2 l r e) (hr : Good r s.n) (hw : Good was s.n) (hgen : r.gen = was.gen + 1) (hslot : s.g (was.gen % 2) = rtB was) (hold : Elder (s.g (r.gen % 2)) r s.n) :
    (mountS s2 = some was ∨ mountS s2 = some r) ∧ (e = 0 → mountS s2 = some r) := by
  have hm : r.gen % 2 < 2 := Nat.mod_lt _ (by omega)
  have ho : 1 - r.gen % 2 = was.gen % 2 := by omega
  have hw2 : rootAt s2 (1 - r.gen % 2) = some was := by
    refine rootAt_is h.pend ?_ ho.symm ?_
    · rw [h.n]; exact hw
    · rw [h.other, ho]; exact hslot
  have hr2 : s2.g (r.gen % 2) = rtB r → mountS s2 = some r := fun hg => by
    refine later_other hm (rootAt_is h.pend ?_ rfl hg) hw2 (by omega)
    rw [h.n]; exact hr
  refine ⟨?_, fun he => hr2 (h.ok he)⟩
  obtain ⟨M, hM⟩ := h.slot
  have hnone : getE (s2.g (r.gen % 2)) = 250 → mountS s2 = some was := fun hg => by
    refine later_one (a := 1 - r.gen % 2) (by omega) hw2 ?_
    rw [show 1 - (1 - r.gen % 2) = r.gen % 2 from by omega]
    exact rootAt_none h.pend hg
  rcases torn_slot hold M with h3 | h3 | h3
  · exact .inl (hnone (by rw [hM]; exact h3))
  · rw [h3] at hM
    rcases hold with hz | ⟨r', hr', hz, hp, hlt⟩
    · exact .inl (hnone (by rw [hM, hz]; exact zeros_none))
    · left
      refine later_other (a := 1 - r.gen % 2) (by omega) hw2 (y := r') ?_ (by omega)
      rw [show 1 - (1 - r.gen % 2) = r.gen % 2 from by omega]
      refine rootAt_is h.pend ?_ hp (hM.trans hz)
      rw [h.n]; exact hr'
  · exact .inr (hr2 (by rw [hM]; exact h3))

end Go.Proofs.YtojpcgjmainbfaaGreat.Rot

/-
  Formats by value; commits one behind the other; what is read behind a commit. Plain mathematics.
-/
namespace Go.Proofs.YtojpcgjmainbfaaGreat.Rot
open Go.RowKit Crc Fld
set_option maxRecDepth 100000
open Go.Proofs.YtojpcgjmainbfaaGreat.Slt (Rt mayB getR getE putB putE rtB rtB_length)
open Go.Proofs.YtojpcgjmainbfaaGreat.Dev (DS applyP applyP_snoc upd crashS readB newS)

/-- the root of a new device -/
def fresh (n : Nat) : Rt := ⟨1, n, 0, 0, n - fsN n, 1, fsN n, 0⟩
theorem fresh_good {n : Nat} (h1 : 64 ≤ n) (h2 : n ≤ 1048576) : Good (fresh n) n := by
  obtain ⟨_, f2, _⟩ := plan_facts h1 h2
  refine ⟨⟨by show (1 : Nat) < _; omega, by show n < _; omega, by show (0 : Nat) < _; omega, by show (0 : Nat) < _; omega, by show n - fsN n < _; omega, by show (1 : Nat) < _; omega, by show fsN n < _; omega, by show (0 : Nat) < _; omega⟩, ?_⟩
  unfold mayR
  have hm : mayB (fresh n) = true := by
    rw [Slt.mayB_iff]
    unfold Slt.May fresh
    simp only
    exact ⟨Nat.le_refl _, h1, h2, by omega, by omega, f2, by omega, Nat.le_refl _, by omega, by simp⟩
  rw [hm]
  have e1 : (fresh n).size = n := rfl
  have e2 : (fresh n).picks / 2 ^ pkN n = 0 := Nat.zero_div _
  have e3 : fsN n ≤ (fresh n).hint := Nat.le_refl _
  have e4 : (fresh n).free ≤ n - fsN n := Nat.le_refl _
  rw [decide_eq_true e1, decide_eq_true e2, decide_eq_true e3, decide_eq_true e4]
  rfl

/-- the addresses below k that have another block than zeros, each with a zero block -/
def toZero (g : Nat → List UInt8) (k : Nat) : List (Nat × List UInt8) := ((List.range k).filter fun a => decide (g a ≠ zeros)).map fun a => (a, zeros)
theorem toZero_succ (g : Nat → List UInt8) (k : Nat) : toZero g (k + 1) = if g k = zeros then toZero g k else toZero g k ++ [(k, zeros)] := by
  unfold toZero
  rw [List.range_succ, List.filter_append, List.map_append]
  by_cases h : g k = zeros
  · simp [h]
  · simp [h]
theorem toZero_mem {g : Nat → List UInt8} {k : Nat} {x : Nat × List UInt8} (h : x ∈ toZero g k) : x.1 < k ∧ x.2 = zeros := by
  unfold toZero at h
  rw [List.mem_map] at h
  obtain ⟨a, ha, rfl⟩ := h
  have := (List.mem_filter.1 ha).1
  exact ⟨List.mem_range.1 this, rfl⟩
theorem toZero_length (g : Nat → List UInt8) (k : Nat) : (toZero g k).length ≤ k := by
  unfold toZero
  rw [List.length_map]
  have := List.length_filter_le (fun a => decide (g a ≠ zeros)) (List.range k)
  rw [List.length_range] at this
  exact this
theorem applyP_app (g : Nat → List UInt8) (l m : List (Nat × List UInt8)) : applyP g (l ++ m) = applyP (applyP g l) m := by
  unfold applyP
  rw [List.foldl_append]
theorem toZero_apply (g : Nat → List UInt8) : ∀ k a, applyP g (toZero g k) a = if a < k then zeros else g a
  | 0, a => by rw [if_neg (by omega)]; rfl
  | k + 1, a => by
    rw [toZero_succ]
    by_cases h : g k = zeros
    · rw [if_pos h, toZero_apply g k a]
      by_cases hak : a = k
      · subst hak; rw [if_neg (by omega), if_pos (by omega), h]
      · by_cases h2 : a < k
        · rw [if_pos h2, if_pos (by omega)]
        · rw [if_neg h2, if_neg (by omega)]
    · rw [if_neg h, applyP_app]
      show upd (applyP g (toZero g k)) k zeros a = _
      unfold upd
      by_cases hak : a = k
      · rw [if_pos hak, if_pos (by omega)]
      · rw [if_neg hak, toZero_apply g k a]
        by_cases h2 : a < k
        · rw [if_pos h2, if_pos (by omega)]
        · rw [if_neg h2, if_neg (by omega)]
/-- a format, by value -/
def formatF (s : DS) : DS × (Rt × Int) :=
  if (writeF s (toZero (readB s) (fsN s.n))).2 = 0 then
    (if (writeF (writeF s (toZero (readB s) (fsN s.n))).1 [(1, rtB (fresh s.n))]).2 = 0 then ((writeF (writeF s (toZero (readB s) (fsN s.n))).1 [(1, rtB (fresh s.n))]).1, (fresh s.n, 0))
     else ((writeF (writeF s (toZero (readB s) (fsN s.n))).1 [(1, rtB (fresh s.n))]).1, (Slt.nil, (writeF (writeF s (toZero (readB s) (fsN s.n))).1 [(1, rtB (fresh s.n))]).2)))
  else ((writeF s (toZero (readB s) (fsN s.n))).1, (Slt.nil, (writeF s (toZero (readB s) (fsN s.n))).2))
/-- a device that is up, without a fuse, with nothing pending -/
structure Calm (s : DS) : Prop where
  down : s.down = false
  left : s.left = -1
  pend : s.pend = []
  len : ∀ a, (s.g a).length = 256
theorem Calm.new (n : Nat) : Calm (newS n) := ⟨rfl, rfl, rfl, fun _ => zeros_length⟩
theorem format_calm {s : DS} (h : Calm s) (h1 : 64 ≤ s.n) (h2 : s.n ≤ 1048576) :
    ∃ k, formatF s = ({ s with g := upd (applyP s.g (toZero s.g (fsN s.n))) 1 (rtB (fresh s.n)), writes := k }, (fresh s.n, 0)) := by
  obtain ⟨_, f2, _⟩ := plan_facts h1 h2
  have hr : readB s = s.g := funext fun a => readB_nil h.pend a
  have e1 := writeF_ok (l := toZero s.g (fsN s.n)) h.down h.pend (fun x hx => by have := (toZero_mem hx).1; omega) (.inl h.left)
  rw [if_pos h.left] at e1
  have e2 := writeF_ok (s := { s with g := applyP s.g (toZero s.g (fsN s.n)), pend := [], left := -1, writes := s.writes + (toZero s.g (fsN s.n)).length + 1 }) (l := [(1, rtB (fresh s.n))]) h.down rfl (fun x hx => by
    simp only [List.mem_singleton] at hx
    subst hx
    show 1 < s.n
    omega) (.inl rfl)
  refine ⟨s.writes + (toZero s.g (fsN s.n)).length + 1 + 1 + 1, ?_⟩
  unfold formatF
  rw [hr, e1, if_pos rfl, e2, if_pos rfl]
  have hl := h.left
  have hp := h.pend
  cases s
  simp only at hl hp
  subst hl hp
  rfl
/-- a commit on such a device -/
theorem commit_calm {s : DS} (h : Calm s) {l : List (Nat × List UInt8)} {r : Rt} (ok : commitOk s.n l r = true) (hn : 2 ≤ s.n) :
    ∃ k, commitF s l r = ({ s with g := upd (applyP s.g l) (r.gen % 2) (rtB r), writes := k }, 0) := by
  have ha : ∀ x ∈ l, x.1 < s.n := fun x hx => by
    unfold commitOk at ok
    rw [Bool.and_eq_true] at ok
    have := List.all_eq_true.1 ok.2 x hx
    simp at this
    exact this.2
  have e1 := writeF_ok (l := l) h.down h.pend ha (.inl h.left)
  rw [if_pos h.left] at e1
  have e2 := writeF_ok (s := { s with g := applyP s.g l, pend := [], left := -1, writes := s.writes + l.length + 1 }) (l := [(r.gen % 2, rtB r)]) h.down rfl (fun x hx => by
    simp only [List.mem_singleton] at hx
    subst hx
    show r.gen % 2 < s.n
    have : r.gen % 2 < 2 := Nat.mod_lt _ (by omega)
    omega) (.inl rfl)
  refine ⟨s.writes + l.length + 1 + 1 + 1, ?_⟩
  unfold commitF
  rw [if_pos ok, e1, if_pos rfl, e2]
  have hl := h.left
  have hp := h.pend
  cases s
  simp only at hl hp
  subst hl hp
  rfl
/-- .. and it is such a device again, with that root -/
theorem calm_upd {s : DS} (h : Calm s) {l : List (Nat × List UInt8)} (hl : ∀ x ∈ l, x.2.length = 256) (a : Nat) (b : List UInt8) (hb : b.length = 256) (k : Nat) : Calm { s with g := upd (applyP s.g l) a b, writes := k } :=
  ⟨h.down, h.left, h.pend, fun c => by
    show (upd (applyP s.g l) a b c).length = 256
    unfold upd
    split
    · exact hb
    · exact applyP_len _ _ h.len hl c⟩
theorem commit_bad {s : DS} {l : List (Nat × List UInt8)} {r : Rt} (h : commitOk s.n l r = false) : commitF s l r = (s, 2) := by
  unfold commitF
  rw [if_neg (by rw [h]; simp)]
/-- behind a crash a device is calm -/
theorem Crashed.calm {s s2 : DS} {l : List (Nat × List UInt8)} {r : Rt} {e : Int} (h : Crashed s s2 l r e) : Calm s2 := ⟨h.down, h.left, h.pend, h.len⟩

/-- the root behind a commit: the other slot has an elder one -/
theorem mount_commit {s : DS} (h : Calm s) {l : List (Nat × List UInt8)} {r was : Rt} (ok : commitOk s.n l r = true) (hn : 2 ≤ s.n) (hr : r.Fits) (hw : Good was s.n) (hp : r.gen % 2 ≠ was.gen % 2) (hlt : was.gen < r.gen) (hs : s.g (was.gen % 2) = rtB was) :
    mountS (commitF s l r).1 = some r := by
  obtain ⟨k, e⟩ := commit_calm h ok hn
  have hm : r.gen % 2 < 2 := Nat.mod_lt _ (by omega)
  have hok := ok
  unfold commitOk at hok
  rw [Bool.and_eq_true] at hok
  have hne : ∀ c, c < 2 → ∀ y ∈ l, y.1 ≠ c := fun c hc y hy => by
    have := List.all_eq_true.1 hok.2 y hy
    simp at this
    omega
  rw [e]
  refine later_other hm (rootAt_is h.pend ⟨hr, hok.1⟩ rfl ?_) (rootAt_is h.pend hw (by omega) ?_) hlt
  · show upd (applyP s.g l) (r.gen % 2) (rtB r) (r.gen % 2) = _
    unfold upd
    rw [if_pos rfl]
  · show upd (applyP s.g l) (r.gen % 2) (rtB r) (1 - r.gen % 2) = _
    unfold upd
    rw [if_neg (by omega), applyP_other l s.g (hne _ (by omega)), show 1 - r.gen % 2 = was.gen % 2 from by omega]
    exact hs
/-! A new device of 64 blocks, formatted. -/
def s64 (k : Nat) : DS := { newS 64 with g := upd (fun _ => zeros) 1 (rtB (fresh 64)), writes := k }
theorem calm64 (k : Nat) : Calm (s64 k) := ⟨rfl, rfl, rfl, fun a => by
  show (upd (fun _ => zeros) 1 (rtB (fresh 64)) a).length = 256
  unfold upd
  split
  · exact rtB_length _
  · exact zeros_length⟩
theorem fresh64 : Good (fresh 64) 64 := fresh_good (by omega) (by omega)
theorem slot64 (k : Nat) : (s64 k).g ((fresh 64).gen % 2) = rtB (fresh 64) := by
  show upd (fun _ => zeros) 1 (rtB (fresh 64)) 1 = _
  unfold upd
  rw [if_pos rfl]
/-! Commits one behind the other, of one block each (block 20 + i). -/
structure Chain (s : DS) (last : Rt) (i : Nat) (bs : Nat → List UInt8) : Prop where
  calm : Calm s
  n : s.n = 64
  good : Good last 64
  gen : last.gen = i + 1
  slot : s.g (last.gen % 2) = rtB last
  other : s.g (1 - last.gen % 2) = zeros ∨ ∃ r', Good r' 64 ∧ s.g (1 - last.gen % 2) = rtB r' ∧ r'.gen + 1 = last.gen
  data : ∀ j, j < i → s.g (20 + j) = bs j
theorem Chain.start (k : Nat) (bs : Nat → List UInt8) : Chain (s64 k) (fresh 64) 0 bs :=
  ⟨calm64 k, rfl, fresh64, rfl, slot64 k, .inl (by
    show upd (fun _ => zeros) 1 (rtB (fresh 64)) 0 = zeros
    unfold upd
    rw [if_neg (by omega)]), fun j hj => by omega⟩
theorem Chain.elder {s : DS} {last : Rt} {i : Nat} {bs : Nat → List UInt8} (h : Chain s last i bs) {r : Rt} (hg : r.gen = last.gen + 1) : Elder (s.g (r.gen % 2)) r s.n := by
  have e : r.gen % 2 = 1 - last.gen % 2 := by omega
  rw [e, h.n]
  rcases h.other with h1 | ⟨r', h1, h2, h3⟩
  · exact .inl h1
  · exact .inr ⟨r', h1, h2, by omega, by omega⟩
theorem okGood {n : Nat} {l : List (Nat × List UInt8)} {r : Rt} (hr : r.Fits) (ok : commitOk n l r = true) : Good r n := ⟨hr, by
  unfold commitOk at ok
  rw [Bool.and_eq_true] at ok
  exact ok.1⟩
/-- the commit in the middle of the chain -/
theorem Chain.step {s : DS} {last : Rt} {i : Nat} {bs : Nat → List UInt8} (h : Chain s last i bs) {r : Rt} (hr : r.Fits) (hg : r.gen = last.gen + 1) (hb : (bs i).length = 256) (ok : commitOk 64 [(20 + i, bs i)] r = true) :
    Chain (commitF s [(20 + i, bs i)] r).1 r (i + 1) bs ∧ (commitF s [(20 + i, bs i)] r).2 = 0 ∧ mountS (commitF s [(20 + i, bs i)] r).1 = some r := by
  have ok' : commitOk s.n [(20 + i, bs i)] r = true := by rw [h.n]; exact ok
  have hl : ∀ x ∈ [(20 + i, bs i)], x.2.length = 256 := fun x hx => by
    simp only [List.mem_singleton] at hx
    subst hx
    exact hb
  have hm : r.gen % 2 < 2 := Nat.mod_lt _ (by omega)
  have hmount := mount_commit h.calm ok' (by rw [h.n]; omega) hr (was := last) (by rw [h.n]; exact h.good) (by omega) (by omega) h.slot
  obtain ⟨k, e⟩ := commit_calm h.calm ok' (by rw [h.n]; omega)
  rw [e] at hmount ⊢
  have hU : ∀ c, (upd (applyP s.g [(20 + i, bs i)]) (r.gen % 2) (rtB r)) c = if c = r.gen % 2 then rtB r else if c = 20 + i then bs i else s.g c := fun c => rfl
  refine ⟨⟨calm_upd h.calm hl _ _ (rtB_length _) k, h.n, okGood hr ok, by have := h.gen; omega, ?_, .inr ⟨last, h.good, ?_, hg.symm⟩, fun j hj => ?_⟩, rfl, hmount⟩
  · show upd (applyP s.g [(20 + i, bs i)]) (r.gen % 2) (rtB r) (r.gen % 2) = _
    rw [hU, if_pos rfl]
  · show upd (applyP s.g [(20 + i, bs i)]) (r.gen % 2) (rtB r) (1 - r.gen % 2) = _
    rw [hU, if_neg (by omega), if_neg (by omega), show 1 - r.gen % 2 = last.gen % 2 from by omega]
    exact h.slot
  · show upd (applyP s.g [(20 + i, bs i)]) (r.gen % 2) (rtB r) (20 + j) = _
    rw [hU, if_neg (by omega)]
    by_cases hji : j = i
    · subst hji; rw [if_pos rfl]
    · rw [if_neg (by omega)]
      exact h.data j (by omega)
/-- the last one, with a fuse, and the crash -/
theorem Chain.crash {s : DS} {last : Rt} {i : Nat} {bs : Nat → List UInt8} (h : Chain s last i bs) {r : Rt} (hr : r.Fits) (hg : r.gen = last.gen + 1) (hb : (bs i).length = 256) (ok : commitOk 64 [(20 + i, bs i)] r = true) (f : Int) (hf : 0 ≤ f) (xs : List (Nat × Nat)) :
    (mountS (crashS (commitF { s with left := f } [(20 + i, bs i)] r).1 xs) = some last ∨ mountS (crashS (commitF { s with left := f } [(20 + i, bs i)] r).1 xs) = some r) ∧
    (crashS (commitF { s with left := f } [(20 + i, bs i)] r).1 xs).pend = [] ∧
    (∀ j, j < i → readB (crashS (commitF { s with left := f } [(20 + i, bs i)] r).1 xs) (20 + j) = bs j) ∧
    (mountS (crashS (commitF { s with left := f } [(20 + i, bs i)] r).1 xs) = some r → readB (crashS (commitF { s with left := f } [(20 + i, bs i)] r).1 xs) (20 + i) = bs i) := by
  have hl : ∀ x ∈ [(20 + i, bs i)], x.2.length = 256 := fun x hx => by
    simp only [List.mem_singleton] at hx
    subst hx
    exact hb
  have ok' : commitOk s.n [(20 + i, bs i)] r = true := by rw [h.n]; exact ok
  have hcr := commit_crash (s := { s with left := f }) (l := [(20 + i, bs i)]) (r := r) h.calm.down h.calm.pend (by show -1 ≤ f; omega) h.calm.len hl (by show 2 ≤ s.n; rw [h.n]; omega) ok' xs
  have hgood := okGood hr ok
  have hroot := crash_root (was := last) hcr (by show Good r s.n; rw [h.n]; exact hgood) (by show Good last s.n; rw [h.n]; exact h.good) hg h.slot (h.elder hg)
  have hn : (crashS (commitF { s with left := f } [(20 + i, bs i)] r).1 xs).n = 64 := hcr.n.trans h.n
  generalize crashS (commitF { s with left := f } [(20 + i, bs i)] r).1 xs = s2 at hcr hroot hn ⊢
  have hm : r.gen % 2 < 2 := Nat.mod_lt _ (by omega)
  refine ⟨hroot.1, hcr.pend, fun j hj => ?_, fun hmr => ?_⟩
  · rw [readB_nil hcr.pend, hcr.rest (20 + j) (by omega) (fun y hy => by
      simp only [List.mem_singleton] at hy
      subst hy
      show 20 + i ≠ 20 + j
      omega)]
    exact h.data j hj
  · rw [readB_nil hcr.pend]
    rcases hcr.data with hd | hd
    · exfalso
      have hlast : rootAt s2 (last.gen % 2) = some last := rootAt_is hcr.pend (by rw [hn]; exact h.good) rfl (by rw [hd _ (by omega)]; exact h.slot)
      have : mountS s2 = some last := by
        have ho : s2.g (1 - last.gen % 2) = s.g (1 - last.gen % 2) := hd _ (by omega)
        rcases h.other with h1 | ⟨r', h1, h2, h3⟩
        · exact later_one (by omega) hlast (rootAt_none hcr.pend (by rw [ho, h1]; exact zeros_none))
        · exact later_other (by omega) hlast (rootAt_is hcr.pend (by rw [hn]; exact h1) (by omega) (by rw [ho]; exact h2)) (by omega)
      rw [this] at hmr
      have := Option.some.inj hmr
      rw [this] at hg
      omega
    · rw [hd _ (by omega)]
      show (if 20 + i = 20 + i then bs i else s.g (20 + i)) = bs i
      rw [if_pos rfl]

end Go.Proofs.YtojpcgjmainbfaaGreat.Rot

