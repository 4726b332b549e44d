/-
  Formats by value; commits one behind the other; what is read behind a commit. Plain mathematics.
-/
import Derived.Test.YtlojhdnahioicaaRotMath
namespace Go.Proofs.Ytlojhdnahioicaa.Rot
open Go.RowKit Crc Fld
set_option maxRecDepth 100000
open Go.Proofs.Ytlojhdnahioicaa.Slt (Rt mayB getR getE putB putE rtB rtB_length)
open Go.Proofs.Ytlojhdnahioicaa.Dev (DS applyP applyP_snoc upd crashS readB newS)

/-- the root of a new device -/
def fresh (n : Nat) : Rt := ⟨1, n, 0, 0, n - fsN n, 1, fsN n, 0⟩
theorem fresh_good {n : Nat} (h1 : 64 ≤ n) (h2 : n ≤ 1048576) : Good (fresh n) n := by
  obtain ⟨_, f2, _⟩ := plan_facts h1 h2
  refine ⟨⟨by show (1 : Nat) < _; omega, by show n < _; omega, by show (0 : Nat) < _; omega, by show (0 : Nat) < _; omega, by show n - fsN n < _; omega, by show (1 : Nat) < _; omega, by show fsN n < _; omega, by show (0 : Nat) < _; omega⟩, ?_⟩
  unfold mayR
  have hm : mayB (fresh n) = true := by
    rw [Slt.mayB_iff]
    unfold Slt.May fresh
    simp only
    exact ⟨Nat.le_refl _, h1, h2, by omega, by omega, f2, by omega, Nat.le_refl _, by omega, by simp⟩
  rw [hm]
  have e1 : (fresh n).size = n := rfl
  have e2 : (fresh n).picks / 2 ^ pkN n = 0 := Nat.zero_div _
  have e3 : fsN n ≤ (fresh n).hint := Nat.le_refl _
  have e4 : (fresh n).free ≤ n - fsN n := Nat.le_refl _
  rw [decide_eq_true e1, decide_eq_true e2, decide_eq_true e3, decide_eq_true e4]
  rfl

/-- the addresses below k that have another block than zeros, each with a zero block -/
def toZero (g : Nat → List UInt8) (k : Nat) : List (Nat × List UInt8) := ((List.range k).filter fun a => decide (g a ≠ zeros)).map fun a => (a, zeros)
theorem toZero_succ (g : Nat → List UInt8) (k : Nat) : toZero g (k + 1) = if g k = zeros then toZero g k else toZero g k ++ [(k, zeros)] := by
  unfold toZero
  rw [List.range_succ, List.filter_append, List.map_append]
  by_cases h : g k = zeros
  · simp [h]
  · simp [h]
theorem toZero_mem {g : Nat → List UInt8} {k : Nat} {x : Nat × List UInt8} (h : x ∈ toZero g k) : x.1 < k ∧ x.2 = zeros := by
  unfold toZero at h
  rw [List.mem_map] at h
  obtain ⟨a, ha, rfl⟩ := h
  have := (List.mem_filter.1 ha).1
  exact ⟨List.mem_range.1 this, rfl⟩
theorem toZero_length (g : Nat → List UInt8) (k : Nat) : (toZero g k).length ≤ k := by
  unfold toZero
  rw [List.length_map]
  have := List.length_filter_le (fun a => decide (g a ≠ zeros)) (List.range k)
  rw [List.length_range] at this
  exact this
theorem applyP_app (g : Nat → List UInt8) (l m : List (Nat × List UInt8)) : applyP g (l ++ m) = applyP (applyP g l) m := by
  unfold applyP
  rw [List.foldl_append]
theorem toZero_apply (g : Nat → List UInt8) : ∀ k a, applyP g (toZero g k) a = if a < k then zeros else g a
  | 0, a => by rw [if_neg (by omega)]; rfl
  | k + 1, a => by
    rw [toZero_succ]
    by_cases h : g k = zeros
    · rw [if_pos h, toZero_apply g k a]
      by_cases hak : a = k
      · subst hak; rw [if_neg (by omega), if_pos (by omega), h]
      · by_cases h2 : a < k
        · rw [if_pos h2, if_pos (by omega)]
        · rw [if_neg h2, if_neg (by omega)]
    · rw [if_neg h, applyP_app]
      show upd (applyP g (toZero g k)) k zeros a = _
      unfold upd
      by_cases hak : a = k
      · rw [if_pos hak, if_pos (by omega)]
      · rw [if_neg hak, toZero_apply g k a]
        by_cases h2 : a < k
        · rw [if_pos h2, if_pos (by omega)]
        · rw [if_neg h2, if_neg (by omega)]
theorem toZero_none {g : Nat → List UInt8} (h : ∀ a, g a = zeros) (k : Nat) : toZero g k = [] := by
  induction k with
  | zero => rfl
  | succ k ih => rw [toZero_succ, if_pos (h k), ih]

/-- a format, by value -/
def formatF (s : DS) : DS × (Rt × Int) :=
  if (writeF s (toZero (readB s) (fsN s.n))).2 = 0 then
    (if (writeF (writeF s (toZero (readB s) (fsN s.n))).1 [(1, rtB (fresh s.n))]).2 = 0 then ((writeF (writeF s (toZero (readB s) (fsN s.n))).1 [(1, rtB (fresh s.n))]).1, (fresh s.n, 0))
     else ((writeF (writeF s (toZero (readB s) (fsN s.n))).1 [(1, rtB (fresh s.n))]).1, (Slt.nil, (writeF (writeF s (toZero (readB s) (fsN s.n))).1 [(1, rtB (fresh s.n))]).2)))
  else ((writeF s (toZero (readB s) (fsN s.n))).1, (Slt.nil, (writeF s (toZero (readB s) (fsN s.n))).2))
/-- a device that is up, without a fuse, with nothing pending -/
structure Calm (s : DS) : Prop where
  down : s.down = false
  left : s.left = -1
  pend : s.pend = []
  len : ∀ a, (s.g a).length = 256
theorem Calm.new (n : Nat) : Calm (newS n) := ⟨rfl, rfl, rfl, fun _ => zeros_length⟩
theorem format_calm {s : DS} (h : Calm s) (h1 : 64 ≤ s.n) (h2 : s.n ≤ 1048576) :
    ∃ k, formatF s = ({ s with g := upd (applyP s.g (toZero s.g (fsN s.n))) 1 (rtB (fresh s.n)), writes := k }, (fresh s.n, 0)) := by
  obtain ⟨_, f2, _⟩ := plan_facts h1 h2
  have hr : readB s = s.g := funext fun a => readB_nil h.pend a
  have e1 := writeF_ok (l := toZero s.g (fsN s.n)) h.down h.pend (fun x hx => by have := (toZero_mem hx).1; omega) (.inl h.left)
  rw [if_pos h.left] at e1
  have e2 := writeF_ok (s := { s with g := applyP s.g (toZero s.g (fsN s.n)), pend := [], left := -1, writes := s.writes + (toZero s.g (fsN s.n)).length + 1 }) (l := [(1, rtB (fresh s.n))]) h.down rfl (fun x hx => by
    simp only [List.mem_singleton] at hx
    subst hx
    show 1 < s.n
    omega) (.inl rfl)
  refine ⟨s.writes + (toZero s.g (fsN s.n)).length + 1 + 1 + 1, ?_⟩
  unfold formatF
  rw [hr, e1, if_pos rfl, e2, if_pos rfl]
  have hl := h.left
  have hp := h.pend
  cases s
  simp only at hl hp
  subst hl hp
  rfl
/-- a commit on such a device -/
theorem commit_calm {s : DS} (h : Calm s) {l : List (Nat × List UInt8)} {r : Rt} (ok : commitOk s.n l r = true) (hn : 2 ≤ s.n) :
    ∃ k, commitF s l r = ({ s with g := upd (applyP s.g l) (r.gen % 2) (rtB r), writes := k }, 0) := by
  have ha : ∀ x ∈ l, x.1 < s.n := fun x hx => by
    unfold commitOk at ok
    rw [Bool.and_eq_true] at ok
    have := List.all_eq_true.1 ok.2 x hx
    simp at this
    exact this.2
  have e1 := writeF_ok (l := l) h.down h.pend ha (.inl h.left)
  rw [if_pos h.left] at e1
  have e2 := writeF_ok (s := { s with g := applyP s.g l, pend := [], left := -1, writes := s.writes + l.length + 1 }) (l := [(r.gen % 2, rtB r)]) h.down rfl (fun x hx => by
    simp only [List.mem_singleton] at hx
    subst hx
    show r.gen % 2 < s.n
    have : r.gen % 2 < 2 := Nat.mod_lt _ (by omega)
    omega) (.inl rfl)
  refine ⟨s.writes + l.length + 1 + 1 + 1, ?_⟩
  unfold commitF
  rw [if_pos ok, e1, if_pos rfl, e2]
  have hl := h.left
  have hp := h.pend
  cases s
  simp only at hl hp
  subst hl hp
  rfl
/-- .. and it is such a device again, with that root -/
theorem calm_upd {s : DS} (h : Calm s) {l : List (Nat × List UInt8)} (hl : ∀ x ∈ l, x.2.length = 256) (a : Nat) (b : List UInt8) (hb : b.length = 256) (k : Nat) : Calm { s with g := upd (applyP s.g l) a b, writes := k } :=
  ⟨h.down, h.left, h.pend, fun c => by
    show (upd (applyP s.g l) a b c).length = 256
    unfold upd
    split
    · exact hb
    · exact applyP_len _ _ h.len hl c⟩
theorem commit_bad {s : DS} {l : List (Nat × List UInt8)} {r : Rt} (h : commitOk s.n l r = false) : commitF s l r = (s, 2) := by
  unfold commitF
  rw [if_neg (by rw [h]; simp)]
/-- behind a crash a device is calm -/
theorem Crashed.calm {s s2 : DS} {l : List (Nat × List UInt8)} {r : Rt} {e : Int} (h : Crashed s s2 l r e) : Calm s2 := ⟨h.down, h.left, h.pend, h.len⟩

/-- the root behind a commit: the other slot has an elder one -/
theorem mount_commit {s : DS} (h : Calm s) {l : List (Nat × List UInt8)} {r was : Rt} (ok : commitOk s.n l r = true) (hn : 2 ≤ s.n) (hr : r.Fits) (hw : Good was s.n) (hp : r.gen % 2 ≠ was.gen % 2) (hlt : was.gen < r.gen) (hs : s.g (was.gen % 2) = rtB was) :
    mountS (commitF s l r).1 = some r := by
  obtain ⟨k, e⟩ := commit_calm h ok hn
  have hm : r.gen % 2 < 2 := Nat.mod_lt _ (by omega)
  have hok := ok
  unfold commitOk at hok
  rw [Bool.and_eq_true] at hok
  have hne : ∀ c, c < 2 → ∀ y ∈ l, y.1 ≠ c := fun c hc y hy => by
    have := List.all_eq_true.1 hok.2 y hy
    simp at this
    omega
  rw [e]
  refine later_other hm (rootAt_is h.pend ⟨hr, hok.1⟩ rfl ?_) (rootAt_is h.pend hw (by omega) ?_) hlt
  · show upd (applyP s.g l) (r.gen % 2) (rtB r) (r.gen % 2) = _
    unfold upd
    rw [if_pos rfl]
  · show upd (applyP s.g l) (r.gen % 2) (rtB r) (1 - r.gen % 2) = _
    unfold upd
    rw [if_neg (by omega), applyP_other l s.g (hne _ (by omega)), show 1 - r.gen % 2 = was.gen % 2 from by omega]
    exact hs
/-- what is read behind a commit, from First on -/
theorem read_commit {s : DS} (h : Calm s) {l : List (Nat × List UInt8)} {r : Rt} (ok : commitOk s.n l r = true) (hn : 2 ≤ s.n) (c : Nat) (hc : 2 ≤ c) : readB (commitF s l r).1 c = applyP s.g l c := by
  obtain ⟨k, e⟩ := commit_calm h ok hn
  have hm : r.gen % 2 < 2 := Nat.mod_lt _ (by omega)
  rw [e]
  refine (readB_nil (s := { s with g := upd (applyP s.g l) (r.gen % 2) (rtB r), writes := k }) h.pend c).trans ?_
  show upd (applyP s.g l) (r.gen % 2) (rtB r) c = _
  unfold upd
  rw [if_neg (by omega)]
/-- block c behind the first j writes, read off the rows: what the last of them that is c's wrote -/
theorem applyP_take (g : Nat → List UInt8) (l : List (Nat × List UInt8)) (j : Nat) (hj : j < l.length) (c : Nat) : applyP g (l.take (j + 1)) c = if l[j].1 = c then l[j].2 else applyP g (l.take j) c := by
  rw [applyP_snoc g l j hj]
  unfold upd
  by_cases h : c = l[j].1
  · rw [if_pos h, if_pos h.symm]
  · rw [if_neg h, if_neg (fun e => h e.symm)]

/-! A new device of 64 blocks, formatted. -/
def s64 (k : Nat) : DS := { newS 64 with g := upd (fun _ => zeros) 1 (rtB (fresh 64)), writes := k }
theorem format64 : ∃ k, formatF (newS 64) = (s64 k, (fresh 64, 0)) := by
  obtain ⟨k, e⟩ := format_calm (Calm.new 64) (by show 64 ≤ 64; omega) (by show 64 ≤ 1048576; omega)
  refine ⟨k, e.trans ?_⟩
  rw [show toZero (newS 64).g (fsN (newS 64).n) = [] from toZero_none (fun _ => rfl) _]
  rfl
theorem calm64 (k : Nat) : Calm (s64 k) := ⟨rfl, rfl, rfl, fun a => by
  show (upd (fun _ => zeros) 1 (rtB (fresh 64)) a).length = 256
  unfold upd
  split
  · exact rtB_length _
  · exact zeros_length⟩
theorem fresh64 : Good (fresh 64) 64 := fresh_good (by omega) (by omega)
theorem slot64 (k : Nat) : (s64 k).g ((fresh 64).gen % 2) = rtB (fresh 64) := by
  show upd (fun _ => zeros) 1 (rtB (fresh 64)) 1 = _
  unfold upd
  rw [if_pos rfl]
/-- THE WHOLE OF A CRASH IN A COMMIT, AND OF THE COMMIT ONCE MORE -/
theorem crashes64 {k : Nat} {r : Rt} {l : List (Nat × List UInt8)} (hr : r.Fits) (hg : r.gen = 2) (hl : ∀ x ∈ l, x.2.length = 256) (ok : commitOk 64 l r = true) (f : Int) (hf : 0 ≤ f) (xs : List (Nat × Nat)) :
    (mountS (crashS (commitF { s64 k with left := f } l r).1 xs) = some (fresh 64) ∨ mountS (crashS (commitF { s64 k with left := f } l r).1 xs) = some r) ∧
    ((commitF { s64 k with left := f } l r).2 = 0 → mountS (crashS (commitF { s64 k with left := f } l r).1 xs) = some r) ∧
    (commitF (crashS (commitF { s64 k with left := f } l r).1 xs) l r).2 = 0 ∧ mountS (commitF (crashS (commitF { s64 k with left := f } l r).1 xs) l r).1 = some r ∧
    (commitF (crashS (commitF { s64 k with left := f } l r).1 xs) l r).1.pend = [] ∧
    ∃ g, ∀ c, 2 ≤ c → readB (commitF (crashS (commitF { s64 k with left := f } l r).1 xs) l r).1 c = applyP g l c := by
  have hcr := commit_crash (s := { s64 k with left := f }) (l := l) (r := r) rfl rfl (by show -1 ≤ f; omega) (calm64 k).len hl (by show 2 ≤ 64; omega) ok xs
  have hgood : Good r 64 := ⟨hr, by
    unfold commitOk at ok
    rw [Bool.and_eq_true] at ok
    exact ok.1⟩
  have hroot := crash_root (was := fresh 64) hcr hgood fresh64 (by show r.gen = 1 + 1; omega) (slot64 k) (.inl (by
    show upd (fun _ => zeros) 1 (rtB (fresh 64)) (r.gen % 2) = zeros
    unfold upd
    rw [if_neg (by omega)]))
  have hc2 := hcr.calm
  have hn2 : (crashS (commitF { s64 k with left := f } l r).1 xs).n = 64 := hcr.n
  have hother := hcr.other
  generalize crashS (commitF { s64 k with left := f } l r).1 xs = s2 at hcr hroot hc2 hn2 hother ⊢
  have ok2 : commitOk s2.n l r = true := by rw [hn2]; exact ok
  obtain ⟨q, e⟩ := commit_calm hc2 ok2 (by rw [hn2]; omega)
  refine ⟨hroot.1, hroot.2, by rw [e], mount_commit hc2 ok2 (by rw [hn2]; omega) hr (was := fresh 64) (by rw [hn2]; exact fresh64) (by show r.gen % 2 ≠ 1 % 2; omega) (by show 1 < r.gen; omega) ?_, by rw [e]; exact hc2.pend, s2.g, fun c hc => read_commit hc2 ok2 (by rw [hn2]; omega) c hc⟩
  have h1 : (1 : Nat) - r.gen % 2 = (fresh 64).gen % 2 := by show 1 - r.gen % 2 = 1 % 2; omega
  rw [← h1, hother, h1]
  exact slot64 k

/-! Commits one behind the other, of one block each (block 20 + i). -/
structure Chain (s : DS) (last : Rt) (i : Nat) (bs : Nat → List UInt8) : Prop where
  calm : Calm s
  n : s.n = 64
  good : Good last 64
  gen : last.gen = i + 1
  slot : s.g (last.gen % 2) = rtB last
  other : s.g (1 - last.gen % 2) = zeros ∨ ∃ r', Good r' 64 ∧ s.g (1 - last.gen % 2) = rtB r' ∧ r'.gen + 1 = last.gen
  data : ∀ j, j < i → s.g (20 + j) = bs j
theorem Chain.start (k : Nat) (bs : Nat → List UInt8) : Chain (s64 k) (fresh 64) 0 bs :=
  ⟨calm64 k, rfl, fresh64, rfl, slot64 k, .inl (by
    show upd (fun _ => zeros) 1 (rtB (fresh 64)) 0 = zeros
    unfold upd
    rw [if_neg (by omega)]), fun j hj => by omega⟩
theorem Chain.elder {s : DS} {last : Rt} {i : Nat} {bs : Nat → List UInt8} (h : Chain s last i bs) {r : Rt} (hg : r.gen = last.gen + 1) : Elder (s.g (r.gen % 2)) r s.n := by
  have e : r.gen % 2 = 1 - last.gen % 2 := by omega
  rw [e, h.n]
  rcases h.other with h1 | ⟨r', h1, h2, h3⟩
  · exact .inl h1
  · exact .inr ⟨r', h1, h2, by omega, by omega⟩
theorem okGood {n : Nat} {l : List (Nat × List UInt8)} {r : Rt} (hr : r.Fits) (ok : commitOk n l r = true) : Good r n := ⟨hr, by
  unfold commitOk at ok
  rw [Bool.and_eq_true] at ok
  exact ok.1⟩
/-- the commit in the middle of the chain -/
theorem Chain.step {s : DS} {last : Rt} {i : Nat} {bs : Nat → List UInt8} (h : Chain s last i bs) {r : Rt} (hr : r.Fits) (hg : r.gen = last.gen + 1) (hb : (bs i).length = 256) (ok : commitOk 64 [(20 + i, bs i)] r = true) :
    Chain (commitF s [(20 + i, bs i)] r).1 r (i + 1) bs ∧ (commitF s [(20 + i, bs i)] r).2 = 0 ∧ mountS (commitF s [(20 + i, bs i)] r).1 = some r := by
  have ok' : commitOk s.n [(20 + i, bs i)] r = true := by rw [h.n]; exact ok
  have hl : ∀ x ∈ [(20 + i, bs i)], x.2.length = 256 := fun x hx => by
    simp only [List.mem_singleton] at hx
    subst hx
    exact hb
  have hm : r.gen % 2 < 2 := Nat.mod_lt _ (by omega)
  have hmount := mount_commit h.calm ok' (by rw [h.n]; omega) hr (was := last) (by rw [h.n]; exact h.good) (by omega) (by omega) h.slot
  obtain ⟨k, e⟩ := commit_calm h.calm ok' (by rw [h.n]; omega)
  rw [e] at hmount ⊢
  have hU : ∀ c, (upd (applyP s.g [(20 + i, bs i)]) (r.gen % 2) (rtB r)) c = if c = r.gen % 2 then rtB r else if c = 20 + i then bs i else s.g c := fun c => rfl
  refine ⟨⟨calm_upd h.calm hl _ _ (rtB_length _) k, h.n, okGood hr ok, by have := h.gen; omega, ?_, .inr ⟨last, h.good, ?_, hg.symm⟩, fun j hj => ?_⟩, rfl, hmount⟩
  · show upd (applyP s.g [(20 + i, bs i)]) (r.gen % 2) (rtB r) (r.gen % 2) = _
    rw [hU, if_pos rfl]
  · show upd (applyP s.g [(20 + i, bs i)]) (r.gen % 2) (rtB r) (1 - r.gen % 2) = _
    rw [hU, if_neg (by omega), if_neg (by omega), show 1 - r.gen % 2 = last.gen % 2 from by omega]
    exact h.slot
  · show upd (applyP s.g [(20 + i, bs i)]) (r.gen % 2) (rtB r) (20 + j) = _
    rw [hU, if_neg (by omega)]
    by_cases hji : j = i
    · subst hji; rw [if_pos rfl]
    · rw [if_neg (by omega)]
      exact h.data j (by omega)
/-- the last one, with a fuse, and the crash -/
theorem Chain.crash {s : DS} {last : Rt} {i : Nat} {bs : Nat → List UInt8} (h : Chain s last i bs) {r : Rt} (hr : r.Fits) (hg : r.gen = last.gen + 1) (hb : (bs i).length = 256) (ok : commitOk 64 [(20 + i, bs i)] r = true) (f : Int) (hf : 0 ≤ f) (xs : List (Nat × Nat)) :
    (mountS (crashS (commitF { s with left := f } [(20 + i, bs i)] r).1 xs) = some last ∨ mountS (crashS (commitF { s with left := f } [(20 + i, bs i)] r).1 xs) = some r) ∧
    (crashS (commitF { s with left := f } [(20 + i, bs i)] r).1 xs).pend = [] ∧
    (∀ j, j < i → readB (crashS (commitF { s with left := f } [(20 + i, bs i)] r).1 xs) (20 + j) = bs j) ∧
    (mountS (crashS (commitF { s with left := f } [(20 + i, bs i)] r).1 xs) = some r → readB (crashS (commitF { s with left := f } [(20 + i, bs i)] r).1 xs) (20 + i) = bs i) := by
  have hl : ∀ x ∈ [(20 + i, bs i)], x.2.length = 256 := fun x hx => by
    simp only [List.mem_singleton] at hx
    subst hx
    exact hb
  have ok' : commitOk s.n [(20 + i, bs i)] r = true := by rw [h.n]; exact ok
  have hcr := commit_crash (s := { s with left := f }) (l := [(20 + i, bs i)]) (r := r) h.calm.down h.calm.pend (by show -1 ≤ f; omega) h.calm.len hl (by show 2 ≤ s.n; rw [h.n]; omega) ok' xs
  have hgood := okGood hr ok
  have hroot := crash_root (was := last) hcr (by show Good r s.n; rw [h.n]; exact hgood) (by show Good last s.n; rw [h.n]; exact h.good) hg h.slot (h.elder hg)
  have hn : (crashS (commitF { s with left := f } [(20 + i, bs i)] r).1 xs).n = 64 := hcr.n.trans h.n
  generalize crashS (commitF { s with left := f } [(20 + i, bs i)] r).1 xs = s2 at hcr hroot hn ⊢
  have hm : r.gen % 2 < 2 := Nat.mod_lt _ (by omega)
  refine ⟨hroot.1, hcr.pend, fun j hj => ?_, fun hmr => ?_⟩
  · rw [readB_nil hcr.pend, hcr.rest (20 + j) (by omega) (fun y hy => by
      simp only [List.mem_singleton] at hy
      subst hy
      show 20 + i ≠ 20 + j
      omega)]
    exact h.data j hj
  · rw [readB_nil hcr.pend]
    rcases hcr.data with hd | hd
    · exfalso
      have hlast : rootAt s2 (last.gen % 2) = some last := rootAt_is hcr.pend (by rw [hn]; exact h.good) rfl (by rw [hd _ (by omega)]; exact h.slot)
      have : mountS s2 = some last := by
        have ho : s2.g (1 - last.gen % 2) = s.g (1 - last.gen % 2) := hd _ (by omega)
        rcases h.other with h1 | ⟨r', h1, h2, h3⟩
        · exact later_one (by omega) hlast (rootAt_none hcr.pend (by rw [ho, h1]; exact zeros_none))
        · exact later_other (by omega) hlast (rootAt_is hcr.pend (by rw [hn]; exact h1) (by omega) (by rw [ho]; exact h2)) (by omega)
      rw [this] at hmr
      have := Option.some.inj hmr
      rw [this] at hg
      omega
    · rw [hd _ (by omega)]
      show (if 20 + i = 20 + i then bs i else s.g (20 + i)) = bs i
      rw [if_pos rfl]

end Go.Proofs.Ytlojhdnahioicaa.Rot
