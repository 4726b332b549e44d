/-
  Steps, one behind the other, up to the first that fails: plain mathematics (a commit's), and the walk of root.run.
-/
import Derived.Test.YtlojhdnahioicaaRotMnt
import Derived.Test.YtlojhdnahioicaaRotBox
namespace Go.Proofs.Ytlojhdnahioicaa.Rot
open Go.RowKit RowLaw Crc
set_option maxRecDepth 100000
open Go.Proofs.Ytlojhdnahioicaa.Slt (Rt cells rootO rtB)
open Go.Proofs.Ytlojhdnahioicaa.Dev (Dev DS ptr writeS writeE flushS flushE succS pushS flushed)

/-- where the steps stop: at the first whose answer is not 0 -/
def StopAt (n : Nat) (es : Nat → Int) (m : Nat) (z : Int) : Prop := (m = n ∧ z = 0 ∧ ∀ k, k < n → es k = 0) ∨ (∃ k, k < n ∧ m = k + 1 ∧ z = es k ∧ es k ≠ 0 ∧ ∀ j, j < k → es j = 0)

set_option maxHeartbeats 800000 in
theorem run_any (sb n cap : Nat) (hn : n < 9223372036854775807) (fs : Nat → FuncId) (caps : Nat → Array Value) (es : Nat → Int) (St : Nat → World → Prop) (w : World)
    (hen : ∀ k, k < n → ∀ (W : World), (callFunc (fs k) (caps k)).run Try.prog W = .ok (.enter (fs k) (caps k)) W)
    (hrow : ∀ k W, St k W → ∀ j, j < n → W.cell? ⟨sb, j, none⟩ = some (.func (.func (fs j)) #[] (caps j)))
    (hcall : ∀ k, k < n → (∀ j, j < k → es j = 0) → ∀ W, St k W → Calls Try.prog (fs k) (caps k) W fun e W' => e = .returned (.int .i64 (es k)) ∧ St (k + 1) W')
    (h0 : St 0 w) :
    Calls Try.prog 27 #[.slice (some ⟨sb, 0, none⟩) n cap] w fun e w' => ∃ m z, e = .returned (.int .i64 z) ∧ StopAt n es m z ∧ St m w' := by
  have HE := Lib.hid hen; clear hen
  have HR := Lib.hid hrow; clear hrow
  have HC := Lib.hid hcall; clear hcall
  go_enter Try.func27, Try.ntmps27
  go_wp2
  go_loopw [8] (fun i wr => ∃ k : Nat, k ≤ n ∧ i = .int .i64 k ∧ St k wr ∧ Hid (∀ j, j < k → es j = 0)) (fun i _ => n - (intOf i).toNat)
  case atStart => exact ⟨0, Nat.zero_le _, rfl, h0, show ∀ j, j < 0 → es j = 0 from fun j h => absurd h (by omega)⟩
  case round =>
    obtain ⟨k, hk, rfl, hst, hb⟩ := hrel
    clear h0
    by_cases hkn : k < n
    · have hc1 := HR.out k wr hst k hkn
      have hen := HE.out k hkn
      have hc := HC.out k hkn hb.out wr hst
      obtain ⟨z, hz⟩ : ∃ z, z = es k := ⟨_, rfl⟩
      rw [← hz] at hc
      have HZ := Lib.hid hz; clear hz
      clear hst
      by_cases h0 : z = 0
      · subst h0
        go_wp2_with (with_reducible refine hc.mono ?_; rintro e W2 ⟨rfl, hst3⟩)
        go_roundw
        case rel => exact ⟨k + 1, by omega, by go_num, hst3, show ∀ j, j < k + 1 → es j = 0 from fun j hj => by
          by_cases h : j = k
          · subst h; exact HZ.out.symm
          · exact hb.out j (by omega)⟩
        case measure => simp [intOf]; omega
      · have d0 : (z != 0) = true := by simpa using h0
        have H0 := Lib.hid h0
        clear h0
        go_wp2_with (with_reducible refine hc.mono ?_; rintro e W2 ⟨rfl, hst3⟩)
        go_ret
        exact ⟨k + 1, z, rfl, .inr ⟨k, hkn, rfl, HZ.out, (by rw [← HZ.out]; exact H0.out), hb.out⟩, hst3⟩
    · have hkk : k = n := by omega
      subst hkk
      go_wp2
      go_ret
      exact ⟨k, 0, rfl, .inl ⟨rfl, rfl, hb.out⟩, hst⟩

/-! a commit, step by step -/
/-- writes and a flush, then the root and a flush -/
def replF (s : DS) (l : List (Nat × List UInt8)) (r : Rt) : DS × Int := if (writeF s l).2 = 0 then writeF (writeF s l).1 [(r.gen % 2, rtB r)] else writeF s l
/-- the k-th step -/
def stepF (l : List (Nat × List UInt8)) (r : Rt) (s : DS) (k : Nat) : DS × Int :=
  if k < l.length then (writeS s (l.getD k (0, [])).1 (l.getD k (0, [])).2, writeE s (l.getD k (0, [])).1) else if k = l.length + 1 then (writeS s (r.gen % 2) (rtB r), writeE s (r.gen % 2)) else (flushS s, flushE s)
def stF (s : DS) (l : List (Nat × List UInt8)) (r : Rt) : Nat → DS
  | 0 => s
  | k + 1 => (stepF l r (stF s l r k) k).1
def esF (s : DS) (l : List (Nat × List UInt8)) (r : Rt) (k : Nat) : Int := (stepF l r (stF s l r k) k).2

theorem writeAll_app : ∀ (l m : List (Nat × List UInt8)) (s : DS), writeAll s (l ++ m) = if (writeAll s l).2 = 0 then writeAll (writeAll s l).1 m else writeAll s l
  | [], m, s => by rw [List.nil_append, writeAll, if_pos rfl]
  | x :: l, m, s => by
    rw [List.cons_append, writeAll, writeAll]
    by_cases h : writeE s x.1 = 0
    · rw [if_pos h, if_pos h, writeAll_app l m]
    · rw [if_neg h, if_neg h, if_neg h]
theorem writeAll_one (s : DS) (x : Nat × List UInt8) : writeAll s [x] = (writeS s x.1 x.2, writeE s x.1) := by
  rw [writeAll]
  by_cases h : writeE s x.1 = 0
  · rw [if_pos h, writeAll, h]
  · rw [if_neg h]
theorem getD_get {l : List (Nat × List UInt8)} {k : Nat} (h : k < l.length) : l.getD k (0, []) = l[k] := by rw [List.getD_eq_getElem?_getD, List.getElem?_eq_getElem h]; rfl
section
variable {s : DS} {l : List (Nat × List UInt8)} {r : Rt}
theorem esF_w {k : Nat} (h : k < l.length) : esF s l r k = writeE (stF s l r k) l[k].1 ∧ stF s l r (k + 1) = writeS (stF s l r k) l[k].1 l[k].2 := by
  unfold esF
  rw [stF, stepF, if_pos h, getD_get h]
  exact ⟨rfl, rfl⟩
theorem esF_f : esF s l r l.length = flushE (stF s l r l.length) ∧ stF s l r (l.length + 1) = flushS (stF s l r l.length) := by
  unfold esF
  rw [stF, stepF, if_neg (by omega), if_neg (by omega)]
  exact ⟨rfl, rfl⟩
theorem esF_r : esF s l r (l.length + 1) = writeE (stF s l r (l.length + 1)) (r.gen % 2) ∧ stF s l r (l.length + 2) = writeS (stF s l r (l.length + 1)) (r.gen % 2) (rtB r) :=
  ⟨by unfold esF; rw [stepF, if_neg (by omega), if_pos rfl], by rw [show stF s l r (l.length + 2) = (stepF l r (stF s l r (l.length + 1)) (l.length + 1)).1 from rfl, stepF, if_neg (by omega), if_pos rfl]⟩
theorem esF_g : esF s l r (l.length + 2) = flushE (stF s l r (l.length + 2)) ∧ stF s l r (l.length + 3) = flushS (stF s l r (l.length + 2)) :=
  ⟨by unfold esF; rw [stepF, if_neg (by omega), if_neg (by omega)], by rw [show stF s l r (l.length + 3) = (stepF l r (stF s l r (l.length + 2)) (l.length + 2)).1 from rfl, stepF, if_neg (by omega), if_neg (by omega)]⟩
theorem writeAll_to {k : Nat} (hk : k ≤ l.length) : (∀ j, j < k → esF s l r j = 0) → writeAll s (l.take k) = (stF s l r k, 0) := by
  induction k with
  | zero => intro _; rfl
  | succ k ih =>
    intro h
    have h1 := ih (by omega) (fun j hj => h j (by omega))
    rw [List.take_succ_eq_append_getElem (by omega), writeAll_app, h1, if_pos rfl, writeAll_one, ← (esF_w (s := s) (r := r) (show k < l.length by omega)).1, h k (by omega), (esF_w (s := s) (r := r) (show k < l.length by omega)).2]
theorem writeAll_stop {k : Nat} (hk : k < l.length) (h : ∀ j, j < k → esF s l r j = 0) (hne : esF s l r k ≠ 0) : writeAll s l = (stF s l r (k + 1), esF s l r k) := by
  have h1 := writeAll_to (Nat.le_of_lt hk) h
  have e : l = l.take (k + 1) ++ l.drop (k + 1) := (List.take_append_drop _ _).symm
  have h2 : writeAll s (l.take (k + 1)) = (stF s l r (k + 1), esF s l r k) := by
    rw [List.take_succ_eq_append_getElem hk, writeAll_app, h1, if_pos rfl, writeAll_one, ← (esF_w (s := s) (r := r) hk).1, (esF_w (s := s) (r := r) hk).2]
  conv => lhs; rw [e]
  rw [writeAll_app, h2, if_neg hne]
/-- what the steps come to -/
theorem stop_repl {m : Nat} {z : Int} (h : StopAt (l.length + 3) (esF s l r) m z) : replF s l r = (stF s l r m, z) := by
  rcases h with ⟨rfl, rfl, h⟩ | ⟨k, hk, rfl, rfl, hne, h⟩
  · have h1 := writeAll_to (k := l.length) (Nat.le_refl _) (fun j hj => h j (by omega))
    rw [List.take_length] at h1
    have hf := h l.length (by omega)
    rw [esF_f.1] at hf
    have hF : writeF s l = (stF s l r (l.length + 1), 0) := by unfold writeF; rw [h1, if_pos rfl, hf, esF_f.2]
    have hr := h (l.length + 1) (by omega)
    have hg := h (l.length + 2) (by omega)
    rw [esF_r.1] at hr
    rw [esF_g.1] at hg
    unfold replF
    rw [hF, if_pos rfl]
    unfold writeF
    rw [writeAll_one, if_pos hr, ← esF_r.2, hg, ← esF_g.2]
  · rcases (by omega : k < l.length ∨ k = l.length ∨ k = l.length + 1 ∨ k = l.length + 2) with h1 | rfl | rfl | rfl
    · have h2 := writeAll_stop h1 h hne
      have hF : writeF s l = (stF s l r (k + 1), esF s l r k) := by unfold writeF; rw [h2, if_neg hne]
      unfold replF
      rw [hF, if_neg hne]
    · have h1 := writeAll_to (k := l.length) (Nat.le_refl _) h
      rw [List.take_length] at h1
      have hF : writeF s l = (stF s l r (l.length + 1), esF s l r l.length) := by unfold writeF; rw [h1, if_pos rfl, esF_f.1, esF_f.2]
      unfold replF
      rw [hF, if_neg hne]
    · have h1 := writeAll_to (k := l.length) (Nat.le_refl _) (fun j hj => h j (by omega))
      rw [List.take_length] at h1
      have hf := h l.length (by omega)
      rw [esF_f.1] at hf
      have hF : writeF s l = (stF s l r (l.length + 1), 0) := by unfold writeF; rw [h1, if_pos rfl, hf, esF_f.2]
      unfold replF
      rw [hF, if_pos rfl]
      unfold writeF
      rw [writeAll_one, if_neg (by rw [← esF_r.1]; exact hne), ← esF_r.2, ← esF_r.1]
    · have h1 := writeAll_to (k := l.length) (Nat.le_refl _) (fun j hj => h j (by omega))
      rw [List.take_length] at h1
      have hf := h l.length (by omega)
      rw [esF_f.1] at hf
      have hF : writeF s l = (stF s l r (l.length + 1), 0) := by unfold writeF; rw [h1, if_pos rfl, hf, esF_f.2]
      have hr := h (l.length + 1) (by omega)
      rw [esF_r.1] at hr
      unfold replF
      rw [hF, if_pos rfl]
      unfold writeF
      rw [writeAll_one, if_pos hr, ← esF_r.2, ← esF_g.1, ← esF_g.2]
/-- how many writes are pending -/
theorem writeS_pend (s : DS) (a : Nat) (b : List UInt8) : (writeS s a b).pend.length ≤ s.pend.length + 1 := by
  unfold writeS
  split
  · omega
  · split
    · omega
    · unfold succS pushS
      split <;> simp
theorem flushS_pend (s : DS) : (flushS s).pend.length ≤ s.pend.length := by
  unfold flushS
  split
  · omega
  · split
    · show s.pend.length ≤ s.pend.length
      omega
    · unfold succS flushed
      split <;> simp
theorem stF_pend (k : Nat) : (stF s l r k).pend.length ≤ s.pend.length + k := by
  induction k with
  | zero => exact Nat.le_refl _
  | succ k ih =>
    have := ih
    rw [stF, stepF]
    split
    · have h2 := writeS_pend (stF s l r k) (l.getD k (0, [])).1 (l.getD k (0, [])).2
      show (writeS _ _ _).pend.length ≤ _
      omega
    · split
      · have h2 := writeS_pend (stF s l r k) (r.gen % 2) (rtB r)
        show (writeS _ _ _).pend.length ≤ _
        omega
      · have h2 := flushS_pend (stF s l r k)
        show (flushS _).pend.length ≤ _
        omega
end

end Go.Proofs.Ytlojhdnahioicaa.Rot
