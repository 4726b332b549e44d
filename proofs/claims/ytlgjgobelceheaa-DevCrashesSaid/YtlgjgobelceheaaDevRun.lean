/-
  (*Dev).run, whatever its steps: by what each of them does.
-/
import Derived.Test.YtlgjgobelceheaaDevSmall
namespace Go.Proofs.Ytlgjgobelceheaa.Dev
open Go.RowKit RowLaw

theorem infoStep : (Try.prog.info? 76).map (fun i => (i.zero, i.size)) = some (some (.agg #[.nilFunc, .int .i64 0]), 2) := by kernel_rfl

/-- where the steps stop: at the first that answers false -/
def RunEnd (n : Nat) (bs : Nat → Bool) (es : Nat → Int) (m : Nat) (e : Int) : Prop := (m = n ∧ e = 0 ∧ ∀ k, k < n → bs k = true) ∨ (∃ k, k < n ∧ m = k + 1 ∧ e = es k ∧ bs k = false ∧ ∀ j, j < k → bs j = true)

set_option maxHeartbeats 800000 in
theorem run_any (d : Value) (sb n : Nat) (hn : n < 1000) (fs : Nat → FuncId) (caps : Nat → Array Value) (es : Nat → Int) (bs : Nat → Bool) (St : Nat → World → Prop) (w : World)
    (hen : ∀ k, k < n → ∀ (args : Array Value) (W : World), (callFunc (fs k) args).run Try.prog W = .ok (.enter (fs k) args) W)
    (hrow : ∀ k W, St k W → ∀ j, j < n → W.cell? ⟨sb, j * 2, none⟩ = some (.func (.func (fs j)) #[] (caps j)) ∧ W.cell? ⟨sb, j * 2 + 1, none⟩ = some (.int .i64 (es j)))
    (hcall : ∀ k, k < n → (∀ j, j < k → bs j = true) → ∀ W o, St k W → Calls Try.prog (fs k) (#[d] ++ caps k) (W.alloc o) fun e W' => e = .returned (.bool (bs k)) ∧ St (k + 1) W' ∧ W'.heap[W.heap.size]? = some o)
    (h0 : St 0 w) :
    Calls Try.prog 30 #[d, .slice (some ⟨sb, 0, none⟩) n n] w fun e w' => ∃ m z, e = .returned (.int .i64 z) ∧ RunEnd n bs es m z ∧ St m w' := by
  have HE := Lib.hid hen; clear hen
  have HR := Lib.hid hrow; clear hrow
  have HC := Lib.hid hcall; clear hcall
  go_enter Try.func30, Try.ntmps30
  go_wp2
  go_loopw [9] (fun i wr => ∃ k : Nat, k ≤ n ∧ i = .int .i64 k ∧ St k wr ∧ Hid (∀ j, j < k → bs j = true)) (fun i _ => n - (intOf i).toNat)
  case atStart => exact ⟨0, Nat.zero_le _, rfl, h0, show ∀ j, j < 0 → bs j = true from fun j h => absurd h (by omega)⟩
  case round =>
    obtain ⟨k, hk, rfl, hst, hb⟩ := hrel
    clear h0
    by_cases hkn : k < n
    · obtain ⟨hc1, hc2⟩ := HR.out k wr hst k hkn
      have hen := HE.out k hkn
      have tok : True := trivial
      have hc := HC.out k hkn hb.out wr (.cells #[.func (.func (fs k)) #[] (caps k), .int .i64 (es k)] 76) hst
      obtain ⟨b, hbk⟩ : ∃ b, b = bs k := ⟨_, rfl⟩
      rw [← hbk] at hc
      have HB := Lib.hid hbk; clear hbk
      clear hst
      cases b
      · go_wp2_with (first | (have _t := tok; refine wpList_store_new rfl 76 _ _ rfl #[.func (.func (fs k)) #[] (caps k), .int .i64 (es k)] _ _ rfl rfl (zero_of_info infoStep).2 rfl (by simp [Value.oneCell']) ?_; clear _t tok) | ((with_reducible refine hc.mono ?_); rintro e W2 ⟨rfl, hst3, hx⟩; have c2 : W2.cell? ⟨wr.heap.size, 1, none⟩ = some (.int .i64 (es k)) := cell_of_row W2 wr.heap.size 1 _ _ _ hx))
        go_ret
        exact ⟨k + 1, es k, rfl, .inr ⟨k, hkn, rfl, rfl, HB.out.symm, hb.out⟩, hst3⟩
      · go_wp2_with (first | (have _t := tok; refine wpList_store_new rfl 76 _ _ rfl #[.func (.func (fs k)) #[] (caps k), .int .i64 (es k)] _ _ rfl rfl (zero_of_info infoStep).2 rfl (by simp [Value.oneCell']) ?_; clear _t tok) | ((with_reducible refine hc.mono ?_); rintro e W2 ⟨rfl, hst3, hx⟩))
        go_roundw
        case rel => exact ⟨k + 1, by omega, by go_num, hst3, show ∀ j, j < k + 1 → bs j = true from fun j hj => by
          by_cases h : j = k
          · subst h; exact HB.out.symm
          · exact hb.out j (by omega)⟩
        case measure => simp [intOf]; omega
    · have hkk : k = n := by omega
      subst hkk
      go_wp2
      go_ret
      exact ⟨k, 0, rfl, .inl ⟨rfl, rfl, hb.out⟩, hst⟩

end Go.Proofs.Ytlgjgobelceheaa.Dev
