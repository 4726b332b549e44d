/-
  The keys of a map of pointers by numbers, in increasing order.
-/
import Derived.Test.YtdadcengelfmhaaGreatCntSort1
namespace Go.Proofs.YtdadcengelfmhaaGreat.Cnt
open Go.RowKit Go.Shelf RowLaw
open Go.Proofs.YtdadcengelfmhaaGreat.Dev (Turn)
set_option maxRecDepth 100000

theorem keys_any (mb : Nat) (W : World) : Calls Tryz.prog 61 #[.map (some mb)] W fun e w' => e = .returned (keysF W.heap.size) ∧ w' = W.alloc (.cells #[.map (some mb)] 55) :=
  (callsIn_wide (n := 1)).1 (Keys_in 1 mb W)
set_option maxHeartbeats 1600000 in
theorem Sorted_any {N : Nat} (hS : SortOk N) {w : World} {b q : Nat} {f : Nat → Option Nat} (hm : PMap w b f) (hq : w.cell? ⟨q, 0, none⟩ = some (.map (some b))) (hql : q < w.heap.size) (hN : ∀ ss : List Nat, ss.Nodup → (∀ a, a ∈ ss ↔ (f a).isSome = true) → ss.length ≤ N) :
    Calls Tryz.prog 60 #[keysF q] w fun e w' => ∃ (v : Value) (ks : List Nat), e = .returned v ∧ ks.Pairwise (· < ·) ∧ (∀ a, a ∈ ks ↔ (f a).isSome = true) ∧ w'.ownsRow w.heap.size 22 1 v ks.length (ks.map encN) ∧ Below w.heap.size w w' := by
  have hC : Calls Tryz.prog 88 #[keysF q] w fun e w' => ∃ (v : Value) (ss : List Nat), e = .returned v ∧ (ss.Nodup ∧ ∀ a, a ∈ ss ↔ (f a).isSome = true) ∧ w'.ownsRow w.heap.size 22 1 v ss.length (ss.map encN) ∧ (v = .slice none 0 0 ↔ ss = []) ∧ Below w.heap.size w w' :=
    (callsIn_wide (n := 4)).1 (Collect_in 4 (by omega) (keys_stops 2 (by omega) hm hq hql))
  have HC := Lib.hid hC
  have hlt : ∀ a, (f a).isSome = true → a < 4294967296 := fun a ha => by
    obtain ⟨x, hx⟩ := Option.isSome_iff_exists.1 ha
    exact hm.key_lt hx
  clear hC hm hq hql
  go_enter Tryz.func60, Tryz.ntmps60
  go_wp2_with fail
  refine HC.out.mono ?_
  clear HC
  rintro e W1 ⟨v, ss, rfl, ⟨hnd, hmem⟩, hrow, _, hb⟩
  have hSo := hS w.heap.size v ss W1 hrow (hN ss hnd hmem) (fun x hx => hlt x ((hmem x).1 hx))
  have HSO := Lib.hid hSo
  have hge : ∀ k ∈ v.ownBlock.toList, w.heap.size ≤ k := fun k hk => (hrow.lt k (by simpa using hk)).1
  clear hSo hS hN
  go_wp2_with fail
  refine HSO.out.mono ?_
  clear HSO
  rintro e W2 ⟨rfl, ks, hp, hpw, hrow2, ht⟩
  go_wp2_with fail
  go_ret
  refine ⟨v, ks, rfl, ?_, fun a => by rw [hp.mem_iff, hmem], hrow2, hb.trans (ht.below hge hb.size)⟩
  exact (hpw.and (hp.nodup_iff.2 hnd)).imp fun {a b} h => by
    obtain ⟨h1, h2⟩ := h
    exact Nat.lt_of_le_of_ne h1 h2
end Go.Proofs.YtdadcengelfmhaaGreat.Cnt
