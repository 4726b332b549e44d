/-
  Several devices that a law has made, apart from one another, beside blocks of the law's own.
-/
import Derived.Test.YtlojhdnahioicaaDevApartKit
namespace Go.Proofs.Ytlojhdnahioicaa.Dev
open Go.RowKit RowLaw
set_option maxRecDepth 100000

/-- the devices l, all of them new since w and apart; the blocks K beside them -/
def Many (w : World) (l : List (Nat × DS)) (K : List (Nat × Obj)) (W : World) : Prop :=
  Below w.heap.size w W ∧ ∃ f : Nat → List Nat,
    (∀ i p s, l[i]? = some (p, s) → Dev W p (f i) s ∧ ∀ k ∈ f i, w.heap.size ≤ k) ∧
    (∀ i j, i < l.length → j < l.length → i ≠ j → ∀ k ∈ f i, k ∉ f j) ∧
    (∀ x ∈ K, W.heap[x.1]? = some x.2 ∧ ∀ i, i < l.length → x.1 ∉ f i)

section
variable {w W W' : World} {l : List (Nat × DS)} {K : List (Nat × Obj)}
theorem Many.bel (h : Many w l K W) : Below w.heap.size w W := h.1
theorem Many.at_ (h : Many w l K W) {q : Nat} {o : Obj} (hq : (q, o) ∈ K) : W.heap[q]? = some o := by obtain ⟨_, f, _, _, h4⟩ := h; exact (h4 _ hq).1
theorem Many.less (h : Many w l K W) {K' : List (Nat × Obj)} (hk : ∀ x ∈ K', x ∈ K) : Many w l K' W := by
  obtain ⟨h1, f, h2, h3, h4⟩ := h
  exact ⟨h1, f, h2, h3, fun x hx => h4 x (hk x hx)⟩
theorem Many.below (h : Many w l K W) (hb : Below W.heap.size W W') : Many w l K W' := by
  obtain ⟨h1, f, h2, h3, h4⟩ := h
  exact ⟨h1.trans (hb.mono h1.size), f, fun i p s hi => ⟨(h2 i p s hi).1.below hb, (h2 i p s hi).2⟩, h3, fun x hx => ⟨(hb.block _ (Array.getElem?_eq_some_iff.1 (h4 x hx).1).1).trans (h4 x hx).1, (h4 x hx).2⟩⟩
/-- a new block is told of -/
theorem Many.more (h : Many w l K W) (hb : Below W.heap.size W W') {g : Nat} {o : Obj} (hg : W.heap.size ≤ g) (ho : W'.heap[g]? = some o) : Many w l ((g, o) :: K) W' := by
  have h' := h
  obtain ⟨h1, f, h2, h3, h4⟩ := h
  have hlt : ∀ i, i < l.length → ∀ k ∈ f i, k < W.heap.size := fun i hi k hk => (h2 i l[i].1 l[i].2 (List.getElem?_eq_getElem hi)).1.ltB k hk
  refine ⟨h1.trans (hb.mono h1.size), f, fun i p s hi => ⟨(h2 i p s hi).1.below hb, (h2 i p s hi).2⟩, h3, fun x hx => ?_⟩
  rcases List.mem_cons.1 hx with rfl | hx
  · exact ⟨ho, fun i hi hm => by have := hlt i hi _ hm; omega⟩
  · exact ⟨(hb.block _ (Array.getElem?_eq_some_iff.1 (h4 x hx).1).1).trans (h4 x hx).1, (h4 x hx).2⟩
theorem Many.alloc (h : Many w l K W) (o : Obj) : Many w l ((W.heap.size, o) :: K) (W.alloc o) := h.more ((Below.refl _ _).alloc (Nat.le_refl _) o) (Nat.le_refl _) (heap_alloc_new W o)
theorem Many.of_live {p : Nat} {s : DS} (h : Live w p s [] W) : Many w [(p, s)] [] W := by
  obtain ⟨B, h1, h2, h3, h4⟩ := h
  refine ⟨h3, fun _ => B, fun i p' s' hi => ?_, fun i j hi hj hne => ?_, fun x hx => by cases hx⟩
  · match i, hi with
    | 0, hi => cases hi; exact ⟨h1, h2⟩
  · simp only [List.length_singleton] at hi hj; omega
theorem Many.copy (h : Many w l K W) {i p : Nat} {s : DS} (hi : l[i]? = some (p, s)) (hlen : s.pend.length < 4294967296) :
    Calls Try.prog 13 #[ptr p] W fun e W' => ∃ q, e = .returned (ptr q) ∧ Many w (l ++ [(q, s)]) K W' := by
  obtain ⟨h1, f, h2, h3, h4⟩ := h
  have hlt : ∀ i, i < l.length → ∀ k ∈ f i, k < W.heap.size := fun i hi k hk => (h2 i l[i].1 l[i].2 (List.getElem?_eq_getElem hi)).1.ltB k hk
  refine (Copy_any (h2 i p s hi).1 hlen).mono fun _ W' ⟨q, C, he, hd, hC, hb⟩ => ⟨q, he, h1.trans (hb.mono h1.size), fun j => if j = l.length then C else f j, ?_, ?_, ?_⟩
  · intro j p' s' hj
    dsimp only
    by_cases e : j = l.length
    · subst e
      rw [List.getElem?_append_right (Nat.le_refl _), Nat.sub_self] at hj
      cases hj
      rw [if_pos rfl]
      exact ⟨hd, fun k hk => Nat.le_trans h1.size (hC k hk)⟩
    · have hjl : j < l.length := by
        have := (List.getElem?_eq_some_iff.1 hj).1
        rw [List.length_append, List.length_singleton] at this
        omega
      rw [List.getElem?_append_left hjl] at hj
      rw [if_neg e]
      exact ⟨(h2 j p' s' hj).1.below hb, (h2 j p' s' hj).2⟩
  · intro a b ha hb2 hne k hk
    dsimp only at hk ⊢
    rw [List.length_append, List.length_singleton] at ha hb2
    by_cases e1 : a = l.length
    · rw [if_pos e1] at hk
      rw [if_neg (by omega)]
      exact fun hm => by have := hlt b (by omega) k hm; have := hC k hk; omega
    · rw [if_neg e1] at hk
      by_cases e2 : b = l.length
      · rw [if_pos e2]
        exact fun hm => by have := hlt a (by omega) k hk; have := hC k hm; omega
      · rw [if_neg e2]
        exact h3 a b (by omega) (by omega) hne k hk
  · intro x hx
    have hx1 := (Array.getElem?_eq_some_iff.1 (h4 x hx).1).1
    refine ⟨(hb.block _ hx1).trans (h4 x hx).1, fun j hj => ?_⟩
    dsimp only
    by_cases e : j = l.length
    · rw [if_pos e]; exact fun hm => by have := hC _ hm; omega
    · rw [if_neg e]
      rw [List.length_append, List.length_singleton] at hj
      exact (h4 x hx).2 j (by omega)
/-- one of them takes a step -/
theorem Many.step {i p : Nat} {s s' : DS} (hi : l[i]? = some (p, s)) {f : Nat → List Nat} {C : List Nat} (h1 : Below w.heap.size w W)
    (h2 : ∀ i p s, l[i]? = some (p, s) → Dev W p (f i) s ∧ ∀ k ∈ f i, w.heap.size ≤ k) (h3 : ∀ i j, i < l.length → j < l.length → i ≠ j → ∀ k ∈ f i, k ∉ f j)
    (h4 : ∀ x ∈ K, W.heap[x.1]? = some x.2 ∧ ∀ i, i < l.length → x.1 ∉ f i) (hd : Dev W' p C s') (hs : Step (f i) W W' C) : Many w (l.set i (p, s')) K W' := by
  have hil := (List.getElem?_eq_some_iff.1 hi).1
  have hlt : ∀ j, j < l.length → ∀ k ∈ f j, k < W.heap.size := fun j hj k hk => (h2 j l[j].1 l[j].2 (List.getElem?_eq_getElem hj)).1.ltB k hk
  refine ⟨h1.trans (hs.below (h2 i p s hi).2 h1.size), fun j => if j = i then C else f j, ?_, ?_, ?_⟩
  · intro j p' t hj
    dsimp only
    by_cases e : j = i
    · subst e
      rw [List.getElem?_set_self hil] at hj
      cases hj
      rw [if_pos rfl]
      exact ⟨hd, hs.above (h2 j p s hi).2 h1.size⟩
    · rw [List.getElem?_set_ne (fun e2 => e e2.symm)] at hj
      rw [if_neg e]
      exact ⟨(h2 j p' t hj).1.turn hs.turn (fun k hk => h3 j i (List.getElem?_eq_some_iff.1 hj).1 hil e k hk), (h2 j p' t hj).2⟩
  · intro a b ha hb hne k hk
    rw [List.length_set] at ha hb
    dsimp only at hk ⊢
    by_cases e1 : a = i
    · rw [if_pos e1] at hk
      rw [if_neg (fun e => hne (e1.trans e.symm))]
      intro hm
      rcases hs.sub k hk with h | h
      · exact h3 i b hil hb (fun e => hne (e1.trans e)) k h hm
      · have := hlt b hb k hm; omega
    · rw [if_neg e1] at hk
      by_cases e2 : b = i
      · rw [if_pos e2]
        intro hm
        rcases hs.sub k hm with h | h
        · exact h3 a i ha hil e1 k hk h
        · have := hlt a ha k hk; omega
      · rw [if_neg e2]; exact h3 a b ha hb hne k hk
  · intro x hx
    have hx1 := (Array.getElem?_eq_some_iff.1 (h4 x hx).1).1
    refine ⟨(hs.turn.block _ hx1 ((h4 x hx).2 i hil)).trans (h4 x hx).1, fun j hj => ?_⟩
    rw [List.length_set] at hj
    dsimp only
    by_cases e : j = i
    · rw [if_pos e]; exact hs.notIn hx1 ((h4 x hx).2 i hil)
    · rw [if_neg e]; exact (h4 x hx).2 j hj
theorem Many.crash (h : Many w l K W) {i p : Nat} {s : DS} (hi : l[i]? = some (p, s)) {pa : Option Addr} {n cap : Nat} {xs : List (Nat × Nat)} (hn : n = xs.length) (hxl : xs.length ≤ 9223372036854775807) (hx : Keeps W pa xs) (hm : xs ≠ [] → Mine w K pa) :
    Calls Try.prog 15 #[ptr p, .slice pa n cap] W fun e W' => e = .returned (.int .i64 0) ∧ Many w (l.set i (p, crashS s xs)) K W' := by
  subst hn
  obtain ⟨h1, f, h2, h3, h4⟩ := h
  have hil := (List.getElem?_eq_some_iff.1 hi).1
  have ho : xs ≠ [] → Off pa (f i) := fun hne a ha hm2 => by
    rcases hm hne a ha with h5 | ⟨o, h5⟩
    · have := (h2 i p s hi).2 _ hm2; omega
    · exact (h4 _ h5).2 i hil hm2
  exact (Crash_any (h2 i p s hi).1 hxl hx ho).mono fun _ _ ⟨he, hd, ht⟩ => ⟨he, Many.step hi h1 h2 h3 h4 hd (Step.of_turn ht)⟩
theorem Many.flush (h : Many w l K W) {i p : Nat} {s : DS} (hi : l[i]? = some (p, s)) (hlen : s.pend.length < 4294967296) :
    Calls Try.prog 20 #[ptr p] W fun e W' => e = .returned (.int .i64 (flushE s)) ∧ Many w (l.set i (p, flushS s)) K W' := by
  obtain ⟨h1, f, h2, h3, h4⟩ := h
  exact (Flush_any (h2 i p s hi).1 hlen).mono fun _ _ ⟨he, C, hd, hs⟩ => ⟨he, Many.step hi h1 h2 h3 h4 hd hs⟩
theorem Many.pending (h : Many w l K W) {i p : Nat} {s : DS} (hi : l[i]? = some (p, s)) :
    Calls Try.prog 18 #[ptr p] W fun e W' => e = .returned (.int .i64 (s.pend.length : Int)) ∧ W' = W := by
  obtain ⟨h1, f, h2, _⟩ := h
  exact Pending_any (h2 i p s hi).1
theorem Many.read (h : Many w l K W) {i p : Nat} {s : DS} (hi : l[i]? = some (p, s)) {a : Nat} (ha : a < 64) (hn : s.n = 64) (hlen : s.pend.length < 4294967296) {r : List UInt8} (hr : applyP s.g s.pend a = r) :
    Calls Try.prog 17 #[ptr p, .int .u32 (a : Int)] W fun e W' => e = .returned (.tuple #[.agg (cellsOf r), .int .i64 0]) ∧ Many w l K W' := by
  have h' := h
  obtain ⟨h1, f, h2, _⟩ := h
  have hn' : ¬ s.n ≤ a := by rw [hn]; omega
  refine (Read_any (h2 i p s hi).1 (by omega) hlen).mono fun _ _ ⟨he, hb⟩ => ⟨?_, h'.below hb⟩
  rw [he, readR, if_neg hn', readE, if_neg hn', readB, hr]
theorem Many.okG (h : Many w l K W) {i p : Nat} {s : DS} (hi : l[i]? = some (p, s)) : (∀ a, (s.g a).length = 256) ∧ ∀ x ∈ s.pend, x.2.length = 256 := by
  obtain ⟨_, f, h2, _⟩ := h
  obtain ⟨bm, pv, hd⟩ := (h2 i p s hi).1
  exact ⟨hd.okG, hd.okP⟩
end

end Go.Proofs.Ytlojhdnahioicaa.Dev
