/-
  The functions of package root on a device among several that a law has made.
-/
import Derived.Test.YtlojhdnahioicaaRotFmt
namespace Go.Proofs.Ytlojhdnahioicaa.Dev
open Go.RowKit RowLaw
set_option maxRecDepth 100000
section
variable {w W W' : World} {l : List (Nat × DS)} {K : List (Nat × Obj)} {i p : Nat} {s s' : DS}
theorem Many.lt_ (h : Many w l K W) {q : Nat} {o : Obj} (hq : (q, o) ∈ K) : q < W.heap.size := (Array.getElem?_eq_some_iff.1 (h.at_ hq)).1
theorem Many.notin (h : Many w l K W) : ∀ x ∈ K, x.1 ≠ W.heap.size := fun x hx e => by have := h.lt_ (q := x.1) (o := x.2) hx; omega
theorem Many.drewM (h : Many w l K W) : Many w l K W.drew := h.below ⟨rfl, rfl, rfl, Nat.le_refl _, fun _ _ => rfl⟩
/-- a store into one of the blocks -/
theorem Many.put {q : Nat} {o o' : Obj} (h : Many w l ((q, o) :: K) W) (hw : w.heap.size ≤ q) (hne : ∀ x ∈ K, x.1 ≠ q) (hq : W'.heap[q]? = some o') (hs : W'.os = W.os) (ht : W'.tape = W.tape) (hp : W'.output = W.output) (hz : W.heap.size ≤ W'.heap.size)
    (hb : ∀ k, k ≠ q → W'.heap[k]? = W.heap[k]?) : Many w l ((q, o') :: K) W' := by
  obtain ⟨h1, f, h2, h3, h4⟩ := h
  have h0 := h4 _ List.mem_cons_self
  have htn : Turn [q] W W' := ⟨hs, ht, hp, hz, fun k _ hk => hb k (by simpa using hk)⟩
  refine ⟨⟨hs.trans h1.os, ht.trans h1.tape, hp.trans h1.output, Nat.le_trans h1.size hz, fun k hk => (hb k (by omega)).trans (h1.block k hk)⟩, f, fun j p s hj => ⟨(h2 j p s hj).1.turn htn (fun k hk hm => ?_), (h2 j p s hj).2⟩, h3, fun x hx => ?_⟩
  · simp only [List.mem_singleton] at hm
    exact h0.2 j (List.getElem?_eq_some_iff.1 hj).1 (hm ▸ hk)
  · rcases List.mem_cons.1 hx with rfl | hx
    · exact ⟨hq, h0.2⟩
    · have h5 := h4 x (List.mem_cons_of_mem _ hx)
      exact ⟨(hb _ (hne x hx)).trans h5.1, h5.2⟩
theorem Many.setCell {q j : Nat} {cs : Array Value} {T : TypeId} {v : Value} (h : Many w l ((q, .cells cs T (0, 0)) :: K) W) (hw : w.heap.size ≤ q) (hne : ∀ x ∈ K, x.1 ≠ q) : Many w l ((q, .cells (cs.setIfInBounds j v) T (0, 0)) :: K) (W.setCell ⟨q, j, none⟩ v) :=
  h.put hw hne (heap_setCell_same W q j _ _ _ (h.at_ List.mem_cons_self)) rfl rfl rfl (by simp [World.setCell]) (fun k hk => heap_setCell_other W ⟨q, j, none⟩ k v hk)
theorem Many.setRow {q : Nat} {cs cs' : Array Value} {T : TypeId} (h : Many w l ((q, .cells cs T (0, 0)) :: K) W) (hw : w.heap.size ≤ q) (hne : ∀ x ∈ K, x.1 ≠ q) : Many w l ((q, .cells cs' T (0, 0)) :: K) (W.setRow q cs') :=
  h.put hw hne (setRow_heap W q _ _ _ _ (h.at_ List.mem_cons_self)) rfl rfl rfl (by simp) (fun k hk => setRow_other W q k _ hk)
theorem Many.swap {x y : Nat × Obj} (h : Many w l (x :: y :: K) W) : Many w l (y :: x :: K) W := h.less fun z hz => by
  simp only [List.mem_cons] at hz ⊢
  rcases hz with h | h | h
  · exact .inr (.inl h)
  · exact .inl h
  · exact .inr (.inr h)
/-- two new blocks are told of -/
theorem Many.two (h : Many w l K W) (hb : Below W.heap.size W W') {a b : Nat} {o o' : Obj} (ha : W.heap.size ≤ a) (hb2 : W.heap.size ≤ b) (ka : W'.heap[a]? = some o) (kb : W'.heap[b]? = some o') : Many w l ((a, o) :: (b, o') :: K) W' := by
  obtain ⟨i1, f, i2, i3, i4⟩ := h
  have hlt : ∀ i, i < l.length → ∀ k ∈ f i, k < W.heap.size := fun i hi k hk => (i2 i l[i].1 l[i].2 (List.getElem?_eq_getElem hi)).1.ltB k hk
  refine ⟨i1.trans (hb.mono i1.size), f, fun i p s hi => ⟨(i2 i p s hi).1.below hb, (i2 i p s hi).2⟩, i3, fun x hx => ?_⟩
  rcases List.mem_cons.1 hx with rfl | hx
  · exact ⟨ka, fun i hi hm => by have := hlt i hi _ hm; omega⟩
  · rcases List.mem_cons.1 hx with rfl | hx
    · exact ⟨kb, fun i hi hm => by have := hlt i hi _ hm; omega⟩
    · exact ⟨(hb.block _ (Array.getElem?_eq_some_iff.1 (i4 x hx).1).1).trans (i4 x hx).1, (i4 x hx).2⟩
/-- a device that is new, beside blocks that are there -/
theorem Many.of_live_more (h : Live w p s K W) : Many w [(p, s)] K W := by
  obtain ⟨B, h1, h2, h3, h4⟩ := h
  refine ⟨h3, fun _ => B, fun i p' s' hi => ?_, fun i j hi hj hne => ?_, fun x hx => ⟨(h4 x hx).1, fun _ _ => (h4 x hx).2.1⟩⟩
  · match i, hi with
    | 0, hi => cases hi; exact ⟨h1, h2⟩
  · simp only [List.length_singleton] at hi hj; omega
/-- a call that only makes memory -/
theorem Many.quiet {f : FuncId} {args : Array Value} {R : Ending → Prop} (h : Many w l K W) (hi : l[i]? = some (p, s)) (hc : ∀ C, Dev W p C s → Calls Try.prog f args W fun e W' => R e ∧ Below W.heap.size W W') :
    Calls Try.prog f args W fun e W' => R e ∧ Many w l K W' := by
  have h' := h
  obtain ⟨_, g, h2, _⟩ := h
  exact (hc (g i) (h2 i p s hi).1).mono fun _ _ ⟨he, hb⟩ => ⟨he, h'.below hb⟩
theorem Many.readB_ (h : Many w l K W) (hi : l[i]? = some (p, s)) {a : Nat} (ha : a < s.n) (hlen : s.pend.length < 4294967296) :
    Calls Try.prog 17 #[ptr p, .int .u32 (a : Int)] W fun e W' => e = .returned (.tuple #[.agg (cellsOf (readB s a)), .int .i64 0]) ∧ Many w l K W' :=
  h.quiet hi fun C hd => by
    have hn : s.n < 4294967296 := by obtain ⟨_, _, h⟩ := hd; exact h.okN.2
    have := Read_any hd (a := a) (by omega) hlen
    rw [readR, if_neg (by omega), readE, if_neg (by omega)] at this
    exact this
theorem Many.write (h : Many w l K W) (hi : l[i]? = some (p, s)) {a : Nat} (ha : a < 4294967296) {b : List UInt8} (hl : b.length = 256) (hlen : s.pend.length < 4294967295) :
    Calls Try.prog 19 #[ptr p, .int .u32 (a : Int), .agg (cellsOf b)] W fun e W' => e = .returned (.int .i64 (writeE s a)) ∧ Many w (l.set i (p, writeS s a b)) K W' :=
  h.act hi fun _ hd _ _ => (Write_any hd ha hl hlen).mono fun _ _ ⟨he, D, h1, h2⟩ => ⟨he, D, h1, h2⟩
theorem Many.fuse (h : Many w l K W) (hi : l[i]? = some (p, s)) {z : Int} (hz : z < 9223372036854775808) :
    Calls Try.prog 14 #[ptr p, .int .i64 z] W fun e W' => e = .returned (.int .i64 (fuseE s z)) ∧ Many w (l.set i (p, fuseS s z)) K W' :=
  h.act hi fun _ hd _ _ => (Fuse_any hd hz).mono fun _ _ ⟨he, D, h1, h2⟩ => ⟨he, D, h1, h2⟩
end
end Go.Proofs.Ytlojhdnahioicaa.Dev
namespace Go.Proofs.Ytlojhdnahioicaa.Rot
open Go.RowKit RowLaw Crc
set_option maxRecDepth 100000
open Go.Proofs.Ytlojhdnahioicaa.Slt (Rt cells rootO)
open Go.Proofs.Ytlojhdnahioicaa.Dev (Dev DS ptr Many putCells)
section
variable {w W : World} {l : List (Nat × DS)} {K : List (Nat × Obj)} {i p : Nat} {s s' : DS}
theorem Many.mount (h : Many w l K W) (hi : l[i]? = some (p, s)) (hpl : planOk s.n = true) (hlen : s.pend.length < 4294967296) {m : Option Rt} (hm : mountS s = m) :
    Calls Try.prog 16 #[ptr p] W fun e W' => e = .returned (.tuple #[.agg (cells (m.getD Slt.nil)), .int .i64 (if m = none then 80 else 0)]) ∧ Many w l K W' := by
  subst hm
  exact h.quiet hi fun C hd => Mount_any hd hpl hlen
theorem Many.format (h : Many w l K W) (hi : l[i]? = some (p, s)) (hpl : planOk s.n = true) (hlen : s.pend.length < 4293000000) {s' : DS} {r : Rt} {z : Int} (hf : formatF s = (s', (r, z))) :
    Calls Try.prog 11 #[ptr p] W fun e W' => e = .returned (.tuple #[.agg (cells r), .int .i64 z]) ∧ Many w (l.set i (p, s')) K W' :=
  h.act hi fun C hd _ _ => by
    have := Format_any hd hpl hlen
    rw [hf] at this
    exact this
/-- where a commit's rows may lie -/
def Here (w : World) (K : List (Nat × Obj)) (pa : Option Addr) (xs : List (Nat × List UInt8)) : Prop := xs ≠ [] → ∀ a, pa = some a → a.block < w.heap.size ∨ ∃ o, (a.block, o) ∈ K
theorem Many.commit (h : Many w l K W) (hi : l[i]? = some (p, s)) (hpl : planOk s.n = true) {pa : Option Addr} {n c : Nat} {xs : List (Nat × List UInt8)} {r : Rt} (hn : n = xs.length) (hpu : Puts W pa xs) (hh : Here w K pa xs) (hf : r.Fits) (hlen : s.pend.length + xs.length < 4294967290) {s' : DS} {z : Int} (hc : commitF s xs r = (s', z)) :
    Calls Try.prog 12 #[ptr p, .slice pa n c, .agg (cells r)] W fun e W' => e = .returned (.int .i64 z) ∧ Many w (l.set i (p, s')) K W' := by
  subst hn
  exact h.act hi fun C hd hK hw => by
    have hap : Apart pa xs C := fun hne a ha hm => by
      rcases hh hne a ha with h1 | ⟨o, h1⟩
      · have := hw _ hm; omega
      · exact hK _ h1 hm
    have := Commit_any (c := c) hd hpl hpu hap hf hlen
    rw [hc] at this
    exact this
end

/-! the head's device -/
def two0 : Rt := { fresh 64 with gen := 2 }
def none0 : Rt := { fresh 64 with gen := 0 }
def seven0 : List UInt8 := zeros.set 0 7
theorem seven0_length : seven0.length = 256 := by unfold seven0; rw [List.length_set]; exact zeros_length
theorem mount_new : mountS (Dev.newS 64) = none := by
  unfold mountS
  rw [rootAt_none rfl (show Slt.getE _ = 250 from zeros_none), rootAt_none rfl (show Slt.getE _ = 250 from zeros_none)]
  rfl
theorem mount_s64 (k : Nat) : mountS (s64 k) = some (fresh 64) := by
  have h1 : rootAt (s64 k) 1 = some (fresh 64) := rootAt_is rfl fresh64 rfl (slot64 k)
  have h0 : rootAt (s64 k) 0 = none := rootAt_none rfl (by
    show Slt.getE (Dev.upd (fun _ => zeros) 1 (Slt.rtB (fresh 64)) 0) = 250
    unfold Dev.upd
    rw [if_neg (by omega)]
    exact zeros_none)
  unfold mountS
  rw [h0, h1]
  rfl
end Go.Proofs.Ytlojhdnahioicaa.Rot
