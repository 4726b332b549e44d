/-
  A device that a law has made, beside blocks of the law's own that stay: the methods' contracts once more, on the two together.
-/
import Derived.Test.YtlgjgobelceheaaDevFull
namespace Go.Proofs.Ytlgjgobelceheaa.Dev
open Go.RowKit RowLaw

/-- a device p in the state s, all of it new since w; the blocks K beside it; below it all is as it was in w -/
def Live (w : World) (p : Nat) (s : DS) (K : List (Nat × Obj)) (W : World) : Prop :=
  ∃ B, Dev W p B s ∧ (∀ k ∈ B, w.heap.size ≤ k) ∧ Below w.heap.size w W ∧ ∀ x ∈ K, W.heap[x.1]? = some x.2 ∧ x.1 ∉ B ∧ x.1 < W.heap.size

section
variable {w W : World} {p : Nat} {s : DS} {K : List (Nat × Obj)}
theorem Live.bel (h : Live w p s K W) : Below w.heap.size w W := by obtain ⟨_, _, _, h, _⟩ := h; exact h
theorem Live.at_ (h : Live w p s K W) {q : Nat} {o : Obj} (hq : (q, o) ∈ K) : W.heap[q]? = some o := by obtain ⟨_, _, _, _, h⟩ := h; exact (h _ hq).1
theorem Live.lt_ (h : Live w p s K W) {q : Nat} {o : Obj} (hq : (q, o) ∈ K) : q < W.heap.size := by obtain ⟨_, _, _, _, h⟩ := h; exact (h _ hq).2.2
theorem Live.less (h : Live w p s K W) {K' : List (Nat × Obj)} (hk : ∀ x ∈ K', x ∈ K) : Live w p s K' W := by
  obtain ⟨B, h1, h2, h3, h4⟩ := h
  exact ⟨B, h1, h2, h3, fun x hx => h4 x (hk x hx)⟩
theorem Live.below {W' : World} (h : Live w p s K W) (hb : Below W.heap.size W W') : Live w p s K W' := by
  obtain ⟨B, h1, h2, h3, h4⟩ := h
  exact ⟨B, h1.below hb, h2, h3.trans (hb.mono h3.size), fun x hx => ⟨(hb.block _ (h4 x hx).2.2).trans (h4 x hx).1, (h4 x hx).2.1, Nat.lt_of_lt_of_le (h4 x hx).2.2 hb.size⟩⟩
theorem Live.alloc (h : Live w p s K W) (o : Obj) : Live w p s ((W.heap.size, o) :: K) (W.alloc o) := by
  have hb : Below W.heap.size W (W.alloc o) := (Below.refl _ _).alloc (Nat.le_refl _) o
  obtain ⟨B, h1, h2, h3, h4⟩ := h
  refine ⟨B, h1.below hb, h2, h3.trans (hb.mono h3.size), fun x hx => ?_⟩
  rcases List.mem_cons.1 hx with rfl | hx
  · exact ⟨heap_alloc_new W o, fun hm => by have := h1.ltB _ hm; omega, by simp⟩
  · exact ⟨(hb.block _ (h4 x hx).2.2).trans (h4 x hx).1, (h4 x hx).2.1, Nat.lt_of_lt_of_le (h4 x hx).2.2 hb.size⟩
theorem Live.drew (h : Live w p s K W) : Live w p s K W.drew := h.below ⟨rfl, rfl, rfl, Nat.le_refl _, fun _ _ => rfl⟩
theorem Live.step {W' : World} {s' : DS} {B C : List Nat} (h2 : ∀ k ∈ B, w.heap.size ≤ k) (h3 : Below w.heap.size w W) (h4 : ∀ x ∈ K, W.heap[x.1]? = some x.2 ∧ x.1 ∉ B ∧ x.1 < W.heap.size) (hd : Dev W' p C s') (hs : Step B W W' C) : Live w p s' K W' :=
  ⟨C, hd, hs.above h2 h3.size, h3.trans (hs.below h2 h3.size), fun x hx => ⟨(hs.turn.block _ (h4 x hx).2.2 (h4 x hx).2.1).trans (h4 x hx).1, hs.notIn (h4 x hx).2.2 (h4 x hx).2.1, Nat.lt_of_lt_of_le (h4 x hx).2.2 hs.turn.size⟩⟩
/-- where a crash's row may lie -/
def Mine (w : World) (K : List (Nat × Obj)) (pa : Option Addr) : Prop := ∀ a, pa = some a → a.block < w.heap.size ∨ ∃ o, (a.block, o) ∈ K

theorem New_live (w : World) (n : Nat) (h1 : 64 ≤ n) (h2 : n ≤ 1048576) : Calls Try.prog 9 #[.int .u32 (n : Int)] w fun e w' => ∃ p, e = .returned (.tuple #[ptr p, .int .i64 0]) ∧ Live w p (newS n) [] w' :=
  (New_any w n h1 h2).mono fun _ _ ⟨p, B, he, hd, hB, hb⟩ => ⟨p, he, B, hd, hB, hb, fun x hx => by cases hx⟩
/-- .. beside blocks that are there -/
theorem New_more {w0 : World} {Ks : List (Nat × Obj)} (w : World) (h0 : Below w0.heap.size w0 w) (hK : ∀ x ∈ Ks, w.heap[x.1]? = some x.2 ∧ x.1 < w.heap.size) (n : Nat) (h1 : 64 ≤ n) (h2 : n ≤ 1048576) :
    Calls Try.prog 9 #[.int .u32 (n : Int)] w fun e w' => ∃ p, e = .returned (.tuple #[ptr p, .int .i64 0]) ∧ Live w0 p (newS n) Ks w' :=
  (New_any w n h1 h2).mono fun _ _ ⟨p, B, he, hd, hB, hb⟩ => ⟨p, he, B, hd, (fun k hk => Nat.le_trans h0.size (hB k hk)), h0.trans (hb.mono h0.size), fun x hx =>
    ⟨(hb.block _ (hK x hx).2).trans (hK x hx).1, fun hm => by have := hB _ hm; have := (hK x hx).2; omega, Nat.lt_of_lt_of_le (hK x hx).2 hb.size⟩⟩
theorem Write_live (h : Live w p s K W) {a : Nat} (ha : a < 4294967296) {l : List UInt8} (hl : l.length = 256) (hlen : s.pend.length < 4294967295) :
    Calls Try.prog 17 #[ptr p, .int .u32 (a : Int), .agg (cellsOf l)] W fun e W' => e = .returned (.int .i64 (writeE s a)) ∧ Live w p (writeS s a l) K W' := by
  obtain ⟨B, h1, h2, h3, h4⟩ := h
  exact (Write_any h1 ha hl hlen).mono fun _ _ ⟨he, C, hd, hs⟩ => ⟨he, Live.step h2 h3 h4 hd hs⟩
theorem Flush_live (h : Live w p s K W) (hlen : s.pend.length < 4294967296) :
    Calls Try.prog 14 #[ptr p] W fun e W' => e = .returned (.int .i64 (flushE s)) ∧ Live w p (flushS s) K W' := by
  obtain ⟨B, h1, h2, h3, h4⟩ := h
  exact (Flush_any h1 hlen).mono fun _ _ ⟨he, C, hd, hs⟩ => ⟨he, Live.step h2 h3 h4 hd hs⟩
theorem Fuse_live (h : Live w p s K W) {z : Int} (hz : z < 9223372036854775808) :
    Calls Try.prog 18 #[ptr p, .int .i64 z] W fun e W' => e = .returned (.int .i64 (fuseE s z)) ∧ Live w p (fuseS s z) K W' := by
  obtain ⟨B, h1, h2, h3, h4⟩ := h
  exact (Fuse_any h1 hz).mono fun _ _ ⟨he, C, hd, hs⟩ => ⟨he, Live.step h2 h3 h4 hd hs⟩
theorem Crash_live (h : Live w p s K W) {pa : Option Addr} {cap : Nat} {xs : List (Nat × Nat)} (hxl : xs.length ≤ 9223372036854775807) (hx : Keeps W pa xs) (hm : xs ≠ [] → Mine w K pa) :
    Calls Try.prog 13 #[ptr p, .slice pa xs.length cap] W fun e W' => e = .returned (.int .i64 0) ∧ Live w p (crashS s xs) K W' := by
  obtain ⟨B, h1, h2, h3, h4⟩ := h
  have ho : xs ≠ [] → Off pa B := fun hne a ha hm2 => by
    rcases hm hne a ha with h5 | ⟨o, h5⟩
    · have := h2 _ hm2; omega
    · exact (h4 _ h5).2.1 hm2
  exact (Crash_any h1 hxl hx ho).mono fun _ _ ⟨he, hd, ht⟩ => ⟨he, Live.step h2 h3 h4 hd (Step.of_turn ht)⟩
theorem Read_live (h : Live w p s K W) {a : Nat} (ha : a < 4294967296) (hlen : s.pend.length < 4294967296) :
    Calls Try.prog 15 #[ptr p, .int .u32 (a : Int)] W fun e W' => e = .returned (.tuple #[.agg (cellsOf (readR s a)), .int .i64 (readE s a)]) ∧ Live w p s K W' := by
  have h' := h
  obtain ⟨B, h1, _⟩ := h
  exact (Read_any h1 ha hlen).mono fun _ _ ⟨he, hb⟩ => ⟨he, h'.below hb⟩
theorem Down_live (h : Live w p s K W) : Calls Try.prog 20 #[ptr p] W fun e W' => e = .returned (.bool s.down) ∧ Live w p s K W' := by
  have h' := h
  obtain ⟨B, h1, _⟩ := h
  exact (Down_any h1).mono fun _ _ ⟨he, hb⟩ => ⟨he, by rw [hb]; exact h'⟩
theorem Pending_live (h : Live w p s K W) : Calls Try.prog 12 #[ptr p] W fun e W' => e = .returned (.int .i64 (s.pend.length : Int)) ∧ Live w p s K W' := by
  have h' := h
  obtain ⟨B, h1, _⟩ := h
  exact (Pending_any h1).mono fun _ _ ⟨he, hb⟩ => ⟨he, by rw [hb]; exact h'⟩
theorem Writes_live (h : Live w p s K W) : Calls Try.prog 21 #[ptr p] W fun e W' => e = .returned (.int .u64 ((s.writes % 18446744073709551616 : Nat) : Int)) ∧ Live w p s K W' := by
  have h' := h
  obtain ⟨B, h1, _⟩ := h
  exact (Writes_any h1).mono fun _ _ ⟨he, hb⟩ => ⟨he, by rw [hb]; exact h'⟩
theorem full_live (h : Live w p s K W) (c : UInt8) : Calls Try.prog 22 #[.int .u8 (c.toNat : Int)] W fun e W' => e = .returned (.agg (cellsOf (fullB c))) ∧ Live w p s K W' :=
  (full_any c W).mono fun _ _ ⟨he, hb⟩ => ⟨he, h.below hb⟩
theorem block_live (h : Live w p s K W) (what a : Nat) (c : UInt8) (lv : Value) (z : Int) : Calls Try.prog 16 #[.agg (actV what a c lv z)] W fun e W' => e = .returned (.agg (cellsOf (blockB c))) ∧ Live w p s K W' :=
  (block_any what a c lv z W).mono fun _ _ ⟨he, hb⟩ => ⟨he, h.below hb⟩
end

end Go.Proofs.Ytlgjgobelceheaa.Dev
