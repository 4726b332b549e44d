/-
  The statements' known answers of cards, and the walk of their head: six copies made in whatever order.
-/
import Derived.Test.YtmbmgncajfamiaaCrdKids
import Derived.Test.YtmbmgncajfamiaaCrdRefMay
import Derived.Test.YtmbmgncajfamiaaAllocs
import Derived.Test.YtmbmgncajfamiaaFldRefs
import Derived.Deep.Cut
namespace Go.Proofs.Ytmbmgncajfamiaa.Crd
open Go.RowKit RowLaw Crc Fld
open Go.Proofs.Ytmbmgncajfamiaa.R32 (Own32 RowAns Row32)
open Go.Proofs.Ytmbmgncajfamiaa.Node (kidsOf)
set_option maxRecDepth 100000

def one0 : Cd := ⟨⟨#[97, 98]⟩, 7, 0, 3, 0, 9, 2, 5, false⟩
theorem one0_fits : one0.Fits := ⟨by decide, by decide, by decide, by decide, by decide, by decide, by decide⟩
theorem one0_may : mayB one0 = true := by decide +kernel
def id0 : Cd := { one0 with id := 0 }
def used0 : Cd := { one0 with used := 6 }
def root0 : Cd := { one0 with root := 0 }
def only0 : Cd := { one0 with only := true }
def right0 : Cd := { one0 with right := 7 }
def bare0 : Cd := { one0 with s := ⟨#[]⟩ }
theorem id0_may : mayB id0 = false := by decide +kernel
theorem used0_may : mayB used0 = false := by decide +kernel
theorem root0_may : mayB root0 = false := by decide +kernel
theorem only0_may : mayB only0 = false := by decide +kernel
theorem right0_may : mayB right0 = false := by decide +kernel
theorem bare0_may : mayB bare0 = false := by decide +kernel
def B1 : List UInt8 := cdB one0
theorem B1_len : B1.length = 256 := cdB_length (by decide)
theorem B1_four : B1.take 4 = [67, 2, 97, 98] := by decide +kernel
theorem kids0 : kidsOf (leads one0) = [7, 9] := by decide +kernel
theorem Put_one (w : World) : Calls Try.prog 8 #[.agg (cells one0)] w fun e w' => e = .returned (.tuple #[.agg (cellsOf B1), .int .i64 0]) ∧ Below w.heap.size w w' := Put_yes one0 one0_may one0_fits w

set_option maxHeartbeats 800000 in
theorem one_any (w : World) : Calls Try.prog 18 #[] w fun e w' => e = .returned (.agg (cells one0)) ∧ Below w.heap.size w w' := by
  have hzc : ∀ w : World, (zeroValue 26).run Try.prog w = .ok (.agg #[.string ⟨#[]⟩, .int .u32 0, .int .u32 0, .int .u32 0, .int .u32 0, .int .u32 0, .int .u32 0, .int .u32 0, .bool false]) w := (zero_of_info infoC).1
  have hzv : ∀ w : World, (zeroValue 24).run Try.prog w = .ok (.agg #[.int .u32 0, .int .u32 0, .int .u32 0, .int .u32 0, .int .u32 0, .bool false]) w := (zero_of_info infoV).1
  have hR : (w.alloc (.cells #[.string ⟨#[]⟩, .int .u32 0, .int .u32 0, .int .u32 0, .int .u32 0, .int .u32 0, .int .u32 0, .int .u32 0, .bool false] 26)).heap[w.heap.size]? = some (.cells #[.string ⟨#[]⟩, .int .u32 0, .int .u32 0, .int .u32 0, .int .u32 0, .int .u32 0, .int .u32 0, .int .u32 0, .bool false] 26 (0, 0)) := heap_alloc_new w _
  have hb : Below w.heap.size w (w.alloc (.cells #[.string ⟨#[]⟩, .int .u32 0, .int .u32 0, .int .u32 0, .int .u32 0, .int .u32 0, .int .u32 0, .int .u32 0, .bool false] 26)) := (Below.refl _ _).alloc (Nat.le_refl _) _
  go_enter Try.func18, Try.ntmps18
  go_wp2_with (refine wpList_store_row rfl 26 _ _ rfl w.heap.size (cells one0) rfl rfl _ _ hR (sizeC one0) rfl (cells_one _) ?_)
  exact bodyPost_ret (results_cell_row rfl _ _ _ _ _ _ _ rfl (setRow_heap _ _ _ _ _ _ hR) Try.underlying26 rfl (sizeC one0)) rfl ⟨rfl, below_row hb (Nat.le_refl _)⟩

theorem conv_four (W : World) (b : Nat) (B l : List UInt8) (hB : B.length = 256) (ht : B.take 4 = l) (h : Holds W b B) :
    (convert 50 9 (.slice (some ⟨b, 0, none⟩) 4 256)).run Try.prog W = .ok (.string ⟨l.toArray⟩) W := by
  have hl : l.length = 4 := by rw [← ht, List.length_take]; omega
  have := run_convert_bytes_back (P := Try.prog) W 50 9 5 ⟨b, 0, none⟩ 256 l Try.underlying50 Try.underlying5 Try.underlying9 (fun j hj => by
    have hj2 : j < B.length := by omega
    rw [Addr.add_mid, Nat.zero_add, h.cell j hj2]
    subst ht
    simp)
  rw [hl] at this
  exact this

/-! Six copies. -/
def putAll (a : Act) (f : Nat → Option Nat) : Act :=
  (((((a.put (some 4) (vOf (f 6))).put (some 5) (vOf (f 7))).put (some 6) (vOf (f 8))).put (some 7) (vOf (f 9))).put (some 8) (vOf (f 10))).put (some 9) (vOf (f 11))
theorem put_swap (a : Act) (i j : Nat) (x y : Value) (h : i ≠ j) : (a.put (some i) x).put (some j) y = (a.put (some j) y).put (some i) x := by
  simp only [Act.put]
  rw [Array.setIfInBounds_comm _ _ h]
theorem put_twice (a : Act) (i : Nat) (x y : Value) : (a.put (some i) x).put (some i) y = a.put (some i) y := by
  simp only [Act.put]
  rw [Array.setIfInBounds_setIfInBounds]
theorem putAll_upd (a : Act) (f : Nat → Option Nat) (q i : Nat) (h1 : 6 ≤ i) (h2 : i < 12) : (putAll a f).put (some (i - 2)) (.pointer (some ⟨q, 0, none⟩)) = putAll a (upd f i q) := by
  rcases (by omega : i = 6 ∨ i = 7 ∨ i = 8 ∨ i = 9 ∨ i = 10 ∨ i = 11) with rfl | rfl | rfl | rfl | rfl | rfl
  · show (putAll a f).put (some 4) (vOf (some q)) = _
    unfold putAll
    rw [put_swap _ 9 4 _ _ (by decide), put_swap _ 8 4 _ _ (by decide), put_swap _ 7 4 _ _ (by decide), put_swap _ 6 4 _ _ (by decide), put_swap _ 5 4 _ _ (by decide), put_twice _ 4]
    rfl
  · show (putAll a f).put (some 5) (vOf (some q)) = _
    unfold putAll
    rw [put_swap _ 9 5 _ _ (by decide), put_swap _ 8 5 _ _ (by decide), put_swap _ 7 5 _ _ (by decide), put_swap _ 6 5 _ _ (by decide), put_twice _ 5]
    rfl
  · show (putAll a f).put (some 6) (vOf (some q)) = _
    unfold putAll
    rw [put_swap _ 9 6 _ _ (by decide), put_swap _ 8 6 _ _ (by decide), put_swap _ 7 6 _ _ (by decide), put_twice _ 6]
    rfl
  · show (putAll a f).put (some 7) (vOf (some q)) = _
    unfold putAll
    rw [put_swap _ 9 7 _ _ (by decide), put_swap _ 8 7 _ _ (by decide), put_twice _ 7]
    rfl
  · show (putAll a f).put (some 8) (vOf (some q)) = _
    unfold putAll
    rw [put_swap _ 9 8 _ _ (by decide), put_twice _ 8]
    rfl
  · show (putAll a f).put (some 9) (vOf (some q)) = _
    unfold putAll
    rw [put_twice _ 9]
    rfl
def lst6 (f : Nat → Option Nat) : Array Bool := #[true, true, true, true, true, true, (f 6).isSome, (f 7).isSome, (f 8).isSome, (f 9).isSome, (f 10).isSome, (f 11).isSome, false, false, false, false, false, false]
def miss : Option Nat → Nat
  | none => 1
  | some _ => 0
def cnt6 (f : Nat → Option Nat) : Nat := miss (f 6) + (miss (f 7) + (miss (f 8) + (miss (f 9) + (miss (f 10) + miss (f 11)))))
theorem lst6_set (f : Nat → Option Nat) (i q : Nat) (h1 : 6 ≤ i) (h2 : i < 12) : (lst6 f).setIfInBounds i true = lst6 (upd f i q) := by
  rcases (by omega : i = 6 ∨ i = 7 ∨ i = 8 ∨ i = 9 ∨ i = 10 ∨ i = 11) with rfl | rfl | rfl | rfl | rfl | rfl <;> simp [lst6, upd]
theorem cnt6_upd (f : Nat → Option Nat) (i q : Nat) (h1 : 6 ≤ i) (h2 : i < 12) (h : f i = none) : cnt6 (upd f i q) + 1 = cnt6 f := by
  rcases (by omega : i = 6 ∨ i = 7 ∨ i = 8 ∨ i = 9 ∨ i = 10 ∨ i = 11) with rfl | rfl | rfl | rfl | rfl | rfl <;> simp [cnt6, upd, h, miss] <;> omega
theorem miss_zero {o : Option Nat} (h : miss o = 0) : ∃ q, o = some q := by
  cases o with
  | none => cases h
  | some q => exact ⟨q, rfl⟩
theorem cnt6_none {f : Nat → Option Nat} (h : cnt6 f ≠ 0) : f 6 = none ∨ f 7 = none ∨ f 8 = none ∨ f 9 = none ∨ f 10 = none ∨ f 11 = none := by
  unfold cnt6 at h
  cases h6 : f 6 <;> cases h7 : f 7 <;> cases h8 : f 8 <;> cases h9 : f 9 <;> cases h10 : f 10 <;> cases h11 : f 11 <;> simp [h6, h7, h8, h9, h10, h11, miss] at h ⊢

/-- what has been made so far -/
structure Six (w : World) (K0 : List (Nat × Obj)) (f : Nat → Option Nat) (W : World) : Prop where
  kept : Kept w K0 W
  at_ : ∀ i q, 6 ≤ i → i < 12 → f i = some q → W.heap[q]? = some (cardO nil) ∧ w.heap.size ≤ q ∧ ∀ x ∈ K0, x.1 ≠ q
  ne : ∀ i j q, 6 ≤ i → i < 12 → 6 ≤ j → j < 12 → f i = some q → f j = some q → i = j
theorem Six.start {w W : World} {K0 : List (Nat × Obj)} (h : Kept w K0 W) : Six w K0 (fun _ => none) W := ⟨h, fun _ _ _ _ h => (by cases h), fun _ _ _ _ _ _ _ h _ => (by cases h)⟩
theorem Six.step {w W : World} {K0 : List (Nat × Obj)} {f : Nat → Option Nat} (h : Six w K0 f W) (i : Nat) : Six w K0 (upd f i W.heap.size) (W.alloc (.cells (cells nil) 26)) := by
  have hlt : ∀ j q, 6 ≤ j → j < 12 → f j = some q → q < W.heap.size := fun j q h1 h2 h3 => (Array.getElem?_eq_some_iff.1 (h.at_ j q h1 h2 h3).1).1
  refine ⟨(h.kept.alloc (cardO nil)).less (fun x hx => List.mem_cons_of_mem _ hx), fun j q h1 h2 h3 => ?_, fun j k q h1 h2 h3 h4 h5 h6 => ?_⟩
  · unfold upd at h3
    split at h3
    · cases h3
      exact ⟨heap_alloc_new W _, h.kept.bel.size, h.kept.notin⟩
    · have := h.at_ j q h1 h2 h3
      exact ⟨(Below.heap_alloc W _ q (hlt j q h1 h2 h3)).trans this.1, this.2⟩
  · unfold upd at h5 h6
    split at h5 <;> split at h6
    · rename_i e1 e2; rw [e1, e2]
    · cases h5
      have := hlt k _ h3 h4 h6
      omega
    · cases h6
      have := hlt j _ h1 h2 h5
      omega
    · exact h.ne j k q h1 h2 h3 h4 h5 h6
/-- all six -/
theorem Six.all {w W : World} {K0 : List (Nat × Obj)} {f : Nat → Option Nat} (h : Six w K0 f W) (hc : cnt6 f = 0) : ∃ q4 q5 q6 q7 q8 q9, f 6 = some q4 ∧ f 7 = some q5 ∧ f 8 = some q6 ∧ f 9 = some q7 ∧ f 10 = some q8 ∧ f 11 = some q9 ∧
    Kept w ((q4, cardO nil) :: (q5, cardO nil) :: (q6, cardO nil) :: (q7, cardO nil) :: (q8, cardO nil) :: (q9, cardO nil) :: K0) W ∧
    (q4 ≠ q5 ∧ q4 ≠ q6 ∧ q4 ≠ q7 ∧ q4 ≠ q8 ∧ q4 ≠ q9) ∧ (q5 ≠ q6 ∧ q5 ≠ q7 ∧ q5 ≠ q8 ∧ q5 ≠ q9) ∧ (q6 ≠ q7 ∧ q6 ≠ q8 ∧ q6 ≠ q9) ∧ (q7 ≠ q8 ∧ q7 ≠ q9) ∧ q8 ≠ q9 ∧
    (∀ x ∈ K0, x.1 ≠ q4 ∧ x.1 ≠ q5 ∧ x.1 ≠ q6 ∧ x.1 ≠ q7 ∧ x.1 ≠ q8 ∧ x.1 ≠ q9) := by
  unfold cnt6 at hc
  obtain ⟨q4, h4⟩ := miss_zero (show miss (f 6) = 0 by omega)
  obtain ⟨q5, h5⟩ := miss_zero (show miss (f 7) = 0 by omega)
  obtain ⟨q6, h6⟩ := miss_zero (show miss (f 8) = 0 by omega)
  obtain ⟨q7, h7⟩ := miss_zero (show miss (f 9) = 0 by omega)
  obtain ⟨q8, h8⟩ := miss_zero (show miss (f 10) = 0 by omega)
  obtain ⟨q9, h9⟩ := miss_zero (show miss (f 11) = 0 by omega)
  have a4 := h.at_ 6 q4 (by omega) (by omega) h4
  have a5 := h.at_ 7 q5 (by omega) (by omega) h5
  have a6 := h.at_ 8 q6 (by omega) (by omega) h6
  have a7 := h.at_ 9 q7 (by omega) (by omega) h7
  have a8 := h.at_ 10 q8 (by omega) (by omega) h8
  have a9 := h.at_ 11 q9 (by omega) (by omega) h9
  have nn : ∀ i j p q, 6 ≤ i → i < 12 → 6 ≤ j → j < 12 → i ≠ j → f i = some p → f j = some q → p ≠ q := fun i j p q h1 h2 h3 h4 hij hp hq e => hij (h.ne i j p h1 h2 h3 h4 hp (by rw [e]; exact hq))
  refine ⟨q4, q5, q6, q7, q8, q9, h4, h5, h6, h7, h8, h9, ⟨h.kept.bel, fun x hx => ?_⟩, ⟨?_, ?_, ?_, ?_, ?_⟩, ⟨?_, ?_, ?_, ?_⟩, ⟨?_, ?_, ?_⟩, ⟨?_, ?_⟩, ?_, fun x hx => ⟨a4.2.2 x hx, a5.2.2 x hx, a6.2.2 x hx, a7.2.2 x hx, a8.2.2 x hx, a9.2.2 x hx⟩⟩
  · simp only [List.mem_cons] at hx
    rcases hx with rfl | rfl | rfl | rfl | rfl | rfl | hx
    · exact ⟨a4.2.1, a4.1⟩
    · exact ⟨a5.2.1, a5.1⟩
    · exact ⟨a6.2.1, a6.1⟩
    · exact ⟨a7.2.1, a7.1⟩
    · exact ⟨a8.2.1, a8.1⟩
    · exact ⟨a9.2.1, a9.1⟩
    · exact h.kept.has x hx
  · exact nn 6 7 _ _ (by omega) (by omega) (by omega) (by omega) (by omega) h4 h5
  · exact nn 6 8 _ _ (by omega) (by omega) (by omega) (by omega) (by omega) h4 h6
  · exact nn 6 9 _ _ (by omega) (by omega) (by omega) (by omega) (by omega) h4 h7
  · exact nn 6 10 _ _ (by omega) (by omega) (by omega) (by omega) (by omega) h4 h8
  · exact nn 6 11 _ _ (by omega) (by omega) (by omega) (by omega) (by omega) h4 h9
  · exact nn 7 8 _ _ (by omega) (by omega) (by omega) (by omega) (by omega) h5 h6
  · exact nn 7 9 _ _ (by omega) (by omega) (by omega) (by omega) (by omega) h5 h7
  · exact nn 7 10 _ _ (by omega) (by omega) (by omega) (by omega) (by omega) h5 h8
  · exact nn 7 11 _ _ (by omega) (by omega) (by omega) (by omega) (by omega) h5 h9
  · exact nn 8 9 _ _ (by omega) (by omega) (by omega) (by omega) (by omega) h6 h7
  · exact nn 8 10 _ _ (by omega) (by omega) (by omega) (by omega) (by omega) h6 h8
  · exact nn 8 11 _ _ (by omega) (by omega) (by omega) (by omega) (by omega) h6 h9
  · exact nn 9 10 _ _ (by omega) (by omega) (by omega) (by omega) (by omega) h7 h8
  · exact nn 9 11 _ _ (by omega) (by omega) (by omega) (by omega) (by omega) h7 h9
  · exact nn 10 11 _ _ (by omega) (by omega) (by omega) (by omega) (by omega) h8 h9

end Go.Proofs.Ytmbmgncajfamiaa.Crd
