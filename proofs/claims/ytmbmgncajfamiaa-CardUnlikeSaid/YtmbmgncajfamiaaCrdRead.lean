/-
  The walks of card's read, at uint32 and at uint8: numbers filled through pointers.
-/
import Derived.Test.YtmbmgncajfamiaaCrdPut
import Derived.Test.YtmbmgncajfamiaaFldReader
namespace Go.Proofs.Ytmbmgncajfamiaa.Crd
open Go.RowKit RowLaw Crc Fld
set_option maxRecDepth 100000

/-- blocks that stay, and a reader apart from them -/
structure RBox (w : World) (K : List (Nat × Obj)) (q : Nat) (st : Option (List UInt8 × Nat)) (W : World) : Prop where
  kept : Kept w K W
  rd : RIs W q st
  le : w.heap.size ≤ q
  ne : ∀ x ∈ K, x.1 ≠ q
section
variable {w W W' : World} {K : List (Nat × Obj)} {q : Nat} {st st' : Option (List UInt8 × Nat)}
theorem RBox.num (h : RBox w K q st W) (width : Int) {x : Nat} (hf : takeNum st width = (x, st')) :
    Calls Try.prog 57 #[.pointer (some ⟨q, 0, none⟩), .int .i64 width] W fun e W' => e = .returned (.int .u64 (x : Int)) ∧ RBox w K q st' W' := by
  have := RNum_any st q width W h.rd
  rw [hf] at this
  exact this.mono fun _ _ ⟨he, h1, h2⟩ => ⟨he, Kept.apart h.kept h2 h.le h.ne, h1, h.le, h.ne⟩
theorem RBox.text (h : RBox w K q st W) (room : Int) {s : List UInt8} (hf : takeText st room = (s, st')) :
    Calls Try.prog 31 #[.pointer (some ⟨q, 0, none⟩), .int .i64 room] W fun e W' => e = .returned (.string ⟨s.toArray⟩) ∧ RBox w K q st' W' := by
  have := RText_any st q room W h.rd
  rw [hf] at this
  exact this.mono fun _ _ ⟨he, h1, h2⟩ => ⟨he, Kept.apart h.kept h2 h.le h.ne, h1, h.le, h.ne⟩
theorem RBox.below (h : RBox w K q st W) (hb : Below W.heap.size W W') : RBox w K q st W' := ⟨h.kept.below hb, h.rd.below hb, h.le, h.ne⟩
theorem RBox.drew (h : RBox w K q st W) : RBox w K q st W.drew := ⟨h.kept.drew, h.rd.of_block rfl, h.le, h.ne⟩
theorem RBox.less (h : RBox w K q st W) {K' : List (Nat × Obj)} (hk : ∀ x ∈ K', x ∈ K) : RBox w K' q st W := ⟨h.kept.less hk, h.rd, h.le, fun x hx => h.ne x (hk x hx)⟩
theorem RBox.more (h : RBox w K q st W) (hb : Below W.heap.size W W') {u : Nat} {o : Obj} (hu : W.heap.size ≤ u) (ho : W'.heap[u]? = some o) : RBox w ((u, o) :: K) q st W' := by
  have h2 := h.below hb
  have hlt := h.rd.lt
  refine ⟨⟨h2.kept.bel, fun x hx => ?_⟩, h2.rd, h2.le, fun x hx => ?_⟩
  · rcases List.mem_cons.1 hx with rfl | hx
    · exact ⟨Nat.le_trans h.kept.bel.size hu, ho⟩
    · exact h2.kept.has x hx
  · rcases List.mem_cons.1 hx with rfl | hx
    · show u ≠ q
      omega
    · exact h2.ne x hx
theorem RBox.alloc (h : RBox w K q st W) (o : Obj) : RBox w ((W.heap.size, o) :: K) q st (W.alloc o) := h.more ((Below.refl _ _).alloc (Nat.le_refl _) o) (Nat.le_refl _) (heap_alloc_new W o)
theorem RBox.setCell {p j : Nat} {cs : Array Value} {T : TypeId} {v : Value} (h : RBox w ((p, .cells cs T (0, 0)) :: K) q st W) (hne : ∀ x ∈ K, x.1 ≠ p) : RBox w ((p, .cells (cs.setIfInBounds j v) T (0, 0)) :: K) q st (W.setCell ⟨p, j, none⟩ v) := by
  have hp : p ≠ q := h.ne _ List.mem_cons_self
  refine ⟨h.kept.setCell hne, h.rd.of_block (heap_setCell_other W _ q _ (fun e => hp e.symm)), h.le, fun x hx => ?_⟩
  rcases List.mem_cons.1 hx with rfl | hx
  · exact hp
  · exact h.ne x (List.mem_cons_of_mem _ hx)
end

/-- a card of which one number is set -/
def setN (c : Cd) : Nat → Nat → Cd
  | 0, x => { c with left := x }
  | 1, x => { c with right := x }
  | 2, x => { c with id := x }
  | 3, x => { c with parent := x }
  | 4, x => { c with root := x }
  | 5, x => { c with used := x }
  | 6, x => { c with quota := x }
  | _, _ => c
theorem cells_setN (c : Cd) (j x : Nat) (hj : j < 7) : (cells c).setIfInBounds (1 + j) (.int .u32 (x : Int)) = cells (setN c j x) := by
  rcases (by omega : j = 0 ∨ j = 1 ∨ j = 2 ∨ j = 3 ∨ j = 4 ∨ j = 5 ∨ j = 6) with rfl | rfl | rfl | rfl | rfl | rfl | rfl <;> simp [cells, setN]
theorem cells_setOnly (c : Cd) (b : Bool) : (cells c).setIfInBounds 8 (.bool b) = cells { c with only := b } := by simp [cells]
/-- the card behind j numbers -/
def prog (l : List UInt8) : Nat → Cd
  | 0 => ⟨⟨(nmT l).1.toArray⟩, 0, 0, 0, 0, 0, 0, 0, false⟩
  | j + 1 => setN (prog l j) j (nAt l j)
theorem prog_all (l : List UInt8) : { prog l 7 with only := decide ((onT l).1 = 1) } = rawC l := rfl
def ptrsO (p : Nat) : Obj := .cells (ptrs p) 57 (0, 0)

set_option maxHeartbeats 1600000 in
theorem read32_any (w : World) (K : List (Nat × Obj)) (p u q : Nat) (l : List UInt8) (hne : ∀ x ∈ K, x.1 ≠ p) (hu : (u, ptrsO p) ∈ K) (W : World) (h : RBox w ((p, .cells (cells (prog l 0)) 26 (0, 0)) :: K) q (stN l 0) W) :
    Calls Try.prog 32 #[.pointer (some ⟨q, 0, none⟩), .int .i64 4, .slice (some ⟨u, 0, none⟩) 7 7] W fun e W' => e = .returned (.tuple #[]) ∧ RBox w ((p, .cells (cells (prog l 7)) 26 (0, 0)) :: K) q (stN l 7) W' := by
  have HU := Lib.hid hu; clear hu
  have HE := Lib.hid hne; clear hne
  go_enter Try.func32, Try.ntmps32
  go_wp2
  go_loopw [7, 10] (fun v i wr => ∃ k : Nat, k ≤ 7 ∧ i = .int .i64 k ∧ RBox w ((p, .cells (cells (prog l k)) 26 (0, 0)) :: K) q (stN l k) wr) (fun v i _ => 7 - (intOf i).toNat)
  case atStart => exact ⟨0, by omega, rfl, h⟩
  case round =>
    obtain ⟨k, hk, rfl, hbk⟩ := hrel
    clear h
    by_cases hlt : k < 7
    · have hp : wr.cell? ⟨u, 0 + k, none⟩ = some (.pointer (some ⟨p, 1 + k, none⟩)) := (cell_of_row wr u (0 + k) _ _ _ (hbk.kept.at_ (q := u) (o := ptrsO p) (List.mem_cons_of_mem _ HU.out))).trans (by rw [Nat.zero_add]; exact ptrs_get _ k hlt)
      rw [Nat.zero_add] at hp
      have hx := nAt_lt l k
      have hst : takeNum (stN l k) 4 = (nAt l k, stN l (k + 1)) := by unfold nAt; rw [stN]
      have hset := cells_setN (prog l k) k (nAt l k) hlt
      rw [show setN (prog l k) k (nAt l k) = prog l (k + 1) from rfl] at hset
      have HS := Lib.hid hset; clear hset
      generalize nAt l k = x at hx hst HS
      have z1 : IntKind.u32.wrap (x : Int) = (x : Int) := IntWalk.u32_in _ (by omega)
      go_wp2_with fail
      refine (hbk.num 4 hst).mono ?_
      clear hbk hp hst
      rintro e W2 ⟨rfl, hbk⟩
      have hc : W2.heap[p]? = some (.cells (cells (prog l k)) 26 (0, 0)) := hbk.kept.at_ List.mem_cons_self
      have c1 := IsCd.num (c := prog l k) (p := p) hc k hlt
      have f1 := IsCd.frozen (c := prog l k) (p := p) hc (1 + k)
      have hb2 := RBox.setCell (j := 1 + k) (v := .int .u32 (x : Int)) hbk HE.out
      rw [HS.out] at hb2
      clear hbk hc
      go_wp2_with fail
      go_roundw
      case rel => exact ⟨k + 1, by omega, by go_num, hb2⟩
      case measure => simp [intOf]; omega
    · obtain rfl : k = 7 := by omega
      go_wp2
      go_end0
      exact ⟨rfl, hbk⟩

set_option maxHeartbeats 1600000 in
theorem read8_any (w : World) (K : List (Nat × Obj)) (o v q z x : Nat) (st st' : Option (List UInt8 × Nat)) (hst : takeNum st 1 = (x, st')) (hx : x < 256) (hne : ∀ y ∈ K, y.1 ≠ o) (hv : (v, .cells #[.pointer (some ⟨o, 0, none⟩)] 74 (0, 0)) ∈ K) (W : World)
    (h : RBox w ((o, .cells #[.int .u8 (z : Int)] 5 (0, 0)) :: K) q st W) :
    Calls Try.prog 33 #[.pointer (some ⟨q, 0, none⟩), .int .i64 1, .slice (some ⟨v, 0, none⟩) 1 1] W fun e W' => e = .returned (.tuple #[]) ∧ RBox w ((o, .cells #[.int .u8 (x : Int)] 5 (0, 0)) :: K) q st' W' := by
  have HV := Lib.hid hv; clear hv
  have HE := Lib.hid hne; clear hne
  go_enter Try.func33, Try.ntmps33
  go_wp2
  go_loopw [7, 10] (fun v i wr => ∃ k : Nat, k ≤ 1 ∧ i = .int .i64 k ∧ (k = 0 → RBox w ((o, .cells #[.int .u8 (z : Int)] 5 (0, 0)) :: K) q st wr) ∧ (k = 1 → RBox w ((o, .cells #[.int .u8 (x : Int)] 5 (0, 0)) :: K) q st' wr)) (fun v i _ => 1 - (intOf i).toNat)
  case atStart => exact ⟨0, by omega, rfl, fun _ => h, fun h => by cases h⟩
  case round =>
    obtain ⟨k, hk, rfl, hb0, hb1⟩ := hrel
    clear h
    by_cases hlt : k = 0
    · subst hlt
      have hbk := hb0 rfl
      clear hb0 hb1
      have hp : wr.cell? ⟨v, 0, none⟩ = some (.pointer (some ⟨o, 0, none⟩)) := (cell_of_row wr v 0 _ _ _ (hbk.kept.at_ (List.mem_cons_of_mem _ HV.out))).trans rfl
      have z1 : IntKind.u8.wrap (x : Int) = (x : Int) := IntWalk.u8_in _ (by omega)
      go_wp2_with fail
      refine (hbk.num 1 hst).mono ?_
      clear hbk hp
      rintro e W2 ⟨rfl, hbk⟩
      have hc : W2.heap[o]? = some (.cells #[.int .u8 (z : Int)] 5 (0, 0)) := hbk.kept.at_ List.mem_cons_self
      have c1 : W2.cell? ⟨o, 0, none⟩ = some (.int .u8 (z : Int)) := (cell_of_row W2 o 0 _ _ _ hc).trans rfl
      have f1 : W2.frozen? ⟨o, 0, none⟩ = false := frozen_of_row W2 o 0 _ _ hc
      have hb2 := RBox.setCell (j := 0) (v := .int .u8 (x : Int)) hbk HE.out
      rw [show (#[Value.int .u8 (z : Int)] : Array Value).setIfInBounds 0 (.int .u8 (x : Int)) = #[.int .u8 (x : Int)] from rfl] at hb2
      clear hbk hc
      go_wp2_with fail
      go_roundw
      case rel => exact ⟨1, by omega, by go_num, fun h => by omega, fun _ => hb2⟩
      case measure => simp [intOf]
    · obtain rfl : k = 1 := by omega
      have hbk := hb1 rfl
      go_wp2
      go_end0
      exact ⟨rfl, hbk⟩

end Go.Proofs.Ytmbmgncajfamiaa.Crd
