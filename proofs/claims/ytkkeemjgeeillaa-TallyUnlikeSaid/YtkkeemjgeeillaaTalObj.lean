/-
  Pages in memory.
-/
import Derived.Test.YtkkeemjgeeillaaTalMath
import Derived.Test.YtkkeemjgeeillaaFldRefDone
import Derived.Test.YtkkeemjgeeillaaFldOpen
namespace Go.Proofs.Ytkkeemjgeeillaa.Tal
open Go.RowKit RowLaw Crc Fld
set_option maxRecDepth 100000

theorem infoT : (Try.prog.info? 26).map (fun i => (i.zero, i.size)) = some (some (.agg (pgCells .u16 0 (zs kT))), 65) := by kernel_rfl
theorem infoP : (Try.prog.info? 30).map (fun i => (i.zero, i.size)) = some (some (.agg (pgCells .u64 0 (zs kP))), 17) := by kernel_rfl
theorem sizeT (idx : Nat) (ns : List Nat) (h : ns.length = kT.n) : (Try.prog.info? 26).map (·.size) = some (pgCells .u16 idx ns).size := by rw [pgCells_size, h]; exact (zero_of_info infoT).2
theorem sizeP (idx : Nat) (ns : List Nat) (h : ns.length = kP.n) : (Try.prog.info? 30).map (·.size) = some (pgCells .u64 idx ns).size := by rw [pgCells_size, h]; exact (zero_of_info infoP).2

/-- block p is a page (t: the type of its struct) -/
def IsPg (K : IntKind) (t : TypeId) (w : World) (p idx : Nat) (ns : List Nat) : Prop := w.heap[p]? = some (.cells (pgCells K idx ns) t (0, 0))
section
variable {K : IntKind} {t : TypeId} {w : World} {p idx : Nat} {ns : List Nat}
theorem IsPg.lt (h : IsPg K t w p idx ns) : p < w.heap.size := by
  rcases Nat.lt_or_ge p w.heap.size with hlt | hge
  · exact hlt
  · unfold IsPg at h; rw [Array.getElem?_eq_none hge] at h; cases h
theorem IsPg.index (h : IsPg K t w p idx ns) : w.cell? ⟨p, 0, none⟩ = some (.int .u32 (idx : Int)) := (cell_of_row w p 0 _ _ _ h).trans (pgCells_idx idx ns)
theorem IsPg.num (h : IsPg K t w p idx ns) (j : Nat) (hj : j < ns.length) : w.cell? ⟨p, 1 + j, none⟩ = some (.int K (ns[j] : Int)) := (cell_of_row w p (1 + j) _ _ _ h).trans (pgCells_num idx ns j hj)
theorem IsPg.frozen (h : IsPg K t w p idx ns) (j : Nat) : w.frozen? ⟨p, j, none⟩ = false := frozen_of_row w p j _ _ h
theorem IsPg.setNum (h : IsPg K t w p idx ns) (j n : Nat) : IsPg K t (w.setCell ⟨p, 1 + j, none⟩ (.int K (n : Int))) p idx (ns.set j n) := by
  unfold IsPg
  rw [← pgCells_set idx ns j n]
  exact heap_setCell_same w p (1 + j) _ _ _ h
theorem IsPg.other (h : IsPg K t w p idx ns) (a : Addr) (v : Value) (ha : p ≠ a.block) : IsPg K t (w.setCell a v) p idx ns := (heap_setCell_other w a p v ha).trans h
theorem IsPg.alloc (h : IsPg K t w p idx ns) (o : Obj) : IsPg K t (w.alloc o) p idx ns := (Below.heap_alloc w o p h.lt).trans h
theorem IsPg.below {B : Nat} {w' : World} (h : IsPg K t w p idx ns) (hb : Below B w w') (hB : p < B) : IsPg K t w' p idx ns := (hb.block p hB).trans h
theorem IsPg.apart {w' : World} {q : Nat} (h : IsPg K t w p idx ns) (ha : Apart q w w') (hq : p ≠ q) : IsPg K t w' p idx ns := (ha.block p h.lt hq).trans h
theorem IsPg.new (K : IntKind) (t : TypeId) (w : World) (idx : Nat) (ns : List Nat) : IsPg K t (w.alloc (.cells (pgCells K idx ns) t)) w.heap.size idx ns := heap_alloc_new w _
end

theorem len16 (w : World) : Calls Try.prog 44 #[.int .u64 65535] w fun e w' => e = .returned (.int .i64 16) ∧ w' = w := by
  go_enter Try.func44, Try.ntmps44
  go_wp2
  go_ret
  exact ⟨congrArg (fun z => Ending.returned (.int .i64 z)) (by decide +kernel), rfl⟩
theorem len64 (w : World) : Calls Try.prog 44 #[.int .u64 18446744073709551615] w fun e w' => e = .returned (.int .i64 64) ∧ w' = w := by
  go_enter Try.func44, Try.ntmps44
  go_wp2
  go_ret
  exact ⟨congrArg (fun z => Ending.returned (.int .i64 z)) (by decide +kernel), rfl⟩
theorem widthT (w : World) : Calls Try.prog 31 #[] w fun e w' => e = .returned (.int .i64 2) ∧ w' = w := by
  go_enter Try.func31, Try.ntmps31
  go_wp2_with fail
  refine (len16 _).mono ?_
  rintro e W ⟨rfl, rfl⟩
  go_wp2
  go_ret
  exact ⟨rfl, rfl⟩
theorem widthP (w : World) : Calls Try.prog 33 #[] w fun e w' => e = .returned (.int .i64 8) ∧ w' = w := by
  go_enter Try.func33, Try.ntmps33
  go_wp2_with fail
  refine (len64 _).mono ?_
  rintro e W ⟨rfl, rfl⟩
  go_wp2
  go_ret
  exact ⟨rfl, rfl⟩

theorem numBytes2 (n : Nat) : numBytes n 2 = some (leB n 2) := by unfold numBytes; rw [if_pos (by decide)]; rfl
theorem numBytes4 (n : Nat) : numBytes n 4 = some (leB n 4) := by unfold numBytes; rw [if_pos (by decide)]; rfl
theorem numBytes8 (n : Nat) : numBytes n 8 = some (leB n 8) := by unfold numBytes; rw [if_pos (by decide)]; rfl
theorem app_at (f bs : List UInt8) (h : f.length + bs.length ≤ 251) : app (some f) (some bs) = some (f ++ bs) := if_pos h
theorem app_first (k : PK) (idx : Nat) (ns : List Nat) : app (some []) (numBytes idx 4) = some (pgTo k idx ns 0) := by
  rw [numBytes4, app_at _ _ (by rw [leB_length]; simp), List.nil_append, pgTo_zero]
theorem app_next {k : PK} (hk : k.Fine) (idx : Nat) (ns : List Nat) (hn : ns.length = k.n) {z : Int} (hz : ∀ n, numBytes n z = some (leB n k.wd)) (j : Nat) (hj : j < ns.length) : app (some (pgTo k idx ns j)) (numBytes ns[j] z) = some (pgTo k idx ns (j + 1)) := by
  have hw := wd_le1 hk (show j < k.n by omega)
  rw [hz, app_at _ _ (by rw [leB_length, pgTo_length _ _ _ _ (by omega)]; omega), pgTo_succ k idx ns j hj]
theorem below_row {w W : World} {B q : Nat} {cs : Array Value} (h : Below B w W) (hq : B ≤ q) : Below B w (W.setRow q cs) :=
  h.trans ⟨rfl, rfl, rfl, by simp, fun k hk => setRow_other W _ _ _ (by omega)⟩

end Go.Proofs.Ytkkeemjgeeillaa.Tal
