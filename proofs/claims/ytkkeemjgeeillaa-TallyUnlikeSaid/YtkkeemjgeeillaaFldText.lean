/-
  The walks of the writer's Text and Num.
-/
import Derived.Test.YtkkeemjgeeillaaFldAdd
import Derived.Laws.IdiomCopy
namespace Go.Proofs.Ytkkeemjgeeillaa.Fld
open Go.RowKit RowLaw Crc
set_option maxRecDepth 100000

/-- bytes as cells -/
def vals (l : List UInt8) : List Value := l.map fun u => Value.int .u8 (u.toNat : Int)
theorem vals_one (l : List UInt8) : ∀ v ∈ vals l, v.oneCell' = true := by
  intro v hv
  simp only [vals, List.mem_map] at hv
  obtain ⟨u, _, rfl⟩ := hv
  rfl

/-- 'copy(dst, s)' of a string that fits -/
theorem wpList_copy_str {P : Program} {w : World} {ops : Array Oper} {rest : List Oper} {o : Oper} {a : Act} {Q : Exit → Act → World → Prop} (hgd : o.guard = none) (d s : Operand) (dT sT : TypeId)
    (ho : o.op = .call { callee := .builtin .copy, args := #[d, s], argTypes := #[dT, sT] }) (elem : TypeId) (hu : P.underlying dT = some (.slice elem)) (hsz : (P.info? elem).map (·.size) = some 1)
    (g off dLen dCap : Nat) (str : ByteArray) (hd : a.eval d = .slice (some ⟨g, off, none⟩) dLen dCap) (hs : a.eval s = .string str) (hle : str.size ≤ dLen)
    (hc : ∀ j, j < str.size → (w.cell? ⟨g, off + j, none⟩).isSome = true) (hf : ∀ j, j < str.size → w.frozen? ⟨g, off + j, none⟩ = false)
    (h : wpList P ops Q rest (a.put o.dst (goInt str.size)) (w.setCells g off (vals str.data.toList))) : wpList P ops Q (o :: rest) a w := by
  refine wpList_plain hgd fun K hK => ?_
  have hlen : (vals str.data.toList).length = str.size := by simp [vals]
  have hst := run_storeCells_cells (P := P) g off (vals str.data.toList) 0 w (by rw [hlen]; simpa using hc) (by rw [hlen]; simpa using hf) (vals_one _)
  have hmin : Nat.min str.size dLen = str.size := Nat.min_eq_left hle
  have htk : List.take str.size (List.map (fun b => Value.int .u8 (b.toNat : Int)) str.data.toList) = vals str.data.toList := List.take_of_length_le (by simp)
  have hrun : (Builtin.copy_ #[dT, sT] o.type #[.slice (some ⟨g, off, none⟩) dLen dCap, .string str]).run P w = .ok (goInt str.size) (w.setCells g off (vals str.data.toList)) := by
    cases hq : P.info? elem with
    | none => simp [hq] at hsz
    | some i =>
      have hi : i.size = 1 := by simpa [hq] using hsz
      rw [Nat.add_zero] at hst
      simp [Builtin.copy_, run_underlying hu, Builtin.lenOf, Builtin.firstCells, sizeOf, typeInfo, hq, hmin, htk, hst]
  unfold Oper.wp
  simp [execOp, ho, resolve, invoke, builtin, hd, hs, hrun, Result.andThen]
  exact hK _ _ h

theorem lay_cons (l : List UInt8) (o : Nat) (u : UInt8) (r : List UInt8) (h : o < l.length) : lay (l.set o u) (o + 1) r = lay l o (u :: r) := by
  unfold lay
  rw [List.take_set, List.take_succ_eq_append_getElem h, List.set_append_right _ _ (by simp; omega), List.drop_set_of_lt (by omega)]
  simp [Nat.min_eq_left (Nat.le_of_lt h), show o + 1 + r.length = o + (r.length + 1) from by omega]

theorem IsObj.setCells {T : TypeId} {p k : Nat} : ∀ (bs : List UInt8) {w : World} {l : List UInt8} (o : Nat), IsObj T w p l k → o + bs.length ≤ l.length → IsObj T (w.setCells p o (vals bs)) p (lay l o bs) k
  | [], w, l, o, h, _ => by rw [lay_nil]; exact h
  | u :: r, w, l, o, h, hle => by
    have hlt : o < l.length := by simp at hle; omega
    rw [← lay_cons l o u r hlt]
    exact IsObj.setCells r (o + 1) (h.setByte o u hlt) (by simp at hle ⊢; omega)
theorem Apart.setCells {p : Nat} : ∀ (vs : List Value) {a w : World} (o : Nat), Apart p a w → Apart p a (w.setCells p o vs)
  | [], _, _, _, h => h
  | v :: r, _, _, o, h => Apart.setCells r (o + 1) (h.set_ o v)

theorem info8 : (Try.prog.info? 5).map (·.size) = some 1 := by kernel_rfl

end Go.Proofs.Ytkkeemjgeeillaa.Fld
